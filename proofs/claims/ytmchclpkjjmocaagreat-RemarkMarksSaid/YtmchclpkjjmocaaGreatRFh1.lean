/-
  The document's Read of layer 10.
-/
import Derived.Test.YtmchclpkjjmocaaGreatFh1
import Derived.Test.YtmchclpkjjmocaaGreatRegAlloc
namespace Go.Proofs.YtmchclpkjjmocaaGreat
open Go.RowKit
set_option linter.unusedVariables false

theorem rfhnumber_any (A : Option Addr) (n c k : Nat) (bs : List Nat) (w : World) (hk : k + 2 ≤ n) (hn2 : n ≤ 140737488355328) (hc : n ≤ c) (hR : Row w A n bs) :
    Calls Tryz.prog 43 #[.slice A n c, .int .i64 k, .int .i64 2] w fun e w' => e = .returned (.int .i64 (fhw bs k : Nat)) ∧ w = w' := by
  have C := Lib.hid (fun w hR => rget_ok A n c k 2 bs w (by omega) hc (by decide) (by decide) hk hR)
  rw [be_two bs k (by rw [hR.1]; exact hk)] at C
  have hx := fhw_lt hR.byte k
  have E : bs.getD k 0 * 256 + bs.getD (k + 1) 0 = fhw bs k := rfl
  rw [E] at C
  clear E
  generalize fhw bs k = x at *
  have HR := Lib.hid hR
  clear hR hk hn2 hc
  go_enter Tryz.func43, Tryz.ntmps43
  go_wp2_with fail
  refine (C.out _ HR.out).mono ?_
  rintro e w' ⟨rfl, rfl⟩
  go_wp2_with fail
  go_ret
  exact ⟨rfl, rfl⟩
theorem four_new (o : Oper) (ho : o.op = .alloc 63) (ev : Operand → Value) (W : World) : (execOp ev o).run Tryz.prog W = .ok (.value (.pointer (some ⟨W.heap.size, 0, none⟩))) (W.alloc (.cells fhz.toArray 63)) := by
  simp [execOp, ho, go_sem]
  rfl
/-- The numbers of a header, ahead of its addresses. -/
def fhg (bs : List Nat) : List Value :=
  [.int .i64 (bs.getD 0 0 % 16 : Nat), .int .i64 (bs.getD 1 0 : Nat), .int .i64 (fhw bs 2 : Nat), .int .i64 (fhw bs 4 : Nat), .int .i64 (bs.getD 6 0 / 32 : Nat), .int .i64 (fhw bs 6 % 8192 : Nat), .int .i64 (bs.getD 8 0 : Nat), .int .i64 (bs.getD 9 0 : Nat), .int .i64 (fhw bs 10 : Nat),
    .int .u8 0, .int .u8 0, .int .u8 0, .int .u8 0, .int .u8 0, .int .u8 0, .int .u8 0, .int .u8 0]
/-- With so many bytes of each address. -/
def fhc (bs : List Nat) : Nat → List Value
  | 0 => fhg bs
  | k + 1 => ((fhc bs k).set (9 + k) (.int .u8 (bs.getD (12 + k) 0 : Nat))).set (13 + k) (.int .u8 (bs.getD (16 + k) 0 : Nat))
theorem fhc_four (bs : List Nat) : fhc bs 4 = fhf bs := rfl
theorem fhc_len (bs : List Nat) : ∀ k, (fhc bs k).length = 17
  | 0 => rfl
  | k + 1 => by unfold fhc; rw [List.length_set, List.length_set]; exact fhc_len bs k
set_option maxRecDepth 10000 in
set_option maxHeartbeats 6400000 in
theorem rfhread_any (A : Option Addr) (n c : Nat) (bs : List Nat) (w : World) (hn2 : n ≤ 140737488355328) (hc : n ≤ c) (hR : Row w A n bs) :
    Calls Tryz.prog 28 #[.slice A n c] w (ReadIs n bs w) := by
  obtain ⟨Z, hZ⟩ : ∃ Z, Z = fhz := ⟨_, rfl⟩
  obtain ⟨V, e0⟩ : ∃ V, V = w.alloc (.cells Z.toArray 63) := ⟨_, rfl⟩
  have hZl : Z.length = 17 := by rw [hZ]; rfl
  have hZo : ∀ v ∈ Z, v.oneCell' = true := by rw [hZ]; exact fhz_one
  have hlit : (#[.int .i64 0, .int .i64 0, .int .i64 0, .int .i64 0, .int .i64 0, .int .i64 0, .int .i64 0, .int .i64 0, .int .i64 0, .int .u8 0, .int .u8 0, .int .u8 0, .int .u8 0, .int .u8 0, .int .u8 0, .int .u8 0, .int .u8 0] : Array Value) = Z.toArray := by rw [hZ]; rfl
  have HA : Hid (ArrV 63 V w.heap.size Z) := by show ArrV _ _ _ _; rw [e0]; exact ArrV.new _ w Z
  have HB : Hid (Below w.heap.size w V) := by show Below _ _ _; rw [e0]; exact (Below.refl _ _).alloc (Nat.le_refl _) _
  have HE0 := Lib.hid e0
  have HST : Hid (Below w.heap.size w (V.setCells w.heap.size 0 Z)) := setCells_below _ (Nat.le_refl _) _ _ _ HB.out
  have HLD := Lib.hid ((HA.out.store Z rfl).loadVar tyfour hZl)
  by_cases h0 : n = 0
  · have HF : Hid (fhval n bs = Z ∧ fhdef n bs = 1) := by
      have e : fhdef n bs = 1 := by unfold fhdef; rw [if_pos h0]
      exact ⟨by unfold fhval; rw [e, if_neg (by decide), hZ], e⟩
    subst h0
    clear hZ hR hn2 hc
    go_enter Tryz.func28, Tryz.ntmps28
    go_upto_region 1 with fail
    rw [← HE0.out]
    clear e0
    go_wp2_with (refine wpList_store_v rfl 63 (.tmp 2) (.tmp 9) rfl _ rfl tyfour HA.out hZl Z hZl hZo rfl ?_)
    exact bodyPost_ret (v := .tuple #[.agg Z.toArray, .int .i64 1]) (res_cell_tmp Tryz.results28 rfl HLD.out rfl) rfl ⟨by rw [HF.out.1, HF.out.2]; rfl, HST.out⟩
  have hRV := hR.below HB.out
  obtain ⟨b, o, rfl, hb, hcell⟩ := hRV.addr (by omega)
  have c0 := hcell 0 (by omega)
  simp only [Nat.add_zero] at c0
  have hby := hR.byte
  have hx := hR.byte 0
  have HRV := Lib.hid hRV
  have HBV := Lib.hid hb
  have hFH : Hid (fhval n bs = if fhdef n bs = 0 then fhf bs else fhz) := rfl
  have HD : Hid (fhdef n bs = if n = 0 then 1 else if bs.getD 0 0 / 16 ≠ 4 then 2 else if n < 20 then 3 else if bs.getD 0 0 % 16 < 5 then 4 else if n < 4 * (bs.getD 0 0 % 16) then 5 else 0) := rfl
  obtain ⟨x, hxx⟩ : ∃ x, x = bs.getD 0 0 := ⟨_, rfl⟩
  rw [← hxx] at c0 hx HD
  obtain ⟨y, hy⟩ : ∃ y, y = x % 16 := ⟨_, rfl⟩
  obtain ⟨v, hv⟩ : ∃ v, v = x / 16 := ⟨_, rfl⟩
  rw [← hy] at HD
  rw [← hv] at HD
  have e16 : (x : Int) / 16 = (v : Int) := by omega
  have n0 : (0 : Int) < (n : Int) := by omega
  have n0b : ((n : Int) == 0) = false := by simp; omega
  have NE := Lib.hid h0
  have vl : v < 16 := by omega
  by_cases h4 : v ≠ 4
  · have HF : Hid (fhval n bs = Z ∧ fhdef n bs = 2) := by
      have e : fhdef n bs = 2 := by rw [HD.out]; rw [if_neg NE.out, if_pos h4]
      exact ⟨by rw [hFH.out, e, if_neg (by decide), hZ], e⟩
    have vb : ((v : Int) != 4) = true := by simp; omega
    clear hZ h4 HD hFH hx hn2 hc hby hxx hy hv hcell hRV hR hb h0
    go_enter Tryz.func28, Tryz.ntmps28
    go_upto_region 1 with fail
    rw [← HE0.out]
    clear e0
    go_wp2_with (refine wpList_store_v rfl 63 (.tmp 2) (.tmp 15) rfl _ rfl tyfour HA.out hZl Z hZl hZo rfl ?_)
    exact bodyPost_ret (v := .tuple #[.agg Z.toArray, .int .i64 2]) (res_cell_tmp Tryz.results28 rfl HLD.out rfl) rfl ⟨by rw [HF.out.1, HF.out.2]; rfl, HST.out⟩
  have h4e : v = 4 := by omega
  have vb : ((v : Int) != 4) = false := by simp; omega
  by_cases h20 : n < 20
  · have HF : Hid (fhval n bs = Z ∧ fhdef n bs = 3) := by
      have e : fhdef n bs = 3 := by rw [HD.out]; rw [if_neg NE.out, if_neg h4, if_pos h20]
      exact ⟨by rw [hFH.out, e, if_neg (by decide), hZ], e⟩
    have nI : (n : Int) < 20 := by omega
    clear hZ h4 h4e HD hFH hx hn2 hc h20 hby hxx hy hv hcell hRV hR hb h0
    go_enter Tryz.func28, Tryz.ntmps28
    go_upto_region 1 with fail
    rw [← HE0.out]
    clear e0
    go_wp2_with (refine wpList_store_v rfl 63 (.tmp 2) (.tmp 19) rfl _ rfl tyfour HA.out hZl Z hZl hZo rfl ?_)
    exact bodyPost_ret (v := .tuple #[.agg Z.toArray, .int .i64 3]) (res_cell_tmp Tryz.results28 rfl HLD.out rfl) rfl ⟨by rw [HF.out.1, HF.out.2]; rfl, HST.out⟩
  have nI : (20 : Int) ≤ (n : Int) := by omega
  have W2 : Hid (∀ w, Row w (some ⟨b, o, none⟩) n bs → Calls Tryz.prog 43 #[.slice (some ⟨b, o, none⟩) n c, .int .i64 2, .int .i64 2] w fun e w' => e = .returned (.int .i64 (fhw bs 2 : Nat)) ∧ w = w') := fun w hR => rfhnumber_any _ n c 2 bs w (by omega) hn2 hc hR
  have W4 : Hid (∀ w, Row w (some ⟨b, o, none⟩) n bs → Calls Tryz.prog 43 #[.slice (some ⟨b, o, none⟩) n c, .int .i64 4, .int .i64 2] w fun e w' => e = .returned (.int .i64 (fhw bs 4 : Nat)) ∧ w = w') := fun w hR => rfhnumber_any _ n c 4 bs w (by omega) hn2 hc hR
  have W6 : Hid (∀ w, Row w (some ⟨b, o, none⟩) n bs → Calls Tryz.prog 43 #[.slice (some ⟨b, o, none⟩) n c, .int .i64 6, .int .i64 2] w fun e w' => e = .returned (.int .i64 (fhw bs 6 : Nat)) ∧ w = w') := fun w hR => rfhnumber_any _ n c 6 bs w (by omega) hn2 hc hR
  have W10 : Hid (∀ w, Row w (some ⟨b, o, none⟩) n bs → Calls Tryz.prog 43 #[.slice (some ⟨b, o, none⟩) n c, .int .i64 10, .int .i64 2] w fun e w' => e = .returned (.int .i64 (fhw bs 10 : Nat)) ∧ w = w') := fun w hR => rfhnumber_any _ n c 10 bs w (by omega) hn2 hc hR
  obtain ⟨G, hG⟩ : ∃ G, G = fhg bs := ⟨_, rfl⟩
  have hGl : G.length = 17 := by rw [hG]; rfl
  have hGo : ∀ v ∈ G, v.oneCell' = true := by rw [hG]; unfold fhg; simp [Value.oneCell']
  have hG0 : Hid (G[0]? = some (.int .i64 (y : Nat))) := by show G[0]? = _; rw [hG, hy, hxx]; rfl
  have hGC : Hid (G = fhc bs 0) := hG
  have y2 := fhw_lt hby 2
  have y4 := fhw_lt hby 4
  have y6 := fhw_lt hby 6
  have y10 := fhw_lt hby 10
  have b1 := hby 1
  have b6 := hby 6
  have b8 := hby 8
  have b9 := hby 9
  have d1 := hcell 1 (by omega)
  have d6 := hcell 6 (by omega)
  have d8 := hcell 8 (by omega)
  have d9 := hcell 9 (by omega)
  have hE : G = [.int .i64 (bs.getD 0 0 % 16 : Nat), .int .i64 (bs.getD 1 0 : Nat), .int .i64 (fhw bs 2 : Nat), .int .i64 (fhw bs 4 : Nat), .int .i64 (bs.getD 6 0 / 32 : Nat), .int .i64 (fhw bs 6 % 8192 : Nat), .int .i64 (bs.getD 8 0 : Nat), .int .i64 (bs.getD 9 0 : Nat), .int .i64 (fhw bs 10 : Nat),
    .int .u8 0, .int .u8 0, .int .u8 0, .int .u8 0, .int .u8 0, .int .u8 0, .int .u8 0, .int .u8 0] := hG
  rw [← hxx, ← hy] at hE
  have HCL : Hid (∀ W, Below w.heap.size w W → ∀ i, i < 20 → W.cell? ⟨b, o + i, none⟩ = some (.int .u8 (bs.getD i 0 : Nat)) ∧ bs.getD i 0 < 256) := fun W hW i hi => by
    have h := (hR.below hW).addr (by omega)
    obtain ⟨b2, o2, e2, _, h2⟩ := h
    cases e2
    exact ⟨h2 i (by omega), hby i⟩
  have HRw := Lib.hid hR
  generalize bs.getD 1 0 = x1 at *
  generalize bs.getD 6 0 = x6 at *
  generalize bs.getD 8 0 = x8 at *
  generalize bs.getD 9 0 = x9 at *
  generalize fhw bs 2 = v2 at *
  generalize fhw bs 4 = v4 at *
  generalize fhw bs 6 = v6 at *
  generalize fhw bs 10 = v10 at *
  obtain ⟨f6, hf6⟩ : ∃ y, y = x6 / 32 := ⟨_, rfl⟩
  obtain ⟨o6, ho6⟩ : ∃ y, y = v6 % 8192 := ⟨_, rfl⟩
  rw [← hf6, ← ho6] at hE
  have hlit2 : (#[.int .i64 (y : Nat), .int .i64 (x1 : Nat), .int .i64 (v2 : Nat), .int .i64 (v4 : Nat), .int .i64 (f6 : Nat), .int .i64 (o6 : Nat), .int .i64 (x8 : Nat), .int .i64 (x9 : Nat), .int .i64 (v10 : Nat), .int .u8 0, .int .u8 0, .int .u8 0, .int .u8 0, .int .u8 0, .int .u8 0, .int .u8 0, .int .u8 0] : Array Value) = G.toArray := by rw [hE]
  have q0 : (x : Int).tmod 16 = (y : Int) := by rw [Int.tmod_eq_emod_of_nonneg (by omega)]; omega
  have q6 : (x6 : Int) / 32 = (f6 : Int) := by omega
  have qv : (v6 : Int).tmod 8192 = (o6 : Int) := by rw [Int.tmod_eq_emod_of_nonneg (by omega)]; omega
  have yl : y < 16 := by omega
  have fl : f6 < 8 := by omega
  have ol : o6 < 8192 := by omega
  have i1 : (1 : Int) < (n : Int) := by omega
  have i6 : (6 : Int) < (n : Int) := by omega
  have i8 : (8 : Int) < (n : Int) := by omega
  have i9 : (9 : Int) < (n : Int) := by omega
  have xl : x < 256 := hx
  have HY := Lib.hid hy
  have HRV2 : Hid (Row V.drew (some ⟨b, o, none⟩) n bs) := HRV.out
  have HZF := Lib.hid hZ
  have h4N : Hid (¬ v ≠ 4) := h4
  have h20N : Hid (¬ n < 20) := h20
  clear hy hv hcell hRV hR hb h0 hG hE hf6 ho6 hZ hxx hby h4 h4e h20
  go_enter Tryz.func28, Tryz.ntmps28
  go_upto_region 1 with fail
  rw [← HE0.out]
  clear e0
  go_upto_region 7 with fail
  have n0N : 0 < n := by omega
  have n1N : 1 < n := by omega
  have n6N : 6 < n := by omega
  have n8N : 8 < n := by omega
  have n9N : 9 < n := by omega
  have u0 : IntKind.i64.wrap (y : Int) = (y : Int) := IntWalk.i64_in _ (by omega)
  have u00 : IntKind.i64.wrap (x : Int) = (x : Int) := IntWalk.i64_in _ (by omega)
  have u1 : IntKind.i64.wrap (x1 : Int) = (x1 : Int) := IntWalk.i64_in _ (by omega)
  have u2 : IntKind.i64.wrap (x6 : Int) = (x6 : Int) := IntWalk.i64_in _ (by omega)
  have u22 : IntKind.i64.wrap (f6 : Int) = (f6 : Int) := IntWalk.i64_in _ (by omega)
  have u3 : IntKind.i64.wrap (x8 : Int) = (x8 : Int) := IntWalk.i64_in _ (by omega)
  have u4 : IntKind.i64.wrap (x9 : Int) = (x9 : Int) := IntWalk.i64_in _ (by omega)
  have u5 : IntKind.i64.wrap (o6 : Int) = (o6 : Int) := IntWalk.i64_in _ (by omega)
  obtain ⟨W1, eW1⟩ : ∃ W1, W1 = (V.alloc (.cells Z.toArray 63)).drew := ⟨_, rfl⟩
  have hB1 : Below V.heap.size V W1 := by rw [eW1]; exact (((Below.refl V.heap.size V).alloc (Nat.le_refl _) _)).drew
  have HR1 : Hid (Row W1 (some ⟨b, o, none⟩) n bs) := HRV.out.below hB1
  have HA1 : Hid (ArrV 63 W1 V.heap.size Z) := by show ArrV _ _ _ _; rw [eW1]; exact (ArrV.new _ V Z).drew
  have HA0 : Hid (ArrV 63 W1 w.heap.size Z) := HA.out.below hB1
  have HB1 : Hid (Below w.heap.size w W1) := below_both HB.out hB1
  have k0 : V.drew.cell? ⟨b, o, none⟩ = some (.int .u8 (x : Nat)) := c0
  have k1 : V.drew.cell? ⟨b, o + 1, none⟩ = some (.int .u8 (x1 : Nat)) := d1
  have k6 : V.drew.cell? ⟨b, o + 6, none⟩ = some (.int .u8 (x6 : Nat)) := d6
  have k8 : V.drew.cell? ⟨b, o + 8, none⟩ = some (.int .u8 (x8 : Nat)) := d8
  have k9 : V.drew.cell? ⟨b, o + 9, none⟩ = some (.int .u8 (x9 : Nat)) := d9
  have hbV : b < V.heap.size := HBV.out
  have m0 : W1.cell? ⟨b, o, none⟩ = some (.int .u8 (x : Nat)) := (hB1.cell (p := ⟨b, o, none⟩) hbV).trans c0
  have m1 : W1.cell? ⟨b, o + 1, none⟩ = some (.int .u8 (x1 : Nat)) := (hB1.cell (p := ⟨b, o + 1, none⟩) hbV).trans d1
  have m6 : W1.cell? ⟨b, o + 6, none⟩ = some (.int .u8 (x6 : Nat)) := (hB1.cell (p := ⟨b, o + 6, none⟩) hbV).trans d6
  have m8 : W1.cell? ⟨b, o + 8, none⟩ = some (.int .u8 (x8 : Nat)) := (hB1.cell (p := ⟨b, o + 8, none⟩) hbV).trans d8
  have m9 : W1.cell? ⟨b, o + 9, none⟩ = some (.int .u8 (x9 : Nat)) := (hB1.cell (p := ⟨b, o + 9, none⟩) hbV).trans d9
  have HW1 := Lib.hid eW1
  have HLIT := Lib.hid hlit
  clear hlit eW1 hB1 c0 d1 d6 d8 d9 hbV
  refine wp_region_still_alloc (aF := ?aF) (w1 := W1) (v := .pointer (some ⟨V.heap.size, 0, none⟩)) 32 _ (by kernel_rfl) (by kernel_rfl) rfl (by kernel_rfl) ?h0 ?h1 ?hw ?hal ?hr
  case h0 =>
    simp only [List.take_succ_cons, List.take_zero]
    repeat still_step
    still_call ((W2.out _ HRV2.out).mono fun _ _ h => ⟨h.1, h.2.symm⟩)
    repeat still_step
    still_call ((W4.out _ HRV2.out).mono fun _ _ h => ⟨h.1, h.2.symm⟩)
    repeat still_step
    still_call ((W6.out _ HRV2.out).mono fun _ _ h => ⟨h.1, h.2.symm⟩)
    repeat still_step
    still_call ((W10.out _ HRV2.out).mono fun _ _ h => ⟨h.1, h.2.symm⟩)
    repeat still_step
    refine wpStill_nil ?_
    exact rfl
  case h1 =>
    simp only [List.take_succ_cons, List.take_zero]
    repeat still_step
    still_call ((W2.out _ HR1.out).mono fun _ _ h => ⟨h.1, h.2.symm⟩)
    repeat still_step
    still_call ((W4.out _ HR1.out).mono fun _ _ h => ⟨h.1, h.2.symm⟩)
    repeat still_step
    still_call ((W6.out _ HR1.out).mono fun _ _ h => ⟨h.1, h.2.symm⟩)
    repeat still_step
    still_call ((W10.out _ HR1.out).mono fun _ _ h => ⟨h.1, h.2.symm⟩)
    repeat still_step
    refine wpStill_nil ?_
    exact rfl
  case hw => rfl
  case hal =>
    refine (four_new _ rfl _ _).trans ?_
    rw [HW1.out, HZF.out]
    rfl
  case hr =>
    simp only [List.drop_succ_cons, List.drop_zero]
    have hgne : w.heap.size ≠ V.heap.size := by have := HA.out.lt; omega
    have hgle : w.heap.size ≤ V.heap.size := HB.out.size
    have HF2 : Hid (ArrV 63 (W1.setCells V.heap.size 0 G) V.heap.size G) := HA1.out.store G (by rw [hGl, hZl])
    have HA2 : Hid (ArrV 63 (W1.setCells V.heap.size 0 G) w.heap.size Z) := HA0.out.apart G hgne
    have HB2 : Hid (Below w.heap.size w (W1.setCells V.heap.size 0 G)) := setCells_below _ hgle _ _ _ HB1.out
    clear k0 k1 k6 k8 k9 m0 m1 m6 m8 m9 u0 u00 u1 u2 u22 u3 u4 u5
    have HG9 := Lib.hid (And.intro hgne hgle)
    clear hgne hgle
    have z0 : (W1.setCells V.heap.size 0 G).cell? ⟨V.heap.size, 0, none⟩ = some (.int .i64 (y : Nat)) := (HF2.out.get 0).trans hG0.out
    have HLD2 := Lib.hid ((HA2.out.store Z rfl).loadVar tyfour hZl)
    have HST2 : Hid (Below w.heap.size w ((W1.setCells V.heap.size 0 G).setCells w.heap.size 0 Z)) := setCells_below _ (Nat.le_refl _) _ _ _ HB2.out
    have hlit := HLIT.out
    by_cases h5 : y < 5
    · have HF : Hid (fhval n bs = Z ∧ fhdef n bs = 4) := by
        have e : fhdef n bs = 4 := by rw [HD.out]; rw [if_neg NE.out, if_neg h4N.out, if_neg h20N.out, if_pos h5]
        exact ⟨by rw [hFH.out, e, if_neg (by decide), HZF.out], e⟩
      have yI : (y : Int) < 5 := by omega
      clear h5
      go_wp2_with (first | refine wpList_store_v rfl 63 (.tmp 4) (.tmp 51) rfl _ rfl tyfour HA1.out hZl G hGl hGo rfl ?_ | refine wpList_store_v rfl 63 (.tmp 2) (.tmp 55) rfl _ rfl tyfour HA2.out hZl Z hZl hZo rfl ?_)
      exact bodyPost_ret (v := .tuple #[.agg Z.toArray, .int .i64 4]) (res_cell_tmp Tryz.results28 rfl HLD2.out rfl) rfl ⟨by rw [HF.out.1, HF.out.2]; rfl, HST2.out⟩
    have yI : (5 : Int) ≤ (y : Int) := by omega
    by_cases h6 : n < 4 * y
    · have HF : Hid (fhval n bs = Z ∧ fhdef n bs = 5) := by
        have e : fhdef n bs = 5 := by rw [HD.out]; rw [if_neg NE.out, if_neg h4N.out, if_neg h20N.out, if_neg h5, if_pos h6]
        exact ⟨by rw [hFH.out, e, if_neg (by decide), HZF.out], e⟩
      have mI : (n : Int) < 4 * (y : Int) := by omega
      clear h5 h6
      go_wp2_with (first | refine wpList_store_v rfl 63 (.tmp 4) (.tmp 51) rfl _ rfl tyfour HA1.out hZl G hGl hGo rfl ?_ | refine wpList_store_v rfl 63 (.tmp 2) (.tmp 62) rfl _ rfl tyfour HA2.out hZl Z hZl hZo rfl ?_)
      exact bodyPost_ret (v := .tuple #[.agg Z.toArray, .int .i64 5]) (res_cell_tmp Tryz.results28 rfl HLD2.out rfl) rfl ⟨by rw [HF.out.1, HF.out.2]; rfl, HST2.out⟩
    have mI : 4 * (y : Int) ≤ (n : Int) := by omega
    have HF : Hid (fhval n bs = fhc bs 4 ∧ fhdef n bs = 0) := by
      have e : fhdef n bs = 0 := by rw [HD.out]; rw [if_neg NE.out, if_neg h4N.out, if_neg h20N.out, if_neg h5, if_neg h6]
      exact ⟨by rw [hFH.out, e, if_pos rfl]; rfl, e⟩
    clear h5 h6 hlit hlit2 HLIT
    go_wp2_with (refine wpList_store_v rfl 63 (.tmp 4) (.tmp 51) rfl _ rfl tyfour HA1.out hZl G hGl hGo rfl ?_)
    have hFV : Hid (ArrV 63 (W1.setCells V.heap.size 0 G) V.heap.size (fhc bs 0)) := by show ArrV _ _ _ _; rw [← hGC.out]; exact HF2.out
    obtain ⟨W2, eW2⟩ : ∃ W2, W2 = W1.setCells V.heap.size 0 G := ⟨_, rfl⟩
    obtain ⟨g, hg⟩ : ∃ g, g = V.heap.size := ⟨_, rfl⟩
    rw [← eW2, ← hg] at hFV
    have HBG : Hid (b < g) := by show b < g; rw [hg]; exact HBV.out
    rw [← eW2] at HA2 HB2 ⊢
    rw [← hg] at HG9 ⊢
    clear eW2 hg HF2 z0 HLD2 HST2 HA1 HA0 HB1 HR1 HW1 hGC hGl hGo hG0 HA HB HE0 HST HLD
    go_loopw [5] (fun i W => ∃ k : Nat, k ≤ 4 ∧ i = .int .i64 k ∧ ArrV 63 W g (fhc bs k) ∧ ArrV 63 W w.heap.size Z ∧ Below w.heap.size w W) (fun i W => 4 - (intOf i).toNat)
    case atStart => exact ⟨0, by omega, rfl, hFV.out, HA2.out, HB2.out⟩
    case round =>
      clear hFV HA2 HB2
      obtain ⟨k, hk, rfl, hF, hA, hB⟩ := hrel
      have HF2 := Lib.hid hF
      have HA2 := Lib.hid hA
      have HB2 := Lib.hid hB
      by_cases hlt : k < 4
      · have c12 := (HCL.out wr hB (12 + k) (by omega)).1
        have c16 := (HCL.out wr hB (16 + k) (by omega)).1
        have HFN : Hid (fhc bs (k + 1) = ((fhc bs k).set (9 + k) (.int .u8 (bs.getD (12 + k) 0 : Nat))).set (13 + k) (.int .u8 (bs.getD (16 + k) 0 : Nat))) := rfl
        obtain ⟨p, hp⟩ : ∃ p, p = bs.getD (12 + k) 0 := ⟨_, rfl⟩
        obtain ⟨q, hq⟩ : ∃ q, q = bs.getD (16 + k) 0 := ⟨_, rfl⟩
        rw [← hp] at c12 HFN
        rw [← hq] at c16 HFN
        obtain ⟨u, hu⟩ : ∃ u, (fhc bs k)[9 + k]? = some u := ⟨_, List.getElem?_eq_getElem (by rw [fhc_len]; omega)⟩
        obtain ⟨v2, hv2⟩ : ∃ u, (fhc bs k)[13 + k]? = some u := ⟨_, List.getElem?_eq_getElem (by rw [fhc_len]; omega)⟩
        have t9 := (hF.get (9 + k)).trans hu
        have t13 := (hF.get (13 + k)).trans hv2
        have f9 := hF.frozen (9 + k)
        have f13 := hF.frozen (13 + k)
        have hbg : g ≠ b := fun e => by have h1 := hF.lt; have h2 := HBG.out; omega
        have hgb : b ≠ g := fun e => hbg e.symm
        have HREL : Hid (ArrV 63 (((wr.setCell ⟨g, 9 + k, none⟩ (.int .u8 (p : Nat))).setCell ⟨g, 13 + k, none⟩ (.int .u8 (q : Nat))).drew) g (fhc bs (k + 1)) ∧ ArrV 63 (((wr.setCell ⟨g, 9 + k, none⟩ (.int .u8 (p : Nat))).setCell ⟨g, 13 + k, none⟩ (.int .u8 (q : Nat))).drew) w.heap.size Z ∧
            Below w.heap.size w (((wr.setCell ⟨g, 9 + k, none⟩ (.int .u8 (p : Nat))).setCell ⟨g, 13 + k, none⟩ (.int .u8 (q : Nat))).drew)) := by
          refine ⟨?_, ?_, ?_⟩
          · rw [HFN.out]
            exact ((hF.set (9 + k) _).set (13 + k) _).drew
          · exact ((hA.other _ _ (Ne.symm HG9.out.1)).other _ _ (Ne.symm HG9.out.1)).drew
          · exact ((hB.setCell (p := ⟨g, 9 + k, none⟩) HG9.out.2 _).setCell (p := ⟨g, 13 + k, none⟩) HG9.out.2 _).drew
        clear hu hv2 hp hq hF hA hB hk
        have hk4 : k = 0 ∨ k = 1 ∨ k = 2 ∨ k = 3 := by omega
        clear hlt
        rcases hk4 with rfl | rfl | rfl | rfl
        all_goals
          simp only [Nat.reduceAdd, Nat.add_zero] at c12 c16 t9 t13 f9 f13 HREL
          have i12 : (12 : Int) < (n : Int) := by omega
          have i13 : (13 : Int) < (n : Int) := by omega
          have i14 : (14 : Int) < (n : Int) := by omega
          have i15 : (15 : Int) < (n : Int) := by omega
          have i16 : (16 : Int) < (n : Int) := by omega
          have i17 : (17 : Int) < (n : Int) := by omega
          have i18 : (18 : Int) < (n : Int) := by omega
          have i19 : (19 : Int) < (n : Int) := by omega
          go_upto_region 15 with fail
          go_region
          all_goals
            go_wp2_with fail
            go_roundw
            case rel => exact ⟨_, by decide, by go_num, HREL.out.1, HREL.out.2.1, HREL.out.2.2⟩
            case measure => simp [intOf]
      · obtain rfl : k = 4 := by omega
        have HLD2 := Lib.hid hA
        clear hF hA hB hk hlt
        have hXl : (fhc bs 4).length = 17 := fhc_len bs 4
        have hXo : ∀ v ∈ fhc bs 4, v.oneCell' = true := fhf_one bs
        go_upto_region 16 with fail
        obtain ⟨X, hX⟩ : ∃ X, X = fhc bs 4 := ⟨_, rfl⟩
        rw [← hX] at hXl hXo HF2 HF
        clear hX
        refine wp_region_lit ?_
        go_wp2_with (first | refine wpList_load_v rfl 63 (.tmp 4) rfl _ rfl tyfour HF2.out hXl ?_ | refine wpList_store_v rfl 63 (.tmp 2) (.tmp 83) rfl _ rfl tyfour HA2.out hZl X hXl hXo rfl ?_)
        exact bodyPost_ret (v := .tuple #[.agg X.toArray, .int .i64 0]) (res_cell_tmp Tryz.results28 rfl ((HA2.out.store X (by rw [hXl, hZl])).loadVar tyfour hXl) rfl) rfl ⟨by rw [HF.out.1, HF.out.2]; rfl, setCells_below _ (Nat.le_refl _) _ _ _ HB2.out⟩
end Go.Proofs.YtmchclpkjjmocaaGreat
