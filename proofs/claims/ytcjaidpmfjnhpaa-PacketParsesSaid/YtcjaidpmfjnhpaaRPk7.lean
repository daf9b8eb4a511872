/-
  The document's parts of layer 14, at a header of version 6 without a defect.
-/
import Derived.Test.YtcjaidpmfjnhpaaRPk0
import Derived.Test.YtcjaidpmfjnhpaaRSx2
import Derived.Test.YtcjaidpmfjnhpaaPut
namespace Go.Proofs.Ytcjaidpmfjnhpaa
open Go.RowKit
set_option linter.unusedVariables false
set_option maxRecDepth 8000

theorem allocwalk (W : World) : (Instr.alloc 104 true (.tuple #[])).run Try.prog W = .ok (.pointer (some ⟨W.heap.size, 0, none⟩)) (W.alloc (.cells walkZ.toArray 104)) := by
  unfold walkZ
  simp [go_sem]
theorem rsix_ints {p a n c s m : Nat} (hs : s = 40 + p) (hm : m = 40 + a) (h1 : a ≤ p) (h2 : s ≤ n) (h3 : n ≤ c) (h4 : n ≤ 140737488351232) : wrap64 (40 + (p : Int)) = (s : Int) ∧ wrap64 (40 + (a : Int)) = (m : Int) ∧ (0 : Int) ≤ (m : Int) ∧ (m : Int) ≤ (s : Int) ∧ (s : Int) ≤ (c : Int) ∧ (0 : Int) ≤ (s : Int) ∧ (40 : Int) ≤ (s : Int) ∧ IntKind.i64.wrap (40 + (p : Int)) = (s : Int) ∧ IntKind.i64.wrap (40 + (a : Int)) = (m : Int) ∧ s - 40 = p := by
  subst hs hm
  refine ⟨by unfold wrap64; omega, by unfold wrap64; omega, by omega, by omega, by omega, by omega, by omega, ?_, ?_, by omega⟩
  · rw [IntWalk.i64_in _ (by omega)]; omega
  · rw [IntWalk.i64_in _ (by omega)]; omega
set_option maxHeartbeats 6400000 in
theorem rparts_six (A : Option Addr) (n c : Nat) (bs : List Nat) (w : World) (hn2 : n ≤ 140737488351232) (hc : n ≤ c) (hR : Row w A n bs) (h6 : bs.getD 0 0 / 16 = 6) (hgood : sxall n bs = []) :
    Calls Try.prog 39 #[.slice A n c] w fun e w' => Below w.heap.size w w' ∧ e = .returned (.tuple #[.agg (hdCells (pk6 bs) false 0 0).toArray, pkPv A c (pk6 bs), .slice none 0 0]) := by
  have hn3 : n ≤ 140737488355328 := Nat.le_trans hn2 (by decide)
  obtain ⟨Z, hZ⟩ : ∃ Z, Z = hdCells RZ false 0 0 := ⟨_, rfl⟩
  obtain ⟨hZl, hZo⟩ := hdCells_all rz_ok
  have hlit := hd_lit
  obtain ⟨V, e0⟩ : ∃ V, V = w.alloc (.cells Z.toArray 25) := ⟨_, rfl⟩
  rw [← hZ] at hZl hZo hlit
  obtain ⟨g2, hg2⟩ : ∃ g, g = w.heap.size := ⟨_, rfl⟩
  have HG2 := Lib.hid hg2
  have K0 : Hid (KV w [(25, g2, Z)] V) := by show KV _ _ _; rw [e0, hg2]; exact KV.low (Below.refl _ _) _ _
  obtain ⟨d0, h40, hrest, hrl, hdf⟩ := sxall_nil hR.1 hgood
  have n0 : (0 : Int) < (n : Int) := by omega
  have n0b : ((n : Int) == 0) = false := beq_false_of_ne (by omega)
  have hby := hR.byte
  have hlen := hR.1
  have hbb := hR.2.1
  obtain ⟨b, o, rfl, hb, hcell⟩ := hR.addr (by omega)
  have c0 := (K0.out.bel.cell (p := ⟨b, o, none⟩) hb).trans (hcell 0 (by omega))
  have HR := Lib.hid hR
  have CH := Lib.hid (fun w (hR : Row w (some ⟨b, o, none⟩) n bs) => rsxall_any (some ⟨b, o, none⟩) n c bs w hn3 hc hR)
  unfold SxAllIs at CH
  have CH1 : Hid (∀ W, Row W (some ⟨b, o, none⟩) n bs → Calls Try.prog 55 #[.slice (some ⟨b, o, none⟩) n c] W fun e w' => ∃ A9 c9, e = .returned (.slice A9 0 c9) ∧ Below W.heap.size W w') := fun W hW => (CH.out W hW).mono fun e w' h => by
    obtain ⟨v, rfl, hd, hb⟩ := h
    obtain ⟨A9, c9, rfl, _, _⟩ := hd
    rw [hgood]
    exact ⟨A9, c9, rfl, hb⟩
  have CR := Lib.hid (fun w (hR : Row w (some ⟨b, o, none⟩) n bs) => rsxread_any (some ⟨b, o, none⟩) n c bs w hn3 hc hR)
  unfold SxReadIs at CR
  have hval : sxval n bs = sxF bs := by unfold sxval; rw [if_pos d0]
  rw [hval, d0] at CR
  obtain ⟨PA, hPA⟩ : ∃ PA : Option Addr, PA = if c = 40 then some ⟨b, o, none⟩ else some ⟨b, o + 40, none⟩ := ⟨_, rfl⟩
  have hrow : ∀ W, Row W (some ⟨b, o, none⟩) n bs → Row W PA (sxPay bs) (pkRest bs) := fun W hW => by
    rw [hPA]
    by_cases hca : c = 40
    · rw [if_pos hca]
      have h0 : sxPay bs = 0 := by omega
      have h1 : pkRest bs = [] := by unfold pkRest; rw [h0, List.take_zero]
      rw [h0, h1]
      exact Row.nil _ _
    · rw [if_neg hca]
      exact hW.part 40 (sxPay bs) (by omega)
  have CG : Hid (∀ W, Row W (some ⟨b, o, none⟩) n bs → Calls Try.prog 57 #[.int .i64 (sxNext bs : Nat), .slice PA (sxPay bs) (c - 40)] W fun e w' => e = .returned (.tuple #[.agg (pkTour bs).walk.toArray, .slice none 0 0]) ∧ Below W.heap.size W w') := fun W hW => by
    have h := rexgo_nil (sxNext bs : Nat) PA (sxPay bs) (c - 40) (pkRest bs) W (by omega) (by omega) (hrow W hW)
    have e := (walkS_walkF (sxPay bs) (pkRest bs) 9 (Tour.start ((sxNext bs : Nat) : Int)) [] [] rfl).1
    rw [← e] at h
    have e2 : (walkF (sxPay bs) (pkRest bs) 9 (Tour.start ((sxNext bs : Nat) : Int)) []).1 = pkTour bs := by unfold pkTour; rw [hrl]
    rw [e2] at h
    refine h.mono fun e w' h => ?_
    obtain ⟨v, h1, _, h3, h4⟩ := h
    rw [h4 hdf] at h1
    refine ⟨?_, h3⟩
    rw [h1]
    unfold Tour.told
    rw [if_pos hdf]
  obtain ⟨ok, _⟩ := walkF_ok (k := ((sxNext bs : Nat) : Int)) (n := (pkRest bs).length) (bs := pkRest bs) 9 (Tour.start ((sxNext bs : Nat) : Int)) [] (start_ok _ _) rfl rfl
  have hat : (pkTour bs).at_ ≤ sxPay bs := by rw [← hrl]; exact ok.at_
  have hF3 : (sxF bs)[3]? = some (.int .i64 (sxNext bs : Nat)) := rfl
  have hF2 : (sxF bs)[2]? = some (.int .i64 (sxPay bs : Nat)) := rfl
  have hFS : Hid (∀ (j : Nat) v, (bcells ((bs.drop 8).take 16))[j]? = some v → (sxF bs)[5 + j]? = some v) := fun j v h => by
    unfold sxF
    have hj := (List.getElem?_eq_some_iff.1 h).1
    rw [List.append_assoc, List.getElem?_append_right (by show 5 ≤ 5 + j; omega), show 5 + j - (sxNums (be (bs.take 8))).length = j by show 5 + j - 5 = j; omega, List.getElem?_append_left hj]
    exact h
  have hsl : (bcells ((bs.drop 8).take 16)).length = 16 := by rw [bcells_length, List.length_take, List.length_drop]; omega
  have hdl : (bcells ((bs.drop 24).take 16)).length = 16 := by rw [bcells_length, List.length_take, List.length_drop]; omega
  have hFT : Hid (∀ (j : Nat) v, (bcells ((bs.drop 24).take 16))[j]? = some v → (sxF bs)[21 + j]? = some v) := fun j v h => by
    unfold sxF
    have hj := (List.getElem?_eq_some_iff.1 h).1
    have e5 : (sxNums (be (bs.take 8))).length = 5 := rfl
    rw [List.getElem?_append_right (by rw [List.length_append, hsl, e5]; omega), List.length_append, hsl, e5, show 21 + j - (5 + 16) = j by omega]
    exact h
  have hFl : (sxF bs).length = 37 := by
    unfold sxF
    rw [List.length_append, List.length_append, hsl, hdl]
    rfl
  have hFo : ∀ v ∈ sxF bs, v.oneCell' = true := by
    intro v hv
    unfold sxF at hv
    rcases List.mem_append.1 hv with hv | hv
    · rcases List.mem_append.1 hv with hv | hv
      · unfold sxNums at hv
        simp at hv
        rcases hv with rfl | rfl | rfl | rfl | rfl <;> rfl
      · exact bcells_one _ v hv
    · exact bcells_one _ v hv
  have hSo := bcells_one ((bs.drop 8).take 16)
  have hTo := bcells_one ((bs.drop 24).take 16)
  have hY : hdCells (pk6 bs) false 0 0 = .int .i64 6 :: (bcells ((bs.drop 8).take 16) ++ (bcells ((bs.drop 24).take 16) ++ [.int .i64 (pkTour bs).proto, .int .i64 (40 + sxPay bs : Nat), .int .i64 (40 + (pkTour bs).at_ : Nat), .int .i64 ((pkTour bs).frag : Nat), .bool false, .int .i64 0, .int .i64 0])) := rfl
  have hpv : pkPv (some ⟨b, o, none⟩) c (pk6 bs) = .slice (if c = 40 + (pkTour bs).at_ then some ⟨b, o, none⟩ else (some (⟨b, o, none⟩ : Addr)).map (·.add (40 + (pkTour bs).at_))) (40 + sxPay bs - (40 + (pkTour bs).at_)) (c - (40 + (pkTour bs).at_)) := rfl
  rw [hpv]
  have hwl : (pkTour bs).walk = [.int .i64 (pkTour bs).proto, .int .i64 ((pkTour bs).at_ : Nat), .int .i64 ((pkTour bs).frag : Nat), .int .i64 ((pkTour bs).off : Nat), .int .i64 ((pkTour bs).count : Nat)] := rfl
  rw [hwl] at CG
  obtain ⟨F, hF⟩ : ∃ F, F = sxF bs := ⟨_, rfl⟩
  obtain ⟨S, hS⟩ : ∃ S, S = bcells ((bs.drop 8).take 16) := ⟨_, rfl⟩
  obtain ⟨T, hT⟩ : ∃ T, T = bcells ((bs.drop 24).take 16) := ⟨_, rfl⟩
  obtain ⟨p, hp⟩ : ∃ p, p = sxPay bs := ⟨_, rfl⟩
  obtain ⟨nx, hnx⟩ : ∃ x, x = sxNext bs := ⟨_, rfl⟩
  obtain ⟨pr, hpr⟩ : ∃ x, x = (pkTour bs).proto := ⟨_, rfl⟩
  obtain ⟨at0, hat0⟩ : ∃ x, x = (pkTour bs).at_ := ⟨_, rfl⟩
  obtain ⟨fg, hfg⟩ : ∃ x, x = (pkTour bs).frag := ⟨_, rfl⟩
  obtain ⟨of0, hof0⟩ : ∃ x, x = (pkTour bs).off := ⟨_, rfl⟩
  obtain ⟨ct, hct⟩ : ∃ x, x = (pkTour bs).count := ⟨_, rfl⟩
  obtain ⟨s0, hs0⟩ : ∃ s, s = 40 + p := ⟨_, rfl⟩
  obtain ⟨m, hm⟩ : ∃ m, m = 40 + at0 := ⟨_, rfl⟩
  rw [← hF] at CR hF2 hF3 hFS hFT hFl hFo
  rw [← hS] at hFS hsl hSo hY
  rw [← hT] at hFT hdl hTo hY
  rw [← hp] at CG hF2 hat h40 hY
  rw [← hp]
  rw [← hnx] at CG hF3
  rw [← hpr, ← hat0, ← hfg, ← hof0, ← hct] at CG
  rw [← hpr, ← hat0, ← hfg] at hY
  rw [← hat0] at hat
  rw [← hat0]
  rw [← hs0] at h40 hY
  rw [← hs0]
  rw [← hm] at hY
  rw [← hm]
  obtain ⟨i1, i2, i3, i4, i5, i6, i7, i8, i9, i10⟩ := rsix_ints hs0 hm hat h40 hc hn2
  have hm0 : m ≠ 0 := by rw [hm]; exact Nat.ne_of_gt (Nat.lt_of_lt_of_le (by decide) (Nat.le_add_right 40 _))
  obtain ⟨PV, hPV⟩ : ∃ P : Option Addr, P = if c = m then some ⟨b, o, none⟩ else (some (⟨b, o, none⟩ : Addr)).map (·.add m) := ⟨_, rfl⟩
  rw [← hPV]
  have HPV : Hid (PV = if c = m then some ⟨b, o, none⟩ else some ⟨b, o + m, none⟩) := by
    show PV = _
    rw [hPV]
    by_cases hcm : c = m <;> simp [hcm, Addr.add, hm0]
  clear hPV hm0
  obtain ⟨Y, hYY⟩ : ∃ Y, Y = hdCells (pk6 bs) false 0 0 := ⟨_, rfl⟩
  rw [← hYY] at hY
  rw [← hYY]
  have HPA := Lib.hid hPA
  have x16 : (bs.getD 0 0 : Int) / 16 = 6 := by omega
  obtain ⟨x, hxx⟩ : ∃ x, x = bs.getD 0 0 := ⟨_, rfl⟩
  rw [← hxx] at c0 x16
  obtain ⟨ZF, hZF⟩ : ∃ ZF, ZF = sxZ := ⟨_, rfl⟩
  have hZFl : ZF.length = 37 := by rw [hZF]; rfl
  have HFL := Lib.hid (And.intro hFl hFo)
  have HST := Lib.hid (And.intro hsl (And.intro hdl (And.intro hSo hTo)))
  have HYE := Lib.hid hY
  have HF2 := Lib.hid hF2
  have HF3 := Lib.hid hF3
  have HM := Lib.hid (And.intro hs0 (And.intro hm (And.intro h40 (And.intro hc hat))))
  have CH2 := CH1
  clear hgood h6 hn2 hn3 hc hR d0 h40 hrest hrl hdf hby hlen hbb hcell CH CH1 hval hPA hrow ok hat hF2 hF3 hsl hdl hFl hFo hSo hTo hpv hwl hF hS hT hp hnx hpr hat0 hfg hof0 hct hs0 hm hYY hxx hY hZ hg2
  go_enter Try.func39, Try.ntmps39
  go_upto_region 1 with fail
  rw [← e0, ← HG2.out]
  clear e0
  go_wp2_with fail
  refine (CH2.out _ (HR.out.below K0.out.bel)).mono ?_
  rintro e w1 ⟨A9, c9, rfl, b1⟩
  have K1 := Lib.hid (K0.out.below b1)
  clear b1 K0 c0 CH2
  go_wp2_with fail
  refine (CR.out _ (HR.out.below K1.out.bel)).mono ?_
  rintro e w2 ⟨rfl, b2⟩
  have K2 := Lib.hid (K1.out.below b2)
  clear b2 K1 CR
  have hlitF : (#[.int .i64 0, .int .i64 0, .int .i64 0, .int .i64 0, .int .i64 0, .int .u8 0, .int .u8 0, .int .u8 0, .int .u8 0, .int .u8 0, .int .u8 0, .int .u8 0, .int .u8 0, .int .u8 0, .int .u8 0, .int .u8 0, .int .u8 0, .int .u8 0, .int .u8 0, .int .u8 0, .int .u8 0, .int .u8 0, .int .u8 0, .int .u8 0, .int .u8 0, .int .u8 0, .int .u8 0, .int .u8 0, .int .u8 0, .int .u8 0, .int .u8 0, .int .u8 0, .int .u8 0, .int .u8 0, .int .u8 0, .int .u8 0, .int .u8 0] : Array Value) = ZF.toArray := by rw [hZF]; rfl
  clear hZF
  go_upto_region 23 with (first | refine wpList_store_v rfl 51 (.tmp 11) (.tmp 95) rfl _ rfl tysix (ArrV.new _ _ ZF) hZFl F HFL.out.1 HFL.out.2 rfl ?_ | fail)
  have k3 := (K2.out.new 51 ZF).store 1 rfl F (by rw [HFL.out.1, hZFl])
  obtain ⟨V3, e3⟩ : ∃ V, V = (w2.alloc (.cells ZF.toArray 51)).setCells w2.heap.size 0 F := ⟨_, rfl⟩
  rw [← e3] at k3
  rw [← e3]
  obtain ⟨g11, hg11⟩ : ∃ g, g = w2.heap.size := ⟨_, rfl⟩
  rw [← hg11] at k3
  rw [← hg11]
  have K3 : Hid (KV w [(25, g2, Z), (51, g11, F)] V3) := k3
  clear e3 hg11 K2 k3 hlitF
  have hRW : ∀ E W, KV w ([(25, g2, Z), (51, g11, F)] ++ E) W → Row W (some ⟨b, o, none⟩) n bs := fun E W h => HR.out.below h.bel
  have HRW := Lib.hid hRW
  clear hRW
  refine wp_region_par (w := w) [.quiet (.pointer (some ⟨g11, 3, none⟩)), .quiet (.int .i64 (nx : Nat)), .quiet (.slice (some ⟨b, o, none⟩) n c), .quiet (.pointer (some ⟨g11, 2, none⟩)), .quiet (.int .i64 (p : Nat)), .quiet (.int .i64 (s0 : Nat)), .quiet (.slice PA p (c - 40)), .quiet (.tuple #[.agg #[.int .i64 pr, .int .i64 (at0 : Nat), .int .i64 (fg : Nat), .int .i64 (of0 : Nat), .int .i64 (ct : Nat)], .slice none 0 0]), .quiet (.tuple #[.agg #[.int .i64 pr, .int .i64 (at0 : Nat), .int .i64 (fg : Nat), .int .i64 (of0 : Nat), .int .i64 (ct : Nat)], .slice none 0 0]), .quiet (.agg #[.int .i64 pr, .int .i64 (at0 : Nat), .int .i64 (fg : Nat), .int .i64 (of0 : Nat), .int .i64 (ct : Nat)]), .quiet (.slice none 0 0), .alloc 104 walkZ (some (12, [.int .i64 pr, .int .i64 (at0 : Nat), .int .i64 (fg : Nat), .int .i64 (of0 : Nat), .int .i64 (ct : Nat)])), .store 11, .quiet (.slice none 0 0)] [(25, g2, Z), (51, g11, F)] (by kernel_rfl) (by kernel_rfl) K3.out.drew (fun bk => ?_) ?_
  · clear K3
    refine pWalk_quiet rfl (fun E W hw' => quietAt_run rfl) ?_
    simp only [Act.put, List.setIfInBounds_toArray, List.set_cons_zero, List.set_cons_succ]
    refine pWalk_quiet rfl (fun E W hw' => quietAt_cell (j := 3) rfl rfl one_int (hw'.at 1 rfl) HF3.out) ?_
    simp only [Act.put, List.setIfInBounds_toArray, List.set_cons_zero, List.set_cons_succ]
    refine pWalk_quiet rfl (fun E W hw' => quietAt_run rfl) ?_
    simp only [Act.put, List.setIfInBounds_toArray, List.set_cons_zero, List.set_cons_succ]
    refine pWalk_quiet rfl (fun E W hw' => quietAt_run rfl) ?_
    simp only [Act.put, List.setIfInBounds_toArray, List.set_cons_zero, List.set_cons_succ]
    refine pWalk_quiet rfl (fun E W hw' => quietAt_cell (j := 2) rfl rfl one_int (hw'.at 1 rfl) HF2.out) ?_
    simp only [Act.put, List.setIfInBounds_toArray, List.set_cons_zero, List.set_cons_succ]
    refine pWalk_quiet rfl (fun E W hw' => quietAt_run (by simp [go_sem, i1, i8])) ?_
    simp only [Act.put, List.setIfInBounds_toArray, List.set_cons_zero, List.set_cons_succ]
    refine pWalk_quiet rfl (fun E W hw' => quietAt_run (by
      rw [HPA.out]
      by_cases hcm : c = 40
      · have k4 : s0 ≤ 40 := (by omega)
        have k3 : 40 ≤ s0 := (by omega)
        have k5 : p = 0 := (by have := HM.out.1; omega)
        have k6 : s0 = 40 := (by omega)
        simp [go_sem, hcm, k3, k4, k5, k6]
      · have k3 : 40 ≤ s0 := (by omega)
        have k4 : s0 ≤ c := (by omega)
        simp [go_sem, hcm, k3, k4, i7, i5, i6, i10])) ?_
    simp only [Act.put, List.setIfInBounds_toArray, List.set_cons_zero, List.set_cons_succ]
    refine pWalk_quiet rfl (fun E W hw' => quietAt_call (f := 57) (args := #[.int .i64 (nx : Nat), .slice PA p (c - 40)]) (by simp [go_sem]) ((CG.out W (HRW.out E W hw')).mono fun e w'' h => ⟨h.1, hw'.below h.2⟩)) ?_
    simp only [Act.put, List.setIfInBounds_toArray, List.set_cons_zero, List.set_cons_succ]
    refine pWalk_quiet rfl (fun E W hw' => quietAt_run rfl) ?_
    simp only [Act.put, List.setIfInBounds_toArray, List.set_cons_zero, List.set_cons_succ]
    refine pWalk_quiet rfl (fun E W hw' => quietAt_run (by simp [go_sem])) ?_
    simp only [Act.put, List.setIfInBounds_toArray, List.set_cons_zero, List.set_cons_succ]
    refine pWalk_quiet rfl (fun E W hw' => quietAt_run (by simp [go_sem])) ?_
    simp only [Act.put, List.setIfInBounds_toArray, List.set_cons_zero, List.set_cons_succ]
    refine pWalk_var rfl rfl allocwalk ?_
    simp only [Act.put, List.setIfInBounds_toArray, List.set_cons_zero, List.set_cons_succ]
    refine pWalk_put rfl rfl rfl rfl rfl tywalk rfl rfl (by simp [Value.oneCell']) ?_
    simp only [Act.put]
    refine pWalk_quiet rfl (fun E W hw' => quietAt_run rfl) ?_
    trivial
  · intro bk κ E w3 hK hB
    obtain ⟨l2, gg⟩ := hB.at_ 11 _ _ _ rfl rfl
    simp only [List.length_cons, List.length_nil] at l2
    obtain ⟨g13, e13⟩ : ∃ x, x = bk 11 := ⟨_, rfl⟩
    have K4 : Hid (KV w [(25, g2, Z), (51, g11, F), (104, g13, [.int .i64 pr, .int .i64 (at0 : Nat), .int .i64 (fg : Nat), .int .i64 (of0 : Nat), .int .i64 (ct : Nat)])] w3) := by
      rw [e13]
      refine hK.pick [0, 1, κ 11] ?_ rfl ?_
      · simp
        omega
      · intro q hq
        simp at hq
        rcases hq with rfl | rfl | rfl
        · rfl
        · rfl
        · exact gg
    clear l2 gg hK hB K3 CG HRW
    simp only [List.length_cons, List.length_nil, lexAct, pval, List.getElem?_cons_zero, List.getElem?_cons_succ, Option.bind_some, Act.put, List.setIfInBounds_toArray, List.set_cons_zero, List.set_cons_succ]
    rw [← e13]
    clear e13
    have HLIT := Lib.hid hlit
    clear hlit
    have q2 := ((K4.out.at 1 rfl).get 2).trans HF2.out
    have v0 := (K4.out.at 2 rfl).get 0
    have v1 := (K4.out.at 2 rfl).get 1
    have v2 := (K4.out.at 2 rfl).get 2
    simp only [List.getElem?_cons_zero, List.getElem?_cons_succ] at v0 v1 v2
    obtain ⟨Sl, Tl, So, To⟩ := HST.out
    have hYl : Y.length = 40 := by rw [HYE.out]; simp [Sl, Tl]
    have hYo : ∀ v ∈ Y, v.oneCell' = true := by
      intro v hv
      rw [HYE.out] at hv
      rcases List.mem_cons.1 hv with rfl | hv
      · rfl
      rcases List.mem_append.1 hv with hv | hv
      · exact So v hv
      rcases List.mem_append.1 hv with hv | hv
      · exact To v hv
      · simp at hv
        rcases hv with rfl | rfl | rfl | rfl | rfl | rfl <;> rfl
    have Y34 : Hid (Y[34]? = some (.int .i64 (s0 : Nat)) ∧ Y[35]? = some (.int .i64 (m : Nat))) := by
      show _ ∧ _
      rw [HYE.out]
      exact ⟨three_at Sl Tl 1, three_at Sl Tl 2⟩
    have HYL := Lib.hid (And.intro hYl hYo)
    obtain ⟨s_0, s_1, s_2, s_3, s_4, s_5, s_6, s_7, s_8, s_9, s_10, s_11, s_12, s_13, s_14, s_15, hS⟩ := sixteenV Sl
    obtain ⟨t_0, t_1, t_2, t_3, t_4, t_5, t_6, t_7, t_8, t_9, t_10, t_11, t_12, t_13, t_14, t_15, hT⟩ := sixteenV Tl
    have hlitY : (#[.int .i64 6, s_0, s_1, s_2, s_3, s_4, s_5, s_6, s_7, s_8, s_9, s_10, s_11, s_12, s_13, s_14, s_15, t_0, t_1, t_2, t_3, t_4, t_5, t_6, t_7, t_8, t_9, t_10, t_11, t_12, t_13, t_14, t_15, .int .i64 pr, .int .i64 (s0 : Nat), .int .i64 (m : Nat), .int .i64 (fg : Nat), .bool false, .int .i64 0, .int .i64 0] : Array Value) = Y.toArray := by rw [HYE.out, hS, hT]; rfl
    subst hS
    subst hT
    clear So To HST
    go_upto_region 25 with (first | refine wpList_load_part rfl 23 (.tmp 108) rfl _ 5 rfl ty16 (K4.out.at 1 rfl) hFS.out Sl ?_ | refine wpList_load_part rfl 23 (.tmp 110) rfl _ 21 rfl ty16 (K4.out.at 1 rfl) hFT.out Tl ?_ | refine wpList_store_v rfl 25 (.tmp 15) (.tmp 122) rfl _ rfl tyhead (ArrV.new _ _ _) (by rfl) Y HYL.out.1 HYL.out.2 rfl ?_ | fail)
    rw [HLIT.out]
    have k5 := (K4.out.new 25 Z).store 3 rfl Y (by rw [HYL.out.1, hZl])
    obtain ⟨V5, e5⟩ : ∃ V, V = (w3.alloc (.cells Z.toArray 25)).setCells w3.heap.size 0 Y := ⟨_, rfl⟩
    rw [← e5] at k5
    rw [← e5]
    obtain ⟨g15, hg15⟩ : ∃ g, g = w3.heap.size := ⟨_, rfl⟩
    rw [← hg15] at k5
    rw [← hg15]
    have K5 : Hid (KV w [(25, g2, Z), (25, g15, Y)] V5) := by
      refine KV.pick k5 [0, 3] (by decide) rfl ?_
      intro q hq
      simp at hq
      rcases hq with rfl | rfl <;> rfl
    clear e5 hg15 k5 K4 q2 v0 v1 v2 hlitY hYl hYo
    refine wp_region_put (C0 := KV w [(25, g2, Z), (25, g15, Y)]) (C1 := KV w [(25, g2, Y), (25, g15, Y)]) [some (.agg Y.toArray), some (.slice (some ⟨b, o, none⟩) n c), some (.pointer (some ⟨g15, 35, none⟩)), some (.int .i64 (m : Nat)), some (.pointer (some ⟨g15, 34, none⟩)), some (.int .i64 (s0 : Nat)), some (.slice PV (s0 - m) (c - m)), none, some (.slice PV (s0 - m) (c - m)), some (.slice none 0 0)] 7 [0] (by kernel_rfl) (by kernel_rfl) K5.out.drew ?_ (fun W9 hW9 => ?_)
    · refine putWalk_quiet rfl (fun W hw' => quietAt_part (off := 0) (n := 40) (vs := Y) rfl rfl tyhead (hw'.at 1 rfl) (by rw [List.drop_zero, List.take_of_length_le (Nat.le_of_eq HYL.out.1)]) HYL.out.1) (fun hna => absurd hna (by decide)) ?_
      simp only [Act.put, List.setIfInBounds_toArray, List.set_cons_zero, List.set_cons_succ]
      refine putWalk_quiet rfl (fun W hw' => quietAt_run rfl) (fun hna => fun W hw' => quietAt_run rfl) ?_
      simp only [Act.put, List.setIfInBounds_toArray, List.set_cons_zero, List.set_cons_succ]
      refine putWalk_quiet rfl (fun W hw' => quietAt_run rfl) (fun hna => fun W hw' => quietAt_run rfl) ?_
      simp only [Act.put, List.setIfInBounds_toArray, List.set_cons_zero, List.set_cons_succ]
      refine putWalk_quiet rfl (fun W hw' => quietAt_cell (j := 35) rfl rfl one_int (hw'.at 1 rfl) Y34.out.2) (fun hna => fun W hw' => quietAt_cell (j := 35) rfl rfl one_int (hw'.at 1 rfl) Y34.out.2) ?_
      simp only [Act.put, List.setIfInBounds_toArray, List.set_cons_zero, List.set_cons_succ]
      refine putWalk_quiet rfl (fun W hw' => quietAt_run rfl) (fun hna => fun W hw' => quietAt_run rfl) ?_
      simp only [Act.put, List.setIfInBounds_toArray, List.set_cons_zero, List.set_cons_succ]
      refine putWalk_quiet rfl (fun W hw' => quietAt_cell (j := 34) rfl rfl one_int (hw'.at 1 rfl) Y34.out.1) (fun hna => fun W hw' => quietAt_cell (j := 34) rfl rfl one_int (hw'.at 1 rfl) Y34.out.1) ?_
      simp only [Act.put, List.setIfInBounds_toArray, List.set_cons_zero, List.set_cons_succ]
      refine putWalk_quiet rfl (fun W hw' => quietAt_run (by rw [HPV.out]; by_cases hcm : c = m <;> first | (simp [go_sem, i3, i4, i5, i6, hcm]; done) | (have k4 : s0 ≤ m := (by omega); have k3 : m ≤ s0 := (by omega); simp [go_sem, hcm, k3, k4]))) (fun hna => fun W hw' => quietAt_run (by rw [HPV.out]; by_cases hcm : c = m <;> first | (simp [go_sem, i3, i4, i5, i6, hcm]; done) | (have k4 : s0 ≤ m := (by omega); have k3 : m ≤ s0 := (by omega); simp [go_sem, hcm, k3, k4]))) ?_
      simp only [Act.put, List.setIfInBounds_toArray, List.set_cons_zero, List.set_cons_succ]
      refine putWalk_put rfl (put_store 0 rfl rfl rfl rfl tyhead hZl HYL.out.1 HYL.out.2) ?_
      simp only [Act.put]
      refine putWalk_quiet rfl (fun W hw' => quietAt_run rfl) (fun hna => fun W hw' => quietAt_run rfl) ?_
      simp only [Act.put, List.setIfInBounds_toArray, List.set_cons_zero, List.set_cons_succ]
      refine putWalk_quiet rfl (fun W hw' => quietAt_run rfl) (fun hna => fun W hw' => quietAt_run rfl) ?_
      trivial
    · simp only [List.length_cons, List.length_nil, lexAct, pval, toK, List.map_cons, List.map_nil, List.getElem?_cons_zero, List.getElem?_cons_succ, Option.bind_some, Act.put, List.setIfInBounds_toArray, List.set_cons_zero, List.set_cons_succ]
      have hHS : ArrV 25 W9 g2 Y := hW9.at 0 rfl
      go_wp2_with fail
      exact bodyPost_ret (v := .tuple #[.agg Y.toArray, .slice PV (s0 - m) (c - m), .slice none 0 0]) (res_cell_two Try.results39 rfl (hHS.loadVar tyhead HYL.out.1) rfl rfl) rfl ⟨hW9.bel, rfl⟩
end Go.Proofs.Ytcjaidpmfjnhpaa
