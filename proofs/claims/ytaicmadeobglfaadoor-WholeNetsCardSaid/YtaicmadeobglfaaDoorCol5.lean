/-
  The contract of colons' Print.
-/
import Derived.Test.YtaicmadeobglfaaDoorCol4
import Derived.Deep.RegionHeld3
import Derived.Deep.CutRange
import Derived.Deep.CutBlock
namespace Go.Proofs.YtaicmadeobglfaaDoor
open Go.RowKit
set_option linter.unusedVariables false

/-- The eight groups of an address. -/
def grps (X : List Nat) : List Nat := (List.range 8).map (grp X)
theorem grps_length (X : List Nat) : (grps X).length = 8 := by simp [grps]
theorem grps_lt {X : List Nat} (bX : ∀ x ∈ X, x < 256) : ∀ g ∈ grps X, g < 65536 := by
  intro g hg
  obtain ⟨k, _, rfl⟩ := List.mem_map.1 hg
  exact grp_lt bX k
theorem grps_get (X : List Nat) (k : Nat) (hk : k < 8) : (grps X)[k]? = some (grp X k) := by
  unfold grps
  rw [List.getElem?_map, List.getElem?_range hk]
  rfl
def pgr (gs : List Nat) (k : Nat) : List Nat := gs.take k ++ List.replicate (8 - k) 0
theorem pgr_set {gs : List Nat} {k x : Nat} (hd : gs.length = 8) (hk : k < 8) (hx : gs[k]? = some x) : (pgr gs k).set k x = pgr gs (k + 1) := by
  have e1 : (gs.take k).length = k := by rw [List.length_take]; omega
  have e2 : gs.take (k + 1) = gs.take k ++ [x] := by
    rw [List.take_succ_eq_append_getElem (by omega)]
    rw [List.getElem?_eq_getElem (by omega)] at hx
    injection hx with hx
    rw [hx]
  unfold pgr
  rw [List.set_append_right (h := by omega), e1, Nat.sub_self, show 8 - k = (8 - (k + 1)) + 1 from by omega, List.replicate_succ, List.set_cons_zero, e2]
  simp
theorem pgr_all {gs : List Nat} (hd : gs.length = 8) : pgr gs 8 = gs := by
  unfold pgr
  rw [List.take_of_length_le (by omega)]
  simp
theorem pgr_len {gs : List Nat} {k : Nat} (hd : gs.length = 8) (hk : k ≤ 8) : (pgr gs k).length = 8 := by
  unfold pgr
  rw [List.length_append, List.length_take, List.length_replicate]
  omega
theorem ArrH.part {W : World} {g : Nat} {gs : List Nat} (h : ArrH W g gs) (a n : Nat) (ha : a + n ≤ gs.length) : Row16 W (some ⟨g, a, none⟩) ((gs.drop a).take n) := by
  intro i hi
  rw [List.length_take, List.length_drop] at hi
  refine ⟨g, a, rfl, ?_⟩
  rw [h.cell (a + i) (by omega)]
  congr 2
  rw [List.getD_eq_getElem?_getD, List.getD_eq_getElem?_getD, List.getElem?_take, if_pos (by omega), List.getElem?_drop]
theorem Row16.nil (W : World) (A : Option Addr) : Row16 W A [] := fun i hi => absurd hi (by simp)
def pstr6 (gs : List Nat) : ByteArray := ⟨(colPrint gs).toArray⟩
theorem str_glue (f b : List UInt8) : (⟨f.toArray⟩ : ByteArray) ++ (⟨#[58, 58]⟩ : ByteArray) ++ (⟨b.toArray⟩ : ByteArray) = ⟨(f ++ 58 :: 58 :: b).toArray⟩ := by
  apply ByteArray.ext
  simp [ByteArray.data_append]

theorem gstr_size {gs : List Nat} (h : ∀ g ∈ gs, g < 65536) (h8 : gs.length ≤ 8) : (gstr gs).size ≤ 40 := by
  have h1 := gsjoin_len h
  have h2 : (gstr gs).size = (gsjoin gs).length := by simp [gstr, ByteArray.size]
  omega
/-- What holds while the text is made. -/
def PJ (w : World) (g : Nat) (gs : List Nat) (W : World) : Prop := ArrH W g gs ∧ Bru W ∧ Below w.heap.size w W
theorem PJ.drew {w W : World} {g : Nat} {gs : List Nat} (h : PJ w g gs W) : PJ w g gs W.drew := ⟨h.1, h.2.1, h.2.2.drew⟩
theorem PJ.below {w W W' : World} {g : Nat} {gs : List Nat} (h : PJ w g gs W) (hb : Below W.heap.size W W') : PJ w g gs W' := ⟨h.1.below hb, h.2.1.below hb, below_both h.2.2 hb⟩
theorem PJ.join {w W : World} {g : Nat} {gs : List Nat} (h : PJ w g gs W) (A : Option Addr) (n c : Nat) (ps : List Nat) (hn : ps.length = n) (h8 : n ≤ 8) (hp : ∀ x ∈ ps, x < 65536) (hR : Row16 W A ps) :
    Calls Tryd.prog 28 #[.slice A n c] W fun e w' => e = .returned (.string (gstr ps)) ∧ PJ w g gs w' := by
  subst hn
  refine (cjoin_any A c ps W h.2.1 h8 hp hR).mono ?_
  rintro e w' ⟨rfl, hb⟩
  exact ⟨rfl, h.below hb⟩

set_option maxRecDepth 10000 in
set_option maxHeartbeats 3200000 in
theorem cprint_any (X : List Nat) (w : World) (hX : X.length = 16) (bX : ∀ x ∈ X, x < 256) (hB : Bru w) :
    Calls Tryd.prog 17 #[.agg (bcells X).toArray] w fun e w' => e = .returned (.string (pstr6 (grps X))) ∧ Below w.heap.size w w' := by
  have hs : (bcells X).length = 16 := by rw [bcells_length, hX]
  have HX := Lib.hid (And.intro hX bX)
  have HT := Lib.hid hB
  have HG : Hid ((grps X).length = 8 ∧ ∀ x ∈ grps X, x < 65536) := ⟨grps_length X, grps_lt bX⟩
  have A0 : Hid (ArrB ((w.alloc (.cells (bcells X).toArray 22)).alloc (.cells (hcells (pgr (grps X) 0)).toArray 60)) w.heap.size X) := heap_alloc2_old w _ _
  have A1 : Hid (ArrH ((w.alloc (.cells (bcells X).toArray 22)).alloc (.cells (hcells (pgr (grps X) 0)).toArray 60)) (w.heap.size + 1) (pgr (grps X) 0)) := heap_alloc2_new w _ _
  have B0 : Hid (Below w.heap.size w ((w.alloc (.cells (bcells X).toArray 22)).alloc (.cells (hcells (pgr (grps X) 0)).toArray 60))) := below_pair w _ _
  have C3 := Lib.hid (fun k w (hk : k < 8) => cgroup_in X k w hX bX hk)
  have C4 := Lib.hid (fun w => longest_any (grps X) w (grps_length X))
  clear hX bX hB
  go_enter Tryd.func17, Tryd.ntmps17
  go_wp2_with fail
  go_loopw [7] (fun i wr => ∃ k : Nat, k ≤ 8 ∧ i = .int .i64 k ∧ Hid (ArrB wr w.heap.size X) ∧ Hid (ArrH wr (w.heap.size + 1) (pgr (grps X) k)) ∧ Hid (Below w.heap.size w wr)) (fun i _ => 8 - (intOf i).toNat)
  case atStart => exact ⟨0, by decide, rfl, A0.out, A1.out, B0.out⟩
  case round =>
    clear A0 A1 B0
    obtain ⟨k, hk, rfl, A0, A1, BB⟩ := hrel
    by_cases hlt : k < 8
    · have wk : wrap64 ((k : Int) + 1) = ((k + 1 : Nat) : Int) := wrap_inc (by omega)
      have CG := Lib.hid (fun w => C3.out k w hlt)
      have HS : Hid ((pgr (grps X) k).set k (grp X k) = pgr (grps X) (k + 1)) := pgr_set HG.out.1 hlt (grps_get X k hlt)
      have HLN : Hid ((pgr (grps X) k).length = 8) := pgr_len HG.out.1 hk
      generalize grp X k = x at *
      go_upto_region 5 with fail
      refine wp_region_lit ?_
      go_wp2_with (refine wpList_load_b rfl (.tmp 1) rfl _ rfl A0.out HX.out.1 ?_)
      refine (CG.out _).mono ?_
      rintro e w1 ⟨rfl, b1⟩
      have A0 := Lib.hid (A0.out.below b1)
      have A1 := Lib.hid (A1.out.below b1)
      have BB := Lib.hid (below_both BB.out b1)
      have c0 := A1.out.cell k (by rw [HLN.out]; exact hlt)
      have f0 := A1.out.frozen k
      have A2 := Lib.hid (A1.out.set k x)
      rw [HS.out] at A2
      have A3 := Lib.hid (A0.out.other ⟨w.heap.size + 1, k, none⟩ (.int .u16 (x : Nat)) (by simp))
      clear b1
      generalize (pgr (grps X) k).getD k 0 = old at c0
      go_wp2_with fail
      go_roundw
      case rel => exact ⟨k + 1, by omega, rfl, A3.out, A2.out, BB.out.setCell (by simp) _⟩
      case measure => simp [intOf]; omega
    · obtain rfl : k = 8 := by omega
      rw [pgr_all HG.out.1] at A1
      clear A0
      generalize hgs : grps X = gs at *
      have HE := Lib.hid hgs
      clear hgs
      go_upto_region 7 with fail
      refine wp_region_lit ?_
      go_wp2_with (refine wpList_load_h rfl (.tmp 3) rfl _ rfl A1.out HG.out.1 ?_)
      refine (C4.out _).mono ?_
      rintro e w1 ⟨rfl, b1⟩
      have HJ : Hid (PJ w (w.heap.size + 1) gs w1) := ⟨A1.out.below b1, (HT.out.below BB.out).below b1, below_both BB.out b1⟩
      have HL := Lib.hid (best_lt gs 8 (by decide) HG.out.1)
      have HR := Lib.hid (best_room gs HG.out.1)
      have HPr : Hid (pstr6 gs = if (best gs 8).2 < 2 then gstr gs else ⟨(gsjoin (gs.take (best gs 8).1) ++ 58 :: 58 :: gsjoin (gs.drop ((best gs 8).1 + (best gs 8).2))).toArray⟩) := by
        show _ = _
        unfold pstr6 colPrint gstr
        split <;> rfl
      clear b1 A1 BB C4 C3
      generalize (best gs 8).1 = a at *
      generalize (best gs 8).2 = n at *
      by_cases h2 : n < 2
      · have h2i : (n : Int) < 2 := by omega
        have CJ : Hid (∀ W, PJ w (w.heap.size + 1) gs W → Calls Tryd.prog 28 #[.slice (some ⟨w.heap.size + 1, 0, none⟩) 8 8] W fun e w' => e = .returned (.string (gstr gs)) ∧ PJ w (w.heap.size + 1) gs w') := fun W h =>
          h.join _ 8 8 gs HG.out.1 (by decide) HG.out.2 (by have := h.1.part 0 8 (by have := HG.out.1; omega); rw [List.drop_zero, List.take_of_length_le (by rw [HG.out.1]; exact Nat.le_refl _)] at this; exact this)
        have HF : Hid (pstr6 gs = gstr gs) := by show _ = _; rw [HPr.out, if_pos h2]
        clear h2 HPr HR HL
        go_wp2_with fail
        refine (CJ.out _ HJ.out).mono ?_
        rintro e w2 ⟨rfl, hj⟩
        have HJ := Lib.hid hj
        clear hj
        go_wp2_with fail
        go_ret
        exact ⟨by rw [HE.out, HF.out]; rfl, HJ.out.2.2⟩
      · have h2i : ¬ ((n : Int) < 2) := by omega
        have hroom : a + n ≤ 8 := HR.out (by omega)
        obtain ⟨E, hE⟩ : ∃ E, E = a + n := ⟨_, rfl⟩
        have q : IntKind.i64.wrap ((a : Int) + (n : Int)) = (E : Int) := by rw [show ((a : Int) + (n : Int)) = (E : Int) by omega]; exact IntWalk.i64_in _ ⟨by omega, by omega⟩
        have HF : Hid (pstr6 gs = gstr (gs.take a) ++ (⟨#[58, 58]⟩ : ByteArray) ++ gstr (gs.drop E)) := by
          show _ = _
          rw [HPr.out, if_neg h2, hE]
          exact (str_glue _ _).symm
        have C1 : Hid (∀ W, PJ w (w.heap.size + 1) gs W → Calls Tryd.prog 28 #[.slice (some ⟨w.heap.size + 1, 0, none⟩) a 8] W fun e w' => e = .returned (.string (gstr (gs.take a))) ∧ PJ w (w.heap.size + 1) gs w') := fun W h =>
          h.join _ a 8 (gs.take a) (by have := HG.out.1; rw [List.length_take]; omega) (by omega) (fun x hx => HG.out.2 x (List.mem_of_mem_take hx)) (by have := h.1.part 0 a (by have := HG.out.1; omega); rw [List.drop_zero] at this; exact this)
        have hE8 : E ≤ 8 := by omega
        have ha8 : a ≤ 8 := by omega
        have ai : (a : Int) ≤ 8 := by omega
        have ei : (E : Int) ≤ 8 := by omega
        have HJ := Lib.hid HJ.out.drew
        have z1 : (gstr (gs.take a)).size + (⟨#[58, 58]⟩ : ByteArray).size ≤ 9223372036854775807 := by
          have := gstr_size (gs := gs.take a) (fun x hx => HG.out.2 x (List.mem_of_mem_take hx)) (by rw [List.length_take]; omega)
          show _ + 2 ≤ _
          omega
        have z2 : (gstr (gs.take a) ++ (⟨#[58, 58]⟩ : ByteArray)).size + (gstr (gs.drop E)).size ≤ 9223372036854775807 := by
          have h1 := gstr_size (gs := gs.take a) (fun x hx => HG.out.2 x (List.mem_of_mem_take hx)) (by rw [List.length_take]; omega)
          have h2 := gstr_size (gs := gs.drop E) (fun x hx => HG.out.2 x (List.mem_of_mem_drop hx)) (by rw [List.length_drop, HG.out.1]; omega)
          have h3 : (⟨#[58, 58]⟩ : ByteArray).size = 2 := rfl
          rw [ByteArray.size_append, h3]
          omega
        have r1 := fun w => run_string_add_sum (P := Tryd.prog) w _ _ z1
        have r2 := fun w => run_string_add_sum (P := Tryd.prog) w _ _ z2
        clear h2 HPr HR HL hroom hE z1 z2
        rcases Nat.lt_or_ge E 8 with hlt8 | hge8
        · have C2 : Hid (∀ W, PJ w (w.heap.size + 1) gs W → Calls Tryd.prog 28 #[.slice (some ⟨w.heap.size + 1, E, none⟩) (8 - E) (8 - E)] W fun e w' => e = .returned (.string (gstr (gs.drop E))) ∧ PJ w (w.heap.size + 1) gs w') := fun W h =>
            h.join _ (8 - E) (8 - E) (gs.drop E) (by have := HG.out.1; rw [List.length_drop]; omega) (by omega) (fun x hx => HG.out.2 x (List.mem_of_mem_drop hx)) (by have := h.1.part E (8 - E) (by have := HG.out.1; omega); rw [List.take_of_length_le (by rw [List.length_drop, HG.out.1]; exact Nat.le_refl _)] at this; exact this)
          have hne8 : ¬ (8 = E) := by omega
          clear ha8 hE8
          go_wp2_with fail
          go_region_with (first
            | ((with_reducible refine (C1.out _ HJ.out).mono ?_); rintro e w2 ⟨rfl, hj⟩; have HJ := Lib.hid hj; clear hj)
            | ((with_reducible refine (C2.out _ HJ.out).mono ?_); rintro e w2 ⟨rfl, hj⟩; have HJ := Lib.hid hj; clear hj)
            | fail)
          all_goals
            go_wp2_with fail
            go_ret
            exact ⟨by rw [HE.out, HF.out]; rfl, HJ.out.2.2⟩
        · obtain rfl : E = 8 := by omega
          have C2 : Hid (∀ W, PJ w (w.heap.size + 1) gs W → Calls Tryd.prog 28 #[.slice (some ⟨w.heap.size + 1, 0, none⟩) 0 0] W fun e w' => e = .returned (.string (gstr (gs.drop 8))) ∧ PJ w (w.heap.size + 1) gs w') := fun W h =>
            h.join _ 0 0 (gs.drop 8) (by have := HG.out.1; rw [List.length_drop]; omega) (by omega) (fun x hx => HG.out.2 x (List.mem_of_mem_drop hx)) (by have := HG.out.1; rw [List.drop_of_length_le (by omega)]; exact Row16.nil _ _)
          go_wp2_with fail
          go_region_with (first
            | ((with_reducible refine (C1.out _ HJ.out).mono ?_); rintro e w2 ⟨rfl, hj⟩; have HJ := Lib.hid hj; clear hj)
            | ((with_reducible refine (C2.out _ HJ.out).mono ?_); rintro e w2 ⟨rfl, hj⟩; have HJ := Lib.hid hj; clear hj)
            | fail)
          all_goals
            go_wp2_with fail
            go_ret
            exact ⟨by rw [HE.out, HF.out]; rfl, HJ.out.2.2⟩
end Go.Proofs.YtaicmadeobglfaaDoor
