/-
  The walk of the statement DottedSorts.
-/
import Derived.Test.YtdeecobpglfgaaaDoorLive5
import Derived.Deep.RegionHeld3
namespace Go.Proofs.YtdeecobpglfgaaaDoor
open Go.RowKit
set_option linter.unusedVariables false
attribute [local go_sem] eq4_run

theorem four_ints {zs : List Int} (h : zs.length = 4) : ∃ a b c d, zs = [a, b, c, d] := by
  match zs, h with
  | [a, b, c, d], _ => exact ⟨a, b, c, d, rfl⟩
theorem nat_byte {z : Int} (h : (Lit.int .u8 z).wf = true) : ∃ n : Nat, z = (n : Int) ∧ n ≤ 255 := by
  simp [Lit.wf, IntKind.min, IntKind.max, IntKind.signed, IntKind.bits] at h
  obtain ⟨n, rfl⟩ := Int.eq_ofNat_of_zero_le h.1
  exact ⟨n, rfl, by omega⟩
theorem four_bytes {zs : List Int} (h : zs.length = 4) (hz : ∀ z ∈ zs, (Lit.int .u8 z).wf = true) : ∃ a b c d : Nat, zs = [(a : Int), (b : Int), (c : Int), (d : Int)] ∧ a ≤ 255 ∧ b ≤ 255 ∧ c ≤ 255 ∧ d ≤ 255 := by
  obtain ⟨x, y, z, u, rfl⟩ := four_ints h
  obtain ⟨a, rfl, ha⟩ := nat_byte (hz x (by simp))
  obtain ⟨b, rfl, hb⟩ := nat_byte (hz y (by simp))
  obtain ⟨c, rfl, hc⟩ := nat_byte (hz z (by simp))
  obtain ⟨d, rfl, hd⟩ := nat_byte (hz u (by simp))
  exact ⟨a, b, c, d, rfl, ha, hb, hc, hd⟩
/-- The sort where the address is neither the first nor the last of all. -/
def dmid (a b : Nat) : ByteArray :=
  if a = 127 then ⟨#[108, 111, 111, 112]⟩
  else if dpriv a b = true then ⟨#[112, 114, 105, 118, 97, 116, 101]⟩
  else if a = 169 ∧ b = 254 then ⟨#[108, 105, 110, 107]⟩
  else if 224 ≤ a ∧ a ≤ 239 then ⟨#[103, 114, 111, 117, 112]⟩
  else if 240 ≤ a then ⟨#[107, 101, 112, 116]⟩
  else ⟨#[104, 111, 115, 116]⟩
theorem dsort_mid {a b c d : Nat} (h0 : ¬ (a = 0 ∧ b = 0 ∧ c = 0 ∧ d = 0)) (h1 : ¬ (a = 255 ∧ b = 255 ∧ c = 255 ∧ d = 255)) : dsort a b c d = dmid a b := by
  rw [dsort, if_neg h0, if_neg h1]
  rfl
theorem dmid_one (a b : Nat) : ∃ s : ByteArray, dmid a b = s ∧ (s.toList == [110, 111, 110, 101]) = false ∧ (s.toList == [97, 108, 108]) = false := by
  refine ⟨_, rfl, ?_⟩
  unfold dmid
  split
  · exact ⟨by rw [Lib.toList_data]; decide, by rw [Lib.toList_data]; decide⟩
  · split
    · exact ⟨by rw [Lib.toList_data]; decide, by rw [Lib.toList_data]; decide⟩
    · split
      · exact ⟨by rw [Lib.toList_data]; decide, by rw [Lib.toList_data]; decide⟩
      · split
        · exact ⟨by rw [Lib.toList_data]; decide, by rw [Lib.toList_data]; decide⟩
        · split <;> exact ⟨by rw [Lib.toList_data]; decide, by rw [Lib.toList_data]; decide⟩
theorem dnum_last {a b c d : Nat} (ha : a ≤ 255) (hb : b ≤ 255) (hc : c ≤ 255) (hd : d ≤ 255) : dnum a b c d = 4294967295 ↔ a = 255 ∧ b = 255 ∧ c = 255 ∧ d = 255 := by unfold dnum; omega

theorem sort_none (w : World) : Calls Tryd.prog 22 #[.agg #[.int .u8 0, .int .u8 0, .int .u8 0, .int .u8 0]] w fun e w' => e = .returned (.string ⟨#[110, 111, 110, 101]⟩) ∧ Below w.heap.size w w' := sort_any 0 0 0 0 w
theorem sort_all (w : World) : Calls Tryd.prog 22 #[.agg #[.int .u8 255, .int .u8 255, .int .u8 255, .int .u8 255]] w fun e w' => e = .returned (.string ⟨#[97, 108, 108]⟩) ∧ Below w.heap.size w w' := sort_any 255 255 255 255 w
/-- Two blocks hold four bytes each. -/
def Both (W : World) (g h : Nat) (a b c d x y z u : Nat) : Prop := ArrAt W g [a, b, c, d] ∧ ArrAt W h [x, y, z, u]
def BothC (W : World) (g h : Nat) (a b c d x y z u : Int) : Prop :=
  W.cell? ⟨g, 0, none⟩ = some (.int .u8 a) ∧ W.cell? ⟨g, 1, none⟩ = some (.int .u8 b) ∧ W.cell? ⟨g, 2, none⟩ = some (.int .u8 c) ∧ W.cell? ⟨g, 3, none⟩ = some (.int .u8 d) ∧
  W.cell? ⟨h, 0, none⟩ = some (.int .u8 x) ∧ W.cell? ⟨h, 1, none⟩ = some (.int .u8 y) ∧ W.cell? ⟨h, 2, none⟩ = some (.int .u8 z) ∧ W.cell? ⟨h, 3, none⟩ = some (.int .u8 u)
theorem BothC.below {W W' : World} {g h : Nat} {a b c d x y z u : Int} (k : BothC W g h a b c d x y z u) (hb : Below W.heap.size W W') : BothC W' g h a b c d x y z u := by
  obtain ⟨k1, k2, k3, k4, k5, k6, k7, k8⟩ := k
  exact ⟨(hb.cell (cell_lt k1)).trans k1, (hb.cell (cell_lt k2)).trans k2, (hb.cell (cell_lt k3)).trans k3, (hb.cell (cell_lt k4)).trans k4, (hb.cell (cell_lt k5)).trans k5, (hb.cell (cell_lt k6)).trans k6, (hb.cell (cell_lt k7)).trans k7, (hb.cell (cell_lt k8)).trans k8⟩
theorem Both.cells {W : World} {g h a b c d x y z u : Nat} (k : Both W g h a b c d x y z u) : BothC W g h a b c d x y z u :=
  ⟨k.1.cell 0 (by simp), k.1.cell 1 (by simp), k.1.cell 2 (by simp), k.1.cell 3 (by simp), k.2.cell 0 (by simp), k.2.cell 1 (by simp), k.2.cell 2 (by simp), k.2.cell 3 (by simp)⟩

set_option maxRecDepth 10000 in
set_option maxHeartbeats 3200000 in
theorem walk_DottedSorts (zs0 zs1 : List Int) (w : World) (hT : Pow w) (hn0 : zs0.length = 4) (hz0 : ∀ z ∈ zs0, (Lit.int .u8 z).wf = true) (hn1 : zs1.length = 4) (hz1 : ∀ z ∈ zs1, (Lit.int .u8 z).wf = true) :
    Calls Tryd.prog 6 #[.agg (zs0.map (Value.int .u8)).toArray, .agg (zs1.map (Value.int .u8)).toArray] w fun e w' => e = .returned (.bool true) ∧ Below w.heap.size w w' := by
  obtain ⟨a, b, c, d, rfl, ha, hb, hc, hd⟩ := four_bytes hn0 hz0
  obtain ⟨x, y, z, u, rfl, hx, hy, hz, hu⟩ := four_bytes hn1 hz1
  clear hn0 hn1 hz0 hz1
  have HT := Lib.hid hT
  clear hT
  show Calls Tryd.prog 6 #[.agg #[.int .u8 a, .int .u8 b, .int .u8 c, .int .u8 d], .agg #[.int .u8 x, .int .u8 y, .int .u8 z, .int .u8 u]] w _
  have A0 : Hid (ArrAt ((w.alloc (.cells #[.int .u8 a, .int .u8 b, .int .u8 c, .int .u8 d] 22)).alloc (.cells #[.int .u8 x, .int .u8 y, .int .u8 z, .int .u8 u] 22)) w.heap.size [a, b, c, d]) := heap_alloc2_old w _ _
  have A1 : Hid (ArrAt ((w.alloc (.cells #[.int .u8 a, .int .u8 b, .int .u8 c, .int .u8 d] 22)).alloc (.cells #[.int .u8 x, .int .u8 y, .int .u8 z, .int .u8 u] 22)) (w.heap.size + 1) [x, y, z, u]) := heap_alloc2_new w _ _
  have B0 := Lib.hid (below_pair w (.cells #[.int .u8 a, .int .u8 b, .int .u8 c, .int .u8 d] 22) (.cells #[.int .u8 x, .int .u8 y, .int .u8 z, .int .u8 u] 22))
  go_enter Tryd.func6, Tryd.ntmps6
  go_wp2_with fail
  generalize (w.alloc (.cells #[.int .u8 a, .int .u8 b, .int .u8 c, .int .u8 d] 22)).alloc (.cells #[.int .u8 x, .int .u8 y, .int .u8 z, .int .u8 u] 22) = W at *
  have c0 := A0.out.cell 0 (by simp)
  have c1 := A0.out.cell 1 (by simp)
  have d0 := A1.out.cell 0 (by simp)
  have d1 := A1.out.cell 1 (by simp)
  have f1 := A1.out.frozen
  simp at c0 c1 d0 d1
  go_region
  have HB : Hid (Both ((W.setCell ⟨w.heap.size + 1, 0, none⟩ (.int .u8 a)).setCell ⟨w.heap.size + 1, 1, none⟩ (.int .u8 b)) w.heap.size (w.heap.size + 1) a b c d a b z u) :=
    ⟨(A0.out.other _ _ (by simp)).other _ _ (by simp), (A1.out.set 0 a).set 1 b⟩
  have B1 : Hid (Below w.heap.size w ((W.setCell ⟨w.heap.size + 1, 0, none⟩ (.int .u8 a)).setCell ⟨w.heap.size + 1, 1, none⟩ (.int .u8 b))) := (B0.out.setCell (by simp) _).setCell (by simp) _
  clear A0 A1 B0 c0 c1 d0 d1 f1
  generalize (W.setCell ⟨w.heap.size + 1, 0, none⟩ (.int .u8 a)).setCell ⟨w.heap.size + 1, 1, none⟩ (.int .u8 b) = V at *
  obtain ⟨s, hs⟩ : ∃ s, dsort a b c d = s := ⟨_, rfl⟩
  obtain ⟨t, ht⟩ : ∃ t, dsort a b z u = t := ⟨_, rfl⟩
  have CS0 : Hid (∀ w, Calls Tryd.prog 22 #[.agg #[.int .u8 a, .int .u8 b, .int .u8 c, .int .u8 d]] w fun e w' => e = .returned (.string s) ∧ Below w.heap.size w w') := fun w => by rw [← hs]; exact sort_any a b c d w
  have CS1 : Hid (∀ w, Calls Tryd.prog 22 #[.agg #[.int .u8 a, .int .u8 b, .int .u8 z, .int .u8 u]] w fun e w' => e = .returned (.string t) ∧ Below w.heap.size w w') := fun w => by rw [← ht]; exact sort_any a b z u w
  have HS := Lib.hid hs
  have HT2 := Lib.hid ht
  clear hs ht
  have h0 := HB.out.cells
  have BB : Hid (Below w.heap.size w V.drew) := B1.out.drew
  have hT : Hid (BothC V.drew w.heap.size (w.heap.size + 1) a b c d a b z u) := HB.out.cells
  clear HB B1
  change BothC V.drew w.heap.size (w.heap.size + 1) a b c d a b z u at h0
  generalize V.drew = U at *
  go_wp2_with fail
  have BB := Lib.hid BB.out.drew
  have hT : Hid (BothC U.drew w.heap.size (w.heap.size + 1) a b c d a b z u) := h0
  go_region_held3 (fun w' => w'.cell? ⟨w.heap.size, 0, none⟩ = some (.int .u8 a) ∧ w'.cell? ⟨w.heap.size, 1, none⟩ = some (.int .u8 b) ∧ w'.cell? ⟨w.heap.size, 2, none⟩ = some (.int .u8 c) ∧ w'.cell? ⟨w.heap.size, 3, none⟩ = some (.int .u8 d) ∧ w'.cell? ⟨w.heap.size + 1, 0, none⟩ = some (.int .u8 a) ∧ w'.cell? ⟨w.heap.size + 1, 1, none⟩ = some (.int .u8 b) ∧ w'.cell? ⟨w.heap.size + 1, 2, none⟩ = some (.int .u8 z) ∧ w'.cell? ⟨w.heap.size + 1, 3, none⟩ = some (.int .u8 u))
    (first | exact h0 | exact hTwo | go_keep)
    (first
      | (go_at_call 22; ((with_reducible refine (CS0.out _).mono ?_); rintro e w' ⟨rfl, hb'⟩; have BB := Lib.hid (below_both BB.out hb'); have hTwo : BothC w' w.heap.size (w.heap.size + 1) a b c d a b z u := hT.out.below hb'; have hT := Lib.hid hTwo))
      | (go_at_call 22; ((with_reducible refine (CS1.out _).mono ?_); rintro e w' ⟨rfl, hb'⟩; have BB := Lib.hid (below_both BB.out hb'); have hTwo : BothC w' w.heap.size (w.heap.size + 1) a b c d a b z u := hT.out.below hb'; have hT := Lib.hid hTwo))
      | fail)
  all_goals
    obtain ⟨k1, k2, k3, k4, k5, k6, k7, k8⟩ := hT.out
    clear hTwo
    obtain ⟨n0, hn0⟩ : ∃ n, n = dnum a b c d := ⟨_, rfl⟩
    obtain ⟨n1, hn1⟩ : ∃ n, n = dnum a b z u := ⟨_, rfl⟩
    have CN0 : Hid (∀ w, Calls Tryd.prog 18 #[.agg #[.int .u8 a, .int .u8 b, .int .u8 c, .int .u8 d]] w fun e w' => e = .returned (.int .u32 n0) ∧ Below w.heap.size w w') := fun w => by rw [hn0]; exact dnum_any a b c d w ha hb hc hd
    have CN1 : Hid (∀ w, Calls Tryd.prog 18 #[.agg #[.int .u8 a, .int .u8 b, .int .u8 z, .int .u8 u]] w fun e w' => e = .returned (.int .u32 n1) ∧ Below w.heap.size w w') := fun w => by rw [hn1]; exact dnum_any a b z u w ha hb hz hu
    have HN0 := Lib.hid hn0
    have HN1 := Lib.hid hn1
    clear hn0 hn1
    by_cases P0 : a = 0 ∧ b = 0 ∧ c = 0 ∧ d = 0
    · have q0 : same4 a b c d 0 0 0 0 = true := by rw [same_zero]; exact decide_eq_true P0
      clear P0
      go_wp2_with fail
      refine (live5 _ (HT.out.below BB.out)).mono ?_
      rintro e w2 ⟨rfl, b2⟩
      have BB := Lib.hid (below_both BB.out b2)
      clear b2
      go_wp2_with fail
      refine (sort_none _).mono ?_
      rintro e w3 ⟨rfl, b3⟩
      have BB := Lib.hid (below_both BB.out b3)
      clear b3
      go_wp2_with fail
      go_ret
      exact ⟨by simp, BB.out⟩
    have q0 : same4 a b c d 0 0 0 0 = false := by rw [same_zero]; exact decide_eq_false P0
    by_cases P1 : a = 0 ∧ b = 0 ∧ z = 0 ∧ u = 0
    · have q1 : same4 a b z u 0 0 0 0 = true := by rw [same_zero]; exact decide_eq_true P1
      clear P0 P1
      go_wp2_with fail
      refine (live5 _ (HT.out.below BB.out)).mono ?_
      rintro e w2 ⟨rfl, b2⟩
      have BB := Lib.hid (below_both BB.out b2)
      clear b2
      go_wp2_with fail
      refine (sort_none _).mono ?_
      rintro e w3 ⟨rfl, b3⟩
      have BB := Lib.hid (below_both BB.out b3)
      clear b3
      go_wp2_with fail
      go_ret
      exact ⟨by simp, BB.out⟩
    have q1 : same4 a b z u 0 0 0 0 = false := by rw [same_zero]; exact decide_eq_false P1
    by_cases N0 : n0 = 4294967295
    · have e0 : ((n0 : Int) == 4294967295) = true := by rw [beq_iff_eq]; omega
      clear P0 P1 N0
      go_wp2_with fail
      refine (CN0.out _).mono ?_
      rintro e w4 ⟨rfl, b4⟩
      have BB := Lib.hid (below_both BB.out b4)
      have hT := Lib.hid (hT.out.below b4)
      obtain ⟨k1, k2, k3, k4, k5, k6, k7, k8⟩ := hT.out
      clear b4
      go_wp2_with fail
      refine (live5 _ (HT.out.below BB.out)).mono ?_
      rintro e w2 ⟨rfl, b2⟩
      have BB := Lib.hid (below_both BB.out b2)
      clear b2
      go_wp2_with fail
      refine (sort_all _).mono ?_
      rintro e w3 ⟨rfl, b3⟩
      have BB := Lib.hid (below_both BB.out b3)
      clear b3
      go_wp2_with fail
      go_ret
      exact ⟨by simp, BB.out⟩
    by_cases N1 : n1 = 4294967295
    · have e0 : ((n0 : Int) == 4294967295) = false := by rw [beq_eq_false_iff_ne]; omega
      have e1 : ((n1 : Int) == 4294967295) = true := by rw [beq_iff_eq]; omega
      clear P0 P1 N0 N1
      go_wp2_with fail
      refine (CN0.out _).mono ?_
      rintro e w4 ⟨rfl, b4⟩
      have BB := Lib.hid (below_both BB.out b4)
      have hT := Lib.hid (hT.out.below b4)
      obtain ⟨k1, k2, k3, k4, k5, k6, k7, k8⟩ := hT.out
      clear b4
      go_wp2_with fail
      refine (CN1.out _).mono ?_
      rintro e w5 ⟨rfl, b5⟩
      have BB := Lib.hid (below_both BB.out b5)
      clear b5
      go_wp2_with fail
      refine (live5 _ (HT.out.below BB.out)).mono ?_
      rintro e w2 ⟨rfl, b2⟩
      have BB := Lib.hid (below_both BB.out b2)
      clear b2
      go_wp2_with fail
      refine (sort_all _).mono ?_
      rintro e w3 ⟨rfl, b3⟩
      have BB := Lib.hid (below_both BB.out b3)
      clear b3
      go_wp2_with fail
      go_ret
      exact ⟨by simp, BB.out⟩
    have e0 : ((n0 : Int) == 4294967295) = false := by rw [beq_eq_false_iff_ne]; omega
    have e1 : ((n1 : Int) == 4294967295) = false := by rw [beq_eq_false_iff_ne]; omega
    obtain ⟨m, hm, m1, m2⟩ := dmid_one a b
    have hsm : s = m := by rw [← HS.out, ← hm]; exact dsort_mid P0 (fun h => N0 (by rw [HN0.out]; exact (dnum_last ha hb hc hd).2 h))
    have htm : t = m := by rw [← HT2.out, ← hm]; exact dsort_mid P1 (fun h => N1 (by rw [HN1.out]; exact (dnum_last ha hb hz hu).2 h))
    clear P0 P1 N0 N1 HS HT2 hm CS0 CS1
    subst hsm
    subst htm
    go_wp2_with fail
    refine (CN0.out _).mono ?_
    rintro e w4 ⟨rfl, b4⟩
    have BB := Lib.hid (below_both BB.out b4)
    have hT := Lib.hid (hT.out.below b4)
    obtain ⟨k1, k2, k3, k4, k5, k6, k7, k8⟩ := hT.out
    clear b4
    go_wp2_with fail
    refine (CN1.out _).mono ?_
    rintro e w5 ⟨rfl, b5⟩
    have BB := Lib.hid (below_both BB.out b5)
    clear b5
    go_wp2_with fail
    refine (live5 _ (HT.out.below BB.out)).mono ?_
    rintro e w2 ⟨rfl, b2⟩
    have BB := Lib.hid (below_both BB.out b2)
    clear b2
    go_wp2_with fail
    go_ret
    exact ⟨by simp, BB.out⟩
end Go.Proofs.YtdeecobpglfgaaaDoor
