/-
  What must be of sums, whatever is asked (sure of layer 13).
-/
import Derived.Test.YtlopmkmcjcijcaaPo13
import Derived.Test.YtlopmkmcjcijcaaRegCall
namespace Go.Proofs.Ytlopmkmcjcijcaa
open Go.RowKit
set_option linter.unusedVariables false

def keyZ : List Value := (Value.int .i64 0 :: Value.int .u8 0 :: Value.int .u8 0 :: Value.int .u8 0 :: Value.int .u8 0 :: Value.int .u8 0 :: Value.int .u8 0 :: Value.int .u8 0 :: Value.int .u8 0 :: Value.int .u8 0 :: Value.int .u8 0 :: Value.int .u8 0 :: Value.int .u8 0 :: Value.int .u8 0 :: Value.int .u8 0 :: Value.int .u8 0 :: Value.int .u8 0 :: Value.int .u8 0 :: Value.int .u8 0 :: Value.int .u8 0 :: Value.int .u8 0 :: Value.int .u8 0 :: Value.int .u8 0 :: Value.int .u8 0 :: Value.int .u8 0 :: Value.int .u8 0 :: Value.int .u8 0 :: Value.int .u8 0 :: Value.int .u8 0 :: Value.int .u8 0 :: Value.int .u8 0 :: Value.int .u8 0 :: Value.int .u8 0 :: Value.int .i64 0 :: Value.int .i64 0 :: Value.bool false :: Value.int .i64 0 :: Value.int .i64 0 :: [] : List Value)
def K13 : KeyV := ⟨4, 17, [10, 0, 0, 1, 0, 0, 0, 0, 0, 0, 0, 0, 0, 0, 0, 0], [10, 0, 0, 2, 0, 0, 0, 0, 0, 0, 0, 0, 0, 0, 0, 0], [.int .i64 0, .bool false, .int .i64 0, .int .i64 0]⟩
def K13s : KeyV := ⟨4, 132, [10, 0, 0, 1, 0, 0, 0, 0, 0, 0, 0, 0, 0, 0, 0, 0], [10, 0, 0, 2, 0, 0, 0, 0, 0, 0, 0, 0, 0, 0, 0, 0], [.int .i64 0, .bool false, .int .i64 0, .int .i64 0]⟩
def B9 : List Nat := [0, 53, 4, 1, 0, 9, 0, 0, 7]
theorem k13_ok : KeyOk K13 := ⟨rfl, rfl, by decide, by decide, rfl, by intro v hv; unfold K13 at hv; simp at hv; rcases hv with rfl | rfl | rfl <;> rfl⟩
theorem k13s_ok : KeyOk K13s := ⟨rfl, rfl, by decide, by decide, rfl, by intro v hv; unfold K13s at hv; simp at hv; rcases hv with rfl | rfl | rfl <;> rfl⟩
theorem k13_w : poWrong 4 17 9 = 0 := by decide
theorem k13_w7 : poWrong 4 17 7 = 2 := by decide
theorem k13s_w : poWrong 4 132 9 = 10 := by decide
theorem k13_sum : poSum K13 9 B9 = 8028 := by decide +kernel
theorem k13_sum7 : poSum K13 7 (B9.take 7) = 0 := by decide +kernel
theorem k13_len : (poSealV K13 9 B9).length = 9 := by decide +kernel
theorem k13_byte : ∀ x ∈ poSealV K13 9 B9, x < 256 := by decide +kernel
theorem k13_full : poSum K13 9 (poSealV K13 9 B9) = 65535 := by decide +kernel
theorem k13_set : K13.cells.set 33 (.int .i64 132) = K13s.cells := rfl
set_option maxRecDepth 10000 in
theorem key_stored (W : World) (X : List Value) (hX : X.length = 38) (hX1 : ∀ v ∈ X, v.oneCell' = true) :
    (storeCells ⟨W.heap.size, 0, none⟩ X).run Try.prog (W.alloc (.cells (Value.int .i64 0 :: Value.int .u8 0 :: Value.int .u8 0 :: Value.int .u8 0 :: Value.int .u8 0 :: Value.int .u8 0 :: Value.int .u8 0 :: Value.int .u8 0 :: Value.int .u8 0 :: Value.int .u8 0 :: Value.int .u8 0 :: Value.int .u8 0 :: Value.int .u8 0 :: Value.int .u8 0 :: Value.int .u8 0 :: Value.int .u8 0 :: Value.int .u8 0 :: Value.int .u8 0 :: Value.int .u8 0 :: Value.int .u8 0 :: Value.int .u8 0 :: Value.int .u8 0 :: Value.int .u8 0 :: Value.int .u8 0 :: Value.int .u8 0 :: Value.int .u8 0 :: Value.int .u8 0 :: Value.int .u8 0 :: Value.int .u8 0 :: Value.int .u8 0 :: Value.int .u8 0 :: Value.int .u8 0 :: Value.int .u8 0 :: Value.int .i64 0 :: Value.int .i64 0 :: Value.bool false :: Value.int .i64 0 :: Value.int .i64 0 :: [] : List Value).toArray 73)) = .ok () ((W.alloc (.cells (Value.int .i64 0 :: Value.int .u8 0 :: Value.int .u8 0 :: Value.int .u8 0 :: Value.int .u8 0 :: Value.int .u8 0 :: Value.int .u8 0 :: Value.int .u8 0 :: Value.int .u8 0 :: Value.int .u8 0 :: Value.int .u8 0 :: Value.int .u8 0 :: Value.int .u8 0 :: Value.int .u8 0 :: Value.int .u8 0 :: Value.int .u8 0 :: Value.int .u8 0 :: Value.int .u8 0 :: Value.int .u8 0 :: Value.int .u8 0 :: Value.int .u8 0 :: Value.int .u8 0 :: Value.int .u8 0 :: Value.int .u8 0 :: Value.int .u8 0 :: Value.int .u8 0 :: Value.int .u8 0 :: Value.int .u8 0 :: Value.int .u8 0 :: Value.int .u8 0 :: Value.int .u8 0 :: Value.int .u8 0 :: Value.int .u8 0 :: Value.int .i64 0 :: Value.int .i64 0 :: Value.bool false :: Value.int .i64 0 :: Value.int .i64 0 :: [] : List Value).toArray 73)).setCells W.heap.size 0 X) ∧
    ArrV 73 ((W.alloc (.cells (Value.int .i64 0 :: Value.int .u8 0 :: Value.int .u8 0 :: Value.int .u8 0 :: Value.int .u8 0 :: Value.int .u8 0 :: Value.int .u8 0 :: Value.int .u8 0 :: Value.int .u8 0 :: Value.int .u8 0 :: Value.int .u8 0 :: Value.int .u8 0 :: Value.int .u8 0 :: Value.int .u8 0 :: Value.int .u8 0 :: Value.int .u8 0 :: Value.int .u8 0 :: Value.int .u8 0 :: Value.int .u8 0 :: Value.int .u8 0 :: Value.int .u8 0 :: Value.int .u8 0 :: Value.int .u8 0 :: Value.int .u8 0 :: Value.int .u8 0 :: Value.int .u8 0 :: Value.int .u8 0 :: Value.int .u8 0 :: Value.int .u8 0 :: Value.int .u8 0 :: Value.int .u8 0 :: Value.int .u8 0 :: Value.int .u8 0 :: Value.int .i64 0 :: Value.int .i64 0 :: Value.bool false :: Value.int .i64 0 :: Value.int .i64 0 :: [] : List Value).toArray 73)).setCells W.heap.size 0 X) W.heap.size X ∧ Below W.heap.size W ((W.alloc (.cells (Value.int .i64 0 :: Value.int .u8 0 :: Value.int .u8 0 :: Value.int .u8 0 :: Value.int .u8 0 :: Value.int .u8 0 :: Value.int .u8 0 :: Value.int .u8 0 :: Value.int .u8 0 :: Value.int .u8 0 :: Value.int .u8 0 :: Value.int .u8 0 :: Value.int .u8 0 :: Value.int .u8 0 :: Value.int .u8 0 :: Value.int .u8 0 :: Value.int .u8 0 :: Value.int .u8 0 :: Value.int .u8 0 :: Value.int .u8 0 :: Value.int .u8 0 :: Value.int .u8 0 :: Value.int .u8 0 :: Value.int .u8 0 :: Value.int .u8 0 :: Value.int .u8 0 :: Value.int .u8 0 :: Value.int .u8 0 :: Value.int .u8 0 :: Value.int .u8 0 :: Value.int .u8 0 :: Value.int .u8 0 :: Value.int .u8 0 :: Value.int .i64 0 :: Value.int .i64 0 :: Value.bool false :: Value.int .i64 0 :: Value.int .i64 0 :: [] : List Value).toArray 73)).setCells W.heap.size 0 X) := by
  have h : ArrV 73 (W.alloc (.cells (Value.int .i64 0 :: Value.int .u8 0 :: Value.int .u8 0 :: Value.int .u8 0 :: Value.int .u8 0 :: Value.int .u8 0 :: Value.int .u8 0 :: Value.int .u8 0 :: Value.int .u8 0 :: Value.int .u8 0 :: Value.int .u8 0 :: Value.int .u8 0 :: Value.int .u8 0 :: Value.int .u8 0 :: Value.int .u8 0 :: Value.int .u8 0 :: Value.int .u8 0 :: Value.int .u8 0 :: Value.int .u8 0 :: Value.int .u8 0 :: Value.int .u8 0 :: Value.int .u8 0 :: Value.int .u8 0 :: Value.int .u8 0 :: Value.int .u8 0 :: Value.int .u8 0 :: Value.int .u8 0 :: Value.int .u8 0 :: Value.int .u8 0 :: Value.int .u8 0 :: Value.int .u8 0 :: Value.int .u8 0 :: Value.int .u8 0 :: Value.int .i64 0 :: Value.int .i64 0 :: Value.bool false :: Value.int .i64 0 :: Value.int .i64 0 :: [] : List Value).toArray 73)) W.heap.size keyZ := ArrV.new _ W keyZ
  exact ⟨h.stAll _ (by rw [hX]; rfl) hX1, h.store _ (by rw [hX]; rfl), setCells_below _ (Nat.le_refl _) _ _ _ ((Below.refl _ _).alloc (Nat.le_refl _) _)⟩
set_option maxRecDepth 10000 in
set_option maxHeartbeats 3200000 in
theorem sure13 (w : World) : Calls Try.prog 51 #[] w fun e w' => e = .returned (.bool true) ∧ Below w.heap.size w w' := by
  obtain ⟨hXl, hXo⟩ := k13_ok.all
  have CS : Hid (∀ (b o c : Nat) (W : World), Row W (some ⟨b, o, none⟩) 9 B9 → Calls Try.prog 47 #[.agg K13.cells.toArray, .slice (some ⟨b, o, none⟩) 9 c] W fun e w' => e = .returned (.tuple #[.int .u16 8028, .int .i64 0]) ∧ Below W.heap.size W w') := fun b o c W h => by
    have h2 := posum_any K13 k13_ok _ 9 c B9 W (by decide) h
    rw [k13_sum, show poWrong K13.v K13.p 9 = 0 from k13_w] at h2
    exact h2
  have CF : Hid (∀ (A : Option Addr) (c : Nat) (W : World), Row W A 9 (poSealV K13 9 B9) → Calls Try.prog 47 #[.agg K13.cells.toArray, .slice A 9 c] W fun e w' => e = .returned (.tuple #[.int .u16 65535, .int .i64 0]) ∧ Below W.heap.size W w') := fun A c W h => by
    have h2 := posum_any K13 k13_ok A 9 c _ W (by decide) h
    rw [k13_full, show poWrong K13.v K13.p 9 = 0 from k13_w] at h2
    exact h2
  have C7 : Hid (∀ (b o c : Nat) (W : World), Row W (some ⟨b, o, none⟩) 7 (B9.take 7) → Calls Try.prog 47 #[.agg K13.cells.toArray, .slice (some ⟨b, o, none⟩) 7 c] W fun e w' => e = .returned (.tuple #[.int .u16 0, .int .i64 2]) ∧ Below W.heap.size W w') := fun b o c W h => by
    have h2 := posum_any K13 k13_ok _ 7 c _ W (by decide) h
    rw [k13_sum7, show poWrong K13.v K13.p 7 = 2 from k13_w7] at h2
    exact h2
  have CE : Hid (∀ (b o c : Nat) (W : World), Row W (some ⟨b, o, none⟩) 9 B9 → Calls Try.prog 49 #[.agg K13.cells.toArray, .slice (some ⟨b, o, none⟩) 9 c] W fun e w' => ∃ A2 c2, e = .returned (.tuple #[.slice A2 9 c2, .int .i64 0]) ∧ Row w' A2 9 (poSealV K13 9 B9) ∧ Below W.heap.size W w') := fun b o c W h => by
    refine (poseal_any K13 k13_ok _ 9 c B9 W (by decide) h).mono ?_
    rintro e w' ⟨v, rfl, ho, hb⟩
    obtain ⟨A2, c2, rfl, _, _, r2⟩ := ho.out k13_byte
    rw [k13_len] at r2 ⊢
    exact ⟨A2, c2, rfl, r2, hb⟩
  have CX : Hid (∀ (b o c : Nat) (W : World), Row W (some ⟨b, o, none⟩) 9 B9 → Calls Try.prog 49 #[.agg K13s.cells.toArray, .slice (some ⟨b, o, none⟩) 9 c] W fun e w' => ∃ v2, e = .returned (.tuple #[v2, .int .i64 10]) ∧ Below W.heap.size W w') := fun b o c W h => by
    refine (poseal_any K13s k13s_ok _ 9 c B9 W (by decide) h).mono ?_
    rintro e w' ⟨v, rfl, ho, hb⟩
    exact ⟨v, rfl, hb⟩
  have hYl : K13s.cells.length = 38 := k13s_ok.all.1
  have hlit : (#[.int .i64 4, .int .u8 10, .int .u8 0, .int .u8 0, .int .u8 1, .int .u8 0, .int .u8 0, .int .u8 0, .int .u8 0, .int .u8 0, .int .u8 0, .int .u8 0, .int .u8 0, .int .u8 0, .int .u8 0, .int .u8 0, .int .u8 0, .int .u8 10, .int .u8 0, .int .u8 0, .int .u8 2, .int .u8 0, .int .u8 0, .int .u8 0, .int .u8 0, .int .u8 0, .int .u8 0, .int .u8 0, .int .u8 0, .int .u8 0, .int .u8 0, .int .u8 0, .int .u8 0, .int .i64 17, .int .i64 0, .bool false, .int .i64 0, .int .i64 0] : Array Value) = K13.cells.toArray := rfl
  have HS := Lib.hid k13_set
  obtain ⟨X, hX⟩ : ∃ X, X = K13.cells := ⟨_, rfl⟩
  obtain ⟨Y, hY⟩ : ∃ Y, Y = K13s.cells := ⟨_, rfl⟩
  rw [← hX] at hXl hXo CS CF C7 CE hlit HS
  rw [← hY] at CX hYl HS
  obtain ⟨hst, hA, hb⟩ := key_stored w X hXl hXo
  clear hX hY
  go_enter Try.func51, Try.ntmps51
  go_upto_region 2 with fail
  clear hst hlit
  obtain ⟨V, eV⟩ : ∃ V, V = (w.alloc (.cells (Value.int .i64 0 :: Value.int .u8 0 :: Value.int .u8 0 :: Value.int .u8 0 :: Value.int .u8 0 :: Value.int .u8 0 :: Value.int .u8 0 :: Value.int .u8 0 :: Value.int .u8 0 :: Value.int .u8 0 :: Value.int .u8 0 :: Value.int .u8 0 :: Value.int .u8 0 :: Value.int .u8 0 :: Value.int .u8 0 :: Value.int .u8 0 :: Value.int .u8 0 :: Value.int .u8 0 :: Value.int .u8 0 :: Value.int .u8 0 :: Value.int .u8 0 :: Value.int .u8 0 :: Value.int .u8 0 :: Value.int .u8 0 :: Value.int .u8 0 :: Value.int .u8 0 :: Value.int .u8 0 :: Value.int .u8 0 :: Value.int .u8 0 :: Value.int .u8 0 :: Value.int .u8 0 :: Value.int .u8 0 :: Value.int .u8 0 :: Value.int .i64 0 :: Value.int .i64 0 :: Value.bool false :: Value.int .i64 0 :: Value.int .i64 0 :: [] : List Value).toArray 73)).setCells w.heap.size 0 X := ⟨_, rfl⟩
  rw [← eV] at hA hb
  have A1 := Lib.hid hA
  have B1 := Lib.hid hb
  rw [← eV]
  obtain ⟨g1, hg1⟩ : ∃ g, g = w.heap.size := ⟨_, rfl⟩
  have HG1 : Hid (w.heap.size ≤ g1) := by show w.heap.size ≤ g1; rw [hg1]; exact Nat.le_refl _
  rw [← hg1] at A1 ⊢
  clear eV hA hb hg1
  go_upto_region 3 with fail
  obtain ⟨V2, eV⟩ : ∃ V2, V2 = V.alloc (.cells #[.int .u8 0, .int .u8 53, .int .u8 4, .int .u8 1, .int .u8 0, .int .u8 9, .int .u8 0, .int .u8 0, .int .u8 7] 5) := ⟨_, rfl⟩
  have hR : Row V2 (some ⟨V.heap.size, 0, none⟩) 9 B9 := by
    rw [eV]
    have h := (Own.new V B9).row (by decide)
    exact h
  have hO : Own V2 V.heap.size B9 := by rw [eV]; exact Own.new V B9
  have hbV : Below V.heap.size V V2 := by rw [eV]; exact (Below.refl _ _).alloc (Nat.le_refl _) _
  rw [← eV]
  obtain ⟨g2, hg2⟩ : ∃ g, g = V.heap.size := ⟨_, rfl⟩
  rw [← hg2] at hR hO ⊢
  have O2 := Lib.hid hO
  have R2 := Lib.hid hR
  have A2 := Lib.hid (A1.out.below hbV)
  have B2 := Lib.hid (below_both B1.out hbV)
  have HGG : Hid (g1 < g2) := by show g1 < g2; rw [hg2]; exact A1.out.lt
  clear eV hR hO hbV hg2 A1 B1
  refine wp_region_lit ?_
  go_wp2_with (refine wpList_load_v rfl 73 (.tmp 1) rfl _ rfl tykey A2.out hXl ?_)
  refine (CS.out _ _ _ _ R2.out).mono ?_
  rintro e w3 ⟨rfl, b3⟩
  have R3 := Lib.hid (R2.out.below b3)
  have O3 := Lib.hid (O2.out.below b3 O2.out.lt)
  have A3 := Lib.hid (A2.out.below b3)
  have B3 := Lib.hid (below_both B2.out b3)
  clear b3 R2 A2 B2 CS
  go_upto_region 4 with fail
  refine wp_region_lit ?_
  go_wp2_with (refine wpList_load_v rfl 73 (.tmp 1) rfl _ rfl tykey A3.out hXl ?_)
  refine (CE.out _ _ _ _ R3.out).mono ?_
  rintro e w4 ⟨A5, c5, rfl, r5, b4⟩
  have R4 := Lib.hid (R3.out.below b4)
  have O4 := Lib.hid (O3.out.below b4 O3.out.lt)
  have R5 := Lib.hid r5
  have A4 := Lib.hid (A3.out.below b4)
  have B4 := Lib.hid (below_both B3.out b4)
  clear b4 r5 R3 A3 B3 CE
  go_upto_region 5 with fail
  refine wp_region_lit ?_
  go_wp2_with (refine wpList_load_v rfl 73 (.tmp 1) rfl _ rfl tykey A4.out hXl ?_)
  refine (CF.out _ _ _ R5.out).mono ?_
  rintro e w5 ⟨rfl, b5⟩
  have R6 := Lib.hid (R4.out.below b5)
  have O6 := Lib.hid (O4.out.below b5 O4.out.lt)
  have A6 := Lib.hid (A4.out.below b5)
  have B6 := Lib.hid (below_both B4.out b5)
  clear b5 R4 R5 A4 B4 CF
  have R7 : Hid (Row w5 (some ⟨g2, 0, none⟩) 7 (B9.take 7)) := by
    have hp := R6.out.part 0 7 (by decide)
    rw [List.drop_zero, Nat.add_zero] at hp
    exact hp
  have w7 : IntKind.i64.wrap 7 = 7 := by decide
  go_upto_region 6 with fail
  refine wp_region_still_call 3 _ (by kernel_rfl) (by kernel_rfl) rfl ?_
  simp only [List.take_succ_cons, List.take_zero]
  refine wpStill_load_v rfl 73 (.tmp 1) rfl _ rfl tykey A6.out hXl ?_
  repeat still_step
  refine wpStill_nil ?_
  go_wp2_with fail
  refine (C7.out _ _ _ _ (by exact R7.out)).mono ?_
  rintro e w8 ⟨rfl, b8⟩
  have b8 : Below w5.heap.size w5 w8 := below_both (Below.refl w5.heap.size w5).drew b8
  have hA8 := A6.out.below b8
  have hA9 := hA8.set 33 (.int .i64 132)
  rw [HS.out] at hA9
  have c33 := hA8.get 33
  have f33 := hA8.frozen 33
  have hc : ∃ v, X[33]? = some v := ⟨_, List.getElem?_eq_getElem (by rw [hXl]; decide)⟩
  obtain ⟨v33, hc⟩ := hc
  rw [hc] at c33
  have A9 := Lib.hid hA9
  have R9 : Hid (Row (w8.setCell ⟨g1, 33, none⟩ (.int .i64 132)) (some ⟨g2, 0, none⟩) 9 B9) := by
    have ho := O6.out.below b8 O6.out.lt
    have h2 : Own (w8.setCell ⟨g1, 33, none⟩ (.int .i64 132)) g2 B9 := (heap_setCell_other w8 ⟨g1, 33, none⟩ g2 (.int .i64 132) (Nat.ne_of_gt HGG.out)).trans ho
    exact h2.row (by decide)
  have B8 := Lib.hid (below_both B6.out b8)
  clear b8 hA8 hA9 hc R6 A6 B6 R7 C7 w7 O2 O3 O4 O6
  go_wp2_with fail
  simp only [onlyN, List.drop_succ_cons, List.drop_zero]
  repeat still_step
  refine wpStill_nil ?_
  simp only [Exit.then]
  go_upto_region 8 with fail
  have B9' : Hid (Below w.heap.size w (w8.setCell ⟨g1, 33, none⟩ (.int .i64 132))) := B8.out.setCell (p := ⟨g1, 33, none⟩) HG1.out _
  clear c33 f33 B8
  refine wp_region_lit ?_
  go_wp2_with (refine wpList_load_v rfl 73 (.tmp 1) rfl _ rfl tykey A9.out hYl ?_)
  refine (CX.out _ _ _ _ R9.out).mono ?_
  rintro e w9 ⟨v9, rfl, b9⟩
  have B10 := Lib.hid (below_both B9'.out b9)
  clear b9
  go_wp2_with fail
  go_ret
  exact ⟨rfl, B10.out⟩
end Go.Proofs.Ytlopmkmcjcijcaa
