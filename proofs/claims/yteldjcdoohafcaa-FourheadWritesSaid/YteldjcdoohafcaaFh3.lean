/-
  What All tells of a header that Read refuses.
-/
import Derived.Test.YteldjcdoohafcaaFh2
namespace Go.Proofs.Yteldjcdoohafcaa
open Go.RowKit
set_option linter.unusedVariables false

theorem fhval_len (n : Nat) (bs : List Nat) : (fhval n bs).length = 17 := by
  unfold fhval
  split <;> rfl
theorem fhval_one (n : Nat) (bs : List Nat) : ∀ v ∈ fhval n bs, v.oneCell' = true := by
  unfold fhval
  split
  · exact fhf_one bs
  · exact fhz_one
/-- The fields are stored into a new variable. -/
theorem four_stored (W : World) (X : List Value) (hX : X.length = 17) (hX1 : ∀ v ∈ X, v.oneCell' = true) :
    (storeCells ⟨W.heap.size, 0, none⟩ X).run Try.prog (W.alloc (.cells #[.int .i64 0, .int .i64 0, .int .i64 0, .int .i64 0, .int .i64 0, .int .i64 0, .int .i64 0, .int .i64 0, .int .i64 0, .int .u8 0, .int .u8 0, .int .u8 0, .int .u8 0, .int .u8 0, .int .u8 0, .int .u8 0, .int .u8 0] 25)) = .ok () ((W.alloc (.cells #[.int .i64 0, .int .i64 0, .int .i64 0, .int .i64 0, .int .i64 0, .int .i64 0, .int .i64 0, .int .i64 0, .int .i64 0, .int .u8 0, .int .u8 0, .int .u8 0, .int .u8 0, .int .u8 0, .int .u8 0, .int .u8 0, .int .u8 0] 25)).setCells W.heap.size 0 X) ∧
    ArrV 25 ((W.alloc (.cells #[.int .i64 0, .int .i64 0, .int .i64 0, .int .i64 0, .int .i64 0, .int .i64 0, .int .i64 0, .int .i64 0, .int .i64 0, .int .u8 0, .int .u8 0, .int .u8 0, .int .u8 0, .int .u8 0, .int .u8 0, .int .u8 0, .int .u8 0] 25)).setCells W.heap.size 0 X) W.heap.size X ∧ Below W.heap.size W ((W.alloc (.cells #[.int .i64 0, .int .i64 0, .int .i64 0, .int .i64 0, .int .i64 0, .int .i64 0, .int .i64 0, .int .i64 0, .int .i64 0, .int .u8 0, .int .u8 0, .int .u8 0, .int .u8 0, .int .u8 0, .int .u8 0, .int .u8 0, .int .u8 0] 25)).setCells W.heap.size 0 X) := by
  have h : ArrV 25 (W.alloc (.cells #[.int .i64 0, .int .i64 0, .int .i64 0, .int .i64 0, .int .i64 0, .int .i64 0, .int .i64 0, .int .i64 0, .int .i64 0, .int .u8 0, .int .u8 0, .int .u8 0, .int .u8 0, .int .u8 0, .int .u8 0, .int .u8 0, .int .u8 0] 25)) W.heap.size fhz := ArrV.new _ W fhz
  exact ⟨h.stAll _ (by rw [hX]; rfl) hX1, h.store _ (by rw [hX]; rfl), setCells_below _ (Nat.le_refl _) _ _ _ ((Below.refl _ _).alloc (Nat.le_refl _) _)⟩
set_option maxRecDepth 10000 in
set_option maxHeartbeats 3200000 in
theorem fhall_bad (A : Option Addr) (n c : Nat) (bs : List Nat) (w : World) (hn2 : n ≤ 140737488355328) (hc : n ≤ c) (hR : Row w A n bs) (hd : fhdef n bs ≠ 0) :
    Calls Try.prog 21 #[.slice A n c] w fun e w' => ∃ g, e = .returned (.slice (some ⟨g, 0, none⟩) 1 1) ∧ w'.cell? ⟨g, 0, none⟩ = some (.int .i64 (fhdef n bs : Nat)) ∧ Below w.heap.size w w' := by
  have C := Lib.hid (fhread_any A n c bs w hn2 hc hR)
  unfold ReadIs at C
  obtain ⟨X, hX⟩ : ∃ X, X = fhval n bs := ⟨_, rfl⟩
  have hXl : X.length = 17 := by rw [hX]; exact fhval_len n bs
  have hXo : ∀ v ∈ X, v.oneCell' = true := by rw [hX]; exact fhval_one n bs
  rw [← hX] at C
  obtain ⟨d, hdd⟩ : ∃ d, d = fhdef n bs := ⟨_, rfl⟩
  rw [← hdd] at C hd ⊢
  have d0 : ((d : Int) == 0) = false := by simp; omega
  clear hX hdd hR hn2 hc hd
  go_enter Try.func21, Try.ntmps21
  go_wp2_with fail
  refine C.out.mono ?_
  rintro e w1 ⟨rfl, b1⟩
  obtain ⟨hst, hA, hb⟩ := four_stored w1 X hXl hXo
  have B1 := Lib.hid (below_both b1 hb)
  clear b1 hA hb
  go_upto_region 2 with fail
  clear hst
  obtain ⟨W, eW⟩ : ∃ W, W = (w1.alloc (.cells #[.int .i64 0, .int .i64 0, .int .i64 0, .int .i64 0, .int .i64 0, .int .i64 0, .int .i64 0, .int .i64 0, .int .i64 0, .int .u8 0, .int .u8 0, .int .u8 0, .int .u8 0, .int .u8 0, .int .u8 0, .int .u8 0, .int .u8 0] 25)).setCells w1.heap.size 0 X := ⟨_, rfl⟩
  rw [← eW] at B1 ⊢
  clear eW
  have hN := new_cell W (.int .i64 (d : Nat)) 26 W.heap.size rfl
  go_wp2_with fail
  go_ret
  exact ⟨_, rfl, hN, B1.out.alloc B1.out.size _⟩
end Go.Proofs.Yteldjcdoohafcaa
