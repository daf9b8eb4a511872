/-
  Contracts of adjust's aligned and wordsAt.
-/
import Derived.Test.YtgpdghibkkgonaaAdj1
import Derived.Test.YtgpdghibkkgonaaAgree1
import Derived.Test.YtgpdghibkkgonaaOPlain3
namespace Go.Proofs.Ytgpdghibkkgonaa
open Go.RowKit
set_option linter.unusedVariables false

/-- The word at a place. -/
def wat (bs : List Nat) (i : Nat) : Nat := bs.getD i 0 * 256 + bs.getD (i + 1) 0
theorem wat_le {bs : List Nat} (h : ∀ x ∈ bs, x < 256) (i : Nat) : wat bs i ≤ 65535 := by
  have h1 := byte_at h i
  have h2 := byte_at h (i + 1)
  unfold wat
  omega
theorem be_two {bs : List Nat} {i : Nat} (h : i + 2 ≤ bs.length) : be ((bs.drop i).take 2) = wat bs i := by
  have e1 : bs.drop i = bs.getD i 0 :: bs.drop (i + 1) := by
    rw [List.drop_eq_getElem_cons (by omega), List.getD_eq_getElem?_getD, List.getElem?_eq_getElem (by omega)]; rfl
  have e2 : bs.drop (i + 1) = bs.getD (i + 1) 0 :: bs.drop (i + 1 + 1) := by
    rw [List.drop_eq_getElem_cons (by omega), List.getD_eq_getElem?_getD, List.getElem?_eq_getElem (by omega)]; rfl
  rw [e1, e2]
  simp [be, wat]
theorem aligned_yes (a : Nat) (w : World) (h : a % 2 = 0) : Calls Try.prog 69 #[.int .i64 a] w fun e w' => e = .returned (.bool true) ∧ w = w' := by
  have q : ((a : Int) % 2 == 0) = true := by simp; omega
  clear h
  go_enter Try.func69, Try.ntmps69
  go_wp2_with fail
  go_ret
  exact ⟨rfl, rfl⟩
theorem aligned_no (a : Int) (w : World) (h : a < 0 ∨ a % 2 ≠ 0) : Calls Try.prog 69 #[.int .i64 a] w fun e w' => e = .returned (.bool false) ∧ w = w' := by
  by_cases h0 : a < 0
  · clear h
    go_enter Try.func69, Try.ntmps69
    go_wp2_with fail
    go_ret
    exact ⟨rfl, rfl⟩
  · have h1 : 0 ≤ a := by omega
    have q : (a % 2 == 0) = false := by rw [beq_eq_false_iff_ne]; omega
    clear h h0
    go_enter Try.func69, Try.ntmps69
    go_wp2_with fail
    go_ret
    exact ⟨rfl, rfl⟩

theorem stays {w w' : World} {g : Nat} {o : Obj} (h : w.heap[g]? = some o) (hb : Below w.heap.size w w') : w'.heap[g]? = some o := by
  rcases Nat.lt_or_ge g w.heap.size with hlt | hge
  · exact (hb.block g hlt).trans h
  · rw [Array.getElem?_eq_none hge] at h; cases h
theorem below_laid2 (w : World) (o1 o2 : Obj) : Below w.heap.size w ((w.alloc o1).alloc o2) := ((Below.refl _ _).alloc (Nat.le_refl _) o1).alloc (by simp) o2
theorem idx_first (x y : Int) (w : World) : (Instr.index 60 (.agg #[.int .i64 x, .int .i64 y]) (.int .i64 0)).run Try.prog w = .ok (.int .i64 x) w := by
  simp [Instr.index, run_underlying Try.underlying60, asIntOf, go_sem]
theorem idx_second (x y : Int) (w : World) : (Instr.index 60 (.agg #[.int .i64 x, .int .i64 y]) (.int .i64 1)).run Try.prog w = .ok (.int .i64 y) w := by
  simp [Instr.index, run_underlying Try.underlying60, asIntOf, go_sem]
/-- What stands while wordsAt goes. -/
def AtInv (w : World) (x y : Nat) (W : World) : Prop :=
  W.heap[w.heap.size]? = some (.cells #[.int .u16 0, .int .u16 0] 38 (0, 0)) ∧ W.heap[w.heap.size + 1]? = some (.cells #[.int .u16 x, .int .u16 y] 38 (0, 0)) ∧ Below w.heap.size w W
theorem AtInv.below {w W W' : World} {x y : Nat} (h : AtInv w x y W) (hb : Below W.heap.size W W') : AtInv w x y W' := ⟨stays h.1 hb, stays h.2.1 hb, below_both h.2.2 hb⟩
theorem AtInv.first {w W : World} {x y : Nat} (h : AtInv w x y W) (z : Nat) : AtInv w z y (W.setCell ⟨w.heap.size + 1, 0, none⟩ (.int .u16 z)) := by
  have h1 := heap_setCell_same W (w.heap.size + 1) 0 _ _ (.int .u16 z) h.2.1
  exact ⟨(heap_setCell_other _ _ _ _ (by simp)).trans h.1, h1, h.2.2.setCell (by simp) _⟩
theorem AtInv.second {w W : World} {x y : Nat} (h : AtInv w x y W) (z : Nat) : AtInv w x z (W.setCell ⟨w.heap.size + 1, 1, none⟩ (.int .u16 z)) := by
  have h1 := heap_setCell_same W (w.heap.size + 1) 1 _ _ (.int .u16 z) h.2.1
  exact ⟨(heap_setCell_other _ _ _ _ (by simp)).trans h.1, h1, h.2.2.setCell (by simp) _⟩

set_option maxRecDepth 10000 in
theorem wordsAt_ok (A : Option Addr) (n cap f a : Nat) (bs : List Nat) (w : World) (hn : n ≤ 140737488355328) (hcap : n ≤ cap) (hf : f + 2 ≤ n) (ha : a + 2 ≤ n) (hA : Row w A n bs) :
    Calls Try.prog 70 #[.slice A n cap, .int .i64 f, .int .i64 a] w fun e w' => e = .returned (.tuple #[.agg #[.int .u16 (wat bs f), .int .u16 (wat bs a)], .int .i64 0]) ∧ Below w.heap.size w w' := by
  have hby := hA.2.1
  have hlen := hA.len
  obtain ⟨x, hx⟩ : ∃ x, x = wat bs f := ⟨_, rfl⟩
  obtain ⟨y, hy⟩ : ∃ y, y = wat bs a := ⟨_, rfl⟩
  have hxl : x ≤ 65535 := by rw [hx]; exact wat_le hby f
  have hyl : y ≤ 65535 := by rw [hy]; exact wat_le hby a
  have C1 : Hid (∀ w', Below w.heap.size w w' → Calls Try.prog 52 #[.slice A n cap, .int .i64 f, .int .i64 2] w' fun e w'' => e = .returned (.tuple #[.int .u64 x, .int .i64 0]) ∧ w' = w'') := fun w' hb => by
    have h := get_ok A n cap f 2 bs w' (by omega) hcap (by decide) (by decide) hf (hA.below hb)
    rw [be_two (by omega), ← hx] at h
    exact h
  have C2 : Hid (∀ w', Below w.heap.size w w' → Calls Try.prog 52 #[.slice A n cap, .int .i64 a, .int .i64 2] w' fun e w'' => e = .returned (.tuple #[.int .u64 y, .int .i64 0]) ∧ w' = w'') := fun w' hb => by
    have h := get_ok A n cap a 2 bs w' (by omega) hcap (by decide) (by decide) ha (hA.below hb)
    rw [be_two (by omega), ← hy] at h
    exact h
  rw [← hx, ← hy]
  clear hx hy hby hlen
  go_enter Try.func70, Try.ntmps70
  go_wp2_with fail
  go_loopw [16] (fun j wr => (j = .int .i64 0 ∧ AtInv w 0 0 wr) ∨ (j = .int .i64 1 ∧ AtInv w x 0 wr) ∨ (j = .int .i64 2 ∧ AtInv w x y wr)) (fun j _ => 2 - (intOf j).toNat)
  case atStart => exact .inl ⟨rfl, heap_alloc2_old _ _ _, heap_alloc2_new _ _ _, below_laid2 _ _ _⟩
  case round =>
    rcases hrel with ⟨rfl, hi⟩ | ⟨rfl, hi⟩ | ⟨rfl, hi⟩
    · have HI := Lib.hid hi
      have f0 := frozen_of_row wr (w.heap.size + 1) 0 _ _ HI.out.2.1
      have c0 := cell_of_row wr (w.heap.size + 1) 0 _ _ _ HI.out.2.1
      simp at c0
      have hix := idx_first (f : Int) (a : Int)
      clear hi
      go_wp2_with fail
      refine (C1.out _ HI.out.2.2).mono ?_
      rintro e w' ⟨rfl, rfl⟩
      go_wp2_with fail
      go_roundw
      case rel => exact .inr (.inl ⟨rfl, HI.out.first x⟩)
      case measure => simp [intOf]
    · have HI := Lib.hid hi
      have f0 := frozen_of_row wr (w.heap.size + 1) 1 _ _ HI.out.2.1
      have c0 := cell_of_row wr (w.heap.size + 1) 1 _ _ _ HI.out.2.1
      simp at c0
      have hix := idx_second (f : Int) (a : Int)
      clear hi
      go_wp2_with fail
      refine (C2.out _ HI.out.2.2).mono ?_
      rintro e w' ⟨rfl, rfl⟩
      go_wp2_with fail
      go_roundw
      case rel => exact .inr (.inr ⟨rfl, HI.out.second y⟩)
      case measure => simp [intOf]
    · have HI := Lib.hid hi
      have c0 := cell_of_row wr (w.heap.size + 1) 0 _ _ _ HI.out.2.1
      have c1 := cell_of_row wr (w.heap.size + 1) 1 _ _ _ HI.out.2.1
      have r0 := cell_of_row wr w.heap.size 0 _ _ _ HI.out.1
      have r1 := cell_of_row wr w.heap.size 1 _ _ _ HI.out.1
      have fr0 := frozen_of_row wr w.heap.size 0 _ _ HI.out.1
      have fr1 := frozen_of_row wr w.heap.size 1 _ _ HI.out.1
      simp at c0 c1 r0 r1
      have h1 := heap_setCell_same wr w.heap.size 0 _ _ (.int .u16 x) HI.out.1
      have h2 := heap_setCell_same _ w.heap.size 1 _ _ (.int .u16 y) h1
      have t0 := cell_of_row _ w.heap.size 0 _ _ _ h2
      have t1 := cell_of_row _ w.heap.size 1 _ _ _ h2
      simp at t0 t1
      clear hi h1 h2
      go_wp2_with fail
      exact bodyPost_ret (v := .tuple #[.agg #[.int .u16 x, .int .u16 y], .int .i64 0]) (by simp [results, Try.results70, go_sem, t0, t1]) rfl ⟨rfl, (HI.out.2.2.setCell (Nat.le_refl _) _).setCell (Nat.le_refl _) _⟩
set_option maxRecDepth 10000 in
theorem wordsAt_first (A : Option Addr) (n cap f a : Nat) (w : World) (hn : n ≤ 140737488355328) (hf : n < f + 2) (hf2 : f ≤ 9223372036854775807) :
    Calls Try.prog 70 #[.slice A n cap, .int .i64 f, .int .i64 a] w fun e w' => e = .returned (.tuple #[.agg #[.int .u16 0, .int .u16 0], .int .i64 2]) ∧ Below w.heap.size w w' := by
  have C1 := Lib.hid (fun w => get_short A n cap f 2 w (by omega) (by omega) (by decide) (by decide) (by omega))
  go_enter Try.func70, Try.ntmps70
  go_wp2_with fail
  go_loopw [16] (fun j wr => j = .int .i64 0 ∧ AtInv w 0 0 wr) (fun j _ => 2 - (intOf j).toNat)
  case atStart => exact ⟨rfl, heap_alloc2_old _ _ _, heap_alloc2_new _ _ _, below_laid2 _ _ _⟩
  case round =>
    obtain ⟨rfl, hi⟩ := hrel
    have HI := Lib.hid hi
    have hix := idx_first (f : Int) (a : Int)
    have r0 := cell_of_row wr w.heap.size 0 _ _ _ HI.out.1
    have r1 := cell_of_row wr w.heap.size 1 _ _ _ HI.out.1
    have fr0 := frozen_of_row wr w.heap.size 0 _ _ HI.out.1
    have fr1 := frozen_of_row wr w.heap.size 1 _ _ HI.out.1
    simp at r0 r1
    have h1 := heap_setCell_same wr w.heap.size 0 _ _ (.int .u16 0) HI.out.1
    have h2 := heap_setCell_same _ w.heap.size 1 _ _ (.int .u16 0) h1
    have t0 := cell_of_row _ w.heap.size 0 _ _ _ h2
    have t1 := cell_of_row _ w.heap.size 1 _ _ _ h2
    simp at t0 t1
    clear hi h1 h2 hf hf2
    go_wp2_with fail
    refine (C1.out _).mono ?_
    rintro e w' ⟨rfl, rfl⟩
    go_wp2_with fail
    exact bodyPost_ret (v := .tuple #[.agg #[.int .u16 0, .int .u16 0], .int .i64 2]) (by simp [results, Try.results70, go_sem, t0, t1]) rfl ⟨rfl, (HI.out.2.2.setCell (Nat.le_refl _) _).setCell (Nat.le_refl _) _⟩
set_option maxRecDepth 10000 in
theorem wordsAt_second (A : Option Addr) (n cap f a : Nat) (bs : List Nat) (w : World) (hn : n ≤ 140737488355328) (hcap : n ≤ cap) (hf : f + 2 ≤ n) (ha : n < a + 2) (ha2 : a ≤ 9223372036854775807) (hA : Row w A n bs) :
    Calls Try.prog 70 #[.slice A n cap, .int .i64 f, .int .i64 a] w fun e w' => e = .returned (.tuple #[.agg #[.int .u16 0, .int .u16 0], .int .i64 2]) ∧ Below w.heap.size w w' := by
  have hby := hA.2.1
  have hlen := hA.len
  obtain ⟨x, hx⟩ : ∃ x, x = wat bs f := ⟨_, rfl⟩
  have hxl : x ≤ 65535 := by rw [hx]; exact wat_le hby f
  have C1 : Hid (∀ w', Below w.heap.size w w' → Calls Try.prog 52 #[.slice A n cap, .int .i64 f, .int .i64 2] w' fun e w'' => e = .returned (.tuple #[.int .u64 x, .int .i64 0]) ∧ w' = w'') := fun w' hb => by
    have h := get_ok A n cap f 2 bs w' (by omega) hcap (by decide) (by decide) hf (hA.below hb)
    rw [be_two (by omega), ← hx] at h
    exact h
  have C2 := Lib.hid (fun w => get_short A n cap a 2 w (by omega) (by omega) (by decide) (by decide) (by omega))
  clear hx hby hlen
  go_enter Try.func70, Try.ntmps70
  go_wp2_with fail
  go_loopw [16] (fun j wr => (j = .int .i64 0 ∧ AtInv w 0 0 wr) ∨ (j = .int .i64 1 ∧ AtInv w x 0 wr)) (fun j _ => 2 - (intOf j).toNat)
  case atStart => exact .inl ⟨rfl, heap_alloc2_old _ _ _, heap_alloc2_new _ _ _, below_laid2 _ _ _⟩
  case round =>
    rcases hrel with ⟨rfl, hi⟩ | ⟨rfl, hi⟩
    · have HI := Lib.hid hi
      have f0 := frozen_of_row wr (w.heap.size + 1) 0 _ _ HI.out.2.1
      have c0 := cell_of_row wr (w.heap.size + 1) 0 _ _ _ HI.out.2.1
      simp at c0
      have hix := idx_first (f : Int) (a : Int)
      clear hi
      go_wp2_with fail
      refine (C1.out _ HI.out.2.2).mono ?_
      rintro e w' ⟨rfl, rfl⟩
      go_wp2_with fail
      go_roundw
      case rel => exact .inr ⟨rfl, HI.out.first x⟩
      case measure => simp [intOf]
    · have HI := Lib.hid hi
      have hix := idx_second (f : Int) (a : Int)
      have r0 := cell_of_row wr w.heap.size 0 _ _ _ HI.out.1
      have r1 := cell_of_row wr w.heap.size 1 _ _ _ HI.out.1
      have fr0 := frozen_of_row wr w.heap.size 0 _ _ HI.out.1
      have fr1 := frozen_of_row wr w.heap.size 1 _ _ HI.out.1
      simp at r0 r1
      have h1 := heap_setCell_same wr w.heap.size 0 _ _ (.int .u16 0) HI.out.1
      have h2 := heap_setCell_same _ w.heap.size 1 _ _ (.int .u16 0) h1
      have t0 := cell_of_row _ w.heap.size 0 _ _ _ h2
      have t1 := cell_of_row _ w.heap.size 1 _ _ _ h2
      simp at t0 t1
      clear hi h1 h2
      go_wp2_with fail
      refine (C2.out _).mono ?_
      rintro e w' ⟨rfl, rfl⟩
      go_wp2_with fail
      exact bodyPost_ret (v := .tuple #[.agg #[.int .u16 0, .int .u16 0], .int .i64 2]) (by simp [results, Try.results70, go_sem, t0, t1]) rfl ⟨rfl, (HI.out.2.2.setCell (Nat.le_refl _) _).setCell (Nat.le_refl _) _⟩
end Go.Proofs.Ytgpdghibkkgonaa
