/-
  The rows of the document's Add and Sub, while they go.
-/
import Derived.Test.YtemgnaalmgkfiaaRef2b
namespace Go.Proofs.Ytemgnaalmgkfiaa
open Go.RowKit
set_option linter.unusedVariables false
attribute [local go_sem ↓] Go.wp_at_zero Go.wp_at_succ
attribute [local go_sem] World.cell?_alloc_some fcells_length run_storeCells_row Place.new Place.new2 Place.newOld Place.stored

/-- The two boxes of the arguments; nothing below v's blocks is touched. -/
structure KC (v : World) (g a b c d : Nat) (W : World) : Prop where
  a0 : W.cell? ⟨g, 0, none⟩ = some (.int .u64 a)
  a1 : W.cell? ⟨g, 1, none⟩ = some (.int .u64 b)
  c0 : W.cell? ⟨g + 1, 0, none⟩ = some (.int .u64 c)
  c1 : W.cell? ⟨g + 1, 1, none⟩ = some (.int .u64 d)
  below : Below v.heap.size v W
  size : v.heap.size ≤ W.heap.size
theorem KC.drew {v W : World} {g a b c d : Nat} (h : KC v g a b c d W) : KC v g a b c d W.drew := ⟨h.a0, h.a1, h.c0, h.c1, h.below.drew, h.size⟩
theorem KC.of {v W W' : World} {g a b c d : Nat} (h : KC v g a b c d W) (hb : Below W.heap.size W W') : KC v g a b c d W' :=
  ⟨carry h.a0 hb, carry h.a1 hb, carry h.c0 hb, carry h.c1 hb, below_both h.below hb, Nat.le_trans h.size hb.size⟩
theorem KC.alloc {v W : World} {g a b c d : Nat} (h : KC v g a b c d W) (o : Obj) : KC v g a b c d (W.alloc o) := h.of ((Below.refl _ _).alloc (Nat.le_refl _) o)

/-- The first i places hold the sum's bits, the others the first number's. -/
def mixRow (S A i : Nat) : Nat → Nat := fun j => if j < i then bit S j else bit A j
theorem mixRow_step (S A i : Nat) : ∀ j, j < 128 → upd (mixRow S A i) i (bit S i) j = mixRow S A (i + 1) j := by
  intro j hj
  unfold upd mixRow
  by_cases h : j = i
  · subst h; rw [if_pos rfl, if_pos (by omega)]
  · rw [if_neg h]
    have e : (j < i + 1) ↔ (j < i) := by omega
    simp only [e]
/-- What stands while Add goes. -/
structure AInv (v : World) (r g1 g2 S A B i : Nat) (W : World) : Prop where
  one : Bl W g1 (mixRow S A i)
  two : Bl W g2 (bit B)
  out : W.heap[r]? = some (.cells #[.int .u64 0, .int .u64 0] 42 (0, 0))
  below : Below v.heap.size v W
theorem AInv.drewN {v W : World} {r g1 g2 S A B i : Nat} (h : AInv v r g1 g2 S A B i W) (n : Nat) : AInv v r g1 g2 S A B i (W.drewN n) := ⟨h.one.drewN n, h.two.drewN n, h.out, below_drewN' h.below n⟩
theorem AInv.step {v W : World} {r g1 g2 S A B i x : Nat} (h : AInv v r g1 g2 S A B i W) (hi : i < 128) (hx : x = bit S i) (h1 : v.heap.size ≤ g1) (hr : r < v.heap.size) (hne : g1 ≠ g2) :
    AInv v r g1 g2 S A B (i + 1) (W.setCell ⟨g1, i, none⟩ (.int .i64 (x : Nat))) := by
  subst hx
  exact ⟨(h.one.set i _ hi).congr (mixRow_step S A i), h.two.other _ _ hne, (heap_setCell_other _ _ _ _ (by show r ≠ g1; omega)).trans h.out, h.below.setCell h1 _⟩
theorem KC.start3 (w : World) (a b c d : Nat) (o : Obj) : KC (((w.alloc (.cells #[.int .u64 a, .int .u64 b] 42)).alloc (.cells #[.int .u64 c, .int .u64 d] 42)).alloc o) w.heap.size a b c d
    (((w.alloc (.cells #[.int .u64 a, .int .u64 b] 42)).alloc (.cells #[.int .u64 c, .int .u64 d] 42)).alloc o) where
  a0 := carry (w := (w.alloc (.cells #[.int .u64 a, .int .u64 b] 42)).alloc (.cells #[.int .u64 c, .int .u64 d] 42)) (by simp) ((Below.refl _ _).alloc (Nat.le_refl _) _)
  a1 := carry (w := (w.alloc (.cells #[.int .u64 a, .int .u64 b] 42)).alloc (.cells #[.int .u64 c, .int .u64 d] 42)) (by simp) ((Below.refl _ _).alloc (Nat.le_refl _) _)
  c0 := carry (w := (w.alloc (.cells #[.int .u64 a, .int .u64 b] 42)).alloc (.cells #[.int .u64 c, .int .u64 d] 42)) (by simp) ((Below.refl _ _).alloc (Nat.le_refl _) _)
  c1 := carry (w := (w.alloc (.cells #[.int .u64 a, .int .u64 b] 42)).alloc (.cells #[.int .u64 c, .int .u64 d] 42)) (by simp) ((Below.refl _ _).alloc (Nat.le_refl _) _)
  below := Below.refl _ _
  size := Nat.le_refl _
theorem third_block (w : World) (A B o : Obj) : (((w.alloc A).alloc B).alloc o).heap[w.heap.size + 1 + 1]? = some o := by
  have h := heap_alloc_new ((w.alloc A).alloc B) o
  have e : ((w.alloc A).alloc B).heap.size = w.heap.size + 1 + 1 := by simp
  rw [e] at h
  exact h
theorem wide_load {W : World} {g : Nat} {x y : Value} (h : W.heap[g]? = some (.cells #[x, y] 42 (0, 0))) : (Go.loadVar 42 ⟨g, 0, none⟩).run Try.prog W = .ok (.agg #[x, y]) W :=
  run_loadVar_row W g 42 42 _ (0, 0) _ h Try.underlying42 rfl (by kernel_rfl)
theorem results_cell_tmp_is {P : Program} {fn : Func} {p u : Tmp} {ty : TypeId} {tmps : Array Value} {w : World} {a : Addr} {v : Value} (h : fn.results = #[.cell p ty, .tmp u]) (hp : tmps.getD p undef = .pointer (some a))
    (hl : (Go.loadVar ty a).run P w = .ok v w) : (results fn tmps).run P w = .ok (.tuple #[v, tmps.getD u undef]) w := by
  rw [results_cell_tmp h, hp]
  simp [asAddr, hl]
end Go.Proofs.Ytemgnaalmgkfiaa
