/-
  A block that is a row of 128 ints, known by what stands at each place.
-/
import Derived.Test.YtemgnaalmgkfiaaWid2
import Derived.Test.YtemgnaalmgkfiaaZc
import Derived.Deep.MidRow
namespace Go.Proofs.Ytemgnaalmgkfiaa
open Go.RowKit
set_option linter.unusedVariables false

def fcells (f : Nat → Nat) : List Value := (List.range 128).map fun j => Value.int .i64 ((f j : Nat) : Int)
theorem fcells_length (f : Nat → Nat) : (fcells f).length = 128 := by simp [fcells]
theorem fcells_get (f : Nat → Nat) (i : Nat) (h : i < 128) : (fcells f)[i]? = some (.int .i64 (f i : Nat)) := by simp [fcells, h]
theorem fcells_one (f : Nat → Nat) : ∀ v ∈ fcells f, v.oneCell' = true := by
  intro v hv
  simp only [fcells, List.mem_map] at hv
  obtain ⟨x, _, rfl⟩ := hv
  rfl
theorem fcells_congr {f g : Nat → Nat} (h : ∀ i, i < 128 → f i = g i) : fcells f = fcells g := by
  unfold fcells
  refine List.map_congr_left fun i hi => ?_
  rw [h i (List.mem_range.1 hi)]
def upd (f : Nat → Nat) (i x : Nat) : Nat → Nat := fun j => if j = i then x else f j

/-- Block g holds a row of 128 ints, f's values; it may be written. -/
structure Bl (w : World) (g : Nat) (f : Nat → Nat) : Prop where
  lt : g < w.heap.size
  cell : ∀ i, i < 128 → w.cell? ⟨g, i, none⟩ = some (.int .i64 (f i : Nat))
  free : ∀ i, w.frozen? ⟨g, i, none⟩ = false
theorem Bl.congr {w : World} {g : Nat} {f f' : Nat → Nat} (h : Bl w g f) (e : ∀ i, i < 128 → f i = f' i) : Bl w g f' := ⟨h.lt, fun i hi => by rw [← e i hi]; exact h.cell i hi, h.free⟩
theorem Bl.below {w w' : World} {g : Nat} {f : Nat → Nat} (h : Bl w g f) (hb : Below w.heap.size w w') : Bl w' g f :=
  ⟨Nat.lt_of_lt_of_le h.lt hb.size, fun i hi => (hb.cell (p := ⟨g, i, none⟩) h.lt).trans (h.cell i hi), fun i => (hb.frozen (p := ⟨g, i, none⟩) h.lt).trans (h.free i)⟩
theorem Bl.drew {w : World} {g : Nat} {f : Nat → Nat} (h : Bl w g f) : Bl w.drew g f := ⟨h.lt, h.cell, h.free⟩
theorem Bl.drewN {w : World} {g : Nat} {f : Nat → Nat} (h : Bl w g f) (n : Nat) : Bl (w.drewN n) g f := ⟨h.lt, h.cell, h.free⟩
theorem Bl.alloc {w : World} {g : Nat} {f : Nat → Nat} (h : Bl w g f) (o : Obj) : Bl (w.alloc o) g f := h.below ((Below.refl _ _).alloc (Nat.le_refl _) o)
theorem Bl.other {w : World} {g : Nat} {f : Nat → Nat} (h : Bl w g f) (a : Addr) (v : Value) (hne : a.block ≠ g) : Bl (w.setCell a v) g f :=
  ⟨by have := h.lt; simpa using this, fun i hi => (World.cell?_setCell_far w a ⟨g, i, none⟩ v hne).trans (h.cell i hi), fun i => (World.frozen?_setCell _ _ _ _).trans (h.free i)⟩
theorem Bl.set {w : World} {g : Nat} {f : Nat → Nat} (h : Bl w g f) (i x : Nat) (hi : i < 128) : Bl (w.setCell ⟨g, i, none⟩ (.int .i64 (x : Nat))) g (upd f i x) := by
  refine ⟨by have := h.lt; simpa using this, fun j hj => ?_, fun j => (World.frozen?_setCell _ _ _ _).trans (h.free j)⟩
  unfold upd
  by_cases e : j = i
  · subst e
    rw [if_pos rfl]
    exact World.cell?_setCell_same _ _ _ (h.cell j hj)
  · rw [if_neg e]
    exact (World.cell?_setCell_other w ⟨g, i, none⟩ ⟨g, j, none⟩ _ (by intro h; injection h with _ h; exact e h.symm)).trans (h.cell j hj)
theorem Bl.range {w : World} {g : Nat} {f : Nat → Nat} (h : Bl w g f) : w.rangeAt g 0 (fcells f) := fun j v hv => by
  have hj : j < 128 := by
    have := (List.getElem?_eq_some_iff.1 hv).1
    rwa [fcells_length] at this
  rw [fcells_get f j hj] at hv
  rw [Nat.zero_add, h.cell j hj]
  exact hv
theorem Bl.there {w : World} {g : Nat} {f : Nat → Nat} (h : Bl w g f) : w.there g 0 128 := fun j hj => by
  rw [Nat.zero_add]
  exact ⟨by rw [h.cell j hj]; rfl, h.free j⟩
theorem Bl.of_range {w : World} {g : Nat} {f : Nat → Nat} (h : w.rangeAt g 0 (fcells f)) (ht : w.there g 0 128) (hf : ∀ i, w.frozen? ⟨g, i, none⟩ = false) (hlt : g < w.heap.size) : Bl w g f :=
  ⟨hlt, fun i hi => by have := h i _ (fcells_get f i hi); rwa [Nat.zero_add] at this, hf⟩
theorem size_setCells (g : Nat) : ∀ (vs : List Value) (o : Nat) (w : World), (w.setCells g o vs).heap.size = w.heap.size
  | [], _, _ => rfl
  | v :: r, o, w => by
    rw [World.setCells, size_setCells g r (o + 1)]
    simp
/-- A whole row is stored. -/
theorem Bl.store {w : World} {g : Nat} {f : Nat → Nat} (h : Bl w g f) (f' : Nat → Nat) : Bl (w.setCells g 0 (fcells f')) g f' := by
  refine Bl.of_range (World.rangeAt_setCells_same w g 0 _ (by rw [fcells_length]; exact h.there)) (World.there_setCells h.there g 0 _) (fun i => by rw [World.frozen?_setCells]; exact h.free i) ?_
  rw [size_setCells]
  exact h.lt
theorem below_setCells {B : Nat} {a : World} (g : Nat) (hg : B ≤ g) : ∀ (vs : List Value) (o : Nat) (w : World), Below B a w → Below B a (w.setCells g o vs)
  | [], _, _, h => h
  | v :: r, o, w, h => by
    rw [World.setCells]
    exact below_setCells g hg r (o + 1) _ (h.setCell hg v)
theorem Bl.apart {w : World} {g b : Nat} {f : Nat → Nat} (h : Bl w g f) (vs : List Value) (hne : g ≠ b) : Bl (w.setCells b 0 vs) g f := by
  refine ⟨by rw [size_setCells]; exact h.lt, fun i hi => ?_, fun i => by rw [World.frozen?_setCells]; exact h.free i⟩
  rw [World.cell?_setCells_out b vs 0 w ⟨g, i, none⟩ (fun hb _ => absurd hb hne)]
  exact h.cell i hi
/-- A new row of zeros, or of what came in. -/
theorem Bl.new (w : World) (f : Nat → Nat) : Bl (w.alloc (.cells (fcells f).toArray 70)) w.heap.size f := by
  have h := heap_alloc_new w (.cells (fcells f).toArray 70)
  refine ⟨by simp, fun i hi => ?_, fun i => frozen_of_row _ w.heap.size i _ _ h⟩
  rw [cell_of_row _ w.heap.size i _ _ _ h]
  simp only [List.getElem?_toArray]
  exact fcells_get f i hi
theorem row_isRow : Try.prog.underlying 70 = some (.array 128 3) := Try.underlying70
theorem row_size : (Try.prog.info? 70).map (·.size) = some 128 := by kernel_rfl
theorem zero_row : Try.zeroCells70 = (fcells fun _ => 0).toArray := by kernel_rfl
theorem Bl.zero (w : World) : Bl (w.alloc (.cells Try.zeroCells70 70)) w.heap.size (fun _ => 0) := by
  rw [zero_row]
  exact Bl.new w _
theorem size_fcells (f : Nat → Nat) : (fcells f).toArray.size = 128 := by rw [List.size_toArray, fcells_length]
theorem Bl.loadVar {w : World} {g : Nat} {f : Nat → Nat} (h : Bl w g f) : (Go.loadVar 70 ⟨g, 0, none⟩).run Try.prog w = .ok (.agg (fcells f).toArray) w :=
  run_loadVar_mid w g 0 70 _ _ h.range row_isRow rfl (by rw [fcells_length]; exact row_size)
theorem Bl.loadAt {w : World} {g : Nat} {f : Nat → Nat} (h : Bl w g f) : (Instr.loadAt 70 (.pointer (some ⟨g, 0, none⟩))).run Try.prog w = .ok (.agg (fcells f).toArray) w :=
  run_loadAt_mid w g 0 70 _ _ h.range row_isRow rfl (by rw [fcells_length]; exact row_size)
theorem Bl.storeAt {w : World} {g : Nat} {f : Nat → Nat} (h : Bl w g f) (f' : Nat → Nat) :
    (Instr.storeAt 70 (.pointer (some ⟨g, 0, none⟩)) (.agg (fcells f').toArray)).run Try.prog w = .ok () (w.setCells g 0 (fcells f')) :=
  run_storeAt_mid w g 0 70 (fcells f').toArray (by rw [size_fcells]; exact h.there) (by rw [size_fcells]; exact row_size) (all_oneCell_toArray (fcells_one f'))
/-- The load and the store of a whole row, at the list of a plain region's operations. -/
theorem wpList_load_row {ops : Array Oper} {rest : List Oper} {op : Oper} {a : Act} {w : World} {Q : Exit → Act → World → Prop} (hgd : op.guard = none) (x : Operand) (ho : op.op = .load 70 x)
    (g : Nat) (hx : a.eval x = .pointer (some ⟨g, 0, none⟩)) {f : Nat → Nat} (h : Bl w g f) (hk : wpList Try.prog ops Q rest (a.put op.dst (.agg (fcells f).toArray)) w) : wpList Try.prog ops Q (op :: rest) a w :=
  wpList_load_mid hgd 70 x ho g 0 hx (fcells f) _ h.range row_isRow rfl (by rw [fcells_length]; exact row_size) hk
theorem wpList_store_row {ops : Array Oper} {rest : List Oper} {op : Oper} {a : Act} {w : World} {Q : Exit → Act → World → Prop} (hgd : op.guard = none) (x y : Operand) (ho : op.op = .store 70 x y)
    (g : Nat) (hx : a.eval x = .pointer (some ⟨g, 0, none⟩)) {f : Nat → Nat} (h : Bl w g f) (f' : Nat → Nat) (hy : a.eval y = .agg (fcells f').toArray)
    (hk : wpList Try.prog ops Q rest (a.put op.dst undef) (w.setCells g 0 (fcells f'))) : wpList Try.prog ops Q (op :: rest) a w :=
  wpList_store_mid hgd 70 x y ho g 0 (fcells f').toArray hx hy (by rw [size_fcells]; exact h.there) (by rw [size_fcells]; exact row_size) (all_oneCell_toArray (fcells_one f')) hk
/-- One result that lies in a variable. -/
theorem results_cell_is {P : Program} {fn : Func} {p : Tmp} {ty : TypeId} {tmps : Array Value} {w : World} {a : Addr} {v : Value} (h : fn.results = #[.cell p ty]) (hp : tmps.getD p undef = .pointer (some a))
    (hl : (Go.loadVar ty a).run P w = .ok v w) : (results fn tmps).run P w = .ok v w := by
  simp only [results, h]
  have hq : tmps[p]?.getD undef = .pointer (some a) := by rw [← hp]; simp
  simp [asAddr, hq, hl]
/-- 128 cells are there and may be written: a new row; behind a new block; behind a call. -/
theorem Bl.of_there {w : World} {g : Nat} (ht : w.there g 0 128) (hf : ∀ i, w.frozen? ⟨g, i, none⟩ = false) (f : Nat → Nat) : Bl (w.setCells g 0 (fcells f)) g f := by
  obtain ⟨u, hu⟩ := Option.isSome_iff_exists.1 (ht 0 (by decide)).1
  have hlt : g < w.heap.size := World.block_lt_of_cell? w _ hu
  refine Bl.of_range (World.rangeAt_setCells_same w g 0 _ (by rw [fcells_length]; exact ht)) (World.there_setCells ht g 0 _) (fun i => by rw [World.frozen?_setCells]; exact hf i) ?_
  rw [size_setCells]
  exact hlt
/-- A row of 128 ints is there, whatever it holds. -/
def Place (w : World) (g : Nat) : Prop := ∃ f, Bl w g f
theorem Place.new (w : World) : Place (w.alloc (.cells Try.zeroCells70 70)) w.heap.size := ⟨_, Bl.zero w⟩
theorem Place.new2 (w : World) (o : Obj) : Place ((w.alloc o).alloc (.cells Try.zeroCells70 70)) (w.heap.size + 1) := by
  have := Place.new (w.alloc o)
  simpa using this
theorem Place.alloc {w : World} {g : Nat} (h : Place w g) (o : Obj) : Place (w.alloc o) g := ⟨_, h.choose_spec.alloc o⟩
theorem Place.below {w w' : World} {g : Nat} (h : Place w g) (hb : Below w.heap.size w w') : Place w' g := ⟨_, h.choose_spec.below hb⟩
theorem Place.drew {w : World} {g : Nat} (h : Place w g) : Place w.drew g := ⟨_, h.choose_spec.drew⟩
theorem Place.store {w : World} {g : Nat} (h : Place w g) (f : Nat → Nat) : Bl (w.setCells g 0 (fcells f)) g f := h.choose_spec.store f
theorem Place.apart {w : World} {g b : Nat} (h : Place w g) (vs : List Value) (hne : g ≠ b) : Place (w.setCells b 0 vs) g := ⟨_, h.choose_spec.apart vs hne⟩
theorem Place.lt {w : World} {g : Nat} (h : Place w g) : g < w.heap.size := h.choose_spec.lt
theorem Place.any {w : World} {g b : Nat} (h : Place w g) (f : Nat → Nat) : Place (w.setCells b 0 (fcells f)) g := by
  by_cases e : g = b
  · subst e; exact ⟨_, h.store f⟩
  · exact h.apart _ e
theorem Place.newOld (w : World) (o : Obj) : Place ((w.alloc (.cells Try.zeroCells70 70)).alloc o) w.heap.size := (Place.new w).alloc o
theorem Place.newD (w : World) : Place ((w.alloc (.cells Try.zeroCells70 70)).drew) w.heap.size := (Place.new w).drew
theorem Place.newE (w : World) : Place (w.drew.alloc (.cells Try.zeroCells70 70)) w.heap.size := Place.new w.drew
theorem Place.newOldD (w : World) (o : Obj) : Place (((w.alloc (.cells Try.zeroCells70 70)).alloc o).drew) w.heap.size := (Place.newOld w o).drew
theorem Place.newOldE (w : World) (o : Obj) : Place ((w.drew.alloc (.cells Try.zeroCells70 70)).alloc o) w.heap.size := Place.newOld w.drew o
theorem Place.new2D (w : World) (o : Obj) : Place (((w.alloc o).alloc (.cells Try.zeroCells70 70)).drew) (w.heap.size + 1) := (Place.new2 w o).drew
theorem Place.new2E (w : World) (o : Obj) : Place ((w.drew.alloc o).alloc (.cells Try.zeroCells70 70)) (w.heap.size + 1) := Place.new2 w.drew o
/-- The same behind further blocks. -/
theorem Place.all {w : World} {g : Nat} (h : Place w g) : Place w g ∧ (∀ o, Place (w.alloc o) g) ∧ (∀ o o2, Place ((w.alloc o).alloc o2) g) := ⟨h, fun o => h.alloc o, fun o o2 => (h.alloc o).alloc o2⟩
/-- The world behind the store of a whole row. -/
@[irreducible] def stored (w : World) (g : Nat) (f : Nat → Nat) : World := w.setCells g 0 (fcells f)
theorem stored_eq (w : World) (g : Nat) (f : Nat → Nat) : stored w g f = w.setCells g 0 (fcells f) := by unfold stored; rfl
theorem Place.stored {w : World} {g b : Nat} (h : Place w g) (f : Nat → Nat) : Place (stored w b f) g := by rw [stored_eq]; exact h.any f
theorem Place.into {w : World} {g : Nat} (h : Place w g) (f : Nat → Nat) : Bl (Proofs.Ytemgnaalmgkfiaa.stored w g f) g f := by rw [stored_eq]; exact h.store f
theorem Bl.stored {w : World} {g b : Nat} {f : Nat → Nat} (h : Bl w g f) (f' : Nat → Nat) (hne : g ≠ b) : Bl (Proofs.Ytemgnaalmgkfiaa.stored w b f') g f := by rw [stored_eq]; exact h.apart _ hne
theorem below_stored {B : Nat} {a w : World} {g : Nat} (hg : B ≤ g) (h : Below B a w) (f : Nat → Nat) : Below B a (stored w g f) := by rw [stored_eq]; exact below_setCells g hg _ 0 w h
theorem run_storeCells_row (w : World) (g : Nat) (f : Nat → Nat) (h : Place w g) : Sem.run Try.prog (storeCells ⟨g, 0, none⟩ (fcells f)) w = .ok () (stored w g f) := by
  rw [stored_eq]
  obtain ⟨f0, hb⟩ := h
  have := run_storeCells_cells (P := Try.prog) g 0 (fcells f) 0 w (fun j hj => by rw [fcells_length] at hj; simpa using (hb.there j hj).1) (fun j hj => by rw [fcells_length] at hj; simpa using (hb.there j hj).2) (fcells_one f)
  simp only [Nat.add_zero] at this
  exact this
theorem run_store_row (w : World) (g : Nat) (f : Nat → Nat) (h : Place w g) :
    (Instr.storeAt 70 (.pointer (some ⟨g, 0, none⟩)) (.agg (fcells f).toArray)).run Try.prog w = .ok () (w.setCells g 0 (fcells f)) := h.choose_spec.storeAt f
end Go.Proofs.Ytemgnaalmgkfiaa
