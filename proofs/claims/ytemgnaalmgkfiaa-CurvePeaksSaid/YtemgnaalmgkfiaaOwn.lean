/-
  A block of bytes that the call itself made, known whole ('Own w g bs'), and what stores do to it; bytes laid over bytes ('splice').
-/
import Derived.Test.YtemgnaalmgkfiaaBase
import Derived.Test.YtemgnaalmgkfiaaPlain
import Derived.Laws.CopyOwn
import Derived.Deep.OwnRows
import Derived.Laws.BytesArg
namespace Go.Proofs.Ytemgnaalmgkfiaa
open Go.RowKit
set_option linter.unusedVariables false

def bcells (bs : List Nat) : List Value := bs.map fun x => Value.int .u8 (x : Nat)
theorem bcells_length (bs : List Nat) : (bcells bs).length = bs.length := by simp [bcells]
theorem bcells_one (bs : List Nat) : ∀ v ∈ bcells bs, v.oneCell' = true := by
  intro v hv
  simp only [bcells, List.mem_map] at hv
  obtain ⟨x, _, rfl⟩ := hv
  rfl
theorem bcells_get {bs : List Nat} {j : Nat} {v : Value} (h : (bcells bs)[j]? = some v) : j < bs.length ∧ v = .int .u8 (bs.getD j 0 : Nat) := by
  have hj : j < bs.length := by
    rcases Nat.lt_or_ge j bs.length with hj | hj
    · exact hj
    · rw [List.getElem?_eq_none (by rw [bcells_length]; exact hj)] at h; cases h
  refine ⟨hj, ?_⟩
  simp only [bcells, List.getElem?_map, List.getElem?_eq_getElem hj, Option.map_some] at h
  rw [List.getD_eq_getElem?_getD, List.getElem?_eq_getElem hj]
  injection h with h
  exact h.symm

/-- Block g is the bytes bs, whole, and may be written. -/
def Own (w : World) (g : Nat) (bs : List Nat) : Prop := w.heap[g]? = some (.cells (bcells bs).toArray 5 (0, 0))

theorem Own.lt {w : World} {g : Nat} {bs : List Nat} (h : Own w g bs) : g < w.heap.size := by
  rcases Nat.lt_or_ge g w.heap.size with hlt | hge
  · exact hlt
  · unfold Own at h; rw [Array.getElem?_eq_none hge] at h; cases h
theorem Own.cell {w : World} {g : Nat} {bs : List Nat} (h : Own w g bs) (i : Nat) (hi : i < bs.length) : w.cell? ⟨g, i, none⟩ = some (.int .u8 (bs.getD i 0 : Nat)) := by
  rw [cell_of_row w g i _ _ _ h]
  simp [bcells, hi]
theorem Own.frozen {w : World} {g : Nat} {bs : List Nat} (h : Own w g bs) (i : Nat) : w.frozen? ⟨g, i, none⟩ = false := frozen_of_row w g i _ _ h
theorem Own.row {w : World} {g : Nat} {bs : List Nat} (h : Own w g bs) (hb : ∀ x ∈ bs, x < 256) : Row w (some ⟨g, 0, none⟩) bs.length bs :=
  Row.mk rfl hb fun i hi => by rw [Nat.zero_add]; exact h.cell i hi
theorem Own.below {B : Nat} {w w' : World} {g : Nat} {bs : List Nat} (h : Own w g bs) (hb : Below B w w') (hg : g < B) : Own w' g bs := (hb.block g hg).trans h
theorem Own.drewN {w : World} {g : Nat} {bs : List Nat} (h : Own w g bs) (k : Nat) : Own (w.drewN k) g bs := h
theorem Own.new (w : World) (bs : List Nat) : Own (w.alloc (.cells (bcells bs).toArray 5)) w.heap.size bs := heap_alloc_new w _
theorem Own.alloc {w : World} {g : Nat} {bs : List Nat} (h : Own w g bs) (o : Obj) : Own (w.alloc o) g bs := (Below.heap_alloc w o g h.lt).trans h
theorem Own.set {w : World} {g : Nat} {bs : List Nat} (h : Own w g bs) (i : Nat) (x : Nat) : Own (w.setCell ⟨g, i, none⟩ (.int .u8 (x : Nat))) g (bs.set i x) := by
  have h1 := heap_setCell_same w g i _ _ (.int .u8 (x : Nat)) h
  unfold Own
  rw [h1]
  simp [bcells, List.map_set]

theorem splice_take {bs l : List Nat} {a k : Nat} (h : a + l.length ≤ bs.length) (hk : k < l.length) : (splice bs a (l.take k)).set (a + k) (l.getD k 0) = splice bs a (l.take (k + 1)) := by
  have e1 : (bs.take a).length = a := by rw [List.length_take]; omega
  have e2 : (l.take k).length = k := by rw [List.length_take]; omega
  have e3 : (l.take (k + 1)).length = k + 1 := by rw [List.length_take]; omega
  unfold splice
  rw [e2, e3, List.set_append_right (h := by omega), e1, Nat.add_sub_cancel_left, List.set_append_right (h := by omega), e2, Nat.sub_self, take_succ_getD l k hk]
  have e4 : bs.drop (a + k) = bs.getD (a + k) 0 :: bs.drop (a + (k + 1)) := by
    rw [List.drop_eq_getElem_cons (by omega), List.getD_eq_getElem?_getD, List.getElem?_eq_getElem (by omega)]
    rfl
  rw [e4, List.set_cons_zero]
  simp
theorem splice_drop {bs l : List Nat} {a i : Nat} (h : a + l.length ≤ bs.length) (hi : i < l.length) : (splice bs (a + (i + 1)) (l.drop (i + 1))).set (a + i) (l.getD i 0) = splice bs (a + i) (l.drop i) := by
  have e1 : (bs.take (a + (i + 1))).length = a + (i + 1) := by rw [List.length_take]; omega
  have e2 : (bs.take (a + i)).length = a + i := by rw [List.length_take]; omega
  unfold splice
  rw [List.set_append_left (h := by omega), take_succ_getD bs (a + i) (by omega) |> fun h => (show bs.take (a + (i + 1)) = _ from h), List.set_append_right (h := by omega), e2, Nat.sub_self, List.set_cons_zero,
    List.length_drop, List.length_drop, show a + (i + 1) + (l.length - (i + 1)) = a + i + (l.length - i) from by omega]
  have e4 : l.drop i = l.getD i 0 :: l.drop (i + 1) := by
    rw [List.drop_eq_getElem_cons hi, List.getD_eq_getElem?_getD, List.getElem?_eq_getElem hi]
    rfl
  rw [e4]
  simp
theorem splice_length {bs l : List Nat} {a : Nat} (h : a + l.length ≤ bs.length) : (splice bs a l).length = bs.length := length_splice bs a l h
theorem splice_nil (bs : List Nat) (a : Nat) : splice bs a [] = bs := by simp [splice]
theorem splice_whole {α : Type} (L cs : List α) (h : L.length = cs.length) : splice L 0 cs = cs := by simp [splice, h]
theorem splice_byte {bs l : List Nat} {a : Nat} (h1 : ∀ x ∈ bs, x < 256) (h2 : ∀ x ∈ l, x < 256) : ∀ x ∈ splice bs a l, x < 256 := by
  intro x hx
  simp only [splice, List.mem_append] at hx
  rcases hx with hx | hx | hx
  · exact h1 x (List.mem_of_mem_take hx)
  · exact h2 x hx
  · exact h1 x (List.mem_of_mem_drop hx)

theorem u8_info : (Try.prog.info? 5).map (fun i => (i.zero, i.size, i.bytes)) = some (some (.int .u8 0), 1, 1) := by kernel_rfl
theorem u8_size : (Try.prog.info? 5).map (·.size) = some 1 := by kernel_rfl
theorem made_zero (n : Nat) : madeCells #[Value.int .u8 0] n = (bcells (List.replicate n 0)).toArray := by
  apply Array.ext
  · simp [madeCells, bcells]
  · intro i h1 h2
    simp [madeCells, bcells, Nat.mod_one]
/-- A byte slice that the call itself appends to: it reads as bs and lies in blocks from B on. -/
def OutIs (B : Nat) (w : World) (v : Value) (bs : List Nat) : Prop := w.ownsRow B 5 1 v bs.length (bcells bs)
theorem OutIs.nil (B : Nat) (w : World) : OutIs B w (.slice none 0 0) [] := World.ownsRow_nil _ _ _ _
theorem OutIs.drewN {B : Nat} {w : World} {v : Value} {bs : List Nat} (h : OutIs B w v bs) (k : Nat) : OutIs B (w.drewN k) v bs := h
theorem OutIs.alloc {B : Nat} {w : World} {v : Value} {bs : List Nat} (h : OutIs B w v bs) (o : Obj) : OutIs B (w.alloc o) v bs := World.ownsRow.alloc h o
/-- It is a slice of that length, and reads as these bytes. -/
theorem OutIs.out {B : Nat} {w : World} {v : Value} {bs : List Nat} (h : OutIs B w v bs) (hb : ∀ x ∈ bs, x < 256) : ∃ A c, v = .slice A bs.length c ∧ bs.length ≤ c ∧ c ≤ maxLen ∧ Row w A bs.length bs := by
  rcases h.2 with ⟨rfl, h0⟩ | ⟨g, cap, cur, rfl, hB, hg, hn, hm, hs, ht⟩
  · have e : bs = [] := List.eq_nil_of_length_eq_zero h0
    subst e
    exact ⟨none, 0, rfl, Nat.le_refl _, Nat.zero_le _, Row.nil w none⟩
  · refine ⟨_, cap, rfl, hn, hm, Row.mk rfl hb fun i hi => ?_⟩
    rw [Nat.zero_add, cell_of_row w g i cur _ _ hg, ← Array.getElem?_toList]
    have e1 : cur.toList[i]? = (bcells bs)[i]? := by rw [← ht, List.getElem?_take, if_pos (by omega)]
    rw [e1]
    simp [bcells, hi]

theorem u8_parts : ∃ i0, Try.prog.info? 5 = some i0 ∧ i0.zero = some (.int .u8 0) ∧ i0.size = 1 ∧ i0.bytes = 1 := by
  obtain ⟨i0, h1, h2, h3, h4⟩ := info_parts u8_info
  exact ⟨i0, h1, h2, h3, h4⟩
theorem OutIs.mono {B B' : Nat} {w : World} {v : Value} {bs : List Nat} (h : OutIs B w v bs) (hB : B' ≤ B) : OutIs B' w v bs := by
  refine ⟨h.1, ?_⟩
  rcases h.2 with h2 | ⟨g, cap, cur, hv, hg, r⟩
  · exact .inl h2
  · exact .inr ⟨g, cap, cur, hv, by omega, r⟩
/-- Where it is not empty: its block. -/
theorem OutIs.block {B : Nat} {w : World} {v : Value} {bs : List Nat} (h : OutIs B w v bs) (h0 : 0 < bs.length) : ∃ g c, v = .slice (some ⟨g, 0, none⟩) bs.length c ∧ B ≤ g ∧ bs.length ≤ c ∧ c ≤ maxLen := by
  rcases h.2 with ⟨_, h2⟩ | ⟨g, cap, cur, hv, hg, _, h4, h5, _⟩
  · omega
  · exact ⟨g, cap, hv, hg, h4, h5⟩
theorem OutIs.cell {B g n c : Nat} {w : World} {bs : List Nat} (h : OutIs B w (.slice (some ⟨g, 0, none⟩) n c) bs) (hn : bs.length = n) (i : Nat) (hi : i < n) : w.cell? ⟨g, i, none⟩ = some (.int .u8 (bs.getD i 0 : Nat)) := by
  subst hn
  rw [World.ownsRow.cellAt h i (by omega)]
  simp [bcells, hi]
theorem OutIs.frozen {B g n c : Nat} {w : World} {bs : List Nat} (h : OutIs B w (.slice (some ⟨g, 0, none⟩) n c) bs) (hn : bs.length = n) (i : Nat) : w.frozen? ⟨g, i, none⟩ = false := by
  subst hn
  exact World.ownsRow.frozenAt h i
theorem OutIs.set {B g n c : Nat} {w : World} {bs : List Nat} (h : OutIs B w (.slice (some ⟨g, 0, none⟩) n c) bs) (hn : bs.length = n) (i x : Nat) : OutIs B (w.setCell ⟨g, i, none⟩ (.int .u8 (x : Nat))) (.slice (some ⟨g, 0, none⟩) n c) (bs.set i x) := by
  subst hn
  have h1 := (World.ownsRow.stored h i (.int .u8 (x : Nat))).1
  unfold OutIs
  rw [List.length_set]
  simpa [bcells, List.map_set] using h1
theorem OutIs.below {B : Nat} {w w' : World} {v : Value} {bs : List Nat} (h : OutIs B w v bs) (hb : Below w.heap.size w w') : OutIs B w' v bs := by
  refine ⟨h.1, ?_⟩
  rcases h.2 with h2 | ⟨g, cap, cur, hv, hg, hh, r⟩
  · exact .inl h2
  · refine .inr ⟨g, cap, cur, hv, hg, (hb.block g ?_).trans hh, r⟩
    rcases Nat.lt_or_ge g w.heap.size with hlt | hge
    · exact hlt
    · rw [Array.getElem?_eq_none hge] at hh; cases hh

/-- A text out of bytes. -/
def str (bs : List Nat) : ByteArray := ⟨(bs.map fun x => UInt8.ofNat x).toArray⟩
theorem str_nums (bs : List Nat) : strOfNums (bs.map fun x => ((x : Nat) : Int)) = str bs := by
  simp [strOfNums, str, Function.comp_def]
end Go.Proofs.Ytemgnaalmgkfiaa
