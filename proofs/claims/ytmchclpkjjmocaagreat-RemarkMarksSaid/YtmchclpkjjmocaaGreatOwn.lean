/-
  A block of bytes that the call itself made, known whole ('Own w g bs'), and what stores do to it; bytes laid over bytes ('splice').
-/
import Derived.Test.YtmchclpkjjmocaaGreatBase
import Derived.Test.YtmchclpkjjmocaaGreatPlain
import Derived.Laws.CopyOwn
import Derived.Deep.OwnRows
import Derived.Laws.BytesArg
namespace Go.Proofs.YtmchclpkjjmocaaGreat
open Go.RowKit
set_option linter.unusedVariables false

def bcells (bs : List Nat) : List Value := bs.map fun x => Value.int .u8 (x : Nat)
theorem bcells_length (bs : List Nat) : (bcells bs).length = bs.length := by simp [bcells]
theorem bcells_one (bs : List Nat) : ∀ v ∈ bcells bs, v.oneCell' = true := by
  intro v hv
  simp only [bcells, List.mem_map] at hv
  obtain ⟨x, _, rfl⟩ := hv
  rfl
theorem bcells_get {bs : List Nat} {j : Nat} {v : Value} (h : (bcells bs)[j]? = some v) : j < bs.length ∧ v = .int .u8 (bs.getD j 0 : Nat) := by
  have hj : j < bs.length := by
    rcases Nat.lt_or_ge j bs.length with hj | hj
    · exact hj
    · rw [List.getElem?_eq_none (by rw [bcells_length]; exact hj)] at h; cases h
  refine ⟨hj, ?_⟩
  simp only [bcells, List.getElem?_map, List.getElem?_eq_getElem hj, Option.map_some] at h
  rw [List.getD_eq_getElem?_getD, List.getElem?_eq_getElem hj]
  injection h with h
  exact h.symm

/-- Block g is the bytes bs, whole, and may be written. -/
def Own (w : World) (g : Nat) (bs : List Nat) : Prop := w.heap[g]? = some (.cells (bcells bs).toArray 5 (0, 0))

theorem Own.lt {w : World} {g : Nat} {bs : List Nat} (h : Own w g bs) : g < w.heap.size := by
  rcases Nat.lt_or_ge g w.heap.size with hlt | hge
  · exact hlt
  · unfold Own at h; rw [Array.getElem?_eq_none hge] at h; cases h
theorem Own.cell {w : World} {g : Nat} {bs : List Nat} (h : Own w g bs) (i : Nat) (hi : i < bs.length) : w.cell? ⟨g, i, none⟩ = some (.int .u8 (bs.getD i 0 : Nat)) := by
  rw [cell_of_row w g i _ _ _ h]
  simp [bcells, hi]
theorem Own.frozen {w : World} {g : Nat} {bs : List Nat} (h : Own w g bs) (i : Nat) : w.frozen? ⟨g, i, none⟩ = false := frozen_of_row w g i _ _ h
theorem Own.row {w : World} {g : Nat} {bs : List Nat} (h : Own w g bs) (hb : ∀ x ∈ bs, x < 256) : Row w (some ⟨g, 0, none⟩) bs.length bs :=
  Row.mk rfl hb fun i hi => by rw [Nat.zero_add]; exact h.cell i hi
theorem Own.below {B : Nat} {w w' : World} {g : Nat} {bs : List Nat} (h : Own w g bs) (hb : Below B w w') (hg : g < B) : Own w' g bs := (hb.block g hg).trans h
theorem Own.drewN {w : World} {g : Nat} {bs : List Nat} (h : Own w g bs) (k : Nat) : Own (w.drewN k) g bs := h
theorem Own.new (w : World) (bs : List Nat) : Own (w.alloc (.cells (bcells bs).toArray 5)) w.heap.size bs := heap_alloc_new w _
theorem Own.alloc {w : World} {g : Nat} {bs : List Nat} (h : Own w g bs) (o : Obj) : Own (w.alloc o) g bs := (Below.heap_alloc w o g h.lt).trans h
theorem Own.set {w : World} {g : Nat} {bs : List Nat} (h : Own w g bs) (i : Nat) (x : Nat) : Own (w.setCell ⟨g, i, none⟩ (.int .u8 (x : Nat))) g (bs.set i x) := by
  have h1 := heap_setCell_same w g i _ _ (.int .u8 (x : Nat)) h
  unfold Own
  rw [h1]
  simp [bcells, List.map_set]

theorem splice_take {bs l : List Nat} {a k : Nat} (h : a + l.length ≤ bs.length) (hk : k < l.length) : (splice bs a (l.take k)).set (a + k) (l.getD k 0) = splice bs a (l.take (k + 1)) := by
  have e1 : (bs.take a).length = a := by rw [List.length_take]; omega
  have e2 : (l.take k).length = k := by rw [List.length_take]; omega
  have e3 : (l.take (k + 1)).length = k + 1 := by rw [List.length_take]; omega
  unfold splice
  rw [e2, e3, List.set_append_right (h := by omega), e1, Nat.add_sub_cancel_left, List.set_append_right (h := by omega), e2, Nat.sub_self, take_succ_getD l k hk]
  have e4 : bs.drop (a + k) = bs.getD (a + k) 0 :: bs.drop (a + (k + 1)) := by
    rw [List.drop_eq_getElem_cons (by omega), List.getD_eq_getElem?_getD, List.getElem?_eq_getElem (by omega)]
    rfl
  rw [e4, List.set_cons_zero]
  simp
theorem splice_drop {bs l : List Nat} {a i : Nat} (h : a + l.length ≤ bs.length) (hi : i < l.length) : (splice bs (a + (i + 1)) (l.drop (i + 1))).set (a + i) (l.getD i 0) = splice bs (a + i) (l.drop i) := by
  have e1 : (bs.take (a + (i + 1))).length = a + (i + 1) := by rw [List.length_take]; omega
  have e2 : (bs.take (a + i)).length = a + i := by rw [List.length_take]; omega
  unfold splice
  rw [List.set_append_left (h := by omega), take_succ_getD bs (a + i) (by omega) |> fun h => (show bs.take (a + (i + 1)) = _ from h), List.set_append_right (h := by omega), e2, Nat.sub_self, List.set_cons_zero,
    List.length_drop, List.length_drop, show a + (i + 1) + (l.length - (i + 1)) = a + i + (l.length - i) from by omega]
  have e4 : l.drop i = l.getD i 0 :: l.drop (i + 1) := by
    rw [List.drop_eq_getElem_cons hi, List.getD_eq_getElem?_getD, List.getElem?_eq_getElem hi]
    rfl
  rw [e4]
  simp
theorem splice_length {bs l : List Nat} {a : Nat} (h : a + l.length ≤ bs.length) : (splice bs a l).length = bs.length := length_splice bs a l h
theorem splice_nil (bs : List Nat) (a : Nat) : splice bs a [] = bs := by simp [splice]
theorem splice_whole {α : Type} (L cs : List α) (h : L.length = cs.length) : splice L 0 cs = cs := by simp [splice, h]
theorem splice_byte {bs l : List Nat} {a : Nat} (h1 : ∀ x ∈ bs, x < 256) (h2 : ∀ x ∈ l, x < 256) : ∀ x ∈ splice bs a l, x < 256 := by
  intro x hx
  simp only [splice, List.mem_append] at hx
  rcases hx with hx | hx | hx
  · exact h1 x (List.mem_of_mem_take hx)
  · exact h2 x hx
  · exact h1 x (List.mem_of_mem_drop hx)

theorem u8_info : (Tryz.prog.info? 5).map (fun i => (i.zero, i.size, i.bytes)) = some (some (.int .u8 0), 1, 1) := by kernel_rfl
theorem u8_size : (Tryz.prog.info? 5).map (·.size) = some 1 := by kernel_rfl
theorem made_zero (n : Nat) : madeCells #[Value.int .u8 0] n = (bcells (List.replicate n 0)).toArray := by
  apply Array.ext
  · simp [madeCells, bcells]
  · intro i h1 h2
    simp [madeCells, bcells, Nat.mod_one]
/-- 'make([]byte, n)'. -/
theorem make_bytes (n : Nat) (hn : n ≤ 281474976710656) (w : World) :
    (Instr.makeSlice 22 (.int .i64 (n : Int)) (.int .i64 (n : Int))).run Tryz.prog w = .ok (.slice (some ⟨w.heap.size, 0, none⟩) n n) (w.alloc (.cells (bcells (List.replicate n 0)).toArray 5)) := by
  have h := run_make_row' (P := Tryz.prog) 22 5 (.int .u8 0) 1 Tryz.underlying22 u8_info rfl .i64 .i64 n (by omega) (by omega) w
  rw [made_zero] at h
  exact h

/-- 'copy(out, src)' that fills all of a new block. -/
theorem copy_new (W : World) (g m : Nat) (cur l : List Nat) (sp : Option Addr) (sl sc : Nat) (hg : Own W g cur) (hcur : cur.length = m) (hl : l.length = m) (hsl : m ≤ sl)
    (hsrc : 0 < m → ∃ ad, sp = some ad ∧ ∀ j v, (bcells l)[j]? = some v → W.cell? (ad.add j) = some v) :
    ∃ w2, Sem.run Tryz.prog (Builtin.copy_ #[22, 22] 3 #[.slice (some ⟨g, 0, none⟩) m m, .slice sp sl sc]) W = .ok (.int .i64 (m : Nat)) w2 ∧ Own w2 g l ∧ Below g W w2 := by
  rcases Nat.eq_zero_or_pos m with h0 | h0
  · subst h0
    have e1 : cur = [] := List.eq_nil_of_length_eq_zero hcur
    have e2 : l = [] := List.eq_nil_of_length_eq_zero hl
    subst e1 e2
    exact ⟨W, run_copy_none W _ _ _ 5 _ _ _ _ _ _ Tryz.underlying22 u8_size (by show min sl 0 = 0; omega), hg, Below.refl _ _⟩
  · obtain ⟨ad, rfl, hc⟩ := hsrc h0
    have hn : (bcells l).length = Nat.min sl m := by rw [bcells_length, hl]; show m = min sl m; omega
    have h := run_copy_row (P := Tryz.prog) W 22 22 3 5 g 0 m m ad sl sc _ _ (bcells l) Tryz.underlying22 u8_size hg hn hc (by simp [bcells_length, hl, hcur]) (bcells_one l)
    refine ⟨_, h.trans (by rw [bcells_length, hl]; rfl), ?_, below_setRow (Below.refl _ _) (Nat.le_refl _) _⟩
    have e : (List.take 0 (bcells cur).toArray.toList ++ bcells l ++ List.drop (0 + m) (bcells cur).toArray.toList) = bcells l := by
      rw [List.drop_eq_nil_of_le (by simp [bcells_length, hcur])]
      simp
    rw [e]
    exact setRow_heap W g _ _ _ _ hg

/-- A byte slice that the call itself appends to: it reads as bs and lies in blocks from B on. -/
def OutIs (B : Nat) (w : World) (v : Value) (bs : List Nat) : Prop := w.ownsRow B 5 1 v bs.length (bcells bs)
theorem OutIs.nil (B : Nat) (w : World) : OutIs B w (.slice none 0 0) [] := World.ownsRow_nil _ _ _ _
theorem OutIs.drewN {B : Nat} {w : World} {v : Value} {bs : List Nat} (h : OutIs B w v bs) (k : Nat) : OutIs B (w.drewN k) v bs := h
theorem OutIs.alloc {B : Nat} {w : World} {v : Value} {bs : List Nat} (h : OutIs B w v bs) (o : Obj) : OutIs B (w.alloc o) v bs := World.ownsRow.alloc h o
/-- It is a slice of that length, and reads as these bytes. -/
theorem OutIs.out {B : Nat} {w : World} {v : Value} {bs : List Nat} (h : OutIs B w v bs) (hb : ∀ x ∈ bs, x < 256) : ∃ A c, v = .slice A bs.length c ∧ bs.length ≤ c ∧ c ≤ maxLen ∧ Row w A bs.length bs := by
  rcases h.2 with ⟨rfl, h0⟩ | ⟨g, cap, cur, rfl, hB, hg, hn, hm, hs, ht⟩
  · have e : bs = [] := List.eq_nil_of_length_eq_zero h0
    subst e
    exact ⟨none, 0, rfl, Nat.le_refl _, Nat.zero_le _, Row.nil w none⟩
  · refine ⟨_, cap, rfl, hn, hm, Row.mk rfl hb fun i hi => ?_⟩
    rw [Nat.zero_add, cell_of_row w g i cur _ _ hg, ← Array.getElem?_toList]
    have e1 : cur.toList[i]? = (bcells bs)[i]? := by rw [← ht, List.getElem?_take, if_pos (by omega)]
    rw [e1]
    simp [bcells, hi]

theorem u8_parts : ∃ i0, Tryz.prog.info? 5 = some i0 ∧ i0.zero = some (.int .u8 0) ∧ i0.size = 1 ∧ i0.bytes = 1 := by
  obtain ⟨i0, h1, h2, h3, h4⟩ := info_parts u8_info
  exact ⟨i0, h1, h2, h3, h4⟩
/-- 'append(out, x ..)'. -/
theorem append_bytes {B : Nat} {W wr : World} {v : Value} {bs news : List Nat} (cs : Array Value) (m : Nat) (hcs : cs.toList = bcells news) (hm : news.length = m) (hown : OutIs B wr v bs) (hb : Below B W wr) (hB : B ≤ wr.heap.size)
    (hlen : bs.length + m ≤ 140737488355328) :
    ∃ v' w', Sem.run Tryz.prog (Builtin.append_ #[22, 22] 22 #[v, .slice (some ⟨wr.heap.size, 0, none⟩) m m]) (wr.alloc (.cells cs 5)) = .ok v' w' ∧ OutIs B w' v' (bs ++ news) ∧ Below B W w' := by
  obtain ⟨i0, h1, h2, h3, h4⟩ := u8_parts
  have hown' : (wr.alloc (.cells cs 5)).ownsRow B 5 1 v bs.length (bcells bs) := World.ownsRow.alloc hown _
  obtain ⟨v', w', hr, ho, hg, _⟩ := run_append_own (P := Tryz.prog) (wr.alloc (.cells cs 5)) B 22 22 5 i0 (.int .u8 0) 1 1 Tryz.underlying22 h1 h2 h3 h4 rfl (by decide) v bs.length (bcells bs) hown'
    ⟨wr.heap.size, 0, none⟩ m m (bcells news) (by rw [bcells_length, hm, Nat.mul_one]) (fun j u hj => by
      rw [add_flat, cell_of_row _ wr.heap.size (0 + j) cs _ _ (heap_alloc_new wr _), Nat.zero_add, ← Array.getElem?_toList, hcs]
      exact hj) (bcells_one news) (by unfold maxLen; omega) (by omega) (by simp; omega)
  refine ⟨v', w', hr, ?_, (hb.alloc hB _).grown hg (by simp; omega) (fun k hk => (hown'.lt k hk).1)⟩
  unfold OutIs
  rw [List.length_append, hm]
  simpa [bcells] using ho

/-- The same as a law for the walk. -/
theorem wpList_append_bytes {ops : Array Oper} {rest : List Oper} {o : Oper} {a : Act} {Q : Exit → Act → World → Prop} (hgd : o.guard = none) (s x : Operand)
    (ho : o.op = .call { callee := .builtin .append, args := #[s, x], argTypes := #[22, 22] })
    {B : Nat} {W wr : World} {v : Value} {bs news : List Nat} (cs : Array Value) (m : Nat) (hs : a.eval s = v) (hx : a.eval x = .slice (some ⟨wr.heap.size, 0, none⟩) m m)
    (hcs : cs.toList = bcells news) (hm : news.length = m) (hown : OutIs B wr v bs) (hb : Below B W wr) (hB : B ≤ wr.heap.size) (hlen : bs.length + m ≤ 140737488355328)
    (h : ∀ v' w', OutIs B w' v' (bs ++ news) → Below B W w' → wpList Tryz.prog ops Q rest (a.put o.dst v') w') : wpList Tryz.prog ops Q (o :: rest) a (wr.alloc (.cells cs 5)) := by
  obtain ⟨i0, h1, h2, h3, h4⟩ := u8_parts
  have hown' : (wr.alloc (.cells cs 5)).ownsRow B 5 1 v bs.length (bcells bs) := World.ownsRow.alloc hown _
  refine wpList_append_own (P := Tryz.prog) (wr.alloc (.cells cs 5)) hgd s x 22 ho B 5 i0 (.int .u8 0) 1 1 Tryz.underlying22 h1 h2 h3 h4 rfl (by decide) v bs.length (bcells bs) hs hown'
    ⟨wr.heap.size, 0, none⟩ m m (bcells news) hx (by rw [bcells_length, hm, Nat.mul_one]) (fun j u hj => by
      rw [add_flat, cell_of_row _ wr.heap.size (0 + j) cs _ _ (heap_alloc_new wr _), Nat.zero_add, ← Array.getElem?_toList, hcs]
      exact hj) (bcells_one news) (by unfold maxLen; omega) (by omega) (by simp; omega) ?_
  intro v' w' ho hg _
  refine h v' w' ?_ ((hb.alloc hB _).grown hg (by simp; omega) (fun k hk => (hown'.lt k hk).1))
  unfold OutIs
  rw [List.length_append, hm]
  simpa [bcells] using ho

theorem OutIs.mono {B B' : Nat} {w : World} {v : Value} {bs : List Nat} (h : OutIs B w v bs) (hB : B' ≤ B) : OutIs B' w v bs := by
  refine ⟨h.1, ?_⟩
  rcases h.2 with h2 | ⟨g, cap, cur, hv, hg, r⟩
  · exact .inl h2
  · exact .inr ⟨g, cap, cur, hv, by omega, r⟩
/-- Where it is not empty: its block. -/
theorem OutIs.block {B : Nat} {w : World} {v : Value} {bs : List Nat} (h : OutIs B w v bs) (h0 : 0 < bs.length) : ∃ g c, v = .slice (some ⟨g, 0, none⟩) bs.length c ∧ B ≤ g ∧ bs.length ≤ c ∧ c ≤ maxLen := by
  rcases h.2 with ⟨_, h2⟩ | ⟨g, cap, cur, hv, hg, _, h4, h5, _⟩
  · omega
  · exact ⟨g, cap, hv, hg, h4, h5⟩
theorem OutIs.cell {B g n c : Nat} {w : World} {bs : List Nat} (h : OutIs B w (.slice (some ⟨g, 0, none⟩) n c) bs) (hn : bs.length = n) (i : Nat) (hi : i < n) : w.cell? ⟨g, i, none⟩ = some (.int .u8 (bs.getD i 0 : Nat)) := by
  subst hn
  rw [World.ownsRow.cellAt h i (by omega)]
  simp [bcells, hi]
theorem OutIs.frozen {B g n c : Nat} {w : World} {bs : List Nat} (h : OutIs B w (.slice (some ⟨g, 0, none⟩) n c) bs) (hn : bs.length = n) (i : Nat) : w.frozen? ⟨g, i, none⟩ = false := by
  subst hn
  exact World.ownsRow.frozenAt h i
theorem OutIs.set {B g n c : Nat} {w : World} {bs : List Nat} (h : OutIs B w (.slice (some ⟨g, 0, none⟩) n c) bs) (hn : bs.length = n) (i x : Nat) : OutIs B (w.setCell ⟨g, i, none⟩ (.int .u8 (x : Nat))) (.slice (some ⟨g, 0, none⟩) n c) (bs.set i x) := by
  subst hn
  have h1 := (World.ownsRow.stored h i (.int .u8 (x : Nat))).1
  unfold OutIs
  rw [List.length_set]
  simpa [bcells, List.map_set] using h1
theorem OutIs.below {B : Nat} {w w' : World} {v : Value} {bs : List Nat} (h : OutIs B w v bs) (hb : Below w.heap.size w w') : OutIs B w' v bs := by
  refine ⟨h.1, ?_⟩
  rcases h.2 with h2 | ⟨g, cap, cur, hv, hg, hh, r⟩
  · exact .inl h2
  · refine .inr ⟨g, cap, cur, hv, hg, (hb.block g ?_).trans hh, r⟩
    rcases Nat.lt_or_ge g w.heap.size with hlt | hge
    · exact hlt
    · rw [Array.getElem?_eq_none hge] at hh; cases hh

/-- A text out of bytes. -/
def str (bs : List Nat) : ByteArray := ⟨(bs.map fun x => UInt8.ofNat x).toArray⟩
theorem str_nums (bs : List Nat) : strOfNums (bs.map fun x => ((x : Nat) : Int)) = str bs := by
  simp [strOfNums, str, Function.comp_def]
/-- 'string(b)'. -/
theorem conv_str {w : World} {A : Option Addr} {n c : Nat} {bs : List Nat} (h : Row w A n bs) : (convert 22 9 (.slice A n c)).run Tryz.prog w = .ok (.string (str bs)) w := by
  rcases Nat.eq_zero_or_pos n with h0 | h0
  · subst h0
    obtain rfl : bs = [] := List.eq_nil_of_length_eq_zero h.1
    cases A with
    | none => exact run_convert_bytes_nil w 22 5 Tryz.underlying22 Tryz.underlying5 _ _ 9 Tryz.underlying9
    | some a =>
      rw [run_convert_bytes_string w 22 9 5 _ _ _ Tryz.underlying22 Tryz.underlying5 Tryz.underlying9, run_bytesToString w a 0 c [] (by simpa using run_loadCells_list (P := Tryz.prog) w a [] (by simp))]
      rfl
  · obtain ⟨b, o, rfl, _, hc⟩ := h.addr h0
    rw [← str_nums]
    refine run_convert_bytes_arg w 22 5 Tryz.underlying22 Tryz.underlying5 b o n c _ (by simp [h.1]) (fun i hi => ?_) 9 Tryz.underlying9
    rw [hc i hi]
    congr 2
    have hl := h.1
    rw [List.getD_eq_getElem?_getD, List.getD_eq_getElem?_getD, List.getElem?_map, List.getElem?_eq_getElem (by omega)]
    rfl

/-- 'make([]byte, 0, n)'. -/
theorem make_cap {B : Nat} {W w : World} (n : Nat) (C : Int) (hC : C = (n : Nat)) (hn : n ≤ 281474976710656) (hb : Below B W w) (hB : B ≤ w.heap.size) :
    ∃ w', Sem.run Tryz.prog (Instr.makeSlice 22 (.int .i64 0) (.int .i64 C)) w = .ok (.slice (some ⟨w.heap.size, 0, none⟩) 0 n) w' ∧ OutIs B w' (.slice (some ⟨w.heap.size, 0, none⟩) 0 n) [] ∧ Below B W w' := by
  subst hC
  obtain ⟨i0, h1, h2, h3, h4⟩ := u8_parts
  obtain ⟨w', hr, ho, hg⟩ := run_make_own (P := Tryz.prog) w B 22 5 i0 (.int .u8 0) 1 Tryz.underlying22 h1 h2 h3 .i64 .i64 n (by rw [h4]; omega) (by unfold maxLen; omega) hB
  exact ⟨w', hr, ho, hb.grown hg hB (fun k hk => by cases hk)⟩

/-- The same as a step of a region that draws its order: the new bytes lie in block g. -/
theorem step_append_bytes {ops : Array Oper} {o : Oper} {a : Act} {K : Act → World → Prop} {Q : Exit → Act → World → Prop} {E : Prop} (hgd : o.guard = none) (s x : Operand)
    (ho : o.op = .call { callee := .builtin .append, args := #[s, x], argTypes := #[22, 22] })
    {B g : Nat} {W w1 : World} {v : Value} {bs news : List Nat} (cs : Array Value) (m : Nat) (hs : a.eval s = v) (hx : a.eval x = .slice (some ⟨g, 0, none⟩) m m)
    (hg : w1.heap[g]? = some (.cells cs 5 (0, 0))) (hcs : cs.toList = bcells news) (hm : news.length = m) (hown : OutIs B w1 v bs) (hb : Below B W w1) (hB : B ≤ w1.heap.size) (hlen : bs.length + m ≤ 140737488355328)
    (h : ∀ v' w', OutIs B w' v' (bs ++ news) → Below B W w' → K (a.put o.dst v') w') : if Region.wanted o (yielded ops a.tmps) = true then Oper.wp Tryz.prog o a w1 K Q else E := by
  have hw : Region.wanted o (yielded ops a.tmps) = true := by simp [Region.wanted, hgd]
  rw [if_pos hw]
  obtain ⟨i0, h1, h2, h3, h4⟩ := u8_parts
  refine wp_append_own (P := Tryz.prog) w1 s x 22 ho B 5 i0 (.int .u8 0) 1 1 Tryz.underlying22 h1 h2 h3 h4 rfl (by decide) v bs.length (bcells bs) hs hown
    ⟨g, 0, none⟩ m m (bcells news) hx (by rw [bcells_length, hm, Nat.mul_one]) (fun j u hj => by
      rw [add_flat, cell_of_row _ g (0 + j) cs _ _ hg, Nat.zero_add, ← Array.getElem?_toList, hcs]
      exact hj) (bcells_one news) (by unfold maxLen; omega) (by omega) hB ?_
  intro v' w' ho' hgr _
  refine h v' w' ?_ (hb.grown hgr hB (fun k hk => (World.ownsRow.lt hown k hk).1))
  unfold OutIs
  rw [List.length_append, hm]
  simpa [bcells] using ho'
end Go.Proofs.YtmchclpkjjmocaaGreat
