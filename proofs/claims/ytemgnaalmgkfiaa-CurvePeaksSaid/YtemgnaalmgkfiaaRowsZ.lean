/-
  Rows of 3: 'RowZ' (a slice value reads as these numbers), 'OwnZ' (a block that the call itself made), 'OutZ' (a slice that the call appends to).
-/
import Derived.Test.YtemgnaalmgkfiaaOwn
namespace Go.Proofs.Ytemgnaalmgkfiaa
open Go.RowKit
set_option linter.unusedVariables false

/-- A slice with address A and length n reads as the numbers xs. -/
def RowZ (w : World) (A : Option Addr) (n : Nat) (xs : List Int) : Prop :=
  xs.length = n ∧ (∀ x ∈ xs, (-9223372036854775808 ≤ x ∧ x ≤ 9223372036854775807)) ∧ ∀ i, i < n → ∃ b o, A = some ⟨b, o, none⟩ ∧ w.cell? ⟨b, o + i, none⟩ = some (.int .i64 (xs.getD i 0))
theorem RowZ.len {w : World} {A : Option Addr} {n : Nat} {xs : List Int} (h : RowZ w A n xs) : xs.length = n := h.1
theorem RowZ.word {w : World} {A : Option Addr} {n : Nat} {xs : List Int} (h : RowZ w A n xs) (i : Nat) : -9223372036854775808 ≤ xs.getD i 0 ∧ xs.getD i 0 ≤ 9223372036854775807 := by
  rcases Nat.lt_or_ge i xs.length with hi | hi
  · rw [List.getD_eq_getElem?_getD, List.getElem?_eq_getElem hi]
    exact h.2.1 _ (List.getElem_mem hi)
  · rw [List.getD_eq_getElem?_getD, List.getElem?_eq_none hi]; decide
theorem RowZ.addr {w : World} {A : Option Addr} {n : Nat} {xs : List Int} (h : RowZ w A n xs) (hn : 0 < n) :
    ∃ b o, A = some ⟨b, o, none⟩ ∧ b < w.heap.size ∧ ∀ i, i < n → w.cell? ⟨b, o + i, none⟩ = some (.int .i64 (xs.getD i 0)) := by
  obtain ⟨b, o, rfl, hc⟩ := h.2.2 0 hn
  refine ⟨b, o, rfl, cell_lt hc, fun i hi => ?_⟩
  obtain ⟨b', o', he, hc'⟩ := h.2.2 i hi
  injection he with he
  injection he with h1 h2
  subst h1 h2
  exact hc'
theorem RowZ.mk {w : World} {b o n : Nat} {xs : List Int} (hl : xs.length = n) (hb : ∀ x ∈ xs, (-9223372036854775808 ≤ x ∧ x ≤ 9223372036854775807)) (hc : ∀ i, i < n → w.cell? ⟨b, o + i, none⟩ = some (.int .i64 (xs.getD i 0))) : RowZ w (some ⟨b, o, none⟩) n xs :=
  ⟨hl, hb, fun i hi => ⟨b, o, rfl, hc i hi⟩⟩
theorem RowZ.keep {w w' : World} {A : Option Addr} {n : Nat} {xs : List Int} (h : RowZ w A n xs) (hk : ∀ p, p.block < w.heap.size → w'.cell? p = w.cell? p) : RowZ w' A n xs :=
  ⟨h.1, h.2.1, fun i hi => by
    obtain ⟨b, o, he, hc⟩ := h.2.2 i hi
    exact ⟨b, o, he, (hk _ (cell_lt hc)).trans hc⟩⟩
theorem RowZ.below {w w' : World} {A : Option Addr} {n : Nat} {xs : List Int} (h : RowZ w A n xs) (hb : Below w.heap.size w w') : RowZ w' A n xs := h.keep fun _ hp => hb.cell hp
theorem RowZ.drewN {w : World} {A : Option Addr} {n : Nat} {xs : List Int} (h : RowZ w A n xs) (k : Nat) : RowZ (w.drewN k) A n xs := h
theorem RowZ.alloc {w : World} {A : Option Addr} {n : Nat} {xs : List Int} (h : RowZ w A n xs) (o : Obj) : RowZ (w.alloc o) A n xs := h.keep fun p hp => World.cell?_alloc_lt w o p hp
theorem RowZ.nil (w : World) (A : Option Addr) : RowZ w A 0 [] := ⟨rfl, by simp, fun _ h => absurd h (by omega)⟩
/-- The first part of it. -/
theorem RowZ.front {w : World} {A : Option Addr} {n : Nat} {xs : List Int} (h : RowZ w A n xs) (m : Nat) (hm : m ≤ n) : RowZ w A m (xs.take m) := by
  have hl := h.1
  refine ⟨by simp; omega, fun x hx => h.2.1 x (List.mem_of_mem_take hx), fun j hj => ?_⟩
  obtain ⟨b, o, he, hc⟩ := h.2.2 j (by omega)
  refine ⟨b, o, he, ?_⟩
  rw [hc]
  have : (List.take m xs).getD j 0 = xs.getD j 0 := by
    rw [List.getD_eq_getElem?_getD, List.getD_eq_getElem?_getD, List.getElem?_take, if_pos hj]
  rw [this]

def cellsZ (xs : List Int) : List Value := xs.map fun x => Value.int .i64 x
theorem cellsZ_length (xs : List Int) : (cellsZ xs).length = xs.length := by simp [cellsZ]
theorem cellsZ_one (xs : List Int) : ∀ v ∈ cellsZ xs, v.oneCell' = true := by
  intro v hv
  simp only [cellsZ, List.mem_map] at hv
  obtain ⟨x, _, rfl⟩ := hv
  rfl
theorem cellsZ_get {xs : List Int} {j : Nat} {v : Value} (h : (cellsZ xs)[j]? = some v) : j < xs.length ∧ v = .int .i64 (xs.getD j 0) := by
  have hj : j < xs.length := by
    rcases Nat.lt_or_ge j xs.length with hj | hj
    · exact hj
    · rw [List.getElem?_eq_none (by rw [cellsZ_length]; exact hj)] at h; cases h
  refine ⟨hj, ?_⟩
  simp only [cellsZ, List.getElem?_map, List.getElem?_eq_getElem hj, Option.map_some] at h
  rw [List.getD_eq_getElem?_getD, List.getElem?_eq_getElem hj]
  injection h with h
  exact h.symm

/-- Block g is the numbers xs, whole, and may be written. -/
def OwnZ (w : World) (g : Nat) (xs : List Int) : Prop := w.heap[g]? = some (.cells (cellsZ xs).toArray 3 (0, 0))
theorem OwnZ.lt {w : World} {g : Nat} {xs : List Int} (h : OwnZ w g xs) : g < w.heap.size := by
  rcases Nat.lt_or_ge g w.heap.size with hlt | hge
  · exact hlt
  · unfold OwnZ at h; rw [Array.getElem?_eq_none hge] at h; cases h
theorem OwnZ.cell {w : World} {g : Nat} {xs : List Int} (h : OwnZ w g xs) (i : Nat) (hi : i < xs.length) : w.cell? ⟨g, i, none⟩ = some (.int .i64 (xs.getD i 0)) := by
  rw [cell_of_row w g i _ _ _ h]
  simp [cellsZ, hi]
theorem OwnZ.frozen {w : World} {g : Nat} {xs : List Int} (h : OwnZ w g xs) (i : Nat) : w.frozen? ⟨g, i, none⟩ = false := frozen_of_row w g i _ _ h
theorem OwnZ.row {w : World} {g : Nat} {xs : List Int} (h : OwnZ w g xs) (hb : ∀ x ∈ xs, (-9223372036854775808 ≤ x ∧ x ≤ 9223372036854775807)) : RowZ w (some ⟨g, 0, none⟩) xs.length xs :=
  RowZ.mk rfl hb fun i hi => by rw [Nat.zero_add]; exact h.cell i hi
theorem OwnZ.below {B : Nat} {w w' : World} {g : Nat} {xs : List Int} (h : OwnZ w g xs) (hb : Below B w w') (hg : g < B) : OwnZ w' g xs := (hb.block g hg).trans h
theorem OwnZ.drewN {w : World} {g : Nat} {xs : List Int} (h : OwnZ w g xs) (k : Nat) : OwnZ (w.drewN k) g xs := h
theorem OwnZ.new (w : World) (xs : List Int) : OwnZ (w.alloc (.cells (cellsZ xs).toArray 3)) w.heap.size xs := heap_alloc_new w _
theorem OwnZ.alloc {w : World} {g : Nat} {xs : List Int} (h : OwnZ w g xs) (o : Obj) : OwnZ (w.alloc o) g xs := (Below.heap_alloc w o g h.lt).trans h
theorem OwnZ.set {w : World} {g : Nat} {xs : List Int} (h : OwnZ w g xs) (i : Nat) (x : Int) : OwnZ (w.setCell ⟨g, i, none⟩ (.int .i64 x)) g (xs.set i x) := by
  have h1 := heap_setCell_same w g i _ _ (.int .i64 x) h
  unfold OwnZ
  rw [h1]
  simp [cellsZ, List.map_set]

theorem i64_infoZ : (Try.prog.info? 3).map (fun i => (i.zero, i.size, i.bytes)) = some (some (.int .i64 0), 1, 8) := by kernel_rfl
theorem i64_sizeZ : (Try.prog.info? 3).map (·.size) = some 1 := by kernel_rfl
theorem made_zeroZ (n : Nat) : madeCells #[Value.int .i64 0] n = (cellsZ (List.replicate n 0)).toArray := by
  apply Array.ext
  · simp [madeCells, cellsZ]
  · intro i h1 h2
    simp [madeCells, cellsZ, Nat.mod_one]
/-- 'make([]T, n)'. -/
theorem make_rowZ (n : Nat) (hn : n ≤ 1048576) (w : World) :
    (Instr.makeSlice 33 (.int .i64 (n : Int)) (.int .i64 (n : Int))).run Try.prog w = .ok (.slice (some ⟨w.heap.size, 0, none⟩) n n) (w.alloc (.cells (cellsZ (List.replicate n 0)).toArray 3)) := by
  have h := run_make_row' (P := Try.prog) 33 3 (.int .i64 0) 8 Try.underlying33 i64_infoZ rfl .i64 .i64 n (by omega) (by omega) w
  rw [made_zeroZ] at h
  exact h

/-- 'copy(out, src)' that fills all of a new block. -/
theorem copy_newZ (W : World) (g m : Nat) (cur l : List Int) (sp : Option Addr) (sl sc : Nat) (hg : OwnZ W g cur) (hcur : cur.length = m) (hl : l.length = m) (hsl : m ≤ sl)
    (hsrc : 0 < m → ∃ ad, sp = some ad ∧ ∀ j v, (cellsZ l)[j]? = some v → W.cell? (ad.add j) = some v) :
    ∃ w2, Sem.run Try.prog (Builtin.copy_ #[33, 33] 3 #[.slice (some ⟨g, 0, none⟩) m m, .slice sp sl sc]) W = .ok (.int .i64 (m : Nat)) w2 ∧ OwnZ w2 g l ∧ Below g W w2 := by
  rcases Nat.eq_zero_or_pos m with h0 | h0
  · subst h0
    have e1 : cur = [] := List.eq_nil_of_length_eq_zero hcur
    have e2 : l = [] := List.eq_nil_of_length_eq_zero hl
    subst e1 e2
    exact ⟨W, run_copy_none W _ _ _ 3 _ _ _ _ _ _ Try.underlying33 i64_sizeZ (by show min sl 0 = 0; omega), hg, Below.refl _ _⟩
  · obtain ⟨ad, rfl, hc⟩ := hsrc h0
    have hn : (cellsZ l).length = Nat.min sl m := by rw [cellsZ_length, hl]; show m = min sl m; omega
    have h := run_copy_row (P := Try.prog) W 33 33 3 3 g 0 m m ad sl sc _ _ (cellsZ l) Try.underlying33 i64_sizeZ hg hn hc (by simp [cellsZ_length, hl, hcur]) (cellsZ_one l)
    refine ⟨_, h.trans (by rw [cellsZ_length, hl]; rfl), ?_, below_setRow (Below.refl _ _) (Nat.le_refl _) _⟩
    have e : (List.take 0 (cellsZ cur).toArray.toList ++ cellsZ l ++ List.drop (0 + m) (cellsZ cur).toArray.toList) = cellsZ l := by
      rw [List.drop_eq_nil_of_le (by simp [cellsZ_length, hcur])]
      simp
    rw [e]
    exact setRow_heap W g _ _ _ _ hg

/-- A slice that the call itself appends to: it reads as xs and lies in blocks from B on. -/
def OutZ (B : Nat) (w : World) (v : Value) (xs : List Int) : Prop := w.ownsRow B 3 1 v xs.length (cellsZ xs)
theorem OutZ.nil (B : Nat) (w : World) : OutZ B w (.slice none 0 0) [] := World.ownsRow_nil _ _ _ _
theorem OutZ.drewN {B : Nat} {w : World} {v : Value} {xs : List Int} (h : OutZ B w v xs) (k : Nat) : OutZ B (w.drewN k) v xs := h
theorem OutZ.alloc {B : Nat} {w : World} {v : Value} {xs : List Int} (h : OutZ B w v xs) (o : Obj) : OutZ B (w.alloc o) v xs := World.ownsRow.alloc h o
/-- It is a slice of that length, and reads as these numbers. -/
theorem OutZ.out {B : Nat} {w : World} {v : Value} {xs : List Int} (h : OutZ B w v xs) (hb : ∀ x ∈ xs, (-9223372036854775808 ≤ x ∧ x ≤ 9223372036854775807)) : ∃ A c, v = .slice A xs.length c ∧ xs.length ≤ c ∧ c ≤ maxLen ∧ RowZ w A xs.length xs := by
  rcases h.2 with ⟨rfl, h0⟩ | ⟨g, cap, cur, rfl, hB, hg, hn, hm, hs, ht⟩
  · have e : xs = [] := List.eq_nil_of_length_eq_zero h0
    subst e
    exact ⟨none, 0, rfl, Nat.le_refl _, Nat.zero_le _, RowZ.nil w none⟩
  · refine ⟨_, cap, rfl, hn, hm, RowZ.mk rfl hb fun i hi => ?_⟩
    rw [Nat.zero_add, cell_of_row w g i cur _ _ hg, ← Array.getElem?_toList]
    have e1 : cur.toList[i]? = (cellsZ xs)[i]? := by rw [← ht, List.getElem?_take, if_pos (by omega)]
    rw [e1]
    simp [cellsZ, hi]
theorem i64_partsZ : ∃ i0, Try.prog.info? 3 = some i0 ∧ i0.zero = some (.int .i64 0) ∧ i0.size = 1 ∧ i0.bytes = 8 := by
  obtain ⟨i0, h1, h2, h3, h4⟩ := info_parts i64_infoZ
  exact ⟨i0, h1, h2, h3, h4⟩
/-- 'append(out, x ..)' of values that the call laid. -/
theorem wpList_appendZ {ops : Array Oper} {rest : List Oper} {o : Oper} {a : Act} {Q : Exit → Act → World → Prop} (hgd : o.guard = none) (s x : Operand)
    (ho : o.op = .call { callee := .builtin .append, args := #[s, x], argTypes := #[33, 33] })
    {B : Nat} {W wr : World} {v : Value} {xs news : List Int} (cs : Array Value) (m : Nat) (hs : a.eval s = v) (hx : a.eval x = .slice (some ⟨wr.heap.size, 0, none⟩) m m)
    (hcs : cs.toList = cellsZ news) (hm : news.length = m) (hown : OutZ B wr v xs) (hb : Below B W wr) (hB : B ≤ wr.heap.size) (hlen : xs.length + m ≤ 1048576)
    (h : ∀ v' w', OutZ B w' v' (xs ++ news) → Below B W w' → wpList Try.prog ops Q rest (a.put o.dst v') w') : wpList Try.prog ops Q (o :: rest) a (wr.alloc (.cells cs 3)) := by
  obtain ⟨i0, h1, h2, h3, h4⟩ := i64_partsZ
  have hown' : (wr.alloc (.cells cs 3)).ownsRow B 3 1 v xs.length (cellsZ xs) := World.ownsRow.alloc hown _
  refine wpList_append_own (P := Try.prog) (wr.alloc (.cells cs 3)) hgd s x 33 ho B 3 i0 (.int .i64 0) 1 8 Try.underlying33 h1 h2 h3 h4 rfl (by decide) v xs.length (cellsZ xs) hs hown'
    ⟨wr.heap.size, 0, none⟩ m m (cellsZ news) hx (by rw [cellsZ_length, hm, Nat.mul_one]) (fun j u hj => by
      rw [add_flat, cell_of_row _ wr.heap.size (0 + j) cs _ _ (heap_alloc_new wr _), Nat.zero_add, ← Array.getElem?_toList, hcs]
      exact hj) (cellsZ_one news) (by unfold maxLen; omega) (by omega) (by simp; omega) ?_
  intro v' w' ho hg _
  refine h v' w' ?_ ((hb.alloc hB _).grown hg (by simp; omega) (fun k hk => (hown'.lt k hk).1))
  unfold OutZ
  rw [List.length_append, hm]
  simpa [cellsZ] using ho
theorem OutZ.mono {B B' : Nat} {w : World} {v : Value} {xs : List Int} (h : OutZ B w v xs) (hB : B' ≤ B) : OutZ B' w v xs := by
  refine ⟨h.1, ?_⟩
  rcases h.2 with h2 | ⟨g, cap, cur, hv, hg, r⟩
  · exact .inl h2
  · exact .inr ⟨g, cap, cur, hv, by omega, r⟩
/-- Where it is not empty: its block. -/
theorem OutZ.block {B : Nat} {w : World} {v : Value} {xs : List Int} (h : OutZ B w v xs) (h0 : 0 < xs.length) : ∃ g c, v = .slice (some ⟨g, 0, none⟩) xs.length c ∧ B ≤ g ∧ xs.length ≤ c ∧ c ≤ maxLen := by
  rcases h.2 with ⟨_, h2⟩ | ⟨g, cap, cur, hv, hg, _, h4, h5, _⟩
  · omega
  · exact ⟨g, cap, hv, hg, h4, h5⟩
theorem OutZ.cell {B g n c : Nat} {w : World} {xs : List Int} (h : OutZ B w (.slice (some ⟨g, 0, none⟩) n c) xs) (hn : xs.length = n) (i : Nat) (hi : i < n) : w.cell? ⟨g, i, none⟩ = some (.int .i64 (xs.getD i 0)) := by
  subst hn
  rw [World.ownsRow.cellAt h i (by omega)]
  simp [cellsZ, hi]
theorem OutZ.frozen {B g n c : Nat} {w : World} {xs : List Int} (h : OutZ B w (.slice (some ⟨g, 0, none⟩) n c) xs) (hn : xs.length = n) (i : Nat) : w.frozen? ⟨g, i, none⟩ = false := by
  subst hn
  exact World.ownsRow.frozenAt h i
theorem OutZ.set {B g n c : Nat} {w : World} {xs : List Int} (h : OutZ B w (.slice (some ⟨g, 0, none⟩) n c) xs) (hn : xs.length = n) (i : Nat) (x : Int) : OutZ B (w.setCell ⟨g, i, none⟩ (.int .i64 x)) (.slice (some ⟨g, 0, none⟩) n c) (xs.set i x) := by
  subst hn
  have h1 := (World.ownsRow.stored h i (.int .i64 x)).1
  unfold OutZ
  rw [List.length_set]
  simpa [cellsZ, List.map_set] using h1
theorem OutZ.below {B : Nat} {w w' : World} {v : Value} {xs : List Int} (h : OutZ B w v xs) (hb : Below w.heap.size w w') : OutZ B w' v xs := by
  refine ⟨h.1, ?_⟩
  rcases h.2 with h2 | ⟨g, cap, cur, hv, hg, hh, r⟩
  · exact .inl h2
  · refine .inr ⟨g, cap, cur, hv, hg, (hb.block g ?_).trans hh, r⟩
    rcases Nat.lt_or_ge g w.heap.size with hlt | hge
    · exact hlt
    · rw [Array.getElem?_eq_none hge] at hh; cases hh
/-- A whole block of the call's own, as such a slice. -/
theorem OwnZ.outv {w : World} {g B : Nat} {xs : List Int} (h : OwnZ w g xs) (hB : B ≤ g) (hl : xs.length ≤ maxLen) : OutZ B w (.slice (some ⟨g, 0, none⟩) xs.length xs.length) xs := by
  refine ⟨by simp [cellsZ_length], .inr ⟨g, xs.length, (cellsZ xs).toArray, rfl, hB, h, Nat.le_refl _, hl, by simp [cellsZ_length], ?_⟩⟩
  simp [List.take_of_length_le, cellsZ_length]
/-- A slice that the call made, as it can be read: what a contract answers. -/
def ValZ (w : World) (v : Value) (xs : List Int) : Prop := ∃ A c, v = .slice A xs.length c ∧ xs.length ≤ c ∧ RowZ w A xs.length xs
theorem ValZ.below {w w' : World} {v : Value} {xs : List Int} (h : ValZ w v xs) (hb : Below w.heap.size w w') : ValZ w' v xs := by
  obtain ⟨A, c, h1, h2, h3⟩ := h
  exact ⟨A, c, h1, h2, h3.below hb⟩
theorem OutZ.val {B : Nat} {w : World} {v : Value} {xs : List Int} (h : OutZ B w v xs) (hb : ∀ x ∈ xs, (-9223372036854775808 ≤ x ∧ x ≤ 9223372036854775807)) : ValZ w v xs := by
  obtain ⟨A, c, h1, h2, _, h3⟩ := h.out hb
  exact ⟨A, c, h1, h2, h3⟩
theorem OwnZ.val {w : World} {g : Nat} {xs : List Int} (h : OwnZ w g xs) (hb : ∀ x ∈ xs, (-9223372036854775808 ≤ x ∧ x ≤ 9223372036854775807)) : ValZ w (.slice (some ⟨g, 0, none⟩) xs.length xs.length) xs := ⟨_, _, rfl, Nat.le_refl _, h.row hb⟩
end Go.Proofs.Ytemgnaalmgkfiaa
