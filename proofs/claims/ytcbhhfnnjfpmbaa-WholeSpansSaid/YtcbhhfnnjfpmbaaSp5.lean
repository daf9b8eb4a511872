/-
  Starts: its closure, and the whole.
-/
import Derived.Test.YtcbhhfnnjfpmbaaSp4
namespace Go.Proofs.Ytcbhhfnnjfpmbaa
open Go.RowKit Go.Lib Go.Sort
set_option linter.unusedVariables false

/-- A slice's variable, boxed: it holds a slice of ints that the call appends to, in another block. -/
structure BoxZ (B g : Nat) (w : World) (L : List Int) (v : Value) : Prop where
  box : w.heap[g]? = some (.cells #[v] 28 (0, 0))
  own : OutZ B w v L
  apart : v.ownBlock ≠ some g
  low : B ≤ g
theorem BoxZ.cell {B g : Nat} {w : World} {L : List Int} {v : Value} (h : BoxZ B g w L v) : w.cell? ⟨g, 0, none⟩ = some v := cell_of_row w _ _ _ _ _ h.box
theorem BoxZ.frozen {B g : Nat} {w : World} {L : List Int} {v : Value} (h : BoxZ B g w L v) : w.frozen? ⟨g, 0, none⟩ = false := frozen_of_row w _ 0 _ _ h.box
theorem BoxZ.lt {B g : Nat} {w : World} {L : List Int} {v : Value} (h : BoxZ B g w L v) : g < w.heap.size := cell_lt (p := ⟨g, 0, none⟩) h.cell
theorem BoxZ.below {B g : Nat} {w w' : World} {L : List Int} {v : Value} (h : BoxZ B g w L v) (hb : Below w.heap.size w w') : BoxZ B g w' L v := ⟨(hb.block g h.lt).trans h.box, h.own.below hb, h.apart, h.low⟩
theorem OutZ.far {B g i : Nat} {w : World} {v x : Value} {xs : List Int} (h : OutZ B w v xs) (hg : v.ownBlock ≠ some g) : OutZ B (w.setCell ⟨g, i, none⟩ x) v xs := by
  refine ⟨h.1, ?_⟩
  rcases h.2 with h2 | ⟨g', cap, cur, hv, hB, hh, r⟩
  · exact .inl h2
  · exact .inr ⟨g', cap, cur, hv, hB, (heap_setCell_other w _ _ _ (by
      show g' ≠ g
      intro e
      subst e
      subst hv
      exact hg rfl)).trans hh, r⟩
/-- 'append(out, x ..)' with the words on where the new slice lies. -/
theorem wpList_appendZ_at {ops : Array Oper} {rest : List Oper} {o : Oper} {a : Act} {Q : Exit → Act → World → Prop} (hgd : o.guard = none) (s x : Operand)
    (ho : o.op = .call { callee := .builtin .append, args := #[s, x], argTypes := #[28, 28] })
    {B : Nat} {wr : World} {v : Value} {xs news : List Int} (cs : Array Value) (m : Nat) (hs : a.eval s = v) (hx : a.eval x = .slice (some ⟨wr.heap.size, 0, none⟩) m m)
    (hcs : cs.toList = cellsZ news) (hm : news.length = m) (hown : OutZ B wr v xs) (hB : B ≤ wr.heap.size) (hlen : xs.length + m ≤ 17592186044416)
    (h : ∀ v' w', OutZ B w' v' (xs ++ news) → wr.grownBy w' v.ownBlock → (v'.ownBlock = v.ownBlock ∨ v'.ownBlock = some (wr.heap.size + 1)) → wpList Try.prog ops Q rest (a.put o.dst v') w') : wpList Try.prog ops Q (o :: rest) a (wr.alloc (.cells cs 3)) := by
  obtain ⟨i0, h1, h2, h3, h4⟩ := i64_partsZ
  have hown' : (wr.alloc (.cells cs 3)).ownsRow B 3 1 v xs.length (cellsZ xs) := World.ownsRow.alloc hown _
  refine wpList_append_own_at (P := Try.prog) (wr.alloc (.cells cs 3)) hgd s x 28 ho B 3 i0 (.int .i64 0) 1 8 Try.underlying28 h1 h2 h3 h4 rfl (by decide) v xs.length (cellsZ xs) hs hown'
    ⟨wr.heap.size, 0, none⟩ m m (cellsZ news) hx (by rw [cellsZ_length, hm, Nat.mul_one]) (fun j u hj => by
      rw [add_flat, cell_of_row _ wr.heap.size (0 + j) cs _ _ (heap_alloc_new wr _), Nat.zero_add, ← Array.getElem?_toList, hcs]
      exact hj) (cellsZ_one news) (by unfold maxLen; omega) (by omega) (by simp; omega) ?_
  intro v' w' ho hg _ hat
  refine h v' w' ?_ ((World.grownBy_alloc wr _ _).trans hg) (by simpa using hat)
  unfold OutZ
  rw [List.length_append, hm]
  simpa [cellsZ] using ho

/-- All blocks but two are as they were. -/
def KeptBut (w w' : World) (g : Nat) (v : Value) : Prop := ∀ k, k < w.heap.size → k ≠ g → v.ownBlock ≠ some k → w'.heap[k]? = w.heap[k]?
set_option maxRecDepth 10000 in
theorem mark_yes (B g : Nat) (n : Int) (L : List Int) (v : Value) (w : World) (h : BoxZ B g w L v) (h0 : 0 ≤ n) (h1 : n ≤ 65535) (hl : L.length + 1 ≤ 17592186044416) :
    Calls Try.prog 8 #[.int .i64 n, .pointer (some ⟨g, 0, none⟩)] w fun e w' => e = .returned (.tuple #[]) ∧ (∃ v', BoxZ B g w' (L ++ [n]) v') ∧ Below B w w' ∧ KeptBut w w' g v := by
  have C := Lib.hid (fun w => port_yes n w h0 h1)
  have hc := h.cell
  have hf := h.frozen
  have H := Lib.hid h
  clear h
  go_enter Try.func8, Try.ntmps8
  go_wp2_with (first
    | (go_at_call 9; refine (C.out _).mono ?_; rintro e w' ⟨rfl, rfl⟩)
    | (at_builtin; refine wpList_appendZ_at (by rfl) (.tmp 5) (.tmp 7) (by rfl) (news := [n]) _ 1 (by rfl) (by rfl) (by rfl) (by rfl) H.out.own (Nat.le_trans H.out.low (Nat.le_of_lt H.out.lt)) hl ?_
       intro v' w1 ho hg hat
       obtain ⟨g2, c2, hv2, hg2⟩ := ho.block (by simp)
       rw [show (L ++ [n]).length = L.length + 1 from by simp] at hv2
       subst hv2
       have HG : Hid (w1.heap[g]? = some (.cells #[v] 28 (0, 0))) := (hg.block g H.out.lt (fun e => H.out.apart e.symm)).trans H.out.box
       have hc1 : w1.cell? ⟨g, 0, none⟩ = some v := cell_of_row w1 _ _ _ _ _ HG.out
       have hf1 : w1.frozen? ⟨g, 0, none⟩ = false := frozen_of_row w1 _ 0 _ _ HG.out
       have HO := Lib.hid ho
       have HA : Hid ((Value.slice (some ⟨g2, 0, none⟩) (L.length + 1) c2).ownBlock ≠ some g) := by
         rcases hat with e | e
         · show _ ≠ _; rw [e]; exact H.out.apart
         · show _ ≠ _; rw [e]; intro e2; injection e2 with e2; have := H.out.lt; omega
       have HB : Hid (Below B w w1) := (Below.refl B w).grown hg (Nat.le_trans H.out.low (Nat.le_of_lt H.out.lt)) (fun k hk => (World.ownsRow.lt H.out.own k hk).1)
       have HK : Hid (∀ k, k < w.heap.size → v.ownBlock ≠ some k → w1.heap[k]? = w.heap[k]?) := fun k hk hne => hg.block k hk (fun e => hne e.symm)
       clear hat ho hg hc hf hg2)
    | fail)
  go_end0
  refine ⟨rfl, ⟨_, ?_, HO.out.far HA.out, HA.out, H.out.low⟩, HB.out.setCell (p := ⟨g, 0, none⟩) H.out.low _, fun k hk hkg hne => (heap_setCell_other w1 ⟨g, 0, none⟩ k _ hkg).trans (HK.out k hk hne)⟩
  exact heap_setCell_same w1 g 0 _ _ _ HG.out
theorem mark_no (g : Nat) (n : Int) (w : World) (h : ¬ (0 ≤ n ∧ n ≤ 65535)) :
    Calls Try.prog 8 #[.int .i64 n, .pointer (some ⟨g, 0, none⟩)] w fun e w' => e = .returned (.tuple #[]) ∧ w = w' := by
  have C := Lib.hid (fun w => port_no n w h)
  go_enter Try.func8, Try.ntmps8
  go_wp2_with (first | (go_at_call 9; refine (C.out _).mono ?_; rintro e w' ⟨rfl, rfl⟩) | fail)
  go_end0
  exact ⟨rfl, rfl⟩
/-- A mark, whatever the number. -/
theorem mark_any (B g : Nat) (n : Int) (L : List Int) (v : Value) (w : World) (h : BoxZ B g w L v) (hl : L.length + 1 ≤ 17592186044416) :
    Calls Try.prog 8 #[.int .i64 n, .pointer (some ⟨g, 0, none⟩)] w fun e w' => e = .returned (.tuple #[]) ∧ (∃ v', BoxZ B g w' (L ++ if 0 ≤ n ∧ n ≤ 65535 then [n] else []) v') ∧ Below B w w' ∧ KeptBut w w' g v := by
  by_cases hp : 0 ≤ n ∧ n ≤ 65535
  · rw [if_pos hp]
    exact mark_yes B g n L v w h hp.1 hp.2 hl
  · rw [if_neg hp, List.append_nil]
    refine (mark_no g n w hp).mono ?_
    rintro e w' ⟨rfl, rfl⟩
    exact ⟨rfl, ⟨v, h⟩, Below.refl _ _, fun k _ _ _ => rfl⟩

/-- The marks of the first k spans. -/
def marksTo (L : List Sp) (k : Nat) : List Int := marks (L.take k)
theorem marks_step {L : List Sp} (s : Sp) (hs : OkS s) : (marks L ++ if 0 ≤ s.1 ∧ s.1 ≤ 65535 then [s.1] else []) ++ (if 0 ≤ s.2 + 1 ∧ s.2 + 1 ≤ 65535 then [s.2 + 1] else []) = marks (L ++ [s]) := by
  unfold OkS at hs
  unfold marks
  rw [if_pos (by omega), List.flatMap_append]
  by_cases h : s.2 + 1 ≤ 65535
  · rw [if_pos ⟨by omega, h⟩]; simp [h]
  · rw [if_neg (fun h2 => h h2.2)]; simp [h]
theorem take_succ_sp (L : List Sp) (k : Nat) (h : k < L.length) : L.take (k + 1) = L.take k ++ [L.getD k (0, 0)] := by
  rw [List.getD_eq_getElem?_getD, List.getElem?_eq_getElem h]
  exact List.take_succ_eq_append_getElem h
theorem marks_length (L : List Sp) : (marks L).length ≤ 1 + 2 * L.length := by
  induction L with
  | nil => simp [marks]
  | cons s L ih =>
    unfold marks at *
    rw [List.flatMap_cons, List.length_cons, List.length_append]
    rw [List.length_cons] at ih
    have : (if s.2 + 1 ≤ 65535 then [s.1, s.2 + 1] else [s.1]).length ≤ 2 := by split <;> simp
    rw [List.length_cons]
    omega
theorem marks_i64 {L : List Sp} (h : ∀ s ∈ L, OkS s) : ∀ x ∈ marks L, -9223372036854775808 ≤ x ∧ x ≤ 9223372036854775807 := by
  intro x hx
  rcases mem_marks.1 hx with rfl | ⟨s, hs, hx⟩
  · omega
  · have := h s hs
    unfold OkS at this
    omega
end Go.Proofs.Ytcbhhfnnjfpmbaa
