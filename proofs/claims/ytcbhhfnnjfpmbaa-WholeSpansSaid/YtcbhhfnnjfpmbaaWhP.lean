/-
  Plain facts of WholeSpans: the pieces that are within some spans, laid one behind the other, and their union.
-/
import Derived.Test.YtcbhhfnnjfpmbaaSpPc2
import Derived.Test.YtcbhhfnnjfpmbaaSp3
namespace Go.Proofs.Ytcbhhfnnjfpmbaa
set_option linter.unusedVariables false

/-- What is laid down of the first k spans in piece p: the piece, once for each span that has it. -/
def laid1 (p : Sp) (L : List Sp) (k : Nat) : List Sp := ((L.take k).filter fun s => hasS s p.1).map fun _ => p
/-- What is laid down of the first i pieces. -/
def laidTo (st : List Int) (L : List Sp) : Nat → List Sp
  | 0 => []
  | i + 1 => laidTo st L i ++ laid1 (pieceAt st i) L L.length
theorem laid1_zero (p : Sp) (L : List Sp) : laid1 p L 0 = [] := rfl
theorem laid1_step {p : Sp} {L : List Sp} {k : Nat} (h : k < L.length) : laid1 p L (k + 1) = laid1 p L k ++ (if hasS (L.getD k (0, 0)) p.1 = true then [p] else []) := by
  unfold laid1
  rw [take_succ_sp L k h, List.filter_append, List.map_append]
  congr 1
  rw [List.filter_cons]
  split <;> rfl
theorem laid1_len (p : Sp) (L : List Sp) (k : Nat) : (laid1 p L k).length ≤ k := by
  unfold laid1
  rw [List.length_map]
  have h2 := List.length_filter_le (fun s : Sp => hasS s p.1) (L.take k)
  have h3 : (L.take k).length ≤ k := by rw [List.length_take]; omega
  omega
theorem laidTo_len (st : List Int) (L : List Sp) : ∀ i, (laidTo st L i).length ≤ i * L.length
  | 0 => Nat.zero_le _
  | i + 1 => by
    have h1 := laidTo_len st L i
    have h2 := laid1_len (pieceAt st i) L L.length
    show (laidTo st L i ++ laid1 (pieceAt st i) L L.length).length ≤ _
    rw [List.length_append, Nat.succ_mul]
    omega
theorem mem_laidTo {st : List Int} {L : List Sp} {t : Sp} : ∀ {i : Nat}, t ∈ laidTo st L i ↔ ∃ j, j < i ∧ t = pieceAt st j ∧ ∃ s ∈ L, hasS s (pieceAt st j).1 = true
  | 0 => ⟨fun h => (by cases h), fun ⟨j, h, _⟩ => absurd h (Nat.not_lt_zero _)⟩
  | i + 1 => by
    show t ∈ laidTo st L i ++ laid1 (pieceAt st i) L L.length ↔ _
    rw [List.mem_append, mem_laidTo (i := i)]
    unfold laid1
    rw [List.take_length]
    constructor
    · rintro (⟨j, h1, h2, h3⟩ | h)
      · exact ⟨j, by omega, h2, h3⟩
      · obtain ⟨s, hs, rfl⟩ := List.mem_map.1 h
        obtain ⟨h1, h2⟩ := List.mem_filter.1 hs
        exact ⟨i, by omega, rfl, s, h1, h2⟩
    · rintro ⟨j, h1, h2, s, h3, h4⟩
      rcases Nat.lt_or_ge j i with h | h
      · exact .inl ⟨j, h, h2, s, h3, h4⟩
      · obtain rfl : j = i := by omega
        exact .inr (List.mem_map.2 ⟨s, List.mem_filter.2 ⟨h3, h4⟩, h2.symm⟩)
theorem laidTo_ok {st : List Int} {L : List Sp} (h : Starts st L) (hL : ∀ s ∈ L, OkS s) : ∀ t ∈ laidTo st L st.length, OkS t := by
  intro t ht
  obtain ⟨j, hj, rfl, _⟩ := mem_laidTo.1 ht
  exact piece_ok h hL hj
/-- The pieces laid down have the numbers that the spans have. -/
theorem laidTo_mem {st : List Int} {L : List Sp} (h : Starts st L) (hL : ∀ s ∈ L, OkS s) (n : Int) : mem (laidTo st L st.length) n ↔ mem L n := by
  constructor
  · rintro ⟨t, ht, hn⟩
    obtain ⟨j, hj, rfl, s, hs, hh⟩ := mem_laidTo.1 ht
    exact ⟨s, hs, (piece_same h hL hj hn hs).2 ((hasS_in (hL s hs) _).1 hh)⟩
  · rintro ⟨s, hs, hn⟩
    have hok := hL s hs
    unfold OkS at hok
    have h0 : 0 ≤ n := Int.le_trans hok.1 hn.1
    have h1 : n ≤ 65535 := Int.le_trans hn.2 hok.2.2
    obtain ⟨hj, hp⟩ := pidx_piece h hL h0 h1
    exact ⟨_, mem_laidTo.2 ⟨_, hj, rfl, s, hs, (hasS_in (hL s hs) _).2 ((piece_same h hL hj hp hs).1 hn)⟩, hp⟩
/-- Both unions are one list. -/
theorem uni_same {L M S T : List Sp} (hS : SortedS L S) (hT : SortedS M T) (hL : ∀ s ∈ L, OkS s) (hM : ∀ s ∈ M, OkS s) (h : ∀ n, mem M n ↔ mem L n) : uni T = uni S := by
  have f1 : ∀ s ∈ S, OkS s := fun s hs => hL s (hS.perm.mem_iff.1 hs)
  have f2 : ∀ s ∈ T, OkS s := fun s hs => hM s (hT.perm.mem_iff.1 hs)
  have u1 := uni_uni (S := S) (fun s hs => by have := f1 s hs; unfold OkS at this; omega) hS.up
  have u2 := uni_uni (S := T) (fun s hs => by have := f2 s hs; unfold OkS at this; omega) hT.up
  refine norm_unique u2.norm u1.norm fun n => ?_
  have m1 : mem S n ↔ mem L n := ⟨fun ⟨s, hs, hi⟩ => ⟨s, hS.perm.mem_iff.1 hs, hi⟩, fun ⟨s, hs, hi⟩ => ⟨s, hS.perm.mem_iff.2 hs, hi⟩⟩
  have m2 : mem T n ↔ mem M n := ⟨fun ⟨s, hs, hi⟩ => ⟨s, hT.perm.mem_iff.1 hs, hi⟩, fun ⟨s, hs, hi⟩ => ⟨s, hT.perm.mem_iff.2 hs, hi⟩⟩
  rw [u2.mem, u1.mem, m1, m2, h]
theorem uni_ok {L S : List Sp} (hS : SortedS L S) (hL : ∀ s ∈ L, OkS s) : Norm (uni S) ∧ (∀ s ∈ uni S, OkS s) ∧ ∀ n, mem (uni S) n ↔ mem L n := by
  have f1 : ∀ s ∈ S, OkS s := fun s hs => hL s (hS.perm.mem_iff.1 hs)
  have u1 := uni_uni (S := S) (fun s hs => by have := f1 s hs; unfold OkS at this; omega) hS.up
  exact ⟨u1.norm, fold_ok S [] (by simp) f1, fun n => by
    rw [u1.mem]
    exact ⟨fun ⟨s, hs, hi⟩ => ⟨s, hS.perm.mem_iff.1 hs, hi⟩, fun ⟨s, hs, hi⟩ => ⟨s, hS.perm.mem_iff.2 hs, hi⟩⟩⟩
/-- A span meets a piece in the whole piece or not at all. -/
theorem meet_piece {st : List Int} {L : List Sp} (h : Starts st L) (hL : ∀ s ∈ L, OkS s) {i : Nat} (hi : i < st.length) {s : Sp} (hs : s ∈ L) :
    meetS s (pieceAt st i) = if hasS s (pieceAt st i).1 = true then (pieceAt st i, true) else ((0, 0), false) := by
  have hok := hL s hs
  have hpo := piece_ok h hL hi
  have c1 := chkS_ok.2 hok
  have c2 := chkS_ok.2 hpo
  have hin := hasS_in hok (pieceAt st i).1
  have hpp := fun n hn => piece_same h hL hi (n := n) hn hs
  generalize pieceAt st i = p at *
  obtain ⟨p1, p2⟩ := p
  obtain ⟨s1, s2⟩ := s
  unfold OkS at hok hpo
  unfold inS at hin hpp
  dsimp only at hok hpo hin hpp ⊢
  unfold meetS
  dsimp only
  by_cases hh : hasS (s1, s2) p1 = true
  · have h1 := hin.1 hh
    have h2 := (hpp p2 ⟨hpo.2.1, Int.le_refl _⟩).2 h1
    rw [if_pos hh, if_pos ⟨c1, c2, by omega⟩, show max s1 p1 = p1 by omega, show min s2 p2 = p2 by omega]
  · have h1 : ¬ (s1 ≤ p1 ∧ p1 ≤ s2) := fun k => hh (hin.2 k)
    rw [if_neg hh, if_neg]
    rintro ⟨_, _, h3⟩
    exact h1 ((hpp (max s1 p1) ⟨by omega, by omega⟩).1 ⟨by omega, by omega⟩)
/-- Spans that are apart: each begins beyond what touches the one ahead. -/
theorem norm_next {L : List Sp} (h : Norm L) {i : Nat} (hi : i + 1 < L.length) : (L.getD i (0, 0)).2 + 1 < (L.getD (i + 1) (0, 0)).1 := by
  have h1 := List.pairwise_iff_getElem.1 h.2 i (i + 1) (by omega) hi (by omega)
  rw [List.getD_eq_getElem?_getD, List.getD_eq_getElem?_getD, List.getElem?_eq_getElem (by omega), List.getElem?_eq_getElem hi]
  exact h1
end Go.Proofs.Ytcbhhfnnjfpmbaa
