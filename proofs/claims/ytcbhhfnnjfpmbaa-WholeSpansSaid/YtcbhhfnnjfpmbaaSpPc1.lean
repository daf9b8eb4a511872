/-
  Pairs of numbers of 16 bits that came in, and the spans that SpanPieces makes of them; plain facts of SpanPieces.
-/
import Derived.Test.YtcbhhfnnjfpmbaaSp12
namespace Go.Proofs.Ytcbhhfnnjfpmbaa
open Go.RowKit
set_option linter.unusedVariables false

/-- A slice of pairs of uint16 with address A and length n reads as P. -/
def RowP (w : World) (A : Option Addr) (n : Nat) (P : List Sp) : Prop :=
  P.length = n ∧ (∀ s ∈ P, (0 ≤ s.1 ∧ s.1 ≤ 65535) ∧ 0 ≤ s.2 ∧ s.2 ≤ 65535) ∧ ∀ i, i < n → ∃ b o, A = some ⟨b, o, none⟩ ∧ w.cell? ⟨b, o + i * 2, none⟩ = some (.int .u16 (P.getD i (0, 0)).1) ∧ w.cell? ⟨b, o + i * 2 + 1, none⟩ = some (.int .u16 (P.getD i (0, 0)).2)
theorem RowP.addr {w : World} {A : Option Addr} {n : Nat} {L : List Sp} (h : RowP w A n L) (hn : 0 < n) :
    ∃ b o, A = some ⟨b, o, none⟩ ∧ b < w.heap.size ∧ ∀ i, i < n → w.cell? ⟨b, o + i * 2, none⟩ = some (.int .u16 (L.getD i (0, 0)).1) ∧ w.cell? ⟨b, o + i * 2 + 1, none⟩ = some (.int .u16 (L.getD i (0, 0)).2) := by
  obtain ⟨b, o, rfl, hc, _⟩ := h.2.2 0 hn
  refine ⟨b, o, rfl, cell_lt hc, fun i hi => ?_⟩
  obtain ⟨b', o', he, hc', hc2⟩ := h.2.2 i hi
  injection he with he
  injection he with h1 h2
  subst h1 h2
  exact ⟨hc', hc2⟩
theorem RowP.keep {w w' : World} {A : Option Addr} {n : Nat} {L : List Sp} (h : RowP w A n L) (hk : ∀ p : Addr, p.block < w.heap.size → w'.cell? p = w.cell? p) : RowP w' A n L :=
  ⟨h.1, h.2.1, fun i hi => by
    obtain ⟨b, o, he, hc, hc2⟩ := h.2.2 i hi
    exact ⟨b, o, he, (hk _ (cell_lt hc)).trans hc, (hk _ (cell_lt hc2)).trans hc2⟩⟩
theorem RowP.below {w w' : World} {A : Option Addr} {n : Nat} {L : List Sp} (h : RowP w A n L) (hb : Below w.heap.size w w') : RowP w' A n L := h.keep fun _ hp => hb.cell hp
theorem RowP.nil (w : World) (A : Option Addr) : RowP w A 0 [] := ⟨rfl, by simp, fun _ h => absurd h (by omega)⟩
/-- The span of a pair. -/
def spOf (p : Sp) : Sp := (min p.1 p.2, max p.1 p.2)
def spsTo (P : List Sp) (k : Nat) : List Sp := (P.take k).map spOf
theorem spsTo_length {P : List Sp} {k : Nat} (h : k ≤ P.length) : (spsTo P k).length = k := by
  unfold spsTo
  rw [List.length_map, List.length_take]
  omega
theorem spsTo_step {P : List Sp} {k : Nat} (h : k < P.length) : spsTo P (k + 1) = spsTo P k ++ [spOf (P.getD k (0, 0))] := by
  unfold spsTo
  rw [take_succ_sp P k h, List.map_append]
  rfl
theorem spsTo_ok {P : List Sp} (h : ∀ s ∈ P, (0 ≤ s.1 ∧ s.1 ≤ 65535) ∧ 0 ≤ s.2 ∧ s.2 ≤ 65535) (k : Nat) : ∀ s ∈ spsTo P k, OkS s := by
  intro s hs
  obtain ⟨p, hp, rfl⟩ := List.mem_map.1 hs
  have := h p (List.mem_of_mem_take hp)
  unfold OkS spOf
  dsimp only
  omega
/-- The last of the first i starts that is not beyond x. -/
def pidx (st : List Int) (x : Int) : Nat → Nat
  | 0 => 0
  | i + 1 => if st.getD i 0 ≤ x then i else pidx st x i
theorem pidx_le (st : List Int) (x : Int) : ∀ i, pidx st x i ≤ i
  | 0 => Nat.le_refl _
  | i + 1 => by
    unfold pidx
    split
    · omega
    · have := pidx_le st x i; omega
theorem pidx_is {st : List Int} {x : Int} (hup : st.Pairwise (· < ·)) (h0 : st.getD 0 0 ≤ x) : ∀ i, 0 < i → i ≤ st.length → pidx st x i < i ∧ st.getD (pidx st x i) 0 ≤ x ∧ ∀ j, pidx st x i < j → j < i → x < st.getD j 0
  | 0, h, _ => absurd h (Nat.lt_irrefl _)
  | i + 1, _, hi => by
    unfold pidx
    by_cases h : st.getD i 0 ≤ x
    · rw [if_pos h]
      exact ⟨Nat.lt_succ_self _, h, fun j h1 h2 => by omega⟩
    · rw [if_neg h]
      have hi0 : 0 < i := by
        rcases Nat.eq_zero_or_pos i with e | e
        · subst e; exact absurd h0 h
        · exact e
      obtain ⟨a, b, c⟩ := pidx_is hup h0 i hi0 (by omega)
      refine ⟨by omega, b, fun j h1 h2 => ?_⟩
      rcases Nat.lt_or_ge j i with h3 | h3
      · exact c j h1 h3
      · obtain rfl : j = i := by omega
        omega
/-- A port lies in the piece that is found so. -/
theorem pidx_piece {st : List Int} {L : List Sp} (h : Starts st L) (hL : ∀ s ∈ L, OkS s) {x : Int} (h0 : 0 ≤ x) (h1 : x ≤ 65535) : pidx st x st.length < st.length ∧ inS (pieceAt st (pidx st x st.length)) x := by
  have hz := h.zero hL
  obtain ⟨a, b, c⟩ := pidx_is (x := x) h.up (by rw [hz]; exact h0) st.length h.pos (Nat.le_refl _)
  refine ⟨a, ?_⟩
  unfold pieceAt inS
  refine ⟨b, ?_⟩
  dsimp only
  split
  · rename_i hlt
    have := c (pidx st x st.length + 1) (Nat.lt_succ_self _) hlt
    omega
  · exact h1
/-- In one piece all numbers are in the same spans. -/
theorem piece_has {st : List Int} {L : List Sp} (h : Starts st L) (hL : ∀ s ∈ L, OkS s) {x y : Int} (hx : 0 ≤ x ∧ x ≤ 65535) (hy : 0 ≤ y ∧ y ≤ 65535) (he : pidx st x st.length = pidx st y st.length) {s : Sp} (hs : s ∈ L) : hasS s x = hasS s y := by
  obtain ⟨a1, a2⟩ := pidx_piece h hL hx.1 hx.2
  obtain ⟨b1, b2⟩ := pidx_piece h hL hy.1 hy.2
  rw [← he] at b2
  have e1 := piece_same h hL a1 a2 hs
  have e2 := piece_same h hL a1 b2 hs
  have hok := hL s hs
  have hasin : ∀ z, hasS s z = true ↔ inS s z := fun z => by
    unfold hasS inS
    simp only [Bool.and_eq_true, decide_eq_true_eq]
    exact ⟨fun h => ⟨h.1.2, h.2⟩, fun h => ⟨⟨chkS_ok.2 hok, h.1⟩, h.2⟩⟩
  have e3 : hasS s x = true ↔ hasS s y = true := by rw [hasin, hasin, e1, e2]
  cases ha : hasS s x <;> cases hb : hasS s y <;> simp_all
end Go.Proofs.Ytcbhhfnnjfpmbaa
