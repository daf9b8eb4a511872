/-
  The contract of what All notes with.
-/
import Derived.Test.YteldjcdoohafcaaFh8
import Derived.Test.YteldjcdoohafcaaOne3
namespace Go.Proofs.Yteldjcdoohafcaa
open Go.RowKit
set_option linter.unusedVariables false

theorem ownsRow_other {B : Nat} {w : World} {e : TypeId} {s : Nat} {v : Value} {n : Nat} {xs : List Value} (h : w.ownsRow B e s v n xs) (p : Addr) (u : Value) (hp : p.block < B) : (w.setCell p u).ownsRow B e s v n xs := by
  refine ⟨h.1, ?_⟩
  rcases h.2 with h2 | ⟨g, cap, cur, hv, hg, hh, r⟩
  · exact .inl h2
  · exact .inr ⟨g, cap, cur, hv, hg, (heap_setCell_other w p g u (by omega)).trans hh, r⟩
/-- Where the notes stand: the variable that holds them, the header's fields beside, and nothing that was there has changed. -/
structure NoteSt (B g gf : Nat) (W0 : World) (X : List Value) (L : List Nat) (w : World) : Prop where
  box : ∃ v, ArrV 35 w g [v] ∧ Defs B w v L
  fv : ArrV 25 w gf X
  below : Below W0.heap.size W0 w
  gB : g < B
  fB : gf < B
  gf : g ≠ gf
  g0 : W0.heap.size ≤ g
  Bw : B ≤ w.heap.size
  len : L.length ≤ 1000
set_option maxRecDepth 10000 in
set_option maxHeartbeats 3200000 in
theorem fhnote_any (B g gf d : Nat) (W0 : World) (X : List Value) (L : List Nat) (b : Bool) (w : World) (hN : NoteSt B g gf W0 X L w) (hL : L.length < 1000) :
    Calls Try.prog 56 #[.int .i64 d, .bool b, .pointer (some ⟨g, 0, none⟩)] w fun e w' => (∃ r, e = .returned r) ∧ NoteSt B g gf W0 X (L ++ if b then [d] else []) w' := by
  cases b with
  | false =>
    go_enter Try.func56, Try.ntmps56
    go_wp2_with fail
    go_end0
    exact ⟨⟨_, rfl⟩, by simpa using hN⟩
  | true =>
    have HN := Lib.hid hN
    obtain ⟨v, hA, hD⟩ := hN.box
    have c0 := hA.get 0
    simp at c0
    have HA := Lib.hid hA
    have HD := Lib.hid hD
    have HL := Lib.hid hL
    clear hA hD hN hL
    go_enter Try.func56, Try.ntmps56
    go_wp2_with (at_builtin; refine wpList_append_def (B := B) (W := w) (wr := w) rfl (.tmp 6) (.tmp 8) rfl rfl rfl HD.out (Below.refl _ _) HN.out.Bw (by have := HL.out; omega) ?_; intro v6 w6 ho6 hb6 hs6; obtain ⟨A9, c9, rfl, _, _⟩ := ho6.slice; have O6 := Lib.hid ho6; have B6 := Lib.hid hb6; have A6 := HA.out.belowB hb6 HN.out.gB; have c6 := A6.get 0; have f6 := A6.frozen 0; simp at c6; have A6 := Lib.hid A6; have s6 := Lib.hid hs6; clear ho6 hb6 hs6)
    go_end0
    have e : (L ++ [d]).length = L.length + 1 := by simp
    have ho := O6.out
    rw [e] at ho
    have h := HN.out
    have hlen : (L ++ [d]).length ≤ 1000 := by have := HL.out; omega
    exact ⟨⟨_, rfl⟩, ⟨_, by simpa using A6.out.set 0 (.slice A9 (L.length + 1) c9), ownsRow_other ho _ _ h.gB⟩, (h.fv.belowB B6.out h.fB).other _ _ h.gf, (h.below.trans (B6.out.mono (Nat.le_trans h.g0 (Nat.le_of_lt h.gB)))).setCell (p := ⟨g, 0, none⟩) h.g0 _, h.gB, h.fB, h.gf, h.g0, by
      have h1 := s6.out
      have h2 := h.Bw
      simp
      omega, hlen⟩
end Go.Proofs.Yteldjcdoohafcaa
