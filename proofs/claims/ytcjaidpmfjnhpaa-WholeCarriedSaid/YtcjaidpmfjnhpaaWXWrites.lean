/-
  The walk of the statement ExtwalkWrites.
-/
import Derived.Test.YtcjaidpmfjnhpaaREw5
import Derived.Test.YtcjaidpmfjnhpaaEw10
namespace Go.Proofs.Ytcjaidpmfjnhpaa
open Go.RowKit
set_option linter.unusedVariables false

/-- It answers bytes and a fault. -/
def WroteIs (L : List Nat) (x y : Nat) (w : World) (e : Ending) (w' : World) : Prop := ∃ v, e = .returned (.tuple #[v, .agg #[.int .i64 (x : Nat), .int .i64 (y : Nat)]]) ∧ ByteVal w' v L ∧ L.length ≤ 9223372036854775807 ∧ Below w.heap.size w w'
theorem exts_bytes {w : World} {v : Value} {M : List (Int × List Nat)} (h : ExtsIn w v M) : ∀ m ∈ M, ∀ x ∈ m.2, x < 256 := fun m hm => by
  obtain ⟨A, c, _, _, hc⟩ := h
  obtain ⟨i, hi, rfl⟩ := List.getElem_of_mem hm
  obtain ⟨_, b, o, bv, _, _, _, _, ⟨A2, c2, _, _, hr⟩⟩ := hc i _ (List.getElem?_eq_getElem hi)
  exact hr.2.1
theorem wrote {w0 : World} {v : Value} {M : List (Int × List Nat)} {proto : Int} {x y : Nat} {L : List Nat} (hM : ExtsIn w0 v M) (hr : exCheck M proto = (x, y)) (hL : L = if x = 0 then exBytes proto M else []) (w : World) : ∀ e w', WriteExt M proto w e w' → WroteIs L x y w e w' := by
  rintro e w' ⟨hb, h1, h2⟩
  rw [hr] at h1 h2
  by_cases hx : x = 0
  · subst hx
    rw [if_pos rfl] at hL
    obtain ⟨v2, rfl, ho⟩ := h2 rfl
    obtain ⟨e0, hp, _, hm⟩ := exCheck_ok (M := M) (proto := proto) (by rw [hr])
    have e0 : (0, y) = (0, 0) := hr.symm.trans e0
    injection e0 with _ e1
    obtain ⟨A, c, rfl, h3, h4, h5⟩ := ho.out (exBytes_byte ⟨hp.1, hp.2.1⟩ hm (exts_bytes hM))
    refine ⟨_, by rw [e1]; rfl, ⟨A, c, by rw [hL], by rw [hL]; exact h3, by rw [hL]; exact h5⟩, by rw [hL]; exact Nat.le_trans h3 (Nat.le_trans h4 (by unfold maxLen; decide)), hb⟩
  · rw [if_neg hx] at hL
    subst hL
    exact ⟨_, h1 hx, ByteVal.nil _, Nat.zero_le _, hb⟩
end Go.Proofs.Ytcjaidpmfjnhpaa
