/-
  The contract of fourhead's Options.
-/
import Derived.Test.YtlopmkmcjcijcaaFh7
namespace Go.Proofs.Ytlopmkmcjcijcaa
open Go.RowKit
set_option linter.unusedVariables false

/-- The options with which some bytes begin, or none where one is wrong. -/
def optsF : Nat → List Nat → Option (List (Nat × List Nat))
  | 0, _ => some []
  | f + 1, l => if l.length = 0 ∨ l.getD 0 0 = 0 then some [] else match optOne l with
    | none => none
    | some (k, n, b) => (optsF f (l.drop n)).map fun M => (k, b) :: M
theorem optOne_bd {l : List Nat} {k n : Nat} {b : List Nat} (h0 : 0 < l.length) (h : optOne l = some (k, n, b)) : 1 ≤ n ∧ n ≤ l.length ∧ b.length ≤ l.length := by
  unfold optOne at h
  split at h
  · injection h with h; injection h with h1 h2; injection h2 with h2 h3
    subst h1 h2 h3
    exact ⟨by decide, h0, Nat.zero_le _⟩
  · split at h
    · cases h
    · split at h
      · cases h
      · injection h with h; injection h with h1 h2; injection h2 with h2 h3
        subst h1 h2 h3
        refine ⟨by omega, by omega, ?_⟩
        rw [List.length_take, List.length_drop]
        omega
theorem optsF_nil (f : Nat) : optsF f [] = some [] := by
  cases f <;> simp [optsF]
/-- What Options tells. -/
def fhopts (n : Nat) (bs : List Nat) : Option (List (Nat × List Nat)) := if fhdef n bs = 0 then optsF 60 ((bs.drop 20).take (4 * (bs.getD 0 0 % 16) - 20)) else none
def OptsIs (w : World) (r : Option (List (Nat × List Nat))) (e : Ending) (w' : World) : Prop :=
  Below w.heap.size w w' ∧ match r with
  | none => e = .returned (.tuple #[.slice none 0 0, .bool false])
  | some M => ∃ v, e = .returned (.tuple #[v, .bool true]) ∧ Exts w.heap.size w' v M
def sliceLen : Value → Nat
  | .slice _ m _ => m
  | _ => 0
/-- Where the loop stands: the options so far, and what is left of the bytes. -/
def OptsInv (w : World) (r : Option (List (Nat × List Nat))) (out rest : Value) (W : World) : Prop :=
  ∃ (L : List (Nat × List Nat)) (R : List Nat) (A : Option Addr) (m c f : Nat), Exts w.heap.size W out L ∧ rest = .slice A m c ∧ m ≤ c ∧ m ≤ 140737488355328 ∧ Row w A m R ∧ Below w.heap.size w W ∧ m ≤ f ∧ L.length + m ≤ 60 ∧ r = (optsF f R).map fun M => L ++ M
theorem row_from {w : World} {b o m c k : Nat} {R : List Nat} (h : Row w (some ⟨b, o, none⟩) m R) (hk : k ≤ m) (hc : m ≤ c) : Row w (if c = k then some ⟨b, o, none⟩ else some ⟨b, o + k, none⟩) (m - k) (R.drop k) := by
  split
  · have hmk : m = k := by omega
    subst hmk
    rw [Nat.sub_self, List.drop_of_length_le (by rw [h.1]; exact Nat.le_refl _)]
    exact Row.nil _ _
  · have hp := h.part k (m - k) (by omega)
    rw [List.take_of_length_le (by rw [List.length_drop, h.1]; exact Nat.le_refl _)] at hp
    exact hp
theorem row_piece {w : World} {b o m c k : Nat} {R : List Nat} (z : Nat) (h : Row w (some ⟨b, o, none⟩) m R) (hk : k ≤ z) (hz : z ≤ m) (hc : m ≤ c) : Row w (if c = k then some ⟨b, o, none⟩ else some ⟨b, o + k, none⟩) (z - k) ((R.drop k).take (z - k)) := by
  split
  · have hmk : z - k = 0 := by omega
    rw [hmk, List.take_zero]
    exact Row.nil _ _
  · exact h.part k (z - k) (by omega)
end Go.Proofs.Ytlopmkmcjcijcaa
