/-
  The contract of fourhead's option.
  The contract of fourhead's Options.
  The contract of what All notes with.
  The contract of fourhead's All.
-/
import Derived.Test.YtlopmkmcjcijcaaFh1
import Derived.Test.YtlopmkmcjcijcaaOct1
import Derived.Test.YtlopmkmcjcijcaaExts
import Derived.Test.YtlopmkmcjcijcaaOne1
namespace Go.Proofs.Ytlopmkmcjcijcaa
open Go.RowKit
set_option linter.unusedVariables false

theorem res_cell_tmp2 {P : Program} {fn : Func} {p u u2 : Tmp} {ty : TypeId} {tmps : Array Value} {w : World} {a : Addr} {v x y : Value} (h : fn.results = #[.cell p ty, .tmp u, .tmp u2]) (hp : tmps.getD p undef = .pointer (some a))
    (hl : (Go.loadVar ty a).run P w = .ok v w) (hx : tmps.getD u undef = x) (hy : tmps.getD u2 undef = y) : (results fn tmps).run P w = .ok (.tuple #[v, x, y]) w := by
  subst hx hy
  simp only [results, h]
  have hq : tmps[p]?.getD undef = .pointer (some a) := by rw [← hp]; simp
  simp [Result.andThen, asAddr, hq, hl]
/-- The first option of some bytes: its kind, how many bytes it takes, and its body. -/
def optOne (l : List Nat) : Option (Nat × Nat × List Nat) :=
  if l.getD 0 0 = 1 then some (1, 1, []) else if l.length < 2 then none else if l.getD 1 0 < 2 ∨ l.length < l.getD 1 0 then none else some (l.getD 0 0, l.getD 1 0, (l.drop 2).take (l.getD 1 0 - 2))
/-- What option answers. -/
def OptIs (w : World) (r : Option (Nat × Nat × List Nat)) (e : Ending) (w' : World) : Prop :=
  Below w.heap.size w w' ∧ match r with
  | none => e = .returned (.tuple #[.agg #[.int .i64 0, .slice none 0 0], .int .i64 0, .bool false])
  | some (k, n, b) => ∃ bv, e = .returned (.tuple #[.agg #[.int .i64 (k : Nat), bv], .int .i64 (n : Nat), .bool true]) ∧ bv.oneCell' = true ∧ ∃ A c, bv = .slice A b.length c ∧ b.length ≤ c ∧ Row w' A b.length b ∧ ∀ ad, A = some ad → w.heap.size ≤ ad.block ∧ ad.block < w'.heap.size
theorem tyext : RowTy 45 2 := ⟨⟨_, Try.underlying45, rfl⟩, by kernel_rfl⟩
end Go.Proofs.Ytlopmkmcjcijcaa

namespace Go.Proofs.Ytlopmkmcjcijcaa
open Go.RowKit
set_option linter.unusedVariables false

/-- The options with which some bytes begin, or none where one is wrong. -/
def optsF : Nat → List Nat → Option (List (Nat × List Nat))
  | 0, _ => some []
  | f + 1, l => if l.length = 0 ∨ l.getD 0 0 = 0 then some [] else match optOne l with
    | none => none
    | some (k, n, b) => (optsF f (l.drop n)).map fun M => (k, b) :: M
theorem optOne_bd {l : List Nat} {k n : Nat} {b : List Nat} (h0 : 0 < l.length) (h : optOne l = some (k, n, b)) : 1 ≤ n ∧ n ≤ l.length ∧ b.length ≤ l.length := by
  unfold optOne at h
  split at h
  · injection h with h; injection h with h1 h2; injection h2 with h2 h3
    subst h1 h2 h3
    exact ⟨by decide, h0, Nat.zero_le _⟩
  · split at h
    · cases h
    · split at h
      · cases h
      · injection h with h; injection h with h1 h2; injection h2 with h2 h3
        subst h1 h2 h3
        refine ⟨by omega, by omega, ?_⟩
        rw [List.length_take, List.length_drop]
        omega
theorem optsF_nil (f : Nat) : optsF f [] = some [] := by
  cases f <;> simp [optsF]
/-- What Options tells. -/
def fhopts (n : Nat) (bs : List Nat) : Option (List (Nat × List Nat)) := if fhdef n bs = 0 then optsF 60 ((bs.drop 20).take (4 * (bs.getD 0 0 % 16) - 20)) else none
def OptsIs (w : World) (r : Option (List (Nat × List Nat))) (e : Ending) (w' : World) : Prop :=
  Below w.heap.size w w' ∧ match r with
  | none => e = .returned (.tuple #[.slice none 0 0, .bool false])
  | some M => ∃ v, e = .returned (.tuple #[v, .bool true]) ∧ Exts w.heap.size w' v M
def sliceLen : Value → Nat
  | .slice _ m _ => m
  | _ => 0
/-- Where the loop stands: the options so far, and what is left of the bytes. -/
def OptsInv (w : World) (r : Option (List (Nat × List Nat))) (out rest : Value) (W : World) : Prop :=
  ∃ (L : List (Nat × List Nat)) (R : List Nat) (A : Option Addr) (m c f : Nat), Exts w.heap.size W out L ∧ rest = .slice A m c ∧ m ≤ c ∧ m ≤ 140737488355328 ∧ Row w A m R ∧ Below w.heap.size w W ∧ m ≤ f ∧ L.length + m ≤ 60 ∧ r = (optsF f R).map fun M => L ++ M
theorem row_from {w : World} {b o m c k : Nat} {R : List Nat} (h : Row w (some ⟨b, o, none⟩) m R) (hk : k ≤ m) (hc : m ≤ c) : Row w (if c = k then some ⟨b, o, none⟩ else some ⟨b, o + k, none⟩) (m - k) (R.drop k) := by
  split
  · have hmk : m = k := by omega
    subst hmk
    rw [Nat.sub_self, List.drop_of_length_le (by rw [h.1]; exact Nat.le_refl _)]
    exact Row.nil _ _
  · have hp := h.part k (m - k) (by omega)
    rw [List.take_of_length_le (by rw [List.length_drop, h.1]; exact Nat.le_refl _)] at hp
    exact hp
theorem row_piece {w : World} {b o m c k : Nat} {R : List Nat} (z : Nat) (h : Row w (some ⟨b, o, none⟩) m R) (hk : k ≤ z) (hz : z ≤ m) (hc : m ≤ c) : Row w (if c = k then some ⟨b, o, none⟩ else some ⟨b, o + k, none⟩) (z - k) ((R.drop k).take (z - k)) := by
  split
  · have hmk : z - k = 0 := by omega
    rw [hmk, List.take_zero]
    exact Row.nil _ _
  · exact h.part k (z - k) (by omega)
end Go.Proofs.Ytlopmkmcjcijcaa

namespace Go.Proofs.Ytlopmkmcjcijcaa
open Go.RowKit
set_option linter.unusedVariables false

theorem ownsRow_other {B : Nat} {w : World} {e : TypeId} {s : Nat} {v : Value} {n : Nat} {xs : List Value} (h : w.ownsRow B e s v n xs) (p : Addr) (u : Value) (hp : p.block < B) : (w.setCell p u).ownsRow B e s v n xs := by
  refine ⟨h.1, ?_⟩
  rcases h.2 with h2 | ⟨g, cap, cur, hv, hg, hh, r⟩
  · exact .inl h2
  · exact .inr ⟨g, cap, cur, hv, hg, (heap_setCell_other w p g u (by omega)).trans hh, r⟩
end Go.Proofs.Ytlopmkmcjcijcaa

namespace Go.Proofs.Ytlopmkmcjcijcaa
open Go.RowKit
set_option linter.unusedVariables false

/-- What All tells of a header that Read tells: its length is m. -/
def fhbad (n m : Nat) (bs : List Nat) (opt good : Bool) : List Nat :=
  (if decide (fhw bs 2 < m) then [6] else []) ++ (if decide (n < fhw bs 2) then [7] else []) ++ (if !opt then [8] else []) ++ (if !good then [9] else []) ++ (if decide (m ≤ fhw bs 2 ∧ 65535 < 8 * (fhw bs 6 % 8192) + fhw bs 2 - m) then [14] else [])
def fhall (n : Nat) (bs : List Nat) : List Nat :=
  if fhdef n bs = 0 then fhbad n (4 * (bs.getD 0 0 % 16)) bs (fhopts n bs).isSome (decide (orest (wsum 0 (bs.take (4 * (bs.getD 0 0 % 16)))) = 65535)) else [fhdef n bs]
theorem fhdef_pos {n : Nat} {bs : List Nat} (h : fhdef n bs = 0) : 1 ≤ n := by
  unfold fhdef at h
  split at h
  · cases h
  · omega
theorem opts_two {w : World} {r : Option (List (Nat × List Nat))} {e : Ending} {w' : World} (h : OptsIs w r e w') : ∃ v, e = .returned (.tuple #[v, .bool r.isSome]) ∧ Below w.heap.size w w' := by
  obtain ⟨hb, h⟩ := h
  cases r with
  | none => exact ⟨_, h, hb⟩
  | some M =>
    obtain ⟨v, e, _⟩ := h
    exact ⟨v, e, hb⟩
def AllIs (w : World) (l : List Nat) (e : Ending) (w' : World) : Prop := ∃ v, e = .returned v ∧ DefRead w' v l ∧ Below w.heap.size w w'
theorem fhbad_len (n m : Nat) (bs : List Nat) (a b : Bool) : (fhbad n m bs a b).length ≤ 5 := by
  unfold fhbad
  simp only [List.length_append]
  have h : ∀ (c : Bool) (x : Nat), (if c then [x] else []).length ≤ 1 := by intro c x; cases c <;> simp
  have h1 := h (decide (fhw bs 2 < m)) 6
  have h2 := h (decide (n < fhw bs 2)) 7
  have h3 := h (!a) 8
  have h4 := h (!b) 9
  have h5 := h (decide (m ≤ fhw bs 2 ∧ 65535 < 8 * (fhw bs 6 % 8192) + fhw bs 2 - m)) 14
  omega
end Go.Proofs.Ytlopmkmcjcijcaa
