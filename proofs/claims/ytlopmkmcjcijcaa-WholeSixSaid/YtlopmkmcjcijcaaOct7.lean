/-
  Contracts of the document's Cut and Put.
-/
import Derived.Test.YtlopmkmcjcijcaaOct1
import Derived.Test.YtlopmkmcjcijcaaJoin
namespace Go.Proofs.Ytlopmkmcjcijcaa
open Go.RowKit
set_option linter.unusedVariables false
set_option maxRecDepth 10000

/-- New bytes, and no error. -/
def OutTo (w : World) (l : List Nat) (e : Ending) (w' : World) : Prop := ∃ v, e = .returned (.tuple #[v, .int .i64 0]) ∧ OutIs w.heap.size w' v l ∧ Below w.heap.size w w'
theorem outTo_mk {w w' : World} {o : Obj} {v : Value} {l : List Nat} (h1 : OutIs (w.alloc o).heap.size w' v l) (h2 : Below (w.alloc o).heap.size (w.alloc o) w') : OutTo w l (.returned (.tuple #[v, .int .i64 0])) w' :=
  ⟨v, rfl, h1.mono (by simp), ((Below.refl _ _).alloc (Nat.le_refl _) _).trans (h2.mono (by simp))⟩

/-- What stands while the document's Put writes: the bytes from the i-th on are there. -/
def RPutInv (B : Nat) (w : World) (v : Value) (bs : List Nat) (a : Nat) (l : List Nat) (i : Nat) (wr : World) : Prop := OutIs B wr v (splice bs (a + i) (l.drop i)) ∧ Below B w wr
theorem rput_step {B g c : Nat} {w wr : World} {bs l : List Nat} {a i n q : Nat} (hinv : RPutInv B w (.slice (some ⟨g, 0, none⟩) n c) bs a l (i + 1) wr) (hlt : i < l.length) (hB : B ≤ g) (hq : l.getD i 0 = q % 256)
    (hn : bs.length = n) (h : a + l.length ≤ n) : RPutInv B w (.slice (some ⟨g, 0, none⟩) n c) bs a l i (wr.setCell ⟨g, a + i, none⟩ (.int .u8 ((q : Int) % 256))) := by
  have e : ((q : Int) % 256) = ((l.getD i 0 : Nat) : Int) := by rw [hq]; omega
  rw [e]
  refine ⟨?_, hinv.2.setCell hB _⟩
  have := hinv.1.set (by rw [splice_length (by rw [List.length_drop]; omega), hn]) (a + i) (l.getD i 0)
  rw [splice_drop (by omega) hlt] at this
  exact this
end Go.Proofs.Ytlopmkmcjcijcaa
