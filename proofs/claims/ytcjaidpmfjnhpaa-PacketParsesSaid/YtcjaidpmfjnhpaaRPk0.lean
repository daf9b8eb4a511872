/-
  What the document's parts, whole of layer 14 tell; three results of which the first lies in a variable.
-/
import Derived.Test.YtcjaidpmfjnhpaaPk11
namespace Go.Proofs.Ytcjaidpmfjnhpaa
open Go.RowKit
set_option linter.unusedVariables false

/-- What the document's parts tells: the record but for its ports, the payload, all that is wrong with the headers. -/
def PrIs (D : List Nat) (r : PkRec) (pv : Value) (w : World) (e : Ending) (w' : World) : Prop := Below w.heap.size w w' ∧ (D ≠ [] → ∃ v, e = .returned (.tuple #[.agg (hdCells RZ false 0 0).toArray, .slice none 0 0, v]) ∧ DefRead w' v D) ∧ (D = [] → e = .returned (.tuple #[.agg (hdCells r false 0 0).toArray, pv, .slice none 0 0]))
def WrIs (D : List Nat) (r : PkRec) (x y : Nat) (w : World) (e : Ending) (w' : World) : Prop := Below w.heap.size w w' ∧ (D ≠ [] → ∃ v, e = .returned (.tuple #[.agg (hdCells RZ false 0 0).toArray, v]) ∧ DefRead w' v D) ∧ (D = [] → e = .returned (.tuple #[.agg (hdCells r r.has x y).toArray, .slice none 0 0]))
theorem PkRec.Ok.zero {r : PkRec} {x y : Nat} (h : r.Ok x y) : r.Ok 0 0 := ⟨h.sl, h.dl, h.sb, h.db, h.v, h.proto, h.size, h.at_, h.frag, h.field, by decide, by decide⟩
theorem list_tab {l : List Value} : l = (List.range l.length).map (fun i => l.getD i (.bool false)) := by
  refine List.ext_getElem (by simp) fun i h1 h2 => ?_
  simp [List.getD_eq_getElem?_getD, List.getElem?_eq_getElem h1]
/-- A row of forty cells, each by its number. -/
theorem fortyF {l : List Value} (h : l.length = 40) : ∃ f : Nat → Value, (#[f 0, f 1, f 2, f 3, f 4, f 5, f 6, f 7, f 8, f 9, f 10, f 11, f 12, f 13, f 14, f 15, f 16, f 17, f 18, f 19, f 20, f 21, f 22, f 23, f 24, f 25, f 26, f 27, f 28, f 29, f 30, f 31, f 32, f 33, f 34, f 35, f 36, f 37, f 38, f 39]: Array Value) = l.toArray ∧ ∀ i, i < 40 → l[i]? = some (f i) := by
  refine ⟨fun i => l.getD i (.bool false), ?_, fun i hi => ?_⟩
  · have e := list_tab (l := l)
    rw [h] at e
    exact congrArg List.toArray e.symm
  · simp [List.getD_eq_getElem?_getD, List.getElem?_eq_getElem (show i < l.length by omega)]
/-- Three results, of which the first lies in a variable. -/
theorem res_cell_two {P : Program} {fn : Func} {p u v : Tmp} {ty : TypeId} {tmps : Array Value} {w : World} {a : Addr} {x y z : Value} (h : fn.results = #[.cell p ty, .tmp u, .tmp v]) (hp : tmps.getD p undef = .pointer (some a))
    (hl : (Go.loadVar ty a).run P w = .ok x w) (hy : tmps.getD u undef = y) (hz : tmps.getD v undef = z) : (results fn tmps).run P w = .ok (.tuple #[x, y, z]) w := by
  simp only [results, h]
  have hq : tmps[p]?.getD undef = .pointer (some a) := by rw [← hp]; simp
  have hq2 : tmps[u]?.getD undef = y := by rw [← hy]; simp
  have hq3 : tmps[v]?.getD undef = z := by rw [← hz]; simp
  simp [asAddr, hq, hq2, hq3, hl]
end Go.Proofs.Ytcjaidpmfjnhpaa
