/-
  ports: check, the pseudo-header, Sum (the program's).
-/
import Derived.Test.YtmchclpkjjmocaaGreatPo2
import Derived.Test.YtmchclpkjjmocaaGreatPo7
import Derived.Test.YtmchclpkjjmocaaGreatJoin2
import Derived.Test.YtmchclpkjjmocaaGreatFh1
namespace Go.Proofs.YtmchclpkjjmocaaGreat
open Go.RowKit
set_option linter.unusedVariables false
set_option maxRecDepth 8000

structure KeyV where
  v : Int
  p : Int
  src : List Nat
  dst : List Nat
  r : List Value
def KeyV.cells (k : KeyV) : List Value := .int .i64 k.v :: (bcells k.src ++ (bcells k.dst ++ (.int .i64 k.p :: k.r)))
structure KeyOk (k : KeyV) : Prop where
  sl : k.src.length = 16
  dl : k.dst.length = 16
  sb : ∀ x ∈ k.src, x < 256
  db : ∀ x ∈ k.dst, x < 256
  rl : k.r.length = 4
  ro : ∀ v ∈ k.r, v.oneCell' = true
theorem KeyOk.all {k : KeyV} (h : KeyOk k) : k.cells.length = 38 ∧ ∀ v ∈ k.cells, v.oneCell' = true := by
  refine ⟨by simp [KeyV.cells, bcells_length, h.sl, h.dl, h.rl], fun v hv => ?_⟩
  unfold KeyV.cells at hv
  rcases List.mem_cons.1 hv with rfl | hv
  · rfl
  rcases List.mem_append.1 hv with hv | hv
  · exact bcells_one _ v hv
  rcases List.mem_append.1 hv with hv | hv
  · exact bcells_one _ v hv
  rcases List.mem_cons.1 hv with rfl | hv
  · rfl
  · exact h.ro v hv
theorem KeyOk.at_p {k : KeyV} (h : KeyOk k) : k.cells[33]? = some (.int .i64 k.p) := by
  unfold KeyV.cells
  rw [List.getElem?_cons_succ, List.getElem?_append_right (by rw [bcells_length, h.sl]; decide), bcells_length, h.sl, List.getElem?_append_right (by rw [bcells_length, h.dl]; decide), bcells_length, h.dl]
  rfl
theorem KeyOk.src_row {k : KeyV} (h : KeyOk k) {t : TypeId} {W : World} {g : Nat} (hA : ArrV t W g k.cells) : Row W (some ⟨g, 1, none⟩) 16 k.src := by
  refine Row.mk h.sl h.sb fun i hi => ?_
  rw [hA.get, Nat.add_comm 1 i]
  unfold KeyV.cells
  rw [List.getElem?_cons_succ, List.getElem?_append_left (by rw [bcells_length, h.sl]; exact hi)]
  simp [bcells, h.sl, hi]
theorem KeyOk.dst_row {k : KeyV} (h : KeyOk k) {t : TypeId} {W : World} {g : Nat} (hA : ArrV t W g k.cells) : Row W (some ⟨g, 17, none⟩) 16 k.dst := by
  refine Row.mk h.dl h.db fun i hi => ?_
  rw [hA.get]
  have e : 17 + i = (16 + i) + 1 := by omega
  rw [e]
  unfold KeyV.cells
  rw [List.getElem?_cons_succ, List.getElem?_append_right (by rw [bcells_length, h.sl]; omega), bcells_length, h.sl, Nat.add_sub_cancel_left, List.getElem?_append_left (by rw [bcells_length, h.dl]; exact hi)]
  simp [bcells, h.dl, hi]
/-- What is wrong with a key or its payload. -/
def poWrong (v p : Int) (n : Nat) : Nat := if v ≠ 4 ∧ v ≠ 6 then 4 else if p ≠ 6 ∧ p ≠ 17 then 10 else if n < poLeast p then 2 else if 65535 < n then 18 else 0
/-- The pseudo-header. -/
def poAhead (k : KeyV) (P n : Nat) : List Nat := if k.v = 4 then k.src.take 4 ++ k.dst.take 4 ++ [0, P, n / 256, n % 256] else k.src ++ k.dst ++ [0, 0, n / 256, n % 256, 0, 0, 0, P]
theorem pseudo_ints {n P y z : Nat} (hn : n ≤ 65535) (hP : P < 256) (hy : y = n / 256) (hz : z = n % 256) : (n : Int) / 256 = (y : Int) ∧ y < 256 ∧ (n : Int) % 256 = (z : Int) ∧ (P : Int) % 256 = (P : Int) ∧ IntKind.u8.wrap (y : Int) = (y : Int) ∧ IntKind.u8.wrap (n : Int) = (z : Int) ∧ IntKind.u8.wrap (P : Int) = (P : Int) ∧ z < 256 := by
  refine ⟨by omega, by omega, by omega, by omega, ?_, ?_, ?_, by omega⟩
  · show (y : Int) % 256 = _; omega
  · show (n : Int) % 256 = _; omega
  · show (P : Int) % 256 = _; omega
theorem new_at (w : World) (vs : Array Value) (t : TypeId) (g i : Nat) (v : Value) (hg : w.heap.size = g) (h : vs[i]? = some v) : ((w.alloc (.cells vs t)).drew).cell? ⟨g, i, none⟩ = some v := by
  subst hg
  show (w.alloc (.cells vs t)).cell? _ = _
  rw [cell_of_row _ _ _ _ _ _ (heap_alloc_new w _)]
  exact h
end Go.Proofs.YtmchclpkjjmocaaGreat
