/-
  The contracts of colons' mapped, Map and Unmap.
-/
import Derived.Test.YtaicmadeobglfaaDoorCol6
import Derived.Test.YtaicmadeobglfaaDoorDot3
import Derived.Deep.RegionHeld3
import Derived.Deep.CutRange
import Derived.Deep.CutBlock
namespace Go.Proofs.YtaicmadeobglfaaDoor
open Go.RowKit
set_option linter.unusedVariables false

def mp : List Nat := [0, 0, 0, 0, 0, 0, 0, 0, 0, 0, 255, 255]
def zero16 : List Nat := List.replicate 16 0
theorem bcells_src {t : TypeId} {W : World} {g : Nat} {bs : List Nat} (h : ArrV t W g (bcells bs)) (o : Nat) (cs : List Value) (hcs : ∀ j v, cs[j]? = some v → (bcells bs)[o + j]? = some v) : ∀ j v, cs[j]? = some v → W.cell? ((⟨g, o, none⟩ : Addr).add j) = some v := by
  intro j v hv
  rw [add_flat, h.get]
  exact hcs j v hv

theorem bytes_slice : Tryd.prog.underlying 36 = some (.slice 5) := Tryd.underlying36
theorem src_take {bs : List Nat} (n : Nat) : ∀ j v, (bcells (bs.take n))[j]? = some v → (bcells bs)[0 + j]? = some v := by
  intro j v h
  rw [Nat.zero_add]
  simp only [bcells, List.map_take] at h ⊢
  rw [List.getElem?_take] at h
  split at h
  · exact h
  · cases h
theorem src_drop {bs : List Nat} (n : Nat) : ∀ j v, (bcells (bs.drop n))[j]? = some v → (bcells bs)[n + j]? = some v := by
  intro j v h
  simp only [bcells, List.map_drop] at h ⊢
  rw [List.getElem?_drop] at h
  exact h
theorem src_all {bs : List Nat} : ∀ j v, (bcells bs)[j]? = some v → (bcells bs)[0 + j]? = some v := by
  intro j v h
  rw [Nat.zero_add]
  exact h
theorem same_nat {t : TypeId} {n : Nat} (ht : Tryd.prog.underlying t = some (.array n 5)) (L M : List Nat) (hl : L.length = n) (hm : M.length = n) (w : World) :
    (Op.equalIn 10000 t (.agg (bcells L).toArray) (.agg (bcells M).toArray)).run Tryd.prog w = .ok (decide (L = M)) w := by
  have h := same_arr ht (L.map fun (x : Nat) => (x : Int)) (M.map fun (x : Nat) => (x : Int)) (by simpa using hl) (by simpa using hm) w
  have e : ∀ K : List Nat, (K.map fun (x : Nat) => (x : Int)).map (Value.int .u8) = bcells K := fun K => by rw [List.map_map]; rfl
  rw [e L, e M] at h
  have e2 : decide ((L.map fun (x : Nat) => (x : Int)) = M.map fun (x : Nat) => (x : Int)) = decide (L = M) := by
    rw [Bool.eq_iff_iff, decide_eq_true_eq, decide_eq_true_eq]
    constructor
    · intro hh
      have h3 := congrArg (List.map Int.toNat) hh
      simpa [List.map_map, Function.comp_def] using h3
    · rintro rfl; rfl
  rw [e2] at h
  exact h
end Go.Proofs.YtaicmadeobglfaaDoor
