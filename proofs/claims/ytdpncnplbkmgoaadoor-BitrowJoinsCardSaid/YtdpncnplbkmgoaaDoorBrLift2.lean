/-
  Opening an argument that is a slice of slices of 64-bit words.
-/
import Derived.Test.YtdpncnplbkmgoaaDoorBrLift
import Derived.Test.YtdpncnplbkmgoaaDoorBr7
import Derived.Deep.Matrix
namespace Go.Proofs.YtdpncnplbkmgoaaDoor
open Go.RowKit Go.WideShapes Go.ChangeShapes
set_option linter.unusedVariables false
section
variable {H : Type} {enc : TypeId × Value → H} {P : Program} {W : World}
theorem open_rows64 {t e q : TypeId} {a : Option Addr} {len cap : Nat} {d : DataW H} {ps : List MemPlace} (ht : P.underlying t = some (.slice e)) (he : P.underlying e = some (.slice q)) (hq : P.underlying q = some (.int .u64)) (ce : P.cellsOf e = 1) (cq : P.cellsOf q = 1)
    (h : DataW.Trod enc P W 0 (fun _ => true) true t (.slice a len cap) d ps) :
    ∃ xss : List (List Nat), xss.length = len ∧ RowsAt W a xss ∧ Words xss ∧ len ≤ maxLen := by
  obtain ⟨fuel, hf⟩ := h
  rcases Deep.open_int_rows ht he hq ce cq hf with ⟨hcs, _⟩ | ⟨a', len', cap', A, L, C, Z, hcs, _, hl, hm, hx, hr⟩
  · simp [Value.cells] at hcs
    obtain ⟨rfl, rfl, rfl⟩ := hcs
    exact ⟨[], rfl, RowsAt.nil _ _, fun k w => by simp, Nat.zero_le _⟩
  · simp [Value.cells] at hcs
    obtain ⟨rfl, rfl, rfl⟩ := hcs
    have hR : ∀ r, r < len → RowU W (A r) (L r) (((Z r).take (L r)).map Int.toNat) := fun r hrl => by
      obtain ⟨h1, h2, h3, h4, h5, h6, h7⟩ := hr r (by omega)
      refine ⟨by rw [List.length_map, List.length_take]; omega, ?_, ?_⟩
      · intro y hy
        simp only [List.mem_map] at hy
        obtain ⟨z, hz', rfl⟩ := hy
        have := wf_u64 (h5 z (List.mem_of_mem_take hz'))
        omega
      · intro i hi
        cases hA : A r with
        | none => have := h6 hA; omega
        | some x =>
          have hci := (h7 x hA).2 i (by omega)
          obtain ⟨b, o, sp⟩ := x
          have hsp : sp = none := by
            have h0 := (h7 _ hA).2 0 (by omega)
            simpa [Addr.add] using World.cell?_spot h0
          subst hsp
          refine ⟨b, o, rfl, ?_⟩
          rw [add_flat] at hci
          rw [hci]
          have hw := wf_u64 (h5 ((Z r).getD i 0) (by rw [List.getD_eq_getElem?_getD, List.getElem?_eq_getElem (by omega)]; exact List.getElem_mem _))
          have e1 : (((Z r).take (L r)).map Int.toNat).getD i 0 = ((Z r).getD i 0).toNat := by
            rw [List.getD_eq_getElem?_getD, List.getD_eq_getElem?_getD, List.getElem?_map, List.getElem?_take, if_pos hi, List.getElem?_eq_getElem (by omega)]
            rfl
          rw [e1]
          congr 2
          omega
    have hget : ∀ i, i < len → ((List.range len).map fun r => ((Z r).take (L r)).map Int.toNat).getD i [] = ((Z i).take (L i)).map Int.toNat := fun i hi => by
      rw [List.getD_eq_getElem?_getD, List.getElem?_map, List.getElem?_range hi]
      rfl
    refine ⟨(List.range len).map fun r => ((Z r).take (L r)).map Int.toNat, by simp, ?_, ?_, by omega⟩
    · intro i hi
      have hi' : i < len := by simpa using hi
      obtain ⟨h1, h2, h3, h4, h5, h6, h7⟩ := hr i (by omega)
      obtain ⟨b, o, sp⟩ := a'
      have hsp : sp = none := by
        have h0 := (hr 0 (by omega)).1
        simpa [Addr.add] using World.cell?_spot h0
      subst hsp
      rw [add_flat] at h1
      have hlen := (hR i hi').len
      rw [hget i hi', hlen]
      exact ⟨b, o, A i, C i, rfl, cell_lt h1, h1, hR i hi'⟩
    · intro k w
      rcases Nat.lt_or_ge k len with hk | hk
      · rw [hget k hk]
        exact (hR k hk).word w
      · rw [List.getD_eq_getElem?_getD (l := (List.range len).map _), List.getElem?_eq_none (by simpa using hk)]
        simp
end
end Go.Proofs.YtdpncnplbkmgoaaDoor
