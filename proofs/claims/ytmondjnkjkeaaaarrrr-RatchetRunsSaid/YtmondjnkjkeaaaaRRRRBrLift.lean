/-
  Opening an argument that is a slice of 64-bit words.
-/
import Derived.Test.YtmondjnkjkeaaaaRRRRLift
import Derived.Test.YtmondjnkjkeaaaaRRRRRowsU
namespace Go.Proofs.YtmondjnkjkeaaaaRRRR
open Go.RowKit Go.WideShapes Go.ChangeShapes
set_option linter.unusedVariables false
section
variable {H : Type} {enc : TypeId × Value → H} {P : Program} {W : World}
theorem rowU_of_cells {x : Addr} {len cap : Nat} {zs : List Int} (hl : len ≤ cap) (hz : zs.length = cap) (hcell : ∀ i, i < zs.length → W.cell? (x.add i) = some (.int .u64 (zs.getD i 0))) (hwz : ∀ n ∈ zs, (Lit.int .u64 n).wf = true) :
    ∃ ws : List Nat, RowU W (some x) len ws := by
  refine ⟨(zs.take len).map Int.toNat, by rw [List.length_map, List.length_take]; omega, ?_, ?_⟩
  · intro y hy
    simp only [List.mem_map] at hy
    obtain ⟨z, hz', rfl⟩ := hy
    have := wf_u64 (hwz z (List.mem_of_mem_take hz'))
    omega
  · intro i hi
    have hci := hcell i (by omega)
    obtain ⟨b, o, sp⟩ := x
    have hsp : sp = none := by
      have h0 := hcell 0 (by omega)
      simpa [Addr.add] using World.cell?_spot h0
    subst hsp
    refine ⟨b, o, rfl, ?_⟩
    rw [add_flat] at hci
    rw [hci]
    have hw := wf_u64 (hwz (zs.getD i 0) (by rw [List.getD_eq_getElem?_getD, List.getElem?_eq_getElem (by omega)]; exact List.getElem_mem _))
    have e1 : ((zs.take len).map Int.toNat).getD i 0 = (zs.getD i 0).toNat := by
      rw [List.getD_eq_getElem?_getD, List.getD_eq_getElem?_getD, List.getElem?_map, List.getElem?_take, if_pos hi, List.getElem?_eq_getElem (by omega)]
      rfl
    rw [e1]
    congr 2
    omega
/-- A slice of words that came in. -/
theorem open_u64s {t e : TypeId} {a : Option Addr} {len cap : Nat} {d : DataW H} {ps : List MemPlace} (ht : P.underlying t = some (.slice e)) (he : P.underlying e = some (.int .u64)) (hc : P.cellsOf e = 1) (hb : P.bytesOf e = 8)
    (h : DataW.Trod enc P W 0 (fun _ => true) true t (.slice a len cap) d ps) {ts : List TypeId} {ds : List (DataW H)} {j : Nat} {T : TypeId} (hT : T = t) (hj : ts[j]? = some T ∧ ds[j]? = some d)
    (hsz : (DataW.weightsEach P ts ds).all (· ≤ reachBytes) = true) :
    ∃ ws : List Nat, RowU W a len ws ∧ len ≤ cap ∧ cap ≤ 17592186043904 := by
  subst hT
  obtain ⟨fuel, hf⟩ := h
  rcases open_ints ht he hc hf with ⟨hcs, _⟩ | ⟨x, l, c, zs, hcs, _, hl, hm, hz, hx, hcell, hwz⟩
  · simp [Value.cells] at hcs
    obtain ⟨rfl, rfl, rfl⟩ := hcs
    exact ⟨[], RowU.nil W none, Nat.le_refl _, Nat.zero_le _⟩
  · simp [Value.cells] at hcs
    obtain ⟨rfl, rfl, rfl⟩ := hcs
    simp only [Prod.mk.injEq] at hx
    obtain ⟨rfl, _⟩ := hx
    have h1 := sized_slice hsz hj.1 hj.2 ht
    rw [hb] at h1
    simp only [lits, List.length_map, List.length_take, List.length_drop, reachBytes] at h1
    simp only [if_true] at hz
    obtain ⟨ws, hR⟩ := rowU_of_cells hl hz hcell hwz
    exact ⟨ws, hR, hl, by omega⟩
end
end Go.Proofs.YtmondjnkjkeaaaaRRRR
