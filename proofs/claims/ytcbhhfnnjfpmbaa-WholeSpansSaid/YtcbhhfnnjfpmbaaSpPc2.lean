/-
  More plain facts of SpanPieces: whether any of the first spans has a number; how many of a union do.
-/
import Derived.Test.YtcbhhfnnjfpmbaaSpPc1
import Derived.Test.YtcbhhfnnjfpmbaaSpRPlain
namespace Go.Proofs.Ytcbhhfnnjfpmbaa
set_option linter.unusedVariables false

def anyS (L : List Sp) (x : Int) (k : Nat) : Bool := (L.take k).any fun s => hasS s x
theorem anyS_zero (L : List Sp) (x : Int) : anyS L x 0 = false := rfl
theorem anyS_step {L : List Sp} {x : Int} {k : Nat} (h : k < L.length) : anyS L x (k + 1) = (anyS L x k || hasS (L.getD k (0, 0)) x) := by
  unfold anyS
  rw [take_succ_sp L k h, List.any_append]
  simp
theorem anyS_mem {L : List Sp} (hL : ∀ s ∈ L, OkS s) (x : Int) : anyS L x L.length = true ↔ mem L x := by
  unfold anyS mem
  rw [List.take_length, List.any_eq_true]
  constructor
  · rintro ⟨s, hs, h⟩
    exact ⟨s, hs, (hasS_in (hL s hs) x).1 h⟩
  · rintro ⟨s, hs, h⟩
    exact ⟨s, hs, (hasS_in (hL s hs) x).2 h⟩
/-- How many spans of the union have a number. -/
theorem cnt_union {L S : List Sp} (h : SortedS L S) (hL : ∀ s ∈ L, OkS s) (x : Int) : cnt (uni S) x (uni S).length ≤ 1 ∧ decide (cnt (uni S) x (uni S).length = 1) = anyS L x L.length ∧ (uni S).length ≤ L.length := by
  have hSok : ∀ s ∈ S, OkS s := fun s hs => hL s (h.perm.mem_iff.1 hs)
  have hu := uni_uni (S := S) (fun s hs => by have := hSok s hs; unfold OkS at this; omega) h.up
  have hUok := fold_ok S [] (by simp) hSok
  have hm : mem S x ↔ mem L x := ⟨fun ⟨s, hs, hi⟩ => ⟨s, h.perm.mem_iff.1 hs, hi⟩, fun ⟨s, hs, hi⟩ => ⟨s, h.perm.mem_iff.2 hs, hi⟩⟩
  obtain ⟨h1, h2⟩ := cnt_norm (L := uni S) (x := x) hu.norm hUok
  rw [cnt_all]
  refine ⟨h1, ?_, ?_⟩
  · rw [Bool.eq_iff_iff, decide_eq_true_eq, h2, hu.mem, hm, anyS_mem hL]
  · have h3 := fold_len S []
    have h4 := h.perm.length_eq
    simp only [List.length_nil] at h3
    show (List.foldl mstep [] S).length ≤ _
    omega
end Go.Proofs.Ytcbhhfnnjfpmbaa
