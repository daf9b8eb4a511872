/-
  What the fields of a header that came in are written as: bytes; and equality of such fields. 
-/
import Derived.Test.YteldjcdoohafcaaFh15
namespace Go.Proofs.Yteldjcdoohafcaa
set_option linter.unusedVariables false

theorem FourV.bytes_byte {f : FourV} (hf : f.fits) (bs : ∀ x ∈ f.src, x < 256) (bd : ∀ x ∈ f.dst, x < 256) {os : List Nat} (ho : ∀ x ∈ os, x < 256) : ∀ x ∈ f.bytes os, x < 256 := by
  obtain ⟨⟨l0, u0⟩, ⟨l1, u1⟩, ⟨l2, u2⟩, ⟨l3, u3⟩, ⟨l4, u4⟩, ⟨l5, u5⟩, ⟨l6, u6⟩, ⟨l7, u7⟩, ⟨l8, u8⟩⟩ := FourV.fits_all hf
  intro x hx
  unfold FourV.bytes at hx
  rcases List.mem_append.1 hx with hx | hx
  · rcases List.mem_append.1 hx with hx | hx
    · rcases List.mem_append.1 hx with hx | hx
      · exact head12_byte _ _ _ _ _ _ _ _ _ (by omega) x hx
      · exact bs x hx
    · exact bd x hx
  · exact ho x hx
/-- Fields that were written, and read again, are equal to themselves. -/
theorem FourV.same {f : FourV} (hf : f.fits) (hs : f.src.length = 4) (hd : f.dst.length = 4) (bs : ∀ x ∈ f.src, x < 256) (bd : ∀ x ∈ f.dst, x < 256) {os : List Nat} (ho : ∀ x ∈ os, x < 256) (hl : (os.length : Int) = 4 * f.k0 - 20) (w : World) :
    (Op.equalIn 10000 25 (.agg f.cells.toArray) (.agg f.cells.toArray)).run Try.prog w = .ok true w := by
  have h := (written_read hf hs hd os [] hl).1
  rw [← h]
  exact four_same (fun k => getD_byte (fun x hx => by rw [List.append_nil] at hx; exact FourV.bytes_byte hf bs bd ho x hx) k) w
theorem FourV.cells_len {f : FourV} (hs : f.src.length = 4) (hd : f.dst.length = 4) : f.cells.length = 17 := by unfold FourV.cells; simp [bcells_length, hs, hd]
theorem FourV.cells_one (f : FourV) : ∀ v ∈ f.cells, v.oneCell' = true := by
  intro v hv
  unfold FourV.cells at hv
  rcases List.mem_append.1 hv with hv | hv
  · rcases List.mem_append.1 hv with hv | hv
    · simp only [List.mem_cons, List.not_mem_nil, or_false] at hv
      rcases hv with h | h | h | h | h | h | h | h | h <;> rw [h] <;> rfl
    · exact bcells_one _ v hv
  · exact bcells_one _ v hv
end Go.Proofs.Yteldjcdoohafcaa
