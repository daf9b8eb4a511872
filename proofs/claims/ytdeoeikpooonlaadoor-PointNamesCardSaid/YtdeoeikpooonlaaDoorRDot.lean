/-
  Contracts of the document's Num, Of, Next, Sort and Print of layer 5.
-/
import Derived.Test.YtdeoeikpooonlaaDoorLive5
import Derived.Test.YtdeoeikpooonlaaDoorOct7
import Derived.Test.YtdeoeikpooonlaaDoorRtext
namespace Go.Proofs.YtdeoeikpooonlaaDoor
open Go.RowKit
set_option linter.unusedVariables false
attribute [local go_sem] eq4_run

theorem ArrAt.row {W : World} {g : Nat} {bs : List Nat} (h : ArrAt W g bs) (hb : ∀ x ∈ bs, x < 256) : Row W (some ⟨g, 0, none⟩) bs.length bs :=
  Row.mk rfl hb fun i hi => by rw [Nat.zero_add]; exact h.cell i hi
theorem four_lt {a b c d : Nat} (ha : a ≤ 255) (hb : b ≤ 255) (hc : c ≤ 255) (hd : d ≤ 255) : ∀ x ∈ [a, b, c, d], x < 256 := by
  intro x hx
  simp only [List.mem_cons, List.not_mem_nil, or_false] at hx
  omega
theorem pb_four (n : Nat) (h : n ≤ 4294967295) : pb n 4 = [n / 16777216 % 256, n / 65536 % 256, n / 256 % 256, n % 256] := by
  have e : List.range 4 = [0, 1, 2, 3] := rfl
  simp [pb, e]
theorem dtail_one {n : Nat} (h : n < 10) : str (dtail n 1) = dig n := by
  unfold str dig
  rw [dec_small h]
  simp [dtail, Nat.mod_eq_of_lt h]
theorem dtail_two {n : Nat} (h : ¬ n < 10) (h2 : n < 100) : str (dtail n 2) = dig n := by
  unfold str dig
  rw [dec_step h, dec_small (by omega)]
  simp [dtail, show n / 10 % 10 = n / 10 from by omega]
theorem dtail_three {n : Nat} (h : ¬ n < 100) (h2 : n < 1000) : str (dtail n 3) = dig n := by
  unfold str dig
  rw [dec_step (by omega), dec_step (by omega), dec_small (by omega)]
  simp [dtail, show n / 100 % 10 = n / 10 / 10 from by omega]
theorem rtext_byte (x : Nat) (w : World) (hx : x ≤ 255) :
    Calls Tryd.prog 61 #[.agg #[.int .u64 0, .int .u64 x]] w fun e w' => e = .returned (.string (dig x)) ∧ Below w.heap.size w w' := by
  have e : x = wnum 0 x := by simp [wnum]
  by_cases h1 : x < 10
  · have h := rtext_any 0 x x 1 w e (by decide) (by omega) (⟨by decide, by omega, fun j h h' => by omega⟩ : HasDigits x 1) (by decide)
    rw [dtail_one h1] at h
    exact h
  · by_cases h2 : x < 100
    · have h := rtext_any 0 x x 2 w e (by decide) (by omega) (⟨by decide, by omega, fun j h h' => by rcases (by omega : j = 1 ∨ j = 1) with rfl | rfl <;> omega⟩ : HasDigits x 2) (by decide)
      rw [dtail_two h1 h2] at h
      exact h
    · have h := rtext_any 0 x x 3 w e (by decide) (by omega) (⟨by decide, by omega, fun j h h' => by
        rcases (by omega : j = 1 ∨ j = 2) with rfl | rfl <;> omega⟩ : HasDigits x 3) (by decide)
      rw [dtail_three h2 (by omega)] at h
      exact h
/-- The first numbers' text. -/
def ptx (ns : List Nat) : Nat → ByteArray
  | 0 => ⟨#[]⟩
  | k + 1 => (if k = 0 then ptx ns k else ptx ns k ++ ⟨#[46]⟩) ++ dig (ns.getD k 0)
theorem dig_size {x : Nat} (h : x ≤ 255) : (dig x).size ≤ 3 := by
  have e : (dig x).size = (Lib.decDigits x).length := by simp [dig, ByteArray.size]
  have := dec_len x (by omega)
  omega
theorem ptx_size (ns : List Nat) (h : ∀ k, ns.getD k 0 ≤ 255) : ∀ k, (ptx ns k).size ≤ 4 * k
  | 0 => by simp [ptx, ByteArray.size]
  | k + 1 => by
    have h1 := ptx_size ns h k
    have h2 := dig_size (h k)
    have e : (⟨#[46]⟩ : ByteArray).size = 1 := rfl
    rw [ptx, ByteArray.size_append]
    split
    · omega
    · rw [ByteArray.size_append, e]
      omega
theorem ptx_all (a b c d : Nat) : ptx [a, b, c, d] 4 = dstr a b c d := by
  have e : ptx [a, b, c, d] 4 = (((((((⟨#[]⟩ ++ dig a) ++ ⟨#[46]⟩) ++ dig b) ++ ⟨#[46]⟩) ++ dig c) ++ ⟨#[46]⟩) ++ dig d) := rfl
  rw [e]
  apply ByteArray.ext
  apply Array.toList_inj.1
  simp [dstr, dtext, dig, Lib.join, List.intercalate, List.intersperse]
end Go.Proofs.YtdeoeikpooonlaaDoor
