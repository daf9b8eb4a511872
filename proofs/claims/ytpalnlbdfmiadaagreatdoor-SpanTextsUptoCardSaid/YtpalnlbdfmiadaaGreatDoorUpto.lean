/-
  What the second form's bound gives of one argument: a byte slice's capacity, a string's length. Nothing is claimed of the program here.
-/
import Derived.Test.YtpalnlbdfmiadaaGreatDoorRows
import Derived.Test.YtpalnlbdfmiadaaGreatDoorLift
namespace Go.Proofs.YtpalnlbdfmiadaaGreatDoor
open Go.ChangeShapes Go.WideShapes Go.ChangeAt Go.RowKit
set_option linter.unusedVariables false

section
variable {H : Type} {enc : TypeId × Value → H} {P : Program} {W : World}

theorem bulk_pos (d : DataW H) : 1 ≤ Rows.uptoBulk d := by
  cases d with
  | lit l => cases l <;> simp [Rows.uptoBulk]
  | nil => simp [Rows.uptoBulk]
  | ptr d => simp [Rows.uptoBulk]
  | slice a b => simp [Rows.uptoBulk]
  | agg a => simp [Rows.uptoBulk]
  | iface t d => simp [Rows.uptoBulk]
  | map m => simp [Rows.uptoBulk]
  | held h => simp [Rows.uptoBulk]
theorem bulk_len (l : List (DataW H)) : l.length ≤ Rows.uptoBulkAll l := by
  induction l with
  | nil => exact Nat.zero_le _
  | cons d l ih =>
    have := bulk_pos d
    simp only [Rows.uptoBulkAll, List.length_cons]
    omega
theorem bulk_at {l : List (DataW H)} {j : Nat} {d : DataW H} (h : l[j]? = some d) : Rows.uptoBulk d ≤ Rows.uptoBulkAll l := by
  induction l generalizing j with
  | nil => simp at h
  | cons x l ih =>
    simp only [Rows.uptoBulkAll]
    cases j with
    | zero =>
      simp only [List.getElem?_cons_zero, Option.some.injEq] at h
      subst h
      omega
    | succ j =>
      have := ih (j := j) (by simpa using h)
      omega
theorem upto_at {l : List (DataW H)} {j : Nat} {d : DataW H} (h : l[j]? = some d) (hk : Rows.uptoSmall H l = true) : Rows.uptoBulk d ≤ 1048576 := by
  have h1 := of_decide_eq_true hk
  have h2 := bulk_at h
  omega
theorem string_upto {l : List (DataW H)} {j : Nat} {s : ByteArray} (h : l[j]? = some (.lit (.string s.data.toList))) (hk : Rows.uptoSmall H l = true) : s.size ≤ 1048576 := by
  have h1 := upto_at h hk
  simp only [Rows.uptoBulk, Array.length_toList] at h1
  have e : s.size = s.data.size := rfl
  omega
theorem open_bytes_upto {t e : TypeId} {a : Option Addr} {len cap : Nat} {d : DataW H} {ps : List MemPlace} (ht : P.underlying t = some (.slice e)) (he : P.underlying e = some (.int .u8)) (hc : P.cellsOf e = 1)
    (h : DataW.Trod enc P W 0 (fun _ => true) true t (.slice a len cap) d ps) {ds : List (DataW H)} {j : Nat} (hj : ds[j]? = some d) (hk : Rows.uptoSmall H ds = true) :
    ∃ bs : List Nat, Row W a len bs ∧ len ≤ cap ∧ cap ≤ 1048576 := by
  obtain ⟨fuel, hf⟩ := h
  have h1 := upto_at hj hk
  rcases open_ints ht he hc hf with ⟨hcs, _⟩ | ⟨x, l, c, zs, hcs, _, hl, hm, hz, hx, hcell, hwz⟩
  · simp [Value.cells] at hcs
    obtain ⟨rfl, rfl, rfl⟩ := hcs
    exact ⟨[], Row.nil W none, Nat.le_refl _, Nat.zero_le _⟩
  · simp [Value.cells] at hcs
    obtain ⟨rfl, rfl, rfl⟩ := hcs
    simp only [Prod.mk.injEq] at hx
    obtain ⟨rfl, _⟩ := hx
    simp only [if_true] at hz
    simp only [Rows.uptoBulk] at h1
    have h2 := bulk_len (lits (H := H) .u8 (zs.take len))
    have h3 := bulk_len (lits (H := H) .u8 (zs.drop len))
    simp only [lits, List.length_map, List.length_take, List.length_drop] at h2 h3
    simp only [lits] at h1
    have hcap : cap ≤ 1048576 := by omega
    obtain ⟨bs, hR⟩ := row_of_cells hl hz hcell hwz
    exact ⟨bs, hR, hl, hcap⟩
end
end Go.Proofs.YtpalnlbdfmiadaaGreatDoor
