/-
  Contracts of octet.value and of the document's digit: which digit a byte is.
-/
import Derived.Test.YtbnheffeojnjdaaBase
namespace Go.Proofs.Ytbnheffeojnjdaa
open Go.RowKit
set_option linter.unusedVariables false

/-- Which digit a byte is, if it is one. -/
def hexv (c : Nat) : Option Nat := if 48 ≤ c ∧ c ≤ 57 then some (c - 48) else if 97 ≤ c ∧ c ≤ 102 then some (c - 87) else none
/-- A digit's byte. -/
def dg (v : Nat) : Nat := if v < 10 then 48 + v else 87 + v
theorem hexv_dg (v : Nat) (h : v < 16) : hexv (dg v) = some v := by
  unfold hexv dg
  by_cases h1 : v < 10
  · rw [if_pos h1, if_pos (by omega)]; congr 1; omega
  · rw [if_neg h1, if_neg (by omega), if_pos (by omega)]; congr 1; omega
theorem dg_hexv {c v : Nat} (h : hexv c = some v) : v < 16 ∧ c = dg v := by
  unfold hexv at h
  unfold dg
  by_cases h1 : 48 ≤ c ∧ c ≤ 57
  · rw [if_pos h1] at h; injection h with h; subst h; rw [if_pos (by omega)]; omega
  · rw [if_neg h1] at h
    by_cases h2 : 97 ≤ c ∧ c ≤ 102
    · rw [if_pos h2] at h; injection h with h; subst h; rw [if_neg (by omega)]; omega
    · rw [if_neg h2] at h; cases h
theorem hexv_none {c v : Nat} (h : hexv c = none) (hv : v < 16) : c ≠ dg v := by
  rintro rfl
  rw [hexv_dg v hv] at h
  cases h

theorem value_yes (c v : Nat) (w : World) (h : Hid (hexv c = some v)) :
    Calls Try.prog 58 #[.int .u8 c] w fun e w' => e = .returned (.tuple #[.int .u8 v, .bool true]) ∧ w = w' := by
  have h' := h.out
  clear h
  unfold hexv at h'
  by_cases h1 : 48 ≤ c ∧ c ≤ 57
  · rw [if_pos h1] at h'
    injection h' with h'
    subst h'
    obtain ⟨ha, hb⟩ := h1
    have e : (((c - 48 : Nat)) : Int) = (c : Int) - 48 := by omega
    rw [e]
    clear e
    go_enter Try.func58, Try.ntmps58
    go_wp2
    go_ret2
    exact ⟨rfl, rfl⟩
  · rw [if_neg h1] at h'
    by_cases h2 : 97 ≤ c ∧ c ≤ 102
    · rw [if_pos h2] at h'
      injection h' with h'
      subst h'
      obtain ⟨ha, hb⟩ := h2
      clear h1
      have e : (((c - 87 : Nat)) : Int) = (c : Int) - 97 + 10 := by omega
      rw [e]
      clear e
      go_enter Try.func58, Try.ntmps58
      go_wp2
      go_ret2
      exact ⟨rfl, rfl⟩
    · rw [if_neg h2] at h'
      cases h'
theorem value_no (c : Nat) (w : World) (h : Hid (hexv c = none)) :
    Calls Try.prog 58 #[.int .u8 c] w fun e w' => e = .returned (.tuple #[.int .u8 0, .bool false]) ∧ w = w' := by
  have h' := h.out
  clear h
  unfold hexv at h'
  by_cases h1 : 48 ≤ c ∧ c ≤ 57
  · rw [if_pos h1] at h'; cases h'
  · rw [if_neg h1] at h'
    by_cases h2 : 97 ≤ c ∧ c ≤ 102
    · rw [if_pos h2] at h'; cases h'
    · clear h'
      by_cases h3 : 48 ≤ c
      · by_cases h4 : 97 ≤ c
        · have h5 : 57 < c := by omega
          have h6 : 102 < c := by omega
          clear h1 h2
          go_enter Try.func58, Try.ntmps58
          go_wp2
          go_ret2
          exact ⟨rfl, rfl⟩
        · have h5 : 57 < c := by omega
          clear h1 h2
          go_enter Try.func58, Try.ntmps58
          go_wp2
          go_ret2
          exact ⟨rfl, rfl⟩
      · clear h1 h2
        go_enter Try.func58, Try.ntmps58
        go_wp2
        go_ret2
        exact ⟨rfl, rfl⟩

/-- The digits' text. -/
abbrev digs : ByteArray := { data := #[48, 49, 50, 51, 52, 53, 54, 55, 56, 57, 97, 98, 99, 100, 101, 102] }
theorem digs_all : ∀ k : Fin 16, (digs[k.1]'(by have := k.2; exact this)).toNat = dg k.1 := by decide
theorem digs_at (k : Nat) (h : k < digs.size) : (digs[k]'h).toNat = dg k := digs_all ⟨k, h⟩
theorem dg_inj {a b : Nat} (ha : a < 16) (hb : b < 16) (h : dg a = dg b) : a = b := by
  have h1 := hexv_dg a ha
  rw [h, hexv_dg b hb] at h1
  injection h1 with h1
  exact h1.symm
theorem dg_lt {v : Nat} (h : v < 16) : dg v < 256 := by unfold dg; split <;> omega
theorem digit_hit {k v c : Nat} (hv : Hid (hexv c = some v)) (hk : k ≤ v) (h : k < digs.size) (ht : (((digs[k]'h).toNat : Int) == (c : Int)) = true) : k = v := by
  have h1 := dg_hexv hv.out
  have h2 : (digs[k]'h).toNat = c := by have h3 := beq_iff_eq.1 ht; omega
  rw [digs_at k h, h1.2] at h2
  exact dg_inj (by omega) h1.1 h2
theorem digit_miss {k v c : Nat} (hv : Hid (hexv c = some v)) (hk : k ≤ v) (h : k < digs.size) (ht : (((digs[k]'h).toNat : Int) == (c : Int)) = false) : k < v := by
  have h1 := dg_hexv hv.out
  have h2 : ¬ (digs[k]'h).toNat = c := by have h3 := beq_eq_false_iff_ne.1 ht; omega
  rw [digs_at k h] at h2
  rcases Nat.lt_or_eq_of_le hk with h3 | h3
  · exact h3
  · subst h3; exact absurd h1.2.symm h2
theorem digit_none {k c : Nat} (hv : Hid (hexv c = none)) (h : k < digs.size) (ht : (((digs[k]'h).toNat : Int) == (c : Int)) = true) : False := by
  have h2 : (digs[k]'h).toNat = c := by have h3 := beq_iff_eq.1 ht; omega
  rw [digs_at k h] at h2
  exact hexv_none hv.out h h2.symm

theorem digit_yes (c v : Nat) (w : World) (h : Hid (hexv c = some v)) :
    Calls Try.prog 59 #[.int .u8 c] w fun e w' => e = .returned (.int .i64 v) ∧ w = w' := by
  go_enter Try.func59, Try.ntmps59
  go_wp2
  go_loop [3] (fun j => ∃ k : Nat, k ≤ v ∧ j = .int .i64 k) (fun j => 16 - (intOf j).toNat)
  case atStart => exact ⟨0, Nat.zero_le _, rfl⟩
  case round =>
    obtain ⟨k, hk, rfl⟩ := hrel
    have hv := (dg_hexv h.out).1
    go_wp2
    · have ht := digit_hit (k := k) h hk (by show k < 16; omega) (by assumption)
      subst ht
      go_ret
      exact ⟨rfl, rfl⟩
    · have ht := digit_miss (k := k) h hk (by show k < 16; omega) (by assumption)
      go_round
      case rel => exact ⟨k + 1, by omega, by go_num⟩
      case measure => simp [intOf]; omega
theorem digit_no (c : Nat) (w : World) (h : Hid (hexv c = none)) :
    Calls Try.prog 59 #[.int .u8 c] w fun e w' => e = .returned (.int .i64 (-1)) ∧ w = w' := by
  go_enter Try.func59, Try.ntmps59
  go_wp2
  go_loop [3] (fun j => ∃ k : Nat, k ≤ 16 ∧ j = .int .i64 k) (fun j => 16 - (intOf j).toNat)
  case atStart => exact ⟨0, Nat.zero_le _, rfl⟩
  case round =>
    obtain ⟨k, hk, rfl⟩ := hrel
    by_cases hlt : k < 16
    · go_wp2
      · exact (digit_none (k := k) h (by show k < 16; omega) (by assumption)).elim
      · go_round
        case rel => exact ⟨k + 1, by omega, by go_num⟩
        case measure => simp [intOf]; omega
    · go_wp2
      go_ret
      exact ⟨rfl, rfl⟩
end Go.Proofs.Ytbnheffeojnjdaa
