/-
  Contracts of dotted's number and of the document's Number at three digits.
-/
import Derived.Test.YtfnbbhnigndifaaDoorDSplit
namespace Go.Proofs.YtfnbbhnigndifaaDoor
open Go.RowKit
set_option linter.unusedVariables false

theorem take_byte (s : ByteArray) (k : Nat) (h : k < s.size) : s.data.toList.take (k + 1) = s.data.toList.take k ++ [s[k]] := by
  rw [List.take_succ_eq_append_getElem (by rw [size_list]; exact h)]
  rfl
theorem head_byte (s : ByteArray) (h : 0 < s.size) : s.data.toList.headD 0 = s[0] := by
  have e := take_byte s 0 h
  cases hl : s.data.toList with
  | nil => have := size_list s; rw [hl] at this; simp at this; omega
  | cons x l => rw [hl] at e; simpa using e
def numR (l : List UInt8) : Nat := if numOk l then numv l else 0
theorem numR_le (l : List UInt8) : numR l ≤ 999 := by
  unfold numR
  split
  · exact numv_three l ‹_›
  · omega
/-- The number of a text, and whether it is one. -/
def NumIs (s : ByteArray) (w : World) (e : Ending) (w' : World) : Prop := e = .returned (.tuple #[.int .i64 (numR s.data.toList : Nat), .bool (numOk s.data.toList)]) ∧ w = w'
theorem num_no {s : ByteArray} {w : World} (h : numOk s.data.toList = false) : NumIs s w (.returned (.tuple #[.int .i64 0, .bool false])) w := by
  refine ⟨?_, rfl⟩
  unfold numR
  rw [h]
  rfl
theorem num_yes {s : ByteArray} {w : World} {n : Nat} (h : numOk s.data.toList = true) (hn : n = numv s.data.toList) : NumIs s w (.returned (.tuple #[.int .i64 n, .bool true])) w := by
  refine ⟨?_, rfl⟩
  unfold numR
  rw [h, if_pos rfl, hn]
/-- The document's number: -1 where it is none. -/
def RNumIs (s : ByteArray) (w : World) (e : Ending) (w' : World) : Prop := e = .returned (.int .i64 (if numOk s.data.toList then (numv s.data.toList : Int) else -1)) ∧ w = w'
theorem rnum_no {s : ByteArray} {w : World} (h : numOk s.data.toList = false) : RNumIs s w (.returned (.int .i64 (-1))) w := by
  refine ⟨?_, rfl⟩
  rw [h]
  rfl
theorem rnum_yes {s : ByteArray} {w : World} {n : Nat} (h : numOk s.data.toList = true) (hn : n = numv s.data.toList) : RNumIs s w (.returned (.int .i64 n)) w := by
  refine ⟨?_, rfl⟩
  rw [h, if_pos rfl, hn]
theorem not_all (s : ByteArray) (k : Nat) (hk : k < s.size) (h : ¬ (48 ≤ s[k].toNat ∧ s[k].toNat ≤ 57)) : allDig s.data.toList = false := by
  rw [← Bool.not_eq_true]
  intro e
  have hm : s[k] ∈ s.data.toList := List.getElem_mem (l := s.data.toList) (n := k) (by rw [size_list]; exact hk)
  have h2 := List.all_eq_true.1 e _ hm
  exact h (dig_val h2)
theorem numOk_of (s : ByteArray) (h1 : 1 ≤ s.size) (h2 : s.size ≤ 3) (h3 : s.size ≤ 1 ∨ s.data.toList.headD 0 ≠ 48) : numOk s.data.toList = allDig s.data.toList := by
  unfold numOk
  rw [size_list]
  have e : (decide (s.size ≤ 1) || s.data.toList.headD 0 != 48) = true := by
    rcases h3 with h3 | h3
    · rw [decide_eq_true h3, Bool.true_or]
    · rw [bne_iff_ne.2 h3, Bool.or_true]
  rw [decide_eq_true h1, decide_eq_true h2, e]
  rfl
theorem head_zero (s : ByteArray) (h : 0 < s.size) : s.data.toList.headD 0 = 48 ↔ s[0].toNat = 48 := by
  rw [head_byte s h]
  constructor
  · intro e; rw [e]; rfl
  · intro e; rw [← u8_back s[0] 48 e.symm]; rfl

set_option maxHeartbeats 800000 in
theorem number_any (s : ByteArray) (w : World) : Calls Tryd.prog 43 #[.string s] w (NumIs s w) := by
  by_cases h0 : s.size < 1
  · have F := Lib.hid (num_no (w := w) (s := s) (by simp only [numOk, size_list]; rw [decide_eq_false (by omega)]; rfl))
    go_enter Tryd.func43, Tryd.ntmps43
    go_wp2_with fail
    go_ret2
    exact F.out
  by_cases h3 : 3 < s.size
  · have F := Lib.hid (num_no (w := w) (s := s) (by simp only [numOk, size_list]; rw [decide_eq_false (show ¬ s.size ≤ 3 by omega), Bool.and_false]; rfl))
    go_enter Tryd.func43, Tryd.ntmps43
    go_wp2_with fail
    go_ret2
    exact F.out
  have hp : 0 < s.size := by omega
  have hd0 := head_zero s hp
  by_cases hz : 1 < s.size ∧ s[0].toNat = 48
  · obtain ⟨hz1, hz2⟩ := hz
    have F := Lib.hid (num_no (w := w) (s := s) (by
      simp only [numOk, size_list]
      rw [decide_eq_false (show ¬ s.size ≤ 1 by omega), hd0.2 hz2]
      simp))
    have q : ((s[0].toNat : Int) == 48) = true := by simp; omega
    clear hd0 hz2
    go_enter Tryd.func43, Tryd.ntmps43
    go_wp2_with fail
    go_ret2
    exact F.out
  have ho : Hid (numOk s.data.toList = allDig s.data.toList) := numOk_of s hp (by omega) (by
    by_cases h1 : s.size ≤ 1
    · exact .inl h1
    · exact .inr fun e => hz ⟨by omega, hd0.1 e⟩)
  have HZ := Lib.hid hz
  clear hd0 hz
  have hs3 : s.size ≤ 3 := by omega
  clear h0 h3
  go_enter Tryd.func43, Tryd.ntmps43
  by_cases h1 : 1 < s.size
  all_goals
    (try (have q : ((s[0].toNat : Int) == 48) = false := by have := HZ.out; simp; omega))
    go_wp2_with fail
    go_loop [4, 26] (fun n i => ∃ k v : Nat, k ≤ s.size ∧ i = .int .i64 k ∧ n = .int .i64 v ∧ Hid (v = numv (s.data.toList.take k)) ∧ Hid (allDig (s.data.toList.take k) = true)) (fun _ i => s.size - (intOf i).toNat)
    case atStart => exact ⟨0, 0, Nat.zero_le _, rfl, rfl, rfl, rfl⟩
    case round =>
      obtain ⟨k, v, hk, rfl, rfl, HV, HA⟩ := hrel
      have hv : v ≤ 999 := by
        have := numv_lt _ HA.out
        rw [← HV.out, List.length_take, size_list] at this
        have h2 : 10 ^ min k s.size ≤ 10 ^ 3 := Nat.pow_le_pow_right (by decide) (by omega)
        omega
      by_cases hlt : k < s.size
      · have T := Lib.hid (take_byte s k hlt)
        have NA := Lib.hid (not_all s k hlt)
        obtain ⟨c, hc⟩ : ∃ c, s[k].toNat = c := ⟨_, rfl⟩
        by_cases hd : 48 ≤ c ∧ c ≤ 57
        · obtain ⟨hd1, hd2⟩ := hd
          have ND : Hid (isDig s[k] = true) := by
            show isDig s[k] = true
            unfold isDig
            rw [hc]
            simp
            omega
          have HC := Lib.hid hc
          go_wp2_with fail
          go_round
          case rel =>
            refine ⟨k + 1, 10 * v + (c - 48), by omega, by go_num, by go_num, ?_, ?_⟩
            · show _ = numv (s.data.toList.take (k + 1))
              rw [T.out, numv_snoc, HC.out, HV.out]
            · show allDig (s.data.toList.take (k + 1)) = true
              rw [T.out, allDig_snoc, HA.out, ND.out]
              rfl
          case measure => simp [intOf]; omega
        · have F := Lib.hid (num_no (w := w) (by rw [ho.out]; exact NA.out (by rw [hc]; exact hd)))
          by_cases hd1 : c < 48
          · clear hd
            go_wp2_with fail
            go_ret2
            exact F.out
          · have hd2 : 57 < c := by omega
            have hd3 : 48 ≤ c := by omega
            clear hd hd1
            go_wp2_with fail
            go_ret2
            exact F.out
      · obtain rfl : k = s.size := by omega
        have e : s.data.toList.take s.size = s.data.toList := by rw [← size_list]; exact List.take_length
        have F := Lib.hid (num_yes (w := w) (s := s) (n := v) (by rw [ho.out, ← e]; exact HA.out) (by rw [HV.out, e]))
        clear e
        go_wp2_with fail
        go_ret2
        exact F.out
end Go.Proofs.YtfnbbhnigndifaaDoor
