/-
  The contract of decimal's Parse: as the text Dec, without dotted's own ahead of it.
-/
import Derived.Test.YtpalnlbdfmiadaaGreatDoorBase
import Derived.Test.YtpalnlbdfmiadaaGreatDoorDPlain
import Derived.Test.YtpalnlbdfmiadaaGreatDoorOwn
import Derived.Shelf.Lay
import Derived.Shelf.Strconv.ParseUint10b64
import Derived.Lib.AtoiTie
import Derived.Lib.SmallJoins
namespace Go.Proofs.YtpalnlbdfmiadaaGreatDoor
open Go.RowKit Go.Shelf
set_option linter.unusedVariables false
shelf_lay Lays.n287 Nm 287 at Tryz as lays287
theorem size_list (s : ByteArray) : s.data.toList.length = s.size := by rw [Array.length_toList]; rfl
theorem take_byte (s : ByteArray) (k : Nat) (h : k < s.size) : s.data.toList.take (k + 1) = s.data.toList.take k ++ [s[k]] := by
  rw [List.take_succ_eq_append_getElem (by rw [size_list]; exact h)]
  rfl
theorem head_byte (s : ByteArray) (h : 0 < s.size) : s.data.toList.headD 0 = s[0] := by
  have e := take_byte s 0 h
  cases hl : s.data.toList with
  | nil => have := size_list s; rw [hl] at this; simp at this; omega
  | cons x l => rw [hl] at e; simpa using e
theorem not_all (s : ByteArray) (k : Nat) (hk : k < s.size) (h : ¬ (48 ≤ s[k].toNat ∧ s[k].toNat ≤ 57)) : allDig s.data.toList = false := by
  rw [← Bool.not_eq_true]
  intro e
  have hm : s[k] ∈ s.data.toList := List.getElem_mem (l := s.data.toList) (n := k) (by rw [size_list]; exact hk)
  have h2 := List.all_eq_true.1 e _ hm
  exact h (dig_val h2)
theorem head_zero (s : ByteArray) (h : 0 < s.size) : s.data.toList.headD 0 = 48 ↔ s[0].toNat = 48 := by
  rw [head_byte s h]
  constructor
  · intro e; rw [e]; rfl
  · intro e; rw [← u8_back s[0] 48 e.symm]; rfl


theorem decFrom_digs : ∀ (l : List UInt8) (acc : Nat), allDig l = true → Lib.decFrom acc l = some (l.foldl (fun n c => 10 * n + (c.toNat - 48)) acc)
  | [], _, _ => rfl
  | c :: r, acc, h => by
    have h1 : isDig c = true := by simp [allDig] at h; exact h.1
    have h2 : allDig r = true := by simp [allDig] at h ⊢; exact h.2
    have h3 := dig_val h1
    rw [Lib.decFrom, Lib.digitVal, if_pos h3]
    show Lib.decFrom (acc * 10 + (c.toNat - 48)) r = _
    rw [decFrom_digs r _ h2, List.foldl_cons, Nat.mul_comm acc 10]
theorem parse_digs (l : List UInt8) (h : allDig l = true) (hl : l.length ≤ 18) : Lib.parseUint10 0 l = .ok (numv l) := by
  rw [Lib.parseUint10_short l 0 0 (by decide) (by omega), decFrom_digs l 0 h]
  rfl
/-- strconv.ParseUint at one to eighteen digits. -/
theorem parseUint_digs (s : ByteArray) (w : World) (h0 : s.size ≠ 0) (hl : s.size ≤ 18) (hd : allDig s.data.toList = true) :
    Calls Tryz.prog 26 #[.string s, .int .i64 10, .int .i64 64] w fun e w' => e = .returned (.tuple #[.int .u64 (numv s.data.toList : Nat), .nilIface]) ∧ Below w.heap.size w w' := by
  have C : Hid (∀ w, Calls Tryz.prog 35 #[.string s, .int .i64 10, .int .i64 64] w fun e w' => e = .returned (.tuple #[.int .u64 (numv s.data.toList : Nat), .nilIface]) ∧ Below w.heap.size w w') := by
    intro w
    refine (show Calls Tryz.prog 35 #[.string s, .int .i64 10, .int .i64 64] w _ from Any.internal_strconv_ParseUint_10_b64 lays287 s h0 (by omega) w).mono ?_
    rintro e w' ⟨rfl, rfl⟩
    rw [parse_digs _ hd (by rw [size_list]; exact hl)]
    exact ⟨rfl, Go.Joins.below_bytesWorld _ _ _ _ (Nat.le_refl _)⟩
  clear hd
  generalize numv s.data.toList = n at *
  go_enter Tryz.func26, Tryz.ntmps26
  go_wp2_with fail
  refine (C.out _).mono ?_
  rintro e w' ⟨rfl, hb⟩
  have HB := Lib.hid hb
  clear hb
  go_wp2_with fail
  go_ret2
  exact ⟨rfl, HB.out⟩

def numOkM (m : Nat) (l : List UInt8) : Bool := decide (1 ≤ l.length) && decide (l.length ≤ m) && (decide (l.length ≤ 1) || l.headD 0 != 48) && allDig l
theorem numOk_three (l : List UInt8) : numOkM 3 l = numOk l := rfl
def decv (m : Nat) (l : List UInt8) : Nat := if numOkM m l then numv l else 0
def dece (m : Nat) (l : List UInt8) : Nat := if numOkM m l then 0 else 3
/-- The number of a text, and whether it is one. -/
def DecIs (m : Nat) (s : ByteArray) (w : World) (e : Ending) (w' : World) : Prop := e = .returned (.tuple #[.int .u64 (decv m s.data.toList : Nat), .int .i64 (dece m s.data.toList : Nat)]) ∧ Below w.heap.size w w'
theorem dec_no {m : Nat} {s : ByteArray} {w : World} (h : numOkM m s.data.toList = false) : DecIs m s w (.returned (.tuple #[.int .u64 0, .int .i64 3])) w := by
  refine ⟨?_, Below.refl _ _⟩
  unfold decv dece
  rw [h]
  rfl
theorem dec_yes {m : Nat} {s : ByteArray} {w w' : World} {n : Nat} (h : numOkM m s.data.toList = true) (hn : n = numv s.data.toList) (hb : Below w.heap.size w w') : DecIs m s w (.returned (.tuple #[.int .u64 n, .int .i64 0])) w' := by
  refine ⟨?_, hb⟩
  unfold decv dece
  rw [h, if_pos rfl, if_pos rfl, hn]
  rfl
theorem numOkM_of (m : Nat) (s : ByteArray) (h1 : 1 ≤ s.size) (h2 : s.size ≤ m) (h3 : s.size ≤ 1 ∨ s.data.toList.headD 0 ≠ 48) : numOkM m s.data.toList = allDig s.data.toList := by
  unfold numOkM
  rw [size_list]
  have e : (decide (s.size ≤ 1) || s.data.toList.headD 0 != 48) = true := by
    rcases h3 with h3 | h3
    · rw [decide_eq_true h3, Bool.true_or]
    · rw [bne_iff_ne.2 h3, Bool.or_true]
  rw [decide_eq_true h1, decide_eq_true h2, e]
  rfl

theorem wrap_inc {e : Nat} (h : e ≤ 1000) : wrap64 ((e : Int) + 1) = ((e + 1 : Nat) : Int) := by
  have h2 : wrap64 ((e : Int) + 1) = (e : Int) + 1 := by unfold wrap64; omega
  rw [h2]
  rfl
set_option maxHeartbeats 800000 in
theorem decimal_any (m : Nat) (s : ByteArray) (w : World) (hm : m ≤ 18) : Calls Tryz.prog 12 #[.string s, .int .i64 m] w (DecIs m s w) := by
  by_cases h0 : s.size < 1
  · have F := Lib.hid (dec_no (w := w) (s := s) (m := m) (by simp only [numOkM, size_list]; rw [decide_eq_false (by omega)]; rfl))
    clear hm
    go_enter Tryz.func12, Tryz.ntmps12
    go_wp2_with fail
    go_ret2
    exact F.out
  by_cases h3 : m < s.size
  · have F := Lib.hid (dec_no (w := w) (s := s) (m := m) (by simp only [numOkM, size_list]; rw [decide_eq_false (show ¬ s.size ≤ m by omega), Bool.and_false]; rfl))
    clear hm
    go_enter Tryz.func12, Tryz.ntmps12
    go_wp2_with fail
    go_ret2
    exact F.out
  have hp : 0 < s.size := by omega
  have hd0 := head_zero s hp
  by_cases hz : 1 < s.size ∧ s[0].toNat = 48
  · obtain ⟨hz1, hz2⟩ := hz
    have F := Lib.hid (dec_no (w := w) (s := s) (m := m) (by
      simp only [numOkM, size_list]
      rw [decide_eq_false (show ¬ s.size ≤ 1 by omega), hd0.2 hz2]
      simp))
    have q : ((s[0].toNat : Int) == 48) = true := by simp; omega
    clear hd0 hz2 hm
    go_enter Tryz.func12, Tryz.ntmps12
    go_wp2_with fail
    go_ret2
    exact F.out
  have ho : Hid (numOkM m s.data.toList = allDig s.data.toList) := numOkM_of m s hp (by omega) (by
    by_cases h1 : s.size ≤ 1
    · exact .inl h1
    · exact .inr fun e => hz ⟨by omega, hd0.1 e⟩)
  have HZ := Lib.hid hz
  clear hd0 hz
  have hs3 : s.size ≤ m := by omega
  have HM : Hid (s.size ≤ 18) := by have : s.size ≤ 18 := by omega
                                    exact this
  have HNE : Hid (s.size ≠ 0) := by have : s.size ≠ 0 := by omega
                                    exact this
  clear h0 h3 hm
  go_enter Tryz.func12, Tryz.ntmps12
  by_cases h1 : 1 < s.size
  all_goals
    (try (have q : ((s[0].toNat : Int) == 48) = false := by have := HZ.out; simp; omega))
    go_wp2_with fail
    go_loop [30] (fun i => ∃ k : Nat, k ≤ s.size ∧ i = .int .i64 k ∧ Hid (allDig (s.data.toList.take k) = true)) (fun i => s.size - (intOf i).toNat)
    case atStart => exact ⟨0, Nat.zero_le _, rfl, rfl⟩
    case round =>
      obtain ⟨k, hk, rfl, HA⟩ := hrel
      by_cases hlt : k < s.size
      · have T := Lib.hid (take_byte s k hlt)
        have NA := Lib.hid (not_all s k hlt)
        obtain ⟨c, hc⟩ : ∃ c, s[k].toNat = c := ⟨_, rfl⟩
        by_cases hd : 48 ≤ c ∧ c ≤ 57
        · obtain ⟨hd1, hd2⟩ := hd
          have ND : Hid (isDig s[k] = true) := by
            show isDig s[k] = true
            unfold isDig
            rw [hc]
            simp
            omega
          have HC := Lib.hid hc
          have E2 : Hid (allDig (s.data.toList.take (k + 1)) = true) := by
            show allDig (s.data.toList.take (k + 1)) = true
            rw [T.out, allDig_snoc, HA.out, ND.out]
            rfl
          have wk := wrap_inc (e := k) (by have := HM.out; omega)
          go_wp2_with fail
          go_round
          case rel =>
            first
              | exact ⟨k + 1, by omega, rfl, E2.out⟩
              | exact ⟨_, _, _, _, ⟨k + 1, by omega, rfl, E2.out⟩, rfl, rfl, rfl, rfl⟩
              | fail
          case measure => simp [intOf]; omega
        · have F := Lib.hid (dec_no (w := w) (m := m) (by rw [ho.out]; exact NA.out (by rw [hc]; exact hd)))
          by_cases hd1 : c < 48
          · clear hd
            go_wp2_with fail
            go_ret2
            exact F.out
          · have hd2 : 57 < c := by omega
            have hd3 : 48 ≤ c := by omega
            clear hd hd1
            go_wp2_with fail
            go_ret2
            exact F.out
      · obtain rfl : k = s.size := by omega
        have e : s.data.toList.take s.size = s.data.toList := by rw [← size_list]; exact List.take_length
        have HD : Hid (allDig s.data.toList = true) := by have := HA.out; rw [e] at this; exact this
        have C := Lib.hid (fun w => parseUint_digs s w HNE.out HM.out HD.out)
        have F := Lib.hid (fun w' hb => dec_yes (w := w) (w' := w') (m := m) (s := s) (n := numv s.data.toList) (by rw [ho.out, ← e]; exact HA.out) rfl hb)
        clear e
        generalize numv s.data.toList = n at *
        go_wp2_with fail
        refine (C.out _).mono ?_
        rintro e w' ⟨rfl, hb⟩
        have HB := Lib.hid hb
        clear hb
        go_wp2_with fail
        go_ret2
        exact F.out _ HB.out
/-- As a caller reads it. -/
theorem decimal_ok (m : Nat) (s : ByteArray) (w : World) (hm : m ≤ 18) (n : Nat) (h : numOkM m s.data.toList = true) (hn : n = numv s.data.toList) :
    Calls Tryz.prog 12 #[.string s, .int .i64 m] w fun e w' => e = .returned (.tuple #[.int .u64 n, .int .i64 0]) ∧ Below w.heap.size w w' := by
  refine (decimal_any m s w hm).mono ?_
  rintro e w' ⟨rfl, hb⟩
  unfold decv dece
  rw [h, if_pos rfl, if_pos rfl, hn]
  exact ⟨rfl, hb⟩
theorem decimal_bad (m : Nat) (s : ByteArray) (w : World) (hm : m ≤ 18) (h : numOkM m s.data.toList = false) :
    Calls Tryz.prog 12 #[.string s, .int .i64 m] w fun e w' => e = .returned (.tuple #[.int .u64 0, .int .i64 3]) ∧ Below w.heap.size w w' := by
  refine (decimal_any m s w hm).mono ?_
  rintro e w' ⟨rfl, hb⟩
  unfold decv dece
  rw [h]
  exact ⟨rfl, hb⟩
end Go.Proofs.YtpalnlbdfmiadaaGreatDoor
