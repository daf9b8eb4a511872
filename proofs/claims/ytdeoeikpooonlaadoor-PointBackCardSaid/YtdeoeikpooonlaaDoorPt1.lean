/-
  Contracts of point's Split, Join, Af, Prec, valid, digits and of the document's Is, Split, Join, Af, digit.
-/
import Derived.Test.YtdeoeikpooonlaaDoorPtPlain
import Derived.Test.YtdeoeikpooonlaaDoorDot4
import Derived.Test.YtdeoeikpooonlaaDoorOwn
import Derived.Laws.BitsAllLaws
namespace Go.Proofs.YtdeoeikpooonlaaDoor
open Go.RowKit
set_option linter.unusedVariables false

theorem pt_or : ∀ d, d < 64 → ∀ e, e < 4 → bits .or .i64 ((d : Nat) * 4 : Int) (e : Nat) = ((4 * d + e : Nat) : Int) := by decide +kernel
theorem ptsplit_any (b : Nat) (w : World) (hb : b ≤ 255) :
    Calls Tryd.prog 11 #[.int .u8 b] w fun e w' => e = .returned (.tuple #[.int .i64 (b / 4 : Nat), .int .i64 (b % 4 : Nat)]) ∧ w = w' := by
  have h1 : bits .and .u8 (b : Int) 3 = ((b % 4 : Nat) : Int) := by
    have := u8_and_nat b 3 (by omega) (by decide)
    rw [nat_mask2] at this
    exact this
  go_enter Tryd.func11, Tryd.ntmps11
  go_wp2_with fail
  go_ret2
  exact ⟨rfl, rfl⟩
theorem ptvalid_any (d : Int) (w : World) (b : Bool) (h : b = decide (0 ≤ d ∧ d < 64)) : Calls Tryd.prog 55 #[.int .i64 d] w fun e w' => e = .returned (.bool b) ∧ w = w' := by
  by_cases h0 : 0 ≤ d
  · have H : Hid (b = decide (d < 64)) := by show b = _; rw [h]; simp [h0]
    clear h
    go_enter Tryd.func55, Tryd.ntmps55
    go_wp2_with fail
    go_ret
    exact ⟨by rw [H.out]; rfl, rfl⟩
  · have H : Hid (b = false) := by show b = _; rw [h]; simp; omega
    clear h
    have h1 : d < 0 := by omega
    clear h0
    go_enter Tryd.func55, Tryd.ntmps55
    go_wp2_with fail
    go_ret
    exact ⟨by rw [H.out]; rfl, rfl⟩
def ptJoin (d e : Int) : Value := if 0 ≤ d ∧ d < 64 then (if 0 ≤ e ∧ e < 4 then .tuple #[.int .u8 (4 * d + e), .int .i64 0] else .tuple #[.int .u8 0, .int .i64 1]) else .tuple #[.int .u8 0, .int .i64 14]
theorem ptjoin_any (d e : Int) (w : World) : Calls Tryd.prog 13 #[.int .i64 d, .int .i64 e] w fun en w' => en = .returned (ptJoin d e) ∧ w = w' := by
  by_cases h0 : 0 ≤ d ∧ d < 64
  · by_cases h1 : 0 ≤ e ∧ e < 4
    · have H : Hid (ptJoin d e = .tuple #[.int .u8 (4 * d + e), .int .i64 0]) := by show ptJoin d e = _; rw [ptJoin, if_pos h0, if_pos h1]
      have C := Lib.hid (fun w => ptvalid_any d w true (by simp [h0]))
      obtain ⟨⟨h2, h3⟩, h4, h5⟩ := And.intro h0 h1
      clear h0 h1
      obtain ⟨n, rfl⟩ := Int.eq_ofNat_of_zero_le h2
      obtain ⟨m, rfl⟩ := Int.eq_ofNat_of_zero_le h4
      have k := pt_or n (by omega) m (by omega)
      have k2 : IntKind.u8.wrap ((4 * n + m : Nat) : Int) = 4 * (n : Int) + (m : Int) := by show ((4 * n + m : Nat) : Int) % 256 = _; omega
      have h6 : (m : Int) ≤ 3 := by omega
      go_enter Tryd.func13, Tryd.ntmps13
      go_wp2_with fail
      refine (C.out _).mono ?_
      rintro e w' ⟨rfl, rfl⟩
      go_wp2_with fail
      go_ret2
      exact ⟨H.out.symm ▸ rfl, rfl⟩
    · have H : Hid (ptJoin d e = .tuple #[.int .u8 0, .int .i64 1]) := by show ptJoin d e = _; rw [ptJoin, if_pos h0, if_neg h1]
      have C := Lib.hid (fun w => ptvalid_any d w true (by simp [h0]))
      clear h0
      by_cases h2 : e < 0
      · clear h1
        go_enter Tryd.func13, Tryd.ntmps13
        go_wp2_with fail
        refine (C.out _).mono ?_
        rintro e w' ⟨rfl, rfl⟩
        go_wp2_with fail
        go_ret2
        exact ⟨H.out.symm ▸ rfl, rfl⟩
      · have h3 : 0 ≤ e := by omega
        have h4 : 3 < e := by omega
        clear h1 h2
        go_enter Tryd.func13, Tryd.ntmps13
        go_wp2_with fail
        refine (C.out _).mono ?_
        rintro e w' ⟨rfl, rfl⟩
        go_wp2_with fail
        go_ret2
        exact ⟨H.out.symm ▸ rfl, rfl⟩
  · have H : Hid (ptJoin d e = .tuple #[.int .u8 0, .int .i64 14]) := by show ptJoin d e = _; rw [ptJoin, if_neg h0]
    have C := Lib.hid (fun w => ptvalid_any d w false (by simp [h0]))
    clear h0
    go_enter Tryd.func13, Tryd.ntmps13
    go_wp2_with fail
    refine (C.out _).mono ?_
    rintro e w' ⟨rfl, rfl⟩
    go_wp2_with fail
    go_ret2
    exact ⟨H.out.symm ▸ rfl, rfl⟩
def ptAfOk (c p : Int) : Prop := 1 ≤ c ∧ c ≤ 4 ∧ 1 ≤ p ∧ p ≤ 3
def ptAf (c p : Int) : Value := if 1 ≤ c ∧ c ≤ 4 ∧ 1 ≤ p ∧ p ≤ 3 then .tuple #[.int .i64 (8 * c + 2 * p), .int .i64 0] else .tuple #[.int .i64 0, .int .i64 1]
theorem ptaf_yes (c p : Int) (w : World) (h1 : 1 ≤ c) (h2 : c ≤ 4) (h3 : 1 ≤ p) (h4 : p ≤ 3) : Calls Tryd.prog 15 #[.int .i64 c, .int .i64 p] w fun en w' => en = .returned (.tuple #[.int .i64 (8 * c + 2 * p), .int .i64 0]) ∧ w = w' := by
  go_enter Tryd.func15, Tryd.ntmps15
  go_wp2_with fail
  go_ret2
  exact ⟨rfl, rfl⟩
theorem ptaf_no (c p : Int) (w : World) (h : ¬ (1 ≤ c ∧ c ≤ 4 ∧ 1 ≤ p ∧ p ≤ 3)) : Calls Tryd.prog 15 #[.int .i64 c, .int .i64 p] w fun en w' => en = .returned (.tuple #[.int .i64 0, .int .i64 1]) ∧ w = w' := by
  by_cases h1 : c < 1
  · clear h
    go_enter Tryd.func15, Tryd.ntmps15
    go_wp2_with fail
    go_ret2
    exact ⟨rfl, rfl⟩
  have g1 : 1 ≤ c := by omega
  by_cases h2 : 4 < c
  · clear h h1
    go_enter Tryd.func15, Tryd.ntmps15
    go_wp2_with fail
    go_ret2
    exact ⟨rfl, rfl⟩
  have g2 : c ≤ 4 := by omega
  by_cases h3 : p < 1
  · clear h h1 h2
    go_enter Tryd.func15, Tryd.ntmps15
    go_wp2_with fail
    go_ret2
    exact ⟨rfl, rfl⟩
  have g3 : 1 ≤ p := by omega
  have h4 : 3 < p := by omega
  clear h h1 h2 h3
  go_enter Tryd.func15, Tryd.ntmps15
  go_wp2_with fail
  go_ret2
  exact ⟨rfl, rfl⟩
theorem ptaf_any (c p : Int) (w : World) : Calls Tryd.prog 15 #[.int .i64 c, .int .i64 p] w fun en w' => en = .returned (ptAf c p) ∧ w = w' := by
  unfold ptAf
  split
  · rename_i h
    exact ptaf_yes c p w h.1 h.2.1 h.2.2.1 h.2.2.2
  · rename_i h
    exact ptaf_no c p w h
set_option maxRecDepth 10000 in
theorem ptprec_any (d : Int) (w : World) (h1 : -9223372036854775808 ≤ d) (h2 : d ≤ 9223372036854775807) : Calls Tryd.prog 22 #[.int .i64 d] w fun en w' => en = .returned (.int .i64 (ptPrec d : Nat)) ∧ w = w' := by
  by_cases h0 : 0 ≤ d
  · obtain ⟨n, rfl⟩ := Int.eq_ofNat_of_zero_le h0
    clear h0 h1
    by_cases hr : 8 ≤ n ∧ n < 40 ∧ n % 8 / 2 ≠ 0
    · obtain ⟨r1, r2, r3⟩ := hr
      have C := Lib.hid (fun w => ptaf_yes ((n / 8 : Nat) : Int) ((n % 8 / 2 : Nat) : Int) w (by omega) (by omega) (by omega) (by omega))
      by_cases he : n % 2 = 0
      · have H : Hid (ptPrec (n : Int) = n % 8 / 2) := by show ptPrec _ = _; unfold ptPrec; rw [if_pos (by omega)]; omega
        have k : 8 * ((n / 8 : Nat) : Int) + 2 * ((n % 8 / 2 : Nat) : Int) = (n : Int) := by omega
        have e1 : (n : Int) / 8 = ((n / 8 : Nat) : Int) := by omega
        have e2 : (n : Int) % 8 / 2 = ((n % 8 / 2 : Nat) : Int) := by omega
        rw [k] at C
        clear k r1 r2 r3 he
        generalize n / 8 = q at *
        generalize n % 8 / 2 = p at *
        go_enter Tryd.func22, Tryd.ntmps22
        go_wp2_with fail
        refine (C.out _).mono ?_
        rintro e w' ⟨rfl, rfl⟩
        go_wp2_with fail
        go_ret
        exact ⟨by rw [H.out]; rfl, rfl⟩
      · have H : Hid (ptPrec (n : Int) = 0) := by show ptPrec _ = _; unfold ptPrec; rw [if_neg (by omega)]
        obtain ⟨m, hm⟩ : ∃ m : Nat, 8 * ((n / 8 : Nat) : Int) + 2 * ((n % 8 / 2 : Nat) : Int) = (m : Int) := ⟨8 * (n / 8) + 2 * (n % 8 / 2), by omega⟩
        have k : ((m : Int) == (n : Int)) = false := by simp; omega
        have e1 : (n : Int) / 8 = ((n / 8 : Nat) : Int) := by omega
        have e2 : (n : Int) % 8 / 2 = ((n % 8 / 2 : Nat) : Int) := by omega
        rw [hm] at C
        clear hm r1 r2 r3 he
        generalize n / 8 = q at *
        generalize n % 8 / 2 = p at *
        go_enter Tryd.func22, Tryd.ntmps22
        go_wp2_with fail
        refine (C.out _).mono ?_
        rintro e w' ⟨rfl, rfl⟩
        go_wp2_with fail
        go_ret
        exact ⟨by rw [H.out]; rfl, rfl⟩
    · have H : Hid (ptPrec (n : Int) = 0) := by show ptPrec _ = _; unfold ptPrec; split <;> omega
      have C := Lib.hid (fun w => ptaf_no ((n / 8 : Nat) : Int) ((n % 8 / 2 : Nat) : Int) w (by omega))
      have e1 : (n : Int) / 8 = ((n / 8 : Nat) : Int) := by omega
      have e2 : (n : Int) % 8 / 2 = ((n % 8 / 2 : Nat) : Int) := by omega
      clear hr
      generalize n / 8 = q at *
      generalize n % 8 / 2 = p at *
      go_enter Tryd.func22, Tryd.ntmps22
      go_wp2_with fail
      refine (C.out _).mono ?_
      rintro e w' ⟨rfl, rfl⟩
      go_wp2_with fail
      go_ret
      exact ⟨by rw [H.out]; rfl, rfl⟩
  · have H : Hid (ptPrec d = 0) := by show ptPrec _ = _; unfold ptPrec; rw [if_neg (by omega)]
    have hq : Int.tdiv d 8 ≤ 0 ∧ -9223372036854775808 ≤ Int.tdiv d 8 ∧ -4 ≤ Int.tdiv (Int.tmod d 8) 2 ∧ Int.tdiv (Int.tmod d 8) 2 ≤ 0 := by
      obtain ⟨n, rfl⟩ : ∃ n : Nat, d = -(n : Int) := ⟨(-d).toNat, by omega⟩
      rw [Int.neg_tdiv, Int.neg_tmod, Int.neg_tdiv, Int.tdiv_eq_ediv_of_nonneg (by omega), Int.tmod_eq_emod_of_nonneg (by omega), Int.tdiv_eq_ediv_of_nonneg (by omega)]
      omega
    obtain ⟨q, e1⟩ : ∃ q, Int.tdiv d 8 = q := ⟨_, rfl⟩
    obtain ⟨p, e2⟩ : ∃ p, Int.tdiv (Int.tmod d 8) 2 = p := ⟨_, rfl⟩
    rw [e1, e2] at hq
    obtain ⟨q1, q2, q3, q4⟩ := hq
    have w1 : wrap64 q = q := by unfold wrap64; omega
    have w2 : wrap64 p = p := by unfold wrap64; omega
    have C := Lib.hid (fun w => ptaf_no q p w (by omega))
    clear q1 q2 q3 q4 h0 h1 h2
    go_enter Tryd.func22, Tryd.ntmps22
    go_wp2_with fail
    refine (C.out _).mono ?_
    rintro e w' ⟨rfl, rfl⟩
    go_wp2_with fail
    go_ret
    exact ⟨by rw [H.out]; rfl, rfl⟩
end Go.Proofs.YtdeoeikpooonlaaDoor
