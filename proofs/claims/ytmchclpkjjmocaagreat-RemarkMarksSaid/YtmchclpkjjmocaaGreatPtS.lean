/-
  Contracts of point: Split, Join, valid; and of the document: Is, Split, Join.
-/
import Derived.Test.YtmchclpkjjmocaaGreatOwn
import Derived.Laws.BitsAllLaws
namespace Go.Proofs.YtmchclpkjjmocaaGreat
open Go.RowKit
set_option linter.unusedVariables false

theorem pt_or : ∀ d, d < 64 → ∀ e, e < 4 → bits .or .i64 ((d : Nat) * 4 : Int) (e : Nat) = ((4 * d + e : Nat) : Int) := by decide +kernel
theorem ptsplit_any (b : Nat) (w : World) (hb : b ≤ 255) :
    Calls Tryz.prog 32 #[.int .u8 b] w fun e w' => e = .returned (.tuple #[.int .i64 (b / 4 : Nat), .int .i64 (b % 4 : Nat)]) ∧ w = w' := by
  have h1 : bits .and .u8 (b : Int) 3 = ((b % 4 : Nat) : Int) := by
    have := u8_and_nat b 3 (by omega) (by decide)
    rw [nat_mask2] at this
    exact this
  go_enter Tryz.func32, Tryz.ntmps32
  go_wp2_with fail
  go_ret2
  exact ⟨rfl, rfl⟩
theorem ptvalid_any (d : Int) (w : World) (b : Bool) (h : b = decide (0 ≤ d ∧ d < 64)) : Calls Tryz.prog 22 #[.int .i64 d] w fun e w' => e = .returned (.bool b) ∧ w = w' := by
  by_cases h0 : 0 ≤ d
  · have H : Hid (b = decide (d < 64)) := by show b = _; rw [h]; simp [h0]
    clear h
    go_enter Tryz.func22, Tryz.ntmps22
    go_wp2_with fail
    go_ret
    exact ⟨by rw [H.out]; rfl, rfl⟩
  · have H : Hid (b = false) := by show b = _; rw [h]; simp; omega
    clear h
    have h1 : d < 0 := by omega
    clear h0
    go_enter Tryz.func22, Tryz.ntmps22
    go_wp2_with fail
    go_ret
    exact ⟨by rw [H.out]; rfl, rfl⟩
def ptJoin (d e : Int) : Value := if 0 ≤ d ∧ d < 64 then (if 0 ≤ e ∧ e < 4 then .tuple #[.int .u8 (4 * d + e), .int .i64 0] else .tuple #[.int .u8 0, .int .i64 1]) else .tuple #[.int .u8 0, .int .i64 14]
theorem ptjoin_any (d e : Int) (w : World) : Calls Tryz.prog 11 #[.int .i64 d, .int .i64 e] w fun en w' => en = .returned (ptJoin d e) ∧ w = w' := by
  by_cases h0 : 0 ≤ d ∧ d < 64
  · by_cases h1 : 0 ≤ e ∧ e < 4
    · have H : Hid (ptJoin d e = .tuple #[.int .u8 (4 * d + e), .int .i64 0]) := by show ptJoin d e = _; rw [ptJoin, if_pos h0, if_pos h1]
      have C := Lib.hid (fun w => ptvalid_any d w true (by simp [h0]))
      obtain ⟨⟨h2, h3⟩, h4, h5⟩ := And.intro h0 h1
      clear h0 h1
      obtain ⟨n, rfl⟩ := Int.eq_ofNat_of_zero_le h2
      obtain ⟨m, rfl⟩ := Int.eq_ofNat_of_zero_le h4
      have k := pt_or n (by omega) m (by omega)
      have k2 : IntKind.u8.wrap ((4 * n + m : Nat) : Int) = 4 * (n : Int) + (m : Int) := by show ((4 * n + m : Nat) : Int) % 256 = _; omega
      have h6 : (m : Int) ≤ 3 := by omega
      go_enter Tryz.func11, Tryz.ntmps11
      go_wp2_with fail
      refine (C.out _).mono ?_
      rintro e w' ⟨rfl, rfl⟩
      go_wp2_with fail
      go_ret2
      exact ⟨H.out.symm ▸ rfl, rfl⟩
    · have H : Hid (ptJoin d e = .tuple #[.int .u8 0, .int .i64 1]) := by show ptJoin d e = _; rw [ptJoin, if_pos h0, if_neg h1]
      have C := Lib.hid (fun w => ptvalid_any d w true (by simp [h0]))
      clear h0
      by_cases h2 : e < 0
      · clear h1
        go_enter Tryz.func11, Tryz.ntmps11
        go_wp2_with fail
        refine (C.out _).mono ?_
        rintro e w' ⟨rfl, rfl⟩
        go_wp2_with fail
        go_ret2
        exact ⟨H.out.symm ▸ rfl, rfl⟩
      · have h3 : 0 ≤ e := by omega
        have h4 : 3 < e := by omega
        clear h1 h2
        go_enter Tryz.func11, Tryz.ntmps11
        go_wp2_with fail
        refine (C.out _).mono ?_
        rintro e w' ⟨rfl, rfl⟩
        go_wp2_with fail
        go_ret2
        exact ⟨H.out.symm ▸ rfl, rfl⟩
  · have H : Hid (ptJoin d e = .tuple #[.int .u8 0, .int .i64 14]) := by show ptJoin d e = _; rw [ptJoin, if_neg h0]
    have C := Lib.hid (fun w => ptvalid_any d w false (by simp [h0]))
    clear h0
    go_enter Tryz.func11, Tryz.ntmps11
    go_wp2_with fail
    refine (C.out _).mono ?_
    rintro e w' ⟨rfl, rfl⟩
    go_wp2_with fail
    go_ret2
    exact ⟨H.out.symm ▸ rfl, rfl⟩
theorem rptsplit_any (b : Nat) (w : World) (hb : b ≤ 255) :
    Calls Tryz.prog 27 #[.int .u8 b] w fun e w' => e = .returned (.tuple #[.int .i64 (b / 4 : Nat), .int .i64 (b % 4 : Nat)]) ∧ w = w' := by
  have h1 : wrap64 (b : Int) = (b : Int) := by unfold wrap64; omega
  go_enter Tryz.func27, Tryz.ntmps27
  go_wp2_with fail
  go_ret2
  exact ⟨rfl, rfl⟩
theorem rptis_any (d : Int) (w : World) (b : Bool) (h : b = decide (0 ≤ d ∧ d < 64)) : Calls Tryz.prog 15 #[.int .i64 d] w fun e w' => e = .returned (.bool b) ∧ w = w' := by
  by_cases h0 : 0 ≤ d
  · have H : Hid (b = decide (d ≤ 63)) := by show b = _; rw [h]; simp [h0]; omega
    clear h
    go_enter Tryz.func15, Tryz.ntmps15
    go_wp2_with fail
    go_ret
    exact ⟨by rw [H.out]; rfl, rfl⟩
  · have H : Hid (b = false) := by show b = _; rw [h]; simp; omega
    clear h
    have h1 : d < 0 := by omega
    clear h0
    go_enter Tryz.func15, Tryz.ntmps15
    go_wp2_with fail
    go_ret
    exact ⟨by rw [H.out]; rfl, rfl⟩
theorem rptjoin_any (d e : Int) (w : World) : Calls Tryz.prog 18 #[.int .i64 d, .int .i64 e] w fun en w' => en = .returned (ptJoin d e) ∧ w = w' := by
  by_cases h0 : 0 ≤ d ∧ d < 64
  · by_cases h1 : 0 ≤ e ∧ e < 4
    · have H : Hid (ptJoin d e = .tuple #[.int .u8 (4 * d + e), .int .i64 0]) := by show ptJoin d e = _; rw [ptJoin, if_pos h0, if_pos h1]
      have C := Lib.hid (fun w => rptis_any d w true (by simp [h0]))
      obtain ⟨⟨h2, h3⟩, h4, h5⟩ := And.intro h0 h1
      clear h0 h1
      obtain ⟨n, rfl⟩ := Int.eq_ofNat_of_zero_le h2
      obtain ⟨m, rfl⟩ := Int.eq_ofNat_of_zero_le h4
      have k2 : IntKind.u8.wrap (4 * (n : Int) + (m : Int)) = 4 * (n : Int) + (m : Int) := by show (4 * (n : Int) + (m : Int)) % 256 = _; omega
      have k3 : IntKind.u8.wrap ((n : Int) * 4 + (m : Int)) = 4 * (n : Int) + (m : Int) := by show ((n : Int) * 4 + (m : Int)) % 256 = _; omega
      have h6 : (m : Int) ≤ 3 := by omega
      go_enter Tryz.func18, Tryz.ntmps18
      go_wp2_with fail
      refine (C.out _).mono ?_
      rintro e w' ⟨rfl, rfl⟩
      go_wp2_with fail
      go_ret2
      exact ⟨H.out.symm ▸ rfl, rfl⟩
    · have H : Hid (ptJoin d e = .tuple #[.int .u8 0, .int .i64 1]) := by show ptJoin d e = _; rw [ptJoin, if_pos h0, if_neg h1]
      have C := Lib.hid (fun w => rptis_any d w true (by simp [h0]))
      clear h0
      by_cases h2 : e < 0
      · clear h1
        go_enter Tryz.func18, Tryz.ntmps18
        go_wp2_with fail
        refine (C.out _).mono ?_
        rintro e w' ⟨rfl, rfl⟩
        go_wp2_with fail
        go_ret2
        exact ⟨H.out.symm ▸ rfl, rfl⟩
      · have h3 : 0 ≤ e := by omega
        have h4 : 3 < e := by omega
        clear h1 h2
        go_enter Tryz.func18, Tryz.ntmps18
        go_wp2_with fail
        refine (C.out _).mono ?_
        rintro e w' ⟨rfl, rfl⟩
        go_wp2_with fail
        go_ret2
        exact ⟨H.out.symm ▸ rfl, rfl⟩
  · have H : Hid (ptJoin d e = .tuple #[.int .u8 0, .int .i64 14]) := by show ptJoin d e = _; rw [ptJoin, if_neg h0]
    have C := Lib.hid (fun w => rptis_any d w false (by simp [h0]))
    clear h0
    go_enter Tryz.func18, Tryz.ntmps18
    go_wp2_with fail
    refine (C.out _).mono ?_
    rintro e w' ⟨rfl, rfl⟩
    go_wp2_with fail
    go_ret2
    exact ⟨H.out.symm ▸ rfl, rfl⟩
end Go.Proofs.YtmchclpkjjmocaaGreat
