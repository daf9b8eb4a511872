/-
  Contracts of onesum's Add, Swap, Join and of the document's rest, Add, Sum, Check, Good, Swap, Join.
-/
import Derived.Test.YtlopmkmcjcijcaaBase
import Derived.Test.YtlopmkmcjcijcaaOPlain
import Derived.Laws.BitsAllLaws
namespace Go.Proofs.Ytlopmkmcjcijcaa
open Go.RowKit
set_option linter.unusedVariables false

theorem oadd_any (a b : Nat) (w : World) (ha : a ≤ 65535) (hb : b ≤ 65535) :
    Calls Try.prog 92 #[.int .u16 a, .int .u16 b] w fun e w' => e = .returned (.int .u16 (orest (a + b) : Nat)) ∧ w = w' := by
  have H := Lib.hid (orest_two ha hb)
  by_cases h : 65535 < a + b
  · have h2 : (65535 : Int) < (a : Int) + (b : Int) := by omega
    go_enter Try.func92, Try.ntmps92
    go_wp2_with fail
    go_ret
    refine ⟨?_, rfl⟩
    rw [H.out, if_pos h]
    go_num
  · have h2 : (a : Int) + (b : Int) ≤ 65535 := by omega
    go_enter Try.func92, Try.ntmps92
    go_wp2_with fail
    go_ret
    refine ⟨?_, rfl⟩
    rw [H.out, if_neg h]
    go_num
theorem rrest_any (n : Nat) (w : World) (hn : n ≤ 18446744073709551615) :
    Calls Try.prog 94 #[.int .u64 n] w fun e w' => e = .returned (.int .u16 (orest n : Nat)) ∧ w = w' := by
  rcases Nat.eq_zero_or_pos n with h | h
  · subst h
    go_enter Try.func94, Try.ntmps94
    go_wp2_with fail
    go_ret
    exact ⟨rfl, rfl⟩
  · obtain ⟨m, rfl⟩ : ∃ m, n = m + 1 := ⟨n - 1, by omega⟩
    have e : orest (m + 1) = m % 65535 + 1 := by unfold orest; rw [if_neg (by omega), Nat.add_sub_cancel]
    have H := Lib.hid e
    go_enter Try.func94, Try.ntmps94
    go_wp2_with fail
    go_ret
    refine ⟨?_, rfl⟩
    rw [H.out]
    go_num
theorem or8_u16 (a b : Nat) (ha : a < 256) (hb : b < 256) : bits .or .u16 ((a : Int) * 256) (b : Int) = ((a * 256 + b : Nat) : Int) := by
  have h := u16_or_nat (a * 256) b (by omega) (by omega)
  rw [nat_join 8 (a * 256) b (by omega) (by omega)] at h
  simpa using h
theorem oswap_any (a : Nat) (w : World) (ha : a ≤ 65535) :
    Calls Try.prog 91 #[.int .u16 a] w fun e w' => e = .returned (.int .u16 (oswap a : Nat)) ∧ w = w' := by
  have e1 : IntKind.u16.wrap ((a : Int) * 256) = ((a % 256 : Nat) : Int) * 256 := by
    show ((a : Int) * 256) % 65536 = _
    omega
  have h := or8_u16 (a % 256) (a / 256) (by omega) (by omega)
  have H : Hid (bits .or .u16 (IntKind.u16.wrap ((a : Int) * 256)) ((a : Int) / 256) = ((oswap a : Nat) : Int)) := by
    show bits .or .u16 (IntKind.u16.wrap ((a : Int) * 256)) ((a : Int) / 256) = ((oswap a : Nat) : Int)
    rw [e1]
    exact h
  clear e1 h
  go_enter Try.func91, Try.ntmps91
  go_wp2_with fail
  go_ret
  refine ⟨?_, rfl⟩
  rw [← H.out]
  rfl
theorem tmod_two (n : Int) : Int.tmod n 2 = 0 ↔ n % 2 = 0 := by rw [← Int.dvd_iff_tmod_eq_zero, ← Int.dvd_iff_emod_eq_zero]
/-- The second part's sum, as it joins. -/
def opart (n : Int) (b : Nat) : Nat := if n % 2 = 0 then b else oswap b
theorem opart_le (n : Int) {b : Nat} (h : b ≤ 65535) : opart n b ≤ 65535 := by unfold opart; split; exact h; exact oswap_le h
theorem ojoin_any (a b : Nat) (n : Int) (w : World) (ha : a ≤ 65535) (hb : b ≤ 65535) (h0 : -9223372036854775808 ≤ n) (h1 : n ≤ 9223372036854775807) :
    Calls Try.prog 77 #[.int .u16 a, .int .i64 n, .int .u16 b] w fun e w' => e = .returned (.int .u16 (orest (a + opart n b) : Nat)) ∧ w = w' := by
  have hl := opart_le n hb
  have C1 := Lib.hid (fun w => oadd_any a (opart n b) w ha hl)
  have C2 := Lib.hid (fun w => oswap_any b w hb)
  have ht := tmod_two n
  by_cases h : n % 2 = 0
  · have e : opart n b = b := if_pos h
    have q : (Int.tmod n 2 != 0) = false := by simp; omega
    rw [e] at C1
    have E := Lib.hid e
    clear e hl ht h C2
    go_enter Try.func77, Try.ntmps77
    go_wp2_with fail
    refine (C1.out _).mono ?_
    rintro e w' ⟨rfl, rfl⟩
    go_wp2_with fail
    go_ret
    exact ⟨by rw [E.out]; rfl, rfl⟩
  · have e : opart n b = oswap b := if_neg h
    have q : (Int.tmod n 2 != 0) = true := by simp; omega
    rw [e] at C1
    have E := Lib.hid e
    clear e hl ht h
    go_enter Try.func77, Try.ntmps77
    go_wp2_with fail
    refine (C2.out _).mono ?_
    rintro e w' ⟨rfl, rfl⟩
    go_wp2_with fail
    refine (C1.out _).mono ?_
    rintro e w' ⟨rfl, rfl⟩
    go_wp2_with fail
    go_ret
    exact ⟨by rw [E.out]; rfl, rfl⟩
/-- The document's sum of bytes. -/
theorem rsum_any (A : Option Addr) (n cap : Nat) (bs : List Nat) (w : World) (hn : n ≤ 140737488355328) (hA : Row w A n bs) :
    Calls Try.prog 80 #[.slice A n cap] w fun e w' => e = .returned (.int .u16 (orest (wsum 0 bs) : Nat)) ∧ w = w' := by
  have hlen := hA.len
  have hby := hA.2.1
  go_enter Try.func80, Try.ntmps80
  go_wp2_with fail
  go_loop [3, 4] (fun v j => ∃ k s : Nat, k ≤ n ∧ Hid (s = wsum 0 (bs.take k)) ∧ j = .int .i64 k ∧ v = .int .u64 s) (fun _ j => n - (intOf j).toNat)
  case atStart => exact ⟨0, 0, Nat.zero_le _, rfl, rfl, rfl⟩
  case round =>
    obtain ⟨k, s, hk, hs, rfl, rfl⟩ := hrel
    have hsl : s ≤ 65280 * 140737488355328 := by
      have := wsum_bound 0 (bs.take k) fun x hx => hby x (List.mem_of_mem_take hx)
      rw [← hs.out, List.length_take] at this
      refine Nat.le_trans this (Nat.mul_le_mul_left _ ?_)
      omega
    by_cases hlt : k < n
    · obtain ⟨b, o, rfl, hb, hc⟩ := hA.addr (by omega)
      have hv := hc k hlt
      clear hc
      have hx := hA.byte k
      obtain ⟨x, hxe⟩ : ∃ x, x = bs.getD k 0 := ⟨_, rfl⟩
      rw [← hxe] at hv hx
      have hst := wsum_snoc bs k (by omega)
      rw [← hxe, ← hs.out] at hst
      have HST := Lib.hid hst
      have HSL := Lib.hid hsl
      have hsi : (s : Int) ≤ 9187343239835811840 := by omega
      clear hst hxe hsl
      by_cases hp : k % 2 = 0
      · have q : ((k : Int) % 2 == 0) = true := by simp; omega
        have HP := Lib.hid hp
        clear hp
        go_wp2_with fail
        go_round
        case rel => exact ⟨k + 1, s + 256 * x, by omega, by have := HST.out; rw [if_pos HP.out] at this; exact this.symm, by go_num, by go_num⟩
        case measure => simp [intOf]; omega
      · have q : ((k : Int) % 2 == 0) = false := by simp; omega
        have HP := Lib.hid hp
        clear hp
        go_wp2_with fail
        go_round
        case rel => exact ⟨k + 1, s + x, by omega, by have := HST.out; rw [if_neg HP.out] at this; exact this.symm, by go_num, by go_num⟩
        case measure => simp [intOf]; omega
    · obtain rfl : k = n := by omega
      have e : s = wsum 0 bs := by rw [hs.out, take_beyond bs k (by omega)]
      have E := Lib.hid e
      have C := Lib.hid (fun w => rrest_any s w (by omega))
      clear e hsl
      go_wp2_with fail
      refine (C.out _).mono ?_
      rintro e w' ⟨rfl, rfl⟩
      go_wp2_with fail
      go_ret
      exact ⟨by rw [E.out]; rfl, rfl⟩
end Go.Proofs.Ytlopmkmcjcijcaa
