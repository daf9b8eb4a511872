/-
  Contracts of octet's small tests and of the document's tests of a place, and of SameBytes at equal bytes.
  Contracts of octet.Get and of the document's Get: the big-endian number of the bytes at a place, or which error.
  Contracts of octet.Cut and octet.Put: a copy of some bytes; a copy with a number put in; or which error.
  Contracts of octet's ones, within, Bits, SetBits and of the document's are, bit, fits, Bits, SetBits.
  Contracts of octet.Put and of the document's fits.
-/
import Derived.Test.YthikjngmaekjgaaBase
import Derived.Test.YthikjngmaekjgaaPlain
import Derived.Test.YthikjngmaekjgaaOwn
namespace Go.Proofs.Ythikjngmaekjgaa
open Go.RowKit
set_option linter.unusedVariables false

end Go.Proofs.Ythikjngmaekjgaa

namespace Go.Proofs.Ythikjngmaekjgaa
open Go.RowKit
set_option linter.unusedVariables false

end Go.Proofs.Ythikjngmaekjgaa

namespace Go.Proofs.Ythikjngmaekjgaa
open Go.RowKit
set_option linter.unusedVariables false
set_option maxRecDepth 10000

/-- What Cut answers: new memory with these bytes. -/
def CutTo (w : World) (l : List Nat) (e : Ending) (w' : World) : Prop :=
  e = .returned (.tuple #[.slice (some ⟨w.heap.size, 0, none⟩) l.length l.length, .int .i64 0]) ∧ Own w' w.heap.size l ∧ Below w.heap.size w w'

end Go.Proofs.Ythikjngmaekjgaa

namespace Go.Proofs.Ythikjngmaekjgaa
open Go.RowKit
set_option linter.unusedVariables false

theorem are_yes (f c : Int) (w : World) (h0 : 0 ≤ f) (h1 : f ≤ 63) (h2 : 0 ≤ c) (h3 : c ≤ 64 - f) :
    Calls Try.prog 25 #[.int .i64 f, .int .i64 c] w fun e w' => e = .returned (.bool true) ∧ w = w' := by
  go_enter Try.func25, Try.ntmps25
  go_wp2
  go_ret
  exact ⟨rfl, rfl⟩
theorem are_no (f c : Int) (w : World) (h : f < 0 ∨ 63 < f ∨ c < 0 ∨ 64 - f < c) :
    Calls Try.prog 25 #[.int .i64 f, .int .i64 c] w fun e w' => e = .returned (.bool false) ∧ w = w' := by
  by_cases h1 : 0 ≤ f
  · by_cases h2 : f ≤ 63
    · by_cases h3 : 0 ≤ c
      · have h4 : 64 - f < c := by omega
        clear h
        go_enter Try.func25, Try.ntmps25
        go_wp2
        go_ret
        exact ⟨by simp; omega, rfl⟩
      · clear h
        go_enter Try.func25, Try.ntmps25
        go_wp2
        go_ret
        exact ⟨rfl, rfl⟩
    · clear h
      go_enter Try.func25, Try.ntmps25
      go_wp2
      go_ret
      exact ⟨rfl, rfl⟩
  · clear h
    go_enter Try.func25, Try.ntmps25
    go_wp2
    go_ret
    exact ⟨rfl, rfl⟩

theorem bit_any (n : Nat) (i : Int) (w : World) (hn : n ≤ 18446744073709551615) (h0 : 0 ≤ i) (h1 : i ≤ 64) :
    Calls Try.prog 26 #[.int .u64 n, .int .i64 i] w fun e w' => e = .returned (.int .u64 ((n / 2 ^ i.toNat % 2 : Nat) : Int)) ∧ w = w' := by
  obtain ⟨m, rfl⟩ := Int.eq_ofNat_of_zero_le h0
  go_enter Try.func26, Try.ntmps26
  go_wp2
  go_loop [0, 1] (fun v j => ∃ k : Nat, k ≤ m ∧ j = .int .i64 ((m - k : Nat) : Int) ∧ v = .int .u64 ((n / 2 ^ k : Nat) : Int)) (fun _ j => (intOf j).toNat)
  case atStart => exact ⟨0, Nat.zero_le _, by simp, by simp⟩
  case round =>
    obtain ⟨k, hk, rfl, rfl⟩ := hrel
    have hle : n / 2 ^ k ≤ n := Nat.div_le_self _ _
    by_cases hlt : k < m
    · have hst : n / 2 ^ (k + 1) = n / 2 ^ k / 2 := by rw [Nat.pow_succ, Nat.div_div_eq_div_mul]
      have hst := Lib.hid hst
      generalize n / 2 ^ k = q at *
      obtain ⟨d, hd⟩ : ∃ d : Nat, d = m - k := ⟨_, rfl⟩
      have hd' := Lib.hid hd
      have hdp : 1 ≤ d := by omega
      have hdm : d ≤ 64 := by omega
      rw [← hd]
      clear hd
      go_wp2
      go_round
      case rel => exact ⟨k + 1, by omega, by have := hd'.out; go_num, by rw [hst.out]; go_num⟩
      case measure => simp [intOf]; omega
    · have hk' : k = m := by omega
      subst hk'
      rw [Nat.sub_self]
      go_wp2
      go_ret
      refine ⟨?_, rfl⟩
      simp
      exact Int.tmod_eq_emod_of_nonneg (Int.ediv_nonneg (by omega) (Int.le_of_lt (Int.pow_pos (by decide))))
theorem bit_is (n r : Nat) (i : Int) (w : World) (hn : n ≤ 18446744073709551615) (h0 : 0 ≤ i) (h1 : i ≤ 64) (hr : Hid (r = n / 2 ^ i.toNat % 2)) :
    Calls Try.prog 26 #[.int .u64 n, .int .i64 i] w fun e w' => e = .returned (.int .u64 r) ∧ w = w' := by
  rw [hr.out]
  exact bit_any n i w hn h0 h1

theorem rsetbits_no (n x : Nat) (f c : Int) (w : World) (h : f < 0 ∨ 63 < f ∨ c < 0 ∨ 64 - f < c) :
    Calls Try.prog 24 #[.int .u64 n, .int .i64 f, .int .i64 c, .int .u64 x] w fun e w' => e = .returned (.int .u64 n) ∧ w = w' := by
  have h := Lib.hid h
  go_enter Try.func24, Try.ntmps24
  go_wp2_with (first
    | (go_at_call 25; refine (are_no _ _ _ h.out).mono ?_; rintro e w' ⟨rfl, rfl⟩))
  go_ret
  exact ⟨rfl, rfl⟩
theorem rsetbits_ok (n f c x : Nat) (w : World) (hn : n ≤ 18446744073709551615) (hx : x ≤ 18446744073709551615) (h1 : f ≤ 63) (h3 : f + c ≤ 64) :
    Calls Try.prog 24 #[.int .u64 n, .int .i64 f, .int .i64 c, .int .u64 x] w fun e w' => e = .returned (.int .u64 (setb n f c x : Nat)) ∧ w = w' := by
  have hS := setb_lt n f c x h3
  have H0 : setb n f c x / 2 ^ 64 = 0 := by
    have : (2 : Nat) ^ 64 = 18446744073709551616 := by decide
    rw [this]; exact Nat.div_eq_of_lt hS
  have Hin := Lib.hid (fun i (hi : i < 64) (h1 : f ≤ i) (h2 : i < f + c) => setb_step_in n f c x i h3 hi h1 h2)
  have Hout := Lib.hid (fun i (hi : i < 64) (h1 : ¬ (f ≤ i ∧ i < f + c)) => setb_step_out n f c x i h3 hi h1)
  generalize setb n f c x = S at *
  have H0 := Lib.hid H0
  go_enter Try.func24, Try.ntmps24
  go_wp2_with (first
    | (go_at_call 25; refine (are_yes _ _ _ (by omega) (by omega) (by omega) (by omega)).mono ?_; rintro e w' ⟨rfl, rfl⟩))
  go_loop [9, 10] (fun v j => ∃ i : Nat, i ≤ 64 ∧ j = .int .i64 ((i : Int) - 1) ∧ v = .int .u64 ((S / 2 ^ i : Nat) : Int)) (fun _ j => (intOf j + 1).toNat)
  case atStart => exact ⟨64, Nat.le_refl _, rfl, by rw [H0.out]; rfl⟩
  case round =>
    obtain ⟨i, hi, rfl, rfl⟩ := hrel
    rcases Nat.eq_zero_or_pos i with h0 | h0
    · subst h0
      go_wp2
      go_ret
      exact ⟨by simp, rfl⟩
    · obtain ⟨d, rfl⟩ : ∃ d, i = d + 1 := ⟨i - 1, by omega⟩
      have hst := Lib.hid (shr_step S d)
      have hb : S / 2 ^ (d + 1) ≤ 9223372036854775807 := by
        have e1 : S / 2 ^ (d + 1) ≤ S / 2 ^ 1 := Nat.div_le_div_left (Nat.pow_le_pow_right (by omega) (by omega)) (by decide)
        omega
      generalize S / 2 ^ (d + 1) = q at *
      by_cases hin : f ≤ d ∧ d < f + c
      · obtain ⟨ha, hb'⟩ := hin
        have ht := Hin.out d (by omega) ha hb'
        obtain ⟨t, hte⟩ : ∃ t, t = x / 2 ^ (d - f) % 2 := ⟨_, rfl⟩
        have hbt : t ≤ 1 := by omega
        have HT := Lib.hid hte
        have hst : Hid (S / 2 ^ d = q * 2 + t) := by have := hst.out; rw [ht, ← hte] at this; exact this
        clear hte ht
        go_wp2_with (first
          | (go_at_call 26; refine (bit_is _ t _ _ hx (by omega) (by omega) (by rw [show ((d : Int) - (f : Int)).toNat = d - f from by omega]; exact HT)).mono ?_; rintro e w' ⟨rfl, rfl⟩))
        go_round
        case rel => exact ⟨d, by omega, by go_num, by rw [hst.out]; go_num⟩
        case measure => simp [intOf]
      · have ht := Hout.out d (by omega) hin
        obtain ⟨t, hte⟩ : ∃ t, t = n / 2 ^ d % 2 := ⟨_, rfl⟩
        have hbt : t ≤ 1 := by omega
        have HT := Lib.hid hte
        have hst : Hid (S / 2 ^ d = q * 2 + t) := by have := hst.out; rw [ht, ← hte] at this; exact this
        clear hte ht
        by_cases ha : f ≤ d
        · have hb' : ¬ d < f + c := fun h => hin ⟨ha, h⟩
          clear hin
          go_wp2_with (first
            | (go_at_call 26; refine (bit_is _ t _ _ hn (by omega) (by omega) (by rw [show ((d : Int)).toNat = d from by omega]; exact HT)).mono ?_; rintro e w' ⟨rfl, rfl⟩))
          go_round
          case rel => exact ⟨d, by omega, by go_num, by rw [hst.out]; go_num⟩
          case measure => simp [intOf]
        · clear hin
          go_wp2_with (first
            | (go_at_call 26; refine (bit_is _ t _ _ hn (by omega) (by omega) (by rw [show ((d : Int)).toNat = d from by omega]; exact HT)).mono ?_; rintro e w' ⟨rfl, rfl⟩))
          go_round
          case rel => exact ⟨d, by omega, by go_num, by rw [hst.out]; go_num⟩
          case measure => simp [intOf]
end Go.Proofs.Ythikjngmaekjgaa

namespace Go.Proofs.Ythikjngmaekjgaa
open Go.RowKit
set_option linter.unusedVariables false
set_option maxRecDepth 10000

/-- What stands while Put writes: k bytes are there. -/
def PutInv (w : World) (bs : List Nat) (a : Nat) (l : List Nat) (k : Nat) (wr : World) : Prop := Own wr w.heap.size (splice bs a (l.take k)) ∧ Below w.heap.size w wr
/-- What Put answers: new memory. -/
def PutTo (w : World) (l : List Nat) (e : Ending) (w' : World) : Prop :=
  e = .returned (.tuple #[.slice (some ⟨w.heap.size, 0, none⟩) l.length l.length, .int .i64 0]) ∧ Own w' w.heap.size l ∧ Below w.heap.size w w'


theorem put_step {w wr : World} {bs l : List Nat} {a k m n x : Nat} (hinv : PutInv w bs a l k wr) (hlt : k < m) (HG : Hid (∀ k, k < m → l.getD k 0 = x / 256 ^ (m - 1 - k) % 256))
    (HLB : Hid (bs.length = n)) (HLL : Hid (l.length = m)) (h : a + m ≤ n) : PutInv w bs a l (k + 1) (wr.setCell ⟨w.heap.size, a + k, none⟩ (.int .u8 ((x : Int) / 2 ^ (8 * (m - 1 - k)) % 256))) := by
  have e1 := HG.out k hlt
  have e2 := HLB.out
  have e3 := HLL.out
  have e : ((x : Int) / 2 ^ (8 * (m - 1 - k)) % 256) = ((l.getD k 0 : Nat) : Int) := by rw [e1, pow256]; simp
  rw [e]
  refine ⟨?_, hinv.2.setCell (Nat.le_refl _) _⟩
  have := hinv.1.set (a + k) (l.getD k 0)
  rw [splice_take (by omega) (by omega)] at this
  exact this
theorem put_done {w wr : World} {bs l : List Nat} {a m n : Nat} (hinv : PutInv w bs a l m wr) (HLB : Hid (bs.length = n)) (HLL : Hid (l.length = m)) (h : a + m ≤ n) :
    PutTo w (splice bs a l) (.returned (.tuple #[.slice (some ⟨w.heap.size, 0, none⟩) n n, .int .i64 0])) wr := by
  have e2 := HLB.out
  have e3 := HLL.out
  refine ⟨by rw [splice_length (by omega), e2], ?_, hinv.2⟩
  have := hinv.1
  rw [List.take_of_length_le (by omega)] at this
  exact this

end Go.Proofs.Ythikjngmaekjgaa
