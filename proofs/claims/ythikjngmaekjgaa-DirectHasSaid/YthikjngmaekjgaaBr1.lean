/-
  How many bits a word has (math/bits.OnesCount64), and its lowest one (TrailingZeros64).
-/
import Derived.Test.YthikjngmaekjgaaBrPlain
import Derived.Test.YthikjngmaekjgaaBase
import Derived.Laws.Bits64b
namespace Go.Proofs.Ythikjngmaekjgaa
open Go.RowKit
set_option linter.unusedVariables false

/-- How many bits a word has. -/
def pc (x : Nat) : Nat := ((List.range 64).filter fun j => x.testBit j).length
theorem digs8 {x : Nat} (h : digs_le 256 8 8 x) : ∃ a b c d e f g i : Nat, x = a + 256 * b + 65536 * c + 16777216 * d + 4294967296 * e + 1099511627776 * f + 281474976710656 * g + 72057594037927936 * i ∧
    a ≤ 8 ∧ b ≤ 8 ∧ c ≤ 8 ∧ d ≤ 8 ∧ e ≤ 8 ∧ f ≤ 8 ∧ g ≤ 8 ∧ i ≤ 8 ∧ dsum 256 8 x = a + b + c + d + e + f + g + i := by
  obtain ⟨h0, h1, h2, h3, h4, h5, h6, h7, h8⟩ := h
  refine ⟨_, _, _, _, _, _, _, _, ?_, h0, h1, h2, h3, h4, h5, h6, h7, ?_⟩
  · have h8' : x / 256 / 256 / 256 / 256 / 256 / 256 / 256 / 256 = 0 := h8
    omega
  · simp [dsum]
    omega
/-- The last steps of the count. -/
theorem pop_last {x : Nat} (h : digs_le 256 8 8 x) : x + x / 256 < 18446744073709551616 ∧ (x + x / 256) + (x + x / 256) / 65536 < 18446744073709551616 ∧
    ((x + x / 256) + (x + x / 256) / 65536) + ((x + x / 256) + (x + x / 256) / 65536) / 4294967296 < 9223372036854775808 ∧
    (((x + x / 256) + (x + x / 256) / 65536) + ((x + x / 256) + (x + x / 256) / 65536) / 4294967296) % 128 = dsum 256 8 x := by
  obtain ⟨a, b, c, d, e, f, g, i, hx, ha, hb, hc, hd, he, hf, hg, hi, hs⟩ := digs8 h
  rw [hs]
  clear hs h
  have e1 : x / 256 = b + 256 * c + 65536 * d + 16777216 * e + 4294967296 * f + 1099511627776 * g + 281474976710656 * i := by omega
  obtain ⟨y, hy⟩ : ∃ y, y = x + x / 256 := ⟨_, rfl⟩
  rw [← hy]
  have ey : y = (a + b) + 256 * (b + c) + 65536 * (c + d) + 16777216 * (d + e) + 4294967296 * (e + f) + 1099511627776 * (f + g) + 281474976710656 * (g + i) + 72057594037927936 * i := by omega
  clear hx e1
  have e2 : y / 65536 = (c + d) + 256 * (d + e) + 65536 * (e + f) + 16777216 * (f + g) + 4294967296 * (g + i) + 1099511627776 * i := by omega
  obtain ⟨z, hz⟩ : ∃ z, z = y + y / 65536 := ⟨_, rfl⟩
  rw [← hz]
  have ez : z = (a + b + c + d) + 256 * (b + c + d + e) + 65536 * (c + d + e + f) + 16777216 * (d + e + f + g) + 4294967296 * (e + f + g + i) + 1099511627776 * (f + g + i) + 281474976710656 * (g + i) + 72057594037927936 * i := by omega
  clear e2
  have hyl : y < 18446744073709551616 := by omega
  clear hy ey hz
  have e3 : z / 4294967296 = (e + f + g + i) + 256 * (f + g + i) + 65536 * (g + i) + 16777216 * i := by omega
  refine ⟨hyl, by omega, by omega, ?_⟩
  rw [e3, ez]
  omega

theorem and_u64 (a b c : Nat) (ha : a < 18446744073709551616) (hb : b < 18446744073709551616) (h : a &&& b = c) : bits .and .u64 (a : Int) (b : Int) = (c : Int) := by
  rw [bits_and_u64_nat a b ha hb, h]
theorem wrap_add64 (a b c : Nat) (h : a + b = c) (hc : c < 18446744073709551616) : IntKind.u64.wrap ((a : Int) + (b : Int)) = (c : Int) := by
  rw [IntKind.wrap_u64]; omega

theorem msk_32 : msk 2 32 = 6148914691236517205 := by decide +kernel
theorem msk_16 : msk 4 16 = 3689348814741910323 := by decide +kernel
theorem msk_8 : msk 16 8 = 1085102592571150095 := by decide +kernel
theorem digs_bound (b c : Nat) (hb : 0 < b) (hc : c < b) : ∀ n x, digs_le b c n x → x < b ^ n := by
  intro n
  induction n with
  | zero => intro x h; rw [show x = 0 from h]; exact Nat.one_pos
  | succ n ih =>
    intro x h
    have h1 := ih _ h.2
    rw [Nat.pow_succ]
    exact (Nat.div_lt_iff_lt_mul hb).1 h1
theorem fold_and' (b k : Nat) (hb : b = 2 ^ k) (n x : Nat) : (x / b &&& msk b n) + (x &&& msk b n) = foldTwo b n x := by subst hb; exact fold_and k n x
theorem fold_add' (b k c : Nat) (hb : b = 2 ^ k) (hc : 2 * c < b) (n x : Nat) (h : digs_le b c (2 * n) x) : (x / b + x) &&& msk b n = foldTwo b n x := by subst hb; exact fold_add k c hc n x h
theorem digs_top {b c x : Nat} (hb : 0 < b) (hc : c < b) (n : Nat) (h : digs_le b c (n + 1) x) : x < (c + 1) * b ^ n := by
  induction n generalizing x with
  | zero =>
    obtain ⟨h1, h2⟩ := h
    have h3 : x / b = 0 := h2
    have h4 := Nat.mod_add_div x b
    rw [h3] at h4
    simp at h4 ⊢
    omega
  | succ n ih =>
    have h1 := ih h.2
    rw [Nat.pow_succ, ← Nat.mul_assoc]
    exact (Nat.div_lt_iff_lt_mul hb).1 h1
/-- What the steps come to. -/
theorem pop_steps (x : Nat) (hx : x < 18446744073709551616) : ∃ a1 a2 x1 b1 b2 x2 c1 x3 x4 x5 x6 : Nat,
    x / 2 &&& 6148914691236517205 = a1 ∧ x &&& 6148914691236517205 = a2 ∧ a1 + a2 = x1 ∧ x1 < 18446744073709551616 ∧
    x1 / 4 &&& 3689348814741910323 = b1 ∧ x1 &&& 3689348814741910323 = b2 ∧ b1 + b2 = x2 ∧ x2 < 18446744073709551616 ∧
    x2 / 16 + x2 = c1 ∧ c1 < 18446744073709551616 ∧ c1 &&& 1085102592571150095 = x3 ∧ x3 < 18446744073709551616 ∧
    x3 + x3 / 256 = x4 ∧ x4 < 18446744073709551616 ∧ x4 + x4 / 65536 = x5 ∧ x5 < 18446744073709551616 ∧ x5 + x5 / 4294967296 = x6 ∧ x6 < 9223372036854775808 ∧ x6 % 128 = pc x := by
  have f1 := fold_and' 2 1 rfl 32 x
  rw [msk_32] at f1
  have d0 : digs_le 2 1 64 x := digs_two 64 x (by omega)
  have d1 : digs_le 4 2 32 (foldTwo 2 32 x) := fold_digs 2 1 (by decide) (by decide) 32 x d0
  have s1 : dsum 4 32 (foldTwo 2 32 x) = dsum 2 64 x := dsum_fold 2 (by decide) 32 x
  have s0 : dsum 2 64 x = pc x := dsum_two 64 x
  rw [s0] at s1
  clear s0 d0
  obtain ⟨x1, hx1⟩ : ∃ y, y = foldTwo 2 32 x := ⟨_, rfl⟩
  rw [← hx1] at f1 d1 s1
  have b1 : x1 < 4 ^ 32 := digs_bound 4 2 (by decide) (by decide) 32 x1 d1
  have f2 := fold_and' 4 2 rfl 16 x1
  rw [msk_16] at f2
  have d2 : digs_le 16 4 16 (foldTwo 4 16 x1) := fold_digs 4 2 (by decide) (by decide) 16 x1 d1
  have s2 : dsum 16 16 (foldTwo 4 16 x1) = dsum 4 32 x1 := dsum_fold 4 (by decide) 16 x1
  rw [s1] at s2
  clear s1 hx1 d1
  obtain ⟨x2, hx2⟩ : ∃ y, y = foldTwo 4 16 x1 := ⟨_, rfl⟩
  rw [← hx2] at f2 d2 s2
  have b2 : x2 < 5 * 16 ^ 15 := digs_top (c := 4) (by decide) (by decide) 15 d2
  have f3 := fold_add' 16 4 4 rfl (by decide) 8 x2 d2
  rw [msk_8] at f3
  have d3 : digs_le 256 8 8 (foldTwo 16 8 x2) := fold_digs 16 4 (by decide) (by decide) 8 x2 d2
  have s3 : dsum 256 8 (foldTwo 16 8 x2) = dsum 16 16 x2 := dsum_fold 16 (by decide) 8 x2
  rw [s2] at s3
  clear s2 hx2 d2
  obtain ⟨x3, hx3⟩ : ∃ y, y = foldTwo 16 8 x2 := ⟨_, rfl⟩
  rw [← hx3] at f3 d3 s3
  clear hx3
  have b3 : x3 < 256 ^ 8 := digs_bound 256 8 (by decide) (by decide) 8 x3 d3
  obtain ⟨l1, l2, l3, l4⟩ := pop_last d3
  rw [s3] at l4
  have b1' : x1 < 18446744073709551616 := b1
  have b2' : x2 < 5764607523034234880 := b2
  have b3' : x3 < 18446744073709551616 := b3
  clear b1 b2 b3 d3 s3
  exact ⟨_, _, x1, _, _, x2, _, x3, _, _, _, rfl, rfl, f1, b1', rfl, rfl, f2, by omega, rfl, by omega, f3, b3', rfl, l1, rfl, l2, rfl, l3, l4⟩
theorem and127 (x p : Nat) (h : x < 9223372036854775808) (hp : x % 128 = p) : bits .and .i64 (wrap64 (x : Int)) 127 = (p : Int) := by
  have e : wrap64 (x : Int) = (x : Int) := by unfold wrap64; omega
  have h1 : (BitVec.ofInt 64 (x : Int)).toNat = x := by
    rw [BitVec.ofInt_natCast, BitVec.toNat_ofNat]; exact Nat.mod_eq_of_lt (by omega)
  have h2 : (BitVec.ofInt 64 (127 : Int)).toNat = 127 := by decide
  have h3 : x &&& 127 = x % 128 := Nat.and_two_pow_sub_one_eq_mod x 7
  rw [e]
  show IntKind.i64.wrap ((BitVec.ofInt 64 (x : Int) &&& BitVec.ofInt 64 (127 : Int)).toNat : Int) = _
  rw [BitVec.toNat_and, h1, h2, h3, hp]
  have : p < 128 := by omega
  simp only [IntKind.wrap, IntKind.signed, IntKind.bits, Int.bmod]
  simp
  omega
theorem tz64_key (x a : Nat) (hx : x < 18446744073709551616) (hx0 : x ≠ 0) (hlow : x &&& (18446744073709551616 - x) = a) :
    IntKind.u64.wrap (bits BinOp.and IntKind.u64 (x : Int) (IntKind.u64.wrap (-(x : Int))) * 285870213051353865) / 288230376151711744 = ((a * 285870213051353865 % 18446744073709551616 / 288230376151711744 : Nat) : Int) := by
  have e1 : IntKind.u64.wrap (-(x : Int)) = ((18446744073709551616 - x : Nat) : Int) := by rw [IntKind.wrap_u64]; omega
  rw [e1, bits_and_u64_nat x _ hx (by omega), hlow, IntKind.wrap_u64]
  omega
end Go.Proofs.Ythikjngmaekjgaa
