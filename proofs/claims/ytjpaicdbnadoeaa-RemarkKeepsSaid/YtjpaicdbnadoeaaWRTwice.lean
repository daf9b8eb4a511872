/-
  The walk of the statement RemarkFresh.
  Plain facts of marked packets: how many bits are unlike (bytes 10 and 11 of version 4 put back).
  The walk of the statement RemarkTwice.
-/
import Derived.Test.YtjpaicdbnadoeaaRm3
import Derived.Test.YtjpaicdbnadoeaaLift
namespace Go.Proofs.Ytjpaicdbnadoeaa
open Go.RowKit
set_option linter.unusedVariables false
set_option maxRecDepth 8000

theorem rm_rem {n : Nat} (h : n ≤ 255) : IntKind.u8.wrap (Int.tmod (n : Int) 64) = ((n % 64 : Nat) : Int) := by
  rw [Int.tmod_eq_emod_of_nonneg (by omega)]
  show ((n : Int) % 64) % 256 = _
  omega
theorem rm_front4 {bs : List Nat} {n d : Nat} (hl : bs.length = n) (hb : ∀ x ∈ bs, x < 256) (hd : d < 64) (h : pkDefs n bs = []) (h4 : bs.getD 0 0 / 16 = 4) :
    20 ≤ 4 * ((rmMark bs d).getD 0 0 % 16) ∧ 4 * ((rmMark bs d).getD 0 0 % 16) ≤ n ∧ (rmMark bs d).getD 0 0 / 16 = 4 ∧ filled ((rmMark bs d).take (4 * ((rmMark bs d).getD 0 0 % 16))) 10 = (rmMark bs d).take (4 * ((rmMark bs d).getD 0 0 % 16)) ∧ orest (wsum 0 ((rmMark bs d).take (4 * ((rmMark bs d).getD 0 0 % 16)))) = 65535 ∧ ((rmMark bs d).getD 10 0 ≠ 255 ∨ (rmMark bs d).getD 11 0 ≠ 255) := by
  have hh := pkHeads_nil h
  rcases pk_four_of hh with ⟨_, ha, hr⟩ | ⟨h6, _, _⟩
  · obtain ⟨d0, h20, m20, hmt, htn⟩ := fhall_nil ha
    have b1 := getD_byte hb 1
    have e1 : rmMark bs d = fhseal (bs.set 1 (d * 4 + bs.getD 1 0 % 4)) (4 * (bs.getD 0 0 % 16)) := by unfold rmMark rm4; rw [if_pos h4]
    have M := marked4_is hl hb m20 (by omega) (show d * 4 + bs.getD 1 0 % 4 < 256 by omega)
    rw [← e1] at M
    obtain ⟨S, hS⟩ : ∃ S, S = rmMark bs d := ⟨_, rfl⟩
    rw [← hS] at M ⊢
    have g0 := M.same 0 (by decide) (by decide) (by decide)
    rw [g0]
    obtain ⟨m, hm⟩ : ∃ m, m = 4 * (bs.getD 0 0 % 16) := ⟨_, rfl⟩
    rw [← hm] at M m20 hmt ⊢
    have hlt : ((bs.set 1 (d * 4 + bs.getD 1 0 % 4)).take m).length = m := by rw [List.length_take, List.length_set]; omega
    have hbt : ∀ x ∈ (bs.set 1 (d * 4 + bs.getD 1 0 % 4)).take m, x < 256 := fun x hx => by
      rcases List.mem_or_eq_of_mem_set (List.mem_of_mem_take hx) with h | h
      · exact hb x h
      · omega
    have hf0 : ((bs.set 1 (d * 4 + bs.getD 1 0 % 4)).take m).getD 0 0 ≠ 0 := by
      rw [getD_take (by omega), fhput_getD _ _ _ (by omega), if_neg (by decide)]
      omega
    have hnf := rm_filled_not (f := 10) (by decide) (by rw [hlt]; omega) (by decide) hf0
    refine ⟨m20, by omega, h4, by rw [M.front, rm_filled_twice _ hbt 10 (by decide) (by rw [hlt]; omega)], M.good, ?_⟩
    rw [← M.front] at hnf
    unfold fhw at hnf
    rw [getD_take (by omega), getD_take (by omega)] at hnf
    have hnf : ¬ (S.getD 10 0 * 256 + S.getD 11 0 = 65535) := hnf
    omega
  · omega
theorem fr_ints {y m n : Nat} (hm : m = 4 * y) (hy : y < 16) (h2 : m ≤ n) : wrap64 (y : Int) = (y : Int) ∧ wrap64 (4 * (y : Int)) = (m : Int) ∧ ¬ ((n : Int) < (m : Int)) ∧ (0 : Int) ≤ (m : Int) ∧ 4 * (y : Int) = (m : Int) :=
  ⟨by unfold wrap64; omega, by unfold wrap64; omega, by omega, by omega, by omega⟩
set_option maxRecDepth 10000 in
set_option maxHeartbeats 6400000 in
theorem walk_RemarkFresh (a0 : Option Addr) (len0 cap0 : Nat) (bs0 : List Nat) (n1 : Nat) (w : World) (R0 : Row w a0 len0 bs0) (hl0 : len0 ≤ cap0) (hc0 : cap0 ≤ 140737488351232) (hi1 : n1 ≤ 255) :
    Calls Try.prog 11 #[.slice a0 len0 cap0, .int .u8 n1] w fun e w' => e = .returned (.bool true) ∧ Below w.heap.size w w' := by
  have hn : len0 ≤ 140737488351232 := by omega
  have hrem : (n1 : Int) % 64 = ((n1 % 64 : Nat) : Int) := by omega
  obtain ⟨d, hd⟩ : ∃ d, d = n1 % 64 := ⟨_, rfl⟩
  rw [← hd] at hrem
  have hd64 : d < 64 := by omega
  have hw64 : wrap64 (d : Int) = (d : Int) := by unfold wrap64; omega
  have CM0 := Lib.hid (rmmark_any a0 len0 cap0 bs0 (d : Int) w hn hl0 R0)
  have hres : rmRes len0 bs0 (d : Int) = (pkTold len0 bs0, 0) := by unfold rmRes; rw [if_pos (by omega)]
  have hout : rmOut len0 bs0 (d : Int) = if pkDefs len0 bs0 = [] then rmMark bs0 d else [] := by unfold rmOut; rw [if_pos (by omega), Int.toNat_natCast]
  rw [hres, hout] at CM0
  by_cases hD : pkDefs len0 bs0 = []
  · obtain ⟨m1, m2, m3, m4, m5, m6⟩ := rm_rec R0.1 R0.2.1 hd64 hD
    obtain ⟨_, g20, gas, gsn, _, _⟩ := pk_good R0.1 R0.2.1 (pkHeads_nil hD)
    rw [if_pos hD, pkTold_nil hD] at CM0
    have CM : Hid (Calls Try.prog 41 #[.slice a0 len0 cap0, .int .i64 (d : Nat)] w fun e w' => ∃ b o c, e = .returned (.tuple #[.slice (some ⟨b, o, none⟩) len0 c, .int .i64 0, .int .i64 0]) ∧ len0 ≤ c ∧ Row w' (some ⟨b, o, none⟩) len0 (rmMark bs0 d) ∧ Below w.heap.size w w') := CM0.out.mono fun e w' h => by
      obtain ⟨v, rfl, ho, hb⟩ := h
      obtain ⟨A, c, rfl, h1, _, h3⟩ := ho.out m2
      rw [m1] at h1 h3 ⊢
      obtain ⟨b, o, rfl, _, _⟩ := h3.addr (by omega)
      exact ⟨b, o, c, rfl, h1, h3, hb⟩
    have hz1 : (20 : Int) ≤ (len0 : Int) := by omega
    obtain ⟨S, hS⟩ : ∃ S, S = rmMark bs0 d := ⟨_, rfl⟩
    rw [← hS] at CM m1 m2 m6
    have s0 := getD_byte m2 0
    by_cases h4 : bs0.getD 0 0 / 16 = 4
    · have hF := rm_front4 R0.1 R0.2.1 hd64 hD h4
      rw [← hS] at hF
      obtain ⟨f1, f2, f3, f4, f5, f6⟩ := hF
      obtain ⟨x, hx⟩ : ∃ x, x = S.getD 0 0 := ⟨_, rfl⟩
      obtain ⟨m, hm⟩ : ∃ m, m = 4 * (S.getD 0 0 % 16) := ⟨_, rfl⟩
      rw [← hm] at f1 f2 f4 f5
      have CF : Hid (∀ (b o c : Nat) (W : World), len0 ≤ c → Row W (some ⟨b, o, none⟩) len0 S → Calls Try.prog 44 #[.slice (some ⟨b, o, none⟩) m c, .int .i64 10] W (TwoTo W (S.take m) 0)) := fun b o c W hc h => by
        have hp := h.part 0 m (by omega)
        rw [List.drop_zero, Nat.add_zero] at hp
        have h2 := ofill_ok (some ⟨b, o, none⟩) m c 10 (S.take m) W (by omega) (by omega) (by decide) (by omega) hp
        rw [f4] at h2
        exact h2
      unfold TwoTo at CF
      have CG : Hid (∀ (b o c : Nat) (W : World), Row W (some ⟨b, o, none⟩) len0 S → Calls Try.prog 45 #[.slice (some ⟨b, o, none⟩) m c] W fun e w' => e = .returned (.bool true) ∧ Below W.heap.size W w') := fun b o c W h => by
        have hp := h.part 0 m (by omega)
        rw [List.drop_zero, Nat.add_zero] at hp
        exact ogood_any (some ⟨b, o, none⟩) m c (S.take m) true W (by omega) hp (by show _ = _; rw [decide_eq_true f5])
      have CSB : Hid (∀ (v : Value) (b o c : Nat) (W : World), len0 ≤ c → ByteVal W v (S.take m) → Row W (some ⟨b, o, none⟩) len0 S → Calls Try.prog 35 #[v, .slice (some ⟨b, o, none⟩) m c] W fun e w' => e = .returned (.bool true) ∧ Below W.heap.size W w') := fun v b o c W hc hv h => by
        have hp := h.part 0 m (by omega)
        rw [List.drop_zero, Nat.add_zero] at hp
        have hlt : (S.take m).length = m := by rw [List.length_take]; omega
        exact same_vals v _ (S.take m) W (by rw [hlt]; omega) hv ⟨some ⟨b, o, none⟩, c, by rw [hlt], by rw [hlt]; omega, by rw [hlt]; exact hp⟩
      obtain ⟨y, hy⟩ : ∃ y, y = x % 16 := ⟨_, rfl⟩
      have x16 : (x : Int) / 16 = 4 := by omega
      have y16 : (x : Int) % 16 = (y : Int) := by omega
      rw [← hx, ← hy] at hm
      obtain ⟨wy, wm, mI, m0, h4m⟩ := fr_ints hm (by rw [hy]; exact Nat.mod_lt _ (by decide)) f2
      have HMC : Hid (∀ c : Nat, len0 ≤ c → (m : Int) ≤ (c : Int)) := fun c hc => Int.ofNat_le.2 (Nat.le_trans f2 hc)
      obtain ⟨x10, hx10⟩ : ∃ x, x = S.getD 10 0 := ⟨_, rfl⟩
      obtain ⟨x11, hx11⟩ : ∃ x, x = S.getD 11 0 := ⟨_, rfl⟩
      have b10 := getD_byte m2 10
      have b11 := getD_byte m2 11
      rw [← hx10] at f6 b10
      rw [← hx11] at f6 b11
      have HCE : Hid (∀ (b o : Nat) (W : World), Row W (some ⟨b, o, none⟩) len0 S → W.cell? ⟨b, o, none⟩ = some (.int .u8 (x : Nat)) ∧ W.cell? ⟨b, o + 10, none⟩ = some (.int .u8 (x10 : Nat)) ∧ W.cell? ⟨b, o + 11, none⟩ = some (.int .u8 (x11 : Nat))) := fun b o W h => by
        obtain ⟨b', o', e, _, hc⟩ := h.addr (by omega)
        cases e
        rw [hx, hx10, hx11]
        exact ⟨by have := hc 0 (by omega); rwa [Nat.add_zero] at this, hc 10 (by omega), hc 11 (by omega)⟩
      have k0 : (0 : Int) < (len0 : Int) := by omega
      have k10 : (10 : Int) < (len0 : Int) := by omega
      have k11 : (11 : Int) < (len0 : Int) := by omega
      have HF6 := Lib.hid f6
      have HR := Lib.hid R0
      clear hS hx hm hy hx10 hx11 hd hd64 hres hout CM0 hD m1 m2 m3 m4 m5 m6 g20 gas gsn R0 hl0 hc0 hi1 f1 f2 f3 f4 f5 f6 s0 h4 hn b10 b11 HR
      go_enter Try.func11, Try.ntmps11
      go_wp2_with fail
      refine CM.out.mono ?_
      rintro e w1 ⟨b, o, c, rfl, hc, r1, b1⟩
      obtain ⟨c0, c10, c11⟩ := HCE.out b o w1 r1
      have mc := HMC.out c hc
      have R1 := Lib.hid r1
      have B1 := Lib.hid b1
      have HC := Lib.hid hc
      clear r1 b1 hc CM
      go_wp2_with fail
      refine (CF.out _ _ _ _ HC.out R1.out).mono ?_
      rintro e w2 ⟨v, rfl, hv, b2⟩
      have V2 := Lib.hid hv
      have R2 := Lib.hid (R1.out.below b2)
      have B2 := Lib.hid (below_both B1.out b2)
      clear hv b2 R1 B1 c0 c10 c11 CF
      go_wp2_with fail
      refine (live16 _).mono ?_
      rintro e w3 ⟨rfl, b3⟩
      have V3 := Lib.hid (V2.out.below b3)
      have R3 := Lib.hid (R2.out.below b3)
      have B3 := Lib.hid (below_both B2.out b3)
      clear b3 V2 R2 B2
      go_wp2_with fail
      refine (CSB.out _ _ _ _ _ HC.out V3.out R3.out).mono ?_
      rintro e w4 ⟨rfl, b4⟩
      have R4 := Lib.hid (R3.out.below b4)
      have B4 := Lib.hid (below_both B3.out b4)
      clear b4 V3 R3 B3 CSB
      go_wp2_with fail
      refine (CG.out _ _ _ _ R4.out).mono ?_
      rintro e w5 ⟨rfl, b5⟩
      obtain ⟨c0, c10, c11⟩ := HCE.out b o w5 (R4.out.below b5)
      have B5 := Lib.hid (below_both B4.out b5)
      clear b5 R4 B4 CG HCE
      by_cases h10 : x10 = 255
      · have h11 : x11 ≠ 255 := by rcases HF6.out with h | h; exact absurd h10 h; exact h
        subst h10
        have nb : ((x11 : Int) != 255) = true := bne_iff_ne.2 (by omega)
        clear HF6 h11
        go_wp2_with fail
        go_ret
        exact ⟨rfl, B5.out⟩
      · have nb : ((x10 : Int) != 255) = true := bne_iff_ne.2 (by omega)
        clear HF6 h10
        go_wp2_with fail
        go_ret
        exact ⟨rfl, B5.out⟩
    · have h6 : bs0.getD 0 0 / 16 = 6 := by
        rcases pk_four_of (pkHeads_nil hD) with ⟨h, _⟩ | ⟨h, _⟩
        · exact absurd h h4
        · exact h
      obtain ⟨x, hx⟩ : ∃ x, x = S.getD 0 0 := ⟨_, rfl⟩
      have x16 : (x : Int) / 16 = 6 := by omega
      have HCE : Hid (∀ (b o : Nat) (W : World), Row W (some ⟨b, o, none⟩) len0 S → W.cell? ⟨b, o, none⟩ = some (.int .u8 (x : Nat))) := fun b o W h => by
        obtain ⟨b', o', e, _, hc⟩ := h.addr (by omega)
        cases e
        rw [hx]
        have := hc 0 (by omega)
        rwa [Nat.add_zero] at this
      have k0 : (0 : Int) < (len0 : Int) := by omega
      clear hS hx hd hd64 hres hout CM0 hD m1 m2 m3 m4 m5 m6 g20 gas gsn R0 hl0 hc0 hi1 s0 h4 h6 hn
      go_enter Try.func11, Try.ntmps11
      go_wp2_with fail
      refine CM.out.mono ?_
      rintro e w1 ⟨b, o, c, rfl, hc, r1, b1⟩
      have c0 := HCE.out b o w1 r1
      have B1 := Lib.hid b1
      clear r1 b1 hc CM HCE
      go_wp2_with fail
      refine (live16 _).mono ?_
      rintro e w3 ⟨rfl, b3⟩
      have B3 := Lib.hid (below_both B1.out b3)
      clear b3 B1 c0
      go_wp2_with fail
      go_ret
      exact ⟨rfl, B3.out⟩
  · rw [if_neg hD] at CM0
    have hne : pkTold len0 bs0 ≠ 0 := fun h => hD (pkTold_zero.1 h)
    obtain ⟨t, ht⟩ : ∃ d, d = pkTold len0 bs0 := ⟨_, rfl⟩
    rw [← ht] at CM0 hne
    have db : ((t : Int) != 0) = true := bne_iff_ne.2 (by omega)
    have db2 : ((t : Int) == 0) = false := beq_false_of_ne (by omega)
    clear ht hD hne hres hout hd hd64 R0 hl0 hc0 hi1 hn
    go_enter Try.func11, Try.ntmps11
    go_wp2_with fail
    refine CM0.out.mono ?_
    rintro e w1 ⟨v, rfl, ho, b1⟩
    have B1 := Lib.hid b1
    clear ho b1 CM0
    go_wp2_with fail
    refine (live16 _).mono ?_
    rintro e w3 ⟨rfl, b3⟩
    have B3 := Lib.hid (below_both B1.out b3)
    clear b3 B1
    go_wp2_with fail
    go_ret
    exact ⟨rfl, B3.out⟩
end Go.Proofs.Ytjpaicdbnadoeaa

namespace Go.Proofs.Ytjpaicdbnadoeaa
set_option linter.unusedVariables false

theorem popF_part (u : Nat) : ∀ (j k : Nat), popF u (k + j) ≤ popF u k + j
  | 0, k => Nat.le_refl _
  | j + 1, k => by
    have h := popF_part u j k
    show popF u (k + j) + u / 2 ^ (k + j) % 2 ≤ popF u k + (j + 1)
    omega
theorem popF_low {u : Nat} : ∀ {k : Nat}, u % 2 ^ k = 0 → popF u k = 0
  | 0, _ => rfl
  | k + 1, h => by
    have e : 2 ^ (k + 1) = 2 ^ k * 2 := Nat.pow_succ 2 k
    rw [e, Nat.mod_mul] at h
    have h1 : u % 2 ^ k = 0 := by omega
    have h2 : 2 ^ k * (u / 2 ^ k % 2) = 0 := by omega
    have h3 : u / 2 ^ k % 2 = 0 := by
      rcases Nat.mul_eq_zero.1 h2 with h | h
      · exact absurd h (Nat.ne_of_gt (Nat.two_pow_pos k))
      · exact h
    show popF u k + u / 2 ^ k % 2 = 0
    rw [popF_low h1, h3]
theorem popF_high {u k : Nat} (h : u < 2 ^ k) : ∀ j, popF u (k + j) = popF u k
  | 0 => rfl
  | j + 1 => by
    show popF u (k + j) + u / 2 ^ (k + j) % 2 = popF u k
    rw [popF_high h j, Nat.div_eq_of_lt (Nat.lt_of_lt_of_le h (Nat.pow_le_pow_right (by decide) (Nat.le_add_right k j))), Nat.zero_mod, Nat.add_zero]
theorem pop_low2 {a b : Nat} (h : a % 4 = b % 4) : popF (a ^^^ b) 8 ≤ 6 := by
  have e : (a ^^^ b) % 2 ^ 2 = 0 := by
    rw [Nat.xor_mod_two_pow]
    show (a % 4) ^^^ (b % 4) = 0
    rw [h, Nat.xor_self]
  have h1 := popF_part (a ^^^ b) 6 2
  rw [popF_low e] at h1
  exact h1
theorem pop_low6 {a b : Nat} (h : a % 64 = b % 64) : popF (a ^^^ b) 8 ≤ 2 := by
  have e : (a ^^^ b) % 2 ^ 6 = 0 := by
    rw [Nat.xor_mod_two_pow]
    show (a % 64) ^^^ (b % 64) = 0
    rw [h, Nat.xor_self]
  have h1 := popF_part (a ^^^ b) 2 6
  rw [popF_low e] at h1
  exact h1
theorem pop_high4 {a b : Nat} (h : a / 16 = b / 16) : popF (a ^^^ b) 8 ≤ 4 := by
  have e : (a ^^^ b) / 2 ^ 4 = 0 := by
    rw [Nat.xor_div_two_pow]
    show (a / 16) ^^^ (b / 16) = 0
    rw [h, Nat.xor_self]
  have h2 : a ^^^ b < 2 ^ 4 := by
    have := Nat.div_eq_zero_iff.1 e
    omega
  have h3 := popF_high h2 4
  have h4 := popF_le (a ^^^ b) 4
  show popF (a ^^^ b) (4 + 4) ≤ 4
  omega
theorem unF_two {Y bs : List Nat} (h : ∀ i, 2 ≤ i → Y.getD i 0 = bs.getD i 0) : ∀ k, unF Y bs (2 + k) = unF Y bs 2
  | 0 => rfl
  | k + 1 => by
    show unF Y bs (2 + k) + popF (Y.getD (2 + k) 0 ^^^ bs.getD (2 + k) 0) 8 = _
    rw [unF_two h k, h (2 + k) (by omega), Nat.xor_self]
    rfl
/-- At most six bits are unlike. -/
theorem unlike_six {n : Nat} {Y bs : List Nat} (hn : 2 ≤ n) (h : ∀ i, 2 ≤ i → Y.getD i 0 = bs.getD i 0) (h2 : popF (Y.getD 0 0 ^^^ bs.getD 0 0) 8 + popF (Y.getD 1 0 ^^^ bs.getD 1 0) 8 ≤ 6) : unlike n n Y bs ≤ 6 := by
  unfold unlike
  rw [Nat.min_self, Nat.sub_self, Nat.zero_add, Nat.sub_self, Nat.mul_zero, Nat.zero_add]
  obtain ⟨k, rfl⟩ : ∃ k, n = 2 + k := ⟨n - 2, by omega⟩
  rw [unF_two h k]
  show 0 + popF (Y.getD 0 0 ^^^ bs.getD 0 0) 8 + popF (Y.getD 1 0 ^^^ bs.getD 1 0) 8 ≤ 6
  omega
/-- The marked bytes with bytes 10 and 11 put back, of version 4. -/
def rmBack (bs : List Nat) (d : Nat) : List Nat := if bs.getD 0 0 / 16 = 4 then ((rmMark bs d).set 10 (bs.getD 10 0)).set 11 (bs.getD 11 0) else rmMark bs d
theorem set_getD (l : List Nat) (j x i : Nat) (h : j < l.length) : (l.set j x).getD i 0 = if i = j then x else l.getD i 0 := by
  rw [List.getD_eq_getElem?_getD, List.getD_eq_getElem?_getD, List.getElem?_set]
  by_cases h1 : i = j
  · subst h1
    simp [h]
  · rw [if_neg (fun e => h1 e.symm), if_neg h1]
theorem rmBack_is {n d : Nat} {bs : List Nat} (hl : bs.length = n) (hb : ∀ x ∈ bs, x < 256) (hd : d < 64) (h : pkDefs n bs = []) : unlike n n (rmBack bs d) bs ≤ 6 ∧ (rmBack bs d).drop 2 = bs.drop 2 ∧ (rmBack bs d).length = n := by
  have hh := pkHeads_nil h
  have b0 := getD_byte hb 0
  have b1 := getD_byte hb 1
  rcases pk_four_of hh with ⟨h4, ha, hr⟩ | ⟨h6, ha, hr⟩
  · obtain ⟨d0, h20, m20, hmt, htn⟩ := fhall_nil ha
    have e1 : rmMark bs d = fhseal (bs.set 1 (d * 4 + bs.getD 1 0 % 4)) (4 * (bs.getD 0 0 % 16)) := by unfold rmMark rm4; rw [if_pos h4]
    have M := marked4_is hl hb m20 (by omega) (show d * 4 + bs.getD 1 0 % 4 < 256 by omega)
    rw [← e1] at M
    have hS := M.len
    have g : ∀ i, (rmBack bs d).getD i 0 = if i = 1 then d * 4 + bs.getD 1 0 % 4 else bs.getD i 0 := fun i => by
      unfold rmBack
      rw [if_pos h4, set_getD _ _ _ _ (by rw [List.length_set, hS]; omega), set_getD _ _ _ _ (by rw [hS]; omega)]
      by_cases h11 : i = 11
      · rw [if_pos h11, if_neg (by omega), h11]
      · rw [if_neg h11]
        by_cases h10 : i = 10
        · rw [if_pos h10, if_neg (by omega), h10]
        · rw [if_neg h10]
          by_cases h1 : i = 1
          · rw [if_pos h1, h1, M.one]
          · rw [if_neg h1, M.same i h1 h10 h11]
    have hlen : (rmBack bs d).length = n := by unfold rmBack; rw [if_pos h4, List.length_set, List.length_set, hS]
    have g2 : ∀ i, 2 ≤ i → (rmBack bs d).getD i 0 = bs.getD i 0 := fun i hi => by rw [g i, if_neg (by omega)]
    refine ⟨unlike_six (by omega) g2 ?_, rm_drop (by rw [hlen, hl]) g2, hlen⟩
    rw [g 0, if_neg (by decide), Nat.xor_self, g 1, if_pos rfl]
    have h3 := pop_low2 (a := d * 4 + bs.getD 1 0 % 4) (b := bs.getD 1 0) (by omega)
    show 0 + _ ≤ 6
    omega
  · obtain ⟨_, h40, _, _, _⟩ := sxall_nil hl ha
    have e : rmBack bs d = rm6 bs d := by unfold rmBack rmMark; rw [if_neg (by omega), if_neg (by omega)]
    obtain ⟨l1, bb, g0, g1, t2⟩ := rm6_is hl (by omega) hb hd h6
    rw [e]
    have g2 : ∀ i, 2 ≤ i → (rm6 bs d).getD i 0 = bs.getD i 0 := fun i hi => by
      have k : ∀ l : List Nat, l.getD i 0 = (l.drop 2).getD (i - 2) 0 := fun l => by
        rw [List.getD_eq_getElem?_getD, List.getD_eq_getElem?_getD, List.getElem?_drop, show 2 + (i - 2) = i by omega]
      rw [k, k bs, t2]
    refine ⟨unlike_six (by omega) g2 ?_, t2, l1⟩
    rw [g0, g1]
    have h3 := pop_high4 (a := 96 + d / 4) (b := bs.getD 0 0) (by omega)
    have h4 := pop_low6 (a := d % 4 * 64 + bs.getD 1 0 % 64) (b := bs.getD 1 0) (by omega)
    omega
end Go.Proofs.Ytjpaicdbnadoeaa

namespace Go.Proofs.Ytjpaicdbnadoeaa
open Go.RowKit
set_option linter.unusedVariables false
set_option maxRecDepth 8000

theorem rmmark_good (A : Option Addr) (n c : Nat) (bs : List Nat) (d : Nat) (w : World) (hn2 : n ≤ 140737488351232) (hc : n ≤ c) (hR : Row w A n bs) (hd : d < 64) (hD : pkDefs n bs = []) :
    Calls Try.prog 41 #[.slice A n c, .int .i64 (d : Nat)] w fun e w' => ∃ A2 c2, e = .returned (.tuple #[.slice A2 n c2, .int .i64 0, .int .i64 0]) ∧ n ≤ c2 ∧ Row w' A2 n (rmMark bs d) ∧ Below w.heap.size w w' := by
  obtain ⟨m1, m2, _⟩ := rm_rec hR.1 hR.2.1 hd hD
  refine (rmmark_any A n c bs (d : Int) w hn2 hc hR).mono ?_
  rintro e w' ⟨v, rfl, ho, hb⟩
  have hres : rmRes n bs (d : Int) = (0, 0) := by unfold rmRes; rw [if_pos (by omega), pkTold_nil hD]
  have hout : rmOut n bs (d : Int) = rmMark bs d := by unfold rmOut; rw [if_pos (by omega), if_pos hD, Int.toNat_natCast]
  rw [hres]
  rw [hout] at ho
  obtain ⟨A2, c2, rfl, h1, _, h3⟩ := ho.out m2
  rw [m1] at h1 h3 ⊢
  exact ⟨A2, c2, rfl, h1, h3, hb⟩
set_option maxRecDepth 10000 in
set_option maxHeartbeats 6400000 in
theorem walk_RemarkTwice (a0 : Option Addr) (len0 cap0 : Nat) (bs0 : List Nat) (zs1 : List Int) (w : World) (R0 : Row w a0 len0 bs0) (hl0 : len0 ≤ cap0) (hc0 : cap0 ≤ 140737488351232) (hn1 : zs1.length = 2) (hz1 : ∀ z ∈ zs1, (Lit.int .u8 z).wf = true) :
    Calls Try.prog 12 #[.slice a0 len0 cap0, .agg (zs1.map (Value.int .u8)).toArray] w fun e w' => e = .returned (.bool true) ∧ Below w.heap.size w w' := by
  obtain ⟨y0, y1, rfl⟩ : ∃ a b, zs1 = [a, b] := by
    match zs1, hn1 with
    | [a, b], _ => exact ⟨a, b, rfl⟩
  obtain ⟨p0, p0'⟩ := wf_u8 (hz1 y0 (by simp))
  obtain ⟨p1, p1'⟩ := wf_u8 (hz1 y1 (by simp))
  obtain ⟨z0, rfl⟩ : ∃ z : Nat, y0 = z := ⟨y0.toNat, by omega⟩
  obtain ⟨z1, rfl⟩ : ∃ z : Nat, y1 = z := ⟨y1.toNat, by omega⟩
  have hn : len0 ≤ 140737488351232 := by omega
  have hrem0 : (z0 : Int) % 64 = ((z0 % 64 : Nat) : Int) := by omega
  have hrem1 : (z1 : Int) % 64 = ((z1 % 64 : Nat) : Int) := by omega
  obtain ⟨d, hd⟩ : ∃ d, d = z0 % 64 := ⟨_, rfl⟩
  obtain ⟨d1, hd1⟩ : ∃ d, d = z1 % 64 := ⟨_, rfl⟩
  rw [← hd] at hrem0
  rw [← hd1] at hrem1
  have hd64 : d < 64 := by omega
  have hd164 : d1 < 64 := by omega
  have hw64 : wrap64 (d : Int) = (d : Int) := by unfold wrap64; omega
  have hw164 : wrap64 (d1 : Int) = (d1 : Int) := by unfold wrap64; omega
  simp only [List.map_cons, List.map_nil]
  obtain ⟨V, eV⟩ : ∃ V, V = w.alloc (.cells #[.int .u8 (z0 : Int), .int .u8 (z1 : Int)] 78) := ⟨_, rfl⟩
  have hA : ArrV 78 V w.heap.size [.int .u8 (z0 : Int), .int .u8 (z1 : Int)] := by rw [eV]; exact ArrV.new _ w _
  have hB : Below w.heap.size w V := by rw [eV]; exact (Below.refl _ _).alloc (Nat.le_refl _) _
  have HA := Lib.hid hA
  have HB := Lib.hid hB
  obtain ⟨g2, hg2⟩ : ∃ g, g = w.heap.size := ⟨_, rfl⟩
  have HG2 := Lib.hid hg2
  have c0 := hA.get 0
  have c1 := hA.get 1
  simp only [List.getElem?_cons_zero, List.getElem?_cons_succ] at c0 c1
  rw [← hg2] at c0 c1 HA
  have HR := Lib.hid R0
  by_cases hD : pkDefs len0 bs0 = []
  · obtain ⟨m1, m2, m3, m4, m5, m6⟩ := rm_rec R0.1 R0.2.1 hd64 hD
    obtain ⟨_, g20, gas, gsn, _, _⟩ := pk_good R0.1 R0.2.1 (pkHeads_nil hD)
    have ok := pkRec_ok R0.1 R0.2.1 (pkHeads_nil hD)
    obtain ⟨f, hf⟩ : ∃ f, f = (pkRec bs0).field := ⟨_, rfl⟩
    have hff := ok.field
    rw [← hf] at hff
    have hf64 : f / 4 < 64 := by omega
    have e1 : rmMark (rmMark bs0 d) d1 = rmMark bs0 d1 := rm_twice R0.1 R0.2.1 hd64 hd164 hD
    have e2 : rmMark (rmMark bs0 d) (f / 4) = rmMark bs0 (f / 4) := rm_twice R0.1 R0.2.1 hd64 hf64 hD
    have e3 : (bs0.getD 0 0 / 16 = 4 → ¬ (bs0.getD 10 0 = 255 ∧ bs0.getD 11 0 = 255)) → rmMark bs0 (f / 4) = bs0 := fun h => by rw [hf]; exact rm_back R0.1 R0.2.1 hD h
    have M0 : Hid (∀ W, Row W a0 len0 bs0 → Calls Try.prog 41 #[.slice a0 len0 cap0, .int .i64 (d : Nat)] W fun e w' => ∃ A2 c2, e = .returned (.tuple #[.slice A2 len0 c2, .int .i64 0, .int .i64 0]) ∧ len0 ≤ c2 ∧ Row w' A2 len0 (rmMark bs0 d) ∧ Below W.heap.size W w') := fun W h => rmmark_good a0 len0 cap0 bs0 d W hn hl0 h hd64 hD
    have M1 : Hid (∀ W, Row W a0 len0 bs0 → Calls Try.prog 41 #[.slice a0 len0 cap0, .int .i64 (d1 : Nat)] W fun e w' => ∃ A2 c2, e = .returned (.tuple #[.slice A2 len0 c2, .int .i64 0, .int .i64 0]) ∧ len0 ≤ c2 ∧ Row w' A2 len0 (rmMark bs0 d1) ∧ Below W.heap.size W w') := fun W h => rmmark_good a0 len0 cap0 bs0 d1 W hn hl0 h hd164 hD
    have M2 : Hid (∀ W, Row W a0 len0 bs0 → Calls Try.prog 41 #[.slice a0 len0 cap0, .int .i64 (f / 4 : Nat)] W fun e w' => ∃ A2 c2, e = .returned (.tuple #[.slice A2 len0 c2, .int .i64 0, .int .i64 0]) ∧ len0 ≤ c2 ∧ Row w' A2 len0 (rmMark bs0 (f / 4)) ∧ Below W.heap.size W w') := fun W h => rmmark_good a0 len0 cap0 bs0 (f / 4) W hn hl0 h hf64 hD
    have N1 : Hid (∀ A c W, len0 ≤ c → Row W A len0 (rmMark bs0 d) → Calls Try.prog 41 #[.slice A len0 c, .int .i64 (d1 : Nat)] W fun e w' => ∃ A2 c2, e = .returned (.tuple #[.slice A2 len0 c2, .int .i64 0, .int .i64 0]) ∧ len0 ≤ c2 ∧ Row w' A2 len0 (rmMark bs0 d1) ∧ Below W.heap.size W w') := fun A c W hc h => by
      have h2 := rmmark_good A len0 c _ d1 W hn hc h hd164 m3
      rw [e1] at h2
      exact h2
    have N2 : Hid (∀ A c W, len0 ≤ c → Row W A len0 (rmMark bs0 d) → Calls Try.prog 41 #[.slice A len0 c, .int .i64 (f / 4 : Nat)] W fun e w' => ∃ A2 c2, e = .returned (.tuple #[.slice A2 len0 c2, .int .i64 0, .int .i64 0]) ∧ len0 ≤ c2 ∧ Row w' A2 len0 (rmMark bs0 (f / 4)) ∧ Below W.heap.size W w') := fun A c W hc h => by
      have h2 := rmmark_good A len0 c _ (f / 4) W hn hc h hf64 m3
      rw [e2] at h2
      exact h2
    have CP : Hid (∀ W, Row W a0 len0 bs0 → Calls Try.prog 16 #[.slice a0 len0 cap0] W fun e w' => e = .returned (.tuple #[.int .i64 (f / 4 : Nat), .int .i64 (f % 4 : Nat), .bool true]) ∧ Below W.heap.size W w') := fun W h => by
      have h2 := pkpoint_any a0 len0 cap0 bs0 W hn hl0 h
      unfold pkPoint at h2
      rw [if_pos hD, ← hf] at h2
      exact h2
    have CSB : Hid (∀ (A B : Option Addr) (c e : Nat) (L : List Nat) (W : World), len0 ≤ c → len0 ≤ e → Row W A len0 L → Row W B len0 L → Calls Try.prog 35 #[.slice A len0 c, .slice B len0 e] W fun e w' => e = .returned (.bool true) ∧ Below W.heap.size W w') := fun A B c e L W hc he h1 h2 => by
      have hL := h1.1
      exact same_vals _ _ L W (by rw [hL]; omega) ⟨A, c, by rw [hL], by rw [hL]; exact hc, by rw [hL]; exact h1⟩ ⟨B, e, by rw [hL], by rw [hL]; exact he, by rw [hL]; exact h2⟩
    obtain ⟨b, o, rfl, _, _⟩ := R0.addr (by omega)
    obtain ⟨x, hx⟩ : ∃ x, x = bs0.getD 0 0 := ⟨_, rfl⟩
    obtain ⟨x10, hx10⟩ : ∃ x, x = bs0.getD 10 0 := ⟨_, rfl⟩
    obtain ⟨x11, hx11⟩ : ∃ x, x = bs0.getD 11 0 := ⟨_, rfl⟩
    have b0 := getD_byte R0.2.1 0
    have b10 := getD_byte R0.2.1 10
    have b11 := getD_byte R0.2.1 11
    rw [← hx] at b0 e3
    rw [← hx10] at b10 e3
    rw [← hx11] at b11 e3
    have HCE : Hid (∀ (W : World), Row W (some ⟨b, o, none⟩) len0 bs0 → W.cell? ⟨b, o, none⟩ = some (.int .u8 (x : Nat)) ∧ W.cell? ⟨b, o + 10, none⟩ = some (.int .u8 (x10 : Nat)) ∧ W.cell? ⟨b, o + 11, none⟩ = some (.int .u8 (x11 : Nat))) := fun W h => by
      obtain ⟨b', o', e, _, hc⟩ := h.addr (by omega)
      cases e
      rw [hx, hx10, hx11]
      exact ⟨by have := hc 0 (by omega); rwa [Nat.add_zero] at this, hc 10 (by omega), hc 11 (by omega)⟩
    obtain ⟨q, hq⟩ : ∃ q, q = x / 16 := ⟨_, rfl⟩
    have x16 : (x : Int) / 16 = (q : Int) := by omega
    have q256 : (q : Int) % 256 = (q : Int) := by omega
    rw [← hq] at e3
    have k0 : (0 : Int) < (len0 : Int) := by omega
    have k10 : (10 : Int) < (len0 : Int) := by omega
    have k11 : (11 : Int) < (len0 : Int) := by omega
    have z20 : ¬ ((len0 : Int) < 20) := by omega
    have z20b : (20 : Int) ≤ (len0 : Int) := by omega
    have HL0 : Hid (len0 ≤ cap0) := hl0
    have HE3 := Lib.hid e3
    obtain ⟨S0, hS0⟩ : ∃ S, S = rmMark bs0 d := ⟨_, rfl⟩
    obtain ⟨S1, hS1⟩ : ∃ S, S = rmMark bs0 d1 := ⟨_, rfl⟩
    obtain ⟨S2, hS2⟩ : ∃ S, S = rmMark bs0 (f / 4) := ⟨_, rfl⟩
    obtain ⟨wd, hwd⟩ : ∃ v, v = f / 4 := ⟨_, rfl⟩
    rw [← hwd] at M2 N2 CP hS2 HE3
    rw [← hS0] at M0 N1 N2
    rw [← hS1] at M1 N1
    rw [← hS2] at M2 N2 HE3
    clear hS0 hS1 hS2 hx hx10 hx11 hq hwd hf hff hf64 e1 e2 e3 ok hD m1 m2 m3 m4 m5 m6 g20 gas gsn R0 hl0 hc0 hn1 hz1 p0 p0' p1 p1' hd hd1 hd64 hd164 b0 b10 b11 hn hg2 hA hB
    go_enter Try.func12, Try.ntmps12
    go_upto_region 1 with fail
    rw [← eV, ← HG2.out]
    clear eV
    go_wp2_with fail
    refine (M0.out _ (HR.out.below HB.out)).mono ?_
    rintro e w1 ⟨A1, cc1, rfl, hc1, r1, b1⟩
    have R1 := Lib.hid r1
    have C1 := Lib.hid hc1
    have c1 := ((HA.out.below b1).get 1)
    simp only [List.getElem?_cons_zero, List.getElem?_cons_succ] at c1
    have A1' := Lib.hid (HA.out.below b1)
    have B1 := Lib.hid (below_both HB.out b1)
    clear r1 hc1 b1 c0 HA HB M0 hrem0 hw64
    go_wp2_with fail
    refine (N1.out _ _ _ C1.out R1.out).mono ?_
    rintro e w2 ⟨A2, cc2, rfl, hc2, r2, b2⟩
    have R2 := Lib.hid r2
    have C2 := Lib.hid hc2
    have R1 := Lib.hid (R1.out.below b2)
    have c1 := ((A1'.out.below b2).get 1)
    simp only [List.getElem?_cons_zero, List.getElem?_cons_succ] at c1
    have B2 := Lib.hid (below_both B1.out b2)
    clear r2 hc2 b2 N1 B1 A1'
    go_wp2_with fail
    refine (M1.out _ (HR.out.below B2.out)).mono ?_
    rintro e w3 ⟨A3, cc3, rfl, hc3, r3, b3⟩
    have R3 := Lib.hid r3
    have C3 := Lib.hid hc3
    have R1 := Lib.hid (R1.out.below b3)
    have R2 := Lib.hid (R2.out.below b3)
    have B3 := Lib.hid (below_both B2.out b3)
    clear r3 hc3 b3 M1 B2 c1 hrem1 hw164
    go_wp2_with fail
    refine (CSB.out _ _ _ _ _ _ C2.out C3.out R2.out R3.out).mono ?_
    rintro e w4 ⟨rfl, b4⟩
    have R1 := Lib.hid (R1.out.below b4)
    have B4 := Lib.hid (below_both B3.out b4)
    clear b4 B3 R2 R3 C2 C3
    go_wp2_with fail
    refine (CP.out _ (HR.out.below B4.out)).mono ?_
    rintro e w5 ⟨rfl, b5⟩
    have R1 := Lib.hid (R1.out.below b5)
    have B5 := Lib.hid (below_both B4.out b5)
    clear b5 B4 CP
    go_wp2_with fail
    refine (N2.out _ _ _ C1.out R1.out).mono ?_
    rintro e w6 ⟨A6, cc6, rfl, hc6, r6, b6⟩
    have R6 := Lib.hid r6
    have C6 := Lib.hid hc6
    have B6 := Lib.hid (below_both B5.out b6)
    clear r6 hc6 b6 N2 B5 R1 C1
    go_wp2_with fail
    refine (M2.out _ (HR.out.below B6.out)).mono ?_
    rintro e w7 ⟨A7, cc7, rfl, hc7, r7, b7⟩
    have R7 := Lib.hid r7
    have C7 := Lib.hid hc7
    have R6 := Lib.hid (R6.out.below b7)
    have B7 := Lib.hid (below_both B6.out b7)
    clear r7 hc7 b7 M2 B6
    go_wp2_with fail
    refine (live16 _).mono ?_
    rintro e w8 ⟨rfl, b8⟩
    have R6 := Lib.hid (R6.out.below b8)
    have R7 := Lib.hid (R7.out.below b8)
    have B8 := Lib.hid (below_both B7.out b8)
    clear b8 B7
    go_wp2_with fail
    refine (CSB.out _ _ _ _ _ _ C6.out C7.out R6.out R7.out).mono ?_
    rintro e w9 ⟨rfl, b9⟩
    have R6 := Lib.hid (R6.out.below b9)
    have B9 := Lib.hid (below_both B8.out b9)
    have R9 := Lib.hid (HR.out.below B9.out)
    obtain ⟨c0, c10, c11⟩ := HCE.out _ R9.out
    clear b9 B8 R7 C7 HCE
    by_cases h4 : q = 4
    · subst h4
      by_cases h10 : x10 = 255
      · subst h10
        by_cases h11 : x11 = 255
        · subst h11
          clear HE3
          go_wp2_with fail
          go_ret
          exact ⟨rfl, B9.out⟩
        · have e := HE3.out (fun _ h => h11 h.2)
          have nb : ((x11 : Int) == 255) = false := beq_false_of_ne (by omega)
          rw [e] at R6
          clear HE3 h11
          go_wp2_with fail
          refine (CSB.out _ _ _ _ _ _ C6.out HL0.out R6.out R9.out).mono ?_
          rintro e w10 ⟨rfl, b10⟩
          have B10 := Lib.hid (below_both B9.out b10)
          clear b10
          go_wp2_with fail
          go_ret
          exact ⟨rfl, B10.out⟩
      · have e := HE3.out (fun _ h => h10 h.1)
        have nb : ((x10 : Int) == 255) = false := beq_false_of_ne (by omega)
        rw [e] at R6
        clear HE3 h10
        go_wp2_with fail
        refine (CSB.out _ _ _ _ _ _ C6.out HL0.out R6.out R9.out).mono ?_
        rintro e w10 ⟨rfl, b10⟩
        have B10 := Lib.hid (below_both B9.out b10)
        clear b10
        go_wp2_with fail
        go_ret
        exact ⟨rfl, B10.out⟩
    · have e := HE3.out (fun h => absurd h h4)
      have h4' : ¬ ((q : Int) = 4) := by omega
      have nb : ((q : Int) == 4) = false := beq_false_of_ne h4'
      have nb2 : decide ((q : Int) = 4) = false := decide_eq_false h4'
      rw [e] at R6
      clear HE3
      go_wp2_with fail
      refine (CSB.out _ _ _ _ _ _ C6.out HL0.out R6.out R9.out).mono ?_
      rintro e w10 ⟨rfl, b10⟩
      have B10 := Lib.hid (below_both B9.out b10)
      clear b10
      go_wp2_with fail
      go_ret
      exact ⟨rfl, B10.out⟩
  · have CM0 : Hid (∀ W, Row W a0 len0 bs0 → Calls Try.prog 41 #[.slice a0 len0 cap0, .int .i64 (d : Nat)] W fun e w' => ∃ v, e = .returned (.tuple #[v, .int .i64 (pkTold len0 bs0 : Nat), .int .i64 0]) ∧ Below W.heap.size W w') := fun W h => (rmmark_any a0 len0 cap0 bs0 (d : Int) W hn hl0 h).mono fun e w' hh => by
      obtain ⟨v, rfl, ho, hb⟩ := hh
      have hres : rmRes len0 bs0 (d : Int) = (pkTold len0 bs0, 0) := by unfold rmRes; rw [if_pos (by omega)]
      rw [hres]
      exact ⟨v, rfl, hb⟩
    have hne : pkTold len0 bs0 ≠ 0 := fun h => hD (pkTold_zero.1 h)
    obtain ⟨t, ht⟩ : ∃ d, d = pkTold len0 bs0 := ⟨_, rfl⟩
    rw [← ht] at CM0 hne
    have db : ((t : Int) != 0) = true := bne_iff_ne.2 (by omega)
    clear ht hD hne R0 hl0 hc0 hn1 hz1 p0 p0' p1 p1' hd hd1 hd64 hd164 hn hg2 hA hB
    go_enter Try.func12, Try.ntmps12
    go_upto_region 1 with fail
    rw [← eV, ← HG2.out]
    clear eV
    go_wp2_with fail
    refine (CM0.out _ (HR.out.below HB.out)).mono ?_
    rintro e w1 ⟨v, rfl, b1⟩
    have B1 := Lib.hid (below_both HB.out b1)
    clear b1 CM0 c0 c1
    go_wp2_with fail
    refine (live16 _).mono ?_
    rintro e w3 ⟨rfl, b3⟩
    have B3 := Lib.hid (below_both B1.out b3)
    clear b3 B1
    go_wp2_with fail
    go_ret
    exact ⟨rfl, B3.out⟩
end Go.Proofs.Ytjpaicdbnadoeaa
