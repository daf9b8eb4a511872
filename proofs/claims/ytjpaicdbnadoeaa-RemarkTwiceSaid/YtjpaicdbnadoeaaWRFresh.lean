/-
  The walk of the statement RemarkFresh.
-/
import Derived.Test.YtjpaicdbnadoeaaRm3
namespace Go.Proofs.Ytjpaicdbnadoeaa
open Go.RowKit
set_option linter.unusedVariables false
set_option maxRecDepth 8000

theorem rm_rem {n : Nat} (h : n ≤ 255) : IntKind.u8.wrap (Int.tmod (n : Int) 64) = ((n % 64 : Nat) : Int) := by
  rw [Int.tmod_eq_emod_of_nonneg (by omega)]
  show ((n : Int) % 64) % 256 = _
  omega
theorem rm_front4 {bs : List Nat} {n d : Nat} (hl : bs.length = n) (hb : ∀ x ∈ bs, x < 256) (hd : d < 64) (h : pkDefs n bs = []) (h4 : bs.getD 0 0 / 16 = 4) :
    20 ≤ 4 * ((rmMark bs d).getD 0 0 % 16) ∧ 4 * ((rmMark bs d).getD 0 0 % 16) ≤ n ∧ (rmMark bs d).getD 0 0 / 16 = 4 ∧ filled ((rmMark bs d).take (4 * ((rmMark bs d).getD 0 0 % 16))) 10 = (rmMark bs d).take (4 * ((rmMark bs d).getD 0 0 % 16)) ∧ orest (wsum 0 ((rmMark bs d).take (4 * ((rmMark bs d).getD 0 0 % 16)))) = 65535 ∧ ((rmMark bs d).getD 10 0 ≠ 255 ∨ (rmMark bs d).getD 11 0 ≠ 255) := by
  have hh := pkHeads_nil h
  rcases pk_four_of hh with ⟨_, ha, hr⟩ | ⟨h6, _, _⟩
  · obtain ⟨d0, h20, m20, hmt, htn⟩ := fhall_nil ha
    have b1 := getD_byte hb 1
    have e1 : rmMark bs d = fhseal (bs.set 1 (d * 4 + bs.getD 1 0 % 4)) (4 * (bs.getD 0 0 % 16)) := by unfold rmMark rm4; rw [if_pos h4]
    have M := marked4_is hl hb m20 (by omega) (show d * 4 + bs.getD 1 0 % 4 < 256 by omega)
    rw [← e1] at M
    obtain ⟨S, hS⟩ : ∃ S, S = rmMark bs d := ⟨_, rfl⟩
    rw [← hS] at M ⊢
    have g0 := M.same 0 (by decide) (by decide) (by decide)
    rw [g0]
    obtain ⟨m, hm⟩ : ∃ m, m = 4 * (bs.getD 0 0 % 16) := ⟨_, rfl⟩
    rw [← hm] at M m20 hmt ⊢
    have hlt : ((bs.set 1 (d * 4 + bs.getD 1 0 % 4)).take m).length = m := by rw [List.length_take, List.length_set]; omega
    have hbt : ∀ x ∈ (bs.set 1 (d * 4 + bs.getD 1 0 % 4)).take m, x < 256 := fun x hx => by
      rcases List.mem_or_eq_of_mem_set (List.mem_of_mem_take hx) with h | h
      · exact hb x h
      · omega
    have hf0 : ((bs.set 1 (d * 4 + bs.getD 1 0 % 4)).take m).getD 0 0 ≠ 0 := by
      rw [getD_take (by omega), fhput_getD _ _ _ (by omega), if_neg (by decide)]
      omega
    have hnf := rm_filled_not (f := 10) (by decide) (by rw [hlt]; omega) (by decide) hf0
    refine ⟨m20, by omega, h4, by rw [M.front, rm_filled_twice _ hbt 10 (by decide) (by rw [hlt]; omega)], M.good, ?_⟩
    rw [← M.front] at hnf
    unfold fhw at hnf
    rw [getD_take (by omega), getD_take (by omega)] at hnf
    have hnf : ¬ (S.getD 10 0 * 256 + S.getD 11 0 = 65535) := hnf
    omega
  · omega
theorem fr_ints {y m n : Nat} (hm : m = 4 * y) (hy : y < 16) (h2 : m ≤ n) : wrap64 (y : Int) = (y : Int) ∧ wrap64 (4 * (y : Int)) = (m : Int) ∧ ¬ ((n : Int) < (m : Int)) ∧ (0 : Int) ≤ (m : Int) ∧ 4 * (y : Int) = (m : Int) :=
  ⟨by unfold wrap64; omega, by unfold wrap64; omega, by omega, by omega, by omega⟩
set_option maxRecDepth 10000 in
set_option maxHeartbeats 6400000 in
theorem walk_RemarkFresh (a0 : Option Addr) (len0 cap0 : Nat) (bs0 : List Nat) (n1 : Nat) (w : World) (R0 : Row w a0 len0 bs0) (hl0 : len0 ≤ cap0) (hc0 : cap0 ≤ 140737488351232) (hi1 : n1 ≤ 255) :
    Calls Try.prog 11 #[.slice a0 len0 cap0, .int .u8 n1] w fun e w' => e = .returned (.bool true) ∧ Below w.heap.size w w' := by
  have hn : len0 ≤ 140737488351232 := by omega
  have hrem : (n1 : Int) % 64 = ((n1 % 64 : Nat) : Int) := by omega
  obtain ⟨d, hd⟩ : ∃ d, d = n1 % 64 := ⟨_, rfl⟩
  rw [← hd] at hrem
  have hd64 : d < 64 := by omega
  have hw64 : wrap64 (d : Int) = (d : Int) := by unfold wrap64; omega
  have CM0 := Lib.hid (rmmark_any a0 len0 cap0 bs0 (d : Int) w hn hl0 R0)
  have hres : rmRes len0 bs0 (d : Int) = (pkTold len0 bs0, 0) := by unfold rmRes; rw [if_pos (by omega)]
  have hout : rmOut len0 bs0 (d : Int) = if pkDefs len0 bs0 = [] then rmMark bs0 d else [] := by unfold rmOut; rw [if_pos (by omega), Int.toNat_natCast]
  rw [hres, hout] at CM0
  by_cases hD : pkDefs len0 bs0 = []
  · obtain ⟨m1, m2, m3, m4, m5, m6⟩ := rm_rec R0.1 R0.2.1 hd64 hD
    obtain ⟨_, g20, gas, gsn, _, _⟩ := pk_good R0.1 R0.2.1 (pkHeads_nil hD)
    rw [if_pos hD, pkTold_nil hD] at CM0
    have CM : Hid (Calls Try.prog 41 #[.slice a0 len0 cap0, .int .i64 (d : Nat)] w fun e w' => ∃ b o c, e = .returned (.tuple #[.slice (some ⟨b, o, none⟩) len0 c, .int .i64 0, .int .i64 0]) ∧ len0 ≤ c ∧ Row w' (some ⟨b, o, none⟩) len0 (rmMark bs0 d) ∧ Below w.heap.size w w') := CM0.out.mono fun e w' h => by
      obtain ⟨v, rfl, ho, hb⟩ := h
      obtain ⟨A, c, rfl, h1, _, h3⟩ := ho.out m2
      rw [m1] at h1 h3 ⊢
      obtain ⟨b, o, rfl, _, _⟩ := h3.addr (by omega)
      exact ⟨b, o, c, rfl, h1, h3, hb⟩
    have hz1 : (20 : Int) ≤ (len0 : Int) := by omega
    obtain ⟨S, hS⟩ : ∃ S, S = rmMark bs0 d := ⟨_, rfl⟩
    rw [← hS] at CM m1 m2 m6
    have s0 := getD_byte m2 0
    by_cases h4 : bs0.getD 0 0 / 16 = 4
    · have hF := rm_front4 R0.1 R0.2.1 hd64 hD h4
      rw [← hS] at hF
      obtain ⟨f1, f2, f3, f4, f5, f6⟩ := hF
      obtain ⟨x, hx⟩ : ∃ x, x = S.getD 0 0 := ⟨_, rfl⟩
      obtain ⟨m, hm⟩ : ∃ m, m = 4 * (S.getD 0 0 % 16) := ⟨_, rfl⟩
      rw [← hm] at f1 f2 f4 f5
      have CF : Hid (∀ (b o c : Nat) (W : World), len0 ≤ c → Row W (some ⟨b, o, none⟩) len0 S → Calls Try.prog 44 #[.slice (some ⟨b, o, none⟩) m c, .int .i64 10] W (TwoTo W (S.take m) 0)) := fun b o c W hc h => by
        have hp := h.part 0 m (by omega)
        rw [List.drop_zero, Nat.add_zero] at hp
        have h2 := ofill_ok (some ⟨b, o, none⟩) m c 10 (S.take m) W (by omega) (by omega) (by decide) (by omega) hp
        rw [f4] at h2
        exact h2
      unfold TwoTo at CF
      have CG : Hid (∀ (b o c : Nat) (W : World), Row W (some ⟨b, o, none⟩) len0 S → Calls Try.prog 45 #[.slice (some ⟨b, o, none⟩) m c] W fun e w' => e = .returned (.bool true) ∧ Below W.heap.size W w') := fun b o c W h => by
        have hp := h.part 0 m (by omega)
        rw [List.drop_zero, Nat.add_zero] at hp
        exact ogood_any (some ⟨b, o, none⟩) m c (S.take m) true W (by omega) hp (by show _ = _; rw [decide_eq_true f5])
      have CSB : Hid (∀ (v : Value) (b o c : Nat) (W : World), len0 ≤ c → ByteVal W v (S.take m) → Row W (some ⟨b, o, none⟩) len0 S → Calls Try.prog 35 #[v, .slice (some ⟨b, o, none⟩) m c] W fun e w' => e = .returned (.bool true) ∧ Below W.heap.size W w') := fun v b o c W hc hv h => by
        have hp := h.part 0 m (by omega)
        rw [List.drop_zero, Nat.add_zero] at hp
        have hlt : (S.take m).length = m := by rw [List.length_take]; omega
        exact same_vals v _ (S.take m) W (by rw [hlt]; omega) hv ⟨some ⟨b, o, none⟩, c, by rw [hlt], by rw [hlt]; omega, by rw [hlt]; exact hp⟩
      obtain ⟨y, hy⟩ : ∃ y, y = x % 16 := ⟨_, rfl⟩
      have x16 : (x : Int) / 16 = 4 := by omega
      have y16 : (x : Int) % 16 = (y : Int) := by omega
      rw [← hx, ← hy] at hm
      obtain ⟨wy, wm, mI, m0, h4m⟩ := fr_ints hm (by rw [hy]; exact Nat.mod_lt _ (by decide)) f2
      have HMC : Hid (∀ c : Nat, len0 ≤ c → (m : Int) ≤ (c : Int)) := fun c hc => Int.ofNat_le.2 (Nat.le_trans f2 hc)
      obtain ⟨x10, hx10⟩ : ∃ x, x = S.getD 10 0 := ⟨_, rfl⟩
      obtain ⟨x11, hx11⟩ : ∃ x, x = S.getD 11 0 := ⟨_, rfl⟩
      have b10 := getD_byte m2 10
      have b11 := getD_byte m2 11
      rw [← hx10] at f6 b10
      rw [← hx11] at f6 b11
      have HCE : Hid (∀ (b o : Nat) (W : World), Row W (some ⟨b, o, none⟩) len0 S → W.cell? ⟨b, o, none⟩ = some (.int .u8 (x : Nat)) ∧ W.cell? ⟨b, o + 10, none⟩ = some (.int .u8 (x10 : Nat)) ∧ W.cell? ⟨b, o + 11, none⟩ = some (.int .u8 (x11 : Nat))) := fun b o W h => by
        obtain ⟨b', o', e, _, hc⟩ := h.addr (by omega)
        cases e
        rw [hx, hx10, hx11]
        exact ⟨by have := hc 0 (by omega); rwa [Nat.add_zero] at this, hc 10 (by omega), hc 11 (by omega)⟩
      have k0 : (0 : Int) < (len0 : Int) := by omega
      have k10 : (10 : Int) < (len0 : Int) := by omega
      have k11 : (11 : Int) < (len0 : Int) := by omega
      have HF6 := Lib.hid f6
      have HR := Lib.hid R0
      clear hS hx hm hy hx10 hx11 hd hd64 hres hout CM0 hD m1 m2 m3 m4 m5 m6 g20 gas gsn R0 hl0 hc0 hi1 f1 f2 f3 f4 f5 f6 s0 h4 hn b10 b11 HR
      go_enter Try.func11, Try.ntmps11
      go_wp2_with fail
      refine CM.out.mono ?_
      rintro e w1 ⟨b, o, c, rfl, hc, r1, b1⟩
      obtain ⟨c0, c10, c11⟩ := HCE.out b o w1 r1
      have mc := HMC.out c hc
      have R1 := Lib.hid r1
      have B1 := Lib.hid b1
      have HC := Lib.hid hc
      clear r1 b1 hc CM
      go_wp2_with fail
      refine (CF.out _ _ _ _ HC.out R1.out).mono ?_
      rintro e w2 ⟨v, rfl, hv, b2⟩
      have V2 := Lib.hid hv
      have R2 := Lib.hid (R1.out.below b2)
      have B2 := Lib.hid (below_both B1.out b2)
      clear hv b2 R1 B1 c0 c10 c11 CF
      go_wp2_with fail
      refine (live16 _).mono ?_
      rintro e w3 ⟨rfl, b3⟩
      have V3 := Lib.hid (V2.out.below b3)
      have R3 := Lib.hid (R2.out.below b3)
      have B3 := Lib.hid (below_both B2.out b3)
      clear b3 V2 R2 B2
      go_wp2_with fail
      refine (CSB.out _ _ _ _ _ HC.out V3.out R3.out).mono ?_
      rintro e w4 ⟨rfl, b4⟩
      have R4 := Lib.hid (R3.out.below b4)
      have B4 := Lib.hid (below_both B3.out b4)
      clear b4 V3 R3 B3 CSB
      go_wp2_with fail
      refine (CG.out _ _ _ _ R4.out).mono ?_
      rintro e w5 ⟨rfl, b5⟩
      obtain ⟨c0, c10, c11⟩ := HCE.out b o w5 (R4.out.below b5)
      have B5 := Lib.hid (below_both B4.out b5)
      clear b5 R4 B4 CG HCE
      by_cases h10 : x10 = 255
      · have h11 : x11 ≠ 255 := by rcases HF6.out with h | h; exact absurd h10 h; exact h
        subst h10
        have nb : ((x11 : Int) != 255) = true := bne_iff_ne.2 (by omega)
        clear HF6 h11
        go_wp2_with fail
        go_ret
        exact ⟨rfl, B5.out⟩
      · have nb : ((x10 : Int) != 255) = true := bne_iff_ne.2 (by omega)
        clear HF6 h10
        go_wp2_with fail
        go_ret
        exact ⟨rfl, B5.out⟩
    · have h6 : bs0.getD 0 0 / 16 = 6 := by
        rcases pk_four_of (pkHeads_nil hD) with ⟨h, _⟩ | ⟨h, _⟩
        · exact absurd h h4
        · exact h
      obtain ⟨x, hx⟩ : ∃ x, x = S.getD 0 0 := ⟨_, rfl⟩
      have x16 : (x : Int) / 16 = 6 := by omega
      have HCE : Hid (∀ (b o : Nat) (W : World), Row W (some ⟨b, o, none⟩) len0 S → W.cell? ⟨b, o, none⟩ = some (.int .u8 (x : Nat))) := fun b o W h => by
        obtain ⟨b', o', e, _, hc⟩ := h.addr (by omega)
        cases e
        rw [hx]
        have := hc 0 (by omega)
        rwa [Nat.add_zero] at this
      have k0 : (0 : Int) < (len0 : Int) := by omega
      clear hS hx hd hd64 hres hout CM0 hD m1 m2 m3 m4 m5 m6 g20 gas gsn R0 hl0 hc0 hi1 s0 h4 h6 hn
      go_enter Try.func11, Try.ntmps11
      go_wp2_with fail
      refine CM.out.mono ?_
      rintro e w1 ⟨b, o, c, rfl, hc, r1, b1⟩
      have c0 := HCE.out b o w1 r1
      have B1 := Lib.hid b1
      clear r1 b1 hc CM HCE
      go_wp2_with fail
      refine (live16 _).mono ?_
      rintro e w3 ⟨rfl, b3⟩
      have B3 := Lib.hid (below_both B1.out b3)
      clear b3 B1 c0
      go_wp2_with fail
      go_ret
      exact ⟨rfl, B3.out⟩
  · rw [if_neg hD] at CM0
    have hne : pkTold len0 bs0 ≠ 0 := fun h => hD (pkTold_zero.1 h)
    obtain ⟨t, ht⟩ : ∃ d, d = pkTold len0 bs0 := ⟨_, rfl⟩
    rw [← ht] at CM0 hne
    have db : ((t : Int) != 0) = true := bne_iff_ne.2 (by omega)
    have db2 : ((t : Int) == 0) = false := beq_false_of_ne (by omega)
    clear ht hD hne hres hout hd hd64 R0 hl0 hc0 hi1 hn
    go_enter Try.func11, Try.ntmps11
    go_wp2_with fail
    refine CM0.out.mono ?_
    rintro e w1 ⟨v, rfl, ho, b1⟩
    have B1 := Lib.hid b1
    clear ho b1 CM0
    go_wp2_with fail
    refine (live16 _).mono ?_
    rintro e w3 ⟨rfl, b3⟩
    have B3 := Lib.hid (below_both B1.out b3)
    clear b3 B1
    go_wp2_with fail
    go_ret
    exact ⟨rfl, B3.out⟩
end Go.Proofs.Ytjpaicdbnadoeaa
