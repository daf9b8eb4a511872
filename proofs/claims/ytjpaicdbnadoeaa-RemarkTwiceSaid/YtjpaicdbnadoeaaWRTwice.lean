/-
  The walk of the statement RemarkTwice.
-/
import Derived.Test.YtjpaicdbnadoeaaWRFresh
import Derived.Test.YtjpaicdbnadoeaaLift
namespace Go.Proofs.Ytjpaicdbnadoeaa
open Go.RowKit
set_option linter.unusedVariables false
set_option maxRecDepth 8000

theorem rmmark_good (A : Option Addr) (n c : Nat) (bs : List Nat) (d : Nat) (w : World) (hn2 : n ≤ 140737488351232) (hc : n ≤ c) (hR : Row w A n bs) (hd : d < 64) (hD : pkDefs n bs = []) :
    Calls Try.prog 41 #[.slice A n c, .int .i64 (d : Nat)] w fun e w' => ∃ A2 c2, e = .returned (.tuple #[.slice A2 n c2, .int .i64 0, .int .i64 0]) ∧ n ≤ c2 ∧ Row w' A2 n (rmMark bs d) ∧ Below w.heap.size w w' := by
  obtain ⟨m1, m2, _⟩ := rm_rec hR.1 hR.2.1 hd hD
  refine (rmmark_any A n c bs (d : Int) w hn2 hc hR).mono ?_
  rintro e w' ⟨v, rfl, ho, hb⟩
  have hres : rmRes n bs (d : Int) = (0, 0) := by unfold rmRes; rw [if_pos (by omega), pkTold_nil hD]
  have hout : rmOut n bs (d : Int) = rmMark bs d := by unfold rmOut; rw [if_pos (by omega), if_pos hD, Int.toNat_natCast]
  rw [hres]
  rw [hout] at ho
  obtain ⟨A2, c2, rfl, h1, _, h3⟩ := ho.out m2
  rw [m1] at h1 h3 ⊢
  exact ⟨A2, c2, rfl, h1, h3, hb⟩
set_option maxRecDepth 10000 in
set_option maxHeartbeats 6400000 in
theorem walk_RemarkTwice (a0 : Option Addr) (len0 cap0 : Nat) (bs0 : List Nat) (zs1 : List Int) (w : World) (R0 : Row w a0 len0 bs0) (hl0 : len0 ≤ cap0) (hc0 : cap0 ≤ 140737488351232) (hn1 : zs1.length = 2) (hz1 : ∀ z ∈ zs1, (Lit.int .u8 z).wf = true) :
    Calls Try.prog 12 #[.slice a0 len0 cap0, .agg (zs1.map (Value.int .u8)).toArray] w fun e w' => e = .returned (.bool true) ∧ Below w.heap.size w w' := by
  obtain ⟨y0, y1, rfl⟩ : ∃ a b, zs1 = [a, b] := by
    match zs1, hn1 with
    | [a, b], _ => exact ⟨a, b, rfl⟩
  obtain ⟨p0, p0'⟩ := wf_u8 (hz1 y0 (by simp))
  obtain ⟨p1, p1'⟩ := wf_u8 (hz1 y1 (by simp))
  obtain ⟨z0, rfl⟩ : ∃ z : Nat, y0 = z := ⟨y0.toNat, by omega⟩
  obtain ⟨z1, rfl⟩ : ∃ z : Nat, y1 = z := ⟨y1.toNat, by omega⟩
  have hn : len0 ≤ 140737488351232 := by omega
  have hrem0 : (z0 : Int) % 64 = ((z0 % 64 : Nat) : Int) := by omega
  have hrem1 : (z1 : Int) % 64 = ((z1 % 64 : Nat) : Int) := by omega
  obtain ⟨d, hd⟩ : ∃ d, d = z0 % 64 := ⟨_, rfl⟩
  obtain ⟨d1, hd1⟩ : ∃ d, d = z1 % 64 := ⟨_, rfl⟩
  rw [← hd] at hrem0
  rw [← hd1] at hrem1
  have hd64 : d < 64 := by omega
  have hd164 : d1 < 64 := by omega
  have hw64 : wrap64 (d : Int) = (d : Int) := by unfold wrap64; omega
  have hw164 : wrap64 (d1 : Int) = (d1 : Int) := by unfold wrap64; omega
  simp only [List.map_cons, List.map_nil]
  obtain ⟨V, eV⟩ : ∃ V, V = w.alloc (.cells #[.int .u8 (z0 : Int), .int .u8 (z1 : Int)] 78) := ⟨_, rfl⟩
  have hA : ArrV 78 V w.heap.size [.int .u8 (z0 : Int), .int .u8 (z1 : Int)] := by rw [eV]; exact ArrV.new _ w _
  have hB : Below w.heap.size w V := by rw [eV]; exact (Below.refl _ _).alloc (Nat.le_refl _) _
  have HA := Lib.hid hA
  have HB := Lib.hid hB
  obtain ⟨g2, hg2⟩ : ∃ g, g = w.heap.size := ⟨_, rfl⟩
  have HG2 := Lib.hid hg2
  have c0 := hA.get 0
  have c1 := hA.get 1
  simp only [List.getElem?_cons_zero, List.getElem?_cons_succ] at c0 c1
  rw [← hg2] at c0 c1 HA
  have HR := Lib.hid R0
  by_cases hD : pkDefs len0 bs0 = []
  · obtain ⟨m1, m2, m3, m4, m5, m6⟩ := rm_rec R0.1 R0.2.1 hd64 hD
    obtain ⟨_, g20, gas, gsn, _, _⟩ := pk_good R0.1 R0.2.1 (pkHeads_nil hD)
    have ok := pkRec_ok R0.1 R0.2.1 (pkHeads_nil hD)
    obtain ⟨f, hf⟩ : ∃ f, f = (pkRec bs0).field := ⟨_, rfl⟩
    have hff := ok.field
    rw [← hf] at hff
    have hf64 : f / 4 < 64 := by omega
    have e1 : rmMark (rmMark bs0 d) d1 = rmMark bs0 d1 := rm_twice R0.1 R0.2.1 hd64 hd164 hD
    have e2 : rmMark (rmMark bs0 d) (f / 4) = rmMark bs0 (f / 4) := rm_twice R0.1 R0.2.1 hd64 hf64 hD
    have e3 : (bs0.getD 0 0 / 16 = 4 → ¬ (bs0.getD 10 0 = 255 ∧ bs0.getD 11 0 = 255)) → rmMark bs0 (f / 4) = bs0 := fun h => by rw [hf]; exact rm_back R0.1 R0.2.1 hD h
    have M0 : Hid (∀ W, Row W a0 len0 bs0 → Calls Try.prog 41 #[.slice a0 len0 cap0, .int .i64 (d : Nat)] W fun e w' => ∃ A2 c2, e = .returned (.tuple #[.slice A2 len0 c2, .int .i64 0, .int .i64 0]) ∧ len0 ≤ c2 ∧ Row w' A2 len0 (rmMark bs0 d) ∧ Below W.heap.size W w') := fun W h => rmmark_good a0 len0 cap0 bs0 d W hn hl0 h hd64 hD
    have M1 : Hid (∀ W, Row W a0 len0 bs0 → Calls Try.prog 41 #[.slice a0 len0 cap0, .int .i64 (d1 : Nat)] W fun e w' => ∃ A2 c2, e = .returned (.tuple #[.slice A2 len0 c2, .int .i64 0, .int .i64 0]) ∧ len0 ≤ c2 ∧ Row w' A2 len0 (rmMark bs0 d1) ∧ Below W.heap.size W w') := fun W h => rmmark_good a0 len0 cap0 bs0 d1 W hn hl0 h hd164 hD
    have M2 : Hid (∀ W, Row W a0 len0 bs0 → Calls Try.prog 41 #[.slice a0 len0 cap0, .int .i64 (f / 4 : Nat)] W fun e w' => ∃ A2 c2, e = .returned (.tuple #[.slice A2 len0 c2, .int .i64 0, .int .i64 0]) ∧ len0 ≤ c2 ∧ Row w' A2 len0 (rmMark bs0 (f / 4)) ∧ Below W.heap.size W w') := fun W h => rmmark_good a0 len0 cap0 bs0 (f / 4) W hn hl0 h hf64 hD
    have N1 : Hid (∀ A c W, len0 ≤ c → Row W A len0 (rmMark bs0 d) → Calls Try.prog 41 #[.slice A len0 c, .int .i64 (d1 : Nat)] W fun e w' => ∃ A2 c2, e = .returned (.tuple #[.slice A2 len0 c2, .int .i64 0, .int .i64 0]) ∧ len0 ≤ c2 ∧ Row w' A2 len0 (rmMark bs0 d1) ∧ Below W.heap.size W w') := fun A c W hc h => by
      have h2 := rmmark_good A len0 c _ d1 W hn hc h hd164 m3
      rw [e1] at h2
      exact h2
    have N2 : Hid (∀ A c W, len0 ≤ c → Row W A len0 (rmMark bs0 d) → Calls Try.prog 41 #[.slice A len0 c, .int .i64 (f / 4 : Nat)] W fun e w' => ∃ A2 c2, e = .returned (.tuple #[.slice A2 len0 c2, .int .i64 0, .int .i64 0]) ∧ len0 ≤ c2 ∧ Row w' A2 len0 (rmMark bs0 (f / 4)) ∧ Below W.heap.size W w') := fun A c W hc h => by
      have h2 := rmmark_good A len0 c _ (f / 4) W hn hc h hf64 m3
      rw [e2] at h2
      exact h2
    have CP : Hid (∀ W, Row W a0 len0 bs0 → Calls Try.prog 16 #[.slice a0 len0 cap0] W fun e w' => e = .returned (.tuple #[.int .i64 (f / 4 : Nat), .int .i64 (f % 4 : Nat), .bool true]) ∧ Below W.heap.size W w') := fun W h => by
      have h2 := pkpoint_any a0 len0 cap0 bs0 W hn hl0 h
      unfold pkPoint at h2
      rw [if_pos hD, ← hf] at h2
      exact h2
    have CSB : Hid (∀ (A B : Option Addr) (c e : Nat) (L : List Nat) (W : World), len0 ≤ c → len0 ≤ e → Row W A len0 L → Row W B len0 L → Calls Try.prog 35 #[.slice A len0 c, .slice B len0 e] W fun e w' => e = .returned (.bool true) ∧ Below W.heap.size W w') := fun A B c e L W hc he h1 h2 => by
      have hL := h1.1
      exact same_vals _ _ L W (by rw [hL]; omega) ⟨A, c, by rw [hL], by rw [hL]; exact hc, by rw [hL]; exact h1⟩ ⟨B, e, by rw [hL], by rw [hL]; exact he, by rw [hL]; exact h2⟩
    obtain ⟨b, o, rfl, _, _⟩ := R0.addr (by omega)
    obtain ⟨x, hx⟩ : ∃ x, x = bs0.getD 0 0 := ⟨_, rfl⟩
    obtain ⟨x10, hx10⟩ : ∃ x, x = bs0.getD 10 0 := ⟨_, rfl⟩
    obtain ⟨x11, hx11⟩ : ∃ x, x = bs0.getD 11 0 := ⟨_, rfl⟩
    have b0 := getD_byte R0.2.1 0
    have b10 := getD_byte R0.2.1 10
    have b11 := getD_byte R0.2.1 11
    rw [← hx] at b0 e3
    rw [← hx10] at b10 e3
    rw [← hx11] at b11 e3
    have HCE : Hid (∀ (W : World), Row W (some ⟨b, o, none⟩) len0 bs0 → W.cell? ⟨b, o, none⟩ = some (.int .u8 (x : Nat)) ∧ W.cell? ⟨b, o + 10, none⟩ = some (.int .u8 (x10 : Nat)) ∧ W.cell? ⟨b, o + 11, none⟩ = some (.int .u8 (x11 : Nat))) := fun W h => by
      obtain ⟨b', o', e, _, hc⟩ := h.addr (by omega)
      cases e
      rw [hx, hx10, hx11]
      exact ⟨by have := hc 0 (by omega); rwa [Nat.add_zero] at this, hc 10 (by omega), hc 11 (by omega)⟩
    obtain ⟨q, hq⟩ : ∃ q, q = x / 16 := ⟨_, rfl⟩
    have x16 : (x : Int) / 16 = (q : Int) := by omega
    have q256 : (q : Int) % 256 = (q : Int) := by omega
    rw [← hq] at e3
    have k0 : (0 : Int) < (len0 : Int) := by omega
    have k10 : (10 : Int) < (len0 : Int) := by omega
    have k11 : (11 : Int) < (len0 : Int) := by omega
    have z20 : ¬ ((len0 : Int) < 20) := by omega
    have z20b : (20 : Int) ≤ (len0 : Int) := by omega
    have HL0 : Hid (len0 ≤ cap0) := hl0
    have HE3 := Lib.hid e3
    obtain ⟨S0, hS0⟩ : ∃ S, S = rmMark bs0 d := ⟨_, rfl⟩
    obtain ⟨S1, hS1⟩ : ∃ S, S = rmMark bs0 d1 := ⟨_, rfl⟩
    obtain ⟨S2, hS2⟩ : ∃ S, S = rmMark bs0 (f / 4) := ⟨_, rfl⟩
    obtain ⟨wd, hwd⟩ : ∃ v, v = f / 4 := ⟨_, rfl⟩
    rw [← hwd] at M2 N2 CP hS2 HE3
    rw [← hS0] at M0 N1 N2
    rw [← hS1] at M1 N1
    rw [← hS2] at M2 N2 HE3
    clear hS0 hS1 hS2 hx hx10 hx11 hq hwd hf hff hf64 e1 e2 e3 ok hD m1 m2 m3 m4 m5 m6 g20 gas gsn R0 hl0 hc0 hn1 hz1 p0 p0' p1 p1' hd hd1 hd64 hd164 b0 b10 b11 hn hg2 hA hB
    go_enter Try.func12, Try.ntmps12
    go_upto_region 1 with fail
    rw [← eV, ← HG2.out]
    clear eV
    go_wp2_with fail
    refine (M0.out _ (HR.out.below HB.out)).mono ?_
    rintro e w1 ⟨A1, cc1, rfl, hc1, r1, b1⟩
    have R1 := Lib.hid r1
    have C1 := Lib.hid hc1
    have c1 := ((HA.out.below b1).get 1)
    simp only [List.getElem?_cons_zero, List.getElem?_cons_succ] at c1
    have A1' := Lib.hid (HA.out.below b1)
    have B1 := Lib.hid (below_both HB.out b1)
    clear r1 hc1 b1 c0 HA HB M0 hrem0 hw64
    go_wp2_with fail
    refine (N1.out _ _ _ C1.out R1.out).mono ?_
    rintro e w2 ⟨A2, cc2, rfl, hc2, r2, b2⟩
    have R2 := Lib.hid r2
    have C2 := Lib.hid hc2
    have R1 := Lib.hid (R1.out.below b2)
    have c1 := ((A1'.out.below b2).get 1)
    simp only [List.getElem?_cons_zero, List.getElem?_cons_succ] at c1
    have B2 := Lib.hid (below_both B1.out b2)
    clear r2 hc2 b2 N1 B1 A1'
    go_wp2_with fail
    refine (M1.out _ (HR.out.below B2.out)).mono ?_
    rintro e w3 ⟨A3, cc3, rfl, hc3, r3, b3⟩
    have R3 := Lib.hid r3
    have C3 := Lib.hid hc3
    have R1 := Lib.hid (R1.out.below b3)
    have R2 := Lib.hid (R2.out.below b3)
    have B3 := Lib.hid (below_both B2.out b3)
    clear r3 hc3 b3 M1 B2 c1 hrem1 hw164
    go_wp2_with fail
    refine (CSB.out _ _ _ _ _ _ C2.out C3.out R2.out R3.out).mono ?_
    rintro e w4 ⟨rfl, b4⟩
    have R1 := Lib.hid (R1.out.below b4)
    have B4 := Lib.hid (below_both B3.out b4)
    clear b4 B3 R2 R3 C2 C3
    go_wp2_with fail
    refine (CP.out _ (HR.out.below B4.out)).mono ?_
    rintro e w5 ⟨rfl, b5⟩
    have R1 := Lib.hid (R1.out.below b5)
    have B5 := Lib.hid (below_both B4.out b5)
    clear b5 B4 CP
    go_wp2_with fail
    refine (N2.out _ _ _ C1.out R1.out).mono ?_
    rintro e w6 ⟨A6, cc6, rfl, hc6, r6, b6⟩
    have R6 := Lib.hid r6
    have C6 := Lib.hid hc6
    have B6 := Lib.hid (below_both B5.out b6)
    clear r6 hc6 b6 N2 B5 R1 C1
    go_wp2_with fail
    refine (M2.out _ (HR.out.below B6.out)).mono ?_
    rintro e w7 ⟨A7, cc7, rfl, hc7, r7, b7⟩
    have R7 := Lib.hid r7
    have C7 := Lib.hid hc7
    have R6 := Lib.hid (R6.out.below b7)
    have B7 := Lib.hid (below_both B6.out b7)
    clear r7 hc7 b7 M2 B6
    go_wp2_with fail
    refine (live16 _).mono ?_
    rintro e w8 ⟨rfl, b8⟩
    have R6 := Lib.hid (R6.out.below b8)
    have R7 := Lib.hid (R7.out.below b8)
    have B8 := Lib.hid (below_both B7.out b8)
    clear b8 B7
    go_wp2_with fail
    refine (CSB.out _ _ _ _ _ _ C6.out C7.out R6.out R7.out).mono ?_
    rintro e w9 ⟨rfl, b9⟩
    have R6 := Lib.hid (R6.out.below b9)
    have B9 := Lib.hid (below_both B8.out b9)
    have R9 := Lib.hid (HR.out.below B9.out)
    obtain ⟨c0, c10, c11⟩ := HCE.out _ R9.out
    clear b9 B8 R7 C7 HCE
    by_cases h4 : q = 4
    · subst h4
      by_cases h10 : x10 = 255
      · subst h10
        by_cases h11 : x11 = 255
        · subst h11
          clear HE3
          go_wp2_with fail
          go_ret
          exact ⟨rfl, B9.out⟩
        · have e := HE3.out (fun _ h => h11 h.2)
          have nb : ((x11 : Int) == 255) = false := beq_false_of_ne (by omega)
          rw [e] at R6
          clear HE3 h11
          go_wp2_with fail
          refine (CSB.out _ _ _ _ _ _ C6.out HL0.out R6.out R9.out).mono ?_
          rintro e w10 ⟨rfl, b10⟩
          have B10 := Lib.hid (below_both B9.out b10)
          clear b10
          go_wp2_with fail
          go_ret
          exact ⟨rfl, B10.out⟩
      · have e := HE3.out (fun _ h => h10 h.1)
        have nb : ((x10 : Int) == 255) = false := beq_false_of_ne (by omega)
        rw [e] at R6
        clear HE3 h10
        go_wp2_with fail
        refine (CSB.out _ _ _ _ _ _ C6.out HL0.out R6.out R9.out).mono ?_
        rintro e w10 ⟨rfl, b10⟩
        have B10 := Lib.hid (below_both B9.out b10)
        clear b10
        go_wp2_with fail
        go_ret
        exact ⟨rfl, B10.out⟩
    · have e := HE3.out (fun h => absurd h h4)
      have h4' : ¬ ((q : Int) = 4) := by omega
      have nb : ((q : Int) == 4) = false := beq_false_of_ne h4'
      have nb2 : decide ((q : Int) = 4) = false := decide_eq_false h4'
      rw [e] at R6
      clear HE3
      go_wp2_with fail
      refine (CSB.out _ _ _ _ _ _ C6.out HL0.out R6.out R9.out).mono ?_
      rintro e w10 ⟨rfl, b10⟩
      have B10 := Lib.hid (below_both B9.out b10)
      clear b10
      go_wp2_with fail
      go_ret
      exact ⟨rfl, B10.out⟩
  · have CM0 : Hid (∀ W, Row W a0 len0 bs0 → Calls Try.prog 41 #[.slice a0 len0 cap0, .int .i64 (d : Nat)] W fun e w' => ∃ v, e = .returned (.tuple #[v, .int .i64 (pkTold len0 bs0 : Nat), .int .i64 0]) ∧ Below W.heap.size W w') := fun W h => (rmmark_any a0 len0 cap0 bs0 (d : Int) W hn hl0 h).mono fun e w' hh => by
      obtain ⟨v, rfl, ho, hb⟩ := hh
      have hres : rmRes len0 bs0 (d : Int) = (pkTold len0 bs0, 0) := by unfold rmRes; rw [if_pos (by omega)]
      rw [hres]
      exact ⟨v, rfl, hb⟩
    have hne : pkTold len0 bs0 ≠ 0 := fun h => hD (pkTold_zero.1 h)
    obtain ⟨t, ht⟩ : ∃ d, d = pkTold len0 bs0 := ⟨_, rfl⟩
    rw [← ht] at CM0 hne
    have db : ((t : Int) != 0) = true := bne_iff_ne.2 (by omega)
    clear ht hD hne R0 hl0 hc0 hn1 hz1 p0 p0' p1 p1' hd hd1 hd64 hd164 hn hg2 hA hB
    go_enter Try.func12, Try.ntmps12
    go_upto_region 1 with fail
    rw [← eV, ← HG2.out]
    clear eV
    go_wp2_with fail
    refine (CM0.out _ (HR.out.below HB.out)).mono ?_
    rintro e w1 ⟨v, rfl, b1⟩
    have B1 := Lib.hid (below_both HB.out b1)
    clear b1 CM0 c0 c1
    go_wp2_with fail
    refine (live16 _).mono ?_
    rintro e w3 ⟨rfl, b3⟩
    have B3 := Lib.hid (below_both B1.out b3)
    clear b3 B1
    go_wp2_with fail
    go_ret
    exact ⟨rfl, B3.out⟩
end Go.Proofs.Ytjpaicdbnadoeaa
