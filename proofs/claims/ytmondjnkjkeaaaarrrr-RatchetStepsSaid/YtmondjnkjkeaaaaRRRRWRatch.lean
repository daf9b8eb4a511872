/-
  The walks of the statements RatchetSteps, RatchetRuns and RatchetAgrees.
-/
import Derived.Test.YtmondjnkjkeaaaaRRRRRt5
namespace Go.Proofs.YtmondjnkjkeaaaaRRRR
open Go.RowKit
set_option linter.unusedVariables false

set_option maxRecDepth 10000 in
theorem walk_RatchetSteps (l : Nat) (s : Bool) (t : Nat) (w : World) (hl : l ≤ 18446744073709551615) (ht : t ≤ 18446744073709551615) :
    Calls Try.prog 3 #[.int .u64 l, .bool s, .int .u64 t] w fun e w' => e = .returned (.bool true) ∧ Below w.heap.size w w' := by
  obtain ⟨p, hp⟩ : ∃ p, p = rtNow l s t := ⟨_, rfl⟩
  obtain ⟨q, hq⟩ : ∃ q, q = rtGap l s t := ⟨_, rfl⟩
  have C1 := Lib.hid (fun w => rtstep_any l t s w ht)
  have C2 := Lib.hid (fun w => rrtstep_any l t s w ht)
  rw [← hp, ← hq] at C1 C2
  clear hp hq hl ht
  go_enter Try.func3, Try.ntmps3
  go_wp2_with fail
  refine (C1.out _).mono ?_
  rintro e w1 ⟨rfl, rfl⟩
  go_wp2_with fail
  refine (C2.out _).mono ?_
  rintro e w1 ⟨rfl, rfl⟩
  go_wp2_with fail
  refine (live25 _).mono ?_
  rintro e w3 ⟨rfl, b3⟩
  have B3 := Lib.hid b3
  clear b3
  go_wp2_with fail
  go_ret
  exact ⟨by first | rfl | simp, B3.out⟩

set_option maxRecDepth 10000 in
set_option maxHeartbeats 1600000 in
theorem walk_RatchetRuns (A : Option Addr) (n cap : Nat) (xs : List Nat) (w : World) (hA : RowU w A n xs) (hl : n ≤ cap) (hc : cap ≤ 17592186043904) :
    Calls Try.prog 4 #[.slice A n cap] w fun e w' => e = .returned (.bool true) ∧ Below w.heap.size w w' := by
  by_cases h : 300 < n
  · have hi : (300 : Int) < (n : Int) := by omega
    clear hA hl hc h
    go_enter Try.func4, Try.ntmps4
    go_wp2_with fail
    refine (live25 _).mono ?_
    rintro e w3 ⟨rfl, b3⟩
    have B3 := Lib.hid b3
    clear b3
    go_wp2_with fail
    go_ret
    exact ⟨by first | rfl | simp, B3.out⟩
  · have hi : ¬ (300 : Int) < (n : Int) := by omega
    have hni : (n : Int) ≤ 17592186043904 := by omega
    have hn : n ≤ 1000 := by omega
    obtain ⟨p, hp⟩ : ∃ p, p = (lgOf xs (List.range n)).1 := ⟨_, rfl⟩
    obtain ⟨q, hq⟩ : ∃ q, q = (lgOf xs (List.range n)).2.1 := ⟨_, rfl⟩
    have C1 := Lib.hid (fun w h => rtlong_any A n cap xs w hni h p q ⟨hp, hq⟩)
    have C2 := Lib.hid (fun w h => rrtlong_any A n cap xs w hn h p q ⟨hp, hq⟩)
    have C3 := Lib.hid (fun w h => rtrun_any A n cap xs w hni h)
    have C4 := Lib.hid (fun w h => rrtrun_any A n cap xs w hn h)
    have C5 := Lib.hid (fun w h => rtback_any A n cap xs w hni h)
    have C6 := Lib.hid (fun w h => rrtback_any A n cap xs w hn h)
    have HW := Lib.hid (rtRun_word hA.word)
    have HBB := Lib.hid (rtBack_bound hA.len hni)
    have hlen := hA.len
    obtain ⟨rs, hrs⟩ : ∃ rs, rs = rtRun xs := ⟨_, rfl⟩
    obtain ⟨bs, hbs⟩ : ∃ bs, bs = rtBack xs := ⟨_, rfl⟩
    have hrl : rs.length = n := by rw [hrs, rtRun_len, hlen]
    have hbl : bs.length ≤ n := by
      rw [hbs, ← bkTo_all hlen]
      exact bkTo_len xs n
    rw [← hrs] at C3 C4 HW
    rw [← hbs] at C5 C6 HBB
    have HA := Lib.hid hA
    have HRL := Lib.hid hrl
    obtain ⟨bn, hbn⟩ : ∃ bn, bn = bs.length := ⟨_, rfl⟩
    have HBN := Lib.hid hbn
    have hbi : (bn : Int) ≤ 17592186043904 := by omega
    have HN := Lib.hid hni
    have HBI := Lib.hid hbi
    clear hA hl hc h hp hq hlen hrs hbs hrl hbl hbn hbi hni hn
    go_enter Try.func4, Try.ntmps4
    go_wp2_with fail
    refine (C1.out _ HA.out).mono ?_
    rintro e w1 ⟨rfl, b1⟩
    have B1 := Lib.hid b1
    clear b1
    go_wp2_with fail
    refine (C2.out _ (HA.out.below B1.out)).mono ?_
    rintro e w2 ⟨rfl, b2⟩
    have B2 := Lib.hid (below_both B1.out b2)
    clear b2 B1
    go_wp2_with fail
    refine (live25 _).mono ?_
    rintro e w3 ⟨rfl, b3⟩
    have B3 := Lib.hid (below_both B2.out b3)
    clear b3 B2
    go_wp2_with fail
    refine (C3.out _ (HA.out.below B3.out)).mono ?_
    rintro e w4 ⟨v, rfl, ho, b4⟩
    obtain ⟨A4, c4, rfl, _, _, hR4⟩ := ho.out HW.out
    rw [HRL.out] at hR4 ⊢
    have R4 := Lib.hid hR4
    have B4 := Lib.hid (below_both B3.out b4)
    clear b4 B3 ho hR4
    go_wp2_with fail
    refine (C4.out _ (HA.out.below B4.out)).mono ?_
    rintro e w5 ⟨v, rfl, ho, b5⟩
    obtain ⟨A5, c5, rfl, _, _, hR5⟩ := ho.out HW.out
    rw [HRL.out] at hR5 ⊢
    have R5 := Lib.hid hR5
    have R45 := Lib.hid (R4.out.below b5)
    have B5 := Lib.hid (below_both B4.out b5)
    clear b5 B4 ho hR5 R4
    go_wp2_with fail
    refine (rtsame2_yes A4 A5 n c4 c5 rs _ HN.out R45.out R5.out).mono ?_
    rintro e w6 ⟨rfl, b6⟩
    have B6 := Lib.hid (below_both B5.out b6)
    clear b6 B5 R45 R5
    go_wp2_with fail
    refine (C5.out _ (HA.out.below B6.out)).mono ?_
    rintro e w7 ⟨v, rfl, ho, b7⟩
    obtain ⟨A7, c7, rfl, _, _, hR7⟩ := ho.out HBB.out
    rw [← HBN.out] at hR7 ⊢
    have R7 := Lib.hid hR7
    have B7 := Lib.hid (below_both B6.out b7)
    clear b7 B6 ho hR7
    go_wp2_with fail
    refine (C6.out _ (HA.out.below B7.out)).mono ?_
    rintro e w8 ⟨v, rfl, ho, b8⟩
    obtain ⟨A8, c8, rfl, _, _, hR8⟩ := ho.out HBB.out
    rw [← HBN.out] at hR8 ⊢
    have R8 := Lib.hid hR8
    have R78 := Lib.hid (R7.out.below b8)
    have B8 := Lib.hid (below_both B7.out b8)
    clear b8 B7 ho hR8 R7
    go_wp2_with fail
    refine (rtints_yes A7 A8 bn c7 c8 bs _ HBI.out R78.out R8.out).mono ?_
    rintro e w9 ⟨rfl, b9⟩
    have B9 := Lib.hid (below_both B8.out b9)
    clear b9 B8 R78 R8
    go_wp2_with fail
    go_ret
    exact ⟨by first | rfl | simp, B9.out⟩

/-- What is added up so far. -/
def rtSum (xs : List Nat) (k : Nat) : Nat := rtMax xs k - rtMax xs 1
theorem rtSum_next (xs : List Nat) (k : Nat) : rtSum xs k + rtGap (rtMax xs k) (decide (0 < k)) (xs.getD k 0) = rtSum xs (k + 1) := by
  rcases Nat.eq_zero_or_pos k with rfl | h
  · have h0 : rtGap (rtMax xs 0) (decide (0 < 0)) (xs.getD 0 0) = 0 := rfl
    rw [h0]
    show rtMax xs 0 - rtMax xs 1 + 0 = rtMax xs 1 - rtMax xs 1
    have : rtMax xs 0 = 0 := rfl
    rw [this, Nat.zero_sub, Nat.sub_self]
  · rw [rtGap_run xs k h]
    unfold rtSum
    have h1 := rtMax_mono xs (show 1 ≤ k from h)
    have h2 := rtMax_up xs k
    omega
theorem ra_le {x : Nat} (h : x < 18446744073709551616) : x ≤ 18446744073709551615 := by omega
theorem ra_sum {z d z2 : Nat} (h : z + d = z2) (hw : z2 < 18446744073709551616) : IntKind.u64.wrap ((z : Int) + (d : Int)) = (z2 : Int) := by rw [IntKind.wrap_u64]; omega
theorem ra_not {x y : Nat} (h : x ≤ y) : ¬ (y : Int) < (x : Int) := by omega
theorem ra_sub {y l d : Nat} (hg : d = y - l) (hl : l ≤ y) (hy : y < 18446744073709551616) : IntKind.u64.wrap ((y : Int) - (l : Int)) = (d : Int) := by rw [IntKind.wrap_u64]; omega
theorem ra_lt {k n : Nat} (h : k < n) (hn : (n : Int) ≤ 17592186043904) : (k : Int) ≤ 17592186043904 := by omega
theorem ra_ltn {k n : Nat} (h : k < n) (hn : (n : Int) ≤ 17592186043904) : (k : Int) < 17592186043904 := by omega
theorem ra_last {n : Nat} (h : 0 < n) (hn : (n : Int) ≤ 17592186043904) : ∃ j, n = j + 1 ∧ j < n ∧ IntKind.i64.wrap ((n : Int) - 1) = (j : Int) ∧ IntKind.i64.wrap (j : Int) = (j : Int) ∧ (j : Int) < (n : Int) ∧ (0 : Int) < (n : Int) := by
  refine ⟨n - 1, by omega, by omega, ?_, ?_, by omega, by omega⟩
  · rw [IntKind.wrap_i64]; omega
  · rw [IntKind.wrap_i64]; omega
theorem ra_meas {k n : Nat} (h : k < n) : n - (intOf (.int .i64 ((k + 1 : Nat) : Int))).toNat < n - (intOf (.int .i64 (k : Int))).toNat := by simp [intOf]; omega
theorem ra_pos {k : Nat} (h : 0 < k) : (0 : Int) < (k : Int) := by omega
theorem ra_zero {k : Nat} (h : ¬ 0 < k) : k = 0 := by omega
theorem ra_end {k n : Nat} (h : k ≤ n) (h2 : ¬ k < n) : k = n := by omega
set_option maxRecDepth 10000 in
set_option maxHeartbeats 1600000 in
theorem walk_RatchetAgrees (A : Option Addr) (n cap : Nat) (xs : List Nat) (w : World) (hA : RowU w A n xs) (hl : n ≤ cap) (hc : cap ≤ 17592186043904) :
    Calls Try.prog 5 #[.slice A n cap] w fun e w' => e = .returned (.bool true) ∧ Below w.heap.size w w' := by
  have hni : (n : Int) ≤ 17592186043904 := by omega
  have hlen := hA.len
  have HW0 := Lib.hid hA.word
  have C1 := Lib.hid (rtrun_any A n cap xs w hni hA)
  have HW := Lib.hid (rtRun_word hA.word)
  have HM := Lib.hid (rtMax_word hA.word)
  have hrl : (rtRun xs).length = n := by rw [rtRun_len, hlen]
  have HG := Lib.hid (fun i (h : i < n) => rtRun_get (l := xs) (i := i) (by omega))
  have HRL := Lib.hid hrl
  have HA := Lib.hid hA
  have HN := Lib.hid hni
  clear hA hl hc hlen hrl hni
  go_enter Try.func5, Try.ntmps5
  go_wp2_with fail
  refine C1.out.mono ?_
  rintro e w1 ⟨v, rfl, ho, b1⟩
  obtain ⟨A1, c1, rfl, _, _, hR1⟩ := ho.out HW.out
  rw [HRL.out] at hR1 ⊢
  have R1 := Lib.hid hR1
  have B1 := Lib.hid b1
  clear b1 ho hR1 C1
  go_wp2_with fail
  go_loopw [4, 5, 6] (fun a s i wr => ∃ k l z : Nat, k ≤ n ∧ i = .int .i64 (k : Int) ∧ a = .int .u64 (l : Int) ∧ s = .int .u64 (z : Int) ∧ Hid (l = rtMax xs k) ∧ Hid (z = rtSum xs k) ∧ wr = w1) (fun _ _ i _ => n - (intOf i).toNat)
  case atStart => exact ⟨0, 0, 0, Nat.zero_le _, rfl, rfl, rfl, rfl, by show 0 = 0 - _; omega, rfl⟩
  case round =>
    obtain ⟨k, l, z, hk, rfl, rfl, rfl, HL, HZ, rfl⟩ := hrel
    by_cases hlt : k < n
    · obtain ⟨b, o, rfl, hb, hcs⟩ := HA.out.addr (Nat.lt_of_le_of_lt (Nat.zero_le _) hlt)
      obtain ⟨b', o', rfl, hb', hcs'⟩ := R1.out.addr (Nat.lt_of_le_of_lt (Nat.zero_le _) hlt)
      have hx := (B1.out.cell (p := ⟨b, o + k, none⟩) hb).trans (hcs k hlt)
      have hy := hcs' k hlt
      rw [HG.out k hlt] at hy
      have hup := rtMax_up xs k
      have hxy := rtMax_get (l := xs) (show k < k + 1 from Nat.lt_succ_self k)
      have hnow := rtNow_run xs k
      have hsum := rtSum_next xs k
      have hwx := HW0.out k
      have hwy := HM.out (k + 1)
      have hws : rtSum xs (k + 1) < 18446744073709551616 := Nat.lt_of_le_of_lt (Nat.sub_le _ _) hwy
      have hgap := fun h => rtGap_run xs k h
      obtain ⟨x, hxe⟩ : ∃ x, x = xs.getD k 0 := ⟨_, rfl⟩
      obtain ⟨y, hye⟩ : ∃ y, y = rtMax xs (k + 1) := ⟨_, rfl⟩
      obtain ⟨z2, hz2⟩ : ∃ z2, z2 = rtSum xs (k + 1) := ⟨_, rfl⟩
      rw [← hxe] at hx hxy hnow hsum hwx hgap
      rw [← hye] at hy hxy hnow hwy hup hgap
      rw [← HL.out] at hnow hsum hup hgap
      rw [← hz2, ← HZ.out] at hsum
      rw [← hz2] at hws
      obtain ⟨d, hd⟩ : ∃ d, d = rtGap l (decide (0 < k)) x := ⟨_, rfl⟩
      rw [← hd] at hsum hgap
      have C := Lib.hid (fun w => rtstep_any l x (decide (0 < k)) w (ra_le hwx))
      rw [hnow, ← hd] at C
      have us : IntKind.u64.wrap ((z : Int) + (d : Int)) = (z2 : Int) := ra_sum hsum hws
      have hxyi : ¬ (y : Int) < (x : Int) := ra_not hxy
      have uk := rt_next (k := k) (ra_lt hlt HN.out)
      have hkni : (k : Int) < (n : Int) := Int.ofNat_lt.2 hlt
      have HLT := Lib.hid hlt
      have HY := Lib.hid hye
      have HZ2 := Lib.hid hz2
      by_cases hk0 : 0 < k
      · have hk0i : (0 : Int) < (k : Int) := ra_pos hk0
        have hg := hgap hk0
        have ud : IntKind.u64.wrap ((y : Int) - (l : Int)) = (d : Int) := ra_sub hg hup hwy
        rw [decide_eq_true hk0] at C
        clear hb hb' hcs hcs' hup hxy hnow hsum hwx hwy hws hgap hxe hye hz2 hd hlt hg HL HZ
        go_wp2_with fail
        refine (C.out _).mono ?_
        rintro e w2 ⟨rfl, rfl⟩
        go_wp2_with fail
        go_roundw
        case rel => exact ⟨k + 1, y, z2, HLT.out, by go_num, rfl, by go_num, HY.out, HZ2.out, trivial⟩
        case measure => rw [uk]; exact ra_meas HLT.out
      · obtain rfl : k = 0 := ra_zero hk0
        rw [show decide (0 < 0) = false from rfl] at C
        simp only [Nat.add_zero] at hx hy
        clear hb hb' hcs hcs' hup hxy hnow hsum hwx hwy hws hgap hxe hye hz2 hd hlt hk0 HL HZ
        go_wp2_with fail
        refine (C.out _).mono ?_
        rintro e w2 ⟨rfl, rfl⟩
        go_wp2_with fail
        go_roundw
        case rel => exact ⟨0 + 1, y, z2, HLT.out, by go_num, rfl, by go_num, HY.out, HZ2.out, trivial⟩
        case measure => simp [intOf]; omega
    · obtain rfl : k = n := ra_end hk hlt
      clear hk hlt
      have CL := Lib.hid (fun w => live25 w)
      have C2 := Lib.hid (fun w h => rtrun_any (some ⟨0, 0, none⟩) k cap xs w HN.out h)
      clear C2
      obtain ⟨rs, hrs⟩ : ∃ rs, rs = rtRun xs := ⟨_, rfl⟩
      have hrr : rtRun rs = rs := by rw [hrs, rtRun_run]
      have hrb : rtBack rs = [] := by rw [hrs, rtBack_run]
      have C3 := Lib.hid (fun A c w h => rtrun_any A k c rs w HN.out h)
      have C4 := Lib.hid (fun A c w h => rtback_any A k c rs w HN.out h)
      rw [hrr] at C3
      rw [hrb] at C4
      rw [← hrs] at HRL HW
      have RR := R1
      rw [← hrs] at RR
      by_cases hn0 : 0 < k
      · obtain ⟨j, hj, hjl, u1, u2, hji, hn0i⟩ := ra_last hn0 HN.out
        obtain ⟨b', o', rfl, hb', hcs'⟩ := R1.out.addr hn0
        have hx := hcs' j hjl
        have hy := hcs' 0 hn0
        rw [HG.out j hjl, ← hj] at hx
        have hm := rtMax_mono xs (show 1 ≤ k from hn0)
        have hwx := HM.out k
        rw [HG.out 0 hn0, Nat.zero_add] at hy
        have hz := HZ.out
        unfold rtSum at hz
        obtain ⟨x, hxe⟩ : ∃ x, x = rtMax xs k := ⟨_, rfl⟩
        obtain ⟨y, hye⟩ : ∃ y, y = rtMax xs 1 := ⟨_, rfl⟩
        rw [← hxe] at hx hm hwx hz
        rw [← hye] at hy hm hz
        have us := ra_sub hz hm hwx
        simp only [Nat.add_zero] at hy
        clear hb' hcs' hm hwx hz hxe hye HL HZ hrs hrr hrb hjl hj
        go_wp2_with fail
        go_quiet (fail)
        have BQ := Lib.hid (below_drewN' B1.out nq)
        have RQ := Lib.hid (RR.out.drewN nq)
        generalize wr.drewN nq = wq at *
        go_wp2_with fail
        refine (CL.out _).mono ?_
        rintro e w3 ⟨rfl, b3⟩
        have B3 := Lib.hid (below_both BQ.out b3)
        have R3 := Lib.hid (RQ.out.below b3)
        clear b3 BQ RQ
        go_wp2_with fail
        refine (C3.out _ _ _ R3.out).mono ?_
        rintro e w4 ⟨v, rfl, ho, b4⟩
        obtain ⟨A4, c4, rfl, _, _, hR4⟩ := ho.out HW.out
        rw [HRL.out] at hR4 ⊢
        have R4 := Lib.hid hR4
        have R34 := Lib.hid (R3.out.below b4)
        have B4 := Lib.hid (below_both B3.out b4)
        clear b4 ho hR4 R3 B3
        go_wp2_with fail
        refine (rtsame2_yes A4 (some ⟨b', o', none⟩) k c4 c1 rs _ HN.out R4.out R34.out).mono ?_
        rintro e w5 ⟨rfl, b5⟩
        have R5 := Lib.hid (R34.out.below b5)
        have B5 := Lib.hid (below_both B4.out b5)
        clear b5 R4 R34 B4
        go_wp2_with fail
        refine (C4.out _ _ _ R5.out).mono ?_
        rintro e w6 ⟨v, rfl, ho, b6⟩
        obtain ⟨A6, c6, rfl, _, _, _⟩ := ho.out (by simp)
        have B6 := Lib.hid (below_both B5.out b6)
        clear b6 ho R5 B5
        go_wp2_with fail
        go_ret
        exact ⟨by first | rfl | simp, B6.out⟩
      · obtain rfl : k = 0 := ra_zero hn0
        go_wp2_with fail
        go_quiet (fail)
        have BQ := Lib.hid (below_drewN' B1.out nq)
        have RQ := Lib.hid (RR.out.drewN nq)
        generalize wr.drewN nq = wq at *
        go_wp2_with fail
        refine (CL.out _).mono ?_
        rintro e w3 ⟨rfl, b3⟩
        have B3 := Lib.hid (below_both BQ.out b3)
        have R3 := Lib.hid (RQ.out.below b3)
        clear b3 BQ RQ
        go_wp2_with fail
        refine (C3.out _ _ _ R3.out).mono ?_
        rintro e w4 ⟨v, rfl, ho, b4⟩
        obtain ⟨A4, c4, rfl, _, _, hR4⟩ := ho.out HW.out
        rw [HRL.out] at hR4 ⊢
        have R4 := Lib.hid hR4
        have R34 := Lib.hid (R3.out.below b4)
        have B4 := Lib.hid (below_both B3.out b4)
        clear b4 ho hR4 R3 B3
        go_wp2_with fail
        refine (rtsame2_yes A4 A1 0 c4 c1 rs _ HN.out R4.out R34.out).mono ?_
        rintro e w5 ⟨rfl, b5⟩
        have R5 := Lib.hid (R34.out.below b5)
        have B5 := Lib.hid (below_both B4.out b5)
        clear b5 R4 R34 B4
        go_wp2_with fail
        refine (C4.out _ _ _ R5.out).mono ?_
        rintro e w6 ⟨v, rfl, ho, b6⟩
        obtain ⟨A6, c6, rfl, _, _, _⟩ := ho.out (by simp)
        have B6 := Lib.hid (below_both B5.out b6)
        clear b6 ho R5 B5
        go_wp2_with fail
        go_ret
        exact ⟨by first | rfl | simp, B6.out⟩
end Go.Proofs.YtmondjnkjkeaaaaRRRR
