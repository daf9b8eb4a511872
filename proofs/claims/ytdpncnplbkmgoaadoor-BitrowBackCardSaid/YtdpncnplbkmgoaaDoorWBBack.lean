/-
  The walk of the statement BitrowBack.
-/
import Derived.Test.YtdpncnplbkmgoaaDoorBrBack
namespace Go.Proofs.YtdpncnplbkmgoaaDoor
open Go.RowKit
set_option linter.unusedVariables false

theorem cnt_same {p q r s : Nat} (h : p + q = r + s) : (wrap64 ((p : Int) + (q : Int)) == wrap64 ((r : Int) + (s : Int))) = true := by
  rw [show (p : Int) + (q : Int) = (r : Int) + (s : Int) from by omega]
  exact beq_self_eq_true _
set_option maxRecDepth 10000 in
set_option maxHeartbeats 3200000 in
theorem walk_BitrowBack (A : Option Addr) (l1 c1 : Nat) (xs : List Nat) (A' : Option Addr) (l2 c2 : Nat) (ys : List Nat) (w : World) (hT : Bru w) (hA : RowU w A l1 xs) (hl1 : l1 ≤ c1) (hc1 : c1 ≤ 17592186043904) (hB : RowU w A' l2 ys) (hl2 : l2 ≤ c2) (hc2 : c2 ≤ 17592186043904) :
    Calls Tryd.prog 5 #[.slice A l1 c1, .slice A' l2 c2] w fun e w' => e = .returned (.bool true) ∧ Below w.heap.size w w' := by
  have HT0 := Lib.hid hT
  clear hT
  by_cases hb1 : 40 < l1
  · have hb : (40 : Int) < (l1 : Int) := by omega
    clear hA hl1 hc1 hB hl2 hc2
    go_enter Tryd.func5, Tryd.ntmps5
    go_wp2_with (go_at_call 7; refine (live18 _ HT0.out).mono ?_; rintro e w' ⟨rfl, hb⟩)
    go_ret
    exact ⟨rfl, hb⟩
  by_cases hb2 : 40 < l2
  · have hb : (40 : Int) < (l2 : Int) := by omega
    have hb3 : (l1 : Int) ≤ 40 := by omega
    clear hA hl1 hc1 hB hl2 hc2
    go_enter Tryd.func5, Tryd.ntmps5
    go_wp2_with (go_at_call 7; refine (live18 _ HT0.out).mono ?_; rintro e w' ⟨rfl, hb⟩)
    go_ret
    exact ⟨rfl, hb⟩
  have i1 : (l1 : Int) ≤ 40 := by omega
  have i2 : (l2 : Int) ≤ 40 := by omega
  obtain ⟨n, hn⟩ : ∃ n, n = min l1 l2 := ⟨_, rfl⟩
  have hmin : (if l2 < l1 then (l2 : Int) else (l1 : Int)) = (n : Int) := by rw [min_int, ← hn]
  have n1 : n ≤ c1 := by omega
  have n2 : n ≤ c2 := by omega
  have j1 : (n : Int) ≤ (c1 : Int) := by omega
  have j2 : (n : Int) ≤ (c2 : Int) := by omega
  have hAf := hA.front n (by omega)
  have hBf := hB.front n (by omega)
  obtain ⟨a, ha⟩ : ∃ a, a = xs.take n := ⟨_, rfl⟩
  obtain ⟨b, hb⟩ : ∃ b, b = ys.take n := ⟨_, rfl⟩
  rw [← ha] at hAf
  rw [← hb] at hBf
  have hal := hAf.len
  have hbl := hBf.len
  have hnl : (n : Int) ≤ 40 := by omega
  have hnn : n ≤ 40 := by omega
  have RA := Lib.hid hAf
  have RB := Lib.hid hBf
  have C1 : Hid (∀ w, Calls Tryd.prog 10 #[.int .i64 (64 * (n : Int))] w (MadeU w (setAll n []))) := fun w => by
    have e : newN (64 * (n : Int)) = n := by
      have := newN_nat (k := 64 * n) (by omega)
      rw [show ((64 * n : Nat) : Int) = 64 * (n : Int) from by omega] at this
      omega
    have h := brnew_any (64 * (n : Int)) w
    rw [e] at h
    exact h
  have C2 := Lib.hid (fun w hT hA => brlist_any A n c1 a w (by omega) hT hA)
  have HLb := Lib.hid (bitsOf_bound a (by omega))
  have HLl : Hid ((bitsOf a).length ≤ 2560) := by
    have h1 := upTo_length a (64 * a.length)
    exact (by unfold bitsOf; omega : (bitsOf a).length ≤ 2560)
  have HLs := Lib.hid (bitsOf_sorted a)
  have HLi : Hid (setAll n (bitsOf a) = a) := by have := setAll_bits a hAf.2.1; rw [hal] at this; exact this
  obtain ⟨L, hL⟩ : ∃ L, L = bitsOf a := ⟨_, rfl⟩
  rw [← hL] at C2 HLb HLl HLs HLi
  have CS := Lib.hid (fun (w : World) A d x k (hA : RowU w A n x) (hk : k ≤ 9223372036854775807) => brSet_any A n d x k w hk (by omega) hA)
  have CE := Lib.hid (fun (w : World) A B c d (hA : RowU w A n a) (hB : RowU w B n a) => rowsame_yes A B n c d a w (by omega) hA hB)
  have hws : Words [a, b] := two_words hAf.word hBf.word
  have hsh : ∀ k, ([a, b].getD k []).length ≤ 1000 := two_short (by omega) (by omega)
  have CA := Lib.hid (fun (w : World) A c (h : RowsAt w A [a, b]) => brand_any A 2 c [a, b] w h rfl (by decide) hsh hws)
  have CO := Lib.hid (fun (w : World) A c (h : RowsAt w A [a, b]) => bror_any A 2 c [a, b] w h rfl (by decide) hsh hws)
  have hxl : (andRow [a, b]).length = n := by rw [andRow_length]; exact minL_two hal hbl
  have hyl : (orRow [a, b]).length = n := by rw [orRow_length]; exact maxL_two hal hbl
  have HXb := Lib.hid (andRow_word [a, b])
  have HYb := Lib.hid (orRow_word hws)
  have HXt := Lib.hid (fun i (hi : i < 64 * n) => tb_and2 hal hbl hi)
  have HYt := Lib.hid (fun i (hi : i < 64 * n) => tb_or2 hal hbl hi)
  have HCn := Lib.hid (count_two hal hbl)
  obtain ⟨X, hX⟩ : ∃ X, X = andRow [a, b] := ⟨_, rfl⟩
  obtain ⟨Y, hY⟩ : ∃ Y, Y = orRow [a, b] := ⟨_, rfl⟩
  rw [← hX] at hxl HXb HXt HCn CA
  rw [← hY] at hyl HYb HYt HCn CO
  have HXL := Lib.hid hxl
  have HYL := Lib.hid hyl
  have CH := Lib.hid (fun (w : World) A c x k (hA : RowU w A n x) (hk : k ≤ 9223372036854775807) => brhas_any A n c x k w hk hA)
  have CC := Lib.hid (fun (w : World) A c x (hA : RowU w A n x) => brcount_any A n c x w (by omega) hA)
  have HN := Lib.hid hnn
  have k1 : ¬ n < 0 := by omega
  clear hA hB hn hl1 hl2 hc1 hc2 hb1 hb2 hAf hBf ha hb hal hbl hL hws hsh hX hY hxl hyl hnn
  go_enter Tryd.func5, Tryd.ntmps5
  go_wp2_with fail
  go_quiet (fail)
  clear i1 i2 hmin n1 n2 j1 j2 k1
  have B0 : Hid (Below w.heap.size w (w.drewN nq)) := below_drewN' (Below.refl _ _) nq
  have HT0 := Lib.hid (HT0.out.below B0.out)
  have RA := Lib.hid (RA.out.below B0.out)
  have RB := Lib.hid (RB.out.below B0.out)
  obtain ⟨V, hV⟩ : ∃ V, V = w.drewN nq := ⟨_, rfl⟩
  rw [← hV] at B0 HT0 RA RB ⊢
  clear hV
  go_wp2_with fail
  refine (C1.out _).mono ?_
  rintro e w1 ⟨v, rfl, ho, hb1⟩
  obtain ⟨A1, d1, rfl, _, _, r1⟩ := ho.out (setAll_word n [])
  rw [setAll_length] at r1 ⊢
  have RA := Lib.hid (RA.out.below hb1)
  have RB := Lib.hid (RB.out.below hb1)
  have B1 := Lib.hid (below_both B0.out hb1)
  have HT1 := Lib.hid (HT0.out.below hb1)
  have R1 := Lib.hid r1
  clear ho r1 hb1 B0 HT0
  go_wp2_with fail
  refine (C2.out _ HT1.out RA.out).mono ?_
  rintro e w2 ⟨v, rfl, ho, hb2⟩
  obtain ⟨A2, d2, rfl, _, _, r2⟩ := ho.out HLb.out
  have RA := Lib.hid (RA.out.below hb2)
  have RB := Lib.hid (RB.out.below hb2)
  have R1 := Lib.hid (R1.out.below hb2)
  have B2 := Lib.hid (below_both B1.out hb2)
  have HT2 := Lib.hid (HT1.out.below hb2)
  have RL := Lib.hid r2
  obtain ⟨m, hm⟩ : ∃ m, m = L.length := ⟨_, rfl⟩
  rw [← hm] at RL HLl ⊢
  have HM := Lib.hid hm
  have hml : (m : Int) ≤ 2560 := by have := HLl.out; omega
  clear ho r2 hb2 B1 HT1 hm
  go_wp2_with fail
  go_loopw [6, 8] (fun v i wr => ∃ k : Nat, k ≤ m ∧ i = .int .i64 (k : Int) ∧ (∃ A3 d3, v = .slice A3 n d3 ∧ RowU wr A3 n (setAll n (L.take k))) ∧ Below w2.heap.size w2 wr) (fun _ i _ => m - (intOf i).toNat)
  case atStart => exact ⟨0, Nat.zero_le _, rfl, ⟨_, _, rfl, R1.out⟩, Below.refl _ _⟩
  case round =>
    clear R1
    obtain ⟨k, hk, rfl, ⟨A3, d3, rfl, hR3⟩, hb⟩ := hrel
    have HB := Lib.hid hb
    have R3 := Lib.hid hR3
    clear hb hR3
    by_cases hlt : k < m
    · obtain ⟨g, o, rfl, hg, hcs⟩ := RL.out.addr (by omega)
      have hc := (HB.out.cell (p := ⟨g, o + k, none⟩) hg).trans (hcs k hlt)
      have hyb := RL.out.word k
      have hst : Hid (setAll n (L.take (k + 1)) = setB (setAll n (L.take k)) ((L.getD k 0 : Nat) : Int)) := by
        rw [take_succ_getD L k (by rw [← HM.out]; exact hlt), setAll_snoc, setB_nat]
        exact rfl
      cases k with
      | zero =>
        obtain ⟨y, hy⟩ : ∃ y, y = L.getD 0 0 := ⟨_, rfl⟩
        rw [← hy] at hc hst hyb
        have HY2 : Hid ((y : Int) ≤ 9223372036854775807) := (by omega : (y : Int) ≤ 9223372036854775807)
        clear hcs hg hy hyb
        go_wp2_with fail
        go_quiet (fail)
        have BV : Hid (Below w2.heap.size w2 (wr.drewN nq)) := below_drewN' HB.out nq
        have R3 : Hid (RowU (wr.drewN nq) A3 n (setAll n (L.take (0)))) := R3.out.drewN nq
        have hc : (wr.drewN nq).cell? ⟨g, o + (0), none⟩ = some (.int .i64 (y : Int)) := hc
        try simp only [Nat.add_zero] at hc
        obtain ⟨V, hV⟩ : ∃ V, V = wr.drewN nq := ⟨_, rfl⟩
        rw [← hV] at BV R3 hc ⊢
        clear hV HB
        go_wp2_with fail
        refine (CS.out V A3 d3 _ (y : Int) R3.out HY2.out).mono ?_
        rw [← hst.out]
        rintro e w3 ⟨v, rfl, ho, hb3⟩
        obtain ⟨A4, d4, rfl, _, _, r4⟩ := ho.out (setAll_word n _)
        rw [setAll_length] at r4 ⊢
        have R4 := Lib.hid r4
        have BV := Lib.hid (below_both BV.out hb3)
        clear ho r4 hb3 hc
        go_wp2_with fail
        go_roundw
        case rel => exact ⟨_, hlt, by go_num, ⟨_, _, rfl, R4.out⟩, BV.out⟩
        case measure => simp [intOf]; omega
      | succ j =>
        have hc2 := (HB.out.cell (p := ⟨g, o + j, none⟩) hg).trans (hcs j (by omega))
        have hs := HLs.out j (by rw [← HM.out]; exact hlt)
        obtain ⟨y, hy⟩ : ∃ y, y = L.getD (j + 1) 0 := ⟨_, rfl⟩
        obtain ⟨x, hx⟩ : ∃ x, x = L.getD j 0 := ⟨_, rfl⟩
        rw [← hy] at hc hst hyb hs
        rw [← hx] at hc2 hs
        have hs2 : ¬ y ≤ x := by omega
        have HY2 : Hid ((y : Int) ≤ 9223372036854775807) := (by omega : (y : Int) ≤ 9223372036854775807)
        clear hcs hg hy hx hyb hs
        go_wp2_with fail
        go_quiet (fail)
        clear hc2 hs2
        have BV : Hid (Below w2.heap.size w2 (wr.drewN nq)) := below_drewN' HB.out nq
        have R3 : Hid (RowU (wr.drewN nq) A3 n (setAll n (L.take (j + 1)))) := R3.out.drewN nq
        have hc : (wr.drewN nq).cell? ⟨g, o + (j + 1), none⟩ = some (.int .i64 (y : Int)) := hc
        try simp only [Nat.add_zero] at hc
        obtain ⟨V, hV⟩ : ∃ V, V = wr.drewN nq := ⟨_, rfl⟩
        rw [← hV] at BV R3 hc ⊢
        clear hV HB
        go_wp2_with fail
        refine (CS.out V A3 d3 _ (y : Int) R3.out HY2.out).mono ?_
        rw [← hst.out]
        rintro e w3 ⟨v, rfl, ho, hb3⟩
        obtain ⟨A4, d4, rfl, _, _, r4⟩ := ho.out (setAll_word n _)
        rw [setAll_length] at r4 ⊢
        have R4 := Lib.hid r4
        have BV := Lib.hid (below_both BV.out hb3)
        clear ho r4 hb3 hc
        go_wp2_with fail
        go_roundw
        case rel => exact ⟨_, hlt, by go_num, ⟨_, _, rfl, R4.out⟩, BV.out⟩
        case measure => simp [intOf]; omega
    · obtain rfl : k = m := by omega
      have hR := R3.out
      rw [List.take_of_length_le (by rw [HM.out]; exact Nat.le_refl _), HLi.out] at hR
      have R3 := Lib.hid hR
      have RA := Lib.hid (RA.out.below HB.out)
      have RB := Lib.hid (RB.out.below HB.out)
      have B3 := Lib.hid (below_both B2.out HB.out)
      have HT3 := Lib.hid (HT2.out.below HB.out)
      clear hR B2 HT2 HB hlt hk hml RL
      go_wp2_with fail
      refine (CE.out _ _ _ _ _ R3.out RA.out).mono ?_
      rintro e w4 ⟨rfl, hb4⟩
      have RA := Lib.hid (RA.out.below hb4)
      have RB := Lib.hid (RB.out.below hb4)
      have B4 := Lib.hid (below_both B3.out hb4)
      have HT4 := Lib.hid (HT3.out.below hb4)
      clear hb4 B3 HT3 R3
      go_wp2_with fail
      refine (CA.out _ _ _ (two_rows RA.out RB.out _ rfl)).mono ?_
      rintro e w5 ⟨v, rfl, ho, hb5⟩
      obtain ⟨A5, d5, rfl, _, _, r5⟩ := ho.out HXb.out
      rw [HXL.out] at r5 ⊢
      have hb5 := below_al hb5
      have RA := Lib.hid (RA.out.below hb5)
      have RB := Lib.hid (RB.out.below hb5)
      have B5 := Lib.hid (below_both B4.out hb5)
      have HT5 := Lib.hid (HT4.out.below hb5)
      have RX := Lib.hid r5
      clear hb5 B4 HT4 ho r5
      go_wp2_with fail
      refine (CO.out _ _ _ (two_rows RA.out RB.out _ rfl)).mono ?_
      rintro e w6 ⟨v, rfl, ho, hb6⟩
      obtain ⟨A6, d6, rfl, _, _, r6⟩ := ho.out HYb.out
      rw [HYL.out] at r6 ⊢
      have hb6 := below_al hb6
      have RA := Lib.hid (RA.out.below hb6)
      have RB := Lib.hid (RB.out.below hb6)
      have RX := Lib.hid (RX.out.below hb6)
      have B6 := Lib.hid (below_both B5.out hb6)
      have HT6 := Lib.hid (HT5.out.below hb6)
      have RY := Lib.hid r6
      clear hb6 B5 HT5 ho r6
      go_wp2_with fail
      go_loop [11] (fun i => ∃ k : Nat, k ≤ 64 * n ∧ i = .int .i64 (k : Int)) (fun i => 64 * n - (intOf i).toNat)
      case atStart => exact ⟨0, Nat.zero_le _, rfl⟩
      case round =>
        obtain ⟨i, hi, rfl⟩ := hrel
        by_cases hlt : i < 64 * n
        · have hil : (i : Int) ≤ 9223372036854775807 := by omega
          have e0 : ∀ x, hasB x (i : Int) = tb x i := fun x => by unfold hasB; rw [if_neg (by omega)]; rfl
          have HA1 := Lib.hid (CH.out w6 A c1 a i RA.out hil)
          have HB1 := Lib.hid (CH.out w6 A' c2 b i RB.out hil)
          have HX1 := Lib.hid (CH.out w6 A5 d5 X i RX.out hil)
          have HY1 := Lib.hid (CH.out w6 A6 d6 Y i RY.out hil)
          rw [e0] at HA1 HB1 HX1 HY1
          rw [HXt.out i hlt] at HX1
          rw [HYt.out i hlt] at HY1
          clear e0 hil
          cases hp : tb a i with
          | false =>
            cases hq : tb b i with
            | false =>
              rw [hp, hq] at HX1 HY1
              rw [hp] at HA1
              rw [hq] at HB1
              simp only [Bool.and_self, Bool.or_self, Bool.and_true, Bool.true_and, Bool.or_true, Bool.true_or, Bool.and_false, Bool.false_and, Bool.or_false, Bool.false_or] at HX1 HY1
              clear hp hq
              go_wp2_with fail
              refine HX1.out.mono ?_
              rintro e w' ⟨rfl, rfl⟩
              go_wp2_with fail
              refine HA1.out.mono ?_
              rintro e w' ⟨rfl, rfl⟩
              go_wp2_with fail
              refine HY1.out.mono ?_
              rintro e w' ⟨rfl, rfl⟩
              go_wp2_with fail
              refine HA1.out.mono ?_
              rintro e w' ⟨rfl, rfl⟩
              go_wp2_with fail
              refine HB1.out.mono ?_
              rintro e w' ⟨rfl, rfl⟩
              go_wp2_with fail
              go_round
              case rel => exact ⟨i + 1, hlt, by go_num⟩
              case measure => simp [intOf]; omega
            | true =>
              rw [hp, hq] at HX1 HY1
              rw [hp] at HA1
              rw [hq] at HB1
              simp only [Bool.and_self, Bool.or_self, Bool.and_true, Bool.true_and, Bool.or_true, Bool.true_or, Bool.and_false, Bool.false_and, Bool.or_false, Bool.false_or] at HX1 HY1
              clear hp hq
              go_wp2_with fail
              refine HX1.out.mono ?_
              rintro e w' ⟨rfl, rfl⟩
              go_wp2_with fail
              refine HA1.out.mono ?_
              rintro e w' ⟨rfl, rfl⟩
              go_wp2_with fail
              refine HY1.out.mono ?_
              rintro e w' ⟨rfl, rfl⟩
              go_wp2_with fail
              refine HA1.out.mono ?_
              rintro e w' ⟨rfl, rfl⟩
              go_wp2_with fail
              refine HB1.out.mono ?_
              rintro e w' ⟨rfl, rfl⟩
              go_wp2_with fail
              go_round
              case rel => exact ⟨i + 1, hlt, by go_num⟩
              case measure => simp [intOf]; omega
          | true =>
            cases hq : tb b i with
            | false =>
              rw [hp, hq] at HX1 HY1
              rw [hp] at HA1
              rw [hq] at HB1
              simp only [Bool.and_self, Bool.or_self, Bool.and_true, Bool.true_and, Bool.or_true, Bool.true_or, Bool.and_false, Bool.false_and, Bool.or_false, Bool.false_or] at HX1 HY1
              clear hp hq
              go_wp2_with fail
              refine HX1.out.mono ?_
              rintro e w' ⟨rfl, rfl⟩
              go_wp2_with fail
              refine HA1.out.mono ?_
              rintro e w' ⟨rfl, rfl⟩
              go_wp2_with fail
              refine HB1.out.mono ?_
              rintro e w' ⟨rfl, rfl⟩
              go_wp2_with fail
              refine HY1.out.mono ?_
              rintro e w' ⟨rfl, rfl⟩
              go_wp2_with fail
              refine HA1.out.mono ?_
              rintro e w' ⟨rfl, rfl⟩
              go_wp2_with fail
              go_round
              case rel => exact ⟨i + 1, hlt, by go_num⟩
              case measure => simp [intOf]; omega
            | true =>
              rw [hp, hq] at HX1 HY1
              rw [hp] at HA1
              rw [hq] at HB1
              simp only [Bool.and_self, Bool.or_self, Bool.and_true, Bool.true_and, Bool.or_true, Bool.true_or, Bool.and_false, Bool.false_and, Bool.or_false, Bool.false_or] at HX1 HY1
              clear hp hq
              go_wp2_with fail
              refine HX1.out.mono ?_
              rintro e w' ⟨rfl, rfl⟩
              go_wp2_with fail
              refine HA1.out.mono ?_
              rintro e w' ⟨rfl, rfl⟩
              go_wp2_with fail
              refine HB1.out.mono ?_
              rintro e w' ⟨rfl, rfl⟩
              go_wp2_with fail
              refine HY1.out.mono ?_
              rintro e w' ⟨rfl, rfl⟩
              go_wp2_with fail
              refine HA1.out.mono ?_
              rintro e w' ⟨rfl, rfl⟩
              go_wp2_with fail
              go_round
              case rel => exact ⟨i + 1, hlt, by go_num⟩
              case measure => simp [intOf]; omega
        · obtain rfl : i = 64 * n := by omega
          have HCX := Lib.hid (fun hX => CC.out w6 A5 d5 X hX)
          clear hi hlt
          go_wp2_with fail
          refine (live18 _ HT6.out).mono ?_
          rintro e w7 ⟨rfl, hb7⟩
          have RA := Lib.hid (RA.out.below hb7)
          have RB := Lib.hid (RB.out.below hb7)
          have RX := Lib.hid (RX.out.below hb7)
          have RY := Lib.hid (RY.out.below hb7)
          have B7 := Lib.hid (below_both B6.out hb7)
          clear hb7 B6 HT6
          go_wp2_with fail
          refine (CC.out _ _ _ _ RX.out).mono ?_
          rintro e w' ⟨rfl, rfl⟩
          go_wp2_with fail
          refine (CC.out _ _ _ _ RY.out).mono ?_
          rintro e w' ⟨rfl, rfl⟩
          go_wp2_with fail
          refine (CC.out _ _ _ _ RA.out).mono ?_
          rintro e w' ⟨rfl, rfl⟩
          go_wp2_with fail
          refine (CC.out _ _ _ _ RB.out).mono ?_
          rintro e w' ⟨rfl, rfl⟩
          go_wp2_with fail
          go_ret
          exact ⟨by rw [← cnt_same HCn.out]; rfl, B7.out⟩
end Go.Proofs.YtdpncnplbkmgoaaDoor
