/-
  The walk of the statement SixheadRests.
-/
import Derived.Test.YtlopmkmcjcijcaaSx5
import Derived.Test.YtlopmkmcjcijcaaSx6
import Derived.Test.YtlopmkmcjcijcaaSames
import Derived.Test.YtlopmkmcjcijcaaApp
namespace Go.Proofs.Ytlopmkmcjcijcaa
open Go.RowKit
set_option linter.unusedVariables false

theorem rests_ints {n P : Nat} (hn : n ≤ 140737488351232) (hp : P ≤ 65535) : wrap64 (40 + (P : Int)) = 40 + (P : Int) := by unfold wrap64; omega
theorem rests_le {n P : Nat} (h : 40 + P ≤ n) : 40 + (P : Int) ≤ (n : Int) := by omega
theorem rests_gt {n P : Nat} (h : ¬ 40 + P ≤ n) : (n : Int) < 40 + (P : Int) := by omega
set_option maxRecDepth 10000 in
set_option maxHeartbeats 6400000 in
theorem walk_SixheadRests (a0 : Option Addr) (len0 cap0 : Nat) (bs0 : List Nat) (a1 : Option Addr) (len1 cap1 : Nat) (bs1 : List Nat) (w : World) (R0 : Row w a0 len0 bs0) (hl0 : len0 ≤ cap0) (hc0 : cap0 ≤ 1048576) (R1 : Row w a1 len1 bs1) (hl1 : len1 ≤ cap1) (hc1 : cap1 ≤ 1048576) :
    Calls Try.prog 9 #[.slice a0 len0 cap0, .slice a1 len1 cap1] w fun e w' => e = .returned (.bool true) ∧ Below w.heap.size w w' := by
  have hn : len0 ≤ 140737488355328 := by omega
  have CR := Lib.hid (fun w hR => sxread_any a0 len0 cap0 bs0 w hn hl0 hR)
  unfold SxReadIs at CR
  have CT := Lib.hid (fun w hR => sxrest_any a0 len0 cap0 bs0 w hn hl0 hR)
  unfold SxRestIs at CT
  have CA := Lib.hid (fun w hR => sxall_any a0 len0 cap0 bs0 w hn hl0 hR)
  unfold SxAllIs at CA
  obtain ⟨Xl, Xo⟩ := sxval_all len0 bs0 R0.1
  have HL := Lib.hid (sxall_len len0 bs0)
  have HR := Lib.hid R0
  have HR1 := Lib.hid R1
  by_cases hd : sxdef len0 bs0 = 0
  · rw [hd] at CR
    obtain ⟨X, hX⟩ : ∃ X, X = sxval len0 bs0 := ⟨_, rfl⟩
    have HP : Hid (X[2]? = some (.int .i64 (sxPay bs0 : Nat))) := by show X[2]? = _; rw [hX]; exact (sxval_two hd).1
    rw [← hX] at Xl Xo CR
    have hP := sxPay_le bs0
    cases hr : sxrest len0 bs0 with
    | none =>
      have hno := sxrest_none hr hd
      rw [hr] at CT
      obtain ⟨P, hPe⟩ : ∃ P, P = sxPay bs0 := ⟨_, rfl⟩
      rw [← hPe] at HP hP hno
      have ip := rests_gt hno
      have CT : Hid (∀ (w : World), Row w a0 len0 bs0 → Calls Try.prog 33 #[.slice a0 len0 cap0] w fun e w' => ∃ v, e = .returned (.tuple #[v, .bool false]) ∧ ByteVal w' v [] ∧ Below w.heap.size w w') := CT
      clear hX hd hr hPe hno hn R0 R1 hl0 hc0 hl1 hc1
      go_enter Try.func9, Try.ntmps9
      go_wp2_with fail
      refine (CR.out _ HR.out).mono ?_
      rintro e w1 ⟨rfl, b1⟩
      obtain ⟨hst, hA, hb⟩ := six_stored w1 X Xl Xo
      go_upto_region 2 with fail
      clear hst
      obtain ⟨V1, eV⟩ : ∃ V, V = (w1.alloc (.cells (Value.int .i64 0 :: Value.int .i64 0 :: Value.int .i64 0 :: Value.int .i64 0 :: Value.int .i64 0 :: Value.int .u8 0 :: Value.int .u8 0 :: Value.int .u8 0 :: Value.int .u8 0 :: Value.int .u8 0 :: Value.int .u8 0 :: Value.int .u8 0 :: Value.int .u8 0 :: Value.int .u8 0 :: Value.int .u8 0 :: Value.int .u8 0 :: Value.int .u8 0 :: Value.int .u8 0 :: Value.int .u8 0 :: Value.int .u8 0 :: Value.int .u8 0 :: Value.int .u8 0 :: Value.int .u8 0 :: Value.int .u8 0 :: Value.int .u8 0 :: Value.int .u8 0 :: Value.int .u8 0 :: Value.int .u8 0 :: Value.int .u8 0 :: Value.int .u8 0 :: Value.int .u8 0 :: Value.int .u8 0 :: Value.int .u8 0 :: Value.int .u8 0 :: Value.int .u8 0 :: Value.int .u8 0 :: Value.int .u8 0 :: [] : List Value).toArray 51)).setCells w1.heap.size 0 X := ⟨_, rfl⟩
      obtain ⟨hA2, hb2⟩ := six_world w1 X V1 eV hA hb
      have hbb := below_both b1 hb2
      have AV1 := Lib.hid hA2
      rw [← eV]
      obtain ⟨g1, hg⟩ : ∃ g, g = w1.heap.size := ⟨_, rfl⟩
      rw [← hg] at AV1 ⊢
      clear eV hA hb hA2 hb2 hg
      have B1 := Lib.hid hbb
      clear hbb b1
      go_wp2_with fail
      refine (CT.out _ (HR.out.below B1.out)).mono ?_
      rintro e w3 ⟨v3, rfl, ⟨A3, c3, rfl, _, _⟩, b3⟩
      have AV1 := Lib.hid (AV1.out.below b3)
      have B3 := Lib.hid (below_both B1.out b3)
      have p2 := (AV1.out.get 2).trans HP.out
      clear b3 B1
      go_wp2_with fail
      refine (live12 _).mono ?_
      rintro e w5 ⟨rfl, b5⟩
      have B5 := Lib.hid (below_both B3.out b5)
      clear b5 B3 AV1 p2
      go_wp2_with fail
      go_ret
      exact ⟨rfl, B5.out⟩
    | some r =>
      obtain ⟨_, hfit, _, hrl⟩ := sxrest_some R0.1 hr
      obtain ⟨m1, m2⟩ := sx_more (m := len1) (ms := bs1) R0.1 hr
      rw [hr] at CT
      obtain ⟨P, hPe⟩ : ∃ P, P = sxPay bs0 := ⟨_, rfl⟩
      rw [← hPe] at HP hP hfit hrl
      have ip := rests_le hfit
      have CT : Hid (∀ (w : World), Row w a0 len0 bs0 → Calls Try.prog 33 #[.slice a0 len0 cap0] w fun e w' => ∃ v, e = .returned (.tuple #[v, .bool true]) ∧ ByteVal w' v r ∧ Below w.heap.size w w') := CT
      have hlen : (bs0 ++ bs1).length = len0 + len1 := by rw [List.length_append, R0.1, R1.1]
      have CM : Hid (∀ (A : Option Addr) (c : Nat) (w : World), (bs0 ++ bs1).length ≤ c → Row w A (bs0 ++ bs1).length (bs0 ++ bs1) → Calls Try.prog 33 #[.slice A (bs0 ++ bs1).length c] w fun e w' => ∃ v, e = .returned (.tuple #[v, .bool true]) ∧ ByteVal w' v r ∧ Below w.heap.size w w') := fun A c w h1 h2 => by
        rw [hlen] at h1 h2 ⊢
        have h := sxrest_any A (len0 + len1) c (bs0 ++ bs1) w (Nat.le_trans (Nat.add_le_add hl0 hl1) (by omega)) h1 h2
        rw [m1] at h
        exact h
      have CN : Hid (∀ (A : Option Addr) (c : Nat) (w : World), (bs0 ++ bs1).length ≤ c → Row w A (bs0 ++ bs1).length (bs0 ++ bs1) → Calls Try.prog 36 #[.slice A (bs0 ++ bs1).length c] w (SxAllIs (sxall len0 bs0) w)) := fun A c w h1 h2 => by
        rw [hlen] at h1 h2 ⊢
        have h := sxall_any A (len0 + len1) c (bs0 ++ bs1) w (Nat.le_trans (Nat.add_le_add hl0 hl1) (by omega)) h1 h2
        rw [m2] at h
        exact h
      unfold SxAllIs at CN
      have HBY : Hid (∀ x ∈ bs0 ++ bs1, x < 256) := fun x hx => by
        rcases List.mem_append.1 hx with h | h
        · exact R0.2.1 x h
        · exact R1.2.1 x h
      have HQ1 : Hid (([] : List Nat).length + len0 ≤ 140737488355328) := by show 0 + len0 ≤ _; omega
      have HQ2 : Hid (bs0.length + len1 ≤ 140737488355328) := by show _ ≤ _; rw [R0.1]; omega
      have HRL : Hid (r.length ≤ 9223372036854775807) := by show _ ≤ _; rw [hrl]; exact Nat.le_trans hP (by decide)
      obtain ⟨D, hD⟩ : ∃ D, D = sxall len0 bs0 := ⟨_, rfl⟩
      rw [← hD] at CA CN HL
      have rp : ((r.length : Int) == (P : Int)) = true := by rw [hrl]; simp
      have rp2 : ((r.length : Int) != (P : Int)) = false := by rw [hrl]; simp
      obtain ⟨q, hq⟩ : ∃ q, q = r.length := ⟨_, rfl⟩
      rw [← hq] at rp rp2 hrl
      obtain ⟨N, hN⟩ : ∃ N, N = (bs0 ++ bs1).length := ⟨_, rfl⟩
      rw [← hN] at CM CN
      have HNN := Lib.hid hN
      have HQE := Lib.hid hq
      clear hX hd hr hPe hfit hn R0 R1 hl0 hc0 hl1 hc1 hD m1 m2 hlen hrl hN hq
      go_enter Try.func9, Try.ntmps9
      go_wp2_with fail
      refine (CR.out _ HR.out).mono ?_
      rintro e w1 ⟨rfl, b1⟩
      obtain ⟨hst, hA, hb⟩ := six_stored w1 X Xl Xo
      go_upto_region 2 with fail
      clear hst
      obtain ⟨V1, eV⟩ : ∃ V, V = (w1.alloc (.cells (Value.int .i64 0 :: Value.int .i64 0 :: Value.int .i64 0 :: Value.int .i64 0 :: Value.int .i64 0 :: Value.int .u8 0 :: Value.int .u8 0 :: Value.int .u8 0 :: Value.int .u8 0 :: Value.int .u8 0 :: Value.int .u8 0 :: Value.int .u8 0 :: Value.int .u8 0 :: Value.int .u8 0 :: Value.int .u8 0 :: Value.int .u8 0 :: Value.int .u8 0 :: Value.int .u8 0 :: Value.int .u8 0 :: Value.int .u8 0 :: Value.int .u8 0 :: Value.int .u8 0 :: Value.int .u8 0 :: Value.int .u8 0 :: Value.int .u8 0 :: Value.int .u8 0 :: Value.int .u8 0 :: Value.int .u8 0 :: Value.int .u8 0 :: Value.int .u8 0 :: Value.int .u8 0 :: Value.int .u8 0 :: Value.int .u8 0 :: Value.int .u8 0 :: Value.int .u8 0 :: Value.int .u8 0 :: Value.int .u8 0 :: [] : List Value).toArray 51)).setCells w1.heap.size 0 X := ⟨_, rfl⟩
      obtain ⟨hA2, hb2⟩ := six_world w1 X V1 eV hA hb
      have hbb := below_both b1 hb2
      have AV1 := Lib.hid hA2
      rw [← eV]
      obtain ⟨g1, hg⟩ : ∃ g, g = w1.heap.size := ⟨_, rfl⟩
      rw [← hg] at AV1 ⊢
      clear eV hA hb hA2 hb2 hg
      have B1 := Lib.hid hbb
      clear hbb b1
      go_wp2_with fail
      refine (CT.out _ (HR.out.below B1.out)).mono ?_
      rintro e w3 ⟨v3, rfl, ⟨A3, c3, rfl, hc3, hr3⟩, b3⟩
      have AV1 := Lib.hid (AV1.out.below b3)
      have B3 := Lib.hid (below_both B1.out b3)
      have HC3 := Lib.hid hc3
      have R3 := Lib.hid hr3
      have p2 := (AV1.out.get 2).trans HP.out
      rw [← HQE.out]
      clear b3 B1 hc3 hr3
      have O0 : Hid (OutIs w3.heap.size (w3.alloc (.cells #[] 5)) (.slice (some ⟨w3.heap.size, 0, none⟩) 0 0) []) := OutIs.laid w3 [] w3.heap.size (Nat.le_refl _) (by decide)
      have Q5 : Hid (Below w3.heap.size w3 (w3.alloc (.cells #[] 5))) := (Below.refl _ _).alloc (Nat.le_refl _) _
      have RA := Lib.hid ((HR.out.below B3.out).below Q5.out)
      go_upto_region 9 with fail
      refine wp_region_lit ?_
      go_wp2_with (first
        | (at_builtin; refine wpList_append_row_any (B := w3.heap.size) (W := w3) rfl (.tmp 56) (.tmp 57) rfl rfl rfl rfl O0.out RA.out Q5.out Q5.out.size HQ1.out ?_; intro v6 w6 ho6 hb6; rw [List.nil_append] at ho6; have O6 := Lib.hid ho6; have Q6 := Lib.hid hb6; have RB := Lib.hid ((HR1.out.below B3.out).below hb6); have Z6 : Hid (w3.heap.size ≤ w6.heap.size) := hb6.size; clear ho6 hb6)
        | (at_builtin; refine wpList_append_row_any (B := w3.heap.size) (W := w3) rfl (.tmp 58) (.tmp 59) rfl rfl rfl rfl O6.out RB.out Q6.out Z6.out HQ2.out ?_; intro v7 w7 ho7 hb7; obtain ⟨A7, c7, rfl, h1, h2, h3⟩ := ho7.out HBY.out; rw [← HNN.out] at h1 h3 ⊢; have H7 := Lib.hid h1; have R7 := Lib.hid h3; have B7 := Lib.hid hb7; clear ho7 hb7 h1 h2 h3)
        | fail)
      refine (CM.out _ _ _ H7.out R7.out).mono ?_
      rintro e w8 ⟨v8, rfl, r8, b8⟩
      have hbb := below_both B7.out b8
      have R3 := Lib.hid (R3.out.below hbb)
      have R8 := Lib.hid r8
      have B8 := Lib.hid (below_both B3.out hbb)
      clear r8 b8 hbb B7 R7 H7 RB Q6 Z6 O6 RA Q5 O0 B3 AV1 p2
      have O0 : Hid (OutIs w8.heap.size (w8.alloc (.cells #[] 5)) (.slice (some ⟨w8.heap.size, 0, none⟩) 0 0) []) := OutIs.laid w8 [] w8.heap.size (Nat.le_refl _) (by decide)
      have Q5 : Hid (Below w8.heap.size w8 (w8.alloc (.cells #[] 5))) := (Below.refl _ _).alloc (Nat.le_refl _) _
      have RA := Lib.hid ((HR.out.below B8.out).below Q5.out)
      go_upto_region 10 with fail
      refine wp_region_lit ?_
      go_wp2_with (first
        | (at_builtin; refine wpList_append_row_any (B := w8.heap.size) (W := w8) rfl (.tmp 64) (.tmp 65) rfl rfl rfl rfl O0.out RA.out Q5.out Q5.out.size HQ1.out ?_; intro v6 w6 ho6 hb6; rw [List.nil_append] at ho6; have O6 := Lib.hid ho6; have Q6 := Lib.hid hb6; have RB := Lib.hid ((HR1.out.below B8.out).below hb6); have Z6 : Hid (w8.heap.size ≤ w6.heap.size) := hb6.size; clear ho6 hb6)
        | (at_builtin; refine wpList_append_row_any (B := w8.heap.size) (W := w8) rfl (.tmp 66) (.tmp 67) rfl rfl rfl rfl O6.out RB.out Q6.out Z6.out HQ2.out ?_; intro v9 w9 ho7 hb7; obtain ⟨A9, c9, rfl, h1, h2, h3⟩ := ho7.out HBY.out; rw [← HNN.out] at h1 h3 ⊢; have H7 := Lib.hid h1; have R7 := Lib.hid h3; have B7 := Lib.hid hb7; clear ho7 hb7 h1 h2 h3)
        | fail)
      refine (CN.out _ _ _ H7.out R7.out).mono ?_
      rintro e w10 ⟨v10, rfl, d10, b10⟩
      have hbb := below_both B7.out b10
      have R3 := Lib.hid (R3.out.below hbb)
      have R8 := Lib.hid (R8.out.below hbb)
      have B10 := Lib.hid (below_both B8.out hbb)
      have D10 := Lib.hid d10
      clear d10 b10 hbb B7 R7 H7 RB Q6 Z6 O6 RA Q5 O0 B8
      go_wp2_with fail
      refine (live12 _).mono ?_
      rintro e w11 ⟨rfl, b11⟩
      have R3 := Lib.hid (R3.out.below b11)
      have R8 := Lib.hid (R8.out.below b11)
      have D10 := Lib.hid (D10.out.below b11)
      have B11 := Lib.hid (below_both B10.out b11)
      clear b11 B10
      go_wp2_with fail
      refine (same_vals _ _ r _ HRL.out R8.out ⟨_, _, by rw [HQE.out], HC3.out, R3.out⟩).mono ?_
      rintro e w12 ⟨rfl, b12⟩
      have D10 := Lib.hid (D10.out.below b12)
      have B12 := Lib.hid (below_both B11.out b12)
      clear b12 B11 R3 R8
      go_wp2_with fail
      refine (CA.out _ (HR.out.below B12.out)).mono ?_
      rintro e w13 ⟨v13, rfl, d13, b13⟩
      have D10 := Lib.hid (D10.out.below b13)
      have D13 := Lib.hid d13
      have B13 := Lib.hid (below_both B12.out b13)
      clear b13 d13 B12
      go_wp2_with fail
      refine (samedefs D _ _ _ (Nat.le_trans HL.out (by decide)) D10.out D13.out).mono ?_
      rintro e w14 ⟨rfl, b14⟩
      have B14 := Lib.hid (below_both B13.out b14)
      clear b14 B13
      go_wp2_with fail
      go_ret
      exact ⟨rfl, B14.out⟩
  · have hr : sxrest len0 bs0 = none := by unfold sxrest; rw [if_neg (fun e => hd e.1)]
    rw [hr] at CT
    have CT : Hid (∀ (w : World), Row w a0 len0 bs0 → Calls Try.prog 33 #[.slice a0 len0 cap0] w fun e w' => ∃ v, e = .returned (.tuple #[v, .bool false]) ∧ ByteVal w' v [] ∧ Below w.heap.size w w') := CT
    obtain ⟨X, hX⟩ : ∃ X, X = sxval len0 bs0 := ⟨_, rfl⟩
    rw [← hX] at Xl Xo CR
    obtain ⟨d, hdd⟩ : ∃ d, d = sxdef len0 bs0 := ⟨_, rfl⟩
    rw [← hdd] at CR hd
    have d0 : ((d : Int) != 0) = true := bne_iff_ne.2 (by omega)
    clear hX hd hr hdd hn R0 R1 hl0 hc0 hl1 hc1
    go_enter Try.func9, Try.ntmps9
    go_wp2_with fail
    refine (CR.out _ HR.out).mono ?_
    rintro e w1 ⟨rfl, b1⟩
    obtain ⟨hst, hA, hb⟩ := six_stored w1 X Xl Xo
    go_upto_region 2 with fail
    clear hst
    obtain ⟨V1, eV⟩ : ∃ V, V = (w1.alloc (.cells (Value.int .i64 0 :: Value.int .i64 0 :: Value.int .i64 0 :: Value.int .i64 0 :: Value.int .i64 0 :: Value.int .u8 0 :: Value.int .u8 0 :: Value.int .u8 0 :: Value.int .u8 0 :: Value.int .u8 0 :: Value.int .u8 0 :: Value.int .u8 0 :: Value.int .u8 0 :: Value.int .u8 0 :: Value.int .u8 0 :: Value.int .u8 0 :: Value.int .u8 0 :: Value.int .u8 0 :: Value.int .u8 0 :: Value.int .u8 0 :: Value.int .u8 0 :: Value.int .u8 0 :: Value.int .u8 0 :: Value.int .u8 0 :: Value.int .u8 0 :: Value.int .u8 0 :: Value.int .u8 0 :: Value.int .u8 0 :: Value.int .u8 0 :: Value.int .u8 0 :: Value.int .u8 0 :: Value.int .u8 0 :: Value.int .u8 0 :: Value.int .u8 0 :: Value.int .u8 0 :: Value.int .u8 0 :: Value.int .u8 0 :: [] : List Value).toArray 51)).setCells w1.heap.size 0 X := ⟨_, rfl⟩
    obtain ⟨hA2, hb2⟩ := six_world w1 X V1 eV hA hb
    have hbb := below_both b1 hb2
    have AV1 := Lib.hid hA2
    rw [← eV]
    obtain ⟨g1, hg⟩ : ∃ g, g = w1.heap.size := ⟨_, rfl⟩
    rw [← hg] at AV1 ⊢
    clear eV hA hb hA2 hb2 hg
    have B1 := Lib.hid hbb
    clear hbb b1
    go_wp2_with fail
    refine (CT.out _ (HR.out.below B1.out)).mono ?_
    rintro e w3 ⟨v3, rfl, ⟨A3, c3, rfl, hc3, hr3⟩, b3⟩
    have B3 := Lib.hid (below_both B1.out b3)
    clear b3 B1 hc3 hr3
    go_wp2_with fail
    refine (live12 _).mono ?_
    rintro e w5 ⟨rfl, b5⟩
    have B5 := Lib.hid (below_both B3.out b5)
    clear b5 B3
    go_wp2_with fail
    go_ret
    exact ⟨rfl, B5.out⟩
end Go.Proofs.Ytlopmkmcjcijcaa
