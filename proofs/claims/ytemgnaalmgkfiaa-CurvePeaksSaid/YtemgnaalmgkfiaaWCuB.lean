/-
  The walks of CurveBreaks and CurveLeast.
  The walk of CurveLeast.
-/
import Derived.Test.YtemgnaalmgkfiaaLive29
namespace Go.Proofs.Ytemgnaalmgkfiaa
open Go.RowKit
set_option linter.unusedVariables false
attribute [local go_sem ↓] Go.wp_at_zero Go.wp_at_succ

theorem fvC_ok {o : Option Nat} {n : Nat} (hn : (n : Int) ≤ 17592186043904) (h : ∀ q, o = some q → q < n) : ∃ a b : Int, fvC o = [.int .i64 a, .int .i64 b] ∧ I64k a ∧ I64k b := by
  cases o with
  | none => exact ⟨0, 0, rfl, ⟨by decide, by decide⟩, ⟨by decide, by decide⟩⟩
  | some q =>
    have := h q rfl
    exact ⟨1, q, rfl, ⟨by decide, by decide⟩, ⟨by omega, by omega⟩⟩
theorem cuBad_lt {L : List Sm} {q : Nat} (h : cuBad L = some q) : q < L.length := by
  unfold cuBad at h
  rw [List.findIdx?_eq_some_iff_getElem] at h
  exact h.1
/-- The first 24 packets. -/
theorem cut24 {w : World} {A : Option Addr} {n cap : Nat} {L : List Sm} (h : SmRow w A n L) (hc : n ≤ cap) (m : Nat) : ∃ k, k = min n m ∧ SmRow w A k (L.take m) ∧ k ≤ cap ∧ k ≤ m := by
  refine ⟨min n m, rfl, ?_, by omega, by omega⟩
  have h1 := h.front (min n m) (by omega)
  have e : L.take (min n m) = L.take m := by
    rcases Nat.le_total n m with h2 | h2
    · rw [Nat.min_eq_left h2, List.take_of_length_le (by rw [h.1]; exact Nat.le_refl _), List.take_of_length_le (by rw [h.1]; exact h2)]
    · rw [Nat.min_eq_right h2]
  rw [e] at h1
  exact h1

set_option maxRecDepth 10000 in
set_option maxHeartbeats 4000000 in
theorem breaks24 (A : Option Addr) (n cap : Nat) (L : List Sm) (r bu : Nat) (w : World) (hn : n ≤ 24) (hr : r ≤ 18446744073709551615) (hbu : bu ≤ 18446744073709551615) (hcap : n ≤ cap) (hA : SmRow w A n L) :
    ∃ (i j : Nat) (ec ea : Int), I64k ec ∧ I64k ea ∧ (∀ w', SmRow w' A n L → Calls Try.prog 6 #[.slice A n cap, .int .u64 r, .int .u64 bu] w' fun e w'' => e = .returned (.tuple #[.int .i64 (i : Int), .int .i64 (j : Int), .agg #[.int .i64 ec, .int .i64 ea]]) ∧ Below w'.heap.size w' w'') ∧
      (∀ w', SmRow w' A n L → Calls Try.prog 7 #[.slice A n cap, .int .u64 r, .int .u64 bu] w' fun e w'' => e = .returned (.tuple #[.int .i64 (i : Int), .int .i64 (j : Int), .agg #[.int .i64 ec, .int .i64 ea]]) ∧ Below w'.heap.size w' w'') := by
  have key : ∃ (i j : Nat) (ec ea : Int), I64k ec ∧ I64k ea ∧ (match cuBad L with | some q => i = 0 ∧ j = 0 ∧ ec = 1 ∧ ea = (q : Int) | none => BRes L r (1000000000 * bu) n i j ec ea) := by
    cases hB : cuBad L with
    | some q =>
      have hq := cuBad_lt hB
      rw [hA.1] at hq
      exact ⟨0, 0, 1, q, ⟨by decide, by decide⟩, ⟨by omega, by omega⟩, rfl, rfl, rfl, rfl⟩
    | none =>
      by_cases hex : ∃ j, j < n ∧ 1000000000 * bu < cuExc L r j
      · obtain ⟨j, hj, hm, hmin⟩ : ∃ j, j < n ∧ 1000000000 * bu < cuExc L r j ∧ ∀ k, k < j → ¬ 1000000000 * bu < cuExc L r k := by
          obtain ⟨j, hj⟩ := hex
          induction j using Nat.strongRecOn with
          | ind j ih =>
            by_cases h : ∃ k, k < j ∧ 1000000000 * bu < cuExc L r k
            · obtain ⟨k, hk, hk2⟩ := h
              exact ih k hk ⟨by omega, hk2⟩
            · exact ⟨j, hj.1, hj.2, fun k hk h2 => h ⟨k, hk, h2⟩⟩
        obtain ⟨f, hf⟩ := beg_exists L r (1000000000 * bu) j (j + 1) (Nat.le_refl _)
        rw [Nat.sub_self] at hf
        obtain ⟨a1, a2, a3⟩ := hf
        refine ⟨f, j, 17, j, ⟨by decide, by decide⟩, ⟨by omega, by omega⟩, .inl ⟨⟨a1, ?_, fun i hi => a2 i (Nat.zero_le _) hi, hmin⟩, hj, rfl, rfl⟩⟩
        rcases a3 with ⟨_, h⟩ | ⟨_, h⟩
        · exact h
        · obtain ⟨i, hi, he⟩ := cuExc_has L r j
          have h2 := h i (Nat.zero_le _) hi
          rw [he] at h2
          exact absurd hm h2
      · exact ⟨0, 0, 0, 0, ⟨by decide, by decide⟩, ⟨by decide, by decide⟩, .inr ⟨fun k hk h => hex ⟨k, hk, h⟩, rfl, rfl, rfl, rfl⟩⟩
  obtain ⟨i, j, ec, ea, h1, h2, hk⟩ := key
  have same : ∀ {i' j' : Nat} {ec' ea' : Int}, (match cuBad L with | some q => i' = 0 ∧ j' = 0 ∧ ec' = 1 ∧ ea' = (q : Int) | none => BRes L r (1000000000 * bu) n i' j' ec' ea') → i' = i ∧ j' = j ∧ ec' = ec ∧ ea' = ea := by
    intro i' j' ec' ea' h
    cases hB : cuBad L with
    | some q =>
      rw [hB] at h hk
      obtain ⟨a, b, c, d⟩ := h
      obtain ⟨a', b', c', d'⟩ := hk
      exact ⟨a.trans a'.symm, b.trans b'.symm, c.trans c'.symm, d.trans d'.symm⟩
    | none =>
      rw [hB] at h hk
      exact bres_same h hk
  refine ⟨i, j, ec, ea, h1, h2, fun w' hw => ?_, fun w' hw => ?_⟩
  · refine (cbreaks_any A n cap L r bu w' (by omega) hr hbu hcap hw).mono ?_
    rintro e w'' ⟨i', j', ec', ea', rfl, hm, hb⟩
    obtain ⟨rfl, rfl, rfl, rfl⟩ := same hm
    exact ⟨rfl, hb⟩
  · refine (rbreaks_any A n cap L r bu w' (by omega) hr hbu hcap hw).mono ?_
    rintro e w'' ⟨i', j', ec', ea', rfl, hm, hb⟩
    obtain ⟨rfl, rfl, rfl, rfl⟩ := same hm
    exact ⟨rfl, hb⟩

set_option maxRecDepth 10000 in
set_option maxHeartbeats 4000000 in
theorem walk_CurveBreaks (A : Option Addr) (n cap : Nat) (L : List Sm) (r bu : Nat) (w : World) (hA : SmRow w A n L) (hn : n ≤ 8796093022208) (hcap : n ≤ cap) (hr : r ≤ 18446744073709551615) (hbu : bu ≤ 18446744073709551615) :
    Calls Try.prog 3 #[.slice A n cap, .int .u64 r, .int .u64 bu] w fun e w' => e = .returned (.bool true) ∧ Below w.heap.size w w' := by
  obtain ⟨k, hk, hB, hkc, hk24⟩ := cut24 hA hcap 24
  obtain ⟨i, j, ec, ea, h1, h2, CP0, CR0⟩ := breaks24 A k cap (L.take 24) r bu w hk24 hr hbu hkc hB
  obtain ⟨fa, fb, hfv, h3, h4⟩ := fvC_ok (o := cuBad (L.take 24)) (n := k) (by omega) (fun q hq => by have := cuBad_lt hq; rw [hB.1] at this; exact this)
  obtain ⟨T, hT⟩ : ∃ T, T = cuTotal (L.take 24) := ⟨_, rfl⟩
  have CP := Lib.hid CP0
  have CR := Lib.hid CR0
  have CT : Hid (∀ w', SmRow w' A k (L.take 24) → Calls Try.prog 8 #[.slice A k cap] w' fun e w'' => e = .returned (.tuple #[.int .i64 (T : Int), .agg #[.int .i64 fa, .int .i64 fb]]) ∧ Below w'.heap.size w' w'') := fun w' h => by
    have q := ctotal_any A k cap _ w' (by omega) h
    rw [hfv, ← hT] at q
    exact q
  have CU : Hid (∀ w', SmRow w' A k (L.take 24) → Calls Try.prog 9 #[.slice A k cap] w' fun e w'' => e = .returned (.tuple #[.int .i64 (T : Int), .agg #[.int .i64 fa, .int .i64 fb]]) ∧ Below w'.heap.size w' w'') := fun w' h => by
    have q := rtotal_any A k cap _ w' (by omega) h
    rw [hfv, ← hT] at q
    exact q
  have E0 := fun w => fault_eq h1 h2 h1 h2 w
  have E1 := fun w => fault_eq h3 h4 h3 h4 w
  simp only [and_self, decide_true] at E0 E1
  have HB := Lib.hid hB
  have HKV := Lib.hid hk
  have key : ∀ (A0 : Act), True := fun _ => trivial
  clear key
  have CV := Lib.hid (fun w => live29_any w)
  have main : ∀ (n : Nat), Hid (n = k) → True := fun _ _ => trivial
  clear main
  clear CP0 CR0 h1 h2 h3 h4 hfv hT hA hB hk24 hr hbu
  go_enter Try.func3, Try.ntmps3
  by_cases h24 : n ≤ 24
  · obtain rfl : k = n := by rw [hk]; omega
    have hni : ¬ (24 : Int) < (k : Int) := by omega
    clear hk h24 hn hcap hkc HKV
    go_upto_region 4 with (first | (go_at_call 6; refine (CP.out _ HB.out).mono ?_; rintro e w1 ⟨rfl, b1⟩) | fail)
    have K1 := Lib.hid ((KV.nil w).below b1 |>.new 26 [.int .i64 ec, .int .i64 ea])
    simp only [List.cons_append, List.nil_append] at K1
    clear b1
    generalize w1.heap.size = g1 at *
    generalize w1.alloc (.cells #[.int .i64 ec, .int .i64 ea] 26) = W1 at *
    have R1 := Lib.hid (HB.out.below K1.out.bel)
    go_upto_region 5 with (first | (go_at_call 7; refine (CR.out _ R1.out).mono ?_; rintro e w2 ⟨rfl, b2⟩) | fail)
    have K2 := Lib.hid ((K1.out.below b2).new 26 [.int .i64 ec, .int .i64 ea])
    simp only [List.cons_append, List.nil_append] at K2
    clear b2 K1 R1
    generalize w2.heap.size = g2 at *
    generalize w2.alloc (.cells #[.int .i64 ec, .int .i64 ea] 26) = W2 at *
    have R2 := Lib.hid (HB.out.below K2.out.bel)
    go_upto_region 6 with (first | (go_at_call 8; refine (CT.out _ R2.out).mono ?_; rintro e w3 ⟨rfl, b3⟩) | fail)
    have K3 := Lib.hid ((K2.out.below b3).new 26 [.int .i64 fa, .int .i64 fb])
    simp only [List.cons_append, List.nil_append] at K3
    clear b3 K2 R2
    generalize w3.heap.size = g3 at *
    generalize w3.alloc (.cells #[.int .i64 fa, .int .i64 fb] 26) = W3 at *
    have R3 := Lib.hid (HB.out.below K3.out.bel)
    go_upto_region 7 with (first | (go_at_call 9; refine (CU.out _ R3.out).mono ?_; rintro e w4 ⟨rfl, b4⟩) | fail)
    have K4 := Lib.hid ((K3.out.below b4).new 26 [.int .i64 fa, .int .i64 fb])
    simp only [List.cons_append, List.nil_append] at K4
    clear b4 K3 R3
    generalize w4.heap.size = g4 at *
    generalize w4.alloc (.cells #[.int .i64 fa, .int .i64 fb] 26) = W4 at *
    go_wp2_with (first | (go_at_call 10; refine (CV.out _).mono ?_; rintro e w5 ⟨rfl, b5⟩; have K5 := Lib.hid (K4.out.below b5); have p0 := (K5.out.at 0 rfl).get 0; have p1 := (K5.out.at 0 rfl).get 1; have p2 := (K5.out.at 1 rfl).get 0; have p3 := (K5.out.at 1 rfl).get 1; have p4 := (K5.out.at 2 rfl).get 0; have p5 := (K5.out.at 2 rfl).get 1; have p6 := (K5.out.at 3 rfl).get 0; have p7 := (K5.out.at 3 rfl).get 1; simp at p0 p1 p2 p3 p4 p5 p6 p7) | fail)
    go_ret
    exact ⟨rfl, K5.out.bel⟩
  · obtain rfl : k = 24 := by rw [hk]; omega
    have hni : (24 : Int) < (n : Int) := by omega
    have hci : (24 : Int) ≤ (cap : Int) := by omega
    clear hk h24 hn hcap hkc HKV
    go_upto_region 4 with (first | (go_at_call 6; refine (CP.out _ HB.out).mono ?_; rintro e w1 ⟨rfl, b1⟩) | fail)
    have K1 := Lib.hid ((KV.nil w).below b1 |>.new 26 [.int .i64 ec, .int .i64 ea])
    simp only [List.cons_append, List.nil_append] at K1
    clear b1
    generalize w1.heap.size = g1 at *
    generalize w1.alloc (.cells #[.int .i64 ec, .int .i64 ea] 26) = W1 at *
    have R1 := Lib.hid (HB.out.below K1.out.bel)
    go_upto_region 5 with (first | (go_at_call 7; refine (CR.out _ R1.out).mono ?_; rintro e w2 ⟨rfl, b2⟩) | fail)
    have K2 := Lib.hid ((K1.out.below b2).new 26 [.int .i64 ec, .int .i64 ea])
    simp only [List.cons_append, List.nil_append] at K2
    clear b2 K1 R1
    generalize w2.heap.size = g2 at *
    generalize w2.alloc (.cells #[.int .i64 ec, .int .i64 ea] 26) = W2 at *
    have R2 := Lib.hid (HB.out.below K2.out.bel)
    go_upto_region 6 with (first | (go_at_call 8; refine (CT.out _ R2.out).mono ?_; rintro e w3 ⟨rfl, b3⟩) | fail)
    have K3 := Lib.hid ((K2.out.below b3).new 26 [.int .i64 fa, .int .i64 fb])
    simp only [List.cons_append, List.nil_append] at K3
    clear b3 K2 R2
    generalize w3.heap.size = g3 at *
    generalize w3.alloc (.cells #[.int .i64 fa, .int .i64 fb] 26) = W3 at *
    have R3 := Lib.hid (HB.out.below K3.out.bel)
    go_upto_region 7 with (first | (go_at_call 9; refine (CU.out _ R3.out).mono ?_; rintro e w4 ⟨rfl, b4⟩) | fail)
    have K4 := Lib.hid ((K3.out.below b4).new 26 [.int .i64 fa, .int .i64 fb])
    simp only [List.cons_append, List.nil_append] at K4
    clear b4 K3 R3
    generalize w4.heap.size = g4 at *
    generalize w4.alloc (.cells #[.int .i64 fa, .int .i64 fb] 26) = W4 at *
    go_wp2_with (first | (go_at_call 10; refine (CV.out _).mono ?_; rintro e w5 ⟨rfl, b5⟩; have K5 := Lib.hid (K4.out.below b5); have p0 := (K5.out.at 0 rfl).get 0; have p1 := (K5.out.at 0 rfl).get 1; have p2 := (K5.out.at 1 rfl).get 0; have p3 := (K5.out.at 1 rfl).get 1; have p4 := (K5.out.at 2 rfl).get 0; have p5 := (K5.out.at 2 rfl).get 1; have p6 := (K5.out.at 3 rfl).get 0; have p7 := (K5.out.at 3 rfl).get 1; simp at p0 p1 p2 p3 p4 p5 p6 p7) | fail)
    go_ret
    exact ⟨rfl, K5.out.bel⟩
end Go.Proofs.Ytemgnaalmgkfiaa

namespace Go.Proofs.Ytemgnaalmgkfiaa
open Go.RowKit
set_option linter.unusedVariables false
attribute [local go_sem ↓] Go.wp_at_zero Go.wp_at_succ

set_option maxRecDepth 10000 in
set_option maxHeartbeats 4000000 in
theorem walk_CurveLeast (A : Option Addr) (n cap : Nat) (L : List Sm) (r : Nat) (Ac : Option Addr) (nc cc : Nat) (C : List Int) (w : World) (hA : SmRow w A n L) (hn : n ≤ 8796093022208) (hcap : n ≤ cap) (hr : r ≤ 18446744073709551615) (hC : RowZ w Ac nc C) (_hl : nc ≤ cc) (_hc : cc ≤ 17592186043904) :
    Calls Try.prog 4 #[.slice A n cap, .int .u64 r, .slice Ac nc cc] w fun e w' => e = .returned (.bool true) ∧ Below w.heap.size w w' := by
  obtain ⟨k, hk, hB, hkc, hk24⟩ := cut24 hA hcap 24
  obtain ⟨fa, fb, hfv, h3, h4⟩ := fvC_ok (o := cuBad (L.take 24)) (n := k) (by omega) (fun q hq => by have := cuBad_lt hq; rw [hB.1] at this; exact this)
  obtain ⟨T, hT⟩ : ∃ T, T = cuLeast (L.take 24) r := ⟨_, rfl⟩
  obtain ⟨wo, hwo⟩ : ∃ x, x = (nc : Int) % 3 := ⟨_, rfl⟩
  have CP : Hid (∀ w', SmRow w' A k (L.take 24) → Calls Try.prog 11 #[.slice A k cap, .int .u64 r] w' fun e w'' => e = .returned (.tuple #[.int .u64 (T : Int), .agg #[.int .i64 fa, .int .i64 fb]]) ∧ Below w'.heap.size w' w'') := fun w' h => by
    have q := cleast_any A k cap _ r w' (by omega) hr h
    rw [hfv, ← hT] at q
    exact q
  have CR : Hid (∀ w', SmRow w' A k (L.take 24) → Calls Try.prog 12 #[.slice A k cap, .int .u64 r] w' fun e w'' => e = .returned (.tuple #[.int .u64 (T : Int), .agg #[.int .i64 fa, .int .i64 fb]]) ∧ Below w'.heap.size w' w'') := fun w' h => by
    have q := rleast_any A k cap _ r w' (by omega) hr hkc h
    rw [hfv, ← hT] at q
    exact q
  have CO : Hid (∀ w', SmRow w' A k (L.take 24) → RowZ w' Ac nc C → Calls Try.prog 14 #[.slice A k cap, .slice Ac nc cc, .int .i64 wo] w' fun e w'' => ∃ O c, e = .returned (.slice O k c) ∧ SmRow w'' O k (cuOnly (L.take 24) C wo) ∧ Below w'.heap.size w' w'') := fun w' h hc => by
    refine (conly_any A k cap _ Ac nc cc C wo w' (by omega) h hc).mono ?_
    rintro e w'' ⟨v, rfl, ⟨O, c, rfl, _, hr⟩, hb⟩
    rw [cuOnly_len, hB.1] at hr ⊢
    exact ⟨O, c, rfl, hr, hb⟩
  have CQ : Hid (∀ w', SmRow w' A k (L.take 24) → RowZ w' Ac nc C → Calls Try.prog 15 #[.slice A k cap, .slice Ac nc cc, .int .i64 wo] w' fun e w'' => ∃ O c, e = .returned (.slice O k c) ∧ SmRow w'' O k (cuOnly (L.take 24) C wo) ∧ Below w'.heap.size w' w'') := fun w' h hc => by
    refine (ronly_any A k cap _ Ac nc cc C wo w' (by omega) h hc).mono ?_
    rintro e w'' ⟨v, rfl, ⟨O, c, rfl, _, hr⟩, hb⟩
    rw [cuOnly_len, hB.1] at hr ⊢
    exact ⟨O, c, rfl, hr, hb⟩
  have CS := Lib.hid (fun A B c d L w (h1 : SmRow w A k L) (h2 : SmRow w B k L) => same_yes A B k c d L w (by omega) h1 h2)
  have E1 := fun w => fault_eq h3 h4 h3 h4 w
  simp only [and_self, decide_true] at E1
  have HB := Lib.hid hB
  have HC := Lib.hid hC
  have CV := Lib.hid (fun w => live29_any w)
  clear h3 h4 hfv hT hA hB hk24 hr hC _hl _hc
  go_enter Try.func4, Try.ntmps4
  by_cases h24 : n ≤ 24
  · obtain rfl : k = n := by rw [hk]; omega
    have hni : ¬ (24 : Int) < (k : Int) := by omega
    clear hk h24 hn hcap hkc
    go_upto_region 4 with (first | (go_at_call 11; refine (CP.out _ HB.out).mono ?_; rintro e w1 ⟨rfl, b1⟩) | fail)
    have K1 := Lib.hid ((KV.nil w).below b1 |>.new 26 [.int .i64 fa, .int .i64 fb])
    simp only [List.cons_append, List.nil_append] at K1
    clear b1
    generalize w1.heap.size = g1 at *
    generalize w1.alloc (.cells #[.int .i64 fa, .int .i64 fb] 26) = W1 at *
    have R1 := Lib.hid (HB.out.below K1.out.bel)
    go_upto_region 5 with (first | (go_at_call 12; refine (CR.out _ R1.out).mono ?_; rintro e w2 ⟨rfl, b2⟩) | fail)
    have K2 := Lib.hid ((K1.out.below b2).new 26 [.int .i64 fa, .int .i64 fb])
    simp only [List.cons_append, List.nil_append] at K2
    clear b2 K1 R1
    generalize w2.heap.size = g2 at *
    generalize w2.alloc (.cells #[.int .i64 fa, .int .i64 fb] 26) = W2 at *
    go_upto_region 6 with fail
    rw [← hwo]
    clear hwo
    go_wp2_with (first | (go_at_call 10; refine (CV.out _).mono ?_; rintro e w5 ⟨rfl, b5⟩; have K5 := Lib.hid (K2.out.below b5); have p0 := (K5.out.at 0 rfl).get 0; have p1 := (K5.out.at 0 rfl).get 1; have p2 := (K5.out.at 1 rfl).get 0; have p3 := (K5.out.at 1 rfl).get 1; simp at p0 p1 p2 p3; have RA := Lib.hid (HB.out.below K5.out.bel); have RC := Lib.hid (HC.out.below K5.out.bel)) | (go_at_call 14; refine (CO.out _ RA.out RC.out).mono ?_; rintro e w6 ⟨O1, c1, rfl, hO1, b6⟩; have B6 := Lib.hid (below_both K5.out.bel b6); have HO1 := Lib.hid hO1; have RA2 := Lib.hid (HB.out.below B6.out); have RC2 := Lib.hid (HC.out.below B6.out); clear hO1) | (go_at_call 15; refine (CQ.out _ RA2.out RC2.out).mono ?_; rintro e w7 ⟨O2, c2, rfl, hO2, b7⟩; have HO2 := Lib.hid hO2; have HO1' := Lib.hid (HO1.out.below b7); have B7 := Lib.hid (below_both B6.out b7); clear hO2) | (go_at_call 13; refine (CS.out _ _ _ _ _ _ HO1'.out HO2.out).mono ?_; rintro e w8 ⟨rfl, b8⟩) | fail)
    go_ret
    exact ⟨rfl, below_both B7.out b8⟩
  · obtain rfl : k = 24 := by rw [hk]; omega
    have hni : (24 : Int) < (n : Int) := by omega
    have hci : (24 : Int) ≤ (cap : Int) := by omega
    clear hk h24 hn hcap hkc
    go_upto_region 4 with (first | (go_at_call 11; refine (CP.out _ HB.out).mono ?_; rintro e w1 ⟨rfl, b1⟩) | fail)
    have K1 := Lib.hid ((KV.nil w).below b1 |>.new 26 [.int .i64 fa, .int .i64 fb])
    simp only [List.cons_append, List.nil_append] at K1
    clear b1
    generalize w1.heap.size = g1 at *
    generalize w1.alloc (.cells #[.int .i64 fa, .int .i64 fb] 26) = W1 at *
    have R1 := Lib.hid (HB.out.below K1.out.bel)
    go_upto_region 5 with (first | (go_at_call 12; refine (CR.out _ R1.out).mono ?_; rintro e w2 ⟨rfl, b2⟩) | fail)
    have K2 := Lib.hid ((K1.out.below b2).new 26 [.int .i64 fa, .int .i64 fb])
    simp only [List.cons_append, List.nil_append] at K2
    clear b2 K1 R1
    generalize w2.heap.size = g2 at *
    generalize w2.alloc (.cells #[.int .i64 fa, .int .i64 fb] 26) = W2 at *
    go_upto_region 6 with fail
    rw [← hwo]
    clear hwo
    go_wp2_with (first | (go_at_call 10; refine (CV.out _).mono ?_; rintro e w5 ⟨rfl, b5⟩; have K5 := Lib.hid (K2.out.below b5); have p0 := (K5.out.at 0 rfl).get 0; have p1 := (K5.out.at 0 rfl).get 1; have p2 := (K5.out.at 1 rfl).get 0; have p3 := (K5.out.at 1 rfl).get 1; simp at p0 p1 p2 p3; have RA := Lib.hid (HB.out.below K5.out.bel); have RC := Lib.hid (HC.out.below K5.out.bel)) | (go_at_call 14; refine (CO.out _ RA.out RC.out).mono ?_; rintro e w6 ⟨O1, c1, rfl, hO1, b6⟩; have B6 := Lib.hid (below_both K5.out.bel b6); have HO1 := Lib.hid hO1; have RA2 := Lib.hid (HB.out.below B6.out); have RC2 := Lib.hid (HC.out.below B6.out); clear hO1) | (go_at_call 15; refine (CQ.out _ RA2.out RC2.out).mono ?_; rintro e w7 ⟨O2, c2, rfl, hO2, b7⟩; have HO2 := Lib.hid hO2; have HO1' := Lib.hid (HO1.out.below b7); have B7 := Lib.hid (below_both B6.out b7); clear hO2) | (go_at_call 13; refine (CS.out _ _ _ _ _ _ HO1'.out HO2.out).mono ?_; rintro e w8 ⟨rfl, b8⟩) | fail)
    go_ret
    exact ⟨rfl, below_both B7.out b8⟩
end Go.Proofs.Ytemgnaalmgkfiaa
