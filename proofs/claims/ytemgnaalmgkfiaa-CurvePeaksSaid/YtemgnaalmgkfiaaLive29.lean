/-
  What the statements of layer 29 ask whatever is asked.
-/
import Derived.Test.YtemgnaalmgkfiaaCu6
import Derived.Test.YtemgnaalmgkfiaaCu7
namespace Go.Proofs.Ytemgnaalmgkfiaa
open Go.RowKit
set_option linter.unusedVariables false
attribute [local go_sem ↓] Go.wp_at_zero Go.wp_at_succ

def l29 : List Sm := [⟨0, 1000⟩, ⟨500000000, 700⟩, ⟨400000000, 300⟩]
def o29 : List Sm := [⟨0, 1000⟩, ⟨500000000, 0⟩, ⟨400000000, 0⟩]
theorem l29_bad : cuBad l29 = none := by decide +kernel
theorem l29_total : cuTotal l29 = 2000 := by decide +kernel
theorem l29_least : cuLeast l29 1000 = 1500 := by decide +kernel
theorem l29_only : cuOnly l29 [0, 1] 0 = o29 := by
  show [onAt l29 [0, 1] 0 0, onAt l29 [0, 1] 0 1, onAt l29 [0, 1] 0 2] = o29
  rfl
theorem n29_bad : cuBad [⟨0, -1⟩] = some 0 := by decide +kernel
theorem n29_least : cuLeast [⟨0, -1⟩] 5 = 0 := by decide +kernel
theorem l29_yes : BRes l29 1000 (1000000000 * 1499) 3 0 2 17 2 := by
  refine .inl ⟨⟨by decide, by decide +kernel, fun i hi => absurd hi (by omega), fun j hj => ?_⟩, by decide, rfl, rfl⟩
  rcases (by omega : j = 0 ∨ j = 1) with rfl | rfl <;> decide +kernel
theorem l29_no : BRes l29 1000 (1000000000 * 1500) 3 0 0 0 0 := by
  refine .inr ⟨fun j hj => ?_, rfl, rfl, rfl, rfl⟩
  rcases (by omega : j = 0 ∨ j = 1 ∨ j = 2) with rfl | rfl | rfl <;> decide +kernel
theorem sm_ok {t : Nat} {z : Int} (h0 : t ≤ 18446744073709551615) (h1 : -9223372036854775808 ≤ z) (h2 : z ≤ 9223372036854775807) : SmOk ⟨t, z⟩ := ⟨h0, ⟨h1, h2⟩⟩
theorem l29_ok : ∀ s ∈ l29, SmOk s := by
  intro s hs
  simp [l29] at hs
  rcases hs with rfl | rfl | rfl <;> exact sm_ok (by decide) (by decide) (by decide)
theorem o29_ok : ∀ s ∈ o29, SmOk s := by
  intro s hs
  simp [o29] at hs
  rcases hs with rfl | rfl | rfl <;> exact sm_ok (by decide) (by decide) (by decide)
theorem n29_ok : ∀ s ∈ [(⟨0, -1⟩ : Sm)], SmOk s := by
  intro s hs
  simp at hs
  subst hs
  exact sm_ok (by decide) (by decide) (by decide)
section
variable {A : Option Addr} {w : World}
theorem live_total (c : Nat) (h : SmRow w A 3 l29) : Calls Try.prog 8 #[.slice A 3 c] w fun e w' => e = .returned (.tuple #[.int .i64 2000, .agg #[.int .i64 0, .int .i64 0]]) ∧ Below w.heap.size w w' := by
  have k := ctotal_any A 3 c l29 w (by decide) h
  rw [l29_bad, l29_total] at k
  exact k
theorem live_yes (h : SmRow w A 3 l29) : Calls Try.prog 6 #[.slice A 3 3, .int .u64 1000, .int .u64 1499] w fun e w' => e = .returned (.tuple #[.int .i64 0, .int .i64 2, .agg #[.int .i64 17, .int .i64 2]]) ∧ Below w.heap.size w w' := by
  refine (cbreaks_any A 3 3 l29 1000 1499 w (by decide) (by decide) (by decide) (by decide) h).mono ?_
  rintro e w' ⟨i, j, ec, ea, rfl, hb, hw⟩
  rw [l29_bad] at hb
  obtain ⟨rfl, rfl, rfl, rfl⟩ := bres_same hb l29_yes
  exact ⟨rfl, hw⟩
theorem live_no (h : SmRow w A 3 l29) : Calls Try.prog 6 #[.slice A 3 3, .int .u64 1000, .int .u64 1500] w fun e w' => e = .returned (.tuple #[.int .i64 0, .int .i64 0, .agg #[.int .i64 0, .int .i64 0]]) ∧ Below w.heap.size w w' := by
  refine (cbreaks_any A 3 3 l29 1000 1500 w (by decide) (by decide) (by decide) (by decide) h).mono ?_
  rintro e w' ⟨i, j, ec, ea, rfl, hb, hw⟩
  rw [l29_bad] at hb
  obtain ⟨rfl, rfl, rfl, rfl⟩ := bres_same hb l29_no
  exact ⟨rfl, hw⟩
theorem live_least (h : SmRow w A 3 l29) : Calls Try.prog 11 #[.slice A 3 3, .int .u64 1000] w fun e w' => e = .returned (.tuple #[.int .u64 1500, .agg #[.int .i64 0, .int .i64 0]]) ∧ Below w.heap.size w w' := by
  have k := cleast_any A 3 3 l29 1000 w (by decide) (by decide) h
  rw [l29_bad, l29_least] at k
  exact k
theorem live_neg (h : SmRow w A 1 [⟨0, -1⟩]) : Calls Try.prog 11 #[.slice A 1 1, .int .u64 5] w fun e w' => e = .returned (.tuple #[.int .u64 0, .agg #[.int .i64 1, .int .i64 0]]) ∧ Below w.heap.size w w' := by
  have k := cleast_any A 1 1 [⟨0, -1⟩] 5 w (by decide) (by decide) h
  rw [n29_bad, n29_least] at k
  exact k
theorem live_only (h : SmRow w A 3 l29) {B : Option Addr} (hB : RowZ w B 2 [0, 1]) : Calls Try.prog 14 #[.slice A 3 3, .slice B 2 2, .int .i64 0] w fun e w' => ∃ O c, e = .returned (.slice O 3 c) ∧ SmRow w' O 3 o29 ∧ Below w.heap.size w w' := by
  refine (conly_any A 3 3 l29 B 2 2 [0, 1] 0 w (by decide) h hB).mono ?_
  rintro e w' ⟨v, rfl, ⟨O, c, rfl, hc, hr⟩, hb⟩
  rw [l29_only] at hr ⊢
  exact ⟨O, c, rfl, hr, hb⟩
end
theorem guard_fault : NoGuard 26 := guard_of _ (by kernel_rfl)
theorem cells_fault : Try.prog.cellsOf 26 = 2 := by kernel_rfl
theorem cells_errno : Try.prog.cellsOf 24 = 1 := by kernel_rfl
theorem key_errno (d : Nat) {n : Int} (h : I64k n) : Try.prog.keyLits (d + 1) 24 [.int .i64 n] = some [.int .i64 n] := by
  unfold Program.keyLits
  rw [Try.underlying24]
  simp [lit_i64s h]
theorem key_fault {a b : Int} (ha : I64k a) (hb : I64k b) : Try.prog.keyLits 3 26 [.int .i64 a, .int .i64 b] = some [.int .i64 a, .int .i64 b] := by
  have k0 := key_errno 1 ha
  have k1 := key_i64s 1 hb
  unfold Program.keyLits
  rw [Try.underlying26]
  simp [cells_fault, cells_errno, cells_i64s, k0, k1]
/-- Two faults: '==' tells whether they are one. -/
theorem fault_eq {a b c d : Int} (ha : I64k a) (hb : I64k b) (hc : I64k c) (hd : I64k d) (w : World) :
    (Op.equalIn 10000 26 (.agg #[.int .i64 a, .int .i64 b]) (.agg #[.int .i64 c, .int .i64 d])).run Try.prog w = .ok (decide (a = c ∧ b = d)) w := by
  have hf : ∀ a b : Int, (Value.agg #[.int .i64 a, .int .i64 b]).formed Try.prog 26 = true := fun a b => by simp [Value.formed, Try.underlying26, cells_fault]
  obtain ⟨r, hr, hi⟩ := run_equalIn_deep (P := Try.prog) 9990 10 26 (by kernel_rfl) w 3 3 (.agg #[.int .i64 a, .int .i64 b]) (.agg #[.int .i64 c, .int .i64 d]) _ _ (hf a b) (hf c d) (by simpa [Value.cells] using key_fault ha hb) (by simpa [Value.cells] using key_fault hc hd)
  rw [hr]
  congr 1
  cases r with
  | true =>
    have h := hi.1 rfl
    injection h with h0 h
    injection h with h1 _
    injection h0 with _ h0
    injection h1 with _ h1
    exact (decide_eq_true ⟨h0, h1⟩).symm
  | false =>
    refine (decide_eq_false fun h => ?_).symm
    have := hi.2 (by rw [h.1, h.2])
    cases this
/-- .. as an operation. -/
theorem run_fault_eql {a b c d : Int} (ha : I64k a) (hb : I64k b) (hc : I64k c) (hd : I64k d) (w : World) : (Op.equal 26 (.agg #[.int .i64 a, .int .i64 b]) (.agg #[.int .i64 c, .int .i64 d])).run Try.prog w = .ok (decide (a = c ∧ b = d)) w := fault_eq ha hb hc hd w

set_option maxRecDepth 10000 in
set_option maxHeartbeats 4000000 in
theorem live29_any (w : World) : Calls Try.prog 10 #[] w fun e w' => e = .returned (.bool true) ∧ Below w.heap.size w w' := by
  go_enter Try.func10, Try.ntmps10
  have K0 := Lib.hid (KV.one w 55 (smcells l29))
  have R0 := Lib.hid ((K0.out.at 0 rfl).smrow l29_ok)
  go_upto_region 3 with (first | (go_at_call 8; refine (live_total _ R0.out).mono ?_; rintro e w1 ⟨rfl, b1⟩) | fail)
  have K1 := Lib.hid ((K0.out.below b1).new 26 [.int .i64 0, .int .i64 0])
  simp only [List.cons_append, List.nil_append] at K1
  have R1 := Lib.hid ((K1.out.at 0 rfl).smrow l29_ok)
  clear b1 K0 R0
  generalize w1.heap.size = g1 at *
  generalize w1.alloc (.cells #[.int .i64 0, .int .i64 0] 26) = W1 at *
  go_upto_region 4 with (first | (go_at_call 6; refine (live_yes R1.out).mono ?_; rintro e w2 ⟨rfl, b2⟩) | fail)
  have K2 := Lib.hid ((K1.out.below b2).new 26 [.int .i64 17, .int .i64 2])
  simp only [List.cons_append, List.nil_append] at K2
  have R2 := Lib.hid ((K2.out.at 0 rfl).smrow l29_ok)
  clear b2 K1 R1
  generalize w2.heap.size = g2 at *
  generalize w2.alloc (.cells #[.int .i64 17, .int .i64 2] 26) = W2 at *
  go_upto_region 5 with (first | (go_at_call 6; refine (live_no R2.out).mono ?_; rintro e w3 ⟨rfl, b3⟩) | fail)
  have K3 := Lib.hid ((K2.out.below b3).new 26 [.int .i64 0, .int .i64 0])
  simp only [List.cons_append, List.nil_append] at K3
  have R3 := Lib.hid ((K3.out.at 0 rfl).smrow l29_ok)
  clear b3 K2 R2
  generalize w3.heap.size = g3 at *
  generalize w3.alloc (.cells #[.int .i64 0, .int .i64 0] 26) = W3 at *
  go_upto_region 6 with (first | (go_at_call 11; refine (live_least R3.out).mono ?_; rintro e w4 ⟨rfl, b4⟩) | fail)
  have K4 := Lib.hid ((K3.out.below b4).new 26 [.int .i64 0, .int .i64 0])
  simp only [List.cons_append, List.nil_append] at K4
  clear b4 K3 R3
  generalize w4.heap.size = g4 at *
  generalize w4.alloc (.cells #[.int .i64 0, .int .i64 0] 26) = W4 at *
  have RN := Lib.hid ((ArrV.new 55 W4 (smcells [⟨0, -1⟩])).smrow n29_ok)
  have K4' := Lib.hid (K4.out.below ((Below.refl _ W4).alloc (Nat.le_refl _) (.cells (smcells [⟨0, -1⟩]).toArray 55)))
  go_upto_region 7 with (first | (go_at_call 11; refine (live_neg RN.out).mono ?_; rintro e w5 ⟨rfl, b5⟩) | fail)
  have K5 := Lib.hid ((K4'.out.below b5).new 26 [.int .i64 1, .int .i64 0])
  simp only [List.cons_append, List.nil_append] at K5
  clear b5 K4 K4' RN
  generalize w5.heap.size = g5 at *
  generalize w5.alloc (.cells #[.int .i64 1, .int .i64 0] 26) = W5 at *
  have RZ : Hid (RowZ (W5.alloc (.cells #[.int .i64 0, .int .i64 1] 3)) (some ⟨W5.heap.size, 0, none⟩) 2 [0, 1]) := by
    have h := ArrV.new 3 W5 [.int .i64 0, .int .i64 1]
    refine RowZ.mk rfl (fun x hx => by simp at hx; rcases hx with rfl | rfl <;> decide) fun i hi => ?_
    rw [Nat.zero_add]
    refine (h.get i).trans ?_
    rcases (by omega : i = 0 ∨ i = 1) with rfl | rfl <;> rfl
  have R5 := Lib.hid ((((K5.out.at 0 rfl).alloc (.cells #[.int .i64 0, .int .i64 1] 3)).smrow l29_ok))
  have K5' := Lib.hid (K5.out.below ((Below.refl _ W5).alloc (Nat.le_refl _) (.cells #[.int .i64 0, .int .i64 1] 3)))
  go_upto_region 8 with (first | (go_at_call 14; refine (live_only R5.out RZ.out).mono ?_; rintro e w6 ⟨O, co, rfl, hO, b6⟩) | fail)
  have K6 := Lib.hid (K5'.out.below b6)
  have RO := Lib.hid hO
  clear b6 K5 K5' R5 RZ hO
  have E0 := fun w => fault_eq (a := 0) (b := 0) (c := 0) (d := 0) ⟨by decide, by decide⟩ ⟨by decide, by decide⟩ ⟨by decide, by decide⟩ ⟨by decide, by decide⟩ w
  have E1 := fun w => fault_eq (a := 17) (b := 2) (c := 17) (d := 2) ⟨by decide, by decide⟩ ⟨by decide, by decide⟩ ⟨by decide, by decide⟩ ⟨by decide, by decide⟩ w
  have E2 := fun w => fault_eq (a := 1) (b := 0) (c := 1) (d := 0) ⟨by decide, by decide⟩ ⟨by decide, by decide⟩ ⟨by decide, by decide⟩ ⟨by decide, by decide⟩ w
  simp only [and_self, decide_true] at E0 E1 E2
  have p0 := (K6.out.at 1 rfl).get 0
  have p1 := (K6.out.at 1 rfl).get 1
  have p2 := (K6.out.at 2 rfl).get 0
  have p3 := (K6.out.at 2 rfl).get 1
  have p4 := (K6.out.at 3 rfl).get 0
  have p5 := (K6.out.at 3 rfl).get 1
  have p6 := (K6.out.at 4 rfl).get 0
  have p7 := (K6.out.at 4 rfl).get 1
  have p8 := (K6.out.at 5 rfl).get 0
  have p9 := (K6.out.at 5 rfl).get 1
  simp at p0 p1 p2 p3 p4 p5 p6 p7 p8 p9
  have RE := Lib.hid ((ArrV.new 55 w6 (smcells o29)).smrow o29_ok)
  have RO2 := Lib.hid (RO.out.below ((Below.refl _ w6).alloc (Nat.le_refl _) (.cells (smcells o29).toArray 55)))
  have B6 := Lib.hid (K6.out.bel.alloc K6.out.bel.size (.cells (smcells o29).toArray 55))
  go_wp2_with (first | (go_at_call 13; refine (same_yes _ _ 3 _ _ o29 _ (by decide) RO2.out RE.out).mono ?_; rintro e w7 ⟨rfl, b7⟩) | fail)
  go_ret
  exact ⟨rfl, below_both B6.out b7⟩
end Go.Proofs.Ytemgnaalmgkfiaa
