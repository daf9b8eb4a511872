/-
  Contracts of onesum's Check, Good and Fill and of the document's.
-/
import Derived.Test.YteldjcdoohafcaaOne2
import Derived.Test.YteldjcdoohafcaaOPlain2
import Derived.Test.YteldjcdoohafcaaAgree1
namespace Go.Proofs.Yteldjcdoohafcaa
open Go.RowKit
set_option linter.unusedVariables false

theorem ocheck_any (A : Option Addr) (n cap : Nat) (bs : List Nat) (w : World) (hn : n ≤ 140737488355328) (hA : Row w A n bs) :
    Calls Try.prog 82 #[.slice A n cap] w fun e w' => e = .returned (.int .u16 (65535 - orest (wsum 0 bs) : Nat)) ∧ Below w.heap.size w w' := by
  obtain ⟨s, hs⟩ : ∃ s, s = orest (wsum 0 bs) := ⟨_, rfl⟩
  have C := Lib.hid (osum_any A n cap bs w hn hA)
  rw [← hs] at C ⊢
  have hl : s ≤ 65535 := by rw [hs]; exact orest_le _
  clear hs
  go_enter Try.func82, Try.ntmps82
  go_wp2_with fail
  refine C.out.mono ?_
  rintro e w' ⟨rfl, hb⟩
  go_wp2_with fail
  go_ret
  refine ⟨?_, hb⟩
  go_num
theorem rcheck_any (A : Option Addr) (n cap : Nat) (bs : List Nat) (w : World) (hn : n ≤ 140737488355328) (hA : Row w A n bs) :
    Calls Try.prog 84 #[.slice A n cap] w fun e w' => e = .returned (.int .u16 (65535 - orest (wsum 0 bs) : Nat)) ∧ w = w' := by
  obtain ⟨s, hs⟩ : ∃ s, s = orest (wsum 0 bs) := ⟨_, rfl⟩
  have C := Lib.hid (rsum_any A n cap bs w hn hA)
  rw [← hs] at C ⊢
  have hl : s ≤ 65535 := by rw [hs]; exact orest_le _
  clear hs
  go_enter Try.func84, Try.ntmps84
  go_wp2_with fail
  refine C.out.mono ?_
  rintro e w' ⟨rfl, rfl⟩
  go_wp2_with fail
  go_ret
  refine ⟨?_, rfl⟩
  go_num
theorem ogood_any (A : Option Addr) (n cap : Nat) (bs : List Nat) (t : Bool) (w : World) (hn : n ≤ 140737488355328) (hA : Row w A n bs) (ht : Hid (decide (orest (wsum 0 bs) = 65535) = t)) :
    Calls Try.prog 57 #[.slice A n cap] w fun e w' => e = .returned (.bool t) ∧ Below w.heap.size w w' := by
  obtain ⟨s, hs⟩ : ∃ s, s = orest (wsum 0 bs) := ⟨_, rfl⟩
  have C := Lib.hid (osum_any A n cap bs w hn hA)
  rw [← hs] at C ht
  clear hs
  have hq : Hid (((s : Int) == 65535) = t) := by
    show ((s : Int) == 65535) = t
    rw [← ht.out, Bool.eq_iff_iff]
    simp
    omega
  go_enter Try.func57, Try.ntmps57
  go_wp2_with fail
  refine C.out.mono ?_
  rintro e w' ⟨rfl, hb⟩
  go_wp2_with fail
  go_ret
  exact ⟨by rw [← hq.out]; rfl, hb⟩
theorem rgood_any (A : Option Addr) (n cap : Nat) (bs : List Nat) (t : Bool) (w : World) (hn : n ≤ 140737488355328) (hA : Row w A n bs) (ht : Hid (decide (orest (wsum 0 bs) = 65535) = t)) :
    Calls Try.prog 58 #[.slice A n cap] w fun e w' => e = .returned (.bool t) ∧ w = w' := by
  obtain ⟨s, hs⟩ : ∃ s, s = orest (wsum 0 bs) := ⟨_, rfl⟩
  have C := Lib.hid (rsum_any A n cap bs w hn hA)
  rw [← hs] at C ht
  clear hs
  have hq : Hid (((s : Int) == 65535) = t) := by
    show ((s : Int) == 65535) = t
    rw [← ht.out, Bool.eq_iff_iff]
    simp
    omega
  go_enter Try.func58, Try.ntmps58
  go_wp2_with fail
  refine C.out.mono ?_
  rintro e w' ⟨rfl, rfl⟩
  go_wp2_with fail
  go_ret
  exact ⟨by rw [← hq.out]; rfl, rfl⟩

theorem ofill_range (A : Option Addr) (n cap : Nat) (a : Int) (w : World) (h : a < 0 ∨ a % 2 ≠ 0) :
    Calls Try.prog 61 #[.slice A n cap, .int .i64 a] w fun e w' => e = .returned (.tuple #[.slice none 0 0, .int .i64 1]) ∧ w = w' := by
  by_cases h0 : a < 0
  · clear h
    go_enter Try.func61, Try.ntmps61
    go_wp2_with fail
    go_ret2
    exact ⟨rfl, rfl⟩
  · have q : (a % 2 != 0) = true := by rw [bne_iff_ne]; omega
    have h1 : 0 ≤ a := by omega
    clear h h0
    go_enter Try.func61, Try.ntmps61
    go_wp2_with fail
    go_ret2
    exact ⟨rfl, rfl⟩
theorem ofill_short (A : Option Addr) (n cap : Nat) (a : Nat) (w : World) (hn : n ≤ 9223372036854775807) (ha : a ≤ 9223372036854775807) (h2 : a % 2 = 0) (h : n < a + 2) :
    Calls Try.prog 61 #[.slice A n cap, .int .i64 a] w fun e w' => e = .returned (.tuple #[.slice none 0 0, .int .i64 2]) ∧ w = w' := by
  have C := Lib.hid (put_short A n cap 0 a 2 w hn ha (by decide) (by decide) (by decide) h)
  have q : ((a : Int) % 2 != 0) = false := by rw [bne_eq_false_iff_eq]; omega
  clear h h2
  go_enter Try.func61, Try.ntmps61
  go_wp2_with fail
  refine C.out.mono ?_
  rintro e w' ⟨rfl, rfl⟩
  go_wp2_with fail
  go_ret2
  exact ⟨rfl, rfl⟩
theorem ofill_ok (A : Option Addr) (n cap : Nat) (a : Nat) (bs : List Nat) (w : World) (hcap : n ≤ cap) (hreach : n ≤ 140737488355328) (h2 : a % 2 = 0) (h : a + 2 ≤ n) (hA : Row w A n bs) :
    Calls Try.prog 61 #[.slice A n cap, .int .i64 a] w (TwoTo w (filled bs a) 0) := by
  have hby := hA.2.1
  have hlen := hA.len
  have C1 := Lib.hid ((put_new A n cap 0 a 2 bs w hcap hreach (by decide) (by decide) (by decide) h hA).mono (two_own (splice_byte hby (pb_byte 0 2))))
  have hl2 : (splice bs a (pb 0 2)).length = n := by rw [splice_two_length (by omega)]; exact hlen
  have hb2 : ∀ x ∈ splice bs a (pb 0 2), x < 256 := splice_byte hby (pb_byte 0 2)
  have HF : Hid (filled bs a = splice (splice bs a (pb 0 2)) a (pb (65535 - orest (wsum 0 (splice bs a (pb 0 2)))) 2)) := rfl
  generalize splice bs a (pb 0 2) = bl at *
  have hol := orest_le (wsum 0 bl)
  obtain ⟨c, hc⟩ : ∃ c, c = 65535 - orest (wsum 0 bl) := ⟨_, rfl⟩
  have hcl : c ≤ 65535 := by omega
  rw [← hc] at HF
  have q : ((a : Int) % 2 != 0) = false := by rw [bne_eq_false_iff_eq]; omega
  have HL2 := Lib.hid hl2
  have C2 : Hid (∀ (w1 : World) (B : Option Addr) (d : Nat), Row w1 B n bl → Calls Try.prog 82 #[.slice B n d] w1 fun e w' => e = .returned (.int .u16 c) ∧ Below w1.heap.size w1 w') := fun w1 B d hR => by
    rw [hc]
    exact (ocheck_any B n d bl w1 (by omega) hR)
  have C3 : Hid (∀ (w1 : World) (B : Option Addr) (d : Nat), n ≤ d → Row w1 B n bl → Calls Try.prog 76 #[.slice B n d, .int .i64 a, .int .i64 2, .int .u64 c] w1 (TwoTo w1 (filled bs a) 0)) := fun w1 B d hd hR => by
    rw [HF.out]
    exact (put_new B n d c a 2 bl w1 hd hreach (by decide) (by decide) (by omega) h hR).mono (two_own (splice_byte hb2 (pb_byte c 2)))
  clear hc hol h2 hA
  go_enter Try.func61, Try.ntmps61
  go_wp2_with fail
  refine C1.out.mono ?_
  rintro e w1 ⟨v, rfl, ⟨B, d, rfl, hd, hR⟩, b1⟩
  rw [HL2.out] at hd hR ⊢
  have HR := Lib.hid hR
  have HD := Lib.hid hd
  have B1 := Lib.hid b1
  clear hR hd b1
  go_wp2_with fail
  refine (C2.out _ _ _ HR.out).mono ?_
  rintro e w2 ⟨rfl, b2⟩
  have HR := Lib.hid (HR.out.below b2)
  have B2 := Lib.hid (below_both B1.out b2)
  clear b2 B1
  go_wp2_with fail
  refine (C3.out _ _ _ HD.out HR.out).mono ?_
  rintro e w3 ⟨v, rfl, hv, b3⟩
  have HV := Lib.hid hv
  have B3 := Lib.hid (below_both B2.out b3)
  clear hv b3 B2
  go_wp2_with fail
  go_ret2
  exact ⟨v, rfl, HV.out, B3.out⟩
theorem rfill_range (A : Option Addr) (n cap : Nat) (a : Int) (w : World) (h : a < 0 ∨ a % 2 ≠ 0) :
    Calls Try.prog 62 #[.slice A n cap, .int .i64 a] w fun e w' => e = .returned (.tuple #[.slice none 0 0, .int .i64 1]) ∧ w = w' := by
  by_cases h0 : a < 0
  · clear h
    go_enter Try.func62, Try.ntmps62
    go_wp2_with fail
    go_ret2
    exact ⟨rfl, rfl⟩
  · have q : (a % 2 != 0) = true := by rw [bne_iff_ne]; omega
    have h1 : 0 ≤ a := by omega
    clear h h0
    go_enter Try.func62, Try.ntmps62
    go_wp2_with fail
    go_ret2
    exact ⟨rfl, rfl⟩
theorem rfill_short (A : Option Addr) (n cap : Nat) (a : Nat) (w : World) (hn : n ≤ 9223372036854775807) (ha : a ≤ 9223372036854775807) (h2 : a % 2 = 0) (h : n < a + 2) :
    Calls Try.prog 62 #[.slice A n cap, .int .i64 a] w fun e w' => e = .returned (.tuple #[.slice none 0 0, .int .i64 2]) ∧ w = w' := by
  have C := Lib.hid (rput_short A n cap 0 a 2 w hn ha (by decide) (by decide) (by decide) (by decide) h)
  have q : ((a : Int) % 2 != 0) = false := by rw [bne_eq_false_iff_eq]; omega
  clear h h2
  go_enter Try.func62, Try.ntmps62
  go_wp2_with fail
  refine C.out.mono ?_
  rintro e w' ⟨rfl, rfl⟩
  go_wp2_with fail
  go_ret2
  exact ⟨rfl, rfl⟩
theorem rfill_ok (A : Option Addr) (n cap : Nat) (a : Nat) (bs : List Nat) (w : World) (hcap : n ≤ cap) (hreach : n ≤ 140737488355328) (h2 : a % 2 = 0) (h : a + 2 ≤ n) (hA : Row w A n bs) :
    Calls Try.prog 62 #[.slice A n cap, .int .i64 a] w (TwoTo w (filled bs a) 0) := by
  have hby := hA.2.1
  have hlen := hA.len
  have C1 := Lib.hid ((rput_new A n cap 0 a 2 bs w hcap hreach (by decide) (by decide) (by decide) (by decide) h hA).mono (two_out (splice_byte hby (pb_byte 0 2))))
  have hl2 : (splice bs a (pb 0 2)).length = n := by rw [splice_two_length (by omega)]; exact hlen
  have hb2 : ∀ x ∈ splice bs a (pb 0 2), x < 256 := splice_byte hby (pb_byte 0 2)
  have HF : Hid (filled bs a = splice (splice bs a (pb 0 2)) a (pb (65535 - orest (wsum 0 (splice bs a (pb 0 2)))) 2)) := rfl
  generalize splice bs a (pb 0 2) = bl at *
  have hol := orest_le (wsum 0 bl)
  obtain ⟨c, hc⟩ : ∃ c, c = 65535 - orest (wsum 0 bl) := ⟨_, rfl⟩
  have hcl : c ≤ 65535 := by omega
  rw [← hc] at HF
  have q : ((a : Int) % 2 != 0) = false := by rw [bne_eq_false_iff_eq]; omega
  have HL2 := Lib.hid hl2
  have C2 : Hid (∀ (w1 : World) (B : Option Addr) (d : Nat), Row w1 B n bl → Calls Try.prog 84 #[.slice B n d] w1 fun e w' => e = .returned (.int .u16 c) ∧ Below w1.heap.size w1 w') := fun w1 B d hR => by
    rw [hc]
    exact (rcheck_any B n d bl w1 (by omega) hR).mono fun e w' ⟨h1, h2⟩ => ⟨h1, by rw [← h2]; exact Below.refl _ _⟩
  have C3 : Hid (∀ (w1 : World) (B : Option Addr) (d : Nat), n ≤ d → Row w1 B n bl → Calls Try.prog 83 #[.slice B n d, .int .i64 a, .int .i64 2, .int .u64 c] w1 (TwoTo w1 (filled bs a) 0)) := fun w1 B d hd hR => by
    rw [HF.out]
    exact (rput_new B n d c a 2 bl w1 hd hreach (by decide) (by decide) (by omega) (by omega) h hR).mono (two_out (splice_byte hb2 (pb_byte c 2)))
  clear hc hol h2 hA
  go_enter Try.func62, Try.ntmps62
  go_wp2_with fail
  refine C1.out.mono ?_
  rintro e w1 ⟨v, rfl, ⟨B, d, rfl, hd, hR⟩, b1⟩
  rw [HL2.out] at hd hR ⊢
  have HR := Lib.hid hR
  have HD := Lib.hid hd
  have B1 := Lib.hid b1
  clear hR hd b1
  go_wp2_with fail
  refine (C2.out _ _ _ HR.out).mono ?_
  rintro e w2 ⟨rfl, b2⟩
  have HR := Lib.hid (HR.out.below b2)
  have B2 := Lib.hid (below_both B1.out b2)
  clear b2 B1
  go_wp2_with fail
  refine (C3.out _ _ _ HD.out HR.out).mono ?_
  rintro e w3 ⟨v, rfl, hv, b3⟩
  have HV := Lib.hid hv
  have B3 := Lib.hid (below_both B2.out b3)
  clear hv b3 B2
  go_wp2_with fail
  go_ret2
  exact ⟨v, rfl, HV.out, B3.out⟩

end Go.Proofs.Yteldjcdoohafcaa
