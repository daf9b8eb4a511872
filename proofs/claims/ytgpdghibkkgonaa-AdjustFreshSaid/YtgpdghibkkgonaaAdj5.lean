/-
  The contract of the document's At, and that both answer the same.
-/
import Derived.Test.YtgpdghibkkgonaaAdj4
namespace Go.Proofs.Ytgpdghibkkgonaa
open Go.RowKit
set_option linter.unusedVariables false

theorem rat_range (A : Option Addr) (n cap : Nat) (f a : Int) (v : Nat) (w : World) (h : f < 0 ∨ f % 2 ≠ 0 ∨ a < 0 ∨ a % 2 ≠ 0 ∨ f = a) :
    Calls Try.prog 50 #[.slice A n cap, .int .i64 f, .int .i64 a, .int .u16 v] w fun e w' => e = .returned (.tuple #[.slice none 0 0, .int .i64 1]) ∧ w = w' := by
  by_cases h1 : f < 0
  · clear h
    go_enter Try.func50, Try.ntmps50
    go_wp2_with fail
    go_ret2
    exact ⟨rfl, rfl⟩
  · have g1 : 0 ≤ f := by omega
    by_cases h2 : a < 0
    · clear h
      go_enter Try.func50, Try.ntmps50
      go_wp2_with fail
      go_ret2
      exact ⟨rfl, rfl⟩
    · have g2 : 0 ≤ a := by omega
      by_cases h3 : f % 2 = 0
      · have q3 : (f % 2 != 0) = false := by rw [bne_eq_false_iff_eq]; exact h3
        by_cases h4 : a % 2 = 0
        · have q4 : (a % 2 != 0) = false := by rw [bne_eq_false_iff_eq]; exact h4
          obtain rfl : f = a := by omega
          clear h h1 h2 h3 h4
          go_enter Try.func50, Try.ntmps50
          go_wp2_with fail
          go_ret2
          exact ⟨rfl, rfl⟩
        · have q4 : (a % 2 != 0) = true := by rw [bne_iff_ne]; exact h4
          clear h h1 h2 h3 h4
          go_enter Try.func50, Try.ntmps50
          go_wp2_with fail
          go_ret2
          exact ⟨rfl, rfl⟩
      · have q3 : (f % 2 != 0) = true := by rw [bne_iff_ne]; exact h3
        clear h h1 h2 h3
        go_enter Try.func50, Try.ntmps50
        go_wp2_with fail
        go_ret2
        exact ⟨rfl, rfl⟩
theorem rat_first (A : Option Addr) (n cap f a v : Nat) (w : World) (hn : n ≤ 140737488355328) (hf : f % 2 = 0) (ha : a % 2 = 0) (hfa : f ≠ a) (hf2 : f ≤ 9223372036854775807) (ha2 : a ≤ 9223372036854775807) (hs : n < f + 2) :
    Calls Try.prog 50 #[.slice A n cap, .int .i64 f, .int .i64 a, .int .u16 v] w fun e w' => e = .returned (.tuple #[.slice none 0 0, .int .i64 2]) ∧ Below w.heap.size w w' := by
  have q1 : ((f : Int) % 2 != 0) = false := by rw [bne_eq_false_iff_eq]; omega
  have q2 : ((a : Int) % 2 != 0) = false := by rw [bne_eq_false_iff_eq]; omega
  have q3 : ((f : Int) == (a : Int)) = false := by rw [beq_eq_false_iff_ne]; omega
  have C1 := Lib.hid (fun w => rget_short A n cap f 2 w (by omega) (by omega) (by omega) (by decide) (by decide) (by omega))
  clear hf ha hfa hs hf2 ha2
  go_enter Try.func50, Try.ntmps50
  go_wp2_with fail
  refine (C1.out _).mono ?_
  rintro e w' ⟨rfl, rfl⟩
  go_wp2_with fail
  go_ret2
  exact ⟨rfl, Below.refl _ _⟩
theorem rat_second (A : Option Addr) (n cap f a v : Nat) (bs : List Nat) (w : World) (hn : n ≤ 140737488355328) (hcap : n ≤ cap) (hf : f % 2 = 0) (ha : a % 2 = 0) (hfa : f ≠ a) (hf2 : f + 2 ≤ n) (ha2 : a ≤ 9223372036854775807) (hs : n < a + 2) (hA : Row w A n bs) :
    Calls Try.prog 50 #[.slice A n cap, .int .i64 f, .int .i64 a, .int .u16 v] w fun e w' => e = .returned (.tuple #[.slice none 0 0, .int .i64 2]) ∧ Below w.heap.size w w' := by
  have hlen := hA.len
  have q1 : ((f : Int) % 2 != 0) = false := by rw [bne_eq_false_iff_eq]; omega
  have q2 : ((a : Int) % 2 != 0) = false := by rw [bne_eq_false_iff_eq]; omega
  have q3 : ((f : Int) == (a : Int)) = false := by rw [beq_eq_false_iff_ne]; omega
  obtain ⟨x, hx⟩ : ∃ x, x = wat bs f := ⟨_, rfl⟩
  have C1 : Hid (Calls Try.prog 71 #[.slice A n cap, .int .i64 f, .int .i64 2] w fun e w' => e = .returned (.tuple #[.int .u64 x, .int .i64 0]) ∧ w = w') := by
    have h := rget_ok A n cap f 2 bs w (by omega) hcap (by decide) (by decide) hf2 hA
    rw [be_two (by omega), ← hx] at h
    exact h
  have C2 := Lib.hid (fun w => rget_short A n cap a 2 w (by omega) (by omega) (by omega) (by decide) (by decide) (by omega))
  clear hf ha hfa hs hf2 ha2 hx
  go_enter Try.func50, Try.ntmps50
  go_wp2_with fail
  refine C1.out.mono ?_
  rintro e w' ⟨rfl, rfl⟩
  go_wp2_with fail
  refine (C2.out _).mono ?_
  rintro e w' ⟨rfl, rfl⟩
  go_wp2_with fail
  go_ret2
  exact ⟨rfl, Below.refl _ _⟩
theorem rat_ok (A : Option Addr) (n cap f a v : Nat) (bs : List Nat) (w : World) (hn : n ≤ 140737488355328) (hcap : n ≤ cap) (hf : f % 2 = 0) (ha : a % 2 = 0) (hfa : f ≠ a) (hf2 : f + 2 ≤ n) (ha2 : a + 2 ≤ n) (hv : v ≤ 65535) (hA : Row w A n bs) :
    Calls Try.prog 50 #[.slice A n cap, .int .i64 f, .int .i64 a, .int .u16 v] w (TwoTo w (adjAt bs f a v) 0) := by
  have hby := hA.2.1
  have hlen := hA.len
  obtain ⟨x, hx⟩ : ∃ x, x = wat bs f := ⟨_, rfl⟩
  obtain ⟨y, hy⟩ : ∃ y, y = wat bs a := ⟨_, rfl⟩
  have hxl : x ≤ 65535 := by rw [hx]; exact wat_le hby f
  have hyl : y ≤ 65535 := by rw [hy]; exact wat_le hby a
  obtain ⟨k, hk⟩ : ∃ k, k = oword x y v := ⟨_, rfl⟩
  obtain ⟨c, hc⟩ : ∃ c, c = oclean k := ⟨_, rfl⟩
  have hkl : k ≤ 65535 := by rw [hk]; exact oword_le _ _ _
  have hcl : c ≤ 65535 := by rw [hc]; exact oclean_le hkl
  have hl2 : (splice bs a (pb v 2)).length = n := by rw [splice_two_length (by omega)]; exact hlen
  have hb2 : ∀ x ∈ splice bs a (pb v 2), x < 256 := splice_byte hby (pb_byte v 2)
  have HE : Hid (adjAt bs f a v = splice (splice bs a (pb v 2)) f (pb c 2)) := by
    show adjAt bs f a v = splice (splice bs a (pb v 2)) f (pb c 2)
    unfold adjAt
    rw [← hx, ← hy, ← hk, ← hc]
    exact splice_comm (by rw [pb_length]; omega) (by rw [pb_length]; omega) (by rw [pb_length, pb_length]; omega)
  have C1 : Hid (Calls Try.prog 71 #[.slice A n cap, .int .i64 f, .int .i64 2] w fun e w' => e = .returned (.tuple #[.int .u64 x, .int .i64 0]) ∧ w = w') := by
    have h := rget_ok A n cap f 2 bs w (by omega) hcap (by decide) (by decide) hf2 hA
    rw [be_two (by omega), ← hx] at h
    exact h
  have C2 : Hid (Calls Try.prog 71 #[.slice A n cap, .int .i64 a, .int .i64 2] w fun e w' => e = .returned (.tuple #[.int .u64 y, .int .i64 0]) ∧ w = w') := by
    have h := rget_ok A n cap a 2 bs w (by omega) hcap (by decide) (by decide) ha2 hA
    rw [be_two (by omega), ← hy] at h
    exact h
  have C4 : Hid (∀ w, Calls Try.prog 47 #[.int .u16 x, .int .u16 y, .int .u16 v] w fun e w' => e = .returned (.int .u16 k) ∧ w = w') := by
    rw [hk]; exact fun w => rword_any x y v w hxl hyl hv
  have C5 : Hid (∀ w, Calls Try.prog 45 #[.int .u16 k] w fun e w' => e = .returned (.int .u16 c) ∧ w = w') := by
    rw [hc]; exact fun w => rclean_any k w hkl
  have C6 : Hid (Calls Try.prog 67 #[.slice A n cap, .int .i64 a, .int .i64 2, .int .u64 v] w (TwoTo w (splice bs a (pb v 2)) 0)) :=
    (rput_new A n cap v a 2 bs w hcap hn (by decide) (by decide) (by omega) (by omega) ha2 hA).mono (two_out hb2)
  generalize splice bs a (pb v 2) = bl at *
  have HL2 := Lib.hid hl2
  have C7 : Hid (∀ (w1 : World) (B : Option Addr) (d : Nat), n ≤ d → Row w1 B n bl → Calls Try.prog 67 #[.slice B n d, .int .i64 f, .int .i64 2, .int .u64 c] w1 (TwoTo w1 (adjAt bs f a v) 0)) := fun w1 B d hd hR => by
    rw [HE.out]
    exact (rput_new B n d c f 2 bl w1 hd hn (by decide) (by decide) (by omega) (by omega) hf2 hR).mono (two_out (splice_byte hb2 (pb_byte c 2)))
  have q1 : ((f : Int) % 2 != 0) = false := by rw [bne_eq_false_iff_eq]; omega
  have q2 : ((a : Int) % 2 != 0) = false := by rw [bne_eq_false_iff_eq]; omega
  have q3 : ((f : Int) == (a : Int)) = false := by rw [beq_eq_false_iff_ne]; omega
  clear hx hy hk hc hf ha hfa hl2 hb2 hA hby
  go_enter Try.func50, Try.ntmps50
  go_wp2_with fail
  refine C1.out.mono ?_
  rintro e w' ⟨rfl, rfl⟩
  go_wp2_with fail
  refine C2.out.mono ?_
  rintro e w' ⟨rfl, rfl⟩
  go_wp2_with fail
  refine C6.out.mono ?_
  rintro e w3 ⟨v1, rfl, ⟨B, d, rfl, hd, hR⟩, b3⟩
  rw [HL2.out] at hd hR ⊢
  have HR := Lib.hid hR
  have HD := Lib.hid hd
  have BB := Lib.hid b3
  clear hR hd b3
  go_wp2_with fail
  refine (C4.out _).mono ?_
  rintro e w' ⟨rfl, rfl⟩
  go_wp2_with fail
  refine (C5.out _).mono ?_
  rintro e w' ⟨rfl, rfl⟩
  go_wp2_with fail
  refine (C7.out _ _ _ HD.out HR.out).mono ?_
  rintro e w4 ⟨v2, rfl, hv2, b4⟩
  have HV := Lib.hid hv2
  have BB := Lib.hid (below_both BB.out b4)
  clear hv2 b4
  go_wp2_with fail
  go_ret2
  exact ⟨v2, rfl, HV.out, BB.out⟩

theorem two_empty {w : World} {y : Int} : ∀ e w', (e = .returned (.tuple #[.slice none 0 0, .int .i64 y]) ∧ Below w.heap.size w w') → TwoTo w [] y e w' := by
  rintro e w' ⟨rfl, hb⟩
  exact ⟨_, rfl, ByteVal.nil w', hb⟩
theorem at_agree (A : Option Addr) (n cap : Nat) (f a : Int) (v : Nat) (bs : List Nat) (hlen : bs.length = n) (hcap : n ≤ cap) (hreach : n ≤ 140737488355328) (hf : f ≤ 9223372036854775807) (ha : a ≤ 9223372036854775807) (hv : v ≤ 65535) :
    ∃ (l : List Nat) (y : Int), l.length ≤ 140737488355328 ∧ (∀ w, Row w A n bs → Calls Try.prog 49 #[.slice A n cap, .int .i64 f, .int .i64 a, .int .u16 v] w (TwoTo w l y)) ∧
      (∀ w, Row w A n bs → Calls Try.prog 50 #[.slice A n cap, .int .i64 f, .int .i64 a, .int .u16 v] w (TwoTo w l y)) := by
  by_cases h : f < 0 ∨ f % 2 ≠ 0 ∨ a < 0 ∨ a % 2 ≠ 0 ∨ f = a
  · exact ⟨[], 1, by simp, fun w _ => (at_range A n cap f a v w h).mono two_nil, fun w _ => (rat_range A n cap f a v w h).mono two_nil⟩
  · obtain ⟨f, rfl⟩ := Int.eq_ofNat_of_zero_le (show 0 ≤ f by omega)
    obtain ⟨a, rfl⟩ := Int.eq_ofNat_of_zero_le (show 0 ≤ a by omega)
    have h1 : f % 2 = 0 := by omega
    have h2 : a % 2 = 0 := by omega
    have h3 : f ≠ a := by omega
    by_cases hs : n < f + 2 ∨ n < a + 2
    · refine ⟨[], 2, by simp, fun w hR => (at_short A n cap f a v bs w (by omega) hcap h1 h2 h3 (by omega) (by omega) hs hR).mono two_empty, fun w hR => ?_⟩
      by_cases h4 : n < f + 2
      · exact (rat_first A n cap f a v w (by omega) h1 h2 h3 (by omega) (by omega) h4).mono two_empty
      · exact (rat_second A n cap f a v bs w (by omega) hcap h1 h2 h3 (by omega) (by omega) (by omega) hR).mono two_empty
    · refine ⟨adjAt bs f a v, 0, ?_, fun w hR => at_ok A n cap f a v bs w hreach hcap h1 h2 h3 (by omega) (by omega) hv hR, fun w hR => rat_ok A n cap f a v bs w hreach hcap h1 h2 h3 (by omega) (by omega) hv hR⟩
      unfold adjAt
      rw [splice_two_length (by rw [splice_two_length (by omega)]; omega), splice_two_length (by omega)]
      omega
end Go.Proofs.Ytgpdghibkkgonaa
