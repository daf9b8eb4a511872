/-
  Contracts of adjust's At and of the document's.
-/
import Derived.Test.YtgpdghibkkgonaaAdj2
import Derived.Test.YtgpdghibkkgonaaAdj3
namespace Go.Proofs.Ytgpdghibkkgonaa
open Go.RowKit
set_option linter.unusedVariables false

/-- What At puts: the word, and the checksum that is made up for it. -/
def adjAt (bs : List Nat) (f a v : Nat) : List Nat := splice (splice bs f (pb (oclean (oword (wat bs f) (wat bs a) v)) 2)) a (pb v 2)

theorem at_range (A : Option Addr) (n cap : Nat) (f a : Int) (v : Nat) (w : World) (h : f < 0 ∨ f % 2 ≠ 0 ∨ a < 0 ∨ a % 2 ≠ 0 ∨ f = a) :
    Calls Try.prog 49 #[.slice A n cap, .int .i64 f, .int .i64 a, .int .u16 v] w fun e w' => e = .returned (.tuple #[.slice none 0 0, .int .i64 1]) ∧ w = w' := by
  by_cases h1 : f < 0 ∨ f % 2 ≠ 0
  · have C1 := Lib.hid (fun w => aligned_no f w h1)
    clear h h1
    go_enter Try.func49, Try.ntmps49
    go_wp2_with fail
    refine (C1.out _).mono ?_
    rintro e w' ⟨rfl, rfl⟩
    go_wp2_with fail
    go_ret2
    exact ⟨rfl, rfl⟩
  · obtain ⟨f, rfl⟩ := Int.eq_ofNat_of_zero_le (show 0 ≤ f by omega)
    have C1 := Lib.hid (fun w => aligned_yes f w (by omega))
    by_cases h2 : a < 0 ∨ a % 2 ≠ 0
    · have C2 := Lib.hid (fun w => aligned_no a w h2)
      clear h h1 h2
      go_enter Try.func49, Try.ntmps49
      go_wp2_with fail
      refine (C1.out _).mono ?_
      rintro e w' ⟨rfl, rfl⟩
      go_wp2_with fail
      refine (C2.out _).mono ?_
      rintro e w' ⟨rfl, rfl⟩
      go_wp2_with fail
      go_ret2
      exact ⟨rfl, rfl⟩
    · obtain rfl : (f : Int) = a := by omega
      clear h h1 h2
      go_enter Try.func49, Try.ntmps49
      go_wp2_with fail
      refine (C1.out _).mono ?_
      rintro e w' ⟨rfl, rfl⟩
      go_wp2_with fail
      refine (C1.out _).mono ?_
      rintro e w' ⟨rfl, rfl⟩
      go_wp2_with fail
      go_ret2
      exact ⟨rfl, rfl⟩
theorem at_short (A : Option Addr) (n cap f a v : Nat) (bs : List Nat) (w : World) (hn : n ≤ 140737488355328) (hcap : n ≤ cap) (hf : f % 2 = 0) (ha : a % 2 = 0) (hfa : f ≠ a) (hf2 : f ≤ 9223372036854775807) (ha2 : a ≤ 9223372036854775807) (hs : n < f + 2 ∨ n < a + 2) (hA : Row w A n bs) :
    Calls Try.prog 49 #[.slice A n cap, .int .i64 f, .int .i64 a, .int .u16 v] w fun e w' => e = .returned (.tuple #[.slice none 0 0, .int .i64 2]) ∧ Below w.heap.size w w' := by
  have C1 := Lib.hid (fun w => aligned_yes f w hf)
  have C2 := Lib.hid (fun w => aligned_yes a w ha)
  have C3 : Hid (Calls Try.prog 70 #[.slice A n cap, .int .i64 f, .int .i64 a] w fun e w' => e = .returned (.tuple #[.agg #[.int .u16 0, .int .u16 0], .int .i64 2]) ∧ Below w.heap.size w w') := by
    by_cases h : n < f + 2
    · exact wordsAt_first A n cap f a w hn h hf2
    · exact wordsAt_second A n cap f a bs w hn hcap (by omega) (by omega) ha2 hA
  have q : ((f : Int) == (a : Int)) = false := by rw [beq_eq_false_iff_ne]; omega
  clear hs hfa hf ha hf2 ha2
  go_enter Try.func49, Try.ntmps49
  go_wp2_with fail
  refine (C1.out _).mono ?_
  rintro e w' ⟨rfl, rfl⟩
  go_wp2_with fail
  refine (C2.out _).mono ?_
  rintro e w' ⟨rfl, rfl⟩
  go_wp2_with fail
  refine C3.out.mono ?_
  rintro e w' ⟨rfl, hb⟩
  have BB := Lib.hid (hb.alloc hb.size (.cells #[.int .u16 0, .int .u16 0] 38))
  clear hb
  go_wp2_with fail
  go_ret2
  exact ⟨rfl, BB.out⟩
theorem at_ok (A : Option Addr) (n cap f a v : Nat) (bs : List Nat) (w : World) (hn : n ≤ 140737488355328) (hcap : n ≤ cap) (hf : f % 2 = 0) (ha : a % 2 = 0) (hfa : f ≠ a) (hf2 : f + 2 ≤ n) (ha2 : a + 2 ≤ n) (hv : v ≤ 65535) (hA : Row w A n bs) :
    Calls Try.prog 49 #[.slice A n cap, .int .i64 f, .int .i64 a, .int .u16 v] w (TwoTo w (adjAt bs f a v) 0) := by
  have hby := hA.2.1
  have hlen := hA.len
  obtain ⟨x, hx⟩ : ∃ x, x = wat bs f := ⟨_, rfl⟩
  obtain ⟨y, hy⟩ : ∃ y, y = wat bs a := ⟨_, rfl⟩
  have hxl : x ≤ 65535 := by rw [hx]; exact wat_le hby f
  have hyl : y ≤ 65535 := by rw [hy]; exact wat_le hby a
  obtain ⟨k, hk⟩ : ∃ k, k = oword x y v := ⟨_, rfl⟩
  obtain ⟨c, hc⟩ : ∃ c, c = oclean k := ⟨_, rfl⟩
  have hkl : k ≤ 65535 := by rw [hk]; exact oword_le _ _ _
  have hcl : c ≤ 65535 := by rw [hc]; exact oclean_le hkl
  have hl2 : (splice bs f (pb c 2)).length = n := by rw [splice_two_length (by omega)]; exact hlen
  have hb2 : ∀ x ∈ splice bs f (pb c 2), x < 256 := splice_byte hby (pb_byte c 2)
  have HE : Hid (adjAt bs f a v = splice (splice bs f (pb c 2)) a (pb v 2)) := by
    show adjAt bs f a v = splice (splice bs f (pb c 2)) a (pb v 2)
    unfold adjAt
    rw [← hx, ← hy, ← hk, ← hc]
  have C1 := Lib.hid (fun w => aligned_yes f w hf)
  have C2 := Lib.hid (fun w => aligned_yes a w ha)
  have C3 : Hid (Calls Try.prog 70 #[.slice A n cap, .int .i64 f, .int .i64 a] w fun e w' => e = .returned (.tuple #[.agg #[.int .u16 x, .int .u16 y], .int .i64 0]) ∧ Below w.heap.size w w') := by
    rw [hx, hy]; exact wordsAt_ok A n cap f a bs w (by omega) hcap hf2 ha2 hA
  have C4 : Hid (∀ w, Calls Try.prog 46 #[.int .u16 x, .int .u16 y, .int .u16 v] w fun e w' => e = .returned (.int .u16 k) ∧ Below w.heap.size w w') := by
    rw [hk]; exact fun w => word_any x y v w hxl hyl hv
  have C5 : Hid (∀ w, Calls Try.prog 44 #[.int .u16 k] w fun e w' => e = .returned (.int .u16 c) ∧ w = w') := by
    rw [hc]; exact fun w => clean_any k w hkl
  have C6 : Hid (∀ w', Below w.heap.size w w' → Calls Try.prog 54 #[.slice A n cap, .int .i64 f, .int .i64 2, .int .u64 c] w' (TwoTo w' (splice bs f (pb c 2)) 0)) := fun w' hb =>
    (put_new A n cap c f 2 bs w' hcap hn (by decide) (by decide) (by omega) hf2 (hA.below hb)).mono (two_own hb2)
  generalize splice bs f (pb c 2) = bl at *
  have HL2 := Lib.hid hl2
  have C7 : Hid (∀ (w1 : World) (B : Option Addr) (d : Nat), n ≤ d → Row w1 B n bl → Calls Try.prog 54 #[.slice B n d, .int .i64 a, .int .i64 2, .int .u64 v] w1 (TwoTo w1 (adjAt bs f a v) 0)) := fun w1 B d hd hR => by
    rw [HE.out]
    exact (put_new B n d v a 2 bl w1 hd hn (by decide) (by decide) (by omega) ha2 hR).mono (two_own (splice_byte hb2 (pb_byte v 2)))
  have q : ((f : Int) == (a : Int)) = false := by rw [beq_eq_false_iff_ne]; omega
  clear hx hy hk hc hf ha hfa hl2 hb2 hA hby
  go_enter Try.func49, Try.ntmps49
  go_wp2_with fail
  refine (C1.out _).mono ?_
  rintro e w' ⟨rfl, rfl⟩
  go_wp2_with fail
  refine (C2.out _).mono ?_
  rintro e w' ⟨rfl, rfl⟩
  go_wp2_with fail
  refine C3.out.mono ?_
  rintro e w1 ⟨rfl, hb⟩
  have d0 := cell_of_row (w1.alloc (.cells #[.int .u16 x, .int .u16 y] 38)) w1.heap.size 0 _ _ _ (heap_alloc_new w1 _)
  have d1 := cell_of_row (w1.alloc (.cells #[.int .u16 x, .int .u16 y] 38)) w1.heap.size 1 _ _ _ (heap_alloc_new w1 _)
  simp only [List.getElem?_toArray, List.getElem?_cons_zero, List.getElem?_cons_succ] at d0 d1
  have BB := Lib.hid (hb.alloc hb.size (.cells #[.int .u16 x, .int .u16 y] 38))
  clear hb
  go_wp2_with fail
  refine (C4.out _).mono ?_
  rintro e w2 ⟨rfl, b2⟩
  have BB := Lib.hid (below_both BB.out b2)
  clear b2 d0 d1
  go_wp2_with fail
  refine (C5.out _).mono ?_
  rintro e w' ⟨rfl, rfl⟩
  go_wp2_with fail
  refine (C6.out _ BB.out).mono ?_
  rintro e w3 ⟨v1, rfl, ⟨B, d, rfl, hd, hR⟩, b3⟩
  rw [HL2.out] at hd hR ⊢
  have HR := Lib.hid hR
  have HD := Lib.hid hd
  have BB := Lib.hid (below_both BB.out b3)
  clear hR hd b3
  go_wp2_with fail
  refine (C7.out _ _ _ HD.out HR.out).mono ?_
  rintro e w4 ⟨v2, rfl, hv2, b4⟩
  have HV := Lib.hid hv2
  have BB := Lib.hid (below_both BB.out b4)
  clear hv2 b4
  go_wp2_with fail
  go_ret2
  exact ⟨v2, rfl, HV.out, BB.out⟩
end Go.Proofs.Ytgpdghibkkgonaa
