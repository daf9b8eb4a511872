/-
  The walk of the statement AdjustWords.
-/
import Derived.Test.YtgpdghibkkgonaaLive4
namespace Go.Proofs.Ytgpdghibkkgonaa
open Go.RowKit
set_option linter.unusedVariables false

theorem words_agree (A B : Option Addr) (n m cap cap2 c : Nat) (ws vs : List Nat) (hn : n ≤ 140737488355328) (hm : m ≤ 140737488355328) (hc : c ≤ 65535) :
    ∃ (x : Nat) (y : Int), (∀ w, Row16 w A n ws → Row16 w B m vs → Calls Try.prog 42 #[.int .u16 c, .slice A n cap, .slice B m cap2] w fun e w' => e = .returned (.tuple #[.int .u16 x, .int .i64 y]) ∧ Below w.heap.size w w') ∧
      (∀ w, Row16 w A n ws → Row16 w B m vs → Calls Try.prog 43 #[.int .u16 c, .slice A n cap, .slice B m cap2] w fun e w' => e = .returned (.tuple #[.int .u16 x, .int .i64 y]) ∧ Below w.heap.size w w') := by
  by_cases h : n = m
  · subst h
    exact ⟨_, 0, fun w hA hB => words_ok A B n cap cap2 c ws vs w hn hc hA hB, fun w hA hB => rwords_ok A B n cap cap2 c ws vs w hn hc hA hB⟩
  · exact ⟨0, 2, fun w _ _ => (words_short A B n m cap cap2 c w h hn hm).mono fun e w' ⟨h1, h2⟩ => ⟨h1, by rw [← h2]; exact Below.refl _ _⟩,
      fun w _ _ => (rwords_short A B n m cap cap2 c w h hn hm).mono fun e w' ⟨h1, h2⟩ => ⟨h1, by rw [← h2]; exact Below.refl _ _⟩⟩

set_option maxHeartbeats 1600000 in
theorem walk_AdjustWords (c : Nat) (a1 : Option Addr) (len1 cap1 : Nat) (ws1 : List Nat) (a2 : Option Addr) (len2 cap2 : Nat) (ws2 : List Nat) (w : World) (hc : c ≤ 65535)
    (R1 : Row16 w a1 len1 ws1) (hl1 : len1 ≤ cap1) (hc1 : cap1 ≤ 70368744175616) (R2 : Row16 w a2 len2 ws2) (hl2 : len2 ≤ cap2) (hc2 : cap2 ≤ 70368744175616) :
    Calls Try.prog 9 #[.int .u16 c, .slice a1 len1 cap1, .slice a2 len2 cap2] w fun e w' => e = .returned (.bool true) ∧ Below w.heap.size w w' := by
  obtain ⟨x, y, k1, k2⟩ := words_agree a1 a2 len1 len2 cap1 cap2 c ws1 ws2 (by omega) (by omega) hc
  have C1 := Lib.hid k1
  have C2 := Lib.hid k2
  have C3 := Lib.hid (fun w => clean_any c w hc)
  have C4 := Lib.hid (fun w => rclean_any c w hc)
  clear k1 k2
  go_enter Try.func9, Try.ntmps9
  go_wp2_with fail
  refine (C1.out _ R1 R2).mono ?_
  rintro e w1 ⟨rfl, b1⟩
  have B1 := Lib.hid b1
  clear b1
  go_wp2_with fail
  refine (C2.out _ (R1.below B1.out) (R2.below B1.out)).mono ?_
  rintro e w2 ⟨rfl, b2⟩
  have B2 := Lib.hid (below_both B1.out b2)
  clear b2 B1
  go_wp2_with fail
  refine (C3.out _).mono ?_
  rintro e w' ⟨rfl, rfl⟩
  go_wp2_with fail
  refine (C4.out _).mono ?_
  rintro e w' ⟨rfl, rfl⟩
  go_wp2_with fail
  go_loopw [11] (fun j wr => ∃ k : Nat, k ≤ len1 ∧ k ≤ len2 ∧ j = .int .i64 k ∧ Below w.heap.size w wr) (fun j _ => len1 - (intOf j).toNat)
  case atStart => exact ⟨0, Nat.zero_le _, Nat.zero_le _, rfl, B2.out⟩
  case round =>
    obtain ⟨k, hk1, hk2, rfl, hbw⟩ := hrel
    have BB := Lib.hid hbw
    by_cases hlt1 : k < len1
    · by_cases hlt2 : k < len2
      · obtain ⟨b, o, rfl, hb, hcA⟩ := (R1.below hbw).addr (by omega)
        obtain ⟨b2, o2, rfl, hb2, hcB⟩ := (R2.below hbw).addr (by omega)
        have hv := hcA k hlt1
        have hu := hcB k hlt2
        have hx := R1.word k
        have hy := R2.word k
        obtain ⟨s, hxe⟩ : ∃ s, s = ws1.getD k 0 := ⟨_, rfl⟩
        obtain ⟨t, hye⟩ : ∃ t, t = ws2.getD k 0 := ⟨_, rfl⟩
        rw [← hxe] at hv hx
        rw [← hye] at hu hy
        obtain ⟨r, hr⟩ : ∃ r, r = oword c s t := ⟨_, rfl⟩
        have D1 : Hid (∀ w, Calls Try.prog 46 #[.int .u16 c, .int .u16 s, .int .u16 t] w fun e w' => e = .returned (.int .u16 r) ∧ Below w.heap.size w w') := by
          rw [hr]; exact fun w => word_any c s t w hc hx hy
        have D2 : Hid (∀ w, Calls Try.prog 47 #[.int .u16 c, .int .u16 s, .int .u16 t] w fun e w' => e = .returned (.int .u16 r) ∧ w = w') := by
          rw [hr]; exact fun w => rword_any c s t w hc hx hy
        have HT := Lib.hid (show wr.cell? ⟨b, o + k, none⟩ = some (.int .u16 s) ∧ wr.cell? ⟨b2, o2 + k, none⟩ = some (.int .u16 t) from ⟨hv, hu⟩)
        clear hcA hcB hbw hxe hye hr C1 C2 C3 C4
        go_wp2_with fail
        go_region_held3 (fun w' => w'.cell? ⟨b, o + k, none⟩ = some (.int .u16 s) ∧ w'.cell? ⟨b2, o2 + k, none⟩ = some (.int .u16 t))
          (first | exact HT.out | exact ⟨hv, hu⟩ | exact hTwo | go_keep)
          (first
            | (go_at_call 46; (refine (D1.out _).mono ?_); rintro e w' ⟨rfl, hb'⟩; have BB := Lib.hid (by first | exact below_both BB.out.drew hb' | exact below_both BB.out hb')
               have hTwo : w'.cell? ⟨b, o + k, none⟩ = some (.int .u16 s) ∧ w'.cell? ⟨b2, o2 + k, none⟩ = some (.int .u16 t) := by first | exact ⟨(hb'.cell (cell_lt HT.out.1)).trans HT.out.1, (hb'.cell (cell_lt HT.out.2)).trans HT.out.2⟩
               have HT := Lib.hid hTwo)
            | (go_at_call 47; (refine (D2.out _).mono ?_); rintro e w' ⟨rfl, rfl⟩)
            | fail)
        all_goals
          go_wp2_with fail
          go_roundw
          case rel => exact ⟨k + 1, by omega, by omega, by go_num, by first | exact BB.out | exact BB.out.drew⟩
          case measure => simp [intOf]; omega
      · obtain rfl : k = len2 := by omega
        clear hbw C1 C2 C3 C4
        go_wp2_with fail
        refine (live4 _).mono ?_
        rintro e w3 ⟨rfl, b3⟩
        have BB := Lib.hid (below_both BB.out b3)
        clear b3
        go_wp2_with fail
        go_ret
        exact ⟨rfl, BB.out⟩
    · obtain rfl : k = len1 := by omega
      clear hbw C1 C2 C3 C4
      go_wp2_with fail
      refine (live4 _).mono ?_
      rintro e w3 ⟨rfl, b3⟩
      have BB := Lib.hid (below_both BB.out b3)
      clear b3
      go_wp2_with fail
      go_ret
      exact ⟨rfl, BB.out⟩
end Go.Proofs.Ytgpdghibkkgonaa
