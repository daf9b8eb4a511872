/-
  Contracts of adjust's Words and of the document's.
-/
import Derived.Test.YtgpdghibkkgonaaAdj1
namespace Go.Proofs.Ytgpdghibkkgonaa
open Go.RowKit
set_option linter.unusedVariables false

theorem words_short (A B : Option Addr) (n m cap cap2 c : Nat) (w : World) (h : n ≠ m) (hn : n ≤ 140737488355328) (hm : m ≤ 140737488355328) :
    Calls Try.prog 42 #[.int .u16 c, .slice A n cap, .slice B m cap2] w fun e w' => e = .returned (.tuple #[.int .u16 0, .int .i64 2]) ∧ w = w' := by
  have q : ((n : Int) != (m : Int)) = true := by rw [bne_iff_ne]; omega
  clear h
  go_enter Try.func42, Try.ntmps42
  go_wp2_with fail
  go_ret2
  exact ⟨rfl, rfl⟩
set_option maxHeartbeats 800000 in
theorem words_ok (A B : Option Addr) (n cap cap2 c : Nat) (ws vs : List Nat) (w : World) (hn : n ≤ 140737488355328) (hc : c ≤ 65535) (hA : Row16 w A n ws) (hB : Row16 w B n vs) :
    Calls Try.prog 42 #[.int .u16 c, .slice A n cap, .slice B n cap2] w fun e w' => e = .returned (.tuple #[.int .u16 (owordsTo c ws vs n : Nat), .int .i64 0]) ∧ Below w.heap.size w w' := by
  go_enter Try.func42, Try.ntmps42
  go_wp2_with fail
  go_loopw [0, 16] (fun v j wr => ∃ k s : Nat, k ≤ n ∧ Hid (s = owordsTo c ws vs k) ∧ j = .int .i64 k ∧ v = .int .u16 s ∧ Below w.heap.size w wr) (fun _ j _ => n - (intOf j).toNat)
  case atStart => exact ⟨0, c, Nat.zero_le _, rfl, rfl, rfl, Below.refl _ _⟩
  case round =>
    obtain ⟨k, s, hk, hs, rfl, rfl, hbw⟩ := hrel
    have BB := Lib.hid hbw
    have hsl : s ≤ 65535 := by rw [hs.out]; exact owordsTo_le ws vs k hc
    by_cases hlt : k < n
    · obtain ⟨b, o, rfl, hb, hcA⟩ := (hA.below hbw).addr (by omega)
      obtain ⟨b2, o2, rfl, hb2, hcB⟩ := (hB.below hbw).addr (by omega)
      have hv := hcA k hlt
      have hu := hcB k hlt
      have hx := hA.word k
      have hy := hB.word k
      obtain ⟨x, hxe⟩ : ∃ x, x = ws.getD k 0 := ⟨_, rfl⟩
      obtain ⟨y, hye⟩ : ∃ y, y = vs.getD k 0 := ⟨_, rfl⟩
      rw [← hxe] at hv hx
      rw [← hye] at hu hy
      have hst : owordsTo c ws vs (k + 1) = oword s x y := by rw [hxe, hye, hs.out]; rfl
      have HST := Lib.hid hst
      have C := Lib.hid (fun w => word_any s x y w hsl hx hy)
      clear hst hxe hye hcA hcB hbw
      go_wp2_with fail
      go_region_with (first
        | (go_at_call 46; (refine (C.out _).mono ?_); rintro e w' ⟨rfl, hb'⟩; have BB := Lib.hid (by first | exact below_both BB.out.drew hb' | exact below_both BB.out hb'))
        | fail)
      all_goals
        go_wp2_with fail
        go_roundw
        case rel => exact ⟨k + 1, oword s x y, by omega, HST.out.symm, by go_num, rfl, by first | exact BB.out | exact BB.out.drew⟩
        case measure => simp [intOf]; omega
    · obtain rfl : k = n := by omega
      clear hsl hbw
      go_wp2_with fail
      go_ret2
      exact ⟨by rw [← hs.out]; rfl, BB.out⟩
theorem rwords_short (A B : Option Addr) (n m cap cap2 c : Nat) (w : World) (h : n ≠ m) (hn : n ≤ 140737488355328) (hm : m ≤ 140737488355328) :
    Calls Try.prog 43 #[.int .u16 c, .slice A n cap, .slice B m cap2] w fun e w' => e = .returned (.tuple #[.int .u16 0, .int .i64 2]) ∧ w = w' := by
  have q : ((n : Int) != (m : Int)) = true := by rw [bne_iff_ne]; omega
  clear h
  go_enter Try.func43, Try.ntmps43
  go_wp2_with fail
  go_ret2
  exact ⟨rfl, rfl⟩
set_option maxHeartbeats 800000 in
theorem rwords_ok (A B : Option Addr) (n cap cap2 c : Nat) (ws vs : List Nat) (w : World) (hn : n ≤ 140737488355328) (hc : c ≤ 65535) (hA : Row16 w A n ws) (hB : Row16 w B n vs) :
    Calls Try.prog 43 #[.int .u16 c, .slice A n cap, .slice B n cap2] w fun e w' => e = .returned (.tuple #[.int .u16 (owordsTo c ws vs n : Nat), .int .i64 0]) ∧ Below w.heap.size w w' := by
  go_enter Try.func43, Try.ntmps43
  go_wp2_with fail
  go_loopw [0, 8] (fun v j wr => ∃ k s : Nat, k ≤ n ∧ Hid (s = owordsTo c ws vs k) ∧ j = .int .i64 k ∧ v = .int .u16 s ∧ Below w.heap.size w wr) (fun _ j _ => n - (intOf j).toNat)
  case atStart => exact ⟨0, c, Nat.zero_le _, rfl, rfl, rfl, Below.refl _ _⟩
  case round =>
    obtain ⟨k, s, hk, hs, rfl, rfl, hbw⟩ := hrel
    have BB := Lib.hid hbw
    have hsl : s ≤ 65535 := by rw [hs.out]; exact owordsTo_le ws vs k hc
    by_cases hlt : k < n
    · obtain ⟨b, o, rfl, hb, hcA⟩ := (hA.below hbw).addr (by omega)
      obtain ⟨b2, o2, rfl, hb2, hcB⟩ := (hB.below hbw).addr (by omega)
      have hv := hcA k hlt
      have hu := hcB k hlt
      have hx := hA.word k
      have hy := hB.word k
      obtain ⟨x, hxe⟩ : ∃ x, x = ws.getD k 0 := ⟨_, rfl⟩
      obtain ⟨y, hye⟩ : ∃ y, y = vs.getD k 0 := ⟨_, rfl⟩
      rw [← hxe] at hv hx
      rw [← hye] at hu hy
      have hst : owordsTo c ws vs (k + 1) = oword s x y := by rw [hxe, hye, hs.out]; rfl
      have HST := Lib.hid hst
      have C := Lib.hid (fun w => rword_any s x y w hsl hx hy)
      clear hst hxe hye hcA hcB hbw
      go_wp2_with fail
      go_region_with (first
        | (go_at_call 47; (refine (C.out _).mono ?_); rintro e w' ⟨rfl, rfl⟩)
        | fail)
      all_goals
        go_wp2_with fail
        go_roundw
        case rel => exact ⟨k + 1, oword s x y, by omega, HST.out.symm, by go_num, rfl, by first | exact BB.out | exact BB.out.drew⟩
        case measure => simp [intOf]; omega
    · obtain rfl : k = n := by omega
      clear hsl hbw
      go_wp2_with fail
      go_ret2
      exact ⟨by rw [← hs.out]; rfl, BB.out⟩

end Go.Proofs.Ytgpdghibkkgonaa
