/-
  The walk of the statement OnesumJoins.
-/
import Derived.Test.YtgpdghibkkgonaaWSums
namespace Go.Proofs.Ytgpdghibkkgonaa
open Go.RowKit
set_option linter.unusedVariables false

set_option maxRecDepth 10000 in
set_option maxHeartbeats 3200000 in
theorem walk_OnesumJoins (a0 : Option Addr) (len0 cap0 : Nat) (bs0 : List Nat) (n : Int) (zs1 : List Int) (w : World) (R0 : Row w a0 len0 bs0) (hl0 : len0 ≤ cap0) (hc0 : cap0 ≤ 140737488351232)
    (lo1 : -9223372036854775808 ≤ n) (hi1 : n ≤ 9223372036854775807) (hn1 : zs1.length = 2) (hz1 : ∀ z ∈ zs1, (Lit.int .u16 z).wf = true) :
    Calls Try.prog 6 #[.slice a0 len0 cap0, .int .i64 n, .agg (zs1.map (Value.int .u16)).toArray] w fun e w' => e = .returned (.bool true) ∧ Below w.heap.size w w' := by
  obtain ⟨z1, z2, rfl⟩ := two_ints hn1
  obtain ⟨x, rfl, hx⟩ := nat_u16 (hz1 _ (List.mem_cons_self ..))
  obtain ⟨y, rfl, hy⟩ := nat_u16 (hz1 _ (List.mem_cons_of_mem _ (List.mem_cons_self ..)))
  have h0 := Duo.new w (x : Int) (y : Int)
  have BB := Lib.hid ((Below.refl w.heap.size w).alloc (Nat.le_refl _) (.cells #[.int .u16 x, .int .u16 y] 38))
  have J1 := Lib.hid (fun w => ojoin_any x y n w hx hy lo1 hi1)
  have J2 := Lib.hid (fun w => rjoin_any x y n w hx hy lo1 hi1)
  have HR := Lib.hid R0
  clear hz1 hn1 R0
  show Calls Try.prog 6 #[.slice a0 len0 cap0, .int .i64 n, .agg #[.int .u16 x, .int .u16 y]] w fun e w' => e = .returned (.bool true) ∧ Below w.heap.size w w'
  go_enter Try.func6, Try.ntmps6
  go_wp2_with fail
  generalize w.alloc (.cells #[.int .u16 x, .int .u16 y] 38) = w5 at *
  obtain ⟨c0, c1⟩ := h0
  go_quiet ((first | (go_at_call 36; exact quiet_eq (J1.out _)) | (go_at_call 37; exact quiet_eq (J2.out _))))
  have BB := Lib.hid (below_drewN' BB.out nq)
  by_cases hin : n < 0 ∨ (len0 : Int) < n
  · have hg : (decide (n < 0) || decide ((len0 : Int) < n)) = true := by simp; omega
    by_cases hneg : n < 0
    · go_wp2_with fail
      refine (live3 _).mono ?_
      rintro e w6 ⟨rfl, b6⟩
      have BB := Lib.hid (below_both BB.out b6)
      go_wp2_with fail
      go_ret
      exact ⟨rfl, BB.out⟩
    · have hgt : (len0 : Int) < n := by omega
      go_wp2_with fail
      refine (live3 _).mono ?_
      rintro e w6 ⟨rfl, b6⟩
      have BB := Lib.hid (below_both BB.out b6)
      go_wp2_with fail
      go_ret
      exact ⟨rfl, BB.out⟩
  · obtain ⟨k, rfl⟩ := Int.eq_ofNat_of_zero_le (show 0 ≤ n by omega)
    have hk : k ≤ len0 := by omega
    clear hin
    have R0 := HR.out
    have hby := R0.2.1
    have hlen := R0.len
    obtain ⟨s0, hs0⟩ : ∃ s0, s0 = orest (wsum 0 (bs0.take k)) := ⟨_, rfl⟩
    obtain ⟨s1, hs1⟩ : ∃ s1, s1 = orest (wsum 0 (bs0.drop k)) := ⟨_, rfl⟩
    obtain ⟨s, hs⟩ : ∃ s, s = orest (wsum 0 bs0) := ⟨_, rfl⟩
    have hs0l : s0 ≤ 65535 := by rw [hs0]; exact orest_le _
    have hs1l : s1 ≤ 65535 := by rw [hs1]; exact orest_le _
    have hjoin : orest (s0 + opart (k : Int) s1) = s := by
      have e := orest_parts bs0 k (by omega)
      rw [← hs0, ← hs1, ← hs] at e
      rw [← e]
      congr 2
      unfold opart
      by_cases hp : k % 2 = 0
      · rw [if_pos hp, if_pos (by omega)]
      · rw [if_neg hp, if_neg (by omega)]
    have CH : Hid (∀ w', Below w.heap.size w w' → Calls Try.prog 26 #[.slice a0 k cap0] w' fun e w'' => e = .returned (.int .u16 s0) ∧ Below w'.heap.size w' w'') := fun w' hb => by
      rw [hs0]
      refine osum_any a0 k cap0 (bs0.take k) w' (by omega) ?_
      rcases Nat.eq_zero_or_pos k with h0 | h0
      · subst h0
        rw [List.take_zero]
        exact Row.nil _ _
      · obtain ⟨b, o, rfl, _⟩ := (R0.below hb).addr (by omega)
        have := (R0.below hb).part 0 k (by omega)
        rw [List.drop_zero, Nat.add_zero] at this
        exact this
    have CT : Hid (∀ w' B c, (len0 - k = 0 ∨ B = Option.map (fun x => x.add k) a0) → Below w.heap.size w w' → Calls Try.prog 26 #[.slice B (len0 - k) c] w' fun e w'' => e = .returned (.int .u16 s1) ∧ Below w'.heap.size w' w'') := fun w' B c hB hb => by
      rw [hs1]
      refine osum_any _ (len0 - k) c (bs0.drop k) w' (by omega) ?_
      rcases Nat.eq_zero_or_pos (len0 - k) with h0 | h0
      · rw [h0, List.drop_eq_nil_of_le (by omega)]
        exact Row.nil _ _
      · obtain ⟨b, o, rfl, _⟩ := (R0.below hb).addr (by omega)
        rcases hB with hB | rfl
        · omega
        rw [Option.map_some, add_flat]
        have := (R0.below hb).part k (len0 - k) (by omega)
        rw [List.take_of_length_le (by rw [List.length_drop]; omega)] at this
        exact this
    have CW : Hid (∀ w', Below w.heap.size w w' → Calls Try.prog 26 #[.slice a0 len0 cap0] w' fun e w'' => e = .returned (.int .u16 s) ∧ Below w'.heap.size w' w'') := fun w' hb => by
      rw [hs]; exact osum_any a0 len0 cap0 bs0 w' (by omega) (R0.below hb)
    have CJ : Hid (∀ w', Calls Try.prog 36 #[.int .u16 s0, .int .i64 k, .int .u16 s1] w' fun e w'' => e = .returned (.int .u16 s) ∧ w' = w'') := fun w' => by
      rw [← hjoin]; exact ojoin_any s0 s1 k w' hs0l hs1l (by omega) (by omega)
    have hsame : Hid (k = len0 → s0 = s) := fun h => by rw [hs0, hs, take_beyond bs0 k (by omega)]
    clear hs0 hs1 hs hjoin R0 hby hlen hs0l hs1l
    have k0 : (0 : Int) ≤ (k : Int) := by omega
    by_cases hkc : k = cap0
    · have hkl : k = len0 := by omega
      have CT0 : Hid (∀ w' B c, Below w.heap.size w w' → Calls Try.prog 26 #[.slice B 0 c] w' fun e w'' => e = .returned (.int .u16 s1) ∧ Below w'.heap.size w' w'') := fun w' B c hb => by
        have h := CT.out w' B c (.inl (by omega)) hb
        rw [show len0 - k = 0 from by omega] at h
        exact h
      obtain rfl := hsame.out hkl
      subst hkc
      subst hkl
      go_wp2_with fail
      have h0 : Duo (w5.drewN nq) w.heap.size x y := Duo.drewN ⟨c0, c1⟩ nq
      generalize w5.drewN nq = w6 at *
      go_region_held3 (fun w' => w'.cell? ⟨w.heap.size, 0, none⟩ = some (.int .u16 x) ∧ w'.cell? ⟨w.heap.size, 1, none⟩ = some (.int .u16 y))
        (first | exact h0 | exact hTwo | go_keep)
        (first
          | (go_at_call 25; (refine (live3 _).mono ?_); rintro e w' ⟨rfl, hb'⟩; have BB := Lib.hid (by first | exact below_both BB.out.drew hb' | exact below_both BB.out hb')
             have hTwo : Duo w' w.heap.size x y := by first | exact Duo.below h0 hb' | exact Duo.below (w := w6.drew) h0 hb'
             have hT := Lib.hid hTwo)
          | (go_at_call 26; (with_reducible refine (CH.out _ BB.out).mono ?_); rintro e w' ⟨rfl, hb'⟩; have BB := Lib.hid (below_both BB.out hb')
             have hTwo : Duo w' w.heap.size x y := hT.out.below hb'
             have hT := Lib.hid hTwo)
          | (go_at_call 26; (with_reducible refine (CT0.out _ _ _ BB.out).mono ?_); rintro e w' ⟨rfl, hb'⟩; have BB := Lib.hid (below_both BB.out hb')
             have hTwo : Duo w' w.heap.size x y := hT.out.below hb'
             have hT := Lib.hid hTwo)
          | (go_at_call 26; (with_reducible refine (CW.out _ BB.out).mono ?_); rintro e w' ⟨rfl, hb'⟩; have BB := Lib.hid (below_both BB.out hb')
             have hTwo : Duo w' w.heap.size x y := hT.out.below hb'
             have hT := Lib.hid hTwo)
          | (go_at_call 36; (refine (CJ.out _).mono ?_); rintro e w' ⟨rfl, rfl⟩)
          | fail)
      all_goals
        go_wp2_with fail
        go_ret
        exact ⟨by simp, BB.out⟩
    · have k1 : (k : Int) ≤ (len0 : Int) := by omega
      have k2 : (k : Int) ≤ (cap0 : Int) := by omega
      have k3 : (k : Int) < (cap0 : Int) := by omega
      go_wp2_with fail
      have h0 : Duo (w5.drewN nq) w.heap.size x y := Duo.drewN ⟨c0, c1⟩ nq
      generalize w5.drewN nq = w6 at *
      go_region_held3 (fun w' => w'.cell? ⟨w.heap.size, 0, none⟩ = some (.int .u16 x) ∧ w'.cell? ⟨w.heap.size, 1, none⟩ = some (.int .u16 y))
        (first | exact h0 | exact hTwo | go_keep)
        (first
          | (go_at_call 25; (refine (live3 _).mono ?_); rintro e w' ⟨rfl, hb'⟩; have BB := Lib.hid (by first | exact below_both BB.out.drew hb' | exact below_both BB.out hb')
             have hTwo : Duo w' w.heap.size x y := by first | exact Duo.below h0 hb' | exact Duo.below (w := w6.drew) h0 hb'
             have hT := Lib.hid hTwo)
          | (go_at_call 26; (with_reducible refine (CH.out _ BB.out).mono ?_); rintro e w' ⟨rfl, hb'⟩; have BB := Lib.hid (below_both BB.out hb')
             have hTwo : Duo w' w.heap.size x y := hT.out.below hb'
             have hT := Lib.hid hTwo)
          | (go_at_call 26; (with_reducible refine (CT.out _ _ _ (.inr rfl) BB.out).mono ?_); rintro e w' ⟨rfl, hb'⟩; have BB := Lib.hid (below_both BB.out hb')
             have hTwo : Duo w' w.heap.size x y := hT.out.below hb'
             have hT := Lib.hid hTwo)
          | (go_at_call 26; (with_reducible refine (CW.out _ BB.out).mono ?_); rintro e w' ⟨rfl, hb'⟩; have BB := Lib.hid (below_both BB.out hb')
             have hTwo : Duo w' w.heap.size x y := hT.out.below hb'
             have hT := Lib.hid hTwo)
          | (go_at_call 36; (refine (CJ.out _).mono ?_); rintro e w' ⟨rfl, rfl⟩)
          | fail)
      all_goals
        go_wp2_with fail
        go_ret
        exact ⟨by simp, BB.out⟩
end Go.Proofs.Ytgpdghibkkgonaa
