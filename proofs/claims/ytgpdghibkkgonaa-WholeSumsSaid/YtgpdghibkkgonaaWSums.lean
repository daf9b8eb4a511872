/-
  The walks of the statements OnesumSums and OnesumJoins.
-/
import Derived.Test.YtgpdghibkkgonaaLive3
import Derived.Test.YtgpdghibkkgonaaOLift
import Derived.Deep.RegionHeld3
namespace Go.Proofs.Ytgpdghibkkgonaa
open Go.RowKit
set_option linter.unusedVariables false

/-- Two words lie in block g. -/
def Duo (W : World) (g : Nat) (a b : Int) : Prop := W.cell? ⟨g, 0, none⟩ = some (.int .u16 a) ∧ W.cell? ⟨g, 1, none⟩ = some (.int .u16 b)
theorem Duo.new (w : World) (a b : Int) : Duo (w.alloc (.cells #[.int .u16 a, .int .u16 b] 38)) w.heap.size a b :=
  ⟨cell_of_row _ w.heap.size 0 _ _ _ (heap_alloc_new w _), cell_of_row _ w.heap.size 1 _ _ _ (heap_alloc_new w _)⟩
theorem Duo.below {w w' : World} {g : Nat} {a b : Int} (h : Duo w g a b) (hb : Below w.heap.size w w') : Duo w' g a b := ⟨(hb.cell (cell_lt h.1)).trans h.1, (hb.cell (cell_lt h.2)).trans h.2⟩
theorem Duo.drew {w : World} {g : Nat} {a b : Int} (h : Duo w g a b) : Duo w.drew g a b := h
theorem Duo.drewN {w : World} {g : Nat} {a b : Int} (h : Duo w g a b) (n : Nat) : Duo (w.drewN n) g a b := h

set_option maxRecDepth 10000 in
set_option maxHeartbeats 3200000 in
theorem walk_OnesumSums (a0 : Option Addr) (len0 cap0 : Nat) (bs0 : List Nat) (zs1 : List Int) (w : World) (R0 : Row w a0 len0 bs0) (hl0 : len0 ≤ cap0) (hc0 : cap0 ≤ 140737488351232)
    (hn1 : zs1.length = 2) (hz1 : ∀ z ∈ zs1, (Lit.int .u16 z).wf = true) :
    Calls Try.prog 5 #[.slice a0 len0 cap0, .agg (zs1.map (Value.int .u16)).toArray] w fun e w' => e = .returned (.bool true) ∧ Below w.heap.size w w' := by
  obtain ⟨z1, z2, rfl⟩ := two_ints hn1
  obtain ⟨x, rfl, hx⟩ := nat_u16 (hz1 _ (List.mem_cons_self ..))
  obtain ⟨y, rfl, hy⟩ := nat_u16 (hz1 _ (List.mem_cons_of_mem _ (List.mem_cons_self ..)))
  have R := Lib.hid R0
  obtain ⟨s, hs⟩ : ∃ s, s = orest (wsum 0 bs0) := ⟨_, rfl⟩
  obtain ⟨k, hk⟩ : ∃ k, k = 65535 - orest (wsum 0 bs0) := ⟨_, rfl⟩
  obtain ⟨t, ht⟩ : ∃ t, decide (orest (wsum 0 bs0) = 65535) = t := ⟨_, rfl⟩
  have hn : len0 ≤ 140737488355328 := by omega
  have C1 : Hid (∀ w', Below w.heap.size w w' → Calls Try.prog 26 #[.slice a0 len0 cap0] w' fun e w'' => e = .returned (.int .u16 s) ∧ Below w'.heap.size w' w'') := by
    rw [hs]; exact fun w' hb => osum_any a0 len0 cap0 bs0 w' hn (R0.below hb)
  have C2 : Hid (∀ w', Below w.heap.size w w' → Calls Try.prog 27 #[.slice a0 len0 cap0] w' fun e w'' => e = .returned (.int .u16 s) ∧ w' = w'') := by
    rw [hs]; exact fun w' hb => rsum_any a0 len0 cap0 bs0 w' hn (R0.below hb)
  have C3 : Hid (∀ w', Below w.heap.size w w' → Calls Try.prog 28 #[.slice a0 len0 cap0] w' fun e w'' => e = .returned (.int .u16 k) ∧ Below w'.heap.size w' w'') := by
    rw [hk]; exact fun w' hb => ocheck_any a0 len0 cap0 bs0 w' hn (R0.below hb)
  have C4 : Hid (∀ w', Below w.heap.size w w' → Calls Try.prog 29 #[.slice a0 len0 cap0] w' fun e w'' => e = .returned (.int .u16 k) ∧ w' = w'') := by
    rw [hk]; exact fun w' hb => rcheck_any a0 len0 cap0 bs0 w' hn (R0.below hb)
  have C5 : Hid (∀ w', Below w.heap.size w w' → Calls Try.prog 30 #[.slice a0 len0 cap0] w' fun e w'' => e = .returned (.bool t) ∧ Below w'.heap.size w' w'') :=
    fun w' hb => ogood_any a0 len0 cap0 bs0 t w' hn (R0.below hb) ht
  have C6 : Hid (∀ w', Below w.heap.size w w' → Calls Try.prog 31 #[.slice a0 len0 cap0] w' fun e w'' => e = .returned (.bool t) ∧ w' = w'') :=
    fun w' hb => rgood_any a0 len0 cap0 bs0 t w' hn (R0.below hb) ht
  have h0 := Duo.new w (x : Int) (y : Int)
  have BB := Lib.hid ((Below.refl w.heap.size w).alloc (Nat.le_refl _) (.cells #[.int .u16 x, .int .u16 y] 38))
  clear hs hk ht hz1 hn1 R0
  show Calls Try.prog 5 #[.slice a0 len0 cap0, .agg #[.int .u16 x, .int .u16 y]] w fun e w' => e = .returned (.bool true) ∧ Below w.heap.size w w'
  go_enter Try.func5, Try.ntmps5
  go_wp2_with fail
  generalize w.alloc (.cells #[.int .u16 x, .int .u16 y] 38) = w5 at *
  go_region_held3 (fun w' => w'.cell? ⟨w.heap.size, 0, none⟩ = some (.int .u16 x) ∧ w'.cell? ⟨w.heap.size, 1, none⟩ = some (.int .u16 y))
    (first | exact h0 | exact hTwo | go_keep)
    (first
      | (go_at_call 25; (refine (live3 _).mono ?_); rintro e w' ⟨rfl, hb'⟩; have BB := Lib.hid (below_both BB.out.drew hb')
         have hTwo : Duo w' w.heap.size x y := Duo.below (w := w5.drew) h0 hb'
         have hT := Lib.hid hTwo)
      | (go_at_call 26; (refine (C1.out _ BB.out).mono ?_); rintro e w' ⟨rfl, hb'⟩; have BB := Lib.hid (below_both BB.out hb')
         have hTwo : Duo w' w.heap.size x y := hT.out.below hb'
         have hT := Lib.hid hTwo)
      | (go_at_call 28; (refine (C3.out _ BB.out).mono ?_); rintro e w' ⟨rfl, hb'⟩; have BB := Lib.hid (below_both BB.out hb')
         have hTwo : Duo w' w.heap.size x y := hT.out.below hb'
         have hT := Lib.hid hTwo)
      | (go_at_call 30; (refine (C5.out _ BB.out).mono ?_); rintro e w' ⟨rfl, hb'⟩; have BB := Lib.hid (below_both BB.out hb')
         have hTwo : Duo w' w.heap.size x y := hT.out.below hb'
         have hT := Lib.hid hTwo)
      | (go_at_call 27; (refine (C2.out _ BB.out).mono ?_); rintro e w' ⟨rfl, rfl⟩)
      | (go_at_call 29; (refine (C4.out _ BB.out).mono ?_); rintro e w' ⟨rfl, rfl⟩)
      | (go_at_call 31; (refine (C6.out _ BB.out).mono ?_); rintro e w' ⟨rfl, rfl⟩)
      | (go_at_call 32; (refine (oadd_any _ _ _ hx hy).mono ?_); rintro e w' ⟨rfl, rfl⟩)
      | (go_at_call 33; (refine (rsum2_any _ _ _ hx hy).mono ?_); rintro e w' ⟨rfl, rfl⟩)
      | (go_at_call 34; (refine (oswap_any _ _ hx).mono ?_); rintro e w' ⟨rfl, rfl⟩)
      | (go_at_call 35; (refine (rswap_any _ _ hx).mono ?_); rintro e w' ⟨rfl, rfl⟩)
      | fail)
  all_goals
    go_wp2_with fail
    go_ret
    exact ⟨by simp, BB.out⟩
end Go.Proofs.Ytgpdghibkkgonaa
