/-
  The contract of the document's Div: the walk.
-/
import Derived.Test.YtemgnaalmgkfiaaRef2h
import Derived.Deep.RegionHeld3
namespace Go.Proofs.Ytemgnaalmgkfiaa
open Go.RowKit
set_option linter.unusedVariables false
attribute [local go_sem ↓] Go.wp_at_zero Go.wp_at_succ
attribute [local go_sem] World.cell?_alloc_some fcells_length run_storeCells_row Place.new Place.new2 Place.newOld Place.stored

set_option maxRecDepth 10000 in
set_option maxHeartbeats 6400000 in
theorem rdiv_any (a b n N : Nat) (w : World) (hn : 0 < n) (hN : Hid (N = wnum a b)) (ha : a ≤ 18446744073709551615) (hb : b ≤ 18446744073709551615) (hn2 : n ≤ 18446744073709551615) :
    Calls Try.prog 30 #[.agg #[.int .u64 a, .int .u64 b], .int .u64 n] w fun e w' =>
      e = .returned (.tuple #[.agg #[.int .u64 (whi (N / n) : Nat), .int .u64 (wlo (N / n) : Nat)], .int .u64 (N % n : Nat)]) ∧ Below w.heap.size w w' := by
  have HB : Hid (∀ w, Calls Try.prog 40 #[.agg #[.int .u64 a, .int .u64 b]] w fun e w' => e = .returned (.agg (fcells (bit N)).toArray) ∧ Below w.heap.size w w') := by
    rw [hN.out]; exact fun w => bits2_any a b w ha hb
  have hNlt := wnum_lt ha hb
  rw [← hN.out] at hNlt
  have HNL := Lib.hid hNlt
  clear hNlt
  have q1 : ¬ (n : Int) = 0 := by omega
  have HN0 := Lib.hid hn
  clear hn
  go_enter Try.func30, Try.ntmps30
  go_wp2_with fail
  refine (HB.out _).mono ?_
  rintro e w1 ⟨rfl, b1⟩
  have B1 := Lib.hid b1
  clear b1
  go_wp2_with fail
  have HR : Hid (RInv w w1.heap.size N (N / n) 128 (restAt N n 128) (((stored (w1.alloc (.cells Try.zeroCells70 70)) w1.heap.size (bit N)).alloc (.cells Try.zeroCells70 70)).alloc (.cells #[.int .u64 0, .int .u64 0] 42))) := by
    have hs : (stored (w1.alloc (.cells Try.zeroCells70 70)) w1.heap.size (bit N)).heap.size = w1.heap.size + 1 := by rw [stored_eq, size_setCells]; simp
    have d1 := B1.out
    have d3 := below_stored (g := w1.heap.size) (Nat.le_refl _) ((Below.refl w1.heap.size w1).alloc (Nat.le_refl _) (.cells Try.zeroCells70 70)) (bit N)
    have d4 := below_both d1 (by exact d3)
    have d5 := d4.alloc d4.size (.cells Try.zeroCells70 70)
    have d6 := d5.alloc d5.size (.cells #[.int .u64 0, .int .u64 0] 42)
    have s1 := d1.size
    simp at s1
    have r0 : restAt N n 128 = 0 := by unfold restAt; rw [show (2 : Nat) ^ 128 = w128 from rfl, Nat.div_eq_of_lt HNL.out]; exact Nat.zero_mod n
    have z := (Bl.zero (stored (w1.alloc (.cells Try.zeroCells70 70)) w1.heap.size (bit N))).alloc (.cells #[.int .u64 0, .int .u64 0] 42)
    rw [hs] at z
    have hl := heap_alloc_new ((stored (w1.alloc (.cells Try.zeroCells70 70)) w1.heap.size (bit N)).alloc (.cells Try.zeroCells70 70)) (.cells #[.int .u64 0, .int .u64 0] 42)
    have hs2 : ((stored (w1.alloc (.cells Try.zeroCells70 70)) w1.heap.size (bit N)).alloc (.cells Try.zeroCells70 70)).heap.size = w1.heap.size + 1 + 1 := by rw [World.size_alloc, hs]
    rw [hs2] at hl
    show RInv _ _ _ _ _ _ _
    rw [r0]
    refine ⟨kept (heap_alloc2_new w _ _) d6, (((Place.into (Place.new w1) (bit N))).alloc _).alloc _, z.congr (fun j hj => by unfold quotRow; rw [if_neg (by omega)]), hl, (below_two w _ _).trans (d6.mono (by simp; omega)), by omega⟩
  have hsz : (stored (w1.alloc (.cells Try.zeroCells70 70)) w1.heap.size (bit N)).heap.size = w1.heap.size + 1 := by rw [stored_eq, size_setCells]; simp
  rw [hsz]
  clear hsz B1 HB
  generalize ((stored (w1.alloc (.cells Try.zeroCells70 70)) w1.heap.size (bit N)).alloc (.cells Try.zeroCells70 70)).alloc (.cells #[.int .u64 0, .int .u64 0] 42) = w2 at *
  generalize w1.heap.size = g at *
  go_loopw [9] (fun i wr => ∃ (j : Int) (k : Nat), Hid ((k : Int) = j + 1) ∧ k ≤ 128 ∧ i = .int .i64 j ∧ Hid (RInv w g N (N / n) k (restAt N n k) wr)) (fun i _ => (intOf i + 1).toNat)
  case atStart => exact ⟨127, 128, rfl, by omega, rfl, HR⟩
  case round =>
    clear HR
    obtain ⟨j, k, hj, hk, rfl, HR⟩ := hrel
    have c0 := cell_of_row wr _ 0 _ _ _ HR.out.rest
    have c1 := cell_of_row wr _ 1 _ _ _ HR.out.rest
    simp at c0 c1
    have f0 := frozen_of_row wr _ 0 _ _ HR.out.rest
    have f1 := frozen_of_row wr _ 1 _ _ HR.out.rest
    cases k with
    | zero =>
      obtain rfl : j = -1 := by have := hj.out; omega
      have hq1 : N / n < w128 := Nat.lt_of_le_of_lt (Nat.div_le_self _ _) HNL.out
      have HW : Hid (∀ w, Calls Try.prog 43 #[.agg (fcells (quotRow (N / n) 0)).toArray] w fun e w' => e = .returned (.agg #[.int .u64 (whi (N / n) : Nat), .int .u64 (wlo (N / n) : Nat)]) ∧ Below w.heap.size w w') := fun w => by
        have h := whole_any (quotRow (N / n) 0) w (show ∀ i, _ ≤ 1 from fun i => quotRow_le _ _ i)
        rw [lval_congr 128 (g := bit (N / n)) (fun i _ => by unfold quotRow; rw [if_pos (Nat.zero_le i)]), lval_bit, show (2 : Nat) ^ 128 = w128 from rfl, Nat.mod_eq_of_lt hq1] at h
        exact h
      have er : wlo (restAt N n 0) = N % n := by
        have := Nat.mod_lt N HN0.out
        unfold restAt wlo
        rw [Nat.pow_zero, Nat.div_one]
        omega
      rw [er] at c1
      have HRow := Lib.hid HR.out.quo.drew.range
      have u1 := row_isRow
      have u2 : (Try.prog.info? 70).map (·.size) = some (fcells (quotRow (N / n) 0)).length := by rw [fcells_length]; exact row_size
      clear hj hk hq1 er c0 f0 f1
      go_wp2_with fail
      go_region_held3 (fun w' => w'.rangeAt (g + 1) 0 (fcells (quotRow (N / n) 0)) ∧ w'.cell? ⟨g + 1 + 1, 1, none⟩ = some (.int .u64 (N % n : Nat)))
        (first | exact ⟨HRow.out, c1⟩ | exact ⟨HRow2.out, D1.out⟩)
        (first
          | (go_at_call 43; (refine (HW.out _).mono ?_); rintro e w' ⟨rfl, hb'⟩
             have HR := Lib.hid (HR.out.drew.next hb')
             have HRow := Lib.hid HR.out.quo.range
             have c1 := carry (w := wr.drew) (p := ⟨g + 1 + 1, 1, none⟩) c1 hb'
             have q0 := cell_of_row w' _ 0 _ _ _ HR.out.res; have q1 := cell_of_row w' _ 1 _ _ _ HR.out.res; simp at q0 q1
             have fr0 := frozen_of_row w' _ 0 _ _ HR.out.res; have fr1 := frozen_of_row w' _ 1 _ _ HR.out.res
             have hgg := HR.out.g1
             have HRow2 := Lib.hid (((HR.out.quo.other ⟨w.heap.size + 1, 0, none⟩ (.int .u64 (whi (N / n) : Nat)) (by show w.heap.size + 1 ≠ g + 1; omega)).other ⟨w.heap.size + 1, 1, none⟩ (.int .u64 (wlo (N / n) : Nat)) (by show w.heap.size + 1 ≠ g + 1; omega)).range)
             have D1 := Lib.hid ((World.cell?_setCell_far (w'.setCell ⟨w.heap.size + 1, 0, none⟩ (.int .u64 (whi (N / n) : Nat))) ⟨w.heap.size + 1, 1, none⟩ ⟨g + 1 + 1, 1, none⟩ (.int .u64 (wlo (N / n) : Nat)) (by show w.heap.size + 1 ≠ g + 1 + 1; omega)).trans ((World.cell?_setCell_far w' ⟨w.heap.size + 1, 0, none⟩ ⟨g + 1 + 1, 1, none⟩ (.int .u64 (whi (N / n) : Nat)) (by show w.heap.size + 1 ≠ g + 1 + 1; omega)).trans c1))
             have h1 := heap_setCell_same w' (w.heap.size + 1) 0 _ _ (.int .u64 (whi (N / n) : Nat)) HR.out.res
             have h2 := heap_setCell_same _ (w.heap.size + 1) 1 _ _ (.int .u64 (wlo (N / n) : Nat)) h1
             have hl : (Go.loadVar 42 ⟨w.heap.size + 1, 0, none⟩).run Try.prog ((w'.setCell ⟨w.heap.size + 1, 0, none⟩ (.int .u64 (whi (N / n) : Nat))).setCell ⟨w.heap.size + 1, 1, none⟩ (.int .u64 (wlo (N / n) : Nat))) = .ok (.agg #[.int .u64 (whi (N / n) : Nat), .int .u64 (wlo (N / n) : Nat)]) _ := wide_load h2
             have HLD := Lib.hid hl
             have HBL := Lib.hid ((HR.out.below.setCell (p := ⟨w.heap.size + 1, 0, none⟩) (by simp) (.int .u64 (whi (N / n) : Nat))).setCell (p := ⟨w.heap.size + 1, 1, none⟩) (by simp) (.int .u64 (wlo (N / n) : Nat)))
             clear h1 h2 hl hgg)
          | fail)
      all_goals
        go_wp2_with fail
        exact bodyPost_ret (results_cell_tmp_is Try.results30 rfl HLD.out) rfl ⟨rfl, HBL.out⟩
    | succ p =>
      obtain rfl : j = (p : Int) := by have := hj.out; omega
      have hp : p < 128 := by omega
      obtain ⟨st1, st2⟩ := rest_step (N := N) (p := p) HN0.out
      have hrl := rest_lt (N := N) (k := p + 1) HN0.out
      have hbit := bit_le N p
      have d1 := HR.out.num.cell p hp
      generalize restAt N n (p + 1) = R at *
      obtain ⟨R2, hR2⟩ : ∃ R2, R2 = R + R := ⟨_, rfl⟩
      have hl1 : R < w128 := by unfold w128; omega
      have hl2 : R2 < w128 := by unfold w128; omega
      have CA := Lib.hid (fun w => radd_nums R R R2 w hl1 hl1 hR2.symm)
      have CO := Lib.hid (fun w => rof_one w)
      have CN := Lib.hid (fun w => rof_any n w)
      have i0 : (0 : Int) ≤ (p : Int) := by omega
      have i1 : (p : Int) < 128 := by omega
      have HP := Lib.hid hp
      obtain ⟨r3, hr3⟩ : ∃ r3, r3 = 2 * R + bit N p := ⟨_, rfl⟩
      rw [← hr3] at st1 st2
      have hl3 : r3 < w128 := by unfold w128; omega
      have H1 := Lib.hid (show restAt N n p = (if r3 < n then r3 else r3 - n) ∧ bit (N / n) p = (if r3 < n then 0 else 1) from by
        by_cases h : r3 < n
        · rw [if_pos h, if_pos h]; exact st1 h
        · rw [if_neg h, if_neg h]; exact st2 (by omega))
      clear st1 st2 hrl hj hk hl1
      go_wp2_with fail
      refine (CA.out _).mono ?_
      rintro e w3 ⟨rfl, b3⟩
      have HR := Lib.hid (HR.out.next b3)
      clear b3 c0 c1 f0 f1
      have c0 := cell_of_row w3 _ 0 _ _ _ HR.out.rest
      have c1 := cell_of_row w3 _ 1 _ _ _ HR.out.rest
      simp at c0 c1
      have f0 := frozen_of_row w3 _ 0 _ _ HR.out.rest
      have f1 := frozen_of_row w3 _ 1 _ _ HR.out.rest
      by_cases hv : bit N p = 1
      · have d1 := HR.out.num.cell p hp
        rw [hv] at d1 hr3
        simp at d1
        have CB := Lib.hid (fun w => radd_one R2 r3 w hl2 (by show R2 + 1 = r3; omega))
        have HR2 := Lib.hid (HR.out.put R2)
        clear hv hbit hR2 hr3 hp
        go_wp2_with fail
        clear HR c0 c1 f0 f1 d1
        generalize ((w3.setCell ⟨g + 1 + 1, 0, none⟩ (.int .u64 (whi R2 : Nat))).setCell ⟨g + 1 + 1, 1, none⟩ (.int .u64 (wlo R2 : Nat))) = w4 at *
        have HR := HR2
        clear HR2
        have c0 := cell_of_row w4 _ 0 _ _ _ HR.out.rest
        have c1 := cell_of_row w4 _ 1 _ _ _ HR.out.rest
        simp at c0 c1
        have f0 := frozen_of_row w4 _ 0 _ _ HR.out.rest
        have f1 := frozen_of_row w4 _ 1 _ _ HR.out.rest
        have e0 := HR.out.quo.cell p HP.out
        have ef := HR.out.quo.free p
        go_region_with (first
          | (go_at_call 32; (refine (CO.out _).mono ?_); rintro e w' ⟨rfl, hb'⟩; have HR := Lib.hid (by first | exact HR.out.next hb' | exact HR.out.drew.next hb'); have c0 := cell_of_row w' _ 0 _ _ _ HR.out.rest; have c1 := cell_of_row w' _ 1 _ _ _ HR.out.rest; simp at c0 c1; have f0 := frozen_of_row w' _ 0 _ _ HR.out.rest; have f1 := frozen_of_row w' _ 1 _ _ HR.out.rest; have e0 := HR.out.quo.cell p HP.out; have ef := HR.out.quo.free p)
          | (go_at_call 31; (refine (CB.out _).mono ?_); rintro e w' ⟨rfl, hb'⟩; have HR := Lib.hid (by first | exact HR.out.next hb' | exact HR.out.drew.next hb'); have c0 := cell_of_row w' _ 0 _ _ _ HR.out.rest; have c1 := cell_of_row w' _ 1 _ _ _ HR.out.rest; simp at c0 c1; have f0 := frozen_of_row w' _ 0 _ _ HR.out.rest; have f1 := frozen_of_row w' _ 1 _ _ HR.out.rest; have e0 := HR.out.quo.cell p HP.out; have ef := HR.out.quo.free p)
          | fail)
        all_goals
          go_wp2_with fail
          have HR := Lib.hid (HR.out.put r3)
          generalize ((w'.setCell ⟨g + 1 + 1, 0, none⟩ (.int .u64 (whi r3 : Nat))).setCell ⟨g + 1 + 1, 1, none⟩ (.int .u64 (wlo r3 : Nat))) = w5 at *
          clear c0 c1 f0 f1 e0 ef
          have c0 := cell_of_row w5 _ 0 _ _ _ HR.out.rest
          have c1 := cell_of_row w5 _ 1 _ _ _ HR.out.rest
          simp at c0 c1
          have f0 := frozen_of_row w5 _ 0 _ _ HR.out.rest
          have f1 := frozen_of_row w5 _ 1 _ _ HR.out.rest
          have e0 := HR.out.quo.cell p HP.out
          have ef := HR.out.quo.free p
          by_cases hlt : r3 < n
          · have HF : Hid (restAt N n p = r3 ∧ bit (N / n) p = 0) := by
              have h := H1.out
              rw [if_pos hlt, if_pos hlt] at h
              exact h
            have CL := Lib.hid (fun w => rless_word r3 n true w hl3 hn2 (by show decide (r3 < n) = true; exact decide_eq_true hlt))
            clear hlt
            go_region_with (first
              | (go_at_call 32; (refine (CN.out _).mono ?_); rintro e w' ⟨rfl, hb'⟩; have HR := Lib.hid (by first | exact HR.out.next hb' | exact HR.out.drew.next hb'); have c0 := cell_of_row w' _ 0 _ _ _ HR.out.rest; have c1 := cell_of_row w' _ 1 _ _ _ HR.out.rest; simp at c0 c1; have f0 := frozen_of_row w' _ 0 _ _ HR.out.rest; have f1 := frozen_of_row w' _ 1 _ _ HR.out.rest; have e0 := HR.out.quo.cell p HP.out; have ef := HR.out.quo.free p)
              | (go_at_call 25; (refine (CL.out _).mono ?_); rintro e w' ⟨rfl, hb'⟩; have HR := Lib.hid (by first | exact HR.out.next hb' | exact HR.out.drew.next hb'); have c0 := cell_of_row w' _ 0 _ _ _ HR.out.rest; have c1 := cell_of_row w' _ 1 _ _ _ HR.out.rest; simp at c0 c1; have f0 := frozen_of_row w' _ 0 _ _ HR.out.rest; have f1 := frozen_of_row w' _ 1 _ _ HR.out.rest; have e0 := HR.out.quo.cell p HP.out; have ef := HR.out.quo.free p)
              | fail)
            all_goals
              go_wp2_with fail
              go_roundw
              case rel => exact ⟨(p : Int) - 1, p, by show (p : Int) = (p : Int) - 1 + 1; omega, by have := HP.out; omega, by go_num, by rw [HF.out.1]; exact HR.out.same HF.out.2⟩
              case measure => simp [intOf]
          · obtain ⟨r4, hr4⟩ : ∃ r4, r4 = r3 - n := ⟨_, rfl⟩
            have HF : Hid (restAt N n p = r4 ∧ bit (N / n) p = 1) := by
              have h := H1.out
              rw [if_neg hlt, if_neg hlt, ← hr4] at h
              exact h
            have CL := Lib.hid (fun w => rless_word r3 n false w hl3 hn2 (by show decide (r3 < n) = false; exact decide_eq_false hlt))
            have CS := Lib.hid (fun w => rsub_word r3 n r4 w hl3 hn2 (by omega) hr4)
            clear hlt hr4
            go_region_with (first
              | (go_at_call 32; (refine (CN.out _).mono ?_); rintro e w' ⟨rfl, hb'⟩; have HR := Lib.hid (by first | exact HR.out.next hb' | exact HR.out.drew.next hb'); have c0 := cell_of_row w' _ 0 _ _ _ HR.out.rest; have c1 := cell_of_row w' _ 1 _ _ _ HR.out.rest; simp at c0 c1; have f0 := frozen_of_row w' _ 0 _ _ HR.out.rest; have f1 := frozen_of_row w' _ 1 _ _ HR.out.rest; have e0 := HR.out.quo.cell p HP.out; have ef := HR.out.quo.free p)
              | (go_at_call 25; (refine (CL.out _).mono ?_); rintro e w' ⟨rfl, hb'⟩; have HR := Lib.hid (by first | exact HR.out.next hb' | exact HR.out.drew.next hb'); have c0 := cell_of_row w' _ 0 _ _ _ HR.out.rest; have c1 := cell_of_row w' _ 1 _ _ _ HR.out.rest; simp at c0 c1; have f0 := frozen_of_row w' _ 0 _ _ HR.out.rest; have f1 := frozen_of_row w' _ 1 _ _ HR.out.rest; have e0 := HR.out.quo.cell p HP.out; have ef := HR.out.quo.free p)
              | fail)
            all_goals
              go_wp2_with fail
              go_region_with (first
                | (go_at_call 32; (refine (CN.out _).mono ?_); rintro e w' ⟨rfl, hb'⟩; have HR := Lib.hid (by first | exact HR.out.next hb' | exact HR.out.drew.next hb'); have c0 := cell_of_row w' _ 0 _ _ _ HR.out.rest; have c1 := cell_of_row w' _ 1 _ _ _ HR.out.rest; simp at c0 c1; have f0 := frozen_of_row w' _ 0 _ _ HR.out.rest; have f1 := frozen_of_row w' _ 1 _ _ HR.out.rest; have e0 := HR.out.quo.cell p HP.out; have ef := HR.out.quo.free p)
                | (go_at_call 41; (refine (CS.out _).mono ?_); rintro e w' ⟨rfl, hb'⟩; have HR := Lib.hid (by first | exact HR.out.next hb' | exact HR.out.drew.next hb'); have c0 := cell_of_row w' _ 0 _ _ _ HR.out.rest; have c1 := cell_of_row w' _ 1 _ _ _ HR.out.rest; simp at c0 c1; have f0 := frozen_of_row w' _ 0 _ _ HR.out.rest; have f1 := frozen_of_row w' _ 1 _ _ HR.out.rest; have e0 := HR.out.quo.cell p HP.out; have ef := HR.out.quo.free p)
                | fail)
            all_goals
              go_wp2_with fail
              go_roundw
              case rel => exact ⟨(p : Int) - 1, p, by show (p : Int) = (p : Int) - 1 + 1; omega, by have := HP.out; omega, by go_num, by rw [HF.out.1]; exact (HR.out.put r4).bit HP.out HF.out.2⟩
              case measure => simp [intOf]
      · have hv0 : bit N p = 0 := by omega
        have d1 := HR.out.num.cell p hp
        rw [hv0] at d1 hr3
        simp at d1
        obtain rfl : r3 = R2 := by omega
        have HR2 := Lib.hid (HR.out.put r3)
        clear hv hv0 hbit hR2 hr3 hp
        go_wp2_with fail
        clear HR c0 c1 f0 f1 d1
        generalize ((w3.setCell ⟨g + 1 + 1, 0, none⟩ (.int .u64 (whi r3 : Nat))).setCell ⟨g + 1 + 1, 1, none⟩ (.int .u64 (wlo r3 : Nat))) = w4 at *
        have HR := HR2
        clear HR2
        have c0 := cell_of_row w4 _ 0 _ _ _ HR.out.rest
        have c1 := cell_of_row w4 _ 1 _ _ _ HR.out.rest
        simp at c0 c1
        have f0 := frozen_of_row w4 _ 0 _ _ HR.out.rest
        have f1 := frozen_of_row w4 _ 1 _ _ HR.out.rest
        have e0 := HR.out.quo.cell p HP.out
        have ef := HR.out.quo.free p
        by_cases hlt : r3 < n
        · have HF : Hid (restAt N n p = r3 ∧ bit (N / n) p = 0) := by
            have h := H1.out
            rw [if_pos hlt, if_pos hlt] at h
            exact h
          have CL := Lib.hid (fun w => rless_word r3 n true w hl3 hn2 (by show decide (r3 < n) = true; exact decide_eq_true hlt))
          clear hlt
          go_region_with (first
            | (go_at_call 32; (refine (CN.out _).mono ?_); rintro e w' ⟨rfl, hb'⟩; have HR := Lib.hid (by first | exact HR.out.next hb' | exact HR.out.drew.next hb'); have c0 := cell_of_row w' _ 0 _ _ _ HR.out.rest; have c1 := cell_of_row w' _ 1 _ _ _ HR.out.rest; simp at c0 c1; have f0 := frozen_of_row w' _ 0 _ _ HR.out.rest; have f1 := frozen_of_row w' _ 1 _ _ HR.out.rest; have e0 := HR.out.quo.cell p HP.out; have ef := HR.out.quo.free p)
            | (go_at_call 25; (refine (CL.out _).mono ?_); rintro e w' ⟨rfl, hb'⟩; have HR := Lib.hid (by first | exact HR.out.next hb' | exact HR.out.drew.next hb'); have c0 := cell_of_row w' _ 0 _ _ _ HR.out.rest; have c1 := cell_of_row w' _ 1 _ _ _ HR.out.rest; simp at c0 c1; have f0 := frozen_of_row w' _ 0 _ _ HR.out.rest; have f1 := frozen_of_row w' _ 1 _ _ HR.out.rest; have e0 := HR.out.quo.cell p HP.out; have ef := HR.out.quo.free p)
            | fail)
          all_goals
            go_wp2_with fail
            go_roundw
            case rel => exact ⟨(p : Int) - 1, p, by show (p : Int) = (p : Int) - 1 + 1; omega, by have := HP.out; omega, by go_num, by rw [HF.out.1]; exact HR.out.same HF.out.2⟩
            case measure => simp [intOf]
        · obtain ⟨r4, hr4⟩ : ∃ r4, r4 = r3 - n := ⟨_, rfl⟩
          have HF : Hid (restAt N n p = r4 ∧ bit (N / n) p = 1) := by
            have h := H1.out
            rw [if_neg hlt, if_neg hlt, ← hr4] at h
            exact h
          have CL := Lib.hid (fun w => rless_word r3 n false w hl3 hn2 (by show decide (r3 < n) = false; exact decide_eq_false hlt))
          have CS := Lib.hid (fun w => rsub_word r3 n r4 w hl3 hn2 (by omega) hr4)
          clear hlt hr4
          go_region_with (first
            | (go_at_call 32; (refine (CN.out _).mono ?_); rintro e w' ⟨rfl, hb'⟩; have HR := Lib.hid (by first | exact HR.out.next hb' | exact HR.out.drew.next hb'); have c0 := cell_of_row w' _ 0 _ _ _ HR.out.rest; have c1 := cell_of_row w' _ 1 _ _ _ HR.out.rest; simp at c0 c1; have f0 := frozen_of_row w' _ 0 _ _ HR.out.rest; have f1 := frozen_of_row w' _ 1 _ _ HR.out.rest; have e0 := HR.out.quo.cell p HP.out; have ef := HR.out.quo.free p)
            | (go_at_call 25; (refine (CL.out _).mono ?_); rintro e w' ⟨rfl, hb'⟩; have HR := Lib.hid (by first | exact HR.out.next hb' | exact HR.out.drew.next hb'); have c0 := cell_of_row w' _ 0 _ _ _ HR.out.rest; have c1 := cell_of_row w' _ 1 _ _ _ HR.out.rest; simp at c0 c1; have f0 := frozen_of_row w' _ 0 _ _ HR.out.rest; have f1 := frozen_of_row w' _ 1 _ _ HR.out.rest; have e0 := HR.out.quo.cell p HP.out; have ef := HR.out.quo.free p)
            | fail)
          all_goals
            go_wp2_with fail
            go_region_with (first
              | (go_at_call 32; (refine (CN.out _).mono ?_); rintro e w' ⟨rfl, hb'⟩; have HR := Lib.hid (by first | exact HR.out.next hb' | exact HR.out.drew.next hb'); have c0 := cell_of_row w' _ 0 _ _ _ HR.out.rest; have c1 := cell_of_row w' _ 1 _ _ _ HR.out.rest; simp at c0 c1; have f0 := frozen_of_row w' _ 0 _ _ HR.out.rest; have f1 := frozen_of_row w' _ 1 _ _ HR.out.rest; have e0 := HR.out.quo.cell p HP.out; have ef := HR.out.quo.free p)
              | (go_at_call 41; (refine (CS.out _).mono ?_); rintro e w' ⟨rfl, hb'⟩; have HR := Lib.hid (by first | exact HR.out.next hb' | exact HR.out.drew.next hb'); have c0 := cell_of_row w' _ 0 _ _ _ HR.out.rest; have c1 := cell_of_row w' _ 1 _ _ _ HR.out.rest; simp at c0 c1; have f0 := frozen_of_row w' _ 0 _ _ HR.out.rest; have f1 := frozen_of_row w' _ 1 _ _ HR.out.rest; have e0 := HR.out.quo.cell p HP.out; have ef := HR.out.quo.free p)
              | fail)
          all_goals
            go_wp2_with fail
            go_roundw
            case rel => exact ⟨(p : Int) - 1, p, by show (p : Int) = (p : Int) - 1 + 1; omega, by have := HP.out; omega, by go_num, by rw [HF.out.1]; exact (HR.out.put r4).bit HP.out HF.out.2⟩
            case measure => simp [intOf]
end Go.Proofs.Ytemgnaalmgkfiaa
