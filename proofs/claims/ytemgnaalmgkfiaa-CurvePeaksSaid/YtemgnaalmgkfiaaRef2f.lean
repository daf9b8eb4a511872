/-
  The contract of the document's Sub.
-/
import Derived.Test.YtemgnaalmgkfiaaRef2d
namespace Go.Proofs.Ytemgnaalmgkfiaa
open Go.RowKit
set_option linter.unusedVariables false
attribute [local go_sem ↓] Go.wp_at_zero Go.wp_at_succ
attribute [local go_sem] World.cell?_alloc_some fcells_length run_storeCells_row Place.new Place.new2 Place.newOld Place.stored

set_option maxRecDepth 10000 in
set_option maxHeartbeats 8000000 in
theorem rsub_any (a b c d A B : Nat) (w : World) (ha : a ≤ 18446744073709551615) (hb0 : b ≤ 18446744073709551615) (hc : c ≤ 18446744073709551615) (hd : d ≤ 18446744073709551615) (hAe : Hid (A = wnum a b)) (hBe : Hid (B = wnum c d)) :
    Calls Try.prog 41 #[.agg #[.int .u64 a, .int .u64 b], .agg #[.int .u64 c, .int .u64 d]] w fun e w' =>
      e = .returned (.tuple #[.agg #[.int .u64 (whi (A + w128 - B) : Nat), .int .u64 (wlo (A + w128 - B) : Nat)], .bool (decide (A < B))]) ∧ Below w.heap.size w w' := by
  have HB1 : Hid (∀ w, Calls Try.prog 40 #[.agg #[.int .u64 a, .int .u64 b]] w fun e w' => e = .returned (.agg (fcells (bit A)).toArray) ∧ Below w.heap.size w w') := by
    rw [hAe.out]; exact fun w => bits2_any a b w ha hb0
  have HB2 : Hid (∀ w, Calls Try.prog 40 #[.agg #[.int .u64 c, .int .u64 d]] w fun e w' => e = .returned (.agg (fcells (bit B)).toArray) ∧ Below w.heap.size w w') := by
    rw [hBe.out]; exact fun w => bits2_any c d w hc hd
  go_enter Try.func41, Try.ntmps41
  go_wp2_with fail
  have W0 := Lib.hid (below_three w (.cells #[.int .u64 a, .int .u64 b] 42) (.cells #[.int .u64 c, .int .u64 d] 42) (.cells #[.int .u64 0, .int .u64 0] 42))
  have K := Lib.hid (KC.start3 w a b c d (.cells #[.int .u64 0, .int .u64 0] 42))
  have S0 : Hid ((((w.alloc (.cells #[.int .u64 a, .int .u64 b] 42)).alloc (.cells #[.int .u64 c, .int .u64 d] 42)).alloc (.cells #[.int .u64 0, .int .u64 0] 42)).heap.size = w.heap.size + 3) := (by simp : _ = _)
  have O0 := Lib.hid (third_block w (.cells #[.int .u64 a, .int .u64 b] 42) (.cells #[.int .u64 c, .int .u64 d] 42) (.cells #[.int .u64 0, .int .u64 0] 42))
  generalize ((w.alloc (.cells #[.int .u64 a, .int .u64 b] 42)).alloc (.cells #[.int .u64 c, .int .u64 d] 42)).alloc (.cells #[.int .u64 0, .int .u64 0] 42) = w0 at *
  have a0 := K.out.a0; have a1 := K.out.a1; have c0 := K.out.c0; have c1 := K.out.c1
  go_cut [6, 7] from 11 to 14 (fun p q wx => ∃ g1 g2 : Nat, p = .pointer (some ⟨g1, 0, none⟩) ∧ q = .pointer (some ⟨g2, 0, none⟩) ∧ Bl wx g1 (bit A) ∧ Bl wx g2 (bit B) ∧ g1 ≠ g2 ∧ w0.heap.size ≤ g1 ∧ w0.heap.size ≤ g2 ∧ Below w0.heap.size w0 wx)
  case first =>
    have K0 := K
    rename_i Q1 A1 J1 K2 Q2 h2
    have H2 := Lib.hid h2
    clear h2 A1
    go_region_with (first
      | (go_at_call 40; (with_reducible refine (HB1.out _).mono ?_); rintro e w' ⟨rfl, hb'⟩
         have KP := K
         have K : Hid (KC w0 w.heap.size a b c d w') := by
           first | exact K.out.of hb' | exact K.out.drew.of hb' | exact (K.out.alloc _).of hb' | exact (K.out.drew.alloc _).of hb' | exact ((K.out.alloc _).alloc _).of hb' | exact ((K.out.drew.alloc _).alloc _).of hb'
         have a0 := K.out.a0; have a1 := K.out.a1; have c0 := K.out.c0; have c1 := K.out.c1
         (try (have m1 := Lib.hid p1.1.lt)); (try (have m2 := Lib.hid p2.1.lt)); (try (have m3 := Lib.hid p3.1.lt))
         (try (with_reducible have r1 := (Place.below p1.1 hb').all)); (try (with_reducible have r1 := (Place.below (p1.2.1 _) hb').all)); (try (with_reducible have r1 := (Place.below (p1.2.2 _ _) hb').all))
         (try (with_reducible have r2 := (Place.below p2.1 hb').all)); (try (with_reducible have r2 := (Place.below (p2.2.1 _) hb').all)); (try (with_reducible have r2 := (Place.below (p2.2.2 _ _) hb').all))
         (try (with_reducible have r3 := (Place.below p3.1 hb').all)); (try (with_reducible have r3 := (Place.below (p3.2.1 _) hb').all)); (try (with_reducible have r3 := (Place.below (p3.2.2 _ _) hb').all))
         (try (with_reducible have p1 := ((Place.new _).below hb').all)); (try (with_reducible have p1 := ((Place.newD _).below hb').all)); (try (with_reducible have p1 := ((Place.newE _).below hb').all))
         (try (with_reducible have p2 := ((Place.newOld _ _).below hb').all)); (try (with_reducible have p2 := ((Place.newOldD _ _).below hb').all)); (try (with_reducible have p2 := ((Place.newOldE _ _).below hb').all))
         (try (with_reducible have p3 := ((Place.new2 _ _).below hb').all)); (try (with_reducible have p3 := ((Place.new2D _ _).below hb').all)); (try (with_reducible have p3 := ((Place.new2E _ _).below hb').all)))
      | (go_at_call 40; (with_reducible refine (HB2.out _).mono ?_); rintro e w' ⟨rfl, hb'⟩
         have KP := K
         have K : Hid (KC w0 w.heap.size a b c d w') := by
           first | exact K.out.of hb' | exact K.out.drew.of hb' | exact (K.out.alloc _).of hb' | exact (K.out.drew.alloc _).of hb' | exact ((K.out.alloc _).alloc _).of hb' | exact ((K.out.drew.alloc _).alloc _).of hb'
         have a0 := K.out.a0; have a1 := K.out.a1; have c0 := K.out.c0; have c1 := K.out.c1
         (try (have m1 := Lib.hid p1.1.lt)); (try (have m2 := Lib.hid p2.1.lt)); (try (have m3 := Lib.hid p3.1.lt))
         (try (with_reducible have r1 := (Place.below p1.1 hb').all)); (try (with_reducible have r1 := (Place.below (p1.2.1 _) hb').all)); (try (with_reducible have r1 := (Place.below (p1.2.2 _ _) hb').all))
         (try (with_reducible have r2 := (Place.below p2.1 hb').all)); (try (with_reducible have r2 := (Place.below (p2.2.1 _) hb').all)); (try (with_reducible have r2 := (Place.below (p2.2.2 _ _) hb').all))
         (try (with_reducible have r3 := (Place.below p3.1 hb').all)); (try (with_reducible have r3 := (Place.below (p3.2.1 _) hb').all)); (try (with_reducible have r3 := (Place.below (p3.2.2 _ _) hb').all))
         (try (with_reducible have p1 := ((Place.new _).below hb').all)); (try (with_reducible have p1 := ((Place.newD _).below hb').all)); (try (with_reducible have p1 := ((Place.newE _).below hb').all))
         (try (with_reducible have p2 := ((Place.newOld _ _).below hb').all)); (try (with_reducible have p2 := ((Place.newOldD _ _).below hb').all)); (try (with_reducible have p2 := ((Place.newOldE _ _).below hb').all))
         (try (with_reducible have p3 := ((Place.new2 _ _).below hb').all)); (try (with_reducible have p3 := ((Place.new2D _ _).below hb').all)); (try (with_reducible have p3 := ((Place.new2E _ _).below hb').all)))
      | fail)
    all_goals
      have h2 := H2.out
      go_wp2_with fail
      go_meet
      have z0 := K0.out.size
      have z1 := KP.out.size
      have z2 := K.out.size
      (try (have y1 := m1.out)); (try (have y2 := m2.out)); (try (have y3 := m3.out))
      (try (have x1 := p1.1.lt)); (try (have x2 := p2.1.lt)); (try (have x3 := p3.1.lt))
      (try (have v1 := r1.1.lt)); (try (have v2 := r2.1.lt)); (try (have v3 := r3.1.lt))
      refine ⟨_, _, rfl, rfl, (Place.into (by first | with_reducible exact p1.1 | with_reducible exact p1.2.1 _ | with_reducible exact p1.2.2 _ _ | with_reducible exact p2.1 | with_reducible exact p2.2.1 _ | with_reducible exact p2.2.2 _ _ | with_reducible exact p3.1 | with_reducible exact p3.2.1 _ | with_reducible exact p3.2.2 _ _ | with_reducible exact r1.1 | with_reducible exact r1.2.1 _ | with_reducible exact r1.2.2 _ _ | with_reducible exact r2.1 | with_reducible exact r2.2.1 _ | with_reducible exact r2.2.2 _ _ | with_reducible exact r3.1 | with_reducible exact r3.2.1 _ | with_reducible exact r3.2.2 _ _ | with_reducible exact Place.newOld _ _ | with_reducible exact Place.new2 _ _ | with_reducible exact Place.new _) _).stored _ (by omega), Place.into (Place.stored (by first | with_reducible exact p1.1 | with_reducible exact p1.2.1 _ | with_reducible exact p1.2.2 _ _ | with_reducible exact p2.1 | with_reducible exact p2.2.1 _ | with_reducible exact p2.2.2 _ _ | with_reducible exact p3.1 | with_reducible exact p3.2.1 _ | with_reducible exact p3.2.2 _ _ | with_reducible exact r1.1 | with_reducible exact r1.2.1 _ | with_reducible exact r1.2.2 _ _ | with_reducible exact r2.1 | with_reducible exact r2.2.1 _ | with_reducible exact r2.2.2 _ _ | with_reducible exact r3.1 | with_reducible exact r3.2.1 _ | with_reducible exact r3.2.2 _ _ | with_reducible exact Place.newOld _ _ | with_reducible exact Place.new2 _ _ | with_reducible exact Place.new _) _) _, by omega, by omega, by omega,
        below_stored (by omega) (below_stored (by omega) (by first | exact K.out.below | exact (K.out.alloc _).below | exact ((K.out.alloc _).alloc _).below) _) _⟩
  case rest =>
    obtain ⟨g1, g2, rfl, rfl, b1, b2, hne, l1, l2, hb⟩ := hcut
    have hrv : w.heap.size + 1 + 1 < w0.heap.size := by have := S0.out; omega
    have HI : Hid (AInv w0 (w.heap.size + 1 + 1) g1 g2 (A + w128 - B) A B 0 wc) := (show AInv _ _ _ _ _ _ _ _ _ from ⟨b1.congr (fun i _ => by unfold mixRow; rw [if_neg (by omega)]), b2, kept O0.out hb, hb⟩)
    have HN := Lib.hid hne
    have HL := Lib.hid l1
    have HRV := Lib.hid hrv
    have hA := wnum_lt ha hb0
    have hB := wnum_lt hc hd
    rw [← hAe.out] at hA
    rw [← hBe.out] at hB
    have HA := Lib.hid hA
    have HB := Lib.hid hB
    clear b1 b2 hb l1 l2 hne hrv hA hB K HB1 HB2 a0 a1 c0 c1 O0
    go_wp2_with fail
    go_loopw [8, 9] (fun c i wr => ∃ k : Nat, k ≤ 128 ∧ c = .int .i64 (borrowIn A B k : Nat) ∧ i = .int .i64 k ∧ Hid (AInv w0 (w.heap.size + 1 + 1) g1 g2 (A + w128 - B) A B k wr)) (fun _ i _ => (128 - intOf i).toNat)
    case atStart => exact ⟨0, by omega, by rw [borrow_zero]; rfl, rfl, HI⟩
    case round =>
      obtain ⟨k, hk, rfl, rfl, HI⟩ := hrel
      by_cases hlt : k < 128
      · have d1 := HI.out.one.cell k hlt
        have d2 := HI.out.two.cell k hlt
        have f1 := HI.out.one.free k
        have e1 : mixRow (A + w128 - B) A k k = bit A k := by unfold mixRow; rw [if_neg (by omega)]
        rw [e1] at d1
        have hsb := diff_bit (A := A) (i := k) hlt HB.out
        have hcs := borrow_succ A B k
        have h1 := bit_le A k
        have h2 := bit_le B k
        have h3 := borrow_le A B k
        have hss := (HI.out).step (x := (bit A k + bit B k + borrowIn A B k) % 2) hlt hsb.symm HL.out HRV.out HN.out
        generalize bit A k = u at *
        generalize bit B k = v at *
        generalize borrowIn A B k = x at *
        obtain ⟨s1, hs1⟩ : ∃ s1 : Int, s1 = (u : Int) - v := ⟨_, rfl⟩
        obtain ⟨r, hr⟩ : ∃ r, r = (u + v + x) % 2 := ⟨_, rfl⟩
        have HR : Hid (r = bit (A + w128 - B) k) := by show r = _; rw [hsb]; omega
        have t1 : IntKind.i64.wrap ((u : Int) - (v : Int)) = s1 := by
          rw [← hs1]; exact IntWalk.i64_in _ ⟨by omega, by omega⟩
        have i0 : (0 : Int) ≤ (k : Int) := by omega
        have i1 : (k : Int) < 128 := by omega
        have HK := Lib.hid hlt
        clear hss
        by_cases hneg : u < v + x
        · have HQ : Hid (borrowIn A B (k + 1) = 1) := by show _ = 1; rw [hcs, if_pos hneg]
          obtain ⟨s2, hs2⟩ : ∃ s2 : Int, s2 = s1 - x := ⟨_, rfl⟩
          have t2 : IntKind.i64.wrap (s1 - (x : Int)) = s2 := by
            rw [← hs2]; exact IntWalk.i64_in _ ⟨by omega, by omega⟩
          have t3 : s2 < 0 := by omega
          have t4 : IntKind.i64.wrap (s2 + 2) = (r : Int) := by
            have e : s2 + 2 = (r : Int) := by omega
            rw [e]; exact IntWalk.i64_in _ ⟨by omega, by omega⟩
          clear hs1 hs2 hr hsb hcs e1 h1 h2 h3 hk hlt hneg
          go_wp2_with fail
          go_quiet (fail)
          go_wp2_with fail
          go_roundw
          case rel => exact ⟨k + 1, by have := HK.out; omega, by rw [HQ.out]; rfl, by go_num, (HI.out.drewN _).step HK.out HR.out HL.out HRV.out HN.out⟩
          case measure => simp [intOf]; have := HK.out; omega
        · have HQ : Hid (borrowIn A B (k + 1) = 0) := by show _ = 0; rw [hcs, if_neg hneg]
          have t2 : IntKind.i64.wrap (s1 - (x : Int)) = (r : Int) := by
            have e : s1 - (x : Int) = (r : Int) := by omega
            rw [e]; exact IntWalk.i64_in _ ⟨by omega, by omega⟩
          have t3 : ¬ (r : Int) < 0 := by omega
          clear hs1 hr hsb hcs e1 h1 h2 h3 hk hlt hneg
          go_wp2_with fail
          go_quiet (fail)
          go_wp2_with fail
          go_roundw
          case rel => exact ⟨k + 1, by have := HK.out; omega, by rw [HQ.out]; rfl, by go_num, (HI.out.drewN _).step HK.out HR.out HL.out HRV.out HN.out⟩
          case measure => simp [intOf]; have := HK.out; omega
      · obtain rfl : k = 128 := by omega
        clear hk hlt
        have HW := Lib.hid (fun w => whole_any (mixRow (A + w128 - B) A 128) w (show ∀ i, _ ≤ 1 from fun i => by unfold mixRow; split <;> exact bit_le _ _))
        have elv : lval (mixRow (A + w128 - B) A 128) 128 = (A + w128 - B) % w128 := by
          rw [lval_congr 128 (g := bit (A + w128 - B)) (fun i hi => by unfold mixRow; rw [if_pos hi]), lval_bit]
          rfl
        have ewd := words_mod (A + w128 - B)
        rw [elv, ewd.1, ewd.2] at HW
        have hcl := borrow_last HA.out HB.out
        have HC : Hid (((borrowIn A B 128 : Nat) : Int) = 1 ↔ A < B) := by
          show _ ↔ _
          rw [hcl]
          split <;> simp_all
        clear elv ewd hcl
        go_upto_region 12 with fail
        refine wp_region_lit ?_
        refine wpList_load_row rfl (.tmp 6) rfl _ rfl HI.out.one ?_
        simp only [Act.put, List.setIfInBounds_toArray, List.set_cons_zero, List.set_cons_succ]
        go_wp2_with fail
        refine (HW.out _).mono ?_
        rintro e w9 ⟨rfl, hb9⟩
        have ho := kept HI.out.out hb9
        have h1 := heap_setCell_same w9 (w.heap.size + 1 + 1) 0 _ _ (.int .u64 (whi (A + w128 - B) : Nat)) ho
        have h2 := heap_setCell_same _ (w.heap.size + 1 + 1) 1 _ _ (.int .u64 (wlo (A + w128 - B) : Nat)) h1
        have q0 := cell_of_row w9 (w.heap.size + 1 + 1) 0 _ _ _ ho
        have q1 := cell_of_row w9 (w.heap.size + 1 + 1) 1 _ _ _ ho
        have fr0 := frozen_of_row w9 (w.heap.size + 1 + 1) 0 _ _ ho
        have fr1 := frozen_of_row w9 (w.heap.size + 1 + 1) 1 _ _ ho
        have hl : (Go.loadVar 42 ⟨w.heap.size + 1 + 1, 0, none⟩).run Try.prog ((w9.setCell ⟨w.heap.size + 1 + 1, 0, none⟩ (.int .u64 (whi (A + w128 - B) : Nat))).setCell ⟨w.heap.size + 1 + 1, 1, none⟩ (.int .u64 (wlo (A + w128 - B) : Nat))) = .ok (.agg #[.int .u64 (whi (A + w128 - B) : Nat), .int .u64 (wlo (A + w128 - B) : Nat)]) _ := wide_load h2
        have HLD := Lib.hid hl
        simp at q0 q1
        have HB9 := Lib.hid ((W0.out.trans ((below_both HI.out.below hb9).mono W0.out.size)).setCell (by simp; omega) (p := ⟨w.heap.size + 1 + 1, 0, none⟩) (.int .u64 (whi (A + w128 - B) : Nat)) |>.setCell (by simp; omega) (p := ⟨w.heap.size + 1 + 1, 1, none⟩) (.int .u64 (wlo (A + w128 - B) : Nat)))
        clear h1 h2 ho hb9 hl
        go_wp2_with fail
        refine bodyPost_ret (results_cell_tmp_is Try.results41 rfl HLD.out) rfl ⟨?_, HB9.out⟩
        have e : (((borrowIn A B 128 : Nat) : Int) == 1) = decide (A < B) := by
          rw [Bool.eq_iff_iff]
          simp only [beq_iff_eq, decide_eq_true_eq]
          exact HC.out
        exact congrArg (fun b => Ending.returned (Value.tuple #[.agg #[.int .u64 (whi (A + w128 - B) : Nat), .int .u64 (wlo (A + w128 - B) : Nat)], .bool b])) e
end Go.Proofs.Ytemgnaalmgkfiaa
