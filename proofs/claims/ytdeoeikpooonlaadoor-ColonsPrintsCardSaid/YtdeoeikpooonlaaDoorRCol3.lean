/-
  The contract of the document's Print of layer 6.
-/
import Derived.Test.YtdeoeikpooonlaaDoorRCol2
namespace Go.Proofs.YtdeoeikpooonlaaDoor
open Go.RowKit
set_option linter.unusedVariables false

theorem best_run (gs : List Nat) (k : Nat) (h : 1 ≤ (best gs k).2) : (best gs k).2 = zrun (gs.drop (best gs k).1) := by
  induction k with
  | zero => simp [best] at h
  | succ k ih =>
    rw [best] at h ⊢
    split
    · rfl
    · rename_i hn
      rw [if_neg hn] at h
      exact ih h
/-- The place that the document keeps. -/
def bsti (gs : List Nat) (k : Nat) : Int := if (best gs k).2 < 2 then -1 else ((best gs k).1 : Nat)
theorem bsti_keep {gs : List Nat} {k : Nat} (h : zrun (gs.drop k) < 2 ∨ zrun (gs.drop k) ≤ (best gs k).2) : bsti gs (k + 1) = bsti gs k := by
  unfold bsti
  rw [best]
  split
  · rename_i hlt
    rw [if_pos (by show zrun _ < 2; omega), if_pos (by omega)]
  · rfl
theorem bsti_new {gs : List Nat} {k : Nat} (h1 : 2 ≤ zrun (gs.drop k)) (h2 : (best gs k).2 < zrun (gs.drop k)) : bsti gs (k + 1) = (k : Int) := by
  unfold bsti
  rw [best, if_pos h2, if_neg (by show ¬ zrun _ < 2; omega)]
/-- What stands in the variables. -/
structure RP (w : World) (X : List Nat) (W : World) : Prop where
  x : ArrV 37 W w.heap.size (bcells X)
  bel : Below w.heap.size w W
theorem RP.below {w W W' : World} {X : List Nat} (h : RP w X W) (hb : Below W.heap.size W W') : RP w X W' := ⟨h.x.below hb, below_both h.bel hb⟩
theorem RP.drew {w W : World} {X : List Nat} (h : RP w X W) : RP w X W.drew := ⟨h.x, h.bel.drew⟩
theorem quietAt_cat {C : World → Prop} {o : Oper} {a : Act} {W : World} {x y : Operand} {s t : ByteArray} (ho : o.op = .binOp .add 9 x y 9) (hx : a.eval x = .string s) (hy : a.eval y = .string t) (h : s.size + t.size ≤ 9223372036854775807) :
    Oper.quietAt Tryd.prog o a C W (.string (s ++ t)) := by
  have h' : ¬ (9223372036854775807 < s.size + t.size) := by omega

  unfold Oper.quietAt execOp
  simp only [ho, hx, hy]
  simp [go_sem, h', Oper.quietUpon]
set_option maxRecDepth 10000 in
set_option maxHeartbeats 6400000 in
theorem rprint6 (X : List Nat) (w : World) (hX : X.length = 16) (bX : ∀ x ∈ X, x < 256) :
    Calls Tryd.prog 30 #[.agg (bcells X).toArray] w fun e w' => e = .returned (.string (pstr6 (grps X))) ∧ Below w.heap.size w w' := by
  have hs16 : (bcells X).length = 16 := by rw [bcells_length, hX]
  have J0 : Hid (RP w X (w.alloc (.cells (bcells X).toArray 37))) := ⟨ArrV.new _ w _, (Below.refl _ _).alloc (Nat.le_refl _) _⟩
  have CR := Lib.hid (fun f w hf => rrun_any X f w hX bX hf)
  have CG := Lib.hid (fun a b w hab hb => rgroups_any X a b w hX bX hab hb)
  have HL := Lib.hid (grps_length X)
  have HB := Lib.hid (grps_lt bX)
  clear hX bX
  generalize hgs : grps X = gs at *
  clear hgs
  go_enter Tryd.func30, Tryd.ntmps30
  go_wp2_with fail
  go_loopw [3, 4] (fun b i wr => ∃ k : Nat, k ≤ 8 ∧ i = .int .i64 k ∧ b = .int .i64 (bsti gs k) ∧ Hid (RP w X wr)) (fun _ i _ => 8 - (intOf i).toNat)
  case atStart => exact ⟨0, by decide, rfl, rfl, J0.out⟩
  case round =>
    clear J0
    obtain ⟨k, hk, rfl, rfl, J⟩ := hrel
    by_cases hlt : k < 8
    · have CK := Lib.hid (fun w => CR.out k w hk)
      have wk : wrap64 ((k : Int) + 1) = ((k + 1 : Nat) : Int) := wrap_inc (by omega)
      have hrl : zrun (gs.drop k) ≤ 8 := by have := zrun_le (gs.drop k); rw [List.length_drop, HL.out] at this; omega
      have hbl := best_lt gs k hk HL.out
      have hkeep := Lib.hid (fun h => bsti_keep (gs := gs) (k := k) h)
      have hnew := Lib.hid (fun h1 h2 => bsti_new (gs := gs) (k := k) h1 h2)
      have hrun := Lib.hid (fun h => best_run gs k h)
      have hbst : Hid (bsti gs k = if (best gs k).2 < 2 then -1 else (((best gs k).1 : Nat) : Int)) := rfl
      have CB := Lib.hid (fun w => CR.out (best gs k).1 w (by omega))
      obtain ⟨r, hr⟩ : ∃ r, zrun (gs.drop k) = r := ⟨_, rfl⟩
      obtain ⟨N, hN⟩ : ∃ N, (best gs k).2 = N := ⟨_, rfl⟩
      rw [hr] at CK hkeep hnew hrl
      rw [hN] at hkeep hnew hrun hbst hbl
      clear hr hN
      by_cases h2 : r < 2
      · have E : Hid (bsti gs (k + 1) = bsti gs k) := hkeep.out (.inl h2)
        have r2 : ¬ ((2 : Int) ≤ (r : Int)) := by omega
        clear h2 hbl hrl
        generalize bsti gs k = b at *
        go_upto_region 5 with fail
        refine wp_quiet_l6 (C := RP w X) (by kernel_rfl) (by kernel_rfl) J.out.drew ?_
        go_big_quiet_want
        apply Exists.intro
        refine ⟨fun w' hw' => ?_, ?_⟩
        · exact quietAt_load rfl rfl ty16 hw'.x hs16
        simp only [Act.put, List.setIfInBounds_toArray, List.set_cons_zero, List.set_cons_succ]
        go_big_quiet_on
        first | go_big_quiet_skip | (go_big_quiet_want; go_big_quiet_op; first | go_big_quiet_on | (apply Exists.intro; refine ⟨fun w' hw' => rfl, ?_⟩; go_big_quiet_on))
        go_big_quiet_want
        go_big_quiet_op
        apply Exists.intro
        refine ⟨fun w' hw' => ?_, ?_⟩
        · refine (CK.out w').mono ?_
          rintro e w'' ⟨rfl, hb⟩
          exact ⟨rfl, hw'.below hb⟩
        go_big_quiet_on
        first | go_big_quiet_skip | (go_big_quiet_want; go_big_quiet_op; first | go_big_quiet_on | (apply Exists.intro; refine ⟨fun w' hw' => rfl, ?_⟩; go_big_quiet_on))
        first | go_big_quiet_skip | (go_big_quiet_want; go_big_quiet_op; first | go_big_quiet_on | (apply Exists.intro; refine ⟨fun w' hw' => rfl, ?_⟩; go_big_quiet_on))
        first | go_big_quiet_skip | (go_big_quiet_want; go_big_quiet_op; first | go_big_quiet_on | (apply Exists.intro; refine ⟨fun w' hw' => rfl, ?_⟩; go_big_quiet_on))
        first | go_big_quiet_skip | (go_big_quiet_want; go_big_quiet_op; first | go_big_quiet_on | (apply Exists.intro; refine ⟨fun w' hw' => rfl, ?_⟩; go_big_quiet_on))
        first | go_big_quiet_skip | (go_big_quiet_want; go_big_quiet_op; first | go_big_quiet_on | (apply Exists.intro; refine ⟨fun w' hw' => rfl, ?_⟩; go_big_quiet_on))
        first | go_big_quiet_skip | (go_big_quiet_want; go_big_quiet_op; first | go_big_quiet_on | (apply Exists.intro; refine ⟨fun w' hw' => rfl, ?_⟩; go_big_quiet_on))
        first | go_big_quiet_skip | (go_big_quiet_want; go_big_quiet_op; first | go_big_quiet_on | (apply Exists.intro; refine ⟨fun w' hw' => rfl, ?_⟩; go_big_quiet_on))
        first | go_big_quiet_skip | (go_big_quiet_want; go_big_quiet_op; first | go_big_quiet_on | (apply Exists.intro; refine ⟨fun w' hw' => rfl, ?_⟩; go_big_quiet_on))
        first | go_big_quiet_skip | (go_big_quiet_want; go_big_quiet_op; first | go_big_quiet_on | (apply Exists.intro; refine ⟨fun w' hw' => rfl, ?_⟩; go_big_quiet_on))
        first | go_big_quiet_skip | (go_big_quiet_want; go_big_quiet_op; first | go_big_quiet_on | (apply Exists.intro; refine ⟨fun w' hw' => rfl, ?_⟩; go_big_quiet_on))
        first | go_big_quiet_skip | (go_big_quiet_want; go_big_quiet_op; first | go_big_quiet_on | (apply Exists.intro; refine ⟨fun w' hw' => rfl, ?_⟩; go_big_quiet_on))
        first | go_big_quiet_skip | (go_big_quiet_want; go_big_quiet_op; first | go_big_quiet_on | (apply Exists.intro; refine ⟨fun w' hw' => rfl, ?_⟩; go_big_quiet_on))
        first | go_big_quiet_skip | (go_big_quiet_want; go_big_quiet_op; first | go_big_quiet_on | (apply Exists.intro; refine ⟨fun w' hw' => rfl, ?_⟩; go_big_quiet_on))
        first | go_big_quiet_skip | (go_big_quiet_want; go_big_quiet_op; first | go_big_quiet_on | (apply Exists.intro; refine ⟨fun w' hw' => rfl, ?_⟩; go_big_quiet_on))
        refine wpQuiet_nil ?_
        intro w' hw'
        have J1 := Lib.hid hw'
        clear hw' J
        go_wp2_with fail
        go_roundw
        case rel => exact ⟨k + 1, by omega, by go_num, by rw [E.out], J1.out⟩
        case measure => simp [intOf]; omega
      · have r2 : (2 : Int) ≤ (r : Int) := by omega
        by_cases hN2 : N < 2
        · have E : Hid (bsti gs (k + 1) = (k : Int)) := hnew.out (by omega) (by omega)
          have hb : bsti gs k = -1 := by rw [hbst.out, if_pos hN2]
          rw [hb]
          clear h2 hbl hrl hN2 hb hbst
          go_upto_region 5 with fail
          refine wp_quiet_l6 (C := RP w X) (by kernel_rfl) (by kernel_rfl) J.out.drew ?_
          go_big_quiet_want
          apply Exists.intro
          refine ⟨fun w' hw' => ?_, ?_⟩
          · exact quietAt_load rfl rfl ty16 hw'.x hs16
          simp only [Act.put, List.setIfInBounds_toArray, List.set_cons_zero, List.set_cons_succ]
          go_big_quiet_on
          first | go_big_quiet_skip | (go_big_quiet_want; go_big_quiet_op; first | go_big_quiet_on | (apply Exists.intro; refine ⟨fun w' hw' => rfl, ?_⟩; go_big_quiet_on))
          go_big_quiet_want
          go_big_quiet_op
          apply Exists.intro
          refine ⟨fun w' hw' => ?_, ?_⟩
          · refine (CK.out w').mono ?_
            rintro e w'' ⟨rfl, hb⟩
            exact ⟨rfl, hw'.below hb⟩
          go_big_quiet_on
          first | go_big_quiet_skip | (go_big_quiet_want; go_big_quiet_op; first | go_big_quiet_on | (apply Exists.intro; refine ⟨fun w' hw' => rfl, ?_⟩; go_big_quiet_on))
          first | go_big_quiet_skip | (go_big_quiet_want; go_big_quiet_op; first | go_big_quiet_on | (apply Exists.intro; refine ⟨fun w' hw' => rfl, ?_⟩; go_big_quiet_on))
          first | go_big_quiet_skip | (go_big_quiet_want; go_big_quiet_op; first | go_big_quiet_on | (apply Exists.intro; refine ⟨fun w' hw' => rfl, ?_⟩; go_big_quiet_on))
          first | go_big_quiet_skip | (go_big_quiet_want; go_big_quiet_op; first | go_big_quiet_on | (apply Exists.intro; refine ⟨fun w' hw' => rfl, ?_⟩; go_big_quiet_on))
          first | go_big_quiet_skip | (go_big_quiet_want; go_big_quiet_op; first | go_big_quiet_on | (apply Exists.intro; refine ⟨fun w' hw' => rfl, ?_⟩; go_big_quiet_on))
          first | go_big_quiet_skip | (go_big_quiet_want; go_big_quiet_op; first | go_big_quiet_on | (apply Exists.intro; refine ⟨fun w' hw' => rfl, ?_⟩; go_big_quiet_on))
          first | go_big_quiet_skip | (go_big_quiet_want; go_big_quiet_op; first | go_big_quiet_on | (apply Exists.intro; refine ⟨fun w' hw' => rfl, ?_⟩; go_big_quiet_on))
          first | go_big_quiet_skip | (go_big_quiet_want; go_big_quiet_op; first | go_big_quiet_on | (apply Exists.intro; refine ⟨fun w' hw' => rfl, ?_⟩; go_big_quiet_on))
          first | go_big_quiet_skip | (go_big_quiet_want; go_big_quiet_op; first | go_big_quiet_on | (apply Exists.intro; refine ⟨fun w' hw' => rfl, ?_⟩; go_big_quiet_on))
          first | go_big_quiet_skip | (go_big_quiet_want; go_big_quiet_op; first | go_big_quiet_on | (apply Exists.intro; refine ⟨fun w' hw' => rfl, ?_⟩; go_big_quiet_on))
          first | go_big_quiet_skip | (go_big_quiet_want; go_big_quiet_op; first | go_big_quiet_on | (apply Exists.intro; refine ⟨fun w' hw' => rfl, ?_⟩; go_big_quiet_on))
          first | go_big_quiet_skip | (go_big_quiet_want; go_big_quiet_op; first | go_big_quiet_on | (apply Exists.intro; refine ⟨fun w' hw' => rfl, ?_⟩; go_big_quiet_on))
          first | go_big_quiet_skip | (go_big_quiet_want; go_big_quiet_op; first | go_big_quiet_on | (apply Exists.intro; refine ⟨fun w' hw' => rfl, ?_⟩; go_big_quiet_on))
          first | go_big_quiet_skip | (go_big_quiet_want; go_big_quiet_op; first | go_big_quiet_on | (apply Exists.intro; refine ⟨fun w' hw' => rfl, ?_⟩; go_big_quiet_on))
          refine wpQuiet_nil ?_
          intro w' hw'
          have J1 := Lib.hid hw'
          clear hw' J
          go_wp2_with fail
          go_roundw
          case rel => exact ⟨k + 1, by omega, by go_num, by rw [E.out], J1.out⟩
          case measure => simp [intOf]; omega
        · have hb : bsti gs k = (((best gs k).1 : Nat) : Int) := by rw [hbst.out, if_neg hN2]
          have hrN := hrun.out (by omega)
          rw [← hrN] at CB
          have E1 := Lib.hid (fun h => hnew.out (by omega) h)
          have E2 := Lib.hid (fun h => hkeep.out (.inr h))
          rw [hb] at E2 ⊢
          clear hrun hkeep hnew hbst hrN hb
          generalize (best gs k).1 = A at *
          have hA : ¬ ((A : Int) < 0) := by omega
          have hA0 : (0 : Int) ≤ (A : Int) := by omega
          by_cases hlt2 : N < r
          · have E : Hid (bsti gs (k + 1) = (k : Int)) := E1.out hlt2
            have l2 : (N : Int) < (r : Int) := by omega
            clear h2 hbl hrl hN2 hlt2 E1 E2
            go_upto_region 5 with fail
            refine wp_quiet_l6 (C := RP w X) (by kernel_rfl) (by kernel_rfl) J.out.drew ?_
            go_big_quiet_want
            apply Exists.intro
            refine ⟨fun w' hw' => ?_, ?_⟩
            · exact quietAt_load rfl rfl ty16 hw'.x hs16
            simp only [Act.put, List.setIfInBounds_toArray, List.set_cons_zero, List.set_cons_succ]
            go_big_quiet_on
            first | go_big_quiet_skip | (go_big_quiet_want; go_big_quiet_op; first | go_big_quiet_on | (apply Exists.intro; refine ⟨fun w' hw' => rfl, ?_⟩; go_big_quiet_on))
            go_big_quiet_want
            go_big_quiet_op
            apply Exists.intro
            refine ⟨fun w' hw' => ?_, ?_⟩
            · refine (CK.out w').mono ?_
              rintro e w'' ⟨rfl, hb⟩
              exact ⟨rfl, hw'.below hb⟩
            go_big_quiet_on
            first | go_big_quiet_skip | (go_big_quiet_want; go_big_quiet_op; first | go_big_quiet_on | (apply Exists.intro; refine ⟨fun w' hw' => rfl, ?_⟩; go_big_quiet_on))
            first | go_big_quiet_skip | (go_big_quiet_want; go_big_quiet_op; first | go_big_quiet_on | (apply Exists.intro; refine ⟨fun w' hw' => rfl, ?_⟩; go_big_quiet_on))
            first | go_big_quiet_skip | (go_big_quiet_want; go_big_quiet_op; first | go_big_quiet_on | (apply Exists.intro; refine ⟨fun w' hw' => rfl, ?_⟩; go_big_quiet_on))
            first | go_big_quiet_skip | (go_big_quiet_want; go_big_quiet_op; first | go_big_quiet_on | (apply Exists.intro; refine ⟨fun w' hw' => rfl, ?_⟩; go_big_quiet_on))
            first | go_big_quiet_skip | (go_big_quiet_want; go_big_quiet_op; first | go_big_quiet_on | (apply Exists.intro; refine ⟨fun w' hw' => rfl, ?_⟩; go_big_quiet_on))
            go_big_quiet_want
            apply Exists.intro
            refine ⟨fun w' hw' => ?_, ?_⟩
            · exact quietAt_load rfl rfl ty16 hw'.x hs16
            simp only [Act.put, List.setIfInBounds_toArray, List.set_cons_zero, List.set_cons_succ]
            go_big_quiet_on
            first | go_big_quiet_skip | (go_big_quiet_want; go_big_quiet_op; first | go_big_quiet_on | (apply Exists.intro; refine ⟨fun w' hw' => rfl, ?_⟩; go_big_quiet_on))
            go_big_quiet_want
            go_big_quiet_op
            apply Exists.intro
            refine ⟨fun w' hw' => ?_, ?_⟩
            · refine (CK.out w').mono ?_
              rintro e w'' ⟨rfl, hb⟩
              exact ⟨rfl, hw'.below hb⟩
            go_big_quiet_on
            go_big_quiet_want
            apply Exists.intro
            refine ⟨fun w' hw' => ?_, ?_⟩
            · exact quietAt_load rfl rfl ty16 hw'.x hs16
            simp only [Act.put, List.setIfInBounds_toArray, List.set_cons_zero, List.set_cons_succ]
            go_big_quiet_on
            first | go_big_quiet_skip | (go_big_quiet_want; go_big_quiet_op; first | go_big_quiet_on | (apply Exists.intro; refine ⟨fun w' hw' => rfl, ?_⟩; go_big_quiet_on))
            go_big_quiet_want
            go_big_quiet_op
            apply Exists.intro
            refine ⟨fun w' hw' => ?_, ?_⟩
            · refine (CB.out w').mono ?_
              rintro e w'' ⟨rfl, hb⟩
              exact ⟨rfl, hw'.below hb⟩
            go_big_quiet_on
            first | go_big_quiet_skip | (go_big_quiet_want; go_big_quiet_op; first | go_big_quiet_on | (apply Exists.intro; refine ⟨fun w' hw' => rfl, ?_⟩; go_big_quiet_on))
            first | go_big_quiet_skip | (go_big_quiet_want; go_big_quiet_op; first | go_big_quiet_on | (apply Exists.intro; refine ⟨fun w' hw' => rfl, ?_⟩; go_big_quiet_on))
            first | go_big_quiet_skip | (go_big_quiet_want; go_big_quiet_op; first | go_big_quiet_on | (apply Exists.intro; refine ⟨fun w' hw' => rfl, ?_⟩; go_big_quiet_on))
            refine wpQuiet_nil ?_
            intro w' hw'
            have J1 := Lib.hid hw'
            clear hw' J
            go_wp2_with fail
            go_roundw
            case rel => exact ⟨k + 1, by omega, by go_num, by rw [E.out], J1.out⟩
            case measure => simp [intOf]; omega
          · have E : Hid (bsti gs (k + 1) = (A : Int)) := E2.out (by omega)
            have l2 : ¬ ((N : Int) < (r : Int)) := by omega
            have l3 : (r : Int) ≤ (N : Int) := by omega
            clear h2 hbl hrl hN2 hlt2 E1 E2
            go_upto_region 5 with fail
            refine wp_quiet_l6 (C := RP w X) (by kernel_rfl) (by kernel_rfl) J.out.drew ?_
            go_big_quiet_want
            apply Exists.intro
            refine ⟨fun w' hw' => ?_, ?_⟩
            · exact quietAt_load rfl rfl ty16 hw'.x hs16
            simp only [Act.put, List.setIfInBounds_toArray, List.set_cons_zero, List.set_cons_succ]
            go_big_quiet_on
            first | go_big_quiet_skip | (go_big_quiet_want; go_big_quiet_op; first | go_big_quiet_on | (apply Exists.intro; refine ⟨fun w' hw' => rfl, ?_⟩; go_big_quiet_on))
            go_big_quiet_want
            go_big_quiet_op
            apply Exists.intro
            refine ⟨fun w' hw' => ?_, ?_⟩
            · refine (CK.out w').mono ?_
              rintro e w'' ⟨rfl, hb⟩
              exact ⟨rfl, hw'.below hb⟩
            go_big_quiet_on
            first | go_big_quiet_skip | (go_big_quiet_want; go_big_quiet_op; first | go_big_quiet_on | (apply Exists.intro; refine ⟨fun w' hw' => rfl, ?_⟩; go_big_quiet_on))
            first | go_big_quiet_skip | (go_big_quiet_want; go_big_quiet_op; first | go_big_quiet_on | (apply Exists.intro; refine ⟨fun w' hw' => rfl, ?_⟩; go_big_quiet_on))
            first | go_big_quiet_skip | (go_big_quiet_want; go_big_quiet_op; first | go_big_quiet_on | (apply Exists.intro; refine ⟨fun w' hw' => rfl, ?_⟩; go_big_quiet_on))
            first | go_big_quiet_skip | (go_big_quiet_want; go_big_quiet_op; first | go_big_quiet_on | (apply Exists.intro; refine ⟨fun w' hw' => rfl, ?_⟩; go_big_quiet_on))
            first | go_big_quiet_skip | (go_big_quiet_want; go_big_quiet_op; first | go_big_quiet_on | (apply Exists.intro; refine ⟨fun w' hw' => rfl, ?_⟩; go_big_quiet_on))
            go_big_quiet_want
            apply Exists.intro
            refine ⟨fun w' hw' => ?_, ?_⟩
            · exact quietAt_load rfl rfl ty16 hw'.x hs16
            simp only [Act.put, List.setIfInBounds_toArray, List.set_cons_zero, List.set_cons_succ]
            go_big_quiet_on
            first | go_big_quiet_skip | (go_big_quiet_want; go_big_quiet_op; first | go_big_quiet_on | (apply Exists.intro; refine ⟨fun w' hw' => rfl, ?_⟩; go_big_quiet_on))
            go_big_quiet_want
            go_big_quiet_op
            apply Exists.intro
            refine ⟨fun w' hw' => ?_, ?_⟩
            · refine (CK.out w').mono ?_
              rintro e w'' ⟨rfl, hb⟩
              exact ⟨rfl, hw'.below hb⟩
            go_big_quiet_on
            go_big_quiet_want
            apply Exists.intro
            refine ⟨fun w' hw' => ?_, ?_⟩
            · exact quietAt_load rfl rfl ty16 hw'.x hs16
            simp only [Act.put, List.setIfInBounds_toArray, List.set_cons_zero, List.set_cons_succ]
            go_big_quiet_on
            first | go_big_quiet_skip | (go_big_quiet_want; go_big_quiet_op; first | go_big_quiet_on | (apply Exists.intro; refine ⟨fun w' hw' => rfl, ?_⟩; go_big_quiet_on))
            go_big_quiet_want
            go_big_quiet_op
            apply Exists.intro
            refine ⟨fun w' hw' => ?_, ?_⟩
            · refine (CB.out w').mono ?_
              rintro e w'' ⟨rfl, hb⟩
              exact ⟨rfl, hw'.below hb⟩
            go_big_quiet_on
            first | go_big_quiet_skip | (go_big_quiet_want; go_big_quiet_op; first | go_big_quiet_on | (apply Exists.intro; refine ⟨fun w' hw' => rfl, ?_⟩; go_big_quiet_on))
            first | go_big_quiet_skip | (go_big_quiet_want; go_big_quiet_op; first | go_big_quiet_on | (apply Exists.intro; refine ⟨fun w' hw' => rfl, ?_⟩; go_big_quiet_on))
            first | go_big_quiet_skip | (go_big_quiet_want; go_big_quiet_op; first | go_big_quiet_on | (apply Exists.intro; refine ⟨fun w' hw' => rfl, ?_⟩; go_big_quiet_on))
            refine wpQuiet_nil ?_
            intro w' hw'
            have J1 := Lib.hid hw'
            clear hw' J
            go_wp2_with fail
            go_roundw
            case rel => exact ⟨k + 1, by omega, by go_num, by rw [E.out], J1.out⟩
            case measure => simp [intOf]; omega
    · obtain rfl : k = 8 := by omega
      have HPr : Hid (pstr6 gs = if (best gs 8).2 < 2 then gstr gs else ⟨(gsjoin (gs.take (best gs 8).1) ++ 58 :: 58 :: gsjoin (gs.drop ((best gs 8).1 + (best gs 8).2))).toArray⟩) := by
        show _ = _
        unfold pstr6 colPrint gstr
        split <;> rfl
      have hbst : Hid (bsti gs 8 = if (best gs 8).2 < 2 then -1 else (((best gs 8).1 : Nat) : Int)) := rfl
      have hroom := best_room gs HL.out
      have hrun := best_run gs 8
      by_cases h2 : (best gs 8).2 < 2
      · have hb : bsti gs 8 = -1 := by rw [hbst.out, if_pos h2]
        have E : Hid (pstr6 gs = gstr gs) := by show _ = _; rw [HPr.out, if_pos h2]
        have C8 : Hid (∀ w, Calls Tryd.prog 66 #[.agg (bcells X).toArray, .int .i64 0, .int .i64 8] w fun e w' => e = .returned (.string (gstr gs)) ∧ Below w.heap.size w w') := fun w => by
          have h := CG.out 0 8 w (by decide) (by decide)
          rw [List.drop_zero, List.take_of_length_le (by rw [HL.out]; exact Nat.le_refl _)] at h
          exact h
        rw [hb]
        clear hb h2 hroom hrun hbst HPr
        go_upto_region 8 with fail
        refine wp_region_lit ?_
        go_wp2_with (first | refine wpList_load_v rfl 37 (.tmp 1) rfl _ rfl ty16 J.out.x hs16 ?_ | fail)
        refine (C8.out _).mono ?_
        rintro e w1 ⟨rfl, b1⟩
        have B1 := Lib.hid (below_both J.out.bel b1)
        clear b1
        go_wp2_with fail
        go_ret
        exact ⟨by rw [E.out]; rfl, B1.out⟩
      · have hb : bsti gs 8 = (((best gs 8).1 : Nat) : Int) := by rw [hbst.out, if_neg h2]
        have hrm := hroom (by omega)
        have hrn := hrun (by omega)
        have hPr := HPr.out
        rw [if_neg h2] at hPr
        rw [hb]
        clear hb hroom hrun hbst HPr
        obtain ⟨A, hA⟩ : ∃ A, (best gs 8).1 = A := ⟨_, rfl⟩
        obtain ⟨N, hN⟩ : ∃ N, (best gs 8).2 = N := ⟨_, rfl⟩
        rw [hA, hN] at hrn hPr hrm
        rw [hA]
        rw [hN] at h2
        clear hA hN
        obtain ⟨E, hE⟩ : ∃ E, E = A + N := ⟨_, rfl⟩
        rw [← hE] at hPr hrm
        have q : IntKind.i64.wrap ((A : Int) + (N : Int)) = (E : Int) := by rw [show ((A : Int) + (N : Int)) = (E : Int) by omega]; exact IntWalk.i64_in _ ⟨by omega, by omega⟩
        have q2 : wrap64 ((A : Int) + (N : Int)) = (E : Int) := by rw [show ((A : Int) + (N : Int)) = (E : Int) by omega]; unfold wrap64; omega
        have q3 : (A : Int) + (N : Int) = (E : Int) := by omega
        have q4 : wrap64 (E : Int) = (E : Int) := by unfold wrap64; omega
        have hF : pstr6 gs = gstr (gs.take A) ++ (⟨#[58, 58]⟩ : ByteArray) ++ gstr (gs.drop E) := by
          rw [hPr]
          exact (str_glue _ _).symm
        have CR := Lib.hid (fun w => CR.out A w (by omega))
        rw [← hrn] at CR
        have C1 := Lib.hid (fun w => CG.out 0 A w (Nat.zero_le _) (by omega))
        rw [List.drop_zero] at C1
        have C2 := Lib.hid (fun w => CG.out E 8 w hrm (by decide))
        rw [List.take_of_length_le (by rw [HL.out]; exact Nat.le_refl _)] at C2
        have z1 := gstr_size (gs := gs.take A) (fun x hx => HB.out x (List.mem_of_mem_take hx)) (by rw [List.length_take]; omega)
        have z2 := gstr_size (gs := gs.drop E) (fun x hx => HB.out x (List.mem_of_mem_drop hx)) (by rw [List.length_drop, HL.out]; omega)
        have HF := Lib.hid hF
        have aI : ¬ ((A : Int) < 0) := by omega
        clear hPr hrn hrm hE h2 hF CG
        generalize gstr (gs.take A) = s at *
        generalize gstr (gs.drop E) = t at *
        have y1 : s.size + (⟨#[58, 58]⟩ : ByteArray).size ≤ 9223372036854775807 := by show s.size + 2 ≤ _; omega
        have y2 : (s ++ (⟨#[58, 58]⟩ : ByteArray)).size + t.size ≤ 9223372036854775807 := by rw [ByteArray.size_append]; show s.size + 2 + t.size ≤ _; omega
        have y1 := Lib.hid y1
        have y2 := Lib.hid y2
        clear z1 z2
        go_upto_region 9 with fail
        refine wp_quiet_l6 (C := RP w X) (by kernel_rfl) (by kernel_rfl) J.out.drew ?_
        go_big_quiet_want
        apply Exists.intro
        refine ⟨fun w' hw' => ?_, ?_⟩
        · exact quietAt_load rfl rfl ty16 hw'.x hs16
        simp only [Act.put, List.setIfInBounds_toArray, List.set_cons_zero, List.set_cons_succ]
        go_big_quiet_on
        first | go_big_quiet_skip | (go_big_quiet_want; go_big_quiet_op; first | go_big_quiet_on | (apply Exists.intro; refine ⟨fun w' hw' => rfl, ?_⟩; go_big_quiet_on))
        go_big_quiet_want
        go_big_quiet_op
        apply Exists.intro
        refine ⟨fun w' hw' => ?_, ?_⟩
        · refine (C1.out w').mono ?_
          rintro e w'' ⟨rfl, hb⟩
          exact ⟨rfl, hw'.below hb⟩
        go_big_quiet_on
        go_big_quiet_want
        apply Exists.intro
        refine ⟨fun w' hw' => ?_, ?_⟩
        · exact quietAt_cat rfl rfl rfl y1.out
        simp only [Act.put, List.setIfInBounds_toArray, List.set_cons_zero, List.set_cons_succ]
        go_big_quiet_on
        go_big_quiet_want
        apply Exists.intro
        refine ⟨fun w' hw' => ?_, ?_⟩
        · exact quietAt_load rfl rfl ty16 hw'.x hs16
        simp only [Act.put, List.setIfInBounds_toArray, List.set_cons_zero, List.set_cons_succ]
        go_big_quiet_on
        first | go_big_quiet_skip | (go_big_quiet_want; go_big_quiet_op; first | go_big_quiet_on | (apply Exists.intro; refine ⟨fun w' hw' => rfl, ?_⟩; go_big_quiet_on))
        go_big_quiet_want
        apply Exists.intro
        refine ⟨fun w' hw' => ?_, ?_⟩
        · exact quietAt_load rfl rfl ty16 hw'.x hs16
        simp only [Act.put, List.setIfInBounds_toArray, List.set_cons_zero, List.set_cons_succ]
        go_big_quiet_on
        first | go_big_quiet_skip | (go_big_quiet_want; go_big_quiet_op; first | go_big_quiet_on | (apply Exists.intro; refine ⟨fun w' hw' => rfl, ?_⟩; go_big_quiet_on))
        go_big_quiet_want
        go_big_quiet_op
        apply Exists.intro
        refine ⟨fun w' hw' => ?_, ?_⟩
        · refine (CR.out w').mono ?_
          rintro e w'' ⟨rfl, hb⟩
          exact ⟨rfl, hw'.below hb⟩
        go_big_quiet_on
        first | go_big_quiet_skip | (go_big_quiet_want; go_big_quiet_op; first | go_big_quiet_on | (apply Exists.intro; refine ⟨fun w' hw' => rfl, ?_⟩; go_big_quiet_on))
        go_big_quiet_want
        go_big_quiet_op
        apply Exists.intro
        refine ⟨fun w' hw' => ?_, ?_⟩
        · refine (C2.out w').mono ?_
          rintro e w'' ⟨rfl, hb⟩
          exact ⟨rfl, hw'.below hb⟩
        go_big_quiet_on
        go_big_quiet_want
        apply Exists.intro
        refine ⟨fun w' hw' => ?_, ?_⟩
        · exact quietAt_cat rfl rfl rfl y2.out
        simp only [Act.put, List.setIfInBounds_toArray, List.set_cons_zero, List.set_cons_succ]
        go_big_quiet_on
        first | go_big_quiet_skip | (go_big_quiet_want; go_big_quiet_op; first | go_big_quiet_on | (apply Exists.intro; refine ⟨fun w' hw' => rfl, ?_⟩; go_big_quiet_on))
        refine wpQuiet_nil ?_
        intro w' hw'
        have J1 := Lib.hid hw'
        clear hw' J
        go_wp2_with fail
        go_ret
        exact ⟨by rw [HF.out]; rfl, J1.out.bel⟩
end Go.Proofs.YtdeoeikpooonlaaDoor
