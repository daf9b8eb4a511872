/-
  The walk of ColonsPrints.
-/
import Derived.Test.YtdeoeikpooonlaaDoorRCol5
namespace Go.Proofs.YtdeoeikpooonlaaDoor
open Go.RowKit
set_option linter.unusedVariables false

/-- What stands in the variables. -/
structure CPJ (w : World) (X P Y : List Nat) (g h : Nat) (W : World) : Prop where
  x : ArrV 37 W w.heap.size (bcells X)
  q : ArrV 38 W (w.heap.size + 1) (bcells P)
  y : ArrV 38 W g (bcells Y)
  z : ArrV 38 W h (bcells Y)
  lib : Six W
  bel : Below w.heap.size w W
theorem CPJ.below {w W W' : World} {X P Y : List Nat} {g h : Nat} (k : CPJ w X P Y g h W) (hb : Below W.heap.size W W') : CPJ w X P Y g h W' := ⟨k.x.below hb, k.q.below hb, k.y.below hb, k.z.below hb, k.lib.below hb, below_both k.bel hb⟩
theorem CPJ.drew {w W : World} {X P Y : List Nat} {g h : Nat} (k : CPJ w X P Y g h W) : CPJ w X P Y g h W.drew := ⟨k.x, k.q, k.y, k.z, ⟨k.lib.pow, k.lib.bru, k.lib.max⟩, k.bel.drew⟩
theorem quietAt_eq4 {C : World → Prop} {o : Oper} {a : Act} {W : World} {x y : Operand} {u v : Array Value} {b : Bool} (ho : o.op = .binOp .eql 38 x y 38) (hx : a.eval x = .agg u) (hy : a.eval y = .agg v)
    (h : ∀ w, (Op.equalIn 10000 38 (.agg u) (.agg v)).run Tryd.prog w = .ok b w) : Oper.quietAt Tryd.prog o a C W (.bool b) := by
  unfold Oper.quietAt execOp
  simp only [ho, hx, hy]
  simp [go_sem, h, Oper.quietUpon]
theorem quietAt_eq16 {C : World → Prop} {o : Oper} {a : Act} {W : World} {x y : Operand} {u v : Array Value} {b : Bool} (ho : o.op = .binOp .eql 37 x y 37) (hx : a.eval x = .agg u) (hy : a.eval y = .agg v)
    (h : ∀ w, (Op.equalIn 10000 37 (.agg u) (.agg v)).run Tryd.prog w = .ok b w) : Oper.quietAt Tryd.prog o a C W (.bool b) := by
  unfold Oper.quietAt execOp
  simp only [ho, hx, hy]
  simp [go_sem, h, Oper.quietUpon]
theorem group_both (X : List Nat) (i : Int) (hX : X.length = 16) (bX : ∀ x ∈ X, x < 256) : ∃ g : Nat, (∀ w, Calls Tryd.prog 31 #[.agg (bcells X).toArray, .int .i64 i] w fun e w' => e = .returned (.int .u16 g) ∧ Below w.heap.size w w') ∧
    (∀ w, Calls Tryd.prog 32 #[.agg (bcells X).toArray, .int .i64 i] w fun e w' => e = .returned (.int .u16 g) ∧ Below w.heap.size w w') := by
  by_cases h : 0 ≤ i ∧ i < 8
  · obtain ⟨k, rfl⟩ := Int.eq_ofNat_of_zero_le h.1
    exact ⟨grp X k, fun w => cgroup_in X k w hX bX (by omega), fun w => rgroup_in X k w hX bX (by omega)⟩
  · exact ⟨0, fun w => cgroup_out X i w hX (by omega), fun w => rgroup_out X i w hX (by omega)⟩
set_option maxRecDepth 10000 in
set_option maxHeartbeats 6400000 in
theorem walk_ColonsPrints (zs0 : List Int) (i : Int) (zs2 : List Int) (w : World) (hT : Six w) (hn0 : zs0.length = 16) (hz0 : ∀ z ∈ zs0, (Lit.int .u8 z).wf = true) (h1 : -9223372036854775808 ≤ i) (h2 : i ≤ 9223372036854775807) (hn2 : zs2.length = 4) (hz2 : ∀ z ∈ zs2, (Lit.int .u8 z).wf = true) :
    Calls Tryd.prog 6 #[.agg (zs0.map (Value.int .u8)).toArray, .int .i64 i, .agg (zs2.map (Value.int .u8)).toArray] w fun e w' => e = .returned (.bool true) ∧ Below w.heap.size w w' := by
  obtain ⟨X, hX, hlX, bX⟩ := bytes_of hz0
  rw [hn0] at hlX
  rw [hX]
  clear hX hz0 hn0 h1 h2
  obtain ⟨P, hP, hlP, bP⟩ := bytes_of hz2
  rw [hn2] at hlP
  rw [hP]
  clear hP hz2 hn2 bP
  have hs16 : (bcells X).length = 16 := by rw [bcells_length, hlX]
  have hs4 : (bcells P).length = 4 := by rw [bcells_length, hlP]
  obtain ⟨g, hG, hH⟩ := group_both X i hlX bX
  have CG := Lib.hid hG
  have CH := Lib.hid hH
  have CP := Lib.hid (fun w hB => cprint_any X w hlX bX hB)
  have CQ := Lib.hid (fun w => rprint6 X w hlX bX)
  have CS := Lib.hid (fun w => csort_any X w hlX bX)
  have CT := Lib.hid (fun w => rsort6 X w hlX bX)
  have CM := Lib.hid (fun w => map_any P w hlP)
  have CN : Hid (∀ w, Calls Tryd.prog 36 #[.agg (bcells P).toArray] w fun e w' => e = .returned (.agg (bcells (mp ++ P)).toArray) ∧ Below w.heap.size w w') := fun w => by
    match P, hlP with
    | [p, q, r, s], _ => exact rmap_any p q r s w
  obtain ⟨a, b, c, d, hU⟩ := unm_four X hlX
  have C1 := Lib.hid (fun w => unmap_lit X w hlX a b c d hU)
  have C2 := Lib.hid (fun w => runmap_lit X w hlX a b c d hU)
  have hlM : (mp ++ P).length = 16 := by rw [List.length_append, hlP]; rfl
  have hqM : ∀ w, (Op.equalIn 10000 37 (.agg (bcells (mp ++ P)).toArray) (.agg (bcells (mp ++ P)).toArray)).run Tryd.prog w = .ok true w := fun w => by
    have h := same_nat Tryd.underlying37 (mp ++ P) (mp ++ P) hlM hlM w
    rw [decide_eq_true rfl] at h
    exact h
  have hqY : ∀ w, (Op.equalIn 10000 38 (.agg (bcells [a, b, c, d]).toArray) (.agg (bcells [a, b, c, d]).toArray)).run Tryd.prog w = .ok true w := fun w => by
    have h := same_nat Tryd.underlying38 [a, b, c, d] [a, b, c, d] rfl rfl w
    rw [decide_eq_true rfl] at h
    exact h
  generalize mp ++ P = M at *
  generalize decide (X.take 12 = mp) = bb at *
  generalize pstr6 (grps X) = S at *
  generalize csort X = R at *
  have hsY : (bcells [a, b, c, d]).length = 4 := rfl
  clear hU hlX bX hlP hG hH hlM
  have A0 : Hid (ArrV 37 ((w.alloc (.cells (bcells X).toArray 37)).alloc (.cells (bcells P).toArray 38)) w.heap.size (bcells X)) := (ArrV.new _ w _).alloc _
  have A1 : Hid (ArrV 38 ((w.alloc (.cells (bcells X).toArray 37)).alloc (.cells (bcells P).toArray 38)) (w.heap.size + 1) (bcells P)) := by
    have h := ArrV.new 38 (w.alloc (.cells (bcells X).toArray 37)) (bcells P)
    rw [World.size_alloc] at h
    exact h
  have B0 : Hid (Below w.heap.size w ((w.alloc (.cells (bcells X).toArray 37)).alloc (.cells (bcells P).toArray 38))) := below_pair w _ _
  have HT := Lib.hid (hT.below B0.out)
  clear hT
  go_enter Tryd.func6, Tryd.ntmps6
  go_upto_region 1 with fail
  refine wp_region_lit ?_
  go_wp2_with (first | refine wpList_load_v rfl 37 (.tmp 3) rfl _ rfl ty16 A0.out hs16 ?_ | fail)
  refine (C1.out _).mono ?_
  rintro e w1 ⟨rfl, b1⟩
  have A0 := Lib.hid ((A0.out.below b1).alloc (.cells #[.int .u8 a, .int .u8 b, .int .u8 c, .int .u8 d] 38))
  have A1 := Lib.hid ((A1.out.below b1).alloc (.cells #[.int .u8 a, .int .u8 b, .int .u8 c, .int .u8 d] 38))
  have A2 : Hid (ArrV 38 (w1.alloc (.cells #[.int .u8 a, .int .u8 b, .int .u8 c, .int .u8 d] 38)) w1.heap.size (bcells [a, b, c, d])) := ArrV.new _ w1 _
  have HB1 := (Below.refl w1.heap.size w1).alloc (Nat.le_refl _) (.cells #[.int .u8 a, .int .u8 b, .int .u8 c, .int .u8 d] 38)
  have HT := Lib.hid ((HT.out.below b1).below HB1)
  have B0 := Lib.hid (below_both (below_both B0.out b1) HB1)
  clear b1 HB1
  go_upto_region 2 with fail
  refine wp_region_lit ?_
  go_wp2_with (first | refine wpList_load_v rfl 37 (.tmp 3) rfl _ rfl ty16 A0.out hs16 ?_ | fail)
  refine (C2.out _).mono ?_
  rintro e w2 ⟨rfl, b2⟩
  have J : Hid (CPJ w X P [a, b, c, d] w1.heap.size w2.heap.size (w2.alloc (.cells #[.int .u8 a, .int .u8 b, .int .u8 c, .int .u8 d] 38))) := by
    have HB2 := (Below.refl w2.heap.size w2).alloc (Nat.le_refl _) (.cells #[.int .u8 a, .int .u8 b, .int .u8 c, .int .u8 d] 38)
    exact ⟨(A0.out.below b2).alloc _, (A1.out.below b2).alloc _, (A2.out.below b2).alloc _, ArrV.new _ w2 _, (HT.out.below b2).below HB2, below_both (below_both B0.out b2) HB2⟩
  clear b2 A0 A1 A2 HT B0 C1 C2
  go_upto_region 3 with fail
  refine wp_quiet_l6 (C := CPJ w X P [a, b, c, d] w1.heap.size w2.heap.size) (by kernel_rfl) (by kernel_rfl) J.out.drew ?_
  go_big_quiet_want
  go_big_quiet_op
  apply Exists.intro
  refine ⟨fun w' hw' => ?_, ?_⟩
  · refine (live6 w' hw'.lib).mono ?_
    rintro e w'' ⟨rfl, hb⟩
    exact ⟨rfl, hw'.below hb⟩
  go_big_quiet_on
  first | go_big_quiet_skip | (go_big_quiet_want; go_big_quiet_op; first | go_big_quiet_on | (apply Exists.intro; refine ⟨fun w' hw' => rfl, ?_⟩; go_big_quiet_on))
  go_big_quiet_want
  apply Exists.intro
  refine ⟨fun w' hw' => ?_, ?_⟩
  · exact quietAt_load rfl rfl ty16 hw'.x hs16
  simp only [Act.put, List.setIfInBounds_toArray, List.set_cons_zero, List.set_cons_succ]
  go_big_quiet_on
  go_big_quiet_want
  go_big_quiet_op
  apply Exists.intro
  refine ⟨fun w' hw' => ?_, ?_⟩
  · refine (CP.out w' hw'.lib.bru).mono ?_
    rintro e w'' ⟨rfl, hb⟩
    exact ⟨rfl, hw'.below hb⟩
  go_big_quiet_on
  go_big_quiet_want
  apply Exists.intro
  refine ⟨fun w' hw' => ?_, ?_⟩
  · exact quietAt_load rfl rfl ty16 hw'.x hs16
  simp only [Act.put, List.setIfInBounds_toArray, List.set_cons_zero, List.set_cons_succ]
  go_big_quiet_on
  go_big_quiet_want
  go_big_quiet_op
  apply Exists.intro
  refine ⟨fun w' hw' => ?_, ?_⟩
  · refine (CQ.out w').mono ?_
    rintro e w'' ⟨rfl, hb⟩
    exact ⟨rfl, hw'.below hb⟩
  go_big_quiet_on
  first | go_big_quiet_skip | (go_big_quiet_want; go_big_quiet_op; first | go_big_quiet_on | (apply Exists.intro; refine ⟨fun w' hw' => rfl, ?_⟩; go_big_quiet_on))
  first | go_big_quiet_skip | (go_big_quiet_want; go_big_quiet_op; first | go_big_quiet_on | (apply Exists.intro; refine ⟨fun w' hw' => rfl, ?_⟩; go_big_quiet_on))
  first | go_big_quiet_skip | (go_big_quiet_want; go_big_quiet_op; first | go_big_quiet_on | (apply Exists.intro; refine ⟨fun w' hw' => rfl, ?_⟩; go_big_quiet_on))
  go_big_quiet_want
  apply Exists.intro
  refine ⟨fun w' hw' => ?_, ?_⟩
  · exact quietAt_load rfl rfl ty16 hw'.x hs16
  simp only [Act.put, List.setIfInBounds_toArray, List.set_cons_zero, List.set_cons_succ]
  go_big_quiet_on
  first | go_big_quiet_skip | (go_big_quiet_want; go_big_quiet_op; first | go_big_quiet_on | (apply Exists.intro; refine ⟨fun w' hw' => rfl, ?_⟩; go_big_quiet_on))
  go_big_quiet_want
  go_big_quiet_op
  apply Exists.intro
  refine ⟨fun w' hw' => ?_, ?_⟩
  · refine (CG.out w').mono ?_
    rintro e w'' ⟨rfl, hb⟩
    exact ⟨rfl, hw'.below hb⟩
  go_big_quiet_on
  go_big_quiet_want
  apply Exists.intro
  refine ⟨fun w' hw' => ?_, ?_⟩
  · exact quietAt_load rfl rfl ty16 hw'.x hs16
  simp only [Act.put, List.setIfInBounds_toArray, List.set_cons_zero, List.set_cons_succ]
  go_big_quiet_on
  first | go_big_quiet_skip | (go_big_quiet_want; go_big_quiet_op; first | go_big_quiet_on | (apply Exists.intro; refine ⟨fun w' hw' => rfl, ?_⟩; go_big_quiet_on))
  go_big_quiet_want
  go_big_quiet_op
  apply Exists.intro
  refine ⟨fun w' hw' => ?_, ?_⟩
  · refine (CH.out w').mono ?_
    rintro e w'' ⟨rfl, hb⟩
    exact ⟨rfl, hw'.below hb⟩
  go_big_quiet_on
  first | go_big_quiet_skip | (go_big_quiet_want; go_big_quiet_op; first | go_big_quiet_on | (apply Exists.intro; refine ⟨fun w' hw' => rfl, ?_⟩; go_big_quiet_on))
  first | go_big_quiet_skip | (go_big_quiet_want; go_big_quiet_op; first | go_big_quiet_on | (apply Exists.intro; refine ⟨fun w' hw' => rfl, ?_⟩; go_big_quiet_on))
  first | go_big_quiet_skip | (go_big_quiet_want; go_big_quiet_op; first | go_big_quiet_on | (apply Exists.intro; refine ⟨fun w' hw' => rfl, ?_⟩; go_big_quiet_on))
  go_big_quiet_want
  apply Exists.intro
  refine ⟨fun w' hw' => ?_, ?_⟩
  · exact quietAt_load rfl rfl ty16 hw'.x hs16
  simp only [Act.put, List.setIfInBounds_toArray, List.set_cons_zero, List.set_cons_succ]
  go_big_quiet_on
  go_big_quiet_want
  go_big_quiet_op
  apply Exists.intro
  refine ⟨fun w' hw' => ?_, ?_⟩
  · refine (CS.out w').mono ?_
    rintro e w'' ⟨rfl, hb⟩
    exact ⟨rfl, hw'.below hb⟩
  go_big_quiet_on
  go_big_quiet_want
  apply Exists.intro
  refine ⟨fun w' hw' => ?_, ?_⟩
  · exact quietAt_load rfl rfl ty16 hw'.x hs16
  simp only [Act.put, List.setIfInBounds_toArray, List.set_cons_zero, List.set_cons_succ]
  go_big_quiet_on
  go_big_quiet_want
  go_big_quiet_op
  apply Exists.intro
  refine ⟨fun w' hw' => ?_, ?_⟩
  · refine (CT.out w').mono ?_
    rintro e w'' ⟨rfl, hb⟩
    exact ⟨rfl, hw'.below hb⟩
  go_big_quiet_on
  first | go_big_quiet_skip | (go_big_quiet_want; go_big_quiet_op; first | go_big_quiet_on | (apply Exists.intro; refine ⟨fun w' hw' => rfl, ?_⟩; go_big_quiet_on))
  first | go_big_quiet_skip | (go_big_quiet_want; go_big_quiet_op; first | go_big_quiet_on | (apply Exists.intro; refine ⟨fun w' hw' => rfl, ?_⟩; go_big_quiet_on))
  first | go_big_quiet_skip | (go_big_quiet_want; go_big_quiet_op; first | go_big_quiet_on | (apply Exists.intro; refine ⟨fun w' hw' => rfl, ?_⟩; go_big_quiet_on))
  go_big_quiet_want
  apply Exists.intro
  refine ⟨fun w' hw' => ?_, ?_⟩
  · exact quietAt_load rfl rfl ty4 hw'.y hsY
  simp only [Act.put, List.setIfInBounds_toArray, List.set_cons_zero, List.set_cons_succ]
  go_big_quiet_on
  go_big_quiet_want
  apply Exists.intro
  refine ⟨fun w' hw' => ?_, ?_⟩
  · exact quietAt_load rfl rfl ty4 hw'.z hsY
  simp only [Act.put, List.setIfInBounds_toArray, List.set_cons_zero, List.set_cons_succ]
  go_big_quiet_on
  go_big_quiet_want
  apply Exists.intro
  refine ⟨fun w' hw' => ?_, ?_⟩
  · exact quietAt_eq4 rfl rfl rfl hqY
  simp only [Act.put, List.setIfInBounds_toArray, List.set_cons_zero, List.set_cons_succ]
  go_big_quiet_on
  first | go_big_quiet_skip | (go_big_quiet_want; go_big_quiet_op; first | go_big_quiet_on | (apply Exists.intro; refine ⟨fun w' hw' => rfl, ?_⟩; go_big_quiet_on))
  first | go_big_quiet_skip | (go_big_quiet_want; go_big_quiet_op; first | go_big_quiet_on | (apply Exists.intro; refine ⟨fun w' hw' => rfl, ?_⟩; go_big_quiet_on))
  first | go_big_quiet_skip | (go_big_quiet_want; go_big_quiet_op; first | go_big_quiet_on | (apply Exists.intro; refine ⟨fun w' hw' => rfl, ?_⟩; go_big_quiet_on))
  first | go_big_quiet_skip | (go_big_quiet_want; go_big_quiet_op; first | go_big_quiet_on | (apply Exists.intro; refine ⟨fun w' hw' => rfl, ?_⟩; go_big_quiet_on))
  first | go_big_quiet_skip | (go_big_quiet_want; go_big_quiet_op; first | go_big_quiet_on | (apply Exists.intro; refine ⟨fun w' hw' => rfl, ?_⟩; go_big_quiet_on))
  first | go_big_quiet_skip | (go_big_quiet_want; go_big_quiet_op; first | go_big_quiet_on | (apply Exists.intro; refine ⟨fun w' hw' => rfl, ?_⟩; go_big_quiet_on))
  first | go_big_quiet_skip | (go_big_quiet_want; go_big_quiet_op; first | go_big_quiet_on | (apply Exists.intro; refine ⟨fun w' hw' => rfl, ?_⟩; go_big_quiet_on))
  go_big_quiet_want
  apply Exists.intro
  refine ⟨fun w' hw' => ?_, ?_⟩
  · exact quietAt_load rfl rfl ty4 hw'.q hs4
  simp only [Act.put, List.setIfInBounds_toArray, List.set_cons_zero, List.set_cons_succ]
  go_big_quiet_on
  go_big_quiet_want
  go_big_quiet_op
  apply Exists.intro
  refine ⟨fun w' hw' => ?_, ?_⟩
  · refine (CM.out w').mono ?_
    rintro e w'' ⟨rfl, hb⟩
    exact ⟨rfl, hw'.below hb⟩
  go_big_quiet_on
  go_big_quiet_want
  apply Exists.intro
  refine ⟨fun w' hw' => ?_, ?_⟩
  · exact quietAt_load rfl rfl ty4 hw'.q hs4
  simp only [Act.put, List.setIfInBounds_toArray, List.set_cons_zero, List.set_cons_succ]
  go_big_quiet_on
  go_big_quiet_want
  go_big_quiet_op
  apply Exists.intro
  refine ⟨fun w' hw' => ?_, ?_⟩
  · refine (CN.out w').mono ?_
    rintro e w'' ⟨rfl, hb⟩
    exact ⟨rfl, hw'.below hb⟩
  go_big_quiet_on
  go_big_quiet_want
  apply Exists.intro
  refine ⟨fun w' hw' => ?_, ?_⟩
  · exact quietAt_eq16 rfl rfl rfl hqM
  simp only [Act.put, List.setIfInBounds_toArray, List.set_cons_zero, List.set_cons_succ]
  go_big_quiet_on
  first | go_big_quiet_skip | (go_big_quiet_want; go_big_quiet_op; first | go_big_quiet_on | (apply Exists.intro; refine ⟨fun w' hw' => rfl, ?_⟩; go_big_quiet_on))
  first | go_big_quiet_skip | (go_big_quiet_want; go_big_quiet_op; first | go_big_quiet_on | (apply Exists.intro; refine ⟨fun w' hw' => rfl, ?_⟩; go_big_quiet_on))
  refine wpQuiet_nil ?_
  intro w' hw'
  have BB := Lib.hid hw'.bel
  clear hw' J
  go_wp2_with fail
  go_ret
  exact ⟨by simp, BB.out⟩
end Go.Proofs.YtdeoeikpooonlaaDoor
