/-
  Contracts of the document's Map, Unmap and Sort of layer 6.
-/
import Derived.Test.YtdeoeikpooonlaaDoorRCol3
import Derived.Test.YtdeoeikpooonlaaDoorCol11
namespace Go.Proofs.YtdeoeikpooonlaaDoor
open Go.RowKit
set_option linter.unusedVariables false

set_option maxRecDepth 10000 in
set_option maxHeartbeats 1600000 in
theorem rmap_any (a b c d : Nat) (w : World) : Calls Tryd.prog 36 #[.agg #[.int .u8 a, .int .u8 b, .int .u8 c, .int .u8 d]] w fun e w' => e = .returned (.agg (bcells (mp ++ [a, b, c, d])).toArray) ∧ Below w.heap.size w w' := by
  have H0 : Hid (ArrV 38 ((w.alloc (.cells #[.int .u8 a, .int .u8 b, .int .u8 c, .int .u8 d] 38)).alloc (.cells (bcells zero16).toArray 37)) w.heap.size (bcells [a, b, c, d])) := (ArrV.new _ w _).alloc _
  have H1 : Hid (ArrV 37 ((w.alloc (.cells #[.int .u8 a, .int .u8 b, .int .u8 c, .int .u8 d] 38)).alloc (.cells (bcells zero16).toArray 37)) (w.heap.size + 1) (bcells zero16)) := by
    have h := ArrV.new 37 (w.alloc (.cells #[.int .u8 a, .int .u8 b, .int .u8 c, .int .u8 d] 38)) (bcells zero16)
    rw [World.size_alloc] at h
    exact h
  have HB : Hid (Below w.heap.size w ((w.alloc (.cells #[.int .u8 a, .int .u8 b, .int .u8 c, .int .u8 d] 38)).alloc (.cells (bcells zero16).toArray 37))) := below_pair w _ _
  obtain ⟨c0, c1, c2, c3⟩ := cells4 H0.out
  obtain ⟨M, hM⟩ : ∃ M, M = mp ++ [a, b, c, d] := ⟨_, rfl⟩
  have hl : (bcells M).length = 16 := by rw [bcells_length, hM]; rfl
  have hlit : (#[.int .u8 0, .int .u8 0, .int .u8 0, .int .u8 0, .int .u8 0, .int .u8 0, .int .u8 0, .int .u8 0, .int .u8 0, .int .u8 0, .int .u8 255, .int .u8 255, .int .u8 (a : Nat), .int .u8 (b : Nat), .int .u8 (c : Nat), .int .u8 (d : Nat)] : Array Value) = (bcells M).toArray := by rw [hM]; rfl
  rw [← hM]
  clear hM
  obtain ⟨Z, hZ⟩ : ∃ Z, Z = bcells zero16 := ⟨_, rfl⟩
  have hZl : Z.length = 16 := by rw [hZ]; rfl
  have HZ1 : Hid (∀ W, ArrV 37 W (w.heap.size + 1) (bcells zero16) → ArrV 37 W (w.heap.size + 1) Z) := fun W h => by rw [hZ]; exact h
  clear hZ
  go_enter Tryd.func36, Tryd.ntmps36
  go_upto_region 1 with fail
  have H1 := Lib.hid (HZ1.out _ H1.out)
  refine wp_region_lit ?_
  go_wp2_with (refine wpList_store_v rfl 37 (.tmp 2) (.tmp 11) rfl _ rfl ty16 H1.out hZl (bcells M) hl (bcells_one _) rfl ?_)
  exact bodyPost_ret (v := .agg (bcells M).toArray) (res_cell Tryd.results36 rfl ((H1.out.store (bcells M) (by rw [hl, hZl])).loadVar ty16 hl)) rfl ⟨rfl, setCells_below _ (by omega) _ _ _ HB.out⟩
/-- What stands in the variables of Unmap. -/
structure UQ (w : World) (X Y : List Nat) (W : World) : Prop where
  x : ArrV 37 W w.heap.size (bcells X)
  r : ArrV 38 W (w.heap.size + 1) (bcells [0, 0, 0, 0])
  y : ArrV 38 W (w.heap.size + 1 + 1) (bcells Y)
  bel : Below w.heap.size w W
theorem UQ.below {w W W' : World} {X Y : List Nat} (h : UQ w X Y W) (hb : Below W.heap.size W W') : UQ w X Y W' := ⟨h.x.below hb, h.r.below hb, h.y.below hb, below_both h.bel hb⟩
theorem UQ.drew {w W : World} {X Y : List Nat} (h : UQ w X Y W) : UQ w X Y W.drew := ⟨h.x, h.r, h.y, h.bel.drew⟩
theorem zero_four : bcells [0, 0, 0, 0] = [.int .u8 0, .int .u8 0, .int .u8 0, .int .u8 0] := rfl
set_option maxRecDepth 10000 in
set_option maxHeartbeats 3200000 in
theorem runmap_any (X : List Nat) (w : World) (hX : X.length = 16) : Calls Tryd.prog 27 #[.agg (bcells X).toArray] w fun e w' =>
    e = .returned (.tuple #[.agg (bcells (if X.take 12 = mp then X.drop 12 else [0, 0, 0, 0])).toArray, .bool (decide (X.take 12 = mp))]) ∧ Below w.heap.size w w' := by
  have hs16 : (bcells X).length = 16 := by rw [bcells_length, hX]
  obtain ⟨a, b, c, d, hd⟩ : ∃ a b c d, X.drop 12 = [a, b, c, d] := by
    have hl : (X.drop 12).length = 4 := by rw [List.length_drop, hX]
    match X.drop 12, hl with
    | [a, b, c, d], _ => exact ⟨a, b, c, d, rfl⟩
  have hg : ∀ k, X.getD (12 + k) 0 = [a, b, c, d].getD k 0 := fun k => by
    rw [← hd, List.getD_eq_getElem?_getD, List.getD_eq_getElem?_getD, List.getElem?_drop]
  have HX : Hid (ArrV 37 ((w.alloc (.cells (bcells X).toArray 37)).alloc (.cells #[.int .u8 0, .int .u8 0, .int .u8 0, .int .u8 0] 38)) w.heap.size (bcells X)) := (ArrV.new _ w _).alloc _
  have HR : Hid (ArrV 38 ((w.alloc (.cells (bcells X).toArray 37)).alloc (.cells #[.int .u8 0, .int .u8 0, .int .u8 0, .int .u8 0] 38)) (w.heap.size + 1) (bcells [0, 0, 0, 0])) := by
    have h := ArrV.new 38 (w.alloc (.cells (bcells X).toArray 37)) (bcells [0, 0, 0, 0])
    rw [World.size_alloc] at h
    exact h
  have HB : Hid (Below w.heap.size w ((w.alloc (.cells (bcells X).toArray 37)).alloc (.cells #[.int .u8 0, .int .u8 0, .int .u8 0, .int .u8 0] 38))) := below_pair w _ _
  have HG : ∀ k, k < 4 → ((w.alloc (.cells (bcells X).toArray 37)).alloc (.cells #[.int .u8 0, .int .u8 0, .int .u8 0, .int .u8 0] 38)).cell? ⟨w.heap.size, 12 + k, none⟩ = some (.int .u8 ([a, b, c, d].getD k 0 : Nat)) := fun k hk => by
    rw [HX.out.get, ← hg k]
    simp only [bcells, List.getElem?_map, List.getElem?_eq_getElem (show 12 + k < X.length by omega), List.getD_eq_getElem?_getD]
    rfl
  have c0 := HG 0 (by decide)
  have c1 := HG 1 (by decide)
  have c2 := HG 2 (by decide)
  have c3 := HG 3 (by decide)
  simp at c0 c1 c2 c3
  have e0 : ∀ h, (bcells X)[12]'h = Value.int .u8 (a : Nat) := fun h => Option.some.inj ((List.getElem?_eq_getElem h).symm.trans c0)
  have e1 : ∀ h, (bcells X)[13]'h = Value.int .u8 (b : Nat) := fun h => Option.some.inj ((List.getElem?_eq_getElem h).symm.trans c1)
  have e2 : ∀ h, (bcells X)[14]'h = Value.int .u8 (c : Nat) := fun h => Option.some.inj ((List.getElem?_eq_getElem h).symm.trans c2)
  have e3 : ∀ h, (bcells X)[15]'h = Value.int .u8 (d : Nat) := fun h => Option.some.inj ((List.getElem?_eq_getElem h).symm.trans c3)
  clear c0 c1 c2 c3
  have J : Hid (UQ w X [a, b, c, d] (((w.alloc (.cells (bcells X).toArray 37)).alloc (.cells #[.int .u8 0, .int .u8 0, .int .u8 0, .int .u8 0] 38)).alloc (.cells #[.int .u8 a, .int .u8 b, .int .u8 c, .int .u8 d] 38))) := by
    refine ⟨HX.out.alloc _, HR.out.alloc _, ?_, HB.out.alloc HB.out.size _⟩
    have h := ArrV.new 38 ((w.alloc (.cells (bcells X).toArray 37)).alloc (.cells #[.int .u8 0, .int .u8 0, .int .u8 0, .int .u8 0] 38)) (bcells [a, b, c, d])
    rw [World.size_alloc, World.size_alloc] at h
    exact h
  have CM := Lib.hid (fun w => rmap_any a b c d w)
  have hlM : (mp ++ [a, b, c, d]).length = 16 := rfl
  have hlm : (bcells (mp ++ [a, b, c, d])).length = 16 := rfl
  have hYl : (bcells [a, b, c, d]).length = 4 := rfl
  have hiff : X.take 12 = mp ↔ mp ++ [a, b, c, d] = X := by
    constructor
    · intro h
      rw [← h, ← hd, List.take_append_drop]
    · intro h
      rw [← h]
      rfl
  obtain ⟨M, hM⟩ : ∃ M, M = mp ++ [a, b, c, d] := ⟨_, rfl⟩
  rw [← hM] at CM hlM hlm hiff
  have hq : ∀ w, (Op.equalIn 10000 37 (.agg (bcells M).toArray) (.agg (bcells X).toArray)).run Tryd.prog w = .ok (decide (X.take 12 = mp)) w := fun w => by
    have h := same_nat Tryd.underlying37 M X hlM hX w
    rw [h]
    congr 1
    rw [Bool.eq_iff_iff, decide_eq_true_eq, decide_eq_true_eq]
    exact hiff.symm
  clear hM hiff HG hg HX HR HB hX hlM
  by_cases h12 : X.take 12 = mp
  · rw [if_pos h12, hd]
    have hqt : ∀ w, (Op.equalIn 10000 37 (.agg (bcells M).toArray) (.agg (bcells X).toArray)).run Tryd.prog w = .ok true w := fun w => by rw [hq w, decide_eq_true h12]
    clear hq
    rw [decide_eq_true h12]
    clear h12 hd
    go_enter Tryd.func27, Tryd.ntmps27
    go_upto_region 2 with fail
    refine wp_quiet_l6 (C := UQ w X [a, b, c, d]) (by kernel_rfl) (by kernel_rfl) J.out.drew ?_
    go_big_quiet_want
    apply Exists.intro
    refine ⟨fun w' hw' => ?_, ?_⟩
    · exact quietAt_load rfl rfl ty4 hw'.y hYl
    simp only [Act.put, List.setIfInBounds_toArray, List.set_cons_zero, List.set_cons_succ]
    go_big_quiet_on
    go_big_quiet_want
    go_big_quiet_op
    apply Exists.intro
    refine ⟨fun w' hw' => ?_, ?_⟩
    · refine (CM.out w').mono ?_
      rintro e w'' ⟨rfl, hb⟩
      exact ⟨rfl, hw'.below hb⟩
    go_big_quiet_on
    go_big_quiet_want
    apply Exists.intro
    refine ⟨fun w' hw' => ?_, ?_⟩
    · exact quietAt_load rfl rfl ty16 hw'.x hs16
    simp only [Act.put, List.setIfInBounds_toArray, List.set_cons_zero, List.set_cons_succ]
    go_big_quiet_on
    first | go_big_quiet_skip | (go_big_quiet_want; go_big_quiet_op; first | go_big_quiet_on | (apply Exists.intro; refine ⟨fun w' hw' => rfl, ?_⟩; go_big_quiet_on))
    refine wpQuiet_nil ?_
    intro w' hw'
    have J1 := Lib.hid hw'
    clear hw' J
    obtain ⟨r0, r1, r2, r3⟩ := cells4 J1.out.r
    obtain ⟨y0, y1, y2, y3⟩ := cells4 J1.out.y
    have f0 := J1.out.r.frozen
    have BB := Lib.hid J1.out.bel
    clear J1
    go_wp2_with fail
    exact bodyPost_ret (v := .tuple #[.agg #[.int .u8 a, .int .u8 b, .int .u8 c, .int .u8 d], .bool true]) (by simp [results, Tryd.results27, go_sem, r0, r1, r2, r3]) rfl ⟨rfl, (((BB.out.setCell (by simp) _).setCell (by simp) _).setCell (by simp) _).setCell (by simp) _⟩
  · rw [if_neg h12]
    have hqf : ∀ w, (Op.equalIn 10000 37 (.agg (bcells M).toArray) (.agg (bcells X).toArray)).run Tryd.prog w = .ok false w := fun w => by rw [hq w, decide_eq_false h12]
    clear hq
    rw [decide_eq_false h12]
    clear h12 hd
    go_enter Tryd.func27, Tryd.ntmps27
    go_upto_region 2 with fail
    refine wp_quiet_l6 (C := UQ w X [a, b, c, d]) (by kernel_rfl) (by kernel_rfl) J.out.drew ?_
    go_big_quiet_want
    apply Exists.intro
    refine ⟨fun w' hw' => ?_, ?_⟩
    · exact quietAt_load rfl rfl ty4 hw'.y hYl
    simp only [Act.put, List.setIfInBounds_toArray, List.set_cons_zero, List.set_cons_succ]
    go_big_quiet_on
    go_big_quiet_want
    go_big_quiet_op
    apply Exists.intro
    refine ⟨fun w' hw' => ?_, ?_⟩
    · refine (CM.out w').mono ?_
      rintro e w'' ⟨rfl, hb⟩
      exact ⟨rfl, hw'.below hb⟩
    go_big_quiet_on
    go_big_quiet_want
    apply Exists.intro
    refine ⟨fun w' hw' => ?_, ?_⟩
    · exact quietAt_load rfl rfl ty16 hw'.x hs16
    simp only [Act.put, List.setIfInBounds_toArray, List.set_cons_zero, List.set_cons_succ]
    go_big_quiet_on
    first | go_big_quiet_skip | (go_big_quiet_want; go_big_quiet_op; first | go_big_quiet_on | (apply Exists.intro; refine ⟨fun w' hw' => rfl, ?_⟩; go_big_quiet_on))
    refine wpQuiet_nil ?_
    intro w' hw'
    have J1 := Lib.hid hw'
    clear hw' J
    obtain ⟨r0, r1, r2, r3⟩ := cells4 J1.out.r
    obtain ⟨y0, y1, y2, y3⟩ := cells4 J1.out.y
    have f0 := J1.out.r.frozen
    have BB := Lib.hid J1.out.bel
    clear J1
    go_wp2_with fail
    exact bodyPost_ret (v := .tuple #[.agg #[.int .u8 0, .int .u8 0, .int .u8 0, .int .u8 0], .bool false]) (by simp [results, Tryd.results27, go_sem, r0, r1, r2, r3]) rfl ⟨rfl, (((BB.out.setCell (by simp) _).setCell (by simp) _).setCell (by simp) _).setCell (by simp) _⟩
end Go.Proofs.YtdeoeikpooonlaaDoor
