/-
  The contracts of colons' mapped, Map and Unmap.
-/
import Derived.Test.YtdeoeikpooonlaaDoorCol6
import Derived.Test.YtdeoeikpooonlaaDoorDot3
import Derived.Deep.RegionHeld3
import Derived.Deep.CutRange
import Derived.Deep.CutBlock
namespace Go.Proofs.YtdeoeikpooonlaaDoor
open Go.RowKit
set_option linter.unusedVariables false

def mp : List Nat := [0, 0, 0, 0, 0, 0, 0, 0, 0, 0, 255, 255]
def zero16 : List Nat := List.replicate 16 0
theorem mapped_any (w : World) : Calls Tryd.prog 62 #[] w fun e w' => e = .returned (.agg (bcells mp).toArray) ∧ Below w.heap.size w w' := by
  have HA : Hid (ArrV 83 (w.alloc (.cells (bcells (List.replicate 12 0)).toArray 83)) w.heap.size (bcells (List.replicate 12 0))) := ArrV.new _ w _
  have HB : Hid (Below w.heap.size w (w.alloc (.cells (bcells (List.replicate 12 0)).toArray 83))) := (Below.refl _ _).alloc (Nat.le_refl _) _
  go_enter Tryd.func62, Tryd.ntmps62
  go_upto_region 1 with fail
  refine wp_region_lit ?_
  go_wp2_with (refine wpList_store_v rfl 83 (.tmp 0) (.tmp 1) rfl _ rfl ty12 HA.out rfl (bcells mp) rfl (bcells_one _) rfl ?_)
  exact bodyPost_ret (v := .agg (bcells mp).toArray) (res_cell Tryd.results62 rfl ((HA.out.store (bcells mp) rfl).loadVar ty12 rfl)) rfl ⟨rfl, setCells_below _ (Nat.le_refl _) _ _ _ HB.out⟩

theorem bcells_src {t : TypeId} {W : World} {g : Nat} {bs : List Nat} (h : ArrV t W g (bcells bs)) (o : Nat) (cs : List Value) (hcs : ∀ j v, cs[j]? = some v → (bcells bs)[o + j]? = some v) : ∀ j v, cs[j]? = some v → W.cell? ((⟨g, o, none⟩ : Addr).add j) = some v := by
  intro j v hv
  rw [add_flat, h.get]
  exact hcs j v hv

theorem mapped_lit (w : World) : Calls Tryd.prog 62 #[] w fun e w' => e = .returned (.agg #[.int .u8 0, .int .u8 0, .int .u8 0, .int .u8 0, .int .u8 0, .int .u8 0, .int .u8 0, .int .u8 0, .int .u8 0, .int .u8 0, .int .u8 255, .int .u8 255]) ∧ Below w.heap.size w w' := mapped_any w
theorem bytes_slice : Tryd.prog.underlying 62 = some (.slice 5) := Tryd.underlying62
theorem src_take {bs : List Nat} (n : Nat) : ∀ j v, (bcells (bs.take n))[j]? = some v → (bcells bs)[0 + j]? = some v := by
  intro j v h
  rw [Nat.zero_add]
  simp only [bcells, List.map_take] at h ⊢
  rw [List.getElem?_take] at h
  split at h
  · exact h
  · cases h
theorem src_drop {bs : List Nat} (n : Nat) : ∀ j v, (bcells (bs.drop n))[j]? = some v → (bcells bs)[n + j]? = some v := by
  intro j v h
  simp only [bcells, List.map_drop] at h ⊢
  rw [List.getElem?_drop] at h
  exact h
theorem src_all {bs : List Nat} : ∀ j v, (bcells bs)[j]? = some v → (bcells bs)[0 + j]? = some v := by
  intro j v h
  rw [Nat.zero_add]
  exact h
theorem same_nat {t : TypeId} {n : Nat} (ht : Tryd.prog.underlying t = some (.array n 5)) (L M : List Nat) (hl : L.length = n) (hm : M.length = n) (w : World) :
    (Op.equalIn 10000 t (.agg (bcells L).toArray) (.agg (bcells M).toArray)).run Tryd.prog w = .ok (decide (L = M)) w := by
  have h := same_arr ht (L.map fun (x : Nat) => (x : Int)) (M.map fun (x : Nat) => (x : Int)) (by simpa using hl) (by simpa using hm) w
  have e : ∀ K : List Nat, (K.map fun (x : Nat) => (x : Int)).map (Value.int .u8) = bcells K := fun K => by rw [List.map_map]; rfl
  rw [e L, e M] at h
  have e2 : decide ((L.map fun (x : Nat) => (x : Int)) = M.map fun (x : Nat) => (x : Int)) = decide (L = M) := by
    rw [Bool.eq_iff_iff, decide_eq_true_eq, decide_eq_true_eq]
    constructor
    · intro hh
      have h3 := congrArg (List.map Int.toNat) hh
      simpa [List.map_map, Function.comp_def] using h3
    · rintro rfl; rfl
  rw [e2] at h
  exact h
set_option maxRecDepth 10000 in
set_option maxHeartbeats 1600000 in
theorem map_any (x : List Nat) (w : World) (hx : x.length = 4) : Calls Tryd.prog 35 #[.agg (bcells x).toArray] w fun e w' => e = .returned (.agg (bcells (mp ++ x)).toArray) ∧ Below w.heap.size w w' := by
  have hs : (bcells x).length = 4 := by rw [bcells_length, hx]
  have HS := Lib.hid hs
  have C1 := Lib.hid (fun w => mapped_lit w)
  have HA0 : Hid (ArrV 38 (((w.alloc (.cells (bcells x).toArray 38)).alloc (.cells (bcells zero16).toArray 37)).alloc (.cells (bcells zero16).toArray 37)) w.heap.size (bcells x)) := ((ArrV.new _ w _).alloc _).alloc _
  have HA1 : Hid (ArrV 37 (((w.alloc (.cells (bcells x).toArray 38)).alloc (.cells (bcells zero16).toArray 37)).alloc (.cells (bcells zero16).toArray 37)) (w.heap.size + 1) (bcells zero16)) := by
    have h := (ArrV.new 37 (w.alloc (.cells (bcells x).toArray 38)) (bcells zero16)).alloc (.cells (bcells zero16).toArray 37)
    rw [World.size_alloc] at h
    exact h
  have HA2 : Hid (ArrV 37 (((w.alloc (.cells (bcells x).toArray 38)).alloc (.cells (bcells zero16).toArray 37)).alloc (.cells (bcells zero16).toArray 37)) (w.heap.size + 2) (bcells zero16)) := by
    have h := ArrV.new 37 ((w.alloc (.cells (bcells x).toArray 38)).alloc (.cells (bcells zero16).toArray 37)) (bcells zero16)
    rw [World.size_alloc, World.size_alloc] at h
    exact h
  have HB : Hid (Below w.heap.size w (((w.alloc (.cells (bcells x).toArray 38)).alloc (.cells (bcells zero16).toArray 37)).alloc (.cells (bcells zero16).toArray 37))) := (((Below.refl _ _).alloc (Nat.le_refl _) _).alloc (by simp) _).alloc (by simp; omega) _
  clear hx
  go_enter Tryd.func35, Tryd.ntmps35
  go_wp2_with fail
  refine (C1.out _).mono ?_
  rintro e w1 ⟨rfl, b1⟩
  have HA0 := ((HA0.out.below b1).alloc (.cells (bcells mp).toArray 83)).drew
  have HA1 := ((HA1.out.below b1).alloc (.cells (bcells mp).toArray 83)).drew
  have HA2 := ((HA2.out.below b1).alloc (.cells (bcells mp).toArray 83)).drew
  have HA3 := (ArrV.new 83 w1 (bcells mp)).drew
  have HB := ((below_both HB.out b1).alloc (below_both HB.out b1).size (.cells (bcells mp).toArray 83)).drew
  clear b1
  obtain ⟨w3, hcp, hO, b3⟩ := copy_at bytes_slice u8one 37 (w1.alloc (.cells #[.int .u8 0, .int .u8 0, .int .u8 0, .int .u8 0, .int .u8 0, .int .u8 0, .int .u8 0, .int .u8 0, .int .u8 0, .int .u8 0, .int .u8 255, .int .u8 255] 83)).drew (w.heap.size + 1 + 1) 0 16 16 (bcells zero16) ⟨w1.heap.size, 0, none⟩ 12 12 (bcells mp) HA2 rfl (bcells_src HA3 0 _ src_all) (by decide) (bcells_one _)
  have H2 : ArrV 37 w3.drew (w.heap.size + 1 + 1) (bcells (mp ++ [0, 0, 0, 0])) := hO
  have HB3 := (HB.trans (b3.mono (by omega))).drew
  have H0 := (HA0.belowB b3 (by omega)).drew
  have H1 := (HA1.belowB b3 (by omega)).drew
  clear hO b3 HA0 HA1 HA2 HA3 HB
  obtain ⟨w4, hcp4, hO4, b4⟩ := copy_at bytes_slice u8one 37 w3.drew (w.heap.size + 1 + 1) 12 4 4 (bcells (mp ++ [0, 0, 0, 0])) ⟨w.heap.size, 0, none⟩ 4 4 (bcells x) H2 (by rw [HS.out]; rfl) (bcells_src H0 0 _ src_all) (by rw [HS.out]; decide) (bcells_one _)
  have H4 : Hid (ArrV 37 w4 (w.heap.size + 1 + 1) (bcells (mp ++ x))) := by
    have e : (bcells (mp ++ [0, 0, 0, 0])).take 12 ++ bcells x ++ (bcells (mp ++ [0, 0, 0, 0])).drop (12 + (bcells x).length) = bcells (mp ++ x) := by
      rw [HS.out]
      simp [bcells, mp]
    rw [e] at hO4
    exact hO4
  have H5 := Lib.hid (H1.belowB b4 (by omega))
  have HB4 := Lib.hid (HB3.trans (b4.mono (by omega)))
  have HL : Hid ((bcells (mp ++ x)).length = 16) := by show _ = _; rw [bcells_length, List.length_append, ← bcells_length x, HS.out]; rfl
  clear H0 H1 H2 HB3 hO4 b4
  rw [HS.out] at hcp4
  go_wp2_with fail
  go_region
  go_wp2_with fail
  go_region
  go_upto_region 5 with fail
  refine wp_region_lit ?_
  go_wp2_with (first | refine wpList_load_v rfl 37 (.tmp 3) rfl _ rfl ty16 H4.out HL.out ?_ | refine wpList_store_v rfl 37 (.tmp 2) (.tmp 12) rfl _ rfl ty16 H5.out rfl (bcells (mp ++ x)) HL.out (bcells_one _) rfl ?_)
  exact bodyPost_ret (v := .agg (bcells (mp ++ x)).toArray) (res_cell Tryd.results35 rfl ((H5.out.store (bcells (mp ++ x)) (by rw [HL.out]; rfl)).loadVar ty16 HL.out)) rfl ⟨rfl, setCells_below _ (by omega) _ _ _ HB4.out⟩

theorem same_mp (L : List Nat) (hl : L.length = 12) (b : Bool) (hb : b = decide (L = mp)) (w : World) :
    (Op.equalIn 10000 83 (.agg (bcells L).toArray) (.agg #[.int .u8 0, .int .u8 0, .int .u8 0, .int .u8 0, .int .u8 0, .int .u8 0, .int .u8 0, .int .u8 0, .int .u8 0, .int .u8 0, .int .u8 255, .int .u8 255])).run Tryd.prog w = .ok b w := by
  rw [hb]
  exact same_nat Tryd.underlying83 L mp hl rfl w
/-- What stands when the two twelve bytes are compared. -/
structure UJ (w : World) (X : List Nat) (W : World) : Prop where
  box : ArrV 37 W w.heap.size (bcells X)
  res : ArrV 38 W (w.heap.size + 1) (bcells [0, 0, 0, 0])
  ahead : ArrV 83 W (w.heap.size + 1 + 1) (bcells (X.take 12))
  bel : Below w.heap.size w W
theorem UJ.below {w W W' : World} {X : List Nat} (h : UJ w X W) (hb : Below W.heap.size W W') : UJ w X W' := ⟨h.box.below hb, h.res.below hb, h.ahead.below hb, below_both h.bel hb⟩
theorem UJ.drew {w W : World} {X : List Nat} (h : UJ w X W) : UJ w X W.drew := ⟨h.box, h.res, h.ahead, h.bel.drew⟩
theorem UJ.second {w W : World} {X : List Nat} {a b c d : Nat} (h : UJ w X W) (hd : X.drop 12 = [a, b, c, d]) :
    ∃ w6, Sem.run Tryd.prog (Builtin.copy_ #[62, 62] 3 #[.slice (some ⟨W.heap.size, 0, none⟩) 4 4, .slice (some ⟨w.heap.size, 12, none⟩) 4 4]) (W.alloc (.cells #[.int .u8 0, .int .u8 0, .int .u8 0, .int .u8 0] 38)).drew = .ok (.int .i64 4) w6 ∧
      ArrV 38 w6 W.heap.size (bcells [a, b, c, d]) ∧ ArrV 38 w6 (w.heap.size + 1) (bcells [0, 0, 0, 0]) ∧ w.heap.size + 1 < W.heap.size ∧ Below w.heap.size w w6 := by
  have hsrc : ∀ j v, (bcells [a, b, c, d])[j]? = some v → (bcells X)[12 + j]? = some v := by
    rw [← hd]
    exact src_drop 12
  obtain ⟨w6, hcp, hO, b6⟩ := copy_at bytes_slice u8one 38 (W.alloc (.cells #[.int .u8 0, .int .u8 0, .int .u8 0, .int .u8 0] 38)).drew W.heap.size 0 4 4 (bcells [0, 0, 0, 0]) ⟨w.heap.size, 12, none⟩ 4 4 (bcells [a, b, c, d]) (ArrV.new _ W _).drew rfl
    (bcells_src (h.box.alloc _).drew 12 _ hsrc) (Nat.le_refl 4) (bcells_one _)
  have h3 : ArrV 38 (W.alloc (.cells #[.int .u8 0, .int .u8 0, .int .u8 0, .int .u8 0] 38)).drew (w.heap.size + 1) (bcells [0, 0, 0, 0]) := (h.res.alloc _).drew
  exact ⟨w6, hcp, hO, h3.belowB b6 h.res.lt, h.res.lt, (((h.bel.alloc h.bel.size _).drew).trans (b6.mono h.bel.size))⟩
theorem unmap_start (X : List Nat) (w : World) (hX : X.length = 16) :
    ∃ w3, Sem.run Tryd.prog (Builtin.copy_ #[62, 62] 3 #[.slice (some ⟨w.heap.size + 1 + 1, 0, none⟩) 12 12, .slice (some ⟨w.heap.size, 0, none⟩) 16 16])
      (((w.alloc (.cells (bcells X).toArray 37)).alloc (.cells #[.int .u8 0, .int .u8 0, .int .u8 0, .int .u8 0] 38)).alloc (.cells #[.int .u8 0, .int .u8 0, .int .u8 0, .int .u8 0, .int .u8 0, .int .u8 0, .int .u8 0, .int .u8 0, .int .u8 0, .int .u8 0, .int .u8 0, .int .u8 0] 83)).drew = .ok (.int .i64 12) w3 ∧ UJ w X w3 := by
  have HA0 : ArrV 37 (((w.alloc (.cells (bcells X).toArray 37)).alloc (.cells (bcells [0, 0, 0, 0]).toArray 38)).alloc (.cells (bcells (List.replicate 12 0)).toArray 83)).drew w.heap.size (bcells X) := ((ArrV.new _ w _).alloc _).alloc _
  have HA1 : ArrV 38 (((w.alloc (.cells (bcells X).toArray 37)).alloc (.cells (bcells [0, 0, 0, 0]).toArray 38)).alloc (.cells (bcells (List.replicate 12 0)).toArray 83)).drew (w.heap.size + 1) (bcells [0, 0, 0, 0]) := by
    have h := (ArrV.new 38 (w.alloc (.cells (bcells X).toArray 37)) (bcells [0, 0, 0, 0])).alloc (.cells (bcells (List.replicate 12 0)).toArray 83)
    rw [World.size_alloc] at h
    exact h
  have HA2 : ArrV 83 (((w.alloc (.cells (bcells X).toArray 37)).alloc (.cells (bcells [0, 0, 0, 0]).toArray 38)).alloc (.cells (bcells (List.replicate 12 0)).toArray 83)).drew (w.heap.size + 1 + 1) (bcells (List.replicate 12 0)) := by
    have h := ArrV.new 83 ((w.alloc (.cells (bcells X).toArray 37)).alloc (.cells (bcells [0, 0, 0, 0]).toArray 38)) (bcells (List.replicate 12 0))
    rw [World.size_alloc, World.size_alloc] at h
    exact h
  have HB : Below w.heap.size w (((w.alloc (.cells (bcells X).toArray 37)).alloc (.cells (bcells [0, 0, 0, 0]).toArray 38)).alloc (.cells (bcells (List.replicate 12 0)).toArray 83)).drew := ((((Below.refl _ _).alloc (Nat.le_refl _) _).alloc (by simp) _).alloc (by simp; omega) _).drew
  have hl : (bcells (X.take 12)).length = 12 := by rw [bcells_length, List.length_take, hX]; rfl
  obtain ⟨w3, hcp, hO, b3⟩ := copy_at bytes_slice u8one 83 _ (w.heap.size + 1 + 1) 0 12 12 (bcells (List.replicate 12 0)) ⟨w.heap.size, 0, none⟩ 16 16 (bcells (X.take 12)) HA2 (by rw [hl]; rfl) (bcells_src HA0 0 _ (src_take 12)) (by rw [hl]; decide) (bcells_one _)
  rw [hl] at hcp hO
  refine ⟨w3, hcp, HA0.belowB b3 (by omega), HA1.belowB b3 (by omega), ?_, HB.trans (b3.mono (by omega))⟩
  rw [List.take_zero, List.nil_append, List.drop_eq_nil_of_le (by simp [bcells_length]), List.append_nil] at hO
  exact hO
set_option maxRecDepth 10000 in
set_option maxHeartbeats 1600000 in
theorem unmap_no (X : List Nat) (w : World) (hX : X.length = 16) (hne : X.take 12 ≠ mp) : Calls Tryd.prog 26 #[.agg (bcells X).toArray] w fun e w' => e = .returned (.tuple #[.agg #[.int .u8 0, .int .u8 0, .int .u8 0, .int .u8 0], .bool false]) ∧ Below w.heap.size w w' := by
  have hs : (bcells X).length = 16 := by rw [bcells_length, hX]
  have HX := Lib.hid hX
  have C1 := Lib.hid (fun w => mapped_lit w)
  obtain ⟨w3, hcp, hJ⟩ := unmap_start X w hX
  have HJ := Lib.hid hJ.drew
  have hload := HJ.out.ahead.range
  have hu := Tryd.underlying83
  have hi : (Tryd.prog.info? 83).map (·.size) = some (bcells (X.take 12)).length := by rw [bcells_length, List.length_take, hX]; exact ty12.size
  have hq := same_mp (X.take 12) (by rw [List.length_take, hX]; rfl) false (by rw [decide_eq_false hne])
  clear hJ hX hne
  go_enter Tryd.func26, Tryd.ntmps26
  go_wp2_with fail
  go_region
  clear hcp
  go_wp2_with fail
  go_region_held3 (fun w' => w'.rangeAt (w.heap.size + 1 + 1) 0 (bcells (X.take 12)))
    (first | exact hload | exact hTwo | go_keep)
    (first
      | (go_at_call 62; (refine (C1.out _).mono ?_); rintro e w' ⟨rfl, hb'⟩; have HJ := Lib.hid (HJ.out.below hb'); have hTwo := HJ.out.ahead.range)
      | fail)
  all_goals
    have r0 := HJ.out.res.get 0
    have r1 := HJ.out.res.get 1
    have r2 := HJ.out.res.get 2
    have r3 := HJ.out.res.get 3
    have f0 := HJ.out.res.frozen
    simp [bcells] at r0 r1 r2 r3
    go_wp2_with fail
    exact bodyPost_ret (v := .tuple #[.agg #[.int .u8 0, .int .u8 0, .int .u8 0, .int .u8 0], .bool false]) (by simp [results, Tryd.results26, go_sem, r0, r1, r2, r3]) rfl
      ⟨rfl, (((HJ.out.bel.setCell (by simp) _).setCell (by simp) _).setCell (by simp) _).setCell (by simp) _⟩
set_option maxRecDepth 10000 in
set_option maxHeartbeats 3200000 in
theorem unmap_yes (a b c d : Nat) (w : World) : Calls Tryd.prog 26 #[.agg (bcells (mp ++ [a, b, c, d])).toArray] w fun e w' => e = .returned (.tuple #[.agg #[.int .u8 a, .int .u8 b, .int .u8 c, .int .u8 d], .bool true]) ∧ Below w.heap.size w w' := by
  have HXL : Hid ((mp ++ [a, b, c, d]).length = 16 ∧ (mp ++ [a, b, c, d]).take 12 = mp ∧ (mp ++ [a, b, c, d]).drop 12 = [a, b, c, d]) := ⟨rfl, rfl, rfl⟩
  generalize mp ++ [a, b, c, d] = X at *
  have hX := HXL.out.1
  have hs : (bcells X).length = 16 := by rw [bcells_length, hX]
  have HX := Lib.hid hX
  have C1 := Lib.hid (fun w => mapped_lit w)
  obtain ⟨w3, hcp, hJ⟩ := unmap_start X w hX
  have HJ := Lib.hid hJ.drew
  have hload := HJ.out.ahead.range
  have hu := Tryd.underlying83
  have hi : (Tryd.prog.info? 83).map (·.size) = some (bcells (X.take 12)).length := by rw [bcells_length, List.length_take, hX]; exact ty12.size
  have hq := same_mp (X.take 12) (by rw [List.length_take, hX]; rfl) true (by rw [HXL.out.2.1]; rfl)
  clear hJ hX
  go_enter Tryd.func26, Tryd.ntmps26
  go_wp2_with fail
  go_region
  clear hcp
  go_wp2_with fail
  go_region_held3 (fun w' => w'.rangeAt (w.heap.size + 1 + 1) 0 (bcells (X.take 12)))
    (first | exact hload | exact hTwo | go_keep)
    (first
      | (go_at_call 62; (refine (C1.out _).mono ?_); rintro e w' ⟨rfl, hb'⟩; have HJ := Lib.hid (HJ.out.below hb'); have hTwo := HJ.out.ahead.range)
      | fail)
  all_goals
    clear hload hu hi hq
    obtain ⟨w6, hcp, hO, hR, hlt, hB⟩ := HJ.out.second HXL.out.2.2
    have r0 := hR.get 0
    have r1 := hR.get 1
    have r2 := hR.get 2
    have r3 := hR.get 3
    have f0 := hR.frozen
    have c0 := hO.get 0
    have c1 := hO.get 1
    have c2 := hO.get 2
    have c3 := hO.get 3
    have HB := Lib.hid hB
    simp [bcells] at r0 r1 r2 r3 c0 c1 c2 c3
    clear hlt hB hO hR
    go_wp2_with fail
    go_region
    go_wp2_with fail
    exact bodyPost_ret (v := .tuple #[.agg #[.int .u8 a, .int .u8 b, .int .u8 c, .int .u8 d], .bool true]) (by simp [results, Tryd.results26, go_sem, r0, r1, r2, r3]) rfl
      ⟨rfl, (((HB.out.setCell (by simp) _).setCell (by simp) _).setCell (by simp) _).setCell (by simp) _⟩
end Go.Proofs.YtdeoeikpooonlaaDoor
