/-
  The contract of prefix's Last.
-/
import Derived.Test.YtaicmadeobglfaaDoorPre5
namespace Go.Proofs.YtaicmadeobglfaaDoor
open Go.RowKit
set_option linter.unusedVariables false

theorem alloc16 : ∀ W, (Instr.alloc 22 true (.tuple #[])).run Tryd.prog W = .ok (.pointer (some ⟨W.heap.size, 0, none⟩)) (W.alloc (.cells (bcells zero16).toArray 22)) := fun W => by
  simp [go_sem]
  rfl
/-- The first bytes filled, the others as they were. -/
def fmix (X : List Nat) (n M k : Nat) : List Nat := (fillB X n M).take k ++ X.drop k
theorem fmix_len {X : List Nat} {n M k : Nat} (hX : X.length = 16) (hk : k ≤ 16) : (fmix X n M k).length = 16 := by
  unfold fmix
  rw [List.length_append, List.length_take, fillB_len, List.length_drop, hX]
  omega
theorem fmix_at {X : List Nat} {n M k : Nat} (hX : X.length = 16) (hk : k < 16) : (fmix X n M k).getD k 0 = X.getD k 0 := by
  unfold fmix
  rw [List.getD_eq_getElem?_getD, List.getD_eq_getElem?_getD, List.getElem?_append_right (by rw [List.length_take, fillB_len]; omega), List.length_take, fillB_len, List.getElem?_drop, Nat.min_eq_left (by omega), Nat.sub_self, Nat.add_zero]
theorem fmix_set {X : List Nat} {n M k : Nat} (hX : X.length = 16) (hk : k < 16) : (fmix X n M k).set k (X.getD k 0 ||| (onb M k &&& (255 - onb n k))) = fmix X n M (k + 1) := by
  have e1 : ((fillB X n M).take k).length = k := by rw [List.length_take, fillB_len]; omega
  have hk2 : k < (fillB X n M).length := by rw [fillB_len]; exact hk
  have e2 : (fillB X n M).take (k + 1) = (fillB X n M).take k ++ [X.getD k 0 ||| (onb M k &&& (255 - onb n k))] := by
    rw [List.take_succ_eq_append_getElem hk2]
    have h := fillB_get X n M k hk
    rw [List.getElem?_eq_getElem hk2] at h
    injection h with h
    rw [h]
  have e3 : X.drop k = X.getD k 0 :: X.drop (k + 1) := by
    rw [List.drop_eq_getElem_cons (by omega), List.getD_eq_getElem?_getD, List.getElem?_eq_getElem (by omega)]
    rfl
  unfold fmix
  rw [List.set_append_right _ _ (by omega), e1, Nat.sub_self, e3, List.set_cons_zero, e2]
  simp
theorem fmix_zero (X : List Nat) (n M : Nat) : fmix X n M 0 = X := by simp [fmix]
theorem fmix_all {X : List Nat} {n M : Nat} (hX : X.length = 16) : fmix X n M 16 = fillB X n M := by
  unfold fmix
  rw [List.take_of_length_le (by rw [fillB_len]; exact Nat.le_refl _), List.drop_of_length_le (by omega), List.append_nil]
theorem bset_cells (l : List Nat) (k x : Nat) : (bcells l).set k (.int .u8 (x : Nat)) = bcells (l.set k x) := by simp [bcells, List.map_set]
theorem bcells_at {l : List Nat} {k : Nat} (h : k < l.length) : (bcells l)[k]? = some (.int .u8 (l.getD k 0 : Nat)) := by
  unfold bcells
  rw [List.getElem?_map, List.getElem?_eq_getElem h, List.getD_eq_getElem?_getD, List.getElem?_eq_getElem h]
  rfl
/-- The last address that has a prefix. -/
def plast (V : Int) (X : List Nat) (n : Int) : List Nat := if pcheck V X n = 0 then fillB X n.toNat (psz V).toNat else zero16
theorem psz_nat (V : Int) : ∃ M : Nat, psz V = M ∧ M ≤ 128 := by
  unfold psz
  split
  · exact ⟨32, rfl, by decide⟩
  · exact ⟨128, rfl, by decide⟩
set_option maxRecDepth 10000 in
set_option maxHeartbeats 6400000 in
theorem plast_any (V : Int) (X : List Nat) (n : Int) (w : World) (hX : Adr X) : Calls Tryd.prog 10 #[.agg (pcells V X n).toArray] w fun e w' => e = .returned (.agg (bcells (plast V X n)).toArray) ∧ Below w.heap.size w w' := by
  have HP := Lib.hid (pc_parts V n hX.len)
  have hs16 : (bcells X).length = 16 := by rw [bcells_length, hX.len]
  have CC := Lib.hid (fun w => pcheck_any V X n w hX)
  obtain ⟨P, hP⟩ : ∃ P, P = pcells V X n := ⟨_, rfl⟩
  rw [← hP] at HP CC ⊢
  have K0 : Hid (KV w [(24, w.heap.size, P), (22, w.heap.size + 1, bcells zero16)] ((w.alloc (.cells P.toArray 24)).alloc (.cells (bcells zero16).toArray 22))) := KV.two w _ _ _ _
  clear hP
  by_cases hc : pcheck V X n = 0
  · obtain ⟨hn0, hn1⟩ := pfits_ok (pcheck_len hc)
    obtain ⟨m, hm⟩ := Int.eq_ofNat_of_zero_le hn0
    obtain ⟨M, hM, hM1⟩ := psz_nat V
    have CS : Hid (∀ w, Calls Tryd.prog 12 #[.int .i64 V] w fun e w' => e = .returned (.int .i64 (M : Nat)) ∧ Below w.heap.size w w') := fun w => (psize_any V w).mono fun e w' ⟨h1, h2⟩ => ⟨by rw [h1, hM], by subst h2; exact Below.refl _ _⟩
    have CO := Lib.hid (fun w => pones_any M w hM1)
    have CN := Lib.hid (fun w => pones_any m w (by omega))
    have hsE : (bcells (onesB M)).length = 16 := by rw [bcells_length, onesB_len]
    have hsO : (bcells (onesB m)).length = 16 := by rw [bcells_length, onesB_len]
    have HF : Hid (plast V X n = fillB X m M) := by show _ = _; unfold plast; rw [if_pos hc, hm, hM]; rfl
    have HX := Lib.hid hX
    have HE := Lib.hid (onesB_get M)
    have HO := Lib.hid (onesB_get m)
    have HEl := Lib.hid (onesB_len M)
    have HOl := Lib.hid (onesB_len m)
    have HmM : Hid (M ≤ 128 ∧ m ≤ 128) := ⟨hM1, by omega⟩
    rw [hc] at CC
    have hm2 : n = ((m : Nat) : Int) := hm
    subst hm2
    clear hc hn0 hn1 hm hM hM1 hX
    generalize onesB M = EM at *
    generalize onesB m = ON at *
    go_enter Tryd.func10, Tryd.ntmps10
    go_upto_region 1 with fail
    refine wp_region_lit ?_
    refine wpList_quiet_all (C := KV w [(24, w.heap.size, P), (22, w.heap.size + 1, bcells zero16)]) K0.out ?_
    repeat (first
      | go_big_quiet_skip
      | (go_big_quiet_want; apply Exists.intro; refine ⟨fun w' hw' => (by first | exact quietAt_part rfl rfl typfx (hw'.at 0 rfl) HP.out.all HP.out.len | exact quietAt_cell rfl rfl one_int (hw'.at 0 rfl) HP.out.v | exact quietAt_cell rfl rfl one_int (hw'.at 0 rfl) HP.out.n | exact quietAt_part rfl rfl ty16 (hw'.at 0 rfl) HP.out.addr hs16 | fail), ?_⟩; simp only [Act.put, List.setIfInBounds_toArray, List.set_cons_zero, List.set_cons_succ]; go_big_quiet_on)
      | (go_big_quiet_want; go_big_quiet_op; go_big_quiet_on)
      | (go_big_quiet_want; go_big_quiet_op; apply Exists.intro; refine ⟨fun w' hw' => (by first | (with_reducible refine (CC.out w').mono ?_; rintro e w'' ⟨rfl, hb⟩; exact ⟨rfl, hw'.below hb⟩) | fail), ?_⟩; go_big_quiet_on)
      | (go_big_quiet_want; go_big_quiet_op; apply Exists.intro; refine ⟨fun w' hw' => rfl, ?_⟩; go_big_quiet_on))
    refine wpQuiet_nil ?_
    intro w1 hw1
    go_upto_region 3 with fail
    refine wp_region_par (w := w) [.quiet (.pointer (some ⟨w.heap.size, 1, none⟩)), .quiet (.agg (bcells X).toArray), .quiet (.pointer (some ⟨w.heap.size, 0, none⟩)), .quiet (.int .i64 V), .quiet (.int .i64 (M : Nat)), .quiet (.agg (bcells EM).toArray), .quiet (.pointer (some ⟨w.heap.size, 17, none⟩)), .quiet (.int .i64 (m : Nat)), .quiet (.agg (bcells ON).toArray), .alloc 22 (bcells zero16) (some (12, bcells X)), .alloc 22 (bcells zero16) (some (13, bcells EM)), .alloc 22 (bcells zero16) (some (14, bcells ON)), .store 9, .store 10, .store 11] [(24, w.heap.size, P), (22, w.heap.size + 1, bcells zero16)] (by kernel_rfl) (by kernel_rfl) hw1.drew (fun b => ?_) ?_
    · clear K0 hw1
      refine pWalk_quiet rfl (fun E W hw' => quietAt_run (by simp [go_sem])) ?_
      simp only [Act.put, List.setIfInBounds_toArray, List.set_cons_zero, List.set_cons_succ]
      refine pWalk_quiet rfl (fun E W hw' => quietAt_part rfl rfl ty16 (hw'.at 0 rfl) HP.out.addr hs16) ?_
      simp only [Act.put, List.setIfInBounds_toArray, List.set_cons_zero, List.set_cons_succ]
      refine pWalk_quiet rfl (fun E W hw' => quietAt_run (by simp [go_sem])) ?_
      simp only [Act.put, List.setIfInBounds_toArray, List.set_cons_zero, List.set_cons_succ]
      refine pWalk_quiet rfl (fun E W hw' => quietAt_cell rfl rfl one_int (hw'.at 0 rfl) HP.out.v) ?_
      simp only [Act.put, List.setIfInBounds_toArray, List.set_cons_zero, List.set_cons_succ]
      refine pWalk_quiet rfl (fun E W hw' => quietAt_call (f := 12) (args := #[.int .i64 V]) (by simp [go_sem]) ((CS.out W).mono fun e w'' h => ⟨h.1, hw'.below h.2⟩)) ?_
      simp only [Act.put, List.setIfInBounds_toArray, List.set_cons_zero, List.set_cons_succ]
      refine pWalk_quiet rfl (fun E W hw' => quietAt_call (f := 20) (args := #[.int .i64 (M : Nat)]) (by simp [go_sem]) ((CO.out W).mono fun e w'' h => ⟨h.1, hw'.below h.2⟩)) ?_
      simp only [Act.put, List.setIfInBounds_toArray, List.set_cons_zero, List.set_cons_succ]
      refine pWalk_quiet rfl (fun E W hw' => quietAt_run (by simp [go_sem])) ?_
      simp only [Act.put, List.setIfInBounds_toArray, List.set_cons_zero, List.set_cons_succ]
      refine pWalk_quiet rfl (fun E W hw' => quietAt_cell rfl rfl one_int (hw'.at 0 rfl) HP.out.n) ?_
      simp only [Act.put, List.setIfInBounds_toArray, List.set_cons_zero, List.set_cons_succ]
      refine pWalk_quiet rfl (fun E W hw' => quietAt_call (f := 20) (args := #[.int .i64 (m : Nat)]) (by simp [go_sem]) ((CN.out W).mono fun e w'' h => ⟨h.1, hw'.below h.2⟩)) ?_
      simp only [Act.put, List.setIfInBounds_toArray, List.set_cons_zero, List.set_cons_succ]
      refine pWalk_var rfl rfl alloc16 ?_
      simp only [Act.put, List.setIfInBounds_toArray, List.set_cons_zero, List.set_cons_succ]
      refine pWalk_var rfl rfl alloc16 ?_
      simp only [Act.put, List.setIfInBounds_toArray, List.set_cons_zero, List.set_cons_succ]
      refine pWalk_var rfl rfl alloc16 ?_
      simp only [Act.put, List.setIfInBounds_toArray, List.set_cons_zero, List.set_cons_succ]
      refine pWalk_put rfl rfl rfl rfl rfl ty16 rfl hs16 (bcells_one _) ?_
      simp only [Act.put]
      refine pWalk_put rfl rfl rfl rfl rfl ty16 rfl hsE (bcells_one _) ?_
      simp only [Act.put]
      refine pWalk_put rfl rfl rfl rfl rfl ty16 rfl hsO (bcells_one _) ?_
      simp only [Act.put]
      trivial
    · intro b κ E W hK hB
      have h9 := hB.at_ 9 _ _ _ rfl rfl
      have h10 := hB.at_ 10 _ _ _ rfl rfl
      have h11 := hB.at_ 11 _ _ _ rfl rfl
      have n1 := hB.inj 9 10 _ _ _ _ _ _ rfl rfl rfl rfl (by decide)
      have n2 := hB.inj 9 11 _ _ _ _ _ _ rfl rfl rfl rfl (by decide)
      have n3 := hB.inj 10 11 _ _ _ _ _ _ rfl rfl rfl rfl (by decide)
      obtain ⟨l9, g9⟩ := h9
      obtain ⟨l10, g10⟩ := h10
      obtain ⟨l11, g11⟩ := h11
      simp only [List.length_cons, List.length_nil] at l9 l10 l11
      have hw2 : Hid (KV w [(24, w.heap.size, P), (22, w.heap.size + 1, bcells zero16), (22, b 9, bcells X), (22, b 10, bcells EM), (22, b 11, bcells ON)] W) := by
        refine hK.pick [0, 1, κ 9, κ 10, κ 11] ?_ rfl ?_
        · simp
          omega
        · intro q hq
          simp at hq
          rcases hq with rfl | rfl | rfl | rfl | rfl
          · rfl
          · rfl
          · exact g9
          · exact g10
          · exact g11
      clear l9 l10 l11 g9 g10 g11 n1 n2 n3 hK hB hw1 K0
      obtain ⟨b9, e9⟩ : ∃ x, x = b 9 := ⟨_, rfl⟩
      obtain ⟨b10, e10⟩ : ∃ x, x = b 10 := ⟨_, rfl⟩
      obtain ⟨b11, e11⟩ : ∃ x, x = b 11 := ⟨_, rfl⟩
      simp only [List.length_cons, List.length_nil, lexAct, pval, List.getElem?_cons_zero, List.getElem?_cons_succ, Option.bind_some, Act.put, List.setIfInBounds_toArray, List.set_cons_zero, List.set_cons_succ]
      rw [← e9, ← e10, ← e11] at hw2 ⊢
      clear e9 e10 e11
      have HK0 : Hid (KV w [(24, w.heap.size, P), (22, w.heap.size + 1, bcells zero16), (22, b9, bcells (fmix X m M 0)), (22, b10, bcells EM), (22, b11, bcells ON)] W) := by
        show KV _ _ _
        rw [fmix_zero]
        exact hw2.out
      clear hw2 HP CC CS CO CN
      go_wp2_with fail
      go_loopw [20] (fun i wr => ∃ k : Nat, k ≤ 16 ∧ i = .int .i64 k ∧ Hid (KV w [(24, w.heap.size, P), (22, w.heap.size + 1, bcells zero16), (22, b9, bcells (fmix X m M k)), (22, b10, bcells EM), (22, b11, bcells ON)] wr)) (fun i _ => 16 - (intOf i).toNat)
      case atStart => exact ⟨0, by decide, rfl, HK0.out⟩
      case round =>
        clear HK0
        obtain ⟨k, hk, rfl, KK⟩ := hrel
        by_cases hlt : k < 16
        · have wk : wrap64 ((k : Int) + 1) = ((k + 1 : Nat) : Int) := wrap_inc (by omega)
          have c9 : wr.cell? ⟨b9, k, none⟩ = some (.int .u8 (X.getD k 0 : Nat)) := by
            rw [(KK.out.at 2 rfl).get, bcells_at (by rw [fmix_len HX.out.len hk]; exact hlt), fmix_at HX.out.len hlt]
          have c10 : wr.cell? ⟨b10, k, none⟩ = some (.int .u8 (onb M k : Nat)) := by
            rw [(KK.out.at 3 rfl).get]
            simp only [bcells, List.getElem?_map, HE.out k hlt, Option.map_some]
          have c11 : wr.cell? ⟨b11, k, none⟩ = some (.int .u8 (onb m k : Nat)) := by
            rw [(KK.out.at 4 rfl).get]
            simp only [bcells, List.getElem?_map, HO.out k hlt, Option.map_some]
          have f9 := (KK.out.at 2 rfl).frozen k
          have q1 := u8_andNot_nat (onb M k) (onb m k) (onb_le _ _) (onb_le _ _)
          have q2 := u8_or_nat (X.getD k 0) (onb M k &&& (255 - onb m k)) (HX.out.at k) (Nat.lt_of_le_of_lt Nat.and_le_left (onb_le _ _))
          have f9d : wr.drew.frozen? ⟨b9, k, none⟩ = false := f9
          have c9d : wr.drew.cell? ⟨b9, k, none⟩ = some (.int .u8 (X.getD k 0 : Nat)) := c9
          have KP := Lib.hid (KK.out.drew.put 2 rfl k (.int .u8 (X.getD k 0 ||| (onb M k &&& (255 - onb m k)) : Nat)))
          rw [bset_cells, fmix_set HX.out.len hlt] at KP
          generalize onb M k &&& (255 - onb m k) = z at *
          generalize onb M k = y at *
          generalize onb m k = y' at *
          generalize X.getD k 0 ||| z = u at *
          generalize X.getD k 0 = x at *
          clear KK
          go_upto_region 7 with fail
          refine wp_region_still_tail 12 (by kernel_rfl) (by kernel_rfl) ?_
          simp only [List.take_succ_cons, List.take_zero, List.drop_succ_cons, List.drop_zero]
          repeat still_step
          refine wpStill_nil ?_
          change wpList _ _ _ _ _ wr.drew
          go_wp2_with fail
          go_roundw
          case rel => exact ⟨k + 1, by omega, rfl, KP.out⟩
          case measure => simp [intOf]; omega
        · obtain rfl : k = 16 := by omega
          have HL : Hid ((bcells (fillB X m M)).length = 16) := by show _ = _; rw [bcells_length, fillB_len]
          rw [fmix_all HX.out.len] at KK
          go_upto_region 9 with fail
          refine wp_region_lit ?_
          go_wp2_with (first | refine wpList_load_v rfl 22 (.tmp 3) rfl _ rfl ty16 (KK.out.at 2 rfl) HL.out ?_ | refine wpList_store_v rfl 22 (.tmp 2) (.tmp 36) rfl _ rfl ty16 (KK.out.at 1 rfl) rfl (bcells (fillB X m M)) HL.out (bcells_one _) rfl ?_ | fail)
          have KS := KK.out.store 1 rfl (bcells (fillB X m M)) (by rw [HL.out]; rfl)
          exact bodyPost_ret (v := .agg (bcells (fillB X m M)).toArray) (res_cell Tryd.results10 rfl ((KS.at 1 rfl).loadVar ty16 HL.out)) rfl ⟨by rw [HF.out], KS.bel⟩
  · have HF : Hid (plast V X n = zero16) := by show _ = _; unfold plast; rw [if_neg hc]
    have hcb : (pcheck V X n != 0) = true := by simpa using hc
    clear hc hX
    generalize pcheck V X n = f at *
    go_enter Tryd.func10, Tryd.ntmps10
    go_upto_region 1 with fail
    refine wp_region_lit ?_
    refine wpList_quiet_all (C := KV w [(24, w.heap.size, P), (22, w.heap.size + 1, bcells zero16)]) K0.out ?_
    repeat (first
      | go_big_quiet_skip
      | (go_big_quiet_want; apply Exists.intro; refine ⟨fun w' hw' => (by first | exact quietAt_part rfl rfl typfx (hw'.at 0 rfl) HP.out.all HP.out.len | exact quietAt_cell rfl rfl one_int (hw'.at 0 rfl) HP.out.v | exact quietAt_cell rfl rfl one_int (hw'.at 0 rfl) HP.out.n | exact quietAt_part rfl rfl ty16 (hw'.at 0 rfl) HP.out.addr hs16 | fail), ?_⟩; simp only [Act.put, List.setIfInBounds_toArray, List.set_cons_zero, List.set_cons_succ]; go_big_quiet_on)
      | (go_big_quiet_want; go_big_quiet_op; go_big_quiet_on)
      | (go_big_quiet_want; go_big_quiet_op; apply Exists.intro; refine ⟨fun w' hw' => (by first | (with_reducible refine (CC.out w').mono ?_; rintro e w'' ⟨rfl, hb⟩; exact ⟨rfl, hw'.below hb⟩) | fail), ?_⟩; go_big_quiet_on)
      | (go_big_quiet_want; go_big_quiet_op; apply Exists.intro; refine ⟨fun w' hw' => rfl, ?_⟩; go_big_quiet_on))
    refine wpQuiet_nil ?_
    intro w1 hw1
    go_wp2_with (first | refine wpList_store_v rfl 22 (.tmp 2) (.tmp 10) rfl _ rfl ty16 (hw1.at 1 rfl) rfl (bcells zero16) rfl (bcells_one _) rfl ?_ | fail)
    have hw3 := hw1.store 1 rfl (bcells zero16) rfl
    exact bodyPost_ret (v := .agg (bcells zero16).toArray) (res_cell Tryd.results10 rfl ((hw3.at 1 rfl).loadVar ty16 rfl)) rfl ⟨by rw [HF.out], hw3.bel⟩
end Go.Proofs.YtaicmadeobglfaaDoor
