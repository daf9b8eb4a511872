/-
  The walk of PrefixBack, version 4.
-/
import Derived.Test.YtlkilkhnblmjaaaDoorWPBackH
namespace Go.Proofs.YtlkilkhnblmjaaaDoor
open Go.RowKit
set_option linter.unusedVariables false

set_option maxRecDepth 10000 in
set_option maxHeartbeats 12800000 in
theorem wpback4 (n : Nat) (A C : List Nat) (w : World) (hT : Six w) (hn : n < 256) (hA : Adr A) (hC : Adr C) :
    Calls Tryd.prog 5 #[.bool false, .int .u8 n, .agg (bcells A ++ bcells C).toArray] w fun e w' => e = .returned (.bool true) ∧ Below w.heap.size w w' := by
  have HT := Lib.hid hT
  obtain ⟨m, hm⟩ : ∃ m, m = n % (32 + 1) := ⟨_, rfl⟩
  obtain ⟨wn, wm, hle⟩ := mod_facts hm hn (by decide)
  have wm2 := i64_mod hle (by decide)
  have wn2 : IntKind.i64.wrap (n : Int) = (n : Int) := i64_small (by omega)
  have wm3 : (n : Int).tmod 33 = (m : Int) := wm
  have wM : IntKind.i64.wrap 33 = 33 := by decide
  obtain ⟨X, hXe⟩ : ∃ X, X = keepB A m := ⟨_, rfl⟩
  have hP : Pf 4 32 m X := ⟨by decide, hle, by rw [hXe]; exact keep_keep A (Nat.le_refl m)⟩
  have hX := hP.adr
  have hz : Pf 4 32 0 zero16 := Pf.zero (by decide)
  have HP := Lib.hid (pc_parts 4 (m : Nat) hX.len)
  have HXl : Hid ((bcells X).length = 16) := by show _ = _; rw [bcells_length, hX.len]
  have HAl : Hid ((bcells A).length = 16) := by show _ = _; rw [bcells_length, hA.len]
  have HBl : Hid ((bcells C).length = 16) := by show _ = _; rw [bcells_length, hC.len]
  obtain ⟨AB, hAB⟩ : ∃ AB, AB = bcells A ++ bcells C := ⟨_, rfl⟩
  have HA0 : Hid ((AB.drop 0).take 16 = bcells A) := by show _ = _; rw [hAB, List.drop_zero, List.take_left' HAl.out]
  have HB0 : Hid ((AB.drop 16).take 16 = bcells C) := by show _ = _; rw [hAB, List.drop_left' HAl.out, List.take_of_length_le (Nat.le_of_eq HBl.out)]
  rw [← hAB]
  clear hAB
  have CM : Hid (∀ w, Calls Tryd.prog 6 #[.int .i64 4, .agg (bcells A).toArray, .int .i64 (m : Nat)] w fun e w' => e = .returned (.tuple #[.agg (pcells 4 X (m : Nat)).toArray, .int .i64 0]) ∧ Below w.heap.size w w') := fun w => (pmake_any 4 A (m : Nat) w hA).mono fun e w' ⟨h1, h2⟩ => ⟨by rw [h1, hP.fits]; unfold pmake; rw [if_pos hP.fits, Int.toNat_natCast, ← hXe], h2⟩
  have CC : Hid (∀ w, Calls Tryd.prog 11 #[.agg (pcells 4 X (m : Nat)).toArray] w fun e w' => e = .returned (.int .i64 0) ∧ Below w.heap.size w w') := fun w => (pcheck_any 4 X (m : Nat) w hX).mono fun e w' ⟨h1, h2⟩ => ⟨by rw [h1, hP.check], h2⟩
  obtain ⟨s, hs⟩ : ∃ s, s = pprint 4 X (m : Nat) := ⟨_, rfl⟩
  have CPr : Hid (∀ w, Six w → Calls Tryd.prog 21 #[.agg (pcells 4 X (m : Nat)).toArray] w fun e w' => e = .returned (.string s) ∧ Below w.heap.size w w') := fun w h => by rw [hs]; exact pprint_any 4 X (m : Nat) w hX h
  have hsz : s.size < 4294967000 := by rw [hs]; exact Pf.size hX (by omega)
  have hpp : pparse s.data.toList = (pcells 4 X (m : Nat), 0) := by
    have h := Pf.parse (A := A) (hXe ▸ hP)
    rw [← hXe] at h
    rw [hs]
    exact h
  have CPa : Hid (∀ w, Six w → Calls Tryd.prog 20 #[.string s] w fun e w' => e = .returned (.tuple #[.agg (pcells 4 X (m : Nat)).toArray, .int .i64 0]) ∧ Below w.heap.size w w') := fun w h => (pparse_any s w hsz h).mono fun e w' ⟨h1, h2⟩ => ⟨by rw [h1, hpp], h2⟩
  clear hs hsz hpp
  have CH1 : Hid (∀ w, Calls Tryd.prog 16 #[.agg (pcells 4 X (m : Nat)).toArray, .int .i64 4, .agg (bcells A).toArray] w fun e w' => e = .returned (.bool true) ∧ Below w.heap.size w w') := fun w => (phas_any 4 X (m : Nat) 4 A w hX hA).mono fun e w' ⟨h1, h2⟩ => ⟨by rw [h1, hP.has, decide_eq_true hXe.symm], h2⟩
  have CH2 : Hid (∀ w, Calls Tryd.prog 16 #[.agg (pcells 4 X (m : Nat)).toArray, .int .i64 4, .agg (bcells X).toArray] w fun e w' => e = .returned (.bool true) ∧ Below w.heap.size w w') := fun w => (phas_any 4 X (m : Nat) 4 X w hX hX).mono fun e w' ⟨h1, h2⟩ => ⟨by rw [h1, hP.has, decide_eq_true hP.keep], h2⟩
  obtain ⟨LA, hLA⟩ : ∃ L, L = fillB X m 32 := ⟨_, rfl⟩
  have aLA : Adr LA := hLA ▸ fillB_adr hX m 32
  have CLa : Hid (∀ w, Calls Tryd.prog 13 #[.agg (pcells 4 X (m : Nat)).toArray] w fun e w' => e = .returned (.agg (bcells LA).toArray) ∧ Below w.heap.size w w') := fun w => (plast_any 4 X (m : Nat) w hX).mono fun e w' ⟨h1, h2⟩ => ⟨by rw [h1, hP.last, hLA], h2⟩
  have CH3 : Hid (∀ w, Calls Tryd.prog 16 #[.agg (pcells 4 X (m : Nat)).toArray, .int .i64 4, .agg (bcells LA).toArray] w fun e w' => e = .returned (.bool true) ∧ Below w.heap.size w w') := fun w => (phas_any 4 X (m : Nat) 4 LA w hX aLA).mono fun e w' ⟨h1, h2⟩ => ⟨by rw [h1, hP.has, decide_eq_true (by rw [hLA, keep_fill, hP.keep])], h2⟩
  obtain ⟨A4, hA4⟩ : ∃ R, R = pcells 4 zero16 0 := ⟨_, rfl⟩
  have CAll : Hid (∀ w, Calls Tryd.prog 22 #[.int .i64 4] w fun e w' => e = .returned (.agg A4.toArray) ∧ Below w.heap.size w w') := fun w => by rw [hA4]; exact pall_any 4 w
  have CH4 : Hid (∀ w, Calls Tryd.prog 16 #[.agg A4.toArray, .int .i64 4, .agg (bcells C).toArray] w fun e w' => e = .returned (.bool true) ∧ Below w.heap.size w w') := fun w => by
    rw [hA4]
    exact (phas_any 4 zero16 ((0 : Nat) : Int) 4 C w zero_adr hC).mono fun e w' ⟨h1, h2⟩ => ⟨by rw [h1, hz.has, decide_eq_true (keepB_zero C)], h2⟩
  have CW0 : Hid (∀ w, Calls Tryd.prog 18 #[.agg (pcells 4 X (m : Nat)).toArray, .agg A4.toArray] w fun e w' => e = .returned (.bool true) ∧ Below w.heap.size w w') := fun w => by
    rw [hA4]
    exact (pwithin_any 4 X (m : Nat) 4 zero16 ((0 : Nat) : Int) w hX zero_adr).mono fun e w' ⟨h1, h2⟩ => ⟨by rw [h1, hz.within hP, decide_eq_true (Nat.zero_le m), decide_eq_true (keepB_zero X)]; rfl, h2⟩
  have qP : Hid (∀ w, (Op.equalIn 10000 24 (.agg (pcells 4 X (m : Nat)).toArray) (.agg (pcells 4 X (m : Nat)).toArray)).run Tryd.prog w = .ok true w) := fun w => by
    have h2 := pfx_same hX hX (V := 4) (V' := 4) (n := (m : Nat)) (n' := (m : Nat)) (by decide) (by omega) (by decide) (by omega) w
    rw [decide_eq_true ⟨rfl, rfl, rfl⟩] at h2
    exact h2
  have CL := Lib.hid live7
  have CIn := Lib.hid (fun w => phas_any 4 X (m : Nat) 4 C w hX hC)
  clear hT hn hm
  by_cases hlt : m < 32
  · have hL := hP.low hlt
    have hH := hP.high hlt
    obtain ⟨Y, hY⟩ : ∃ Y, Y = highB X m := ⟨_, rfl⟩
    have hone := hP.one_half hlt C
    have hap := hP.apart hlt
    have hkY := hP.high_keep hlt
    have hlaY := hP.high_last hlt
    rw [← hY] at hH hone hap hkY hlaY
    have aY := hH.adr
    have hb : phalfB 4 X (m : Nat) = true := by
      unfold phalfB
      rw [hP.check, hP.sz]
      have : ¬ ((m : Int) = ((32 : Nat) : Int)) := by omega
      simp only [decide_true, Bool.true_and, Bool.not_eq_true', decide_eq_false_iff_not]
      exact this
    have ec : ((m : Int) + 1) = ((m + 1 : Nat) : Int) := by omega
    have HLO := Lib.hid (pc_parts 4 ((m + 1 : Nat) : Int) hX.len)
    have HHI := Lib.hid (pc_parts 4 ((m + 1 : Nat) : Int) aY.len)
    have HYl : Hid ((bcells Y).length = 16) := by show _ = _; rw [bcells_length, aY.len]
    have CHa : Hid (∀ w, Calls Tryd.prog 8 #[.agg (pcells 4 X (m : Nat)).toArray] w fun e w' => e = .returned (.tuple #[.agg (pcells 4 X ((m + 1 : Nat) : Int)).toArray, .agg (pcells 4 Y ((m + 1 : Nat) : Int)).toArray, .bool true]) ∧ Below w.heap.size w w') := fun w => (phalves_any 4 X (m : Nat) w hX).mono fun e w' ⟨h1, h2⟩ => ⟨by rw [h1]; unfold plow phigh; rw [hb, Int.toNat_natCast, ec, hY]; rfl, h2⟩
    have CX := Lib.hid (fun w => phas_any 4 X ((m + 1 : Nat) : Int) 4 C w hX hC)
    have CY := Lib.hid (fun w => phas_any 4 Y ((m + 1 : Nat) : Int) 4 C w aY hC)
    have CW1 : Hid (∀ w, Calls Tryd.prog 18 #[.agg (pcells 4 X ((m + 1 : Nat) : Int)).toArray, .agg (pcells 4 X (m : Nat)).toArray] w fun e w' => e = .returned (.bool true) ∧ Below w.heap.size w w') := fun w => (pwithin_any 4 X ((m + 1 : Nat) : Int) 4 X (m : Nat) w hX hX).mono fun e w' ⟨h1, h2⟩ => ⟨by rw [h1, hP.within hL, decide_eq_true (Nat.le_succ m), decide_eq_true hP.keep]; rfl, h2⟩
    have CW2 : Hid (∀ w, Calls Tryd.prog 18 #[.agg (pcells 4 Y ((m + 1 : Nat) : Int)).toArray, .agg (pcells 4 X (m : Nat)).toArray] w fun e w' => e = .returned (.bool true) ∧ Below w.heap.size w w') := fun w => (pwithin_any 4 Y ((m + 1 : Nat) : Int) 4 X (m : Nat) w aY hX).mono fun e w' ⟨h1, h2⟩ => ⟨by rw [h1, hP.within hH, decide_eq_true (Nat.le_succ m), decide_eq_true hkY]; rfl, h2⟩
    have CMt : Hid (∀ w, Calls Tryd.prog 19 #[.agg (pcells 4 X ((m + 1 : Nat) : Int)).toArray, .agg (pcells 4 Y ((m + 1 : Nat) : Int)).toArray] w fun e w' => e = .returned (.bool false) ∧ Below w.heap.size w w') := fun w => (pmeet_any 4 X ((m + 1 : Nat) : Int) 4 Y ((m + 1 : Nat) : Int) w hX aY).mono fun e w' ⟨h1, h2⟩ => ⟨by
      rw [h1]
      unfold pmeet
      rw [hH.within hL, hL.within hH, hL.keep, hH.keep, decide_eq_false hap, decide_eq_false (Ne.symm hap), Bool.and_false]
      rfl, h2⟩
    have CLb : Hid (∀ w, Calls Tryd.prog 13 #[.agg (pcells 4 Y ((m + 1 : Nat) : Int)).toArray] w fun e w' => e = .returned (.agg (bcells LA).toArray) ∧ Below w.heap.size w w') := fun w => (plast_any 4 Y ((m + 1 : Nat) : Int) w aY).mono fun e w' ⟨h1, h2⟩ => ⟨by rw [h1, hlaY, hP.last, hLA], h2⟩
    have q5 : Hid (∀ w, (Op.equalIn 10000 22 (.agg (bcells X).toArray) (.agg (bcells X).toArray)).run Tryd.prog w = .ok true w) := fun w => by
      have h := same_nat Tryd.underlying22 X X hX.len hX.len w
      rw [decide_eq_true rfl] at h
      exact h
    have q6 : Hid (∀ w, (Op.equalIn 10000 22 (.agg (bcells LA).toArray) (.agg (bcells LA).toArray)).run Tryd.prog w = .ok true w) := fun w => by
      have h := same_nat Tryd.underlying22 LA LA aLA.len aLA.len w
      rw [decide_eq_true rfl] at h
      exact h
    obtain ⟨P, hPe⟩ : ∃ P, P = pcells 4 X (m : Nat) := ⟨_, rfl⟩
    obtain ⟨LO, hLO⟩ : ∃ P, P = pcells 4 X ((m + 1 : Nat) : Int) := ⟨_, rfl⟩
    obtain ⟨HI, hHI⟩ : ∃ P, P = pcells 4 Y ((m + 1 : Nat) : Int) := ⟨_, rfl⟩
    rw [← hPe] at HP CM CC CPr CPa CH1 CH2 CLa CH3 CW0 qP CIn CHa CW1 CW2
    rw [← hLO] at HLO CHa CX CW1 CMt
    rw [← hHI] at HHI CHa CY CW2 CMt CLb
    have K0 : Hid (KV w [(39, w.heap.size, AB)] (w.alloc (.cells AB.toArray 39))) := KV.one w _ _
    have hone : Hid (_ ∨ _ ∨ _) := hone
    clear hPe hLO hHI hb hap hkY hlaY hY hL hH aY hlt ec hLA aLA hA4 hz hXe hX hP hA hC
    generalize phas 4 X (m : Nat) 4 C = b0 at *
    generalize phas 4 X ((m + 1 : Nat) : Int) 4 C = b1 at *
    generalize phas 4 Y ((m + 1 : Nat) : Int) 4 C = b2 at *
    go_enter Tryd.func5, Tryd.ntmps5
    go_upto_region 4 with fail
    refine wp_region_par (w := w) [.quiet (.int .i64 4), .quiet (.pointer (some ⟨w.heap.size, 0, none⟩)), .quiet (.agg (bcells A).toArray), .quiet (.int .u8 n), .quiet (.int .i64 n), .quiet (.int .i64 32), .quiet (.int .i64 33), .quiet (.int .i64 (m : Nat)), .quiet (.tuple #[.agg P.toArray, .int .i64 0]), .quiet (.tuple #[.agg P.toArray, .int .i64 0]), .quiet (.agg P.toArray), .quiet (.int .i64 0), .alloc 24 (pcells 0 zero16 0) (some (13, P)), .store 12, .quiet (.int .i64 0)] [(39, w.heap.size, AB)] (by kernel_rfl) (by kernel_rfl) K0.out.drew (fun b => ?_) ?_
    · clear K0
      refine pWalk_quiet rfl (fun E W hw' => quietAt_run rfl) ?_
      simp only [Act.put, List.setIfInBounds_toArray, List.set_cons_zero, List.set_cons_succ]
      refine pWalk_quiet rfl (fun E W hw' => quietAt_run (by simp [go_sem])) ?_
      simp only [Act.put, List.setIfInBounds_toArray, List.set_cons_zero, List.set_cons_succ]
      refine pWalk_quiet rfl (fun E W hw' => quietAt_part (off := 0) rfl rfl ty16 (hw'.at 0 rfl) HA0.out HAl.out) ?_
      simp only [Act.put, List.setIfInBounds_toArray, List.set_cons_zero, List.set_cons_succ]
      refine pWalk_quiet rfl (fun E W hw' => quietAt_run rfl) ?_
      simp only [Act.put, List.setIfInBounds_toArray, List.set_cons_zero, List.set_cons_succ]
      refine pWalk_quiet rfl (fun E W hw' => quietAt_run (by simp [go_sem, wn2])) ?_
      simp only [Act.put, List.setIfInBounds_toArray, List.set_cons_zero, List.set_cons_succ]
      refine pWalk_quiet rfl (fun E W hw' => quietAt_run rfl) ?_
      simp only [Act.put, List.setIfInBounds_toArray, List.set_cons_zero, List.set_cons_succ]
      refine pWalk_quiet rfl (fun E W hw' => quietAt_run (by simp [go_sem, wM])) ?_
      simp only [Act.put, List.setIfInBounds_toArray, List.set_cons_zero, List.set_cons_succ]
      refine pWalk_quiet rfl (fun E W hw' => quietAt_run (by simp [go_sem, wm3])) ?_
      simp only [Act.put, List.setIfInBounds_toArray, List.set_cons_zero, List.set_cons_succ]
      refine pWalk_quiet rfl (fun E W hw' => quietAt_call (f := 6) (args := #[.int .i64 4, .agg (bcells A).toArray, .int .i64 (m : Nat)]) (by simp [go_sem]) ((CM.out W).mono fun e w'' h => ⟨h.1, hw'.below h.2⟩)) ?_
      simp only [Act.put, List.setIfInBounds_toArray, List.set_cons_zero, List.set_cons_succ]
      refine pWalk_quiet rfl (fun E W hw' => quietAt_run rfl) ?_
      simp only [Act.put, List.setIfInBounds_toArray, List.set_cons_zero, List.set_cons_succ]
      refine pWalk_quiet rfl (fun E W hw' => quietAt_run (by simp [go_sem])) ?_
      simp only [Act.put, List.setIfInBounds_toArray, List.set_cons_zero, List.set_cons_succ]
      refine pWalk_quiet rfl (fun E W hw' => quietAt_run (by simp [go_sem])) ?_
      simp only [Act.put, List.setIfInBounds_toArray, List.set_cons_zero, List.set_cons_succ]
      refine pWalk_var rfl rfl allocpfx ?_
      simp only [Act.put, List.setIfInBounds_toArray, List.set_cons_zero, List.set_cons_succ]
      refine pWalk_put rfl rfl rfl rfl rfl typfx zero18_len HP.out.len HP.out.one ?_
      simp only [Act.put]
      refine pWalk_quiet rfl (fun E W hw' => quietAt_run rfl) ?_
      trivial
    · intro b κ E W hK hB
      obtain ⟨l2, g2⟩ := hB.at_ 12 _ _ _ rfl rfl
      simp only [List.length_cons, List.length_nil] at l2
      obtain ⟨g9, e9⟩ : ∃ x, x = b 12 := ⟨_, rfl⟩
      have k4 : Hid (KV w [(39, w.heap.size, AB), (24, g9, P)] W) := by
        rw [e9]
        refine hK.pick [0, κ 12] ?_ rfl ?_
        · simp
          omega
        · intro q hq
          simp at hq
          rcases hq with rfl | rfl
          · rfl
          · exact g2
      clear l2 g2 hK hB K0
      simp only [List.length_cons, List.length_nil, lexAct, pval, List.getElem?_cons_zero, List.getElem?_cons_succ, Option.bind_some, Act.put, List.setIfInBounds_toArray, List.set_cons_zero, List.set_cons_succ]
      rw [← e9]
      clear e9
      go_upto_region 5 with fail
      refine wp_region_lit ?_
      refine wpList_quiet_all (C := KV w [(39, w.heap.size, AB), (24, g9, P)]) k4.out ?_
      repeat (first
        | go_big_quiet_skip
        | (go_big_quiet_want; apply Exists.intro; refine ⟨fun w' hw' => (by first | exact quietAt_part (off := 0) rfl rfl ty16 (hw'.at 0 rfl) HA0.out HAl.out | exact quietAt_part (off := 16) rfl rfl ty16 (hw'.at 0 rfl) HB0.out HBl.out | exact quietAt_part rfl rfl typfx (hw'.at 1 rfl) HP.out.all HP.out.len | exact quietAt_part (off := 1) rfl rfl ty16 (hw'.at 1 rfl) HP.out.addr HXl.out | exact quietAt_cell (j := 17) rfl rfl one_int (hw'.at 1 rfl) HP.out.n | fail), ?_⟩; simp only [Act.put, List.setIfInBounds_toArray, List.set_cons_zero, List.set_cons_succ]; go_big_quiet_on)
        | (go_big_quiet_want; go_big_quiet_op; go_big_quiet_on)
        | (go_big_quiet_want; go_big_quiet_op; apply Exists.intro; refine ⟨fun w' hw' => (by first | (with_reducible refine (CC.out w').mono ?_; rintro e w'' ⟨rfl, hb⟩; exact ⟨rfl, hw'.below hb⟩) | fail), ?_⟩; go_big_quiet_on)
        | (go_big_quiet_want; go_big_quiet_op; apply Exists.intro; refine ⟨fun w' hw' => rfl, ?_⟩; go_big_quiet_on))
      refine wpQuiet_nil ?_
      intro w5 hw5
      go_upto_region 7 with fail
      refine wp_region_lit ?_
      refine wpList_quiet_take (C := KV w [(39, w.heap.size, AB), (24, g9, P)]) 6 hw5 ?_
      simp only [List.take, List.drop]
      repeat (first
        | go_big_quiet_skip
        | (go_big_quiet_want; apply Exists.intro; refine ⟨fun w' hw' => (by first | exact quietAt_part (off := 0) rfl rfl ty16 (hw'.at 0 rfl) HA0.out HAl.out | exact quietAt_part (off := 16) rfl rfl ty16 (hw'.at 0 rfl) HB0.out HBl.out | exact quietAt_part rfl rfl typfx (hw'.at 1 rfl) HP.out.all HP.out.len | exact quietAt_part (off := 1) rfl rfl ty16 (hw'.at 1 rfl) HP.out.addr HXl.out | exact quietAt_cell (j := 17) rfl rfl one_int (hw'.at 1 rfl) HP.out.n | fail), ?_⟩; simp only [Act.put, List.setIfInBounds_toArray, List.set_cons_zero, List.set_cons_succ]; go_big_quiet_on)
        | (go_big_quiet_want; go_big_quiet_op; go_big_quiet_on)
        | (go_big_quiet_want; go_big_quiet_op; apply Exists.intro; refine ⟨fun w' hw' => (by first | (with_reducible refine (CPr.out w' (HT.out.below hw'.bel)).mono ?_; rintro e w'' ⟨rfl, hb⟩; exact ⟨rfl, hw'.below hb⟩) | (with_reducible refine (CPa.out w' (HT.out.below hw'.bel)).mono ?_; rintro e w'' ⟨rfl, hb⟩; exact ⟨rfl, hw'.below hb⟩) | fail), ?_⟩; go_big_quiet_on)
        | (go_big_quiet_want; go_big_quiet_op; apply Exists.intro; refine ⟨fun w' hw' => rfl, ?_⟩; go_big_quiet_on))
      refine wpQuiet_nil ?_
      intro w7 hw7
      have k7 : Hid (KV w [(39, w.heap.size, AB), (24, g9, P), (24, w7.heap.size, P)] ((w7.alloc (.cells (pcells 0 zero16 0).toArray 24)).setCells w7.heap.size 0 P)) := (hw7.new 24 (pcells 0 zero16 0)).store 2 rfl P (by rw [HP.out.len]; rfl)
      have a7 := Lib.hid ((hw7.new 24 (pcells 0 zero16 0)).at 2 rfl)
      clear hw7 hw5 k4
      go_upto_region 8 with (first | refine wpList_store_v rfl 24 (.tmp 11) (.tmp 41) rfl _ rfl typfx a7.out zero18_len P HP.out.len HP.out.one rfl ?_ | fail)
      try simp only [Act.put]
      refine wp_quiet_kv (C := KV w [(39, w.heap.size, AB), (24, g9, P), (24, w7.heap.size, P)]) (by kernel_rfl) (by kernel_rfl) k7.out.drew ?_
      repeat (first
        | go_big_quiet_skip
        | (go_big_quiet_want; apply Exists.intro; refine ⟨fun w' hw' => (by first | exact quietAt_part (off := 0) rfl rfl ty16 (hw'.at 0 rfl) HA0.out HAl.out | exact quietAt_part (off := 16) rfl rfl ty16 (hw'.at 0 rfl) HB0.out HBl.out | exact quietAt_part rfl rfl typfx (hw'.at 1 rfl) HP.out.all HP.out.len | exact quietAt_part (off := 1) rfl rfl ty16 (hw'.at 1 rfl) HP.out.addr HXl.out | exact quietAt_cell (j := 17) rfl rfl one_int (hw'.at 1 rfl) HP.out.n | exact quietAt_part rfl rfl typfx (hw'.at 2 rfl) HP.out.all HP.out.len | exact quietAt_nn rfl rfl rfl guardpfx qP.out | fail), ?_⟩; simp only [Act.put, List.setIfInBounds_toArray, List.set_cons_zero, List.set_cons_succ]; go_big_quiet_on)
        | (go_big_quiet_want; go_big_quiet_op; go_big_quiet_on)
        | (go_big_quiet_want; go_big_quiet_op; apply Exists.intro; refine ⟨fun w' hw' => (by first | (with_reducible refine (CH1.out w').mono ?_; rintro e w'' ⟨rfl, hb⟩; exact ⟨rfl, hw'.below hb⟩) | (with_reducible refine (CH2.out w').mono ?_; rintro e w'' ⟨rfl, hb⟩; exact ⟨rfl, hw'.below hb⟩) | (with_reducible refine (CH3.out w').mono ?_; rintro e w'' ⟨rfl, hb⟩; exact ⟨rfl, hw'.below hb⟩) | (with_reducible refine (CLa.out w').mono ?_; rintro e w'' ⟨rfl, hb⟩; exact ⟨rfl, hw'.below hb⟩) | (with_reducible refine (CAll.out w').mono ?_; rintro e w'' ⟨rfl, hb⟩; exact ⟨rfl, hw'.below hb⟩) | (with_reducible refine (CH4.out w').mono ?_; rintro e w'' ⟨rfl, hb⟩; exact ⟨rfl, hw'.below hb⟩) | (with_reducible refine (CW0.out w').mono ?_; rintro e w'' ⟨rfl, hb⟩; exact ⟨rfl, hw'.below hb⟩) | fail), ?_⟩; go_big_quiet_on)
        | (go_big_quiet_want; go_big_quiet_op; apply Exists.intro; refine ⟨fun w' hw' => rfl, ?_⟩; go_big_quiet_on))
      refine wpQuiet_nil ?_
      intro w8 hw8
      clear k7 a7
      go_upto_region 10 with fail
      refine wp_region_lit ?_
      refine wpList_quiet_take (C := KV w [(39, w.heap.size, AB), (24, g9, P), (24, w7.heap.size, P)]) 6 hw8 ?_
      simp only [List.take, List.drop]
      repeat (first
        | go_big_quiet_skip
        | (go_big_quiet_want; apply Exists.intro; refine ⟨fun w' hw' => (by first | exact quietAt_part (off := 0) rfl rfl ty16 (hw'.at 0 rfl) HA0.out HAl.out | exact quietAt_part (off := 16) rfl rfl ty16 (hw'.at 0 rfl) HB0.out HBl.out | exact quietAt_part rfl rfl typfx (hw'.at 1 rfl) HP.out.all HP.out.len | exact quietAt_part (off := 1) rfl rfl ty16 (hw'.at 1 rfl) HP.out.addr HXl.out | exact quietAt_cell (j := 17) rfl rfl one_int (hw'.at 1 rfl) HP.out.n | exact quietAt_part rfl rfl typfx (hw'.at 2 rfl) HP.out.all HP.out.len | fail), ?_⟩; simp only [Act.put, List.setIfInBounds_toArray, List.set_cons_zero, List.set_cons_succ]; go_big_quiet_on)
        | (go_big_quiet_want; go_big_quiet_op; go_big_quiet_on)
        | (go_big_quiet_want; go_big_quiet_op; apply Exists.intro; refine ⟨fun w' hw' => (by first | (with_reducible refine (CHa.out w').mono ?_; rintro e w'' ⟨rfl, hb⟩; exact ⟨rfl, hw'.below hb⟩) | fail), ?_⟩; go_big_quiet_on)
        | (go_big_quiet_want; go_big_quiet_op; apply Exists.intro; refine ⟨fun w' hw' => rfl, ?_⟩; go_big_quiet_on))
      refine wpQuiet_nil ?_
      intro w10 hw10
      have m0 := Lib.hid (hw10.new2 24 24 (pcells 0 zero16 0) (pcells 0 zero16 0))
      have m1 := Lib.hid (m0.out.store 3 rfl LO (by rw [HLO.out.len]; rfl))
      have k10 : Hid (KV w [(39, w.heap.size, AB), (24, g9, P), (24, w7.heap.size, P), (24, w10.heap.size, LO), (24, w10.heap.size + 1, HI)] ((((w10.alloc (.cells (pcells 0 zero16 0).toArray 24)).alloc (.cells (pcells 0 zero16 0).toArray 24)).setCells w10.heap.size 0 LO).setCells (w10.heap.size + 1) 0 HI)) := m1.out.store 4 rfl HI (by rw [HHI.out.len]; rfl)
      have a10 := Lib.hid (m0.out.at 3 rfl)
      have b10 := Lib.hid (m1.out.at 4 rfl)
      clear hw10 hw8 m0 m1
      obtain ⟨h1, h2, h3⟩ | ⟨h1, h2, h3⟩ | ⟨h1, h2, h3⟩ := hone.out
      all_goals
        subst h1 h2 h3
        clear hone
        go_upto_region 13 with (first | refine wpList_store_v rfl 24 (.tmp 13) (.tmp 93) rfl _ rfl typfx a10.out zero18_len LO HLO.out.len HLO.out.one rfl ?_ | refine wpList_store_v rfl 24 (.tmp 14) (.tmp 94) rfl _ rfl typfx b10.out zero18_len HI HHI.out.len HHI.out.one rfl ?_ | fail)
        try simp only [Act.put]
        clear a10 b10
        refine wp_region_lit ?_
        refine wpList_quiet_all (C := KV w [(39, w.heap.size, AB), (24, g9, P), (24, w7.heap.size, P), (24, w10.heap.size, LO), (24, w10.heap.size + 1, HI)]) k10.out ?_
        repeat (first
          | go_big_quiet_skip
          | (go_big_quiet_want; apply Exists.intro; refine ⟨fun w' hw' => (by first | exact quietAt_part (off := 0) rfl rfl ty16 (hw'.at 0 rfl) HA0.out HAl.out | exact quietAt_part (off := 16) rfl rfl ty16 (hw'.at 0 rfl) HB0.out HBl.out | exact quietAt_part rfl rfl typfx (hw'.at 1 rfl) HP.out.all HP.out.len | exact quietAt_part (off := 1) rfl rfl ty16 (hw'.at 1 rfl) HP.out.addr HXl.out | exact quietAt_cell (j := 17) rfl rfl one_int (hw'.at 1 rfl) HP.out.n | exact quietAt_part rfl rfl typfx (hw'.at 2 rfl) HP.out.all HP.out.len | exact quietAt_part rfl rfl typfx (hw'.at 3 rfl) HLO.out.all HLO.out.len | exact quietAt_part rfl rfl typfx (hw'.at 4 rfl) HHI.out.all HHI.out.len | exact quietAt_part (off := 1) rfl rfl ty16 (hw'.at 3 rfl) HLO.out.addr HXl.out | exact quietAt_part (off := 1) rfl rfl ty16 (hw'.at 4 rfl) HHI.out.addr HYl.out | fail), ?_⟩; simp only [Act.put, List.setIfInBounds_toArray, List.set_cons_zero, List.set_cons_succ]; go_big_quiet_on)
          | (go_big_quiet_want; go_big_quiet_op; go_big_quiet_on)
          | (go_big_quiet_want; go_big_quiet_op; apply Exists.intro; refine ⟨fun w' hw' => (by first | (with_reducible refine (CIn.out w').mono ?_; rintro e w'' ⟨rfl, hb⟩; exact ⟨rfl, hw'.below hb⟩) | fail), ?_⟩; go_big_quiet_on)
          | (go_big_quiet_want; go_big_quiet_op; apply Exists.intro; refine ⟨fun w' hw' => rfl, ?_⟩; go_big_quiet_on))
        refine wpQuiet_nil ?_
        intro w13 hw13
        clear k10
        go_upto_region 14 with fail
        refine wp_quiet_kv (C := KV w [(39, w.heap.size, AB), (24, g9, P), (24, w7.heap.size, P), (24, w10.heap.size, LO), (24, w10.heap.size + 1, HI)]) (by kernel_rfl) (by kernel_rfl) hw13.drew ?_
        repeat (first
          | go_big_quiet_skip
          | (go_big_quiet_want; apply Exists.intro; refine ⟨fun w' hw' => (by first | exact quietAt_part (off := 0) rfl rfl ty16 (hw'.at 0 rfl) HA0.out HAl.out | exact quietAt_part (off := 16) rfl rfl ty16 (hw'.at 0 rfl) HB0.out HBl.out | exact quietAt_part rfl rfl typfx (hw'.at 1 rfl) HP.out.all HP.out.len | exact quietAt_part (off := 1) rfl rfl ty16 (hw'.at 1 rfl) HP.out.addr HXl.out | exact quietAt_cell (j := 17) rfl rfl one_int (hw'.at 1 rfl) HP.out.n | exact quietAt_part rfl rfl typfx (hw'.at 2 rfl) HP.out.all HP.out.len | exact quietAt_part rfl rfl typfx (hw'.at 3 rfl) HLO.out.all HLO.out.len | exact quietAt_part rfl rfl typfx (hw'.at 4 rfl) HHI.out.all HHI.out.len | exact quietAt_part (off := 1) rfl rfl ty16 (hw'.at 3 rfl) HLO.out.addr HXl.out | exact quietAt_part (off := 1) rfl rfl ty16 (hw'.at 4 rfl) HHI.out.addr HYl.out | exact quietAt_eql rfl rfl rfl guard16 q5.out | exact quietAt_eql rfl rfl rfl guard16 q6.out | fail), ?_⟩; simp only [Act.put, List.setIfInBounds_toArray, List.set_cons_zero, List.set_cons_succ]; go_big_quiet_on)
          | (go_big_quiet_want; go_big_quiet_op; go_big_quiet_on)
          | (go_big_quiet_want; go_big_quiet_op; apply Exists.intro; refine ⟨fun w' hw' => (by first | (with_reducible refine (CL.out w' (HT.out.below hw'.bel)).mono ?_; rintro e w'' ⟨rfl, hb⟩; exact ⟨rfl, hw'.below hb⟩) | (with_reducible refine (CX.out w').mono ?_; rintro e w'' ⟨rfl, hb⟩; exact ⟨rfl, hw'.below hb⟩) | (with_reducible refine (CY.out w').mono ?_; rintro e w'' ⟨rfl, hb⟩; exact ⟨rfl, hw'.below hb⟩) | (with_reducible refine (CW1.out w').mono ?_; rintro e w'' ⟨rfl, hb⟩; exact ⟨rfl, hw'.below hb⟩) | (with_reducible refine (CW2.out w').mono ?_; rintro e w'' ⟨rfl, hb⟩; exact ⟨rfl, hw'.below hb⟩) | (with_reducible refine (CMt.out w').mono ?_; rintro e w'' ⟨rfl, hb⟩; exact ⟨rfl, hw'.below hb⟩) | (with_reducible refine (CLa.out w').mono ?_; rintro e w'' ⟨rfl, hb⟩; exact ⟨rfl, hw'.below hb⟩) | (with_reducible refine (CLb.out w').mono ?_; rintro e w'' ⟨rfl, hb⟩; exact ⟨rfl, hw'.below hb⟩) | fail), ?_⟩; go_big_quiet_on)
          | (go_big_quiet_want; go_big_quiet_op; apply Exists.intro; refine ⟨fun w' hw' => rfl, ?_⟩; go_big_quiet_on))
        refine wpQuiet_nil ?_
        intro w14 hw14
        have BB := Lib.hid hw14.bel
        clear hw13 hw14
        go_wp2_with fail
        go_ret
        exact ⟨rfl, BB.out⟩
  · obtain rfl : m = 32 := by omega
    have hb : phalfB 4 X ((32 : Nat) : Int) = false := by
      unfold phalfB
      rw [hP.check, hP.sz]
      simp
    obtain ⟨LO, hLO⟩ : ∃ P, P = pcells 0 zero16 0 := ⟨_, rfl⟩
    have HLO := Lib.hid (pc_parts 0 0 (X := zero16) rfl)
    have CHa : Hid (∀ w, Calls Tryd.prog 8 #[.agg (pcells 4 X ((32 : Nat) : Int)).toArray] w fun e w' => e = .returned (.tuple #[.agg LO.toArray, .agg LO.toArray, .bool false]) ∧ Below w.heap.size w w') := fun w => (phalves_any 4 X ((32 : Nat) : Int) w hX).mono fun e w' ⟨h1, h2⟩ => ⟨by rw [h1]; unfold plow phigh; rw [hb, hLO]; rfl, h2⟩
    rw [← hLO] at HLO
    have eLA : LA = X := by rw [hLA]; exact fillB_none hX _
    have q6 : Hid (∀ w, (Op.equalIn 10000 22 (.agg (bcells LA).toArray) (.agg (bcells X).toArray)).run Tryd.prog w = .ok true w) := fun w => by
      have h := same_nat Tryd.underlying22 LA X aLA.len hX.len w
      rw [decide_eq_true eLA] at h
      exact h
    obtain ⟨P, hPe⟩ : ∃ P, P = pcells 4 X ((32 : Nat) : Int) := ⟨_, rfl⟩
    rw [← hPe] at HP CM CC CPr CPa CH1 CH2 CLa CH3 CW0 qP CIn CHa
    have HHI := Lib.hid HLO.out
    have HIe : Hid (LO = LO) := rfl
    have K0 : Hid (KV w [(39, w.heap.size, AB)] (w.alloc (.cells AB.toArray 39))) := KV.one w _ _
    clear hPe hLO hb eLA hlt hLA aLA hA4 hz hXe hX hP hA hC CIn
    go_enter Tryd.func5, Tryd.ntmps5
    go_upto_region 4 with fail
    refine wp_region_par (w := w) [.quiet (.int .i64 4), .quiet (.pointer (some ⟨w.heap.size, 0, none⟩)), .quiet (.agg (bcells A).toArray), .quiet (.int .u8 n), .quiet (.int .i64 n), .quiet (.int .i64 32), .quiet (.int .i64 33), .quiet (.int .i64 (32 : Nat)), .quiet (.tuple #[.agg P.toArray, .int .i64 0]), .quiet (.tuple #[.agg P.toArray, .int .i64 0]), .quiet (.agg P.toArray), .quiet (.int .i64 0), .alloc 24 (pcells 0 zero16 0) (some (13, P)), .store 12, .quiet (.int .i64 0)] [(39, w.heap.size, AB)] (by kernel_rfl) (by kernel_rfl) K0.out.drew (fun b => ?_) ?_
    · clear K0
      refine pWalk_quiet rfl (fun E W hw' => quietAt_run rfl) ?_
      simp only [Act.put, List.setIfInBounds_toArray, List.set_cons_zero, List.set_cons_succ]
      refine pWalk_quiet rfl (fun E W hw' => quietAt_run (by simp [go_sem])) ?_
      simp only [Act.put, List.setIfInBounds_toArray, List.set_cons_zero, List.set_cons_succ]
      refine pWalk_quiet rfl (fun E W hw' => quietAt_part (off := 0) rfl rfl ty16 (hw'.at 0 rfl) HA0.out HAl.out) ?_
      simp only [Act.put, List.setIfInBounds_toArray, List.set_cons_zero, List.set_cons_succ]
      refine pWalk_quiet rfl (fun E W hw' => quietAt_run rfl) ?_
      simp only [Act.put, List.setIfInBounds_toArray, List.set_cons_zero, List.set_cons_succ]
      refine pWalk_quiet rfl (fun E W hw' => quietAt_run (by simp [go_sem, wn2])) ?_
      simp only [Act.put, List.setIfInBounds_toArray, List.set_cons_zero, List.set_cons_succ]
      refine pWalk_quiet rfl (fun E W hw' => quietAt_run rfl) ?_
      simp only [Act.put, List.setIfInBounds_toArray, List.set_cons_zero, List.set_cons_succ]
      refine pWalk_quiet rfl (fun E W hw' => quietAt_run (by simp [go_sem, wM])) ?_
      simp only [Act.put, List.setIfInBounds_toArray, List.set_cons_zero, List.set_cons_succ]
      refine pWalk_quiet rfl (fun E W hw' => quietAt_run (by simp [go_sem, wm3])) ?_
      simp only [Act.put, List.setIfInBounds_toArray, List.set_cons_zero, List.set_cons_succ]
      refine pWalk_quiet rfl (fun E W hw' => quietAt_call (f := 6) (args := #[.int .i64 4, .agg (bcells A).toArray, .int .i64 (32 : Nat)]) (by simp [go_sem]) ((CM.out W).mono fun e w'' h => ⟨h.1, hw'.below h.2⟩)) ?_
      simp only [Act.put, List.setIfInBounds_toArray, List.set_cons_zero, List.set_cons_succ]
      refine pWalk_quiet rfl (fun E W hw' => quietAt_run rfl) ?_
      simp only [Act.put, List.setIfInBounds_toArray, List.set_cons_zero, List.set_cons_succ]
      refine pWalk_quiet rfl (fun E W hw' => quietAt_run (by simp [go_sem])) ?_
      simp only [Act.put, List.setIfInBounds_toArray, List.set_cons_zero, List.set_cons_succ]
      refine pWalk_quiet rfl (fun E W hw' => quietAt_run (by simp [go_sem])) ?_
      simp only [Act.put, List.setIfInBounds_toArray, List.set_cons_zero, List.set_cons_succ]
      refine pWalk_var rfl rfl allocpfx ?_
      simp only [Act.put, List.setIfInBounds_toArray, List.set_cons_zero, List.set_cons_succ]
      refine pWalk_put rfl rfl rfl rfl rfl typfx zero18_len HP.out.len HP.out.one ?_
      simp only [Act.put]
      refine pWalk_quiet rfl (fun E W hw' => quietAt_run rfl) ?_
      trivial
    · intro b κ E W hK hB
      obtain ⟨l2, g2⟩ := hB.at_ 12 _ _ _ rfl rfl
      simp only [List.length_cons, List.length_nil] at l2
      obtain ⟨g9, e9⟩ : ∃ x, x = b 12 := ⟨_, rfl⟩
      have k4 : Hid (KV w [(39, w.heap.size, AB), (24, g9, P)] W) := by
        rw [e9]
        refine hK.pick [0, κ 12] ?_ rfl ?_
        · simp
          omega
        · intro q hq
          simp at hq
          rcases hq with rfl | rfl
          · rfl
          · exact g2
      clear l2 g2 hK hB K0
      simp only [List.length_cons, List.length_nil, lexAct, pval, List.getElem?_cons_zero, List.getElem?_cons_succ, Option.bind_some, Act.put, List.setIfInBounds_toArray, List.set_cons_zero, List.set_cons_succ]
      rw [← e9]
      clear e9
      go_upto_region 5 with fail
      refine wp_region_lit ?_
      refine wpList_quiet_all (C := KV w [(39, w.heap.size, AB), (24, g9, P)]) k4.out ?_
      repeat (first
        | go_big_quiet_skip
        | (go_big_quiet_want; apply Exists.intro; refine ⟨fun w' hw' => (by first | exact quietAt_part (off := 0) rfl rfl ty16 (hw'.at 0 rfl) HA0.out HAl.out | exact quietAt_part (off := 16) rfl rfl ty16 (hw'.at 0 rfl) HB0.out HBl.out | exact quietAt_part rfl rfl typfx (hw'.at 1 rfl) HP.out.all HP.out.len | exact quietAt_part (off := 1) rfl rfl ty16 (hw'.at 1 rfl) HP.out.addr HXl.out | exact quietAt_cell (j := 17) rfl rfl one_int (hw'.at 1 rfl) HP.out.n | fail), ?_⟩; simp only [Act.put, List.setIfInBounds_toArray, List.set_cons_zero, List.set_cons_succ]; go_big_quiet_on)
        | (go_big_quiet_want; go_big_quiet_op; go_big_quiet_on)
        | (go_big_quiet_want; go_big_quiet_op; apply Exists.intro; refine ⟨fun w' hw' => (by first | (with_reducible refine (CC.out w').mono ?_; rintro e w'' ⟨rfl, hb⟩; exact ⟨rfl, hw'.below hb⟩) | fail), ?_⟩; go_big_quiet_on)
        | (go_big_quiet_want; go_big_quiet_op; apply Exists.intro; refine ⟨fun w' hw' => rfl, ?_⟩; go_big_quiet_on))
      refine wpQuiet_nil ?_
      intro w5 hw5
      go_upto_region 7 with fail
      refine wp_region_lit ?_
      refine wpList_quiet_take (C := KV w [(39, w.heap.size, AB), (24, g9, P)]) 6 hw5 ?_
      simp only [List.take, List.drop]
      repeat (first
        | go_big_quiet_skip
        | (go_big_quiet_want; apply Exists.intro; refine ⟨fun w' hw' => (by first | exact quietAt_part (off := 0) rfl rfl ty16 (hw'.at 0 rfl) HA0.out HAl.out | exact quietAt_part (off := 16) rfl rfl ty16 (hw'.at 0 rfl) HB0.out HBl.out | exact quietAt_part rfl rfl typfx (hw'.at 1 rfl) HP.out.all HP.out.len | exact quietAt_part (off := 1) rfl rfl ty16 (hw'.at 1 rfl) HP.out.addr HXl.out | exact quietAt_cell (j := 17) rfl rfl one_int (hw'.at 1 rfl) HP.out.n | fail), ?_⟩; simp only [Act.put, List.setIfInBounds_toArray, List.set_cons_zero, List.set_cons_succ]; go_big_quiet_on)
        | (go_big_quiet_want; go_big_quiet_op; go_big_quiet_on)
        | (go_big_quiet_want; go_big_quiet_op; apply Exists.intro; refine ⟨fun w' hw' => (by first | (with_reducible refine (CPr.out w' (HT.out.below hw'.bel)).mono ?_; rintro e w'' ⟨rfl, hb⟩; exact ⟨rfl, hw'.below hb⟩) | (with_reducible refine (CPa.out w' (HT.out.below hw'.bel)).mono ?_; rintro e w'' ⟨rfl, hb⟩; exact ⟨rfl, hw'.below hb⟩) | fail), ?_⟩; go_big_quiet_on)
        | (go_big_quiet_want; go_big_quiet_op; apply Exists.intro; refine ⟨fun w' hw' => rfl, ?_⟩; go_big_quiet_on))
      refine wpQuiet_nil ?_
      intro w7 hw7
      have k7 : Hid (KV w [(39, w.heap.size, AB), (24, g9, P), (24, w7.heap.size, P)] ((w7.alloc (.cells (pcells 0 zero16 0).toArray 24)).setCells w7.heap.size 0 P)) := (hw7.new 24 (pcells 0 zero16 0)).store 2 rfl P (by rw [HP.out.len]; rfl)
      have a7 := Lib.hid ((hw7.new 24 (pcells 0 zero16 0)).at 2 rfl)
      clear hw7 hw5 k4
      go_upto_region 8 with (first | refine wpList_store_v rfl 24 (.tmp 11) (.tmp 41) rfl _ rfl typfx a7.out zero18_len P HP.out.len HP.out.one rfl ?_ | fail)
      try simp only [Act.put]
      refine wp_quiet_kv (C := KV w [(39, w.heap.size, AB), (24, g9, P), (24, w7.heap.size, P)]) (by kernel_rfl) (by kernel_rfl) k7.out.drew ?_
      repeat (first
        | go_big_quiet_skip
        | (go_big_quiet_want; apply Exists.intro; refine ⟨fun w' hw' => (by first | exact quietAt_part (off := 0) rfl rfl ty16 (hw'.at 0 rfl) HA0.out HAl.out | exact quietAt_part (off := 16) rfl rfl ty16 (hw'.at 0 rfl) HB0.out HBl.out | exact quietAt_part rfl rfl typfx (hw'.at 1 rfl) HP.out.all HP.out.len | exact quietAt_part (off := 1) rfl rfl ty16 (hw'.at 1 rfl) HP.out.addr HXl.out | exact quietAt_cell (j := 17) rfl rfl one_int (hw'.at 1 rfl) HP.out.n | exact quietAt_part rfl rfl typfx (hw'.at 2 rfl) HP.out.all HP.out.len | exact quietAt_nn rfl rfl rfl guardpfx qP.out | fail), ?_⟩; simp only [Act.put, List.setIfInBounds_toArray, List.set_cons_zero, List.set_cons_succ]; go_big_quiet_on)
        | (go_big_quiet_want; go_big_quiet_op; go_big_quiet_on)
        | (go_big_quiet_want; go_big_quiet_op; apply Exists.intro; refine ⟨fun w' hw' => (by first | (with_reducible refine (CH1.out w').mono ?_; rintro e w'' ⟨rfl, hb⟩; exact ⟨rfl, hw'.below hb⟩) | (with_reducible refine (CH2.out w').mono ?_; rintro e w'' ⟨rfl, hb⟩; exact ⟨rfl, hw'.below hb⟩) | (with_reducible refine (CH3.out w').mono ?_; rintro e w'' ⟨rfl, hb⟩; exact ⟨rfl, hw'.below hb⟩) | (with_reducible refine (CLa.out w').mono ?_; rintro e w'' ⟨rfl, hb⟩; exact ⟨rfl, hw'.below hb⟩) | (with_reducible refine (CAll.out w').mono ?_; rintro e w'' ⟨rfl, hb⟩; exact ⟨rfl, hw'.below hb⟩) | (with_reducible refine (CH4.out w').mono ?_; rintro e w'' ⟨rfl, hb⟩; exact ⟨rfl, hw'.below hb⟩) | (with_reducible refine (CW0.out w').mono ?_; rintro e w'' ⟨rfl, hb⟩; exact ⟨rfl, hw'.below hb⟩) | fail), ?_⟩; go_big_quiet_on)
        | (go_big_quiet_want; go_big_quiet_op; apply Exists.intro; refine ⟨fun w' hw' => rfl, ?_⟩; go_big_quiet_on))
      refine wpQuiet_nil ?_
      intro w8 hw8
      clear k7 a7
      go_upto_region 10 with fail
      refine wp_region_lit ?_
      refine wpList_quiet_take (C := KV w [(39, w.heap.size, AB), (24, g9, P), (24, w7.heap.size, P)]) 6 hw8 ?_
      simp only [List.take, List.drop]
      repeat (first
        | go_big_quiet_skip
        | (go_big_quiet_want; apply Exists.intro; refine ⟨fun w' hw' => (by first | exact quietAt_part (off := 0) rfl rfl ty16 (hw'.at 0 rfl) HA0.out HAl.out | exact quietAt_part (off := 16) rfl rfl ty16 (hw'.at 0 rfl) HB0.out HBl.out | exact quietAt_part rfl rfl typfx (hw'.at 1 rfl) HP.out.all HP.out.len | exact quietAt_part (off := 1) rfl rfl ty16 (hw'.at 1 rfl) HP.out.addr HXl.out | exact quietAt_cell (j := 17) rfl rfl one_int (hw'.at 1 rfl) HP.out.n | exact quietAt_part rfl rfl typfx (hw'.at 2 rfl) HP.out.all HP.out.len | fail), ?_⟩; simp only [Act.put, List.setIfInBounds_toArray, List.set_cons_zero, List.set_cons_succ]; go_big_quiet_on)
        | (go_big_quiet_want; go_big_quiet_op; go_big_quiet_on)
        | (go_big_quiet_want; go_big_quiet_op; apply Exists.intro; refine ⟨fun w' hw' => (by first | (with_reducible refine (CHa.out w').mono ?_; rintro e w'' ⟨rfl, hb⟩; exact ⟨rfl, hw'.below hb⟩) | fail), ?_⟩; go_big_quiet_on)
        | (go_big_quiet_want; go_big_quiet_op; apply Exists.intro; refine ⟨fun w' hw' => rfl, ?_⟩; go_big_quiet_on))
      refine wpQuiet_nil ?_
      intro w10 hw10
      have m0 := Lib.hid (hw10.new2 24 24 (pcells 0 zero16 0) (pcells 0 zero16 0))
      have m1 := Lib.hid (m0.out.store 3 rfl LO (by rw [HLO.out.len]; rfl))
      have k10 : Hid (KV w [(39, w.heap.size, AB), (24, g9, P), (24, w7.heap.size, P), (24, w10.heap.size, LO), (24, w10.heap.size + 1, LO)] ((((w10.alloc (.cells (pcells 0 zero16 0).toArray 24)).alloc (.cells (pcells 0 zero16 0).toArray 24)).setCells w10.heap.size 0 LO).setCells (w10.heap.size + 1) 0 LO)) := m1.out.store 4 rfl LO (by rw [HHI.out.len]; rfl)
      have a10 := Lib.hid (m0.out.at 3 rfl)
      have b10 := Lib.hid (m1.out.at 4 rfl)
      clear hw10 hw8 m0 m1
      go_upto_region 12 with (first | refine wpList_store_v rfl 24 (.tmp 13) (.tmp 93) rfl _ rfl typfx a10.out zero18_len LO HLO.out.len HLO.out.one rfl ?_ | refine wpList_store_v rfl 24 (.tmp 14) (.tmp 94) rfl _ rfl typfx b10.out zero18_len LO HHI.out.len HHI.out.one rfl ?_ | fail)
      try simp only [Act.put]
      clear a10 b10
      refine wp_quiet_kv (C := KV w [(39, w.heap.size, AB), (24, g9, P), (24, w7.heap.size, P), (24, w10.heap.size, LO), (24, w10.heap.size + 1, LO)]) (by kernel_rfl) (by kernel_rfl) k10.out.drew ?_
      repeat (first
        | go_big_quiet_skip
        | (go_big_quiet_want; apply Exists.intro; refine ⟨fun w' hw' => (by first | exact quietAt_part (off := 0) rfl rfl ty16 (hw'.at 0 rfl) HA0.out HAl.out | exact quietAt_part (off := 16) rfl rfl ty16 (hw'.at 0 rfl) HB0.out HBl.out | exact quietAt_part rfl rfl typfx (hw'.at 1 rfl) HP.out.all HP.out.len | exact quietAt_part (off := 1) rfl rfl ty16 (hw'.at 1 rfl) HP.out.addr HXl.out | exact quietAt_cell (j := 17) rfl rfl one_int (hw'.at 1 rfl) HP.out.n | exact quietAt_part rfl rfl typfx (hw'.at 2 rfl) HP.out.all HP.out.len | exact quietAt_eql rfl rfl rfl guard16 q6.out | fail), ?_⟩; simp only [Act.put, List.setIfInBounds_toArray, List.set_cons_zero, List.set_cons_succ]; go_big_quiet_on)
        | (go_big_quiet_want; go_big_quiet_op; go_big_quiet_on)
        | (go_big_quiet_want; go_big_quiet_op; apply Exists.intro; refine ⟨fun w' hw' => (by first | (with_reducible refine (CL.out w' (HT.out.below hw'.bel)).mono ?_; rintro e w'' ⟨rfl, hb⟩; exact ⟨rfl, hw'.below hb⟩) | (with_reducible refine (CLa.out w').mono ?_; rintro e w'' ⟨rfl, hb⟩; exact ⟨rfl, hw'.below hb⟩) | fail), ?_⟩; go_big_quiet_on)
        | (go_big_quiet_want; go_big_quiet_op; apply Exists.intro; refine ⟨fun w' hw' => rfl, ?_⟩; go_big_quiet_on))
      refine wpQuiet_nil ?_
      intro w14 hw14
      have BB := Lib.hid hw14.bel
      clear hw14 k10
      go_wp2_with fail
      go_ret
      exact ⟨rfl, BB.out⟩
end Go.Proofs.YtlkilkhnblmjaaaDoor
