/-
  The contract of the document's Halves of layer 7.
-/
import Derived.Test.YtlkilkhnblmjaaaDoorRPre6
namespace Go.Proofs.YtlkilkhnblmjaaaDoor
open Go.RowKit
set_option linter.unusedVariables false

theorem allocpfx : ∀ W, (Instr.alloc 24 true (.tuple #[])).run Tryd.prog W = .ok (.pointer (some ⟨W.heap.size, 0, none⟩)) (W.alloc (.cells (pcells 0 zero16 0).toArray 24)) := fun W => by
  simp [go_sem]
  rfl
theorem pcells_setn {V : Int} {X : List Nat} {n n' : Int} (hX : X.length = 16) : (pcells V X n).set 17 (.int .i64 n') = pcells V X n' := by
  obtain ⟨a, b, c, d, e, f, g, h, i, j, k, l, m, n0, o, p, rfl⟩ := split16 hX
  rfl
theorem pcells_setx {V : Int} {X Y : List Nat} {n : Int} (hX : X.length = 16) (hY : Y.length = 16) : (pcells V X n).take 1 ++ bcells Y ++ (pcells V X n).drop (1 + (bcells Y).length) = pcells V Y n := by
  obtain ⟨a, b, c, d, e, f, g, h, i, j, k, l, m, n0, o, p, rfl⟩ := split16 hX
  obtain ⟨a, b, c, d, e, f, g, h, i, j, k, l, m, n0, o, p, rfl⟩ := split16 hY
  rfl
/-- The store of a part of a variable. -/
theorem wpList_store_at {ops : Array Oper} {rest : List Oper} {op : Oper} {a : Act} {w : World} {Q : Exit → Act → World → Prop} (hgd : op.guard = none) (t : TypeId) (x y : Operand) (ho : op.op = .store t x y)
    (g off : Nat) (hx : a.eval x = .pointer (some ⟨g, off, none⟩)) {n : Nat} {t' : TypeId} {cs : List Value} (ht : RowTy t n) (h : ArrV t' w g cs) (hl : off + n ≤ cs.length) (vs : List Value) (hv : vs.length = n) (h1 : ∀ v ∈ vs, v.oneCell' = true) (hy : a.eval y = .agg vs.toArray)
    (hk : wpList Tryd.prog ops Q rest (a.put op.dst undef) (w.setCells g off vs)) : wpList Tryd.prog ops Q (op :: rest) a w :=
  wpList_store_mid hgd t x y ho g off vs.toArray hx hy (by
    intro j hj
    rw [List.size_toArray, hv] at hj
    refine ⟨?_, h.frozen (off + j)⟩
    rw [h.get (off + j), List.getElem?_eq_getElem (by omega)]
    rfl) (by rw [List.size_toArray, hv]; exact ht.size) (all_oneCell_toArray h1) hk
set_option maxRecDepth 10000 in
set_option maxHeartbeats 6400000 in
theorem rhalves_any (V : Int) (X : List Nat) (n : Int) (w : World) (hX : Adr X) : Calls Tryd.prog 9 #[.agg (pcells V X n).toArray] w fun e w' => e = .returned (.tuple #[.agg (plow V X n).toArray, .agg (phigh V X n).toArray, .bool (phalfB V X n)]) ∧ Below w.heap.size w w' := by
  have HP := Lib.hid (pc_parts V n hX.len)
  have hs16 : (bcells X).length = 16 := by rw [bcells_length, hX.len]
  have CC := Lib.hid (fun w => rcheck_any V X n w hX)
  obtain ⟨P, hP⟩ : ∃ P, P = pcells V X n := ⟨_, rfl⟩
  have HPe : Hid (P = pcells V X n) := hP
  rw [← hP] at HP CC ⊢
  have K0 : Hid (KV w [(24, w.heap.size, P), (24, w.heap.size + 1, pcells 0 zero16 0), (24, w.heap.size + 2, pcells 0 zero16 0)] (((w.alloc (.cells P.toArray 24)).alloc (.cells (pcells 0 zero16 0).toArray 24)).alloc (.cells (pcells 0 zero16 0).toArray 24))) := KV.three w _ _ _ _ _ _
  clear hP
  by_cases hc : pcheck V X n = 0
  · have hf := pcheck_len hc
    have hV : V = 4 ∨ V = 6 := by
      rcases pfits_cases V n with ⟨_, h2⟩ | ⟨_, _, h2⟩ | ⟨h1, _⟩
      · rw [hf] at h2; cases h2
      · rw [hf] at h2; cases h2
      · exact h1
    have CS : Hid (∀ w, Calls Tryd.prog 25 #[.int .i64 V] w fun e w' => e = .returned (.int .i64 (psz V)) ∧ Below w.heap.size w w') := fun w => (rmost_any V w).mono fun e w' ⟨h1, h2⟩ => ⟨by rw [h1, rmost_ok hV], h2⟩
    by_cases hn : n = psz V
    · have hnb : (n == psz V) = true := by simpa using hn
      have hb : phalfB V X n = false := by unfold phalfB; simp [hn]
      have HF : Hid (plow V X n = pcells 0 zero16 0 ∧ phigh V X n = pcells 0 zero16 0) := by show _ ∧ _; unfold plow phigh; rw [hb]; exact ⟨rfl, rfl⟩
      rw [HF.out.1, HF.out.2, hb]
      have HF : Hid (True) := trivial
      rw [hc] at CC
      clear hc hX hn hb hf hV
      generalize psz V = z at *
      go_enter Tryd.func9, Tryd.ntmps9
      go_upto_region 1 with fail
      refine wp_quiet_kv (C := KV w [(24, w.heap.size, P), (24, w.heap.size + 1, pcells 0 zero16 0), (24, w.heap.size + 2, pcells 0 zero16 0)]) (by kernel_rfl) (by kernel_rfl) K0.out.drew ?_
      repeat (first
        | go_big_quiet_skip
        | (go_big_quiet_want; apply Exists.intro; refine ⟨fun w' hw' => (by first | exact quietAt_part rfl rfl typfx (hw'.at 0 rfl) HP.out.all HP.out.len | exact quietAt_cell rfl rfl one_int (hw'.at 0 rfl) HP.out.v | exact quietAt_cell rfl rfl one_int (hw'.at 0 rfl) HP.out.n | exact quietAt_part rfl rfl ty16 (hw'.at 0 rfl) HP.out.addr hs16 | fail), ?_⟩; simp only [Act.put, List.setIfInBounds_toArray, List.set_cons_zero, List.set_cons_succ]; go_big_quiet_on)
        | (go_big_quiet_want; go_big_quiet_op; go_big_quiet_on)
        | (go_big_quiet_want; go_big_quiet_op; apply Exists.intro; refine ⟨fun w' hw' => (by first | (with_reducible refine (CC.out w').mono ?_; rintro e w'' ⟨rfl, hb⟩; exact ⟨rfl, hw'.below hb⟩) | (with_reducible refine (CS.out w').mono ?_; rintro e w'' ⟨rfl, hb⟩; exact ⟨rfl, hw'.below hb⟩) | fail), ?_⟩; go_big_quiet_on)
        | (go_big_quiet_want; go_big_quiet_op; apply Exists.intro; refine ⟨fun w' hw' => rfl, ?_⟩; go_big_quiet_on))
      refine wpQuiet_nil ?_
      intro w1 hw1
      obtain ⟨ZZ, hZZ⟩ : ∃ Z, Z = pcells 0 zero16 0 := ⟨_, rfl⟩
      have HZ : Hid (Value.agg #[.int .i64 0, .int .u8 0, .int .u8 0, .int .u8 0, .int .u8 0, .int .u8 0, .int .u8 0, .int .u8 0, .int .u8 0, .int .u8 0, .int .u8 0, .int .u8 0, .int .u8 0, .int .u8 0, .int .u8 0, .int .u8 0, .int .u8 0, .int .i64 0] = .agg ZZ.toArray) := by show _ = _; rw [hZZ]; rfl
      have HZl : Hid (ZZ.length = 18) := by show _ = _; rw [hZZ]; rfl
      have HZo : Hid (∀ v ∈ ZZ, v.oneCell' = true) := by show ∀ v ∈ ZZ, v.oneCell' = true; rw [hZZ]; exact zero18_one
      have h1 := Lib.hid (hw1.store 1 rfl ZZ (by rw [HZl.out]; rfl))
      have h2 := Lib.hid (h1.out.store 2 rfl ZZ (by rw [HZl.out]; rfl))
      have a1 := Lib.hid (hw1.at 1 rfl)
      have a2 := Lib.hid (h1.out.at 2 rfl)
      clear hw1 K0
      go_wp2_with (first | refine wpList_store_v rfl 24 (.tmp 2) (.tmp 18) rfl _ rfl typfx a1.out zero18_len ZZ HZl.out HZo.out HZ.out ?_ | refine wpList_store_v rfl 24 (.tmp 3) (.tmp 19) rfl _ rfl typfx a2.out zero18_len ZZ HZl.out HZo.out HZ.out ?_ | fail)
      rw [← hZZ]
      exact bodyPost_ret (v := .tuple #[.agg ZZ.toArray, .agg ZZ.toArray, .bool false]) (res_two Tryd.results9 rfl rfl ((h2.out.at 1 rfl).loadVar typfx HZl.out) ((h2.out.at 2 rfl).loadVar typfx HZl.out) rfl) rfl ⟨rfl, h2.out.bel⟩
    · have hnb : (n == psz V) = false := by simpa using hn
      have hb : phalfB V X n = true := by unfold phalfB; simp [hn, hc]
      obtain ⟨hn0, hn1⟩ := pfits_ok hf
      have hn2 := pfits_le hf
      have hn3 := psz_le V
      obtain ⟨m, hm⟩ := Int.eq_ofNat_of_zero_le hn0
      have hm8 : m < 128 := by omega
      have hkeep : keepB X m = X := by
        have h1 := hc
        unfold pcheck at h1
        rw [if_neg (by rw [hf]; decide), hm, Int.toNat_natCast] at h1
        by_cases e : keepB X m = X
        · exact e
        · rw [if_neg e] at h1; cases h1
      have HF : Hid (plow V X n = pcells V X ((m + 1 : Nat) : Int) ∧ phigh V X n = pcells V (setB X m) ((m + 1 : Nat) : Int)) := by show _ ∧ _; unfold plow phigh; rw [hb, hm, ← highB_is hX hkeep hm8]; exact ⟨rfl, rfl⟩
      rw [HF.out.1, HF.out.2, hb]
      rw [hc] at CC
      have CT := Lib.hid (fun w => rset_any X m w hX hm8)
      have k1 := (half_arith hm8).1
      have HX := Lib.hid (And.intro hX hm8)
      have HSl := Lib.hid (setB_len (i := m) hX.len)
      have hsY : (bcells (setB X m)).length = 16 := by rw [bcells_length]; exact HSl.out
      have HR := Lib.hid (pc_parts V ((m + 1 : Nat) : Int) hX.len)
      have HQ := Lib.hid (pc_parts V ((m + 1 : Nat) : Int) HSl.out)
      have hm2 : n = ((m : Nat) : Int) := hm
      subst hm2
      clear HF hn hn0 hn1 hn2 hn3 hm hc hb hX hkeep hf hV
      generalize psz V = z at *
      obtain ⟨Y, hY⟩ : ∃ Y, Y = setB X m := ⟨_, rfl⟩
      rw [← hY] at CT HSl hsY HQ ⊢
      clear hY
      obtain ⟨PL, hPL⟩ : ∃ PL, PL = pcells V X ((m + 1 : Nat) : Int) := ⟨_, rfl⟩
      obtain ⟨PH, hPH⟩ : ∃ PH, PH = pcells V Y ((m + 1 : Nat) : Int) := ⟨_, rfl⟩
      have HPL : Hid (P.set 17 (.int .i64 ((m + 1 : Nat) : Int)) = PL) := by show _ = _; rw [hPL, HPe.out]; exact pcells_setn HX.out.1.len
      have HPH : Hid (PL.take 1 ++ bcells Y ++ PL.drop (1 + (bcells Y).length) = PH) := by show _ = _; rw [hPL, hPH]; exact pcells_setx HX.out.1.len HSl.out
      rw [← hPL] at HR ⊢
      rw [← hPH] at HQ ⊢
      clear hPL hPH HPe
      go_enter Tryd.func9, Tryd.ntmps9
      go_upto_region 1 with fail
      refine wp_quiet_kv (C := KV w [(24, w.heap.size, P), (24, w.heap.size + 1, pcells 0 zero16 0), (24, w.heap.size + 2, pcells 0 zero16 0)]) (by kernel_rfl) (by kernel_rfl) K0.out.drew ?_
      repeat (first
        | go_big_quiet_skip
        | (go_big_quiet_want; apply Exists.intro; refine ⟨fun w' hw' => (by first | exact quietAt_part rfl rfl typfx (hw'.at 0 rfl) HP.out.all HP.out.len | exact quietAt_cell rfl rfl one_int (hw'.at 0 rfl) HP.out.v | exact quietAt_cell rfl rfl one_int (hw'.at 0 rfl) HP.out.n | exact quietAt_part rfl rfl ty16 (hw'.at 0 rfl) HP.out.addr hs16 | fail), ?_⟩; simp only [Act.put, List.setIfInBounds_toArray, List.set_cons_zero, List.set_cons_succ]; go_big_quiet_on)
        | (go_big_quiet_want; go_big_quiet_op; go_big_quiet_on)
        | (go_big_quiet_want; go_big_quiet_op; apply Exists.intro; refine ⟨fun w' hw' => (by first | (with_reducible refine (CC.out w').mono ?_; rintro e w'' ⟨rfl, hb⟩; exact ⟨rfl, hw'.below hb⟩) | (with_reducible refine (CS.out w').mono ?_; rintro e w'' ⟨rfl, hb⟩; exact ⟨rfl, hw'.below hb⟩) | fail), ?_⟩; go_big_quiet_on)
        | (go_big_quiet_want; go_big_quiet_op; apply Exists.intro; refine ⟨fun w' hw' => rfl, ?_⟩; go_big_quiet_on))
      refine wpQuiet_nil ?_
      intro w1 hw1
      go_upto_region 3 with fail
      refine wp_region_par (w := w) [.quiet (.agg P.toArray), .quiet (.agg P.toArray), .alloc 24 (pcells 0 zero16 0) (some (4, P)), .alloc 24 (pcells 0 zero16 0) (some (5, P)), .store 2, .store 3] [(24, w.heap.size, P), (24, w.heap.size + 1, pcells 0 zero16 0), (24, w.heap.size + 2, pcells 0 zero16 0)] (by kernel_rfl) (by kernel_rfl) hw1.drew (fun b => ?_) ?_
      · clear K0 hw1
        refine pWalk_quiet rfl (fun E W hw' => quietAt_part rfl rfl typfx (hw'.at 0 rfl) HP.out.all HP.out.len) ?_
        simp only [Act.put, List.setIfInBounds_toArray, List.set_cons_zero, List.set_cons_succ]
        refine pWalk_quiet rfl (fun E W hw' => quietAt_part rfl rfl typfx (hw'.at 0 rfl) HP.out.all HP.out.len) ?_
        simp only [Act.put, List.setIfInBounds_toArray, List.set_cons_zero, List.set_cons_succ]
        refine pWalk_var rfl rfl allocpfx ?_
        simp only [Act.put, List.setIfInBounds_toArray, List.set_cons_zero, List.set_cons_succ]
        refine pWalk_var rfl rfl allocpfx ?_
        simp only [Act.put, List.setIfInBounds_toArray, List.set_cons_zero, List.set_cons_succ]
        refine pWalk_put rfl rfl rfl rfl rfl typfx zero18_len HP.out.len HP.out.one ?_
        simp only [Act.put]
        refine pWalk_put rfl rfl rfl rfl rfl typfx zero18_len HP.out.len HP.out.one ?_
        simp only [Act.put]
        trivial
      · intro b κ E W hK hB
        obtain ⟨l2, g2⟩ := hB.at_ 2 _ _ _ rfl rfl
        obtain ⟨l3, g3⟩ := hB.at_ 3 _ _ _ rfl rfl
        have n1 := hB.inj 2 3 _ _ _ _ _ _ rfl rfl rfl rfl (by decide)
        simp only [List.length_cons, List.length_nil] at l2 l3
        obtain ⟨g5, e5⟩ : ∃ x, x = b 2 := ⟨_, rfl⟩
        obtain ⟨g6, e6⟩ : ∃ x, x = b 3 := ⟨_, rfl⟩
        have hw2 : Hid (KV w [(24, w.heap.size, P), (24, w.heap.size + 1, pcells 0 zero16 0), (24, w.heap.size + 2, pcells 0 zero16 0), (24, g5, P), (24, g6, P)] W) := by
          rw [e5, e6]
          refine hK.pick [0, 1, 2, κ 2, κ 3] ?_ rfl ?_
          · simp
            omega
          · intro q hq
            simp at hq
            rcases hq with rfl | rfl | rfl | rfl | rfl
            · rfl
            · rfl
            · rfl
            · exact g2
            · exact g3
        clear l2 l3 g2 g3 n1 hK hB hw1 K0
        simp only [List.length_cons, List.length_nil, lexAct, pval, List.getElem?_cons_zero, List.getElem?_cons_succ, Option.bind_some, Act.put, List.setIfInBounds_toArray, List.set_cons_zero, List.set_cons_succ]
        rw [← e5, ← e6]
        clear e5 e6
        have c17 : W.cell? ⟨w.heap.size, 17, none⟩ = some (.int .i64 (m : Nat)) := by rw [(hw2.out.at 0 rfl).get]; exact HP.out.n
        have h1 := Lib.hid (hw2.out.put 3 rfl 17 (.int .i64 ((m + 1 : Nat) : Int)))
        have h2 := Lib.hid (h1.out.put 4 rfl 17 (.int .i64 ((m + 1 : Nat) : Int)))
        have c5 : W.cell? ⟨g5, 17, none⟩ = some (.int .i64 (m : Nat)) := by rw [(hw2.out.at 3 rfl).get]; exact HP.out.n
        have f5 := (hw2.out.at 3 rfl).frozen 17
        have c6 : W.cell? ⟨g6, 17, none⟩ = some (.int .i64 (m : Nat)) := by rw [(hw2.out.at 4 rfl).get]; exact HP.out.n
        have f6 := (hw2.out.at 4 rfl).frozen 17
        have d6 : ∀ v, (W.setCell ⟨g5, 17, none⟩ v).cell? ⟨g6, 17, none⟩ = some (.int .i64 (m : Nat)) := fun v => by rw [((hw2.out.put 3 rfl 17 v).at 4 rfl).get]; exact HP.out.n
        have e6 : ∀ v, (W.setCell ⟨g5, 17, none⟩ v).frozen? ⟨g6, 17, none⟩ = false := fun v => ((hw2.out.put 3 rfl 17 v).at 4 rfl).frozen 17
        have d17 : ∀ v, (W.setCell ⟨g5, 17, none⟩ v).cell? ⟨w.heap.size, 17, none⟩ = some (.int .i64 (m : Nat)) := fun v => by rw [((hw2.out.put 3 rfl 17 v).at 0 rfl).get]; exact HP.out.n
        have ec : ((m + 1 : Nat) : Int) = (m : Int) + 1 := by omega
        rw [HPL.out] at h2
        rw [ec] at h2
        clear h1 ec
        go_upto_region 4 with fail
        go_region
        obtain ⟨W8, hW8⟩ : ∃ W8, W8 = ((W.setCell ⟨g5, 17, none⟩ (.int .i64 ((m : Int) + 1))).setCell ⟨g6, 17, none⟩ (.int .i64 ((m : Int) + 1))).drew := ⟨_, rfl⟩
        have K8 : Hid (KV w [(24, w.heap.size, P), (24, w.heap.size + 1, pcells 0 zero16 0), (24, w.heap.size + 2, pcells 0 zero16 0), (24, g5, PL), (24, g6, PL)] W8) := by show KV _ _ _; rw [hW8]; exact h2.out.drew
        rw [← hW8]
        clear hW8 h2 hw2 c17 c5 f5 c6 f6 d6 e6 d17
        go_upto_region 5 with fail
        refine wp_region_lit ?_
        refine wpList_quiet_take (C := KV w [(24, w.heap.size, P), (24, w.heap.size + 1, pcells 0 zero16 0), (24, w.heap.size + 2, pcells 0 zero16 0), (24, g5, PL), (24, g6, PL)]) 6 K8.out ?_
        simp only [List.take, List.drop]
        repeat (first
          | go_big_quiet_skip
          | (go_big_quiet_want; apply Exists.intro; refine ⟨fun w' hw' => (by first | exact quietAt_part rfl rfl typfx (hw'.at 0 rfl) HP.out.all HP.out.len | exact quietAt_cell rfl rfl one_int (hw'.at 0 rfl) HP.out.v | exact quietAt_cell rfl rfl one_int (hw'.at 0 rfl) HP.out.n | exact quietAt_part rfl rfl ty16 (hw'.at 0 rfl) HP.out.addr hs16 | fail), ?_⟩; simp only [Act.put, List.setIfInBounds_toArray, List.set_cons_zero, List.set_cons_succ]; go_big_quiet_on)
          | (go_big_quiet_want; go_big_quiet_op; go_big_quiet_on)
          | (go_big_quiet_want; go_big_quiet_op; apply Exists.intro; refine ⟨fun w' hw' => (by first | (with_reducible refine (CT.out w').mono ?_; rintro e w'' ⟨rfl, hb⟩; exact ⟨rfl, hw'.below hb⟩) | fail), ?_⟩; go_big_quiet_on)
          | (go_big_quiet_want; go_big_quiet_op; apply Exists.intro; refine ⟨fun w' hw' => rfl, ?_⟩; go_big_quiet_on))
        refine wpQuiet_nil ?_
        intro w9 hw9
        have a6 := Lib.hid (hw9.at 4 rfl)
        have KA := Lib.hid (hw9.puts 4 rfl 1 (bcells Y) (by rw [HR.out.len, hsY]; decide))
        rw [HPH.out] at KA
        clear hw9 K8
        obtain ⟨V7, hV7⟩ : ∃ V7, V7 = w9.setCells g6 1 (bcells Y) := ⟨_, rfl⟩
        have K7 : Hid (KV w [(24, w.heap.size, P), (24, w.heap.size + 1, pcells 0 zero16 0), (24, w.heap.size + 2, pcells 0 zero16 0), (24, g5, PL), (24, g6, PH)] V7) := by show KV _ _ _; rw [hV7]; exact KA.out
        go_upto_region 6 with (first | refine wpList_store_at rfl 22 (.tmp 35) (.tmp 34) rfl _ _ rfl ty16 a6.out (by rw [HR.out.len]; decide) (bcells Y) hsY (bcells_one _) rfl ?_ | fail)
        simp only [Act.put]
        rw [← hV7]
        clear hV7 KA a6
        have h1 := Lib.hid (K7.out.drew.store 1 rfl PL (by rw [HR.out.len]; rfl))
        have h2 := Lib.hid (h1.out.store 2 rfl PH (by rw [HQ.out.len]; rfl))
        have a1 := Lib.hid (K7.out.drew.at 1 rfl)
        have a2 := Lib.hid (h1.out.at 2 rfl)
        have a3 := Lib.hid (K7.out.drew.at 3 rfl)
        have a4 := Lib.hid (K7.out.drew.at 4 rfl)
        have a5 := Lib.hid (h1.out.at 4 rfl)
        clear K7
        refine wp_region_any (by kernel_rfl) ?_
        refine wpAny_node [0, 1] (by kernel_rfl) rfl (fun i hi => ?_)
        simp only [List.mem_cons, List.not_mem_nil, or_false] at hi
        rcases hi with rfl | rfl
        · refine wpOp_step (by simp only [List.getElem?_toArray, List.getElem?_cons_zero]; rfl) ?_
          refine step_load_v rfl 24 (.tmp 5) rfl _ rfl typfx a3.out HR.out.len ?_
          simp only [Act.put, List.setIfInBounds_toArray, List.set_cons_zero, List.set_cons_succ]
          refine wpAny_node [1, 2] (by kernel_rfl) rfl (fun i hi => ?_)
          simp only [List.mem_cons, List.not_mem_nil, or_false] at hi
          rcases hi with rfl | rfl
          · refine wpOp_step (by simp only [List.getElem?_toArray, List.getElem?_cons_succ, List.getElem?_cons_zero]; rfl) ?_
            refine step_load_v rfl 24 (.tmp 6) rfl _ rfl typfx a4.out HQ.out.len ?_
            simp only [Act.put, List.setIfInBounds_toArray, List.set_cons_zero, List.set_cons_succ]
            refine wpAny_node [2] (by kernel_rfl) rfl (fun i hi => ?_)
            obtain rfl := List.mem_singleton.1 hi
            refine wpOp_step (by simp only [List.getElem?_toArray, List.getElem?_cons_succ, List.getElem?_cons_zero]; rfl) ?_
            refine step_store_v rfl 24 (.tmp 2) (.tmp 36) rfl _ rfl typfx a1.out zero18_len PL HR.out.len HR.out.one rfl ?_
            simp only [Act.put]
            refine wpAny_node [3] (by kernel_rfl) rfl (fun i hi => ?_)
            obtain rfl := List.mem_singleton.1 hi
            refine wpOp_step (by simp only [List.getElem?_toArray, List.getElem?_cons_succ, List.getElem?_cons_zero]; rfl) ?_
            refine step_store_v rfl 24 (.tmp 3) (.tmp 37) rfl _ rfl typfx a2.out zero18_len PH HQ.out.len HQ.out.one rfl ?_
            simp only [Act.put]
            refine wpAny_node [4] (by kernel_rfl) rfl (fun i hi => ?_)
            obtain rfl := List.mem_singleton.1 hi
            refine wpOp_step (by simp only [List.getElem?_toArray, List.getElem?_cons_succ, List.getElem?_cons_zero]; rfl) ?_
            refine step_val rfl rfl ?_
            simp only [Act.put, List.setIfInBounds_toArray, List.set_cons_zero, List.set_cons_succ]
            refine wpAny_leaf (by kernel_rfl) ?_
            go_wp2_with fail
            exact bodyPost_ret (v := .tuple #[.agg PL.toArray, .agg PH.toArray, .bool true]) (res_two Tryd.results9 rfl rfl ((h2.out.at 1 rfl).loadVar typfx HR.out.len) ((h2.out.at 2 rfl).loadVar typfx HQ.out.len) rfl) rfl ⟨rfl, h2.out.bel⟩
          · refine wpOp_step (by simp only [List.getElem?_toArray, List.getElem?_cons_succ, List.getElem?_cons_zero]; rfl) ?_
            refine step_store_v rfl 24 (.tmp 2) (.tmp 36) rfl _ rfl typfx a1.out zero18_len PL HR.out.len HR.out.one rfl ?_
            simp only [Act.put]
            refine wpAny_node [1] (by kernel_rfl) rfl (fun i hi => ?_)
            obtain rfl := List.mem_singleton.1 hi
            refine wpOp_step (by simp only [List.getElem?_toArray, List.getElem?_cons_succ, List.getElem?_cons_zero]; rfl) ?_
            refine step_load_v rfl 24 (.tmp 6) rfl _ rfl typfx a5.out HQ.out.len ?_
            simp only [Act.put, List.setIfInBounds_toArray, List.set_cons_zero, List.set_cons_succ]
            refine wpAny_node [3] (by kernel_rfl) rfl (fun i hi => ?_)
            obtain rfl := List.mem_singleton.1 hi
            refine wpOp_step (by simp only [List.getElem?_toArray, List.getElem?_cons_succ, List.getElem?_cons_zero]; rfl) ?_
            refine step_store_v rfl 24 (.tmp 3) (.tmp 37) rfl _ rfl typfx a2.out zero18_len PH HQ.out.len HQ.out.one rfl ?_
            simp only [Act.put]
            refine wpAny_node [4] (by kernel_rfl) rfl (fun i hi => ?_)
            obtain rfl := List.mem_singleton.1 hi
            refine wpOp_step (by simp only [List.getElem?_toArray, List.getElem?_cons_succ, List.getElem?_cons_zero]; rfl) ?_
            refine step_val rfl rfl ?_
            simp only [Act.put, List.setIfInBounds_toArray, List.set_cons_zero, List.set_cons_succ]
            refine wpAny_leaf (by kernel_rfl) ?_
            go_wp2_with fail
            exact bodyPost_ret (v := .tuple #[.agg PL.toArray, .agg PH.toArray, .bool true]) (res_two Tryd.results9 rfl rfl ((h2.out.at 1 rfl).loadVar typfx HR.out.len) ((h2.out.at 2 rfl).loadVar typfx HQ.out.len) rfl) rfl ⟨rfl, h2.out.bel⟩
        · refine wpOp_step (by simp only [List.getElem?_toArray, List.getElem?_cons_succ, List.getElem?_cons_zero]; rfl) ?_
          refine step_load_v rfl 24 (.tmp 6) rfl _ rfl typfx a4.out HQ.out.len ?_
          simp only [Act.put, List.setIfInBounds_toArray, List.set_cons_zero, List.set_cons_succ]
          refine wpAny_node [0] (by kernel_rfl) rfl (fun i hi => ?_)
          obtain rfl := List.mem_singleton.1 hi
          refine wpOp_step (by simp only [List.getElem?_toArray, List.getElem?_cons_zero]; rfl) ?_
          refine step_load_v rfl 24 (.tmp 5) rfl _ rfl typfx a3.out HR.out.len ?_
          simp only [Act.put, List.setIfInBounds_toArray, List.set_cons_zero, List.set_cons_succ]
          refine wpAny_node [2] (by kernel_rfl) rfl (fun i hi => ?_)
          obtain rfl := List.mem_singleton.1 hi
          refine wpOp_step (by simp only [List.getElem?_toArray, List.getElem?_cons_succ, List.getElem?_cons_zero]; rfl) ?_
          refine step_store_v rfl 24 (.tmp 2) (.tmp 36) rfl _ rfl typfx a1.out zero18_len PL HR.out.len HR.out.one rfl ?_
          simp only [Act.put]
          refine wpAny_node [3] (by kernel_rfl) rfl (fun i hi => ?_)
          obtain rfl := List.mem_singleton.1 hi
          refine wpOp_step (by simp only [List.getElem?_toArray, List.getElem?_cons_succ, List.getElem?_cons_zero]; rfl) ?_
          refine step_store_v rfl 24 (.tmp 3) (.tmp 37) rfl _ rfl typfx a2.out zero18_len PH HQ.out.len HQ.out.one rfl ?_
          simp only [Act.put]
          refine wpAny_node [4] (by kernel_rfl) rfl (fun i hi => ?_)
          obtain rfl := List.mem_singleton.1 hi
          refine wpOp_step (by simp only [List.getElem?_toArray, List.getElem?_cons_succ, List.getElem?_cons_zero]; rfl) ?_
          refine step_val rfl rfl ?_
          simp only [Act.put, List.setIfInBounds_toArray, List.set_cons_zero, List.set_cons_succ]
          refine wpAny_leaf (by kernel_rfl) ?_
          go_wp2_with fail
          exact bodyPost_ret (v := .tuple #[.agg PL.toArray, .agg PH.toArray, .bool true]) (res_two Tryd.results9 rfl rfl ((h2.out.at 1 rfl).loadVar typfx HR.out.len) ((h2.out.at 2 rfl).loadVar typfx HQ.out.len) rfl) rfl ⟨rfl, h2.out.bel⟩
  · have hb : phalfB V X n = false := by unfold phalfB; simp [hc]
    have HF : Hid (plow V X n = pcells 0 zero16 0 ∧ phigh V X n = pcells 0 zero16 0) := by show _ ∧ _; unfold plow phigh; rw [hb]; exact ⟨rfl, rfl⟩
    rw [HF.out.1, HF.out.2, hb]
    have HF : Hid (True) := trivial
    have hcb : (pcheck V X n != 0) = true := by simpa using hc
    clear hc hX hb
    generalize pcheck V X n = f at *
    go_enter Tryd.func9, Tryd.ntmps9
    go_upto_region 1 with fail
    refine wp_quiet_kv (C := KV w [(24, w.heap.size, P), (24, w.heap.size + 1, pcells 0 zero16 0), (24, w.heap.size + 2, pcells 0 zero16 0)]) (by kernel_rfl) (by kernel_rfl) K0.out.drew ?_
    repeat (first
      | go_big_quiet_skip
      | (go_big_quiet_want; apply Exists.intro; refine ⟨fun w' hw' => (by first | exact quietAt_part rfl rfl typfx (hw'.at 0 rfl) HP.out.all HP.out.len | exact quietAt_cell rfl rfl one_int (hw'.at 0 rfl) HP.out.v | exact quietAt_cell rfl rfl one_int (hw'.at 0 rfl) HP.out.n | exact quietAt_part rfl rfl ty16 (hw'.at 0 rfl) HP.out.addr hs16 | fail), ?_⟩; simp only [Act.put, List.setIfInBounds_toArray, List.set_cons_zero, List.set_cons_succ]; go_big_quiet_on)
      | (go_big_quiet_want; go_big_quiet_op; go_big_quiet_on)
      | (go_big_quiet_want; go_big_quiet_op; apply Exists.intro; refine ⟨fun w' hw' => (by first | (with_reducible refine (CC.out w').mono ?_; rintro e w'' ⟨rfl, hb⟩; exact ⟨rfl, hw'.below hb⟩) | fail), ?_⟩; go_big_quiet_on)
      | (go_big_quiet_want; go_big_quiet_op; apply Exists.intro; refine ⟨fun w' hw' => rfl, ?_⟩; go_big_quiet_on))
    refine wpQuiet_nil ?_
    intro w1 hw1
    obtain ⟨ZZ, hZZ⟩ : ∃ Z, Z = pcells 0 zero16 0 := ⟨_, rfl⟩
    have HZ : Hid (Value.agg #[.int .i64 0, .int .u8 0, .int .u8 0, .int .u8 0, .int .u8 0, .int .u8 0, .int .u8 0, .int .u8 0, .int .u8 0, .int .u8 0, .int .u8 0, .int .u8 0, .int .u8 0, .int .u8 0, .int .u8 0, .int .u8 0, .int .u8 0, .int .i64 0] = .agg ZZ.toArray) := by show _ = _; rw [hZZ]; rfl
    have HZl : Hid (ZZ.length = 18) := by show _ = _; rw [hZZ]; rfl
    have HZo : Hid (∀ v ∈ ZZ, v.oneCell' = true) := by show ∀ v ∈ ZZ, v.oneCell' = true; rw [hZZ]; exact zero18_one
    have h1 := Lib.hid (hw1.store 1 rfl ZZ (by rw [HZl.out]; rfl))
    have h2 := Lib.hid (h1.out.store 2 rfl ZZ (by rw [HZl.out]; rfl))
    have a1 := Lib.hid (hw1.at 1 rfl)
    have a2 := Lib.hid (h1.out.at 2 rfl)
    clear hw1 K0
    go_wp2_with (first | refine wpList_store_v rfl 24 (.tmp 2) (.tmp 18) rfl _ rfl typfx a1.out zero18_len ZZ HZl.out HZo.out HZ.out ?_ | refine wpList_store_v rfl 24 (.tmp 3) (.tmp 19) rfl _ rfl typfx a2.out zero18_len ZZ HZl.out HZo.out HZ.out ?_ | fail)
    rw [← hZZ]
    exact bodyPost_ret (v := .tuple #[.agg ZZ.toArray, .agg ZZ.toArray, .bool false]) (res_two Tryd.results9 rfl rfl ((h2.out.at 1 rfl).loadVar typfx HZl.out) ((h2.out.at 2 rfl).loadVar typfx HZl.out) rfl) rfl ⟨rfl, h2.out.bel⟩
end Go.Proofs.YtlkilkhnblmjaaaDoor
