/-
  The document's excess between two packets.
-/
import Derived.Test.YtemgnaalmgkfiaaCu5
import Derived.Test.YtemgnaalmgkfiaaRt4
import Derived.Test.YtemgnaalmgkfiaaRef2h
namespace Go.Proofs.Ytemgnaalmgkfiaa
open Go.RowKit
set_option linter.unusedVariables false
attribute [local go_sem ↓] Go.wp_at_zero Go.wp_at_succ

theorem cuTo_drop (L : List Sm) (i : Nat) : ∀ k, cuTo (L.drop i) k = cuTo L (i + k) - cuTo L i
  | 0 => by show 0 = _; rw [Nat.add_zero, Nat.sub_self]
  | k + 1 => by
    have e : (L.drop i).getD k sm0 = L.getD (i + k) sm0 := by rw [List.getD_eq_getElem?_getD, List.getD_eq_getElem?_getD, List.getElem?_drop]
    have h := cuTo_mono L (show i ≤ i + k by omega)
    show cuTo (L.drop i) k + cuS (L.drop i) k = cuTo L (i + k) + cuS L (i + k) - cuTo L i
    rw [cuTo_drop L i k]
    unfold cuS
    rw [e]
    omega
/-- The packets from one to another. -/
def cuPart (L : List Sm) (i j : Nat) : List Sm := (L.drop i).take (j + 1 - i)
theorem cuPart_good {L : List Sm} {n i j : Nat} (hg : cuGood L n) (hij : i ≤ j) (hj : j < n) (hl : L.length = n) : cuGood (cuPart L i j) (cuPart L i j).length := fun k hk => by
  have hk2 : k < j + 1 - i := by unfold cuPart at hk; rw [List.length_take] at hk; omega
  have e : (cuPart L i j).getD k sm0 = L.getD (i + k) sm0 := by
    unfold cuPart
    rw [List.getD_eq_getElem?_getD, List.getD_eq_getElem?_getD, List.getElem?_take, if_pos hk2, List.getElem?_drop]
  rw [e]
  exact hg (i + k) (by omega)
theorem cuPart_total {L : List Sm} {n i j : Nat} (hg : cuGood L n) (hij : i ≤ j) (hj : j < n) (hl : L.length = n) : cuBad (cuPart L i j) = none ∧ cuTotal (cuPart L i j) = cuTo L (j + 1) - cuTo L i := by
  have h := cuBad_no (cuPart_good hg hij hj hl)
  refine ⟨h, ?_⟩
  unfold cuTotal
  rw [if_pos h]
  have hlen : (cuPart L i j).length = j + 1 - i := by unfold cuPart; rw [List.length_take, List.length_drop]; omega
  rw [hlen]
  unfold cuPart
  rw [cuTo_take (L.drop i) (Nat.le_refl _), cuTo_drop, show i + (j + 1 - i) = j + 1 by omega]
theorem rless_nums (A B : Nat) (w : World) (hA : A < w128) (hB : B < w128) :
    Calls Try.prog 25 #[.agg #[.int .u64 (whi A : Nat), .int .u64 (wlo A : Nat)], .agg #[.int .u64 (whi B : Nat), .int .u64 (wlo B : Nat)]] w fun e w' => e = .returned (.bool (decide (A < B))) ∧ Below w.heap.size w w' :=
  rless_any _ _ _ _ A B w (whi_word A) (wlo_word A) (whi_word B) (wlo_word B) (nums_back hA).symm (nums_back hB).symm
theorem rsub_nums (A B S : Nat) (w : World) (hA : A < w128) (hB : B < w128) (hle : B ≤ A) (hS : S = A - B) :
    Calls Try.prog 41 #[.agg #[.int .u64 (whi A : Nat), .int .u64 (wlo A : Nat)], .agg #[.int .u64 (whi B : Nat), .int .u64 (wlo B : Nat)]] w fun e w' => e = .returned (.tuple #[.agg #[.int .u64 (whi S : Nat), .int .u64 (wlo S : Nat)], .bool false]) ∧ Below w.heap.size w w' := by
  have h := rsub_any _ _ _ _ A B w (whi_word A) (wlo_word A) (whi_word B) (wlo_word B) (nums_back hA).symm (nums_back hB).symm
  have e : A + w128 - B = S + w128 := by rw [hS]; omega
  have m : (S + w128) % w128 = S % w128 := Nat.add_mod_right _ _
  rw [e, ← (words_mod (S + w128)).1, ← (words_mod (S + w128)).2, m, (words_mod S).1, (words_mod S).2, decide_eq_false (Nat.not_lt.2 hle)] at h
  exact h

set_option maxRecDepth 10000 in
set_option maxHeartbeats 4000000 in
theorem rover_words (A : Option Addr) (n cap : Nat) (L : List Sm) (r i j T : Nat) (w : World) (hn : n ≤ 1000) (hij : i ≤ j) (hj : j < n) (hT : T ≤ 65575000) (hcap : n ≤ cap) (hA : SmRow w A n L) (a b c d x y : Nat) (tt : Bool) (dt : Nat)
    (CT : Hid (∀ bb o w', A = some ⟨bb, o, none⟩ → Below w.heap.size w w' → Calls Try.prog 9 #[.slice (some ⟨bb, o + i * 2, none⟩) (j + 1 - i) (cap - i)] w' fun e w'' => e = .returned (.tuple #[.int .i64 (T : Nat), .agg #[.int .i64 0, .int .i64 0]]) ∧ Below w'.heap.size w' w''))
    (CM : Hid (∀ w, Calls Try.prog 26 #[.int .u64 T, .int .u64 1000000000] w fun e w' => e = .returned (.agg #[.int .u64 a, .int .u64 b]) ∧ Below w.heap.size w w'))
    (hdt : Hid (dt = cuT L j - cuT L i))
    (CN : Hid (∀ w, Calls Try.prog 26 #[.int .u64 r, .int .u64 dt] w fun e w' => e = .returned (.agg #[.int .u64 c, .int .u64 d]) ∧ Below w.heap.size w w'))
    (CL : Hid (∀ w, Calls Try.prog 25 #[.agg #[.int .u64 a, .int .u64 b], .agg #[.int .u64 c, .int .u64 d]] w fun e w' => e = .returned (.bool tt) ∧ Below w.heap.size w w'))
    (CS : Hid (tt = false → ∀ w, Calls Try.prog 41 #[.agg #[.int .u64 a, .int .u64 b], .agg #[.int .u64 c, .int .u64 d]] w fun e w' => e = .returned (.tuple #[.agg #[.int .u64 x, .int .u64 y], .bool false]) ∧ Below w.heap.size w w'))
    (h0 : Hid (tt = true → x = 0 ∧ y = 0)) :
    Calls Try.prog 27 #[.slice A n cap, .int .u64 r, .int .i64 (i : Int), .int .i64 (j : Int)] w fun e w' => e = .returned (.agg #[.int .u64 x, .int .u64 y]) ∧ Below w.heap.size w w' := by
  obtain ⟨bb, o, rfl, hbb, hc⟩ := hA.addr (by omega)
  have hlL := hA.1
  have hTm := fun k => rtRun_word2 (smT_word hA) k
  have HWD := Lib.hid (smT_word hA)
  have CR := Lib.hid (fun (B : Option Addr) (cp : Nat) w' => rrtrun_any B (j + 1) cp ((smT L).take (j + 1)) w' (by omega))
  have CT2 := Lib.hid (fun w' => CT.out bb o w' rfl)
  have HN := Lib.hid hn
  have HJ := Lib.hid hj
  have HIJ := Lib.hid hij
  have HCAP := Lib.hid hcap
  have HBB := Lib.hid hbb
  have HC := Lib.hid hc
  have HLL := Lib.hid hlL
  have HTM := Lib.hid hTm
  have HTI : Hid (IntKind.u64.wrap (T : Int) = (T : Int)) := by show _ = _; rw [IntKind.wrap_u64]; omega
  have u1 : wrap64 ((j : Int) + 1) = ((j + 1 : Nat) : Int) := by unfold wrap64; omega
  have i1 : (i : Int) ≤ (j : Int) + 1 := by omega
  have i2 : (j : Int) + 1 ≤ (cap : Int) := by omega
  have i3 : ¬ (j : Int) + 1 < 0 := by omega
  have HCI : Hid (¬ cap = i) := (by omega : ¬ cap = i)
  clear hn hij hj hT hcap hA hbb hc hlL hTm CT
  go_enter Try.func27, Try.ntmps27
  have K0 := Lib.hid (KV.one w 42 [.int .u64 0, .int .u64 0])
  go_upto_region 3 with (first | (go_at_call 9; rw [if_neg HCI.out]; refine (CT2.out _ K0.out.bel).mono ?_; rintro e w1 ⟨rfl, b1⟩) | fail)
  have K1 := Lib.hid (K0.out.below b1)
  have K2 := Lib.hid ((K1.out.new 26 [.int .i64 0, .int .i64 0]).pick [0] (by simp) rfl (fun q hq => by simp at hq; subst hq; rfl) : KV w [(42, w.heap.size, [.int .u64 0, .int .u64 0])] _)
  clear b1 K0 K1 CT2
  go_wp2_with fail
  generalize w1.alloc (.cells #[.int .i64 0, .int .i64 0] 26) = W1 at *
  have sW1 := Lib.hid K2.out.bel.size
  go_loopw [9, 12] (fun v k wr => ∃ q : Nat, q ≤ j + 1 ∧ k = .int .i64 (q : Int) ∧ OutU W1.heap.size wr v ((smT L).take q) ∧ Below W1.heap.size W1 wr) (fun _ k _ => j + 1 - (intOf k).toNat)
  case atStart => exact ⟨0, Nat.zero_le _, rfl, OutU.nil _ _, Below.refl _ _⟩
  case round =>
    obtain ⟨q, hq, rfl, ho, hb⟩ := hrel
    have HO := Lib.hid ho
    have HB := Lib.hid hb
    clear ho hb
    by_cases hlt : q ≤ j
    · have hlow := HBB.out
      have hls : bb < W1.heap.size := Nat.lt_of_lt_of_le hlow sW1.out
      have q0 : wr.cell? ⟨bb, o + q * 2, none⟩ = _ := ((HB.out.cell (p := ⟨bb, o + q * 2, none⟩) hls).trans (K2.out.bel.cell (p := ⟨bb, o + q * 2, none⟩) hlow)).trans (HC.out q (by have := HJ.out; omega)).1
      obtain ⟨t, ht⟩ : ∃ t, t = (L.getD q sm0).time := ⟨_, rfl⟩
      rw [← ht] at q0
      have hT : (smT L).take (q + 1) = (smT L).take q ++ [t] := by
        have hql : q < (smT L).length := by rw [smT_len, HLL.out]; have := HJ.out; omega
        rw [List.take_add_one, List.getElem?_eq_getElem hql, ht, ← smT_get, List.getD_eq_getElem?_getD, List.getElem?_eq_getElem hql]
        rfl
      have HS := Lib.hid hT
      have hll : Hid (((smT L).take q).length + 1 ≤ 1048576) := (by rw [List.length_take]; have := HN.out; have := HJ.out; omega : ((smT L).take q).length + 1 ≤ 1048576)
      have HLT := Lib.hid hlt
      have hqi : (q : Int) ≤ (j : Int) := by omega
      have hqn : (q : Int) < (n : Int) := by have := HJ.out; omega
      have u := cu_next (k := q) (n := q + 1) (by omega) (by have := HN.out; have := HJ.out; omega)
      clear hlow hls ht hT hlt hq
      go_wp2_with (first | (at_builtin; refine wpList_appendU (by rfl) (.tmp 32) (.tmp 38) (by rfl) (news := [t]) _ 1 (by rfl) (by rfl) (by rfl) (by rfl) HO.out HB.out HB.out.size hll.out ?_; intro v' w' ho' hb') | fail)
      go_roundw
      case rel => exact ⟨q + 1, by have := HLT.out; omega, by rw [u], by rw [HS.out]; exact ho', hb'⟩
      case measure => rw [u]; have hms := HLT.out; simp [intOf]; omega
    · obtain rfl : q = j + 1 := by omega
      have hqi : ¬ ((j + 1 : Nat) : Int) ≤ (j : Int) := by omega
      have hln : ((smT L).take (j + 1)).length = j + 1 := by rw [List.length_take, smT_len, HLL.out]; have := HJ.out; omega
      obtain ⟨A5, c5, rfl, _, _, hR5⟩ := HO.out.out (fun x hx => HWD.out x (List.mem_of_mem_take hx))
      rw [hln] at hR5
      have HR5 := Lib.hid hR5
      have K3 := Lib.hid (K2.out.below HB.out)
      have hlen2 := Lib.hid hln
      rw [hln]
      clear hq hlt hln hR5 HO HB
      go_upto_region 8 with (first | (go_at_call 34; refine (CR.out _ _ _ HR5.out).mono ?_; rintro e w3 ⟨v, rfl, ho3, hb3⟩) | fail)
      obtain ⟨ga, cp, cur, A6, rfl, hat⟩ := ho3.arr0 (j + 1) (by rw [rtRun_len]; exact hlen2.out)
      obtain ⟨rfl, hga, hcA, hcur0⟩ := hat (by omega)
      have hcur : ∀ k, k < j + 1 → cur[k]? = some (.int .u64 (cuT L k : Nat)) := fun k hk => by
        have := hcur0 k hk
        rw [rtRun_get (by rw [hlen2.out]; exact hk), rtMax_take _ (by omega)] at this
        exact this
      have K4 : Hid (KV w [(42, w.heap.size, [.int .u64 0, .int .u64 0]), (23, ga, cur)] w3) := by
        have k := K3.out.below hb3
        refine kv_two (k.at 0 rfl) hcA (Nat.le_refl _) ?_ ?_ k.bel
        · have := K3.out.bel.size; omega
        · have := (K3.out.at 0 rfl).lt; omega
      clear K3 ho3 hb3 hat hcur0 hcA hga HR5 hlen2 K2 sW1
      go_upto_region 9 with (first | (go_at_call 26; rw [HTI.out]; refine (CM.out _).mono ?_; rintro e w4 ⟨rfl, b4⟩) | fail)
      have K5 := Lib.hid ((K4.out.below b4).new 42 [.int .u64 a, .int .u64 b])
      simp only [List.cons_append, List.nil_append] at K5
      clear b4 K4
      generalize w4.heap.size = g14 at *
      generalize w4.alloc (.cells #[.int .u64 (a : Int), .int .u64 (b : Int)] 42) = W4 at *
      obtain ⟨t1, ht1⟩ : ∃ x, x = cuT L j := ⟨_, rfl⟩
      obtain ⟨t0, ht0⟩ : ∃ x, x = cuT L i := ⟨_, rfl⟩
      have HC1 := Lib.hid (hcur j (by omega))
      have HC0 := Lib.hid (hcur i (by have := HIJ.out; omega))
      have hd := hdt.out
      rw [← ht1] at HC1 hd
      rw [← ht0] at HC0 hd
      have HD := Lib.hid (cu_gap hd (by rw [ht0, ht1]; exact cuT_mono L HIJ.out) (by rw [ht1]; exact HTM.out _))
      have HI1 : Hid (j < j + 1) := Nat.lt_succ_self j
      have HI2 : Hid (i < j + 1) := (by have := HIJ.out; omega : i < j + 1)
      clear ht1 ht0 hd hcur
      refine wp_region_par (w := w) [.quiet (.int .u64 r), .quiet (.slice (some ⟨ga, 0, none⟩) (j + 1) cp), .quiet (.int .i64 (j : Int)), .quiet (.pointer (some ⟨ga, j, none⟩)), .quiet (.int .u64 t1), .quiet (.slice (some ⟨ga, 0, none⟩) (j + 1) cp), .quiet (.int .i64 (i : Int)), .quiet (.pointer (some ⟨ga, i, none⟩)), .quiet (.int .u64 t0), .quiet (.int .u64 dt), .quiet (.agg #[.int .u64 c, .int .u64 d]), .alloc 42 [.int .u64 0, .int .u64 0] (some (12, [.int .u64 c, .int .u64 d])), .store 11] [(42, w.heap.size, [.int .u64 0, .int .u64 0]), (23, ga, cur), (42, g14, [.int .u64 a, .int .u64 b])] (by kernel_rfl) (by kernel_rfl) K5.out.drew (fun bk0 => ?_) ?_
      · clear K5
        refine pWalk_quiet rfl (fun E W hw' => quietAt_run (by simp [go_sem])) ?_
        simp only [Act.put, List.setIfInBounds_toArray, List.set_cons_zero, List.set_cons_succ]
        refine pWalk_quiet rfl (fun E W hw' => quietAt_run (by simp [go_sem])) ?_
        simp only [Act.put, List.setIfInBounds_toArray, List.set_cons_zero, List.set_cons_succ]
        refine pWalk_quiet rfl (fun E W hw' => quietAt_run (by simp [go_sem])) ?_
        simp only [Act.put, List.setIfInBounds_toArray, List.set_cons_zero, List.set_cons_succ]
        refine pWalk_quiet rfl (fun E W hw' => quietAt_run (by simp [go_sem]; intro h; have h2 := HI1.out; omega)) ?_
        simp only [Act.put, List.setIfInBounds_toArray, List.set_cons_zero, List.set_cons_succ]
        refine pWalk_quiet rfl (fun E W hw' => quietAt_cell (j := j) rfl rfl one_w64 (hw'.at 1 rfl) HC1.out) ?_
        simp only [Act.put, List.setIfInBounds_toArray, List.set_cons_zero, List.set_cons_succ]
        refine pWalk_quiet rfl (fun E W hw' => quietAt_run (by simp [go_sem])) ?_
        simp only [Act.put, List.setIfInBounds_toArray, List.set_cons_zero, List.set_cons_succ]
        refine pWalk_quiet rfl (fun E W hw' => quietAt_run (by simp [go_sem])) ?_
        simp only [Act.put, List.setIfInBounds_toArray, List.set_cons_zero, List.set_cons_succ]
        refine pWalk_quiet rfl (fun E W hw' => quietAt_run (by simp [go_sem]; intro h; have h2 := HI2.out; omega)) ?_
        simp only [Act.put, List.setIfInBounds_toArray, List.set_cons_zero, List.set_cons_succ]
        refine pWalk_quiet rfl (fun E W hw' => quietAt_cell (j := i) rfl rfl one_w64 (hw'.at 1 rfl) HC0.out) ?_
        simp only [Act.put, List.setIfInBounds_toArray, List.set_cons_zero, List.set_cons_succ]
        refine pWalk_quiet rfl (fun E W hw' => quietAt_run (by simp [go_sem, HD.out])) ?_
        simp only [Act.put, List.setIfInBounds_toArray, List.set_cons_zero, List.set_cons_succ]
        refine pWalk_quiet rfl (fun E W hw' => quietAt_call (f := 26) (args := #[.int .u64 r, .int .u64 dt]) (by simp [go_sem]) ((CN.out W).mono fun e w'' h => ⟨h.1, hw'.below h.2⟩)) ?_
        simp only [Act.put, List.setIfInBounds_toArray, List.set_cons_zero, List.set_cons_succ]
        refine pWalk_var rfl rfl allocwide2 ?_
        simp only [Act.put, List.setIfInBounds_toArray, List.set_cons_zero, List.set_cons_succ]
        refine pWalk_put rfl rfl rfl rfl rfl tywide2 rfl rfl (by simp [Value.oneCell']) ?_
        trivial
      intro bk κ E W6 hK hB
      obtain ⟨l2, g2⟩ := hB.at_ 11 _ _ _ rfl rfl
      simp only [List.length_cons, List.length_nil] at l2
      obtain ⟨g15, e15⟩ : ∃ x, x = bk 11 := ⟨_, rfl⟩
      have K6 : Hid (KV w [(42, w.heap.size, [.int .u64 0, .int .u64 0]), (42, g14, [.int .u64 a, .int .u64 b]), (42, g15, [.int .u64 c, .int .u64 d])] W6) := by
        rw [e15]
        refine hK.pick [0, 2, κ 11] ?_ rfl ?_
        · simp
          omega
        · intro q hq
          simp at hq
          rcases hq with rfl | rfl | rfl
          · rfl
          · rfl
          · exact g2
      clear l2 g2 hK hB K5
      simp only [List.length_cons, List.length_nil, lexAct, pval, toK, List.map_cons, List.map_nil, List.getElem?_cons_zero, List.getElem?_cons_succ, Option.bind_some, Act.put, List.setIfInBounds_toArray, List.set_cons_zero, List.set_cons_succ]
      rw [← e15]
      clear e15
      have a0 := (K6.out.at 1 rfl).get 0
      have a1 := (K6.out.at 1 rfl).get 1
      have c0 := (K6.out.at 2 rfl).get 0
      have c1 := (K6.out.at 2 rfl).get 1
      simp at a0 a1 c0 c1
      cases tt with
      | true =>
        obtain ⟨rfl, rfl⟩ := h0.out rfl
        go_upto_region 11 with (first | (go_at_call 25; refine (CL.out _).mono ?_; rintro e w7 ⟨rfl, b7⟩) | fail)
        have K7 := Lib.hid (K6.out.below b7)
        clear b7 K6 a0 a1 c0 c1
        have f0 := (K7.out.at 0 rfl).frozen 0
        have f1 := (K7.out.at 0 rfl).frozen 1
        have r0 := (K7.out.at 0 rfl).get 0
        have r1 := (K7.out.at 0 rfl).get 1
        simp at r0 r1
        have KE := Lib.hid (K7.out.store 0 rfl [.int .u64 0, .int .u64 0] rfl)
        have y0 : ((w7.setCell ⟨w.heap.size, 0, none⟩ (.int .u64 0)).setCell ⟨w.heap.size, 1, none⟩ (.int .u64 0)).cell? ⟨w.heap.size, 0, none⟩ = some (.int .u64 0) := (KE.out.at 0 rfl).get 0
        have y1 : ((w7.setCell ⟨w.heap.size, 0, none⟩ (.int .u64 0)).setCell ⟨w.heap.size, 1, none⟩ (.int .u64 0)).cell? ⟨w.heap.size, 1, none⟩ = some (.int .u64 0) := (KE.out.at 0 rfl).get 1
        go_wp2_with fail
        exact bodyPost_ret (v := .agg #[.int .u64 0, .int .u64 0]) (by simp [results, Try.results27, go_sem, y0, y1]) rfl ⟨rfl, KE.out.bel⟩
      | false =>
        have CS2 := Lib.hid (CS.out rfl)
        go_upto_region 12 with (first | (go_at_call 25; refine (CL.out _).mono ?_; rintro e w7 ⟨rfl, b7⟩) | fail)
        have K7 := Lib.hid (K6.out.below b7)
        clear b7 K6 a0 a1 c0 c1
        have a0 := (K7.out.at 1 rfl).get 0
        have a1 := (K7.out.at 1 rfl).get 1
        have c0 := (K7.out.at 2 rfl).get 0
        have c1 := (K7.out.at 2 rfl).get 1
        simp at a0 a1 c0 c1
        go_upto_region 13 with (first | (go_at_call 41; refine (CS2.out _).mono ?_; rintro e w8 ⟨rfl, b8⟩) | fail)
        have K8 := Lib.hid ((K7.out.below b8).new 42 [.int .u64 x, .int .u64 y])
        clear b8 K7 a0 a1 c0 c1
        generalize w8.heap.size = g16 at *
        generalize w8.alloc (.cells #[.int .u64 (x : Int), .int .u64 (y : Int)] 42) = W8 at *
        have a0 := (K8.out.at 3 rfl).get 0
        have a1 := (K8.out.at 3 rfl).get 1
        have f0 := (K8.out.at 0 rfl).frozen 0
        have f1 := (K8.out.at 0 rfl).frozen 1
        have r0 := (K8.out.at 0 rfl).get 0
        have r1 := (K8.out.at 0 rfl).get 1
        simp at a0 a1 r0 r1
        have KE := Lib.hid (K8.out.store 0 rfl [.int .u64 x, .int .u64 y] rfl)
        have y0 : ((W8.setCell ⟨w.heap.size, 0, none⟩ (.int .u64 x)).setCell ⟨w.heap.size, 1, none⟩ (.int .u64 y)).cell? ⟨w.heap.size, 0, none⟩ = some (.int .u64 x) := (KE.out.at 0 rfl).get 0
        have y1 : ((W8.setCell ⟨w.heap.size, 0, none⟩ (.int .u64 x)).setCell ⟨w.heap.size, 1, none⟩ (.int .u64 y)).cell? ⟨w.heap.size, 1, none⟩ = some (.int .u64 y) := (KE.out.at 0 rfl).get 1
        go_wp2_with fail
        exact bodyPost_ret (v := .agg #[.int .u64 x, .int .u64 y]) (by simp [results, Try.results27, go_sem, y0, y1]) rfl ⟨rfl, KE.out.bel⟩
theorem rover_any (A : Option Addr) (n cap : Nat) (L : List Sm) (r i j : Nat) (w : World) (hn : n ≤ 1000) (hij : i ≤ j) (hj : j < n) (hr : r ≤ 18446744073709551615) (hg : cuGood L n) (hcap : n ≤ cap) (hA : SmRow w A n L) :
    Calls Try.prog 27 #[.slice A n cap, .int .u64 r, .int .i64 (i : Int), .int .i64 (j : Int)] w fun e w' => e = .returned (.agg #[.int .u64 (whi (cuOver L r i j) : Nat), .int .u64 (wlo (cuOver L r i j) : Nat)]) ∧ Below w.heap.size w w' := by
  obtain ⟨hbad, htot⟩ := cuPart_total hg hij hj hA.1
  obtain ⟨T, hT⟩ : ∃ T, T = cuTo L (j + 1) - cuTo L i := ⟨_, rfl⟩
  obtain ⟨d, hd⟩ : ∃ d, d = cuT L j - cuT L i := ⟨_, rfl⟩
  have hov : cuOver L r i j = T * 1000000000 - r * d := by rw [hT, hd, Nat.mul_comm]; rfl
  have hT1 : T ≤ 65575000 := by have := cuTo_le hg (j + 1) (by omega); omega
  have hd1 : d ≤ 18446744073709551615 := by have := rtRun_word2 (smT_word hA) (j + 1); unfold cuT at hd; omega
  have hA1 : T * 1000000000 < w128 := prod_lt (by omega) (by decide)
  have hB1 : r * d < w128 := prod_lt hr hd1
  rw [hov]
  refine rover_words A n cap L r i j T w hn hij hj hT1 hcap hA _ _ _ _ _ _ (decide (T * 1000000000 < r * d)) d (fun bb o w' e hb => ?_) (fun w => rmul_any T 1000000000 w (by omega) (by decide)) hd (fun w => rmul_any r d w hr hd1) (fun w => rless_nums _ _ w hA1 hB1) (fun h w => rsub_nums _ _ _ w hA1 hB1 (Nat.not_lt.1 (of_decide_eq_false h)) rfl) (fun h => ?_)
  · subst e
    have hrow : SmRow w' (some ⟨bb, o + i * 2, none⟩) (j + 1 - i) (cuPart L i j) := ((hA.below hb).rest i (by omega)).front (j + 1 - i) (by omega)
    have h := rtotal_any _ _ (cap - i) _ w' (by omega) hrow
    rw [hbad, htot, ← hT] at h
    exact h
  · have := of_decide_eq_true h
    rw [show T * 1000000000 - r * d = 0 by omega]
    exact ⟨rfl, rfl⟩
end Go.Proofs.Ytemgnaalmgkfiaa
