/-
  curve's begin; the iterator's contract for a loop over it.
-/
import Derived.Test.YtemgnaalmgkfiaaCu3
namespace Go.Proofs.Ytemgnaalmgkfiaa
open Go.RowKit
set_option linter.unusedVariables false
attribute [local go_sem ↓] Go.wp_at_zero Go.wp_at_succ

theorem quietAt_low {C : World → Prop} {o : Oper} {a : Act} {W : World} {t : TypeId} {x : Operand} {g j : Nat} {v : Value} (ho : o.op = .load t x) (hx : a.eval x = .pointer (some ⟨g, j, none⟩)) (ht : OneTy t) (hc : W.cell? ⟨g, j, none⟩ = some v) :
    Oper.quietAt Try.prog o a C W v := by
  have hload : (Instr.loadAt t (.pointer (some ⟨g, j, none⟩))).run Try.prog W = .ok v W := by
    simp [Instr.loadAt, Instr.sureAddr, loadVar, go_sem, ht W, hc]
  unfold Oper.quietAt execOp
  simp only [ho, hx, Sem.run_bind, Sem.run_pure, hload, Result.andThen_ok]
  exact ⟨rfl, rfl⟩
/-- The first packet from which more than m comes to the last one; the last one, where there is none: so far as the packets from q on tell it. -/
def BegTo (L : List Sm) (r m last q f : Nat) : Prop := f ≤ last ∧ (∀ i, q ≤ i → i < f → ¬ m < cuOver L r i last) ∧ ((q ≤ f ∧ m < cuOver L r f last) ∨ (f = last ∧ ∀ i, q ≤ i → i ≤ last → ¬ m < cuOver L r i last))
theorem beg_yes {L : List Sm} {r m last p f : Nat} (h : BegTo L r m last (p + 1) f) (hp : p ≤ last) (hm : m < cuOver L r p last) : BegTo L r m last p p := ⟨hp, fun i h1 h2 => by omega, .inl ⟨Nat.le_refl _, hm⟩⟩
theorem beg_no {L : List Sm} {r m last p f : Nat} (h : BegTo L r m last (p + 1) f) (hp : p ≤ last) (hm : ¬ m < cuOver L r p last) : BegTo L r m last p f := by
  obtain ⟨h1, h2, h3⟩ := h
  refine ⟨h1, fun i hi hf => ?_, ?_⟩
  · rcases Nat.lt_or_ge p i with h | h
    · exact h2 i h hf
    · obtain rfl : i = p := by omega
      exact hm
  · rcases h3 with ⟨a, b⟩ | ⟨a, b⟩
    · exact .inl ⟨by omega, b⟩
    · refine .inr ⟨a, fun i hi hl => ?_⟩
      rcases Nat.lt_or_ge p i with h | h
      · exact b i h hl
      · obtain rfl : i = p := by omega
        exact hm
theorem beg_start {L : List Sm} {r m last : Nat} : BegTo L r m last (last + 1) last := ⟨Nat.le_refl _, fun i h1 h2 => by omega, .inr ⟨rfl, fun i h1 h2 => by omega⟩⟩
theorem beg_over {L : List Sm} {r n p : Nat} (hn : 0 < n) : cuOver L r p (n - 1) = 1000000000 * (cuTo L n - cuTo L p) - r * (cuT L (n - 1) - cuT L p) := by
  unfold cuOver
  rw [show n - 1 + 1 = n by omega]
theorem beg_bytes {L : List Sm} {n p : Nat} (hg : cuGood L n) (hn : n ≤ 1048576) (hp : p < n) : 1000000000 * (cuTo L n - cuTo L p) = 1000000000 * (cuTo L n - cuTo L (p + 1)) + 1000000000 * cuS L p ∧ 1000000000 * (cuTo L n - cuTo L (p + 1)) < w128 ∧ 1000000000 * cuS L p < w128 ∧ 1000000000 * (cuTo L n - cuTo L p) < w128 := by
  have h1 := cuTo_mono L (show p + 1 ≤ n by omega)
  have h2 : cuTo L (p + 1) = cuTo L p + cuS L p := rfl
  have h3 := cuTo_le hg n (Nat.le_refl _)
  have h4 : 1000000000 * (cuTo L n - cuTo L p) = 1000000000 * (cuTo L n - cuTo L (p + 1)) + 1000000000 * cuS L p := by omega
  refine ⟨h4, ?_, ?_, ?_⟩ <;> unfold w128 <;> omega
theorem cu_less {p : Nat} {z : Int} (hz : z = (p : Int) - 1) (hp : (p : Int) < 17592186043904) : wrap64 ((p : Int) - 1) = z := by unfold wrap64; omega
theorem cu_last {n l : Nat} (h : n = l + 1) (hn : (n : Int) ≤ 17592186043904) : wrap64 ((n : Int) - 1) = (l : Int) := by unfold wrap64; omega

theorem exces_in (A : Option Addr) (n cap r : Nat) (w : World) :
    CallsIn Fence.wide 4 Try.prog 22 #[.slice A n cap, .int .u64 r] w fun e w' => e = .returned (.func (.func 38) #[] #[.pointer (some ⟨w.heap.size, 0, none⟩), .pointer (some ⟨w.heap.size + 1, 0, none⟩)]) ∧ w' = (w.alloc (.cells #[.slice A n cap] 22)).alloc (.cells #[.int .u64 r] 23) := by
  refine callsIn_of_wp Try.func22 rfl trivial ?_ rfl
  simp only [Try.ntmps22, List.size_toArray, List.length_cons, List.length_nil, Nat.reduceAdd, Nat.reduceSub, Array.replicate_succ, Array.replicate_zero, List.push_toArray, List.append_toArray, List.nil_append, List.cons_append]
  gi_wp2
  go_ret
  exact ⟨by simp, rfl⟩
theorem exc_stops (m c : Nat) (A : Option Addr) (n cap : Nat) (L : List Sm) (r : Nat) (w : World) (hn : n ≤ 1048576) (hg : cuGood L n) (hr : r ≤ 18446744073709551615) (hmc : m ≤ c) (hA : ∀ b o, A = some ⟨b, o, none⟩ → 0 < n → b < m)
    (hcW : c + 2 ≤ w.heap.size) (hbox : ArrV 22 w c [.slice A n cap]) (hrate : ArrV 23 w (c + 1) [.int .u64 r]) (hrow : SmRow w A n L) :
    SeqFree Fence.wide 4 Try.prog 38 #[.pointer (some ⟨c, 0, none⟩), .pointer (some ⟨c + 1, 0, none⟩)] (excEnc L r n) (KpR m c) (fun ys => excIxs ys = List.range n) (fun pre => excIxs pre = List.range pre.length) n w :=
  fun l J Jx W hb hs hJ hJx hY h0 => exc1_in l m c A n cap L r hn hg hr hmc hA J Jx W (by omega) (hbox.below hb) (hrate.below hb) (hrow.below hb) hJ h0 hY

set_option maxRecDepth 10000 in
set_option maxHeartbeats 4000000 in
theorem cbegin_any (A : Option Addr) (n cap : Nat) (L : List Sm) (r m : Nat) (w : World) (hn : n ≤ 1048576) (h0 : 0 < n) (hg : cuGood L n) (hr : r ≤ 18446744073709551615) (hm : m < w128) (hA : SmRow w A n L) :
    Calls Try.prog 23 #[.slice A n cap, .int .u64 r, .agg #[.int .u64 (whi m : Nat), .int .u64 (wlo m : Nat)]] w fun e w' => ∃ f : Nat, e = .returned (.int .i64 (f : Int)) ∧ BegTo L r m (n - 1) 0 f ∧ Below w.heap.size w w' := by
  have CT0 := Lib.hid (fun w' (h : SmRow w' A n L) => ctimes_any A n cap L w' hn h)
  have hlL := hA.1
  have hT := fun k => rtRun_word2 (smT_word hA) k
  obtain ⟨l, hl⟩ : ∃ l, n = l + 1 := ⟨n - 1, by omega⟩
  rw [show n - 1 = l by omega]
  obtain ⟨bb, o, rfl, hbb, hc⟩ := hA.addr h0
  obtain ⟨mx, hmx⟩ : ∃ x, x = whi m := ⟨_, rfl⟩
  obtain ⟨my, hmy⟩ : ∃ x, x = wlo m := ⟨_, rfl⟩
  rw [← hmx, ← hmy]
  go_enter Try.func23, Try.ntmps23
  have K0 := Lib.hid (KV.one w 42 [.int .u64 mx, .int .u64 my])
  have HA0 := Lib.hid (hA.below K0.out.bel)
  have HBB := Lib.hid hbb
  have ul := cu_last hl (by omega)
  have HMX : Hid (mx = whi m ∧ my = wlo m) := ⟨hmx, hmy⟩
  have HNN := Lib.hid hn
  have HRR := Lib.hid hr
  have HMM := Lib.hid hm
  have HLL := Lib.hid hl
  have HTT0 := Lib.hid hT
  clear hbb hmx hmy hn hr hm hl hT
  go_upto_region 2 with (first | (go_at_call 33; refine (CT0.out _ HA0.out).mono ?_; rintro e w1 ⟨v, rfl, ho, hb⟩) | fail)
  obtain ⟨ga, cp, cur, A5, rfl, hat⟩ := ho.arr0 n (by rw [rtRun_len, smT_len, hlL])
  obtain ⟨rfl, hga, hcA, hcur0⟩ := hat h0
  have hcur : ∀ i, i < n → cur[i]? = some (.int .u64 (cuT L i : Nat)) := fun i hi => by
    have := hcur0 i hi
    rw [rtRun_get (by rw [smT_len, hlL]; exact hi)] at this
    exact this
  have K1 : Hid (KV w [(42, w.heap.size, [.int .u64 mx, .int .u64 my]), (23, ga, cur)] w1) := by
    have k := K0.out.below hb
    refine kv_two (k.at 0 rfl) hcA (Nat.le_refl _) ?_ ?_ k.bel
    · simp at hga; omega
    · simp at hga; omega
  have K2 := Lib.hid (K1.out.new 42 [.int .u64 0, .int .u64 0])
  clear ho hb hat hcur0 hcA hga K0 K1 HA0 CT0
  go_wp2_with fail
  generalize w1.heap.size = g10 at *
  rw [ul]
  go_loopw [9, 11] (fun vf vi wr => ∃ q a b f : Nat, q ≤ n ∧ (∃ z : Int, Hid (z = (q : Int) - 1) ∧ vi = .int .i64 z) ∧ vf = .int .i64 (f : Int) ∧ Hid (BegTo L r m l q f) ∧ Hid (a = whi (1000000000 * (cuTo L n - cuTo L q)) ∧ b = wlo (1000000000 * (cuTo L n - cuTo L q))) ∧ KV w [(42, w.heap.size, [.int .u64 mx, .int .u64 my]), (23, ga, cur), (42, g10, [.int .u64 a, .int .u64 b])] wr) (fun _ vi wr => (intOf vi + 1).toNat)
  case atStart => exact ⟨n, 0, 0, l, Nat.le_refl _, ⟨_, (by rw [HLL.out]; omega : (l : Int) = (n : Int) - 1), rfl⟩, rfl, by rw [HLL.out]; exact beg_start, (⟨by simp [whi], by simp [wlo]⟩ : 0 = whi (1000000000 * (cuTo L n - cuTo L n)) ∧ 0 = wlo (1000000000 * (cuTo L n - cuTo L n))), K2.out⟩
  case round =>
    clear K2
    obtain ⟨q, a, b, f, hq, ⟨zz, hzz, rfl⟩, rfl, hB, hab, hK⟩ := hrel
    by_cases hq0 : q = 0
    · have hzi : ¬ (0 : Int) ≤ zz := by have := hzz.out; omega
      subst hq0
      clear hq hzz
      go_wp2_with fail
      go_ret
      exact ⟨f, rfl, hB.out, hK.bel⟩
    · have hn := HNN.out
      have hr := HRR.out
      have hm := HMM.out
      have hl := HLL.out
      have hT := HTT0.out
      obtain ⟨p, rfl⟩ : ∃ p, q = p + 1 := ⟨q - 1, by omega⟩
      obtain rfl : zz = (p : Int) := by have := hzz.out; omega
      have hlt : p < n := by omega
      have q1 := (hc p hlt).2
      obtain ⟨z, hz⟩ : ∃ z, z = (L.getD p sm0).size := ⟨_, rfl⟩
      rw [← hz] at q1
      have hgk := hg p hlt
      rw [← hz] at hgk
      obtain ⟨s, hs⟩ : ∃ s, s = z.toNat := ⟨_, rfl⟩
      have HZ := Lib.hid (cu_size hs hgk.1 hgk.2)
      have hsk : s = cuS L p := by rw [hs, hz]; rfl
      have hby := beg_bytes hg hn hlt
      rw [← hsk] at hby
      obtain ⟨B1, hB1⟩ : ∃ x, x = 1000000000 * (cuTo L n - cuTo L (p + 1)) := ⟨_, rfl⟩
      obtain ⟨B0, hB0⟩ : ∃ x, x = 1000000000 * (cuTo L n - cuTo L p) := ⟨_, rfl⟩
      rw [← hB1, ← hB0] at hby
      have habx := hab.out
      rw [← hB1] at habx
      obtain ⟨t1, ht1⟩ : ∃ x, x = cuT L l := ⟨_, rfl⟩
      obtain ⟨t0, ht0⟩ : ∃ x, x = cuT L p := ⟨_, rfl⟩
      obtain ⟨d, hd⟩ : ∃ x, x = t1 - t0 := ⟨_, rfl⟩
      have h1 : t1 < 18446744073709551616 := by rw [ht1]; exact hT _
      have h01 : t0 ≤ t1 := by rw [ht0, ht1]; exact cuT_mono L (by omega)
      have HC1 := Lib.hid (hcur l (by omega))
      have HC0 := Lib.hid (hcur p hlt)
      rw [← ht1] at HC1
      rw [← ht0] at HC0
      have HD := Lib.hid (cu_gap hd h01 h1)
      obtain ⟨M, hM⟩ : ∃ x, x = r * d := ⟨_, rfl⟩
      have hM1 : M < w128 := by rw [hM]; exact prod_lt hr (by omega)
      have hover : cuOver L r p l = B0 - M := by
        have h := beg_over (L := L) (r := r) (n := n) (p := p) h0
        rw [show n - 1 = l by omega] at h
        rw [h, hB0, hM, hd, ht1, ht0]
      obtain ⟨nx, hnx⟩ : ∃ x, x = whi (1000000000 * s) := ⟨_, rfl⟩
      obtain ⟨ny, hny⟩ : ∃ x, x = wlo (1000000000 * s) := ⟨_, rfl⟩
      obtain ⟨x, hx⟩ : ∃ x, x = whi B0 := ⟨_, rfl⟩
      obtain ⟨y, hy⟩ : ∃ x, x = wlo B0 := ⟨_, rfl⟩
      obtain ⟨ux, hux⟩ : ∃ x, x = whi M := ⟨_, rfl⟩
      obtain ⟨uy, huy⟩ : ∃ x, x = wlo M := ⟨_, rfl⟩
      obtain ⟨lx, hlx⟩ : ∃ x, x = whi (B0 - M) := ⟨_, rfl⟩
      obtain ⟨ly, hly⟩ : ∃ x, x = wlo (B0 - M) := ⟨_, rfl⟩
      obtain ⟨tt, htt⟩ : ∃ x, x = decide (m < B0 - M) := ⟨_, rfl⟩
      have CN : Hid (∀ w, Calls Try.prog 19 #[.int .u64 1000000000, .int .u64 s] w fun e w' => e = .returned (.agg #[.int .u64 nx, .int .u64 ny]) ∧ Below w.heap.size w w') := by rw [hnx, hny]; exact fun w => mul_any 1000000000 s w (by decide) (by omega)
      have CA : Hid (∀ w, Calls Try.prog 18 #[.agg #[.int .u64 a, .int .u64 b], .agg #[.int .u64 nx, .int .u64 ny]] w fun e w' => e = .returned (.tuple #[.agg #[.int .u64 x, .int .u64 y], .bool false]) ∧ Below w.heap.size w w') := by
        have h := fun w => add_nums B1 (1000000000 * s) B0 w hby.2.1 hby.2.2.1 hby.1
        rw [decide_eq_false (Nat.not_le.2 hby.2.2.2), ← hx, ← hy, ← hnx, ← hny, ← habx.1, ← habx.2] at h
        exact h
      have CM : Hid (∀ w, Calls Try.prog 19 #[.int .u64 r, .int .u64 d] w fun e w' => e = .returned (.agg #[.int .u64 ux, .int .u64 uy]) ∧ Below w.heap.size w w') := by rw [hux, huy, hM]; exact fun w => mul_any r d w hr (by omega)
      have CL : Hid (∀ w, Calls Try.prog 39 #[.agg #[.int .u64 x, .int .u64 y], .agg #[.int .u64 ux, .int .u64 uy]] w fun e w' => e = .returned (.agg #[.int .u64 lx, .int .u64 ly]) ∧ Below w.heap.size w w') := by rw [hx, hy, hux, huy, hlx, hly]; exact fun w => cless_any B0 M w hby.2.2.2 hM1
      have CT : Hid (∀ w, Calls Try.prog 20 #[.agg #[.int .u64 mx, .int .u64 my], .agg #[.int .u64 lx, .int .u64 ly]] w fun e w' => e = .returned (.bool tt) ∧ Below w.heap.size w w') := by rw [HMX.out.1, HMX.out.2, hlx, hly, htt]; exact fun w => less_nums m (B0 - M) w hm (Nat.lt_of_le_of_lt (Nat.sub_le _ _) hby.2.2.2)
      have HAB : Hid (x = whi (1000000000 * (cuTo L n - cuTo L p)) ∧ y = wlo (1000000000 * (cuTo L n - cuTo L p))) := by rw [← hB0]; exact ⟨hx, hy⟩
      have HLT := Lib.hid hlt
      have HLN : Hid (l < n) := (by omega : l < n)
      have hpi : (0 : Int) ≤ (p : Int) := by omega
      have Q1 := Lib.hid q1
      have HK := Lib.hid hK
      have HTT : Hid (tt = decide (m < cuOver L r p l)) := by rw [hover]; exact htt
      have up := cu_less (p := p) rfl (by omega)
      have HPL : Hid (p ≤ l) := (by omega : p ≤ l)
      clear hn hr hm hl hT hK hq hq0 q1 hz hs hgk hsk hby hB1 hB0 habx hab ht1 ht0 hd h1 h01 hM hM1 hover hnx hny hx hy hux huy hlx hly htt hzz
      go_upto_region 8 with fail
      refine wp_region_put (C0 := KV w [(42, w.heap.size, [.int .u64 mx, .int .u64 my]), (23, ga, cur), (42, g10, [.int .u64 a, .int .u64 b])]) (C1 := KV w [(42, w.heap.size, [.int .u64 mx, .int .u64 my]), (23, ga, cur), (42, g10, [.int .u64 x, .int .u64 y])]) [some (.agg #[.int .u64 a, .int .u64 b]), some (.slice (some ⟨bb, o, none⟩) n cap), some (.int .i64 (p : Int)), some (.pointer (some ⟨bb, o + p * 2, none⟩)), some (.pointer (some ⟨bb, o + p * 2 + 1, none⟩)), some (.int .i64 z), some (.int .u64 s), some (.agg #[.int .u64 nx, .int .u64 ny]), some (.tuple #[.agg #[.int .u64 x, .int .u64 y], .bool false]), some (.tuple #[.agg #[.int .u64 x, .int .u64 y], .bool false]), some (.agg #[.int .u64 x, .int .u64 y]), some (.bool false), none] 12 [0, 1, 2, 3, 4, 5, 6, 7, 8, 9, 10] (by kernel_rfl) (by kernel_rfl) HK.out.drew ?_ (fun V8 hV8 => ?_)
      · clear HK
        refine putWalk_quiet rfl (fun W hw' => quietAt_part (off := 0) (n := 2) (vs := [.int .u64 a, .int .u64 b]) rfl rfl tywide2 (hw'.at 2 rfl) rfl rfl) (fun hna => absurd hna (by decide)) ?_
        simp only [Act.put, List.setIfInBounds_toArray, List.set_cons_zero, List.set_cons_succ]
        refine putWalk_quiet rfl (fun W hw' => quietAt_run (by simp [go_sem])) (fun hna => absurd hna (by decide)) ?_
        simp only [Act.put, List.setIfInBounds_toArray, List.set_cons_zero, List.set_cons_succ]
        refine putWalk_quiet rfl (fun W hw' => quietAt_run (by simp [go_sem])) (fun hna => absurd hna (by decide)) ?_
        simp only [Act.put, List.setIfInBounds_toArray, List.set_cons_zero, List.set_cons_succ]
        refine putWalk_quiet rfl (fun W hw' => quietAt_run (by simp [go_sem, HLT.out])) (fun hna => absurd hna (by decide)) ?_
        simp only [Act.put, List.setIfInBounds_toArray, List.set_cons_zero, List.set_cons_succ]
        refine putWalk_quiet rfl (fun W hw' => quietAt_run (by simp [go_sem])) (fun hna => absurd hna (by decide)) ?_
        simp only [Act.put, List.setIfInBounds_toArray, List.set_cons_zero, List.set_cons_succ]
        refine putWalk_quiet rfl (fun W hw' => quietAt_low rfl rfl one_int ((hw'.bel.cell (p := ⟨bb, o + p * 2 + 1, none⟩) HBB.out).trans Q1.out)) (fun hna => absurd hna (by decide)) ?_
        simp only [Act.put, List.setIfInBounds_toArray, List.set_cons_zero, List.set_cons_succ]
        refine putWalk_quiet rfl (fun W hw' => quietAt_run (by simp [go_sem, HZ.out])) (fun hna => absurd hna (by decide)) ?_
        simp only [Act.put, List.setIfInBounds_toArray, List.set_cons_zero, List.set_cons_succ]
        refine putWalk_quiet rfl (fun W hw' => quietAt_call (f := 19) (args := #[.int .u64 1000000000, .int .u64 s]) (by simp [go_sem]) ((CN.out W).mono fun e w'' h => ⟨h.1, hw'.below h.2⟩)) (fun hna => absurd hna (by decide)) ?_
        simp only [Act.put, List.setIfInBounds_toArray, List.set_cons_zero, List.set_cons_succ]
        refine putWalk_quiet rfl (fun W hw' => quietAt_call (f := 18) (args := #[.agg #[.int .u64 a, .int .u64 b], .agg #[.int .u64 nx, .int .u64 ny]]) (by simp [go_sem]) ((CA.out W).mono fun e w'' h => ⟨h.1, hw'.below h.2⟩)) (fun hna => absurd hna (by decide)) ?_
        simp only [Act.put, List.setIfInBounds_toArray, List.set_cons_zero, List.set_cons_succ]
        refine putWalk_quiet rfl (fun W hw' => quietAt_run (by simp [go_sem])) (fun hna => absurd hna (by decide)) ?_
        simp only [Act.put, List.setIfInBounds_toArray, List.set_cons_zero, List.set_cons_succ]
        refine putWalk_quiet rfl (fun W hw' => quietAt_run (by simp [go_sem])) (fun hna => absurd hna (by decide)) ?_
        simp only [Act.put, List.setIfInBounds_toArray, List.set_cons_zero, List.set_cons_succ]
        refine putWalk_quiet rfl (fun W hw' => quietAt_run (by simp [go_sem])) (fun hna => fun W hw' => quietAt_run (by simp [go_sem])) ?_
        simp only [Act.put, List.setIfInBounds_toArray, List.set_cons_zero, List.set_cons_succ]
        refine putWalk_put rfl (put_store 2 rfl rfl rfl rfl tywide2 rfl rfl (by simp [Value.oneCell'])) ?_
        trivial
      have K8 := Lib.hid hV8
      clear hV8 HK
      simp only [List.length_cons, List.length_nil, lexAct, pval, toK, List.map_cons, List.map_nil, List.getElem?_cons_zero, List.getElem?_cons_succ, Option.bind_some, Act.put, List.setIfInBounds_toArray, List.set_cons_zero, List.set_cons_succ]
      go_upto_region 9 with fail
      refine wp_region_par (w := w) [.quiet (.agg #[.int .u64 mx, .int .u64 my]), .quiet (.agg #[.int .u64 x, .int .u64 y]), .quiet (.int .u64 r), .quiet (.slice (some ⟨ga, 0, none⟩) n cp), .quiet (.int .i64 (l : Int)), .quiet (.pointer (some ⟨ga, l, none⟩)), .quiet (.int .u64 t1), .quiet (.slice (some ⟨ga, 0, none⟩) n cp), .quiet (.int .i64 (p : Int)), .quiet (.pointer (some ⟨ga, p, none⟩)), .quiet (.int .u64 t0), .quiet (.int .u64 d), .quiet (.agg #[.int .u64 ux, .int .u64 uy]), .quiet (.agg #[.int .u64 lx, .int .u64 ly]), .quiet (.bool tt)] [(42, w.heap.size, [.int .u64 mx, .int .u64 my]), (23, ga, cur), (42, g10, [.int .u64 x, .int .u64 y])] (by kernel_rfl) (by kernel_rfl) K8.out.drew (fun bk => ?_) ?_
      · clear K8
        refine pWalk_quiet rfl (fun E W hw' => quietAt_part (off := 0) (n := 2) (vs := [.int .u64 mx, .int .u64 my]) rfl rfl tywide2 (hw'.at 0 rfl) rfl rfl) ?_
        simp only [Act.put, List.setIfInBounds_toArray, List.set_cons_zero, List.set_cons_succ]
        refine pWalk_quiet rfl (fun E W hw' => quietAt_part (off := 0) (n := 2) (vs := [.int .u64 x, .int .u64 y]) rfl rfl tywide2 (hw'.at 2 rfl) rfl rfl) ?_
        simp only [Act.put, List.setIfInBounds_toArray, List.set_cons_zero, List.set_cons_succ]
        refine pWalk_quiet rfl (fun E W hw' => quietAt_run (by simp [go_sem])) ?_
        simp only [Act.put, List.setIfInBounds_toArray, List.set_cons_zero, List.set_cons_succ]
        refine pWalk_quiet rfl (fun E W hw' => quietAt_run (by simp [go_sem])) ?_
        simp only [Act.put, List.setIfInBounds_toArray, List.set_cons_zero, List.set_cons_succ]
        refine pWalk_quiet rfl (fun E W hw' => quietAt_run (by simp [go_sem])) ?_
        simp only [Act.put, List.setIfInBounds_toArray, List.set_cons_zero, List.set_cons_succ]
        refine pWalk_quiet rfl (fun E W hw' => quietAt_run (by simp [go_sem, HLN.out])) ?_
        simp only [Act.put, List.setIfInBounds_toArray, List.set_cons_zero, List.set_cons_succ]
        refine pWalk_quiet rfl (fun E W hw' => quietAt_cell (j := l) rfl rfl one_w64 (hw'.at 1 rfl) HC1.out) ?_
        simp only [Act.put, List.setIfInBounds_toArray, List.set_cons_zero, List.set_cons_succ]
        refine pWalk_quiet rfl (fun E W hw' => quietAt_run (by simp [go_sem])) ?_
        simp only [Act.put, List.setIfInBounds_toArray, List.set_cons_zero, List.set_cons_succ]
        refine pWalk_quiet rfl (fun E W hw' => quietAt_run (by simp [go_sem])) ?_
        simp only [Act.put, List.setIfInBounds_toArray, List.set_cons_zero, List.set_cons_succ]
        refine pWalk_quiet rfl (fun E W hw' => quietAt_run (by simp [go_sem, HLT.out])) ?_
        simp only [Act.put, List.setIfInBounds_toArray, List.set_cons_zero, List.set_cons_succ]
        refine pWalk_quiet rfl (fun E W hw' => quietAt_cell (j := p) rfl rfl one_w64 (hw'.at 1 rfl) HC0.out) ?_
        simp only [Act.put, List.setIfInBounds_toArray, List.set_cons_zero, List.set_cons_succ]
        refine pWalk_quiet rfl (fun E W hw' => quietAt_run (by simp [go_sem, HD.out])) ?_
        simp only [Act.put, List.setIfInBounds_toArray, List.set_cons_zero, List.set_cons_succ]
        refine pWalk_quiet rfl (fun E W hw' => quietAt_call (f := 19) (args := #[.int .u64 r, .int .u64 d]) (by simp [go_sem]) ((CM.out W).mono fun e w'' h => ⟨h.1, hw'.below h.2⟩)) ?_
        simp only [Act.put, List.setIfInBounds_toArray, List.set_cons_zero, List.set_cons_succ]
        refine pWalk_quiet rfl (fun E W hw' => quietAt_call (f := 39) (args := #[.agg #[.int .u64 x, .int .u64 y], .agg #[.int .u64 ux, .int .u64 uy]]) (by simp [go_sem]) ((CL.out W).mono fun e w'' h => ⟨h.1, hw'.below h.2⟩)) ?_
        simp only [Act.put, List.setIfInBounds_toArray, List.set_cons_zero, List.set_cons_succ]
        refine pWalk_quiet rfl (fun E W hw' => quietAt_call (f := 20) (args := #[.agg #[.int .u64 mx, .int .u64 my], .agg #[.int .u64 lx, .int .u64 ly]]) (by simp [go_sem]) ((CT.out W).mono fun e w'' h => ⟨h.1, hw'.below h.2⟩)) ?_
        simp only [Act.put, List.setIfInBounds_toArray, List.set_cons_zero, List.set_cons_succ]
        trivial
      intro bk κ E V9 hK9 hB9
      have K9 : Hid (KV w [(42, w.heap.size, [.int .u64 mx, .int .u64 my]), (23, ga, cur), (42, g10, [.int .u64 x, .int .u64 y])] V9) := hK9.pick [0, 1, 2] (by decide) rfl (fun q hq => by simp at hq; rcases hq with rfl | rfl | rfl <;> rfl)
      clear hK9 hB9 K8
      simp only [List.length_cons, List.length_nil, lexAct, pval, toK, List.map_cons, List.map_nil, List.getElem?_cons_zero, List.getElem?_cons_succ, Option.bind_some, Act.put, List.setIfInBounds_toArray, List.set_cons_zero, List.set_cons_succ]
      cases tt with
      | true =>
        have HBG := Lib.hid (beg_yes hB.out HPL.out (of_decide_eq_true HTT.out.symm))
        go_wp2_with fail
        go_roundw
        case rel => exact ⟨p, x, y, p, by have := HLT.out; omega, ⟨_, rfl, by rw [up]⟩, rfl, HBG.out, HAB.out, K9.out⟩
        case measure => rw [up]; simp [intOf]
      | false =>
        have HBG := Lib.hid (beg_no hB.out HPL.out (of_decide_eq_false HTT.out.symm))
        go_wp2_with fail
        go_roundw
        case rel => exact ⟨p, x, y, f, by have := HLT.out; omega, ⟨_, rfl, by rw [up]⟩, rfl, HBG.out, HAB.out, K9.out⟩
        case measure => rw [up]; simp [intOf]
end Go.Proofs.Ytemgnaalmgkfiaa
