/-
  The contract of prefix's Check.
-/
import Derived.Test.YtaicmadeobglfaaDoorPfPlain
import Derived.Test.YtaicmadeobglfaaDoorKv
namespace Go.Proofs.YtaicmadeobglfaaDoor
open Go.RowKit
set_option linter.unusedVariables false

/-- A prefix as its cells. -/
def pcells (V : Int) (X : List Nat) (n : Int) : List Value := .int .i64 V :: bcells X ++ [.int .i64 n]
/-- What is wrong with a prefix. -/
def pcheck (V : Int) (X : List Nat) (n : Int) : Int := if pfits V n ≠ 0 then pfits V n else if keepB X n.toNat = X then 0 else 5
theorem pfits_ok {V n : Int} (h : pfits V n = 0) : 0 ≤ n ∧ n ≤ 128 := by
  unfold pfits at h
  split at h
  · simp at h
  · split at h
    · simp at h
    · rename_i h1 h2
      have h3 : psz V ≤ 128 := by unfold psz; split <;> decide
      have h4 : ¬ n < 0 := fun e => h2 (.inl e)
      have h5 : ¬ psz V < n := fun e => h2 (.inr e)
      omega
/-- Its parts. -/
structure PcParts (V : Int) (X : List Nat) (n : Int) (P : List Value) : Prop where
  len : P.length = 18
  all : (P.drop 0).take 18 = P
  v : P[0]? = some (.int .i64 V)
  addr : (P.drop 1).take 16 = bcells X
  n : P[17]? = some (.int .i64 n)
  one : ∀ v ∈ P, v.oneCell' = true
theorem pc_parts (V : Int) {X : List Nat} (n : Int) (hX : X.length = 16) : PcParts V X n (pcells V X n) := by
  obtain ⟨a, b, c, d, e, f, g, h, i, j, k, l, m, n', o, p, rfl⟩ := split16 hX
  exact ⟨rfl, rfl, rfl, rfl, rfl, by simp [pcells, bcells, Value.oneCell']⟩
theorem typfx : RowTy 24 18 := ⟨⟨_, Tryd.underlying24, rfl⟩, by kernel_rfl⟩
set_option maxRecDepth 10000 in
set_option maxHeartbeats 3200000 in
theorem pcheck_any (V : Int) (X : List Nat) (n : Int) (w : World) (hX : Adr X) : Calls Tryd.prog 11 #[.agg (pcells V X n).toArray] w fun e w' => e = .returned (.int .i64 (pcheck V X n)) ∧ Below w.heap.size w w' := by
  have CF := Lib.hid (fun w => pfits_any V n w)
  have HP := Lib.hid (pc_parts V n hX.len)
  have hs16 : (bcells X).length = 16 := by rw [bcells_length, hX.len]
  obtain ⟨P, hP⟩ : ∃ P, P = pcells V X n := ⟨_, rfl⟩
  rw [← hP] at HP ⊢
  have K0 : Hid (KV w [(24, w.heap.size, P)] (w.alloc (.cells P.toArray 24))) := (KV.nil w).new _ _
  have CF' : Hid (∀ w, Calls Tryd.prog 21 #[.int .i64 V, .int .i64 n] w fun e w' => e = .returned (.int .i64 (pfits V n)) ∧ Below w.heap.size w w') := fun w => (CF.out w).mono fun e w' ⟨h1, h2⟩ => ⟨h1, by subst h2; exact Below.refl _ _⟩
  clear CF hP
  by_cases hf : pfits V n = 0
  · obtain ⟨hn0, hn1⟩ := pfits_ok hf
    obtain ⟨m, hm⟩ := Int.eq_ofNat_of_zero_le hn0
    have CK : Hid (∀ w, Calls Tryd.prog 13 #[.agg (bcells X).toArray, .int .i64 n] w fun e w' => e = .returned (.agg (bcells (keepB X m)).toArray) ∧ Below w.heap.size w w') := fun w => by
      rw [hm]; exact pkeep_any X m w hX.len hX.lt (by omega)
    have HF : Hid (pcheck V X n = if keepB X m = X then 0 else 5) := by show _ = _; unfold pcheck; rw [if_neg (by rw [hf]; simp), hm]; rfl
    have hq := Lib.hid (same_nat Tryd.underlying22 (keepB X m) X (keepB_len X m) hX.len)
    rw [hf] at CF'
    clear hf hn0 hn1 hm hX
    generalize keepB X m = K at *
    by_cases hk : K = X
    · have HF : Hid (pcheck V X n = 0) := by show _ = _; rw [HF.out, if_pos hk]
      rw [decide_eq_true hk] at hq
      clear hk
      go_enter Tryd.func11, Tryd.ntmps11
      go_upto_region 1 with fail
      refine wp_region_lit ?_
      refine wpList_quiet_all (C := KV w [(24, w.heap.size, P)]) K0.out ?_
      repeat (first
        | go_big_quiet_skip
        | (go_big_quiet_want; apply Exists.intro; refine ⟨fun w' hw' => (by first | exact quietAt_cell rfl rfl one_int (hw'.at 0 rfl) HP.out.v | exact quietAt_cell rfl rfl one_int (hw'.at 0 rfl) HP.out.n | exact quietAt_part rfl rfl ty16 (hw'.at 0 rfl) HP.out.addr hs16 | fail), ?_⟩; simp only [Act.put, List.setIfInBounds_toArray, List.set_cons_zero, List.set_cons_succ]; go_big_quiet_on)
        | (go_big_quiet_want; go_big_quiet_op; go_big_quiet_on)
        | (go_big_quiet_want; go_big_quiet_op; apply Exists.intro; refine ⟨fun w' hw' => (by first | (refine (CF'.out w').mono ?_; rintro e w'' ⟨rfl, hb⟩; exact ⟨rfl, hw'.below hb⟩) | fail), ?_⟩; go_big_quiet_on)
        | (go_big_quiet_want; go_big_quiet_op; apply Exists.intro; refine ⟨fun w' hw' => rfl, ?_⟩; go_big_quiet_on))
      refine wpQuiet_nil ?_
      intro w1 hw1
      go_wp2_with fail
      go_upto_region 4 with fail
      refine wp_quiet_kv (C := KV w [(24, w.heap.size, P)]) (by kernel_rfl) (by kernel_rfl) hw1.drew ?_
      repeat (first
        | go_big_quiet_skip
        | (go_big_quiet_want; apply Exists.intro; refine ⟨fun w' hw' => (by first | exact quietAt_cell rfl rfl one_int (hw'.at 0 rfl) HP.out.v | exact quietAt_cell rfl rfl one_int (hw'.at 0 rfl) HP.out.n | exact quietAt_part rfl rfl ty16 (hw'.at 0 rfl) HP.out.addr hs16 | exact quietAt_nn rfl rfl rfl guard16 hq.out | exact quietAt_ne rfl rfl rfl guard16 hq.out | fail), ?_⟩; simp only [Act.put, List.setIfInBounds_toArray, List.set_cons_zero, List.set_cons_succ]; go_big_quiet_on)
        | (go_big_quiet_want; go_big_quiet_op; go_big_quiet_on)
        | (go_big_quiet_want; go_big_quiet_op; apply Exists.intro; refine ⟨fun w' hw' => (by first | (refine (CK.out w').mono ?_; rintro e w'' ⟨rfl, hb⟩; exact ⟨rfl, hw'.below hb⟩) | fail), ?_⟩; go_big_quiet_on)
        | (go_big_quiet_want; go_big_quiet_op; apply Exists.intro; refine ⟨fun w' hw' => rfl, ?_⟩; go_big_quiet_on))
      refine wpQuiet_nil ?_
      intro w2 hw2
      have BB := Lib.hid hw2.bel
      clear hw2 hw1 K0
      go_wp2_with fail
      go_ret
      exact ⟨by rw [HF.out]; rfl, BB.out⟩
    · have HF : Hid (pcheck V X n = 5) := by show _ = _; rw [HF.out, if_neg hk]
      rw [decide_eq_false hk] at hq
      clear hk
      go_enter Tryd.func11, Tryd.ntmps11
      go_upto_region 1 with fail
      refine wp_region_lit ?_
      refine wpList_quiet_all (C := KV w [(24, w.heap.size, P)]) K0.out ?_
      repeat (first
        | go_big_quiet_skip
        | (go_big_quiet_want; apply Exists.intro; refine ⟨fun w' hw' => (by first | exact quietAt_cell rfl rfl one_int (hw'.at 0 rfl) HP.out.v | exact quietAt_cell rfl rfl one_int (hw'.at 0 rfl) HP.out.n | exact quietAt_part rfl rfl ty16 (hw'.at 0 rfl) HP.out.addr hs16 | fail), ?_⟩; simp only [Act.put, List.setIfInBounds_toArray, List.set_cons_zero, List.set_cons_succ]; go_big_quiet_on)
        | (go_big_quiet_want; go_big_quiet_op; go_big_quiet_on)
        | (go_big_quiet_want; go_big_quiet_op; apply Exists.intro; refine ⟨fun w' hw' => (by first | (refine (CF'.out w').mono ?_; rintro e w'' ⟨rfl, hb⟩; exact ⟨rfl, hw'.below hb⟩) | fail), ?_⟩; go_big_quiet_on)
        | (go_big_quiet_want; go_big_quiet_op; apply Exists.intro; refine ⟨fun w' hw' => rfl, ?_⟩; go_big_quiet_on))
      refine wpQuiet_nil ?_
      intro w1 hw1
      go_wp2_with fail
      go_upto_region 4 with fail
      refine wp_quiet_kv (C := KV w [(24, w.heap.size, P)]) (by kernel_rfl) (by kernel_rfl) hw1.drew ?_
      repeat (first
        | go_big_quiet_skip
        | (go_big_quiet_want; apply Exists.intro; refine ⟨fun w' hw' => (by first | exact quietAt_cell rfl rfl one_int (hw'.at 0 rfl) HP.out.v | exact quietAt_cell rfl rfl one_int (hw'.at 0 rfl) HP.out.n | exact quietAt_part rfl rfl ty16 (hw'.at 0 rfl) HP.out.addr hs16 | exact quietAt_nn rfl rfl rfl guard16 hq.out | exact quietAt_ne rfl rfl rfl guard16 hq.out | fail), ?_⟩; simp only [Act.put, List.setIfInBounds_toArray, List.set_cons_zero, List.set_cons_succ]; go_big_quiet_on)
        | (go_big_quiet_want; go_big_quiet_op; go_big_quiet_on)
        | (go_big_quiet_want; go_big_quiet_op; apply Exists.intro; refine ⟨fun w' hw' => (by first | (refine (CK.out w').mono ?_; rintro e w'' ⟨rfl, hb⟩; exact ⟨rfl, hw'.below hb⟩) | fail), ?_⟩; go_big_quiet_on)
        | (go_big_quiet_want; go_big_quiet_op; apply Exists.intro; refine ⟨fun w' hw' => rfl, ?_⟩; go_big_quiet_on))
      refine wpQuiet_nil ?_
      intro w2 hw2
      have BB := Lib.hid hw2.bel
      clear hw2 hw1 K0
      go_wp2_with fail
      go_ret
      exact ⟨by rw [HF.out]; rfl, BB.out⟩
  · have HF : Hid (pcheck V X n = pfits V n) := by show _ = _; unfold pcheck; rw [if_pos hf]
    have hfb : (pfits V n != 0) = true := by simpa using hf
    clear hf hX
    generalize pfits V n = f at *
    go_enter Tryd.func11, Tryd.ntmps11
    go_upto_region 1 with fail
    refine wp_region_lit ?_
    refine wpList_quiet_all (C := KV w [(24, w.heap.size, P)]) K0.out ?_
    repeat (first
      | go_big_quiet_skip
      | (go_big_quiet_want; apply Exists.intro; refine ⟨fun w' hw' => (by first | exact quietAt_cell rfl rfl one_int (hw'.at 0 rfl) HP.out.v | exact quietAt_cell rfl rfl one_int (hw'.at 0 rfl) HP.out.n | exact quietAt_part rfl rfl ty16 (hw'.at 0 rfl) HP.out.addr hs16 | fail), ?_⟩; simp only [Act.put, List.setIfInBounds_toArray, List.set_cons_zero, List.set_cons_succ]; go_big_quiet_on)
      | (go_big_quiet_want; go_big_quiet_op; go_big_quiet_on)
      | (go_big_quiet_want; go_big_quiet_op; apply Exists.intro; refine ⟨fun w' hw' => (by first | (refine (CF'.out w').mono ?_; rintro e w'' ⟨rfl, hb⟩; exact ⟨rfl, hw'.below hb⟩) | fail), ?_⟩; go_big_quiet_on)
      | (go_big_quiet_want; go_big_quiet_op; apply Exists.intro; refine ⟨fun w' hw' => rfl, ?_⟩; go_big_quiet_on))
    refine wpQuiet_nil ?_
    intro w1 hw1
    have BB := Lib.hid hw1.bel
    clear hw1 K0
    go_wp2_with fail
    go_ret
    exact ⟨by rw [HF.out]; rfl, BB.out⟩
end Go.Proofs.YtaicmadeobglfaaDoor
