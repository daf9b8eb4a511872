/-
  The contract of prefix's Halves.
-/
import Derived.Test.YtaicmadeobglfaaDoorPre6
namespace Go.Proofs.YtaicmadeobglfaaDoor
open Go.RowKit
set_option linter.unusedVariables false

/-- Two results that lie in variables, and one that does not. -/
theorem res_two {P : Program} {fn : Func} {p q u : Tmp} {t1 t2 : TypeId} {tmps : Array Value} {w : World} {a b : Addr} {v1 v2 x : Value} (h : fn.results = #[.cell p t1, .cell q t2, .tmp u]) (hp : tmps.getD p undef = .pointer (some a)) (hq : tmps.getD q undef = .pointer (some b))
    (h1 : (Go.loadVar t1 a).run P w = .ok v1 w) (h2 : (Go.loadVar t2 b).run P w = .ok v2 w) (hx : tmps.getD u undef = x) : (results fn tmps).run P w = .ok (.tuple #[v1, v2, x]) w := by
  have hp' : tmps[p]?.getD undef = .pointer (some a) := by rw [← hp]; simp
  have hq' : tmps[q]?.getD undef = .pointer (some b) := by rw [← hq]; simp
  have hx' : tmps[u]?.getD undef = x := by rw [← hx]; simp
  simp [results, h, asAddr, hp', hq', hx', h1, h2]
/-- Both prefixes of one bit more. -/
def phalfB (V : Int) (X : List Nat) (n : Int) : Bool := decide (pcheck V X n = 0) && !decide (n = psz V)
def plow (V : Int) (X : List Nat) (n : Int) : List Value := if phalfB V X n then pcells V X (n + 1) else pcells 0 zero16 0
def phigh (V : Int) (X : List Nat) (n : Int) : List Value := if phalfB V X n then pcells V (highB X n.toNat) (n + 1) else pcells 0 zero16 0
theorem psz_le (V : Int) : psz V ≤ 128 := by unfold psz; split <;> decide
theorem pfits_le {V n : Int} (h : pfits V n = 0) : n ≤ psz V := by
  unfold pfits at h
  split at h
  · simp at h
  · split at h
    · simp at h
    · rename_i h1 h2; omega
theorem pcells_put {V : Int} {X : List Nat} {n : Int} (hX : X.length = 16) {q : Nat} (hq : q < 16) (y : Nat) : (pcells V X n).set (1 + q) (.int .u8 (y : Nat)) = pcells V (X.set q y) n := by
  unfold pcells
  rw [show 1 + q = q + 1 from Nat.add_comm _ _]
  show Value.int .i64 V :: ((bcells X ++ [Value.int .i64 n]).set q (.int .u8 (y : Nat))) = _
  rw [List.set_append_left _ _ (by rw [bcells_length, hX]; exact hq), bset_cells]
  rfl
theorem pcells_get {V : Int} {X : List Nat} {n : Int} (hX : X.length = 16) {q : Nat} (hq : q < 16) : (pcells V X n)[1 + q]? = some (.int .u8 (X.getD q 0 : Nat)) := by
  unfold pcells
  rw [show 1 + q = q + 1 from Nat.add_comm _ _]
  show (bcells X ++ [Value.int .i64 n])[q]? = _
  rw [List.getElem?_append_left (by rw [bcells_length, hX]; exact hq), bcells_at (by rw [hX]; exact hq)]
theorem quietAt_pfxe {C : World → Prop} {o : Oper} {a : Act} {W : World} {x y z : Operand} {V : Int} {X : List Nat} {n : Int} {R : List Value} (ho : o.op = .build 24 #[(0, x), (1, y), (2, z)]) (hx : a.eval x = .int .i64 V) (hy : a.eval y = .agg (bcells X).toArray) (hz : a.eval z = .int .i64 n) (hX : X.length = 16) (hR : pcells V X n = R) :
    Oper.quietAt Tryd.prog o a C W (.agg R.toArray) := by rw [← hR]; exact quietAt_pfx ho hx hy hz hX
theorem i64_small {q : Nat} (h : q < 1000) : IntKind.i64.wrap (q : Int) = (q : Int) := by
  rw [IntKind.wrap_i64]; omega
theorem half_arith {m : Nat} (h : m < 128) : wrap64 ((m : Int) + 1) = ((m + 1 : Nat) : Int) ∧ ((m : Int).tdiv 8) = ((m / 8 : Nat) : Int) ∧ ((m : Int).tmod 8) = ((m % 8 : Nat) : Int) := by
  refine ⟨wrap_inc (by omega), ?_, ?_⟩
  · rw [Int.tdiv_eq_ediv_of_nonneg (by omega)]; omega
  · rw [Int.tmod_eq_emod_of_nonneg (by omega)]; omega
set_option maxRecDepth 10000 in
set_option maxHeartbeats 6400000 in
theorem phalves_any (V : Int) (X : List Nat) (n : Int) (w : World) (hX : Adr X) : Calls Tryd.prog 5 #[.agg (pcells V X n).toArray] w fun e w' => e = .returned (.tuple #[.agg (plow V X n).toArray, .agg (phigh V X n).toArray, .bool (phalfB V X n)]) ∧ Below w.heap.size w w' := by
  have HP := Lib.hid (pc_parts V n hX.len)
  have hs16 : (bcells X).length = 16 := by rw [bcells_length, hX.len]
  have CC := Lib.hid (fun w => pcheck_any V X n w hX)
  have CS : Hid (∀ w, Calls Tryd.prog 12 #[.int .i64 V] w fun e w' => e = .returned (.int .i64 (psz V)) ∧ Below w.heap.size w w') := fun w => (psize_any V w).mono fun e w' ⟨h1, h2⟩ => ⟨h1, by subst h2; exact Below.refl _ _⟩
  obtain ⟨P, hP⟩ : ∃ P, P = pcells V X n := ⟨_, rfl⟩
  rw [← hP] at HP CC ⊢
  have K0 : Hid (KV w [(24, w.heap.size, P), (24, w.heap.size + 1, pcells 0 zero16 0), (24, w.heap.size + 2, pcells 0 zero16 0)] (((w.alloc (.cells P.toArray 24)).alloc (.cells (pcells 0 zero16 0).toArray 24)).alloc (.cells (pcells 0 zero16 0).toArray 24))) := KV.three w _ _ _ _ _ _
  clear hP
  by_cases hc : pcheck V X n = 0
  · by_cases hn : n = psz V
    · have hnb : (n == psz V) = true := by simpa using hn
      have hb : phalfB V X n = false := by unfold phalfB; simp [hn]
      have HF : Hid (plow V X n = pcells 0 zero16 0 ∧ phigh V X n = pcells 0 zero16 0) := by show _ ∧ _; unfold plow phigh; rw [hb]; exact ⟨rfl, rfl⟩
      rw [HF.out.1, HF.out.2, hb]
      have HF : Hid (True) := trivial
      rw [hc] at CC
      clear hc hX hn hb
      generalize psz V = z at *
      go_enter Tryd.func5, Tryd.ntmps5
      go_upto_region 1 with fail
      refine wp_quiet_kv (C := KV w [(24, w.heap.size, P), (24, w.heap.size + 1, pcells 0 zero16 0), (24, w.heap.size + 2, pcells 0 zero16 0)]) (by kernel_rfl) (by kernel_rfl) K0.out.drew ?_
      repeat (first
        | go_big_quiet_skip
        | (go_big_quiet_want; apply Exists.intro; refine ⟨fun w' hw' => (by first | exact quietAt_part rfl rfl typfx (hw'.at 0 rfl) HP.out.all HP.out.len | exact quietAt_cell rfl rfl one_int (hw'.at 0 rfl) HP.out.v | exact quietAt_cell rfl rfl one_int (hw'.at 0 rfl) HP.out.n | exact quietAt_part rfl rfl ty16 (hw'.at 0 rfl) HP.out.addr hs16 | fail), ?_⟩; simp only [Act.put, List.setIfInBounds_toArray, List.set_cons_zero, List.set_cons_succ]; go_big_quiet_on)
        | (go_big_quiet_want; go_big_quiet_op; go_big_quiet_on)
        | (go_big_quiet_want; go_big_quiet_op; apply Exists.intro; refine ⟨fun w' hw' => (by first | (with_reducible refine (CC.out w').mono ?_; rintro e w'' ⟨rfl, hb⟩; exact ⟨rfl, hw'.below hb⟩) | (with_reducible refine (CS.out w').mono ?_; rintro e w'' ⟨rfl, hb⟩; exact ⟨rfl, hw'.below hb⟩) | fail), ?_⟩; go_big_quiet_on)
        | (go_big_quiet_want; go_big_quiet_op; apply Exists.intro; refine ⟨fun w' hw' => rfl, ?_⟩; go_big_quiet_on))
      refine wpQuiet_nil ?_
      intro w1 hw1
      obtain ⟨ZZ, hZZ⟩ : ∃ Z, Z = pcells 0 zero16 0 := ⟨_, rfl⟩
      have HZ : Hid (Value.agg #[.int .i64 0, .int .u8 0, .int .u8 0, .int .u8 0, .int .u8 0, .int .u8 0, .int .u8 0, .int .u8 0, .int .u8 0, .int .u8 0, .int .u8 0, .int .u8 0, .int .u8 0, .int .u8 0, .int .u8 0, .int .u8 0, .int .u8 0, .int .i64 0] = .agg ZZ.toArray) := by show _ = _; rw [hZZ]; rfl
      have HZl : Hid (ZZ.length = 18) := by show _ = _; rw [hZZ]; rfl
      have HZo : Hid (∀ v ∈ ZZ, v.oneCell' = true) := by show ∀ v ∈ ZZ, v.oneCell' = true; rw [hZZ]; exact zero18_one
      have h1 := Lib.hid (hw1.store 1 rfl ZZ (by rw [HZl.out]; rfl))
      have h2 := Lib.hid (h1.out.store 2 rfl ZZ (by rw [HZl.out]; rfl))
      have a1 := Lib.hid (hw1.at 1 rfl)
      have a2 := Lib.hid (h1.out.at 2 rfl)
      clear hw1 K0
      go_wp2_with (first | refine wpList_store_v rfl 24 (.tmp 2) (.tmp 18) rfl _ rfl typfx a1.out zero18_len ZZ HZl.out HZo.out HZ.out ?_ | refine wpList_store_v rfl 24 (.tmp 3) (.tmp 19) rfl _ rfl typfx a2.out zero18_len ZZ HZl.out HZo.out HZ.out ?_ | fail)
      rw [← hZZ]
      exact bodyPost_ret (v := .tuple #[.agg ZZ.toArray, .agg ZZ.toArray, .bool false]) (res_two Tryd.results5 rfl rfl ((h2.out.at 1 rfl).loadVar typfx HZl.out) ((h2.out.at 2 rfl).loadVar typfx HZl.out) rfl) rfl ⟨rfl, h2.out.bel⟩
    · have hnb : (n == psz V) = false := by simpa using hn
      have hb : phalfB V X n = true := by unfold phalfB; simp [hn, hc]
      obtain ⟨hn0, hn1⟩ := pfits_ok (pcheck_len hc)
      have hn2 := pfits_le (pcheck_len hc)
      have hn3 := psz_le V
      obtain ⟨m, hm⟩ := Int.eq_ofNat_of_zero_le hn0
      have hm8 : m < 128 := by omega
      have HF : Hid (plow V X n = pcells V X ((m + 1 : Nat) : Int) ∧ phigh V X n = pcells V (highB X m) ((m + 1 : Nat) : Int)) := by show _ ∧ _; unfold plow phigh; rw [hb, hm]; exact ⟨rfl, rfl⟩
      rw [HF.out.1, HF.out.2, hb]
      rw [hc] at CC
      obtain ⟨k1, k2, k3⟩ := half_arith hm8
      have HX := Lib.hid (And.intro hX hm8)
      have HH : Hid ((highB X m).length = 16) := by show _ = _; unfold highB; rw [List.length_set, hX.len]
      have HR := Lib.hid (pc_parts V ((m + 1 : Nat) : Int) hX.len)
      have HQ := Lib.hid (pc_parts V ((m + 1 : Nat) : Int) HH.out)
      have hm2 : n = ((m : Nat) : Int) := hm
      subst hm2
      clear HF hn hn0 hn1 hn2 hn3 hm hc hb hX
      generalize psz V = z at *
      obtain ⟨q, hq⟩ : ∃ q, q = m / 8 := ⟨_, rfl⟩
      obtain ⟨r, hr⟩ : ∃ r, r = m % 8 := ⟨_, rfl⟩
      have hq16 : q < 16 := by have := HX.out.2; omega
      have hr8 : r < 8 := by omega
      have HHB : Hid (highB X m = X.set q (X.getD q 0 ||| 128 / 2 ^ r)) := by show _ = _; unfold highB; rw [← hq, ← hr]
      rw [← hq] at k2
      rw [← hr] at k3
      clear hq hr
      have HP2 := Lib.hid HP.out
      obtain ⟨PL, hPL⟩ : ∃ PL, PL = pcells V X ((m + 1 : Nat) : Int) := ⟨_, rfl⟩
      have HPL : Hid (pcells V X ((m + 1 : Nat) : Int) = PL) := hPL.symm
      rw [← hPL] at HR ⊢
      clear hPL
      obtain ⟨PH, hPH0⟩ : ∃ PH, PH = pcells V (highB X m) ((m + 1 : Nat) : Int) := ⟨_, rfl⟩
      have HPH : Hid (pcells V (highB X m) ((m + 1 : Nat) : Int) = PH) := hPH0.symm
      rw [← hPH0] at HQ ⊢
      clear hPH0
      go_enter Tryd.func5, Tryd.ntmps5
      go_upto_region 1 with fail
      refine wp_quiet_kv (C := KV w [(24, w.heap.size, P), (24, w.heap.size + 1, pcells 0 zero16 0), (24, w.heap.size + 2, pcells 0 zero16 0)]) (by kernel_rfl) (by kernel_rfl) K0.out.drew ?_
      repeat (first
        | go_big_quiet_skip
        | (go_big_quiet_want; apply Exists.intro; refine ⟨fun w' hw' => (by first | exact quietAt_part rfl rfl typfx (hw'.at 0 rfl) HP.out.all HP.out.len | exact quietAt_cell rfl rfl one_int (hw'.at 0 rfl) HP.out.v | exact quietAt_cell rfl rfl one_int (hw'.at 0 rfl) HP.out.n | exact quietAt_part rfl rfl ty16 (hw'.at 0 rfl) HP.out.addr hs16 | fail), ?_⟩; simp only [Act.put, List.setIfInBounds_toArray, List.set_cons_zero, List.set_cons_succ]; go_big_quiet_on)
        | (go_big_quiet_want; go_big_quiet_op; go_big_quiet_on)
        | (go_big_quiet_want; go_big_quiet_op; apply Exists.intro; refine ⟨fun w' hw' => (by first | (with_reducible refine (CC.out w').mono ?_; rintro e w'' ⟨rfl, hb⟩; exact ⟨rfl, hw'.below hb⟩) | (with_reducible refine (CS.out w').mono ?_; rintro e w'' ⟨rfl, hb⟩; exact ⟨rfl, hw'.below hb⟩) | fail), ?_⟩; go_big_quiet_on)
        | (go_big_quiet_want; go_big_quiet_op; apply Exists.intro; refine ⟨fun w' hw' => rfl, ?_⟩; go_big_quiet_on))
      refine wpQuiet_nil ?_
      intro w1 hw1
      go_upto_region 3 with fail
      refine wp_region_lit ?_
      refine wpList_quiet_take (C := KV w [(24, w.heap.size, P), (24, w.heap.size + 1, pcells 0 zero16 0), (24, w.heap.size + 2, pcells 0 zero16 0)]) 8 hw1 ?_
      simp only [List.take, List.drop]
      repeat (first
        | go_big_quiet_skip
        | (go_big_quiet_want; apply Exists.intro; refine ⟨fun w' hw' => (by first | exact quietAt_part rfl rfl typfx (hw'.at 0 rfl) HP.out.all HP.out.len | exact quietAt_cell rfl rfl one_int (hw'.at 0 rfl) HP.out.v | exact quietAt_cell rfl rfl one_int (hw'.at 0 rfl) HP.out.n | exact quietAt_part rfl rfl ty16 (hw'.at 0 rfl) HP.out.addr hs16 | exact quietAt_pfxe rfl rfl rfl rfl HX.out.1.len HPL.out | fail), ?_⟩; simp only [Act.put, List.setIfInBounds_toArray, List.set_cons_zero, List.set_cons_succ]; go_big_quiet_on)
        | (go_big_quiet_want; go_big_quiet_op; go_big_quiet_on)
        | (go_big_quiet_want; go_big_quiet_op; apply Exists.intro; refine ⟨fun w' hw' => rfl, ?_⟩; go_big_quiet_on))
      refine wpQuiet_nil ?_
      intro w2 hw2
      clear hw1 CC CS K0 HP hs16
      have K3 : Hid (KV w [(24, w.heap.size, P), (24, w.heap.size + 1, pcells 0 zero16 0), (24, w.heap.size + 2, pcells 0 zero16 0), (24, w2.heap.size, PL)] ((w2.alloc (.cells (pcells 0 zero16 0).toArray 24)).setCells w2.heap.size 0 PL)) := (hw2.new 24 (pcells 0 zero16 0)).store 3 rfl PL (by rw [HR.out.len]; rfl)
      have a3 := Lib.hid ((hw2.new 24 (pcells 0 zero16 0)).at 3 rfl)
      clear hw2
      go_upto_region 4 with (first | refine wpList_store_v rfl 24 (.tmp 5) (.tmp 27) rfl _ rfl typfx a3.out zero18_len PL HR.out.len HR.out.one rfl ?_ | fail)
      simp only [Act.put]
      refine wp_region_lit ?_
      refine wpList_quiet_take (C := KV w [(24, w.heap.size, P), (24, w.heap.size + 1, pcells 0 zero16 0), (24, w.heap.size + 2, pcells 0 zero16 0), (24, w2.heap.size, PL)]) 1 K3.out ?_
      simp only [List.take, List.drop]
      repeat (first
        | go_big_quiet_skip
        | (go_big_quiet_want; apply Exists.intro; refine ⟨fun w' hw' => (by first | exact quietAt_part rfl rfl typfx (hw'.at 3 rfl) HR.out.all HR.out.len | fail), ?_⟩; simp only [Act.put, List.setIfInBounds_toArray, List.set_cons_zero, List.set_cons_succ]; go_big_quiet_on)
        | (go_big_quiet_want; go_big_quiet_op; go_big_quiet_on)
        | (go_big_quiet_want; go_big_quiet_op; apply Exists.intro; refine ⟨fun w' hw' => rfl, ?_⟩; go_big_quiet_on))
      refine wpQuiet_nil ?_
      intro w4 hw4
      have K4 : Hid (KV w [(24, w.heap.size, P), (24, w.heap.size + 1, pcells 0 zero16 0), (24, w.heap.size + 2, pcells 0 zero16 0), (24, w2.heap.size, PL), (24, w4.heap.size, PL)] ((w4.alloc (.cells (pcells 0 zero16 0).toArray 24)).setCells w4.heap.size 0 PL)) := (hw4.new 24 (pcells 0 zero16 0)).store 4 rfl PL (by rw [HR.out.len]; rfl)
      have a4 := Lib.hid ((hw4.new 24 (pcells 0 zero16 0)).at 4 rfl)
      obtain ⟨V6, hV6⟩ : ∃ V6, V6 = (w4.alloc (.cells #[.int .i64 0, .int .u8 0, .int .u8 0, .int .u8 0, .int .u8 0, .int .u8 0, .int .u8 0, .int .u8 0, .int .u8 0, .int .u8 0, .int .u8 0, .int .u8 0, .int .u8 0, .int .u8 0, .int .u8 0, .int .u8 0, .int .u8 0, .int .i64 0] 24)).setCells w4.heap.size 0 PL := ⟨_, rfl⟩
      have K4' : Hid (KV w [(24, w.heap.size, P), (24, w.heap.size + 1, pcells 0 zero16 0), (24, w.heap.size + 2, pcells 0 zero16 0), (24, w2.heap.size, PL), (24, w4.heap.size, PL)] V6) := by show KV _ _ _; rw [hV6]; exact K4.out
      go_upto_region 5 with (first | refine wpList_store_v rfl 24 (.tmp 6) (.tmp 28) rfl _ rfl typfx a4.out zero18_len PL HR.out.len HR.out.one rfl ?_ | fail)
      rw [← hV6]
      clear hV6 K4 K3 a3 a4 hw4
      obtain ⟨g5, e5⟩ : ∃ g, g = w2.heap.size := ⟨_, rfl⟩
      obtain ⟨g6, e6⟩ : ∃ g, g = w4.heap.size := ⟨_, rfl⟩
      rw [← e5, ← e6] at K4' ⊢
      clear e5 e6
      obtain ⟨x, hx⟩ : ∃ x, x = X.getD q 0 := ⟨_, rfl⟩
      obtain ⟨y, hy⟩ : ∃ y, y = 128 / 2 ^ r := ⟨_, rfl⟩
      obtain ⟨u, hu⟩ : ∃ u, u = x ||| y := ⟨_, rfl⟩
      have c17 : V6.cell? ⟨w.heap.size, 17, none⟩ = some (.int .i64 (m : Nat)) := by rw [(K4'.out.at 0 rfl).get]; exact HP2.out.n
      have cq : V6.cell? ⟨g6, 1 + q, none⟩ = some (.int .u8 (x : Nat)) := by rw [(K4'.out.at 4 rfl).get, ← HPL.out, hx]; exact pcells_get HX.out.1.len hq16
      have fq := (K4'.out.at 4 rfl).frozen (1 + q)
      have fqd : V6.drew.frozen? ⟨g6, 1 + q, none⟩ = false := fq
      have cqd : V6.drew.cell? ⟨g6, 1 + q, none⟩ = some (.int .u8 (x : Nat)) := cq
      have KP := Lib.hid ((K4'.out.put 4 rfl (1 + q) (.int .u8 (u : Nat))).drew)
      have q2 : bits .or .u8 (x : Int) (y : Int) = ((u : Nat) : Int) := by rw [hu]; exact u8_or_nat x y (by rw [hx]; exact HX.out.1.at q) (by have : 128 / 2 ^ r ≤ 128 := Nat.div_le_self _ _; omega)
      have hyi : (128 : Int) / 2 ^ r = ((y : Nat) : Int) := by rw [hy]; simp
      have hPH : Hid (PL.set (1 + q) (.int .u8 (u : Nat)) = PH) := by
        show _ = _
        rw [← HPH.out, ← HPL.out, pcells_put HX.out.1.len hq16, HHB.out, hu, hx, hy]
      rw [hPH.out] at KP
      clear hx hy hu hPH HPL HPH HHB
      have hqi : (q : Int) < 16 := by omega
      have hri : (r : Int) < 8 := by omega
      have wq := i64_small (q := q) (by omega)
      have wr := i64_small (q := r) (by omega)
      refine wp_region_still_tail 13 (by kernel_rfl) (by kernel_rfl) ?_
      simp only [List.take_succ_cons, List.take_zero, List.drop_succ_cons, List.drop_zero]
      repeat still_step
      refine wpStill_nil ?_
      change wpList _ _ _ _ _ V6.drew
      obtain ⟨V7, hV7⟩ : ∃ V7, V7 = (V6.setCell ⟨g6, 1 + q, none⟩ (.int .u8 (u : Nat))).drew := ⟨_, rfl⟩
      have K7 : Hid (KV w [(24, w.heap.size, P), (24, w.heap.size + 1, pcells 0 zero16 0), (24, w.heap.size + 2, pcells 0 zero16 0), (24, g5, PL), (24, g6, PH)] V7) := by show KV _ _ _; rw [hV7]; exact KP.out
      go_upto_region 6 with fail
      rw [← hV7]
      clear hV7 KP K4' c17 cq cqd fq fqd
      have h1 := Lib.hid (K7.out.drew.store 1 rfl PL (by rw [HR.out.len]; rfl))
      have h2 := Lib.hid (h1.out.store 2 rfl PH (by rw [HQ.out.len]; rfl))
      have a1 := Lib.hid (K7.out.drew.at 1 rfl)
      have a2 := Lib.hid (h1.out.at 2 rfl)
      have a3 := Lib.hid (K7.out.drew.at 3 rfl)
      have a4 := Lib.hid (K7.out.drew.at 4 rfl)
      have a5 := Lib.hid (h1.out.at 4 rfl)
      clear K7
      refine wp_region_any (by kernel_rfl) ?_
      refine wpAny_node [0, 1] (by kernel_rfl) rfl (fun i hi => ?_)
      simp only [List.mem_cons, List.not_mem_nil, or_false] at hi
      rcases hi with rfl | rfl
      · refine wpOp_step (by simp only [List.getElem?_toArray, List.getElem?_cons_zero]; rfl) ?_
        refine step_load_v rfl 24 (.tmp 5) rfl _ rfl typfx a3.out HR.out.len ?_
        simp only [Act.put, List.setIfInBounds_toArray, List.set_cons_zero, List.set_cons_succ]
        refine wpAny_node [1, 2] (by kernel_rfl) rfl (fun i hi => ?_)
        simp only [List.mem_cons, List.not_mem_nil, or_false] at hi
        rcases hi with rfl | rfl
        · refine wpOp_step (by simp only [List.getElem?_toArray, List.getElem?_cons_succ, List.getElem?_cons_zero]; rfl) ?_
          refine step_load_v rfl 24 (.tmp 6) rfl _ rfl typfx a4.out HQ.out.len ?_
          simp only [Act.put, List.setIfInBounds_toArray, List.set_cons_zero, List.set_cons_succ]
          refine wpAny_node [2] (by kernel_rfl) rfl (fun i hi => ?_)
          obtain rfl := List.mem_singleton.1 hi
          refine wpOp_step (by simp only [List.getElem?_toArray, List.getElem?_cons_succ, List.getElem?_cons_zero]; rfl) ?_
          refine step_store_v rfl 24 (.tmp 2) (.tmp 42) rfl _ rfl typfx a1.out zero18_len PL HR.out.len HR.out.one rfl ?_
          simp only [Act.put]
          refine wpAny_node [3] (by kernel_rfl) rfl (fun i hi => ?_)
          obtain rfl := List.mem_singleton.1 hi
          refine wpOp_step (by simp only [List.getElem?_toArray, List.getElem?_cons_succ, List.getElem?_cons_zero]; rfl) ?_
          refine step_store_v rfl 24 (.tmp 3) (.tmp 43) rfl _ rfl typfx a2.out zero18_len PH HQ.out.len HQ.out.one rfl ?_
          simp only [Act.put]
          refine wpAny_node [4] (by kernel_rfl) rfl (fun i hi => ?_)
          obtain rfl := List.mem_singleton.1 hi
          refine wpOp_step (by simp only [List.getElem?_toArray, List.getElem?_cons_succ, List.getElem?_cons_zero]; rfl) ?_
          refine step_val rfl rfl ?_
          simp only [Act.put, List.setIfInBounds_toArray, List.set_cons_zero, List.set_cons_succ]
          refine wpAny_leaf (by kernel_rfl) ?_
          go_wp2_with fail
          exact bodyPost_ret (v := .tuple #[.agg PL.toArray, .agg PH.toArray, .bool true]) (res_two Tryd.results5 rfl rfl ((h2.out.at 1 rfl).loadVar typfx HR.out.len) ((h2.out.at 2 rfl).loadVar typfx HQ.out.len) rfl) rfl ⟨rfl, h2.out.bel⟩
        · refine wpOp_step (by simp only [List.getElem?_toArray, List.getElem?_cons_succ, List.getElem?_cons_zero]; rfl) ?_
          refine step_store_v rfl 24 (.tmp 2) (.tmp 42) rfl _ rfl typfx a1.out zero18_len PL HR.out.len HR.out.one rfl ?_
          simp only [Act.put]
          refine wpAny_node [1] (by kernel_rfl) rfl (fun i hi => ?_)
          obtain rfl := List.mem_singleton.1 hi
          refine wpOp_step (by simp only [List.getElem?_toArray, List.getElem?_cons_succ, List.getElem?_cons_zero]; rfl) ?_
          refine step_load_v rfl 24 (.tmp 6) rfl _ rfl typfx a5.out HQ.out.len ?_
          simp only [Act.put, List.setIfInBounds_toArray, List.set_cons_zero, List.set_cons_succ]
          refine wpAny_node [3] (by kernel_rfl) rfl (fun i hi => ?_)
          obtain rfl := List.mem_singleton.1 hi
          refine wpOp_step (by simp only [List.getElem?_toArray, List.getElem?_cons_succ, List.getElem?_cons_zero]; rfl) ?_
          refine step_store_v rfl 24 (.tmp 3) (.tmp 43) rfl _ rfl typfx a2.out zero18_len PH HQ.out.len HQ.out.one rfl ?_
          simp only [Act.put]
          refine wpAny_node [4] (by kernel_rfl) rfl (fun i hi => ?_)
          obtain rfl := List.mem_singleton.1 hi
          refine wpOp_step (by simp only [List.getElem?_toArray, List.getElem?_cons_succ, List.getElem?_cons_zero]; rfl) ?_
          refine step_val rfl rfl ?_
          simp only [Act.put, List.setIfInBounds_toArray, List.set_cons_zero, List.set_cons_succ]
          refine wpAny_leaf (by kernel_rfl) ?_
          go_wp2_with fail
          exact bodyPost_ret (v := .tuple #[.agg PL.toArray, .agg PH.toArray, .bool true]) (res_two Tryd.results5 rfl rfl ((h2.out.at 1 rfl).loadVar typfx HR.out.len) ((h2.out.at 2 rfl).loadVar typfx HQ.out.len) rfl) rfl ⟨rfl, h2.out.bel⟩
      · refine wpOp_step (by simp only [List.getElem?_toArray, List.getElem?_cons_succ, List.getElem?_cons_zero]; rfl) ?_
        refine step_load_v rfl 24 (.tmp 6) rfl _ rfl typfx a4.out HQ.out.len ?_
        simp only [Act.put, List.setIfInBounds_toArray, List.set_cons_zero, List.set_cons_succ]
        refine wpAny_node [0] (by kernel_rfl) rfl (fun i hi => ?_)
        obtain rfl := List.mem_singleton.1 hi
        refine wpOp_step (by simp only [List.getElem?_toArray, List.getElem?_cons_zero]; rfl) ?_
        refine step_load_v rfl 24 (.tmp 5) rfl _ rfl typfx a3.out HR.out.len ?_
        simp only [Act.put, List.setIfInBounds_toArray, List.set_cons_zero, List.set_cons_succ]
        refine wpAny_node [2] (by kernel_rfl) rfl (fun i hi => ?_)
        obtain rfl := List.mem_singleton.1 hi
        refine wpOp_step (by simp only [List.getElem?_toArray, List.getElem?_cons_succ, List.getElem?_cons_zero]; rfl) ?_
        refine step_store_v rfl 24 (.tmp 2) (.tmp 42) rfl _ rfl typfx a1.out zero18_len PL HR.out.len HR.out.one rfl ?_
        simp only [Act.put]
        refine wpAny_node [3] (by kernel_rfl) rfl (fun i hi => ?_)
        obtain rfl := List.mem_singleton.1 hi
        refine wpOp_step (by simp only [List.getElem?_toArray, List.getElem?_cons_succ, List.getElem?_cons_zero]; rfl) ?_
        refine step_store_v rfl 24 (.tmp 3) (.tmp 43) rfl _ rfl typfx a2.out zero18_len PH HQ.out.len HQ.out.one rfl ?_
        simp only [Act.put]
        refine wpAny_node [4] (by kernel_rfl) rfl (fun i hi => ?_)
        obtain rfl := List.mem_singleton.1 hi
        refine wpOp_step (by simp only [List.getElem?_toArray, List.getElem?_cons_succ, List.getElem?_cons_zero]; rfl) ?_
        refine step_val rfl rfl ?_
        simp only [Act.put, List.setIfInBounds_toArray, List.set_cons_zero, List.set_cons_succ]
        refine wpAny_leaf (by kernel_rfl) ?_
        go_wp2_with fail
        exact bodyPost_ret (v := .tuple #[.agg PL.toArray, .agg PH.toArray, .bool true]) (res_two Tryd.results5 rfl rfl ((h2.out.at 1 rfl).loadVar typfx HR.out.len) ((h2.out.at 2 rfl).loadVar typfx HQ.out.len) rfl) rfl ⟨rfl, h2.out.bel⟩
  · have hb : phalfB V X n = false := by unfold phalfB; simp [hc]
    have HF : Hid (plow V X n = pcells 0 zero16 0 ∧ phigh V X n = pcells 0 zero16 0) := by show _ ∧ _; unfold plow phigh; rw [hb]; exact ⟨rfl, rfl⟩
    rw [HF.out.1, HF.out.2, hb]
    have HF : Hid (True) := trivial
    have hcb : (pcheck V X n != 0) = true := by simpa using hc
    clear hc hX hb
    generalize pcheck V X n = f at *
    go_enter Tryd.func5, Tryd.ntmps5
    go_upto_region 1 with fail
    refine wp_quiet_kv (C := KV w [(24, w.heap.size, P), (24, w.heap.size + 1, pcells 0 zero16 0), (24, w.heap.size + 2, pcells 0 zero16 0)]) (by kernel_rfl) (by kernel_rfl) K0.out.drew ?_
    repeat (first
      | go_big_quiet_skip
      | (go_big_quiet_want; apply Exists.intro; refine ⟨fun w' hw' => (by first | exact quietAt_part rfl rfl typfx (hw'.at 0 rfl) HP.out.all HP.out.len | exact quietAt_cell rfl rfl one_int (hw'.at 0 rfl) HP.out.v | exact quietAt_cell rfl rfl one_int (hw'.at 0 rfl) HP.out.n | exact quietAt_part rfl rfl ty16 (hw'.at 0 rfl) HP.out.addr hs16 | fail), ?_⟩; simp only [Act.put, List.setIfInBounds_toArray, List.set_cons_zero, List.set_cons_succ]; go_big_quiet_on)
      | (go_big_quiet_want; go_big_quiet_op; go_big_quiet_on)
      | (go_big_quiet_want; go_big_quiet_op; apply Exists.intro; refine ⟨fun w' hw' => (by first | (with_reducible refine (CC.out w').mono ?_; rintro e w'' ⟨rfl, hb⟩; exact ⟨rfl, hw'.below hb⟩) | fail), ?_⟩; go_big_quiet_on)
      | (go_big_quiet_want; go_big_quiet_op; apply Exists.intro; refine ⟨fun w' hw' => rfl, ?_⟩; go_big_quiet_on))
    refine wpQuiet_nil ?_
    intro w1 hw1
    obtain ⟨ZZ, hZZ⟩ : ∃ Z, Z = pcells 0 zero16 0 := ⟨_, rfl⟩
    have HZ : Hid (Value.agg #[.int .i64 0, .int .u8 0, .int .u8 0, .int .u8 0, .int .u8 0, .int .u8 0, .int .u8 0, .int .u8 0, .int .u8 0, .int .u8 0, .int .u8 0, .int .u8 0, .int .u8 0, .int .u8 0, .int .u8 0, .int .u8 0, .int .u8 0, .int .i64 0] = .agg ZZ.toArray) := by show _ = _; rw [hZZ]; rfl
    have HZl : Hid (ZZ.length = 18) := by show _ = _; rw [hZZ]; rfl
    have HZo : Hid (∀ v ∈ ZZ, v.oneCell' = true) := by show ∀ v ∈ ZZ, v.oneCell' = true; rw [hZZ]; exact zero18_one
    have h1 := Lib.hid (hw1.store 1 rfl ZZ (by rw [HZl.out]; rfl))
    have h2 := Lib.hid (h1.out.store 2 rfl ZZ (by rw [HZl.out]; rfl))
    have a1 := Lib.hid (hw1.at 1 rfl)
    have a2 := Lib.hid (h1.out.at 2 rfl)
    clear hw1 K0
    go_wp2_with (first | refine wpList_store_v rfl 24 (.tmp 2) (.tmp 18) rfl _ rfl typfx a1.out zero18_len ZZ HZl.out HZo.out HZ.out ?_ | refine wpList_store_v rfl 24 (.tmp 3) (.tmp 19) rfl _ rfl typfx a2.out zero18_len ZZ HZl.out HZo.out HZ.out ?_ | fail)
    rw [← hZZ]
    exact bodyPost_ret (v := .tuple #[.agg ZZ.toArray, .agg ZZ.toArray, .bool false]) (res_two Tryd.results5 rfl rfl ((h2.out.at 1 rfl).loadVar typfx HZl.out) ((h2.out.at 2 rfl).loadVar typfx HZl.out) rfl) rfl ⟨rfl, h2.out.bel⟩
end Go.Proofs.YtaicmadeobglfaaDoor
