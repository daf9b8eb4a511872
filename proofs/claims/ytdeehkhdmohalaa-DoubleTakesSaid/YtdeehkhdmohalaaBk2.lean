/-
  Contracts of the document's own Full, Need, Take, Grow and Wait.
-/
import Derived.Test.YtdeehkhdmohalaaBk1
import Derived.Test.YtdeehkhdmohalaaRef2g
import Derived.Test.YtdeehkhdmohalaaRef2i
import Derived.Test.YtdeehkhdmohalaaRtext
namespace Go.Proofs.Ytdeehkhdmohalaa
open Go.RowKit
set_option linter.unusedVariables false
attribute [local go_sem ↓] Go.wp_at_zero Go.wp_at_succ

set_option maxRecDepth 10000 in
theorem rbkneed_any (s : Int) (m : Nat) (t : Bool) (w : World) (hi : s ≤ 9223372036854775807) (hm : Hid (m = bkN s)) (ht : Hid (t = bkIs s)) :
    Calls Try.prog 29 #[.int .i64 s] w fun e w' => e = .returned (.tuple #[.int .u64 m, .bool t]) ∧ Below w.heap.size w w' := by
  by_cases hs : s < 0
  · obtain ⟨h1, h2⟩ := bkneed_neg hs
    rw [hm.out, ht.out, h1, h2]
    clear hi hm ht h1 h2
    go_enter Try.func29, Try.ntmps29
    go_wp2
    go_ret2
    exact ⟨rfl, Below.refl _ _⟩
  · obtain ⟨n, rfl⟩ := Int.eq_ofNat_of_zero_le (Int.not_lt.1 hs)
    have hn : n ≤ 9223372036854775807 := by omega
    obtain ⟨x, hx⟩ : ∃ x, x = whi (1000000000 * n) := ⟨_, rfl⟩
    obtain ⟨y, hy⟩ : ∃ y, y = wlo (1000000000 * n) := ⟨_, rfl⟩
    have CM : Hid (∀ w, Calls Try.prog 37 #[.int .u64 n, .int .u64 1000000000] w fun e w' => e = .returned (.agg #[.int .u64 x, .int .u64 y]) ∧ Below w.heap.size w w') := by
      rw [hx, hy]; exact fun w => by have := rmul_any n 1000000000 w (by omega) (by decide); rw [Nat.mul_comm n] at this; exact this
    have hw : IntKind.u64.wrap (n : Int) = (n : Int) := by rw [IntKind.wrap_u64]; omega
    by_cases h0 : whi (1000000000 * n) = 0
    · obtain ⟨h1, h2⟩ := bkneed_near h0 hn
      rw [hm.out, ht.out, h1, h2, ← hy]
      rw [h0] at hx
      subst hx
      clear hm ht h1 h2 hy h0 hn hi
      go_enter Try.func29, Try.ntmps29
      go_wp2_with fail
      refine (CM.out _).mono ?_
      rintro e w1 ⟨rfl, b1⟩
      have B1 := Lib.hid b1
      obtain ⟨c0, c1⟩ := Tw.new w1 0 (y : Int)
      clear b1
      go_wp2
      go_ret2
      exact ⟨by simp, B1.out.alloc B1.out.size _⟩
    · obtain ⟨h1, h2⟩ := bkneed_far h0 hn
      rw [hm.out, ht.out, h1, h2]
      have hx0 : ((x : Int) != 0) = true := by rw [bne_iff_ne]; omega
      have hx1 : (0 : Int) < (x : Int) := by omega
      clear hm ht h1 h2 hy hx h0 hn hi
      go_enter Try.func29, Try.ntmps29
      go_wp2_with fail
      refine (CM.out _).mono ?_
      rintro e w1 ⟨rfl, b1⟩
      have B1 := Lib.hid b1
      obtain ⟨c0, c1⟩ := Tw.new w1 (x : Int) (y : Int)
      clear b1
      go_wp2
      go_ret2
      exact ⟨by simp, B1.out.alloc B1.out.size _⟩
set_option maxRecDepth 10000 in
theorem rbktake_any (l q : Nat) (s : Int) (t : Bool) (w : World) (hl : l ≤ 18446744073709551615) (hi : s ≤ 9223372036854775807) (hq : Hid (q = bkLeft l s)) (ht : Hid (t = bkCan l s)) :
    Calls Try.prog 20 #[.int .u64 l, .int .i64 s] w fun e w' => e = .returned (.tuple #[.int .u64 q, .bool t]) ∧ Below w.heap.size w w' := by
  obtain ⟨m, hm⟩ : ∃ m, m = bkN s := ⟨_, rfl⟩
  obtain ⟨u, hu⟩ : ∃ u, u = bkIs s := ⟨_, rfl⟩
  have CN : Hid (∀ w, Calls Try.prog 29 #[.int .i64 s] w fun e w' => e = .returned (.tuple #[.int .u64 m, .bool u]) ∧ Below w.heap.size w w') := fun w => rbkneed_any s m u w hi hm hu
  by_cases hc : bkCan l s = true
  · obtain ⟨h1, h2, h3⟩ := bkleft_can hc
    have wl : IntKind.u64.wrap ((l : Int) - (m : Int)) = (q : Int) := by rw [hq.out, h1, hm, IntKind.wrap_u64]; omega
    have hle : (m : Int) ≤ (l : Int) := by omega
    have hle2 : m ≤ l := by omega
    rw [ht.out, hc]
    rw [h3] at hu
    subst hu
    clear h1 h2 h3 hm hq hc ht hl hi
    go_enter Try.func20, Try.ntmps20
    go_wp2_with fail
    refine (CN.out _).mono ?_
    rintro e w1 ⟨rfl, b1⟩
    have B1 := Lib.hid b1
    clear b1
    go_wp2
    go_ret2
    exact ⟨by first | rfl | simp [wl], B1.out⟩
  · have hc := Bool.eq_false_iff.2 hc
    rw [hq.out, ht.out, bkleft_cant hc, hc]
    unfold bkCan at hc
    rw [← hm, ← hu] at hc
    cases u with
    | false =>
      clear hc hu hm hq ht hl hi
      go_enter Try.func20, Try.ntmps20
      go_wp2_with fail
      refine (CN.out _).mono ?_
      rintro e w1 ⟨rfl, b1⟩
      have B1 := Lib.hid b1
      clear b1
      go_wp2
      go_ret2
      exact ⟨rfl, B1.out⟩
    | true =>
      have hlt : l < m := by simpa using hc
      have hlt2 : (l : Int) < (m : Int) := by omega
      clear hc hu hm hq ht hl hi
      go_enter Try.func20, Try.ntmps20
      go_wp2_with fail
      refine (CN.out _).mono ?_
      rintro e w1 ⟨rfl, b1⟩
      have B1 := Lib.hid b1
      clear b1
      go_wp2
      go_ret2
      exact ⟨rfl, B1.out⟩
theorem rbkcap_any (l r G k p gx gy : Nat) (w : World) (hr : r ≤ 18446744073709551615) (hgx : gx ≤ 18446744073709551615) (hgy : gy ≤ 18446744073709551615) (hG : wnum gx gy = G) (hk : k = r - l) (hp : p = bkPut l r G) :
    Calls Try.prog 38 #[.agg #[.int .u64 gx, .int .u64 gy], .int .u64 k] w fun e w' => e = .returned (.int .u64 p) ∧ Below w.heap.size w w' := by
  subst hk hp
  unfold bkPut
  by_cases h : G < r - l
  · rw [if_pos h]
    have := rcap_less gx gy (r - l) w hgx hgy (by omega) (by rw [hG]; exact h)
    have e1 : gy = G := by rw [← hG]; unfold wnum at hG ⊢; omega
    rw [← e1]
    exact this
  · rw [if_neg h]
    exact rcap_most gx gy (r - l) w hgx hgy (by omega) (by rw [hG]; exact h)
set_option maxRecDepth 10000 in
set_option maxHeartbeats 1600000 in
theorem rbkgrow_any (l r a b x y q : Nat) (w : World) (hl : l ≤ 18446744073709551615) (hr : r ≤ 18446744073709551615) (ha : a ≤ 18446744073709551615) (hb : b ≤ 18446744073709551615)
    (hq : Hid (q = l + bkPut l r (a * b))) (hx : Hid (x = whi (a * b - bkPut l r (a * b)))) (hy : Hid (y = wlo (a * b - bkPut l r (a * b)))) :
    Calls Try.prog 28 #[.int .u64 l, .int .u64 r, .int .u64 a, .int .u64 b] w fun e w' => e = .returned (.tuple #[.int .u64 q, .agg #[.int .u64 x, .int .u64 y]]) ∧ Below w.heap.size w w' := by
  have hGlt := mul_words ha hb
  obtain ⟨G, hG⟩ : ∃ G, G = a * b := ⟨_, rfl⟩
  obtain ⟨gx, hgx0⟩ : ∃ z, z = whi (a * b) := ⟨_, rfl⟩
  obtain ⟨gy, hgy0⟩ : ∃ z, z = wlo (a * b) := ⟨_, rfl⟩
  have CM : Hid (∀ w, Calls Try.prog 37 #[.int .u64 a, .int .u64 b] w fun e w' => e = .returned (.agg #[.int .u64 gx, .int .u64 gy]) ∧ Below w.heap.size w w') := by
    rw [hgx0, hgy0]; exact fun w => rmul_any a b w ha hb
  rw [← hG] at hgx0 hgy0 hGlt
  have hq1 := hq.out
  have hx1 := hx.out
  have hy1 := hy.out
  rw [← hG] at hq1 hx1 hy1
  clear hq hx hy
  have hgx : gx ≤ 18446744073709551615 := by rw [hgx0]; exact whi_le G
  have hgy : gy ≤ 18446744073709551615 := by rw [hgy0]; exact wlo_le G
  have hnum : wnum gx gy = G := by rw [hgx0, hgy0]; exact (words_back hGlt).symm
  obtain ⟨k, hk⟩ : ∃ k, k = r - l := ⟨_, rfl⟩
  obtain ⟨p, hp⟩ : ∃ p, p = bkPut l r G := ⟨_, rfl⟩
  have CC : Hid (∀ w, Calls Try.prog 38 #[.agg #[.int .u64 gx, .int .u64 gy], .int .u64 k] w fun e w' => e = .returned (.int .u64 p) ∧ Below w.heap.size w w') := fun w => rbkcap_any l r G k p gx gy w hr hgx hgy hnum hk hp
  have CO : Hid (∀ w, Calls Try.prog 40 #[.int .u64 p] w fun e w' => e = .returned (.agg #[.int .u64 0, .int .u64 p]) ∧ Below w.heap.size w w') := fun w => rof_any p w
  have hpl := bkPut_le l r G
  have hlev := bk_level (G := G) hl hr
  rw [← hp] at hq1 hx1 hy1 hpl hlev
  have hp64 : p ≤ 18446744073709551615 := by omega
  have hpg : ¬ G < p := by omega
  have hs0 : (G + w128 - p) % w128 = (G - p) % w128 := by rw [show G + w128 - p = G - p + w128 from by omega, Nat.add_mod_right]
  have hs1 : whi (G + w128 - p) = x := by rw [hx1, ← (words_mod (G + w128 - p)).1, hs0, (words_mod (G - p)).1]
  have hs2 : wlo (G + w128 - p) = y := by rw [hy1, ← (words_mod (G + w128 - p)).2, hs0, (words_mod (G - p)).2]
  have CS : Hid (∀ w, Calls Try.prog 39 #[.agg #[.int .u64 gx, .int .u64 gy], .agg #[.int .u64 0, .int .u64 p]] w fun e w' => e = .returned (.tuple #[.agg #[.int .u64 x, .int .u64 y], .bool false]) ∧ Below w.heap.size w w') := fun w => by have := rsub_any gx gy 0 p G p w hgx hgy (by decide) hp64 hnum.symm (wnum_zero p).symm; rw [hs1, hs2, decide_eq_false hpg] at this; exact this
  have wq : IntKind.u64.wrap ((l : Int) + (p : Int)) = (q : Int) := by rw [hq1, IntKind.wrap_u64]; omega
  clear hG hgx0 hgy0 hGlt hq1 hx1 hy1 hgx hgy hnum hp hpl hlev hp64 hpg hs0 hs1 hs2 ha hb
  by_cases hlt : l < r
  · have wk : IntKind.u64.wrap ((r : Int) - (l : Int)) = (k : Int) := by rw [hk, IntKind.wrap_u64]; omega
    have hlti : (l : Int) < (r : Int) := by omega
    clear hk hl hr
    go_enter Try.func28, Try.ntmps28
    go_wp2_with fail
    refine (CM.out _).mono ?_
    rintro e w1 ⟨rfl, b1⟩
    have K1 := Lib.hid ((KV.one w 54 [.int .u64 0, .int .u64 0]).below b1)
    have K2 := Lib.hid (K1.out.new 54 [.int .u64 gx, .int .u64 gy])
    clear b1 K1
    have d0 := (K2.out.at 1 rfl).get 0
    have d1 := (K2.out.at 1 rfl).get 1
    simp at d0 d1
    go_wp2_with fail
    refine (CC.out _).mono ?_
    rintro e w2 ⟨rfl, b2⟩
    have K3 := Lib.hid (K2.out.below b2)
    clear b2 K2 d0 d1
    generalize w1.heap.size = g1 at *
    go_upto_region 6 with fail
    refine wp_region_par (w := w) [.quiet (.agg #[.int .u64 gx, .int .u64 gy]), .quiet (.int .u64 p), .quiet (.agg #[.int .u64 0, .int .u64 p]), .quiet (.tuple #[.agg #[.int .u64 x, .int .u64 y], .bool false]), .quiet (.tuple #[.agg #[.int .u64 x, .int .u64 y], .bool false]), .quiet (.agg #[.int .u64 x, .int .u64 y]), .quiet (.bool false), .alloc 54 [.int .u64 0, .int .u64 0] (some (8, [.int .u64 x, .int .u64 y])), .store 7, .quiet (.bool false)] [(54, w.heap.size, [.int .u64 0, .int .u64 0]), (54, g1, [.int .u64 gx, .int .u64 gy])] (by kernel_rfl) (by kernel_rfl) K3.out.drew (fun b => ?_) ?_
    · clear K3
      refine pWalk_quiet rfl (fun E W hw' => quietAt_part (off := 0) (n := 2) (vs := [.int .u64 gx, .int .u64 gy]) rfl rfl tywide (hw'.at 1 rfl) rfl rfl) ?_
      simp only [Act.put, List.setIfInBounds_toArray, List.set_cons_zero, List.set_cons_succ]
      refine pWalk_quiet rfl (fun E W hw' => quietAt_run rfl) ?_
      simp only [Act.put, List.setIfInBounds_toArray, List.set_cons_zero, List.set_cons_succ]
      refine pWalk_quiet rfl (fun E W hw' => quietAt_call (f := 40) (args := #[.int .u64 p]) (by simp [go_sem]) ((CO.out W).mono fun e w'' h => ⟨h.1, hw'.below h.2⟩)) ?_
      simp only [Act.put, List.setIfInBounds_toArray, List.set_cons_zero, List.set_cons_succ]
      refine pWalk_quiet rfl (fun E W hw' => quietAt_call (f := 39) (args := #[.agg #[.int .u64 gx, .int .u64 gy], .agg #[.int .u64 0, .int .u64 p]]) (by simp [go_sem]) ((CS.out W).mono fun e w'' h => ⟨h.1, hw'.below h.2⟩)) ?_
      simp only [Act.put, List.setIfInBounds_toArray, List.set_cons_zero, List.set_cons_succ]
      refine pWalk_quiet rfl (fun E W hw' => quietAt_run rfl) ?_
      simp only [Act.put, List.setIfInBounds_toArray, List.set_cons_zero, List.set_cons_succ]
      refine pWalk_quiet rfl (fun E W hw' => quietAt_run (by simp [go_sem])) ?_
      simp only [Act.put, List.setIfInBounds_toArray, List.set_cons_zero, List.set_cons_succ]
      refine pWalk_quiet rfl (fun E W hw' => quietAt_run (by simp [go_sem])) ?_
      simp only [Act.put, List.setIfInBounds_toArray, List.set_cons_zero, List.set_cons_succ]
      refine pWalk_var rfl rfl allocwide ?_
      simp only [Act.put, List.setIfInBounds_toArray, List.set_cons_zero, List.set_cons_succ]
      refine pWalk_put rfl rfl rfl rfl rfl tywide rfl rfl (by simp [Value.oneCell']) ?_
      simp only [Act.put]
      refine pWalk_quiet rfl (fun E W hw' => quietAt_run rfl) ?_
      trivial
    · intro b κ E w3 hK hB
      obtain ⟨l2, g2⟩ := hB.at_ 7 _ _ _ rfl rfl
      simp only [List.length_cons, List.length_nil] at l2
      obtain ⟨g9, e9⟩ : ∃ x, x = b 7 := ⟨_, rfl⟩
      have K4 : Hid (KV w [(54, w.heap.size, [.int .u64 0, .int .u64 0]), (54, g9, [.int .u64 x, .int .u64 y])] w3) := by
        rw [e9]
        refine hK.pick [0, κ 7] ?_ rfl ?_
        · simp
          omega
        · intro q hq
          simp at hq
          rcases hq with rfl | rfl
          · rfl
          · exact g2
      clear l2 g2 hK hB K3
      simp only [List.length_cons, List.length_nil, lexAct, pval, List.getElem?_cons_zero, List.getElem?_cons_succ, Option.bind_some, Act.put, List.setIfInBounds_toArray, List.set_cons_zero, List.set_cons_succ]
      rw [← e9]
      clear e9
      have d0 := (K4.out.at 1 rfl).get 0
      have d1 := (K4.out.at 1 rfl).get 1
      have r0 := (K4.out.at 0 rfl).get 0
      have r1 := (K4.out.at 0 rfl).get 1
      have f0 := (K4.out.at 0 rfl).frozen 0
      have f1 := (K4.out.at 0 rfl).frozen 1
      simp at d0 d1 r0 r1
      have K5 := Lib.hid (K4.out.drew.store 0 rfl [.int .u64 x, .int .u64 y] rfl)
      have s0 : ((w3.setCell ⟨w.heap.size, 0, none⟩ (.int .u64 x)).setCell ⟨w.heap.size, 1, none⟩ (.int .u64 y)).drew.cell? ⟨w.heap.size, 0, none⟩ = some (.int .u64 x) := (K5.out.at 0 rfl).get 0
      have s1 : ((w3.setCell ⟨w.heap.size, 0, none⟩ (.int .u64 x)).setCell ⟨w.heap.size, 1, none⟩ (.int .u64 y)).drew.cell? ⟨w.heap.size, 1, none⟩ = some (.int .u64 y) := (K5.out.at 0 rfl).get 1
      have e0 : ((w3.setCell ⟨w.heap.size, 0, none⟩ (.int .u64 x)).setCell ⟨w.heap.size, 1, none⟩ (.int .u64 y)).drew.cell? ⟨g9, 0, none⟩ = some (.int .u64 x) := (K5.out.at 1 rfl).get 0
      have e1 : ((w3.setCell ⟨w.heap.size, 0, none⟩ (.int .u64 x)).setCell ⟨w.heap.size, 1, none⟩ (.int .u64 y)).drew.cell? ⟨g9, 1, none⟩ = some (.int .u64 y) := (K5.out.at 1 rfl).get 1
      go_upto_region 7 with fail
      go_region_held3 (fun W => (W.cell? ⟨g9, 0, none⟩ = some (.int .u64 x) ∧ W.cell? ⟨g9, 1, none⟩ = some (.int .u64 y))) (first | exact ⟨d0, d1⟩ | exact ⟨e0, e1⟩ | go_keep) (fail)
      go_wp2_with fail
      exact bodyPost_ret (v := .tuple #[.int .u64 q, .agg #[.int .u64 x, .int .u64 y]]) (by simp [results, Try.results28, go_sem, s0, s1]) rfl ⟨rfl, K5.out.bel⟩
  · have hk0 : k = 0 := by omega
    subst hk0
    have hlti : ¬ (l : Int) < (r : Int) := by omega
    clear hk hl hr
    go_enter Try.func28, Try.ntmps28
    go_wp2_with fail
    refine (CM.out _).mono ?_
    rintro e w1 ⟨rfl, b1⟩
    have K1 := Lib.hid ((KV.one w 54 [.int .u64 0, .int .u64 0]).below b1)
    have K2 := Lib.hid (K1.out.new 54 [.int .u64 gx, .int .u64 gy])
    clear b1 K1
    have d0 := (K2.out.at 1 rfl).get 0
    have d1 := (K2.out.at 1 rfl).get 1
    simp at d0 d1
    go_wp2_with fail
    refine (CC.out _).mono ?_
    rintro e w2 ⟨rfl, b2⟩
    have K3 := Lib.hid (K2.out.below b2)
    clear b2 K2 d0 d1
    generalize w1.heap.size = g1 at *
    go_upto_region 6 with fail
    refine wp_region_par (w := w) [.quiet (.agg #[.int .u64 gx, .int .u64 gy]), .quiet (.int .u64 p), .quiet (.agg #[.int .u64 0, .int .u64 p]), .quiet (.tuple #[.agg #[.int .u64 x, .int .u64 y], .bool false]), .quiet (.tuple #[.agg #[.int .u64 x, .int .u64 y], .bool false]), .quiet (.agg #[.int .u64 x, .int .u64 y]), .quiet (.bool false), .alloc 54 [.int .u64 0, .int .u64 0] (some (8, [.int .u64 x, .int .u64 y])), .store 7, .quiet (.bool false)] [(54, w.heap.size, [.int .u64 0, .int .u64 0]), (54, g1, [.int .u64 gx, .int .u64 gy])] (by kernel_rfl) (by kernel_rfl) K3.out.drew (fun b => ?_) ?_
    · clear K3
      refine pWalk_quiet rfl (fun E W hw' => quietAt_part (off := 0) (n := 2) (vs := [.int .u64 gx, .int .u64 gy]) rfl rfl tywide (hw'.at 1 rfl) rfl rfl) ?_
      simp only [Act.put, List.setIfInBounds_toArray, List.set_cons_zero, List.set_cons_succ]
      refine pWalk_quiet rfl (fun E W hw' => quietAt_run rfl) ?_
      simp only [Act.put, List.setIfInBounds_toArray, List.set_cons_zero, List.set_cons_succ]
      refine pWalk_quiet rfl (fun E W hw' => quietAt_call (f := 40) (args := #[.int .u64 p]) (by simp [go_sem]) ((CO.out W).mono fun e w'' h => ⟨h.1, hw'.below h.2⟩)) ?_
      simp only [Act.put, List.setIfInBounds_toArray, List.set_cons_zero, List.set_cons_succ]
      refine pWalk_quiet rfl (fun E W hw' => quietAt_call (f := 39) (args := #[.agg #[.int .u64 gx, .int .u64 gy], .agg #[.int .u64 0, .int .u64 p]]) (by simp [go_sem]) ((CS.out W).mono fun e w'' h => ⟨h.1, hw'.below h.2⟩)) ?_
      simp only [Act.put, List.setIfInBounds_toArray, List.set_cons_zero, List.set_cons_succ]
      refine pWalk_quiet rfl (fun E W hw' => quietAt_run rfl) ?_
      simp only [Act.put, List.setIfInBounds_toArray, List.set_cons_zero, List.set_cons_succ]
      refine pWalk_quiet rfl (fun E W hw' => quietAt_run (by simp [go_sem])) ?_
      simp only [Act.put, List.setIfInBounds_toArray, List.set_cons_zero, List.set_cons_succ]
      refine pWalk_quiet rfl (fun E W hw' => quietAt_run (by simp [go_sem])) ?_
      simp only [Act.put, List.setIfInBounds_toArray, List.set_cons_zero, List.set_cons_succ]
      refine pWalk_var rfl rfl allocwide ?_
      simp only [Act.put, List.setIfInBounds_toArray, List.set_cons_zero, List.set_cons_succ]
      refine pWalk_put rfl rfl rfl rfl rfl tywide rfl rfl (by simp [Value.oneCell']) ?_
      simp only [Act.put]
      refine pWalk_quiet rfl (fun E W hw' => quietAt_run rfl) ?_
      trivial
    · intro b κ E w3 hK hB
      obtain ⟨l2, g2⟩ := hB.at_ 7 _ _ _ rfl rfl
      simp only [List.length_cons, List.length_nil] at l2
      obtain ⟨g9, e9⟩ : ∃ x, x = b 7 := ⟨_, rfl⟩
      have K4 : Hid (KV w [(54, w.heap.size, [.int .u64 0, .int .u64 0]), (54, g9, [.int .u64 x, .int .u64 y])] w3) := by
        rw [e9]
        refine hK.pick [0, κ 7] ?_ rfl ?_
        · simp
          omega
        · intro q hq
          simp at hq
          rcases hq with rfl | rfl
          · rfl
          · exact g2
      clear l2 g2 hK hB K3
      simp only [List.length_cons, List.length_nil, lexAct, pval, List.getElem?_cons_zero, List.getElem?_cons_succ, Option.bind_some, Act.put, List.setIfInBounds_toArray, List.set_cons_zero, List.set_cons_succ]
      rw [← e9]
      clear e9
      have d0 := (K4.out.at 1 rfl).get 0
      have d1 := (K4.out.at 1 rfl).get 1
      have r0 := (K4.out.at 0 rfl).get 0
      have r1 := (K4.out.at 0 rfl).get 1
      have f0 := (K4.out.at 0 rfl).frozen 0
      have f1 := (K4.out.at 0 rfl).frozen 1
      simp at d0 d1 r0 r1
      have K5 := Lib.hid (K4.out.drew.store 0 rfl [.int .u64 x, .int .u64 y] rfl)
      have s0 : ((w3.setCell ⟨w.heap.size, 0, none⟩ (.int .u64 x)).setCell ⟨w.heap.size, 1, none⟩ (.int .u64 y)).drew.cell? ⟨w.heap.size, 0, none⟩ = some (.int .u64 x) := (K5.out.at 0 rfl).get 0
      have s1 : ((w3.setCell ⟨w.heap.size, 0, none⟩ (.int .u64 x)).setCell ⟨w.heap.size, 1, none⟩ (.int .u64 y)).drew.cell? ⟨w.heap.size, 1, none⟩ = some (.int .u64 y) := (K5.out.at 0 rfl).get 1
      have e0 : ((w3.setCell ⟨w.heap.size, 0, none⟩ (.int .u64 x)).setCell ⟨w.heap.size, 1, none⟩ (.int .u64 y)).drew.cell? ⟨g9, 0, none⟩ = some (.int .u64 x) := (K5.out.at 1 rfl).get 0
      have e1 : ((w3.setCell ⟨w.heap.size, 0, none⟩ (.int .u64 x)).setCell ⟨w.heap.size, 1, none⟩ (.int .u64 y)).drew.cell? ⟨g9, 1, none⟩ = some (.int .u64 y) := (K5.out.at 1 rfl).get 1
      go_upto_region 7 with fail
      go_region_held3 (fun W => (W.cell? ⟨g9, 0, none⟩ = some (.int .u64 x) ∧ W.cell? ⟨g9, 1, none⟩ = some (.int .u64 y))) (first | exact ⟨d0, d1⟩ | exact ⟨e0, e1⟩ | go_keep) (fail)
      go_wp2_with fail
      exact bodyPost_ret (v := .tuple #[.int .u64 q, .agg #[.int .u64 x, .int .u64 y]]) (by simp [results, Try.results28, go_sem, s0, s1]) rfl ⟨rfl, K5.out.bel⟩
end Go.Proofs.Ytdeehkhdmohalaa
