/-
  curve's Least.
-/
import Derived.Test.YtemgnaalmgkfiaaCu5
import Derived.Test.YtemgnaalmgkfiaaRCu3
namespace Go.Proofs.Ytemgnaalmgkfiaa
open Go.RowKit
set_option linter.unusedVariables false
attribute [local go_sem] Oper.semAt_some

/-- The greatest excess of those that have come. -/
def mOf (L : List Sm) (r : Nat) (l : List Nat) : Nat := l.foldl (fun a k => max a (cuExc L r k)) 0
theorem mOf_add (L : List Sm) (r : Nat) (l : List Nat) (k : Nat) : mOf L r (l ++ [k]) = max (mOf L r l) (cuExc L r k) := by simp [mOf]
theorem mOf_all (L : List Sm) (r : Nat) : ∀ n, mOf L r (List.range n) = cuMost L r n
  | 0 => rfl
  | n + 1 => by rw [List.range_succ, mOf_add, mOf_all L r n]; rfl
theorem mOf_le {L : List Sm} {r B : Nat} (l : List Nat) (h : ∀ k, k ∈ l → cuExc L r k ≤ B) : mOf L r l ≤ B := by
  have key : ∀ (l : List Nat) (a : Nat), a ≤ B → (∀ k, k ∈ l → cuExc L r k ≤ B) → l.foldl (fun a k => max a (cuExc L r k)) a ≤ B := fun l => by
    induction l with
    | nil => intro a ha _; exact ha
    | cons k l ih =>
      intro a ha hl
      refine ih _ ?_ (fun q hq => hl q (List.mem_cons_of_mem _ hq))
      exact Nat.max_le.2 ⟨ha, hl k (List.mem_cons_self ..)⟩
  exact key l 0 (Nat.zero_le _) h
theorem mOf_small {L : List Sm} {n : Nat} (r : Nat) (hg : cuGood L n) (hn : n ≤ 1048576) (pre : List (Fin n)) : mOf L r (excIxs pre) < w128 := by
  have h1 : mOf L r (excIxs pre) ≤ w128 - 1 := mOf_le _ fun k hk => by
    obtain ⟨y, _, rfl⟩ := List.mem_map.1 hk
    have := exc_small r hg hn y.isLt
    omega
  have : 0 < w128 := by decide
  omega
theorem kpr_set {m c : Nat} {U W : World} (h : KpR m c U W) {g j : Nat} (v : Value) (h1 : m ≤ g) (h2 : g < c) : KpR m c U (W.setCell ⟨g, j, none⟩ v) :=
  ⟨Nat.le_trans h.1 (KeepsOthers.setCell W ⟨g, j, none⟩ v).size, fun k o hk ho hc => (heap_setCell_other W ⟨g, j, none⟩ k v (by show k ≠ g; omega)).trans (h.2 k o hk ho hc)⟩

set_option maxRecDepth 10000 in
set_option maxHeartbeats 4000000 in
theorem cleast_ok (A : Option Addr) (n cap : Nat) (L : List Sm) (r : Nat) (w : World) (hn : n ≤ 1048576) (hg : cuGood L n) (hr : r ≤ 18446744073709551615) (hA : SmRow w A n L)
    (CC : Hid (∀ w', Below w.heap.size w w' → Calls Try.prog 21 #[.slice A n cap] w' fun e w'' => e = .returned (.agg #[.int .i64 0, .int .i64 0]) ∧ Below w'.heap.size w' w'')) :
    Calls Try.prog 11 #[.slice A n cap, .int .u64 r] w fun e w' => e = .returned (.tuple #[.int .u64 (wlo (cuBurst (cuMost L r n)) : Nat), .agg #[.int .i64 0, .int .i64 0]]) ∧ Below w.heap.size w w' := by
  have HN := Lib.hid hn
  have HG := Lib.hid hg
  have HR := Lib.hid hr
  have HA := Lib.hid hA
  have hAlt : ∀ b o, A = some ⟨b, o, none⟩ → 0 < n → b < w.heap.size := fun b o e h0 => by
    obtain ⟨b', o', e', hb', _⟩ := hA.addr h0
    rw [e] at e'
    injection e' with e'
    injection e' with e1 e2
    omega
  have HALT := Lib.hid hAlt
  clear hn hg hr hA hAlt
  refine (callsIn_wide (n := 5)).1 ?_
  refine callsIn_of_wp_marks Try.func11 rfl trivial ?_ rfl
  simp only [Try.ntmps11, List.size_toArray, List.length_cons, List.length_nil, Nat.reduceAdd, Nat.reduceSub, Array.replicate_succ, Array.replicate_zero, List.push_toArray, List.append_toArray, List.nil_append, List.cons_append]
  have K0 := Lib.hid (KV.one w 26 [.int .i64 0, .int .i64 0])
  gi_upto_region 1 with fail
  gi_upto_region 2 with (refine ⟨trivial, ?_⟩; gi_at_call 21; refine (callsIn_wide.2 (CC.out _ K0.out.bel)).mono ?_; rintro e w1 ⟨rfl, b1⟩)
  have K1 := Lib.hid ((K0.out.below b1).new 26 [.int .i64 0, .int .i64 0])
  simp only [List.cons_append, List.nil_append] at K1
  clear b1 K0 CC
  have f0 := (K1.out.at 1 rfl).get 0
  simp at f0
  have K2 := Lib.hid ((K1.out.new 42 [.int .u64 0, .int .u64 0]).pick [0, 2] (by decide) (L' := [(26, w.heap.size, [.int .i64 0, .int .i64 0]), (42, (w1.alloc (.cells #[.int .i64 0, .int .i64 0] 26)).heap.size, [.int .u64 0, .int .u64 0])]) rfl (fun q hq => by simp at hq; rcases hq with rfl | rfl <;> simp))
  simp only [World.size_alloc] at K2
  clear K1
  gi_upto_region 5 with fail
  clear f0
  generalize w1.heap.size + 1 = g7 at *
  obtain ⟨W2, hW2⟩ : ∃ W, W = (w1.alloc (.cells #[.int .i64 0, .int .i64 0] 26)).alloc (.cells #[.int .u64 0, .int .u64 0] 42) := ⟨_, rfl⟩
  have K3 : KV w [(26, w.heap.size, [.int .i64 0, .int .i64 0]), (42, g7, [.int .u64 0, .int .u64 0])] W2 := by rw [hW2]; exact K2.out
  rw [← hW2]
  clear hW2 K2
  have HAW := Lib.hid (HA.out.below K3.bel)
  gi_wp2_with (refine ⟨trivial, ?_⟩; gi_at_call 22; refine (exces_in _ _ _ _ _).mono ?_; rintro e w3 ⟨rfl, rfl⟩)
  obtain ⟨c, hc⟩ : ∃ c, c = W2.heap.size := ⟨_, rfl⟩
  obtain ⟨wl, hwl⟩ : ∃ W, W = (W2.alloc (.cells #[.slice A n cap] 22)).alloc (.cells #[.int .u64 r] 23) := ⟨_, rfl⟩
  have bl : Below W2.heap.size W2 wl := by rw [hwl]; exact ((Below.refl _ W2).alloc (Nat.le_refl _) _).alloc (by simp) _
  have sl : wl.heap.size = c + 2 := by rw [hwl, hc]; simp
  have xl : ArrV 22 wl c [.slice A n cap] := by rw [hwl, hc]; exact (ArrV.new _ W2 [.slice A n cap]).alloc _
  have xr : ArrV 23 wl (c + 1) [.int .u64 r] := by
    rw [hwl, hc]
    have h := ArrV.new 23 (W2.alloc (.cells #[.slice A n cap] 22)) [.int .u64 r]
    rw [World.size_alloc] at h
    exact h
  rw [← hwl, ← hc]
  have KW : KV w [(26, w.heap.size, [.int .i64 0, .int .i64 0]), (42, g7, [.int .u64 0, .int .u64 0])] wl := K3.below bl
  have hgc : g7 < c := by rw [hc]; exact (K3.at 1 rfl).lt
  have hgw : w.heap.size ≤ g7 := K3.own 1 _ rfl
  have hws := KW.bel.size
  have hl0 : w.heap.size < wl.heap.size := (KW.at 0 rfl).lt
  have hl1 : g7 < wl.heap.size := (KW.at 1 rfl).lt
  have hwc : w.heap.size ≤ c := by omega
  have hrl := HAW.out.below bl
  have hrw := HA.out
  clear hwl hc bl K3 HAW
  refine rangeFree rfl (by omega) (gf := 38) (lb := #[.pointer (some ⟨c, 0, none⟩), .pointer (some ⟨c + 1, 0, none⟩)]) rfl trivial (enters_of Try.func38 (by kernel_rfl) rfl)
    (exc_stops w.heap.size c A n cap L r wl HN.out HG.out HR.out hwc HALT.out (by omega) xl xr hrl) KpR.trans (fun W l o o' _ hl ho => KpR.put hl ho) (fun _ => rfl)
    (fun pre W => ∃ a b : Nat, (a = whi (mOf L r (excIxs pre)) ∧ b = wlo (mOf L r (excIxs pre))) ∧ KV w [(26, w.heap.size, [.int .i64 0, .int .i64 0]), (42, g7, [.int .u64 a, .int .u64 b])] W)
    (fun cd pre W => False)
    (fun s P Q h hb => by
      obtain ⟨a, b, h1, h2⟩ := h
      exact ⟨a, b, h1, h2.belowB hb (fun q p hp => by
        match q, hp with
        | 0, hp => cases hp; exact hl0
        | 1, hp => cases hp; exact hl1
        | q + 2, hp => cases hp) hws⟩)
    (fun cd s P Q h hb => h)
    ⟨0, 0, ⟨by simp [mOf, excIxs, whi], by simp [mOf, excIxs, wlo]⟩, KW⟩
    (fun x V => { tmps := #[.slice A n cap, .int .u64 r, undef, undef, .int .u64 0, .pointer (some ⟨w.heap.size, 0, none⟩), .pointer (some ⟨w1.heap.size, 0, none⟩), .pointer (some ⟨g7, 0, none⟩), undef, .pointer (some ⟨V.heap.size, 0, none⟩), undef, undef, .slice A n cap, .agg #[.int .i64 0, .int .i64 0], .pointer (some ⟨w1.heap.size, 0, none⟩), .int .i64 0, .bool false, undef, .slice A n cap, .int .u64 r, .func (.func 38) #[] #[.pointer (some ⟨c, 0, none⟩), .pointer (some ⟨c + 1, 0, none⟩)], .int .i64 ((x.val : Nat) : Int), .agg #[.int .u64 (whi (cuExc L r x.val) : Nat), .int .u64 (wlo (cuExc L r x.val) : Nat)], undef, undef, undef, undef, undef, undef, undef, undef, undef, undef, undef, undef, undef, undef, undef, undef, undef, undef, undef, undef], defers := [] })
    (fun x V => V.alloc (.cells #[.int .u64 (whi (cuExc L r x.val) : Nat), .int .u64 (wlo (cuExc L r x.val) : Nat)] 42)) (fun x V => (Below.refl _ V).alloc (Nat.le_refl _) _) (fun x V => (keeps_below (B := 0) ((Below.refl _ V).alloc (Nat.le_refl _) _)).2) ?assign ?body ?done ?stop
  case assign =>
    intro l x W K hK
    unfold excEnc
    gi_wp2
    exact hK
  case body =>
    rintro l pre x V U ⟨a, b, hab, KU⟩ hVs hUs hUo hlt
    have hxn := x.isLt
    have hEX : ArrV 42 U V.heap.size [.int .u64 (whi (cuExc L r x.val) : Nat), .int .u64 (wlo (cuExc L r x.val) : Nat)] := by
      unfold ArrV
      rw [hUo _ (by omega)]
      exact ArrV.new _ V _
    have hsm := exc_small r HG.out HN.out hxn
    have hmx : mOf L r (excIxs (pre ++ [x])) = max (mOf L r (excIxs pre)) (cuExc L r x.val) := by rw [excIxs_add, mOf_add]
    have hms := mOf_small r HG.out HN.out pre
    obtain ⟨E, hE⟩ : ∃ E, E = cuExc L r x.val := ⟨_, rfl⟩
    obtain ⟨M, hM⟩ : ∃ E, E = mOf L r (excIxs pre) := ⟨_, rfl⟩
    obtain ⟨ex, hex⟩ : ∃ z, z = whi E := ⟨_, rfl⟩
    obtain ⟨ey, hey⟩ : ∃ z, z = wlo E := ⟨_, rfl⟩
    rw [← hE] at hEX hsm hmx ⊢
    rw [← hM] at hab hmx hms
    obtain ⟨tt, htt⟩ : ∃ z, z = decide (M < E) := ⟨_, rfl⟩
    have CL : Hid (∀ w, Calls Try.prog 20 #[.agg #[.int .u64 a, .int .u64 b], .agg #[.int .u64 ex, .int .u64 ey]] w fun e w' => e = .returned (.bool tt) ∧ Below w.heap.size w w') := by rw [hab.1, hab.2, hex, hey, htt]; exact fun w => less_nums M E w hms hsm
    rw [← hex, ← hey] at hEX ⊢
    have a0 := hEX.get 0
    have a1 := hEX.get 1
    have c0 := (KU.at 1 rfl).get 0
    have c1 := (KU.at 1 rfl).get 1
    simp at a0 a1 c0 c1
    have HMX := Lib.hid hmx
    have HT := Lib.hid htt
    have HAB := Lib.hid hab
    have HEX : Hid (ex = whi E ∧ ey = wlo E) := ⟨hex, hey⟩
    clear hE hM hex hey htt hsm hms hmx hab hxn
    gi_upto_if 25 with (refine ⟨trivial, ?_⟩; gi_at_call 20; refine (CallsIn.inRound l (callsIn_wide.2 (CL.out _))).mono ?_; rintro e U2 ⟨rfl, b2⟩)
    have hk := keeps_below (B := wl.heap.size) (m := w.heap.size) (c := c) b2
    have KU2 := KU.below b2
    have hEX2 := hEX.below b2
    clear hEX KU b2 a0 a1 c0 c1
    cases tt with
    | false =>
      have hle := of_decide_eq_false HT.out.symm
      gi_wp2
      refine ⟨hk.1, hk.2, a, b, ?_, KU2⟩
      rw [HMX.out, Nat.max_eq_left (Nat.not_lt.1 hle)]
      exact HAB.out
    | true =>
      have hle := of_decide_eq_true HT.out.symm
      have HLE := Lib.hid hle
      have a0 := hEX2.get 0
      have a1 := hEX2.get 1
      have f0 := (KU2.at 1 rfl).frozen 0
      have f1 := (KU2.at 1 rfl).frozen 1
      have r0 := (KU2.at 1 rfl).get 0
      have r1 := (KU2.at 1 rfl).get 1
      simp at a0 a1 r0 r1
      have KE := KU2.store 1 rfl [.int .u64 ex, .int .u64 ey] rfl
      simp only [List.set_cons_succ, List.set_cons_zero, World.setCells, Nat.zero_add] at KE
      clear hle
      gi_wp2
      refine ⟨keeps_set (keeps_set hk.1 _ _) _ _, kpr_set (kpr_set hk.2 _ hgw hgc) _ hgw hgc, ex, ey, ?_, KE⟩
      rw [HMX.out, Nat.max_eq_right (Nat.le_of_lt HLE.out)]
      exact HEX.out
  case done =>
    rintro D ys W hD hys ⟨a, b, hab0, hK⟩ hKd
    rw [hys, mOf_all] at hab0
    obtain ⟨M, hM⟩ : ∃ x, x = cuMost L r n := ⟨_, rfl⟩
    rw [← hM] at hab0
    have hM1 : Hid (M < w128) := by show M < w128; rw [hM]; exact cuMost_small r HG.out HN.out
    have HMM : Hid (cuMost L r n = M) := hM.symm
    have hab := Lib.hid hab0
    have HKV := Lib.hid hK
    have KB0 := Lib.hid (KV.nil W)
    have HDL : Hid (D < W.heap.size) := (Array.getElem?_eq_some_iff.1 hKd).1
    clear hM hys hK hab0
    obtain ⟨Q0, hQ0⟩ : ∃ x, x = M / 1000000000 := ⟨_, rfl⟩
    obtain ⟨R0, hR0⟩ : ∃ x, x = M % 1000000000 := ⟨_, rfl⟩
    obtain ⟨qx, hqx⟩ : ∃ x, x = whi Q0 := ⟨_, rfl⟩
    obtain ⟨qy, hqy⟩ : ∃ x, x = wlo Q0 := ⟨_, rfl⟩
    have hQ1 : Q0 < w128 := by rw [hQ0]; exact Nat.lt_of_le_of_lt (Nat.div_le_self _ _) hM1.out
    have CD : Hid (∀ w, Calls Try.prog 28 #[.agg #[.int .u64 a, .int .u64 b], .int .u64 1000000000] w fun e w' => e = .returned (.tuple #[.agg #[.int .u64 qx, .int .u64 qy], .int .u64 R0]) ∧ Below w.heap.size w w') := by rw [hab.out.1, hab.out.2, hqx, hqy, hQ0, hR0]; exact fun w => div_nums M 1000000000 w hM1.out (by decide) (by decide)
    have z0 := (HKV.out.at 1 rfl).get 0
    have z1 := (HKV.out.at 1 rfl).get 1
    simp at z0 z1
    obtain ⟨tt, htt⟩ : ∃ x, x = decide ((0 : Int) < (R0 : Int)) := ⟨_, rfl⟩
    by_cases hR : 0 < R0
    · have hri : (0 : Int) < (R0 : Int) := by omega
      have hB1 : Q0 + 1 < w128 := by have := hM1.out; rw [hQ0]; unfold w128 at this ⊢; omega
      obtain ⟨x, hx⟩ : ∃ z, z = whi (Q0 + 1) := ⟨_, rfl⟩
      obtain ⟨y, hy⟩ : ∃ z, z = wlo (Q0 + 1) := ⟨_, rfl⟩
      have HB : Hid (cuBurst M = Q0 + 1) := by show cuBurst M = Q0 + 1; unfold cuBurst; rw [← hR0, if_pos hR, hQ0]
      have CO : Hid (∀ w, Calls Try.prog 29 #[.int .u64 1] w fun e w' => e = .returned (.agg #[.int .u64 0, .int .u64 1]) ∧ Below w.heap.size w w') := fun w => of_any 1 w
      have CA : Hid (∀ w, Calls Try.prog 18 #[.agg #[.int .u64 qx, .int .u64 qy], .agg #[.int .u64 0, .int .u64 1]] w fun e w' => e = .returned (.tuple #[.agg #[.int .u64 x, .int .u64 y], .bool false]) ∧ Below w.heap.size w w') := by
        have h := fun w => add_nums Q0 1 (Q0 + 1) w hQ1 (by decide) rfl
        rw [decide_eq_false (Nat.not_le.2 hB1), ← hx, ← hy] at h
        rw [hqx, hqy]
        exact h
      have HQ : Hid (qx = whi Q0 ∧ qy = wlo Q0) := ⟨hqx, hqy⟩
      have HXY : Hid (y = wlo (Q0 + 1)) := hy
      clear hQ0 hR0 hqx hqy hQ1 hR htt tt hB1 hx hy hab
      gi_upto_region 10 with (refine ⟨trivial, ?_⟩; gi_at_call 28; refine (callsIn_wide.2 (CD.out _)).mono ?_; rintro e wd ⟨rfl, bd⟩)
      have KD := Lib.hid ((KB0.out.below bd).new 42 [.int .u64 qx, .int .u64 qy])
      simp only [List.cons_append, List.nil_append] at KD
      clear bd z0 z1
      generalize wd.heap.size = gq at *
      generalize wd.alloc (.cells #[.int .u64 (qx : Int), .int .u64 (qy : Int)] 42) = WD at *
      gi_upto_region 11 with fail
      refine wpIn_wide.2 ?_
      refine wp_region_put (C0 := KV W [(42, gq, [.int .u64 qx, .int .u64 qy])]) (C1 := KV W [(42, gq, [.int .u64 x, .int .u64 y])]) [some (.agg #[.int .u64 qx, .int .u64 qy]), some (.agg #[.int .u64 0, .int .u64 1]), some (.tuple #[.agg #[.int .u64 x, .int .u64 y], .bool false]), some (.tuple #[.agg #[.int .u64 x, .int .u64 y], .bool false]), some (.agg #[.int .u64 x, .int .u64 y]), some (.bool false), none] 6 [0, 1, 2, 3, 4] (by kernel_rfl) (by kernel_rfl) KD.out.drew ?_ (fun WA hWA => ?_)
      · clear KD
        refine putWalk_quiet rfl (fun W hw' => quietAt_part (off := 0) (n := 2) (vs := [.int .u64 qx, .int .u64 qy]) rfl rfl tywide2 (hw'.at 0 rfl) rfl rfl) (fun hna => absurd hna (by decide)) ?_
        simp only [Act.put, List.setIfInBounds_toArray, List.set_cons_zero, List.set_cons_succ]
        refine putWalk_quiet rfl (fun W hw' => quietAt_call (f := 29) (args := #[.int .u64 1]) (by simp [go_sem]) ((CO.out W).mono fun e w'' h => ⟨h.1, hw'.below h.2⟩)) (fun hna => absurd hna (by decide)) ?_
        simp only [Act.put, List.setIfInBounds_toArray, List.set_cons_zero, List.set_cons_succ]
        refine putWalk_quiet rfl (fun W hw' => quietAt_call (f := 18) (args := #[.agg #[.int .u64 qx, .int .u64 qy], .agg #[.int .u64 0, .int .u64 1]]) (by simp [go_sem]) ((CA.out W).mono fun e w'' h => ⟨h.1, hw'.below h.2⟩)) (fun hna => absurd hna (by decide)) ?_
        simp only [Act.put, List.setIfInBounds_toArray, List.set_cons_zero, List.set_cons_succ]
        refine putWalk_quiet rfl (fun W hw' => quietAt_run (by simp [go_sem])) (fun hna => absurd hna (by decide)) ?_
        simp only [Act.put, List.setIfInBounds_toArray, List.set_cons_zero, List.set_cons_succ]
        refine putWalk_quiet rfl (fun W hw' => quietAt_run (by simp [go_sem])) (fun hna => absurd hna (by decide)) ?_
        simp only [Act.put, List.setIfInBounds_toArray, List.set_cons_zero, List.set_cons_succ]
        refine putWalk_quiet rfl (fun W hw' => quietAt_run (by simp [go_sem])) (fun hna => fun W hw' => quietAt_run (by simp [go_sem])) ?_
        simp only [Act.put, List.setIfInBounds_toArray, List.set_cons_zero, List.set_cons_succ]
        refine putWalk_put rfl (put_store 0 rfl rfl rfl rfl tywide2 rfl rfl (by simp [Value.oneCell'])) ?_
        trivial
      have KA := Lib.hid hWA
      clear hWA KD
      simp only [List.length_cons, List.length_nil, lexAct, pval, toK, List.map_cons, List.map_nil, List.getElem?_cons_zero, List.getElem?_cons_succ, Option.bind_some, Act.put, List.setIfInBounds_toArray, List.set_cons_zero, List.set_cons_succ]
      have v1 := (KA.out.at 0 rfl).get 1
      have HKD := Lib.hid ((KA.out.bel.block D HDL.out).trans hKd)
      have KF := Lib.hid (HKV.out.below KA.out.bel)
      have f0 := (KF.out.at 0 rfl).frozen 0
      have f1 := (KF.out.at 0 rfl).frozen 1
      have r0 := (KF.out.at 0 rfl).get 0
      have r1 := (KF.out.at 0 rfl).get 1
      simp at v1 r0 r1
      have KE := KF.out.store 0 rfl [.int .i64 0, .int .i64 0] rfl
      simp only [List.set_cons_succ, List.set_cons_zero, World.setCells, Nat.zero_add] at KE
      have hKd' := ((KeepsOthers.setCell _ ⟨w.heap.size, 0, none⟩ (.int .i64 0)).trans (KeepsOthers.setCell _ ⟨w.heap.size, 1, none⟩ (.int .i64 0))).same D _ HKD.out rfl
      gi_wp2
      refine ⟨by simp, .inl ⟨_, _, rfl, run_takeDeferred hKd', ?_⟩⟩
      have KP := Lib.hid (KE.belowB (below_put (o' := .deferred none) hKd' hD) (fun q p hp => by
        match q, hp with
        | 0, hp => cases hp; exact hl0
        | 1, hp => cases hp; exact hl1
        | q + 2, hp => cases hp) hws)
      have y0 := (KP.out.at 0 rfl).get 0
      have y1 := (KP.out.at 0 rfl).get 1
      simp at y0 y1
      refine ⟨.tuple #[.int .u64 y, .agg #[.int .i64 0, .int .i64 0]], ?_, by rw [HMM.out, HB.out, ← HXY.out], KP.out.bel⟩
      simp [results, Try.f11, go_sem, y0, y1]
    · have hri : ¬ (0 : Int) < (R0 : Int) := by omega
      have HB : Hid (cuBurst M = Q0) := by show cuBurst M = Q0; unfold cuBurst; rw [← hR0, if_neg hR, hQ0, Nat.add_zero]
      have HQ : Hid (qx = whi Q0 ∧ qy = wlo Q0) := ⟨hqx, hqy⟩
      clear hQ0 hR0 hqx hqy hQ1 hR htt tt hab
      gi_upto_region 10 with (refine ⟨trivial, ?_⟩; gi_at_call 28; refine (callsIn_wide.2 (CD.out _)).mono ?_; rintro e wd ⟨rfl, bd⟩)
      have KD := Lib.hid ((KB0.out.below bd).new 42 [.int .u64 qx, .int .u64 qy])
      simp only [List.cons_append, List.nil_append] at KD
      clear bd z0 z1
      generalize wd.heap.size = gq at *
      generalize wd.alloc (.cells #[.int .u64 (qx : Int), .int .u64 (qy : Int)] 42) = WD at *
      have KA := KD
      clear KD
      have v1 := (KA.out.at 0 rfl).get 1
      have HKD := Lib.hid ((KA.out.bel.block D HDL.out).trans hKd)
      have KF := Lib.hid (HKV.out.below KA.out.bel)
      have f0 := (KF.out.at 0 rfl).frozen 0
      have f1 := (KF.out.at 0 rfl).frozen 1
      have r0 := (KF.out.at 0 rfl).get 0
      have r1 := (KF.out.at 0 rfl).get 1
      simp at v1 r0 r1
      have KE := KF.out.store 0 rfl [.int .i64 0, .int .i64 0] rfl
      simp only [List.set_cons_succ, List.set_cons_zero, World.setCells, Nat.zero_add] at KE
      have hKd' := ((KeepsOthers.setCell _ ⟨w.heap.size, 0, none⟩ (.int .i64 0)).trans (KeepsOthers.setCell _ ⟨w.heap.size, 1, none⟩ (.int .i64 0))).same D _ HKD.out rfl
      gi_wp2
      refine ⟨by simp, .inl ⟨_, _, rfl, run_takeDeferred hKd', ?_⟩⟩
      have KP := Lib.hid (KE.belowB (below_put (o' := .deferred none) hKd' hD) (fun q p hp => by
        match q, hp with
        | 0, hp => cases hp; exact hl0
        | 1, hp => cases hp; exact hl1
        | q + 2, hp => cases hp) hws)
      have y0 := (KP.out.at 0 rfl).get 0
      have y1 := (KP.out.at 0 rfl).get 1
      simp at y0 y1
      refine ⟨.tuple #[.int .u64 qy, .agg #[.int .i64 0, .int .i64 0]], ?_, by rw [HMM.out, HB.out, ← HQ.out.2], KP.out.bel⟩
      simp [results, Try.f11, go_sem, y0, y1]
  case stop =>
    rintro D cd pre W hD hsp h hKd
    exact h.elim

set_option maxRecDepth 10000 in
set_option maxHeartbeats 4000000 in
theorem cleast_bad (A : Option Addr) (n cap q : Nat) (r : Nat) (w : World)
    (CC : Hid (∀ w', Below w.heap.size w w' → Calls Try.prog 21 #[.slice A n cap] w' fun e w'' => e = .returned (.agg #[.int .i64 1, .int .i64 (q : Nat)]) ∧ Below w'.heap.size w' w'')) :
    Calls Try.prog 11 #[.slice A n cap, .int .u64 r] w fun e w' => e = .returned (.tuple #[.int .u64 0, .agg #[.int .i64 1, .int .i64 (q : Nat)]]) ∧ Below w.heap.size w w' := by
  refine (callsIn_wide (n := 5)).1 ?_
  refine callsIn_of_wp_marks Try.func11 rfl trivial ?_ rfl
  simp only [Try.ntmps11, List.size_toArray, List.length_cons, List.length_nil, Nat.reduceAdd, Nat.reduceSub, Array.replicate_succ, Array.replicate_zero, List.push_toArray, List.append_toArray, List.nil_append, List.cons_append]
  have K0 := Lib.hid (KV.one w 26 [.int .i64 0, .int .i64 0])
  gi_upto_region 1 with fail
  gi_upto_region 2 with (refine ⟨trivial, ?_⟩; gi_at_call 21; refine (callsIn_wide.2 (CC.out _ K0.out.bel)).mono ?_; rintro e w1 ⟨rfl, b1⟩)
  have K1 := Lib.hid ((K0.out.below b1).new 26 [.int .i64 1, .int .i64 (q : Int)])
  simp only [List.cons_append, List.nil_append] at K1
  clear b1 K0 CC
  have f0 := (K1.out.at 1 rfl).get 0
  simp at f0
  gi_upto_region 3 with fail
  generalize w1.heap.size = g5 at *
  generalize w1.alloc (.cells #[.int .i64 1, .int .i64 (q : Int)] 26) = W1 at *
  clear f0
  refine wpIn_wide.2 ?_
  refine wp_region_mul (C := fun S W => KV w [(26, w.heap.size, [(bif S 2 then .int .i64 1 else .int .i64 0), (bif S 2 then .int .i64 (q : Int) else .int .i64 0)]), (26, g5, [.int .i64 1, .int .i64 (q : Int)])] W) [some (.agg #[.int .i64 1, .int .i64 (q : Int)]), some (.int .u64 0), none] (by kernel_rfl) (by kernel_rfl) (fun S S' W h hw' => ?_) K1.out.drew ?_ (fun S W9 hS hw9 => ?_)
  · rw [show S 2 = S' 2 from h 2 rfl] at hw'
    exact hw'
  · clear K1
    refine mulWalk_quiet rfl (fun S W hw' => quietAt_part (off := 0) (n := 2) (vs := [.int .i64 1, .int .i64 (q : Int)]) rfl rfl tyfault (hw'.at 1 rfl) rfl rfl) ?_
    simp only [Act.put, List.setIfInBounds_toArray, List.set_cons_zero, List.set_cons_succ]
    refine mulWalk_quiet rfl (fun S W hw' => quietAt_run rfl) ?_
    simp only [Act.put, List.setIfInBounds_toArray, List.set_cons_zero, List.set_cons_succ]
    refine mulWalk_put rfl (fun S W hS hw' => ?_) ?_
    · have h2 := hw'.store 0 rfl [.int .i64 1, .int .i64 (q : Int)] rfl
      exact ⟨_, put_two 0 rfl rfl rfl rfl tyfault rfl rfl hw', by simpa [World.setCells] using h2⟩
    trivial
  rw [show S 2 = true from hS 2 rfl] at hw9
  simp only [cond_true] at hw9
  have KP := Lib.hid hw9
  clear hw9 hS K1
  simp only [List.length_cons, List.length_nil, lexAct, pval, toK, List.map_cons, List.map_nil, List.getElem?_cons_zero, List.getElem?_cons_succ, Option.bind_some, Act.put, List.setIfInBounds_toArray, List.set_cons_zero, List.set_cons_succ]
  have y2 := (KP.out.at 0 rfl).get 0
  have y3 := (KP.out.at 0 rfl).get 1
  simp at y2 y3
  gi_wp2
  refine ⟨.tuple #[.int .u64 0, .agg #[.int .i64 1, .int .i64 (q : Int)]], ?_, rfl, KP.out.bel⟩
  simp [results, Try.f11, go_sem, y2, y3]
theorem cleast_any (A : Option Addr) (n cap : Nat) (L : List Sm) (r : Nat) (w : World) (hn : n ≤ 1048576) (hr : r ≤ 18446744073709551615) (hA : SmRow w A n L) :
    Calls Try.prog 11 #[.slice A n cap, .int .u64 r] w fun e w' => e = .returned (.tuple #[.int .u64 (cuLeast L r : Nat), .agg (fvC (cuBad L)).toArray]) ∧ Below w.heap.size w w' := by
  have CC := Lib.hid (fun w' (h : Below w.heap.size w w') => ccheck_any A n cap L w' (by omega) (hA.below h))
  unfold cuLeast
  cases hB : cuBad L with
  | some q =>
    rw [hB] at CC
    rw [if_neg (by simp)]
    exact cleast_bad A n cap q r w CC
  | none =>
    rw [hB] at CC
    rw [if_pos rfl, hA.1]
    exact cleast_ok A n cap L r w hn (by have := cuGood_of hB; rw [hA.1] at this; exact this) hr hA CC
end Go.Proofs.Ytemgnaalmgkfiaa
