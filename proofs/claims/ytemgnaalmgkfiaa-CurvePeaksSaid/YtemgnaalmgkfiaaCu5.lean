/-
  curve's Breaks.
-/
import Derived.Test.YtemgnaalmgkfiaaCu4
import Derived.Test.YtemgnaalmgkfiaaMul
namespace Go.Proofs.Ytemgnaalmgkfiaa
open Go.RowKit
set_option linter.unusedVariables false
attribute [local go_sem] Oper.semAt_some

theorem KV.lts {w W : World} {L : List (TypeId × Nat × List Value)} (h : KV w L W) : ∀ (i : Nat) p, L[i]? = some p → p.2.1 < W.heap.size := fun i p hp => (h.arr i p hp).lt
theorem KV.belowB {B : Nat} {w W W' : World} {L : List (TypeId × Nat × List Value)} (h : KV w L W) (hb : Below B W W') (hL : ∀ (i : Nat) p, L[i]? = some p → p.2.1 < B) (hw : w.heap.size ≤ B) : KV w L W' :=
  ⟨fun i p hp => (h.arr i p hp).belowB hb (hL i p hp), h.own, h.apart, h.bel.trans (hb.mono hw)⟩
theorem keeps_below {B m c : Nat} {W W' : World} (hb : Below W.heap.size W W') : KeepsFrom B W W' ∧ KpR m c W W' :=
  ⟨⟨hb.size, fun k o _ hk _ => (hb.block k (Array.getElem?_eq_some_iff.1 hk).1).trans hk⟩, ⟨hb.size, fun g o _ hk _ => (hb.block g (Array.getElem?_eq_some_iff.1 hk).1).trans hk⟩⟩
/-- What Breaks tells. -/
def BRes (L : List Sm) (r m n i j : Nat) (ec ea : Int) : Prop := (BrkIs L r m i j ∧ j < n ∧ ec = 17 ∧ ea = (j : Int)) ∨ ((∀ k, k < n → ¬ m < cuExc L r k) ∧ i = 0 ∧ j = 0 ∧ ec = 0 ∧ ea = 0)
theorem bres_same {L : List Sm} {r m n i j i' j' : Nat} {ec ea ec' ea' : Int} (h : BRes L r m n i j ec ea) (h' : BRes L r m n i' j' ec' ea') : i = i' ∧ j = j' ∧ ec = ec' ∧ ea = ea' := by
  rcases h with ⟨a, b, rfl, rfl⟩ | ⟨a, rfl, rfl, rfl, rfl⟩ <;> rcases h' with ⟨a', b', rfl, rfl⟩ | ⟨a', rfl, rfl, rfl, rfl⟩
  · obtain ⟨rfl, rfl⟩ := brk_same a a'
    exact ⟨rfl, rfl, rfl, rfl⟩
  · exact (brk_none a' a b).elim
  · exact (brk_none a a' b').elim
  · exact ⟨rfl, rfl, rfl, rfl⟩

theorem cuTo_take (L : List Sm) {k : Nat} : ∀ {j : Nat}, j ≤ k → cuTo (L.take k) j = cuTo L j
  | 0, _ => rfl
  | j + 1, h => by
    have e : (L.take k).getD j sm0 = L.getD j sm0 := by rw [List.getD_eq_getElem?_getD, List.getD_eq_getElem?_getD, List.getElem?_take, if_pos (by omega)]
    show cuTo (L.take k) j + cuS (L.take k) j = cuTo L j + cuS L j
    unfold cuS
    rw [cuTo_take L (by omega : j ≤ k), e]
theorem rtMax_take (l : List Nat) {k : Nat} : ∀ {j : Nat}, j ≤ k → rtMax (l.take k) j = rtMax l j
  | 0, _ => rfl
  | j + 1, h => by
    have e : (l.take k).getD j 0 = l.getD j 0 := by rw [List.getD_eq_getElem?_getD, List.getD_eq_getElem?_getD, List.getElem?_take, if_pos (by omega)]
    show max (rtMax (l.take k) j) ((l.take k).getD j 0) = max (rtMax l j) (l.getD j 0)
    rw [rtMax_take l (by omega : j ≤ k), e]
theorem cuT_take (L : List Sm) {k j : Nat} (h : j < k) : cuT (L.take k) j = cuT L j := by
  unfold cuT smT
  rw [List.map_take]
  exact rtMax_take _ (by omega)
theorem cuOver_take (L : List Sm) (r : Nat) {k i j : Nat} (hi : i ≤ j) (h : j < k) : cuOver (L.take k) r i j = cuOver L r i j := by
  unfold cuOver
  rw [cuTo_take L (by omega : j + 1 ≤ k), cuTo_take L (by omega : i ≤ k), cuT_take L h, cuT_take L (by omega : i < k)]
theorem cuGood_take {L : List Sm} {n k : Nat} (h : cuGood L n) (hk : k ≤ n) : cuGood (L.take k) k := fun i hi => by
  have e : (L.take k).getD i sm0 = L.getD i sm0 := by rw [List.getD_eq_getElem?_getD, List.getD_eq_getElem?_getD, List.getElem?_take, if_pos hi]
  rw [e]
  exact h i (by omega)
theorem beg_exists (L : List Sm) (r m last : Nat) : ∀ d, d ≤ last + 1 → ∃ f, BegTo L r m last (last + 1 - d) f
  | 0, _ => ⟨last, beg_start⟩
  | d + 1, h => by
    obtain ⟨f, hf⟩ := beg_exists L r m last d (by omega)
    rw [show last + 1 - d = (last + 1 - (d + 1)) + 1 by omega] at hf
    by_cases hm : m < cuOver L r (last + 1 - (d + 1)) last
    · exact ⟨_, beg_yes hf (by omega) hm⟩
    · exact ⟨_, beg_no hf (by omega) hm⟩
theorem beg_unique {L : List Sm} {r m last f f' : Nat} (h : BegTo L r m last 0 f) (h' : BegTo L r m last 0 f') : f = f' := by
  obtain ⟨a1, a2, a3⟩ := h
  obtain ⟨b1, b2, b3⟩ := h'
  rcases Nat.lt_trichotomy f f' with e | e | e
  · rcases a3 with ⟨_, h⟩ | ⟨h, _⟩
    · exact absurd h (b2 f (Nat.zero_le _) e)
    · omega
  · exact e
  · rcases b3 with ⟨_, h⟩ | ⟨h, _⟩
    · exact absurd h (a2 f' (Nat.zero_le _) e)
    · omega
/-- begin of the first k packets, at a number known ahead. -/
theorem cbegin_is (A : Option Addr) (n cap : Nat) (L : List Sm) (r m j : Nat) (hn : n ≤ 1048576) (hj : j < n) (hg : cuGood L n) (hr : r ≤ 18446744073709551615) (hm : m < w128) (hx : m < cuExc L r j) :
    ∃ f : Nat, f ≤ j ∧ m < cuOver L r f j ∧ (∀ i, i < f → ¬ m < cuOver L r i j) ∧ ∀ w, SmRow w A n L → Calls Try.prog 23 #[.slice A (j + 1) cap, .int .u64 r, .agg #[.int .u64 (whi m : Nat), .int .u64 (wlo m : Nat)]] w fun e w' => e = .returned (.int .i64 (f : Int)) ∧ Below w.heap.size w w' := by
  obtain ⟨f, hf⟩ := beg_exists (L.take (j + 1)) r m j (j + 1) (Nat.le_refl _)
  rw [Nat.sub_self] at hf
  have h1 := hf
  obtain ⟨a1, a2, a3⟩ := h1
  refine ⟨f, a1, ?_, fun i hi => ?_, fun w hw => ?_⟩
  · rcases a3 with ⟨_, h⟩ | ⟨_, h⟩
    · rw [cuOver_take L r a1 (by omega)] at h; exact h
    · obtain ⟨i, hi, he⟩ := cuExc_has L r j
      have h2 := h i (Nat.zero_le _) hi
      rw [cuOver_take L r hi (by omega), he] at h2
      exact absurd hx h2
  · have h := a2 i (Nat.zero_le _) hi
    rw [cuOver_take L r (by omega) (by omega)] at h
    exact h
  · refine (cbegin_any A (j + 1) cap (L.take (j + 1)) r m w (by omega) (by omega) (cuGood_take hg (by omega)) hr hm (hw.front (j + 1) (by omega))).mono ?_
    rintro e w' ⟨f', rfl, hf', hb⟩
    rw [show j + 1 - 1 = j by omega] at hf'
    rw [beg_unique hf' hf]
    exact ⟨rfl, hb⟩
theorem exc_prefix {n : Nat} {pr : List (Fin n)} {x : Fin n} (h : excIxs (pr ++ [x]) = List.range (pr ++ [x]).length) : ∀ j, j < x.val → ∃ y, y ∈ pr ∧ y.val = j := by
  rw [excIxs_add, List.length_append] at h
  show ∀ j, j < x.val → _
  rw [show pr.length + [x].length = pr.length + 1 from rfl, List.range_succ] at h
  obtain ⟨h1, h2⟩ := List.append_inj' h rfl
  intro j hj
  have e : x.val = pr.length := by simpa using h2
  have hm : j ∈ excIxs pr := by rw [h1]; exact List.mem_range.2 (by omega)
  obtain ⟨y, hy, he⟩ := List.mem_map.1 hm
  exact ⟨y, hy, he⟩
theorem exc_all {n : Nat} {xs : List (Fin n)} (h : excIxs xs = List.range n) : ∀ j, j < n → ∃ y, y ∈ xs ∧ y.val = j := fun j hj => by
  have hm : j ∈ excIxs xs := by rw [h]; exact List.mem_range.2 hj
  obtain ⟨y, hy, he⟩ := List.mem_map.1 hm
  exact ⟨y, hy, he⟩
theorem below_cell {B : Nat} {W : World} {g j : Nat} {v : Value} (h : B ≤ g) : Below B W (W.setCell ⟨g, j, none⟩ v) := (Below.refl B W).setCell (p := ⟨g, j, none⟩) h v
theorem keeps_set {B : Nat} {U W : World} (h : KeepsFrom B U W) (a : Addr) (v : Value) : KeepsFrom B U (W.setCell a v) := h.trans ((KeepsOthers.setCell W a v).from B)
theorem put_int {o : Oper} {a : Act} {w : World} {L : List (TypeId × Nat × List Value)} (i : Nat) {t : TypeId} {g : Nat} {n : Int} {z : Value} {x y : Operand} (hi : L[i]? = some (t, g, [z])) (ho : o.op = .store 3 x y) (hx : a.eval x = .pointer (some ⟨g, 0, none⟩)) (hy : a.eval y = .int .i64 n) {W : World} (hW : KV w L W) :
    (execOp a.eval o).run Try.prog W = .ok .skip (W.setCell ⟨g, 0, none⟩ (.int .i64 n)) := by
  have hc := (hW.at i hi).get 0
  have hf := (hW.at i hi).frozen 0
  simp at hc
  unfold execOp
  simp only [ho, hx, hy]
  simp [Instr.storeAt, Instr.sureAddr, storeVar, go_sem, hc, hf]
theorem tyfault : RowTy 26 2 := ⟨⟨_, Try.underlying26, rfl⟩, by kernel_rfl⟩
theorem put_two {o : Oper} {a : Act} {w : World} {L : List (TypeId × Nat × List Value)} (i : Nat) {t : TypeId} {g : Nat} {x y : Operand} {z z' u v : Value} (hi : L[i]? = some (t, g, [z, z'])) (ho : o.op = .store t x y) (hx : a.eval x = .pointer (some ⟨g, 0, none⟩)) (hy : a.eval y = .agg #[u, v]) (ht : RowTy t 2) (h1 : u.oneCell' = true) (h2 : v.oneCell' = true) {W : World} (hW : KV w L W) :
    (execOp a.eval o).run Try.prog W = .ok .skip ((W.setCell ⟨g, 0, none⟩ u).setCell ⟨g, 1, none⟩ v) := by
  have hst := (hW.at i hi).storeAt ht rfl [u, v] rfl (by simp [h1, h2])
  unfold execOp
  simp only [ho, hx, hy, Sem.run_bind]
  rw [show (Value.agg #[u, v]) = .agg [u, v].toArray from rfl, hst]
  rfl
theorem one_samples : OneTy 22 := fun w => by simp [isAgg, run_underlying Try.underlying22, go_sem]
theorem cu_one {k : Nat} (h : (k : Int) ≤ 1048576) : IntKind.i64.wrap ((k : Int) + 1) = ((k + 1 : Nat) : Int) := by rw [IntKind.wrap_i64]; omega

set_option maxRecDepth 10000 in
set_option maxHeartbeats 4000000 in
theorem cbreaks_ok (A : Option Addr) (n cap : Nat) (L : List Sm) (r bu : Nat) (w : World) (hn : n ≤ 1048576) (hg : cuGood L n) (hr : r ≤ 18446744073709551615) (hbu : bu ≤ 18446744073709551615) (hcap : n ≤ cap) (hA : SmRow w A n L)
    (CC : Hid (∀ w', Below w.heap.size w w' → Calls Try.prog 21 #[.slice A n cap] w' fun e w'' => e = .returned (.agg #[.int .i64 0, .int .i64 0]) ∧ Below w'.heap.size w' w'')) :
    Calls Try.prog 6 #[.slice A n cap, .int .u64 r, .int .u64 bu] w fun e w' => ∃ (i j : Nat) (ec ea : Int), e = .returned (.tuple #[.int .i64 (i : Int), .int .i64 (j : Int), .agg #[.int .i64 ec, .int .i64 ea]]) ∧ BRes L r (1000000000 * bu) n i j ec ea ∧ Below w.heap.size w w' := by
  obtain ⟨m, hm⟩ : ∃ m, m = 1000000000 * bu := ⟨_, rfl⟩
  rw [← hm]
  have hm1 : m < w128 := by rw [hm]; exact prod_lt (by decide) hbu
  obtain ⟨mx, hmx⟩ : ∃ x, x = whi m := ⟨_, rfl⟩
  obtain ⟨my, hmy⟩ : ∃ x, x = wlo m := ⟨_, rfl⟩
  have CM : Hid (∀ w, Calls Try.prog 19 #[.int .u64 1000000000, .int .u64 bu] w fun e w' => e = .returned (.agg #[.int .u64 mx, .int .u64 my]) ∧ Below w.heap.size w w') := by rw [hmx, hmy, hm]; exact fun w => mul_any 1000000000 bu w (by decide) hbu
  have HMX : Hid (mx = whi m ∧ my = wlo m) := ⟨hmx, hmy⟩
  have HM1 := Lib.hid hm1
  have HN := Lib.hid hn
  have HG := Lib.hid hg
  have HR := Lib.hid hr
  have HA := Lib.hid hA
  have HCAP := Lib.hid hcap
  have hAlt : ∀ b o, A = some ⟨b, o, none⟩ → 0 < n → b < w.heap.size := fun b o e h0 => by
    obtain ⟨b', o', e', hb', _⟩ := hA.addr h0
    rw [e] at e'
    injection e' with e'
    injection e' with e1 e2
    omega
  have HALT := Lib.hid hAlt
  clear hm hm1 hmx hmy hn hg hr hbu hA hAlt hcap
  refine (callsIn_wide (n := 5)).1 ?_
  refine callsIn_of_wp_marks Try.func6 rfl trivial ?_ rfl
  simp only [Try.ntmps6, List.size_toArray, List.length_cons, List.length_nil, Nat.reduceAdd, Nat.reduceSub, Array.replicate_succ, Array.replicate_zero, List.push_toArray, List.append_toArray, List.nil_append, List.cons_append]
  have K0 := Lib.hid ((((KV.three w 22 23 3 [.slice A n cap] [.int .u64 r] [.int .i64 0]).new 3 [.int .i64 0]).new 26 [.int .i64 0, .int .i64 0]))
  simp only [World.size_alloc, List.cons_append, List.nil_append] at K0
  have k0 := (K0.out.at 0 rfl).get 0
  simp at k0
  gi_upto_region 1 with fail
  gi_upto_region 2 with (refine ⟨trivial, ?_⟩; gi_at_call 21; refine (callsIn_wide.2 (CC.out _ K0.out.bel)).mono ?_; rintro e w1 ⟨rfl, b1⟩)
  have K1 := Lib.hid ((K0.out.below b1).new 26 [.int .i64 0, .int .i64 0])
  have K1' := Lib.hid (K0.out.below b1)
  simp only [List.cons_append, List.nil_append] at K1
  clear b1 K0 CC k0
  have f0 := (K1.out.at 5 rfl).get 0
  simp at f0
  gi_upto_region 5 with (refine ⟨trivial, ?_⟩; gi_at_call 19; refine (callsIn_wide.2 (CM.out _)).mono ?_; rintro e w2 ⟨rfl, b2⟩)
  have K2 := Lib.hid ((K1.out.below b2).new 42 [.int .u64 mx, .int .u64 my])
  simp only [List.cons_append, List.nil_append] at K2
  clear b2 K1 f0
  generalize w1.heap.size = g5 at *
  generalize hg6 : w2.heap.size = g6 at *
  obtain ⟨W2, hW2⟩ : ∃ W, W = w2.alloc (.cells #[.int .u64 mx, .int .u64 my] 42) := ⟨_, rfl⟩
  rw [← hW2] at K2 ⊢
  clear hW2 hg6
  have b0 := (K2.out.at 0 rfl).get 0
  have b1 := (K2.out.at 1 rfl).get 0
  simp at b0 b1
  have HAW := Lib.hid (HA.out.below K2.out.bel)
  gi_wp2_with (refine ⟨trivial, ?_⟩; gi_at_call 22; refine (exces_in _ _ _ _ _).mono ?_; rintro e w3 ⟨rfl, rfl⟩)
  obtain ⟨c, hc⟩ : ∃ c, c = W2.heap.size := ⟨_, rfl⟩
  obtain ⟨wl, hwl⟩ : ∃ W, W = (W2.alloc (.cells #[.slice A n cap] 22)).alloc (.cells #[.int .u64 r] 23) := ⟨_, rfl⟩
  have bl : Below W2.heap.size W2 wl := by rw [hwl]; exact ((Below.refl _ W2).alloc (Nat.le_refl _) _).alloc (by simp) _
  have sl : wl.heap.size = c + 2 := by rw [hwl, hc]; simp
  have xl : ArrV 22 wl c [.slice A n cap] := by rw [hwl, hc]; exact (ArrV.new _ W2 [.slice A n cap]).alloc _
  have xr : ArrV 23 wl (c + 1) [.int .u64 r] := by
    rw [hwl, hc]
    have h := ArrV.new 23 (W2.alloc (.cells #[.slice A n cap] 22)) [.int .u64 r]
    rw [World.size_alloc] at h
    exact h
  rw [← hwl, ← hc]
  have KW : KV w [(22, w.heap.size, [.slice A n cap]), (23, w.heap.size + 1, [.int .u64 r]), (3, w.heap.size + 2, [.int .i64 0]), (3, w.heap.size + 3, [.int .i64 0]), (26, w.heap.size + 4, [.int .i64 0, .int .i64 0]), (26, g5, [.int .i64 0, .int .i64 0]), (42, g6, [.int .u64 mx, .int .u64 my])] wl := K2.out.below bl
  have hlts := KW.lts
  have hws := KW.bel.size
  have hl2 : w.heap.size + 2 < wl.heap.size := hlts 2 _ rfl
  have hl3 : w.heap.size + 3 < wl.heap.size := hlts 3 _ rfl
  have hl4 : w.heap.size + 4 < wl.heap.size := hlts 4 _ rfl
  have hmw : Try.prog.follows .mixedOrders = true := by kernel_rfl
  have hwc : w.heap.size ≤ c := by rw [hc]; exact K2.out.bel.size
  have hrl := HAW.out.below bl
  have hrw := HA.out
  clear hwl hc bl K2 b0 b1 HAW
  refine rangeFree rfl (by omega) (gf := 38) (lb := #[.pointer (some ⟨c, 0, none⟩), .pointer (some ⟨c + 1, 0, none⟩)]) rfl trivial (enters_of Try.func38 (by kernel_rfl) rfl)
    (exc_stops w.heap.size c A n cap L r wl HN.out HG.out HR.out hwc HALT.out (by omega) xl xr hrl) KpR.trans (fun W l o o' _ hl ho => KpR.put hl ho) (fun _ => rfl)
    (fun pre W => (∀ x, x ∈ pre → ¬ m < cuExc L r x.val) ∧ KV w [(22, w.heap.size, [.slice A n cap]), (23, w.heap.size + 1, [.int .u64 r]), (3, w.heap.size + 2, [.int .i64 0]), (3, w.heap.size + 3, [.int .i64 0]), (26, w.heap.size + 4, [.int .i64 0, .int .i64 0]), (26, g5, [.int .i64 0, .int .i64 0]), (42, g6, [.int .u64 mx, .int .u64 my])] W)
    (fun cd pre W => cd = .ret ∧ ∃ (i : Nat) (pr : List (Fin n)) (x : Fin n), pre = pr ++ [x] ∧ i ≤ x.val ∧ m < cuOver L r i x.val ∧ (∀ i', i' < i → ¬ m < cuOver L r i' x.val) ∧ (∀ y, y ∈ pr → ¬ m < cuExc L r y.val) ∧ KV w [(22, w.heap.size, [.slice A n cap]), (23, w.heap.size + 1, [.int .u64 r]), (3, w.heap.size + 2, [.int .i64 (i : Int)]), (3, w.heap.size + 3, [.int .i64 ((x.val : Nat) : Int)]), (26, w.heap.size + 4, [.int .i64 17, .int .i64 ((x.val : Nat) : Int)]), (26, g5, [.int .i64 0, .int .i64 0]), (42, g6, [.int .u64 mx, .int .u64 my])] W)
    (fun s P Q h hb => ⟨h.1, h.2.belowB hb hlts hws⟩)
    (fun cd s P Q h hb => by
      obtain ⟨h0, i, pr, x, h1, h2, h3, h4, h5, h6⟩ := h
      exact ⟨h0, i, pr, x, h1, h2, h3, h4, h5, h6.belowB hb (fun q p hp => by
        match q, hp with
        | 0, hp => exact hlts 0 p hp
        | 1, hp => exact hlts 1 p hp
        | 2, hp => cases hp; exact hl2
        | 3, hp => cases hp; exact hl3
        | 4, hp => cases hp; exact hl4
        | 5, hp => exact hlts 5 p hp
        | 6, hp => exact hlts 6 p hp
        | q + 7, hp => cases hp) hws⟩)
    ⟨(fun x hx => by cases hx), KW⟩
    (fun x V => { tmps := #[.slice A n cap, .int .u64 r, .int .u64 bu, .pointer (some ⟨w.heap.size, 0, none⟩), .pointer (some ⟨w.heap.size + 1, 0, none⟩), undef, .pointer (some ⟨w.heap.size + 1 + 1, 0, none⟩), .pointer (some ⟨w.heap.size + 1 + 1 + 1, 0, none⟩), .pointer (some ⟨w.heap.size + 1 + 1 + 1 + 1, 0, none⟩), .pointer (some ⟨g5, 0, none⟩), .pointer (some ⟨g6, 0, none⟩), .int .i64 ((x.val : Nat) : Int), .pointer (some ⟨V.heap.size, 0, none⟩), .slice A n cap, .agg #[.int .i64 0, .int .i64 0], .pointer (some ⟨g5, 0, none⟩), .int .i64 0, .bool false, undef, .int .u64 bu, .agg #[.int .u64 mx, .int .u64 my], .slice A n cap, .int .u64 r, .func (.func 38) #[] #[.pointer (some ⟨c, 0, none⟩), .pointer (some ⟨c + 1, 0, none⟩)], .int .i64 ((x.val : Nat) : Int), .agg #[.int .u64 (whi (cuExc L r x.val) : Nat), .int .u64 (wlo (cuExc L r x.val) : Nat)], undef, undef, undef, undef, undef, undef, undef, undef, undef, undef, undef, undef, undef, undef], defers := [] })
    (fun x V => V.alloc (.cells #[.int .u64 (whi (cuExc L r x.val) : Nat), .int .u64 (wlo (cuExc L r x.val) : Nat)] 42)) (fun x V => (Below.refl _ V).alloc (Nat.le_refl _) _) (fun x V => (keeps_below (B := 0) ((Below.refl _ V).alloc (Nat.le_refl _) _)).2) ?assign ?body ?done ?stop
  case assign =>
    intro l x W K hK
    unfold excEnc
    gi_wp2
    exact hK
  case body =>
    rintro l pre x V U ⟨hno, KU⟩ hVs hUs hUo hlt
    have hxn := x.isLt
    have HX1 := Lib.hid (cu_one (k := x.val) (by have := HN.out; omega))
    have hEX : ArrV 42 U V.heap.size [.int .u64 (whi (cuExc L r x.val) : Nat), .int .u64 (wlo (cuExc L r x.val) : Nat)] := by
      unfold ArrV
      rw [hUo _ (by omega)]
      exact ArrV.new _ V _
    have hRU : SmRow U A n L := hrw.below KU.bel
    have hsm := exc_small r HG.out HN.out hxn
    obtain ⟨E, hE⟩ : ∃ E, E = cuExc L r x.val := ⟨_, rfl⟩
    obtain ⟨ex, hex⟩ : ∃ z, z = whi E := ⟨_, rfl⟩
    obtain ⟨ey, hey⟩ : ∃ z, z = wlo E := ⟨_, rfl⟩
    rw [← hE] at hEX hsm ⊢
    obtain ⟨tt, htt⟩ : ∃ z, z = decide (m < E) := ⟨_, rfl⟩
    have CL : Hid (∀ w, Calls Try.prog 20 #[.agg #[.int .u64 mx, .int .u64 my], .agg #[.int .u64 ex, .int .u64 ey]] w fun e w' => e = .returned (.bool tt) ∧ Below w.heap.size w w') := by rw [HMX.out.1, HMX.out.2, hex, hey, htt]; exact fun w => less_nums m E w HM1.out hsm
    rw [← hex, ← hey] at hEX ⊢
    have a0 := hEX.get 0
    have a1 := hEX.get 1
    have c0 := (KU.at 6 rfl).get 0
    have c1 := (KU.at 6 rfl).get 1
    simp at a0 a1 c0 c1
    obtain ⟨xv, hxv⟩ : ∃ z, z = x.val := ⟨_, rfl⟩
    rw [← hxv] at HX1 hE hxn ⊢
    have HE := Lib.hid hE
    have HT := Lib.hid htt
    have HXV := Lib.hid hxv
    have HXN := Lib.hid hxn
    clear hE hex hey htt hxv hsm hxn
    gi_upto_if 28 with (refine ⟨trivial, ?_⟩; gi_at_call 20; refine (CallsIn.inRound l (callsIn_wide.2 (CL.out _))).mono ?_; rintro e U2 ⟨rfl, b2⟩)
    cases tt with
    | false =>
      have hk := keeps_below (B := wl.heap.size) (m := w.heap.size) (c := c) b2
      gi_wp2
      refine ⟨hk.1, hk.2, fun y hy => ?_, KU.below b2⟩
      rcases List.mem_append.1 hy with h | h
      · exact hno y h
      · simp at h
        subst h
        rw [← HXV.out, ← HE.out]
        exact of_decide_eq_false HT.out.symm
    | true =>
      obtain ⟨bb, o, rfl, hbb, _⟩ := hRU.addr (by have := HXN.out; omega)
      have hmE := of_decide_eq_true HT.out.symm
      rw [HE.out] at hmE
      obtain ⟨f, hf1, hf2, hf3, CB0⟩ := cbegin_is (some ⟨bb, o, none⟩) n cap L r m xv HN.out HXN.out HG.out HR.out HM1.out hmE
      rw [← HMX.out.1, ← HMX.out.2] at CB0
      have CB := Lib.hid CB0
      have HF : Hid (f ≤ xv ∧ m < cuOver L r f xv ∧ ∀ i, i < f → ¬ m < cuOver L r i xv) := ⟨hf1, hf2, hf3⟩
      have KU2 := Lib.hid (KU.below b2)
      have HRU := Lib.hid (hRU.below b2)
      have HBU : Hid (∀ b' o', (some ⟨bb, o, none⟩ : Option Addr) = some ⟨b', o', none⟩ → 0 < n → b' < w.heap.size) := HALT.out
      have HSL : Hid (xv + 1 ≤ cap) := (by have := HXN.out; have := HCAP.out; omega : xv + 1 ≤ cap)
      have hk := keeps_below (B := wl.heap.size) (m := w.heap.size) (c := c) b2
      clear hf1 hf2 hf3 CB0 hmE KU hRU b2 hEX a0 a1 c0 c1
      gi_upto_region 9 with fail
      refine wpIn_round_mul (C := (fun S W => KV w [(22, w.heap.size, [.slice (some ⟨bb, o, none⟩) n cap]), (23, w.heap.size + 1, [.int .u64 r]), (3, w.heap.size + 2, [(bif S 10 then .int .i64 (f : Int) else .int .i64 0)]), (3, w.heap.size + 3, [(bif S 11 then .int .i64 (xv : Int) else .int .i64 0)]), (26, w.heap.size + 4, [(bif S 12 then .int .i64 17 else .int .i64 0), (bif S 12 then .int .i64 (xv : Int) else .int .i64 0)]), (26, g5, [.int .i64 0, .int .i64 0]), (42, g6, [.int .u64 mx, .int .u64 my])] W ∧ KeepsFrom wl.heap.size U W ∧ SmRow W (some ⟨bb, o, none⟩) n L)) [some (.slice (some ⟨bb, o, none⟩) n cap), some (.int .i64 (xv : Int)), some (.int .i64 ((xv + 1 : Nat) : Int)), some (.slice (some ⟨bb, o, none⟩) (xv + 1) cap), some (.int .u64 r), some (.agg #[.int .u64 mx, .int .u64 my]), some (.int .i64 (f : Int)), some (.int .i64 (xv : Int)), some (.int .i64 (xv : Int)), some (.agg #[.int .i64 17, .int .i64 (xv : Int)]), none, none, none] (by rintro ⟨_, _, h⟩; exact h) (by kernel_rfl) hmw (by kernel_rfl) (fun S S' W h hw' => ?_) ⟨KU2.out.drew, hk.1.trans ⟨Nat.le_refl _, fun _ _ _ h _ => h⟩, HRU.out⟩ ?_ (fun S W9 hS hw9 => ?_)
      · rw [show S 10 = S' 10 from h 10 rfl, show S 11 = S' 11 from h 11 rfl, show S 12 = S' 12 from h 12 rfl] at hw'
        exact hw'
      · clear hk
        refine mulWalk_quiet rfl (fun S W hw' => quietAt_cell (j := 0) rfl rfl one_samples (hw'.1.at 0 rfl) rfl) ?_
        simp only [Act.put, List.setIfInBounds_toArray, List.set_cons_zero, List.set_cons_succ]
        refine mulWalk_quiet rfl (fun S W hw' => quietAt_run (by simp [go_sem])) ?_
        simp only [Act.put, List.setIfInBounds_toArray, List.set_cons_zero, List.set_cons_succ]
        refine mulWalk_quiet rfl (fun S W hw' => quietAt_run (by simp [go_sem, HX1.out])) ?_
        simp only [Act.put, List.setIfInBounds_toArray, List.set_cons_zero, List.set_cons_succ]
        refine mulWalk_quiet rfl (fun S W hw' => quietAt_run (by simp [go_sem]; intro h; have h2 := h (by omega); have h3 := HSL.out; omega)) ?_
        simp only [Act.put, List.setIfInBounds_toArray, List.set_cons_zero, List.set_cons_succ]
        refine mulWalk_quiet rfl (fun S W hw' => quietAt_cell (j := 0) rfl rfl one_w64 (hw'.1.at 1 rfl) rfl) ?_
        simp only [Act.put, List.setIfInBounds_toArray, List.set_cons_zero, List.set_cons_succ]
        refine mulWalk_quiet rfl (fun S W hw' => quietAt_part (off := 0) (n := 2) (vs := [.int .u64 mx, .int .u64 my]) rfl rfl tywide2 (hw'.1.at 6 rfl) rfl rfl) ?_
        simp only [Act.put, List.setIfInBounds_toArray, List.set_cons_zero, List.set_cons_succ]
        refine mulWalk_quiet rfl (fun S W hw' => quietAt_call (f := 23) (args := #[.slice (some ⟨bb, o, none⟩) (xv + 1) cap, .int .u64 r, .agg #[.int .u64 mx, .int .u64 my]]) (by simp [go_sem]) ((CB.out W hw'.2.2).mono fun e w'' h => ⟨h.1, hw'.1.below h.2, hw'.2.1.trans (keeps_below (m := 0) (c := 0) h.2).1, hw'.2.2.below h.2⟩)) ?_
        simp only [Act.put, List.setIfInBounds_toArray, List.set_cons_zero, List.set_cons_succ]
        refine mulWalk_quiet rfl (fun S W hw' => quietAt_run (by simp [go_sem])) ?_
        simp only [Act.put, List.setIfInBounds_toArray, List.set_cons_zero, List.set_cons_succ]
        refine mulWalk_quiet rfl (fun S W hw' => quietAt_run (by simp [go_sem])) ?_
        simp only [Act.put, List.setIfInBounds_toArray, List.set_cons_zero, List.set_cons_succ]
        refine mulWalk_quiet rfl (fun S W hw' => quietAt_run (by simp [go_sem])) ?_
        simp only [Act.put, List.setIfInBounds_toArray, List.set_cons_zero, List.set_cons_succ]
        refine mulWalk_put rfl (fun S W hS hw' => ?_) ?_
        · have h2 := hw'.1.put 2 rfl 0 (.int .i64 (f : Int))
          exact ⟨_, put_int 2 rfl rfl rfl rfl hw'.1, by simpa using h2, keeps_set hw'.2.1 _ _, hw'.2.2.belowB (below_cell (by omega)) HBU.out⟩
        simp only [Act.put, List.setIfInBounds_toArray, List.set_cons_zero, List.set_cons_succ]
        refine mulWalk_put rfl (fun S W hS hw' => ?_) ?_
        · have h2 := hw'.1.put 3 rfl 0 (.int .i64 (xv : Int))
          exact ⟨_, put_int 3 rfl rfl rfl rfl hw'.1, by simpa using h2, keeps_set hw'.2.1 _ _, hw'.2.2.belowB (below_cell (by omega)) HBU.out⟩
        simp only [Act.put, List.setIfInBounds_toArray, List.set_cons_zero, List.set_cons_succ]
        refine mulWalk_put rfl (fun S W hS hw' => ?_) ?_
        · have h2 := hw'.1.store 4 rfl [.int .i64 17, .int .i64 (xv : Int)] rfl
          exact ⟨_, put_two 4 rfl rfl rfl rfl tyfault rfl rfl hw'.1, by simpa [World.setCells] using h2, keeps_set (keeps_set hw'.2.1 _ _) _ _, (hw'.2.2.belowB (below_cell (by omega)) HBU.out).belowB (below_cell (by omega)) HBU.out⟩
        trivial
      rw [show S 10 = true from hS 10 rfl, show S 11 = true from hS 11 rfl, show S 12 = true from hS 12 rfl] at hw9
      simp only [cond_true] at hw9
      have HK9 := Lib.hid hw9
      clear hw9 hS hk
      simp only [List.length_cons, List.length_nil, lexAct, pval, toK, List.map_cons, List.map_nil, List.getElem?_cons_zero, List.getElem?_cons_succ, Option.bind_some, Act.put, List.setIfInBounds_toArray, List.set_cons_zero, List.set_cons_succ]
      gi_wp2
      refine ⟨HK9.out.2.1, rfl, f, pre, x, rfl, by rw [← HXV.out]; exact HF.out.1, by rw [← HXV.out]; exact HF.out.2.1, fun i' h => by rw [← HXV.out]; exact HF.out.2.2 i' h, hno, ?_⟩
      rw [← HXV.out]
      exact HK9.out.1
  case done =>
    rintro D ys W hD hys ⟨hno, hK⟩ hKd
    have r2 := (hK.at 2 rfl).get 0
    have f2 := (hK.at 2 rfl).frozen 0
    have r3 := (hK.at 3 rfl).get 0
    have f3 := (hK.at 3 rfl).frozen 0
    have r4 := (hK.at 4 rfl).get 0
    have f4 := (hK.at 4 rfl).frozen 0
    have r5 := (hK.at 4 rfl).get 1
    have f5 := (hK.at 4 rfl).frozen 1
    simp at r2 r3 r4 r5
    have KE := ((hK.put 2 rfl 0 (.int .i64 0)).put 3 rfl 0 (.int .i64 0)).store 4 rfl [.int .i64 0, .int .i64 0] rfl
    simp only [List.set_cons_succ, List.set_cons_zero, World.setCells, Nat.zero_add] at KE
    have hKd' := (((((KeepsOthers.setCell W ⟨w.heap.size + 2, 0, none⟩ (.int .i64 0)).trans (KeepsOthers.setCell _ ⟨w.heap.size + 3, 0, none⟩ (.int .i64 0))).trans (KeepsOthers.setCell _ ⟨w.heap.size + 4, 0, none⟩ (.int .i64 0))).trans (KeepsOthers.setCell _ ⟨w.heap.size + 4, 1, none⟩ (.int .i64 0))).same D _ hKd rfl)
    have hall : ∀ k, k < n → ¬ m < cuExc L r k := fun k hk => by
      obtain ⟨y, hy, rfl⟩ := exc_all hys k hk
      exact hno y hy
    clear hno hys hKd
    gi_wp2
    refine ⟨by simp, .inl ⟨_, _, rfl, run_takeDeferred hKd', ?_⟩⟩
    have KP := Lib.hid (KE.belowB (below_put (o' := .deferred none) hKd' hD) (fun q p hp => by
        match q, hp with
        | 0, hp => exact hlts 0 p hp
        | 1, hp => exact hlts 1 p hp
        | 2, hp => cases hp; exact hl2
        | 3, hp => cases hp; exact hl3
        | 4, hp => cases hp; exact hl4
        | 5, hp => exact hlts 5 p hp
        | 6, hp => exact hlts 6 p hp
        | q + 7, hp => cases hp) hws)
    have y2 := (KP.out.at 2 rfl).get 0
    have y3 := (KP.out.at 3 rfl).get 0
    have y4 := (KP.out.at 4 rfl).get 0
    have y5 := (KP.out.at 4 rfl).get 1
    simp at y2 y3 y4 y5
    refine ⟨.tuple #[.int .i64 0, .int .i64 0, .agg #[.int .i64 0, .int .i64 0]], ?_, 0, 0, 0, 0, rfl, .inr ⟨hall, rfl, rfl, rfl, rfl⟩, KP.out.bel⟩
    simp [results, Try.f6, go_sem, y2, y3, y4, y5]
  case stop =>
    rintro D cd pre W hD hsp ⟨rfl, i, pr, x, rfl, h2, h3, h4, h5, hK⟩ hKd
    have hbr : BrkIs L r m i x.val := ⟨h2, h3, h4, fun j hj => by
      obtain ⟨y, hy, rfl⟩ := exc_prefix hsp j hj
      exact h5 y hy⟩
    have hKd' := hKd
    gi_wp2
    refine ⟨by simp, .inl ⟨_, _, rfl, run_takeDeferred hKd', ?_⟩⟩
    have KP := Lib.hid (hK.belowB (below_put (o' := .deferred none) hKd' hD) (fun q p hp => by
        match q, hp with
        | 0, hp => exact hlts 0 p hp
        | 1, hp => exact hlts 1 p hp
        | 2, hp => cases hp; exact hl2
        | 3, hp => cases hp; exact hl3
        | 4, hp => cases hp; exact hl4
        | 5, hp => exact hlts 5 p hp
        | 6, hp => exact hlts 6 p hp
        | q + 7, hp => cases hp) hws)
    have y2 := (KP.out.at 2 rfl).get 0
    have y3 := (KP.out.at 3 rfl).get 0
    have y4 := (KP.out.at 4 rfl).get 0
    have y5 := (KP.out.at 4 rfl).get 1
    simp at y2 y3 y4 y5
    refine ⟨.tuple #[.int .i64 (i : Int), .int .i64 ((x.val : Nat) : Int), .agg #[.int .i64 17, .int .i64 ((x.val : Nat) : Int)]], ?_, i, x.val, 17, ((x.val : Nat) : Int), rfl, .inl ⟨hbr, x.isLt, rfl, rfl⟩, KP.out.bel⟩
    simp [results, Try.f6, go_sem, y2, y3, y4, y5]

set_option maxRecDepth 10000 in
set_option maxHeartbeats 4000000 in
theorem cbreaks_bad (A : Option Addr) (n cap q : Nat) (r bu : Nat) (w : World)
    (CC : Hid (∀ w', Below w.heap.size w w' → Calls Try.prog 21 #[.slice A n cap] w' fun e w'' => e = .returned (.agg #[.int .i64 1, .int .i64 (q : Nat)]) ∧ Below w'.heap.size w' w'')) :
    Calls Try.prog 6 #[.slice A n cap, .int .u64 r, .int .u64 bu] w fun e w' => e = .returned (.tuple #[.int .i64 0, .int .i64 0, .agg #[.int .i64 1, .int .i64 (q : Nat)]]) ∧ Below w.heap.size w w' := by
  refine (callsIn_wide (n := 5)).1 ?_
  refine callsIn_of_wp_marks Try.func6 rfl trivial ?_ rfl
  simp only [Try.ntmps6, List.size_toArray, List.length_cons, List.length_nil, Nat.reduceAdd, Nat.reduceSub, Array.replicate_succ, Array.replicate_zero, List.push_toArray, List.append_toArray, List.nil_append, List.cons_append]
  have K0 := Lib.hid ((((KV.three w 22 23 3 [.slice A n cap] [.int .u64 r] [.int .i64 0]).new 3 [.int .i64 0]).new 26 [.int .i64 0, .int .i64 0]))
  simp only [World.size_alloc, List.cons_append, List.nil_append] at K0
  have k0 := (K0.out.at 0 rfl).get 0
  simp at k0
  gi_upto_region 1 with fail
  gi_upto_region 2 with (refine ⟨trivial, ?_⟩; gi_at_call 21; refine (callsIn_wide.2 (CC.out _ K0.out.bel)).mono ?_; rintro e w1 ⟨rfl, b1⟩)
  have K1 := Lib.hid ((K0.out.below b1).new 26 [.int .i64 1, .int .i64 (q : Int)])
  simp only [List.cons_append, List.nil_append] at K1
  clear b1 K0 CC k0
  have f0 := (K1.out.at 5 rfl).get 0
  simp at f0
  gi_upto_region 3 with fail
  generalize w1.heap.size = g5 at *
  generalize w1.alloc (.cells #[.int .i64 1, .int .i64 (q : Int)] 26) = W1 at *
  have K2 : Hid (KV w [(22, w.heap.size, [.slice A n cap]), (23, w.heap.size + 1, [.int .u64 r]), (3, w.heap.size + 2, [.int .i64 0]), (3, w.heap.size + 3, [.int .i64 0]), (26, w.heap.size + 4, [.int .i64 0, .int .i64 0]), (26, g5, [.int .i64 1, .int .i64 (q : Int)])] W1) := K1.out
  clear K1 f0
  refine wpIn_wide.2 ?_
  refine wp_region_mul (C := fun S W => KV w [(22, w.heap.size, [.slice A n cap]), (23, w.heap.size + 1, [.int .u64 r]), (3, w.heap.size + 2, [.int .i64 0]), (3, w.heap.size + 3, [.int .i64 0]), (26, w.heap.size + 4, [(bif S 3 then .int .i64 1 else .int .i64 0), (bif S 3 then .int .i64 (q : Int) else .int .i64 0)]), (26, g5, [.int .i64 1, .int .i64 (q : Int)])] W) [some (.agg #[.int .i64 1, .int .i64 (q : Int)]), none, none, none] (by kernel_rfl) (by kernel_rfl) (fun S S' W h hw' => ?_) K2.out.drew ?_ (fun S W9 hS hw9 => ?_)
  · rw [show S 3 = S' 3 from h 3 rfl] at hw'
    exact hw'
  · clear K2
    refine mulWalk_quiet rfl (fun S W hw' => quietAt_part (off := 0) (n := 2) (vs := [.int .i64 1, .int .i64 (q : Int)]) rfl rfl tyfault (hw'.at 5 rfl) rfl rfl) ?_
    simp only [Act.put, List.setIfInBounds_toArray, List.set_cons_zero, List.set_cons_succ]
    refine mulWalk_put rfl (fun S W hS hw' => ?_) ?_
    · have h2 := hw'.put 2 rfl 0 (.int .i64 0)
      exact ⟨_, put_int 2 rfl rfl rfl rfl hw', by simpa using h2⟩
    simp only [Act.put, List.setIfInBounds_toArray, List.set_cons_zero, List.set_cons_succ]
    refine mulWalk_put rfl (fun S W hS hw' => ?_) ?_
    · have h2 := hw'.put 3 rfl 0 (.int .i64 0)
      exact ⟨_, put_int 3 rfl rfl rfl rfl hw', by simpa using h2⟩
    simp only [Act.put, List.setIfInBounds_toArray, List.set_cons_zero, List.set_cons_succ]
    refine mulWalk_put rfl (fun S W hS hw' => ?_) ?_
    · have h2 := hw'.store 4 rfl [.int .i64 1, .int .i64 (q : Int)] rfl
      exact ⟨_, put_two 4 rfl rfl rfl rfl tyfault rfl rfl hw', by simpa [World.setCells] using h2⟩
    trivial
  rw [show S 3 = true from hS 3 rfl] at hw9
  simp only [cond_true] at hw9
  have KP := Lib.hid hw9
  clear hw9 hS K2
  simp only [List.length_cons, List.length_nil, lexAct, pval, toK, List.map_cons, List.map_nil, List.getElem?_cons_zero, List.getElem?_cons_succ, Option.bind_some, Act.put, List.setIfInBounds_toArray, List.set_cons_zero, List.set_cons_succ]
  have y2 := (KP.out.at 2 rfl).get 0
  have y3 := (KP.out.at 3 rfl).get 0
  have y4 := (KP.out.at 4 rfl).get 0
  have y5 := (KP.out.at 4 rfl).get 1
  simp at y2 y3 y4 y5
  gi_wp2
  refine ⟨.tuple #[.int .i64 0, .int .i64 0, .agg #[.int .i64 1, .int .i64 (q : Int)]], ?_, rfl, KP.out.bel⟩
  simp [results, Try.f6, go_sem, y2, y3, y4, y5]
theorem cbreaks_any (A : Option Addr) (n cap : Nat) (L : List Sm) (r bu : Nat) (w : World) (hn : n ≤ 1048576) (hr : r ≤ 18446744073709551615) (hbu : bu ≤ 18446744073709551615) (hcap : n ≤ cap) (hA : SmRow w A n L) :
    Calls Try.prog 6 #[.slice A n cap, .int .u64 r, .int .u64 bu] w fun e w' => ∃ (i j : Nat) (ec ea : Int), e = .returned (.tuple #[.int .i64 (i : Int), .int .i64 (j : Int), .agg #[.int .i64 ec, .int .i64 ea]]) ∧
      (match cuBad L with | some q => i = 0 ∧ j = 0 ∧ ec = 1 ∧ ea = (q : Int) | none => BRes L r (1000000000 * bu) n i j ec ea) ∧ Below w.heap.size w w' := by
  have CC := Lib.hid (fun w' (h : Below w.heap.size w w') => ccheck_any A n cap L w' (by omega) (hA.below h))
  cases hB : cuBad L with
  | some q =>
    rw [hB] at CC
    refine (cbreaks_bad A n cap q r bu w CC).mono ?_
    rintro e w' ⟨rfl, hb⟩
    exact ⟨0, 0, 1, q, rfl, ⟨rfl, rfl, rfl, rfl⟩, hb⟩
  | none =>
    rw [hB] at CC
    exact cbreaks_ok A n cap L r bu w hn (by have := cuGood_of hB; rw [hA.1] at this; exact this) hr hbu hcap hA CC
end Go.Proofs.Ytemgnaalmgkfiaa
