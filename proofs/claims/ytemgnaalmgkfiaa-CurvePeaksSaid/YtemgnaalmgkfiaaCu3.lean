/-
  curve's iterator over the excesses.
-/
import Derived.Test.YtemgnaalmgkfiaaCu2
import Derived.Test.YtemgnaalmgkfiaaFree
import Derived.Sort.CutIn
namespace Go.Proofs.Ytemgnaalmgkfiaa
open Go.RowKit
set_option linter.unusedVariables false
attribute [local go_sem] Oper.semAt_some

theorem one_w64 : OneTy 23 := fun w => by simp [isAgg, run_underlying Try.underlying23, go_sem]
/-- The same world without the blocks from g on. -/
def cutW (W : World) (g : Nat) : World := { W with heap := W.heap.extract 0 g }
theorem cutW_size {W : World} {g : Nat} (h : g ≤ W.heap.size) : (cutW W g).heap.size = g := by simp [cutW]; omega
theorem cutW_get {W : World} {g k : Nat} (h : k < g) : (cutW W g).heap[k]? = W.heap[k]? := by simp [cutW, Array.getElem?_extract]; intro h2; omega
theorem cutW_below {W : World} {g : Nat} (h : g ≤ W.heap.size) : Below g (cutW W g) W := ⟨rfl, rfl, rfl, by rw [cutW_size h]; exact h, fun k hk => (cutW_get hk).symm⟩
/-- What the caller keeps between two rounds: whatever lay below m or from c on. -/
def KpR (m c : Nat) (W W' : World) : Prop := W.heap.size ≤ W'.heap.size ∧ ∀ (g : Nat) o, (g < m ∨ c ≤ g) → W.heap[g]? = some o → o.isCells = true → W'.heap[g]? = some o
theorem KpR.trans {m c : Nat} {A B C : World} (h : KpR m c A B) (k : KpR m c B C) : KpR m c A C := ⟨Nat.le_trans h.1 k.1, fun g o hg ho hc => k.2 g o hg (h.2 g o hg ho hc) hc⟩
theorem KpR.put {m c : Nat} {W : World} {l : Nat} {o o' : Obj} (hl : W.heap[l]? = some o) (ho : o.isCells = false) : KpR m c W (W.putObj l o') :=
  ⟨by simp, fun g p _ hp hc => (World.putObj_heap_other (fun e => by subst e; rw [hl] at hp; cases hp; rw [ho] at hc; cases hc)).trans hp⟩
theorem KpR.arr {m c : Nat} {W W' : World} (hk : KpR m c W W') {t : TypeId} {g : Nat} {cs : List Value} (h : ArrV t W g cs) (hg : g < m ∨ c ≤ g) : ArrV t W' g cs := hk.2 g _ hg h rfl
theorem KpR.row {m c : Nat} {W W' : World} (hk : KpR m c W W') {A : Option Addr} {n : Nat} {L : List Sm} (h : SmRow W A n L) (hA : ∀ b o, A = some ⟨b, o, none⟩ → 0 < n → b < m) : SmRow W' A n L :=
  ⟨h.1, h.2.1, fun i hi => by
    obtain ⟨b, o, rfl, h1, h2⟩ := h.2.2 i hi
    have hb := hA b o rfl (by omega)
    obtain ⟨ob, ho, hc⟩ := cells_of_cell h1
    have ho' := hk.2 b ob (.inl hb) ho hc
    have e : ∀ (q : Nat), W'.cell? ⟨b, q, none⟩ = W.cell? ⟨b, q, none⟩ := fun q => World.cell?_of_block (ho'.trans ho.symm)
    exact ⟨b, o, rfl, (e _).trans h1, (e _).trans h2⟩⟩
/-- What the iterator has between two rounds. -/
structure ExSt (c gx ga : Nat) (A : Option Addr) (n cap : Nat) (L : List Sm) (r : Nat) (cur : List Value) (a b : Nat) (W : World) : Prop where
  box : ArrV 22 W c [.slice A n cap]
  rate : ArrV 23 W (c + 1) [.int .u64 r]
  row : SmRow W A n L
  exc : ArrV 42 W gx [.int .u64 a, .int .u64 b]
  at_ : 0 < n → ArrV 23 W ga cur
theorem ExSt.below {c gx ga : Nat} {A : Option Addr} {n cap : Nat} {L : List Sm} {r : Nat} {cur : List Value} {a b : Nat} {W W' : World} (h : ExSt c gx ga A n cap L r cur a b W) (hb : Below W.heap.size W W') : ExSt c gx ga A n cap L r cur a b W' :=
  ⟨h.box.below hb, h.rate.below hb, h.row.below hb, h.exc.below hb, fun h0 => (h.at_ h0).below hb⟩
theorem ExSt.kpr {m c gx ga : Nat} {A : Option Addr} {n cap : Nat} {L : List Sm} {r : Nat} {cur : List Value} {a b : Nat} {W W' : World} (h : ExSt c gx ga A n cap L r cur a b W) (hk : KpR m c W W') (hA : ∀ b o, A = some ⟨b, o, none⟩ → 0 < n → b < m) (hx : c ≤ gx) (ha : 0 < n → c ≤ ga) : ExSt c gx ga A n cap L r cur a b W' :=
  ⟨hk.arr h.box (.inr (Nat.le_refl _)), hk.arr h.rate (.inr (by omega)), hk.row h.row hA, hk.arr h.exc (.inr hx), fun h0 => hk.arr (h.at_ h0) (.inr (ha h0))⟩
/-- The excess ahead of a packet. -/
def excPre (L : List Sm) (r : Nat) : Nat → Nat
  | 0 => 0
  | k + 1 => cuExc L r k
def excIxs {n : Nat} (l : List (Fin n)) : List Nat := l.map (·.val)
theorem excIxs_add {n : Nat} (l : List (Fin n)) (x : Fin n) : excIxs (l ++ [x]) = excIxs l ++ [x.val] := by simp [excIxs]
theorem excIxs_len {n : Nat} (l : List (Fin n)) : (excIxs l).length = l.length := by simp [excIxs]
/-- What is handed out for an index. -/
def excEnc (L : List Sm) (r n : Nat) (x : Fin n) : Array Value := #[.int .i64 ((x.val : Nat) : Int), .agg #[.int .u64 (whi (cuExc L r x.val) : Nat), .int .u64 (wlo (cuExc L r x.val) : Nat)]]
theorem exc_small {L : List Sm} {n : Nat} (r : Nat) (hg : cuGood L n) (hn : n ≤ 1048576) {k : Nat} (hk : k < n) : cuExc L r k < w128 := by
  have h1 := cuExc_le (L := L) r k
  have h2 := cuTo_le hg (k + 1) (by omega)
  unfold w128
  omega
theorem exc_step {L : List Sm} {n r : Nat} (hg : cuGood L n) (hn : n ≤ 1048576) {k : Nat} (hk : k < n) {E : Nat} (hE : (k = 0 ∧ E = 0) ∨ ∃ j, k = j + 1 ∧ E = cuExc L r j - r * (cuT L k - cuT L j)) : cuExc L r k = E + 1000000000 * cuS L k ∧ E < w128 ∧ 1000000000 * cuS L k < w128 ∧ E + 1000000000 * cuS L k < w128 := by
  have h1 := exc_small r hg hn hk
  have h2 : cuExc L r k = E + 1000000000 * cuS L k := by
    rcases hE with ⟨rfl, rfl⟩ | ⟨j, rfl, rfl⟩
    · exact (Nat.zero_add _).symm
    · rfl
  refine ⟨h2, ?_, ?_, ?_⟩ <;> omega

theorem kv_two {w W : World} {t t' : TypeId} {g g' : Nat} {cs ds : List Value} (h1 : ArrV t W g cs) (h2 : ArrV t' W g' ds) (hg : w.heap.size ≤ g) (hg' : w.heap.size ≤ g') (hne : g ≠ g') (hb : Below w.heap.size w W) : KV w [(t, g, cs), (t', g', ds)] W := by
  refine ⟨fun i p hp => ?_, fun i p hp => ?_, fun i j p q hp hq hij => ?_, hb⟩
  · match i, hp with
    | 0, hp => simp at hp; subst hp; exact h1
    | 1, hp => simp at hp; subst hp; exact h2
    | i + 2, hp => simp at hp
  · match i, hp with
    | 0, hp => simp at hp; subst hp; exact hg
    | 1, hp => simp at hp; subst hp; exact hg'
    | i + 2, hp => simp at hp
  · match i, j, hp, hq with
    | 0, 0, _, _ => exact absurd rfl hij
    | 0, 1, hp, hq => simp at hp hq; subst hp hq; exact hne
    | 1, 0, hp, hq => simp at hp hq; subst hp hq; exact Ne.symm hne
    | 1, 1, _, _ => exact absurd rfl hij
    | i + 2, _, hp, _ => simp at hp
    | 0, j + 2, _, hq => simp at hq
    | 1, j + 2, _, hq => simp at hq
theorem SmRow.belowB {B : Nat} {w w' : World} {A : Option Addr} {n : Nat} {L : List Sm} (h : SmRow w A n L) (hb : Below B w w') (hA : ∀ b o, A = some ⟨b, o, none⟩ → 0 < n → b < B) : SmRow w' A n L :=
  ⟨h.1, h.2.1, fun i hi => by
    obtain ⟨b, o, rfl, h1, h2⟩ := h.2.2 i hi
    have hlt := hA b o rfl (by omega)
    exact ⟨b, o, rfl, (hb.cell (p := ⟨b, o + i * 2, none⟩) hlt).trans h1, (hb.cell (p := ⟨b, o + i * 2 + 1, none⟩) hlt).trans h2⟩⟩
theorem OutU.arr {B : Nat} {w : World} {v : Value} {xs : List Nat} (h : OutU B w v xs) (h0 : 0 < xs.length) : ∃ g c cur, v = .slice (some ⟨g, 0, none⟩) xs.length c ∧ B ≤ g ∧ ArrV 23 w g cur ∧ ∀ i, i < xs.length → cur[i]? = some (.int .u64 (xs.getD i 0 : Nat)) := by
  rcases h.2 with ⟨_, h2⟩ | ⟨g, cap, cur, hv, hg, hh, h4, h5, hs, ht⟩
  · omega
  · refine ⟨g, cap, cur.toList, hv, hg, ?_, fun i hi => ?_⟩
    · unfold ArrV
      simpa using hh
    · have e1 : cur.toList[i]? = (cellsU xs)[i]? := by rw [← ht, List.getElem?_take, if_pos (by omega)]
      rw [e1]
      simp [cellsU, hi]
theorem OutU.arr0 {B : Nat} {w : World} {v : Value} {xs : List Nat} (n : Nat) (hn : xs.length = n) (h : OutU B w v xs) : ∃ g c cur A, v = .slice A n c ∧ (0 < n → A = some ⟨g, 0, none⟩ ∧ B ≤ g ∧ ArrV 23 w g cur ∧ ∀ i, i < n → cur[i]? = some (.int .u64 (xs.getD i 0 : Nat))) := by
  subst hn
  rcases Nat.eq_zero_or_pos xs.length with h0 | h0
  · rcases h.2 with ⟨rfl, h2⟩ | ⟨g, cap, cur, hv, _⟩
    · exact ⟨0, 0, [], none, by rw [h0], fun h => by omega⟩
    · exact ⟨0, cap, [], _, hv, fun h => by omega⟩
  · obtain ⟨g, c, cur, h1, h2, h3, h4⟩ := h.arr h0
    exact ⟨g, c, cur, _, h1, fun _ => ⟨rfl, h2, h3, h4⟩⟩
theorem rtRun_word2 {xs : List Nat} (h : ∀ x ∈ xs, x < 18446744073709551616) (k : Nat) : rtMax xs k < 18446744073709551616 := by
  have := rtMax_le (l := xs) (M := 18446744073709551615) (fun x hx => by have := h x hx; omega) k
  omega
theorem cu_pred {k j : Nat} (hk : k = j + 1) (h : (j : Int) < 17592186043904) : IntKind.i64.wrap ((k : Int) - 1) = (j : Int) := by rw [IntKind.wrap_i64]; omega
theorem cu_gap {a b d : Nat} (hd : d = b - a) (hab : a ≤ b) (hb : b < 18446744073709551616) : IntKind.u64.wrap ((b : Int) - (a : Int)) = (d : Int) := by rw [IntKind.wrap_u64]; omega
theorem cu_size {z : Int} {s : Nat} (hs : s = z.toNat) (h0 : 0 ≤ z) (h1 : z ≤ 65575) : IntKind.u64.wrap z = (s : Int) := by rw [IntKind.wrap_u64]; omega

set_option maxRecDepth 10000 in
set_option maxHeartbeats 4000000 in
theorem exc1_in (l m c : Nat) (A : Option Addr) (n cap : Nat) (L : List Sm) (r : Nat) (hn : n ≤ 1048576) (hg : cuGood L n) (hr : r ≤ 18446744073709551615) (hmc : m ≤ c) (hA : ∀ b o, A = some ⟨b, o, none⟩ → 0 < n → b < m) (J Jx : List (Fin n) → World → Prop) (W : World)
    (hcW : c + 2 ≤ W.heap.size) (hbox : ArrV 22 W c [.slice A n cap]) (hrate : ArrV 23 W (c + 1) [.int .u64 r]) (hrow : SmRow W A n L)
    (hJ : ∀ s P Q, J s P → Below W.heap.size P Q → J s Q) (h0 : J [] W)
    (hY : ∀ pre x W, J pre W → pre.length < n → YieldAt Fence.wide 3 Try.prog l (excEnc L r n x) W fun e W' =>
      (e = .returned (.bool true) ∧ J (pre ++ [x]) W' ∧ KpR m c W W') ∨ (e = .returned (.bool false) ∧ Jx (pre ++ [x]) W')) :
    CallsIn Fence.wide 4 Try.prog 38 #[.func (.yield l) #[] #[], .pointer (some ⟨c, 0, none⟩), .pointer (some ⟨c + 1, 0, none⟩)] W fun e W' => (∃ v, e = .returned v) ∧
      ((∃ ys, excIxs ys = List.range n ∧ J ys W') ∨ (∃ pre, excIxs pre = List.range pre.length ∧ Jx pre W')) := by
  refine callsIn_of_wp Try.func38 rfl trivial ?_ rfl
  simp only [Try.ntmps38, List.size_toArray, List.length_cons, List.length_nil, Nat.reduceAdd, Nat.reduceSub, Array.replicate_succ, Array.replicate_zero, List.push_toArray, List.append_toArray, List.nil_append, List.cons_append]
  have CT := Lib.hid (fun w (h : SmRow w A n L) => ctimes_any A n cap L w hn h)
  have bX := (Below.refl W.heap.size W).alloc (Nat.le_refl _) (.cells #[.int .u64 0, .int .u64 0] 42)
  have b1 := (hbox.below bX).get 0
  have HR1 := Lib.hid (hrow.below bX)
  have HX := Lib.hid (ArrV.new 42 W [.int .u64 0, .int .u64 0])
  simp at b1
  gi_upto_region 2 with (refine ⟨trivial, ?_⟩; gi_at_call 33; refine (callsIn_wide.2 (CT.out _ HR1.out)).mono ?_; rintro e w2 ⟨v, rfl, ho, hb⟩; have b2 := ((hbox.below bX).below hb).get 0; simp at b2)
  have hbx := (hbox.below bX).below hb
  have hrt := (hrate.below bX).below hb
  have hrw := HR1.out.below hb
  have hex := HX.out.below hb
  have hJ2 : J [] w2 := hJ _ _ _ h0 (bX.trans (hb.mono (by simp)))
  have hT := fun k => rtRun_word2 (smT_word hrow) k
  obtain ⟨ga, cp, cur, A5, rfl, hat⟩ := ho.arr0 n (by rw [rtRun_len, smT_len, hrow.1])
  have hlL := hrow.1
  have hS0 : ExSt c W.heap.size ga A n cap L r cur 0 0 w2 := ⟨hbx, hrt, hrw, hex, fun h => (hat h).2.2.1⟩
  have hga : 0 < n → W.heap.size < ga := fun h => by have := (hat h).2.1; simp at this; omega
  have hcur : ∀ i, i < n → cur[i]? = some (.int .u64 (cuT L i : Nat)) := fun i hi => by
    have := (hat (by omega)).2.2.2 i hi
    rw [rtRun_get (by rw [smT_len, hlL]; exact hi)] at this
    exact this
  have hA5 : 0 < n → A5 = some ⟨ga, 0, none⟩ := fun h => (hat h).1
  clear hbox hrate hrow hbx hrt hrw hex ho hb bX HR1 HX hat h0 CT b1
  generalize W.heap.size = gx at *
  gi_wp2
  gi_loopw [12] (fun i wr => ∃ k a b : Nat, k ≤ n ∧ i = .int .i64 (k : Int) ∧ Hid (a = whi (excPre L r k) ∧ b = wlo (excPre L r k)) ∧ (∃ pre, Hid (excIxs pre = List.range k) ∧ J pre wr) ∧ ExSt c gx ga A n cap L r cur a b wr) (fun i wr => n - (intOf i).toNat)
  case atStart => exact ⟨0, 0, 0, Nat.zero_le _, rfl, (⟨by simp [excPre, whi], by simp [excPre, wlo]⟩ : 0 = whi (excPre L r 0) ∧ 0 = wlo (excPre L r 0)), ⟨[], rfl, hJ2⟩, hS0⟩
  case round =>
    clear hS0 hJ2 b2
    obtain ⟨k, a, b, hk, rfl, hab, ⟨pre, hpre, hJp⟩, hS⟩ := hrel
    by_cases hlt : k < n
    · obtain ⟨bb, o, rfl, hl, hc⟩ := hS.row.addr (by omega)
      obtain rfl := hA5 (by omega)
      have q0 := (hc k hlt).1
      have q1 := (hc k hlt).2
      obtain ⟨t, ht⟩ : ∃ t, t = (L.getD k sm0).time := ⟨_, rfl⟩
      obtain ⟨z, hz⟩ : ∃ z, z = (L.getD k sm0).size := ⟨_, rfl⟩
      rw [← ht] at q0
      rw [← hz] at q1
      have hbm := hA bb o rfl (by omega)
      have hgs : gx ≤ wr.heap.size := Nat.le_of_lt hS.exc.lt
      have KB : KV (cutW wr gx) [(42, gx, [.int .u64 a, .int .u64 b]), (23, ga, cur)] wr := kv_two hS.exc (hS.at_ (by omega)) (by rw [cutW_size hgs]; exact Nat.le_refl _) (by rw [cutW_size hgs]; have := hga (by omega); omega) (by have := hga (by omega); omega) (by rw [cutW_size hgs]; exact cutW_below hgs)
      have K0 := Lib.hid (KB.new 55 [.int .u64 (t : Nat), .int .i64 z])
      have HR : Hid (ArrV 23 (cutW wr gx) (c + 1) [.int .u64 r]) := by
        show ArrV _ _ _ _
        unfold ArrV
        rw [cutW_get (by omega)]
        exact hS.rate
      have HCG : Hid (c + 1 < (cutW wr gx).heap.size) := by show _ < _; rw [cutW_size hgs]; omega
      have HGS := Lib.hid (cutW_size hgs)
      have hgk := hg k hlt
      rw [← hz] at hgk
      obtain ⟨s, hs⟩ : ∃ s, s = z.toNat := ⟨_, rfl⟩
      have HZ := Lib.hid (cu_size hs hgk.1 hgk.2)
      have hsk : s = cuS L k := by rw [hs, hz]; rfl
      clear KB
      have HU := Lib.hid (cu_next hlt (by omega))
      have HS6 : Hid (s ≤ 18446744073709551615) := (by omega : s ≤ 18446744073709551615)
      have HGS2 := Lib.hid hgs
      have HLT := Lib.hid hlt
      have hli : (k : Int) < (n : Int) := by omega
      by_cases h0 : k = 0
      · skip
        have HX : Hid (cuExc L r k = 0 + 1000000000 * s ∧ 0 < w128 ∧ 1000000000 * s < w128 ∧ 0 + 1000000000 * s < w128) := by
          have hq := exc_step (r := r) hg hn hlt (E := 0) (.inl ⟨h0, rfl⟩)
          rw [← hsk] at hq
          exact hq
        have HL1 : Hid (a = whi 0) := by have h := hab.out.1; rw [h0] at h; exact h
        have HL2 : Hid (b = wlo 0) := by have h := hab.out.2; rw [h0] at h; exact h
        have hki : ¬ (0 : Int) < (k : Int) := by omega
        clear h0 ht hz hs hgs hgk hsk hc hl hab
        gi_upto_region 7 with fail
        obtain ⟨gp, hgp⟩ : ∃ g, g = wr.heap.size := ⟨_, rfl⟩
        rw [← hgp] at K0 ⊢
        have HGP : Hid (wr.heap.size = gp) := hgp.symm
        clear hgp
        generalize wr.alloc (.cells #[.int .u64 (t : Int), .int .i64 z] 55) = W4 at *
        obtain ⟨x, hx⟩ : ∃ x, x = whi (cuExc L r (k)) := ⟨_, rfl⟩
        obtain ⟨y, hy⟩ : ∃ x, x = wlo (cuExc L r (k)) := ⟨_, rfl⟩
        obtain ⟨nx, hnx⟩ : ∃ x, x = whi (1000000000 * s) := ⟨_, rfl⟩
        obtain ⟨ny, hny⟩ : ∃ x, x = wlo (1000000000 * s) := ⟨_, rfl⟩
        have CN : Hid (∀ w, Calls Try.prog 19 #[.int .u64 1000000000, .int .u64 s] w fun e w' => e = .returned (.agg #[.int .u64 nx, .int .u64 ny]) ∧ Below w.heap.size w w') := by rw [hnx, hny]; exact fun w => mul_any 1000000000 s w (by decide) HS6.out
        have CA : Hid (∀ w, Calls Try.prog 18 #[.agg #[.int .u64 a, .int .u64 b], .agg #[.int .u64 nx, .int .u64 ny]] w fun e w' => e = .returned (.tuple #[.agg #[.int .u64 x, .int .u64 y], .bool false]) ∧ Below w.heap.size w w') := by
          have hq := fun w => add_nums 0 (1000000000 * s) (cuExc L r (k)) w HX.out.2.1 HX.out.2.2.1 HX.out.1
          rw [decide_eq_false (by rw [HX.out.1]; exact Nat.not_le.2 HX.out.2.2.2), ← hx, ← hy, ← hnx, ← hny, ← HL1.out, ← HL2.out] at hq
          exact hq
        have HXY : Hid (x = whi (cuExc L r (k)) ∧ y = wlo (cuExc L r (k))) := ⟨hx, hy⟩
        clear hx hy hnx hny
        refine wpIn_wide.2 ?_
        refine wp_region_put (C0 := KV (cutW wr gx) [(42, gx, [.int .u64 a, .int .u64 b]), (23, ga, cur), (55, gp, [.int .u64 t, .int .i64 z])]) (C1 := KV (cutW wr gx) [(42, gx, [.int .u64 x, .int .u64 y]), (23, ga, cur), (55, gp, [.int .u64 t, .int .i64 z])]) [some (.agg #[.int .u64 a, .int .u64 b]), some (.pointer (some ⟨gp, 1, none⟩)), some (.int .i64 z), some (.int .u64 s), some (.agg #[.int .u64 nx, .int .u64 ny]), some (.tuple #[.agg #[.int .u64 x, .int .u64 y], .bool false]), some (.tuple #[.agg #[.int .u64 x, .int .u64 y], .bool false]), some (.agg #[.int .u64 x, .int .u64 y]), some (.bool false), none] 9 [0, 1, 2, 3, 4, 5, 6, 7] (by kernel_rfl) (by kernel_rfl) K0.out.drew ?_ (fun V7 hV7 => ?_)
        · clear K0
          refine putWalk_quiet rfl (fun W hw' => quietAt_part (off := 0) (n := 2) (vs := [.int .u64 a, .int .u64 b]) rfl rfl tywide2 (hw'.at 0 rfl) rfl rfl) (fun hna => absurd hna (by decide)) ?_
          simp only [Act.put, List.setIfInBounds_toArray, List.set_cons_zero, List.set_cons_succ]
          refine putWalk_quiet rfl (fun W hw' => quietAt_run (by simp [go_sem])) (fun hna => absurd hna (by decide)) ?_
          simp only [Act.put, List.setIfInBounds_toArray, List.set_cons_zero, List.set_cons_succ]
          refine putWalk_quiet rfl (fun W hw' => quietAt_cell (j := 1) rfl rfl one_int (hw'.at 2 rfl) rfl) (fun hna => absurd hna (by decide)) ?_
          simp only [Act.put, List.setIfInBounds_toArray, List.set_cons_zero, List.set_cons_succ]
          refine putWalk_quiet rfl (fun W hw' => quietAt_run (by simp [go_sem, HZ.out])) (fun hna => absurd hna (by decide)) ?_
          simp only [Act.put, List.setIfInBounds_toArray, List.set_cons_zero, List.set_cons_succ]
          refine putWalk_quiet rfl (fun W hw' => quietAt_call (f := 19) (args := #[.int .u64 1000000000, .int .u64 s]) (by simp [go_sem]) ((CN.out W).mono fun e w'' h => ⟨h.1, hw'.below h.2⟩)) (fun hna => absurd hna (by decide)) ?_
          simp only [Act.put, List.setIfInBounds_toArray, List.set_cons_zero, List.set_cons_succ]
          refine putWalk_quiet rfl (fun W hw' => quietAt_call (f := 18) (args := #[.agg #[.int .u64 a, .int .u64 b], .agg #[.int .u64 nx, .int .u64 ny]]) (by simp [go_sem]) ((CA.out W).mono fun e w'' h => ⟨h.1, hw'.below h.2⟩)) (fun hna => absurd hna (by decide)) ?_
          simp only [Act.put, List.setIfInBounds_toArray, List.set_cons_zero, List.set_cons_succ]
          refine putWalk_quiet rfl (fun W hw' => quietAt_run (by simp [go_sem])) (fun hna => absurd hna (by decide)) ?_
          simp only [Act.put, List.setIfInBounds_toArray, List.set_cons_zero, List.set_cons_succ]
          refine putWalk_quiet rfl (fun W hw' => quietAt_run (by simp [go_sem])) (fun hna => absurd hna (by decide)) ?_
          simp only [Act.put, List.setIfInBounds_toArray, List.set_cons_zero, List.set_cons_succ]
          refine putWalk_quiet rfl (fun W hw' => quietAt_run (by simp [go_sem])) (fun hna => fun W hw' => quietAt_run (by simp [go_sem])) ?_
          simp only [Act.put, List.setIfInBounds_toArray, List.set_cons_zero, List.set_cons_succ]
          refine putWalk_put rfl (put_store 0 rfl rfl rfl rfl tywide2 rfl rfl (by simp [Value.oneCell'])) ?_
          trivial
        have K0 := Lib.hid hV7
        clear hV7
        simp only [List.length_cons, List.length_nil, lexAct, pval, toK, List.map_cons, List.map_nil, List.getElem?_cons_zero, List.getElem?_cons_succ, Option.bind_some, Act.put, List.setIfInBounds_toArray, List.set_cons_zero, List.set_cons_succ]
        have bW : Below gx wr V7 := by
          have h3 := (K0.out.at 2 rfl).lt
          have h4 := cutW_below (W := wr) HGS2.out
          have h5 := K0.out.bel
          rw [HGS.out] at h5
          exact ⟨h5.os, h5.tape, h5.output, by rw [HGP.out]; exact Nat.le_of_lt h3, fun k hk => (h5.block k hk).trans (h4.block k hk).symm⟩
        have hJ7 := hJ _ _ _ hJp bW
        have hS7 : ExSt c gx ga (some ⟨bb, o, none⟩) n cap L r cur x y V7 := ⟨hS.box.belowB bW (by omega), hS.rate.belowB bW (by omega), hS.row.belowB bW (fun b' o' e h => by have := hA b' o' e h; omega), K0.out.at 0 rfl, fun _ => K0.out.at 1 rfl⟩
        have hpl : pre.length = k := by have h := congrArg List.length hpre.out; rw [excIxs_len, List.length_range] at h; exact h
        obtain ⟨fn, tmps, assign, body, hy2, hR2⟩ := hY pre ⟨k, HLT.out⟩ V7 hJ7 (by rw [hpl]; exact HLT.out)
        unfold excEnc at hy2
        dsimp only at hy2
        rw [← HXY.out.1, ← HXY.out.2] at hy2
        have v0 := (K0.out.at 0 rfl).get 0
        have v1 := (K0.out.at 0 rfl).get 1
        simp at v0 v1
        have HPL := Lib.hid hpl
        clear K0 hS hJp bW hpl
        gi_wp2
        refine hR2.mono ?_
        rintro e W3 (⟨rfl, hJ3, hk3⟩ | ⟨rfl, hJx3⟩)
        · gi_wp2
          go_roundw
          case rel => exact ⟨k + 1, x, y, HLT.out, rfl, HXY.out, ⟨_, by show excIxs _ = _; rw [excIxs_add, hpre.out, List.range_succ], hJ3⟩, hS7.kpr hk3 hA (by omega) (fun h => by have := hga h; omega)⟩
          case measure => have hms := HLT.out; simp [intOf]; omega
        · gi_wp2
          refine bodyPost_ret (results_none rfl _ _ _) rfl ?_
          exact ⟨⟨_, rfl⟩, .inr ⟨_, by rw [excIxs_add, hpre.out, List.length_append, HPL.out]; exact List.range_succ.symm, hJx3⟩⟩
      · obtain ⟨j, hj⟩ : ∃ j, k = j + 1 := ⟨k - 1, by omega⟩
        have hE := exc_small r hg hn (show j < n by omega)
        obtain ⟨t1, ht1⟩ : ∃ x, x = cuT L k := ⟨_, rfl⟩
        obtain ⟨t0, ht0⟩ : ∃ x, x = cuT L j := ⟨_, rfl⟩
        obtain ⟨d, hd⟩ : ∃ x, x = t1 - t0 := ⟨_, rfl⟩
        have h1 : t1 < 18446744073709551616 := by rw [ht1]; exact hT _
        have h01 : t0 ≤ t1 := by rw [ht0, ht1]; exact cuT_mono L (by omega)
        have HC1 := Lib.hid (hcur k hlt)
        have HC0 := Lib.hid (hcur j (by omega))
        rw [← ht1] at HC1
        rw [← ht0] at HC0
        have HD := Lib.hid (cu_gap hd h01 h1)
        have HJ := Lib.hid (cu_pred hj (by omega))
        have HI1 : Hid (k < n) := hlt
        have HI0 : Hid (j < n) := (by omega : j < n)
        obtain ⟨E0, hE0⟩ : ∃ x, x = cuExc L r j := ⟨_, rfl⟩
        obtain ⟨M, hM⟩ : ∃ x, x = r * d := ⟨_, rfl⟩
        have hM1 : M < w128 := by rw [hM]; exact prod_lt hr (by omega)
        obtain ⟨mx, hmx⟩ : ∃ x, x = whi M := ⟨_, rfl⟩
        obtain ⟨my, hmy⟩ : ∃ x, x = wlo M := ⟨_, rfl⟩
        obtain ⟨lx, hlx⟩ : ∃ x, x = whi (E0 - M) := ⟨_, rfl⟩
        obtain ⟨ly, hly⟩ : ∃ x, x = wlo (E0 - M) := ⟨_, rfl⟩
        have ha : a = whi E0 := by rw [hE0]; have h := hab.out.1; rw [hj] at h; exact h
        have hb : b = wlo E0 := by rw [hE0]; have h := hab.out.2; rw [hj] at h; exact h
        have CM : Hid (∀ w, Calls Try.prog 19 #[.int .u64 r, .int .u64 d] w fun e w' => e = .returned (.agg #[.int .u64 mx, .int .u64 my]) ∧ Below w.heap.size w w') := by rw [hmx, hmy, hM]; exact fun w => mul_any r d w hr (by omega)
        have CL : Hid (∀ w, Calls Try.prog 39 #[.agg #[.int .u64 a, .int .u64 b], .agg #[.int .u64 mx, .int .u64 my]] w fun e w' => e = .returned (.agg #[.int .u64 lx, .int .u64 ly]) ∧ Below w.heap.size w w') := by rw [ha, hb, hmx, hmy, hlx, hly]; exact fun w => cless_any E0 M w (by rw [hE0]; exact hE) hM1
        have HX : Hid (cuExc L r k = E0 - M + 1000000000 * s ∧ E0 - M < w128 ∧ 1000000000 * s < w128 ∧ E0 - M + 1000000000 * s < w128) := by
          have hq := exc_step (r := r) hg hn hlt (E := E0 - M) (.inr ⟨j, hj, by rw [hE0, hM, hd, ht1, ht0]⟩)
          rw [← hsk] at hq
          exact hq
        have HL1 := Lib.hid hlx
        have HL2 := Lib.hid hly
        have hki : (0 : Int) < (k : Int) := by omega
        clear hj h0 ht hz hs hgs hgk hsk ht1 ht0 hd h1 h01 hE0 hM hM1 hmx hmy hlx hly ha hb hE hc hl hab
        gi_upto_region 6 with fail
        obtain ⟨gp, hgp⟩ : ∃ g, g = wr.heap.size := ⟨_, rfl⟩
        rw [← hgp] at K0 ⊢
        have HGP : Hid (wr.heap.size = gp) := hgp.symm
        clear hgp
        generalize wr.alloc (.cells #[.int .u64 (t : Int), .int .i64 z] 55) = W4 at *
        refine wpIn_wide.2 ?_
        refine wp_region_put (C0 := KV (cutW wr gx) [(42, gx, [.int .u64 a, .int .u64 b]), (23, ga, cur), (55, gp, [.int .u64 t, .int .i64 z])]) (C1 := KV (cutW wr gx) [(42, gx, [.int .u64 lx, .int .u64 ly]), (23, ga, cur), (55, gp, [.int .u64 t, .int .i64 z])]) [some (.agg #[.int .u64 a, .int .u64 b]), some (.int .u64 r), some (.slice (some ⟨ga, 0, none⟩) n cp), some (.int .i64 (k : Int)), some (.pointer (some ⟨ga, k, none⟩)), some (.int .u64 t1), some (.slice (some ⟨ga, 0, none⟩) n cp), some (.int .i64 (k : Int)), some (.int .i64 (j : Int)), some (.pointer (some ⟨ga, j, none⟩)), some (.int .u64 t0), some (.int .u64 d), some (.agg #[.int .u64 mx, .int .u64 my]), some (.agg #[.int .u64 lx, .int .u64 ly]), none] 14 [0, 1, 2, 3, 4, 5, 6, 7, 8, 9, 10, 11, 12, 13] (by kernel_rfl) (by kernel_rfl) K0.out.drew ?_ (fun V6 hV6 => ?_)
        · clear K0
          refine putWalk_quiet rfl (fun W hw' => quietAt_part (off := 0) (n := 2) (vs := [.int .u64 a, .int .u64 b]) rfl rfl tywide2 (hw'.at 0 rfl) rfl rfl) (fun hna => absurd hna (by decide)) ?_
          simp only [Act.put, List.setIfInBounds_toArray, List.set_cons_zero, List.set_cons_succ]
          refine putWalk_quiet rfl (fun W hw' => quietAt_cell (j := 0) rfl rfl one_w64 (HR.out.belowB hw'.bel HCG.out) rfl) (fun hna => absurd hna (by decide)) ?_
          simp only [Act.put, List.setIfInBounds_toArray, List.set_cons_zero, List.set_cons_succ]
          refine putWalk_quiet rfl (fun W hw' => quietAt_run (by simp [go_sem])) (fun hna => absurd hna (by decide)) ?_
          simp only [Act.put, List.setIfInBounds_toArray, List.set_cons_zero, List.set_cons_succ]
          refine putWalk_quiet rfl (fun W hw' => quietAt_run (by simp [go_sem])) (fun hna => absurd hna (by decide)) ?_
          simp only [Act.put, List.setIfInBounds_toArray, List.set_cons_zero, List.set_cons_succ]
          refine putWalk_quiet rfl (fun W hw' => quietAt_run (by simp [go_sem, HI1.out])) (fun hna => absurd hna (by decide)) ?_
          simp only [Act.put, List.setIfInBounds_toArray, List.set_cons_zero, List.set_cons_succ]
          refine putWalk_quiet rfl (fun W hw' => quietAt_cell (j := k) rfl rfl one_w64 (hw'.at 1 rfl) HC1.out) (fun hna => absurd hna (by decide)) ?_
          simp only [Act.put, List.setIfInBounds_toArray, List.set_cons_zero, List.set_cons_succ]
          refine putWalk_quiet rfl (fun W hw' => quietAt_run (by simp [go_sem])) (fun hna => absurd hna (by decide)) ?_
          simp only [Act.put, List.setIfInBounds_toArray, List.set_cons_zero, List.set_cons_succ]
          refine putWalk_quiet rfl (fun W hw' => quietAt_run (by simp [go_sem])) (fun hna => absurd hna (by decide)) ?_
          simp only [Act.put, List.setIfInBounds_toArray, List.set_cons_zero, List.set_cons_succ]
          refine putWalk_quiet rfl (fun W hw' => quietAt_run (by simp [go_sem, HJ.out])) (fun hna => absurd hna (by decide)) ?_
          simp only [Act.put, List.setIfInBounds_toArray, List.set_cons_zero, List.set_cons_succ]
          refine putWalk_quiet rfl (fun W hw' => quietAt_run (by simp [go_sem, HI0.out])) (fun hna => absurd hna (by decide)) ?_
          simp only [Act.put, List.setIfInBounds_toArray, List.set_cons_zero, List.set_cons_succ]
          refine putWalk_quiet rfl (fun W hw' => quietAt_cell (j := j) rfl rfl one_w64 (hw'.at 1 rfl) HC0.out) (fun hna => absurd hna (by decide)) ?_
          simp only [Act.put, List.setIfInBounds_toArray, List.set_cons_zero, List.set_cons_succ]
          refine putWalk_quiet rfl (fun W hw' => quietAt_run (by simp [go_sem, HD.out])) (fun hna => absurd hna (by decide)) ?_
          simp only [Act.put, List.setIfInBounds_toArray, List.set_cons_zero, List.set_cons_succ]
          refine putWalk_quiet rfl (fun W hw' => quietAt_call (f := 19) (args := #[.int .u64 r, .int .u64 d]) (by simp [go_sem]) ((CM.out W).mono fun e w'' h => ⟨h.1, hw'.below h.2⟩)) (fun hna => absurd hna (by decide)) ?_
          simp only [Act.put, List.setIfInBounds_toArray, List.set_cons_zero, List.set_cons_succ]
          refine putWalk_quiet rfl (fun W hw' => quietAt_call (f := 39) (args := #[.agg #[.int .u64 a, .int .u64 b], .agg #[.int .u64 mx, .int .u64 my]]) (by simp [go_sem]) ((CL.out W).mono fun e w'' h => ⟨h.1, hw'.below h.2⟩)) (fun hna => absurd hna (by decide)) ?_
          simp only [Act.put, List.setIfInBounds_toArray, List.set_cons_zero, List.set_cons_succ]
          refine putWalk_put rfl (put_store 0 rfl rfl rfl rfl tywide2 rfl rfl (by simp [Value.oneCell'])) ?_
          trivial
        have K0 := Lib.hid hV6
        clear hV6
        simp only [List.length_cons, List.length_nil, lexAct, pval, toK, List.map_cons, List.map_nil, List.getElem?_cons_zero, List.getElem?_cons_succ, Option.bind_some, Act.put, List.setIfInBounds_toArray, List.set_cons_zero, List.set_cons_succ]
        obtain ⟨x, hx⟩ : ∃ x, x = whi (cuExc L r (k)) := ⟨_, rfl⟩
        obtain ⟨y, hy⟩ : ∃ x, x = wlo (cuExc L r (k)) := ⟨_, rfl⟩
        obtain ⟨nx, hnx⟩ : ∃ x, x = whi (1000000000 * s) := ⟨_, rfl⟩
        obtain ⟨ny, hny⟩ : ∃ x, x = wlo (1000000000 * s) := ⟨_, rfl⟩
        have CN : Hid (∀ w, Calls Try.prog 19 #[.int .u64 1000000000, .int .u64 s] w fun e w' => e = .returned (.agg #[.int .u64 nx, .int .u64 ny]) ∧ Below w.heap.size w w') := by rw [hnx, hny]; exact fun w => mul_any 1000000000 s w (by decide) HS6.out
        have CA : Hid (∀ w, Calls Try.prog 18 #[.agg #[.int .u64 lx, .int .u64 ly], .agg #[.int .u64 nx, .int .u64 ny]] w fun e w' => e = .returned (.tuple #[.agg #[.int .u64 x, .int .u64 y], .bool false]) ∧ Below w.heap.size w w') := by
          have hq := fun w => add_nums (E0 - M) (1000000000 * s) (cuExc L r (k)) w HX.out.2.1 HX.out.2.2.1 HX.out.1
          rw [decide_eq_false (by rw [HX.out.1]; exact Nat.not_le.2 HX.out.2.2.2), ← hx, ← hy, ← hnx, ← hny, ← HL1.out, ← HL2.out] at hq
          exact hq
        have HXY : Hid (x = whi (cuExc L r (k)) ∧ y = wlo (cuExc L r (k))) := ⟨hx, hy⟩
        clear hx hy hnx hny
        gi_upto_region 7 with fail
        refine wpIn_wide.2 ?_
        refine wp_region_put (C0 := KV (cutW wr gx) [(42, gx, [.int .u64 lx, .int .u64 ly]), (23, ga, cur), (55, gp, [.int .u64 t, .int .i64 z])]) (C1 := KV (cutW wr gx) [(42, gx, [.int .u64 x, .int .u64 y]), (23, ga, cur), (55, gp, [.int .u64 t, .int .i64 z])]) [some (.agg #[.int .u64 lx, .int .u64 ly]), some (.pointer (some ⟨gp, 1, none⟩)), some (.int .i64 z), some (.int .u64 s), some (.agg #[.int .u64 nx, .int .u64 ny]), some (.tuple #[.agg #[.int .u64 x, .int .u64 y], .bool false]), some (.tuple #[.agg #[.int .u64 x, .int .u64 y], .bool false]), some (.agg #[.int .u64 x, .int .u64 y]), some (.bool false), none] 9 [0, 1, 2, 3, 4, 5, 6, 7] (by kernel_rfl) (by kernel_rfl) K0.out.drew ?_ (fun V7 hV7 => ?_)
        · clear K0
          refine putWalk_quiet rfl (fun W hw' => quietAt_part (off := 0) (n := 2) (vs := [.int .u64 lx, .int .u64 ly]) rfl rfl tywide2 (hw'.at 0 rfl) rfl rfl) (fun hna => absurd hna (by decide)) ?_
          simp only [Act.put, List.setIfInBounds_toArray, List.set_cons_zero, List.set_cons_succ]
          refine putWalk_quiet rfl (fun W hw' => quietAt_run (by simp [go_sem])) (fun hna => absurd hna (by decide)) ?_
          simp only [Act.put, List.setIfInBounds_toArray, List.set_cons_zero, List.set_cons_succ]
          refine putWalk_quiet rfl (fun W hw' => quietAt_cell (j := 1) rfl rfl one_int (hw'.at 2 rfl) rfl) (fun hna => absurd hna (by decide)) ?_
          simp only [Act.put, List.setIfInBounds_toArray, List.set_cons_zero, List.set_cons_succ]
          refine putWalk_quiet rfl (fun W hw' => quietAt_run (by simp [go_sem, HZ.out])) (fun hna => absurd hna (by decide)) ?_
          simp only [Act.put, List.setIfInBounds_toArray, List.set_cons_zero, List.set_cons_succ]
          refine putWalk_quiet rfl (fun W hw' => quietAt_call (f := 19) (args := #[.int .u64 1000000000, .int .u64 s]) (by simp [go_sem]) ((CN.out W).mono fun e w'' h => ⟨h.1, hw'.below h.2⟩)) (fun hna => absurd hna (by decide)) ?_
          simp only [Act.put, List.setIfInBounds_toArray, List.set_cons_zero, List.set_cons_succ]
          refine putWalk_quiet rfl (fun W hw' => quietAt_call (f := 18) (args := #[.agg #[.int .u64 lx, .int .u64 ly], .agg #[.int .u64 nx, .int .u64 ny]]) (by simp [go_sem]) ((CA.out W).mono fun e w'' h => ⟨h.1, hw'.below h.2⟩)) (fun hna => absurd hna (by decide)) ?_
          simp only [Act.put, List.setIfInBounds_toArray, List.set_cons_zero, List.set_cons_succ]
          refine putWalk_quiet rfl (fun W hw' => quietAt_run (by simp [go_sem])) (fun hna => absurd hna (by decide)) ?_
          simp only [Act.put, List.setIfInBounds_toArray, List.set_cons_zero, List.set_cons_succ]
          refine putWalk_quiet rfl (fun W hw' => quietAt_run (by simp [go_sem])) (fun hna => absurd hna (by decide)) ?_
          simp only [Act.put, List.setIfInBounds_toArray, List.set_cons_zero, List.set_cons_succ]
          refine putWalk_quiet rfl (fun W hw' => quietAt_run (by simp [go_sem])) (fun hna => fun W hw' => quietAt_run (by simp [go_sem])) ?_
          simp only [Act.put, List.setIfInBounds_toArray, List.set_cons_zero, List.set_cons_succ]
          refine putWalk_put rfl (put_store 0 rfl rfl rfl rfl tywide2 rfl rfl (by simp [Value.oneCell'])) ?_
          trivial
        have K0 := Lib.hid hV7
        clear hV7
        simp only [List.length_cons, List.length_nil, lexAct, pval, toK, List.map_cons, List.map_nil, List.getElem?_cons_zero, List.getElem?_cons_succ, Option.bind_some, Act.put, List.setIfInBounds_toArray, List.set_cons_zero, List.set_cons_succ]
        have bW : Below gx wr V7 := by
          have h3 := (K0.out.at 2 rfl).lt
          have h4 := cutW_below (W := wr) HGS2.out
          have h5 := K0.out.bel
          rw [HGS.out] at h5
          exact ⟨h5.os, h5.tape, h5.output, by rw [HGP.out]; exact Nat.le_of_lt h3, fun k hk => (h5.block k hk).trans (h4.block k hk).symm⟩
        have hJ7 := hJ _ _ _ hJp bW
        have hS7 : ExSt c gx ga (some ⟨bb, o, none⟩) n cap L r cur x y V7 := ⟨hS.box.belowB bW (by omega), hS.rate.belowB bW (by omega), hS.row.belowB bW (fun b' o' e h => by have := hA b' o' e h; omega), K0.out.at 0 rfl, fun _ => K0.out.at 1 rfl⟩
        have hpl : pre.length = k := by have h := congrArg List.length hpre.out; rw [excIxs_len, List.length_range] at h; exact h
        obtain ⟨fn, tmps, assign, body, hy2, hR2⟩ := hY pre ⟨k, HLT.out⟩ V7 hJ7 (by rw [hpl]; exact HLT.out)
        unfold excEnc at hy2
        dsimp only at hy2
        rw [← HXY.out.1, ← HXY.out.2] at hy2
        have v0 := (K0.out.at 0 rfl).get 0
        have v1 := (K0.out.at 0 rfl).get 1
        simp at v0 v1
        have HPL := Lib.hid hpl
        clear K0 hS hJp bW hpl
        gi_wp2
        refine hR2.mono ?_
        rintro e W3 (⟨rfl, hJ3, hk3⟩ | ⟨rfl, hJx3⟩)
        · gi_wp2
          go_roundw
          case rel => exact ⟨k + 1, x, y, HLT.out, rfl, HXY.out, ⟨_, by show excIxs _ = _; rw [excIxs_add, hpre.out, List.range_succ], hJ3⟩, hS7.kpr hk3 hA (by omega) (fun h => by have := hga h; omega)⟩
          case measure => have hms := HLT.out; simp [intOf]; omega
        · gi_wp2
          refine bodyPost_ret (results_none rfl _ _ _) rfl ?_
          exact ⟨⟨_, rfl⟩, .inr ⟨_, by rw [excIxs_add, hpre.out, List.length_append, HPL.out]; exact List.range_succ.symm, hJx3⟩⟩
    · obtain rfl : k = n := by omega
      clear hlt
      gi_wp2
      go_end0
      exact ⟨⟨_, rfl⟩, .inl ⟨_, hpre.out, hJp⟩⟩
end Go.Proofs.Ytemgnaalmgkfiaa
