/-
  Spans sorted by where they begin: slices.Values, AppendSeq, Collect, SortFunc, SortedFunc at spans.
  slices.AppendSeq, Collect at spans.
  SortFunc, SortedFunc, sorted: spans by where they begin.
  sorted; Union where a span may not be.
-/
import Derived.Test.YtpalnlbdfmiadaaGreatDoorSp6
import Derived.Laws.BitsAllLaws
import Derived.RangeFuncNested
import Derived.RangeFuncBound
import Derived.RangeFuncCalls
import Derived.RangeFuncLeaves
import Derived.RangeFuncBox
import Derived.Shelf.Abstract
import Derived.Shelf.RegionOpen
import Derived.WalkKit
import Derived.OwnWalkIn
import Derived.TacticsInMore
import Derived.LoopNIn
import Derived.LoopIn
import Derived.Shelf.SlSortCmp.NoneTotal
namespace Go.Proofs.YtpalnlbdfmiadaaGreatDoor
open Go.RowKit Go.Shelf Go.Lib Go.Sort
set_option linter.unusedVariables false
attribute [local go_sem] Oper.semAt_some

theorem values_any (A : Option Addr) (n cap : Nat) (w : World) : Calls Tryz.prog 45 #[.slice A n cap] w fun e w' => e = .returned (.func (.func 66) #[] #[.pointer (some ⟨w.heap.size, 0, none⟩)]) ∧ w' = w.alloc (.cells #[.slice A n cap] 44) := by
  go_enter Tryz.func45, Tryz.ntmps45
  go_wp2
  go_ret
  exact ⟨rfl, rfl⟩
def spArg (x : Sp) : Array Value := #[.agg #[.int .i64 x.1, .int .i64 x.2]]
theorem abides_alloc {B : Nat} {J : List Sp → World → Prop} (hJ : AbidesFrom B J) {pre : List Sp} {W : World} (h : J pre W) (o : Obj) : J pre (W.alloc o) := hJ _ _ _ none h (World.grownBy_alloc W o none) (fun r e => by cases e)

set_option maxRecDepth 10000 in
theorem values1_in (l Bn n₀ b o n cap : Nat) (L : List Sp) (hlen : L.length = n) (hn : n ≤ 8796093022207) (hb : b < n₀) (J Jx : List Sp → World → Prop) (hJ : ∀ pre W o, J pre W → J pre (W.alloc o))
    (hY : ∀ pre x W, J pre W → pre.length < n → YieldAt Fence.wide 3 Tryz.prog l (spArg x) W fun e W' =>
      (e = .returned (.bool true) ∧ J (pre ++ [x]) W' ∧ Below n₀ W W') ∨ (e = .returned (.bool false) ∧ Jx (pre ++ [x]) W'))
    (W : World) (hn₀ : n₀ ≤ W.heap.size) (hBn : W.cell? ⟨Bn, 0, none⟩ = some (.slice (some ⟨b, o, none⟩) n cap)) (hc : ∀ i, i < n → W.cell? ⟨b, o + i * 2, none⟩ = some (.int .i64 (L.getD i (0, 0)).1) ∧ W.cell? ⟨b, o + i * 2 + 1, none⟩ = some (.int .i64 (L.getD i (0, 0)).2)) (h0 : J [] W) :
    CallsIn Fence.wide 4 Tryz.prog 66 #[.func (.yield l) #[] #[], .pointer (some ⟨Bn, 0, none⟩)] W fun e W' => (∃ v, e = .returned v) ∧
      ((∃ ys, ys = L ∧ J ys W') ∨ (∃ pre, Jx pre W')) := by
  have hni : (n : Int) ≤ 8796093022207 := by omega
  have HC0 := Lib.hid hc
  refine callsIn_of_wp Tryz.func66 rfl trivial ?_ rfl
  simp only [Tryz.ntmps66, List.size_toArray, List.length_cons, List.length_nil, Nat.reduceAdd, Nat.reduceSub, Array.replicate_succ, Array.replicate_zero, List.push_toArray, List.append_toArray, List.nil_append, List.cons_append]
  clear hc
  gi_wp2
  gi_loopw [7] (fun i wr => ∃ k : Nat, k ≤ n ∧ i = .int .i64 (k : Int) ∧ J (L.take k) wr ∧ Below n₀ W wr) (fun i wr => n - (intOf i).toNat)
  case atStart => exact ⟨0, Nat.zero_le _, rfl, h0, Below.refl _ _⟩
  case round =>
    obtain ⟨k, hk, rfl, hJk, hB⟩ := hrel
    have B := Lib.hid hB
    by_cases hlt : k < n
    · have hc0 := (B.out.cell (p := ⟨b, o + k * 2, none⟩) hb).trans (HC0.out k hlt).1
      have hc1 := (B.out.cell (p := ⟨b, o + k * 2 + 1, none⟩) hb).trans (HC0.out k hlt).2
      have hts := take_succ_sp L k (by rw [hlen]; exact hlt)
      obtain ⟨x, hxe⟩ : ∃ x, x = L.getD k (0, 0) := ⟨_, rfl⟩
      rw [← hxe] at hc0 hc1 hts
      have HT := Lib.hid hts
      obtain ⟨x1, x2⟩ := x
      have hc0 : wr.cell? ⟨b, o + k * 2, none⟩ = some (.int .i64 x1) := hc0
      have hc1 : wr.cell? ⟨b, o + k * 2 + 1, none⟩ = some (.int .i64 x2) := hc1
      have hsz : n₀ ≤ wr.heap.size := Nat.le_trans hn₀ B.out.size
      have B2 : Hid (Below n₀ W (wr.alloc (.cells #[.int .i64 x1, .int .i64 x2] 23))) := B.out.alloc hsz _
      obtain ⟨fn, tmps, assign, body, hy, hR⟩ := hY (L.take k) (x1, x2) (wr.alloc (.cells #[.int .i64 x1, .int .i64 x2] 23)) (hJ _ _ _ hJk) (by rw [List.length_take]; omega)
      dsimp only [spArg] at hy
      clear hxe hts hB hsz
      gi_wp2
      refine hR.mono ?_
      rintro e W3 (⟨rfl, hJ3, hk3⟩ | ⟨rfl, hJx3⟩)
      · gi_wp2
        go_roundw
        case rel => exact ⟨k + 1, hlt, by go_num, by rw [HT.out]; exact hJ3, B2.out.trans hk3⟩
        case measure => simp [intOf]; omega
      · gi_wp2
        refine bodyPost_ret (results_none rfl _ _ _) rfl ?_
        exact ⟨⟨_, rfl⟩, .inr ⟨_, hJx3⟩⟩
    · have hke : k = n := by omega
      have hJL : J L wr := by rw [hke, List.take_of_length_le (by omega)] at hJk; exact hJk
      have HJ := Lib.hid hJL
      clear hJk hB hJL
      gi_wp2
      go_end0
      exact ⟨⟨_, rfl⟩, .inl ⟨_, rfl, HJ.out⟩⟩
/-- .. over no spans. -/
theorem values1_none_in (l Bn cap : Nat) (A : Option Addr) (J : List Sp → World → Prop) (W : World) (hBn : W.cell? ⟨Bn, 0, none⟩ = some (.slice A 0 cap)) (h0 : J [] W) :
    CallsIn Fence.wide 4 Tryz.prog 66 #[.func (.yield l) #[] #[], .pointer (some ⟨Bn, 0, none⟩)] W fun e W' => (∃ v, e = .returned v) ∧ J [] W' := by
  refine callsIn_of_wp Tryz.func66 rfl trivial ?_ rfl
  simp only [Tryz.ntmps66, List.size_toArray, List.length_cons, List.length_nil, Nat.reduceAdd, Nat.reduceSub, Array.replicate_succ, Array.replicate_zero, List.push_toArray, List.append_toArray, List.nil_append, List.cons_append]
  gi_wp2
  gi_loopw [7] (fun i wr => i = .int .i64 0 ∧ J [] wr) (fun _ _ => 0)
  case atStart => exact ⟨rfl, h0⟩
  case round =>
    obtain ⟨rfl, hJs⟩ := hrel
    gi_wp2
    go_end0
    exact ⟨⟨_, rfl⟩, hJs⟩
theorem values_stops (Bn n₀ : Nat) (A : Option Addr) (n cap : Nat) (L : List Sp) (hn : n ≤ 8796093022207) (w : World) (hBn : Bn < w.heap.size) (hn₀ : n₀ ≤ w.heap.size)
    (hc : w.cell? ⟨Bn, 0, none⟩ = some (.slice A n cap)) (hA : SpRow w A n L) (hlt : ∀ b o, A = some ⟨b, o, none⟩ → 0 < n → b < n₀) :
    SeqStopsK Fence.wide 4 Tryz.prog 66 #[.pointer (some ⟨Bn, 0, none⟩)] spArg (Below n₀) (fun ys => ys = L) (fun pre => True) n w := fun l J Jx W hW hJ _ hY h0 => by
  have hc' : W.cell? ⟨Bn, 0, none⟩ = some (.slice A n cap) := (hW.cell (p := ⟨Bn, 0, none⟩) hBn).trans hc
  rcases Nat.eq_zero_or_pos n with h | h
  · subst h
    have e : L = [] := List.eq_nil_of_length_eq_zero hA.len
    exact (values1_none_in l Bn cap A J W hc' h0).mono fun e W' ⟨he, hj⟩ => ⟨he, .inl ⟨_, by rw [‹L = []›], hj⟩⟩
  · obtain ⟨b, o, rfl, hb, hcs⟩ := hA.addr h
    have hb2 := hlt b o rfl h
    refine (values1_in l Bn n₀ b o n cap L hA.len hn hb2 J Jx (fun pre W o h => abides_alloc hJ h o) hY W (Nat.le_trans hn₀ hW.size) hc' (fun i hi => ⟨(hW.cell (p := ⟨b, o + i * 2, none⟩) (by show b < w.heap.size; omega)).trans (hcs i hi).1, (hW.cell (p := ⟨b, o + i * 2 + 1, none⟩) (by show b < w.heap.size; omega)).trans (hcs i hi).2⟩) h0).mono ?_
    rintro e W' ⟨he, ⟨ys, rfl, hj⟩ | ⟨pre, hj⟩⟩
    · exact ⟨he, .inl ⟨_, rfl, hj⟩⟩
    · exact ⟨he, .inr ⟨_, trivial, hj⟩⟩
end Go.Proofs.YtpalnlbdfmiadaaGreatDoor

namespace Go.Proofs.YtpalnlbdfmiadaaGreatDoor
open Go.RowKit Go.Shelf Go.Lib Go.Sort
set_option linter.unusedVariables false
attribute [local go_sem] Oper.semAt_some

theorem span_ne : 44 ≠ 23 := by decide
/-- Between two rounds. -/
def AppI (w : World) (pre : List Sp) (W : World) : Prop := (∃ v, Boxed W w.heap.size 44 v ∧ W.ownsRow w.heap.size 23 2 v pre.length (scells pre) ∧ True) ∧ Below w.heap.size w W
def AppA (w : World) (F : Value) (x : Sp) (a' : Act) (W : World) : Prop := ∃ Bx, w.heap.size < Bx ∧ SB W Bx x.1 x.2 ∧ a' = { tmps := #[.slice none 0 0, F, .pointer (some ⟨w.heap.size, 0, none⟩), undef, .slice none 0 0, .pointer (some ⟨Bx, 0, none⟩), F, .agg #[.int .i64 x.1, .int .i64 x.2], undef, undef, undef, undef, undef], defers := [] }
theorem appA_own (w : World) (F : Value) (B : Nat) (x : Sp) (a' : Act) : OwnFrom B (fun (_ : Unit) W => AppA w F x a' W) := by
  rintro s X Y row ⟨Bx, h1, h2, h3⟩ hg hrow
  refine ⟨Bx, h1, ?_, h3⟩
  refine (hg.block Bx h2.lt (fun e => ?_)).trans h2
  obtain ⟨_, o, ho, hc⟩ := hrow Bx e.symm
  rw [show X.heap[Bx]? = _ from h2] at ho
  cases ho
  cases hc

set_option maxRecDepth 100000 in
set_option maxHeartbeats 2000000 in
theorem appendSeq_any (Bn : Nat) (A : Option Addr) (n cap : Nat) (L : List Sp) (w : World) (hn : n ≤ 8796093022207) (hBn : Bn < w.heap.size) (hc : w.cell? ⟨Bn, 0, none⟩ = some (.slice A n cap)) (hA : SpRow w A n L) :
    Calls Tryz.prog 87 #[.slice none 0 0, .func (.func 66) #[] #[.pointer (some ⟨Bn, 0, none⟩)]] w fun e w' => ∃ v, e = .returned v ∧ OutSp w.heap.size w' v L ∧ Below w.heap.size w w' := by
  refine (callsIn_wide (n := 5)).1 ?_
  refine callsIn_of_wp_marks Tryz.func87 rfl trivial ?_ rfl
  simp only [Tryz.ntmps87, List.size_toArray, List.length_cons, List.length_nil, Nat.reduceAdd, Nat.reduceSub, Array.replicate_succ, Array.replicate_zero, List.push_toArray, List.append_toArray, List.nil_append, List.cons_append]
  gi_wp2_with fail
  have hc2 : (w.alloc (.cells #[.slice none 0 0] 44)).cell? ⟨Bn, 0, none⟩ = some (.slice A n cap) := (World.cell?_alloc_lt w _ ⟨Bn, 0, none⟩ hBn).trans hc
  have hA2 := hA.alloc (.cells #[.slice none 0 0] 44)
  have hB0 : Below w.heap.size w (w.alloc (.cells #[.slice none 0 0] 44)) := (Below.refl _ _).alloc (Nat.le_refl _) _
  have hsz : (w.alloc (.cells #[.slice none 0 0] 44)).heap.size = w.heap.size + 1 := by simp
  have hAlt : ∀ b o, A = some ⟨b, o, none⟩ → 0 < n → b < w.heap.size := fun b o e h0 => by
    obtain ⟨b', o', e', hb', _⟩ := hA.addr h0
    rw [e] at e'
    injection e' with e'
    injection e' with e1 e2
    omega
  refine wpIn_rangeFunc_ownH rfl (by omega) (gf := 66) (lb := #[.pointer (some ⟨Bn, 0, none⟩)]) rfl trivial (enters_of Tryz.func66 (by kernel_rfl) rfl)
    (values_stops Bn w.heap.size A n cap L hn _ (by rw [hsz]; omega) (by rw [hsz]; omega) hc2 hA2 hAlt) (fun h k => h.trans k)
    (fun W l o o' hl h hc hw => belowK_b (w := w.alloc (.cells #[.slice none 0 0] 44)) (by rw [hsz]; omega) W l o o' hl h hc hw) (Below.refl _ _) (fun _ => rfl)
    (AppI w) (fun _ _ _ => False)
    (OwnFrom.and (Own.from (holdsRow_own w.heap.size w.heap.size 44 23 2 (fun pre : List Sp => pre.length) scells (fun _ _ => True)) _) (ownFrom_below (Nat.le_refl _) (by rw [hsz]; omega)))
    (fun _ _ _ _ _ hs _ _ => hs)
    ⟨⟨_, Boxed.new w _ _, World.ownsRow_nil _ _ _ _, trivial⟩, hB0⟩
    (AppA w (.func (.func 66) #[] #[.pointer (some ⟨Bn, 0, none⟩)])) (fun x a' => appA_own w _ _ x a') ?assign ?body ?done ?stop
  case assign =>
    rintro l pre x W K ⟨⟨v, hbx, hrow, _⟩, hB⟩ hK
    have hlow := hB.size
    have hbl := hbx.lt
    dsimp only [spArg]
    gi_wp2
    exact hK _ _ ((KeepsOthers.alloc _ _).from _) ((Below.refl _ _).alloc hlow _) ⟨⟨v, hbx.alloc _, World.ownsRow.alloc hrow _, trivial⟩, hB.alloc hlow _⟩ ⟨W.heap.size, hbl, SB.new W x.1 x.2, rfl⟩
  case body =>
    rintro l pre x a' W hl hr ⟨⟨v, hbx, hrow, _⟩, hB⟩ ⟨Bx, hBx, hS, rfl⟩ hlt
    have s0 := hS.c0
    have s1 := hS.c1
    have hv := hbx.cell
    have hlow := hB.size
    obtain ⟨i0, hi, hz0, hz1, hz2⟩ := info_parts span_info
    gi_wp2_with (first
      | (gi_at_builtin; refine wpListIn_append_own _ rfl (.tmp 8) (.tmp 10) 44 rfl w.heap.size 23 i0 _ 2 16 Tryz.underlying44 hi hz0 hz1 hz2 rfl (by decide) v _ _ rfl (World.ownsRow.alloc hrow _) ⟨W.heap.size, 0, none⟩ 1 1 [.int .i64 x.1, .int .i64 x.2] rfl rfl ?_ (scells_one [x]) (by unfold maxLen; omega) (by omega) (by simp; omega) ?_
         · intro j u hj
           rw [add_flat, cell_of_row _ W.heap.size (0 + j) _ _ _ (heap_alloc_new W _), Nat.zero_add, ← Array.getElem?_toList]
           exact hj
         intro v' w1 hown' hgrow _
         obtain ⟨g', cap', rfl⟩ := ownsRow_succ hown'
         obtain ⟨hv1, hv2, hr2, hk2, hb2⟩ := hbx.appended span_ne hrow hlow (Nat.le_refl _) hown' hgrow
         have hc1 := hv1.cell
         have hf1 := hv1.frozen)
      | fail)
    refine ⟨hk2.from _, hb2, ⟨⟨_, hv2, ?_, trivial⟩, hB.trans hb2⟩⟩
    rw [List.length_append, scells_append]
    exact hr2
  case done =>
    rintro D ys W hD rfl ⟨⟨v, hbx, hrow, _⟩, hB⟩ hK
    have hv := hbx.cell
    gi_wp2
    refine ⟨by simp, .inl ⟨_, _, rfl, run_takeDeferred hK, ?_⟩⟩
    exact ⟨_, results_tmp rfl _ _ _, v, rfl, (show OutSp w.heap.size _ v ys from ownsRow_putObj hrow (.deferred none) hK rfl), hB.trans (belowK_b (w := w) (Nat.le_refl _) W D _ _ (by rw [hsz] at hD; omega) hK rfl rfl)⟩
  case stop =>
    rintro D c pre W hD _ h _
    exact h.elim

theorem collect_any (Bn : Nat) (A : Option Addr) (n cap : Nat) (L : List Sp) (w : World) (hn : n ≤ 8796093022207) (hBn : Bn < w.heap.size) (hc : w.cell? ⟨Bn, 0, none⟩ = some (.slice A n cap)) (hA : SpRow w A n L) :
    Calls Tryz.prog 64 #[.func (.func 66) #[] #[.pointer (some ⟨Bn, 0, none⟩)]] w fun e w' => ∃ v, e = .returned v ∧ OutSp w.heap.size w' v L ∧ Below w.heap.size w w' := by
  have C := Lib.hid (appendSeq_any Bn A n cap L w hn hBn hc hA)
  clear hc hA
  go_enter Tryz.func64, Tryz.ntmps64
  go_wp2_with fail
  refine C.out.mono ?_
  rintro e w1 ⟨v, rfl, ho, hb⟩
  have HO := Lib.hid ho
  have HB := Lib.hid hb
  clear ho hb
  go_wp2_with fail
  go_ret
  exact ⟨_, rfl, HO.out, HB.out⟩
end Go.Proofs.YtpalnlbdfmiadaaGreatDoor

namespace Go.Proofs.YtpalnlbdfmiadaaGreatDoor
open Go.RowKit Go.Shelf Go.Lib Go.Sort
set_option linter.unusedVariables false

def encS (x : Sp) : List Value := [.int .i64 x.1, .int .i64 x.2]
def cmpS (x y : Sp) : Int := Lib.compareInt x.1 y.1
theorem ltS (x y : Sp) : ltOf cmpS x y = decide (x.1 < y.1) := by
  unfold ltOf cmpS Lib.compareInt
  by_cases h1 : x.1 < y.1
  · simp [h1]
  · by_cases h2 : y.1 < x.1 <;> simp [h1, h2]
theorem swoS : SWO (ltOf cmpS) where
  irrefl x := by rw [ltS]; simp
  trans x y z h1 h2 := by rw [ltS] at *; simp at *; omega
  ntrans x y z h1 h2 := by rw [ltS] at *; simp at *; omega

set_option maxHeartbeats 1000000 in
theorem scmp_any (x y : Sp) (W : World) : Calls Tryz.prog 46 #[.agg #[.int .i64 x.1, .int .i64 x.2], .agg #[.int .i64 y.1, .int .i64 y.2]] W fun e w' => e = .returned (.int .i64 (cmpS x y)) ∧ ∃ q os', w' = grow (W.drewN q) os' := by
  have hcon : ∀ W', Calls Tryz.prog 47 #[.int .i64 x.1, .int .i64 y.1] W' fun e w' => e = .returned (.int .i64 (cmpS x y)) ∧ w' = W' := fun W' => AnyG.cmp_Compare_int laysCmpInt x.1 y.1 W'
  generalize cmpS x y = r at hcon ⊢
  go_enter Tryz.func46, Tryz.ntmps46
  go_wp2_with (go_at_call 47; refine (hcon _).mono ?_; rintro e w' ⟨rfl, rfl⟩)
  go_ret
  exact ⟨rfl, 0, _, by rw [alloc_eq_grow, alloc_eq_grow, grow_grow]; rfl⟩

/-! ### cells of a sorted row -/
theorem flatS (d : Array Sp) : (flatK encS 2 d).toList = scells d.toList := by
  apply List.ext_getElem?
  intro t
  by_cases h : t < d.size * 2
  · have e1 : (flatK encS 2 d).toList[t]? = some ((flatK encS 2 d)[t]!) := by
      rw [Array.getElem?_toList, Array.getElem?_eq_getElem (by simpa using h), getElem!_pos _ _ (by simpa using h)]
    have hi : t / 2 < d.toList.length := by simp; omega
    have hs := scells_at hi
    have eg : d[t / 2]! = d.toList.getD (t / 2) (0, 0) := by
      rw [getElem!_pos _ _ (by simpa using hi), List.getD_eq_getElem?_getD, List.getElem?_eq_getElem hi]
      simp
    rw [e1, get_flatK _ _ _ _ h, eg]
    rcases Nat.mod_two_eq_zero_or_one t with h0 | h0
    · have : t = t / 2 * 2 := by omega
      rw [h0]
      conv => rhs; rw [this, hs.1]
      rfl
    · have : t = t / 2 * 2 + 1 := by omega
      rw [h0]
      conv => rhs; rw [this, hs.2]
      rfl
  · rw [List.getElem?_eq_none (by simp; omega), List.getElem?_eq_none (by rw [scells_length]; simp; omega)]
theorem holdsK_block {w : World} {g : Nat} {cur : Array Value} {e : TypeId} {L : List Sp} (hb : w.heap[g]? = some (.cells cur e (0, 0))) (ht : cur.toList.take (L.length * 2) = scells L) : HoldsK encS 2 w g 0 L.toArray := by
  intro j hj
  have hj2 : j < L.length * 2 := by simpa using hj
  have e1 : cur[j]? = (scells L)[j]? := by rw [← ht, List.getElem?_take_of_lt hj2, Array.getElem?_toList]
  have e2 : (scells L)[j]? = some ((flatK encS 2 L.toArray)[j]!) := by
    have := flatS L.toArray
    rw [show L.toArray.toList = L from rfl] at this
    rw [← this, Array.getElem?_toList, Array.getElem?_eq_getElem (by simpa using hj2), getElem!_pos _ _ (by simpa using hj2)]
  refine ⟨?_, ?_⟩
  · rw [Nat.zero_add, cell_of_row w g j _ _ _ hb, e1, e2]; rfl
  · rw [World.frozen?]; simp [hb]
theorem heap_sortedS {w : World} {g n : Nat} {os : Array Obj} {cur : Array Value} {e : TypeId} {fr : Nat × Nat} (d : Array Sp) (hb : w.heap[g]? = some (.cells cur e fr)) :
    (sortWorldK encS 2 w g 0 n d os).heap[g]? = some (.cells (putCells id 0 (flatK encS 2 d) cur) e fr) := by
  have hg : g < w.heap.size := (Array.getElem?_eq_some_iff.1 hb).1
  unfold sortWorldK putRowK
  rw [heap_grow_old _ _ (by simpa using hg)]
  simp [putRow, mapBlock, Sort.ahead, Array.getElem?_modify, hb, onCells]
theorem grownBy_sortedS {w : World} {g n : Nat} {os : Array Obj} (d : Array Sp) : w.grownBy (sortWorldK encS 2 w g 0 n d os) (some g) := by
  unfold sortWorldK putRowK
  refine ⟨rfl, rfl, rfl, by simp, fun k hk hne => ?_⟩
  rw [heap_grow_old _ _ (by simpa using hk)]
  have : g ≠ k := fun e => hne (by rw [e])
  simp [putRow, mapBlock, Sort.ahead, Array.getElem?_modify, this]
theorem take_putCellsS (cur F : Array Value) (h : F.size ≤ cur.size) : (putCells id 0 F cur).toList.take F.size = F.toList := by
  apply List.ext_getElem?
  intro j
  by_cases hj : j < F.size
  · rw [List.getElem?_take_of_lt hj, Array.getElem?_toList]
    simp [putCells, hj, show j < cur.size by omega]
  · rw [List.getElem?_take_eq_none (by omega), List.getElem?_eq_none (by simp; omega)]

/-- A permutation, by where they begin. -/
structure SortedS (L S : List Sp) : Prop where
  perm : S.Perm L
  up : S.Pairwise fun a b => a.1 ≤ b.1
theorem sortedS_of {L : List Sp} {d' : Array Sp} (hp : PermIn 0 L.length L.toArray d') (hs : SortedIn (ltOf cmpS) 0 L.length d') : SortedS L d'.toList := by
  obtain ⟨h1, _, h3⟩ := hp
  have hd : d'.size = L.length := by simpa using h1
  refine ⟨?_, ?_⟩
  · have e1 : d'.extract 0 L.length = d' := by rw [← hd]; simp
    have e2 : L.toArray.extract 0 L.length = L.toArray := by simp
    rw [e1, e2] at h3
    exact h3
  · rw [List.pairwise_iff_getElem]
    intro i j hi hj hij
    have hi' : i < d'.size := by simpa using hi
    have hj' : j < d'.size := by simpa using hj
    have := hs i j (Nat.zero_le _) hij (by omega)
    rw [ltS, getElem!_pos d' i hi', getElem!_pos d' j hj'] at this
    have := of_decide_eq_false this
    simp only [Array.getElem_toList]
    omega
theorem SortedS.nil : SortedS [] [] := ⟨List.Perm.refl _, List.Pairwise.nil⟩

theorem ssortf_own (B g c n : Nat) (L : List Sp) (w : World) (h : OutSp B w (.slice (some ⟨g, 0, none⟩) n c) L) (hn : L.length = n) (hl : n < 4611686018427387904) :
    Calls Tryz.prog 65 #[.slice (some ⟨g, 0, none⟩) n c, .func (.func 46) #[] #[]] w fun e w' => e = .returned (.tuple #[]) ∧ ∃ S, SortedS L S ∧ OutSp B w' (.slice (some ⟨g, 0, none⟩) n c) S ∧ w.grownBy w' (some g) := by
  subst hn
  obtain ⟨h1, h2 | ⟨g', cap, cur, hv, hB, hh, h4, h5, hs, ht⟩⟩ := h
  · cases h2.1
  · injection hv with e1 e2 e3
    injection e1 with e1
    injection e1 with e1 _
    subst e1 e3
    have hlt : g < w.heap.size := by
      rcases Nat.lt_or_ge g w.heap.size with hlt | hge
      · exact hlt
      · rw [Array.getElem?_eq_none hge] at hh; cases hh
    have eg : ∀ args w, (callFunc 46 args).run Tryz.prog w = .ok (.enter 46 args) w := enters_of Tryz.func46 (by kernel_rfl) rfl
    refine (show Calls Tryz.prog 65 #[.slice (some ⟨g, 0, none⟩) L.toArray.size c, .func (.func 46) #[] #[]] w _ from AnyQ.slices_SortFunc laysSortSpan 2 Tryz.isAgg23 Tryz.sizeOf23 encS (fun _ => rfl) (fun x v hv => by simp [encS] at hv; rcases hv with rfl | rfl <;> rfl) cmpS swoS 46 #[] g 0 c L.toArray w eg (fun _ _ _ _ x y => scmp_any x y _) (holdsK_block hh ht) hlt (by simpa using hl)).mono ?_
    rintro e w' ⟨rfl, d', m, os, hp, hso, rfl⟩
    rw [show L.toArray.size = L.length by simp] at hp hso
    have hS := sortedS_of hp hso
    have hd : d'.toList.length = L.length := hS.perm.length_eq
    have hd2 : d'.size = L.length := by simpa using hd
    refine ⟨rfl, d'.toList, hS, ?_, grownBy_sortedS _⟩
    unfold OutSp
    rw [hd]
    refine ⟨by rw [scells_length, hd], .inr ⟨g, c, _, rfl, hB, heap_sortedS _ hh, h4, h5, by simp [putCells, hs], ?_⟩⟩
    have htk := take_putCellsS cur (flatK encS 2 d') (by rw [size_flatK, hd2, hs]; exact Nat.mul_le_mul_right 2 h4)
    rw [size_flatK, hd2] at htk
    rw [htk, flatS]

theorem ssortedFunc_any (Bn : Nat) (A : Option Addr) (n cap : Nat) (L : List Sp) (w : World) (hn : n ≤ 8796093022207) (hBn : Bn < w.heap.size) (hc : w.cell? ⟨Bn, 0, none⟩ = some (.slice A n cap)) (hA : SpRow w A n L) (h0 : 0 < L.length) :
    Calls Tryz.prog 44 #[.func (.func 66) #[] #[.pointer (some ⟨Bn, 0, none⟩)], .func (.func 46) #[] #[]] w fun e w' => ∃ v S, e = .returned v ∧ SortedS L S ∧ OutSp w.heap.size w' v S ∧ Below w.heap.size w w' := by
  have C := Lib.hid (collect_any Bn A n cap L w hn hBn hc hA)
  have HL := Lib.hid hA.len
  have HN := Lib.hid hn
  clear hc hA hn
  go_enter Tryz.func44, Tryz.ntmps44
  go_wp2_with fail
  refine C.out.mono ?_
  rintro e w1 ⟨v, rfl, ho, hb⟩
  obtain ⟨g, c, rfl, hg1, hg2, hg3, hg4⟩ := ho.block h0
  have CS := Lib.hid (ssortf_own w.heap.size g c L.length L w1 ho rfl (by have := HN.out; have := HL.out; omega))
  have HB := Lib.hid hb
  have HG := Lib.hid hg1
  obtain ⟨m, hm⟩ : ∃ m, m = L.length := ⟨_, rfl⟩
  rw [← hm] at CS ⊢
  clear ho hb hg1 hg2 hg3 hg4 hm h0
  go_wp2_with fail
  refine CS.out.mono ?_
  rintro e w2 ⟨rfl, S, hS, ho, hgr⟩
  have B := Lib.hid (HB.out.grown hgr HB.out.size (fun q hq => by have := Option.some.inj hq; have := HG.out; omega))
  have HS := Lib.hid hS
  have HO := Lib.hid ho
  clear hS ho hgr
  go_wp2_with fail
  go_ret
  exact ⟨_, _, rfl, HS.out, HO.out, B.out⟩
end Go.Proofs.YtpalnlbdfmiadaaGreatDoor

namespace Go.Proofs.YtpalnlbdfmiadaaGreatDoor
open Go.RowKit Go.Shelf Go.Lib Go.Sort
set_option linter.unusedVariables false

theorem OutSp.shape {B : Nat} {w : World} {v : Value} {L : List Sp} (h : OutSp B w v L) : ∃ p c, v = .slice p L.length c := by
  rcases h.2 with ⟨hv, h0⟩ | ⟨g, cap, cur, hv, _⟩
  · exact ⟨none, 0, by rw [hv, h0]⟩
  · exact ⟨_, cap, hv⟩
theorem ssortf_any (B : Nat) (v : Value) (L : List Sp) (w : World) (h : OutSp B w v L) (hB : B ≤ w.heap.size) (hl : L.length < 4611686018427387904) :
    Calls Tryz.prog 65 #[v, .func (.func 46) #[] #[]] w fun e w' => e = .returned (.tuple #[]) ∧ ∃ S, SortedS L S ∧ OutSp B w' v S ∧ Below B w w' := by
  rcases Nat.eq_zero_or_pos L.length with h0 | h0
  · obtain ⟨p, c, hv⟩ := h.shape
    have e : L = [] := List.eq_nil_of_length_eq_zero h0
    subst e
    subst hv
    refine (show Calls Tryz.prog 65 #[.slice p 0 c, .func (.func 46) #[] #[]] w _ from AnyF.slices_SortFunc_none laysSortSpan p c (.func (.func 46) #[] #[]) w).mono ?_
    rintro e w' ⟨rfl, rfl⟩
    exact ⟨rfl, [], SortedS.nil, h, Below.refl _ _⟩
  · obtain ⟨g, c, rfl, hg1, hg2, hg3, hg4⟩ := h.block h0
    refine (ssortf_own B g c L.length L w h rfl hl).mono ?_
    rintro e w' ⟨rfl, S, hS, ho, hgr⟩
    exact ⟨rfl, S, hS, ho, (Below.refl B w).grown hgr hB (fun q hq => by have := Option.some.inj hq; omega)⟩

theorem ssortedFunc_all (Bn : Nat) (A : Option Addr) (n cap : Nat) (L : List Sp) (w : World) (hn : n ≤ 8796093022207) (hBn : Bn < w.heap.size) (hc : w.cell? ⟨Bn, 0, none⟩ = some (.slice A n cap)) (hA : SpRow w A n L) :
    Calls Tryz.prog 44 #[.func (.func 66) #[] #[.pointer (some ⟨Bn, 0, none⟩)], .func (.func 46) #[] #[]] w fun e w' => ∃ v S, e = .returned v ∧ SortedS L S ∧ OutSp w.heap.size w' v S ∧ Below w.heap.size w w' := by
  have C := Lib.hid (collect_any Bn A n cap L w hn hBn hc hA)
  have HL : Hid (L.length < 4611686018427387904) := by have := hA.len; exact (by omega : L.length < 4611686018427387904)
  clear hc hA hn
  go_enter Tryz.func44, Tryz.ntmps44
  go_wp2_with fail
  refine C.out.mono ?_
  rintro e w1 ⟨v, rfl, ho, hb⟩
  have CS := Lib.hid (ssortf_any w.heap.size v L w1 ho hb.size HL.out)
  have HB := Lib.hid hb
  clear ho hb
  go_wp2_with fail
  refine CS.out.mono ?_
  rintro e w2 ⟨rfl, S, hS, ho, hb⟩
  have B := Lib.hid (HB.out.trans hb)
  have HS := Lib.hid hS
  have HO := Lib.hid ho
  clear hS ho hb
  go_wp2_with fail
  go_ret
  exact ⟨_, _, rfl, HS.out, HO.out, B.out⟩
theorem ssorted_any (A : Option Addr) (n cap : Nat) (L : List Sp) (w : World) (hn : n ≤ 8796093022207) (hA : SpRow w A n L) :
    Calls Tryz.prog 30 #[.slice A n cap] w fun e w' => ∃ v S, e = .returned v ∧ SortedS L S ∧ OutSp w.heap.size w' v S ∧ Below w.heap.size w w' := by
  have CV := Lib.hid (values_any A n cap w)
  have C := Lib.hid (ssortedFunc_all w.heap.size A n cap L (w.alloc (.cells #[.slice A n cap] 44)) hn (by simp) (cell_of_row _ _ 0 _ _ _ (heap_alloc_new w _)) (hA.alloc _))
  have hs : (w.alloc (.cells #[.slice A n cap] 44)).heap.size = w.heap.size + 1 := by simp
  have HS := Lib.hid hs
  clear hn hA hs
  go_enter Tryz.func30, Tryz.ntmps30
  go_wp2_with fail
  refine CV.out.mono ?_
  rintro e w1 ⟨rfl, rfl⟩
  go_wp2_with fail
  refine C.out.mono ?_
  rintro e w2 ⟨v, S, rfl, hS, ho, hb⟩
  have h1 : w.heap.size ≤ (w.alloc (.cells #[.slice A n cap] 44)).heap.size := by rw [HS.out]; omega
  have HO := Lib.hid (ho.mono h1)
  have B : Hid (Below w.heap.size w w2) := ((Below.refl _ _).alloc (Nat.le_refl _) (.cells #[.slice A n cap] 44)).trans (hb.mono h1)
  have HP := Lib.hid hS
  clear ho hb hS
  go_wp2_with fail
  go_ret
  exact ⟨_, _, rfl, HP.out, HO.out, B.out⟩

set_option maxRecDepth 10000 in
theorem sunion_bad (A : Option Addr) (n cap : Nat) (L : List Sp) (w : World) (hn : n ≤ 8796093022207) (hA : SpRow w A n L) (hbad : chkAll L ≠ 0) :
    Calls Tryz.prog 18 #[.slice A n cap] w fun e w' => e = .returned (.tuple #[.slice none 0 0, .int .i64 (chkAll L)]) ∧ Below w.heap.size w w' := by
  have C := Lib.hid (scheckAll_any A n cap L w hn hA)
  have hb1 : (chkAll L != 0) = true := by rw [bne_iff_ne]; exact hbad
  obtain ⟨c, hc⟩ : ∃ c, c = chkAll L := ⟨_, rfl⟩
  rw [← hc] at C hb1 ⊢
  clear hc hbad hA
  go_enter Tryz.func18, Tryz.ntmps18
  go_wp2_with fail
  refine C.out.mono ?_
  rintro e w1 ⟨rfl, hb⟩
  have B := Lib.hid hb
  clear hb
  go_wp2_with fail
  go_ret2
  exact ⟨rfl, B.out⟩
end Go.Proofs.YtpalnlbdfmiadaaGreatDoor
