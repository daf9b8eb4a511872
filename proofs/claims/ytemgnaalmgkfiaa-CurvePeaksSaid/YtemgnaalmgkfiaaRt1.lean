/-
  ratchet's Step and the document's; the iterator over the greatest times; Run.
-/
import Derived.Test.YtemgnaalmgkfiaaRowsU
import Derived.Test.YtemgnaalmgkfiaaRowsZ
import Derived.Test.YtemgnaalmgkfiaaRtPlain
import Derived.Laws.BitsAllLaws
import Derived.RangeFuncNested
import Derived.RangeFuncBound
import Derived.RangeFuncCalls
import Derived.RangeFuncLeaves
import Derived.RangeFuncBox
import Derived.Shelf.Abstract
import Derived.Shelf.RegionOpen
import Derived.WalkKit
import Derived.OwnWalkIn
import Derived.TacticsInMore
import Derived.LoopNIn
import Derived.LoopIn
import Derived.Maps.AppendAt
import Derived.BigQuiet
namespace Go.Proofs.Ytemgnaalmgkfiaa
open Go.RowKit Go.Shelf
set_option linter.unusedVariables false
attribute [local go_sem] Oper.semAt_some

theorem rt_gt {l t : Nat} (h : l < t) (ht : t ≤ 18446744073709551615) : rtNow l true t = t ∧ rtGap l true t = t - l ∧ IntKind.u64.wrap ((t : Int) - (l : Int)) = ((t - l : Nat) : Int) := by
  refine ⟨?_, rfl, ?_⟩
  · show max l t = t
    omega
  · rw [IntKind.wrap_u64]; omega
theorem rt_le {l t : Nat} (h : t ≤ l) : rtNow l true t = l ∧ rtGap l true t = 0 := ⟨by show max l t = l; omega, by show t - l = 0; omega⟩
theorem rtstep_any (l t : Nat) (s : Bool) (w : World) (ht : t ≤ 18446744073709551615) :
    Calls Try.prog 51 #[.int .u64 l, .bool s, .int .u64 t] w fun e w' => e = .returned (.tuple #[.int .u64 (rtNow l s t : Nat), .int .u64 (rtGap l s t : Nat)]) ∧ w = w' := by
  cases s with
  | false =>
    have e1 : rtNow l false t = t := rfl
    have e2 : rtGap l false t = 0 := rfl
    rw [e1, e2]
    clear ht e1 e2
    go_enter Try.func51, Try.ntmps51
    go_wp2_with fail
    go_ret2
    exact ⟨rfl, rfl⟩
  | true =>
    by_cases h : t ≤ l
    · rw [(rt_le h).1, (rt_le h).2]
      have hi : (t : Int) ≤ (l : Int) := by omega
      clear ht h
      go_enter Try.func51, Try.ntmps51
      go_wp2_with fail
      go_ret2
      exact ⟨rfl, rfl⟩
    · obtain ⟨e1, e2, e3⟩ := rt_gt (Nat.not_le.1 h) ht
      rw [e1, e2]
      have hi : ¬ (t : Int) ≤ (l : Int) := by omega
      obtain ⟨q, hq⟩ : ∃ q, q = t - l := ⟨_, rfl⟩
      rw [← hq] at e3 ⊢
      clear ht h e1 e2 hq
      go_enter Try.func51, Try.ntmps51
      go_wp2_with fail
      go_ret2
      exact ⟨by first | rfl | simp [e3], rfl⟩
/-- What a round keeps: all below n₀, and the block Bn. -/
def KBt (n₀ Bn : Nat) (W W' : World) : Prop := Below n₀ W W' ∧ W'.heap[Bn]? = W.heap[Bn]?
theorem KBt.box {n₀ Bn : Nat} {W W' : World} (h : KBt n₀ Bn W W') : W'.cell? ⟨Bn, 0, none⟩ = W.cell? ⟨Bn, 0, none⟩ := by
  simp only [World.cell?, h.2]
theorem KBt.trans {n₀ Bn : Nat} {A B C : World} (h : KBt n₀ Bn A B) (k : KBt n₀ Bn B C) : KBt n₀ Bn A C := ⟨h.1.trans k.1, k.2.trans h.2⟩
/-- What stands between two rounds. -/
def RtSt (Bn b o n cap : Nat) (xs : List Nat) (W : World) : Prop :=
  W.cell? ⟨Bn, 0, none⟩ = some (.slice (some ⟨b, o, none⟩) n cap) ∧ ∀ i, i < n → W.cell? ⟨b, o + i, none⟩ = some (.int .u64 (xs.getD i 0 : Nat))
theorem RtSt.kept {n₀ Bn b o n cap : Nat} {xs : List Nat} {W W' : World} (h : RtSt Bn b o n cap xs W) (hk : KBt n₀ Bn W W') (hb : b < n₀) : RtSt Bn b o n cap xs W' :=
  ⟨hk.box.trans h.1, fun i hi => (hk.1.cell (p := ⟨b, o + i, none⟩) hb).trans (h.2 i hi)⟩
def ixs {n : Nat} (l : List (Fin n)) : List Nat := l.map (·.val)
theorem ixs_add {n : Nat} (l : List (Fin n)) (x : Fin n) : ixs (l ++ [x]) = ixs l ++ [x.val] := by simp [ixs]
theorem ixs_len {n : Nat} (l : List (Fin n)) : (ixs l).length = l.length := by simp [ixs]
/-- What is handed out for an index. -/
def rtEnc (xs : List Nat) (n : Nat) (x : Fin n) : Array Value := #[.int .i64 ((x.val : Nat) : Int), .int .u64 ((rtMax xs (x.val + 1) : Nat) : Int)]
theorem rtMax_word {xs : List Nat} (h : ∀ i, xs.getD i 0 < 18446744073709551616) : ∀ k, rtMax xs k < 18446744073709551616
  | 0 => by show 0 < _; decide
  | k + 1 => by
    have h1 := rtMax_word h k
    have h2 := h k
    show max _ _ < _
    omega
theorem rt_pos (k : Nat) : decide ((0 : Int) < (k : Int)) = decide (0 < k) := by
  by_cases h : 0 < k
  · rw [decide_eq_true h, decide_eq_true (by omega)]
  · rw [decide_eq_false h, decide_eq_false (by omega)]

set_option maxRecDepth 10000 in
set_option maxHeartbeats 1600000 in
theorem great1_in (l Bn n₀ b o n cap : Nat) (xs : List Nat) (hw : ∀ i, xs.getD i 0 < 18446744073709551616) (hn : (n : Int) ≤ 17592186043904) (hb : b < n₀) (J Jx : List (Fin n) → World → Prop)
    (hY : ∀ pre x W, J pre W → pre.length < n → YieldAt Fence.wide 3 Try.prog l (rtEnc xs n x) W fun e W' =>
      (e = .returned (.bool true) ∧ J (pre ++ [x]) W' ∧ KBt n₀ Bn W W') ∨ (e = .returned (.bool false) ∧ Jx (pre ++ [x]) W'))
    (W : World) (hS : RtSt Bn b o n cap xs W) (h0 : J [] W) :
    CallsIn Fence.wide 4 Try.prog 50 #[.func (.yield l) #[] #[], .pointer (some ⟨Bn, 0, none⟩)] W fun e W' => (∃ v, e = .returned v) ∧
      ((∃ ys, ixs ys = List.range n ∧ J ys W') ∨ (∃ pre, True ∧ Jx pre W')) := by
  refine callsIn_of_wp Try.func50 rfl trivial ?_ rfl
  simp only [Try.ntmps50, List.size_toArray, List.length_cons, List.length_nil, Nat.reduceAdd, Nat.reduceSub, Array.replicate_succ, Array.replicate_zero, List.push_toArray, List.append_toArray, List.nil_append, List.cons_append]
  have hB := hS.1
  have HS := Lib.hid hS
  have HN := Lib.hid hn
  have HW := Lib.hid (rtMax_word hw)
  have HW2 := Lib.hid hw
  clear hS hn hw
  gi_wp2
  clear hB
  gi_loopw [3, 8] (fun v i wr => ∃ k : Nat, k ≤ n ∧ i = .int .i64 (k : Int) ∧ v = .int .u64 ((rtMax xs k : Nat) : Int) ∧ (∃ pre, Hid (ixs pre = List.range k) ∧ J pre wr) ∧ RtSt Bn b o n cap xs wr)
    (fun v i wr => n - (intOf i).toNat)
  case atStart => exact ⟨0, Nat.zero_le _, rfl, rfl, ⟨[], rfl, h0⟩, HS.out⟩
  case round =>
    clear HS h0
    obtain ⟨k, hk, rfl, rfl, ⟨pre, HP, hJ⟩, hS⟩ := hrel
    have HS := Lib.hid hS
    clear hS
    by_cases hlt : k < n
    · have hx := HS.out.2 k hlt
      have hx0 := HW2.out k
      have hm := rtNow_run xs k
      obtain ⟨x0, hxe⟩ : ∃ x, x = xs.getD k 0 := ⟨_, rfl⟩
      rw [← hxe] at hx hx0 hm
      have hp : pre.length = k := by have := congrArg List.length HP.out; rw [ixs_len, List.length_range] at this; exact this
      obtain ⟨fn, tmps, assign, body, hy2, hR2⟩ := hY pre ⟨k, hlt⟩ wr hJ (by omega)
      unfold rtEnc at hy2
      dsimp only at hy2
      have C := Lib.hid (fun w => rtstep_any (rtMax xs k) x0 (decide (0 < k)) w (by omega))
      rw [hm] at C
      obtain ⟨y, hy⟩ : ∃ y, y = rtMax xs (k + 1) := ⟨_, rfl⟩
      obtain ⟨z, hz⟩ : ∃ z, z = rtMax xs k := ⟨_, rfl⟩
      obtain ⟨d, hdd⟩ : ∃ d, d = rtGap z (decide (0 < k)) x0 := ⟨_, rfl⟩
      rw [← hz] at C
      rw [← hdd, ← hy] at C
      rw [← hy] at hy2
      rw [← hz]
      have hki : (k : Int) < 17592186043904 := by have := HN.out; omega
      have HY := Lib.hid hy
      have HLT := Lib.hid hlt
      clear hxe hx0 hm hp hJ hz hdd hy
      gi_wp2_with (refine ⟨trivial, ?_⟩; gi_at_call 51; refine (callsIn_wide.2 (C.out _)).mono ?_; rintro e w' ⟨rfl, rfl⟩)
      refine hR2.mono ?_
      rintro e W3 (⟨rfl, hJ3, hk3⟩ | ⟨rfl, hJx3⟩)
      · gi_wp2
        go_roundw
        case rel => exact ⟨k + 1, HLT.out, by go_num, by rw [HY.out], ⟨_, by show ixs _ = _; rw [ixs_add, HP.out, List.range_succ], hJ3⟩, HS.out.kept hk3 hb⟩
        case measure => simp [intOf]; omega
      · gi_wp2
        refine bodyPost_ret (results_none rfl _ _ _) rfl ?_
        exact ⟨⟨_, rfl⟩, .inr ⟨_, trivial, hJx3⟩⟩
    · obtain rfl : k = n := by omega
      clear hk hlt
      gi_wp2
      go_end0
      exact ⟨⟨_, rfl⟩, .inl ⟨_, HP.out, hJ⟩⟩

theorem great1_none_in (l Bn cap : Nat) (A : Option Addr) (J : List (Fin 0) → World → Prop) (W : World) (hBn : W.cell? ⟨Bn, 0, none⟩ = some (.slice A 0 cap)) (h0 : J [] W) :
    CallsIn Fence.wide 4 Try.prog 50 #[.func (.yield l) #[] #[], .pointer (some ⟨Bn, 0, none⟩)] W fun e W' => (∃ v, e = .returned v) ∧ J [] W' := by
  refine callsIn_of_wp Try.func50 rfl trivial ?_ rfl
  simp only [Try.ntmps50, List.size_toArray, List.length_cons, List.length_nil, Nat.reduceAdd, Nat.reduceSub, Array.replicate_succ, Array.replicate_zero, List.push_toArray, List.append_toArray, List.nil_append, List.cons_append]
  gi_wp2
  gi_loopw [8] (fun i wr => i = .int .i64 0 ∧ J [] wr ∧ wr.cell? ⟨Bn, 0, none⟩ = some (.slice A 0 cap)) (fun _ _ => 0)
  case atStart => exact ⟨rfl, h0, hBn⟩
  case round =>
    obtain ⟨rfl, hJs, hB⟩ := hrel
    gi_wp2
    go_end0
    exact ⟨⟨_, rfl⟩, hJs⟩
/-- The maker: the row is boxed; the function value captures the box. -/
theorem great_in (A : Option Addr) (n cap : Nat) (w : World) :
    CallsIn Fence.wide 4 Try.prog 47 #[.slice A n cap] w fun e w' => e = .returned (.func (.func 50) #[] #[.pointer (some ⟨w.heap.size, 0, none⟩)]) ∧ w' = w.alloc (.cells #[.slice A n cap] 59) := by
  refine callsIn_of_wp Try.func47 rfl trivial ?_ rfl
  simp only [Try.ntmps47, List.size_toArray, List.length_cons, List.length_nil, Nat.reduceAdd, Nat.reduceSub, Array.replicate_succ, Array.replicate_zero, List.push_toArray, List.append_toArray, List.nil_append, List.cons_append]
  gi_wp2
  go_ret
  exact ⟨rfl, rfl⟩
/-- All indices in their order, or the first ones. -/
theorem great_stops (Bn n₀ : Nat) (A : Option Addr) (n cap : Nat) (xs : List Nat) (hn : (n : Int) ≤ 17592186043904) (w : World) (hBn : Bn < w.heap.size) (hn₀ : n₀ ≤ w.heap.size)
    (hc : w.cell? ⟨Bn, 0, none⟩ = some (.slice A n cap)) (hA : RowU w A n xs) (hlt : ∀ b o, A = some ⟨b, o, none⟩ → 0 < n → b < n₀) :
    SeqStopsK Fence.wide 4 Try.prog 50 #[.pointer (some ⟨Bn, 0, none⟩)] (rtEnc xs n) (KBt n₀ Bn) (fun ys => ixs ys = List.range n) (fun _ => True) n w := fun l J Jx W hW _ _ hY h0 => by
  have hc' : W.cell? ⟨Bn, 0, none⟩ = some (.slice A n cap) := (hW.cell (p := ⟨Bn, 0, none⟩) hBn).trans hc
  rcases Nat.eq_zero_or_pos n with h | h
  · subst h
    exact (great1_none_in l Bn cap A J W hc' h0).mono fun e W' ⟨he, hj⟩ => ⟨he, .inl ⟨[], rfl, hj⟩⟩
  · obtain ⟨b, o, rfl, hb, hcs⟩ := hA.addr h
    have hb2 := hlt b o rfl h
    exact great1_in l Bn n₀ b o n cap xs hA.word hn hb2 J Jx hY W ⟨hc', fun i hi => (hW.cell (p := ⟨b, o + i, none⟩) (by show b < w.heap.size; omega)).trans (hcs i hi)⟩ h0
end Go.Proofs.Ytemgnaalmgkfiaa
