/-
  Spans sorted by where they begin: slices.Values, AppendSeq, Collect, SortFunc, SortedFunc at spans.
-/
import Derived.Test.YtcbhhfnnjfpmbaaSp6
import Derived.Laws.BitsAllLaws
import Derived.RangeFuncNested
import Derived.RangeFuncBound
import Derived.RangeFuncCalls
import Derived.RangeFuncLeaves
import Derived.RangeFuncBox
import Derived.Shelf.Abstract
import Derived.Shelf.RegionOpen
import Derived.WalkKit
import Derived.OwnWalkIn
import Derived.TacticsInMore
import Derived.LoopNIn
import Derived.LoopIn
namespace Go.Proofs.Ytcbhhfnnjfpmbaa
open Go.RowKit Go.Shelf Go.Lib Go.Sort
set_option linter.unusedVariables false
attribute [local go_sem] Oper.semAt_some

theorem values_any (A : Option Addr) (n cap : Nat) (w : World) : Calls Try.prog 17 #[.slice A n cap] w fun e w' => e = .returned (.func (.func 33) #[] #[.pointer (some ⟨w.heap.size, 0, none⟩)]) ∧ w' = w.alloc (.cells #[.slice A n cap] 23) := by
  go_enter Try.func17, Try.ntmps17
  go_wp2
  go_ret
  exact ⟨rfl, rfl⟩
def spArg (x : Sp) : Array Value := #[.agg #[.int .i64 x.1, .int .i64 x.2]]
theorem abides_alloc {B : Nat} {J : List Sp → World → Prop} (hJ : AbidesFrom B J) {pre : List Sp} {W : World} (h : J pre W) (o : Obj) : J pre (W.alloc o) := hJ _ _ _ none h (World.grownBy_alloc W o none) (fun r e => by cases e)

set_option maxRecDepth 10000 in
theorem values1_in (l Bn n₀ b o n cap : Nat) (L : List Sp) (hlen : L.length = n) (hn : n ≤ 8796093022207) (hb : b < n₀) (J Jx : List Sp → World → Prop) (hJ : ∀ pre W o, J pre W → J pre (W.alloc o))
    (hY : ∀ pre x W, J pre W → pre.length < n → YieldAt Fence.wide 3 Try.prog l (spArg x) W fun e W' =>
      (e = .returned (.bool true) ∧ J (pre ++ [x]) W' ∧ Below n₀ W W') ∨ (e = .returned (.bool false) ∧ Jx (pre ++ [x]) W'))
    (W : World) (hn₀ : n₀ ≤ W.heap.size) (hBn : W.cell? ⟨Bn, 0, none⟩ = some (.slice (some ⟨b, o, none⟩) n cap)) (hc : ∀ i, i < n → W.cell? ⟨b, o + i * 2, none⟩ = some (.int .i64 (L.getD i (0, 0)).1) ∧ W.cell? ⟨b, o + i * 2 + 1, none⟩ = some (.int .i64 (L.getD i (0, 0)).2)) (h0 : J [] W) :
    CallsIn Fence.wide 4 Try.prog 33 #[.func (.yield l) #[] #[], .pointer (some ⟨Bn, 0, none⟩)] W fun e W' => (∃ v, e = .returned v) ∧
      ((∃ ys, ys = L ∧ J ys W') ∨ (∃ pre, Jx pre W')) := by
  have hni : (n : Int) ≤ 8796093022207 := by omega
  have HC0 := Lib.hid hc
  refine callsIn_of_wp Try.func33 rfl trivial ?_ rfl
  simp only [Try.ntmps33, List.size_toArray, List.length_cons, List.length_nil, Nat.reduceAdd, Nat.reduceSub, Array.replicate_succ, Array.replicate_zero, List.push_toArray, List.append_toArray, List.nil_append, List.cons_append]
  clear hc
  gi_wp2
  gi_loopw [7] (fun i wr => ∃ k : Nat, k ≤ n ∧ i = .int .i64 (k : Int) ∧ J (L.take k) wr ∧ Below n₀ W wr) (fun i wr => n - (intOf i).toNat)
  case atStart => exact ⟨0, Nat.zero_le _, rfl, h0, Below.refl _ _⟩
  case round =>
    obtain ⟨k, hk, rfl, hJk, hB⟩ := hrel
    have B := Lib.hid hB
    by_cases hlt : k < n
    · have hc0 := (B.out.cell (p := ⟨b, o + k * 2, none⟩) hb).trans (HC0.out k hlt).1
      have hc1 := (B.out.cell (p := ⟨b, o + k * 2 + 1, none⟩) hb).trans (HC0.out k hlt).2
      have hts := take_succ_sp L k (by rw [hlen]; exact hlt)
      obtain ⟨x, hxe⟩ : ∃ x, x = L.getD k (0, 0) := ⟨_, rfl⟩
      rw [← hxe] at hc0 hc1 hts
      have HT := Lib.hid hts
      obtain ⟨x1, x2⟩ := x
      have hc0 : wr.cell? ⟨b, o + k * 2, none⟩ = some (.int .i64 x1) := hc0
      have hc1 : wr.cell? ⟨b, o + k * 2 + 1, none⟩ = some (.int .i64 x2) := hc1
      have hsz : n₀ ≤ wr.heap.size := Nat.le_trans hn₀ B.out.size
      have B2 : Hid (Below n₀ W (wr.alloc (.cells #[.int .i64 x1, .int .i64 x2] 27))) := B.out.alloc hsz _
      obtain ⟨fn, tmps, assign, body, hy, hR⟩ := hY (L.take k) (x1, x2) (wr.alloc (.cells #[.int .i64 x1, .int .i64 x2] 27)) (hJ _ _ _ hJk) (by rw [List.length_take]; omega)
      dsimp only [spArg] at hy
      clear hxe hts hB hsz
      gi_wp2
      refine hR.mono ?_
      rintro e W3 (⟨rfl, hJ3, hk3⟩ | ⟨rfl, hJx3⟩)
      · gi_wp2
        go_roundw
        case rel => exact ⟨k + 1, hlt, by go_num, by rw [HT.out]; exact hJ3, B2.out.trans hk3⟩
        case measure => simp [intOf]; omega
      · gi_wp2
        refine bodyPost_ret (results_none rfl _ _ _) rfl ?_
        exact ⟨⟨_, rfl⟩, .inr ⟨_, hJx3⟩⟩
    · have hke : k = n := by omega
      have hJL : J L wr := by rw [hke, List.take_of_length_le (by omega)] at hJk; exact hJk
      have HJ := Lib.hid hJL
      clear hJk hB hJL
      gi_wp2
      go_end0
      exact ⟨⟨_, rfl⟩, .inl ⟨_, rfl, HJ.out⟩⟩
/-- .. over no spans. -/
theorem values1_none_in (l Bn cap : Nat) (A : Option Addr) (J : List Sp → World → Prop) (W : World) (hBn : W.cell? ⟨Bn, 0, none⟩ = some (.slice A 0 cap)) (h0 : J [] W) :
    CallsIn Fence.wide 4 Try.prog 33 #[.func (.yield l) #[] #[], .pointer (some ⟨Bn, 0, none⟩)] W fun e W' => (∃ v, e = .returned v) ∧ J [] W' := by
  refine callsIn_of_wp Try.func33 rfl trivial ?_ rfl
  simp only [Try.ntmps33, List.size_toArray, List.length_cons, List.length_nil, Nat.reduceAdd, Nat.reduceSub, Array.replicate_succ, Array.replicate_zero, List.push_toArray, List.append_toArray, List.nil_append, List.cons_append]
  gi_wp2
  gi_loopw [7] (fun i wr => i = .int .i64 0 ∧ J [] wr) (fun _ _ => 0)
  case atStart => exact ⟨rfl, h0⟩
  case round =>
    obtain ⟨rfl, hJs⟩ := hrel
    gi_wp2
    go_end0
    exact ⟨⟨_, rfl⟩, hJs⟩
theorem values_stops (Bn n₀ : Nat) (A : Option Addr) (n cap : Nat) (L : List Sp) (hn : n ≤ 8796093022207) (w : World) (hBn : Bn < w.heap.size) (hn₀ : n₀ ≤ w.heap.size)
    (hc : w.cell? ⟨Bn, 0, none⟩ = some (.slice A n cap)) (hA : SpRow w A n L) (hlt : ∀ b o, A = some ⟨b, o, none⟩ → 0 < n → b < n₀) :
    SeqStopsK Fence.wide 4 Try.prog 33 #[.pointer (some ⟨Bn, 0, none⟩)] spArg (Below n₀) (fun ys => ys = L) (fun pre => True) n w := fun l J Jx W hW hJ _ hY h0 => by
  have hc' : W.cell? ⟨Bn, 0, none⟩ = some (.slice A n cap) := (hW.cell (p := ⟨Bn, 0, none⟩) hBn).trans hc
  rcases Nat.eq_zero_or_pos n with h | h
  · subst h
    have e : L = [] := List.eq_nil_of_length_eq_zero hA.len
    exact (values1_none_in l Bn cap A J W hc' h0).mono fun e W' ⟨he, hj⟩ => ⟨he, .inl ⟨_, by rw [‹L = []›], hj⟩⟩
  · obtain ⟨b, o, rfl, hb, hcs⟩ := hA.addr h
    have hb2 := hlt b o rfl h
    refine (values1_in l Bn n₀ b o n cap L hA.len hn hb2 J Jx (fun pre W o h => abides_alloc hJ h o) hY W (Nat.le_trans hn₀ hW.size) hc' (fun i hi => ⟨(hW.cell (p := ⟨b, o + i * 2, none⟩) (by show b < w.heap.size; omega)).trans (hcs i hi).1, (hW.cell (p := ⟨b, o + i * 2 + 1, none⟩) (by show b < w.heap.size; omega)).trans (hcs i hi).2⟩) h0).mono ?_
    rintro e W' ⟨he, ⟨ys, rfl, hj⟩ | ⟨pre, hj⟩⟩
    · exact ⟨he, .inl ⟨_, rfl, hj⟩⟩
    · exact ⟨he, .inr ⟨_, trivial, hj⟩⟩
end Go.Proofs.Ytcbhhfnnjfpmbaa
