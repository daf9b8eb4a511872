/-
  ratchet's Step and the document's; the iterator over the greatest times; Run.
-/
import Derived.Test.YtdeehkhdmohalaaRowsU
import Derived.Test.YtdeehkhdmohalaaRowsZ
import Derived.Test.YtdeehkhdmohalaaRtPlain
import Derived.Laws.BitsAllLaws
import Derived.RangeFuncNested
import Derived.RangeFuncBound
import Derived.RangeFuncCalls
import Derived.RangeFuncLeaves
import Derived.RangeFuncBox
import Derived.Shelf.Abstract
import Derived.Shelf.RegionOpen
import Derived.WalkKit
import Derived.OwnWalkIn
import Derived.TacticsInMore
import Derived.LoopNIn
import Derived.LoopIn
import Derived.Maps.AppendAt
import Derived.BigQuiet
namespace Go.Proofs.Ytdeehkhdmohalaa
open Go.RowKit Go.Shelf
set_option linter.unusedVariables false
attribute [local go_sem] Oper.semAt_some

theorem rt_gt {l t : Nat} (h : l < t) (ht : t ≤ 18446744073709551615) : rtNow l true t = t ∧ rtGap l true t = t - l ∧ IntKind.u64.wrap ((t : Int) - (l : Int)) = ((t - l : Nat) : Int) := by
  refine ⟨?_, rfl, ?_⟩
  · show max l t = t
    omega
  · rw [IntKind.wrap_u64]; omega
theorem rt_le {l t : Nat} (h : t ≤ l) : rtNow l true t = l ∧ rtGap l true t = 0 := ⟨by show max l t = l; omega, by show t - l = 0; omega⟩
theorem rtstep_any (l t : Nat) (s : Bool) (w : World) (ht : t ≤ 18446744073709551615) :
    Calls Try.prog 24 #[.int .u64 l, .bool s, .int .u64 t] w fun e w' => e = .returned (.tuple #[.int .u64 (rtNow l s t : Nat), .int .u64 (rtGap l s t : Nat)]) ∧ w = w' := by
  cases s with
  | false =>
    have e1 : rtNow l false t = t := rfl
    have e2 : rtGap l false t = 0 := rfl
    rw [e1, e2]
    clear ht e1 e2
    go_enter Try.func24, Try.ntmps24
    go_wp2_with fail
    go_ret2
    exact ⟨rfl, rfl⟩
  | true =>
    by_cases h : t ≤ l
    · rw [(rt_le h).1, (rt_le h).2]
      have hi : (t : Int) ≤ (l : Int) := by omega
      clear ht h
      go_enter Try.func24, Try.ntmps24
      go_wp2_with fail
      go_ret2
      exact ⟨rfl, rfl⟩
    · obtain ⟨e1, e2, e3⟩ := rt_gt (Nat.not_le.1 h) ht
      rw [e1, e2]
      have hi : ¬ (t : Int) ≤ (l : Int) := by omega
      obtain ⟨q, hq⟩ : ∃ q, q = t - l := ⟨_, rfl⟩
      rw [← hq] at e3 ⊢
      clear ht h e1 e2 hq
      go_enter Try.func24, Try.ntmps24
      go_wp2_with fail
      go_ret2
      exact ⟨by first | rfl | simp [e3], rfl⟩
theorem rrtstep_any (l t : Nat) (s : Bool) (w : World) (ht : t ≤ 18446744073709551615) :
    Calls Try.prog 27 #[.int .u64 l, .bool s, .int .u64 t] w fun e w' => e = .returned (.tuple #[.int .u64 (rtNow l s t : Nat), .int .u64 (rtGap l s t : Nat)]) ∧ w = w' := by
  cases s with
  | false =>
    have e1 : rtNow l false t = t := rfl
    have e2 : rtGap l false t = 0 := rfl
    rw [e1, e2]
    clear ht e1 e2
    go_enter Try.func27, Try.ntmps27
    go_wp2_with fail
    go_ret2
    exact ⟨rfl, rfl⟩
  | true =>
    by_cases h : t ≤ l
    · rw [(rt_le h).1, (rt_le h).2]
      have hi : (t : Int) ≤ (l : Int) := by omega
      clear ht h
      go_enter Try.func27, Try.ntmps27
      go_wp2_with fail
      go_ret2
      exact ⟨rfl, rfl⟩
    · obtain ⟨e1, e2, e3⟩ := rt_gt (Nat.not_le.1 h) ht
      rw [e1, e2]
      have hi : ¬ (t : Int) ≤ (l : Int) := by omega
      obtain ⟨q, hq⟩ : ∃ q, q = t - l := ⟨_, rfl⟩
      rw [← hq] at e3 ⊢
      clear ht h e1 e2 hq
      go_enter Try.func27, Try.ntmps27
      go_wp2_with fail
      go_ret2
      exact ⟨by first | rfl | simp [e3], rfl⟩

/-- What a round keeps: all below n₀, and the block Bn. -/
def KBt (n₀ Bn : Nat) (W W' : World) : Prop := Below n₀ W W' ∧ W'.heap[Bn]? = W.heap[Bn]?
theorem KBt.box {n₀ Bn : Nat} {W W' : World} (h : KBt n₀ Bn W W') : W'.cell? ⟨Bn, 0, none⟩ = W.cell? ⟨Bn, 0, none⟩ := by
  simp only [World.cell?, h.2]
theorem KBt.trans {n₀ Bn : Nat} {A B C : World} (h : KBt n₀ Bn A B) (k : KBt n₀ Bn B C) : KBt n₀ Bn A C := ⟨h.1.trans k.1, k.2.trans h.2⟩
/-- What stands between two rounds. -/
def RtSt (Bn b o n cap : Nat) (xs : List Nat) (W : World) : Prop :=
  W.cell? ⟨Bn, 0, none⟩ = some (.slice (some ⟨b, o, none⟩) n cap) ∧ ∀ i, i < n → W.cell? ⟨b, o + i, none⟩ = some (.int .u64 (xs.getD i 0 : Nat))
theorem RtSt.kept {n₀ Bn b o n cap : Nat} {xs : List Nat} {W W' : World} (h : RtSt Bn b o n cap xs W) (hk : KBt n₀ Bn W W') (hb : b < n₀) : RtSt Bn b o n cap xs W' :=
  ⟨hk.box.trans h.1, fun i hi => (hk.1.cell (p := ⟨b, o + i, none⟩) hb).trans (h.2 i hi)⟩
def ixs {n : Nat} (l : List (Fin n)) : List Nat := l.map (·.val)
theorem ixs_add {n : Nat} (l : List (Fin n)) (x : Fin n) : ixs (l ++ [x]) = ixs l ++ [x.val] := by simp [ixs]
theorem ixs_len {n : Nat} (l : List (Fin n)) : (ixs l).length = l.length := by simp [ixs]
/-- What is handed out for an index. -/
def rtEnc (xs : List Nat) (n : Nat) (x : Fin n) : Array Value := #[.int .i64 ((x.val : Nat) : Int), .int .u64 ((rtMax xs (x.val + 1) : Nat) : Int)]
theorem rtMax_word {xs : List Nat} (h : ∀ i, xs.getD i 0 < 18446744073709551616) : ∀ k, rtMax xs k < 18446744073709551616
  | 0 => by show 0 < _; decide
  | k + 1 => by
    have h1 := rtMax_word h k
    have h2 := h k
    show max _ _ < _
    omega
theorem rt_pos (k : Nat) : decide ((0 : Int) < (k : Int)) = decide (0 < k) := by
  by_cases h : 0 < k
  · rw [decide_eq_true h, decide_eq_true (by omega)]
  · rw [decide_eq_false h, decide_eq_false (by omega)]

end Go.Proofs.Ytdeehkhdmohalaa
