/-
  The document's functions of layer 25, and 'Same', 'SameInts' over equal rows of any length.
-/
import Derived.Test.YtemgnaalmgkfiaaRt3
namespace Go.Proofs.Ytemgnaalmgkfiaa
open Go.RowKit
set_option linter.unusedVariables false

theorem rt_kwrap {k n : Nat} (h : k < n) (hn : (n : Int) ≤ 17592186043904) : IntKind.i64.wrap (k : Int) = (k : Int) := by rw [IntKind.wrap_i64]; omega
/-- The first k of the greatest times. -/
def rtTo (xs : List Nat) (k : Nat) : List Nat := (List.range k).map fun i => rtMax xs (i + 1)
theorem rtTo_next (xs : List Nat) (k : Nat) : rtTo xs (k + 1) = rtTo xs k ++ [rtMax xs (k + 1)] := by
  unfold rtTo
  rw [List.range_succ, List.map_append]
  rfl
theorem rtTo_len (xs : List Nat) (k : Nat) : (rtTo xs k).length = k := by simp [rtTo]
theorem rtTo_all {xs : List Nat} {n : Nat} (h : xs.length = n) : rtTo xs n = rtRun xs := by unfold rtTo rtRun; rw [h]
theorem rt_max {xs : List Nat} {k x m y : Nat} (hx : x = xs.getD k 0) (hm : m = rtMax xs k) (hy : y = rtMax xs (k + 1)) : (if m < x then (x : Int) else (m : Int)) = (y : Int) := by
  have e : y = max m x := by rw [hy, hm, hx]; rfl
  split <;> omega
theorem rt_next {k : Nat} (h : (k : Int) ≤ 17592186043904) : wrap64 ((k : Int) + 1) = ((k + 1 : Nat) : Int) := by unfold wrap64; omega

set_option maxHeartbeats 800000 in
theorem rrtrun_any (A : Option Addr) (n cap : Nat) (xs : List Nat) (w : World) (hn : n ≤ 1000) (hA : RowU w A n xs) :
    Calls Try.prog 34 #[.slice A n cap] w fun e w' => ∃ v, e = .returned v ∧ OutU w.heap.size w' v (rtRun xs) ∧ Below w.heap.size w w' := by
  have hlen := hA.len
  rw [← rtTo_all hlen]
  have HA := Lib.hid hA
  clear hA hlen
  go_enter Try.func34, Try.ntmps34
  go_wp2_with fail
  go_loopw [3, 4] (fun v i wr => ∃ k : Nat, k ≤ n ∧ i = .int .i64 (k : Int) ∧ OutU w.heap.size wr v (rtTo xs k) ∧ Below w.heap.size w wr) (fun _ i _ => n - (intOf i).toNat)
  case atStart => exact ⟨0, Nat.zero_le _, rfl, OutU.nil _ _, Below.refl _ _⟩
  case round =>
    obtain ⟨k, hk, rfl, ho, hb⟩ := hrel
    have HO := Lib.hid ho
    have HB := Lib.hid hb
    clear ho hb
    by_cases hlt : k < n
    · obtain ⟨W0, hW0⟩ : ∃ W, W = wr := ⟨_, rfl⟩
      rw [← hW0] at HO HB ⊢
      have HLT := Lib.hid hlt
      obtain ⟨b, oo, rfl, hl, hc⟩ := HA.out.addr (by omega)
      have HC := Lib.hid hc
      have HL : Hid (b < w.heap.size) := hl
      clear hc hl hW0
      go_wp2_with fail
      go_loopw [5, 6] (fun m j wr => wr = W0 ∧ ∃ t : Nat, t ≤ k + 1 ∧ j = .int .i64 (t : Int) ∧ ∃ z : Nat, Hid (z = rtMax xs t) ∧ m = .int .u64 (z : Int)) (fun _ j _ => k + 1 - (intOf j).toNat)
      case atStart => exact ⟨rfl, 0, Nat.zero_le _, rfl, 0, rfl, rfl⟩
      case round =>
        obtain ⟨rfl, t, ht, rfl, z, hz, rfl⟩ := hrel
        by_cases hlt2 : t ≤ k
        · have hx := (HB.out.cell (p := ⟨b, oo + t, none⟩) HL.out).trans (HC.out t (by omega))
          obtain ⟨x, hxe⟩ : ∃ x, x = xs.getD t 0 := ⟨_, rfl⟩
          rw [← hxe] at hx
          obtain ⟨y, hy⟩ : ∃ y, y = rtMax xs (t + 1) := ⟨_, rfl⟩
          have HM := Lib.hid (rt_max hxe hz.out hy)
          have HY := Lib.hid hy
          have hti : (t : Int) ≤ (k : Int) := by omega
          have htn : (t : Int) < (n : Int) := by omega
          have HT := Lib.hid hlt2
          clear hxe hy hz
          go_wp2_with fail
          go_roundw
          case rel => exact ⟨trivial, t + 1, by have := HT.out; omega, by go_num, y, HY.out, by rw [HM.out]⟩
          case measure => simp [intOf]; omega
        · obtain rfl : t = k + 1 := by omega
          have hti : ¬ ((k + 1 : Nat) : Int) ≤ (k : Int) := by omega
          have hll : Hid ((rtTo xs k).length + 1 ≤ 1048576) := (by rw [rtTo_len]; omega : (rtTo xs k).length + 1 ≤ 1048576)
          have HS := Lib.hid (rtTo_next xs k)
          rw [← hz.out] at HS
          clear ht hlt2 hz
          go_wp2_with (first | (at_builtin; refine wpList_appendU (by rfl) (.tmp 24) (.tmp 26) (by rfl) (news := [z]) _ 1 (by rfl) (by rfl) (by rfl) (by rfl) HO.out HB.out HB.out.size hll.out ?_; intro v' w' ho' hb') | fail)
          go_roundw
          case rel => exact ⟨k + 1, HLT.out, by go_num, by rw [HS.out]; exact ho', hb'⟩
          case measure => simp [intOf]; omega
    · obtain rfl : k = n := by omega
      clear hk hlt
      go_wp2_with fail
      go_ret
      exact ⟨_, rfl, HO.out, HB.out⟩

/-- The indices below k that are behind. -/
def bkTo (xs : List Nat) (k : Nat) : List Nat := (List.range k).filter fun i => decide (xs.getD i 0 < rtMax xs (i + 1))
theorem bkTo_yes {xs : List Nat} {k x y : Nat} (hx : x = xs.getD k 0) (hy : y = rtMax xs (k + 1)) (h : x < y) : bkTo xs (k + 1) = bkTo xs k ++ [k] := by
  subst hx hy
  unfold bkTo
  rw [List.range_succ, List.filter_append, List.filter_cons_of_pos (by exact decide_eq_true h)]
  rfl
theorem bkTo_no {xs : List Nat} {k x y : Nat} (hx : x = xs.getD k 0) (hy : y = rtMax xs (k + 1)) (h : ¬ x < y) : bkTo xs (k + 1) = bkTo xs k := by
  subst hx hy
  unfold bkTo
  rw [List.range_succ, List.filter_append, List.filter_cons_of_neg (by simpa using h)]
  simp
theorem bkTo_len (xs : List Nat) (k : Nat) : (bkTo xs k).length ≤ k := by
  have := List.length_filter_le (fun i => decide (xs.getD i 0 < rtMax xs (i + 1))) (List.range k)
  rw [List.length_range] at this
  exact this
theorem bkTo_all {xs : List Nat} {n : Nat} (h : xs.length = n) : bkTo xs n = rtBack xs := by unfold bkTo rtBack; rw [h]
theorem rtRun_word {xs : List Nat} (h : ∀ i, xs.getD i 0 < 18446744073709551616) : ∀ x ∈ rtRun xs, x < 18446744073709551616 := by
  intro x hx
  simp only [rtRun, List.mem_map] at hx
  obtain ⟨i, _, rfl⟩ := hx
  exact rtMax_word h _
theorem rtBack_bound {xs : List Nat} {n : Nat} (hl : xs.length = n) (hn : (n : Int) ≤ 17592186043904) : ∀ x ∈ rtBack xs, x < 9223372036854775808 := by
  intro x hx
  have := List.mem_range.1 (List.mem_filter.1 hx).1
  omega

end Go.Proofs.Ytemgnaalmgkfiaa
