/-
  The iterator of bitrow over the bits that are set; List, First, Count.
-/
import Derived.Test.YtdpncnplbkmgoaaDoorBr7
import Derived.Laws.BitsAllLaws
import Derived.RangeFuncNested
import Derived.RangeFuncBound
import Derived.RangeFuncCalls
import Derived.RangeFuncLeaves
import Derived.RangeFuncBox
import Derived.Shelf.Abstract
import Derived.Shelf.RegionOpen
import Derived.WalkKit
import Derived.OwnWalkIn
import Derived.TacticsInMore
import Derived.LoopNIn
import Derived.LoopIn
import Derived.Maps.AppendAt
namespace Go.Proofs.YtdpncnplbkmgoaaDoor
open Go.RowKit Go.Shelf
set_option linter.unusedVariables false
attribute [local go_sem] Oper.semAt_some

/-- What a round keeps: all below n₀, and the block Bn. -/
def KB (n₀ Bn : Nat) (W W' : World) : Prop := Below n₀ W W' ∧ W'.heap[Bn]? = W.heap[Bn]?
theorem KB.box {n₀ Bn : Nat} {W W' : World} (h : KB n₀ Bn W W') : W'.cell? ⟨Bn, 0, none⟩ = W.cell? ⟨Bn, 0, none⟩ := by
  simp only [World.cell?, h.2]
theorem KB.trans {n₀ Bn : Nat} {A B C : World} (h : KB n₀ Bn A B) (k : KB n₀ Bn B C) : KB n₀ Bn A C := ⟨h.1.trans k.1, k.2.trans h.2⟩
theorem Bru.kept {n₀ : Nat} {w w' : World} (h : Bru w) (hb : Below n₀ w w') (hg : 0 < n₀) : Bru w' := fun j hj => (hb.cell (p := ⟨0, j, none⟩) hg).trans (h j hj)
/-- What stands between two rounds. -/
def BrSt (n₀ Bn b o n cap : Nat) (xs : List Nat) (W : World) : Prop :=
  W.cell? ⟨Bn, 0, none⟩ = some (.slice (some ⟨b, o, none⟩) n cap) ∧ (∀ i, i < n → W.cell? ⟨b, o + i, none⟩ = some (.int .u64 (xs.getD i 0 : Nat))) ∧ Bru W
theorem BrSt.kept {n₀ Bn b o n cap : Nat} {xs : List Nat} {W W' : World} (h : BrSt n₀ Bn b o n cap xs W) (hk : KB n₀ Bn W W') (hb : b < n₀) (hg : 0 < n₀) : BrSt n₀ Bn b o n cap xs W' :=
  ⟨hk.box.trans h.1, fun i hi => (hk.1.cell (p := ⟨b, o + i, none⟩) hb).trans (h.2.1 i hi), h.2.2.kept hk.1 hg⟩

theorem upTo_next {xs : List Nat} {k c t : Nat} (hct : c ≤ t) (ht : t < 64) (hb : (xs.getD k 0).testBit t = true) (hz : ∀ j, c ≤ j → j < t → (xs.getD k 0).testBit j = false) :
    upTo xs (64 * k + (t + 1)) = upTo xs (64 * k + c) ++ [64 * k + t] := by
  have h1 : upTo xs (64 * k + t) = upTo xs (64 * k + c) := upTo_skip' (by omega) fun q h1 h2 => by
    have := tb_word xs k (q - 64 * k) (by omega)
    rw [show 64 * k + (q - 64 * k) = q from by omega] at this
    rw [this]
    exact hz _ (by omega) (by omega)
  rw [← Nat.add_assoc, upTo_set (by rw [tb_word xs k t ht]; exact hb), h1]
theorem upTo_word {xs : List Nat} {k c : Nat} (hc : c ≤ 64) (hz : ∀ j, c ≤ j → (xs.getD k 0).testBit j = false) : upTo xs (64 * (k + 1)) = upTo xs (64 * k + c) :=
  upTo_skip' (by omega) fun q h1 h2 => by
    have := tb_word xs k (q - 64 * k) (by omega)
    rw [show 64 * k + (q - 64 * k) = q from by omega] at this
    rw [this]
    exact hz _ (by omega)
theorem sub1_and (x y : Nat) (hx : x < 18446744073709551616) (h0 : x ≠ 0) (hy : x &&& (x - 1) = y) : bits .and .u64 (x : Int) (IntKind.u64.wrap ((x : Int) - 1)) = (y : Int) := by
  have e : IntKind.u64.wrap ((x : Int) - 1) = ((x - 1 : Nat) : Int) := by rw [IntKind.wrap_u64]; omega
  rw [e]
  exact and_u64 x (x - 1) y hx (by omega) hy
theorem ne_zero64 {x : Nat} (h : x ≠ 0) : ((x : Int) == 0) = false := by rw [beq_eq_false_iff_ne]; omega
theorem tz64_is (x t : Nat) (w : World) (hx : x < 18446744073709551616) (h0 : x ≠ 0) (ht : Lib.ctz 64 x = t) (hT : Bru w) :
    Calls Tryd.prog 44 #[.int .u64 x] w fun e w' => e = .returned (.int .i64 (t : Nat)) ∧ w = w' := by
  subst ht
  exact tz64_any x w hx h0 hT

set_option maxRecDepth 10000 in
set_option maxHeartbeats 1600000 in
theorem ones1_in (l Bn n₀ b o n cap : Nat) (xs : List Nat) (hw : ∀ i, xs.getD i 0 < 18446744073709551616) (hn : n ≤ 1048576) (hb : b < n₀) (hg : 0 < n₀) (J Jx : List Nat → World → Prop)
    (hY : ∀ pre x W, J pre W → pre.length < 64 * n → YieldAt Fence.wide 3 Tryd.prog l #[.int .i64 ((x : Nat) : Int)] W fun e W' =>
      (e = .returned (.bool true) ∧ J (pre ++ [x]) W' ∧ KB n₀ Bn W W') ∨ (e = .returned (.bool false) ∧ Jx (pre ++ [x]) W'))
    (W : World) (hS : BrSt n₀ Bn b o n cap xs W) (h0 : J [] W) :
    CallsIn Fence.wide 4 Tryd.prog 43 #[.func (.yield l) #[] #[], .pointer (some ⟨Bn, 0, none⟩)] W fun e W' => (∃ v, e = .returned v) ∧
      ((∃ ys, ys = upTo xs (64 * n) ∧ J ys W') ∨ (∃ pre, (∃ p, p ≤ 64 * n ∧ pre = upTo xs p) ∧ Jx pre W')) := by
  refine callsIn_of_wp Tryd.func43 rfl trivial ?_ rfl
  simp only [Tryd.ntmps43, List.size_toArray, List.length_cons, List.length_nil, Nat.reduceAdd, Nat.reduceSub, Array.replicate_succ, Array.replicate_zero, List.push_toArray, List.append_toArray, List.nil_append, List.cons_append]
  have hB := hS.1
  have HS := Lib.hid hS
  clear hS
  gi_wp2
  clear hB
  gi_loopw [7] (fun i wr => ∃ k : Nat, k ≤ n ∧ i = .int .i64 (k : Int) ∧ J (upTo xs (64 * k)) wr ∧ BrSt n₀ Bn b o n cap xs wr)
    (fun i wr => n - (intOf i).toNat)
  case atStart => exact ⟨0, Nat.zero_le _, rfl, h0, HS.out⟩
  case round =>
    clear HS h0
    obtain ⟨k, hk, rfl, hJ, hS⟩ := hrel
    have HS := Lib.hid hS
    clear hS
    by_cases hlt : k < n
    · have hx := HS.out.2.1 k hlt
      have hx0 := hw k
      obtain ⟨x0, hxe⟩ : ∃ x, x = xs.getD k 0 := ⟨_, rfl⟩
      rw [← hxe] at hx hx0
      have HX := Lib.hid hxe
      clear hxe
      gi_wp2
      clear hx
      gi_loopw [4] (fun v wr => ∃ x c : Nat, Rem x0 c x ∧ c ≤ 64 ∧ v = .int .u64 (x : Int) ∧ J (upTo xs (64 * k + c)) wr ∧ BrSt n₀ Bn b o n cap xs wr)
        (fun v wr => (intOf v).toNat)
      case atStart => exact ⟨x0, 0, Rem.start hx0, by omega, rfl, hJ, HS.out⟩
      case round =>
        clear HS hJ
        obtain ⟨x, c, hR, hc, rfl, hJ, hS⟩ := hrel
        have HS := Lib.hid hS
        have HR := Lib.hid hR
        clear hS hR
        by_cases hz : x = 0
        · subst hz
          have hu := upTo_word (xs := xs) (k := k) hc (by rw [← HX.out]; exact HR.out.none)
          rw [← hu] at hJ
          have HJ := Lib.hid hJ
          clear hJ hu
          clear HR hc hw
          gi_wp2
          go_roundw
          case rel => exact ⟨k + 1, hlt, by go_num, HJ.out, HS.out⟩
          case measure => simp [intOf]; omega
        · have hxl := HR.out.1
          obtain ⟨t, ht, ht64, hct, hbit, hzero, hrem, hless⟩ := HR.out.step hz
          obtain ⟨y, hy⟩ : ∃ y, x &&& (x - 1) = y := ⟨_, rfl⟩
          rw [hy] at hrem hless
          have hsub := sub1_and x y hxl hz hy
          have hu := upTo_next (xs := xs) (k := k) hct ht64 (by rw [← HX.out]; exact hbit) (by rw [← HX.out]; exact hzero)
          have C := Lib.hid (fun w => tz64_is x t w hxl hz ht)
          obtain ⟨p, hp⟩ : ∃ p, p = 64 * k + t := ⟨_, rfl⟩
          rw [← hp] at hu
          have hkt : (64 : Int) * (k : Int) + (t : Int) = (p : Int) := by omega
          obtain ⟨fn, tmps, assign, body, hy2, hR2⟩ := hY (upTo xs (64 * k + c)) p wr hJ (by have := upTo_length xs (64 * k + c); omega)
          have hne := ne_zero64 hz
          have HU := Lib.hid hu
          have HM := Lib.hid hrem
          have HL := Lib.hid hless
          have HT := Lib.hid ht64
          clear hp hu hrem hless hbit hzero ht hy hJ hct hxl hx0 hw hz hc
          have t64 : (t : Int) ≤ 63 := by have := HT.out; omega
          clear ht64
          gi_wp2_with (refine ⟨trivial, ?_⟩; gi_at_call 44; refine (callsIn_wide.2 (C.out _ HS.out.2.2)).mono ?_; rintro e w' ⟨rfl, rfl⟩)
          refine hR2.mono ?_
          rintro e W3 (⟨rfl, hJ3, hk3⟩ | ⟨rfl, hJx3⟩)
          · gi_wp2
            go_roundw
            case rel => exact ⟨y, t + 1, HM.out, by have := HT.out; exact (by omega : t + 1 ≤ 64), by go_num, by rw [HU.out]; exact hJ3, HS.out.kept hk3 hb hg⟩
            case measure => simp [intOf]; exact HL.out
          · gi_wp2
            refine bodyPost_ret (results_none rfl _ _ _) rfl ?_
            exact ⟨⟨_, rfl⟩, .inr ⟨_, ⟨64 * k + (t + 1), by have := HT.out; exact (by omega : 64 * k + (t + 1) ≤ 64 * n), rfl⟩, by rw [HU.out]; exact hJx3⟩⟩
    · obtain rfl : k = n := by omega
      clear hk hlt
      gi_wp2
      go_end0
      exact ⟨⟨_, rfl⟩, .inl ⟨_, rfl, hJ⟩⟩

theorem ones1_none_in (l Bn cap : Nat) (A : Option Addr) (J : List Nat → World → Prop) (W : World) (hBn : W.cell? ⟨Bn, 0, none⟩ = some (.slice A 0 cap)) (h0 : J [] W) :
    CallsIn Fence.wide 4 Tryd.prog 43 #[.func (.yield l) #[] #[], .pointer (some ⟨Bn, 0, none⟩)] W fun e W' => (∃ v, e = .returned v) ∧ J [] W' := by
  refine callsIn_of_wp Tryd.func43 rfl trivial ?_ rfl
  simp only [Tryd.ntmps43, List.size_toArray, List.length_cons, List.length_nil, Nat.reduceAdd, Nat.reduceSub, Array.replicate_succ, Array.replicate_zero, List.push_toArray, List.append_toArray, List.nil_append, List.cons_append]
  gi_wp2
  gi_loopw [7] (fun i wr => i = .int .i64 0 ∧ J [] wr ∧ wr.cell? ⟨Bn, 0, none⟩ = some (.slice A 0 cap)) (fun _ _ => 0)
  case atStart => exact ⟨rfl, h0, hBn⟩
  case round =>
    obtain ⟨rfl, hJs, hB⟩ := hrel
    gi_wp2
    go_end0
    exact ⟨⟨_, rfl⟩, hJs⟩
/-- The maker: the row is boxed; the function value captures the box. -/
theorem ones_in (A : Option Addr) (n cap : Nat) (w : World) :
    CallsIn Fence.wide 4 Tryd.prog 35 #[.slice A n cap] w fun e w' => e = .returned (.func (.func 43) #[] #[.pointer (some ⟨w.heap.size, 0, none⟩)]) ∧ w' = w.alloc (.cells #[.slice A n cap] 22) := by
  refine callsIn_of_wp Tryd.func35 rfl trivial ?_ rfl
  simp only [Tryd.ntmps35, List.size_toArray, List.length_cons, List.length_nil, Nat.reduceAdd, Nat.reduceSub, Array.replicate_succ, Array.replicate_zero, List.push_toArray, List.append_toArray, List.nil_append, List.cons_append]
  gi_wp2
  go_ret
  exact ⟨rfl, rfl⟩
theorem Bru.glob {w : World} (h : Bru w) : 0 < w.heap.size := cell_lt (h 0 (by decide))
/-- All bits in their order, or the first ones. -/
theorem ones_stops (Bn n₀ : Nat) (A : Option Addr) (n cap : Nat) (xs : List Nat) (hn : n ≤ 1048576) (w : World) (hBn : Bn < w.heap.size) (hn₀ : n₀ ≤ w.heap.size) (hg : 0 < n₀) (hT : Bru w)
    (hc : w.cell? ⟨Bn, 0, none⟩ = some (.slice A n cap)) (hA : RowU w A n xs) (hlt : ∀ b o, A = some ⟨b, o, none⟩ → 0 < n → b < n₀) :
    SeqStopsK Fence.wide 4 Tryd.prog 43 #[.pointer (some ⟨Bn, 0, none⟩)] (fun x : Nat => #[Value.int .i64 (x : Int)]) (KB n₀ Bn) (fun ys => ys = upTo xs (64 * n)) (fun pre => ∃ p, p ≤ 64 * n ∧ pre = upTo xs p) (64 * n) w := fun l J Jx W hW _ _ hY h0 => by
  have hc' : W.cell? ⟨Bn, 0, none⟩ = some (.slice A n cap) := (hW.cell (p := ⟨Bn, 0, none⟩) hBn).trans hc
  rcases Nat.eq_zero_or_pos n with h | h
  · subst h
    exact (ones1_none_in l Bn cap A J W hc' h0).mono fun e W' ⟨he, hj⟩ => ⟨he, .inl ⟨_, rfl, hj⟩⟩
  · obtain ⟨b, o, rfl, hb, hcs⟩ := hA.addr h
    have hb2 := hlt b o rfl h
    exact ones1_in l Bn n₀ b o n cap xs hA.word hn hb2 hg J Jx hY W ⟨hc', fun i hi => (hW.cell (p := ⟨b, o + i, none⟩) (by show b < w.heap.size; omega)).trans (hcs i hi), hT.below hW⟩ h0
end Go.Proofs.YtdpncnplbkmgoaaDoor
