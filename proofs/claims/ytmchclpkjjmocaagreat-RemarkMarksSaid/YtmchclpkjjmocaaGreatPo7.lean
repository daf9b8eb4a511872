/-
  slices.Clone, slices.Grow of nil, slices.Concat: bytes, in new memory.
-/
import Derived.Test.YtmchclpkjjmocaaGreatApp
import Derived.Test.YtmchclpkjjmocaaGreatJoin
import Derived.Lib.AppendZeros
import Derived.Lib.SliceRun
import Derived.Deep.Cut
namespace Go.Proofs.YtmchclpkjjmocaaGreat
open Go.RowKit
set_option linter.unusedVariables false
set_option maxRecDepth 8000

theorem bytes_nil_eq (w : World) (a : Option Addr) (n c n' c' : Nat) : (binOp .eql 22 (.slice a n c) (.slice none n' c')).run Tryz.prog w = .ok (.bool a.isNone) w := Lib.run_eql_slice_nil w _ _ a n c n' c' Tryz.underlying22
set_option maxHeartbeats 1600000 in
theorem grow_nil (n : Nat) (w : World) (h0 : 0 < n) (hn : n ≤ 140737488355328) :
    Calls Tryz.prog 49 #[.slice none 0 0, .int .i64 n] w fun e w' => ∃ v, e = .returned v ∧ OutIs w.heap.size w' v [] ∧ Below w.heap.size w w' := by
  obtain ⟨i0, hi, hz0, hz1, hz2⟩ := u8_parts
  have happ := Lib.run_append_nil_zeros (P := Tryz.prog) w 22 3 22 5 i0 (.int .u8 0) .i64 .i64 Tryz.underlying22 Tryz.underlying3 hi hz0 n h0 (by omega) (by omega) (by rw [hz2]; omega)
  obtain ⟨cap, hcap⟩ : ∃ c, c = grownCap w n 0 5 := ⟨_, rfl⟩
  rw [← hcap] at happ
  have hge : n ≤ cap := by rw [hcap]; exact grownCap_ge w _ 0 _
  have hle : cap ≤ maxLen := by rw [hcap]; exact grownCap_le_maxLen w _ 0 _ (by unfold maxLen; omega)
  obtain ⟨Z, hZ⟩ : ∃ Z, Z = (Builtin.zeroCells (Value.int .u8 0).cells n ++ Builtin.zeroCells (Value.int .u8 0).cells (cap - n)) := ⟨_, rfl⟩
  rw [← hZ] at happ
  have hZs : Z.size = cap := by rw [hZ]; simp [size_zeroCells, Value.cells]; omega
  have HP := Lib.hid (And.intro hle hZs)
  have nI : (0 : Int) < (n : Int) := by omega
  have hw : wrap64 (n : Int) = (n : Int) := by unfold wrap64; omega
  have ci : (0 : Int) ≤ (cap : Int) := by omega
  clear hcap hZ hi hz0 hz1 hz2 hge hle hZs h0 hn
  go_enter Tryz.func49, Tryz.ntmps49
  go_upto_region 5 with fail
  simp only [hw]
  clear hw
  go_wp2_with (at_builtin; refine Lib.wpList_append_run _ rfl _ _ _ _ rfl _ _ rfl rfl _ _ happ ?_)
  go_ret
  exact ⟨_, rfl, ⟨rfl, .inr ⟨w.heap.size, cap, Z, rfl, Nat.le_refl _, heap_alloc_new _ _, Nat.zero_le _, HP.out.1, by simp [HP.out.2], by simp [bcells]⟩⟩, ((Below.refl _ _).alloc (Nat.le_refl _) _).drew⟩
theorem concat_ints {a b s n : Nat} (hs : s = a + b) (hl : s ≤ 140737488355328) : wrap64 ((a : Int) + (b : Int)) = (s : Int) ∧ ¬ (s : Int) < 0 := ⟨by unfold wrap64; omega, by omega⟩
set_option maxHeartbeats 1600000 in
theorem concat_any (g : Nat) (c : Nat) (ps : List Piece) (w : World) (hN : ps.length ≤ 1000) (hT : (flat ps).length ≤ 140737488355328) (h0 : 0 < (flat ps).length) (hp : Pieces w g ps) (N : Nat) (hlen : Hid (ps.length = N)) :
    Calls Tryz.prog 31 #[.slice (some ⟨g, 0, none⟩) N c] w fun e w' => ∃ v, e = .returned v ∧ OutIs w.heap.size w' v (flat ps) ∧ Below w.heap.size w w' := by
  have hN' : (N : Int) ≤ 1000 := by rw [← hlen.out]; omega
  have HT := Lib.hid (And.intro hT h0)
  have HP := Lib.hid hp
  clear hT hp hN h0
  go_enter Tryz.func31, Tryz.ntmps31
  go_wp2_with fail
  go_loopw [3, 11] (fun s i W => ∃ k : Nat, k ≤ N ∧ i = .int .i64 (k : Nat) ∧ s = .int .i64 ((flat (ps.take k)).length : Nat) ∧ W = w) (fun _ i _ => N - (intOf i).toNat)
  case atStart => exact ⟨0, Nat.zero_le _, rfl, rfl, rfl⟩
  case round =>
    obtain ⟨k, hk, rfl, rfl, hw⟩ := hrel
    rw [hw]
    clear hw
    by_cases hlt : k < N
    · obtain ⟨p, hpk, hcell, hrow, hpn⟩ := HP.out k (by rw [hlen.out]; exact hlt)
      obtain ⟨a, n, cp, bs⟩ := p
      simp only [Piece.val] at hcell hrow hpn
      have HS := flat_succ hpk
      have HL := flat_le hpk
      have hbl := hrow.1
      obtain ⟨q, hq⟩ : ∃ q, q = (flat (ps.take k)).length := ⟨_, rfl⟩
      obtain ⟨s, hs⟩ : ∃ s, s = (flat (ps.take (k + 1))).length := ⟨_, rfl⟩
      have e : s = q + n := by rw [hs, HS, List.length_append, hq]; simp only; rw [hbl]
      obtain ⟨i1, i2⟩ := concat_ints (n := n) e (by have := HT.out.1; simp only at HL; rw [e, hq, ← hbl]; omega)
      have HSS := Lib.hid hs
      have kI : (k : Int) < (N : Int) := Int.ofNat_lt.2 hlt
      have HK := Lib.hid hlt
      rw [← hq]
      clear hpk hrow HS HL hbl hq hs e hlt hk hpn
      go_upto_region 6 with fail
      rw [i1]
      clear i1
      go_wp2_with fail
      go_roundw
      case rel => exact ⟨k + 1, HK.out, by go_num, by rw [HSS.out], by trivial⟩
      case measure => simp [intOf]; have := HK.out; omega
    · have hk' : k = N := by omega
      subst hk'
      have e : flat (ps.take k) = flat ps := by rw [List.take_of_length_le (by rw [hlen.out]; exact Nat.le_refl _)]
      rw [e]
      obtain ⟨T, hTT⟩ : ∃ T, T = (flat ps).length := ⟨_, rfl⟩
      have HG := Lib.hid (grow_nil T w (by rw [hTT]; exact HT.out.2) (by rw [hTT]; exact Nat.le_trans HT.out.1 (by decide)))
      rw [← hTT]
      clear hTT e hlt hk
      go_wp2_with fail
      refine HG.out.mono ?_
      rintro e w1 ⟨v1, rfl, o1, b1⟩
      have O1 := Lib.hid o1
      have B1 := Lib.hid b1
      clear o1 b1 HG
      go_wp2_with fail
      go_loopw [6, 27] (fun v i W => ∃ j : Nat, j ≤ k ∧ i = .int .i64 (j : Nat) ∧ OutIs w.heap.size W v (flat (ps.take j)) ∧ Below w.heap.size w W) (fun _ i _ => k - (intOf i).toNat)
      case atStart => exact ⟨0, Nat.zero_le _, rfl, O1.out, B1.out⟩
      case round =>
        obtain ⟨j, hj, rfl, hown, hb⟩ := hrel
        have HO := Lib.hid hown
        have HB := Lib.hid hb
        by_cases hlt : j < k
        · obtain ⟨p, hpk, hcell, hrow, hpn⟩ := (HP.out.below hb) j (by rw [hlen.out]; exact hlt)
          obtain ⟨a, n, cp, bs⟩ := p
          simp only [Piece.val] at hcell hrow hpn
          have HS := Lib.hid (flat_succ hpk)
          have HL := flat_le hpk
          have HR := Lib.hid hrow
          have HLN : Hid ((flat (ps.take j)).length + n ≤ 140737488355328) := by show _ ≤ _; have h1 := HT.out.1; have h2 := hrow.1; simp only at HL; omega
          have kI : (j : Int) < (k : Int) := Int.ofNat_lt.2 hlt
          have HK := Lib.hid hlt
          clear hpk hrow HL hlt hj hpn hown hb
          go_wp2_with (at_builtin; refine wpList_append_row_any (B := w.heap.size) (W := w) rfl (.tmp 31) (.tmp 32) rfl rfl rfl rfl HO.out HR.out HB.out HB.out.size HLN.out ?_; intro v6 w6 ho6 hb6; have O6 := Lib.hid ho6; have B6 := Lib.hid hb6; clear ho6 hb6)
          go_roundw
          case rel => exact ⟨j + 1, HK.out, by go_num, by rw [HS.out]; exact O6.out, B6.out⟩
          case measure => simp [intOf]; have := HK.out; omega
        · have hk' : j = k := by omega
          subst hk'
          have hown3 : Hid (OutIs w.heap.size wr u6 (flat ps)) := by rw [List.take_of_length_le (by rw [hlen.out]; exact Nat.le_refl _)] at hown; exact hown
          clear hlt hj hown hb
          go_wp2_with fail
          go_ret
          exact ⟨_, rfl, hown3.out, HB.out⟩
end Go.Proofs.YtmchclpkjjmocaaGreat
