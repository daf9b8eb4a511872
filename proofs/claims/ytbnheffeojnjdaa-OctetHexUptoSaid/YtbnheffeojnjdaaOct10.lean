/-
  Contracts of the document's Hex and Unhex.
-/
import Derived.Test.YtbnheffeojnjdaaOct8
import Derived.Test.YtbnheffeojnjdaaOct9
import Derived.Test.YtbnheffeojnjdaaAgree1
namespace Go.Proofs.Ytbnheffeojnjdaa
open Go.RowKit
set_option linter.unusedVariables false
attribute [local go_sem ↓] Go.wp_at_zero Go.wp_at_succ

set_option maxHeartbeats 800000 in
theorem rhex_ok (A : Option Addr) (n cap : Nat) (bs : List Nat) (w : World) (hn : 2 * n ≤ 140737488355328) (hA : Row w A n bs) :
    Calls Try.prog 28 #[.slice A n cap] w fun e w' => e = .returned (.string (str (hexs bs))) ∧ Below w.heap.size w w' := by
  have HR := Lib.hid hA
  have HLB := Lib.hid hA.1
  clear hA
  go_enter Try.func28, Try.ntmps28
  go_wp2
  go_loopw [3, 4] (fun v i wr => ∃ k : Nat, k ≤ n ∧ i = .int .i64 k ∧ OutIs w.heap.size wr v (hexs (bs.take k)) ∧ Below w.heap.size w wr) (fun _ i _ => n - (intOf i).toNat)
  case atStart => exact ⟨0, Nat.zero_le _, rfl, OutIs.nil _ _, Below.refl _ _⟩
  case round =>
    obtain ⟨k, hk, rfl, ho, hb⟩ := hrel
    by_cases hlt : k < n
    · obtain ⟨b, o, rfl, hbw, hcw⟩ := HR.out.addr (by omega)
      have hcx := (hb.cell (p := ⟨b, o + k, none⟩) hbw).trans (hcw k hlt)
      have hcy := Lib.hid (hcw k hlt)
      have hx := HR.out.byte k
      have hst := hexs_snoc (bs.take k) (bs.getD k 0)
      rw [← take_succ_getD bs k (by rw [HLB.out]; exact hlt)] at hst
      have hlen := hexs_length (bs.take k)
      rw [List.length_take] at hlen
      have hlen2 : (hexs (bs.take k)).length + 2 ≤ 140737488355328 := by omega
      generalize bs.getD k 0 = x at *
      have hst := Lib.hid hst
      have HO := Lib.hid ho
      have HB := Lib.hid hb
      have HL := Lib.hid hlen2
      clear ho hb hlen hlen2 hcw
      have b0 : (0 : Int) ≤ (x : Int) / 16 := by omega
      have b1 : (x : Int) / 16 < 16 := by omega
      have b2 : (0 : Int) ≤ (x : Int) % 16 := by omega
      have b3 : (x : Int) % 16 < 16 := by omega
      have i0 : (0 : Int) ≤ (k : Int) := by omega
      have i1 : (k : Int) < (n : Int) := by omega
      have hq : IntKind.u8.wrap ((x : Int) / 16) = (x : Int) / 16 := IntWalk.u8_in _ ⟨by omega, by omega⟩
      have hr : (x : Int).tmod 16 = (x : Int) % 16 := IntWalk.rem_in _ _ (by omega)
      go_wp2_with fail
      go_region_held3 (fun w' => w'.cell? ⟨b, o + k, none⟩ = some (.int .u8 (x : Nat))) (first | go_keep | exact (hb'.cell (p := ⟨b, o + k, none⟩) hbw).trans hcy.out)
        ((refine step_append_bytes (by rfl) (.tmp 11) (.tmp 24) (by rfl) (news := [dg (x / 16), dg (x % 16)]) _ 2 (by rfl) (by rfl) (by exact heap_alloc_new wr _) (by exact hex_cells x _ _) (by rfl) (HO.out.alloc _) ((HB.out.alloc HB.out.size _).drew) (by simp; have := HB.out.size; omega) HL.out ?_; intro v' w' ho' hb'))
      all_goals
        go_wp2
        go_roundw
        case rel => exact ⟨k + 1, by omega, by go_num, by rw [hst.out]; exact ho', hb'⟩
        case measure => simp [intOf]; omega
    · have hk' : k = n := by omega
      subst hk'
      rw [List.take_of_length_le (by rw [HLB.out]; exact Nat.le_refl _)] at ho
      obtain ⟨A', c', rfl, hl1, hl2, hrow⟩ := ho.out (hexs_byte HR.out.2.1)
      have hconv := conv_str (c := c') hrow
      clear hrow ho
      go_wp2
      go_ret
      exact ⟨rfl, hb⟩

set_option maxHeartbeats 400000 in
theorem runhex_bad (s : ByteArray) (i : Nat) (w : World) (hs : s.size ≤ 9223372036854775807) (hi : i < s.size) (hd : Digits s i) (hb : hexv ((sb s).getD i 0) = none) :
    Calls Try.prog 30 #[.string s] w fun e w' => e = .returned (.tuple #[.slice none 0 0, .agg #[.int .i64 3, .int .i64 i]]) ∧ Below w.heap.size w w' := by
  have HD := Lib.hid hd
  have HB := Lib.hid (show hexv (s[i]'hi).toNat = none from by rw [sb_at s i hi]; exact hb)
  clear hd hb
  go_enter Try.func30, Try.ntmps30
  go_wp2
  go_loop [4] (fun j => ∃ k : Nat, k ≤ i ∧ j = .int .i64 k) (fun j => i + 1 - (intOf j).toNat)
  case atStart => exact ⟨0, Nat.zero_le _, rfl⟩
  case round =>
    obtain ⟨k, hk, rfl⟩ := hrel
    by_cases hlt : k < i
    · obtain ⟨v, _, hv⟩ := digits_at HD.out hlt (by omega)
      go_wp2_with (go_at_call 59; refine (digit_yes _ v _ hv).mono ?_; rintro e w' ⟨rfl, rfl⟩)
      go_round
      case rel => exact ⟨k + 1, by omega, by go_num⟩
      case measure => simp [intOf]; omega
    · obtain rfl : k = i := by omega
      go_wp2_with (go_at_call 59; refine (digit_no _ _ HB).mono ?_; rintro e w' ⟨rfl, rfl⟩)
      go_returns
      exact ⟨rfl, (Below.refl _ _).alloc (Nat.le_refl _) _⟩
set_option maxHeartbeats 400000 in
theorem runhex_cut (s : ByteArray) (w : World) (hs : s.size ≤ 9223372036854775807) (hp : 1 ≤ s.size % 2) (hd : Digits s s.size) :
    Calls Try.prog 30 #[.string s] w fun e w' => e = .returned (.tuple #[.slice none 0 0, .agg #[.int .i64 19, .int .i64 s.size]]) ∧ Below w.heap.size w w' := by
  have HD := Lib.hid hd
  clear hd
  go_enter Try.func30, Try.ntmps30
  go_wp2
  go_loop [4] (fun j => ∃ k : Nat, k ≤ s.size ∧ j = .int .i64 k) (fun j => s.size - (intOf j).toNat)
  case atStart => exact ⟨0, Nat.zero_le _, rfl⟩
  case round =>
    obtain ⟨k, hk, rfl⟩ := hrel
    by_cases hlt : k < s.size
    · obtain ⟨v, _, hv⟩ := digits_at HD.out hlt (by omega)
      go_wp2_with (go_at_call 59; refine (digit_yes _ v _ hv).mono ?_; rintro e w' ⟨rfl, rfl⟩)
      go_round
      case rel => exact ⟨k + 1, by omega, by go_num⟩
      case measure => simp [intOf]; omega
    · go_wp2
      go_returns
      exact ⟨rfl, (Below.refl _ _).alloc (Nat.le_refl _) _⟩

theorem unh_succ (L : List Nat) (m : Nat) : unh L (m + 1) = unh L m ++ [(hexv (L.getD (2 * m) 0)).getD 0 * 16 + (hexv (L.getD (2 * m + 1) 0)).getD 0] := by
  simp [unh, List.range_succ]

set_option maxHeartbeats 1600000 in
theorem runhex_ok (s : ByteArray) (w : World) (hs : s.size ≤ 140737488351232) (hp : s.size % 2 < 1) (hd : Digits s s.size) :
    Calls Try.prog 30 #[.string s] w fun e w' => ∃ v, e = .returned (.tuple #[v, .agg #[.int .i64 0, .int .i64 0]]) ∧ ByteVal w' v (unh (sb s) (s.size / 2)) ∧ Below w.heap.size w w' := by
  have HD := Lib.hid hd
  clear hd
  go_enter Try.func30, Try.ntmps30
  go_wp2
  go_loop [4] (fun j => ∃ k : Nat, k ≤ s.size ∧ j = .int .i64 k) (fun j => s.size - (intOf j).toNat)
  case atStart => exact ⟨0, Nat.zero_le _, rfl⟩
  case round =>
    obtain ⟨k, hk, rfl⟩ := hrel
    by_cases hlt : k < s.size
    · obtain ⟨v, _, hv⟩ := digits_at HD.out hlt (by omega)
      go_wp2_with (go_at_call 59; refine (digit_yes _ v _ hv).mono ?_; rintro e w' ⟨rfl, rfl⟩)
      go_round
      case rel => exact ⟨k + 1, by omega, by go_num⟩
      case measure => simp [intOf]; omega
    · go_wp2
      go_loopw [5, 6] (fun v j wr => ∃ m k : Nat, Hid (k = 2 * m) ∧ k ≤ s.size ∧ j = .int .i64 k ∧ OutIs (w.heap.size + 1) wr v (unh (sb s) m) ∧ Below (w.heap.size + 1) (w.alloc (.cells #[.int .i64 0, .int .i64 0] 42)) wr) (fun _ j _ => s.size - (intOf j).toNat)
      case atStart => exact ⟨0, 0, rfl, Nat.zero_le _, rfl, OutIs.nil _ _, Below.refl _ _⟩
      case round =>
        clear hk hlt
        obtain ⟨m, k, hkm, hk, rfl, ho, hb⟩ := hrel
        by_cases hlt : k < s.size
        · have hk1 : k + 1 < s.size := by have := hkm.out; omega
          obtain ⟨v1, hb1, hv1⟩ := digits_at HD.out (k := k) (by omega) (by omega)
          obtain ⟨v2, hb2, hv2⟩ := digits_at HD.out (k := k + 1) (by omega) (by omega)
          have hst : unh (sb s) (m + 1) = unh (sb s) m ++ [v1 * 16 + v2] := by
            have e1 := hv1.out
            have e2 := hv2.out
            rw [sb_at s k (by omega)] at e1
            rw [sb_at s (k + 1) (by omega)] at e2
            rw [unh_succ, ← hkm.out, e1, e2]
            rfl
          have hlen : (unh (sb s) m).length + 1 ≤ 140737488355328 := by rw [unh_length]; have := hkm.out; omega
          have HO := Lib.hid ho
          have HB := Lib.hid hb
          have HL := Lib.hid hlen
          have HST := Lib.hid hst
          clear ho hb hlen hst
          have a1 : IntKind.i64.wrap ((v1 : Int) * 16) = (v1 : Int) * 16 := IntWalk.i64_in _ ⟨by omega, by omega⟩
          have a2 : IntKind.i64.wrap ((v1 : Int) * 16 + (v2 : Int)) = (v1 : Int) * 16 + (v2 : Int) := IntWalk.i64_in _ ⟨by omega, by omega⟩
          have a3 : IntKind.u8.wrap ((v1 : Int) * 16 + (v2 : Int)) = (v1 : Int) * 16 + (v2 : Int) := IntWalk.u8_in _ ⟨by omega, by omega⟩
          have a4 : IntKind.i64.wrap ((k : Int) + 1) = (k : Int) + 1 := IntWalk.i64_in _ ⟨by omega, by omega⟩
          have j0 : (0 : Int) ≤ (k : Int) := by omega
          have j1 : (k : Int) < (s.size : Int) := by omega
          have j2 : (0 : Int) ≤ (k : Int) + 1 := by omega
          have j3 : (k : Int) + 1 < (s.size : Int) := by omega
          have j4 : ((k : Int) + 1).toNat = k + 1 := by omega
          go_wp2_with fail
          go_region_held3 (fun _ => True) (first | trivial | go_keep)
            (first
              | (refine step_append_bytes (by rfl) (.tmp 33) (.tmp 46) (by rfl) (news := [v1 * 16 + v2]) _ 1 (by rfl) (by rfl) (by exact heap_alloc_new wr _) (by rfl) (by rfl) (HO.out.alloc _) ((HB.out.alloc (by have := HB.out.size; simpa using this) _).drew) (by have := HB.out.size; simp at this ⊢; omega) HL.out ?_; intro v' w' ho' hb')
              | ((with_reducible refine (digit_yes _ v1 _ hv1).mono ?_); rintro e w' ⟨rfl, rfl⟩)
              | ((with_reducible refine (digit_yes _ v2 _ hv2).mono ?_); rintro e w' ⟨rfl, rfl⟩))
          all_goals
            go_wp2
            go_roundw
            case rel => exact ⟨m + 1, k + 2, by have := hkm.out; show k + 2 = 2 * (m + 1); omega, by omega, by go_num, by rw [HST.out]; exact ho', hb'⟩
            case measure => simp [intOf]; omega
        · have hm : m = s.size / 2 := by have := hkm.out; omega
          subst hm
          obtain ⟨A, c', rfl, hl1, hl2, hrow⟩ := ho.out (unh_byte _ _)
          have hF : wr.heap[w.heap.size]? = some (.cells #[.int .i64 0, .int .i64 0] 42 (0, 0)) := (hb.block w.heap.size (by omega)).trans (heap_alloc_new w _)
          have hc0 : wr.cell? ⟨w.heap.size, 0, none⟩ = some (.int .i64 0) := cell_of_row wr _ _ _ _ _ hF
          have hc1 : wr.cell? ⟨w.heap.size, 1, none⟩ = some (.int .i64 0) := cell_of_row wr _ _ _ _ _ hF
          have hf0 := frozen_of_row wr _ 0 _ _ hF
          have hf1 := frozen_of_row wr _ 1 _ _ hF
          have hh := heap_setCell_same wr w.heap.size 0 _ _ (.int .i64 0) hF
          have hh2 := heap_setCell_same _ w.heap.size 1 _ _ (.int .i64 0) hh
          have hr0 : (wr.setCell ⟨w.heap.size, 0, none⟩ (.int .i64 0)).cell? ⟨w.heap.size, 0, none⟩ = some (.int .i64 0) := cell_of_row _ _ _ _ _ _ hh
          have hr1 : ((wr.setCell ⟨w.heap.size, 0, none⟩ (.int .i64 0)).setCell ⟨w.heap.size, 1, none⟩ (.int .i64 0)).cell? ⟨w.heap.size, 1, none⟩ = some (.int .i64 0) := cell_of_row _ _ _ _ _ _ hh2
          have ho2 : OutIs (w.heap.size + 1) ((wr.setCell ⟨w.heap.size, 0, none⟩ (.int .i64 0)).setCell ⟨w.heap.size, 1, none⟩ (.int .i64 0)) (.slice A (unh (sb s) (s.size / 2)).length c') (unh (sb s) (s.size / 2)) :=
            ownsRow_setCell_below (ownsRow_setCell_below ho (by show w.heap.size < w.heap.size + 1; omega) _) (by show w.heap.size < w.heap.size + 1; omega) _
          obtain ⟨A', c2, e2, _, _, hrow2⟩ := ho2.out (unh_byte _ _)
          injection e2 with e3 e4 e5
          subst e3 e5
          have hbw : Below w.heap.size w ((wr.setCell ⟨w.heap.size, 0, none⟩ (.int .i64 0)).setCell ⟨w.heap.size, 1, none⟩ (.int .i64 0)) :=
            ((((Below.refl _ _).alloc (Nat.le_refl _) _).trans (hb.mono (by omega))).setCell (Nat.le_refl _) _).setCell (Nat.le_refl _) _
          have HF : Hid (ByteVal ((wr.setCell ⟨w.heap.size, 0, none⟩ (.int .i64 0)).setCell ⟨w.heap.size, 1, none⟩ (.int .i64 0)) (.slice A (unh (sb s) (s.size / 2)).length c') (unh (sb s) (s.size / 2)) ∧
            Below w.heap.size w ((wr.setCell ⟨w.heap.size, 0, none⟩ (.int .i64 0)).setCell ⟨w.heap.size, 1, none⟩ (.int .i64 0))) := ⟨⟨A, c', rfl, hl1, hrow2⟩, hbw⟩
          clear ho hb hrow ho2 hrow2 hbw hh hh2 hF
          go_wp2
          exact bodyPost_ret (v := .tuple #[.slice A (unh (sb s) (s.size / 2)).length c', .agg #[.int .i64 0, .int .i64 0]]) (by simp [results, Try.results30, go_sem, hr0, hr1]) rfl ⟨_, rfl, HF.out⟩
end Go.Proofs.Ytbnheffeojnjdaa
