/-
  Contracts of octet.Unhex: the bytes of digits, or where something is wrong.
-/
import Derived.Test.YtbnheffeojnjdaaOct6
import Derived.Test.YtbnheffeojnjdaaOwn
import Derived.Handy
namespace Go.Proofs.Ytbnheffeojnjdaa
open Go.RowKit
set_option linter.unusedVariables false

/-- A string's bytes. -/
def sb (s : ByteArray) : List Nat := s.data.toList.map UInt8.toNat
theorem sb_length (s : ByteArray) : (sb s).length = s.size := by simp [sb]
theorem sb_at (s : ByteArray) (k : Nat) (h : k < s.size) : (s[k]'h).toNat = (sb s).getD k 0 := by
  rw [List.getD_eq_getElem?_getD, List.getElem?_eq_getElem (by rw [sb_length]; exact h)]
  simp [sb]
  rfl
/-- The first k bytes are digits. -/
def Digits (s : ByteArray) (k : Nat) : Prop := ∀ j, j < k → hexv ((sb s).getD j 0) ≠ none
theorem digits_at {s : ByteArray} {i k : Nat} (h : Digits s i) (hk : k < i) (hs : k < s.size) : ∃ v, v < 16 ∧ Hid (hexv (s[k]'hs).toNat = some v) := by
  have h1 := h k hk
  cases hv : hexv ((sb s).getD k 0) with
  | none => exact absurd hv h1
  | some v => exact ⟨v, (dg_hexv hv).1, by rw [sb_at s k hs]; exact hv⟩

set_option maxHeartbeats 400000 in
theorem unhex_bad (s : ByteArray) (i : Nat) (w : World) (hs : s.size ≤ 9223372036854775807) (hi : i < s.size) (hd : Digits s i) (hb : hexv ((sb s).getD i 0) = none) :
    Calls Try.prog 29 #[.string s] w fun e w' => e = .returned (.tuple #[.slice none 0 0, .agg #[.int .i64 3, .int .i64 i]]) ∧ Below w.heap.size w w' := by
  have HD := Lib.hid hd
  have HB := Lib.hid (show hexv (s[i]'hi).toNat = none from by rw [sb_at s i hi]; exact hb)
  clear hd hb
  go_enter Try.func29, Try.ntmps29
  go_wp2
  go_loop [15] (fun j => ∃ k : Nat, k ≤ i ∧ j = .int .i64 k) (fun j => i + 1 - (intOf j).toNat)
  case atStart => exact ⟨0, Nat.zero_le _, rfl⟩
  case round =>
    obtain ⟨k, hk, rfl⟩ := hrel
    by_cases hlt : k < i
    · obtain ⟨v, _, hv⟩ := digits_at HD.out hlt (by omega)
      go_wp2_with (go_at_call 58; refine (value_yes _ v _ hv).mono ?_; rintro e w' ⟨rfl, rfl⟩)
      go_round
      case rel => exact ⟨k + 1, by omega, by go_num⟩
      case measure => simp [intOf]; omega
    · obtain rfl : k = i := by omega
      go_wp2_with (go_at_call 58; refine (value_no _ _ HB).mono ?_; rintro e w' ⟨rfl, rfl⟩)
      go_returns
      exact ⟨rfl, (Below.refl _ _).alloc (Nat.le_refl _) _⟩

set_option maxHeartbeats 400000 in
theorem unhex_cut (s : ByteArray) (w : World) (hs : s.size ≤ 9223372036854775807) (hp : 1 ≤ s.size % 2) (hd : Digits s s.size) :
    Calls Try.prog 29 #[.string s] w fun e w' => e = .returned (.tuple #[.slice none 0 0, .agg #[.int .i64 19, .int .i64 s.size]]) ∧ Below w.heap.size w w' := by
  have HD := Lib.hid hd
  clear hd
  go_enter Try.func29, Try.ntmps29
  go_wp2
  go_loop [15] (fun j => ∃ k : Nat, k ≤ s.size ∧ j = .int .i64 k) (fun j => s.size - (intOf j).toNat)
  case atStart => exact ⟨0, Nat.zero_le _, rfl⟩
  case round =>
    obtain ⟨k, hk, rfl⟩ := hrel
    by_cases hlt : k < s.size
    · obtain ⟨v, _, hv⟩ := digits_at HD.out hlt (by omega)
      go_wp2_with (go_at_call 58; refine (value_yes _ v _ hv).mono ?_; rintro e w' ⟨rfl, rfl⟩)
      go_round
      case rel => exact ⟨k + 1, by omega, by go_num⟩
      case measure => simp [intOf]; omega
    · go_wp2
      go_returns
      exact ⟨rfl, (Below.refl _ _).alloc (Nat.le_refl _) _⟩

/-- The bytes that digits encode. -/
def unh (L : List Nat) (m : Nat) : List Nat := (List.range m).map fun k => (hexv (L.getD (2 * k) 0)).getD 0 * 16 + (hexv (L.getD (2 * k + 1) 0)).getD 0
theorem unh_length (L : List Nat) (m : Nat) : (unh L m).length = m := by simp [unh]
theorem unh_get (L : List Nat) (m k : Nat) (h : k < m) : (unh L m).getD k 0 = (hexv (L.getD (2 * k) 0)).getD 0 * 16 + (hexv (L.getD (2 * k + 1) 0)).getD 0 := by
  rw [List.getD_eq_getElem?_getD, List.getElem?_eq_getElem (by rw [unh_length]; exact h)]
  simp [unh]
theorem unh_byte (L : List Nat) (m : Nat) : ∀ x ∈ unh L m, x < 256 := by
  intro x hx
  simp only [unh, List.mem_map] at hx
  obtain ⟨k, _, rfl⟩ := hx
  have h : ∀ o : Nat, (hexv o).getD 0 < 16 := fun o => by
    cases ho : hexv o with
    | none => decide
    | some v => exact (dg_hexv ho).1
  have h1 := h (L.getD (2 * k) 0)
  have h2 := h (L.getD (2 * k + 1) 0)
  omega
theorem shl4_or (a b : Nat) (ha : a < 16) (hb : b < 16) : bits .or .u8 ((a : Int) * 16) (b : Int) = ((a * 16 + b : Nat) : Int) := by
  have h := u8_or_nat (a * 16) b (by omega) (by omega)
  rw [nat_join 4 (a * 16) b (by omega) (by omega)] at h
  simpa using h

/-- What stands while Unhex writes. -/
def UInv (w : World) (l : List Nat) (m k : Nat) (wr : World) : Prop :=
  Own wr (w.heap.size + 1) (splice (List.replicate m 0) 0 (l.take k)) ∧ wr.heap[w.heap.size]? = some (.cells #[.int .i64 0, .int .i64 0] 42 (0, 0)) ∧ Below w.heap.size w wr

set_option maxHeartbeats 1600000 in
theorem unhex_ok (s : ByteArray) (w : World) (hs : s.size ≤ 140737488351232) (hp : s.size % 2 < 1) (hd : Digits s s.size) :
    Calls Try.prog 29 #[.string s] w fun e w' => e = .returned (.tuple #[.slice (some ⟨w.heap.size + 1, 0, none⟩) (s.size / 2) (s.size / 2), .agg #[.int .i64 0, .int .i64 0]]) ∧
      Own w' (w.heap.size + 1) (unh (sb s) (s.size / 2)) ∧ Below w.heap.size w w' := by
  have HD := Lib.hid hd
  clear hd
  obtain ⟨m, hm⟩ : ∃ m, m = s.size / 2 := ⟨_, rfl⟩
  have hmk : ∀ w : World, (Instr.makeSlice 22 (.int .i64 ((s.size : Int) / 2)) (.int .i64 ((s.size : Int) / 2))).run Try.prog w = .ok (.slice (some ⟨w.heap.size, 0, none⟩) m m) (w.alloc (.cells (bcells (List.replicate m 0)).toArray 5)) := by
    intro w
    rw [show ((s.size : Int) / 2) = ((m : Nat) : Int) from by omega]
    exact make_bytes m (by omega) w
  rw [← hm]
  have hm2 : 2 * m ≤ s.size := by omega
  have hm3 : s.size ≤ 2 * m + 1 := by omega
  have hstart : UInv w (unh (sb s) m) m 0 ((w.alloc (.cells #[.int .i64 0, .int .i64 0] 42)).alloc (.cells (bcells (List.replicate m 0)).toArray 5)) :=
    ⟨by rw [List.take_zero, splice_nil]; exact heap_alloc2_new w _ _, heap_alloc2_old w _ _, ((Below.refl _ _).alloc (Nat.le_refl _) _).alloc (by simp) _⟩
  have HM := Lib.hid hm
  clear hm
  have HU := Lib.hid (unh_get (sb s) m)
  have HL := Lib.hid (unh_length (sb s) m)
  generalize unh (sb s) m = l at *
  go_enter Try.func29, Try.ntmps29
  go_wp2
  go_loop [15] (fun j => ∃ k : Nat, k ≤ s.size ∧ j = .int .i64 k) (fun j => s.size - (intOf j).toNat)
  case atStart => exact ⟨0, Nat.zero_le _, rfl⟩
  case round =>
    obtain ⟨k, hk, rfl⟩ := hrel
    by_cases hlt : k < s.size
    · obtain ⟨v, _, hv⟩ := digits_at HD.out hlt (by omega)
      go_wp2_with (go_at_call 58; refine (value_yes _ v _ hv).mono ?_; rintro e w' ⟨rfl, rfl⟩)
      go_round
      case rel => exact ⟨k + 1, by omega, by go_num⟩
      case measure => simp [intOf]; omega
    · go_wp2
      clear hmk
      go_loopw [43] (fun j wr => ∃ k : Nat, k ≤ m ∧ j = .int .i64 k ∧ UInv w l m k wr) (fun j _ => m - (intOf j).toNat)
      case atStart => exact ⟨0, Nat.zero_le _, rfl, hstart⟩
      case round =>
        clear hstart hk hlt
        obtain ⟨k, hk, rfl, hinv⟩ := hrel
        by_cases hlt : k < m
        · obtain ⟨v1, hb1, hv1⟩ := digits_at HD.out (k := 2 * k) (by omega) (by omega)
          obtain ⟨v2, hb2, hv2⟩ := digits_at HD.out (k := 2 * k + 1) (by omega) (by omega)
          have hor := shl4_or v1 v2 hb1 hb2
          have hlen : (splice (List.replicate m 0) 0 (l.take k)).length = m := by rw [splice_length (by rw [List.length_take, HL.out, List.length_replicate]; omega), List.length_replicate]
          have hcell := hinv.1.cell k (by omega)
          have hfr := hinv.1.frozen k
          clear hlen
          have hnx : UInv w l m (k + 1) (wr.setCell ⟨w.heap.size + 1, k, none⟩ (.int .u8 ((v1 * 16 + v2 : Nat) : Int))) := by
            have e := HU.out k hlt
            rw [← sb_at s (2 * k) (by omega), ← sb_at s (2 * k + 1) (by omega), hv1.out, hv2.out] at e
            simp only [Option.getD_some] at e
            rw [← e]
            refine ⟨?_, (heap_setCell_other wr _ _ _ (by simp)).trans hinv.2.1, hinv.2.2.setCell (by simp) _⟩
            have h5 := hinv.1.set k (l.getD k 0)
            have h6 := splice_take (bs := List.replicate m 0) (l := l) (a := 0) (k := k) (by rw [HL.out, List.length_replicate]; omega) (by rw [HL.out]; exact hlt)
            rw [Nat.zero_add] at h6
            rw [h6] at h5
            exact h5
          have HN := Lib.hid hnx
          clear hnx hinv
          go_wp2_with fail
          refine (value_yes _ v1 _ hv1).mono ?_
          rintro e w' ⟨rfl, rfl⟩
          go_wp2_with fail
          refine (value_yes _ v2 _ hv2).mono ?_
          rintro e w' ⟨rfl, rfl⟩
          go_wp2
          go_roundw
          case rel => exact ⟨k + 1, by omega, by go_num, by have := HN.out; simpa using this⟩
          case measure => simp [intOf]; omega
        · obtain rfl : k = m := by omega
          have hc0 : wr.cell? ⟨w.heap.size, 0, none⟩ = some (.int .i64 0) := cell_of_row wr _ _ _ _ _ hinv.2.1
          have hc1 : wr.cell? ⟨w.heap.size, 1, none⟩ = some (.int .i64 0) := cell_of_row wr _ _ _ _ _ hinv.2.1
          have hf0 := frozen_of_row wr _ 0 _ _ hinv.2.1
          have hf1 := frozen_of_row wr _ 1 _ _ hinv.2.1
          have hh := heap_setCell_same wr w.heap.size 0 _ _ (.int .i64 0) hinv.2.1
          have hh2 := heap_setCell_same _ w.heap.size 1 _ _ (.int .i64 0) hh
          have hr0 : (wr.setCell ⟨w.heap.size, 0, none⟩ (.int .i64 0)).cell? ⟨w.heap.size, 0, none⟩ = some (.int .i64 0) := cell_of_row _ _ _ _ _ _ hh
          have hr1 : ((wr.setCell ⟨w.heap.size, 0, none⟩ (.int .i64 0)).setCell ⟨w.heap.size, 1, none⟩ (.int .i64 0)).cell? ⟨w.heap.size, 1, none⟩ = some (.int .i64 0) := cell_of_row _ _ _ _ _ _ hh2
          have hfin : Own ((wr.setCell ⟨w.heap.size, 0, none⟩ (.int .i64 0)).setCell ⟨w.heap.size, 1, none⟩ (.int .i64 0)) (w.heap.size + 1) l ∧ Below w.heap.size w ((wr.setCell ⟨w.heap.size, 0, none⟩ (.int .i64 0)).setCell ⟨w.heap.size, 1, none⟩ (.int .i64 0)) := by
            refine ⟨(heap_setCell_other _ _ _ _ (by simp)).trans ((heap_setCell_other wr _ _ _ (by simp)).trans ?_), (hinv.2.2.setCell (Nat.le_refl _) _).setCell (Nat.le_refl _) _⟩
            have := hinv.1
            rw [List.take_of_length_le (by rw [HL.out]; exact Nat.le_refl _), splice_whole _ _ (by rw [HL.out, List.length_replicate])] at this
            exact this
          have HF := Lib.hid hfin
          clear hfin hinv hh hh2
          go_wp2
          exact bodyPost_ret (v := .tuple #[.slice (some ⟨w.heap.size + 1, 0, none⟩) k k, .agg #[.int .i64 0, .int .i64 0]]) (by simp [results, Try.results29, go_sem, hr0, hr1]) rfl ⟨rfl, HF.out⟩
end Go.Proofs.Ytbnheffeojnjdaa
