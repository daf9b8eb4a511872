/-
  bitrow's Text, and the document's.
-/
import Derived.Test.YtdpncnplbkmgoaaDoorBr14
namespace Go.Proofs.YtdpncnplbkmgoaaDoor
open Go.RowKit Go.Shelf
set_option linter.unusedVariables false
attribute [local go_sem] Oper.semAt_some

/-- The digits of a row's first n bits. -/
def digs01 (xs : List Nat) (n : Nat) : List Nat := (List.range n).map fun i => if tb xs i then 49 else 48
theorem digs01_length (xs : List Nat) (n : Nat) : (digs01 xs n).length = n := by simp [digs01]
theorem digs01_byte (xs : List Nat) (n : Nat) : ∀ x ∈ digs01 xs n, x < 256 := by
  intro x hx
  obtain ⟨i, _, rfl⟩ := List.mem_map.1 hx
  split <;> decide
theorem digs01_snoc (xs : List Nat) (n : Nat) : digs01 xs (n + 1) = digs01 xs n ++ [if tb xs n then 49 else 48] := by simp [digs01, List.range_succ]
/-- The text of a row's first bits. -/
def txt (xs : List Nat) (n : Int) : ByteArray := if 0 ≤ n ∧ n ≤ 65536 then str (digs01 xs n.toNat) else ByteArray.empty
theorem txt_out {xs : List Nat} {n : Int} (h : n < 0 ∨ 65536 < n) : txt xs n = ByteArray.empty := by unfold txt; rw [if_neg (by omega)]
theorem txt_nat {xs : List Nat} {n : Nat} (h : n ≤ 65536) : txt xs (n : Int) = str (digs01 xs n) := by
  unfold txt
  rw [if_pos (by omega)]
  rfl

set_option maxRecDepth 10000 in
set_option maxHeartbeats 1600000 in
theorem rtext_any (A : Option Addr) (len cap : Nat) (xs : List Nat) (n : Int) (w : World) (hn : n ≤ 9223372036854775807) (hA : RowU w A len xs) :
    Calls Tryd.prog 30 #[.slice A len cap, .int .i64 n] w fun e w' => e = .returned (.string (txt xs n)) ∧ Below w.heap.size w w' := by
  by_cases h : n ≤ 0 ∨ 65536 < n
  · have e : txt xs n = ByteArray.empty := by
      by_cases h2 : n < 0 ∨ 65536 < n
      · exact txt_out h2
      · obtain rfl : n = 0 := by omega
        rfl
    have HE := Lib.hid e
    have hconv := conv_str (w := w) (c := 0) (Row.nil w none)
    clear e hA
    by_cases h1 : n ≤ 0
    · clear h
      go_enter Tryd.func30, Tryd.ntmps30
      go_wp2_with fail
      go_loop [5, 6] (fun v i => v = .slice none 0 0 ∧ i = .int .i64 0) (fun _ _ => 0)
      case atStart => exact ⟨rfl, rfl⟩
      case round =>
        obtain ⟨rfl, rfl⟩ := hrel
        go_wp2_with fail
        go_ret
        exact ⟨by rw [HE.out]; rfl, Below.refl _ _⟩
    · have h2 : 65536 < n := by omega
      clear h
      go_enter Tryd.func30, Tryd.ntmps30
      go_wp2_with fail
      go_loop [5, 6] (fun v i => v = .slice none 0 0 ∧ i = .int .i64 0) (fun _ _ => 0)
      case atStart => exact ⟨rfl, rfl⟩
      case round =>
        obtain ⟨rfl, rfl⟩ := hrel
        go_wp2_with fail
        go_ret
        exact ⟨by rw [HE.out]; rfl, Below.refl _ _⟩
  · obtain ⟨k, rfl⟩ := Int.eq_ofNat_of_zero_le (by omega : 0 ≤ n)
    have hk : k ≤ 65536 := by omega
    have HE := Lib.hid (txt_nat (xs := xs) hk)
    have hki : (k : Int) ≤ 65536 := by omega
    have HA := Lib.hid hA
    clear h hA hn
    go_enter Tryd.func30, Tryd.ntmps30
    go_wp2_with fail
    go_loopw [5, 6] (fun v i wr => ∃ j : Nat, j ≤ k ∧ i = .int .i64 (j : Int) ∧ OutIs w.heap.size wr v (digs01 xs j) ∧ Below w.heap.size w wr) (fun _ i _ => k - (intOf i).toNat)
    case atStart => exact ⟨0, Nat.zero_le _, rfl, OutIs.nil _ _, Below.refl _ _⟩
    case round =>
      obtain ⟨j, hj, rfl, ho, hb⟩ := hrel
      have HO := Lib.hid ho
      have HB := Lib.hid hb
      clear ho hb
      by_cases hlt : j < k
      · have hll : Hid ((digs01 xs j).length + 1 ≤ 140737488355328) := by rw [digs01_length]; exact (by omega : j + 1 ≤ 140737488355328)
        have C := Lib.hid (rhas_any A len cap xs (j : Int) wr (by omega) (HA.out.below HB.out))
        rw [hasB_nat] at C
        have hst := digs01_snoc xs j
        cases hb : tb xs j with
        | true =>
          rw [hb] at C
          rw [hb, if_pos rfl] at hst
          have HS := Lib.hid hst
          clear hst hb
          go_wp2_with (first | (go_at_call 16; refine C.out.mono ?_; rintro e w' ⟨rfl, rfl⟩) | (at_builtin; refine wpList_append_bytes (by rfl) (.tmp 20) (.tmp 22) (by rfl) (news := [49]) _ 1 (by rfl) (by rfl) (by rfl) (by rfl) HO.out HB.out HB.out.size hll.out ?_; intro v' w' ho' hb') | fail)
          go_roundw
          case rel => exact ⟨j + 1, hlt, by go_num, by rw [HS.out]; exact ho', hb'⟩
          case measure => simp [intOf]; omega
        | false =>
          rw [hb] at C
          rw [hb, if_neg (by decide)] at hst
          have HS := Lib.hid hst
          clear hst hb
          go_wp2_with (first | (go_at_call 16; refine C.out.mono ?_; rintro e w' ⟨rfl, rfl⟩) | (at_builtin; refine wpList_append_bytes (by rfl) (.tmp 20) (.tmp 22) (by rfl) (news := [48]) _ 1 (by rfl) (by rfl) (by rfl) (by rfl) HO.out HB.out HB.out.size hll.out ?_; intro v' w' ho' hb') | fail)
          go_roundw
          case rel => exact ⟨j + 1, hlt, by go_num, by rw [HS.out]; exact ho', hb'⟩
          case measure => simp [intOf]; omega
      · obtain rfl : j = k := by omega
        obtain ⟨A', c', rfl, _, _, hrow⟩ := HO.out.out (digs01_byte _ _)
        have hconv := conv_str (c := c') hrow
        clear hrow hlt hj
        go_wp2_with fail
        go_ret
        exact ⟨by rw [HE.out]; rfl, HB.out⟩
end Go.Proofs.YtdpncnplbkmgoaaDoor
