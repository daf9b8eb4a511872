/-
  bitrow's set, New, Set, All; the document's New, Has, Same, Set, All.
-/
import Derived.Test.YthikjngmaekjgaaBr2
import Derived.StillTailTactics
import Derived.Deep.CutRange
import Derived.Deep.CutBlock
namespace Go.Proofs.Ythikjngmaekjgaa
open Go.RowKit
set_option linter.unusedVariables false

theorem or_bit (x r : Nat) (hx : x < 18446744073709551616) (hr : r < 64) : bits .or .u64 (x : Int) (IntKind.u64.wrap (2 ^ r)) = ((x ||| 2 ^ r : Nat) : Int) := by
  have hp : 2 ^ r < 18446744073709551616 := by have := pow_r r; rwa [Nat.mod_eq_of_lt hr] at this
  have e : IntKind.u64.wrap (2 ^ r) = ((2 ^ r : Nat) : Int) := by
    rw [IntKind.wrap_u64]
    have : ((2 : Int) ^ r) = ((2 ^ r : Nat) : Int) := by simp
    rw [this]
    generalize 2 ^ r = p at *
    omega
  rw [e, bits_or_u64_nat x _ hx hp]
theorem q_wrap64 {q n : Nat} (h : q < n) (hn : (n : Int) ≤ 1048576) : wrap64 (q : Int) = (q : Int) := by unfold wrap64; omega
theorem q_wrap {q n : Nat} (h : q < n) (hn : (n : Int) ≤ 1048576) : IntKind.i64.wrap (q : Int) = (q : Int) := by rw [IntKind.wrap_i64]; omega
theorem tmod_64 {k r : Nat} (h : (k : Int) % 64 = (r : Int)) : (k : Int).tmod 64 = (r : Int) := by rw [Int.tmod_eq_emod_of_nonneg (by omega)]; exact h
theorem r_wrap {r : Nat} (h : r < 64) : IntKind.i64.wrap (r : Int) = (r : Int) := by rw [IntKind.wrap_i64]; omega
theorem brset_any (B g n c k q r x : Nat) (xs : List Nat) (w : World) (hO : OutU B w (.slice (some ⟨g, 0, none⟩) n c) xs) (hn : xs.length = n) (hB : B ≤ g) (hq : (k : Int) / 64 = (q : Int)) (hr : (k : Int) % 64 = (r : Int)) (h : q < n) (hnl : (n : Int) ≤ 1048576)
    (hx : x = xs.getD q 0) (hxl : x < 18446744073709551616) :
    Calls Try.prog 21 #[.slice (some ⟨g, 0, none⟩) n c, .int .i64 (k : Int)] w fun e w' => e = .returned (.tuple #[]) ∧ OutU B w' (.slice (some ⟨g, 0, none⟩) n c) (setRow xs k) ∧ Below B w w' := by
  have hc := hO.cell hn q h
  have hf := hO.frozen hn q
  rw [← hx] at hc
  have hr2 : r < 64 := by omega
  have ho := or_bit x r hxl hr2
  have HO := Lib.hid hO
  have HN := Lib.hid hn
  have HX := Lib.hid hx
  have w1 := q_wrap64 h hnl
  have w2 := q_wrap h hnl
  have w3 := r_wrap hr2
  have hr3 := tmod_64 hr
  clear hO hn hx
  go_enter Try.func21, Try.ntmps21
  refine wp_region_still_tail 10 (by kernel_rfl) (by kernel_rfl) ?_
  simp only [List.take_succ_cons, List.take_zero, List.drop_succ_cons, List.drop_zero]
  repeat still_step
  refine wpStill_nil ?_
  change wpList _ _ _ _ _ w.drew
  have hc2 : (w.drew).cell? ⟨g, q, none⟩ = some (.int .u64 x) := hc
  have hf2 : (w.drew).frozen? ⟨g, q, none⟩ = false := hf
  go_wp2_with fail
  go_end0
  refine ⟨rfl, ?_, ?_⟩
  · have h1 := HO.out.set HN.out q (x ||| 2 ^ r)
    have e : setRow xs k = xs.set q (x ||| 2 ^ r) := by
      unfold setRow
      rw [HX.out, show k / 64 = q from by omega, show k % 64 = r from by omega]
    rw [e]
    exact h1
  · exact ((Below.refl B w).setCell (p := ⟨g, q, none⟩) hB _).drew

/-- How many words a new row has. -/
def newN (n : Int) : Nat := if 0 ≤ n ∧ n ≤ 65536 then (n.toNat + 63) / 64 else 0
theorem newN_le (n : Int) : newN n ≤ 1024 := by unfold newN; split <;> omega
theorem newN_nat {k : Nat} (h : k ≤ 65536) : newN (k : Int) = (k + 63) / 64 := by
  unfold newN
  rw [if_pos (by omega)]
  simp
theorem newN_out {n : Int} (h : n < 0 ∨ 65536 < n) : newN n = 0 := by unfold newN; rw [if_neg (by omega)]
/-- What makes a row: the words are there, and all below is as it was. -/
def MadeU (w : World) (xs : List Nat) (e : Ending) (w' : World) : Prop := ∃ v, e = .returned v ∧ OutU w.heap.size w' v xs ∧ Below w.heap.size w w'
theorem brnew_ok (k m : Nat) (w : World) (hk : k ≤ 65536) (hm : m = (k + 63) / 64) :
    Calls Try.prog 17 #[.int .i64 (k : Int)] w fun e w' => e = .returned (.slice (some ⟨w.heap.size, 0, none⟩) m m) ∧ w' = w.alloc (.cells (cellsU (List.replicate m 0)).toArray 48) := by
  have hmk := make_rowU m (by omega) w
  have e : ((k : Int) + 64 - 1) / 64 = (m : Int) := by omega
  have hml : (m : Int) ≤ 1024 := by omega
  clear hm
  go_enter Try.func17, Try.ntmps17
  go_wp2
  go_ret
  exact ⟨rfl, rfl⟩
theorem brnew_no (n : Int) (w : World) (h : n < 0 ∨ 65536 < n) :
    Calls Try.prog 17 #[.int .i64 n] w fun e w' => e = .returned (.slice none 0 0) ∧ w' = w := by
  by_cases h1 : n < 0
  · clear h
    go_enter Try.func17, Try.ntmps17
    go_wp2
    go_ret
    exact ⟨rfl, rfl⟩
  · have h2 : 65536 < n := by omega
    clear h
    go_enter Try.func17, Try.ntmps17
    go_wp2
    go_ret
    exact ⟨rfl, rfl⟩
theorem brnew_any (n : Int) (w : World) : Calls Try.prog 17 #[.int .i64 n] w (MadeU w (List.replicate (newN n) 0)) := by
  by_cases h : n < 0 ∨ 65536 < n
  · refine (brnew_no n w h).mono ?_
    rintro e w' ⟨rfl, rfl⟩
    rw [newN_out h]
    exact ⟨_, rfl, OutU.nil _ _, Below.refl _ _⟩
  · obtain ⟨k, rfl⟩ := Int.eq_ofNat_of_zero_le (by omega : 0 ≤ n)
    have hk : k ≤ 65536 := by omega
    refine (brnew_ok k _ w hk rfl).mono ?_
    rintro e w' ⟨rfl, rfl⟩
    rw [newN_nat hk]
    have h1 := (OwnU.new w (List.replicate ((k + 63) / 64) 0)).outv (B := w.heap.size) (Nat.le_refl _) (by simp [maxLen]; omega)
    rw [List.length_replicate] at h1
    exact ⟨_, rfl, h1, (Below.refl _ _).alloc (Nat.le_refl _) _⟩

set_option maxHeartbeats 400000 in
theorem rnew_any (n : Int) (w : World) (hlo : -9223372036854775808 ≤ n) (hhi : n ≤ 9223372036854775807) : Calls Try.prog 22 #[.int .i64 n] w (MadeU w (List.replicate (newN n) 0)) := by
  by_cases h : n ≤ 0 ∨ 65536 < n
  · have e : newN n = 0 := by
      by_cases h2 : n < 0 ∨ 65536 < n
      · exact newN_out h2
      · obtain rfl : n = 0 := by omega
        rfl
    rw [e]
    clear e
    by_cases h1 : n ≤ 0
    · clear h
      go_enter Try.func22, Try.ntmps22
      go_wp2
      go_loop [3, 4] (fun v i => v = .slice none 0 0 ∧ i = .int .i64 0) (fun _ _ => 0)
      case atStart => exact ⟨rfl, rfl⟩
      case round =>
        obtain ⟨rfl, rfl⟩ := hrel
        go_wp2
        go_ret
        exact ⟨_, rfl, OutU.nil _ _, Below.refl _ _⟩
    · have h2 : 65536 < n := by omega
      clear h
      go_enter Try.func22, Try.ntmps22
      go_wp2
      go_loop [3, 4] (fun v i => v = .slice none 0 0 ∧ i = .int .i64 0) (fun _ _ => 0)
      case atStart => exact ⟨rfl, rfl⟩
      case round =>
        obtain ⟨rfl, rfl⟩ := hrel
        go_wp2
        go_ret
        exact ⟨_, rfl, OutU.nil _ _, Below.refl _ _⟩
  · obtain ⟨k, rfl⟩ := Int.eq_ofNat_of_zero_le (by omega : 0 ≤ n)
    have hk : k ≤ 65536 := by omega
    rw [newN_nat hk]
    have hk1 : 1 ≤ k := by omega
    clear h hlo hhi
    go_enter Try.func22, Try.ntmps22
    go_wp2
    go_loopw [3, 4] (fun v i wr => ∃ j p : Nat, Hid (p = 64 * j) ∧ j ≤ (k + 63) / 64 ∧ i = .int .i64 (p : Int) ∧ OutU w.heap.size wr v (List.replicate j 0) ∧ Below w.heap.size w wr) (fun _ i _ => k - (intOf i).toNat)
    case atStart => exact ⟨0, 0, rfl, Nat.zero_le _, rfl, OutU.nil _ _, Below.refl _ _⟩
    case round =>
      obtain ⟨j, p, hp, hj, rfl, ho, hb⟩ := hrel
      have HJ := Lib.hid hj
      have HO := Lib.hid ho
      have HB := Lib.hid hb
      have hl : Hid ((List.replicate j 0).length + 1 ≤ 1048576) := by have : (List.replicate j 0).length = j := List.length_replicate .. ; exact (by omega : (List.replicate j 0).length + 1 ≤ 1048576)
      have hjn : Hid (p < k → j + 1 ≤ (k + 63) / 64) := by have := hp.out; exact (fun h => by omega)
      have hje : Hid (k ≤ p → j = (k + 63) / 64) := by have := hp.out; exact (fun h => by omega)
      have hpp : Hid (p + 64 = 64 * (j + 1)) := by have := hp.out; exact (by omega : p + 64 = 64 * (j + 1))
      clear hj ho hb
      by_cases hlt : p < k
      · go_wp2_with (at_builtin; refine wpList_appendU (by rfl) (.tmp 14) (.tmp 15) (by rfl) (news := [0]) _ 1 (by rfl) (by rfl) (by rfl) (by rfl) HO.out HB.out HB.out.size hl.out ?_; intro v' w' ho' hb')
        go_roundw
        case rel => exact ⟨j + 1, p + 64, hpp.out, hjn.out hlt, by go_num, by rw [List.replicate_succ']; exact ho', hb'⟩
        case measure => simp [intOf]; omega
      · go_wp2
        go_ret
        have e := hje.out (by omega)
        rw [e] at HO
        exact ⟨_, rfl, HO.out, HB.out⟩

theorem bit_eq (x r : Nat) : ((((x / 2 ^ r % 2 ^ 1 : Nat) : Int)) == 1) = x.testBit r := by
  rw [show (2 : Nat) ^ 1 = 2 from rfl, bit_of_testBit]
  cases x.testBit r <;> rfl
/-- 'Same' over equal rows. -/
theorem rowsame_yes (A B : Option Addr) (n c d : Nat) (xs : List Nat) (w : World) (hn : n ≤ 1048576) (hA : RowU w A n xs) (hB : RowU w B n xs) :
    Calls Try.prog 8 #[.slice A n c, .slice B n d] w fun e w' => e = .returned (.bool true) ∧ Below w.heap.size w w' := by
  go_enter Try.func8, Try.ntmps8
  go_wp2_with fail
  go_loopw [5] (fun i wr => ∃ k : Nat, k ≤ n ∧ i = .int .i64 (k : Int) ∧ Below w.heap.size w wr) (fun i _ => n - (intOf i).toNat)
  case atStart => exact ⟨0, Nat.zero_le _, rfl, Below.refl _ _⟩
  case round =>
    obtain ⟨k, hk, rfl, hb⟩ := hrel
    have HB := Lib.hid hb
    by_cases hlt : k < n
    · obtain ⟨b, o, rfl, hl, hc⟩ := hA.addr (by omega)
      obtain ⟨b', o', rfl, hl', hc'⟩ := hB.addr (by omega)
      have h1 : wr.cell? ⟨b, o + k, none⟩ = some (.int .u64 (xs.getD k 0 : Nat)) := (hb.cell (p := ⟨b, o + k, none⟩) hl).trans (hc k hlt)
      have h2 : wr.cell? ⟨b', o' + k, none⟩ = some (.int .u64 (xs.getD k 0 : Nat)) := (hb.cell (p := ⟨b', o' + k, none⟩) hl').trans (hc' k hlt)
      obtain ⟨x, hx⟩ : ∃ x, x = xs.getD k 0 := ⟨_, rfl⟩
      rw [← hx] at h1 h2
      clear hc hc' hx hA hB hb hl hl'
      have u := q_wrap hlt (by omega)
      go_wp2_with fail
      go_quiet (fail)
      go_wp2_with fail
      go_roundw
      case rel => exact ⟨k + 1, by omega, by go_num, below_drewN' HB.out _⟩
      case measure => simp [intOf]; omega
    · obtain rfl : k = n := by omega
      clear hA hB hb
      go_wp2_with fail
      go_ret
      exact ⟨rfl, HB.out⟩
end Go.Proofs.Ythikjngmaekjgaa
