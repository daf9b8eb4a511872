/-
  Contracts of the document's Cap and Text.
-/
import Derived.Test.YtpalnlbdfmiadaaGreatDoorRef2i
import Derived.Test.YtpalnlbdfmiadaaGreatDoorLive2
namespace Go.Proofs.YtpalnlbdfmiadaaGreatDoor
open Go.RowKit
set_option linter.unusedVariables false
attribute [local go_sem ↓] Go.wp_at_zero Go.wp_at_succ

/-- How long a text is. -/
def textLen : Value → Nat
  | .string b => b.size
  | _ => 0
theorem str_size (l : List Nat) : (str l).size = l.length := by simp [str, ByteArray.size]
theorem str_cons (x : Nat) (l : List Nat) : str [x] ++ str l = str (x :: l) := by
  apply ByteArray.ext
  simp [str, ByteArray.data_append]
theorem str_isEmpty (l : List Nat) : (str l).toList.isEmpty = l.isEmpty := by
  rw [ByteArray.toList_eq]
  simp [str]
/-- The box behind w's blocks holds what is left of the number. -/
def Left (w : World) (N k : Nat) (W : World) : Prop :=
  W.heap[w.heap.size]? = some (.cells #[.int .u64 (whi (N / 10 ^ k) : Nat), .int .u64 (wlo (N / 10 ^ k) : Nat)] 43 (0, 0)) ∧ Below w.heap.size w W
theorem Left.below {w W W' : World} {N k : Nat} (h : Left w N k W) (hb : Below W.heap.size W W') : Left w N k W' := ⟨kept h.1 hb, below_both h.2 hb⟩
theorem Left.box {w W : World} {N k : Nat} (h : Left w N k W) : W.cell? ⟨w.heap.size, 0, none⟩ = some (.int .u64 (whi (N / 10 ^ k) : Nat)) ∧ W.cell? ⟨w.heap.size, 1, none⟩ = some (.int .u64 (wlo (N / 10 ^ k) : Nat)) ∧
    W.frozen? ⟨w.heap.size, 0, none⟩ = false ∧ W.frozen? ⟨w.heap.size, 1, none⟩ = false :=
  ⟨cell_of_row W _ 0 _ _ _ h.1, cell_of_row W _ 1 _ _ _ h.1, frozen_of_row W _ 0 _ _ h.1, frozen_of_row W _ 1 _ _ h.1⟩
theorem Left.put {w W : World} {N k j : Nat} (h : Left w N k W) : Left w N j ((W.setCell ⟨w.heap.size, 0, none⟩ (.int .u64 (whi (N / 10 ^ j) : Nat))).setCell ⟨w.heap.size, 1, none⟩ (.int .u64 (wlo (N / 10 ^ j) : Nat))) := by
  have h1 := heap_setCell_same W w.heap.size 0 _ _ (.int .u64 (whi (N / 10 ^ j) : Nat)) h.1
  have h2 := heap_setCell_same _ w.heap.size 1 _ _ (.int .u64 (wlo (N / 10 ^ j) : Nat)) h1
  exact ⟨h2, (h.2.setCell (by simp) _).setCell (by simp) _⟩

theorem rdiv_ten (N : Nat) (x y d : Nat) (w : World) (hN : N < w128) (hx : Hid (x = whi (N / 10))) (hy : Hid (y = wlo (N / 10))) (hd : Hid (d = N % 10)) :
    Calls Tryz.prog 28 #[.agg #[.int .u64 (whi N : Nat), .int .u64 (wlo N : Nat)], .int .u64 10] w fun e w' =>
      e = .returned (.tuple #[.agg #[.int .u64 x, .int .u64 y], .int .u64 d]) ∧ Below w.heap.size w w' := by
  rw [hx.out, hy.out, hd.out]
  exact rdiv_any (whi N) (wlo N) 10 N w (by decide) (words_back hN) (whi_le N) (wlo_le N) (by decide)

theorem conv_one (W : World) (D : Nat) (hD : D < 256) : (convert 62 9 (.slice (some ⟨W.heap.size, 0, none⟩) 1 1)).run Tryz.prog (W.alloc (.cells #[.int .u8 (D : Int)] 5)) = .ok (.string (str [D])) (W.alloc (.cells #[.int .u8 (D : Int)] 5)) := by
  refine conv_str (Row.mk rfl (by simpa using hD) fun i hi => ?_)
  obtain rfl : i = 0 := by omega
  exact new_cell W _ _ _ rfl
set_option maxRecDepth 10000 in
set_option maxHeartbeats 1600000 in
theorem rtext_any (a b N K : Nat) (w : World) (hN : Hid (N = wnum a b)) (ha : a ≤ 18446744073709551615) (hb : b ≤ 18446744073709551615) (hK : Hid (HasDigits N K)) (hK39 : K ≤ 39) :
    Calls Tryz.prog 17 #[.agg #[.int .u64 a, .int .u64 b]] w fun e w' => e = .returned (.string (str (dtail N K))) ∧ Below w.heap.size w w' := by
  have hN2 : Hid (N < w128) := by
    have := wnum_lt ha hb
    rw [← hN.out] at this
    exact this
  go_enter Tryz.func17, Tryz.ntmps17
  go_wp2_with fail
  go_loopw [3] (fun s wr => ∃ k : Nat, k ≤ K ∧ s = .string (str (dtail N k)) ∧ Left w N k wr) (fun s _ => 40 - textLen s)
  case atStart =>
    refine ⟨0, Nat.zero_le _, rfl, ?_, (Below.refl _ _).alloc (Nat.le_refl _) _⟩
    have e : N / 10 ^ 0 = wnum a b := by rw [Nat.pow_zero, Nat.div_one]; exact hN.out
    rw [e, whi_num ha hb, wlo_num hb]
    exact heap_alloc_new _ _
  case round =>
    obtain ⟨k, hk, rfl, HT⟩ := hrel
    have HT := Lib.hid HT
    obtain ⟨c0, c1, c2, c3⟩ := HT.out.box
    by_cases hz : k = K
    · subst hz
      have e0 : (str (dtail N k)).toList.isEmpty = false := by
        have := hK.out.one
        have h2 := dtail_length N k
        rw [str_isEmpty]
        cases hd : dtail N k with
        | nil => rw [hd] at h2; simp at h2; omega
        | cons x l => rfl
      rw [hK.out.zero, whi_zero] at c0
      rw [hK.out.zero, wlo_zero] at c1
      simp at c0 c1
      go_wp2_with fail
      go_ret
      exact ⟨rfl, HT.out.2⟩
    · have hlt : k < K := by omega
      have hM : N / 10 ^ k < w128 := Nat.lt_of_le_of_lt (Nat.div_le_self _ _) hN2.out
      obtain ⟨x, hx⟩ : ∃ x, x = whi (N / 10 ^ (k + 1)) := ⟨_, rfl⟩
      obtain ⟨y, hy⟩ : ∃ y, y = wlo (N / 10 ^ (k + 1)) := ⟨_, rfl⟩
      obtain ⟨d, hd⟩ : ∃ d, d = N / 10 ^ k % 10 := ⟨_, rfl⟩
      have hd10 : d < 10 := by rw [hd]; exact Nat.mod_lt _ (by decide)
      obtain ⟨D, hD⟩ : ∃ D, D = 48 + d := ⟨_, rfl⟩
      have hD58 : D < 58 := by omega
      have HD : Hid (∀ w, Calls Tryz.prog 28 #[.agg #[.int .u64 (whi (N / 10 ^ k) : Nat), .int .u64 (wlo (N / 10 ^ k) : Nat)], .int .u64 10] w fun e w' =>
        e = .returned (.tuple #[.agg #[.int .u64 x, .int .u64 y], .int .u64 d]) ∧ Below w.heap.size w w') := fun w =>
          rdiv_ten (N / 10 ^ k) x y d w hM (by rw [div_pow_succ]; exact hx) (by rw [div_pow_succ]; exact hy) hd
      have t4 : IntKind.u64.wrap (48 + (d : Int)) = (D : Int) := by
        have e : (48 + (d : Int)) = (D : Int) := by omega
        rw [e]; exact IntWalk.u64_in _ ⟨by omega, by omega⟩
      have t5 : IntKind.u8.wrap (D : Int) = (D : Int) := IntWalk.u8_in _ ⟨by omega, by omega⟩
      have HX := Lib.hid hx
      have HY := Lib.hid hy
      have HDD : Hid (D = 48 + N / 10 ^ k % 10) := by rw [← hd]; exact hD
      have HC : Hid (str [D] ++ str (dtail N k) = str (dtail N (k + 1))) := by
        have h := str_cons D (dtail N k)
        rw [HDD.out] at h ⊢
        exact h
      have HLT := Lib.hid hlt
      have hfin : (Hid (k = 0) ∧ (whi (N / 10 ^ k) = 0 ∧ wlo (N / 10 ^ k) = 0)) ∨ (whi (N / 10 ^ k) ≠ 0) ∨ (whi (N / 10 ^ k) = 0 ∧ wlo (N / 10 ^ k) ≠ 0) := by
        rcases Nat.eq_zero_or_pos (N / 10 ^ k) with h0 | h0
        · refine .inl ⟨?_, by rw [h0]; exact ⟨rfl, rfl⟩⟩
          rcases Nat.eq_zero_or_pos k with h1 | h1
          · exact h1
          · exact absurd h0 (hK.out.more k h1 hlt)
        · exact .inr (words_ne (by omega) hM)
      have hD256 : Hid (D < 256) := (by omega : D < 256)
      clear hx hy hd hD hz hd10 hM hk hD58
      obtain ⟨s0, hs0⟩ : ∃ s0, s0 = str (dtail N k) := ⟨_, rfl⟩
      have HSZ : Hid ((str [D]).size + s0.size ≤ 9223372036854775807) := by
        have h1 := str_size [D]
        have h2 := str_size (dtail N k)
        rw [dtail_length, ← hs0] at h2
        show (str [D]).size + s0.size ≤ 9223372036854775807
        rw [h1, h2, List.length_singleton]
        omega
      have HS0 := Lib.hid hs0
      clear hlt
      rw [← hs0] at HC ⊢
      rcases hfin with ⟨hk0, z0, z1⟩ | hne | ⟨z0, hne⟩
      · have e0 : s0.toList.isEmpty = true := by rw [hs0, hk0.out, str_isEmpty]; rfl
        have HD : Hid (∀ w, Calls Tryz.prog 28 #[.agg #[.int .u64 0, .int .u64 0], .int .u64 10] w fun e w' =>
          e = .returned (.tuple #[.agg #[.int .u64 x, .int .u64 y], .int .u64 d]) ∧ Below w.heap.size w w') := by
          have h := HD.out
          rw [z0, z1] at h
          exact h
        rw [z0] at c0
        rw [z1] at c1
        simp at c0 c1
        clear hs0 z0 z1
        go_wp2_with fail
        refine (HD.out _).mono ?_
        rintro e w1 ⟨rfl, hb1⟩
        have HT := Lib.hid (HT.out.below hb1)
        have conv := conv_one (w1.alloc (.cells #[.int .u64 x, .int .u64 y] 43)) D hD256.out
        rw [World.size_alloc] at conv
        have TT := (Two.new w1 (x : Int) (y : Int)).alloc (.cells #[.int .u8 (D : Int)] 5)
        have q0 := TT.1
        have q1 := TT.2
        have HT2 := Lib.hid (HT.out.below (below_two w1 (.cells #[.int .u64 x, .int .u64 y] 43) (.cells #[.int .u8 (D : Int)] 5)))
        obtain ⟨c0, c1, c2, c3⟩ := HT2.out.box
        have HT3 := Lib.hid (HT2.out.put (j := k + 1))
        rw [← HX.out, ← HY.out] at HT3
        clear TT hb1
        have hsz := HSZ.out
        go_wp2_with fail
        rw [HC.out]
        go_roundw
        case rel => exact ⟨k + 1, by have := HLT.out; omega, rfl, HT3.out⟩
        case measure =>
          simp only [textLen, str_size, dtail_length]
          rw [HS0.out, str_size, dtail_length]
          have := HLT.out
          omega
      · obtain ⟨u, hu⟩ : ∃ u, u = whi (N / 10 ^ k) := ⟨_, rfl⟩
        rw [← hu] at c0 hne HD
        have hui : ((u : Int) == 0) = false := by simp; omega
        clear hs0 hu hne
        go_wp2_with fail
        refine (HD.out _).mono ?_
        rintro e w1 ⟨rfl, hb1⟩
        have HT := Lib.hid (HT.out.below hb1)
        have conv := conv_one (w1.alloc (.cells #[.int .u64 x, .int .u64 y] 43)) D hD256.out
        rw [World.size_alloc] at conv
        have TT := (Two.new w1 (x : Int) (y : Int)).alloc (.cells #[.int .u8 (D : Int)] 5)
        have q0 := TT.1
        have q1 := TT.2
        have HT2 := Lib.hid (HT.out.below (below_two w1 (.cells #[.int .u64 x, .int .u64 y] 43) (.cells #[.int .u8 (D : Int)] 5)))
        obtain ⟨c0, c1, c2, c3⟩ := HT2.out.box
        have HT3 := Lib.hid (HT2.out.put (j := k + 1))
        rw [← HX.out, ← HY.out] at HT3
        clear TT hb1
        have hsz := HSZ.out
        go_wp2_with fail
        rw [HC.out]
        go_roundw
        case rel => exact ⟨k + 1, by have := HLT.out; omega, rfl, HT3.out⟩
        case measure =>
          simp only [textLen, str_size, dtail_length]
          rw [HS0.out, str_size, dtail_length]
          have := HLT.out
          omega
      · obtain ⟨v, hv⟩ : ∃ v, v = wlo (N / 10 ^ k) := ⟨_, rfl⟩
        rw [← hv] at c1 hne HD
        have HD : Hid (∀ w, Calls Tryz.prog 28 #[.agg #[.int .u64 0, .int .u64 v], .int .u64 10] w fun e w' =>
          e = .returned (.tuple #[.agg #[.int .u64 x, .int .u64 y], .int .u64 d]) ∧ Below w.heap.size w w') := by
          have h := HD.out
          rw [z0] at h
          exact h
        rw [z0] at c0
        simp at c0
        have hvi : ((v : Int) == 0) = false := by simp; omega
        clear hs0 hv hne z0
        go_wp2_with fail
        refine (HD.out _).mono ?_
        rintro e w1 ⟨rfl, hb1⟩
        have HT := Lib.hid (HT.out.below hb1)
        have conv := conv_one (w1.alloc (.cells #[.int .u64 x, .int .u64 y] 43)) D hD256.out
        rw [World.size_alloc] at conv
        have TT := (Two.new w1 (x : Int) (y : Int)).alloc (.cells #[.int .u8 (D : Int)] 5)
        have q0 := TT.1
        have q1 := TT.2
        have HT2 := Lib.hid (HT.out.below (below_two w1 (.cells #[.int .u64 x, .int .u64 y] 43) (.cells #[.int .u8 (D : Int)] 5)))
        obtain ⟨c0, c1, c2, c3⟩ := HT2.out.box
        have HT3 := Lib.hid (HT2.out.put (j := k + 1))
        rw [← HX.out, ← HY.out] at HT3
        clear TT hb1
        have hsz := HSZ.out
        go_wp2_with fail
        rw [HC.out]
        go_roundw
        case rel => exact ⟨k + 1, by have := HLT.out; omega, rfl, HT3.out⟩
        case measure =>
          simp only [textLen, str_size, dtail_length]
          rw [HS0.out, str_size, dtail_length]
          have := HLT.out
          omega
end Go.Proofs.YtpalnlbdfmiadaaGreatDoor
