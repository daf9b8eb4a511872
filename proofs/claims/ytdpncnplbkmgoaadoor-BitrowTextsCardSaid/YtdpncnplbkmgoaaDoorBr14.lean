/-
  bytes.Repeat of one byte; the document's Text.
-/
import Derived.Test.YtdpncnplbkmgoaaDoorBr13
import Derived.Lib.MakeNoZero
import Derived.Laws.Externs
namespace Go.Proofs.YtdpncnplbkmgoaaDoor
open Go.RowKit
set_option linter.unusedVariables false

theorem add_wrap {k e : Nat} (h : k + e ≤ 65536) : IntKind.i64.wrap ((k : Int) + (e : Int)) = ((k + e : Nat) : Int) := by rw [IntKind.wrap_i64]; omega
theorem mul64_one (n : Nat) (w : World) (hn : n ≤ 65536) :
    Calls Tryd.prog 48 #[.int .u64 1, .int .u64 (n : Int)] w fun e w' => e = .returned (.tuple #[.int .u64 0, .int .u64 (n : Int)]) ∧ w = w' := by
  have k1 : bits .and .u64 1 4294967295 = 1 := by decide
  have k2 : bits .and .u64 (n : Int) 4294967295 = (n : Int) := by
    have h := and_u64 n 4294967295 n (by omega) (by decide) (by
      have : n &&& 4294967295 = n % 2 ^ 32 := Nat.and_two_pow_sub_one_eq_mod n 32
      rw [this]; exact Nat.mod_eq_of_lt (by omega))
    exact h
  have k3 : (n : Int) / 4294967296 = 0 := by omega
  have k4 : bits .and .u64 0 4294967295 = 0 := by decide
  have hni : (n : Int) ≤ 65536 := by omega
  clear hn
  go_enter Tryd.func48, Tryd.ntmps48
  go_wp2_with fail
  go_ret2
  exact ⟨by simp [k3], rfl⟩
theorem mul_one (n : Nat) (w : World) (hn : n ≤ 65536) :
    Calls Tryd.prog 45 #[.int .u64 1, .int .u64 (n : Int)] w fun e w' => e = .returned (.tuple #[.int .u64 0, .int .u64 (n : Int)]) ∧ w = w' := by
  have C := Lib.hid (fun w => mul64_one n w hn)
  clear hn
  go_enter Tryd.func45, Tryd.ntmps45
  go_wp2_with (go_at_call 48; refine (C.out _).mono ?_; rintro e w' ⟨rfl, rfl⟩)
  go_ret2
  exact ⟨rfl, rfl⟩

/-- Block g has n cells or more, may be written, and the first k are the byte 48. -/
def Zeros (W : World) (g n k : Nat) : Prop := ∃ cur : Array Value, W.heap[g]? = some (.cells cur 5 (0, 0)) ∧ n ≤ cur.size ∧ ∀ j, j < k → cur[j]? = some (.int .u8 48)
theorem Zeros.cell {W : World} {g n k : Nat} (h : Zeros W g n k) (j : Nat) (hj : j < k) : W.cell? ⟨g, j, none⟩ = some (.int .u8 48) := by
  obtain ⟨cur, h1, _, h3⟩ := h
  rw [cell_of_row W g j _ _ _ h1]
  exact h3 j hj
theorem Zeros.copy {W : World} {g n k d e : Nat} (h : Zeros W g n k) (hd : d ≤ k) (he : e = min d (n - k)) (hk : k < n) (dc sc : Nat) :
    ∃ W2, Sem.run Tryd.prog (Builtin.copy_ #[54, 54] 3 #[.slice (some ⟨g, k, none⟩) (n - k) dc, .slice (some ⟨g, 0, none⟩) d sc]) W = .ok (.int .i64 (e : Nat)) W2 ∧ Zeros W2 g n (k + e) ∧ Below g W W2 := by
  obtain ⟨cur, h1, h2, h3⟩ := h
  have hr := run_copy_row (P := Tryd.prog) W 54 54 3 5 g k (n - k) dc ⟨g, 0, none⟩ d sc cur _ (List.replicate e (.int .u8 48)) Tryd.underlying54 u8_size h1
    (by rw [List.length_replicate]; exact he)
    (fun j v hj => by
      rw [List.getElem?_replicate] at hj
      split at hj
      · injection hj with hj
        rw [← hj, add_flat, Nat.zero_add, cell_of_row W g j _ _ _ h1]
        exact h3 j (by omega)
      · cases hj) (by rw [List.length_replicate]; omega) (fun v hv => by rw [List.eq_of_mem_replicate hv]; rfl)
  refine ⟨_, hr.trans (by rw [List.length_replicate]; rfl), ⟨_, setRow_heap W g _ _ _ _ h1, ?_, ?_⟩, below_setRow (Below.refl _ _) (Nat.le_refl _) _⟩
  · simp; omega
  · intro j hj
    simp only [List.getElem?_toArray]
    by_cases h4 : j < k
    · rw [List.append_assoc, List.getElem?_append_left (by simp; omega), List.getElem?_take, if_pos h4, Array.getElem?_toList]
      exact h3 j h4
    · rw [List.append_assoc, List.getElem?_append_right (by simp; omega), List.getElem?_append_left (by simp; omega), List.getElem?_replicate, if_pos (by simp; omega)]
/-- The first copy: one byte from elsewhere. -/
theorem Zeros.first {W : World} {g n b : Nat} (h : Zeros W g n 0) (hn : 0 < n) (hb : W.cell? ⟨b, 0, none⟩ = some (.int .u8 48)) :
    ∃ W2, Sem.run Tryd.prog (Builtin.copy_ #[54, 54] 3 #[.slice (some ⟨g, 0, none⟩) n n, .slice (some ⟨b, 0, none⟩) 1 1]) W = .ok (.int .i64 1) W2 ∧ Zeros W2 g n 1 ∧ Below g W W2 := by
  obtain ⟨cur, h1, h2, h3⟩ := h
  have hr := run_copy_row (P := Tryd.prog) W 54 54 3 5 g 0 n n ⟨b, 0, none⟩ 1 1 cur _ [.int .u8 48] Tryd.underlying54 u8_size h1
    (by show 1 = min 1 n; omega)
    (fun j v hj => by
      cases j with
      | zero => simp at hj; subst hj; exact hb
      | succ j => simp at hj) (by simp; omega) (fun v hv => by simp at hv; subst hv; rfl)
  refine ⟨_, hr, ⟨_, setRow_heap W g _ _ _ _ h1, ?_, ?_⟩, below_setRow (Below.refl _ _) (Nat.le_refl _) _⟩
  · simp; omega
  · intro j hj
    obtain rfl : j = 0 := by omega
    simp

theorem makenozero (n : Nat) (w : World) (hn : n ≤ 65536) :
    ∃ cs : Array Value, (callFunc 46 #[.int .i64 (n : Int)]).run Tryd.prog w = .ok (.value (.slice (some ⟨w.heap.size, 0, none⟩) n cs.size)) ((w.alloc (.cells cs 5)).drewN 2) ∧ n ≤ cs.size := by
  obtain ⟨cs, hrunM, hle, _⟩ := Lib.run_makeNoZero (P := Tryd.prog) w #[3] 54 5 Tryd.underlying54 n (by omega)
  refine ⟨cs, ?_, hle⟩
  rw [run_callFunc_extern Tryd.func46 (by kernel_rfl) (by kernel_rfl) (by kernel_rfl) (e := Extern.BytealgMakeNoZero.makeNoZero #[3] #[54]) (by kernel_rfl), hrunM]
  rfl

set_option maxRecDepth 10000 in
set_option maxHeartbeats 1600000 in
theorem repeat_any (b n : Nat) (w : World) (hn0 : 0 < n) (hn : n ≤ 65536) (hb : w.cell? ⟨b, 0, none⟩ = some (.int .u8 48)) :
    Calls Tryd.prog 40 #[.slice (some ⟨b, 0, none⟩) 1 1, .int .i64 (n : Int)] w fun e w' => ∃ g, e = .returned (.slice (some ⟨g, 0, none⟩) n n) ∧ w.heap.size ≤ g ∧ Zeros w' g n n ∧ Below w.heap.size w w' := by
  have C := Lib.hid (fun w => mul_one n w hn)
  have hni : (n : Int) ≤ 65536 := by omega
  have hni0 : (0 : Int) < (n : Int) := by omega
  obtain ⟨cs, hmk, hcs⟩ := makenozero n w hn
  have hz : Zeros ((w.alloc (.cells cs 5)).drewN 2) w.heap.size n 0 := ⟨cs, heap_alloc_new w _, hcs, fun j hj => absurd hj (Nat.not_lt_zero _)⟩
  obtain ⟨W2, hcp, hz2, hb2⟩ := hz.first hn0 ((World.cell?_alloc_lt w _ ⟨b, 0, none⟩ (cell_lt hb)).trans hb)
  have HZ := Lib.hid hz2
  have HB : Hid (Below w.heap.size w W2) := (below_drewN' ((Below.refl _ w).alloc (Nat.le_refl _) _) 2).trans hb2
  have i1 : (n : Int) ≤ (cs.size : Int) := by omega
  have i2 : (0 : Int) ≤ (n : Int) := by omega
  have hne : ((n : Int) == 0) = false := by rw [beq_eq_false_iff_ne]; omega
  clear hz hz2 hb2 hn hb
  by_cases hbig : 8192 < n
  · have hb2 : (8192 : Int) < (n : Int) := by omega
    go_enter Tryd.func40, Tryd.ntmps40
    go_wp2_with (go_at_call 45; refine (C.out _).mono ?_; rintro e w' ⟨rfl, rfl⟩)
    clear hmk hcp C i1 i2 hne
    go_loopw [10] (fun i wr => ∃ k : Nat, 1 ≤ k ∧ k ≤ n ∧ i = .int .i64 (k : Int) ∧ Zeros wr w.heap.size n k ∧ Below w.heap.size w wr) (fun i _ => n - (intOf i).toNat)
    case atStart => exact ⟨1, Nat.le_refl _, hn0, rfl, HZ.out, HB.out⟩
    case round =>
      clear HZ HB
      obtain ⟨k, hk1, hk, rfl, hz, hb⟩ := hrel
      have HZ := Lib.hid hz
      have HB := Lib.hid hb
      clear hz hb
      by_cases hlt : k < n
      · by_cases hk8 : 8192 < k
        · have hk9 : (8192 : Int) < (k : Int) := by omega
          obtain ⟨e, he⟩ : ∃ e, e = min 8192 (n - k) := ⟨_, rfl⟩
          obtain ⟨W3, hcp3, hz3, hb3⟩ := (show Zeros wr.drew w.heap.size n k from HZ.out).copy (d := 8192) (e := e) (by omega) he hlt (n - k) n
          have hnk : ¬ n = k := by omega
          have hki : (k : Int) ≤ (n : Int) := by omega
          have HD := Lib.hid (show 0 < e ∧ k + e ≤ n by omega)
          have HZ3 := Lib.hid hz3
          have HB3 := Lib.hid (HB.out.drew.trans hb3)
          have hei : (e : Int) ≤ 65536 := by omega
          have HWE : Hid (IntKind.i64.wrap ((k : Int) + (e : Int)) = ((k + e : Nat) : Int)) := add_wrap (by omega)
          have w1 := q_wrap (n := 65537) (q := k) (by omega) (by decide)
          have hkn : ¬ n < k := by omega
          clear hz3 hb3 he
          go_wp2_with fail
          go_region_with (fail)
          all_goals
            simp only [Act.put, Act.eval, List.getElem_toArray, List.getElem_cons_zero, List.getElem_cons_succ, List.setIfInBounds_toArray, List.set_cons_zero, List.set_cons_succ]
            rw [HWE.out]
            go_roundw
            case rel => exact ⟨_, _, _, _, _, _, _, _, _, _, _, _, _, _, _, _, _, ⟨k + e, Nat.le_trans hk1 (Nat.le_add_right _ _), HD.out.2, rfl, HZ3.out, HB3.out⟩, rfl⟩
            case measure => have := HD.out; simp [intOf]; omega
        · have hk9 : (k : Int) ≤ 8192 := by omega
          obtain ⟨e, he⟩ : ∃ e, e = min k (n - k) := ⟨_, rfl⟩
          obtain ⟨W3, hcp3, hz3, hb3⟩ := (show Zeros wr.drew w.heap.size n k from HZ.out).copy (d := k) (e := e) (by omega) he hlt (n - k) n
          have hnk : ¬ n = k := by omega
          have hki : (k : Int) ≤ (n : Int) := by omega
          have HD := Lib.hid (show 0 < e ∧ k + e ≤ n by omega)
          have HZ3 := Lib.hid hz3
          have HB3 := Lib.hid (HB.out.drew.trans hb3)
          have hei : (e : Int) ≤ 65536 := by omega
          have HWE : Hid (IntKind.i64.wrap ((k : Int) + (e : Int)) = ((k + e : Nat) : Int)) := add_wrap (by omega)
          have w1 := q_wrap (n := 65537) (q := k) (by omega) (by decide)
          have hkn : ¬ n < k := by omega
          clear hz3 hb3 he
          go_wp2_with fail
          go_region_with (fail)
          all_goals
            simp only [Act.put, Act.eval, List.getElem_toArray, List.getElem_cons_zero, List.getElem_cons_succ, List.setIfInBounds_toArray, List.set_cons_zero, List.set_cons_succ]
            rw [HWE.out]
            go_roundw
            case rel => exact ⟨_, _, _, _, _, _, _, _, _, _, _, _, _, _, _, _, _, ⟨k + e, Nat.le_trans hk1 (Nat.le_add_right _ _), HD.out.2, rfl, HZ3.out, HB3.out⟩, rfl⟩
            case measure => have := HD.out; simp [intOf]; omega
      · obtain rfl : k = n := by omega
        clear hlt hk
        go_wp2_with fail
        go_ret
        exact ⟨_, rfl, Nat.le_refl _, HZ.out, HB.out⟩
  · have hb2 : (n : Int) ≤ 8192 := by omega
    go_enter Tryd.func40, Tryd.ntmps40
    go_wp2_with (go_at_call 45; refine (C.out _).mono ?_; rintro e w' ⟨rfl, rfl⟩)
    clear hmk hcp C i1 i2 hne
    go_loopw [10] (fun i wr => ∃ k : Nat, 1 ≤ k ∧ k ≤ n ∧ i = .int .i64 (k : Int) ∧ Zeros wr w.heap.size n k ∧ Below w.heap.size w wr) (fun i _ => n - (intOf i).toNat)
    case atStart => exact ⟨1, Nat.le_refl _, hn0, rfl, HZ.out, HB.out⟩
    case round =>
      clear HZ HB
      obtain ⟨k, hk1, hk, rfl, hz, hb⟩ := hrel
      have HZ := Lib.hid hz
      have HB := Lib.hid hb
      clear hz hb
      by_cases hlt : k < n
      · skip
        obtain ⟨e, he⟩ : ∃ e, e = min k (n - k) := ⟨_, rfl⟩
        obtain ⟨W3, hcp3, hz3, hb3⟩ := (show Zeros wr.drew w.heap.size n k from HZ.out).copy (d := k) (e := e) (by omega) he hlt (n - k) n
        have hnk : ¬ n = k := by omega
        have hki : (k : Int) ≤ (n : Int) := by omega
        have HD := Lib.hid (show 0 < e ∧ k + e ≤ n by omega)
        have HZ3 := Lib.hid hz3
        have HB3 := Lib.hid (HB.out.drew.trans hb3)
        have hei : (e : Int) ≤ 65536 := by omega
        have HWE : Hid (IntKind.i64.wrap ((k : Int) + (e : Int)) = ((k + e : Nat) : Int)) := add_wrap (by omega)
        have w1 := q_wrap (n := 65537) (q := k) (by omega) (by decide)
        have hkn : ¬ n < k := by omega
        clear hz3 hb3 he
        go_wp2_with fail
        go_region_with (fail)
        all_goals
          simp only [Act.put, Act.eval, List.getElem_toArray, List.getElem_cons_zero, List.getElem_cons_succ, List.setIfInBounds_toArray, List.set_cons_zero, List.set_cons_succ]
          rw [HWE.out]
          go_roundw
          case rel => exact ⟨_, _, _, _, _, _, _, _, _, _, _, _, _, _, _, _, _, ⟨k + e, Nat.le_trans hk1 (Nat.le_add_right _ _), HD.out.2, rfl, HZ3.out, HB3.out⟩, rfl⟩
          case measure => have := HD.out; simp [intOf]; omega
      · obtain rfl : k = n := by omega
        clear hlt hk
        go_wp2_with fail
        go_ret
        exact ⟨_, rfl, Nat.le_refl _, HZ.out, HB.out⟩
end Go.Proofs.YtdpncnplbkmgoaaDoor
