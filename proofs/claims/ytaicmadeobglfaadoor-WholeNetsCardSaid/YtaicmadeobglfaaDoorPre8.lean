/-
  The contract of prefix's Print.
-/
import Derived.Test.YtaicmadeobglfaaDoorPre7
namespace Go.Proofs.YtaicmadeobglfaaDoor
open Go.RowKit
set_option linter.unusedVariables false

/-- The text of an address. -/
def paddr (V : Int) (X : List Nat) : ByteArray := if V = 4 then dstr (X.getD 0 0) (X.getD 1 0) (X.getD 2 0) (X.getD 3 0) else pstr6 (grps X)
/-- The text of a prefix that may be. -/
def ptext (V : Int) (X : List Nat) (m : Nat) : ByteArray := paddr V X ++ ⟨#[47]⟩ ++ ⟨(Lib.decDigits m).toArray⟩
def pprint (V : Int) (X : List Nat) (n : Int) : ByteArray := if pcheck V X n = 0 then ptext V X n.toNat else ByteArray.empty
theorem dec_size {m : Nat} (h : m ≤ 999) : (Lib.decDigits m).length ≤ 3 := by
  have key : ∀ m, m < 1000 → (Lib.decDigits m).length ≤ 3 := by decide +kernel
  exact key m (by omega)
theorem paddr_size {V : Int} {X : List Nat} (hX : Adr X) : (paddr V X).size ≤ 1000 := by
  unfold paddr
  split
  · have h := dtext_len (a := X.getD 0 0) (b := X.getD 1 0) (c := X.getD 2 0) (d := X.getD 3 0) (by have := hX.at 0; omega) (by have := hX.at 1; omega) (by have := hX.at 2; omega) (by have := hX.at 3; omega)
    have : (dstr (X.getD 0 0) (X.getD 1 0) (X.getD 2 0) (X.getD 3 0)).size = (dtext (X.getD 0 0) (X.getD 1 0) (X.getD 2 0) (X.getD 3 0)).length := by simp [dstr, ByteArray.size]
    omega
  · have hl := colPrint_len (grps_lt hX.lt) (grps_length X)
    have : (pstr6 (grps X)).size = (colPrint (grps X)).length := by simp [pstr6, ByteArray.size]
    omega
theorem quietAt_cat2 {C : World → Prop} {o : Oper} {a : Act} {W : World} {x y : Operand} {s t : ByteArray} (ho : o.op = .binOp .add 9 x y 9) (hx : a.eval x = .string s) (hy : a.eval y = .string t) (h : s.size + t.size ≤ 9223372036854775807) :
    Oper.quietAt Tryd.prog o a C W (.string (s ++ t)) := by
  have h' : ¬ (9223372036854775807 < s.size + t.size) := by omega
  unfold Oper.quietAt execOp
  simp only [ho, hx, hy]
  simp [go_sem, h', Oper.quietUpon]
theorem KV.fill {w W W' : World} {L : List (TypeId × Nat × List Value)} (h : KV w L W) {t : TypeId} {cs : List Value} {o : Obj} (hs : ArrV t W' W.heap.size cs) (hb : Below W.heap.size (W.alloc o) W') : KV w (L ++ [(t, W.heap.size, cs)]) W' := by
  have hn : ∀ (i : Nat) p, (L ++ [(t, W.heap.size, cs)])[i]? = some p → L[i]? = some p ∨ (i = L.length ∧ p = (t, W.heap.size, cs)) := fun i p hp => by
    rcases Nat.lt_or_ge i L.length with hi | hi
    · rw [List.getElem?_append_left hi] at hp; exact .inl hp
    · rw [List.getElem?_append_right hi] at hp
      rcases Nat.eq_zero_or_pos (i - L.length) with e | e
      · rw [e] at hp; injection hp with hp; exact .inr ⟨by omega, hp.symm⟩
      · rw [List.getElem?_eq_none (by simp; omega)] at hp; cases hp
  refine ⟨fun i p hp => ?_, fun i p hp => ?_, fun i j p q hp hq hij => ?_, (h.bel.alloc h.bel.size _).trans (hb.mono h.bel.size)⟩
  · rcases hn i p hp with h1 | ⟨_, rfl⟩
    · exact ((h.arr i p h1).alloc o).belowB hb (h.arr i p h1).lt
    · exact hs
  · rcases hn i p hp with h1 | ⟨_, rfl⟩
    · exact h.own i p h1
    · exact h.bel.size
  · rcases hn i p hp with h1 | ⟨e1, rfl⟩
    · rcases hn j q hq with h2 | ⟨_, rfl⟩
      · exact h.apart i j p q h1 h2 hij
      · exact Nat.ne_of_lt (h.arr i p h1).lt
    · rcases hn j q hq with h2 | ⟨e2, rfl⟩
      · exact Ne.symm (Nat.ne_of_lt (h.arr j q h2).lt)
      · exact absurd (e1.trans e2.symm) hij
theorem pc_src {V : Int} {X : List Nat} {n : Int} {P : List Value} (h : PcParts V X n P) {t : TypeId} {W : World} {g : Nat} (hA : ArrV t W g P) : ∀ (j : Nat) v, (bcells X)[j]? = some v → W.cell? ⟨g, 1 + j, none⟩ = some v := fun j v hv => by
  rw [hA.get]
  rw [← h.addr, List.getElem?_take] at hv
  split at hv
  · rw [List.getElem?_drop] at hv; exact hv
  · cases hv
theorem four_of {X : List Nat} (hX : X.length = 16) : ∃ x0 x1 x2 x3, X.getD 0 0 = x0 ∧ X.getD 1 0 = x1 ∧ X.getD 2 0 = x2 ∧ X.getD 3 0 = x3 ∧ X.take 4 = [x0, x1, x2, x3] := by
  obtain ⟨a, b, c, d, e, f, g, h, i, j, k, l, m, n', o, p, rfl⟩ := split16 hX
  exact ⟨a, b, c, d, rfl, rfl, rfl, rfl, rfl⟩
set_option maxRecDepth 10000 in
set_option maxHeartbeats 6400000 in
theorem pprint_any (V : Int) (X : List Nat) (n : Int) (w : World) (hX : Adr X) (hT : Six w) : Calls Tryd.prog 8 #[.agg (pcells V X n).toArray] w fun e w' => e = .returned (.string (pprint V X n)) ∧ Below w.heap.size w w' := by
  have HP := Lib.hid (pc_parts V n hX.len)
  have hs16 : (bcells X).length = 16 := by rw [bcells_length, hX.len]
  have CC := Lib.hid (fun w => pcheck_any V X n w hX)
  have HT := Lib.hid hT
  obtain ⟨P, hP⟩ : ∃ P, P = pcells V X n := ⟨_, rfl⟩
  rw [← hP] at HP CC ⊢
  have K0 : Hid (KV w [(24, w.heap.size, P)] (w.alloc (.cells P.toArray 24))) := KV.one w _ _
  clear hP hT
  by_cases hc : pcheck V X n = 0
  · obtain ⟨hn0, hn1⟩ := pfits_ok (pcheck_len hc)
    obtain ⟨m, hm⟩ := Int.eq_ofNat_of_zero_le hn0
    have hm2 : n = ((m : Nat) : Int) := hm
    subst hm2
    have HF : Hid (pprint V X (m : Int) = paddr V X ++ ⟨#[47]⟩ ++ ⟨(Lib.decDigits m).toArray⟩) := by show _ = _; unfold pprint; rw [if_pos hc]; rfl
    have CI := Lib.hid (fun w h => itoa_any m w (by omega) h)
    have hD : (⟨(Lib.decDigits m).toArray⟩ : ByteArray).size ≤ 3 := by have := dec_size (m := m) (by omega); simpa [ByteArray.size] using this
    have hA := paddr_size (V := V) hX
    have CP := Lib.hid (fun w h => cprint_any X w hX.len hX.lt h)
    rw [hc] at CC
    generalize hDe : (⟨(Lib.decDigits m).toArray⟩ : ByteArray) = D at *
    by_cases hv : V = 4
    · obtain ⟨x0, x1, x2, x3, e0, e1, e2, e3, e4⟩ := four_of hX.len
      have CD : Hid (∀ w, Pow w → Calls Tryd.prog 18 #[.agg (bcells [x0, x1, x2, x3]).toArray] w fun e w' => e = .returned (.string (paddr V X)) ∧ Below w.heap.size w w') := fun w h => by
        have h1 := print_any x0 x1 x2 x3 w (by have := hX.at 0; omega) (by have := hX.at 1; omega) (by have := hX.at 2; omega) (by have := hX.at 3; omega) h
        unfold paddr
        rw [if_pos hv, e0, e1, e2, e3]
        exact h1
      have HX4 : Hid (X.take 4 = [x0, x1, x2, x3]) := e4
      subst hv
      clear hc hX hn0 hn1 hm hDe e0 e1 e2 e3 e4
      generalize pstr6 (grps X) = S6 at *
      generalize paddr 4 X = S at *
      have hc1 : Hid (S.size + (⟨#[47]⟩ : ByteArray).size ≤ 9223372036854775807) := by show S.size + 1 ≤ _; omega
      have hc2 : Hid ((S ++ ⟨#[47]⟩).size + D.size ≤ 9223372036854775807) := by show _ ≤ _; rw [ByteArray.size_append]; show S.size + 1 + D.size ≤ _; omega
      clear hD hA
      go_enter Tryd.func8, Tryd.ntmps8
      go_upto_region 1 with fail
      refine wp_region_lit ?_
      refine wpList_quiet_all (C := KV w [(24, w.heap.size, P)]) K0.out ?_
      repeat (first
        | go_big_quiet_skip
        | (go_big_quiet_want; apply Exists.intro; refine ⟨fun w' hw' => (by first | exact quietAt_part rfl rfl typfx (hw'.at 0 rfl) HP.out.all HP.out.len | exact quietAt_cell rfl rfl one_int (hw'.at 0 rfl) HP.out.v | exact quietAt_cell rfl rfl one_int (hw'.at 0 rfl) HP.out.n | exact quietAt_part rfl rfl ty16 (hw'.at 0 rfl) HP.out.addr hs16 | fail), ?_⟩; simp only [Act.put, List.setIfInBounds_toArray, List.set_cons_zero, List.set_cons_succ]; go_big_quiet_on)
        | (go_big_quiet_want; go_big_quiet_op; go_big_quiet_on)
        | (go_big_quiet_want; go_big_quiet_op; apply Exists.intro; refine ⟨fun w' hw' => (by first | (with_reducible refine (CC.out w').mono ?_; rintro e w'' ⟨rfl, hb⟩; exact ⟨rfl, hw'.below hb⟩) | fail), ?_⟩; go_big_quiet_on)
        | (go_big_quiet_want; go_big_quiet_op; apply Exists.intro; refine ⟨fun w' hw' => rfl, ?_⟩; go_big_quiet_on))
      refine wpQuiet_nil ?_
      intro w1 hw1
      go_upto_region 3 with fail
      refine wp_region_lit ?_
      refine wpList_quiet_all (C := KV w [(24, w.heap.size, P)]) hw1 ?_
      repeat (first
        | go_big_quiet_skip
        | (go_big_quiet_want; apply Exists.intro; refine ⟨fun w' hw' => (by first | exact quietAt_part rfl rfl typfx (hw'.at 0 rfl) HP.out.all HP.out.len | exact quietAt_cell rfl rfl one_int (hw'.at 0 rfl) HP.out.v | exact quietAt_cell rfl rfl one_int (hw'.at 0 rfl) HP.out.n | exact quietAt_part rfl rfl ty16 (hw'.at 0 rfl) HP.out.addr hs16 | fail), ?_⟩; simp only [Act.put, List.setIfInBounds_toArray, List.set_cons_zero, List.set_cons_succ]; go_big_quiet_on)
        | (go_big_quiet_want; go_big_quiet_op; go_big_quiet_on)
        | (go_big_quiet_want; go_big_quiet_op; apply Exists.intro; refine ⟨fun w' hw' => (by first | (with_reducible refine (CP.out w' (HT.out.below hw'.bel).bru).mono ?_; rintro e w'' ⟨rfl, hb⟩; exact ⟨rfl, hw'.below hb⟩) | fail), ?_⟩; go_big_quiet_on)
        | (go_big_quiet_want; go_big_quiet_op; apply Exists.intro; refine ⟨fun w' hw' => rfl, ?_⟩; go_big_quiet_on))
      refine wpQuiet_nil ?_
      intro w2 hw2
      go_upto_region 4 with fail
      refine wp_region_lit ?_
      refine wpList_quiet_all (C := KV w [(24, w.heap.size, P)]) hw2 ?_
      repeat (first
        | go_big_quiet_skip
        | (go_big_quiet_want; apply Exists.intro; refine ⟨fun w' hw' => (by first | exact quietAt_part rfl rfl typfx (hw'.at 0 rfl) HP.out.all HP.out.len | exact quietAt_cell rfl rfl one_int (hw'.at 0 rfl) HP.out.v | exact quietAt_cell rfl rfl one_int (hw'.at 0 rfl) HP.out.n | exact quietAt_part rfl rfl ty16 (hw'.at 0 rfl) HP.out.addr hs16 | fail), ?_⟩; simp only [Act.put, List.setIfInBounds_toArray, List.set_cons_zero, List.set_cons_succ]; go_big_quiet_on)
        | (go_big_quiet_want; go_big_quiet_op; go_big_quiet_on)
        | (go_big_quiet_want; go_big_quiet_op; apply Exists.intro; refine ⟨fun w' hw' => rfl, ?_⟩; go_big_quiet_on))
      refine wpQuiet_nil ?_
      intro w3 hw3
      go_upto_region 6 with fail
      obtain ⟨w6, hcp, hO, b6⟩ := copy_at bytes_slice u8one 35 (w3.alloc (.cells #[.int .u8 0, .int .u8 0, .int .u8 0, .int .u8 0] 35)).drew w3.heap.size 0 4 4 (bcells [0, 0, 0, 0]) ⟨w.heap.size, 1, none⟩ 16 16 (bcells [x0, x1, x2, x3]) (ArrV.new _ w3 _).drew rfl (fun j v hv => by
        rw [add_flat]
        refine pc_src HP.out (((hw3.at 0 rfl).alloc _).drew) j v ?_
        have h1 : (bcells [x0, x1, x2, x3])[j]? = some v := hv
        rw [← HX4.out, bcells, List.map_take, List.getElem?_take] at h1
        split at h1
        · exact h1
        · cases h1) (Nat.le_refl 4) (bcells_one _)
      have K6 : Hid (KV w [(24, w.heap.size, P), (35, w3.heap.size, bcells [x0, x1, x2, x3])] w6) := hw3.fill hO (((Below.refl _ _).drew).trans b6)
      clear hO b6 hw1 hw2 hw3 K0
      go_region
      clear hcp
      go_upto_region 7 with fail
      refine wp_region_lit ?_
      refine wpList_quiet_all (C := KV w [(24, w.heap.size, P), (35, w3.heap.size, bcells [x0, x1, x2, x3])]) K6.out ?_
      repeat (first
        | go_big_quiet_skip
        | (go_big_quiet_want; apply Exists.intro; refine ⟨fun w' hw' => (by first | exact quietAt_part rfl rfl typfx (hw'.at 0 rfl) HP.out.all HP.out.len | exact quietAt_cell rfl rfl one_int (hw'.at 0 rfl) HP.out.v | exact quietAt_cell rfl rfl one_int (hw'.at 0 rfl) HP.out.n | exact quietAt_part rfl rfl ty16 (hw'.at 0 rfl) HP.out.addr hs16 | exact quietAt_part rfl rfl ty4 (hw'.at 1 rfl) (show ((bcells [x0, x1, x2, x3]).drop 0).take 4 = bcells [x0, x1, x2, x3] from rfl) rfl | fail), ?_⟩; simp only [Act.put, List.setIfInBounds_toArray, List.set_cons_zero, List.set_cons_succ]; go_big_quiet_on)
        | (go_big_quiet_want; go_big_quiet_op; go_big_quiet_on)
        | (go_big_quiet_want; go_big_quiet_op; apply Exists.intro; refine ⟨fun w' hw' => (by first | (with_reducible refine (CD.out w' (HT.out.below hw'.bel).pow).mono ?_; rintro e w'' ⟨rfl, hb⟩; exact ⟨rfl, hw'.below hb⟩) | fail), ?_⟩; go_big_quiet_on)
        | (go_big_quiet_want; go_big_quiet_op; apply Exists.intro; refine ⟨fun w' hw' => rfl, ?_⟩; go_big_quiet_on))
      refine wpQuiet_nil ?_
      intro w4 hw4
      go_upto_region 8 with fail
      refine wp_region_lit ?_
      refine wpList_quiet_all (C := KV w [(24, w.heap.size, P), (35, w3.heap.size, bcells [x0, x1, x2, x3])]) hw4 ?_
      repeat (first
        | go_big_quiet_skip
        | (go_big_quiet_want; apply Exists.intro; refine ⟨fun w' hw' => (by first | exact quietAt_part rfl rfl typfx (hw'.at 0 rfl) HP.out.all HP.out.len | exact quietAt_cell rfl rfl one_int (hw'.at 0 rfl) HP.out.v | exact quietAt_cell rfl rfl one_int (hw'.at 0 rfl) HP.out.n | exact quietAt_part rfl rfl ty16 (hw'.at 0 rfl) HP.out.addr hs16 | exact quietAt_cat2 rfl rfl rfl hc1.out | exact quietAt_cat2 rfl rfl rfl hc2.out | fail), ?_⟩; simp only [Act.put, List.setIfInBounds_toArray, List.set_cons_zero, List.set_cons_succ]; go_big_quiet_on)
        | (go_big_quiet_want; go_big_quiet_op; go_big_quiet_on)
        | (go_big_quiet_want; go_big_quiet_op; apply Exists.intro; refine ⟨fun w' hw' => (by first | (with_reducible refine (CI.out w' (HT.out.below hw'.bel).pow).mono ?_; rintro e w'' ⟨rfl, hb⟩; exact ⟨rfl, hw'.below hb⟩) | fail), ?_⟩; go_big_quiet_on)
        | (go_big_quiet_want; go_big_quiet_op; apply Exists.intro; refine ⟨fun w' hw' => rfl, ?_⟩; go_big_quiet_on))
      refine wpQuiet_nil ?_
      intro w5 hw5
      have BB := Lib.hid hw5.bel
      clear hw4 hw5 K6
      go_wp2_with fail
      go_ret
      exact ⟨by rw [HF.out]; rfl, BB.out⟩
    · have hvb : (V == 4) = false := by simpa using hv
      have HS : Hid (paddr V X = pstr6 (grps X)) := by show _ = _; unfold paddr; rw [if_neg hv]
      rw [HS.out] at hA HF
      clear hv hc hX hn0 hn1 hm hDe HS
      generalize pstr6 (grps X) = S at *
      have hc1 : Hid (S.size + (⟨#[47]⟩ : ByteArray).size ≤ 9223372036854775807) := by show S.size + 1 ≤ _; omega
      have hc2 : Hid ((S ++ ⟨#[47]⟩).size + D.size ≤ 9223372036854775807) := by show _ ≤ _; rw [ByteArray.size_append]; show S.size + 1 + D.size ≤ _; omega
      clear hD hA
      go_enter Tryd.func8, Tryd.ntmps8
      go_upto_region 1 with fail
      refine wp_region_lit ?_
      refine wpList_quiet_all (C := KV w [(24, w.heap.size, P)]) K0.out ?_
      repeat (first
        | go_big_quiet_skip
        | (go_big_quiet_want; apply Exists.intro; refine ⟨fun w' hw' => (by first | exact quietAt_part rfl rfl typfx (hw'.at 0 rfl) HP.out.all HP.out.len | exact quietAt_cell rfl rfl one_int (hw'.at 0 rfl) HP.out.v | exact quietAt_cell rfl rfl one_int (hw'.at 0 rfl) HP.out.n | exact quietAt_part rfl rfl ty16 (hw'.at 0 rfl) HP.out.addr hs16 | fail), ?_⟩; simp only [Act.put, List.setIfInBounds_toArray, List.set_cons_zero, List.set_cons_succ]; go_big_quiet_on)
        | (go_big_quiet_want; go_big_quiet_op; go_big_quiet_on)
        | (go_big_quiet_want; go_big_quiet_op; apply Exists.intro; refine ⟨fun w' hw' => (by first | (with_reducible refine (CC.out w').mono ?_; rintro e w'' ⟨rfl, hb⟩; exact ⟨rfl, hw'.below hb⟩) | fail), ?_⟩; go_big_quiet_on)
        | (go_big_quiet_want; go_big_quiet_op; apply Exists.intro; refine ⟨fun w' hw' => rfl, ?_⟩; go_big_quiet_on))
      refine wpQuiet_nil ?_
      intro w1 hw1
      go_upto_region 3 with fail
      refine wp_region_lit ?_
      refine wpList_quiet_all (C := KV w [(24, w.heap.size, P)]) hw1 ?_
      repeat (first
        | go_big_quiet_skip
        | (go_big_quiet_want; apply Exists.intro; refine ⟨fun w' hw' => (by first | exact quietAt_part rfl rfl typfx (hw'.at 0 rfl) HP.out.all HP.out.len | exact quietAt_cell rfl rfl one_int (hw'.at 0 rfl) HP.out.v | exact quietAt_cell rfl rfl one_int (hw'.at 0 rfl) HP.out.n | exact quietAt_part rfl rfl ty16 (hw'.at 0 rfl) HP.out.addr hs16 | fail), ?_⟩; simp only [Act.put, List.setIfInBounds_toArray, List.set_cons_zero, List.set_cons_succ]; go_big_quiet_on)
        | (go_big_quiet_want; go_big_quiet_op; go_big_quiet_on)
        | (go_big_quiet_want; go_big_quiet_op; apply Exists.intro; refine ⟨fun w' hw' => (by first | (with_reducible refine (CP.out w' (HT.out.below hw'.bel).bru).mono ?_; rintro e w'' ⟨rfl, hb⟩; exact ⟨rfl, hw'.below hb⟩) | fail), ?_⟩; go_big_quiet_on)
        | (go_big_quiet_want; go_big_quiet_op; apply Exists.intro; refine ⟨fun w' hw' => rfl, ?_⟩; go_big_quiet_on))
      refine wpQuiet_nil ?_
      intro w2 hw2
      go_upto_region 4 with fail
      refine wp_region_lit ?_
      refine wpList_quiet_all (C := KV w [(24, w.heap.size, P)]) hw2 ?_
      repeat (first
        | go_big_quiet_skip
        | (go_big_quiet_want; apply Exists.intro; refine ⟨fun w' hw' => (by first | exact quietAt_part rfl rfl typfx (hw'.at 0 rfl) HP.out.all HP.out.len | exact quietAt_cell rfl rfl one_int (hw'.at 0 rfl) HP.out.v | exact quietAt_cell rfl rfl one_int (hw'.at 0 rfl) HP.out.n | exact quietAt_part rfl rfl ty16 (hw'.at 0 rfl) HP.out.addr hs16 | fail), ?_⟩; simp only [Act.put, List.setIfInBounds_toArray, List.set_cons_zero, List.set_cons_succ]; go_big_quiet_on)
        | (go_big_quiet_want; go_big_quiet_op; go_big_quiet_on)
        | (go_big_quiet_want; go_big_quiet_op; apply Exists.intro; refine ⟨fun w' hw' => rfl, ?_⟩; go_big_quiet_on))
      refine wpQuiet_nil ?_
      intro w3 hw3
      go_upto_region 8 with fail
      refine wp_region_lit ?_
      refine wpList_quiet_all (C := KV w [(24, w.heap.size, P)]) hw3 ?_
      repeat (first
        | go_big_quiet_skip
        | (go_big_quiet_want; apply Exists.intro; refine ⟨fun w' hw' => (by first | exact quietAt_part rfl rfl typfx (hw'.at 0 rfl) HP.out.all HP.out.len | exact quietAt_cell rfl rfl one_int (hw'.at 0 rfl) HP.out.v | exact quietAt_cell rfl rfl one_int (hw'.at 0 rfl) HP.out.n | exact quietAt_part rfl rfl ty16 (hw'.at 0 rfl) HP.out.addr hs16 | exact quietAt_cat2 rfl rfl rfl hc1.out | exact quietAt_cat2 rfl rfl rfl hc2.out | fail), ?_⟩; simp only [Act.put, List.setIfInBounds_toArray, List.set_cons_zero, List.set_cons_succ]; go_big_quiet_on)
        | (go_big_quiet_want; go_big_quiet_op; go_big_quiet_on)
        | (go_big_quiet_want; go_big_quiet_op; apply Exists.intro; refine ⟨fun w' hw' => (by first | (with_reducible refine (CI.out w' (HT.out.below hw'.bel).pow).mono ?_; rintro e w'' ⟨rfl, hb⟩; exact ⟨rfl, hw'.below hb⟩) | fail), ?_⟩; go_big_quiet_on)
        | (go_big_quiet_want; go_big_quiet_op; apply Exists.intro; refine ⟨fun w' hw' => rfl, ?_⟩; go_big_quiet_on))
      refine wpQuiet_nil ?_
      intro w5 hw5
      have BB := Lib.hid hw5.bel
      clear hw1 hw2 hw3 hw5 K0
      go_wp2_with fail
      go_ret
      exact ⟨by rw [HF.out]; rfl, BB.out⟩
  · have HF : Hid (pprint V X n = ByteArray.empty) := by show _ = _; unfold pprint; rw [if_neg hc]
    have hcb : (pcheck V X n != 0) = true := by simpa using hc
    clear hc hX
    generalize pcheck V X n = f at *
    go_enter Tryd.func8, Tryd.ntmps8
    go_upto_region 1 with fail
    refine wp_region_lit ?_
    refine wpList_quiet_all (C := KV w [(24, w.heap.size, P)]) K0.out ?_
    repeat (first
      | go_big_quiet_skip
      | (go_big_quiet_want; apply Exists.intro; refine ⟨fun w' hw' => (by first | exact quietAt_part rfl rfl typfx (hw'.at 0 rfl) HP.out.all HP.out.len | exact quietAt_cell rfl rfl one_int (hw'.at 0 rfl) HP.out.v | exact quietAt_cell rfl rfl one_int (hw'.at 0 rfl) HP.out.n | exact quietAt_part rfl rfl ty16 (hw'.at 0 rfl) HP.out.addr hs16 | fail), ?_⟩; simp only [Act.put, List.setIfInBounds_toArray, List.set_cons_zero, List.set_cons_succ]; go_big_quiet_on)
      | (go_big_quiet_want; go_big_quiet_op; go_big_quiet_on)
      | (go_big_quiet_want; go_big_quiet_op; apply Exists.intro; refine ⟨fun w' hw' => (by first | (with_reducible refine (CC.out w').mono ?_; rintro e w'' ⟨rfl, hb⟩; exact ⟨rfl, hw'.below hb⟩) | fail), ?_⟩; go_big_quiet_on)
      | (go_big_quiet_want; go_big_quiet_op; apply Exists.intro; refine ⟨fun w' hw' => rfl, ?_⟩; go_big_quiet_on))
    refine wpQuiet_nil ?_
    intro w1 hw1
    have BB := Lib.hid hw1.bel
    clear hw1 K0
    go_wp2_with fail
    go_ret
    exact ⟨by rw [HF.out]; rfl, BB.out⟩
end Go.Proofs.YtaicmadeobglfaaDoor
