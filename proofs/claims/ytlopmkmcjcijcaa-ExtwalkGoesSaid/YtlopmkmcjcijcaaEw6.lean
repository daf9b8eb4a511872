/-
  The contract of extwalk's check.
-/
import Derived.Test.YtlopmkmcjcijcaaEw5
namespace Go.Proofs.Ytlopmkmcjcijcaa
open Go.RowKit
set_option linter.unusedVariables false

/-- Extension headers that came in, or were laid: kinds and bodies. -/
def ExtsIn (w : World) (v : Value) (M : List (Int × List Nat)) : Prop :=
  ∃ A c, v = .slice A M.length c ∧ M.length ≤ c ∧ ∀ (i : Nat) (m : Int × List Nat), M[i]? = some m → m.2.length ≤ 140737488355328 ∧ ∃ b o bv, A = some ⟨b, o, none⟩ ∧ b < w.heap.size ∧ w.cell? ⟨b, o + i * 2, none⟩ = some (.int .i64 m.1) ∧ w.cell? ⟨b, o + i * 2 + 1, none⟩ = some bv ∧ ByteVal w bv m.2
theorem ExtsIn.below {w w' : World} {v : Value} {M : List (Int × List Nat)} (h : ExtsIn w v M) (hb : Below w.heap.size w w') : ExtsIn w' v M := by
  obtain ⟨A, c, e, h1, h2⟩ := h
  refine ⟨A, c, e, h1, fun i m hm => ?_⟩
  obtain ⟨hl, b, o, bv, ea, hlt, c1, c2, hv⟩ := h2 i m hm
  exact ⟨hl, b, o, bv, ea, Nat.lt_of_lt_of_le hlt hb.size, (hb.cell (p := ⟨b, o + i * 2, none⟩) hlt).trans c1, (hb.cell (p := ⟨b, o + i * 2 + 1, none⟩) hlt).trans c2, hv.below hb⟩
/-- What is wrong with headers, from number i on: an error's number, and where. -/
def exCheckF : List (Int × List Nat) → Nat → Bool → Nat × Nat
  | [], _, _ => (0, 0)
  | (k, b) :: r, i, fr =>
    if exKind k = false then (10, i) else if (exCount k b.length).isSome = false then (3, i) else if k = 0 ∧ 0 < i then (6, i) else if k = 44 ∧ fr = true then (9, i) else exCheckF r (i + 1) (fr || decide (k = 44))
def exCheck (M : List (Int × List Nat)) (proto : Int) : Nat × Nat :=
  if proto < 0 ∨ 255 < proto ∨ exKind proto = true then (1, 0) else if 8 < M.length then (7, 8) else exCheckF M 0 false
def faultV (p : Nat × Nat) : List Value := [.int .i64 (p.1 : Nat), .int .i64 (p.2 : Nat)]
theorem tyfault : RowTy 39 2 := ⟨⟨_, Try.underlying39, rfl⟩, by kernel_rfl⟩
def CheckIs (r : Nat × Nat) (w : World) (e : Ending) (w' : World) : Prop := e = .returned (.agg (faultV r).toArray) ∧ Below w.heap.size w w'
theorem check_done {w V1 U : World} {r : Nat × Nat} (hA : ArrV 39 U w.heap.size [.int .i64 0, .int .i64 0]) (hB : Below w.heap.size w U) (x y : Nat) (h : r = (x, y)) :
    (Go.loadVar 39 ⟨w.heap.size, 0, none⟩).run Try.prog ((U.setCell ⟨w.heap.size, 0, none⟩ (.int .i64 (x : Nat))).setCell ⟨w.heap.size, 1, none⟩ (.int .i64 (y : Nat))) = .ok (.agg (faultV r).toArray) ((U.setCell ⟨w.heap.size, 0, none⟩ (.int .i64 (x : Nat))).setCell ⟨w.heap.size, 1, none⟩ (.int .i64 (y : Nat))) ∧
      CheckIs r w (.returned (.agg (faultV r).toArray)) ((U.setCell ⟨w.heap.size, 0, none⟩ (.int .i64 (x : Nat))).setCell ⟨w.heap.size, 1, none⟩ (.int .i64 (y : Nat))) := by
  subst h
  exact ⟨((hA.set 0 (.int .i64 (x : Nat))).set 1 (.int .i64 (y : Nat))).loadVar tyfault rfl, rfl, (hB.setCell (p := ⟨w.heap.size, 0, none⟩) (Nat.le_refl _) _).setCell (p := ⟨w.heap.size, 1, none⟩) (Nat.le_refl _) _⟩
set_option maxRecDepth 10000 in
set_option maxHeartbeats 6400000 in
theorem excheck_any (v : Value) (M : List (Int × List Nat)) (proto : Int) (w : World) (hM : ExtsIn w v M) (hl : M.length ≤ 140737488355328) :
    Calls Try.prog 59 #[v, .int .i64 proto] w (CheckIs (exCheck M proto) w) := by
  have CI := Lib.hid (exis_any proto)
  obtain ⟨r, hr⟩ : ∃ r, r = exCheck M proto := ⟨_, rfl⟩
  have HRR : Hid (r = if proto < 0 ∨ 255 < proto ∨ exKind proto = true then (1, 0) else if 8 < M.length then (7, 8) else exCheckF M 0 false) := hr
  rw [← hr]
  obtain ⟨V1, e1⟩ : ∃ V, V = w.alloc (.cells #[.int .i64 0, .int .i64 0] 39) := ⟨_, rfl⟩
  have hA : ArrV 39 V1 w.heap.size [.int .i64 0, .int .i64 0] := by rw [e1]; exact ArrV.new _ w _
  have HA4 := Lib.hid hA
  have HB1 : Hid (Below w.heap.size w V1) := by show Below _ _ _; rw [e1]; exact (Below.refl _ _).alloc (Nat.le_refl _) _
  have HE1 := Lib.hid e1
  have HM := Lib.hid hM
  obtain ⟨A, c, rfl, hc, _⟩ := hM
  obtain ⟨N, hN⟩ : ∃ N, N = M.length := ⟨_, rfl⟩
  rw [← hN] at HRR hl ⊢
  have HN := Lib.hid (And.intro hN hl)
  have c0 := hA.get 0
  have c1 := hA.get 1
  have f0 := hA.frozen 0
  have f1 := hA.frozen 1
  simp at c0 c1
  clear hr e1 hA hc hN hl
  by_cases hp0 : proto < 0
  · have HD := Lib.hid (check_done (r := r) (V1 := V1) HA4.out HB1.out 1 0 (by rw [HRR.out, if_pos (.inl hp0)]))
    go_enter Try.func59, Try.ntmps59
    go_upto_region 1 with fail
    rw [← HE1.out]
    go_wp2_with fail
    exact bodyPost_ret (res_cell Try.results59 rfl HD.out.1) rfl HD.out.2
  by_cases hp1 : 255 < proto
  · have HD := Lib.hid (check_done (r := r) (V1 := V1) HA4.out HB1.out 1 0 (by rw [HRR.out, if_pos (.inr (.inl hp1))]))
    go_enter Try.func59, Try.ntmps59
    go_upto_region 1 with fail
    rw [← HE1.out]
    go_wp2_with fail
    exact bodyPost_ret (res_cell Try.results59 rfl HD.out.1) rfl HD.out.2
  cases hk : exKind proto with
  | true =>
    have HD := Lib.hid (check_done (r := r) (V1 := V1) HA4.out HB1.out 1 0 (by rw [HRR.out, if_pos (.inr (.inr hk))]))
    rw [hk] at CI
    clear hk
    go_enter Try.func59, Try.ntmps59
    go_upto_region 1 with fail
    rw [← HE1.out]
    go_wp2_with fail
    refine (CI.out _).mono ?_
    rintro e w' ⟨rfl, rfl⟩
    go_wp2_with fail
    exact bodyPost_ret (res_cell Try.results59 rfl HD.out.1) rfl HD.out.2
  | false =>
    rw [hk] at CI
    have HR2 : Hid (r = if 8 < N then (7, 8) else exCheckF M 0 false) := by
      show r = _
      rw [HRR.out, if_neg]
      rintro (h | h | h)
      · exact hp0 h
      · exact hp1 h
      · rw [hk] at h; cases h
    clear hk HRR
    by_cases h8 : 8 < N
    · have HD := Lib.hid (check_done (r := r) (V1 := V1) HA4.out HB1.out 7 8 (by rw [HR2.out, if_pos h8]))
      have n8 : (8 : Int) < (N : Int) := by omega
      go_enter Try.func59, Try.ntmps59
      go_upto_region 1 with fail
      rw [← HE1.out]
      go_wp2_with fail
      refine (CI.out _).mono ?_
      rintro e w' ⟨rfl, rfl⟩
      go_wp2_with fail
      exact bodyPost_ret (res_cell Try.results59 rfl HD.out.1) rfl HD.out.2
    · have n8 : ¬ (8 : Int) < (N : Int) := by omega
      have HN8 : Hid (N ≤ 8) := by show N ≤ 8; omega
      have HR3 : Hid (exCheckF (M.drop 0) 0 false = r) := by show _ = r; rw [HR2.out, if_neg h8]; rfl
      clear h8 HR2 c0 c1 f0 f1
      go_enter Try.func59, Try.ntmps59
      go_upto_region 1 with fail
      rw [← HE1.out]
      go_wp2_with fail
      refine (CI.out _).mono ?_
      rintro e w' ⟨rfl, rfl⟩
      go_wp2_with fail
      clear CI hp0 hp1 n8
      go_loopw [5, 27] (fun f i W => ∃ (j : Nat) (fr : Bool), j ≤ N ∧ i = .int .i64 (j : Nat) ∧ f = .bool fr ∧ Below V1.heap.size V1 W ∧ exCheckF (M.drop j) j fr = r) (fun f i W => N - (intOf i).toNat)
      case atStart => exact ⟨0, false, Nat.zero_le _, rfl, rfl, Below.refl _ _, HR3.out⟩
      case round =>
        obtain ⟨j, fr, hj, rfl, rfl, hW, hr⟩ := hrel
        have HW := Lib.hid hW
        have hA4 := HA4.out.below hW
        have A4 := Lib.hid hA4
        have BW := Lib.hid (below_both HB1.out hW)
        have j8 : (j : Int) ≤ 8 := by have := HN8.out; omega
        by_cases hlt : j < N
        · obtain ⟨⟨k, bd⟩, hm⟩ : ∃ m, M[j]? = some m := ⟨_, List.getElem?_eq_getElem (by rw [← HN.out.1]; exact hlt)⟩
          have hdrop : M.drop j = (k, bd) :: M.drop (j + 1) := by
            obtain ⟨h1, h2⟩ := List.getElem?_eq_some_iff.1 hm
            rw [List.drop_eq_getElem_cons h1, h2]
          rw [hdrop, exCheckF] at hr
          obtain ⟨A2, c2, e2, hc2, hcell⟩ := HM.out.below BW.out
          cases e2
          obtain ⟨hbl, b, o, bv, rfl, hb, cc1, cc2, ⟨A3, c3, rfl, hc3, hrow⟩⟩ := hcell j (k, bd) hm
          have jI : (j : Int) < (N : Int) := by omega
          have j0 : (0 : Int) ≤ (j : Int) := by omega
          have CK := Lib.hid (fun w => excount_any k A3 bd.length c3 w hbl)
          have CI := Lib.hid (exis_any k)
          obtain ⟨s, hs⟩ : ∃ s, s = exCount k bd.length := ⟨_, rfl⟩
          rw [← hs] at CK hr
          have HRX := Lib.hid hr
          have HJ := Lib.hid (And.intro hj hlt)
          simp only [] at cc1 cc2
          clear hr hs hdrop hm hcell hc2 hrow hc3 hbl hW hA4 hj hlt hb
          go_upto_region 9 with fail
          obtain ⟨W3, eW3⟩ : ∃ W3, W3 = wr.alloc (.cells #[.int .i64 k, .slice A3 bd.length c3] 45) := ⟨_, rfl⟩
          have hA3 : ArrV 45 W3 wr.heap.size [.int .i64 k, .slice A3 bd.length c3] := by rw [eW3]; exact ArrV.new _ wr _
          have hB3 : Below wr.heap.size wr W3 := by rw [eW3]; exact (Below.refl _ _).alloc (Nat.le_refl _) _
          have d0 := hA3.get 0
          have d1 := hA3.get 1
          simp at d0 d1
          have HA3 := Lib.hid hA3
          have A4 := Lib.hid (A4.out.below hB3)
          have HW := Lib.hid (below_both HW.out hB3)
          rw [← eW3]
          generalize wr.heap.size = g7 at *
          clear eW3 hA3 hB3 cc1 cc2
          go_wp2_with fail
          refine (CK.out _).mono ?_
          rintro e w5 ⟨rfl, b5⟩
          have A4 := Lib.hid (A4.out.below b5)
          have HW := Lib.hid (below_both HW.out b5)
          have BW := Lib.hid (below_both HB1.out HW.out)
          have hA3 := HA3.out.below b5
          have d0 := hA3.get 0
          have d1 := hA3.get 1
          have c0 := A4.out.get 0
          have c1 := A4.out.get 1
          have f0 := A4.out.frozen 0
          have f1 := A4.out.frozen 1
          simp at c0 c1 d0 d1
          clear hA3 HA3 b5 CK
          cases hk : exKind k with
          | false =>
            rw [hk] at CI
            have HD := Lib.hid (check_done (r := r) (V1 := V1) A4.out BW.out 10 j (by rw [← HRX.out, if_pos hk]))
            clear hk HRX
            go_wp2_with fail
            refine (CI.out _).mono ?_
            rintro e w' ⟨rfl, rfl⟩
            go_wp2_with fail
            exact bodyPost_ret (res_cell Try.results59 rfl HD.out.1) rfl HD.out.2
          | true =>
            rw [hk] at CI
            have HK := Lib.hid hk
            clear hk
            have nk : ¬ exKind k = false := by rw [HK.out]; simp
            have HNK := Lib.hid nk
            clear nk
            cases s with
            | none =>
              have HD := Lib.hid (check_done (r := r) (V1 := V1) A4.out BW.out 3 j (by rw [← HRX.out, if_neg HNK.out, if_pos (show (none : Option Nat).isSome = false from rfl)]))
              clear HRX
              go_wp2_with fail
              refine (CI.out _).mono ?_
              rintro e w' ⟨rfl, rfl⟩
              go_wp2_with fail
              exact bodyPost_ret (res_cell Try.results59 rfl HD.out.1) rfl HD.out.2
            | some y =>
              by_cases h1 : k = 0 ∧ 0 < j
              · have HD := Lib.hid (check_done (r := r) (V1 := V1) A4.out BW.out 6 j (by rw [← HRX.out, if_neg HNK.out, if_neg (by simp), if_pos h1]))
                have k0 : (k == 0) = true := by rw [h1.1]; rfl
                have jp : 0 < j := h1.2
                have jpI : (0 : Int) < (j : Int) := by omega
                clear HRX h1
                go_wp2_with fail
                refine (CI.out _).mono ?_
                rintro e w' ⟨rfl, rfl⟩
                go_wp2_with fail
                exact bodyPost_ret (res_cell Try.results59 rfl HD.out.1) rfl HD.out.2
              by_cases h2 : k = 44 ∧ fr = true
              · have HD := Lib.hid (check_done (r := r) (V1 := V1) A4.out BW.out 9 j (by rw [← HRX.out, if_neg HNK.out, if_neg (by simp), if_neg h1, if_pos h2]))
                obtain ⟨rfl, rfl⟩ := h2
                clear HRX h1
                go_wp2_with fail
                refine (CI.out _).mono ?_
                rintro e w' ⟨rfl, rfl⟩
                go_wp2_with fail
                exact bodyPost_ret (res_cell Try.results59 rfl HD.out.1) rfl HD.out.2
              have HNX : Hid (exCheckF (M.drop (j + 1)) (j + 1) (fr || decide (k = 44)) = r) := by show _ = r; rw [← HRX.out, if_neg HNK.out, if_neg (by simp), if_neg h1, if_neg h2]
              clear HRX
              by_cases hk0 : k = 0
              · have hj0 : j = 0 := by omega
                subst hk0 hj0
                clear h1 h2
                cases fr with
                | false =>
                  go_wp2_with fail
                  refine (CI.out _).mono ?_
                  rintro e w' ⟨rfl, rfl⟩
                  go_wp2_with fail
                  go_roundw
                  case rel => exact ⟨1, false, by have := HJ.out; omega, by go_num, rfl, HW.out, by have h := HNX.out; simpa using h⟩
                  case measure => have := HJ.out; simp [intOf]; omega
                | true =>
                  go_wp2_with fail
                  refine (CI.out _).mono ?_
                  rintro e w' ⟨rfl, rfl⟩
                  go_wp2_with fail
                  go_roundw
                  case rel => exact ⟨1, true, by have := HJ.out; omega, by go_num, rfl, HW.out, by have h := HNX.out; simpa using h⟩
                  case measure => have := HJ.out; simp [intOf]; omega
              have k0 : (k == 0) = false := beq_false_of_ne hk0
              by_cases hk4 : k = 44
              · have hfr : fr = false := by cases fr with
                  | false => rfl
                  | true => exact absurd ⟨hk4, rfl⟩ h2
                subst hk4 hfr
                clear h1 h2 hk0
                go_wp2_with fail
                refine (CI.out _).mono ?_
                rintro e w' ⟨rfl, rfl⟩
                go_wp2_with fail
                go_roundw
                case rel => exact ⟨j + 1, true, by have := HJ.out; omega, by go_num, rfl, HW.out, by have h := HNX.out; simpa using h⟩
                case measure => have := HJ.out; simp [intOf]; omega
              · have k4 : (k == 44) = false := beq_false_of_ne hk4
                have HNX : Hid (exCheckF (M.drop (j + 1)) (j + 1) fr = r) := by show _ = r; have h := HNX.out; rw [decide_eq_false hk4, Bool.or_false] at h; exact h
                clear h1 h2 hk0 hk4
                cases fr with
                | false =>
                  go_wp2_with fail
                  refine (CI.out _).mono ?_
                  rintro e w' ⟨rfl, rfl⟩
                  go_wp2_with fail
                  go_roundw
                  case rel => exact ⟨j + 1, false, by have := HJ.out; omega, by go_num, rfl, HW.out, HNX.out⟩
                  case measure => have := HJ.out; simp [intOf]; omega
                | true =>
                  go_wp2_with fail
                  refine (CI.out _).mono ?_
                  rintro e w' ⟨rfl, rfl⟩
                  go_wp2_with fail
                  go_roundw
                  case rel => exact ⟨j + 1, true, by have := HJ.out; omega, by go_num, rfl, HW.out, HNX.out⟩
                  case measure => have := HJ.out; simp [intOf]; omega
        · obtain rfl : j = N := by omega
          have hz : exCheckF (M.drop j) j fr = (0, 0) := by rw [List.drop_of_length_le (by rw [HN.out.1]; exact Nat.le_refl _)]; rfl
          have HD := Lib.hid (check_done (r := r) (V1 := V1) A4.out BW.out 0 0 (hr.symm.trans hz))
          have jN : ¬ (j : Int) < (j : Int) := by omega
          have c0 := A4.out.get 0
          have c1 := A4.out.get 1
          have f0 := A4.out.frozen 0
          have f1 := A4.out.frozen 1
          simp at c0 c1
          clear hr hW hA4 hj hlt hz
          go_wp2_with fail
          exact bodyPost_ret (res_cell Try.results59 rfl HD.out.1) rfl HD.out.2
end Go.Proofs.Ytlopmkmcjcijcaa
