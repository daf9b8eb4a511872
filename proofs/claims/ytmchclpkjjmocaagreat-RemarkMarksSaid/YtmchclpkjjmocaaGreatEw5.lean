/-
  The contract of extwalk's count.
  The contract of extwalk's check.
  The contract of extwalk's Write.
  The contract of extwalk's List.
  append where the old slice is read afterwards; plain facts of a walk.
-/
import Derived.Test.YtmchclpkjjmocaaGreatEw4
namespace Go.Proofs.YtmchclpkjjmocaaGreat
open Go.RowKit
set_option linter.unusedVariables false

/-- What the second byte of a header with such a body must be, from i on. -/
def exCountF (u : Nat) (x : Int) : Nat → Nat → Option Nat
  | 0, _ => none
  | f + 1, i => if (i : Int) * (u : Int) = x then some i else exCountF u x f (i + 1)
def exCount (k : Int) (len : Nat) : Option Nat := exCountF (exUnit k) ((len : Int) - 6) 256 0
theorem count_len {n : Nat} (h : n ≤ 140737488355328) : wrap64 ((n : Int) + 2) = (n : Int) + 2 ∧ wrap64 ((n : Int) + 2 - 8) = (n : Int) - 6 := by
  have h1 : (n : Int) + 2 - 8 = (n : Int) - 6 := by omega
  have h2 := IntWalk.i64_in ((n : Int) + 2) ⟨by omega, by omega⟩
  have h3 := IntWalk.i64_in ((n : Int) - 6) ⟨by omega, by omega⟩
  rw [IntKind.wrap_i64] at h2 h3
  rw [h1]
  unfold wrap64
  exact ⟨h2, h3⟩
theorem count_mul {i u : Nat} (hi : i < 256) (hu : u ≤ 8) : wrap64 ((i : Int) * (u : Int)) = (i : Int) * (u : Int) := by
  have h : i * u ≤ 256 * 8 := Nat.mul_le_mul (by omega) hu
  have e : (i : Int) * (u : Int) = ((i * u : Nat) : Int) := by simp
  rw [e]
  exact w64_in (by omega) (by omega)
theorem count_fuel {i f : Nat} (h : i + f = 256) (hi : i < 256) : ∃ f2, f = f2 + 1 ∧ i + 1 + f2 = 256 := ⟨f - 1, by omega, by omega⟩
theorem tyext2 : RowTy 112 2 := ⟨⟨_, Tryz.underlying112, rfl⟩, by kernel_rfl⟩
set_option maxRecDepth 10000 in
set_option maxHeartbeats 3200000 in
theorem excount_any (k : Int) (A : Option Addr) (n c : Nat) (w : World) (hn : n ≤ 140737488355328) :
    Calls Tryz.prog 86 #[.agg #[.int .i64 k, .slice A n c]] w fun e w' => e = .returned (.tuple #[.int .i64 ((exCount k n).getD 0 : Nat), .bool (exCount k n).isSome]) ∧ Below w.heap.size w w' := by
  have CU := Lib.hid (exunit_any k)
  have hu := exUnit_le k
  obtain ⟨e1, e2⟩ := count_len hn
  obtain ⟨x, hx⟩ : ∃ x, x = (n : Int) - 6 := ⟨_, rfl⟩
  have HC : Hid (exCount k n = exCountF (exUnit k) x 256 0) := by show _ = _; rw [hx]; rfl
  rw [← hx] at e2
  obtain ⟨r, hr⟩ : ∃ r, r = exCount k n := ⟨_, rfl⟩
  rw [← hr] at HC ⊢
  generalize exUnit k = u at *
  obtain ⟨V, eV⟩ : ∃ V, V = w.alloc (.cells #[.int .i64 k, .slice A n c] 112) := ⟨_, rfl⟩
  have hA : ArrV 112 V w.heap.size [.int .i64 k, .slice A n c] := by rw [eV]; exact ArrV.new _ w _
  have HB : Hid (Below w.heap.size w V) := by show Below _ _ _; rw [eV]; exact (Below.refl _ _).alloc (Nat.le_refl _) _
  have c0 := hA.get 0
  have c1 := hA.get 1
  simp at c0 c1
  have HV := Lib.hid eV
  have HU := Lib.hid hu
  clear hn hx hr eV hA hu
  go_enter Tryz.func86, Tryz.ntmps86
  go_upto_region 1 with fail
  rw [← HV.out]
  clear HV
  go_wp2_with fail
  simp only [e1, e2]
  go_loopg [11] 256 (fun f i wr => ∃ j : Nat, i = .int .i64 (j : Nat) ∧ j + f = 256 ∧ wr = V ∧ exCountF u x f j = r)
  case atStart => exact ⟨0, rfl, rfl, rfl, HC.out.symm⟩
  case round =>
    obtain ⟨j, rfl, hf, rfl, hr⟩ := hrel
    by_cases hj : j < 256
    · obtain ⟨f2, rfl, hf2⟩ := count_fuel hf hj
      have jI : (j : Int) < 256 := by omega
      have em := count_mul hj HU.out
      rw [exCountF] at hr
      by_cases hit : (j : Int) * (u : Int) = x
      · rw [if_pos hit] at hr
        have hb : ((j : Int) * (u : Int) == x) = true := by rw [hit]; simp
        subst hr
        clear hit hf hj hf2
        go_wp2_with fail
        refine (CU.out _).mono ?_
        rintro e w' ⟨rfl, rfl⟩
        go_wp2_with fail
        go_ret2
        exact ⟨rfl, HB.out⟩
      · rw [if_neg hit] at hr
        have hb : ((j : Int) * (u : Int) == x) = false := beq_false_of_ne hit
        have HH := Lib.hid (And.intro hf2 hr)
        clear hit hf hj hf2 hr
        go_wp2_with fail
        refine (CU.out _).mono ?_
        rintro e w' ⟨rfl, rfl⟩
        go_wp2_with fail
        go_roundg f2
        case measure => exact Nat.lt_succ_self _
        case rel => exact ⟨j + 1, by go_num, HH.out.1, rfl, HH.out.2⟩
    · obtain rfl : gk = 0 := by omega
      have jI : ¬ (j : Int) < 256 := by omega
      rw [exCountF] at hr
      subst hr
      clear hf hj
      go_wp2_with fail
      go_ret2
      exact ⟨rfl, HB.out⟩
end Go.Proofs.YtmchclpkjjmocaaGreat

namespace Go.Proofs.YtmchclpkjjmocaaGreat
open Go.RowKit
set_option linter.unusedVariables false

/-- Extension headers that came in, or were laid: kinds and bodies. -/
def ExtsIn (w : World) (v : Value) (M : List (Int × List Nat)) : Prop :=
  ∃ A c, v = .slice A M.length c ∧ M.length ≤ c ∧ ∀ (i : Nat) (m : Int × List Nat), M[i]? = some m → m.2.length ≤ 140737488355328 ∧ ∃ b o bv, A = some ⟨b, o, none⟩ ∧ b < w.heap.size ∧ w.cell? ⟨b, o + i * 2, none⟩ = some (.int .i64 m.1) ∧ w.cell? ⟨b, o + i * 2 + 1, none⟩ = some bv ∧ ByteVal w bv m.2
theorem ExtsIn.below {w w' : World} {v : Value} {M : List (Int × List Nat)} (h : ExtsIn w v M) (hb : Below w.heap.size w w') : ExtsIn w' v M := by
  obtain ⟨A, c, e, h1, h2⟩ := h
  refine ⟨A, c, e, h1, fun i m hm => ?_⟩
  obtain ⟨hl, b, o, bv, ea, hlt, c1, c2, hv⟩ := h2 i m hm
  exact ⟨hl, b, o, bv, ea, Nat.lt_of_lt_of_le hlt hb.size, (hb.cell (p := ⟨b, o + i * 2, none⟩) hlt).trans c1, (hb.cell (p := ⟨b, o + i * 2 + 1, none⟩) hlt).trans c2, hv.below hb⟩
/-- What is wrong with headers, from number i on: an error's number, and where. -/
def exCheckF : List (Int × List Nat) → Nat → Bool → Nat × Nat
  | [], _, _ => (0, 0)
  | (k, b) :: r, i, fr =>
    if exKind k = false then (10, i) else if (exCount k b.length).isSome = false then (3, i) else if k = 0 ∧ 0 < i then (6, i) else if k = 44 ∧ fr = true then (9, i) else exCheckF r (i + 1) (fr || decide (k = 44))
def exCheck (M : List (Int × List Nat)) (proto : Int) : Nat × Nat :=
  if proto < 0 ∨ 255 < proto ∨ exKind proto = true then (1, 0) else if 8 < M.length then (7, 8) else exCheckF M 0 false
def faultV (p : Nat × Nat) : List Value := [.int .i64 (p.1 : Nat), .int .i64 (p.2 : Nat)]
theorem tyfault : RowTy 108 2 := ⟨⟨_, Tryz.underlying108, rfl⟩, by kernel_rfl⟩
def CheckIs (r : Nat × Nat) (w : World) (e : Ending) (w' : World) : Prop := e = .returned (.agg (faultV r).toArray) ∧ Below w.heap.size w w'
theorem check_done {w V1 U : World} {r : Nat × Nat} (hA : ArrV 108 U w.heap.size [.int .i64 0, .int .i64 0]) (hB : Below w.heap.size w U) (x y : Nat) (h : r = (x, y)) :
    (Go.loadVar 108 ⟨w.heap.size, 0, none⟩).run Tryz.prog ((U.setCell ⟨w.heap.size, 0, none⟩ (.int .i64 (x : Nat))).setCell ⟨w.heap.size, 1, none⟩ (.int .i64 (y : Nat))) = .ok (.agg (faultV r).toArray) ((U.setCell ⟨w.heap.size, 0, none⟩ (.int .i64 (x : Nat))).setCell ⟨w.heap.size, 1, none⟩ (.int .i64 (y : Nat))) ∧
      CheckIs r w (.returned (.agg (faultV r).toArray)) ((U.setCell ⟨w.heap.size, 0, none⟩ (.int .i64 (x : Nat))).setCell ⟨w.heap.size, 1, none⟩ (.int .i64 (y : Nat))) := by
  subst h
  exact ⟨((hA.set 0 (.int .i64 (x : Nat))).set 1 (.int .i64 (y : Nat))).loadVar tyfault rfl, rfl, (hB.setCell (p := ⟨w.heap.size, 0, none⟩) (Nat.le_refl _) _).setCell (p := ⟨w.heap.size, 1, none⟩) (Nat.le_refl _) _⟩
set_option maxRecDepth 10000 in
set_option maxHeartbeats 6400000 in
theorem excheck_any (v : Value) (M : List (Int × List Nat)) (proto : Int) (w : World) (hM : ExtsIn w v M) (hl : M.length ≤ 140737488355328) :
    Calls Tryz.prog 85 #[v, .int .i64 proto] w (CheckIs (exCheck M proto) w) := by
  have CI := Lib.hid (exis_any proto)
  obtain ⟨r, hr⟩ : ∃ r, r = exCheck M proto := ⟨_, rfl⟩
  have HRR : Hid (r = if proto < 0 ∨ 255 < proto ∨ exKind proto = true then (1, 0) else if 8 < M.length then (7, 8) else exCheckF M 0 false) := hr
  rw [← hr]
  obtain ⟨V1, e1⟩ : ∃ V, V = w.alloc (.cells #[.int .i64 0, .int .i64 0] 108) := ⟨_, rfl⟩
  have hA : ArrV 108 V1 w.heap.size [.int .i64 0, .int .i64 0] := by rw [e1]; exact ArrV.new _ w _
  have HA4 := Lib.hid hA
  have HB1 : Hid (Below w.heap.size w V1) := by show Below _ _ _; rw [e1]; exact (Below.refl _ _).alloc (Nat.le_refl _) _
  have HE1 := Lib.hid e1
  have HM := Lib.hid hM
  obtain ⟨A, c, rfl, hc, _⟩ := hM
  obtain ⟨N, hN⟩ : ∃ N, N = M.length := ⟨_, rfl⟩
  rw [← hN] at HRR hl ⊢
  have HN := Lib.hid (And.intro hN hl)
  have c0 := hA.get 0
  have c1 := hA.get 1
  have f0 := hA.frozen 0
  have f1 := hA.frozen 1
  simp at c0 c1
  clear hr e1 hA hc hN hl
  by_cases hp0 : proto < 0
  · have HD := Lib.hid (check_done (r := r) (V1 := V1) HA4.out HB1.out 1 0 (by rw [HRR.out, if_pos (.inl hp0)]))
    go_enter Tryz.func85, Tryz.ntmps85
    go_upto_region 1 with fail
    rw [← HE1.out]
    go_wp2_with fail
    exact bodyPost_ret (res_cell Tryz.results85 rfl HD.out.1) rfl HD.out.2
  by_cases hp1 : 255 < proto
  · have HD := Lib.hid (check_done (r := r) (V1 := V1) HA4.out HB1.out 1 0 (by rw [HRR.out, if_pos (.inr (.inl hp1))]))
    go_enter Tryz.func85, Tryz.ntmps85
    go_upto_region 1 with fail
    rw [← HE1.out]
    go_wp2_with fail
    exact bodyPost_ret (res_cell Tryz.results85 rfl HD.out.1) rfl HD.out.2
  cases hk : exKind proto with
  | true =>
    have HD := Lib.hid (check_done (r := r) (V1 := V1) HA4.out HB1.out 1 0 (by rw [HRR.out, if_pos (.inr (.inr hk))]))
    rw [hk] at CI
    clear hk
    go_enter Tryz.func85, Tryz.ntmps85
    go_upto_region 1 with fail
    rw [← HE1.out]
    go_wp2_with fail
    refine (CI.out _).mono ?_
    rintro e w' ⟨rfl, rfl⟩
    go_wp2_with fail
    exact bodyPost_ret (res_cell Tryz.results85 rfl HD.out.1) rfl HD.out.2
  | false =>
    rw [hk] at CI
    have HR2 : Hid (r = if 8 < N then (7, 8) else exCheckF M 0 false) := by
      show r = _
      rw [HRR.out, if_neg]
      rintro (h | h | h)
      · exact hp0 h
      · exact hp1 h
      · rw [hk] at h; cases h
    clear hk HRR
    by_cases h8 : 8 < N
    · have HD := Lib.hid (check_done (r := r) (V1 := V1) HA4.out HB1.out 7 8 (by rw [HR2.out, if_pos h8]))
      have n8 : (8 : Int) < (N : Int) := by omega
      go_enter Tryz.func85, Tryz.ntmps85
      go_upto_region 1 with fail
      rw [← HE1.out]
      go_wp2_with fail
      refine (CI.out _).mono ?_
      rintro e w' ⟨rfl, rfl⟩
      go_wp2_with fail
      exact bodyPost_ret (res_cell Tryz.results85 rfl HD.out.1) rfl HD.out.2
    · have n8 : ¬ (8 : Int) < (N : Int) := by omega
      have HN8 : Hid (N ≤ 8) := by show N ≤ 8; omega
      have HR3 : Hid (exCheckF (M.drop 0) 0 false = r) := by show _ = r; rw [HR2.out, if_neg h8]; rfl
      clear h8 HR2 c0 c1 f0 f1
      go_enter Tryz.func85, Tryz.ntmps85
      go_upto_region 1 with fail
      rw [← HE1.out]
      go_wp2_with fail
      refine (CI.out _).mono ?_
      rintro e w' ⟨rfl, rfl⟩
      go_wp2_with fail
      clear CI hp0 hp1 n8
      go_loopw [5, 27] (fun f i W => ∃ (j : Nat) (fr : Bool), j ≤ N ∧ i = .int .i64 (j : Nat) ∧ f = .bool fr ∧ Below V1.heap.size V1 W ∧ exCheckF (M.drop j) j fr = r) (fun f i W => N - (intOf i).toNat)
      case atStart => exact ⟨0, false, Nat.zero_le _, rfl, rfl, Below.refl _ _, HR3.out⟩
      case round =>
        obtain ⟨j, fr, hj, rfl, rfl, hW, hr⟩ := hrel
        have HW := Lib.hid hW
        have hA4 := HA4.out.below hW
        have A4 := Lib.hid hA4
        have BW := Lib.hid (below_both HB1.out hW)
        have j8 : (j : Int) ≤ 8 := by have := HN8.out; omega
        by_cases hlt : j < N
        · obtain ⟨⟨k, bd⟩, hm⟩ : ∃ m, M[j]? = some m := ⟨_, List.getElem?_eq_getElem (by rw [← HN.out.1]; exact hlt)⟩
          have hdrop : M.drop j = (k, bd) :: M.drop (j + 1) := by
            obtain ⟨h1, h2⟩ := List.getElem?_eq_some_iff.1 hm
            rw [List.drop_eq_getElem_cons h1, h2]
          rw [hdrop, exCheckF] at hr
          obtain ⟨A2, c2, e2, hc2, hcell⟩ := HM.out.below BW.out
          cases e2
          obtain ⟨hbl, b, o, bv, rfl, hb, cc1, cc2, ⟨A3, c3, rfl, hc3, hrow⟩⟩ := hcell j (k, bd) hm
          have jI : (j : Int) < (N : Int) := by omega
          have j0 : (0 : Int) ≤ (j : Int) := by omega
          have CK := Lib.hid (fun w => excount_any k A3 bd.length c3 w hbl)
          have CI := Lib.hid (exis_any k)
          obtain ⟨s, hs⟩ : ∃ s, s = exCount k bd.length := ⟨_, rfl⟩
          rw [← hs] at CK hr
          have HRX := Lib.hid hr
          have HJ := Lib.hid (And.intro hj hlt)
          simp only [] at cc1 cc2
          clear hr hs hdrop hm hcell hc2 hrow hc3 hbl hW hA4 hj hlt hb
          go_upto_region 9 with fail
          obtain ⟨W3, eW3⟩ : ∃ W3, W3 = wr.alloc (.cells #[.int .i64 k, .slice A3 bd.length c3] 112) := ⟨_, rfl⟩
          have hA3 : ArrV 112 W3 wr.heap.size [.int .i64 k, .slice A3 bd.length c3] := by rw [eW3]; exact ArrV.new _ wr _
          have hB3 : Below wr.heap.size wr W3 := by rw [eW3]; exact (Below.refl _ _).alloc (Nat.le_refl _) _
          have d0 := hA3.get 0
          have d1 := hA3.get 1
          simp at d0 d1
          have HA3 := Lib.hid hA3
          have A4 := Lib.hid (A4.out.below hB3)
          have HW := Lib.hid (below_both HW.out hB3)
          rw [← eW3]
          generalize wr.heap.size = g7 at *
          clear eW3 hA3 hB3 cc1 cc2
          go_wp2_with fail
          refine (CK.out _).mono ?_
          rintro e w5 ⟨rfl, b5⟩
          have A4 := Lib.hid (A4.out.below b5)
          have HW := Lib.hid (below_both HW.out b5)
          have BW := Lib.hid (below_both HB1.out HW.out)
          have hA3 := HA3.out.below b5
          have d0 := hA3.get 0
          have d1 := hA3.get 1
          have c0 := A4.out.get 0
          have c1 := A4.out.get 1
          have f0 := A4.out.frozen 0
          have f1 := A4.out.frozen 1
          simp at c0 c1 d0 d1
          clear hA3 HA3 b5 CK
          cases hk : exKind k with
          | false =>
            rw [hk] at CI
            have HD := Lib.hid (check_done (r := r) (V1 := V1) A4.out BW.out 10 j (by rw [← HRX.out, if_pos hk]))
            clear hk HRX
            go_wp2_with fail
            refine (CI.out _).mono ?_
            rintro e w' ⟨rfl, rfl⟩
            go_wp2_with fail
            exact bodyPost_ret (res_cell Tryz.results85 rfl HD.out.1) rfl HD.out.2
          | true =>
            rw [hk] at CI
            have HK := Lib.hid hk
            clear hk
            have nk : ¬ exKind k = false := by rw [HK.out]; simp
            have HNK := Lib.hid nk
            clear nk
            cases s with
            | none =>
              have HD := Lib.hid (check_done (r := r) (V1 := V1) A4.out BW.out 3 j (by rw [← HRX.out, if_neg HNK.out, if_pos (show (none : Option Nat).isSome = false from rfl)]))
              clear HRX
              go_wp2_with fail
              refine (CI.out _).mono ?_
              rintro e w' ⟨rfl, rfl⟩
              go_wp2_with fail
              exact bodyPost_ret (res_cell Tryz.results85 rfl HD.out.1) rfl HD.out.2
            | some y =>
              by_cases h1 : k = 0 ∧ 0 < j
              · have HD := Lib.hid (check_done (r := r) (V1 := V1) A4.out BW.out 6 j (by rw [← HRX.out, if_neg HNK.out, if_neg (by simp), if_pos h1]))
                have k0 : (k == 0) = true := by rw [h1.1]; rfl
                have jp : 0 < j := h1.2
                have jpI : (0 : Int) < (j : Int) := by omega
                clear HRX h1
                go_wp2_with fail
                refine (CI.out _).mono ?_
                rintro e w' ⟨rfl, rfl⟩
                go_wp2_with fail
                exact bodyPost_ret (res_cell Tryz.results85 rfl HD.out.1) rfl HD.out.2
              by_cases h2 : k = 44 ∧ fr = true
              · have HD := Lib.hid (check_done (r := r) (V1 := V1) A4.out BW.out 9 j (by rw [← HRX.out, if_neg HNK.out, if_neg (by simp), if_neg h1, if_pos h2]))
                obtain ⟨rfl, rfl⟩ := h2
                clear HRX h1
                go_wp2_with fail
                refine (CI.out _).mono ?_
                rintro e w' ⟨rfl, rfl⟩
                go_wp2_with fail
                exact bodyPost_ret (res_cell Tryz.results85 rfl HD.out.1) rfl HD.out.2
              have HNX : Hid (exCheckF (M.drop (j + 1)) (j + 1) (fr || decide (k = 44)) = r) := by show _ = r; rw [← HRX.out, if_neg HNK.out, if_neg (by simp), if_neg h1, if_neg h2]
              clear HRX
              by_cases hk0 : k = 0
              · have hj0 : j = 0 := by omega
                subst hk0 hj0
                clear h1 h2
                cases fr with
                | false =>
                  go_wp2_with fail
                  refine (CI.out _).mono ?_
                  rintro e w' ⟨rfl, rfl⟩
                  go_wp2_with fail
                  go_roundw
                  case rel => exact ⟨1, false, by have := HJ.out; omega, by go_num, rfl, HW.out, by have h := HNX.out; simpa using h⟩
                  case measure => have := HJ.out; simp [intOf]; omega
                | true =>
                  go_wp2_with fail
                  refine (CI.out _).mono ?_
                  rintro e w' ⟨rfl, rfl⟩
                  go_wp2_with fail
                  go_roundw
                  case rel => exact ⟨1, true, by have := HJ.out; omega, by go_num, rfl, HW.out, by have h := HNX.out; simpa using h⟩
                  case measure => have := HJ.out; simp [intOf]; omega
              have k0 : (k == 0) = false := beq_false_of_ne hk0
              by_cases hk4 : k = 44
              · have hfr : fr = false := by cases fr with
                  | false => rfl
                  | true => exact absurd ⟨hk4, rfl⟩ h2
                subst hk4 hfr
                clear h1 h2 hk0
                go_wp2_with fail
                refine (CI.out _).mono ?_
                rintro e w' ⟨rfl, rfl⟩
                go_wp2_with fail
                go_roundw
                case rel => exact ⟨j + 1, true, by have := HJ.out; omega, by go_num, rfl, HW.out, by have h := HNX.out; simpa using h⟩
                case measure => have := HJ.out; simp [intOf]; omega
              · have k4 : (k == 44) = false := beq_false_of_ne hk4
                have HNX : Hid (exCheckF (M.drop (j + 1)) (j + 1) fr = r) := by show _ = r; have h := HNX.out; rw [decide_eq_false hk4, Bool.or_false] at h; exact h
                clear h1 h2 hk0 hk4
                cases fr with
                | false =>
                  go_wp2_with fail
                  refine (CI.out _).mono ?_
                  rintro e w' ⟨rfl, rfl⟩
                  go_wp2_with fail
                  go_roundw
                  case rel => exact ⟨j + 1, false, by have := HJ.out; omega, by go_num, rfl, HW.out, HNX.out⟩
                  case measure => have := HJ.out; simp [intOf]; omega
                | true =>
                  go_wp2_with fail
                  refine (CI.out _).mono ?_
                  rintro e w' ⟨rfl, rfl⟩
                  go_wp2_with fail
                  go_roundw
                  case rel => exact ⟨j + 1, true, by have := HJ.out; omega, by go_num, rfl, HW.out, HNX.out⟩
                  case measure => have := HJ.out; simp [intOf]; omega
        · obtain rfl : j = N := by omega
          have hz : exCheckF (M.drop j) j fr = (0, 0) := by rw [List.drop_of_length_le (by rw [HN.out.1]; exact Nat.le_refl _)]; rfl
          have HD := Lib.hid (check_done (r := r) (V1 := V1) A4.out BW.out 0 0 (hr.symm.trans hz))
          have jN : ¬ (j : Int) < (j : Int) := by omega
          have c0 := A4.out.get 0
          have c1 := A4.out.get 1
          have f0 := A4.out.frozen 0
          have f1 := A4.out.frozen 1
          simp at c0 c1
          clear hr hW hA4 hj hlt hz
          go_wp2_with fail
          exact bodyPost_ret (res_cell Tryz.results85 rfl HD.out.1) rfl HD.out.2
end Go.Proofs.YtmchclpkjjmocaaGreat

namespace Go.Proofs.YtmchclpkjjmocaaGreat
open Go.RowKit
set_option linter.unusedVariables false

def exNext (proto : Int) : List (Int × List Nat) → Int
  | [] => proto
  | (k, _) :: _ => k
/-- The bytes of extension headers. -/
def exBytes (proto : Int) : List (Int × List Nat) → List Nat
  | [] => []
  | (k, b) :: r => [(exNext proto r).toNat, (exCount k b.length).getD 0] ++ b ++ exBytes proto r
theorem exCountF_some : ∀ {f i u x : Nat} {y : Int}, exCountF u y f i = some x → x < i + f ∧ (x : Int) * (u : Int) = y
  | 0, i, u, x, y, h => by cases h
  | f + 1, i, u, x, y, h => by
    rw [exCountF] at h
    split at h
    · rename_i e
      injection h with h
      subst h
      exact ⟨by omega, e⟩
    · have := exCountF_some h
      exact ⟨by omega, this.2⟩
theorem exCount_some {k : Int} {len x : Nat} (h : exCount k len = some x) : x < 256 ∧ len ≤ 2046 ∧ x * exUnit k + 6 = len := by
  obtain ⟨h1, h2⟩ := exCountF_some h
  have hu := exUnit_le k
  have h3 : x * exUnit k ≤ 255 * 8 := Nat.mul_le_mul (by omega) hu
  have h4 : ((x * exUnit k : Nat) : Int) = (len : Int) - 6 := by rw [← h2]; simp
  exact ⟨by omega, by omega, by omega⟩
theorem exCheckF_ok : ∀ {M : List (Int × List Nat)} {i : Nat} {fr : Bool} {a : Nat}, exCheckF M i fr = (0, a) → ∀ m ∈ M, exKind m.1 = true ∧ ∃ x, exCount m.1 m.2.length = some x
  | [], i, fr, a, h, m, hm => by cases hm
  | (k, b) :: r, i, fr, a, h, m, hm => by
    rw [exCheckF] at h
    split at h
    · cases h
    split at h
    · cases h
    split at h
    · cases h
    split at h
    · cases h
    rename_i h1 h2 _ _
    rcases List.mem_cons.1 hm with rfl | hm
    · refine ⟨by simpa using h1, ?_⟩
      cases hc : exCount k b.length with
      | none => rw [hc] at h2; exact absurd rfl h2
      | some x => exact ⟨x, rfl⟩
    · exact exCheckF_ok h m hm
theorem exCheckF_zero : ∀ {M : List (Int × List Nat)} {i : Nat} {fr : Bool}, (exCheckF M i fr).1 = 0 → exCheckF M i fr = (0, 0)
  | [], i, fr, h => rfl
  | (k, b) :: r, i, fr, h => by
    rw [exCheckF] at h ⊢
    split
    · rename_i h1; rw [if_pos h1] at h; cases h
    · rename_i h1
      rw [if_neg h1] at h
      split
      · rename_i h2; rw [if_pos h2] at h; cases h
      · rename_i h2
        rw [if_neg h2] at h
        split
        · rename_i h3; rw [if_pos h3] at h; cases h
        · rename_i h3
          rw [if_neg h3] at h
          split
          · rename_i h4; rw [if_pos h4] at h; cases h
          · rename_i h4
            rw [if_neg h4] at h
            exact exCheckF_zero h
theorem exCheck_ok {M : List (Int × List Nat)} {proto : Int} (h : (exCheck M proto).1 = 0) : exCheck M proto = (0, 0) ∧ (0 ≤ proto ∧ proto ≤ 255 ∧ exKind proto = false) ∧ M.length ≤ 8 ∧ ∀ m ∈ M, exKind m.1 = true ∧ ∃ x, exCount m.1 m.2.length = some x := by
  unfold exCheck at h ⊢
  split
  · rename_i h1; rw [if_pos h1] at h; cases h
  · rename_i h1
    rw [if_neg h1] at h
    split
    · rename_i h2; rw [if_pos h2] at h; cases h
    · rename_i h2
      rw [if_neg h2] at h
      have e : exCheckF M 0 false = (0, 0) := exCheckF_zero h
      refine ⟨e, ⟨by omega, by omega, ?_⟩, by omega, exCheckF_ok e⟩
      cases hk : exKind proto with
      | false => rfl
      | true => exact absurd (.inr (.inr hk)) h1
theorem exKind_byte {k : Int} (h : exKind k = true) : 0 ≤ k ∧ k ≤ 255 := by
  unfold exKind at h
  have := of_decide_eq_true h
  omega
theorem exNext_byte {proto : Int} {M : List (Int × List Nat)} (hp : 0 ≤ proto ∧ proto ≤ 255) (hM : ∀ m ∈ M, exKind m.1 = true) : 0 ≤ exNext proto M ∧ exNext proto M ≤ 255 := by
  cases M with
  | nil => exact hp
  | cons m r => exact exKind_byte (hM m (List.mem_cons_self ..))
theorem exBytes_byte {proto : Int} (hp : 0 ≤ proto ∧ proto ≤ 255) : ∀ {M : List (Int × List Nat)}, (∀ m ∈ M, exKind m.1 = true ∧ ∃ x, exCount m.1 m.2.length = some x) → (∀ m ∈ M, ∀ x ∈ m.2, x < 256) → ∀ x ∈ exBytes proto M, x < 256
  | [], _, _, x, hx => by cases hx
  | (k, b) :: r, h, hb, x, hx => by
    have hn := exNext_byte (M := r) hp fun m hm => (h m (List.mem_cons_of_mem _ hm)).1
    obtain ⟨c, hc⟩ := (h (k, b) (List.mem_cons_self ..)).2
    have hc2 := exCount_some hc
    rw [exBytes] at hx
    simp only [] at hc
    rcases List.mem_append.1 hx with hx | hx
    · rcases List.mem_append.1 hx with hx | hx
      · rw [hc] at hx
        simp at hx
        rcases hx with rfl | rfl <;> omega
      · exact hb (k, b) (List.mem_cons_self ..) x hx
    · exact exBytes_byte hp (fun m hm => h m (List.mem_cons_of_mem _ hm)) (fun m hm => hb m (List.mem_cons_of_mem _ hm)) x hx
theorem res_tmp_cell {P : Program} {fn : Func} {p u : Tmp} {ty : TypeId} {tmps : Array Value} {w : World} {a : Addr} {v x : Value} (h : fn.results = #[.tmp u, .cell p ty]) (hp : tmps.getD p undef = .pointer (some a))
    (hl : (Go.loadVar ty a).run P w = .ok v w) (hx : tmps.getD u undef = x) : (results fn tmps).run P w = .ok (.tuple #[x, v]) w := by
  subst hx
  simp only [results, h]
  have hq : tmps[p]?.getD undef = .pointer (some a) := by rw [← hp]; simp
  simp [Result.andThen, asAddr, hq, hl]
def WriteExt (M : List (Int × List Nat)) (proto : Int) (w : World) (e : Ending) (w' : World) : Prop :=
  Below w.heap.size w w' ∧ ((exCheck M proto).1 ≠ 0 → e = .returned (.tuple #[.slice none 0 0, .agg (faultV (exCheck M proto)).toArray])) ∧
    ((exCheck M proto).1 = 0 → ∃ v, e = .returned (.tuple #[v, .agg (faultV (0, 0)).toArray]) ∧ OutIs w.heap.size w' v (exBytes proto M))
/-- 'append(out, x ..)', and what else has stayed. -/
theorem wpList_append_bytes_g {ops : Array Oper} {rest : List Oper} {o : Oper} {a : Act} {Q : Exit → Act → World → Prop} (hgd : o.guard = none) (s x : Operand)
    (ho : o.op = .call { callee := .builtin .append, args := #[s, x], argTypes := #[22, 22] })
    {B : Nat} {W wr : World} {v : Value} {bs news : List Nat} (cs : Array Value) (m : Nat) (hs : a.eval s = v) (hx : a.eval x = .slice (some ⟨wr.heap.size, 0, none⟩) m m)
    (hcs : cs.toList = bcells news) (hm : news.length = m) (hown : OutIs B wr v bs) (hb : Below B W wr) (hB : B ≤ wr.heap.size) (hlen : bs.length + m ≤ 140737488355328)
    (h : ∀ v' w', OutIs B w' v' (bs ++ news) → Below B W w' → (wr.alloc (.cells cs 5)).grownBy w' v.ownBlock → wpList Tryz.prog ops Q rest (a.put o.dst v') w') : wpList Tryz.prog ops Q (o :: rest) a (wr.alloc (.cells cs 5)) := by
  obtain ⟨i0, h1, h2, h3, h4⟩ := u8_parts
  have hown' : (wr.alloc (.cells cs 5)).ownsRow B 5 1 v bs.length (bcells bs) := World.ownsRow.alloc hown _
  refine wpList_append_own (P := Tryz.prog) (wr.alloc (.cells cs 5)) hgd s x 22 ho B 5 i0 (.int .u8 0) 1 1 Tryz.underlying22 h1 h2 h3 h4 rfl (by decide) v bs.length (bcells bs) hs hown'
    ⟨wr.heap.size, 0, none⟩ m m (bcells news) hx (by rw [bcells_length, hm, Nat.mul_one]) (fun j u hj => by
      rw [add_flat, cell_of_row _ wr.heap.size (0 + j) cs _ _ (heap_alloc_new wr _), Nat.zero_add, ← Array.getElem?_toList, hcs]
      exact hj) (bcells_one news) (by unfold maxLen; omega) (by omega) (by simp; omega) ?_
  intro v' w' ho hg _
  refine h v' w' ?_ ((hb.alloc hB _).grown hg (by simp; omega) (fun k hk => (hown'.lt k hk).1)) hg
  unfold OutIs
  rw [List.length_append, hm]
  simpa [bcells] using ho
/-- A variable that was made later than the row stays. -/
theorem cell_grown {wr w' : World} {cs : Array Value} {v u : Value} {B g i : Nat} {bs : List Nat} (hO : OutIs B wr v bs) (hg9 : ∀ k, v.ownBlock = some k → k < g) (hc : (wr.alloc (.cells cs 5)).cell? ⟨g, i, none⟩ = some u) (h : (wr.alloc (.cells cs 5)).grownBy w' v.ownBlock) : w'.cell? ⟨g, i, none⟩ = some u :=
  h.cell hc (fun e => Nat.lt_irrefl _ (hg9 g (by first | exact e.symm | exact e)))
theorem out_lt {B : Nat} {w : World} {v : Value} {bs : List Nat} (h : OutIs B w v bs) : ∀ k, v.ownBlock = some k → k < w.heap.size := fun k hk => (World.ownsRow.lt h k hk).2
theorem idx_more {j N : Nat} (h : j + 1 < N) (h8 : N ≤ 8) : (j : Int) + 1 < (N : Int) ∧ ((j : Int) + 1).toNat = j + 1 ∧ (0 : Int) ≤ (j : Int) + 1 ∧ wrap64 ((j : Int) + 1) = (j : Int) + 1 := ⟨by omega, by omega, by omega, w64_in (by omega) (by omega)⟩
theorem idx_last {j N : Nat} (h : ¬ j + 1 < N) (hj : j ≤ N) (h8 : N ≤ 8) : ¬ (j : Int) + 1 < (N : Int) ∧ wrap64 ((j : Int) + 1) = (j : Int) + 1 := ⟨by omega, w64_in (by omega) (by omega)⟩
theorem idx_le {j N : Nat} (hj : j ≤ N) (h8 : N ≤ 8) : (j : Int) ≤ 8 := by omega
theorem idx_meas {j N : Nat} (h : j < N) : N - (j + 1) < N - j := by omega
theorem out_bound {a b j L : Nat} (h : a ≤ 2100 * j) (hj : j ≤ 8) (hb : b ≤ 2046) : a + 2 ≤ 140737488355328 ∧ a + 2 + b ≤ 140737488355328 ∧ a + 2 + b ≤ 2100 * (j + 1) := by
  have h2 : 2100 * j ≤ 2100 * 8 := Nat.mul_le_mul_left _ hj
  refine ⟨by omega, by omega, by omega⟩
theorem next_byte {z : Int} (h : 0 ≤ z ∧ z ≤ 255) : z % 256 = ((z.toNat : Nat) : Int) := by omega
theorem cnt_byte {x : Nat} (h : x < 256) : (x : Int) % 256 = (x : Int) := by omega
set_option maxRecDepth 10000 in
set_option maxHeartbeats 6400000 in
theorem exwrite_any (v : Value) (M : List (Int × List Nat)) (proto : Int) (w : World) (hM : ExtsIn w v M) (hl : M.length ≤ 140737488355328) :
    Calls Tryz.prog 69 #[v, .int .i64 proto] w (WriteExt M proto w) := by
  have CK := Lib.hid (fun w hM => excheck_any v M proto w hM hl)
  unfold CheckIs at CK
  obtain ⟨V1, e1⟩ : ∃ V, V = w.alloc (.cells #[.int .i64 0, .int .i64 0] 108) := ⟨_, rfl⟩
  have hA : ArrV 108 V1 w.heap.size [.int .i64 0, .int .i64 0] := by rw [e1]; exact ArrV.new _ w _
  have HA5 := Lib.hid hA
  have HB1 : Hid (Below w.heap.size w V1) := by show Below _ _ _; rw [e1]; exact (Below.refl _ _).alloc (Nat.le_refl _) _
  have HE1 := Lib.hid e1
  have HM := Lib.hid hM
  obtain ⟨A, c, rfl, hc, _⟩ := hM
  have HOK := Lib.hid (fun h => exCheck_ok (M := M) (proto := proto) h)
  have HWX : Hid (∀ e w', WriteExt M proto w e w' ↔ (Below w.heap.size w w' ∧ ((exCheck M proto).1 ≠ 0 → e = .returned (.tuple #[.slice none 0 0, .agg (faultV (exCheck M proto)).toArray])) ∧ ((exCheck M proto).1 = 0 → ∃ v, e = .returned (.tuple #[v, .agg (faultV (0, 0)).toArray]) ∧ OutIs w.heap.size w' v (exBytes proto M)))) := fun e w' => Iff.rfl
  obtain ⟨⟨E, a⟩, hr⟩ : ∃ r, r = exCheck M proto := ⟨_, rfl⟩
  rw [← hr] at CK HOK HWX
  obtain ⟨N, hN⟩ : ∃ N, N = M.length := ⟨_, rfl⟩
  rw [← hN] at hl hc HM CK HOK ⊢
  have CK : Hid (∀ w, ExtsIn w (.slice A N c) M → Calls Tryz.prog 85 #[.slice A N c, .int .i64 proto] w fun e w' => e = .returned (.agg #[.int .i64 (E : Nat), .int .i64 (a : Nat)]) ∧ Below w.heap.size w w') := CK
  have HN := Lib.hid hN
  clear hr e1 hA hl hc hN
  go_enter Tryz.func69, Tryz.ntmps69
  go_upto_region 1 with fail
  rw [← HE1.out]
  go_wp2_with fail
  refine (CK.out _ (HM.out.below HB1.out)).mono ?_
  rintro e w1 ⟨rfl, b1⟩
  have A5 := Lib.hid (HA5.out.below b1)
  have hlt : w.heap.size < w1.heap.size := A5.out.lt
  have BW := Lib.hid (below_both HB1.out b1)
  clear b1
  go_upto_region 2 with fail
  obtain ⟨W, eW⟩ : ∃ W, W = w1.alloc (.cells #[.int .i64 (E : Nat), .int .i64 (a : Nat)] 108) := ⟨_, rfl⟩
  have hA6 : ArrV 108 W w1.heap.size [.int .i64 (E : Nat), .int .i64 (a : Nat)] := by rw [eW]; exact ArrV.new _ w1 _
  have hbW : Below w1.heap.size w1 W := by rw [eW]; exact (Below.refl _ _).alloc (Nat.le_refl _) _
  have d0 := hA6.get 0
  have d1 := hA6.get 1
  simp at d0 d1
  have A5 := Lib.hid (A5.out.below hbW)
  have BW := Lib.hid (below_both BW.out hbW)
  have hne : w1.heap.size ≠ w.heap.size := Nat.ne_of_gt hlt
  rw [← eW]
  generalize w1.heap.size = g6 at *
  have HA6 := Lib.hid hA6
  have HG5 : Hid (w.heap.size < W.heap.size) := A5.out.lt
  clear eW hA6 hbW
  by_cases hE : E ≠ 0
  · have eb : ((E : Int) != 0) = true := bne_iff_ne.2 (by omega)
    have HX : Hid (∀ w', Below w.heap.size w w' → WriteExt M proto w (.returned (.tuple #[.slice none 0 0, .agg #[.int .i64 (E : Nat), .int .i64 (a : Nat)]])) w') := fun w' hb => (HWX.out _ _).2 ⟨hb, fun _ => rfl, fun h => absurd h hE⟩
    have c0 := A5.out.get 0
    have c1 := A5.out.get 1
    have f0 := A5.out.frozen 0
    have f1 := A5.out.frozen 1
    simp at c0 c1
    have HS : Hid (ArrV 108 ((W.setCell ⟨w.heap.size, 0, none⟩ (.int .i64 (E : Nat))).setCell ⟨w.heap.size, 1, none⟩ (.int .i64 (a : Nat))) w.heap.size [.int .i64 (E : Nat), .int .i64 (a : Nat)] ∧ Below w.heap.size w ((W.setCell ⟨w.heap.size, 0, none⟩ (.int .i64 (E : Nat))).setCell ⟨w.heap.size, 1, none⟩ (.int .i64 (a : Nat)))) :=
      ⟨(A5.out.set 0 (.int .i64 (E : Nat))).set 1 (.int .i64 (a : Nat)), (BW.out.setCell (p := ⟨w.heap.size, 0, none⟩) (Nat.le_refl _) _).setCell (p := ⟨w.heap.size, 1, none⟩) (Nat.le_refl _) _⟩
    clear hE hlt hne
    go_upto_region 3 with fail
    go_region
    all_goals
      go_wp2_with fail
      first
        | exact bodyPost_ret (res_tmp_cell Tryz.results69 rfl (HS.out.1.loadVar tyfault rfl) rfl) rfl (HX.out _ HS.out.2)
        | exact bodyPost_ret (res_tmp_cell Tryz.results69 rfl (HS.out.1.drew.loadVar tyfault rfl) rfl) rfl (HX.out _ HS.out.2.drew)
        | (trace_state; fail)
  · obtain rfl : E = 0 := by omega
    have ez : ((0 : Nat) : Int) = 0 := rfl
    rw [ez] at d0 ⊢
    clear ez
    obtain ⟨r1, ⟨p0, p1, p2⟩, h8, hall⟩ := HOK.out rfl
    have HALL := Lib.hid hall
    have HP0 := Lib.hid (And.intro p0 p1)
    have hN8 : N ≤ 8 := h8
    have HX : Hid (∀ v w', OutIs w.heap.size w' v (exBytes proto M) → Below w.heap.size w w' → WriteExt M proto w (.returned (.tuple #[v, .agg #[.int .i64 0, .int .i64 0]])) w') := fun v w' hO hb => (HWX.out _ _).2 ⟨hb, fun h => absurd rfl h, fun _ => ⟨v, rfl, hO⟩⟩
    have BWW : Hid (Below W.heap.size W W) := Below.refl _ _
    have HN8 := Lib.hid hN8
    clear hE r1 p0 p1 p2 h8 hall hN8 HOK HWX CK hlt hne
    go_wp2_with fail
    go_loopw [7, 22] (fun out i V => ∃ (j : Nat) (pre : List Nat), j ≤ N ∧ i = .int .i64 (j : Nat) ∧ OutIs W.heap.size V out pre ∧ Below W.heap.size W V ∧ pre.length ≤ 2100 * j ∧ pre ++ exBytes proto (M.drop j) = exBytes proto M) (fun out i V => N - (intOf i).toNat)
    case atStart => exact ⟨0, [], Nat.zero_le _, rfl, OutIs.nil _ _, BWW.out, Nat.zero_le _, rfl⟩
    case round =>
      obtain ⟨j, pre, hj, rfl, hO, hW, hpl, hpre⟩ := hrel
      have HO := Lib.hid hO
      have HW := Lib.hid hW
      have BV := Lib.hid (below_both BW.out hW)
      have j8 : (j : Int) ≤ 8 := idx_le hj HN8.out
      have HJ := Lib.hid hj
      have HPL := Lib.hid hpl
      by_cases hlt : j < N
      · obtain ⟨⟨k, bd⟩, hm⟩ : ∃ m, M[j]? = some m := ⟨_, List.getElem?_eq_getElem (by rw [← HN.out]; exact hlt)⟩
        have hdrop : M.drop j = (k, bd) :: M.drop (j + 1) := by
          obtain ⟨h1, h2⟩ := List.getElem?_eq_some_iff.1 hm
          rw [List.drop_eq_getElem_cons h1, h2]
        obtain ⟨hkk, x, hx⟩ := HALL.out (k, bd) (List.mem_of_getElem? hm)
        obtain ⟨x256, hbl2, hx3⟩ := exCount_some hx
        clear hx3
        rw [hdrop, exBytes] at hpre
        simp only [] at hx hbl2
        rw [hx] at hpre
        obtain ⟨ob1, ob2, ob3⟩ := out_bound (L := 0) hpl (Nat.le_trans (Nat.le_of_lt hlt) HN8.out) hbl2
        obtain ⟨A2, c2, e2, hc2, hcell⟩ := HM.out.below BW.out
        rw [← HN.out] at e2
        cases e2
        obtain ⟨hbl, b, o, bv, rfl, hb, cc1, cc2, ⟨A3, c3, rfl, hc3, hrow⟩⟩ := hcell j (k, bd) hm
        have jI : (j : Int) < (N : Int) := Int.ofNat_lt.2 hlt
        have j0 : (0 : Int) ≤ (j : Int) := Int.natCast_nonneg j
        have CK := Lib.hid (fun w => excount_any k A3 bd.length c3 w hbl)
        rw [hx] at CK
        have HROW := Lib.hid hrow
        have HOB := Lib.hid (And.intro ob1 (And.intro ob2 ob3))
        have xb := cnt_byte x256
        have hz := exNext_byte (proto := proto) (M := M.drop (j + 1)) HP0.out fun m hm => (HALL.out m (List.mem_of_mem_drop hm)).1
        obtain ⟨zt, hzt⟩ : ∃ zt, zt = (exNext proto (M.drop (j + 1))).toNat := ⟨_, rfl⟩
        have zb : exNext proto (M.drop (j + 1)) % 256 = (zt : Int) := by rw [hzt]; exact next_byte hz
        rw [← hzt] at hpre
        have HPRE := Lib.hid hpre
        simp only [] at cc1 cc2
        have cc1 := (hW.cell (p := ⟨b, o + j * 2, none⟩) hb).trans cc1
        have cc2 := (hW.cell (p := ⟨b, o + j * 2 + 1, none⟩) hb).trans cc2
        have HLT := Lib.hid hlt
        by_cases hj1 : j + 1 < N
        · obtain ⟨⟨k2, bd2⟩, hm2⟩ : ∃ m, M[j + 1]? = some m := ⟨_, List.getElem?_eq_getElem (by rw [← HN.out]; exact hj1)⟩
          have hdrop2 : M.drop (j + 1) = (k2, bd2) :: M.drop (j + 1 + 1) := by
            obtain ⟨h1, h2⟩ := List.getElem?_eq_some_iff.1 hm2
            rw [List.drop_eq_getElem_cons h1, h2]
          obtain ⟨hq1, b', o', bq, e3, hq2, cc3, hq3⟩ := hcell (j + 1) (k2, bd2) hm2
          cases e3
          clear hq1 hq2 hq3
          have zb2 : k2 % 256 = (zt : Int) := by rw [← zb, hdrop2]; rfl
          obtain ⟨j1I, j1N, j10, jw⟩ := idx_more hj1 HN8.out
          simp only [] at cc3
          have cc3 := (hW.cell (p := ⟨b, o + (j + 1) * 2, none⟩) hb).trans cc3
          have hbr := Nat.lt_of_lt_of_le hb hW.size
          clear zb hz hzt hdrop hdrop2 hm hm2 hcell hc2 hrow hc3 hbl hbl2 hW hO hj hlt hj1 hpl hpre hx ob1 ob2 ob3 x256 hkk
          go_upto_region 9 with fail
          obtain ⟨W3, eW3⟩ : ∃ W3, W3 = wr.alloc (.cells #[.int .i64 k, .slice A3 bd.length c3] 112) := ⟨_, rfl⟩
          have hA3 : ArrV 112 W3 wr.heap.size [.int .i64 k, .slice A3 bd.length c3] := by rw [eW3]; exact ArrV.new _ wr _
          have hB3 : Below wr.heap.size wr W3 := by rw [eW3]; exact (Below.refl _ _).alloc (Nat.le_refl _) _
          have cc3 := (hB3.cell (p := ⟨b, o + (j + 1) * 2, none⟩) hbr).trans cc3
          have HA9 := Lib.hid hA3
          have d0 := hA3.get 0
          have d1 := hA3.get 1
          simp at d0 d1
          have HLO := Lib.hid (out_lt HO.out)
          have HO := Lib.hid (HO.out.below hB3)
          have HW := Lib.hid (below_both HW.out hB3)
          rw [← eW3]
          obtain ⟨g9, hg9⟩ : ∃ g, g = wr.heap.size := ⟨_, rfl⟩
          rw [← hg9] at HA9 HLO d0 d1 ⊢
          clear eW3 hA3 hB3 cc1 cc2 hg9 hb hbr
          go_wp2_with fail
          refine (CK.out _).mono ?_
          rintro e w5 ⟨rfl, b5⟩
          have HA9 := Lib.hid (HA9.out.below b5)
          have HO := Lib.hid (HO.out.below b5)
          have HW := Lib.hid (below_both HW.out b5)
          have HC9 : Hid (∀ ob, (w5.alloc ob).cell? ⟨g9, 1, none⟩ = some (.slice A3 bd.length c3)) := fun ob => (World.cell?_alloc_lt w5 ob ⟨g9, 1, none⟩ HA9.out.lt).trans (HA9.out.get 1)
          clear b5 d0 d1 CK cc3
          go_wp2_with (first
            | (at_builtin; refine wpList_append_bytes_g (B := W.heap.size) (W := W) rfl (.tmp 44) (.tmp 49) rfl (news := [zt, x]) #[.int .u8 (zt : Nat), .int .u8 (x : Nat)] 2 rfl rfl rfl rfl HO.out HW.out HW.out.size HOB.out.1 ?_
               intro v6 w6 ho6 hb6 hg6
               have c9 := cell_grown HO.out HLO.out (HC9.out _) hg6
               have O6 := Lib.hid ho6
               have B6 := Lib.hid hb6
               have R6 := Lib.hid (HROW.out.below hb6)
               have HL6 : Hid ((pre ++ [zt, x]).length + bd.length ≤ 140737488355328) := by show (pre ++ [zt, x]).length + bd.length ≤ _; rw [List.length_append]; exact HOB.out.2.1
               clear ho6 hb6 hg6)
            | (at_builtin; refine wpList_append_row_any (B := W.heap.size) (W := W) rfl (.tmp 51) (.tmp 53) rfl rfl rfl rfl O6.out R6.out B6.out B6.out.size HL6.out ?_
               intro v7 w7 ho7 hb7
               have O7 := Lib.hid ho7
               have B7 := Lib.hid hb7
               clear ho7 hb7)
            | fail)
          all_goals
            go_roundw
            case rel => exact ⟨j + 1, pre ++ [zt, x] ++ bd, HLT.out, by go_num, O7.out, B7.out, by rw [List.length_append, List.length_append]; exact HOB.out.2.2, by rw [← HPRE.out]; simp⟩
            case measure => have hms := idx_meas HLT.out; simpa [intOf] using hms
        · have hdrop2 : M.drop (j + 1) = [] := List.drop_of_length_le (by rw [← HN.out]; exact Nat.le_of_not_lt hj1)
          have zb2 : proto % 256 = (zt : Int) := by rw [← zb, hdrop2]; rfl
          obtain ⟨j1I, jw⟩ := idx_last hj1 hj HN8.out
          clear zb hz hzt hdrop hdrop2 hm hcell hc2 hrow hc3 hbl hbl2 hW hO hj hlt hj1 hpl hpre hx ob1 ob2 ob3 x256 hkk hb
          go_upto_region 9 with fail
          obtain ⟨W3, eW3⟩ : ∃ W3, W3 = wr.alloc (.cells #[.int .i64 k, .slice A3 bd.length c3] 112) := ⟨_, rfl⟩
          have hA3 : ArrV 112 W3 wr.heap.size [.int .i64 k, .slice A3 bd.length c3] := by rw [eW3]; exact ArrV.new _ wr _
          have hB3 : Below wr.heap.size wr W3 := by rw [eW3]; exact (Below.refl _ _).alloc (Nat.le_refl _) _
          have HA9 := Lib.hid hA3
          have d0 := hA3.get 0
          have d1 := hA3.get 1
          simp at d0 d1
          have HLO := Lib.hid (out_lt HO.out)
          have HO := Lib.hid (HO.out.below hB3)
          have HW := Lib.hid (below_both HW.out hB3)
          rw [← eW3]
          obtain ⟨g9, hg9⟩ : ∃ g, g = wr.heap.size := ⟨_, rfl⟩
          rw [← hg9] at HA9 HLO d0 d1 ⊢
          clear eW3 hA3 hB3 cc1 cc2 hg9
          go_wp2_with fail
          refine (CK.out _).mono ?_
          rintro e w5 ⟨rfl, b5⟩
          have HA9 := Lib.hid (HA9.out.below b5)
          have HO := Lib.hid (HO.out.below b5)
          have HW := Lib.hid (below_both HW.out b5)
          have HC9 : Hid (∀ ob, (w5.alloc ob).cell? ⟨g9, 1, none⟩ = some (.slice A3 bd.length c3)) := fun ob => (World.cell?_alloc_lt w5 ob ⟨g9, 1, none⟩ HA9.out.lt).trans (HA9.out.get 1)
          clear b5 d0 d1 CK
          go_wp2_with (first
            | (at_builtin; refine wpList_append_bytes_g (B := W.heap.size) (W := W) rfl (.tmp 44) (.tmp 49) rfl (news := [zt, x]) #[.int .u8 (zt : Nat), .int .u8 (x : Nat)] 2 rfl rfl rfl rfl HO.out HW.out HW.out.size HOB.out.1 ?_
               intro v6 w6 ho6 hb6 hg6
               have c9 := cell_grown HO.out HLO.out (HC9.out _) hg6
               have O6 := Lib.hid ho6
               have B6 := Lib.hid hb6
               have R6 := Lib.hid (HROW.out.below hb6)
               have HL6 : Hid ((pre ++ [zt, x]).length + bd.length ≤ 140737488355328) := by show (pre ++ [zt, x]).length + bd.length ≤ _; rw [List.length_append]; exact HOB.out.2.1
               clear ho6 hb6 hg6)
            | (at_builtin; refine wpList_append_row_any (B := W.heap.size) (W := W) rfl (.tmp 51) (.tmp 53) rfl rfl rfl rfl O6.out R6.out B6.out B6.out.size HL6.out ?_
               intro v7 w7 ho7 hb7
               have O7 := Lib.hid ho7
               have B7 := Lib.hid hb7
               clear ho7 hb7)
            | fail)
          all_goals
            go_roundw
            case rel => exact ⟨j + 1, pre ++ [zt, x] ++ bd, HLT.out, by go_num, O7.out, B7.out, by rw [List.length_append, List.length_append]; exact HOB.out.2.2, by rw [← HPRE.out]; simp⟩
            case measure => have hms := idx_meas HLT.out; simpa [intOf] using hms
      · obtain rfl : j = N := Nat.le_antisymm hj (Nat.le_of_not_lt hlt)
        have hz : pre = exBytes proto M := by rw [← hpre, List.drop_of_length_le (by rw [HN.out]; exact Nat.le_refl _)]; exact (List.append_nil _).symm
        rw [hz] at HO
        have A5 := Lib.hid (A5.out.below hW)
        have c0 := A5.out.get 0
        have c1 := A5.out.get 1
        have f0 := A5.out.frozen 0
        have f1 := A5.out.frozen 1
        simp at c0 c1
        have jN : ¬ (j : Int) < (j : Int) := Int.lt_irrefl _
        have HS : Hid (ArrV 108 ((wr.setCell ⟨w.heap.size, 0, none⟩ (.int .i64 0)).setCell ⟨w.heap.size, 1, none⟩ (.int .i64 0)) w.heap.size [.int .i64 0, .int .i64 0] ∧ Below w.heap.size w ((wr.setCell ⟨w.heap.size, 0, none⟩ (.int .i64 0)).setCell ⟨w.heap.size, 1, none⟩ (.int .i64 0)) ∧ OutIs w.heap.size ((wr.setCell ⟨w.heap.size, 0, none⟩ (.int .i64 0)).setCell ⟨w.heap.size, 1, none⟩ (.int .i64 0)) u7 (exBytes proto M)) :=
          ⟨(A5.out.set 0 (.int .i64 0)).set 1 (.int .i64 0), (BV.out.setCell (p := ⟨w.heap.size, 0, none⟩) (Nat.le_refl _) _).setCell (p := ⟨w.heap.size, 1, none⟩) (Nat.le_refl _) _,
            OutIs.mono (show OutIs W.heap.size _ _ _ from ownsRow_other (ownsRow_other HO.out ⟨w.heap.size, 0, none⟩ _ HG5.out) ⟨w.heap.size, 1, none⟩ _ HG5.out) BW.out.size⟩
        clear hpre hz hW hO hj hlt hpl
        go_wp2_with fail
        first
          | exact bodyPost_ret (res_tmp_cell Tryz.results69 rfl (HS.out.1.loadVar tyfault rfl) rfl) rfl (HX.out _ _ HS.out.2.2 HS.out.2.1)
          | (trace_state; fail)
end Go.Proofs.YtmchclpkjjmocaaGreat

namespace Go.Proofs.YtmchclpkjjmocaaGreat
open Go.RowKit
set_option linter.unusedVariables false

def ListIs (w : World) (M : List (Nat × List Nat)) (e : Ending) (w' : World) : Prop := ∃ v, e = .returned v ∧ Exts w.heap.size w' v M ∧ Below w.heap.size w w'
theorem tour_field (t : Tour) (A : Option Addr) (N c : Nat) (X : Array Value) (hX : X = (Tour.cells t (.slice A N c)).toArray) (w : World) : (Instr.field 152 (.agg X) 1).run Tryz.prog w = .ok (.slice A N c) w := by
  subst hX
  simp [Tour.cells, Instr.field, asAgg, run_underlying Tryz.underlying152, go_sem]
theorem idx_thousand {j N : Nat} (hj : j ≤ N) (h8 : N ≤ 1000) : (j : Int) ≤ 1000 := by omega
theorem take_snoc {α : Type} {M : List α} {j : Nat} {m : α} (h : M[j]? = some m) : M.take (j + 1) = M.take j ++ [m] := by
  obtain ⟨h1, h2⟩ := List.getElem?_eq_some_iff.1 h
  rw [List.take_succ_eq_append_getElem h1, h2]
end Go.Proofs.YtmchclpkjjmocaaGreat

namespace Go.Proofs.YtmchclpkjjmocaaGreat
open Go.RowKit
set_option linter.unusedVariables false

theorem run_append_keep {B : Nat} {W wr : World} {g n c : Nat} {bs news : List Nat} (cs : Array Value) (m : Nat) (hcs : cs.toList = bcells news) (hm : news.length = m) (hn : bs.length = n) (hown : OutIs B wr (.slice (some ⟨g, 0, none⟩) n c) bs)
    (hbb : ∀ x ∈ bs ++ news, x < 256) (hb : Below B W wr) (hB : B ≤ wr.heap.size) (hlen : bs.length + m ≤ 140737488355328) :
    ∃ v' w', Sem.run Tryz.prog (Builtin.append_ #[22, 22] 22 #[.slice (some ⟨g, 0, none⟩) n c, .slice (some ⟨wr.heap.size, 0, none⟩) m m]) (wr.alloc (.cells cs 5)) = .ok v' w' ∧ OutIs B w' v' (bs ++ news) ∧ Below B W w' ∧ Row w' (some ⟨g, 0, none⟩) n bs ∧ (wr.alloc (.cells cs 5)).grownBy w' (Value.ownBlock (.slice (some ⟨g, 0, none⟩) n c)) := by
  obtain ⟨v', w', hr, ho, hb'⟩ := append_bytes cs m hcs hm hown hb hB hlen
  obtain ⟨i0, h1, h2, h3, h4⟩ := u8_parts
  refine ⟨v', w', hr, ho, hb', ?_, ?_⟩
  rotate_left
  · obtain ⟨v2, w2, hr2, _, hg2, _⟩ := run_append_own (P := Tryz.prog) (wr.alloc (.cells cs 5)) B 22 22 5 i0 (.int .u8 0) 1 1 Tryz.underlying22 h1 h2 h3 h4 rfl (by decide) (.slice (some ⟨g, 0, none⟩) n c) bs.length (bcells bs) (World.ownsRow.alloc hown _)
      ⟨wr.heap.size, 0, none⟩ m m (bcells news) (by rw [bcells_length, hm, Nat.mul_one]) (fun j u hj => by
        rw [add_flat, cell_of_row _ wr.heap.size (0 + j) cs _ _ (heap_alloc_new wr _), Nat.zero_add, ← Array.getElem?_toList, hcs]
        exact hj) (bcells_one news) (by unfold maxLen; omega) (by omega) (by simp; omega)
    rw [hr] at hr2
    injection hr2 with e1 e2
    rw [e2]
    exact hg2
  have hbs : ∀ x ∈ bs, x < 256 := fun x hx => hbb x (List.mem_append_left _ hx)
  have hnews : ∀ j u, (bcells news)[j]? = some u → (wr.alloc (.cells cs 5)).cell? ((⟨wr.heap.size, 0, none⟩ : Addr).add j) = some u := fun j u hj => by
    rw [add_flat, cell_of_row _ wr.heap.size (0 + j) cs _ _ (heap_alloc_new wr _), Nat.zero_add, ← Array.getElem?_toList, hcs]
    exact hj
  have hown2 : (wr.alloc (.cells cs 5)).ownsRow B 5 1 (.slice (some ⟨g, 0, none⟩) n c) bs.length (bcells bs) := World.ownsRow.alloc hown _
  rcases hown2.2 with ⟨h0, _⟩ | ⟨g2, cap, cur, hv, hg, hh, h5, h6, hs, ht⟩
  · cases h0
  · injection hv with hv1 hv2 hv3
    injection hv1 with hv1
    injection hv1 with hv1 hv4
    subst hv1 hv3
    by_cases hroom : n + m ≤ c
    · have hrr := run_append_room (P := Tryz.prog) (wr.alloc (.cells cs 5)) 22 22 5 i0 Tryz.underlying22 h1 g n c cur hh ⟨wr.heap.size, 0, none⟩ m m (bcells news) (by rw [bcells_length, hm, h3, Nat.mul_one]) hnews (bcells_one news) hroom (by rw [bcells_length, hs, h3, hm, Nat.mul_one, Nat.mul_one]; exact hroom)
      rw [hrr] at hr
      injection hr with e1 e2
      obtain ⟨A9, c9, e9, _, _, r9⟩ := ho.out hbb
      rw [← e1] at e9
      injection e9 with e9 _ _
      subst e9
      have hp := r9.part 0 n (by rw [List.length_append]; omega)
      rw [List.drop_zero, Nat.add_zero, List.take_append_of_le_length (by omega), List.take_of_length_le (by omega)] at hp
      exact hp
    · have hgr := run_append_grow (P := Tryz.prog) (wr.alloc (.cells cs 5)) 22 22 5 i0 _ Tryz.underlying22 h1 h2 ⟨g, 0, none⟩ n c (bcells bs) (by rw [bcells_length, hn, h3, Nat.mul_one]) (hown2.cells (g := g) rfl) ⟨wr.heap.size, 0, none⟩ m m (bcells news) (by rw [bcells_length, hm, h3, Nat.mul_one]) hnews (by omega) (by omega) (growslice_fits (by omega) (by rw [h4]; omega))
      rw [hgr] at hr
      injection hr with e1 e2
      have hold : OutIs B (wr.alloc (.cells cs 5)) (.slice (some ⟨g, 0, none⟩) n c) bs := hown2
      have hk := hold.below (w' := w') (by rw [← e2]; exact (show Below (wr.alloc (.cells cs 5)).heap.size (wr.alloc (.cells cs 5)) (wr.alloc (.cells cs 5)).drew from (Below.refl _ _).drew).alloc (Nat.le_refl _) _)
      obtain ⟨A9, c9, e9, _, _, r9⟩ := hk.out hbs
      injection e9 with e9 _ _
      subst e9
      rw [hn] at r9
      exact r9
/-- A walk's defects, in ascending order, between 10 and 14. -/
theorem defects_asc (t : Tour) : t.defects.Pairwise (· < ·) ∧ (∀ x ∈ t.defects, 10 ≤ x ∧ x ≤ 14) ∧ t.defects.length ≤ 5 := by
  unfold Tour.defects
  cases t.ext <;> cases t.hop <;> cases t.many <;> cases t.twice <;> cases t.lng <;> refine ⟨by decide, by decide, by decide⟩
/-- What holds of a walk wherever it stands. -/
structure TourOk (k : Int) (n : Nat) (t : Tour) : Prop where
  at_ : t.at_ ≤ n
  count : t.count ≤ 8
  start : t.count = 0 → t.proto = k ∧ t.at_ = 0
  frag : (0 < t.off) ↔ t.frag = 2
theorem exFrag_iff (hd : List Nat) : 0 < exOff hd ↔ exFrag hd = 2 := by
  unfold exFrag
  split
  · exact ⟨fun _ => rfl, fun _ => by omega⟩
  · split
    · exact ⟨fun h => by omega, fun h => by cases h⟩
    · exact ⟨fun h => by omega, fun h => by cases h⟩
theorem pass_ok {k : Int} {n q behind : Nat} {t : Tour} {hd : List Nat} (h : TourOk k n t) (h8 : t.count < 8) (hl : t.at_ + hd.length ≤ n) : TourOk k n (t.pass q hd behind) := by
  have hoff : 0 < (t.pass q hd behind).off ↔ (t.pass q hd behind).frag = 2 := by
    unfold Tour.pass Tour.mid
    split
    · exact h.frag
    · split
      · exact h.frag
      · split
        · exact exFrag_iff hd
        · exact h.frag
  exact ⟨hl, by show t.count + 1 ≤ 8; omega, fun h0 => by have : t.count + 1 = 0 := h0; omega, hoff⟩
theorem start_ok (k : Int) (n : Nat) : TourOk k n (Tour.start k) := ⟨Nat.zero_le _, Nat.zero_le _, fun _ => ⟨rfl, rfl⟩, ⟨fun h => absurd (show 0 < 0 from h) (Nat.lt_irrefl 0), fun h => by have h2 : (0 : Nat) = 2 := h; cases h2⟩⟩
theorem walkF_ok {k : Int} {n : Nat} {bs : List Nat} : ∀ (f : Nat) (t : Tour) (M : List (Nat × List Nat)), TourOk k n t → t.count + f = 9 → bs.length = n →
    TourOk k n (walkF n bs f t M).1 ∧ ((walkF n bs f t M).1.defects = [] → exKind (walkF n bs f t M).1.proto = false ∨ (walkF n bs f t M).1.frag = 2)
  | 0, t, M, h, hf, hl => by have := h.count; omega
  | f + 1, t, M, h, hf, hl => by
    cases hk : exKind t.proto with
    | false => rw [walkF_end hk]; exact ⟨h, fun _ => .inl hk⟩
    | true =>
      by_cases h8 : t.count = 8
      · rw [walkF_many hk h8]
        refine ⟨⟨h.at_, h.count, h.start, h.frag⟩, fun hd => ?_⟩
        have : 12 ∈ Tour.defects { t with many := true } := by unfold Tour.defects; simp
        rw [hd] at this
        cases this
      · cases hs : exSize t.proto (n - t.at_) (bs.getD (t.at_ + 1) 0) with
        | none =>
          rw [walkF_ext hk h8 hs]
          refine ⟨⟨h.at_, h.count, h.start, h.frag⟩, fun hd => ?_⟩
          have : 10 ∈ Tour.defects { t with ext := true } := by unfold Tour.defects; simp
          rw [hd] at this
          cases this
        | some m =>
          rw [walkF_pass hk h8 hs]
          have hm := exSize_some hs
          have hat := h.at_
          have hcnt := h.count
          have hdl : ((bs.drop t.at_).take m).length = m := by rw [List.length_take, List.length_drop]; omega
          have hp : TourOk k n (t.pass t.proto.toNat ((bs.drop t.at_).take m) (n - t.at_ - m)) := pass_ok h (by omega) (by rw [hdl]; omega)
          split
          · rename_i hfr
            exact ⟨hp, fun _ => .inr hfr⟩
          · exact walkF_ok f _ _ hp (by show t.count + 1 + f = 9; omega) hl
end Go.Proofs.YtmchclpkjjmocaaGreat
