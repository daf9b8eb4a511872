/-
  Contracts of double's holds and Check, and what is wrong as the document says it; the store of one cell.
-/
import Derived.Test.YtdeehkhdmohalaaDbEq
import Derived.Test.YtdeehkhdmohalaaDbPlain
import Derived.Test.YtdeehkhdmohalaaPut
namespace Go.Proofs.Ytdeehkhdmohalaa
open Go.RowKit
set_option linter.unusedVariables false

theorem one_u64 : OneTy 22 := fun w => by simp [isAgg, run_underlying Try.underlying22, go_sem]
theorem size_u64 : (Try.prog.info? 22).map (·.size) = some 1 := by kernel_rfl
/-- The store of one cell of a variable of the class. -/
theorem put_cell64 {o : Oper} {a : Act} {w : World} {L : List (TypeId × Nat × List Value)} (i : Nat) {t : TypeId} {g j : Nat} {n : Int} {cs : List Value} {x y : Operand} (hi : L[i]? = some (t, g, cs)) (ho : o.op = .store 22 x y) (hx : a.eval x = .pointer (some ⟨g, j, none⟩)) (hy : a.eval y = .int .u64 n) (hj : j < cs.length) :
    ∀ W, KV w L W → ∃ W', (execOp a.eval o).run Try.prog W = .ok .skip W' ∧ KV w (L.set i (t, g, cs.set j (.int .u64 n))) W' := fun W hW => by
  refine ⟨W.setCell ⟨g, j, none⟩ (.int .u64 n), ?_, hW.put i hi j _⟩
  have hc := (hW.at i hi).get j
  have hf := (hW.at i hi).frozen j
  rw [List.getElem?_eq_getElem hj] at hc
  unfold execOp
  simp only [ho, hx, hy]
  simp [Instr.storeAt, Instr.sureAddr, storeVar, go_sem, hc, hf]

theorem dbholds_any (b : Nat) (t : Bool) (w : World) (ht : Hid (t = decide (1 ≤ b ∧ b ≤ 4294967296))) :
    Calls Try.prog 21 #[.int .u64 b] w fun e w' => e = .returned (.bool t) ∧ w = w' := by
  by_cases h1 : 1 ≤ b
  · by_cases h2 : b ≤ 4294967296
    · obtain rfl : t = true := by rw [ht.out]; simp [h1, h2]
      have i1 : (1 : Int) ≤ (b : Int) := by omega
      have i2 : (b : Int) ≤ 4294967296 := by omega
      clear ht h2
      go_enter Try.func21, Try.ntmps21
      go_wp2
      go_ret
      exact ⟨rfl, rfl⟩
    · obtain rfl : t = false := by rw [ht.out]; simp [h1, h2]
      have i1 : (1 : Int) ≤ (b : Int) := by omega
      have i2 : ¬ (b : Int) ≤ 4294967296 := by omega
      clear ht h2
      go_enter Try.func21, Try.ntmps21
      go_wp2
      go_ret
      exact ⟨rfl, rfl⟩
  · obtain rfl : b = 0 := by omega
    obtain rfl : t = false := by rw [ht.out]; simp
    clear ht h1
    go_enter Try.func21, Try.ntmps21
    go_wp2
    go_ret
    exact ⟨rfl, rfl⟩
set_option maxRecDepth 10000 in
theorem dbcheck_any (m : Mt) (c : Int) (w : World) (hc : Hid (c = dbCheck m)) :
    Calls Try.prog 11 #[.agg (mtC m).toArray] w fun e w' => e = .returned (.int .i64 c) ∧ Below w.heap.size w w' := by
  obtain ⟨k, a, r, p, b, x⟩ := m
  have hc1 := hc.out
  clear hc
  unfold dbCheck at hc1
  dsimp only at hc1
  show Calls Try.prog 11 #[.agg #[.int .i64 k, .bool a, .int .u64 (r : Nat), .int .u64 (p : Nat), .int .u64 (b : Nat), .int .u64 (x : Nat)]] w _
  by_cases h1 : k = 2
  · subst h1
    rw [if_neg (by simp)] at hc1
    by_cases h2 : p < r
    · rw [if_pos (.inl h2)] at hc1
      subst hc1
      have i2 : (p : Int) < (r : Int) := by omega
      go_enter Try.func11, Try.ntmps11
      have K0 := Lib.hid (KV.one w 24 [.int .i64 2, .bool a, .int .u64 (r : Nat), .int .u64 (p : Nat), .int .u64 (b : Nat), .int .u64 (x : Nat)])
      have c0 := (K0.out.at 0 rfl).get 0
      have c1 := (K0.out.at 0 rfl).get 1
      have c2 := (K0.out.at 0 rfl).get 2
      have c3 := (K0.out.at 0 rfl).get 3
      have c4 := (K0.out.at 0 rfl).get 4
      have c5 := (K0.out.at 0 rfl).get 5
      simp at c0 c1 c2 c3 c4 c5
      go_wp2_with fail
      go_ret
      exact ⟨rfl, K0.out.bel⟩
    · have i2 : ¬ (p : Int) < (r : Int) := by omega
      by_cases h3 : 1099511627776 < p
      · rw [if_pos (.inr h3)] at hc1
        subst hc1
        have i3 : (1099511627776 : Int) < (p : Int) := by omega
        clear h3
        go_enter Try.func11, Try.ntmps11
        have K0 := Lib.hid (KV.one w 24 [.int .i64 2, .bool a, .int .u64 (r : Nat), .int .u64 (p : Nat), .int .u64 (b : Nat), .int .u64 (x : Nat)])
        have c0 := (K0.out.at 0 rfl).get 0
        have c1 := (K0.out.at 0 rfl).get 1
        have c2 := (K0.out.at 0 rfl).get 2
        have c3 := (K0.out.at 0 rfl).get 3
        have c4 := (K0.out.at 0 rfl).get 4
        have c5 := (K0.out.at 0 rfl).get 5
        simp at c0 c1 c2 c3 c4 c5
        go_wp2_with fail
        go_ret
        exact ⟨rfl, K0.out.bel⟩
      · rw [if_neg (fun h => h.elim h2 h3)] at hc1
        have i3 : ¬ (1099511627776 : Int) < (p : Int) := by omega
        clear h3
        obtain ⟨tb, htb⟩ : ∃ t, t = decide (1 ≤ b ∧ b ≤ 4294967296) := ⟨_, rfl⟩
        obtain ⟨tx, htx⟩ : ∃ t, t = decide (1 ≤ x ∧ x ≤ 4294967296) := ⟨_, rfl⟩
        have C1 := Lib.hid (fun w => dbholds_any b tb w htb)
        have C2 := Lib.hid (fun w => dbholds_any x tx w htx)
        cases tb with
        | false =>
          have hb := of_decide_eq_false htb.symm
          rw [if_pos (by omega)] at hc1
          subst hc1
          clear htb htx hb h2
          go_enter Try.func11, Try.ntmps11
          have K0 := Lib.hid (KV.one w 24 [.int .i64 2, .bool a, .int .u64 (r : Nat), .int .u64 (p : Nat), .int .u64 (b : Nat), .int .u64 (x : Nat)])
          have c0 := (K0.out.at 0 rfl).get 0
          have c1 := (K0.out.at 0 rfl).get 1
          have c2 := (K0.out.at 0 rfl).get 2
          have c3 := (K0.out.at 0 rfl).get 3
          have c4 := (K0.out.at 0 rfl).get 4
          have c5 := (K0.out.at 0 rfl).get 5
          simp at c0 c1 c2 c3 c4 c5
          go_wp2_with fail
          refine (C1.out _).mono ?_
          rintro e w1 ⟨rfl, rfl⟩
          go_wp2_with fail
          go_ret
          exact ⟨rfl, K0.out.bel⟩
        | true =>
          have hb := of_decide_eq_true htb.symm
          cases tx with
          | false =>
            have hx := of_decide_eq_false htx.symm
            rw [if_pos (by omega)] at hc1
            subst hc1
            clear htb htx hb hx h2
            go_enter Try.func11, Try.ntmps11
            have K0 := Lib.hid (KV.one w 24 [.int .i64 2, .bool a, .int .u64 (r : Nat), .int .u64 (p : Nat), .int .u64 (b : Nat), .int .u64 (x : Nat)])
            have c0 := (K0.out.at 0 rfl).get 0
            have c1 := (K0.out.at 0 rfl).get 1
            have c2 := (K0.out.at 0 rfl).get 2
            have c3 := (K0.out.at 0 rfl).get 3
            have c4 := (K0.out.at 0 rfl).get 4
            have c5 := (K0.out.at 0 rfl).get 5
            simp at c0 c1 c2 c3 c4 c5
            go_wp2_with fail
            refine (C1.out _).mono ?_
            rintro e w1 ⟨rfl, rfl⟩
            go_wp2_with fail
            refine (C2.out _).mono ?_
            rintro e w1 ⟨rfl, rfl⟩
            go_wp2_with fail
            go_ret
            exact ⟨rfl, K0.out.bel⟩
          | true =>
            have hx := of_decide_eq_true htx.symm
            rw [if_neg (by omega)] at hc1
            subst hc1
            clear htb htx hb hx h2
            go_enter Try.func11, Try.ntmps11
            have K0 := Lib.hid (KV.one w 24 [.int .i64 2, .bool a, .int .u64 (r : Nat), .int .u64 (p : Nat), .int .u64 (b : Nat), .int .u64 (x : Nat)])
            have c0 := (K0.out.at 0 rfl).get 0
            have c1 := (K0.out.at 0 rfl).get 1
            have c2 := (K0.out.at 0 rfl).get 2
            have c3 := (K0.out.at 0 rfl).get 3
            have c4 := (K0.out.at 0 rfl).get 4
            have c5 := (K0.out.at 0 rfl).get 5
            simp at c0 c1 c2 c3 c4 c5
            go_wp2_with fail
            refine (C1.out _).mono ?_
            rintro e w1 ⟨rfl, rfl⟩
            go_wp2_with fail
            refine (C2.out _).mono ?_
            rintro e w1 ⟨rfl, rfl⟩
            go_wp2_with fail
            go_ret
            exact ⟨rfl, K0.out.bel⟩
  · rw [if_pos h1] at hc1
    subst hc1
    have i1 : ((k : Int) != 2) = true := by rw [bne_iff_ne]; exact h1
    have i1' : (k == 2) = false := by rw [beq_eq_false_iff_ne]; exact h1
    go_enter Try.func11, Try.ntmps11
    have K0 := Lib.hid (KV.one w 24 [.int .i64 k, .bool a, .int .u64 (r : Nat), .int .u64 (p : Nat), .int .u64 (b : Nat), .int .u64 (x : Nat)])
    have c0 := (K0.out.at 0 rfl).get 0
    have c1 := (K0.out.at 0 rfl).get 1
    have c2 := (K0.out.at 0 rfl).get 2
    have c3 := (K0.out.at 0 rfl).get 3
    have c4 := (K0.out.at 0 rfl).get 4
    have c5 := (K0.out.at 0 rfl).get 5
    simp at c0 c1 c2 c3 c4 c5
    go_wp2_with fail
    go_ret
    exact ⟨rfl, K0.out.bel⟩
set_option maxRecDepth 10000 in
theorem rdbcheck_any (m : Mt) (c : Int) (w : World) (hc : Hid (c = dbCheck m)) :
    Calls Try.prog 12 #[.agg (mtC m).toArray] w fun e w' => e = .returned (.int .i64 c) ∧ Below w.heap.size w w' := by
  obtain ⟨k, a, r, p, b, x⟩ := m
  have hc1 := hc.out
  clear hc
  unfold dbCheck at hc1
  dsimp only at hc1
  show Calls Try.prog 12 #[.agg #[.int .i64 k, .bool a, .int .u64 (r : Nat), .int .u64 (p : Nat), .int .u64 (b : Nat), .int .u64 (x : Nat)]] w _
  by_cases h1 : k = 2
  · subst h1
    rw [if_neg (by simp)] at hc1
    by_cases h2 : p < r
    · rw [if_pos (.inl h2)] at hc1
      subst hc1
      have i2 : (p : Int) < (r : Int) := by omega
      go_enter Try.func12, Try.ntmps12
      have K0 := Lib.hid (KV.one w 24 [.int .i64 2, .bool a, .int .u64 (r : Nat), .int .u64 (p : Nat), .int .u64 (b : Nat), .int .u64 (x : Nat)])
      have c0 := (K0.out.at 0 rfl).get 0
      have c1 := (K0.out.at 0 rfl).get 1
      have c2 := (K0.out.at 0 rfl).get 2
      have c3 := (K0.out.at 0 rfl).get 3
      have c4 := (K0.out.at 0 rfl).get 4
      have c5 := (K0.out.at 0 rfl).get 5
      simp at c0 c1 c2 c3 c4 c5
      go_wp2_with fail
      go_ret
      exact ⟨rfl, K0.out.bel⟩
    · have i2 : ¬ (p : Int) < (r : Int) := by omega
      by_cases h3 : 1099511627776 < p
      · rw [if_pos (.inr h3)] at hc1
        subst hc1
        have i3 : (1099511627776 : Int) < (p : Int) := by omega
        clear h3
        go_enter Try.func12, Try.ntmps12
        have K0 := Lib.hid (KV.one w 24 [.int .i64 2, .bool a, .int .u64 (r : Nat), .int .u64 (p : Nat), .int .u64 (b : Nat), .int .u64 (x : Nat)])
        have c0 := (K0.out.at 0 rfl).get 0
        have c1 := (K0.out.at 0 rfl).get 1
        have c2 := (K0.out.at 0 rfl).get 2
        have c3 := (K0.out.at 0 rfl).get 3
        have c4 := (K0.out.at 0 rfl).get 4
        have c5 := (K0.out.at 0 rfl).get 5
        simp at c0 c1 c2 c3 c4 c5
        go_wp2_with fail
        go_ret
        exact ⟨rfl, K0.out.bel⟩
      · rw [if_neg (fun h => h.elim h2 h3)] at hc1
        have i3 : ¬ (1099511627776 : Int) < (p : Int) := by omega
        clear h3
        by_cases h4 : b < 1
        · rw [if_pos (.inl h4)] at hc1
          subst hc1
          have i4 : (b : Int) < 1 := by omega
          clear h2
          go_enter Try.func12, Try.ntmps12
          have K0 := Lib.hid (KV.one w 24 [.int .i64 2, .bool a, .int .u64 (r : Nat), .int .u64 (p : Nat), .int .u64 (b : Nat), .int .u64 (x : Nat)])
          have c0 := (K0.out.at 0 rfl).get 0
          have c1 := (K0.out.at 0 rfl).get 1
          have c2 := (K0.out.at 0 rfl).get 2
          have c3 := (K0.out.at 0 rfl).get 3
          have c4 := (K0.out.at 0 rfl).get 4
          have c5 := (K0.out.at 0 rfl).get 5
          simp at c0 c1 c2 c3 c4 c5
          go_wp2_with fail
          go_ret
          exact ⟨rfl, K0.out.bel⟩
        · have i4 : ¬ (b : Int) < 1 := by omega
          by_cases h5 : 4294967296 < b
          · rw [if_pos (.inr (.inl h5))] at hc1
            subst hc1
            have i5 : (4294967296 : Int) < (b : Int) := by omega
            clear h2 h5
            go_enter Try.func12, Try.ntmps12
            have K0 := Lib.hid (KV.one w 24 [.int .i64 2, .bool a, .int .u64 (r : Nat), .int .u64 (p : Nat), .int .u64 (b : Nat), .int .u64 (x : Nat)])
            have c0 := (K0.out.at 0 rfl).get 0
            have c1 := (K0.out.at 0 rfl).get 1
            have c2 := (K0.out.at 0 rfl).get 2
            have c3 := (K0.out.at 0 rfl).get 3
            have c4 := (K0.out.at 0 rfl).get 4
            have c5 := (K0.out.at 0 rfl).get 5
            simp at c0 c1 c2 c3 c4 c5
            go_wp2_with fail
            go_ret
            exact ⟨rfl, K0.out.bel⟩
          · have i5 : ¬ (4294967296 : Int) < (b : Int) := by omega
            by_cases h6 : x < 1
            · rw [if_pos (.inr (.inr (.inl h6)))] at hc1
              subst hc1
              have i6 : (x : Int) < 1 := by omega
              clear h2 h5
              go_enter Try.func12, Try.ntmps12
              have K0 := Lib.hid (KV.one w 24 [.int .i64 2, .bool a, .int .u64 (r : Nat), .int .u64 (p : Nat), .int .u64 (b : Nat), .int .u64 (x : Nat)])
              have c0 := (K0.out.at 0 rfl).get 0
              have c1 := (K0.out.at 0 rfl).get 1
              have c2 := (K0.out.at 0 rfl).get 2
              have c3 := (K0.out.at 0 rfl).get 3
              have c4 := (K0.out.at 0 rfl).get 4
              have c5 := (K0.out.at 0 rfl).get 5
              simp at c0 c1 c2 c3 c4 c5
              go_wp2_with fail
              go_ret
              exact ⟨rfl, K0.out.bel⟩
            · have i6 : ¬ (x : Int) < 1 := by omega
              by_cases h7 : 4294967296 < x
              · rw [if_pos (.inr (.inr (.inr h7)))] at hc1
                subst hc1
                have i7 : (4294967296 : Int) < (x : Int) := by omega
                clear h2 h5 h7
                go_enter Try.func12, Try.ntmps12
                have K0 := Lib.hid (KV.one w 24 [.int .i64 2, .bool a, .int .u64 (r : Nat), .int .u64 (p : Nat), .int .u64 (b : Nat), .int .u64 (x : Nat)])
                have c0 := (K0.out.at 0 rfl).get 0
                have c1 := (K0.out.at 0 rfl).get 1
                have c2 := (K0.out.at 0 rfl).get 2
                have c3 := (K0.out.at 0 rfl).get 3
                have c4 := (K0.out.at 0 rfl).get 4
                have c5 := (K0.out.at 0 rfl).get 5
                simp at c0 c1 c2 c3 c4 c5
                go_wp2_with fail
                go_ret
                exact ⟨rfl, K0.out.bel⟩
              · rw [if_neg (by omega)] at hc1
                subst hc1
                have i7 : ¬ (4294967296 : Int) < (x : Int) := by omega
                clear h2 h5 h7
                go_enter Try.func12, Try.ntmps12
                have K0 := Lib.hid (KV.one w 24 [.int .i64 2, .bool a, .int .u64 (r : Nat), .int .u64 (p : Nat), .int .u64 (b : Nat), .int .u64 (x : Nat)])
                have c0 := (K0.out.at 0 rfl).get 0
                have c1 := (K0.out.at 0 rfl).get 1
                have c2 := (K0.out.at 0 rfl).get 2
                have c3 := (K0.out.at 0 rfl).get 3
                have c4 := (K0.out.at 0 rfl).get 4
                have c5 := (K0.out.at 0 rfl).get 5
                simp at c0 c1 c2 c3 c4 c5
                go_wp2_with fail
                go_ret
                exact ⟨rfl, K0.out.bel⟩
  · rw [if_pos h1] at hc1
    subst hc1
    have i1 : ((k : Int) != 2) = true := by rw [bne_iff_ne]; exact h1
    have i1' : (k == 2) = false := by rw [beq_eq_false_iff_ne]; exact h1
    go_enter Try.func12, Try.ntmps12
    have K0 := Lib.hid (KV.one w 24 [.int .i64 k, .bool a, .int .u64 (r : Nat), .int .u64 (p : Nat), .int .u64 (b : Nat), .int .u64 (x : Nat)])
    have c0 := (K0.out.at 0 rfl).get 0
    have c1 := (K0.out.at 0 rfl).get 1
    have c2 := (K0.out.at 0 rfl).get 2
    have c3 := (K0.out.at 0 rfl).get 3
    have c4 := (K0.out.at 0 rfl).get 4
    have c5 := (K0.out.at 0 rfl).get 5
    simp at c0 c1 c2 c3 c4 c5
    go_wp2_with fail
    go_ret
    exact ⟨rfl, K0.out.bel⟩
end Go.Proofs.Ytdeehkhdmohalaa
