/-
  The walk of the statement WholeSix.
-/
import Derived.Test.YtlopmkmcjcijcaaWS4
import Derived.Test.YtlopmkmcjcijcaaEw4
import Derived.Deep.RegionHeld3
namespace Go.Proofs.Ytlopmkmcjcijcaa
open Go.RowKit
set_option linter.unusedVariables false

theorem six_pair {x : Nat} (hx : x ≠ 0) : ((x : Int) != 0) = true ∧ ((x : Int) == (x : Int)) = true := ⟨bne_iff_ne.2 (by omega), by simp⟩
theorem at6_ints {a n : Nat} (ha : a ≤ 16384) : wrap64 ((a : Int) + 8) = ((a + 8 : Nat) : Int) ∧ ¬ (a : Int) < 0 := ⟨by unfold wrap64; omega, by omega⟩
theorem no_more {a b n : Nat} (h : n = a + b) : ¬ (n : Int) < (a : Int) := by omega
theorem kinds_below {M : List (Int × List Nat)} {n : Nat} (hn : M.length = n) {P : Int × List Nat → Prop} (h : ∀ i x, i < n → M[i]? = some x → P x) : ∀ m ∈ M, P m := fun m hm => by
  obtain ⟨i, hi, rfl⟩ := List.getElem_of_mem hm
  exact h i _ (by rw [← hn]; exact hi) (List.getElem?_eq_getElem hi)
def Upto (M : List (Int × List Nat)) (j : Nat) (P : Int × List Nat → Prop) : Prop := ∀ i x, i < j → M[i]? = some x → P x
theorem Upto.next {M : List (Int × List Nat)} {j : Nat} {P : Int × List Nat → Prop} {m : Int × List Nat} (h : Upto M j P) (hm : M[j]? = some m) (hp : P m) : Upto M (j + 1) P := fun i x hi hx => by
  rcases Nat.lt_succ_iff_lt_or_eq.1 hi with h1 | h1
  · exact h i x h1 hx
  · subst h1
    rw [hm] at hx
    injection hx with hx
    rw [← hx]; exact hp
theorem six_ints {j n : Nat} (h : j < n) (hn : n ≤ 9) : (j : Int) < (n : Int) ∧ (0 : Int) ≤ (j : Int) ∧ (j : Int) ≤ 9 ∧ n - (j + 1) < n - j := ⟨by omega, by omega, by omega, by omega⟩
theorem six_last {eA cA eB cB lA l2 : Nat} (h1 : eA ≤ 16384) (h2 : cA ≤ 8) (h3 : eB = eA + 8) (h4 : cB = cA + 1) (h5 : lA = eA + l2) :
    ¬ (eA : Int) < 0 ∧ ¬ (lA : Int) < (eA : Int) ∧ wrap64 ((eA : Int) + 8) = (eB : Int) ∧ wrap64 ((cA : Int) + 1) = (cB : Int) ∧ IntKind.i64.wrap ((eB : Int) - 8) = (eA : Int) ∧ wrap64 ((eB : Int) - 8) = (eA : Int) := by
  subst h3 h4
  refine ⟨by omega, by omega, by unfold wrap64; omega, by unfold wrap64; omega, ?_, by unfold wrap64; omega⟩
  have e : ((eA + 8 : Nat) : Int) - 8 = (eA : Int) := by omega
  rw [e]
  exact IntWalk.i64_in _ (by omega)
def Plain6 (m : Int × List Nat) : Prop := m.1 ≠ 44
def NoHop6 (m : Int × List Nat) : Prop := m.1 ≠ 0
set_option maxRecDepth 10000 in
set_option maxHeartbeats 6400000 in
theorem walk_WholeSix (a0 : Option Addr) (len0 cap0 : Nat) (M0 : List (Int × List Nat)) (n1 : Nat) (a2 : Option Addr) (len2 cap2 : Nat) (bs2 : List Nat) (w : World) (hM0 : M0.length = len0) (HX0 : ExtsIn w (.slice a0 len0 cap0) M0) (hn0 : len0 ≤ 140737488351232) (hB0 : ∀ m ∈ M0, (-9223372036854775808 ≤ m.1 ∧ m.1 ≤ 9223372036854775807) ∧ m.2.length ≤ 140737488351232) (hi1 : n1 ≤ 255) (R2 : Row w a2 len2 bs2) (hl2 : len2 ≤ cap2) (hc2 : cap2 ≤ 140737488351232) :
    Calls Try.prog 15 #[.slice a0 len0 cap0, .int .u8 n1, .slice a2 len2 cap2] w fun e w' => e = .returned (.bool true) ∧ Below w.heap.size w w' := by
  have C44 : Hid (∀ w, Calls Try.prog 22 #[.int .i64 44] w fun e w' => e = .returned (.bool true) ∧ w = w') := fun w => exis_any 44 w
  have C0 : Hid (∀ w, Calls Try.prog 22 #[.int .i64 0] w fun e w' => e = .returned (.bool true) ∧ w = w') := fun w => exis_any 0 w
  have C60 : Hid (∀ w, Calls Try.prog 22 #[.int .i64 60] w fun e w' => e = .returned (.bool true) ∧ w = w') := fun w => exis_any 60 w
  have HX := Lib.hid HX0
  have HR := Lib.hid R2
  have HC2 := Lib.hid hl2
  by_cases h8 : 8 ≤ len0
  · have g8 : (8 : Int) ≤ (len0 : Int) := by omega
    clear hM0 HX0 hn0 hB0 hi1 R2 hl2 hc2 h8
    go_enter Try.func15, Try.ntmps15
    go_wp2_with fail
    refine (C44.out _).mono ?_
    rintro e w' ⟨rfl, rfl⟩
    go_wp2_with fail
    go_ret
    exact ⟨rfl, Below.refl _ _⟩
  by_cases h1000 : 1000 < len2
  · have g8 : ¬ (8 : Int) ≤ (len0 : Int) := by omega
    have g1000 : (1000 : Int) < (len2 : Int) := by omega
    clear hM0 HX0 hn0 hB0 hi1 R2 hl2 hc2 h8 h1000
    go_enter Try.func15, Try.ntmps15
    go_wp2_with fail
    refine (C44.out _).mono ?_
    rintro e w' ⟨rfl, rfl⟩
    go_wp2_with fail
    go_ret
    exact ⟨rfl, Below.refl _ _⟩
  have g8 : ¬ (8 : Int) ≤ (len0 : Int) := by omega
  have g1000 : ¬ (1000 : Int) < (len2 : Int) := by omega
  have l8 : len0 < 8 := Nat.lt_of_not_le h8
  have l1000 : len2 ≤ 1000 := Nat.le_of_not_lt h1000
  have hmk : ∀ w : World, (Instr.makeSlice 22 (.int .i64 6) (.int .i64 6)).run Try.prog w = .ok (.slice (some ⟨w.heap.size, 0, none⟩) 6 6) (w.alloc (.cells (bcells (List.replicate 6 0)).toArray 5)) := fun w => make_bytes 6 (by decide) w
  have HMK := Lib.hid hmk
  have HL := Lib.hid (And.intro hM0 (And.intro l8 l1000))
  have HP1 := Lib.hid hi1
  have HU0 : Hid (Upto M0 0 Plain6) := fun i x hi => absurd hi (Nat.not_lt_zero _)
  clear hM0 HX0 hn0 hB0 hi1 R2 hl2 hc2 h8 h1000 l8 l1000 hmk
  go_enter Try.func15, Try.ntmps15
  go_wp2_with fail
  go_loopw [7] (fun i W => ∃ j : Nat, j ≤ len0 ∧ i = .int .i64 (j : Nat) ∧ Upto M0 j Plain6 ∧ W = w) (fun i W => len0 - (intOf i).toNat)
  case atStart => exact ⟨0, Nat.zero_le _, rfl, HU0.out, rfl⟩
  case round =>
    obtain ⟨j, hj, rfl, hU, hw⟩ := hrel
    rw [hw]
    clear hw
    have HU := Lib.hid hU
    by_cases hlt : j < len0
    · obtain ⟨⟨k, bd⟩, hm⟩ : ∃ m, M0[j]? = some m := ⟨_, List.getElem?_eq_getElem (by rw [HL.out.1]; exact hlt)⟩
      obtain ⟨A2, c2, e2, _, hcell⟩ := HX.out
      injection e2 with e2 e3 e4
      subst e2
      obtain ⟨_, b, o, bv, rfl, hb, cc1, cc2, ⟨A3, c3, rfl, hc3, hrow⟩⟩ := hcell j (k, bd) hm
      simp only [] at cc1 cc2
      obtain ⟨n, hn⟩ : ∃ n, n = bd.length := ⟨_, rfl⟩
      rw [← hn] at cc2
      obtain ⟨jI, j0, j9, jm⟩ := six_ints hlt (Nat.le_trans (Nat.le_of_lt HL.out.2.1) (by decide))
      have HM := Lib.hid hm
      have HLT := Lib.hid (And.intro hlt jm)
      clear hm hb hc3 hrow hcell hn hlt hj hU e3 e4 jm
      by_cases k4 : k = 44
      · subst k4
        go_wp2_with fail
        refine (C44.out _).mono ?_
        rintro e w' ⟨rfl, rfl⟩
        go_wp2_with fail
        go_ret
        exact ⟨rfl, Below.refl _ _⟩
      · have b4 : (k == 44) = false := beq_false_of_ne k4
        have HN : Hid (Upto M0 (j + 1) Plain6) := HU.out.next HM.out k4
        clear k4
        by_cases h3 : 300 < n
        · have nI : (300 : Int) < (n : Int) := by omega
          clear h3
          go_wp2_with fail
          refine (C44.out _).mono ?_
          rintro e w' ⟨rfl, rfl⟩
          go_wp2_with fail
          go_ret
          exact ⟨rfl, Below.refl _ _⟩
        · have nI : ¬ (300 : Int) < (n : Int) := by omega
          clear h3
          go_wp2_with fail
          go_roundw
          case rel => exact ⟨j + 1, HLT.out.1, by go_num, HN.out, by trivial⟩
          case measure => have := HLT.out.2; simpa [intOf] using this
    · have hjN : j = len0 := Nat.le_antisymm hj (Nat.le_of_not_lt hlt)
      subst hjN
      have jN : ¬ (j : Int) < (j : Int) := Int.lt_irrefl _
      have H44 : Hid (No44 M0) := kinds_below HL.out.1 (P := Plain6) HU.out
      clear hlt hj hU HU
      have hmk := HMK.out
      go_upto_region 8 with fail
      obtain ⟨wa, ewa⟩ : ∃ wa, wa = w.alloc (.cells (bcells (List.replicate 6 0)).toArray 5) := ⟨_, rfl⟩
      have hbw : Below w.heap.size w wa := by rw [ewa]; exact (Below.refl _ _).alloc (Nat.le_refl _) _
      have hz6 : ByteVal wa (.slice (some ⟨w.heap.size, 0, none⟩) 6 6) [0, 0, 0, 0, 0, 0] := by
        rw [ewa]
        have h := (Own.new w [0, 0, 0, 0, 0, 0]).row (by decide)
        exact ⟨_, 6, rfl, by decide, h⟩
      obtain ⟨v8, w3, happ, hX8, hb8⟩ := append_exts wa a0 j cap0 M0 (HX.out.below hbw) (Nat.le_trans (Nat.le_of_lt HL.out.2.1) (by decide)) (.slice (some ⟨w.heap.size, 0, none⟩) 6 6) 60 [0, 0, 0, 0, 0, 0] (by decide) hz6
      have hmk2 : (Instr.makeSlice 22 (.int .i64 6) (.int .i64 6)).run Try.prog w = .ok (.slice (some ⟨w.heap.size, 0, none⟩) 6 6) wa := by rw [ewa]; exact hmk w
      have HW3 := Lib.hid (below_both hbw hb8)
      obtain ⟨M8, hM8⟩ : ∃ M, M = hop60 :: M0 := ⟨_, rfl⟩
      have hX8 : ExtsIn w3 v8 M8 := by rw [hM8]; exact hX8
      have HX8 := Lib.hid hX8
      obtain ⟨A8, c8, rfl, hc8, _⟩ := hX8
      obtain ⟨n8, hn8⟩ : ∃ n, n = M8.length := ⟨_, rfl⟩
      rw [← hn8] at happ HX8
      have hn9 : n8 = j + 1 := by rw [hn8, hM8, List.length_cons, HL.out.1]
      have HN8 := Lib.hid (And.intro hn8 (And.intro hn9 hM8))
      have n89 : n8 ≤ 9 := by have := HL.out.2.1; omega
      have HN9 := Lib.hid n89
      have HU1 : Hid (Upto M0 0 NoHop6) := fun i x hi => absurd hi (Nat.not_lt_zero _)
      clear hmk ewa hbw hz6 hb8 hc8 hn8 hn9 hM8 n89
      go_wp2_with (at_builtin; refine Lib.wpList_append_run _ rfl _ _ _ _ rfl _ _ rfl rfl _ _ happ ?_)
      clear happ hmk2
      go_loopw [9] (fun i W => ∃ q r : Nat, q = r + 1 ∧ r ≤ j ∧ i = .int .i64 (q : Nat) ∧ Upto M0 r NoHop6 ∧ W = w3) (fun i W => n8 - (intOf i).toNat)
      case atStart => exact ⟨1, 0, rfl, Nat.zero_le _, rfl, HU1.out, rfl⟩
      case round =>
        obtain ⟨q, r, hq, hr, rfl, hU, hw⟩ := hrel
        rw [hw]
        clear hw
        have HU := Lib.hid hU
        have HQ := Lib.hid (And.intro hq hr)
        by_cases hlt : q < n8
        · have hr2 : r < j := by have := HN8.out.2.1; omega
          obtain ⟨⟨k, bd⟩, hm⟩ : ∃ m, M0[r]? = some m := ⟨_, List.getElem?_eq_getElem (by rw [HL.out.1]; exact hr2)⟩
          have hm8 : M8[q]? = some (k, bd) := by rw [HN8.out.2.2, hq, List.getElem?_cons_succ]; exact hm
          obtain ⟨A9, c9, e2, _, hcell⟩ := HX8.out
          injection e2 with e2 e3 e4
          subst e2
          obtain ⟨_, b, o, bv, rfl, hb, cc1, cc2, _⟩ := hcell q (k, bd) hm8
          simp only [] at cc1
          obtain ⟨qI, q0, q9, qm⟩ := six_ints hlt HN9.out
          have HM := Lib.hid hm
          have HLT := Lib.hid (And.intro hr2 qm)
          clear hm hm8 hb cc2 hcell hlt hr2 hU hq hr e3 e4 qm
          by_cases k0 : k = 0
          · subst k0
            go_wp2_with fail
            refine (C0.out _).mono ?_
            rintro e w' ⟨rfl, rfl⟩
            go_wp2_with fail
            go_ret
            exact ⟨rfl, HW3.out⟩
          · have b0 : (k == 0) = false := beq_false_of_ne k0
            have HN : Hid (Upto M0 (r + 1) NoHop6) := HU.out.next HM.out k0
            clear k0
            go_wp2_with fail
            go_roundw
            case rel => exact ⟨q + 1, r + 1, by rw [HQ.out.1], HLT.out.1, by go_num, HN.out, by trivial⟩
            case measure => have := HLT.out.2; simpa [intOf] using this
        · have hqN : q = n8 ∧ r = j := by have := HN8.out.2.1; omega
          obtain ⟨rfl, hrj⟩ := hqN
          rw [hrj] at HU
          have jN : ¬ (q : Int) < (q : Int) := Int.lt_irrefl _
          have HNH : Hid (∀ m ∈ M0, m.1 ≠ 0) := kinds_below HL.out.1 (P := NoHop6) HU.out
          have pI : (n1 : Int) ≤ 255 := by have := HP1.out; omega
          have p0 : (0 : Int) ≤ (n1 : Int) := Int.natCast_nonneg _
          have hlM : M0.length < 8 := by rw [HL.out.1]; exact HL.out.2.1
          have hfr := check_front (p := (n1 : Int)) hlM HNH.out H44.out
          rw [← HN8.out.2.2] at hfr
          clear hlt hU HU hq hr hrj HQ jN
          obtain ⟨x, y, hxy⟩ : ∃ x y, exCheck M0 (n1 : Int) = (x, y) := ⟨_, _, rfl⟩
          obtain ⟨x2, y2, hxy2⟩ : ∃ x y, exCheck M8 (n1 : Int) = (x, y) := ⟨_, _, rfl⟩
          rw [hxy, hxy2] at hfr
          have hxx : x2 = x := hfr
          subst hxx
          by_cases hx : x2 = 0
          · subst hx
            obtain ⟨rfl, hWa⟩ := written_of hxy
            obtain ⟨rfl, hWb⟩ := written_of hxy2
            have h44b : No44 M8 := by
              rw [HN8.out.2.2]
              intro m hm
              rcases List.mem_cons.1 hm with rfl | hm
              · decide
              · exact H44.out m hm
            have hpay : bs2.length ≤ 1000 := by rw [HR.out.1]; exact HL.out.2.2
            obtain ⟨nA, hnA⟩ : ∃ nA : Nat, (nA : Int) = exNext (n1 : Int) M0 := ⟨(exNext (n1 : Int) M0).toNat, Int.toNat_of_nonneg (exNext_nonneg hWa)⟩
            obtain ⟨nB, hnB⟩ : ∃ nB : Nat, (nB : Int) = exNext (n1 : Int) M8 := ⟨(exNext (n1 : Int) M8).toNat, Int.toNat_of_nonneg (exNext_nonneg hWb)⟩
            obtain ⟨lA, hlA⟩ : ∃ lA, lA = exLen M0 + bs2.length := ⟨_, rfl⟩
            obtain ⟨lB, hlB⟩ : ∃ lB, lB = exLen M8 + bs2.length := ⟨_, rfl⟩
            obtain ⟨PA, TA, XA, hPA⟩ := pack_six hWa (exts_bytes HX.out) H44.out bs2 HR.out.2.1 hpay hnA hlA
            obtain ⟨PB, TB, XB, hPB⟩ := pack_six hWb (exts_bytes HX8.out) h44b bs2 HR.out.2.1 hpay hnB hlB
            have CPa : Hid (∀ W, Below w3.heap.size w3 W → Calls Try.prog 52 #[.slice a0 j cap0, .int .i64 n1, .slice a2 len2 cap2] W fun e w' => ∃ A c, e = .returned (.tuple #[.slice A (40 + lA) c, .int .i64 0]) ∧ 40 + lA ≤ c ∧ Row w' A (40 + lA) PA ∧ Below W.heap.size W w') := fun W hW => by
              have h := packed_ok a0 j cap0 M0 (n1 : Int) a2 len2 cap2 bs2 W ((HX.out.below HW3.out).below hW) hxy hWa ((HR.out.below HW3.out).below hW) HL.out.2.2 hnA hlA
              rw [← hPA.pa] at h
              exact h
            have CPb : Hid (∀ W, Below w3.heap.size w3 W → Calls Try.prog 52 #[.slice A8 q c8, .int .i64 n1, .slice a2 len2 cap2] W fun e w' => ∃ A c, e = .returned (.tuple #[.slice A (40 + lB) c, .int .i64 0]) ∧ 40 + lB ≤ c ∧ Row w' A (40 + lB) PB ∧ Below W.heap.size W w') := fun W hW => by
              have h := packed_ok A8 q c8 M8 (n1 : Int) a2 len2 cap2 bs2 W (HX8.out.below hW) hxy2 hWb ((HR.out.below HW3.out).below hW) HL.out.2.2 hnB hlB
              rw [← hPB.pa] at h
              exact h
            have hm8 : exLen M8 = exLen M0 + 8 := by rw [HN8.out.2.2]; show 6 + 2 + exLen M0 = _; omega
            have hq1 : M0.length + 1 = M8.length := by rw [HN8.out.2.2]; rfl
            have HTA : Hid (TA.drop (exLen M0) = bs2 ∧ exLen M0 + bs2.length = lA) := ⟨by rw [hPA.ta, ← exBytes_len (n1 : Int) M0, List.drop_left], hlA.symm⟩
            have hEA := hWa.len
            obtain ⟨eA, heA⟩ : ∃ e, e = exLen M0 := ⟨_, rfl⟩
            obtain ⟨cA, hcA⟩ : ∃ e, e = M0.length := ⟨_, rfl⟩
            obtain ⟨eB, heB⟩ : ∃ e, e = eA + 8 := ⟨_, rfl⟩
            obtain ⟨cB, hcB⟩ : ∃ e, e = cA + 1 := ⟨_, rfl⟩
            have HGA : Hid (∀ (A : Option Addr) (c : Nat) (W : World), lA ≤ c → Row W A lA TA → Calls Try.prog 16 #[.int .i64 (nA : Nat), .slice A lA c] W fun e w' => ∃ A' c', e = .returned (.tuple #[.agg #[.int .i64 n1, .int .i64 (eA : Nat), .int .i64 0, .int .i64 0, .int .i64 (cA : Nat)], .slice A' 0 c']) ∧ Below W.heap.size W w') := by rw [heA, hcA]; exact hPA.go
            have HGB : Hid (∀ (A : Option Addr) (c : Nat) (W : World), lB ≤ c → Row W A lB TB → Calls Try.prog 16 #[.int .i64 (nB : Nat), .slice A lB c] W fun e w' => ∃ A' c', e = .returned (.tuple #[.agg #[.int .i64 n1, .int .i64 (eB : Nat), .int .i64 0, .int .i64 0, .int .i64 (cB : Nat)], .slice A' 0 c']) ∧ Below W.heap.size W w') := by rw [heB, hcB, heA, hcA, ← hm8, hq1]; exact hPB.go
            have HLB : Hid (∀ (A : Option Addr) (c : Nat) (W : World), lB ≤ c → Row W A lB TB → Calls Try.prog 25 #[.int .i64 (nB : Nat), .slice A lB c] W fun e w' => ∃ A' c', e = .returned (.slice A' q c') ∧ Below W.heap.size W w') := by rw [HN8.out.1]; exact hPB.list
            rw [← heA] at HTA hEA
            have HEA := Lib.hid (And.intro hEA (And.intro heB hcB))
            have HCA : Hid (cA ≤ 8) := by show cA ≤ 8; rw [hcA]; exact Nat.le_of_lt hlM
            have HPA := Lib.hid hPA
            have HPB := Lib.hid hPB
            obtain ⟨NA, hNA⟩ : ∃ N, N = 40 + lA := ⟨_, rfl⟩
            obtain ⟨NB, hNB⟩ : ∃ N, N = 40 + lB := ⟨_, rfl⟩
            have CRa : Hid (∀ (A : Option Addr) (c : Nat) (W : World), NA ≤ c → Row W A NA PA → Calls Try.prog 31 #[.slice A NA c] W fun e w' => e = .returned (.tuple #[.agg XA.toArray, .int .i64 0]) ∧ Below W.heap.size W w') := by rw [hNA]; exact hPA.read
            have CRb : Hid (∀ (A : Option Addr) (c : Nat) (W : World), NB ≤ c → Row W A NB PB → Calls Try.prog 31 #[.slice A NB c] W fun e w' => e = .returned (.tuple #[.agg XB.toArray, .int .i64 0]) ∧ Below W.heap.size W w') := by rw [hNB]; exact hPB.read
            have CTa : Hid (∀ (A : Option Addr) (c : Nat) (W : World), NA ≤ c → Row W A NA PA → Calls Try.prog 33 #[.slice A NA c] W fun e w' => ∃ A' c', e = .returned (.tuple #[.slice A' lA c', .bool true]) ∧ lA ≤ c' ∧ Row w' A' lA TA ∧ Below W.heap.size W w') := by rw [hNA]; exact hPA.rest
            have CTb : Hid (∀ (A : Option Addr) (c : Nat) (W : World), NB ≤ c → Row W A NB PB → Calls Try.prog 33 #[.slice A NB c] W fun e w' => ∃ A' c', e = .returned (.tuple #[.slice A' lB c', .bool true]) ∧ lB ≤ c' ∧ Row w' A' lB TB ∧ Below W.heap.size W w') := by rw [hNB]; exact hPB.rest
            have CAa : Hid (∀ (A : Option Addr) (c : Nat) (W : World), NA ≤ c → Row W A NA PA → Calls Try.prog 36 #[.slice A NA c] W fun e w' => ∃ A' c', e = .returned (.slice A' 0 c') ∧ Below W.heap.size W w') := by rw [hNA]; exact hPA.all
            have CAb : Hid (∀ (A : Option Addr) (c : Nat) (W : World), NB ≤ c → Row W A NB PB → Calls Try.prog 36 #[.slice A NB c] W fun e w' => ∃ A' c', e = .returned (.slice A' 0 c') ∧ Below W.heap.size W w') := by rw [hNB]; exact hPB.all
            rw [← hNA] at CPa
            rw [← hNB] at CPb
            clear hxy hxy2 hfr hlM hWa hWb h44b hpay hnA hnB hlA hlB hPA hPB hm8 hq1 hEA heA hcA hNA hNB heB hcB
            go_wp2_with fail
            refine (CPa.out _ (Below.refl _ _)).mono ?_
            rintro e w4 ⟨Aa, ca, rfl, hca, ra, b4⟩
            have HCa := Lib.hid hca
            have Ra := Lib.hid ra
            have Q4 := Lib.hid b4
            clear b4 hca ra CPa
            go_wp2_with fail
            refine (CPb.out _ Q4.out).mono ?_
            rintro e w5 ⟨Ab, cb, rfl, hcb, rb, b5⟩
            have HCb := Lib.hid hcb
            have Rb := Lib.hid rb
            have Ra := Lib.hid (Ra.out.below b5)
            have Q5 := Lib.hid (below_both Q4.out b5)
            clear b5 hcb rb CPb Q4
            go_wp2_with fail
            refine (CRa.out _ _ _ HCa.out Ra.out).mono ?_
            rintro e w6 ⟨rfl, b6⟩
            have xlA := HPA.out.xl
            obtain ⟨hst, hA, hb⟩ := six_stored w6 XA HPA.out.xl HPA.out.xo
            go_upto_region 19 with fail
            clear hst
            obtain ⟨V6, eV⟩ : ∃ V, V = (w6.alloc (.cells (Value.int .i64 0 :: Value.int .i64 0 :: Value.int .i64 0 :: Value.int .i64 0 :: Value.int .i64 0 :: Value.int .u8 0 :: Value.int .u8 0 :: Value.int .u8 0 :: Value.int .u8 0 :: Value.int .u8 0 :: Value.int .u8 0 :: Value.int .u8 0 :: Value.int .u8 0 :: Value.int .u8 0 :: Value.int .u8 0 :: Value.int .u8 0 :: Value.int .u8 0 :: Value.int .u8 0 :: Value.int .u8 0 :: Value.int .u8 0 :: Value.int .u8 0 :: Value.int .u8 0 :: Value.int .u8 0 :: Value.int .u8 0 :: Value.int .u8 0 :: Value.int .u8 0 :: Value.int .u8 0 :: Value.int .u8 0 :: Value.int .u8 0 :: Value.int .u8 0 :: Value.int .u8 0 :: Value.int .u8 0 :: Value.int .u8 0 :: Value.int .u8 0 :: Value.int .u8 0 :: Value.int .u8 0 :: Value.int .u8 0 :: [] : List Value).toArray 51)).setCells w6.heap.size 0 XA := ⟨_, rfl⟩
            obtain ⟨hA2, hb2⟩ := six_world w6 XA V6 eV hA hb
            rw [← eV]
            obtain ⟨g6, hg⟩ : ∃ g, g = w6.heap.size := ⟨_, rfl⟩
            rw [← hg] at hA2 ⊢
            clear eV hA hb hg
            have hbb := below_both b6 hb2
            have S6 := Lib.hid hA2
            clear xlA
            have Ra := Lib.hid (Ra.out.below hbb)
            have Rb := Lib.hid (Rb.out.below hbb)
            have Q6 := Lib.hid (below_both Q5.out hbb)
            clear hA2 hb2 hbb b6 CRa Q5
            go_wp2_with fail
            refine (CRb.out _ _ _ HCb.out Rb.out).mono ?_
            rintro e w7 ⟨rfl, b7⟩
            have xlB := HPB.out.xl
            obtain ⟨hst, hA, hb⟩ := six_stored w7 XB HPB.out.xl HPB.out.xo
            go_upto_region 20 with fail
            clear hst
            obtain ⟨V7, eV⟩ : ∃ V, V = (w7.alloc (.cells (Value.int .i64 0 :: Value.int .i64 0 :: Value.int .i64 0 :: Value.int .i64 0 :: Value.int .i64 0 :: Value.int .u8 0 :: Value.int .u8 0 :: Value.int .u8 0 :: Value.int .u8 0 :: Value.int .u8 0 :: Value.int .u8 0 :: Value.int .u8 0 :: Value.int .u8 0 :: Value.int .u8 0 :: Value.int .u8 0 :: Value.int .u8 0 :: Value.int .u8 0 :: Value.int .u8 0 :: Value.int .u8 0 :: Value.int .u8 0 :: Value.int .u8 0 :: Value.int .u8 0 :: Value.int .u8 0 :: Value.int .u8 0 :: Value.int .u8 0 :: Value.int .u8 0 :: Value.int .u8 0 :: Value.int .u8 0 :: Value.int .u8 0 :: Value.int .u8 0 :: Value.int .u8 0 :: Value.int .u8 0 :: Value.int .u8 0 :: Value.int .u8 0 :: Value.int .u8 0 :: Value.int .u8 0 :: Value.int .u8 0 :: [] : List Value).toArray 51)).setCells w7.heap.size 0 XB := ⟨_, rfl⟩
            obtain ⟨hA2, hb2⟩ := six_world w7 XB V7 eV hA hb
            rw [← eV]
            obtain ⟨g7, hg⟩ : ∃ g, g = w7.heap.size := ⟨_, rfl⟩
            rw [← hg] at hA2 ⊢
            clear eV hA hb hg
            have hbb := below_both b7 hb2
            have S7 := Lib.hid hA2
            clear xlB
            have S6 := Lib.hid (S6.out.below hbb)
            have Ra := Lib.hid (Ra.out.below hbb)
            have Rb := Lib.hid (Rb.out.below hbb)
            have Q7 := Lib.hid (below_both Q6.out hbb)
            clear hA2 hb2 hbb b7 CRb Q6
            go_wp2_with fail
            refine (CTa.out _ _ _ HCa.out Ra.out).mono ?_
            rintro e w8 ⟨Ar, cr, rfl, hcr, rr, b8⟩
            have HCr := Lib.hid hcr
            have Rr := Lib.hid rr
            have S7 := Lib.hid (S7.out.below b8)
            have S6 := Lib.hid (S6.out.below b8)
            have Ra := Lib.hid (Ra.out.below b8)
            have Rb := Lib.hid (Rb.out.below b8)
            have Q8 := Lib.hid (below_both Q7.out b8)
            clear hcr rr b8 CTa Q7
            go_wp2_with fail
            refine (CTb.out _ _ _ HCb.out Rb.out).mono ?_
            rintro e w9 ⟨As, cs, rfl, hcs, rs, b9⟩
            have HCs := Lib.hid hcs
            have Rs := Lib.hid rs
            have Rr := Lib.hid (Rr.out.below b9)
            have S7 := Lib.hid (S7.out.below b9)
            have S6 := Lib.hid (S6.out.below b9)
            have Ra := Lib.hid (Ra.out.below b9)
            have Rb := Lib.hid (Rb.out.below b9)
            have Q9 := Lib.hid (below_both Q8.out b9)
            clear hcs rs b9 CTb Q8
            go_wp2_with fail
            refine (CAa.out _ _ _ HCa.out Ra.out).mono ?_
            rintro e w10 ⟨A10, c10, rfl, b10⟩
            have Rs := Lib.hid (Rs.out.below b10)
            have Rr := Lib.hid (Rr.out.below b10)
            have S7 := Lib.hid (S7.out.below b10)
            have S6 := Lib.hid (S6.out.below b10)
            have Rb := Lib.hid (Rb.out.below b10)
            have Q10 := Lib.hid (below_both Q9.out b10)
            clear b10 CAa Q9 Ra HCa
            go_wp2_with fail
            refine (CAb.out _ _ _ HCb.out Rb.out).mono ?_
            rintro e w11 ⟨A11, c11, rfl, b11⟩
            have Rs := Lib.hid (Rs.out.below b11)
            have Rr := Lib.hid (Rr.out.below b11)
            have S7 := Lib.hid (S7.out.below b11)
            have S6 := Lib.hid (S6.out.below b11)
            have Q11 := Lib.hid (below_both Q10.out b11)
            clear b11 CAb Q10 Rb HCb
            have x3a := (S6.out.get 3).trans HPA.out.x3
            have P11 : Hid (Below w11.heap.size w11 w11) := Below.refl _ _
            go_wp2_with fail
            refine (HGA.out _ _ _ HCr.out Rr.out).mono ?_
            rintro e w12 ⟨Ad, cd, rfl, b12⟩
            go_upto_region 25 with fail
            clear x3a
            obtain ⟨V12, eV⟩ : ∃ V, V = w12.alloc (.cells #[.int .i64 n1, .int .i64 (eA : Nat), .int .i64 0, .int .i64 0, .int .i64 (cA : Nat)] 24) := ⟨_, rfl⟩
            have hA : ArrV 24 V12 w12.heap.size [.int .i64 n1, .int .i64 (eA : Nat), .int .i64 0, .int .i64 0, .int .i64 (cA : Nat)] := by rw [eV]; exact ArrV.new _ w12 _
            have hb : Below w12.heap.size w12 V12 := by rw [eV]; exact (Below.refl _ _).alloc (Nat.le_refl _) _
            have K12 := Lib.hid hA
            have P12 := Lib.hid (below_both b12 hb)
            rw [← eV]
            obtain ⟨g12, hg⟩ : ∃ g, g = w12.heap.size := ⟨_, rfl⟩
            have HG12 : Hid (w11.heap.size ≤ g12) := by show w11.heap.size ≤ g12; rw [hg]; exact b12.size
            rw [← hg] at K12 ⊢
            clear eV hA hb b12 hg S6 HGA P11
            have x3b := ((S7.out.below P12.out).get 3).trans HPB.out.x3
            go_wp2_with fail
            refine (HGB.out _ _ _ HCs.out (Rs.out.below P12.out)).mono ?_
            rintro e w13 ⟨Ae, ce, rfl, b13⟩
            go_upto_region 26 with fail
            clear x3b
            obtain ⟨V13, eV⟩ : ∃ V, V = w13.alloc (.cells #[.int .i64 n1, .int .i64 (eB : Nat), .int .i64 0, .int .i64 0, .int .i64 (cB : Nat)] 24) := ⟨_, rfl⟩
            have hA : ArrV 24 V13 w13.heap.size [.int .i64 n1, .int .i64 (eB : Nat), .int .i64 0, .int .i64 0, .int .i64 (cB : Nat)] := by rw [eV]; exact ArrV.new _ w13 _
            have hb : Below w13.heap.size w13 V13 := by rw [eV]; exact (Below.refl _ _).alloc (Nat.le_refl _) _
            have hbb := below_both b13 hb
            have K13 := Lib.hid hA
            have hk12 := K12.out.below hbb
            have P13 := Lib.hid (below_both P12.out hbb)
            rw [← eV]
            obtain ⟨g13, hg⟩ : ∃ g, g = w13.heap.size := ⟨_, rfl⟩
            have HG13 : Hid (g12 ≠ g13) := by
              have h1 := K12.out.lt
              have h2 := b13.size
              show g12 ≠ g13
              rw [hg]
              exact Nat.ne_of_lt (Nat.lt_of_lt_of_le h1 h2)
            rw [← hg] at K13 ⊢
            clear eV hA hb hbb b13 hg HGB P12
            have z1 := hk12.get 1
            have z4 := hk12.get 4
            have fz1 := hk12.frozen 1
            have fz4 := hk12.frozen 4
            simp at z1 z4
            obtain ⟨e1, e2, e3, e4, e5, e6⟩ := six_last HEA.out.1 HCA.out HEA.out.2.1 HEA.out.2.2 HTA.out.2.symm
            obtain ⟨W14, eW⟩ : ∃ W, W = (V13.setCell ⟨g12, 1, none⟩ (.int .i64 (eB : Nat))).setCell ⟨g12, 4, none⟩ (.int .i64 (cB : Nat)) := ⟨_, rfl⟩
            have K12 : Hid (ArrV 24 W14 g12 [.int .i64 n1, .int .i64 (eB : Nat), .int .i64 0, .int .i64 0, .int .i64 (cB : Nat)]) := by
              show ArrV _ _ _ _
              rw [eW]
              exact (hk12.set 1 _).set 4 _
            have K13 : Hid (ArrV 24 W14 g13 [.int .i64 n1, .int .i64 (eB : Nat), .int .i64 0, .int .i64 0, .int .i64 (cB : Nat)]) := by
              show ArrV _ _ _ _
              rw [eW]
              exact (K13.out.other ⟨g12, 1, none⟩ _ HG13.out).other ⟨g12, 4, none⟩ _ HG13.out
            have P14 : Hid (Below w11.heap.size w11 W14) := by
              show Below _ _ _
              rw [eW]
              exact (P13.out.setCell (p := ⟨g12, 1, none⟩) HG12.out _).setCell (p := ⟨g12, 4, none⟩) HG12.out _
            clear hk12 P13
            go_upto_region 29 with fail
            rw [← eW]
            clear eW z1 z4 fz1 fz4
            obtain ⟨tx, htx⟩ : ∃ tx, tx = str bs2 := ⟨_, rfl⟩
            have i7 : IntKind.i64.wrap (n1 : Int) = (n1 : Int) := IntWalk.i64_in _ (by have := HP1.out; omega)
            have i8 : (eA : Int) ≤ (lA : Int) := by have := HTA.out.2; omega
            have i9 : (lA : Int) ≤ (cr : Int) := by have := HCr.out; omega
            have i10 : (0 : Int) ≤ (eA : Int) := Int.natCast_nonneg _
            clear e1 e2 e3 e4 e6
            by_cases hz : len2 = 0
            · have hbz : bs2 = [] := List.eq_nil_of_length_eq_zero (by rw [HR.out.1]; exact hz)
              have hlz : lA - eA = 0 := by have := HTA.out.2; rw [HR.out.1, hz] at this; omega
              have HZ := Lib.hid (And.intro hbz hlz)
              clear hz
              by_cases hce : cr = eA
              · have hce := hce.symm
                subst hce
                have HS : Hid (∀ W, Below W14.heap.size W14 W → (W.cell? ⟨g12, 0, none⟩ = some (.int .i64 n1) ∧ W.cell? ⟨g12, 1, none⟩ = some (.int .i64 eB) ∧ W.cell? ⟨g12, 2, none⟩ = some (.int .i64 0) ∧ W.cell? ⟨g12, 3, none⟩ = some (.int .i64 0) ∧ W.cell? ⟨g12, 4, none⟩ = some (.int .i64 cB)) ∧ (W.cell? ⟨g13, 0, none⟩ = some (.int .i64 n1) ∧ W.cell? ⟨g13, 1, none⟩ = some (.int .i64 eB) ∧ W.cell? ⟨g13, 2, none⟩ = some (.int .i64 0) ∧ W.cell? ⟨g13, 3, none⟩ = some (.int .i64 0) ∧ W.cell? ⟨g13, 4, none⟩ = some (.int .i64 cB)) ∧ W.cell? ⟨g7, 3, none⟩ = some (.int .i64 nB) ∧ (convert 22 9 (.slice a2 len2 cap2)).run Try.prog W = .ok (.string tx) W ∧ (∀ (A : Option Addr) (c : Nat), (convert 22 9 (.slice A (lA - eA) c)).run Try.prog W = .ok (.string tx) W)) := fun W hW => by
                  have k1 := K12.out.below hW
                  have k2 := K13.out.below hW
                  have q0 := k1.get 0
                  have q1 := k1.get 1
                  have q2 := k1.get 2
                  have q3 := k1.get 3
                  have q4 := k1.get 4
                  have r0 := k2.get 0
                  have r1 := k2.get 1
                  have r2 := k2.get 2
                  have r3 := k2.get 3
                  have r4 := k2.get 4
                  simp at q0 q1 q2 q3 q4 r0 r1 r2 r3 r4
                  have hWW := below_both P14.out hW
                  refine ⟨⟨q0, q1, q2, q3, q4⟩, ⟨r0, r1, r2, r3, r4⟩, ((S7.out.below hWW).get 3).trans HPB.out.x3, ?_, ?_⟩
                  · rw [htx]
                    exact conv_str (((HR.out.below HW3.out).below Q11.out).below hWW)
                  · intro A c
                    rw [htx, hbz, hlz]
                    exact conv_str (Row.nil W A)
                have h0 := HS.out W14.drew (Below.refl _ _).drew
                have CLL : Hid (Calls Try.prog 25 #[.int .i64 (nB : Nat), .slice As lB cs] W14.drew fun e w' => ∃ A' c', e = .returned (.slice A' q c') ∧ ((w'.cell? ⟨g12, 0, none⟩ = some (.int .i64 n1) ∧ w'.cell? ⟨g12, 1, none⟩ = some (.int .i64 eB) ∧ w'.cell? ⟨g12, 2, none⟩ = some (.int .i64 0) ∧ w'.cell? ⟨g12, 3, none⟩ = some (.int .i64 0) ∧ w'.cell? ⟨g12, 4, none⟩ = some (.int .i64 cB)) ∧ (w'.cell? ⟨g13, 0, none⟩ = some (.int .i64 n1) ∧ w'.cell? ⟨g13, 1, none⟩ = some (.int .i64 eB) ∧ w'.cell? ⟨g13, 2, none⟩ = some (.int .i64 0) ∧ w'.cell? ⟨g13, 3, none⟩ = some (.int .i64 0) ∧ w'.cell? ⟨g13, 4, none⟩ = some (.int .i64 cB)) ∧ w'.cell? ⟨g7, 3, none⟩ = some (.int .i64 nB) ∧ (convert 22 9 (.slice a2 len2 cap2)).run Try.prog w' = .ok (.string tx) w' ∧ (∀ (A : Option Addr) (c : Nat), (convert 22 9 (.slice A (lA - eA) c)).run Try.prog w' = .ok (.string tx) w')) ∧ Hid (Below W14.heap.size W14 w')) := by
                  show Calls _ _ _ _ _
                  have hr : Row W14.drew As lB TB := (Rs.out.below P14.out).drewN 1
                  refine (HLB.out As cs W14.drew HCs.out hr).mono ?_
                  rintro e w' ⟨A', c', rfl, hbl⟩
                  have hbl2 := below_both (Below.refl W14.heap.size W14).drew hbl
                  exact ⟨A', c', rfl, HS.out w' hbl2, hbl2⟩
                clear htx hbz hlz
                go_region_held3 (fun w' => (w'.cell? ⟨g12, 0, none⟩ = some (.int .i64 n1) ∧ w'.cell? ⟨g12, 1, none⟩ = some (.int .i64 eB) ∧ w'.cell? ⟨g12, 2, none⟩ = some (.int .i64 0) ∧ w'.cell? ⟨g12, 3, none⟩ = some (.int .i64 0) ∧ w'.cell? ⟨g12, 4, none⟩ = some (.int .i64 cB)) ∧ (w'.cell? ⟨g13, 0, none⟩ = some (.int .i64 n1) ∧ w'.cell? ⟨g13, 1, none⟩ = some (.int .i64 eB) ∧ w'.cell? ⟨g13, 2, none⟩ = some (.int .i64 0) ∧ w'.cell? ⟨g13, 3, none⟩ = some (.int .i64 0) ∧ w'.cell? ⟨g13, 4, none⟩ = some (.int .i64 cB)) ∧ w'.cell? ⟨g7, 3, none⟩ = some (.int .i64 nB) ∧ (convert 22 9 (.slice a2 len2 cap2)).run Try.prog w' = .ok (.string tx) w' ∧ (∀ (A : Option Addr) (c : Nat), (convert 22 9 (.slice A (lA - eA) c)).run Try.prog w' = .ok (.string tx) w'))
                  (first | exact h0 | exact hTwo | go_keep)
                  (first
                    | (go_at_call 25; refine CLL.out.mono ?_; rintro e w' ⟨A', c', rfl, hTwo, HBL⟩)
                    | fail)
                all_goals
                  go_wp2_with fail
                  go_ret
                  exact ⟨rfl, below_both HW3.out (below_both Q11.out (below_both P14.out HBL.out))⟩
              · have HS : Hid (∀ W, Below W14.heap.size W14 W → (W.cell? ⟨g12, 0, none⟩ = some (.int .i64 n1) ∧ W.cell? ⟨g12, 1, none⟩ = some (.int .i64 eB) ∧ W.cell? ⟨g12, 2, none⟩ = some (.int .i64 0) ∧ W.cell? ⟨g12, 3, none⟩ = some (.int .i64 0) ∧ W.cell? ⟨g12, 4, none⟩ = some (.int .i64 cB)) ∧ (W.cell? ⟨g13, 0, none⟩ = some (.int .i64 n1) ∧ W.cell? ⟨g13, 1, none⟩ = some (.int .i64 eB) ∧ W.cell? ⟨g13, 2, none⟩ = some (.int .i64 0) ∧ W.cell? ⟨g13, 3, none⟩ = some (.int .i64 0) ∧ W.cell? ⟨g13, 4, none⟩ = some (.int .i64 cB)) ∧ W.cell? ⟨g7, 3, none⟩ = some (.int .i64 nB) ∧ (convert 22 9 (.slice a2 len2 cap2)).run Try.prog W = .ok (.string tx) W ∧ (∀ (A : Option Addr) (c : Nat), (convert 22 9 (.slice A (lA - eA) c)).run Try.prog W = .ok (.string tx) W)) := fun W hW => by
                  have k1 := K12.out.below hW
                  have k2 := K13.out.below hW
                  have q0 := k1.get 0
                  have q1 := k1.get 1
                  have q2 := k1.get 2
                  have q3 := k1.get 3
                  have q4 := k1.get 4
                  have r0 := k2.get 0
                  have r1 := k2.get 1
                  have r2 := k2.get 2
                  have r3 := k2.get 3
                  have r4 := k2.get 4
                  simp at q0 q1 q2 q3 q4 r0 r1 r2 r3 r4
                  have hWW := below_both P14.out hW
                  refine ⟨⟨q0, q1, q2, q3, q4⟩, ⟨r0, r1, r2, r3, r4⟩, ((S7.out.below hWW).get 3).trans HPB.out.x3, ?_, ?_⟩
                  · rw [htx]
                    exact conv_str (((HR.out.below HW3.out).below Q11.out).below hWW)
                  · intro A c
                    rw [htx, hbz, hlz]
                    exact conv_str (Row.nil W A)
                have h0 := HS.out W14.drew (Below.refl _ _).drew
                have CLL : Hid (Calls Try.prog 25 #[.int .i64 (nB : Nat), .slice As lB cs] W14.drew fun e w' => ∃ A' c', e = .returned (.slice A' q c') ∧ ((w'.cell? ⟨g12, 0, none⟩ = some (.int .i64 n1) ∧ w'.cell? ⟨g12, 1, none⟩ = some (.int .i64 eB) ∧ w'.cell? ⟨g12, 2, none⟩ = some (.int .i64 0) ∧ w'.cell? ⟨g12, 3, none⟩ = some (.int .i64 0) ∧ w'.cell? ⟨g12, 4, none⟩ = some (.int .i64 cB)) ∧ (w'.cell? ⟨g13, 0, none⟩ = some (.int .i64 n1) ∧ w'.cell? ⟨g13, 1, none⟩ = some (.int .i64 eB) ∧ w'.cell? ⟨g13, 2, none⟩ = some (.int .i64 0) ∧ w'.cell? ⟨g13, 3, none⟩ = some (.int .i64 0) ∧ w'.cell? ⟨g13, 4, none⟩ = some (.int .i64 cB)) ∧ w'.cell? ⟨g7, 3, none⟩ = some (.int .i64 nB) ∧ (convert 22 9 (.slice a2 len2 cap2)).run Try.prog w' = .ok (.string tx) w' ∧ (∀ (A : Option Addr) (c : Nat), (convert 22 9 (.slice A (lA - eA) c)).run Try.prog w' = .ok (.string tx) w')) ∧ Hid (Below W14.heap.size W14 w')) := by
                  show Calls _ _ _ _ _
                  have hr : Row W14.drew As lB TB := (Rs.out.below P14.out).drewN 1
                  refine (HLB.out As cs W14.drew HCs.out hr).mono ?_
                  rintro e w' ⟨A', c', rfl, hbl⟩
                  have hbl2 := below_both (Below.refl W14.heap.size W14).drew hbl
                  exact ⟨A', c', rfl, HS.out w' hbl2, hbl2⟩
                clear htx hbz hlz
                go_region_held3 (fun w' => (w'.cell? ⟨g12, 0, none⟩ = some (.int .i64 n1) ∧ w'.cell? ⟨g12, 1, none⟩ = some (.int .i64 eB) ∧ w'.cell? ⟨g12, 2, none⟩ = some (.int .i64 0) ∧ w'.cell? ⟨g12, 3, none⟩ = some (.int .i64 0) ∧ w'.cell? ⟨g12, 4, none⟩ = some (.int .i64 cB)) ∧ (w'.cell? ⟨g13, 0, none⟩ = some (.int .i64 n1) ∧ w'.cell? ⟨g13, 1, none⟩ = some (.int .i64 eB) ∧ w'.cell? ⟨g13, 2, none⟩ = some (.int .i64 0) ∧ w'.cell? ⟨g13, 3, none⟩ = some (.int .i64 0) ∧ w'.cell? ⟨g13, 4, none⟩ = some (.int .i64 cB)) ∧ w'.cell? ⟨g7, 3, none⟩ = some (.int .i64 nB) ∧ (convert 22 9 (.slice a2 len2 cap2)).run Try.prog w' = .ok (.string tx) w' ∧ (∀ (A : Option Addr) (c : Nat), (convert 22 9 (.slice A (lA - eA) c)).run Try.prog w' = .ok (.string tx) w'))
                  (first | exact h0 | exact hTwo | go_keep)
                  (first
                    | (go_at_call 25; refine CLL.out.mono ?_; rintro e w' ⟨A', c', rfl, hTwo, HBL⟩)
                    | fail)
                all_goals
                  go_wp2_with fail
                  go_ret
                  exact ⟨rfl, below_both HW3.out (below_both Q11.out (below_both P14.out HBL.out))⟩
            · have hzz : lA - eA = len2 ∧ eA + (lA - eA) ≤ lA := by have := HTA.out.2; rw [HR.out.1] at this; omega
              have hl0 : 0 < lA := by have := HTA.out.2; rw [HR.out.1] at this; omega
              obtain ⟨b, o, rfl, _, _⟩ := Rr.out.addr hl0
              have hne : ¬ cr = eA := by have := HCr.out; omega
              clear hz hl0
              have HS : Hid (∀ W, Below W14.heap.size W14 W → (W.cell? ⟨g12, 0, none⟩ = some (.int .i64 n1) ∧ W.cell? ⟨g12, 1, none⟩ = some (.int .i64 eB) ∧ W.cell? ⟨g12, 2, none⟩ = some (.int .i64 0) ∧ W.cell? ⟨g12, 3, none⟩ = some (.int .i64 0) ∧ W.cell? ⟨g12, 4, none⟩ = some (.int .i64 cB)) ∧ (W.cell? ⟨g13, 0, none⟩ = some (.int .i64 n1) ∧ W.cell? ⟨g13, 1, none⟩ = some (.int .i64 eB) ∧ W.cell? ⟨g13, 2, none⟩ = some (.int .i64 0) ∧ W.cell? ⟨g13, 3, none⟩ = some (.int .i64 0) ∧ W.cell? ⟨g13, 4, none⟩ = some (.int .i64 cB)) ∧ W.cell? ⟨g7, 3, none⟩ = some (.int .i64 nB) ∧ (convert 22 9 (.slice a2 len2 cap2)).run Try.prog W = .ok (.string tx) W ∧ (convert 22 9 (.slice (some ⟨b, o + eA, none⟩) (lA - eA) (cr - eA))).run Try.prog W = .ok (.string tx) W) := fun W hW => by
                have k1 := K12.out.below hW
                have k2 := K13.out.below hW
                have q0 := k1.get 0
                have q1 := k1.get 1
                have q2 := k1.get 2
                have q3 := k1.get 3
                have q4 := k1.get 4
                have r0 := k2.get 0
                have r1 := k2.get 1
                have r2 := k2.get 2
                have r3 := k2.get 3
                have r4 := k2.get 4
                simp at q0 q1 q2 q3 q4 r0 r1 r2 r3 r4
                have hWW := below_both P14.out hW
                refine ⟨⟨q0, q1, q2, q3, q4⟩, ⟨r0, r1, r2, r3, r4⟩, ((S7.out.below hWW).get 3).trans HPB.out.x3, ?_, ?_⟩
                · rw [htx]
                  exact conv_str (((HR.out.below HW3.out).below Q11.out).below hWW)
                · rw [htx]
                  have hp := (Rr.out.below hWW).part eA (lA - eA) hzz.2
                  rw [HTA.out.1, hzz.1, ← HR.out.1, List.take_length] at hp
                  have e : lA - eA = bs2.length := by rw [hzz.1, HR.out.1]
                  rw [e]
                  exact conv_str hp
              have h0 := HS.out W14.drew (Below.refl _ _).drew
              have CLL : Hid (Calls Try.prog 25 #[.int .i64 (nB : Nat), .slice As lB cs] W14.drew fun e w' => ∃ A' c', e = .returned (.slice A' q c') ∧ ((w'.cell? ⟨g12, 0, none⟩ = some (.int .i64 n1) ∧ w'.cell? ⟨g12, 1, none⟩ = some (.int .i64 eB) ∧ w'.cell? ⟨g12, 2, none⟩ = some (.int .i64 0) ∧ w'.cell? ⟨g12, 3, none⟩ = some (.int .i64 0) ∧ w'.cell? ⟨g12, 4, none⟩ = some (.int .i64 cB)) ∧ (w'.cell? ⟨g13, 0, none⟩ = some (.int .i64 n1) ∧ w'.cell? ⟨g13, 1, none⟩ = some (.int .i64 eB) ∧ w'.cell? ⟨g13, 2, none⟩ = some (.int .i64 0) ∧ w'.cell? ⟨g13, 3, none⟩ = some (.int .i64 0) ∧ w'.cell? ⟨g13, 4, none⟩ = some (.int .i64 cB)) ∧ w'.cell? ⟨g7, 3, none⟩ = some (.int .i64 nB) ∧ (convert 22 9 (.slice a2 len2 cap2)).run Try.prog w' = .ok (.string tx) w' ∧ (convert 22 9 (.slice (some ⟨b, o + eA, none⟩) (lA - eA) (cr - eA))).run Try.prog w' = .ok (.string tx) w') ∧ Hid (Below W14.heap.size W14 w')) := by
                show Calls _ _ _ _ _
                have hr : Row W14.drew As lB TB := (Rs.out.below P14.out).drewN 1
                refine (HLB.out As cs W14.drew HCs.out hr).mono ?_
                rintro e w' ⟨A', c', rfl, hbl⟩
                have hbl2 := below_both (Below.refl W14.heap.size W14).drew hbl
                exact ⟨A', c', rfl, HS.out w' hbl2, hbl2⟩
              clear htx hzz
              go_region_held3 (fun w' => (w'.cell? ⟨g12, 0, none⟩ = some (.int .i64 n1) ∧ w'.cell? ⟨g12, 1, none⟩ = some (.int .i64 eB) ∧ w'.cell? ⟨g12, 2, none⟩ = some (.int .i64 0) ∧ w'.cell? ⟨g12, 3, none⟩ = some (.int .i64 0) ∧ w'.cell? ⟨g12, 4, none⟩ = some (.int .i64 cB)) ∧ (w'.cell? ⟨g13, 0, none⟩ = some (.int .i64 n1) ∧ w'.cell? ⟨g13, 1, none⟩ = some (.int .i64 eB) ∧ w'.cell? ⟨g13, 2, none⟩ = some (.int .i64 0) ∧ w'.cell? ⟨g13, 3, none⟩ = some (.int .i64 0) ∧ w'.cell? ⟨g13, 4, none⟩ = some (.int .i64 cB)) ∧ w'.cell? ⟨g7, 3, none⟩ = some (.int .i64 nB) ∧ (convert 22 9 (.slice a2 len2 cap2)).run Try.prog w' = .ok (.string tx) w' ∧ (convert 22 9 (.slice (some ⟨b, o + eA, none⟩) (lA - eA) (cr - eA))).run Try.prog w' = .ok (.string tx) w')
                (first | exact h0 | exact hTwo | go_keep)
                (first
                  | (go_at_call 25; refine CLL.out.mono ?_; rintro e w' ⟨A', c', rfl, hTwo, HBL⟩)
                  | fail)
              all_goals
                go_wp2_with fail
                go_ret
                exact ⟨rfl, below_both HW3.out (below_both Q11.out (below_both P14.out HBL.out))⟩
          · have CPa : Hid (∀ W, Below w3.heap.size w3 W → Calls Try.prog 52 #[.slice a0 j cap0, .int .i64 n1, .slice a2 len2 cap2] W fun e w' => e = .returned (.tuple #[.slice none 0 0, .int .i64 (x2 : Nat)]) ∧ Below W.heap.size W w') := fun W hW => packed_bad a0 j cap0 M0 (n1 : Int) _ W ((HX.out.below HW3.out).below hW) (Nat.le_trans (Nat.le_of_lt hlM) (by decide)) hxy hx
            have CPb : Hid (∀ W, Below w3.heap.size w3 W → Calls Try.prog 52 #[.slice A8 q c8, .int .i64 n1, .slice a2 len2 cap2] W fun e w' => e = .returned (.tuple #[.slice none 0 0, .int .i64 (x2 : Nat)]) ∧ Below W.heap.size W w') := fun W hW => packed_bad A8 q c8 M8 (n1 : Int) _ W (HX8.out.below hW) (by rw [← HN8.out.1]; exact Nat.le_trans HN9.out (by decide)) hxy2 hx
            obtain ⟨b0, b1⟩ := six_pair hx
            clear hfr hxy hxy2 hx hlM
            go_wp2_with fail
            refine (CPa.out _ (Below.refl _ _)).mono ?_
            rintro e w4 ⟨rfl, b4⟩
            have Q4 := Lib.hid b4
            clear b4
            go_wp2_with fail
            refine (CPb.out _ Q4.out).mono ?_
            rintro e w5 ⟨rfl, b5⟩
            have Q5 := Lib.hid (below_both HW3.out (below_both Q4.out b5))
            clear b5 Q4
            go_wp2_with fail
            refine (C60.out _).mono ?_
            rintro e w' ⟨rfl, rfl⟩
            go_wp2_with fail
            go_ret
            exact ⟨rfl, Q5.out⟩
end Go.Proofs.Ytlopmkmcjcijcaa
