/-
  The document's check of one extension header (layer 11).
-/
import Derived.Test.YtjpaicdbnadoeaaREw3
import Derived.Test.YtjpaicdbnadoeaaEw5
namespace Go.Proofs.Ytjpaicdbnadoeaa
open Go.RowKit
set_option linter.unusedVariables false

theorem exCountF_at {u x : Nat} (hu : 0 < u) : ∀ (f i : Nat), i ≤ x → x < i + f → exCountF u ((x : Int) * (u : Int)) f i = some x
  | 0, i, h1, h2 => absurd h2 (by omega)
  | f + 1, i, h1, h2 => by
    rw [exCountF]
    by_cases he : i = x
    · rw [if_pos (by rw [he]), he]
    · have hne : ¬ (i : Int) * (u : Int) = (x : Int) * (u : Int) := fun e => by
        have e2 : i * u = x * u := by
          have : ((i * u : Nat) : Int) = ((x * u : Nat) : Int) := by simpa using e
          exact Int.ofNat.inj this
        exact he (Nat.eq_of_mul_eq_mul_right hu e2)
      rw [if_neg hne]
      exact exCountF_at hu f (i + 1) (by omega) (by omega)
/-- How many bytes, two of them ahead of the body, a header may have, and its count. -/
def exWell (k : Int) (n : Nat) : Bool := if k = 44 then decide (n = 8) else if k = 51 then decide (n % 4 = 0 ∧ 8 ≤ n ∧ n ≤ 1028) else decide (n % 8 = 0 ∧ n ≤ 2048)
def exTell (k : Int) (n : Nat) : Nat := if k = 44 then 0 else if k = 51 then n / 4 - 2 else n / 8 - 1
theorem exCount_well (k : Int) (len : Nat) : (exCount k len).isSome = exWell k (len + 2) ∧ (exWell k (len + 2) = true → (exCount k len).getD 0 = exTell k (len + 2)) := by
  by_cases h : exWell k (len + 2) = true
  · have hc : exCount k len = some (exTell k (len + 2)) := by
      unfold exWell at h
      unfold exCount exTell exUnit
      by_cases h4 : k = 44
      · rw [if_pos h4] at h ⊢
        rw [if_pos h4]
        have h2 : len = 6 := by have := of_decide_eq_true h; omega
        subst h2
        rfl
      · rw [if_neg h4] at h ⊢
        rw [if_neg h4]
        by_cases h5 : k = 51
        · rw [if_pos h5] at h ⊢
          rw [if_pos h5]
          have h2 := of_decide_eq_true h
          have e : (len : Int) - 6 = (((len + 2) / 4 - 2 : Nat) : Int) * ((4 : Nat) : Int) := by omega
          rw [e]
          exact exCountF_at (by decide) 256 0 (Nat.zero_le _) (by omega)
        · rw [if_neg h5] at h ⊢
          rw [if_neg h5]
          have h2 := of_decide_eq_true h
          have e : (len : Int) - 6 = (((len + 2) / 8 - 1 : Nat) : Int) * ((8 : Nat) : Int) := by omega
          rw [e]
          exact exCountF_at (by decide) 256 0 (Nat.zero_le _) (by omega)
    rw [hc]
    exact ⟨h.symm, fun _ => rfl⟩
  · have hf : exWell k (len + 2) = false := by simpa using h
    refine ⟨?_, fun e => absurd e h⟩
    rw [hf]
    cases hc : exCount k len with
    | none => rfl
    | some x =>
      exfalso
      apply h
      unfold exCount at hc
      obtain ⟨h1, h2⟩ := exCountF_some hc
      unfold exUnit at h2
      unfold exWell
      by_cases h4 : k = 44
      · rw [if_pos h4] at h2 ⊢
        exact decide_eq_true (by simp at h2; omega)
      · rw [if_neg h4] at h2 ⊢
        by_cases h5 : k = 51
        · rw [if_pos h5] at h2 ⊢
          exact decide_eq_true (by omega)
        · rw [if_neg h5] at h2 ⊢
          exact decide_eq_true (by omega)
/-- Is there a fragment header ahead of number i? -/
def hadFrag (M : List (Int × List Nat)) : Nat → Bool
  | 0 => false
  | i + 1 => hadFrag M i || decide ((M.getD i (0, [])).1 = 44)
def exWrong (m : Int × List Nat) (i : Nat) (fr : Bool) : Nat := if exKind m.1 = false then 10 else if (exCount m.1 m.2.length).isSome = false then 3 else if m.1 = 0 ∧ 0 < i then 6 else if m.1 = 44 ∧ fr = true then 9 else 0
theorem hadFrag_true {M : List (Int × List Nat)} : ∀ {i j : Nat}, j < i → (M.getD j (0, [])).1 = 44 → hadFrag M i = true
  | i + 1, j, h, e => by
    rw [hadFrag]
    by_cases hj : j = i
    · subst hj; rw [decide_eq_true e, Bool.or_true]
    · rw [hadFrag_true (by omega) e, Bool.true_or]
theorem hadFrag_false {M : List (Int × List Nat)} : ∀ {i : Nat}, (∀ j, j < i → (M.getD j (0, [])).1 ≠ 44) → hadFrag M i = false
  | 0, _ => rfl
  | i + 1, h => by rw [hadFrag, hadFrag_false fun j hj => h j (by omega), decide_eq_false (h i (by omega))]; rfl
theorem wrong_step (m : Int × List Nat) (r : List (Int × List Nat)) (i : Nat) (fr : Bool) : exCheckF (m :: r) i fr = if exWrong m i fr = 0 then exCheckF r (i + 1) (fr || decide (m.1 = 44)) else (exWrong m i fr, i) := by
  obtain ⟨k, b⟩ := m
  rw [exCheckF]
  unfold exWrong
  dsimp only
  by_cases h1 : exKind k = false
  · rw [if_pos h1, if_pos h1]; rfl
  · rw [if_neg h1, if_neg h1]
    by_cases h2 : (exCount k b.length).isSome = false
    · rw [if_pos h2, if_pos h2]; rfl
    · rw [if_neg h2, if_neg h2]
      by_cases h3 : k = 0 ∧ 0 < i
      · rw [if_pos h3, if_pos h3]; rfl
      · rw [if_neg h3, if_neg h3]
        by_cases h4 : k = 44 ∧ fr = true
        · rw [if_pos h4, if_pos h4]; rfl
        · rw [if_neg h4, if_neg h4]; rfl
theorem wrong_ints {n : Nat} (h : n ≤ 140737488355328) : wrap64 ((n : Int) + 2) = ((n + 2 : Nat) : Int) := by unfold wrap64; omega
def NoFrag (k : Int) (M : List (Int × List Nat)) (q : Nat) : Prop := k = 44 → ∀ j, j < q → (M.getD j (0, [])).1 ≠ 44
theorem wrong_other {k : Int} : k = 44 ∨ k = 51 ∨ k = 0 ∨ (k ≠ 44 ∧ k ≠ 51 ∧ k ≠ 0) := by omega
theorem wrong_idx {q i N : Nat} (h : q < i) (hi : i < N) (h8 : N ≤ 1000) : (q : Int) < (i : Int) ∧ (q : Int) < (N : Int) ∧ (0 : Int) ≤ (q : Int) ∧ i - (q + 1) < i - q := ⟨by omega, by omega, by omega, by omega⟩
set_option maxRecDepth 10000 in
set_option maxHeartbeats 6400000 in
theorem rwrong_any (v : Value) (M : List (Int × List Nat)) (i : Nat) (m : Int × List Nat) (w : World) (hM : ExtsIn w v M) (hm : M[i]? = some m) (hl : M.length ≤ 1000) :
    Calls Try.prog 98 #[v, .int .i64 (i : Nat)] w fun e w' => e = .returned (.int .i64 (exWrong m i (hadFrag M i) : Nat)) ∧ Below w.heap.size w w' := by
  have HM := Lib.hid hM
  obtain ⟨A, c, rfl, hc, hcell⟩ := hM
  obtain ⟨k, bd⟩ := m
  obtain ⟨hbl, b, o, bv, rfl, hb, cc1, cc2, ⟨A3, c3, rfl, hc3, hrow⟩⟩ := hcell i (k, bd) hm
  have hiN : i < M.length := (List.getElem?_eq_some_iff.1 hm).1
  obtain ⟨N, hN⟩ : ∃ N, N = M.length := ⟨_, rfl⟩
  have HI : Hid (i < M.length ∧ M.length ≤ 1000) := ⟨hiN, hl⟩
  have HNE := Lib.hid hN
  rw [← hN] at hiN hl ⊢
  have jI : (i : Int) < (N : Int) := by omega
  have j0 : (0 : Int) ≤ (i : Int) := by omega
  have j8 : (i : Int) ≤ 1000 := by omega
  have CI := Lib.hid (rexis_any k)
  obtain ⟨hw1, hw2⟩ := exCount_well k bd.length
  obtain ⟨fr, hfr⟩ : ∃ fr, fr = hadFrag M i := ⟨_, rfl⟩
  have HFR := Lib.hid hfr
  rw [← hfr]
  obtain ⟨r, hr⟩ : ∃ r, r = exWrong (k, bd) i fr := ⟨_, rfl⟩
  have HR : Hid (r = if exKind k = false then 10 else if exWell k (bd.length + 2) = false then 3 else if k = 0 ∧ 0 < i then 6 else if k = 44 ∧ fr = true then 9 else 0) := by
    show r = _
    rw [hr]
    unfold exWrong
    dsimp only
    rw [hw1]
  rw [← hr]
  obtain ⟨n, hn⟩ : ∃ n, n = bd.length := ⟨_, rfl⟩
  rw [← hn] at HR
  simp only [] at cc1 cc2 hbl
  rw [← hn] at cc2 hbl
  have w1 := wrong_ints hbl
  clear hr hfr hw1 hw2 hcell hc hc3 hrow hm hN hiN hl hn hbl hb
  cases hk : exKind k with
  | false =>
    have hE : Hid (r = 10) := by show r = 10; rw [HR.out, if_pos hk]
    rw [hk] at CI
    clear hk HR
    go_enter Try.func98, Try.ntmps98
    go_upto_region 2 with fail
    obtain ⟨W3, eW3⟩ : ∃ W3, W3 = w.alloc (.cells #[.int .i64 k, .slice A3 n c3] 71) := ⟨_, rfl⟩
    have hA3 : ArrV 71 W3 w.heap.size [.int .i64 k, .slice A3 n c3] := by rw [eW3]; exact ArrV.new _ w _
    have hB3 : Below w.heap.size w W3 := by rw [eW3]; exact (Below.refl _ _).alloc (Nat.le_refl _) _
    have d0 := hA3.get 0
    have d1 := hA3.get 1
    simp at d0 d1
    have HA3 := Lib.hid hA3
    have HB3 := Lib.hid hB3
    rw [← eW3]
    obtain ⟨g7, hg7⟩ : ∃ g, g = w.heap.size := ⟨_, rfl⟩
    rw [← hg7] at d0 d1 HA3 ⊢
    clear eW3 hA3 hB3 cc1 cc2 hg7
    go_wp2_with fail
    refine (CI.out _).mono ?_
    rintro e w' ⟨rfl, rfl⟩
    go_wp2_with fail
    go_ret
    exact ⟨by rw [hE.out]; rfl, HB3.out⟩
  | true =>
    have HR2 : Hid (r = if exWell k (n + 2) = false then 3 else if k = 0 ∧ 0 < i then 6 else if k = 44 ∧ fr = true then 9 else 0) := by show r = _; rw [HR.out, if_neg (by rw [hk]; simp)]
    have hcls := wrong_other (k := k)
    rw [hk] at CI
    clear hk HR
    obtain ⟨x, hx⟩ : ∃ x, x = n + 2 := ⟨_, rfl⟩
    rw [← hx] at HR2 w1
    clear hx
    rcases hcls with rfl | rfl | rfl | ⟨k4, k5, k0⟩
    · by_cases hx : x = 8
      · have HR3 : Hid (r = if fr = true then 9 else 0) := by show r = _; rw [HR2.out]; simp [exWell, hx]
        have x8 : ((x : Int) != 8) = false := by rw [hx]; rfl
        clear hx HR2
        go_enter Try.func98, Try.ntmps98
        go_upto_region 2 with fail
        obtain ⟨W3, eW3⟩ : ∃ W3, W3 = w.alloc (.cells #[.int .i64 44, .slice A3 n c3] 71) := ⟨_, rfl⟩
        have hA3 : ArrV 71 W3 w.heap.size [.int .i64 44, .slice A3 n c3] := by rw [eW3]; exact ArrV.new _ w _
        have hB3 : Below w.heap.size w W3 := by rw [eW3]; exact (Below.refl _ _).alloc (Nat.le_refl _) _
        have d0 := hA3.get 0
        have d1 := hA3.get 1
        simp at d0 d1
        have HA3 := Lib.hid hA3
        have HB3 := Lib.hid hB3
        rw [← eW3]
        obtain ⟨g7, hg7⟩ : ∃ g, g = w.heap.size := ⟨_, rfl⟩
        rw [← hg7] at d0 d1 HA3 ⊢
        clear eW3 hA3 hB3 cc1 cc2 hg7
        go_wp2_with fail
        refine (CI.out _).mono ?_
        rintro e w' ⟨rfl, rfl⟩
        go_wp2_with fail
        clear d1
        go_loopw [7] (fun t W => ∃ q : Nat, q ≤ i ∧ t = .int .i64 (q : Nat) ∧ W3 = W ∧ NoFrag (44 : Int) M q) (fun t W => i - (intOf t).toNat)
        case atStart => exact ⟨0, Nat.zero_le _, rfl, rfl, fun _ j hj => absurd hj (Nat.not_lt_zero _)⟩
        case round =>
          obtain ⟨q, hq, rfl, rfl, HNO⟩ := hrel
          by_cases hlt : q < i
          · obtain ⟨mq, hmq⟩ : ∃ m, M[q]? = some m := ⟨_, List.getElem?_eq_getElem (by have := HI.out.1; omega)⟩
            have hgd : M.getD q (0, []) = mq := by rw [List.getD_eq_getElem?_getD, hmq]; rfl
            obtain ⟨A2, c2, e2, hc2, hcell⟩ := HM.out.below HB3.out
            cases e2
            obtain ⟨_, b2, o2, bv2, ea, _, q1, _, _⟩ := hcell q mq hmq
            cases ea
            obtain ⟨z, hz⟩ : ∃ z, z = mq.1 := ⟨_, rfl⟩
            rw [← hz] at q1
            obtain ⟨qi, qN, q0, qm⟩ := wrong_idx hlt HI.out.1 HI.out.2
            rw [← HNE.out] at qN
            have HQ := Lib.hid (And.intro hq (And.intro hlt qm))
            have HZ : Hid ((M.getD q (0, [])).1 = z) := by show _ = z; rw [hgd, hz]
            clear hq hlt hgd hcell hmq hz hc2 qm
            by_cases hz4 : z = 44
            · subst hz4
              have hE : Hid (r = 9) := by
                show r = 9
                rw [HR3.out, HFR.out, hadFrag_true HQ.out.2.1 HZ.out]
                rfl
              clear HR3
              go_wp2_with fail
              go_ret
              exact ⟨by rw [hE.out]; rfl, HB3.out⟩
            · have z4 : (z == 44) = false := beq_false_of_ne hz4
              have HZN := Lib.hid hz4
              clear hz4
              go_wp2_with fail
              go_roundw
              case rel => exact ⟨q + 1, HQ.out.2.1, by go_num, by trivial, fun h j hj => by
                rcases Nat.lt_succ_iff_lt_or_eq.1 hj with h1 | h1
                · exact HNO h j h1
                · rw [h1, HZ.out]; exact HZN.out⟩
              case measure => simp [intOf]; exact HQ.out.2.2
          · have hqi : q = i := Nat.le_antisymm hq (Nat.le_of_not_lt hlt)
            subst hqi
            have hE : Hid (r = 0) := by
              show r = 0
              rw [HR3.out, HFR.out, hadFrag_false (fun j hj => HNO rfl j hj)]
              rfl
            have qq : ¬ (q : Int) < (q : Int) := by omega
            clear hlt hq HR3
            go_wp2_with fail
            go_ret
            exact ⟨by rw [hE.out]; rfl, HB3.out⟩
      · have hE : Hid (r = 3) := by show r = 3; rw [HR2.out]; simp [exWell, hx]
        have x8 : ((x : Int) != 8) = true := bne_iff_ne.2 (by omega)
        clear hx HR2
        go_enter Try.func98, Try.ntmps98
        go_upto_region 2 with fail
        obtain ⟨W3, eW3⟩ : ∃ W3, W3 = w.alloc (.cells #[.int .i64 44, .slice A3 n c3] 71) := ⟨_, rfl⟩
        have hA3 : ArrV 71 W3 w.heap.size [.int .i64 44, .slice A3 n c3] := by rw [eW3]; exact ArrV.new _ w _
        have hB3 : Below w.heap.size w W3 := by rw [eW3]; exact (Below.refl _ _).alloc (Nat.le_refl _) _
        have d0 := hA3.get 0
        have d1 := hA3.get 1
        simp at d0 d1
        have HA3 := Lib.hid hA3
        have HB3 := Lib.hid hB3
        rw [← eW3]
        obtain ⟨g7, hg7⟩ : ∃ g, g = w.heap.size := ⟨_, rfl⟩
        rw [← hg7] at d0 d1 HA3 ⊢
        clear eW3 hA3 hB3 cc1 cc2 hg7
        go_wp2_with fail
        refine (CI.out _).mono ?_
        rintro e w' ⟨rfl, rfl⟩
        go_wp2_with fail
        go_ret
        exact ⟨by rw [hE.out]; rfl, HB3.out⟩
    · by_cases hm4 : x % 4 = 0
      · have m4 : ((x : Int) % 4 != 0) = false := by rw [show (x : Int) % 4 = 0 by omega]; rfl
        by_cases hx8 : x < 8
        · have i8 : (x : Int) < 8 := by omega
          have hE : Hid (r = 3) := by show r = 3; rw [HR2.out]; simp [exWell]; omega
          clear hm4 hx8 HR2
          go_enter Try.func98, Try.ntmps98
          go_upto_region 2 with fail
          obtain ⟨W3, eW3⟩ : ∃ W3, W3 = w.alloc (.cells #[.int .i64 51, .slice A3 n c3] 71) := ⟨_, rfl⟩
          have hA3 : ArrV 71 W3 w.heap.size [.int .i64 51, .slice A3 n c3] := by rw [eW3]; exact ArrV.new _ w _
          have hB3 : Below w.heap.size w W3 := by rw [eW3]; exact (Below.refl _ _).alloc (Nat.le_refl _) _
          have d0 := hA3.get 0
          have d1 := hA3.get 1
          simp at d0 d1
          have HA3 := Lib.hid hA3
          have HB3 := Lib.hid hB3
          rw [← eW3]
          obtain ⟨g7, hg7⟩ : ∃ g, g = w.heap.size := ⟨_, rfl⟩
          rw [← hg7] at d0 d1 HA3 ⊢
          clear eW3 hA3 hB3 cc1 cc2 hg7
          go_wp2_with fail
          refine (CI.out _).mono ?_
          rintro e w' ⟨rfl, rfl⟩
          go_wp2_with fail
          go_ret
          exact ⟨by rw [hE.out]; rfl, HB3.out⟩
        · have i8 : ¬ (x : Int) < 8 := by omega
          by_cases hxg : 1028 < x
          · have ig : (1028 : Int) < (x : Int) := by omega
            have hE : Hid (r = 3) := by show r = 3; rw [HR2.out]; simp [exWell]; omega
            clear hm4 hx8 hxg HR2
            go_enter Try.func98, Try.ntmps98
            go_upto_region 2 with fail
            obtain ⟨W3, eW3⟩ : ∃ W3, W3 = w.alloc (.cells #[.int .i64 51, .slice A3 n c3] 71) := ⟨_, rfl⟩
            have hA3 : ArrV 71 W3 w.heap.size [.int .i64 51, .slice A3 n c3] := by rw [eW3]; exact ArrV.new _ w _
            have hB3 : Below w.heap.size w W3 := by rw [eW3]; exact (Below.refl _ _).alloc (Nat.le_refl _) _
            have d0 := hA3.get 0
            have d1 := hA3.get 1
            simp at d0 d1
            have HA3 := Lib.hid hA3
            have HB3 := Lib.hid hB3
            rw [← eW3]
            obtain ⟨g7, hg7⟩ : ∃ g, g = w.heap.size := ⟨_, rfl⟩
            rw [← hg7] at d0 d1 HA3 ⊢
            clear eW3 hA3 hB3 cc1 cc2 hg7
            go_wp2_with fail
            refine (CI.out _).mono ?_
            rintro e w' ⟨rfl, rfl⟩
            go_wp2_with fail
            go_ret
            exact ⟨by rw [hE.out]; rfl, HB3.out⟩
          · have ig : ¬ (1028 : Int) < (x : Int) := by omega
            have hE : Hid (r = 0) := by
              show r = 0
              rw [HR2.out, if_neg (by simp [exWell]; omega), if_neg (by simp), if_neg (by simp)]
            clear hm4 hx8 hxg HR2
            go_enter Try.func98, Try.ntmps98
            go_upto_region 2 with fail
            obtain ⟨W3, eW3⟩ : ∃ W3, W3 = w.alloc (.cells #[.int .i64 51, .slice A3 n c3] 71) := ⟨_, rfl⟩
            have hA3 : ArrV 71 W3 w.heap.size [.int .i64 51, .slice A3 n c3] := by rw [eW3]; exact ArrV.new _ w _
            have hB3 : Below w.heap.size w W3 := by rw [eW3]; exact (Below.refl _ _).alloc (Nat.le_refl _) _
            have d0 := hA3.get 0
            have d1 := hA3.get 1
            simp at d0 d1
            have HA3 := Lib.hid hA3
            have HB3 := Lib.hid hB3
            rw [← eW3]
            obtain ⟨g7, hg7⟩ : ∃ g, g = w.heap.size := ⟨_, rfl⟩
            rw [← hg7] at d0 d1 HA3 ⊢
            clear eW3 hA3 hB3 cc1 cc2 hg7
            go_wp2_with fail
            refine (CI.out _).mono ?_
            rintro e w' ⟨rfl, rfl⟩
            go_wp2_with fail
            clear d1
            go_loopw [7] (fun t W => ∃ q : Nat, q ≤ i ∧ t = .int .i64 (q : Nat) ∧ W3 = W ∧ NoFrag (51 : Int) M q) (fun t W => i - (intOf t).toNat)
            case atStart => exact ⟨0, Nat.zero_le _, rfl, rfl, fun _ j hj => absurd hj (Nat.not_lt_zero _)⟩
            case round =>
              obtain ⟨q, hq, rfl, rfl, HNO⟩ := hrel
              by_cases hlt : q < i
              · obtain ⟨mq, hmq⟩ : ∃ m, M[q]? = some m := ⟨_, List.getElem?_eq_getElem (by have := HI.out.1; omega)⟩
                have hgd : M.getD q (0, []) = mq := by rw [List.getD_eq_getElem?_getD, hmq]; rfl
                obtain ⟨A2, c2, e2, hc2, hcell⟩ := HM.out.below HB3.out
                cases e2
                obtain ⟨_, b2, o2, bv2, ea, _, q1, _, _⟩ := hcell q mq hmq
                cases ea
                obtain ⟨z, hz⟩ : ∃ z, z = mq.1 := ⟨_, rfl⟩
                rw [← hz] at q1
                obtain ⟨qi, qN, q0, qm⟩ := wrong_idx hlt HI.out.1 HI.out.2
                rw [← HNE.out] at qN
                have HQ := Lib.hid (And.intro hq (And.intro hlt qm))
                have HZ : Hid ((M.getD q (0, [])).1 = z) := by show _ = z; rw [hgd, hz]
                clear hq hlt hgd hcell hmq hz hc2 qm
                go_wp2_with fail
                go_roundw
                case rel => exact ⟨q + 1, HQ.out.2.1, by go_num, by trivial, fun h => absurd h (by decide)⟩
                case measure => simp [intOf]; exact HQ.out.2.2
              · have hqi : q = i := Nat.le_antisymm hq (Nat.le_of_not_lt hlt)
                subst hqi
                have qq : ¬ (q : Int) < (q : Int) := by omega
                clear hlt hq
                go_wp2_with fail
                go_ret
                exact ⟨by rw [hE.out]; rfl, HB3.out⟩
      · have m4 : ((x : Int) % 4 != 0) = true := bne_iff_ne.2 (by omega)
        have hE : Hid (r = 3) := by show r = 3; rw [HR2.out]; simp [exWell]; omega
        clear hm4 HR2
        go_enter Try.func98, Try.ntmps98
        go_upto_region 2 with fail
        obtain ⟨W3, eW3⟩ : ∃ W3, W3 = w.alloc (.cells #[.int .i64 51, .slice A3 n c3] 71) := ⟨_, rfl⟩
        have hA3 : ArrV 71 W3 w.heap.size [.int .i64 51, .slice A3 n c3] := by rw [eW3]; exact ArrV.new _ w _
        have hB3 : Below w.heap.size w W3 := by rw [eW3]; exact (Below.refl _ _).alloc (Nat.le_refl _) _
        have d0 := hA3.get 0
        have d1 := hA3.get 1
        simp at d0 d1
        have HA3 := Lib.hid hA3
        have HB3 := Lib.hid hB3
        rw [← eW3]
        obtain ⟨g7, hg7⟩ : ∃ g, g = w.heap.size := ⟨_, rfl⟩
        rw [← hg7] at d0 d1 HA3 ⊢
        clear eW3 hA3 hB3 cc1 cc2 hg7
        go_wp2_with fail
        refine (CI.out _).mono ?_
        rintro e w' ⟨rfl, rfl⟩
        go_wp2_with fail
        go_ret
        exact ⟨by rw [hE.out]; rfl, HB3.out⟩
    · by_cases hm8 : x % 8 = 0
      · have m8 : ((x : Int) % 8 != 0) = false := by rw [show (x : Int) % 8 = 0 by omega]; rfl
        by_cases hxg : 2048 < x
        · have ig : (2048 : Int) < (x : Int) := by omega
          have hE : Hid (r = 3) := by show r = 3; rw [HR2.out, if_pos (by unfold exWell; rw [if_neg (by decide), if_neg (by decide)]; exact decide_eq_false (by omega))]
          clear hm8 hxg HR2
          go_enter Try.func98, Try.ntmps98
          go_upto_region 2 with fail
          obtain ⟨W3, eW3⟩ : ∃ W3, W3 = w.alloc (.cells #[.int .i64 0, .slice A3 n c3] 71) := ⟨_, rfl⟩
          have hA3 : ArrV 71 W3 w.heap.size [.int .i64 0, .slice A3 n c3] := by rw [eW3]; exact ArrV.new _ w _
          have hB3 : Below w.heap.size w W3 := by rw [eW3]; exact (Below.refl _ _).alloc (Nat.le_refl _) _
          have d0 := hA3.get 0
          have d1 := hA3.get 1
          simp at d0 d1
          have HA3 := Lib.hid hA3
          have HB3 := Lib.hid hB3
          rw [← eW3]
          obtain ⟨g7, hg7⟩ : ∃ g, g = w.heap.size := ⟨_, rfl⟩
          rw [← hg7] at d0 d1 HA3 ⊢
          clear eW3 hA3 hB3 cc1 cc2 hg7
          go_wp2_with fail
          refine (CI.out _).mono ?_
          rintro e w' ⟨rfl, rfl⟩
          go_wp2_with fail
          go_ret
          exact ⟨by rw [hE.out]; rfl, HB3.out⟩
        · have ig : ¬ (2048 : Int) < (x : Int) := by omega
          have HW : Hid (¬ exWell 0 x = false) := by show ¬ _; unfold exWell; rw [if_neg (by decide), if_neg (by decide), decide_eq_true (by omega)]; simp
          by_cases hi0 : 0 < i
          · have ii0 : (0 : Int) < (i : Int) := by omega
            have hE : Hid (r = 6) := by show r = 6; rw [HR2.out, if_neg HW.out, if_pos ⟨rfl, hi0⟩]
            clear hm8 hxg HR2 hi0
            go_enter Try.func98, Try.ntmps98
            go_upto_region 2 with fail
            obtain ⟨W3, eW3⟩ : ∃ W3, W3 = w.alloc (.cells #[.int .i64 0, .slice A3 n c3] 71) := ⟨_, rfl⟩
            have hA3 : ArrV 71 W3 w.heap.size [.int .i64 0, .slice A3 n c3] := by rw [eW3]; exact ArrV.new _ w _
            have hB3 : Below w.heap.size w W3 := by rw [eW3]; exact (Below.refl _ _).alloc (Nat.le_refl _) _
            have d0 := hA3.get 0
            have d1 := hA3.get 1
            simp at d0 d1
            have HA3 := Lib.hid hA3
            have HB3 := Lib.hid hB3
            rw [← eW3]
            obtain ⟨g7, hg7⟩ : ∃ g, g = w.heap.size := ⟨_, rfl⟩
            rw [← hg7] at d0 d1 HA3 ⊢
            clear eW3 hA3 hB3 cc1 cc2 hg7
            go_wp2_with fail
            refine (CI.out _).mono ?_
            rintro e w' ⟨rfl, rfl⟩
            go_wp2_with fail
            go_ret
            exact ⟨by rw [hE.out]; rfl, HB3.out⟩
          · have ii0 : ¬ (0 : Int) < (i : Int) := by omega
            have hE : Hid (r = 0) := by show r = 0; rw [HR2.out, if_neg HW.out, if_neg (fun h => hi0 h.2), if_neg (by simp)]
            have hi0i := Lib.hid hi0
            clear hm8 hxg HR2 hi0 ii0
            have hi : i = 0 := Nat.eq_zero_of_not_pos hi0i.out
            subst hi
            simp only [Nat.zero_mul, Nat.add_zero] at cc1 cc2
            go_enter Try.func98, Try.ntmps98
            go_upto_region 2 with fail
            obtain ⟨W3, eW3⟩ : ∃ W3, W3 = w.alloc (.cells #[.int .i64 0, .slice A3 n c3] 71) := ⟨_, rfl⟩
            have hA3 : ArrV 71 W3 w.heap.size [.int .i64 0, .slice A3 n c3] := by rw [eW3]; exact ArrV.new _ w _
            have hB3 : Below w.heap.size w W3 := by rw [eW3]; exact (Below.refl _ _).alloc (Nat.le_refl _) _
            have d0 := hA3.get 0
            have d1 := hA3.get 1
            simp at d0 d1
            have HA3 := Lib.hid hA3
            have HB3 := Lib.hid hB3
            rw [← eW3]
            obtain ⟨g7, hg7⟩ : ∃ g, g = w.heap.size := ⟨_, rfl⟩
            rw [← hg7] at d0 d1 HA3 ⊢
            clear eW3 hA3 hB3 cc1 cc2 hg7
            go_wp2_with fail
            refine (CI.out _).mono ?_
            rintro e w' ⟨rfl, rfl⟩
            go_wp2_with fail
            clear d1
            go_loopw [7] (fun t W => t = .int .i64 0 ∧ W3 = W) (fun t W => 0)
            case atStart => exact ⟨rfl, rfl⟩
            case round =>
              obtain ⟨rfl, rfl⟩ := hrel
              go_wp2_with fail
              go_ret
              exact ⟨by rw [hE.out]; rfl, HB3.out⟩
      · have m8 : ((x : Int) % 8 != 0) = true := bne_iff_ne.2 (by omega)
        have hE : Hid (r = 3) := by show r = 3; rw [HR2.out, if_pos (by unfold exWell; rw [if_neg (by decide), if_neg (by decide)]; exact decide_eq_false (by omega))]
        clear hm8 HR2
        go_enter Try.func98, Try.ntmps98
        go_upto_region 2 with fail
        obtain ⟨W3, eW3⟩ : ∃ W3, W3 = w.alloc (.cells #[.int .i64 0, .slice A3 n c3] 71) := ⟨_, rfl⟩
        have hA3 : ArrV 71 W3 w.heap.size [.int .i64 0, .slice A3 n c3] := by rw [eW3]; exact ArrV.new _ w _
        have hB3 : Below w.heap.size w W3 := by rw [eW3]; exact (Below.refl _ _).alloc (Nat.le_refl _) _
        have d0 := hA3.get 0
        have d1 := hA3.get 1
        simp at d0 d1
        have HA3 := Lib.hid hA3
        have HB3 := Lib.hid hB3
        rw [← eW3]
        obtain ⟨g7, hg7⟩ : ∃ g, g = w.heap.size := ⟨_, rfl⟩
        rw [← hg7] at d0 d1 HA3 ⊢
        clear eW3 hA3 hB3 cc1 cc2 hg7
        go_wp2_with fail
        refine (CI.out _).mono ?_
        rintro e w' ⟨rfl, rfl⟩
        go_wp2_with fail
        go_ret
        exact ⟨by rw [hE.out]; rfl, HB3.out⟩
    · have b4 : (k == 44) = false := beq_false_of_ne k4
      have b5 : (k == 51) = false := beq_false_of_ne k5
      have b0 : (k == 0) = false := beq_false_of_ne k0
      have n4 : (k != 44) = true := bne_iff_ne.2 k4
      have n5 : (k != 51) = true := bne_iff_ne.2 k5
      by_cases hm8 : x % 8 = 0
      · have m8 : ((x : Int) % 8 != 0) = false := by rw [show (x : Int) % 8 = 0 by omega]; rfl
        by_cases hxg : 2048 < x
        · have ig : (2048 : Int) < (x : Int) := by omega
          have hE : Hid (r = 3) := by show r = 3; rw [HR2.out, if_pos (by unfold exWell; rw [if_neg k4, if_neg k5]; exact decide_eq_false (by omega))]
          clear hm8 hxg HR2 k4 k5 k0
          go_enter Try.func98, Try.ntmps98
          go_upto_region 2 with fail
          obtain ⟨W3, eW3⟩ : ∃ W3, W3 = w.alloc (.cells #[.int .i64 k, .slice A3 n c3] 71) := ⟨_, rfl⟩
          have hA3 : ArrV 71 W3 w.heap.size [.int .i64 k, .slice A3 n c3] := by rw [eW3]; exact ArrV.new _ w _
          have hB3 : Below w.heap.size w W3 := by rw [eW3]; exact (Below.refl _ _).alloc (Nat.le_refl _) _
          have d0 := hA3.get 0
          have d1 := hA3.get 1
          simp at d0 d1
          have HA3 := Lib.hid hA3
          have HB3 := Lib.hid hB3
          rw [← eW3]
          obtain ⟨g7, hg7⟩ : ∃ g, g = w.heap.size := ⟨_, rfl⟩
          rw [← hg7] at d0 d1 HA3 ⊢
          clear eW3 hA3 hB3 cc1 cc2 hg7
          go_wp2_with fail
          refine (CI.out _).mono ?_
          rintro e w' ⟨rfl, rfl⟩
          go_wp2_with fail
          go_ret
          exact ⟨by rw [hE.out]; rfl, HB3.out⟩
        · have ig : ¬ (2048 : Int) < (x : Int) := by omega
          have HW : Hid (¬ exWell k x = false) := by show ¬ _; unfold exWell; rw [if_neg k4, if_neg k5, decide_eq_true (by omega)]; simp
          have hE : Hid (r = 0) := by show r = 0; rw [HR2.out, if_neg HW.out, if_neg (fun h => k0 h.1), if_neg (fun h => k4 h.1)]
          have HK4 := Lib.hid k4
          clear hm8 hxg HR2 k4 k5 k0
          go_enter Try.func98, Try.ntmps98
          go_upto_region 2 with fail
          obtain ⟨W3, eW3⟩ : ∃ W3, W3 = w.alloc (.cells #[.int .i64 k, .slice A3 n c3] 71) := ⟨_, rfl⟩
          have hA3 : ArrV 71 W3 w.heap.size [.int .i64 k, .slice A3 n c3] := by rw [eW3]; exact ArrV.new _ w _
          have hB3 : Below w.heap.size w W3 := by rw [eW3]; exact (Below.refl _ _).alloc (Nat.le_refl _) _
          have d0 := hA3.get 0
          have d1 := hA3.get 1
          simp at d0 d1
          have HA3 := Lib.hid hA3
          have HB3 := Lib.hid hB3
          rw [← eW3]
          obtain ⟨g7, hg7⟩ : ∃ g, g = w.heap.size := ⟨_, rfl⟩
          rw [← hg7] at d0 d1 HA3 ⊢
          clear eW3 hA3 hB3 cc1 cc2 hg7
          go_wp2_with fail
          refine (CI.out _).mono ?_
          rintro e w' ⟨rfl, rfl⟩
          go_wp2_with fail
          clear d1
          go_loopw [7] (fun t W => ∃ q : Nat, q ≤ i ∧ t = .int .i64 (q : Nat) ∧ W3 = W ∧ NoFrag k M q) (fun t W => i - (intOf t).toNat)
          case atStart => exact ⟨0, Nat.zero_le _, rfl, rfl, fun _ j hj => absurd hj (Nat.not_lt_zero _)⟩
          case round =>
            obtain ⟨q, hq, rfl, rfl, HNO⟩ := hrel
            by_cases hlt : q < i
            · obtain ⟨mq, hmq⟩ : ∃ m, M[q]? = some m := ⟨_, List.getElem?_eq_getElem (by have := HI.out.1; omega)⟩
              have hgd : M.getD q (0, []) = mq := by rw [List.getD_eq_getElem?_getD, hmq]; rfl
              obtain ⟨A2, c2, e2, hc2, hcell⟩ := HM.out.below HB3.out
              cases e2
              obtain ⟨_, b2, o2, bv2, ea, _, q1, _, _⟩ := hcell q mq hmq
              cases ea
              obtain ⟨z, hz⟩ : ∃ z, z = mq.1 := ⟨_, rfl⟩
              rw [← hz] at q1
              obtain ⟨qi, qN, q0, qm⟩ := wrong_idx hlt HI.out.1 HI.out.2
              rw [← HNE.out] at qN
              have HQ := Lib.hid (And.intro hq (And.intro hlt qm))
              have HZ : Hid ((M.getD q (0, [])).1 = z) := by show _ = z; rw [hgd, hz]
              clear hq hlt hgd hcell hmq hz hc2 qm
              go_wp2_with fail
              go_roundw
              case rel => exact ⟨q + 1, HQ.out.2.1, by go_num, by trivial, fun h => absurd h HK4.out⟩
              case measure => simp [intOf]; exact HQ.out.2.2
            · have hqi : q = i := Nat.le_antisymm hq (Nat.le_of_not_lt hlt)
              subst hqi
              have qq : ¬ (q : Int) < (q : Int) := by omega
              clear hlt hq
              go_wp2_with fail
              go_ret
              exact ⟨by rw [hE.out]; rfl, HB3.out⟩
      · have m8 : ((x : Int) % 8 != 0) = true := bne_iff_ne.2 (by omega)
        have hE : Hid (r = 3) := by show r = 3; rw [HR2.out, if_pos (by unfold exWell; rw [if_neg k4, if_neg k5]; exact decide_eq_false (by omega))]
        clear hm8 HR2 k4 k5 k0
        go_enter Try.func98, Try.ntmps98
        go_upto_region 2 with fail
        obtain ⟨W3, eW3⟩ : ∃ W3, W3 = w.alloc (.cells #[.int .i64 k, .slice A3 n c3] 71) := ⟨_, rfl⟩
        have hA3 : ArrV 71 W3 w.heap.size [.int .i64 k, .slice A3 n c3] := by rw [eW3]; exact ArrV.new _ w _
        have hB3 : Below w.heap.size w W3 := by rw [eW3]; exact (Below.refl _ _).alloc (Nat.le_refl _) _
        have d0 := hA3.get 0
        have d1 := hA3.get 1
        simp at d0 d1
        have HA3 := Lib.hid hA3
        have HB3 := Lib.hid hB3
        rw [← eW3]
        obtain ⟨g7, hg7⟩ : ∃ g, g = w.heap.size := ⟨_, rfl⟩
        rw [← hg7] at d0 d1 HA3 ⊢
        clear eW3 hA3 hB3 cc1 cc2 hg7
        go_wp2_with fail
        refine (CI.out _).mono ?_
        rintro e w' ⟨rfl, rfl⟩
        go_wp2_with fail
        go_ret
        exact ⟨by rw [hE.out]; rfl, HB3.out⟩
end Go.Proofs.Ytjpaicdbnadoeaa
