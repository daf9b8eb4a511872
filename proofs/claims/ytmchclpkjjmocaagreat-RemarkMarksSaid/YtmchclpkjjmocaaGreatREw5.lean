/-
  The document's check of one extension header (layer 11).
  The document's Write of layer 11.
-/
import Derived.Test.YtmchclpkjjmocaaGreatREw3
import Derived.Test.YtmchclpkjjmocaaGreatEw5
import Derived.Test.YtmchclpkjjmocaaGreatJoin2
namespace Go.Proofs.YtmchclpkjjmocaaGreat
open Go.RowKit
set_option linter.unusedVariables false

theorem exCountF_at {u x : Nat} (hu : 0 < u) : ∀ (f i : Nat), i ≤ x → x < i + f → exCountF u ((x : Int) * (u : Int)) f i = some x
  | 0, i, h1, h2 => absurd h2 (by omega)
  | f + 1, i, h1, h2 => by
    rw [exCountF]
    by_cases he : i = x
    · rw [if_pos (by rw [he]), he]
    · have hne : ¬ (i : Int) * (u : Int) = (x : Int) * (u : Int) := fun e => by
        have e2 : i * u = x * u := by
          have : ((i * u : Nat) : Int) = ((x * u : Nat) : Int) := by simpa using e
          exact Int.ofNat.inj this
        exact he (Nat.eq_of_mul_eq_mul_right hu e2)
      rw [if_neg hne]
      exact exCountF_at hu f (i + 1) (by omega) (by omega)
/-- How many bytes, two of them ahead of the body, a header may have, and its count. -/
def exWell (k : Int) (n : Nat) : Bool := if k = 44 then decide (n = 8) else if k = 51 then decide (n % 4 = 0 ∧ 8 ≤ n ∧ n ≤ 1028) else decide (n % 8 = 0 ∧ n ≤ 2048)
def exTell (k : Int) (n : Nat) : Nat := if k = 44 then 0 else if k = 51 then n / 4 - 2 else n / 8 - 1
theorem exCount_well (k : Int) (len : Nat) : (exCount k len).isSome = exWell k (len + 2) ∧ (exWell k (len + 2) = true → (exCount k len).getD 0 = exTell k (len + 2)) := by
  by_cases h : exWell k (len + 2) = true
  · have hc : exCount k len = some (exTell k (len + 2)) := by
      unfold exWell at h
      unfold exCount exTell exUnit
      by_cases h4 : k = 44
      · rw [if_pos h4] at h ⊢
        rw [if_pos h4]
        have h2 : len = 6 := by have := of_decide_eq_true h; omega
        subst h2
        rfl
      · rw [if_neg h4] at h ⊢
        rw [if_neg h4]
        by_cases h5 : k = 51
        · rw [if_pos h5] at h ⊢
          rw [if_pos h5]
          have h2 := of_decide_eq_true h
          have e : (len : Int) - 6 = (((len + 2) / 4 - 2 : Nat) : Int) * ((4 : Nat) : Int) := by omega
          rw [e]
          exact exCountF_at (by decide) 256 0 (Nat.zero_le _) (by omega)
        · rw [if_neg h5] at h ⊢
          rw [if_neg h5]
          have h2 := of_decide_eq_true h
          have e : (len : Int) - 6 = (((len + 2) / 8 - 1 : Nat) : Int) * ((8 : Nat) : Int) := by omega
          rw [e]
          exact exCountF_at (by decide) 256 0 (Nat.zero_le _) (by omega)
    rw [hc]
    exact ⟨h.symm, fun _ => rfl⟩
  · have hf : exWell k (len + 2) = false := by simpa using h
    refine ⟨?_, fun e => absurd e h⟩
    rw [hf]
    cases hc : exCount k len with
    | none => rfl
    | some x =>
      exfalso
      apply h
      unfold exCount at hc
      obtain ⟨h1, h2⟩ := exCountF_some hc
      unfold exUnit at h2
      unfold exWell
      by_cases h4 : k = 44
      · rw [if_pos h4] at h2 ⊢
        exact decide_eq_true (by simp at h2; omega)
      · rw [if_neg h4] at h2 ⊢
        by_cases h5 : k = 51
        · rw [if_pos h5] at h2 ⊢
          exact decide_eq_true (by omega)
        · rw [if_neg h5] at h2 ⊢
          exact decide_eq_true (by omega)
/-- Is there a fragment header ahead of number i? -/
def hadFrag (M : List (Int × List Nat)) : Nat → Bool
  | 0 => false
  | i + 1 => hadFrag M i || decide ((M.getD i (0, [])).1 = 44)
def exWrong (m : Int × List Nat) (i : Nat) (fr : Bool) : Nat := if exKind m.1 = false then 10 else if (exCount m.1 m.2.length).isSome = false then 3 else if m.1 = 0 ∧ 0 < i then 6 else if m.1 = 44 ∧ fr = true then 9 else 0
theorem hadFrag_true {M : List (Int × List Nat)} : ∀ {i j : Nat}, j < i → (M.getD j (0, [])).1 = 44 → hadFrag M i = true
  | i + 1, j, h, e => by
    rw [hadFrag]
    by_cases hj : j = i
    · subst hj; rw [decide_eq_true e, Bool.or_true]
    · rw [hadFrag_true (by omega) e, Bool.true_or]
theorem hadFrag_false {M : List (Int × List Nat)} : ∀ {i : Nat}, (∀ j, j < i → (M.getD j (0, [])).1 ≠ 44) → hadFrag M i = false
  | 0, _ => rfl
  | i + 1, h => by rw [hadFrag, hadFrag_false fun j hj => h j (by omega), decide_eq_false (h i (by omega))]; rfl
theorem wrong_step (m : Int × List Nat) (r : List (Int × List Nat)) (i : Nat) (fr : Bool) : exCheckF (m :: r) i fr = if exWrong m i fr = 0 then exCheckF r (i + 1) (fr || decide (m.1 = 44)) else (exWrong m i fr, i) := by
  obtain ⟨k, b⟩ := m
  rw [exCheckF]
  unfold exWrong
  dsimp only
  by_cases h1 : exKind k = false
  · rw [if_pos h1, if_pos h1]; rfl
  · rw [if_neg h1, if_neg h1]
    by_cases h2 : (exCount k b.length).isSome = false
    · rw [if_pos h2, if_pos h2]; rfl
    · rw [if_neg h2, if_neg h2]
      by_cases h3 : k = 0 ∧ 0 < i
      · rw [if_pos h3, if_pos h3]; rfl
      · rw [if_neg h3, if_neg h3]
        by_cases h4 : k = 44 ∧ fr = true
        · rw [if_pos h4, if_pos h4]; rfl
        · rw [if_neg h4, if_neg h4]; rfl
theorem wrong_ints {n : Nat} (h : n ≤ 140737488355328) : wrap64 ((n : Int) + 2) = ((n + 2 : Nat) : Int) := by unfold wrap64; omega
def NoFrag (k : Int) (M : List (Int × List Nat)) (q : Nat) : Prop := k = 44 → ∀ j, j < q → (M.getD j (0, [])).1 ≠ 44
theorem wrong_other {k : Int} : k = 44 ∨ k = 51 ∨ k = 0 ∨ (k ≠ 44 ∧ k ≠ 51 ∧ k ≠ 0) := by omega
theorem wrong_idx {q i N : Nat} (h : q < i) (hi : i < N) (h8 : N ≤ 1000) : (q : Int) < (i : Int) ∧ (q : Int) < (N : Int) ∧ (0 : Int) ≤ (q : Int) ∧ i - (q + 1) < i - q := ⟨by omega, by omega, by omega, by omega⟩
end Go.Proofs.YtmchclpkjjmocaaGreat

namespace Go.Proofs.YtmchclpkjjmocaaGreat
open Go.RowKit
set_option linter.unusedVariables false

theorem exWrong_zero {k : Int} {b : List Nat} {i : Nat} {fr : Bool} (h : exWrong (k, b) i fr = 0) : exKind k = true ∧ exWell k (b.length + 2) = true ∧ (exCount k b.length).getD 0 = exTell k (b.length + 2) := by
  unfold exWrong at h
  dsimp only at h
  obtain ⟨h1, h2⟩ := exCount_well k b.length
  cases hk : exKind k with
  | false => rw [if_pos hk] at h; cases h
  | true =>
    rw [if_neg (by rw [hk]; simp)] at h
    cases hc : (exCount k b.length).isSome with
    | false => rw [if_pos hc] at h; cases h
    | true =>
      rw [h1] at hc
      exact ⟨rfl, hc, h2 hc⟩
theorem exWell_bd {k : Int} {n : Nat} (h : exWell k n = true) : n ≤ 2048 ∧ exTell k n ≤ 255 ∧ (k = 44 → n = 8) ∧ (k = 51 → 8 ≤ n ∧ n ≤ 1028) := by
  unfold exWell at h
  unfold exTell
  by_cases h4 : k = 44
  · rw [if_pos h4] at h ⊢
    have := of_decide_eq_true h
    exact ⟨by omega, by omega, fun _ => this, fun e => absurd (h4.symm.trans e) (by decide)⟩
  · rw [if_neg h4] at h ⊢
    by_cases h5 : k = 51
    · rw [if_pos h5] at h ⊢
      have := of_decide_eq_true h
      exact ⟨by omega, by omega, fun e => absurd e h4, fun _ => ⟨this.2.1, this.2.2⟩⟩
    · rw [if_neg h5] at h ⊢
      have := of_decide_eq_true h
      exact ⟨by omega, by omega, fun e => absurd e h4, fun e => absurd e h5⟩
theorem hadFrag_next {M : List (Int × List Nat)} {j : Nat} {m : Int × List Nat} (h : M[j]? = some m) : hadFrag M (j + 1) = (hadFrag M j || decide (m.1 = 44)) := by
  rw [hadFrag, List.getD_eq_getElem?_getD, h]
  rfl
theorem bytes_next {M : List (Int × List Nat)} {proto : Int} {j : Nat} {k : Int} {bd pre : List Nat} {x y : Nat} (hm : M[j]? = some (k, bd)) (hx : exNext proto (M.drop (j + 1)) = (x : Int)) (hy : (exCount k bd.length).getD 0 = y)
    (h : pre ++ exBytes proto (M.drop j) = exBytes proto M) : (pre ++ [x, y] ++ bd) ++ exBytes proto (M.drop (j + 1)) = exBytes proto M := by
  obtain ⟨h1, h2⟩ := List.getElem?_eq_some_iff.1 hm
  rw [← h, List.drop_eq_getElem_cons h1, h2, exBytes, hx, hy]
  simp
theorem write_byte (z : Int) : ∃ x : Nat, z % 256 = (x : Int) ∧ x < 256 ∧ (0 ≤ z ∧ z ≤ 255 → z = (x : Int)) := ⟨(z % 256).toNat, by omega, by omega, by omega⟩
theorem w_ints {j N : Nat} (h8 : N ≤ 8) (hj : j ≤ N) : (j : Int) ≤ 8 ∧ wrap64 ((j : Int) + 1) = (j : Int) + 1 ∧ (0 : Int) ≤ (j : Int) ∧ (0 : Int) ≤ (j : Int) + 1 := ⟨by omega, by unfold wrap64; omega, by omega, by omega⟩
theorem len_ints {n : Nat} (h : n ≤ 2046) : wrap64 ((n : Int) + 2) = ((n + 2 : Nat) : Int) := by unfold wrap64; omega
theorem div_ints {x : Nat} (h : x ≤ 2048) : wrap64 ((x : Int) / 8) = (x : Int) / 8 ∧ wrap64 ((x : Int) / 4) = (x : Int) / 4 := by unfold wrap64; omega
theorem nx_yes {j N : Nat} (h : j + 1 < N) : (j : Int) + 1 < (N : Int) ∧ ((j : Int) + 1).toNat = j + 1 := ⟨by omega, by omega⟩
theorem nx_no {j N : Nat} (h : ¬ j + 1 < N) : ¬ (j : Int) + 1 < (N : Int) ∧ N ≤ j + 1 := ⟨by omega, by omega⟩
theorem bd_small {n x : Nat} (h : x = n + 2) (h2 : x ≤ 2048) : n ≤ 2046 ∧ 2 ≤ x := by omega
theorem tell_byte {k : Int} {x y : Nat} (h2x : 2 ≤ x) (h4 : k ≠ 44) (hw : exWell k x = true) (hy : y = exTell k x) : (k = 51 → wrap64 ((x : Int) / 4 - 2) % 256 = (y : Int) ∧ ((x : Int) / 4 - 2) % 256 = (y : Int)) ∧ (k ≠ 51 → wrap64 (wrap64 ((x : Int) / 8) - 1) % 256 = (y : Int) ∧ ((x : Int) / 8 - 1) % 256 = (y : Int)) ∧ wrap64 ((x : Int) / 8 - 1) = (x : Int) / 8 - 1 := by
  obtain ⟨h1, h2, _, h3⟩ := exWell_bd hw
  unfold exTell at hy
  unfold exWell at hw
  rw [if_neg h4] at hy hw
  refine ⟨fun h5 => ?_, fun h5 => ?_, by unfold wrap64; omega⟩
  · rw [if_pos h5] at hy hw
    have := of_decide_eq_true hw
    unfold wrap64
    omega
  · rw [if_neg h5] at hy hw
    have := of_decide_eq_true hw
    unfold wrap64
    omega
theorem rex_join (w5 : World) (Ao A3 : Option Addr) (co c3 n p q y : Nat) (pre bd : List Nat) (hn : n = bd.length) (hp : p = pre.length) (ho : Row w5 Ao pre.length pre) (hb : Row w5 A3 bd.length bd) (hq : q < 256) (hy : y < 256) (h1 : pre.length ≤ 20000) (h2 : n ≤ 2046) :
    Calls Tryz.prog 4 #[.slice (some ⟨w5.heap.size + 1, 0, none⟩) 3 3] ((w5.alloc (.cells #[.int .u8 (q : Nat), .int .u8 (y : Nat)] 5)).alloc (.cells #[.slice Ao p co, .slice (some ⟨w5.heap.size, 0, none⟩) 2 2, .slice A3 n c3] 22))
      fun e w' => ∃ v, e = .returned v ∧ OutIs w5.heap.size w' v (pre ++ [q, y] ++ bd) ∧ Below w5.heap.size w5 w' := by
  subst hn hp
  obtain ⟨V, eV⟩ : ∃ V, V = w5.alloc (.cells (bcells [q, y]).toArray 5) := ⟨_, rfl⟩
  have hs : V.heap.size = w5.heap.size + 1 := by rw [eV]; simp
  have r2 : Row V (some ⟨w5.heap.size, 0, none⟩) 2 [q, y] := by rw [eV]; exact (Own.new w5 [q, y]).row (fun z hz => by simp at hz; omega)
  have bV : Below w5.heap.size w5 V := by rw [eV]; exact (Below.refl _ _).alloc (Nat.le_refl _) _
  show Calls Tryz.prog _ _ ((w5.alloc (.cells (bcells [q, y]).toArray 5)).alloc _) _
  rw [← eV, ← hs]
  have hnew := heap_alloc_new V (.cells #[.slice Ao pre.length co, .slice (some ⟨w5.heap.size, 0, none⟩) 2 2, .slice A3 bd.length c3] 22)
  refine (join_three V.heap.size 3 _ co _ 2 _ c3 _ _ _ pre [q, y] bd _ (by rw [cell_of_row _ _ _ _ _ _ hnew]; rfl) (by rw [cell_of_row _ _ _ _ _ _ hnew]; rfl) (by rw [cell_of_row _ _ _ _ _ _ hnew]; rfl) ((ho.below bV).alloc _) (r2.alloc _) ((hb.below bV).alloc _) (by omega)).mono ?_
  rintro e w' ⟨v, he, ho2, hb2⟩
  exact ⟨v, he, ho2.mono (by simp; omega), below_both bV (below_al hb2)⟩
theorem join_byte {pre bd : List Nat} {q y : Nat} (h : ∀ x ∈ pre, x < 256) (hq : q < 256) (hy : y < 256) (hb : ∀ x ∈ bd, x < 256) : ∀ x ∈ pre ++ [q, y] ++ bd, x < 256 := fun z hz => by
  rcases List.mem_append.1 hz with h1 | h1
  · rcases List.mem_append.1 h1 with h2 | h2
    · exact h z h2
    · simp at h2; omega
  · exact hb z h1
theorem pre_len {p j n N : Nat} {pre bd : List Nat} {q y : Nat} (h : pre.length ≤ 2100 * j) (hj : j < N) (h8 : N ≤ 8) (hn : n = bd.length) (h2 : n ≤ 2046) : pre.length ≤ 20000 ∧ (pre ++ [q, y] ++ bd).length ≤ 2100 * (j + 1) := by
  have : 2100 * j ≤ 2100 * 8 := Nat.mul_le_mul_left _ (by omega)
  refine ⟨by omega, ?_⟩
  simp only [List.length_append, List.length_cons, List.length_nil]
  omega
end Go.Proofs.YtmchclpkjjmocaaGreat
