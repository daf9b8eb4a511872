/-
  Plain facts of curves: packets' sizes and times, what comes from one packet to another, the excess up to a packet, the most within a time. Nothing of the program.
-/
import Derived.Test.YtemgnaalmgkfiaaRtPlain
namespace Go.Proofs.Ytemgnaalmgkfiaa
set_option linter.unusedVariables false

/-- A packet: when it comes and how many bytes it has. -/
structure Sm where
  time : Nat
  size : Int
def sm0 : Sm := ⟨0, 0⟩
def smBad (s : Sm) : Bool := decide (s.size < 0 ∨ 65575 < s.size)
/-- The first packet of a size that none has. -/
def cuBad (L : List Sm) : Option Nat := L.findIdx? smBad
def cuGood (L : List Sm) (k : Nat) : Prop := ∀ i, i < k → 0 ≤ (L.getD i sm0).size ∧ (L.getD i sm0).size ≤ 65575
theorem cuGood_zero (L : List Sm) : cuGood L 0 := fun i h => absurd h (by omega)
theorem cuGood_next {L : List Sm} {k : Nat} (h : cuGood L k) (h0 : 0 ≤ (L.getD k sm0).size) (h1 : (L.getD k sm0).size ≤ 65575) : cuGood L (k + 1) := fun i hi => by
  rcases Nat.lt_or_ge i k with h2 | h2
  · exact h i h2
  · obtain rfl : i = k := by omega
    exact ⟨h0, h1⟩
theorem smD_in {L : List Sm} {i : Nat} (h : i < L.length) : L.getD i sm0 = L[i] := by
  rw [List.getD_eq_getElem?_getD, List.getElem?_eq_getElem h]; rfl
theorem cuBad_no {L : List Sm} (h : cuGood L L.length) : cuBad L = none := by
  unfold cuBad
  rw [List.findIdx?_eq_none_iff]
  intro x hx
  obtain ⟨i, hi, rfl⟩ := List.getElem_of_mem hx
  have := h i hi
  rw [smD_in hi] at this
  unfold smBad
  rw [decide_eq_false_iff_not]
  omega
theorem cuBad_yes {L : List Sm} {k : Nat} (hk : k < L.length) (h : cuGood L k) (hb : (L.getD k sm0).size < 0 ∨ 65575 < (L.getD k sm0).size) : cuBad L = some k := by
  unfold cuBad
  rw [List.findIdx?_eq_some_iff_getElem]
  refine ⟨hk, ?_, fun j hj => ?_⟩
  · rw [smD_in hk] at hb
    exact decide_eq_true hb
  · have := h j hj
    rw [smD_in (by omega)] at this
    unfold smBad
    rw [decide_eq_true_iff]
    omega
theorem cuGood_of {L : List Sm} (h : cuBad L = none) : cuGood L L.length := fun i hi => by
  unfold cuBad at h
  rw [List.findIdx?_eq_none_iff] at h
  have := h L[i] (List.getElem_mem hi)
  unfold smBad at this
  rw [decide_eq_false_iff_not] at this
  rw [smD_in hi]
  omega

def smT (L : List Sm) : List Nat := L.map (·.time)
theorem smT_len (L : List Sm) : (smT L).length = L.length := by simp [smT]
theorem smT_get (L : List Sm) (i : Nat) : (smT L).getD i 0 = (L.getD i sm0).time := by
  unfold smT
  rw [List.getD_eq_getElem?_getD, List.getD_eq_getElem?_getD, List.getElem?_map]
  cases L[i]? <;> rfl
/-- The time of a packet, which never goes back. -/
def cuT (L : List Sm) (i : Nat) : Nat := rtMax (smT L) (i + 1)
theorem cuT_mono (L : List Sm) {i j : Nat} (h : i ≤ j) : cuT L i ≤ cuT L j := rtMax_mono _ (by omega)
def cuS (L : List Sm) (i : Nat) : Nat := (L.getD i sm0).size.toNat
/-- The bytes of the first k. -/
def cuTo (L : List Sm) : Nat → Nat
  | 0 => 0
  | k + 1 => cuTo L k + cuS L k
theorem cuTo_mono (L : List Sm) : ∀ {i j : Nat}, i ≤ j → cuTo L i ≤ cuTo L j
  | i, 0, h => by obtain rfl : i = 0 := by omega
                  exact Nat.le_refl _
  | i, j + 1, h => by
    rcases Nat.lt_or_ge i (j + 1) with h1 | h1
    · exact Nat.le_trans (cuTo_mono L (by omega : i ≤ j)) (Nat.le_add_right _ _)
    · obtain rfl : i = j + 1 := by omega
      exact Nat.le_refl _
theorem cuS_le {L : List Sm} {n i : Nat} (h : cuGood L n) (hi : i < n) : cuS L i ≤ 65575 := by have := h i hi; unfold cuS; omega
theorem cuTo_le {L : List Sm} {n : Nat} (h : cuGood L n) : ∀ k, k ≤ n → cuTo L k ≤ 65575 * k
  | 0, _ => Nat.zero_le _
  | k + 1, hk => by
    have h1 := cuTo_le h k (by omega)
    have h2 := cuS_le h (by omega : k < n)
    show cuTo L k + cuS L k ≤ _
    omega
/-- How much more than a rate lets go comes from one packet to another one, in billionths of bytes; 0, if no more. -/
def cuOver (L : List Sm) (r i j : Nat) : Nat := 1000000000 * (cuTo L (j + 1) - cuTo L i) - r * (cuT L j - cuT L i)
/-- The greatest excess from any packet to this one. -/
def cuExc (L : List Sm) (r : Nat) : Nat → Nat
  | 0 => 1000000000 * cuS L 0
  | j + 1 => (cuExc L r j - r * (cuT L (j + 1) - cuT L j)) + 1000000000 * cuS L (j + 1)
theorem cuOver_self (L : List Sm) (r j : Nat) : cuOver L r j j = 1000000000 * cuS L j := by
  unfold cuOver
  rw [show cuTo L (j + 1) - cuTo L j = cuS L j from by show cuTo L j + cuS L j - cuTo L j = _; omega, Nat.sub_self, Nat.mul_zero, Nat.sub_zero]
theorem cuOver_next (L : List Sm) (r : Nat) {i j : Nat} (h : i ≤ j) : cuOver L r i (j + 1) = 1000000000 * (cuTo L (j + 1) - cuTo L i) + 1000000000 * cuS L (j + 1) - (r * (cuT L j - cuT L i) + r * (cuT L (j + 1) - cuT L j)) := by
  unfold cuOver
  have h1 := cuTo_mono L (by omega : i ≤ j + 1)
  have h2 := cuT_mono L h
  have h3 := cuT_mono L (by omega : j ≤ j + 1)
  rw [← Nat.mul_add, ← Nat.mul_add, show cuTo L (j + 1 + 1) - cuTo L i = cuTo L (j + 1) - cuTo L i + cuS L (j + 1) from by show cuTo L (j + 1) + cuS L (j + 1) - cuTo L i = _; omega, show cuT L (j + 1) - cuT L i = cuT L j - cuT L i + (cuT L (j + 1) - cuT L j) from by omega]
theorem cuExc_ge (L : List Sm) (r : Nat) : ∀ (j : Nat) {i : Nat}, i ≤ j → cuOver L r i j ≤ cuExc L r j
  | 0, i, h => by
    obtain rfl : i = 0 := by omega
    rw [cuOver_self]
    exact Nat.le_refl _
  | j + 1, i, h => by
    show _ ≤ cuExc L r j - r * (cuT L (j + 1) - cuT L j) + 1000000000 * cuS L (j + 1)
    rcases Nat.lt_or_ge i (j + 1) with h1 | h1
    · have h2 := cuExc_ge L r j (by omega : i ≤ j)
      rw [cuOver_next L r (by omega : i ≤ j)]
      unfold cuOver at h2
      omega
    · obtain rfl : i = j + 1 := by omega
      rw [cuOver_self]
      omega
theorem cuExc_has (L : List Sm) (r : Nat) : ∀ j : Nat, ∃ i, i ≤ j ∧ cuOver L r i j = cuExc L r j
  | 0 => ⟨0, Nat.le_refl _, cuOver_self L r 0⟩
  | j + 1 => by
    obtain ⟨i, hi, he⟩ := cuExc_has L r j
    by_cases h : r * (cuT L (j + 1) - cuT L j) < cuExc L r j
    · refine ⟨i, by omega, ?_⟩
      rw [cuOver_next L r hi]
      show _ = cuExc L r j - r * (cuT L (j + 1) - cuT L j) + 1000000000 * cuS L (j + 1)
      unfold cuOver at he
      omega
    · refine ⟨j + 1, Nat.le_refl _, ?_⟩
      rw [cuOver_self]
      show _ = cuExc L r j - r * (cuT L (j + 1) - cuT L j) + 1000000000 * cuS L (j + 1)
      omega
theorem cuExc_le {L : List Sm} (r : Nat) : ∀ j, cuExc L r j ≤ 1000000000 * cuTo L (j + 1)
  | 0 => by show _ ≤ 1000000000 * (0 + cuS L 0); show 1000000000 * cuS L 0 ≤ _; omega
  | j + 1 => by
    have h := cuExc_le (L := L) r j
    show cuExc L r j - r * (cuT L (j + 1) - cuT L j) + 1000000000 * cuS L (j + 1) ≤ 1000000000 * (cuTo L (j + 1) + cuS L (j + 1))
    omega

/-- The first two packets between which more comes than a burst. -/
def BrkIs (L : List Sm) (r b i j : Nat) : Prop := i ≤ j ∧ b < cuOver L r i j ∧ (∀ i', i' < i → ¬ b < cuOver L r i' j) ∧ ∀ j', j' < j → ¬ b < cuExc L r j'
theorem brk_same {L : List Sm} {r b i j i' j' : Nat} (h : BrkIs L r b i j) (h' : BrkIs L r b i' j') : i = i' ∧ j = j' := by
  obtain ⟨h1, h2, h3, h4⟩ := h
  obtain ⟨g1, g2, g3, g4⟩ := h'
  have hj : j = j' := by
    rcases Nat.lt_trichotomy j j' with e | e | e
    · exact absurd (Nat.lt_of_lt_of_le h2 (cuExc_ge L r j h1)) (g4 j e)
    · exact e
    · exact absurd (Nat.lt_of_lt_of_le g2 (cuExc_ge L r j' g1)) (h4 j' e)
  subst hj
  refine ⟨?_, rfl⟩
  rcases Nat.lt_trichotomy i i' with e | e | e
  · exact absurd h2 (g3 i e)
  · exact e
  · exact absurd g2 (h3 i' e)
theorem brk_none {L : List Sm} {r b n i j : Nat} (h : ∀ k, k < n → ¬ b < cuExc L r k) (h' : BrkIs L r b i j) (hj : j < n) : False :=
  h j hj (Nat.lt_of_lt_of_le h'.2.1 (cuExc_ge L r j h'.1))
/-- The greatest one of the first k excesses. -/
def cuMost (L : List Sm) (r : Nat) : Nat → Nat
  | 0 => 0
  | k + 1 => max (cuMost L r k) (cuExc L r k)
theorem cuMost_ge (L : List Sm) (r : Nat) : ∀ {k j : Nat}, j < k → cuExc L r j ≤ cuMost L r k
  | 0, j, h => absurd h (by omega)
  | k + 1, j, h => by
    show _ ≤ max _ _
    rcases Nat.lt_or_ge j k with h1 | h1
    · have := cuMost_ge L r h1
      omega
    · obtain rfl : j = k := by omega
      omega
theorem cuMost_le {L : List Sm} {r B : Nat} : ∀ {k : Nat}, (∀ j, j < k → cuExc L r j ≤ B) → cuMost L r k ≤ B
  | 0, _ => Nat.zero_le _
  | k + 1, h => by
    have h1 := cuMost_le (k := k) (fun j hj => h j (by omega))
    have h2 := h k (by omega)
    show max _ _ ≤ _
    omega
theorem cuMost_has (L : List Sm) (r : Nat) : ∀ {k : Nat}, 0 < cuMost L r k → ∃ j, j < k ∧ cuExc L r j = cuMost L r k
  | 0, h => absurd h (Nat.lt_irrefl 0)
  | k + 1, h => by
    rcases Nat.le_total (cuMost L r k) (cuExc L r k) with h1 | h1
    · exact ⟨k, by omega, (Nat.max_eq_right h1).symm⟩
    · have e : cuMost L r (k + 1) = cuMost L r k := Nat.max_eq_left h1
      rw [e] at h ⊢
      obtain ⟨j, hj, hj2⟩ := cuMost_has L r h
      exact ⟨j, by omega, hj2⟩
/-- The greatest one of m, over(0, j) .. over(k - 1, j). -/
def cuUp (L : List Sm) (r j m : Nat) : Nat → Nat
  | 0 => m
  | k + 1 => max (cuUp L r j m k) (cuOver L r k j)
theorem cuUp_le {L : List Sm} {r j m B : Nat} (hm : m ≤ B) : ∀ {k : Nat}, (∀ i, i < k → cuOver L r i j ≤ B) → cuUp L r j m k ≤ B
  | 0, _ => hm
  | k + 1, h => by
    have h1 := cuUp_le (j := j) hm (k := k) (fun i hi => h i (by omega))
    have h2 := h k (by omega)
    show max _ _ ≤ _
    omega
theorem cuUp_ge (L : List Sm) (r j m : Nat) : ∀ (k : Nat), m ≤ cuUp L r j m k ∧ ∀ i, i < k → cuOver L r i j ≤ cuUp L r j m k
  | 0 => ⟨Nat.le_refl _, fun i h => absurd h (by omega)⟩
  | k + 1 => by
    obtain ⟨h1, h2⟩ := cuUp_ge L r j m k
    refine ⟨Nat.le_trans h1 (Nat.le_max_left _ _), fun i hi => ?_⟩
    show _ ≤ max _ _
    rcases Nat.lt_or_ge i k with e | e
    · have := h2 i e
      omega
    · obtain rfl : i = k := by omega
      omega
theorem cuUp_all (L : List Sm) (r j : Nat) : cuUp L r j (cuMost L r j) (j + 1) = cuMost L r (j + 1) := by
  apply Nat.le_antisymm
  · refine cuUp_le (Nat.le_max_left _ _) fun i hi => ?_
    exact Nat.le_trans (cuExc_ge L r j (by omega : i ≤ j)) (Nat.le_max_right _ _)
  · obtain ⟨h1, h2⟩ := cuUp_ge L r j (cuMost L r j) (j + 1)
    obtain ⟨i, hi, he⟩ := cuExc_has L r j
    have := h2 i (by omega)
    show max _ _ ≤ _
    omega
/-- The least burst: the greatest excess in bytes, a part of a byte as a whole one. -/
def cuBurst (m : Nat) : Nat := m / 1000000000 + if 0 < m % 1000000000 then 1 else 0
theorem cuBurst_ge (m : Nat) : m ≤ cuBurst m * 1000000000 := by unfold cuBurst; split <;> omega

/-! The most bytes within a time. -/
/-- Two packets that lie within a time. -/
def PkIn (L : List Sm) (w a b : Nat) : Prop := a ≤ b ∧ b < L.length ∧ cuT L b - cuT L a ≤ w
def pkSum (L : List Sm) (a b : Nat) : Nat := cuTo L (b + 1) - cuTo L a
/-- The most that comes within a time. -/
def PkIs (L : List Sm) (w m : Nat) : Prop := (∀ a b, PkIn L w a b → pkSum L a b ≤ m) ∧ (m = 0 ∨ ∃ a b, PkIn L w a b ∧ pkSum L a b = m)
theorem pk_same {L : List Sm} {w m m' : Nat} (h : PkIs L w m) (h' : PkIs L w m') : m = m' := by
  apply Nat.le_antisymm
  · rcases h.2 with e | ⟨a, b, hi, e⟩
    · omega
    · rw [← e]; exact h'.1 a b hi
  · rcases h'.2 with e | ⟨a, b, hi, e⟩
    · omega
    · rw [← e]; exact h.1 a b hi
theorem pk_mono {L : List Sm} {w w' m m' : Nat} (hw : w ≤ w') (h : PkIs L w m) (h' : PkIs L w' m') : m ≤ m' := by
  rcases h.2 with e | ⟨a, b, hi, e⟩
  · omega
  · rw [← e]; exact h'.1 a b ⟨hi.1, hi.2.1, Nat.le_trans hi.2.2 hw⟩
theorem pk_all {L : List Sm} {w m : Nat} (hT : ∀ i, cuT L i ≤ w) (h : PkIs L w m) : m = cuTo L L.length := by
  apply Nat.le_antisymm
  · rcases h.2 with e | ⟨a, b, hi, e⟩
    · omega
    · rw [← e]
      have := cuTo_mono L (by have := hi.2.1; omega : b + 1 ≤ L.length)
      unfold pkSum
      omega
  · rcases Nat.eq_zero_or_pos L.length with e | e
    · rw [e]; exact Nat.zero_le _
    · have := h.1 0 (L.length - 1) ⟨Nat.zero_le _, by omega, by have := hT (L.length - 1); omega⟩
      unfold pkSum at this
      rw [show L.length - 1 + 1 = L.length from by omega] at this
      simpa [cuTo] using this
theorem pk_curve {L : List Sm} {w m r : Nat} (h : PkIs L w m) : m * 1000000000 ≤ cuBurst (cuMost L r L.length) * 1000000000 + r * w := by
  rcases h.2 with e | ⟨a, b, hi, e⟩
  · rw [e]; omega
  · have h1 := cuExc_ge L r b hi.1
    have h2 := cuMost_ge L r hi.2.1
    have h3 := cuBurst_ge (cuMost L r L.length)
    have h4 : r * (cuT L b - cuT L a) ≤ r * w := Nat.mul_le_mul_left _ hi.2.2
    unfold cuOver at h1
    unfold pkSum at e
    rw [e] at h1
    omega
end Go.Proofs.Ytemgnaalmgkfiaa
