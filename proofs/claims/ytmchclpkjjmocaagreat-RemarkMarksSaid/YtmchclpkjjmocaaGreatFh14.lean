/-
  Plain facts of headers that were written, sealed, and turned in one bit. Nothing of the program.
  Plain facts of what is wrong with headers, and of a sealed header with one bit turned. Nothing of the program.
  What the fields of a header that came in are written as: bytes; and equality of such fields.
-/
import Derived.Test.YtmchclpkjjmocaaGreatFh13
namespace Go.Proofs.YtmchclpkjjmocaaGreat
set_option linter.unusedVariables false

/-- One byte turned into another: what the sum becomes. -/
theorem wsum_turn (l : List Nat) (p k y : Nat) (h : k < l.length) : wsum p (l.set k y) + (if (p + k) % 2 = 0 then 256 * l.getD k 0 else l.getD k 0) = wsum p l + (if (p + k) % 2 = 0 then 256 * y else y) := by
  induction l generalizing p k with
  | nil => simp at h
  | cons x l ih =>
    cases k with
    | zero => simp only [List.set_cons_zero, wsum, Nat.add_zero, List.getD_cons_zero]; split <;> omega
    | succ k =>
      have e := ih (p + 1) k (by simpa using h)
      rw [show p + 1 + k = p + (k + 1) by omega] at e
      simp only [List.set_cons_succ, wsum, List.getD_cons_succ]
      omega
/-- A bit of a byte turned. -/
def xorBit (x j : Nat) : Nat := x ^^^ 2 ^ j
set_option maxRecDepth 100000 in
theorem xorBit_is : ∀ x : Fin 256, ∀ j : Fin 8, xorBit x.1 j.1 = x.1 + 2 ^ j.1 ∨ (2 ^ j.1 ≤ x.1 ∧ xorBit x.1 j.1 + 2 ^ j.1 = x.1) := by decide
set_option maxRecDepth 100000 in
theorem xorBit_lt : ∀ x : Fin 256, ∀ j : Fin 8, xorBit x.1 j.1 < 256 := by decide
theorem two_pows {j : Nat} (h : j < 8) : (2 : Nat) ^ j = 1 ∨ (2 : Nat) ^ j = 2 ∨ (2 : Nat) ^ j = 4 ∨ (2 : Nat) ^ j = 8 ∨ (2 : Nat) ^ j = 16 ∨ (2 : Nat) ^ j = 32 ∨ (2 : Nat) ^ j = 64 ∨ (2 : Nat) ^ j = 128 := by
  match j, h with
  | 0, _ => decide
  | 1, _ => decide
  | 2, _ => decide
  | 3, _ => decide
  | 4, _ => decide
  | 5, _ => decide
  | 6, _ => decide
  | 7, _ => decide
/-- Good bytes with one bit turned are not good. -/
theorem turned_bad (l : List Nat) (k j : Nat) (h : k < l.length) (hb : l.getD k 0 < 256) (hj : j < 8) (hg : orest (wsum 0 l) = 65535) : orest (wsum 0 (l.set k (xorBit (l.getD k 0) j))) ≠ 65535 := by
  have e := wsum_turn l 0 k (xorBit (l.getD k 0) j) h
  have hx := xorBit_is ⟨_, hb⟩ ⟨j, hj⟩
  have hl := xorBit_lt ⟨_, hb⟩ ⟨j, hj⟩
  have ht := two_pows hj
  simp only at hx hl
  rw [orest_full] at hg
  intro hc
  rw [orest_full] at hc
  generalize l.getD k 0 = x at *
  generalize xorBit x j = y at *
  generalize (2 : Nat) ^ j = t at *
  generalize wsum 0 l = a at *
  generalize wsum 0 (l.set k y) = b at *
  clear h hj
  have key : ∃ u, (u = t ∨ u = 256 * t) ∧ (b = a + u ∨ b + u = a) := by
    split at e
    · exact ⟨256 * t, .inr rfl, by omega⟩
    · exact ⟨t, .inl rfl, by omega⟩
  obtain ⟨u, hu, hab⟩ := key
  have hu2 : 0 < u ∧ u < 65535 := by omega
  omega
theorem getD_byte {l : List Nat} (h : ∀ x ∈ l, x < 256) (k : Nat) : l.getD k 0 < 256 := by
  rcases Nat.lt_or_ge k l.length with hk | hk
  · rw [List.getD_eq_getElem?_getD, List.getElem?_eq_getElem hk]; exact h _ (List.getElem_mem hk)
  · rw [getD_beyond l k hk]; decide
/-- The fields of bytes as a value of its own. -/
def fourOf (bs : List Nat) : FourV :=
  ⟨(bs.getD 0 0 % 16 : Nat), (bs.getD 1 0 : Nat), (fhw bs 2 : Nat), (fhw bs 4 : Nat), (bs.getD 6 0 / 32 : Nat), (fhw bs 6 % 8192 : Nat), (bs.getD 8 0 : Nat), (bs.getD 9 0 : Nat), (fhw bs 10 : Nat),
    [bs.getD 12 0, bs.getD 13 0, bs.getD 14 0, bs.getD 15 0], [bs.getD 16 0, bs.getD 17 0, bs.getD 18 0, bs.getD 19 0]⟩
theorem fourOf_cells (bs : List Nat) : (fourOf bs).cells = fhf bs := rfl
theorem fourOf_fits {bs : List Nat} (h : ∀ k, bs.getD k 0 < 256) (h5 : 5 ≤ bs.getD 0 0 % 16) : (fourOf bs).fits := fun k hk => by
  have w2 := fhw_lt h 2
  have w4 := fhw_lt h 4
  have w10 := fhw_lt h 10
  have h1 := h 1
  have h6 := h 6
  have h8 := h 8
  have h9 := h 9
  unfold FourV.okAt
  match k, hk with
  | 0, _ => show (5 : Int) ≤ ((bs.getD 0 0 % 16 : Nat) : Int) ∧ ((bs.getD 0 0 % 16 : Nat) : Int) ≤ 15; omega
  | 1, _ => show (0 : Int) ≤ ((bs.getD 1 0 : Nat) : Int) ∧ ((bs.getD 1 0 : Nat) : Int) ≤ 255; omega
  | 2, _ => show (0 : Int) ≤ ((fhw bs 2 : Nat) : Int) ∧ ((fhw bs 2 : Nat) : Int) ≤ 65535; omega
  | 3, _ => show (0 : Int) ≤ ((fhw bs 4 : Nat) : Int) ∧ ((fhw bs 4 : Nat) : Int) ≤ 65535; omega
  | 4, _ => show (0 : Int) ≤ ((bs.getD 6 0 / 32 : Nat) : Int) ∧ ((bs.getD 6 0 / 32 : Nat) : Int) ≤ 7; omega
  | 5, _ => show (0 : Int) ≤ ((fhw bs 6 % 8192 : Nat) : Int) ∧ ((fhw bs 6 % 8192 : Nat) : Int) ≤ 8191; omega
  | 6, _ => show (0 : Int) ≤ ((bs.getD 8 0 : Nat) : Int) ∧ ((bs.getD 8 0 : Nat) : Int) ≤ 255; omega
  | 7, _ => show (0 : Int) ≤ ((bs.getD 9 0 : Nat) : Int) ∧ ((bs.getD 9 0 : Nat) : Int) ≤ 255; omega
  | 8, _ => show (0 : Int) ≤ ((fhw bs 10 : Nat) : Int) ∧ ((fhw bs 10 : Nat) : Int) ≤ 65535; omega
theorem take_twenty {bs : List Nat} (h : 20 ≤ bs.length) : bs.take 20 = [bs.getD 0 0, bs.getD 1 0, bs.getD 2 0, bs.getD 3 0, bs.getD 4 0, bs.getD 5 0, bs.getD 6 0, bs.getD 7 0, bs.getD 8 0, bs.getD 9 0, bs.getD 10 0, bs.getD 11 0, bs.getD 12 0, bs.getD 13 0, bs.getD 14 0, bs.getD 15 0, bs.getD 16 0, bs.getD 17 0, bs.getD 18 0, bs.getD 19 0] := by
  refine List.ext_getElem (by rw [List.length_take]; simp; omega) fun i h1 h2 => ?_
  have hi : i < 20 := by rw [List.length_take] at h1; omega
  rw [List.getElem_take]
  have e : ∀ j, (hj : j < bs.length) → bs[j] = bs.getD j 0 := fun j hj => by rw [List.getD_eq_getElem?_getD, List.getElem?_eq_getElem hj]; rfl
  rw [e i (by omega)]
  rcases (by omega : i = 0 ∨ i = 1 ∨ i = 2 ∨ i = 3 ∨ i = 4 ∨ i = 5 ∨ i = 6 ∨ i = 7 ∨ i = 8 ∨ i = 9 ∨ i = 10 ∨ i = 11 ∨ i = 12 ∨ i = 13 ∨ i = 14 ∨ i = 15 ∨ i = 16 ∨ i = 17 ∨ i = 18 ∨ i = 19) with
    rfl | rfl | rfl | rfl | rfl | rfl | rfl | rfl | rfl | rfl | rfl | rfl | rfl | rfl | rfl | rfl | rfl | rfl | rfl | rfl <;> rfl
/-- What the fields are written as is what the bytes began with. -/
theorem fourOf_bytes {bs : List Nat} {m : Nat} (h : ∀ k, bs.getD k 0 < 256) (h4 : bs.getD 0 0 / 16 = 4) (hm : 20 ≤ m) (hmn : m ≤ bs.length) : (fourOf bs).bytes ((bs.drop 20).take (m - 20)) = bs.take m := by
  have e : bs.take m = bs.take 20 ++ (bs.drop 20).take (m - 20) := by
    have := List.take_add (l := bs) (i := 20) (j := m - 20)
    rw [show 20 + (m - 20) = m by omega] at this
    exact this
  rw [e, take_twenty (by omega)]
  have q0 := h 0
  have q2 := h 2
  have q3 := h 3
  have q4 := h 4
  have q5 := h 5
  have q6 := h 6
  have q7 := h 7
  have q10 := h 10
  have q11 := h 11
  have z : head12 (bs.getD 0 0 % 16) (bs.getD 1 0) (fhw bs 2) (fhw bs 4) (bs.getD 6 0 / 32) (fhw bs 6 % 8192) (bs.getD 8 0) (bs.getD 9 0) (fhw bs 10) = [bs.getD 0 0, bs.getD 1 0, bs.getD 2 0, bs.getD 3 0, bs.getD 4 0, bs.getD 5 0, bs.getD 6 0, bs.getD 7 0, bs.getD 8 0, bs.getD 9 0, bs.getD 10 0, bs.getD 11 0] := by
    unfold head12 fhw
    simp only [Nat.reduceAdd]
    rw [show 64 + bs.getD 0 0 % 16 = bs.getD 0 0 by omega, show (bs.getD 2 0 * 256 + bs.getD 3 0) / 256 = bs.getD 2 0 by omega, show (bs.getD 2 0 * 256 + bs.getD 3 0) % 256 = bs.getD 3 0 by omega,
      show (bs.getD 4 0 * 256 + bs.getD 5 0) / 256 = bs.getD 4 0 by omega, show (bs.getD 4 0 * 256 + bs.getD 5 0) % 256 = bs.getD 5 0 by omega,
      show bs.getD 6 0 / 32 * 32 + (bs.getD 6 0 * 256 + bs.getD 7 0) % 8192 / 256 = bs.getD 6 0 by omega, show (bs.getD 6 0 * 256 + bs.getD 7 0) % 8192 % 256 = bs.getD 7 0 by omega,
      show (bs.getD 10 0 * 256 + bs.getD 11 0) / 256 = bs.getD 10 0 by omega, show (bs.getD 10 0 * 256 + bs.getD 11 0) % 256 = bs.getD 11 0 by omega]
  show head12 (bs.getD 0 0 % 16) (bs.getD 1 0) (fhw bs 2) (fhw bs 4) (bs.getD 6 0 / 32) (fhw bs 6 % 8192) (bs.getD 8 0) (bs.getD 9 0) (fhw bs 10) ++ _ ++ _ ++ _ = _
  rw [z]
  rfl
/-- Bytes that begin with what some fields are written as are read as these. -/
theorem written_read {f : FourV} (hf : f.fits) (hs : f.src.length = 4) (hd : f.dst.length = 4) (os more : List Nat) (ho : (os.length : Int) = 4 * f.k0 - 20) :
    fhf (f.bytes os ++ more) = f.cells ∧ fhdef (f.bytes os ++ more).length (f.bytes os ++ more) = 0 ∧ ((f.bytes os).length : Int) = 4 * f.k0 := by
  obtain ⟨⟨l0, u0⟩, ⟨l1, u1⟩, ⟨l2, u2⟩, ⟨l3, u3⟩, ⟨l4, u4⟩, ⟨l5, u5⟩, ⟨l6, u6⟩, ⟨l7, u7⟩, ⟨l8, u8⟩⟩ := FourV.fits_all hf
  obtain ⟨k0, k1, k2, k3, k4, k5, k6, k7, k8, src, dst⟩ := f
  simp only at l0 u0 l1 u1 l2 u2 l3 u3 l4 u4 l5 u5 l6 u6 l7 u7 l8 u8 hs hd ho
  obtain ⟨a0, rfl⟩ := Int.eq_ofNat_of_zero_le (show 0 ≤ k0 by omega)
  obtain ⟨a1, rfl⟩ := Int.eq_ofNat_of_zero_le l1
  obtain ⟨a2, rfl⟩ := Int.eq_ofNat_of_zero_le l2
  obtain ⟨a3, rfl⟩ := Int.eq_ofNat_of_zero_le l3
  obtain ⟨a4, rfl⟩ := Int.eq_ofNat_of_zero_le l4
  obtain ⟨a5, rfl⟩ := Int.eq_ofNat_of_zero_le l5
  obtain ⟨a6, rfl⟩ := Int.eq_ofNat_of_zero_le l6
  obtain ⟨a7, rfl⟩ := Int.eq_ofNat_of_zero_le l7
  obtain ⟨a8, rfl⟩ := Int.eq_ofNat_of_zero_le l8
  match src, hs, dst, hd with
  | [s0, s1, s2, s3], _, [d0, d1, d2, d3], _ =>
    obtain ⟨L, hL⟩ : ∃ L, L = (FourV.mk a0 a1 a2 a3 a4 a5 a6 a7 a8 [s0, s1, s2, s3] [d0, d1, d2, d3]).bytes os ++ more := ⟨_, rfl⟩
    have hx : L = (64 + a0) :: a1 :: (a2 / 256) :: (a2 % 256) :: (a3 / 256) :: (a3 % 256) :: (a4 * 32 + a5 / 256) :: (a5 % 256) :: a6 :: a7 :: (a8 / 256) :: (a8 % 256) :: s0 :: s1 :: s2 :: s3 :: d0 :: d1 :: d2 :: d3 :: (os ++ more) := hL
    have hl : L.length = 20 + os.length + more.length := by rw [hx]; simp only [List.length_cons, List.length_append]; omega
    have hl2 : ((FourV.mk a0 a1 a2 a3 a4 a5 a6 a7 a8 [s0, s1, s2, s3] [d0, d1, d2, d3]).bytes os).length = 20 + os.length := by
      have h := congrArg List.length hL
      rw [List.length_append] at h
      omega
    have g0 : L.getD 0 0 = 64 + a0 := by rw [hx]; rfl
    have w2 : fhw L 2 = a2 := by rw [hx]; show a2 / 256 * 256 + a2 % 256 = a2; omega
    have w4 : fhw L 4 = a3 := by rw [hx]; show a3 / 256 * 256 + a3 % 256 = a3; omega
    have w6 : fhw L 6 % 8192 = a5 := by rw [hx]; show ((a4 * 32 + a5 / 256) * 256 + a5 % 256) % 8192 = a5; omega
    have g6 : L.getD 6 0 / 32 = a4 := by rw [hx]; show (a4 * 32 + a5 / 256) / 32 = a4; omega
    have w10 : fhw L 10 = a8 := by rw [hx]; show a8 / 256 * 256 + a8 % 256 = a8; omega
    have g0m : L.getD 0 0 % 16 = a0 := by rw [g0]; omega
    refine ⟨?_, ?_, ?_⟩
    · rw [← hL]
      unfold fhf
      rw [w2, w4, w6, g6, w10, g0m, hx]
      rfl
    · rw [← hL]
      unfold fhdef
      rw [if_neg (by omega), g0, if_neg (by omega), if_neg (by omega), if_neg (by omega), if_neg (by omega)]
    · rw [hl2]
      show ((20 + os.length : Nat) : Int) = 4 * (a0 : Int)
      omega
/-- A sealed header differs in its sum alone. -/
theorem sealed_self {bs : List Nat} {n m : Nat} (hl : bs.length = n) (hb : ∀ x ∈ bs, x < 256) (hm : 20 ≤ m) (hmn : m ≤ n) : Sealed n m bs (bs.getD 1 0) (fhseal bs m) := by
  have e : bs.set 1 (bs.getD 1 0) = bs := by
    refine list_getD_ext (by simp) fun i => ?_
    rw [fhput_getD _ _ _ (by omega)]
    by_cases h1 : i = 1
    · rw [if_pos h1, h1]
    · rw [if_neg h1]
  have h := sealed_is hl hb hm hmn (getD_byte hb 1)
  rw [e] at h
  exact h
theorem Sealed.sum_back {n m : Nat} {bs S : List Nat} (h : Sealed n m bs (bs.getD 1 0) S) : (fhf S).set 8 (.int .i64 (fhw bs 10 : Nat)) = fhf bs := by
  rw [h.fields]
  rfl
theorem fhseal_good {bs : List Nat} {m : Nat} (hm : 12 ≤ m) (hmn : m ≤ bs.length) : orest (wsum 0 ((fhseal bs m).take m)) = 65535 := by
  have hl : (filled (bs.take m) 10).length = m := by rw [filled_length (by rw [List.length_take]; omega), List.length_take]; omega
  unfold fhseal
  rw [List.take_left' hl]
  exact filled_good (by decide) (by rw [List.length_take]; omega)
theorem fhseal_same (L : List Nat) (n m i : Nat) (hl : L.length = n) (hm : 12 ≤ m) (hmn : m ≤ n) (hi : i < 10 ∨ 12 ≤ i) : (fhseal L m).getD i 0 = L.getD i 0 := by
  rcases Nat.lt_or_ge i m with h | h
  · exact fhseal_out L n m i hl hm hmn hi h
  · have hf : (filled (L.take m) 10).length = m := by rw [filled_length (by rw [List.length_take]; omega), List.length_take]; omega
    unfold fhseal
    rw [List.getD_eq_getElem?_getD, List.getElem?_append_right (by omega), hf, List.getElem?_drop, show m + (i - m) = i by omega, ← List.getD_eq_getElem?_getD]
/-- What is wrong with a header rises, and the sum is among it just where it is not good. -/
theorem fhbad_asc (n m : Nat) (bs : List Nat) (a b : Bool) : (fhbad n m bs a b).Pairwise (· < ·) := by
  unfold fhbad
  generalize decide (fhw bs 2 < m) = c1
  generalize decide (n < fhw bs 2) = c2
  generalize decide (m ≤ fhw bs 2 ∧ 65535 < 8 * (fhw bs 6 % 8192) + fhw bs 2 - m) = c3
  cases c1 <;> cases c2 <;> cases c3 <;> cases a <;> cases b <;> decide
theorem fhbad_nine (n m : Nat) (bs : List Nat) (a b : Bool) : 9 ∈ fhbad n m bs a b ↔ b = false := by
  unfold fhbad
  generalize decide (fhw bs 2 < m) = c1
  generalize decide (n < fhw bs 2) = c2
  generalize decide (m ≤ fhw bs 2 ∧ 65535 < 8 * (fhw bs 6 % 8192) + fhw bs 2 - m) = c3
  cases c1 <;> cases c2 <;> cases c3 <;> cases a <;> cases b <;> decide
end Go.Proofs.YtmchclpkjjmocaaGreat

namespace Go.Proofs.YtmchclpkjjmocaaGreat
set_option linter.unusedVariables false

theorem fhall_bad_is {n : Nat} {bs : List Nat} (h : fhdef n bs ≠ 0) : fhall n bs = [fhdef n bs] := by unfold fhall; rw [if_neg h]
theorem fhall_asc (n : Nat) (bs : List Nat) : (fhall n bs).Pairwise (· < ·) := by
  unfold fhall
  split
  · exact fhbad_asc _ _ _ _ _
  · simp
theorem fhall_len (n : Nat) (bs : List Nat) : (fhall n bs).length ≤ 5 := by
  unfold fhall
  split
  · exact fhbad_len _ _ _ _ _
  · simp
theorem fhall_nine {n : Nat} {bs : List Nat} (h : fhdef n bs = 0) : 9 ∈ fhall n bs ↔ orest (wsum 0 (bs.take (4 * (bs.getD 0 0 % 16)))) ≠ 65535 := by
  unfold fhall
  rw [if_pos h, fhbad_nine]
  simp
/-- What a header that is read has. -/
theorem fhdef_zero {n : Nat} {bs : List Nat} (hd : fhdef n bs = 0) : n ≠ 0 ∧ bs.getD 0 0 / 16 = 4 ∧ ¬ n < 20 ∧ ¬ bs.getD 0 0 % 16 < 5 ∧ ¬ n < 4 * (bs.getD 0 0 % 16) := by
  unfold fhdef at hd
  split at hd
  · cases hd
  split at hd
  · cases hd
  split at hd
  · cases hd
  split at hd
  · cases hd
  split at hd
  · cases hd
  exact ⟨by assumption, Decidable.of_not_not (by assumption), by assumption, by assumption, by assumption⟩
theorem getD_set_self (l : List Nat) (k x : Nat) (h : k < l.length) : (l.set k x).getD k 0 = x := by
  simp [List.getD_eq_getElem?_getD, h]
theorem getD_set_far (l : List Nat) (k i x : Nat) (h : i ≠ k) : (l.set k x).getD i 0 = l.getD i 0 := by
  simp [List.getD_eq_getElem?_getD, List.getElem?_set_ne (Ne.symm h)]
theorem getD_take {l : List Nat} {k m : Nat} (h : k < m) : (l.take m).getD k 0 = l.getD k 0 := by
  simp [List.getD_eq_getElem?_getD, List.getElem?_take_of_lt h]
/-- A sealed header with one bit turned: it is read alike where the first byte is as it was; and where it is read alike its sum is wrong. -/
theorem turned_ranks {bs : List Nat} {n y k j : Nat} (hl : bs.length = n) (hb : ∀ x ∈ bs, x < 256) (hd : fhdef n bs = 0) (hy : y = bs.getD 0 0 % 16) (hk : k < 4 * y) (hj : j < 8) (S : List Nat) (hS : S = fhseal bs (4 * y)) :
    (k ≠ 0 → fhdef n (S.set k (xorBit (S.getD k 0) j)) = 0 ∧ (S.set k (xorBit (S.getD k 0) j)).getD 0 0 % 16 = y) ∧
    (fhdef n (S.set k (xorBit (S.getD k 0) j)) = 0 → (S.set k (xorBit (S.getD k 0) j)).getD 0 0 % 16 = y → 9 ∈ fhall n (S.set k (xorBit (S.getD k 0) j))) ∧ xorBit (S.getD k 0) j < 256 := by
  obtain ⟨z0, z1, z2, z3, z4⟩ := fhdef_zero hd
  rw [← hy] at z3 z4
  have hSl : S.length = n := by rw [hS]; exact fhseal_length bs n (4 * y) hl (by omega) (by omega)
  have hSb : ∀ x ∈ S, x < 256 := by rw [hS]; exact fhseal_byte _ hb
  have hS0 : S.getD 0 0 = bs.getD 0 0 := by rw [hS]; exact fhseal_same bs n (4 * y) 0 hl (by omega) (by omega) (by omega)
  have hx := xorBit_lt ⟨_, getD_byte hSb k⟩ ⟨j, hj⟩
  simp only at hx
  refine ⟨fun h0 => ?_, fun hd2 hy2 => ?_, hx⟩
  · have e : (S.set k (xorBit (S.getD k 0) j)).getD 0 0 = bs.getD 0 0 := by rw [getD_set_far _ _ _ _ (fun e => h0 e.symm), hS0]
    refine ⟨?_, by rw [e, hy]⟩
    unfold fhdef
    rw [e, if_neg z0, if_neg (by omega), if_neg z2, if_neg (by omega), if_neg (by omega)]
  · rw [fhall_nine hd2, hy2, List.take_set]
    have e : S.getD k 0 = (S.take (4 * y)).getD k 0 := (getD_take hk).symm
    rw [e]
    refine turned_bad (S.take (4 * y)) k j (by rw [List.length_take]; omega) ?_ hj (by rw [hS]; exact fhseal_good (by omega) (by omega))
    rw [← e]
    exact getD_byte hSb k
theorem u8_xor_bit (x j : Nat) (hx : x < 256) (hj : j < 8) : bits .xor .u8 (x : Int) ((2 ^ j : Nat) : Int) = ((xorBit x j : Nat) : Int) := by
  have key : (BitVec.ofInt 8 (x : Int) ^^^ BitVec.ofInt 8 ((2 ^ j : Nat) : Int)).toNat = xorBit x j := by
    have ht := two_pows hj
    rw [BitVec.toNat_xor, BitVec.toNat_ofInt, BitVec.toNat_ofInt]
    unfold xorBit
    congr 1 <;> omega
  have hl := xorBit_lt ⟨x, hx⟩ ⟨j, hj⟩
  simp only at hl
  show IntKind.u8.wrap ((BitVec.ofInt 8 (x : Int) ^^^ BitVec.ofInt 8 ((2 ^ j : Nat) : Int)).toNat : Nat) = _
  rw [key]
  show ((xorBit x j : Nat) : Int) % 256 = _
  omega
end Go.Proofs.YtmchclpkjjmocaaGreat

namespace Go.Proofs.YtmchclpkjjmocaaGreat
set_option linter.unusedVariables false

theorem FourV.bytes_byte {f : FourV} (hf : f.fits) (bs : ∀ x ∈ f.src, x < 256) (bd : ∀ x ∈ f.dst, x < 256) {os : List Nat} (ho : ∀ x ∈ os, x < 256) : ∀ x ∈ f.bytes os, x < 256 := by
  obtain ⟨⟨l0, u0⟩, ⟨l1, u1⟩, ⟨l2, u2⟩, ⟨l3, u3⟩, ⟨l4, u4⟩, ⟨l5, u5⟩, ⟨l6, u6⟩, ⟨l7, u7⟩, ⟨l8, u8⟩⟩ := FourV.fits_all hf
  intro x hx
  unfold FourV.bytes at hx
  rcases List.mem_append.1 hx with hx | hx
  · rcases List.mem_append.1 hx with hx | hx
    · rcases List.mem_append.1 hx with hx | hx
      · exact head12_byte _ _ _ _ _ _ _ _ _ (by omega) x hx
      · exact bs x hx
    · exact bd x hx
  · exact ho x hx
/-- Fields that were written, and read again, are equal to themselves. -/
theorem FourV.same {f : FourV} (hf : f.fits) (hs : f.src.length = 4) (hd : f.dst.length = 4) (bs : ∀ x ∈ f.src, x < 256) (bd : ∀ x ∈ f.dst, x < 256) {os : List Nat} (ho : ∀ x ∈ os, x < 256) (hl : (os.length : Int) = 4 * f.k0 - 20) (w : World) :
    (Op.equalIn 10000 63 (.agg f.cells.toArray) (.agg f.cells.toArray)).run Tryz.prog w = .ok true w := by
  have h := (written_read hf hs hd os [] hl).1
  rw [← h]
  exact four_same (fun k => getD_byte (fun x hx => by rw [List.append_nil] at hx; exact FourV.bytes_byte hf bs bd ho x hx) k) w
theorem FourV.cells_len {f : FourV} (hs : f.src.length = 4) (hd : f.dst.length = 4) : f.cells.length = 17 := by unfold FourV.cells; simp [bcells_length, hs, hd]
theorem FourV.cells_one (f : FourV) : ∀ v ∈ f.cells, v.oneCell' = true := by
  intro v hv
  unfold FourV.cells at hv
  rcases List.mem_append.1 hv with hv | hv
  · rcases List.mem_append.1 hv with hv | hv
    · simp only [List.mem_cons, List.not_mem_nil, or_false] at hv
      rcases hv with h | h | h | h | h | h | h | h | h <;> rw [h] <;> rfl
    · exact bcells_one _ v hv
  · exact bcells_one _ v hv
end Go.Proofs.YtmchclpkjjmocaaGreat
