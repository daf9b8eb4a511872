/-
  Texts cut at a sign, numbers of up to three digits, addresses as text: plain facts. Nothing of the program.
-/
import Derived.Lib.Split
import Derived.Lib.ItoaNum
import Derived.Lib.Join
namespace Go.Proofs.YtpalnlbdfmiadaaGreatDoor
open Go.Lib

/-- Its first part grows by a letter. -/
def onHead (x : UInt8) : List (List UInt8) → List (List UInt8)
  | [] => [[x]]
  | p :: r => (x :: p) :: r
/-- Cut at each such sign. -/
def cutL (c : UInt8) : List UInt8 → List (List UInt8)
  | [] => [[]]
  | x :: l => if x = c then [] :: cutL c l else onHead x (cutL c l)
/-- Cut at the first ones, so many at most. -/
def cutK (c : UInt8) : List UInt8 → Nat → List (List UInt8)
  | l, 0 => [l]
  | [], _ + 1 => [[]]
  | x :: l, k + 1 => if x = c then [] :: cutK c l k else onHead x (cutK c l (k + 1))

theorem onHead_length {x : UInt8} {ps : List (List UInt8)} (h : ps ≠ []) : (onHead x ps).length = ps.length := by
  cases ps with
  | nil => exact absurd rfl h
  | cons p r => rfl
theorem cutL_pos (c : UInt8) (l : List UInt8) : cutL c l ≠ [] := by
  cases l with
  | nil => simp [cutL]
  | cons x l =>
    unfold cutL
    split
    · simp
    · cases cutL c l <;> simp [onHead]
theorem cutK_pos (c : UInt8) (l : List UInt8) (k : Nat) : cutK c l k ≠ [] := by
  cases k with
  | zero => cases l <;> simp [cutK]
  | succ k =>
    cases l with
    | nil => simp [cutK]
    | cons x l =>
      unfold cutK
      split
      · simp
      · cases cutK c l (k + 1) <;> simp [onHead]
theorem cutL_one (c : UInt8) (l : List UInt8) : 1 ≤ (cutL c l).length := by
  have := cutL_pos c l
  cases h : cutL c l with
  | nil => exact absurd h this
  | cons p r => simp
theorem cutK_length (c : UInt8) (l : List UInt8) (k : Nat) : (cutK c l k).length = min (cutL c l).length (k + 1) := by
  induction l generalizing k with
  | nil => cases k <;> simp [cutK, cutL]
  | cons x l ih =>
    have h1 := cutL_one c (x :: l)
    cases k with
    | zero => simp [cutK]; omega
    | succ k =>
      unfold cutK cutL
      split
      · simp only [List.length_cons, ih]; omega
      · rw [onHead_length (cutK_pos _ _ _), onHead_length (cutL_pos _ _), ih]
theorem cutK_all (c : UInt8) (l : List UInt8) (k : Nat) (h : (cutL c l).length ≤ k + 1) : cutK c l k = cutL c l := by
  induction l generalizing k with
  | nil => cases k <;> rfl
  | cons x l ih =>
    have h1 := cutL_one c l
    unfold cutL at h ⊢
    cases k with
    | zero =>
      split at h
      · simp only [List.length_cons] at h; omega
      · rename_i hx
        rw [onHead_length (cutL_pos _ _)] at h
        have e := ih 0 h
        rw [if_neg hx, ← e]
        cases l <;> rfl
    | succ k =>
      unfold cutK
      split
      · rename_i hx
        rw [if_pos hx] at h
        simp only [List.length_cons] at h
        rw [ih k (by omega)]
      · rename_i hx
        rw [if_neg hx, onHead_length (cutL_pos _ _)] at h
        rw [ih (k + 1) h]
theorem index_nil (c : UInt8) : index [] [c] = -1 := rfl
theorem index_here (c : UInt8) (l : List UInt8) : index (c :: l) [c] = 0 := by simp [index, List.isPrefixOf]
theorem index_next {x c : UInt8} (l : List UInt8) (h : x ≠ c) : index (x :: l) [c] = if index l [c] = -1 then -1 else index l [c] + 1 := by
  have e : ([c].isPrefixOf (x :: l)) = false := by simp [List.isPrefixOf]; exact fun e => h e.symm
  rw [index, e]
  by_cases h2 : index l [c] = -1 <;> simp [h2]
theorem splitK_cut (c : UInt8) (l : List UInt8) (k : Nat) : splitK [c] 0 k l = cutK c l k := by
  induction l generalizing k with
  | nil => cases k <;> simp [splitK, cutK, index_nil]
  | cons x l ih =>
    cases k with
    | zero => rfl
    | succ k =>
      by_cases hx : x = c
      · subst hx
        have := ih k
        simp [splitK, cutK, index_here, this]
      · have h1 := ih (k + 1)
        have hg := index_ge l [c]
        unfold cutK
        rw [if_neg hx, ← h1]
        unfold splitK
        rw [index_next l hx]
        by_cases h2 : index l [c] = -1
        · simp [h2, onHead]
        · have h3 : ¬ (index l [c] + 1 = -1) := by omega
          have e : (index l [c] + 1).toNat = (index l [c]).toNat + 1 := by omega
          simp [h2, h3, onHead, e]

/-- A part without the sign stays whole; two parts are cut between. -/
theorem cutL_whole {c : UInt8} {p : List UInt8} (h : c ∉ p) : cutL c p = [p] := by
  induction p with
  | nil => rfl
  | cons x p ih =>
    have h1 : x ≠ c := fun e => h (by rw [e]; exact List.mem_cons_self ..)
    rw [cutL, if_neg h1, ih (fun hm => h (List.mem_cons_of_mem _ hm))]
    rfl
theorem cutL_part {c : UInt8} {p : List UInt8} (l : List UInt8) (h : c ∉ p) : cutL c (p ++ c :: l) = p :: cutL c l := by
  induction p with
  | nil => simp [cutL]
  | cons x p ih =>
    have h1 : x ≠ c := fun e => h (by rw [e]; exact List.mem_cons_self ..)
    rw [List.cons_append, cutL, if_neg h1, ih (fun hm => h (List.mem_cons_of_mem _ hm))]
    rfl
theorem join_onHead (x : UInt8) (s : List UInt8) {ps : List (List UInt8)} (h : ps ≠ []) : join (onHead x ps) s = x :: join ps s := by
  cases ps with
  | nil => exact absurd rfl h
  | cons p r =>
    cases r with
    | nil => simp [onHead, join, List.intercalate]
    | cons q r => simp [onHead, join, List.intercalate, List.intersperse]
theorem join_cons (p : List UInt8) (s : List UInt8) {ps : List (List UInt8)} (h : ps ≠ []) : join (p :: ps) s = p ++ s ++ join ps s := by
  cases ps with
  | nil => exact absurd rfl h
  | cons q r => simp [join, List.intercalate, List.intersperse]
theorem join_cut (c : UInt8) (l : List UInt8) : join (cutL c l) [c] = l := by
  induction l with
  | nil => rfl
  | cons x l ih =>
    rw [cutL]
    split
    · rename_i hx
      rw [join_cons _ _ (cutL_pos _ _), ih, hx]
      rfl
    · rw [join_onHead _ _ (cutL_pos _ _), ih]

/-! Numbers of up to three digits -/
def isDig (c : UInt8) : Bool := decide (48 ≤ c.toNat) && decide (c.toNat ≤ 57)
def numv (l : List UInt8) : Nat := l.foldl (fun n c => 10 * n + (c.toNat - 48)) 0
def allDig (l : List UInt8) : Bool := l.all isDig
def numOk (l : List UInt8) : Bool := decide (1 ≤ l.length) && decide (l.length ≤ 3) && (decide (l.length ≤ 1) || l.headD 0 != 48) && allDig l
theorem numv_snoc (l : List UInt8) (c : UInt8) : numv (l ++ [c]) = 10 * numv l + (c.toNat - 48) := by simp [numv]
theorem allDig_snoc (l : List UInt8) (c : UInt8) : allDig (l ++ [c]) = (allDig l && isDig c) := by simp [allDig]
theorem dig_val {c : UInt8} (h : isDig c = true) : 48 ≤ c.toNat ∧ c.toNat ≤ 57 := by simpa [isDig] using h
theorem numv_lt (l : List UInt8) (h : allDig l = true) : numv l < 10 ^ l.length := by
  have key : ∀ n (l : List UInt8), l.length = n → allDig l = true → numv l < 10 ^ n := by
    intro n
    induction n with
    | zero =>
      intro l hl _
      rw [List.eq_nil_of_length_eq_zero hl]
      decide
    | succ n ih =>
      intro l hl h
      rcases List.eq_nil_or_concat l with rfl | ⟨m, c, rfl⟩
      · simp at hl
      · rw [List.concat_eq_append] at hl h ⊢
        rw [allDig_snoc, Bool.and_eq_true] at h
        have h1 := ih m (by simpa using hl) h.1
        have h2 := dig_val h.2
        rw [numv_snoc, Nat.pow_succ]
        omega
  exact key _ l rfl h
theorem numv_three (l : List UInt8) (h : numOk l = true) : numv l ≤ 999 := by
  simp only [numOk, Bool.and_eq_true, decide_eq_true_eq] at h
  have h1 := numv_lt l h.2
  have h2 : 10 ^ l.length ≤ 10 ^ 3 := Nat.pow_le_pow_right (by decide) h.1.1.2
  omega

theorem dec_small {n : Nat} (h : n < 10) : decDigits n = [UInt8.ofNat (48 + n)] := by rw [decDigits, dif_pos h]
theorem dec_step {n : Nat} (h : ¬ n < 10) : decDigits n = decDigits (n / 10) ++ [UInt8.ofNat (48 + n % 10)] := by rw [decDigits, dif_neg h]
theorem u8_back (c : UInt8) (n : Nat) (h : n = c.toNat) : UInt8.ofNat n = c := by subst h; simp
/-- The digits of a number that was read are the text. -/
theorem dec_numv (l : List UInt8) (h : numOk l = true) : decDigits (numv l) = l := by
  simp only [numOk, Bool.and_eq_true, decide_eq_true_eq, Bool.or_eq_true, bne_iff_ne, ne_eq] at h
  obtain ⟨⟨⟨h1, h2⟩, h3⟩, h4⟩ := h
  match l, h1, h2, h3, h4 with
  | [a], _, _, _, h4 =>
    have ha := dig_val (show isDig a = true by simpa [allDig] using h4)
    have e : numv [a] = a.toNat - 48 := by simp [numv]
    rw [e, dec_small (by omega), u8_back a _ (by omega)]
  | [a, b], _, _, h3, h4 =>
    simp only [allDig, List.all_cons, List.all_nil, Bool.and_true, Bool.and_eq_true] at h4
    have ha := dig_val h4.1
    have hb := dig_val h4.2
    have hz : a.toNat ≠ 48 := fun e => by simp at h3; exact h3 (by rw [← u8_back a 48 e.symm]; rfl)
    have e : numv [a, b] = 10 * (a.toNat - 48) + (b.toNat - 48) := by simp [numv]
    rw [e, dec_step (by omega), show (10 * (a.toNat - 48) + (b.toNat - 48)) / 10 = a.toNat - 48 from by omega, dec_small (by omega), u8_back a _ (by omega), u8_back b _ (by omega)]
    rfl
  | [a, b, c], _, _, h3, h4 =>
    simp only [allDig, List.all_cons, List.all_nil, Bool.and_true, Bool.and_eq_true] at h4
    have ha := dig_val h4.1
    have hb := dig_val h4.2.1
    have hc := dig_val h4.2.2
    have hz : a.toNat ≠ 48 := fun e => by simp at h3; exact h3 (by rw [← u8_back a 48 e.symm]; rfl)
    have e : numv [a, b, c] = 10 * (10 * (a.toNat - 48) + (b.toNat - 48)) + (c.toNat - 48) := by simp [numv]
    rw [e, dec_step (by omega), show (10 * (10 * (a.toNat - 48) + (b.toNat - 48)) + (c.toNat - 48)) / 10 = 10 * (a.toNat - 48) + (b.toNat - 48) from by omega, dec_step (by omega),
      show (10 * (a.toNat - 48) + (b.toNat - 48)) / 10 = a.toNat - 48 from by omega, dec_small (by omega), u8_back a _ (by omega), u8_back b _ (by omega), u8_back c _ (by omega)]
    rfl
theorem dig_of {n : Nat} (h : n < 10) : (UInt8.ofNat (48 + n)).toNat = 48 + n := by
  rw [UInt8.toNat_ofNat_of_lt' (by show 48 + n < 256; omega)]
theorem isDig_of {n : Nat} (h : n < 10) : isDig (UInt8.ofNat (48 + n)) = true := by
  unfold isDig
  rw [dig_of h]
  simp
  omega
/-- A byte's digits are a number: the byte. -/
theorem dec_byte (n : Nat) (h : n ≤ 999) : numOk (decDigits n) = true ∧ numv (decDigits n) = n := by
  by_cases h1 : n < 10
  · rw [dec_small h1]
    have e := dig_of h1
    have i := isDig_of h1
    generalize UInt8.ofNat (48 + n) = x at *
    refine ⟨by simp [numOk, allDig, i], by simp [numv, e]⟩
  · by_cases h2 : n < 100
    · rw [dec_step h1, dec_small (by omega)]
      have a1 := dig_of (n := n / 10) (by omega)
      have a2 := dig_of (n := n % 10) (by omega)
      have i1 := isDig_of (n := n / 10) (by omega)
      have i2 := isDig_of (n := n % 10) (by omega)
      have z : (UInt8.ofNat (48 + n / 10) != 48) = true := by
        rw [bne_iff_ne]; intro e
        have := congrArg UInt8.toNat e
        rw [a1] at this
        have e48 : (48 : UInt8).toNat = 48 := rfl
        omega
      refine ⟨by simp only [List.singleton_append, numOk, allDig, List.length_cons, List.length_nil, List.headD_cons, z, List.all_cons, i1, i2]; rfl, ?_⟩
      simp only [numv, List.singleton_append, List.foldl_cons, List.foldl_nil, a1, a2]
      omega
    · rw [dec_step h1, dec_step (by omega), dec_small (by omega)]
      have a1 := dig_of (n := n / 10 / 10) (by omega)
      have a2 := dig_of (n := n / 10 % 10) (by omega)
      have a3 := dig_of (n := n % 10) (by omega)
      have i1 := isDig_of (n := n / 10 / 10) (by omega)
      have i2 := isDig_of (n := n / 10 % 10) (by omega)
      have i3 := isDig_of (n := n % 10) (by omega)
      have z : (UInt8.ofNat (48 + n / 10 / 10) != 48) = true := by
        rw [bne_iff_ne]; intro e
        have := congrArg UInt8.toNat e
        rw [a1] at this
        have e48 : (48 : UInt8).toNat = 48 := rfl
        omega
      refine ⟨by simp only [List.cons_append, List.nil_append, numOk, allDig, List.length_cons, List.length_nil, List.headD_cons, z, List.all_cons, i1, i2, i3]; rfl, ?_⟩
      simp only [numv, List.cons_append, List.nil_append, List.foldl_cons, List.foldl_nil, a1, a2, a3]
      omega
theorem dec_nodot (n : Nat) (h : n ≤ 999) : (46 : UInt8) ∉ decDigits n := by
  intro hm
  have h1 := (dec_byte n h).1
  simp only [numOk, Bool.and_eq_true] at h1
  have h2 := List.all_eq_true.1 h1.2 46 hm
  simp [isDig] at h2
theorem dec_len (n : Nat) (h : n ≤ 999) : 1 ≤ (decDigits n).length ∧ (decDigits n).length ≤ 3 := by
  have h1 := (dec_byte n h).1
  simp only [numOk, Bool.and_eq_true, decide_eq_true_eq] at h1
  exact ⟨h1.1.1.1, h1.1.1.2⟩

/-! An address as text -/
def dtext (a b c d : Nat) : List UInt8 := join [decDigits a, decDigits b, decDigits c, decDigits d] [46]
/-- A text's four numbers and the error. -/
def dparse (l : List UInt8) : (Nat × Nat × Nat × Nat) × Nat :=
  match cutL 46 l with
  | [p, q, r, s] =>
    if numOk p && numOk q && numOk r && numOk s then
      if numv p ≤ 255 ∧ numv q ≤ 255 ∧ numv r ≤ 255 ∧ numv s ≤ 255 then ((numv p, numv q, numv r, numv s), 0) else ((0, 0, 0, 0), 1)
    else ((0, 0, 0, 0), 3)
  | _ => ((0, 0, 0, 0), 3)
theorem dtext_cut {a b c d : Nat} (ha : a ≤ 255) (hb : b ≤ 255) (hc : c ≤ 255) (hd : d ≤ 255) : cutL 46 (dtext a b c d) = [decDigits a, decDigits b, decDigits c, decDigits d] := by
  have e : dtext a b c d = decDigits a ++ 46 :: (decDigits b ++ 46 :: (decDigits c ++ 46 :: decDigits d)) := by
    simp [dtext, join, List.intercalate, List.intersperse]
  rw [e, cutL_part _ (dec_nodot a (by omega)), cutL_part _ (dec_nodot b (by omega)), cutL_part _ (dec_nodot c (by omega)), cutL_whole (dec_nodot d (by omega))]
theorem dparse_dtext {a b c d : Nat} (ha : a ≤ 255) (hb : b ≤ 255) (hc : c ≤ 255) (hd : d ≤ 255) : dparse (dtext a b c d) = ((a, b, c, d), 0) := by
  have h1 := dec_byte a (by omega)
  have h2 := dec_byte b (by omega)
  have h3 := dec_byte c (by omega)
  have h4 := dec_byte d (by omega)
  unfold dparse
  rw [dtext_cut ha hb hc hd]
  simp [h1, h2, h3, h4, ha, hb, hc, hd]
theorem dparse_ok {l : List UInt8} {a b c d : Nat} (h : dparse l = ((a, b, c, d), 0)) : dtext a b c d = l := by
  have hj := join_cut 46 l
  unfold dparse at h
  split at h
  · rename_i p q r s he
    split at h
    · rename_i hok
      simp only [Bool.and_eq_true] at hok
      split at h
      · simp only [Prod.mk.injEq, and_true] at h
        obtain ⟨rfl, rfl, rfl, rfl⟩ := h
        rw [he] at hj
        unfold dtext
        rw [dec_numv p hok.1.1.1, dec_numv q hok.1.1.2, dec_numv r hok.1.2, dec_numv s hok.2, hj]
      · simp at h
    · simp at h
  · simp at h
theorem dparse_le (l : List UInt8) : (dparse l).1.1 ≤ 255 ∧ (dparse l).1.2.1 ≤ 255 ∧ (dparse l).1.2.2.1 ≤ 255 ∧ (dparse l).1.2.2.2 ≤ 255 := by
  unfold dparse
  split
  · split
    · split
      · rename_i h; exact h
      · simp
    · simp
  · simp
end Go.Proofs.YtpalnlbdfmiadaaGreatDoor
