/-
  Plain arithmetic: a field that is put is read back, all other bits stay. Nothing of the program.
  Plain facts of marked packets: their bytes, and the checksum of a header.
  Plain facts of marked packets: their records, marked twice, marked back.
  Plain facts of marked packets: marked twice, marked back; how the bytes differ.
-/
import Derived.Test.YtjpaicdbnadoeaaPlain
import Derived.Test.YtjpaicdbnadoeaaPk7
namespace Go.Proofs.Ytjpaicdbnadoeaa

theorem setb_read (n f c x : Nat) (h : f + c ≤ 64) : setb n f c x / 2 ^ f % 2 ^ c = x % 2 ^ c := by
  apply Nat.eq_of_testBit_eq
  intro j
  rw [Nat.testBit_mod_two_pow, Nat.testBit_mod_two_pow, Nat.testBit_div_two_pow]
  by_cases hj : j < c
  · have e := setb_bit n f c x (j + f) h (by omega)
    rw [if_pos ⟨by omega, by omega⟩, show j + f - f = j from by omega] at e
    simp [hj, e]
  · simp [hj]
theorem setb_low (n f c x : Nat) (h : f + c ≤ 64) : setb n f c x % 2 ^ f = n % 2 ^ f := by
  apply Nat.eq_of_testBit_eq
  intro j
  rw [Nat.testBit_mod_two_pow, Nat.testBit_mod_two_pow]
  by_cases hj : j < f
  · have e := setb_bit n f c x j h (by omega)
    rw [if_neg (by omega)] at e
    simp [hj, e]
  · simp [hj]
theorem setb_back (n f c x : Nat) (h : f + c ≤ 64) (hn : n < 18446744073709551616) : setb (setb n f c x) f c (n / 2 ^ f % 2 ^ c) = n := by
  apply Nat.eq_of_testBit_eq
  intro j
  have e64 : (18446744073709551616 : Nat) = 2 ^ 64 := by decide
  by_cases hj : j < 64
  · rw [setb_bit _ f c _ j h hj]
    by_cases h1 : f ≤ j ∧ j < f + c
    · rw [if_pos h1, Nat.testBit_mod_two_pow, Nat.testBit_div_two_pow]
      have h2 : j - f < c := by omega
      rw [show j - f + f = j from by omega]
      simp [h2]
    · rw [if_neg h1, setb_bit n f c x j h hj, if_neg h1]
  · have h1 : setb (setb n f c x) f c (n / 2 ^ f % 2 ^ c) < 2 ^ 64 := by rw [← e64]; exact setb_lt _ f c _ h
    rw [Nat.testBit_lt_two_pow (Nat.lt_of_lt_of_le h1 (Nat.pow_le_pow_right (by omega) (by omega))), Nat.testBit_lt_two_pow (Nat.lt_of_lt_of_le (by rw [← e64]; exact hn) (Nat.pow_le_pow_right (by omega) (by omega)))]
theorem splice_mid {bs l : List Nat} {a : Nat} (h : a + l.length ≤ bs.length) : ((bs.take a ++ (l ++ bs.drop (a + l.length))).drop a).take l.length = l := by
  have e1 : (bs.take a).length = a := by rw [List.length_take]; omega
  rw [List.drop_append_of_le_length (by omega), List.drop_of_length_le (by omega), List.nil_append, List.take_append_of_le_length (Nat.le_refl _), List.take_of_length_le (Nat.le_refl _)]
theorem splice_out {bs l : List Nat} {a i : Nat} (h : a + l.length ≤ bs.length) (hi : i < a ∨ a + l.length ≤ i) : (bs.take a ++ (l ++ bs.drop (a + l.length))).getD i 0 = bs.getD i 0 := by
  have e1 : (bs.take a).length = a := by rw [List.length_take]; omega
  rw [List.getD_eq_getElem?_getD, List.getD_eq_getElem?_getD]
  rcases hi with hi | hi
  · rw [List.getElem?_append_left (by omega), List.getElem?_take, if_pos hi]
  · rw [List.getElem?_append_right (by omega), e1, List.getElem?_append_right (by omega), List.getElem?_drop]
    rw [show a + l.length + (i - a - l.length) = i from by omega]
end Go.Proofs.Ytjpaicdbnadoeaa

namespace Go.Proofs.Ytjpaicdbnadoeaa
set_option linter.unusedVariables false

theorem rm_splice_same {bs l m : List Nat} {a : Nat} (hl : l.length = m.length) (h : a + l.length ≤ bs.length) : splice (splice bs a l) a m = splice bs a m := by
  have la : (splice bs a l).length = bs.length := splice_length h
  have hm : a + m.length ≤ bs.length := by omega
  have hm2 : a + m.length ≤ (splice bs a l).length := by omega
  refine list_getD_ext ((splice_length hm2).trans (la.trans (splice_length hm).symm)) fun i => ?_
  rw [splice_getD hm2, splice_getD h, splice_getD hm]
  by_cases h1 : a ≤ i ∧ i < a + m.length
  · rw [if_pos h1, if_pos h1]
  · rw [if_neg h1, if_neg h1, if_neg (by omega)]
theorem rm_splice_id {bs l : List Nat} {a : Nat} (h : a + l.length ≤ bs.length) (hs : ∀ i, i < l.length → bs.getD (a + i) 0 = l.getD i 0) : splice bs a l = bs := by
  refine list_getD_ext (splice_length h) fun i => ?_
  rw [splice_getD h]
  by_cases h1 : a ≤ i ∧ i < a + l.length
  · rw [if_pos h1, ← hs (i - a) (by omega)]
    congr 1
    omega
  · rw [if_neg h1]
theorem rm_pb_word (bs : List Nat) (h : ∀ x ∈ bs, x < 256) (a : Nat) : pb (fhw bs a) 2 = [bs.getD a 0, bs.getD (a + 1) 0] := by
  have h1 := byte_at h a
  have h2 := byte_at h (a + 1)
  rw [pb_two]
  unfold fhw
  congr 1
  · omega
  · congr 1
    omega
theorem rm_word_split {bs : List Nat} {a : Nat} (ha : a % 2 = 0) (hn : a + 2 ≤ bs.length) : wsum 0 bs = wrest bs a + fhw bs a := by
  rw [wsum_split ha hn]
  unfold fhw
  omega
theorem rm_word_put {bs : List Nat} {a c : Nat} (hn : a + 2 ≤ bs.length) (hc : c ≤ 65535) : fhw (splice bs a (pb c 2)) a = c := by
  unfold fhw
  rw [pb_two, splice_getD (by simpa using hn), splice_getD (by simpa using hn), if_pos (by simp), if_pos (by simp), Nat.sub_self, Nat.add_sub_cancel_left]
  simp
  omega
theorem rm_filled_is (bs : List Nat) (f : Nat) (hf : f % 2 = 0) (hn : f + 2 ≤ bs.length) : filled bs f = splice bs f (pb (65535 - orest (wrest bs f)) 2) := by
  unfold filled
  have h0 := wsum_put (c := 0) hf hn (by decide)
  rw [Nat.add_zero] at h0
  rw [h0]
  exact rm_splice_same (by rw [pb_length, pb_length]) (by rw [pb_length]; exact hn)
theorem rm_filled_fix (bs : List Nat) (h : ∀ x ∈ bs, x < 256) (f : Nat) (hf : f % 2 = 0) (hn : f + 2 ≤ bs.length) (hc : fhw bs f = 65535 - orest (wrest bs f)) : filled bs f = bs := by
  rw [rm_filled_is bs f hf hn, ← hc, rm_pb_word bs h f]
  exact rm_splice_id (by simpa using hn) fun i hi => by
    have hi2 : i < 2 := by simpa using hi
    match i, hi2 with
    | 0, _ => rfl
    | 1, _ => rfl
theorem rm_filled_twice (bs : List Nat) (h : ∀ x ∈ bs, x < 256) (f : Nat) (hf : f % 2 = 0) (hn : f + 2 ≤ bs.length) : filled (filled bs f) f = filled bs f := by
  have e := rm_filled_is bs f hf hn
  refine rm_filled_fix _ (filled_byte h) f hf (by rw [filled_length hn]; exact hn) ?_
  rw [e, rm_word_put hn (by omega), wrest_put hn]
/-- Some word beside the checksum is not 0. -/
theorem rm_rest_pos {bs : List Nat} {f : Nat} (hn : f + 2 ≤ bs.length) (hf0 : 0 < f) (h0 : bs.getD 0 0 ≠ 0) : 0 < wrest bs f := by
  rcases Nat.eq_zero_or_pos (wrest bs f) with h | h
  · exfalso
    unfold wrest at h
    have h1 : wsum 0 (bs.take f) = 0 := by omega
    have h2 := (wsum_zero 0 _).1 h1
    have hlen : 0 < (bs.take f).length := by rw [List.length_take]; omega
    have e3 : (bs.take f).getD 0 0 = bs.getD 0 0 := getD_take hf0
    rw [List.getD_eq_getElem?_getD, List.getElem?_eq_getElem hlen] at e3
    have e5 := h2 _ (List.getElem_mem hlen)
    rw [Option.getD_some, e5] at e3
    exact h0 e3.symm
  · exact h
/-- The checksum that is reckoned is not FFFF. -/
theorem rm_filled_not {bs : List Nat} {f : Nat} (hf : f % 2 = 0) (hn : f + 2 ≤ bs.length) (hf0 : 0 < f) (h0 : bs.getD 0 0 ≠ 0) : fhw (filled bs f) f ≠ 65535 := by
  rw [rm_filled_is bs f hf hn, rm_word_put hn (by omega)]
  have h1 := rm_rest_pos hn hf0 h0
  have h2 := orest_null (wrest bs f)
  have h3 := orest_le (wrest bs f)
  omega
/-- Good bytes hold the checksum that is reckoned, but for FFFF in the place of 0. -/
theorem rm_filled_back {bs : List Nat} {f : Nat} (h : ∀ x ∈ bs, x < 256) (hf : f % 2 = 0) (hn : f + 2 ≤ bs.length) (hf0 : 0 < f) (h0 : bs.getD 0 0 ≠ 0) (hg : orest (wsum 0 bs) = 65535) (hff : fhw bs f ≠ 65535) : filled bs f = bs := by
  refine rm_filled_fix bs h f hf hn ?_
  have h1 := rm_rest_pos hn hf0 h0
  have hw := rm_word_split hf hn
  have hg2 := (orest_full _).1 hg
  rw [hw] at hg2
  have hlt := fhw_lt (fun k => byte_at h k) f
  have e1 := orest_le (wrest bs f)
  have e2 := orest_mod (wrest bs f)
  have e3 := orest_null (wrest bs f)
  generalize orest (wrest bs f) = t at *
  omega
theorem setb_high (n f c x : Nat) (h : f + c ≤ 64) (hn : n < 18446744073709551616) : setb n f c x / 2 ^ (f + c) = n / 2 ^ (f + c) := by
  refine Nat.eq_of_testBit_eq fun j => ?_
  rw [Nat.testBit_div_two_pow, Nat.testBit_div_two_pow]
  by_cases hj : j + (f + c) < 64
  · rw [setb_bit n f c x _ h hj, if_neg (by omega)]
  · have h1 : (setb n f c x).testBit (j + (f + c)) = false := Nat.testBit_lt_two_pow (Nat.lt_of_lt_of_le (setb_lt n f c x h) (by
      rw [show (18446744073709551616 : Nat) = 2 ^ 64 from rfl]; exact Nat.pow_le_pow_right (by decide) (by omega)))
    have h2 : n.testBit (j + (f + c)) = false := Nat.testBit_lt_two_pow (Nat.lt_of_lt_of_le hn (by
      rw [show (18446744073709551616 : Nat) = 2 ^ 64 from rfl]; exact Nat.pow_le_pow_right (by decide) (by omega)))
    rw [h1, h2]
theorem setb_two {n d : Nat} (hn : n < 65536) (hd : d < 64) : setb n 2 6 d = n / 256 * 256 + d * 4 + n % 4 := by
  have h1 := setb_high n 2 6 d (by decide) (by omega)
  have h2 := setb_read n 2 6 d (by decide)
  have h3 := setb_low n 2 6 d (by decide)
  simp only [Nat.reduceAdd, Nat.reducePow] at h1 h2 h3
  omega
theorem setb_six {n d : Nat} (hn : n < 65536) (hd : d < 64) : setb n 6 6 d = n / 4096 * 4096 + d * 64 + n % 64 := by
  have h1 := setb_high n 6 6 d (by decide) (by omega)
  have h2 := setb_read n 6 6 d (by decide)
  have h3 := setb_low n 6 6 d (by decide)
  simp only [Nat.reduceAdd, Nat.reducePow] at h1 h2 h3
  omega
/-- The bytes with another code point, ahead of a new checksum; and marked. -/
def rm4 (bs : List Nat) (d : Nat) : List Nat := bs.set 1 (d * 4 + bs.getD 1 0 % 4)
def rm6 (bs : List Nat) (d : Nat) : List Nat := (bs.set 0 (bs.getD 0 0 / 16 * 16 + d / 4)).set 1 (d % 4 * 64 + bs.getD 1 0 % 64)
def rmMark (bs : List Nat) (d : Nat) : List Nat := if bs.getD 0 0 / 16 = 4 then fhseal (rm4 bs d) (4 * (bs.getD 0 0 % 16)) else rm6 bs d
theorem rm_put_four {bs : List Nat} {d : Nat} (hl : 2 ≤ bs.length) (hb : ∀ x ∈ bs, x < 256) (hd : d < 64) : splice bs 0 (pb (setb (fhw bs 0) 2 6 d) 2) = rm4 bs d := by
  obtain ⟨a, b, t, rfl⟩ : ∃ a b t, bs = a :: b :: t := by
    match bs, hl with
    | a :: b :: t, _ => exact ⟨a, b, t, rfl⟩
  have ha := hb a (by simp)
  have hbb := hb b (by simp)
  have e : fhw (a :: b :: t) 0 = a * 256 + b := rfl
  rw [e, setb_two (by omega) hd, pb_two]
  unfold splice rm4
  simp
  omega
theorem rm_put_six {bs : List Nat} {d : Nat} (hl : 2 ≤ bs.length) (hb : ∀ x ∈ bs, x < 256) (hd : d < 64) : splice bs 0 (pb (setb (fhw bs 0) 6 6 d) 2) = rm6 bs d := by
  obtain ⟨a, b, t, rfl⟩ : ∃ a b t, bs = a :: b :: t := by
    match bs, hl with
    | a :: b :: t, _ => exact ⟨a, b, t, rfl⟩
  have ha := hb a (by simp)
  have hbb := hb b (by simp)
  have e : fhw (a :: b :: t) 0 = a * 256 + b := rfl
  rw [e, setb_six (by omega) hd, pb_two]
  unfold splice rm6
  simp
  omega
end Go.Proofs.Ytjpaicdbnadoeaa

namespace Go.Proofs.Ytjpaicdbnadoeaa
set_option linter.unusedVariables false

theorem rm_drop {S bs : List Nat} {a : Nat} (hl : S.length = bs.length) (h : ∀ i, a ≤ i → S.getD i 0 = bs.getD i 0) : S.drop a = bs.drop a := by
  refine list_getD_ext (by rw [List.length_drop, List.length_drop, hl]) fun i => ?_
  have e : ∀ l : List Nat, (l.drop a).getD i 0 = l.getD (a + i) 0 := fun l => by
    rw [List.getD_eq_getElem?_getD, List.getElem?_drop, ← List.getD_eq_getElem?_getD]
  rw [e, e, h _ (by omega)]
theorem rm_part {S bs : List Nat} {a k b : Nat} (h : S.drop a = bs.drop a) (hk : a ≤ k) : (S.drop k).take b = (bs.drop k).take b := by
  have e : ∀ l : List Nat, l.drop k = (l.drop a).drop (k - a) := fun l => by rw [List.drop_drop, show a + (k - a) = k by omega]
  rw [e, e, h]
/-- A marked packet of version 4. -/
structure Marked4 (n m : Nat) (bs : List Nat) (j : Nat) (S : List Nat) : Prop where
  len : S.length = n
  byte : ∀ x ∈ S, x < 256
  one : S.getD 1 0 = j
  same : ∀ i, i ≠ 1 → i ≠ 10 → i ≠ 11 → S.getD i 0 = bs.getD i 0
  tail : S.drop 12 = bs.drop 12
  good : orest (wsum 0 (S.take m)) = 65535
  front : S.take m = filled ((bs.set 1 j).take m) 10
theorem marked4_is {bs : List Nat} {n m j : Nat} (hl : bs.length = n) (hb : ∀ x ∈ bs, x < 256) (hm : 20 ≤ m) (hmn : m ≤ n) (hj : j < 256) : Marked4 n m bs j (fhseal (bs.set 1 j) m) := by
  have h := sealed_is hl hb hm hmn hj
  have hls : (bs.set 1 j).length = n := by rw [List.length_set]; exact hl
  have hsame : ∀ i, i ≠ 1 → i ≠ 10 → i ≠ 11 → (fhseal (bs.set 1 j) m).getD i 0 = bs.getD i 0 := fun i h2 h3 h4 => by
    rw [fhseal_same _ n m i hls (by omega) hmn (by omega), fhput_getD _ _ _ (by omega), if_neg h2]
  refine ⟨h.len, h.byte, h.one, hsame, rm_drop (by rw [h.len, hl]) fun i hi => hsame i (by omega) (by omega) (by omega), fhseal_good (by omega) (by rw [hls]; exact hmn), ?_⟩
  unfold fhseal
  rw [List.take_left' (by rw [filled_length (by rw [List.length_take]; omega), List.length_take]; omega)]
theorem Marked4.rec4 {n m j : Nat} {bs S : List Nat} (h : Marked4 n m bs j S) (hm : m = 4 * (bs.getD 0 0 % 16)) (hh : fhall n bs = []) : fhall n S = [] ∧ pk4 S = { pk4 bs with field := j } := by
  obtain ⟨d0, h20, m20, hmt, htn⟩ := fhall_nil hh
  have g0 := h.same 0 (by decide) (by decide) (by decide)
  have w2 : fhw S 2 = fhw bs 2 := by unfold fhw; rw [h.same 2 (by decide) (by decide) (by decide), h.same 3 (by decide) (by decide) (by decide)]
  have w6 : fhw S 6 = fhw bs 6 := by unfold fhw; rw [h.same 6 (by decide) (by decide) (by decide), h.same 7 (by decide) (by decide) (by decide)]
  have d1 : fhdef n S = 0 := by
    rw [← d0]
    unfold fhdef
    rw [g0]
  have ho : fhopts n S = fhopts n bs := by
    unfold fhopts
    rw [if_pos d0, if_pos d1, g0, rm_part h.tail (by decide)]
  have hg : orest (wsum 0 (bs.take (4 * (bs.getD 0 0 % 16)))) = 65535 := by
    refine Decidable.byContradiction fun g => ?_
    have h9 := (fhall_nine d0).2 g
    rw [hh] at h9
    cases h9
  constructor
  · unfold fhall at hh ⊢
    rw [if_pos d0] at hh
    rw [if_pos d1, ho, g0]
    unfold fhbad at hh ⊢
    rw [hg] at hh
    rw [w2, w6, ← hm, h.good]
    rw [← hm] at hh
    exact hh
  · unfold pk4
    rw [g0, h.one, h.same 6 (by decide) (by decide) (by decide), h.same 9 (by decide) (by decide) (by decide), w2, w6, rm_part h.tail (by decide), rm_part h.tail (by decide)]
/-- A marked packet of version 6. -/
theorem be_eight {bs : List Nat} (hl : 8 ≤ bs.length) (hb : ∀ x ∈ bs, x < 256) : ∃ y, y < 281474976710656 ∧ be (bs.take 8) = bs.getD 0 0 * 72057594037927936 + bs.getD 1 0 * 281474976710656 + y ∧ y = be ((bs.drop 2).take 6) := by
  obtain ⟨a, b, t, rfl⟩ : ∃ a b t, bs = a :: b :: t := by
    match bs, hl with
    | a :: b :: t, _ => exact ⟨a, b, t, rfl⟩
  have ht : (t.take 6).length = 6 := by rw [List.length_take]; simp at hl; omega
  refine ⟨be (t.take 6), ?_, ?_, rfl⟩
  · have h := be_lt (t.take 6) (fun x hx => hb x (by simp [List.mem_of_mem_take hx]))
    rw [ht] at h
    exact h
  · show be (a :: b :: t.take 6) = a * 72057594037927936 + b * 281474976710656 + be (t.take 6)
    rw [be_cons, be_cons, List.length_cons, ht]
    simp only [Nat.reduceAdd, Nat.reducePow]
    omega
theorem sxn_field {a b y : Nat} (ha : a < 256) (hb : b < 256) (hy : y < 281474976710656) : sxN (a * 72057594037927936 + b * 281474976710656 + y) 0 = a % 16 * 16 + b / 16 := by
  unfold sxN
  simp only [Nat.reducePow]
  omega
theorem sxn_two {a b y : Nat} (hy : y < 281474976710656) : sxN (a * 72057594037927936 + b * 281474976710656 + y) 2 = y / 65536 % 65536 := by
  unfold sxN
  simp only [Nat.reducePow]
  omega
theorem sxn_three {a b y : Nat} (hy : y < 281474976710656) : sxN (a * 72057594037927936 + b * 281474976710656 + y) 3 = y / 256 % 256 := by
  unfold sxN
  simp only [Nat.reducePow]
  omega
theorem rm6_is {bs : List Nat} {d n : Nat} (hl : bs.length = n) (hn : 40 ≤ n) (hb : ∀ x ∈ bs, x < 256) (hd : d < 64) (h6 : bs.getD 0 0 / 16 = 6) :
    (rm6 bs d).length = n ∧ (∀ x ∈ rm6 bs d, x < 256) ∧ (rm6 bs d).getD 0 0 = 96 + d / 4 ∧ (rm6 bs d).getD 1 0 = d % 4 * 64 + bs.getD 1 0 % 64 ∧ (rm6 bs d).drop 2 = bs.drop 2 := by
  obtain ⟨a, b, t, rfl⟩ : ∃ a b t, bs = a :: b :: t := by
    match bs, (show 2 ≤ bs.length by omega) with
    | a :: b :: t, _ => exact ⟨a, b, t, rfl⟩
  have e : rm6 (a :: b :: t) d = (a / 16 * 16 + d / 4) :: (d % 4 * 64 + b % 64) :: t := by
    unfold rm6
    simp
  have h6 : a / 16 = 6 := h6
  rw [e]
  refine ⟨hl, fun x hx => ?_, by show a / 16 * 16 + d / 4 = _; omega, rfl, rfl⟩
  have ha := hb a (by simp)
  rcases List.mem_cons.1 hx with rfl | hx
  · omega
  rcases List.mem_cons.1 hx with rfl | hx
  · omega
  · exact hb x (by simp [hx])
theorem rm6_rec {bs : List Nat} {d n : Nat} (hl : bs.length = n) (hb : ∀ x ∈ bs, x < 256) (hd : d < 64) (h6 : bs.getD 0 0 / 16 = 6) (hh : sxall n bs = []) :
    sxall n (rm6 bs d) = [] ∧ pk6 (rm6 bs d) = { pk6 bs with field := d * 4 + (pk6 bs).field % 4 } := by
  obtain ⟨d0, h40, hrest, hrl, hdf⟩ := sxall_nil hl hh
  obtain ⟨l1, b1, g0, g1, t2⟩ := rm6_is hl (by omega) hb hd h6
  obtain ⟨S, hS⟩ : ∃ S, S = rm6 bs d := ⟨_, rfl⟩
  rw [← hS] at l1 b1 g0 g1 t2 ⊢
  have a0 := getD_byte hb 0
  have a1 := getD_byte hb 1
  obtain ⟨y, hy, e1, f1⟩ := be_eight (bs := bs) (by omega) hb
  obtain ⟨z, hz, e2, f2⟩ := be_eight (bs := S) (by omega) b1
  have hzy : z = y := by rw [f1, f2, rm_part t2 (Nat.le_refl _)]
  subst hzy
  have pp : sxPay S = sxPay bs := by unfold sxPay; rw [e1, e2, sxn_two hy, sxn_two hy]
  have nn : sxNext S = sxNext bs := by unfold sxNext; rw [e1, e2, sxn_three hy, sxn_three hy]
  have rr : pkRest S = pkRest bs := by unfold pkRest; rw [pp, rm_part t2 (by decide)]
  have tt : pkTour S = pkTour bs := by unfold pkTour; rw [rr, nn]
  have d1 : sxdef n S = 0 := by
    unfold sxdef
    rw [g0, if_neg (by omega), if_neg (by omega), if_neg (by omega)]
  constructor
  · have hr : sxrest n S = some (pkRest S) := by
      unfold sxrest
      rw [if_pos ⟨d1, by omega⟩]
      rfl
    unfold sxall
    rw [if_neg (fun e => e d1), hr]
    show (pkTour S).defects = []
    rw [tt, hdf]
  · have hf : (pk6 bs).field = bs.getD 0 0 % 16 * 16 + bs.getD 1 0 / 16 := by
      show sxN (be (bs.take 8)) 0 = _
      rw [e1, sxn_field a0 a1 hy]
    have hg : sxN (be (S.take 8)) 0 = d * 4 + (pk6 bs).field % 4 := by
      rw [hf, e2, sxn_field (by omega) (by omega) hy, g0, g1]
      omega
    unfold pk6 at hg ⊢
    rw [hg, pp, tt, rm_part t2 (by decide), rm_part t2 (by decide)]
theorem pk_four_of {n : Nat} {bs : List Nat} (h : pkHeads n bs = []) : (bs.getD 0 0 / 16 = 4 ∧ fhall n bs = [] ∧ pkRec bs = pk4 bs) ∨ (bs.getD 0 0 / 16 = 6 ∧ sxall n bs = [] ∧ pkRec bs = pk6 bs) := by
  unfold pkHeads at h
  split at h
  · cases h
  · split at h
    · rename_i h4
      exact .inl ⟨h4, h, by unfold pkRec; rw [if_pos h4]⟩
    · split at h
      · rename_i h4 h6
        exact .inr ⟨h6, h, by unfold pkRec; rw [if_neg h4]⟩
      · cases h
theorem pkHeads_of4 {n : Nat} {bs : List Nat} (hn : n ≠ 0) (h4 : bs.getD 0 0 / 16 = 4) : pkHeads n bs = fhall n bs ∧ pkRec bs = pk4 bs := by
  unfold pkHeads pkRec
  rw [if_neg hn, if_pos h4, if_pos h4]
  exact ⟨rfl, rfl⟩
theorem pkHeads_of6 {n : Nat} {bs : List Nat} (hn : n ≠ 0) (h6 : bs.getD 0 0 / 16 = 6) : pkHeads n bs = sxall n bs ∧ pkRec bs = pk6 bs := by
  unfold pkHeads pkRec
  rw [if_neg hn, if_neg (by omega), if_pos h6, if_neg (by omega)]
  exact ⟨rfl, rfl⟩
/-- A marked packet has the same record, but for the code point. -/
theorem rm_rec {n d : Nat} {bs : List Nat} (hl : bs.length = n) (hb : ∀ x ∈ bs, x < 256) (hd : d < 64) (h : pkDefs n bs = []) :
    (rmMark bs d).length = n ∧ (∀ x ∈ rmMark bs d, x < 256) ∧ pkDefs n (rmMark bs d) = [] ∧ pkRec (rmMark bs d) = { pkRec bs with field := d * 4 + (pkRec bs).field % 4 } ∧ (pkRec (rmMark bs d)).ports (rmMark bs d) = (pkRec bs).ports bs ∧ (rmMark bs d).getD 0 0 / 16 = bs.getD 0 0 / 16 := by
  have hh := pkHeads_nil h
  obtain ⟨_, g20, gas, gsn, _, _⟩ := pk_good hl hb hh
  have key : (rmMark bs d).length = n ∧ (∀ x ∈ rmMark bs d, x < 256) ∧ pkHeads n (rmMark bs d) = [] ∧ pkRec (rmMark bs d) = { pkRec bs with field := d * 4 + (pkRec bs).field % 4 } ∧ (rmMark bs d).drop 20 = bs.drop 20 ∧ (rmMark bs d).getD 0 0 / 16 = bs.getD 0 0 / 16 := by
    rcases pk_four_of hh with ⟨h4, ha, hr⟩ | ⟨h6, ha, hr⟩
    · obtain ⟨d0, h20, m20, hmt, htn⟩ := fhall_nil ha
      have b1 := getD_byte hb 1
      have e : rmMark bs d = fhseal (bs.set 1 (d * 4 + bs.getD 1 0 % 4)) (4 * (bs.getD 0 0 % 16)) := by unfold rmMark rm4; rw [if_pos h4]
      have M := marked4_is hl hb m20 (by omega) (show d * 4 + bs.getD 1 0 % 4 < 256 by omega)
      rw [← e] at M
      obtain ⟨r1, r2⟩ := M.rec4 rfl ha
      have s0 : (rmMark bs d).getD 0 0 / 16 = 4 := by rw [M.same 0 (by decide) (by decide) (by decide)]; exact h4
      obtain ⟨q1, q2⟩ := pkHeads_of4 (n := n) (by omega) s0
      refine ⟨M.len, M.byte, by rw [q1, r1], by rw [q2, r2, hr]; rfl, ?_, by rw [s0, h4]⟩
      refine rm_drop (by rw [M.len, hl]) fun i hi => M.same i (by omega) (by omega) (by omega)
    · obtain ⟨d0, h40, _, _, _⟩ := sxall_nil hl ha
      have e : rmMark bs d = rm6 bs d := by unfold rmMark; rw [if_neg (by omega)]
      obtain ⟨l1, b1, g0, g1, t2⟩ := rm6_is hl (by omega) hb hd h6
      obtain ⟨r1, r2⟩ := rm6_rec hl hb hd h6 ha
      rw [← e] at l1 b1 g0 g1 t2 r1 r2
      have s0 : (rmMark bs d).getD 0 0 / 16 = 6 := by rw [g0]; omega
      obtain ⟨q1, q2⟩ := pkHeads_of6 (n := n) (by omega) s0
      refine ⟨l1, b1, by rw [q1, r1], by rw [q2, r2, hr], ?_, by rw [s0, h6]⟩
      have e2 : ∀ l : List Nat, l.drop 20 = (l.drop 2).drop 18 := fun l => by rw [List.drop_drop]
      rw [e2, e2, t2]
  obtain ⟨k1, k2, k3, k4, k5, k6⟩ := key
  have hp : (pkRec (rmMark bs d)).ports (rmMark bs d) = (pkRec bs).ports bs := by
    unfold PkRec.ports PkRec.pay
    rw [k4]
    show (if (pkRec bs).has = true then _ else _) = _
    rw [rm_part k5 g20]
  refine ⟨k1, k2, ?_, k4, hp, k6⟩
  unfold pkDefs at h ⊢
  rw [if_neg (fun e => e hh)] at h
  rw [if_neg (fun e => e k3), hp]
  exact h
end Go.Proofs.Ytjpaicdbnadoeaa

namespace Go.Proofs.Ytjpaicdbnadoeaa
set_option linter.unusedVariables false

theorem rm_splice_zero {X Y : List Nat} (hl : X.length = Y.length) (hn : 12 ≤ X.length) (h : ∀ i, i ≠ 10 → i ≠ 11 → X.getD i 0 = Y.getD i 0) : splice X 10 (pb 0 2) = splice Y 10 (pb 0 2) := by
  refine list_getD_ext (by rw [splice_two_length hn, splice_two_length (by omega), hl]) fun i => ?_
  rw [splice_getD (by rw [pb_length]; exact hn), splice_getD (by rw [pb_length]; omega), pb_length]
  split
  · rfl
  · exact h i (by omega) (by omega)
theorem rm_filled_same {X Y : List Nat} (hl : X.length = Y.length) (hn : 12 ≤ X.length) (h : ∀ i, i ≠ 10 → i ≠ 11 → X.getD i 0 = Y.getD i 0) : filled X 10 = filled Y 10 := by
  unfold filled
  rw [rm_splice_zero hl hn h]
theorem rm_seal_same {X Y : List Nat} {m : Nat} (hl : X.length = Y.length) (hm : 12 ≤ m) (hmn : m ≤ X.length) (h : ∀ i, i ≠ 10 → i ≠ 11 → X.getD i 0 = Y.getD i 0) : fhseal X m = fhseal Y m := by
  unfold fhseal
  rw [rm_drop (a := m) hl (fun i hi => h i (by omega) (by omega))]
  congr 1
  refine rm_filled_same (by rw [List.length_take, List.length_take, hl]) (by rw [List.length_take]; omega) fun i h1 h2 => ?_
  by_cases hi : i < m
  · rw [getD_take hi, getD_take hi, h i h1 h2]
  · rw [List.getD_eq_getElem?_getD, List.getD_eq_getElem?_getD, List.getElem?_eq_none (by rw [List.length_take]; omega), List.getElem?_eq_none (by rw [List.length_take]; omega)]
/-- Marked twice is marked once. -/
theorem rm_twice {n d e : Nat} {bs : List Nat} (hl : bs.length = n) (hb : ∀ x ∈ bs, x < 256) (hd : d < 64) (he : e < 64) (h : pkDefs n bs = []) : rmMark (rmMark bs d) e = rmMark bs e := by
  have hh := pkHeads_nil h
  rcases pk_four_of hh with ⟨h4, ha, hr⟩ | ⟨h6, ha, hr⟩
  · obtain ⟨d0, h20, m20, hmt, htn⟩ := fhall_nil ha
    have b1 := getD_byte hb 1
    have e1 : rmMark bs d = fhseal (bs.set 1 (d * 4 + bs.getD 1 0 % 4)) (4 * (bs.getD 0 0 % 16)) := by unfold rmMark rm4; rw [if_pos h4]
    have M := marked4_is hl hb m20 (by omega) (show d * 4 + bs.getD 1 0 % 4 < 256 by omega)
    rw [← e1] at M
    obtain ⟨S, hS⟩ : ∃ S, S = rmMark bs d := ⟨_, rfl⟩
    rw [← hS] at M ⊢
    have g0 := M.same 0 (by decide) (by decide) (by decide)
    have e2 : rmMark S e = fhseal (S.set 1 (e * 4 + bs.getD 1 0 % 4)) (4 * (bs.getD 0 0 % 16)) := by
      unfold rmMark rm4
      rw [g0, if_pos h4, M.one]
      congr 2
      omega
    have e3 : rmMark bs e = fhseal (bs.set 1 (e * 4 + bs.getD 1 0 % 4)) (4 * (bs.getD 0 0 % 16)) := by unfold rmMark rm4; rw [if_pos h4]
    rw [e2, e3]
    refine rm_seal_same (by rw [List.length_set, List.length_set, M.len, hl]) (by omega) (by rw [List.length_set, M.len]; omega) fun i h1 h2 => ?_
    rw [fhput_getD _ _ _ (by rw [M.len]; omega), fhput_getD _ _ _ (by omega)]
    split
    · rfl
    · exact M.same i (by assumption) h1 h2
  · obtain ⟨d0, h40, _, _, _⟩ := sxall_nil hl ha
    obtain ⟨a, b, t, rfl⟩ : ∃ a b t, bs = a :: b :: t := by
      match bs, (show 2 ≤ bs.length by omega) with
      | a :: b :: t, _ => exact ⟨a, b, t, rfl⟩
    have h6 : a / 16 = 6 := h6
    have k : ∀ d, rmMark (a :: b :: t) d = (a / 16 * 16 + d / 4) :: (d % 4 * 64 + b % 64) :: t := fun d => by
      unfold rmMark
      rw [if_neg (show ¬ (a :: b :: t).getD 0 0 / 16 = 4 by show ¬ a / 16 = 4; omega)]
      unfold rm6
      simp
    rw [k d, k e]
    unfold rmMark
    rw [if_neg (show ¬ ((a / 16 * 16 + d / 4) :: (d % 4 * 64 + b % 64) :: t).getD 0 0 / 16 = 4 by show ¬ (a / 16 * 16 + d / 4) / 16 = 4; omega)]
    unfold rm6
    simp
    omega
/-- Marked with its own code point it is as it was, but for FFFF in the place of 0. -/
theorem rm_back {n : Nat} {bs : List Nat} (hl : bs.length = n) (hb : ∀ x ∈ bs, x < 256) (h : pkDefs n bs = []) (hff : bs.getD 0 0 / 16 = 4 → ¬ (bs.getD 10 0 = 255 ∧ bs.getD 11 0 = 255)) : rmMark bs ((pkRec bs).field / 4) = bs := by
  have hh := pkHeads_nil h
  have a0 := getD_byte hb 0
  have a1 := getD_byte hb 1
  rcases pk_four_of hh with ⟨h4, ha, hr⟩ | ⟨h6, ha, hr⟩
  · obtain ⟨d0, h20, m20, hmt, htn⟩ := fhall_nil ha
    have hf : (pkRec bs).field = bs.getD 1 0 := by rw [hr]; rfl
    have hg : orest (wsum 0 (bs.take (4 * (bs.getD 0 0 % 16)))) = 65535 := by
      refine Decidable.byContradiction fun g => ?_
      have h9 := (fhall_nine d0).2 g
      rw [ha] at h9
      cases h9
    rw [hf]
    unfold rmMark rm4
    rw [if_pos h4]
    have e1 : bs.set 1 (bs.getD 1 0 / 4 * 4 + bs.getD 1 0 % 4) = bs := by
      rw [show bs.getD 1 0 / 4 * 4 + bs.getD 1 0 % 4 = bs.getD 1 0 by omega]
      refine list_getD_ext (by rw [List.length_set]) fun i => ?_
      rw [fhput_getD _ _ _ (by omega)]
      split
      · rename_i h1; rw [h1]
      · rfl
    rw [e1]
    unfold fhseal
    have hlt : (bs.take (4 * (bs.getD 0 0 % 16))).length = 4 * (bs.getD 0 0 % 16) := by rw [List.length_take]; omega
    have t0 : (bs.take (4 * (bs.getD 0 0 % 16))).getD 0 0 = bs.getD 0 0 := getD_take (by omega)
    have t10 : (bs.take (4 * (bs.getD 0 0 % 16))).getD 10 0 = bs.getD 10 0 := getD_take (by omega)
    have t11 : (bs.take (4 * (bs.getD 0 0 % 16))).getD 11 0 = bs.getD 11 0 := getD_take (by omega)
    have b10 := getD_byte hb 10
    have b11 := getD_byte hb 11
    have hnf := hff h4
    rw [rm_filled_back (fun x hx => hb x (List.mem_of_mem_take hx)) (by decide) (by rw [hlt]; omega) (by decide) (by rw [t0]; omega) hg (by unfold fhw; rw [t10, t11]; omega), List.take_append_drop]
  · obtain ⟨d0, h40, _, _, _⟩ := sxall_nil hl ha
    obtain ⟨y, hy, e1, f1⟩ := be_eight (bs := bs) (by omega) hb
    have hf0 : (pk6 bs).field = sxN (be (bs.take 8)) 0 := rfl
    rw [hr, hf0, e1, sxn_field a0 a1 hy]
    have hl2 : 2 ≤ bs.length := by omega
    clear e1 f1 hf0 hy ha hr hh h d0 h40 hff
    obtain ⟨a, b, t, rfl⟩ : ∃ a b t, bs = a :: b :: t := by
      match bs, hl2 with
      | a :: b :: t, _ => exact ⟨a, b, t, rfl⟩
    have h6 : a / 16 = 6 := h6
    have a0 : a < 256 := a0
    have a1 : b < 256 := a1
    unfold rmMark
    rw [if_neg (show ¬ (a :: b :: t).getD 0 0 / 16 = 4 by show ¬ a / 16 = 4; omega)]
    unfold rm6
    simp
    constructor <;> omega
end Go.Proofs.Ytjpaicdbnadoeaa
