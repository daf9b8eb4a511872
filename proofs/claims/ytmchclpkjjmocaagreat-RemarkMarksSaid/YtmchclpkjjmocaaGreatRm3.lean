/-
  Plain arithmetic: a field that is put is read back, all other bits stay. Nothing of the program.
  Plain facts of marked packets: their bytes, and the checksum of a header.
  Plain facts of marked packets: their records, marked twice, marked back.
  Plain facts of marked packets: marked twice, marked back; how the bytes differ.
  remark: put, four, six, Mark.
  remark: Unlike.
  What must be of marked packets, whatever is asked (live of layer 16).
-/
import Derived.Test.YtmchclpkjjmocaaGreatPlain
import Derived.Test.YtmchclpkjjmocaaGreatPk7
import Derived.Test.YtmchclpkjjmocaaGreatPk11
import Derived.BigQuiet
import Derived.Test.YtmchclpkjjmocaaGreatBd6
namespace Go.Proofs.YtmchclpkjjmocaaGreat

theorem setb_read (n f c x : Nat) (h : f + c ≤ 64) : setb n f c x / 2 ^ f % 2 ^ c = x % 2 ^ c := by
  apply Nat.eq_of_testBit_eq
  intro j
  rw [Nat.testBit_mod_two_pow, Nat.testBit_mod_two_pow, Nat.testBit_div_two_pow]
  by_cases hj : j < c
  · have e := setb_bit n f c x (j + f) h (by omega)
    rw [if_pos ⟨by omega, by omega⟩, show j + f - f = j from by omega] at e
    simp [hj, e]
  · simp [hj]
theorem setb_low (n f c x : Nat) (h : f + c ≤ 64) : setb n f c x % 2 ^ f = n % 2 ^ f := by
  apply Nat.eq_of_testBit_eq
  intro j
  rw [Nat.testBit_mod_two_pow, Nat.testBit_mod_two_pow]
  by_cases hj : j < f
  · have e := setb_bit n f c x j h (by omega)
    rw [if_neg (by omega)] at e
    simp [hj, e]
  · simp [hj]
theorem setb_back (n f c x : Nat) (h : f + c ≤ 64) (hn : n < 18446744073709551616) : setb (setb n f c x) f c (n / 2 ^ f % 2 ^ c) = n := by
  apply Nat.eq_of_testBit_eq
  intro j
  have e64 : (18446744073709551616 : Nat) = 2 ^ 64 := by decide
  by_cases hj : j < 64
  · rw [setb_bit _ f c _ j h hj]
    by_cases h1 : f ≤ j ∧ j < f + c
    · rw [if_pos h1, Nat.testBit_mod_two_pow, Nat.testBit_div_two_pow]
      have h2 : j - f < c := by omega
      rw [show j - f + f = j from by omega]
      simp [h2]
    · rw [if_neg h1, setb_bit n f c x j h hj, if_neg h1]
  · have h1 : setb (setb n f c x) f c (n / 2 ^ f % 2 ^ c) < 2 ^ 64 := by rw [← e64]; exact setb_lt _ f c _ h
    rw [Nat.testBit_lt_two_pow (Nat.lt_of_lt_of_le h1 (Nat.pow_le_pow_right (by omega) (by omega))), Nat.testBit_lt_two_pow (Nat.lt_of_lt_of_le (by rw [← e64]; exact hn) (Nat.pow_le_pow_right (by omega) (by omega)))]
theorem splice_mid {bs l : List Nat} {a : Nat} (h : a + l.length ≤ bs.length) : ((bs.take a ++ (l ++ bs.drop (a + l.length))).drop a).take l.length = l := by
  have e1 : (bs.take a).length = a := by rw [List.length_take]; omega
  rw [List.drop_append_of_le_length (by omega), List.drop_of_length_le (by omega), List.nil_append, List.take_append_of_le_length (Nat.le_refl _), List.take_of_length_le (Nat.le_refl _)]
theorem splice_out {bs l : List Nat} {a i : Nat} (h : a + l.length ≤ bs.length) (hi : i < a ∨ a + l.length ≤ i) : (bs.take a ++ (l ++ bs.drop (a + l.length))).getD i 0 = bs.getD i 0 := by
  have e1 : (bs.take a).length = a := by rw [List.length_take]; omega
  rw [List.getD_eq_getElem?_getD, List.getD_eq_getElem?_getD]
  rcases hi with hi | hi
  · rw [List.getElem?_append_left (by omega), List.getElem?_take, if_pos hi]
  · rw [List.getElem?_append_right (by omega), e1, List.getElem?_append_right (by omega), List.getElem?_drop]
    rw [show a + l.length + (i - a - l.length) = i from by omega]
end Go.Proofs.YtmchclpkjjmocaaGreat

namespace Go.Proofs.YtmchclpkjjmocaaGreat
set_option linter.unusedVariables false

theorem rm_splice_same {bs l m : List Nat} {a : Nat} (hl : l.length = m.length) (h : a + l.length ≤ bs.length) : splice (splice bs a l) a m = splice bs a m := by
  have la : (splice bs a l).length = bs.length := splice_length h
  have hm : a + m.length ≤ bs.length := by omega
  have hm2 : a + m.length ≤ (splice bs a l).length := by omega
  refine list_getD_ext ((splice_length hm2).trans (la.trans (splice_length hm).symm)) fun i => ?_
  rw [splice_getD hm2, splice_getD h, splice_getD hm]
  by_cases h1 : a ≤ i ∧ i < a + m.length
  · rw [if_pos h1, if_pos h1]
  · rw [if_neg h1, if_neg h1, if_neg (by omega)]
theorem rm_splice_id {bs l : List Nat} {a : Nat} (h : a + l.length ≤ bs.length) (hs : ∀ i, i < l.length → bs.getD (a + i) 0 = l.getD i 0) : splice bs a l = bs := by
  refine list_getD_ext (splice_length h) fun i => ?_
  rw [splice_getD h]
  by_cases h1 : a ≤ i ∧ i < a + l.length
  · rw [if_pos h1, ← hs (i - a) (by omega)]
    congr 1
    omega
  · rw [if_neg h1]
theorem rm_pb_word (bs : List Nat) (h : ∀ x ∈ bs, x < 256) (a : Nat) : pb (fhw bs a) 2 = [bs.getD a 0, bs.getD (a + 1) 0] := by
  have h1 := byte_at h a
  have h2 := byte_at h (a + 1)
  rw [pb_two]
  unfold fhw
  congr 1
  · omega
  · congr 1
    omega
theorem rm_word_split {bs : List Nat} {a : Nat} (ha : a % 2 = 0) (hn : a + 2 ≤ bs.length) : wsum 0 bs = wrest bs a + fhw bs a := by
  rw [wsum_split ha hn]
  unfold fhw
  omega
theorem rm_word_put {bs : List Nat} {a c : Nat} (hn : a + 2 ≤ bs.length) (hc : c ≤ 65535) : fhw (splice bs a (pb c 2)) a = c := by
  unfold fhw
  rw [pb_two, splice_getD (by simpa using hn), splice_getD (by simpa using hn), if_pos (by simp), if_pos (by simp), Nat.sub_self, Nat.add_sub_cancel_left]
  simp
  omega
theorem rm_filled_is (bs : List Nat) (f : Nat) (hf : f % 2 = 0) (hn : f + 2 ≤ bs.length) : filled bs f = splice bs f (pb (65535 - orest (wrest bs f)) 2) := by
  unfold filled
  have h0 := wsum_put (c := 0) hf hn (by decide)
  rw [Nat.add_zero] at h0
  rw [h0]
  exact rm_splice_same (by rw [pb_length, pb_length]) (by rw [pb_length]; exact hn)
theorem rm_filled_fix (bs : List Nat) (h : ∀ x ∈ bs, x < 256) (f : Nat) (hf : f % 2 = 0) (hn : f + 2 ≤ bs.length) (hc : fhw bs f = 65535 - orest (wrest bs f)) : filled bs f = bs := by
  rw [rm_filled_is bs f hf hn, ← hc, rm_pb_word bs h f]
  exact rm_splice_id (by simpa using hn) fun i hi => by
    have hi2 : i < 2 := by simpa using hi
    match i, hi2 with
    | 0, _ => rfl
    | 1, _ => rfl
theorem rm_filled_twice (bs : List Nat) (h : ∀ x ∈ bs, x < 256) (f : Nat) (hf : f % 2 = 0) (hn : f + 2 ≤ bs.length) : filled (filled bs f) f = filled bs f := by
  have e := rm_filled_is bs f hf hn
  refine rm_filled_fix _ (filled_byte h) f hf (by rw [filled_length hn]; exact hn) ?_
  rw [e, rm_word_put hn (by omega), wrest_put hn]
/-- Some word beside the checksum is not 0. -/
theorem rm_rest_pos {bs : List Nat} {f : Nat} (hn : f + 2 ≤ bs.length) (hf0 : 0 < f) (h0 : bs.getD 0 0 ≠ 0) : 0 < wrest bs f := by
  rcases Nat.eq_zero_or_pos (wrest bs f) with h | h
  · exfalso
    unfold wrest at h
    have h1 : wsum 0 (bs.take f) = 0 := by omega
    have h2 := (wsum_zero 0 _).1 h1
    have hlen : 0 < (bs.take f).length := by rw [List.length_take]; omega
    have e3 : (bs.take f).getD 0 0 = bs.getD 0 0 := getD_take hf0
    rw [List.getD_eq_getElem?_getD, List.getElem?_eq_getElem hlen] at e3
    have e5 := h2 _ (List.getElem_mem hlen)
    rw [Option.getD_some, e5] at e3
    exact h0 e3.symm
  · exact h
/-- The checksum that is reckoned is not FFFF. -/
theorem rm_filled_not {bs : List Nat} {f : Nat} (hf : f % 2 = 0) (hn : f + 2 ≤ bs.length) (hf0 : 0 < f) (h0 : bs.getD 0 0 ≠ 0) : fhw (filled bs f) f ≠ 65535 := by
  rw [rm_filled_is bs f hf hn, rm_word_put hn (by omega)]
  have h1 := rm_rest_pos hn hf0 h0
  have h2 := orest_null (wrest bs f)
  have h3 := orest_le (wrest bs f)
  omega
/-- Good bytes hold the checksum that is reckoned, but for FFFF in the place of 0. -/
theorem rm_filled_back {bs : List Nat} {f : Nat} (h : ∀ x ∈ bs, x < 256) (hf : f % 2 = 0) (hn : f + 2 ≤ bs.length) (hf0 : 0 < f) (h0 : bs.getD 0 0 ≠ 0) (hg : orest (wsum 0 bs) = 65535) (hff : fhw bs f ≠ 65535) : filled bs f = bs := by
  refine rm_filled_fix bs h f hf hn ?_
  have h1 := rm_rest_pos hn hf0 h0
  have hw := rm_word_split hf hn
  have hg2 := (orest_full _).1 hg
  rw [hw] at hg2
  have hlt := fhw_lt (fun k => byte_at h k) f
  have e1 := orest_le (wrest bs f)
  have e2 := orest_mod (wrest bs f)
  have e3 := orest_null (wrest bs f)
  generalize orest (wrest bs f) = t at *
  omega
theorem setb_high (n f c x : Nat) (h : f + c ≤ 64) (hn : n < 18446744073709551616) : setb n f c x / 2 ^ (f + c) = n / 2 ^ (f + c) := by
  refine Nat.eq_of_testBit_eq fun j => ?_
  rw [Nat.testBit_div_two_pow, Nat.testBit_div_two_pow]
  by_cases hj : j + (f + c) < 64
  · rw [setb_bit n f c x _ h hj, if_neg (by omega)]
  · have h1 : (setb n f c x).testBit (j + (f + c)) = false := Nat.testBit_lt_two_pow (Nat.lt_of_lt_of_le (setb_lt n f c x h) (by
      rw [show (18446744073709551616 : Nat) = 2 ^ 64 from rfl]; exact Nat.pow_le_pow_right (by decide) (by omega)))
    have h2 : n.testBit (j + (f + c)) = false := Nat.testBit_lt_two_pow (Nat.lt_of_lt_of_le hn (by
      rw [show (18446744073709551616 : Nat) = 2 ^ 64 from rfl]; exact Nat.pow_le_pow_right (by decide) (by omega)))
    rw [h1, h2]
theorem setb_two {n d : Nat} (hn : n < 65536) (hd : d < 64) : setb n 2 6 d = n / 256 * 256 + d * 4 + n % 4 := by
  have h1 := setb_high n 2 6 d (by decide) (by omega)
  have h2 := setb_read n 2 6 d (by decide)
  have h3 := setb_low n 2 6 d (by decide)
  simp only [Nat.reduceAdd, Nat.reducePow] at h1 h2 h3
  omega
theorem setb_six {n d : Nat} (hn : n < 65536) (hd : d < 64) : setb n 6 6 d = n / 4096 * 4096 + d * 64 + n % 64 := by
  have h1 := setb_high n 6 6 d (by decide) (by omega)
  have h2 := setb_read n 6 6 d (by decide)
  have h3 := setb_low n 6 6 d (by decide)
  simp only [Nat.reduceAdd, Nat.reducePow] at h1 h2 h3
  omega
/-- The bytes with another code point, ahead of a new checksum; and marked. -/
def rm4 (bs : List Nat) (d : Nat) : List Nat := bs.set 1 (d * 4 + bs.getD 1 0 % 4)
def rm6 (bs : List Nat) (d : Nat) : List Nat := (bs.set 0 (bs.getD 0 0 / 16 * 16 + d / 4)).set 1 (d % 4 * 64 + bs.getD 1 0 % 64)
def rmMark (bs : List Nat) (d : Nat) : List Nat := if bs.getD 0 0 / 16 = 4 then fhseal (rm4 bs d) (4 * (bs.getD 0 0 % 16)) else rm6 bs d
theorem rm_put_four {bs : List Nat} {d : Nat} (hl : 2 ≤ bs.length) (hb : ∀ x ∈ bs, x < 256) (hd : d < 64) : splice bs 0 (pb (setb (fhw bs 0) 2 6 d) 2) = rm4 bs d := by
  obtain ⟨a, b, t, rfl⟩ : ∃ a b t, bs = a :: b :: t := by
    match bs, hl with
    | a :: b :: t, _ => exact ⟨a, b, t, rfl⟩
  have ha := hb a (by simp)
  have hbb := hb b (by simp)
  have e : fhw (a :: b :: t) 0 = a * 256 + b := rfl
  rw [e, setb_two (by omega) hd, pb_two]
  unfold splice rm4
  simp
  omega
theorem rm_put_six {bs : List Nat} {d : Nat} (hl : 2 ≤ bs.length) (hb : ∀ x ∈ bs, x < 256) (hd : d < 64) : splice bs 0 (pb (setb (fhw bs 0) 6 6 d) 2) = rm6 bs d := by
  obtain ⟨a, b, t, rfl⟩ : ∃ a b t, bs = a :: b :: t := by
    match bs, hl with
    | a :: b :: t, _ => exact ⟨a, b, t, rfl⟩
  have ha := hb a (by simp)
  have hbb := hb b (by simp)
  have e : fhw (a :: b :: t) 0 = a * 256 + b := rfl
  rw [e, setb_six (by omega) hd, pb_two]
  unfold splice rm6
  simp
  omega
end Go.Proofs.YtmchclpkjjmocaaGreat

namespace Go.Proofs.YtmchclpkjjmocaaGreat
set_option linter.unusedVariables false

theorem rm_drop {S bs : List Nat} {a : Nat} (hl : S.length = bs.length) (h : ∀ i, a ≤ i → S.getD i 0 = bs.getD i 0) : S.drop a = bs.drop a := by
  refine list_getD_ext (by rw [List.length_drop, List.length_drop, hl]) fun i => ?_
  have e : ∀ l : List Nat, (l.drop a).getD i 0 = l.getD (a + i) 0 := fun l => by
    rw [List.getD_eq_getElem?_getD, List.getElem?_drop, ← List.getD_eq_getElem?_getD]
  rw [e, e, h _ (by omega)]
theorem rm_part {S bs : List Nat} {a k b : Nat} (h : S.drop a = bs.drop a) (hk : a ≤ k) : (S.drop k).take b = (bs.drop k).take b := by
  have e : ∀ l : List Nat, l.drop k = (l.drop a).drop (k - a) := fun l => by rw [List.drop_drop, show a + (k - a) = k by omega]
  rw [e, e, h]
/-- A marked packet of version 4. -/
structure Marked4 (n m : Nat) (bs : List Nat) (j : Nat) (S : List Nat) : Prop where
  len : S.length = n
  byte : ∀ x ∈ S, x < 256
  one : S.getD 1 0 = j
  same : ∀ i, i ≠ 1 → i ≠ 10 → i ≠ 11 → S.getD i 0 = bs.getD i 0
  tail : S.drop 12 = bs.drop 12
  good : orest (wsum 0 (S.take m)) = 65535
  front : S.take m = filled ((bs.set 1 j).take m) 10
theorem marked4_is {bs : List Nat} {n m j : Nat} (hl : bs.length = n) (hb : ∀ x ∈ bs, x < 256) (hm : 20 ≤ m) (hmn : m ≤ n) (hj : j < 256) : Marked4 n m bs j (fhseal (bs.set 1 j) m) := by
  have h := sealed_is hl hb hm hmn hj
  have hls : (bs.set 1 j).length = n := by rw [List.length_set]; exact hl
  have hsame : ∀ i, i ≠ 1 → i ≠ 10 → i ≠ 11 → (fhseal (bs.set 1 j) m).getD i 0 = bs.getD i 0 := fun i h2 h3 h4 => by
    rw [fhseal_same _ n m i hls (by omega) hmn (by omega), fhput_getD _ _ _ (by omega), if_neg h2]
  refine ⟨h.len, h.byte, h.one, hsame, rm_drop (by rw [h.len, hl]) fun i hi => hsame i (by omega) (by omega) (by omega), fhseal_good (by omega) (by rw [hls]; exact hmn), ?_⟩
  unfold fhseal
  rw [List.take_left' (by rw [filled_length (by rw [List.length_take]; omega), List.length_take]; omega)]
theorem Marked4.rec4 {n m j : Nat} {bs S : List Nat} (h : Marked4 n m bs j S) (hm : m = 4 * (bs.getD 0 0 % 16)) (hh : fhall n bs = []) : fhall n S = [] ∧ pk4 S = { pk4 bs with field := j } := by
  obtain ⟨d0, h20, m20, hmt, htn⟩ := fhall_nil hh
  have g0 := h.same 0 (by decide) (by decide) (by decide)
  have w2 : fhw S 2 = fhw bs 2 := by unfold fhw; rw [h.same 2 (by decide) (by decide) (by decide), h.same 3 (by decide) (by decide) (by decide)]
  have w6 : fhw S 6 = fhw bs 6 := by unfold fhw; rw [h.same 6 (by decide) (by decide) (by decide), h.same 7 (by decide) (by decide) (by decide)]
  have d1 : fhdef n S = 0 := by
    rw [← d0]
    unfold fhdef
    rw [g0]
  have ho : fhopts n S = fhopts n bs := by
    unfold fhopts
    rw [if_pos d0, if_pos d1, g0, rm_part h.tail (by decide)]
  have hg : orest (wsum 0 (bs.take (4 * (bs.getD 0 0 % 16)))) = 65535 := by
    refine Decidable.byContradiction fun g => ?_
    have h9 := (fhall_nine d0).2 g
    rw [hh] at h9
    cases h9
  constructor
  · unfold fhall at hh ⊢
    rw [if_pos d0] at hh
    rw [if_pos d1, ho, g0]
    unfold fhbad at hh ⊢
    rw [hg] at hh
    rw [w2, w6, ← hm, h.good]
    rw [← hm] at hh
    exact hh
  · unfold pk4
    rw [g0, h.one, h.same 6 (by decide) (by decide) (by decide), h.same 9 (by decide) (by decide) (by decide), w2, w6, rm_part h.tail (by decide), rm_part h.tail (by decide)]
/-- A marked packet of version 6. -/
theorem be_eight {bs : List Nat} (hl : 8 ≤ bs.length) (hb : ∀ x ∈ bs, x < 256) : ∃ y, y < 281474976710656 ∧ be (bs.take 8) = bs.getD 0 0 * 72057594037927936 + bs.getD 1 0 * 281474976710656 + y ∧ y = be ((bs.drop 2).take 6) := by
  obtain ⟨a, b, t, rfl⟩ : ∃ a b t, bs = a :: b :: t := by
    match bs, hl with
    | a :: b :: t, _ => exact ⟨a, b, t, rfl⟩
  have ht : (t.take 6).length = 6 := by rw [List.length_take]; simp at hl; omega
  refine ⟨be (t.take 6), ?_, ?_, rfl⟩
  · have h := be_lt (t.take 6) (fun x hx => hb x (by simp [List.mem_of_mem_take hx]))
    rw [ht] at h
    exact h
  · show be (a :: b :: t.take 6) = a * 72057594037927936 + b * 281474976710656 + be (t.take 6)
    rw [be_cons, be_cons, List.length_cons, ht]
    simp only [Nat.reduceAdd, Nat.reducePow]
    omega
theorem sxn_field {a b y : Nat} (ha : a < 256) (hb : b < 256) (hy : y < 281474976710656) : sxN (a * 72057594037927936 + b * 281474976710656 + y) 0 = a % 16 * 16 + b / 16 := by
  unfold sxN
  simp only [Nat.reducePow]
  omega
theorem sxn_two {a b y : Nat} (hy : y < 281474976710656) : sxN (a * 72057594037927936 + b * 281474976710656 + y) 2 = y / 65536 % 65536 := by
  unfold sxN
  simp only [Nat.reducePow]
  omega
theorem sxn_three {a b y : Nat} (hy : y < 281474976710656) : sxN (a * 72057594037927936 + b * 281474976710656 + y) 3 = y / 256 % 256 := by
  unfold sxN
  simp only [Nat.reducePow]
  omega
theorem rm6_is {bs : List Nat} {d n : Nat} (hl : bs.length = n) (hn : 40 ≤ n) (hb : ∀ x ∈ bs, x < 256) (hd : d < 64) (h6 : bs.getD 0 0 / 16 = 6) :
    (rm6 bs d).length = n ∧ (∀ x ∈ rm6 bs d, x < 256) ∧ (rm6 bs d).getD 0 0 = 96 + d / 4 ∧ (rm6 bs d).getD 1 0 = d % 4 * 64 + bs.getD 1 0 % 64 ∧ (rm6 bs d).drop 2 = bs.drop 2 := by
  obtain ⟨a, b, t, rfl⟩ : ∃ a b t, bs = a :: b :: t := by
    match bs, (show 2 ≤ bs.length by omega) with
    | a :: b :: t, _ => exact ⟨a, b, t, rfl⟩
  have e : rm6 (a :: b :: t) d = (a / 16 * 16 + d / 4) :: (d % 4 * 64 + b % 64) :: t := by
    unfold rm6
    simp
  have h6 : a / 16 = 6 := h6
  rw [e]
  refine ⟨hl, fun x hx => ?_, by show a / 16 * 16 + d / 4 = _; omega, rfl, rfl⟩
  have ha := hb a (by simp)
  rcases List.mem_cons.1 hx with rfl | hx
  · omega
  rcases List.mem_cons.1 hx with rfl | hx
  · omega
  · exact hb x (by simp [hx])
theorem rm6_rec {bs : List Nat} {d n : Nat} (hl : bs.length = n) (hb : ∀ x ∈ bs, x < 256) (hd : d < 64) (h6 : bs.getD 0 0 / 16 = 6) (hh : sxall n bs = []) :
    sxall n (rm6 bs d) = [] ∧ pk6 (rm6 bs d) = { pk6 bs with field := d * 4 + (pk6 bs).field % 4 } := by
  obtain ⟨d0, h40, hrest, hrl, hdf⟩ := sxall_nil hl hh
  obtain ⟨l1, b1, g0, g1, t2⟩ := rm6_is hl (by omega) hb hd h6
  obtain ⟨S, hS⟩ : ∃ S, S = rm6 bs d := ⟨_, rfl⟩
  rw [← hS] at l1 b1 g0 g1 t2 ⊢
  have a0 := getD_byte hb 0
  have a1 := getD_byte hb 1
  obtain ⟨y, hy, e1, f1⟩ := be_eight (bs := bs) (by omega) hb
  obtain ⟨z, hz, e2, f2⟩ := be_eight (bs := S) (by omega) b1
  have hzy : z = y := by rw [f1, f2, rm_part t2 (Nat.le_refl _)]
  subst hzy
  have pp : sxPay S = sxPay bs := by unfold sxPay; rw [e1, e2, sxn_two hy, sxn_two hy]
  have nn : sxNext S = sxNext bs := by unfold sxNext; rw [e1, e2, sxn_three hy, sxn_three hy]
  have rr : pkRest S = pkRest bs := by unfold pkRest; rw [pp, rm_part t2 (by decide)]
  have tt : pkTour S = pkTour bs := by unfold pkTour; rw [rr, nn]
  have d1 : sxdef n S = 0 := by
    unfold sxdef
    rw [g0, if_neg (by omega), if_neg (by omega), if_neg (by omega)]
  constructor
  · have hr : sxrest n S = some (pkRest S) := by
      unfold sxrest
      rw [if_pos ⟨d1, by omega⟩]
      rfl
    unfold sxall
    rw [if_neg (fun e => e d1), hr]
    show (pkTour S).defects = []
    rw [tt, hdf]
  · have hf : (pk6 bs).field = bs.getD 0 0 % 16 * 16 + bs.getD 1 0 / 16 := by
      show sxN (be (bs.take 8)) 0 = _
      rw [e1, sxn_field a0 a1 hy]
    have hg : sxN (be (S.take 8)) 0 = d * 4 + (pk6 bs).field % 4 := by
      rw [hf, e2, sxn_field (by omega) (by omega) hy, g0, g1]
      omega
    unfold pk6 at hg ⊢
    rw [hg, pp, tt, rm_part t2 (by decide), rm_part t2 (by decide)]
theorem pk_four_of {n : Nat} {bs : List Nat} (h : pkHeads n bs = []) : (bs.getD 0 0 / 16 = 4 ∧ fhall n bs = [] ∧ pkRec bs = pk4 bs) ∨ (bs.getD 0 0 / 16 = 6 ∧ sxall n bs = [] ∧ pkRec bs = pk6 bs) := by
  unfold pkHeads at h
  split at h
  · cases h
  · split at h
    · rename_i h4
      exact .inl ⟨h4, h, by unfold pkRec; rw [if_pos h4]⟩
    · split at h
      · rename_i h4 h6
        exact .inr ⟨h6, h, by unfold pkRec; rw [if_neg h4]⟩
      · cases h
theorem pkHeads_of4 {n : Nat} {bs : List Nat} (hn : n ≠ 0) (h4 : bs.getD 0 0 / 16 = 4) : pkHeads n bs = fhall n bs ∧ pkRec bs = pk4 bs := by
  unfold pkHeads pkRec
  rw [if_neg hn, if_pos h4, if_pos h4]
  exact ⟨rfl, rfl⟩
theorem pkHeads_of6 {n : Nat} {bs : List Nat} (hn : n ≠ 0) (h6 : bs.getD 0 0 / 16 = 6) : pkHeads n bs = sxall n bs ∧ pkRec bs = pk6 bs := by
  unfold pkHeads pkRec
  rw [if_neg hn, if_neg (by omega), if_pos h6, if_neg (by omega)]
  exact ⟨rfl, rfl⟩
/-- A marked packet has the same record, but for the code point. -/
theorem rm_rec {n d : Nat} {bs : List Nat} (hl : bs.length = n) (hb : ∀ x ∈ bs, x < 256) (hd : d < 64) (h : pkDefs n bs = []) :
    (rmMark bs d).length = n ∧ (∀ x ∈ rmMark bs d, x < 256) ∧ pkDefs n (rmMark bs d) = [] ∧ pkRec (rmMark bs d) = { pkRec bs with field := d * 4 + (pkRec bs).field % 4 } ∧ (pkRec (rmMark bs d)).ports (rmMark bs d) = (pkRec bs).ports bs ∧ (rmMark bs d).getD 0 0 / 16 = bs.getD 0 0 / 16 := by
  have hh := pkHeads_nil h
  obtain ⟨_, g20, gas, gsn, _, _⟩ := pk_good hl hb hh
  have key : (rmMark bs d).length = n ∧ (∀ x ∈ rmMark bs d, x < 256) ∧ pkHeads n (rmMark bs d) = [] ∧ pkRec (rmMark bs d) = { pkRec bs with field := d * 4 + (pkRec bs).field % 4 } ∧ (rmMark bs d).drop 20 = bs.drop 20 ∧ (rmMark bs d).getD 0 0 / 16 = bs.getD 0 0 / 16 := by
    rcases pk_four_of hh with ⟨h4, ha, hr⟩ | ⟨h6, ha, hr⟩
    · obtain ⟨d0, h20, m20, hmt, htn⟩ := fhall_nil ha
      have b1 := getD_byte hb 1
      have e : rmMark bs d = fhseal (bs.set 1 (d * 4 + bs.getD 1 0 % 4)) (4 * (bs.getD 0 0 % 16)) := by unfold rmMark rm4; rw [if_pos h4]
      have M := marked4_is hl hb m20 (by omega) (show d * 4 + bs.getD 1 0 % 4 < 256 by omega)
      rw [← e] at M
      obtain ⟨r1, r2⟩ := M.rec4 rfl ha
      have s0 : (rmMark bs d).getD 0 0 / 16 = 4 := by rw [M.same 0 (by decide) (by decide) (by decide)]; exact h4
      obtain ⟨q1, q2⟩ := pkHeads_of4 (n := n) (by omega) s0
      refine ⟨M.len, M.byte, by rw [q1, r1], by rw [q2, r2, hr]; rfl, ?_, by rw [s0, h4]⟩
      refine rm_drop (by rw [M.len, hl]) fun i hi => M.same i (by omega) (by omega) (by omega)
    · obtain ⟨d0, h40, _, _, _⟩ := sxall_nil hl ha
      have e : rmMark bs d = rm6 bs d := by unfold rmMark; rw [if_neg (by omega)]
      obtain ⟨l1, b1, g0, g1, t2⟩ := rm6_is hl (by omega) hb hd h6
      obtain ⟨r1, r2⟩ := rm6_rec hl hb hd h6 ha
      rw [← e] at l1 b1 g0 g1 t2 r1 r2
      have s0 : (rmMark bs d).getD 0 0 / 16 = 6 := by rw [g0]; omega
      obtain ⟨q1, q2⟩ := pkHeads_of6 (n := n) (by omega) s0
      refine ⟨l1, b1, by rw [q1, r1], by rw [q2, r2, hr], ?_, by rw [s0, h6]⟩
      have e2 : ∀ l : List Nat, l.drop 20 = (l.drop 2).drop 18 := fun l => by rw [List.drop_drop]
      rw [e2, e2, t2]
  obtain ⟨k1, k2, k3, k4, k5, k6⟩ := key
  have hp : (pkRec (rmMark bs d)).ports (rmMark bs d) = (pkRec bs).ports bs := by
    unfold PkRec.ports PkRec.pay
    rw [k4]
    show (if (pkRec bs).has = true then _ else _) = _
    rw [rm_part k5 g20]
  refine ⟨k1, k2, ?_, k4, hp, k6⟩
  unfold pkDefs at h ⊢
  rw [if_neg (fun e => e hh)] at h
  rw [if_neg (fun e => e k3), hp]
  exact h
end Go.Proofs.YtmchclpkjjmocaaGreat

namespace Go.Proofs.YtmchclpkjjmocaaGreat
set_option linter.unusedVariables false

theorem rm_splice_zero {X Y : List Nat} (hl : X.length = Y.length) (hn : 12 ≤ X.length) (h : ∀ i, i ≠ 10 → i ≠ 11 → X.getD i 0 = Y.getD i 0) : splice X 10 (pb 0 2) = splice Y 10 (pb 0 2) := by
  refine list_getD_ext (by rw [splice_two_length hn, splice_two_length (by omega), hl]) fun i => ?_
  rw [splice_getD (by rw [pb_length]; exact hn), splice_getD (by rw [pb_length]; omega), pb_length]
  split
  · rfl
  · exact h i (by omega) (by omega)
theorem rm_filled_same {X Y : List Nat} (hl : X.length = Y.length) (hn : 12 ≤ X.length) (h : ∀ i, i ≠ 10 → i ≠ 11 → X.getD i 0 = Y.getD i 0) : filled X 10 = filled Y 10 := by
  unfold filled
  rw [rm_splice_zero hl hn h]
theorem rm_seal_same {X Y : List Nat} {m : Nat} (hl : X.length = Y.length) (hm : 12 ≤ m) (hmn : m ≤ X.length) (h : ∀ i, i ≠ 10 → i ≠ 11 → X.getD i 0 = Y.getD i 0) : fhseal X m = fhseal Y m := by
  unfold fhseal
  rw [rm_drop (a := m) hl (fun i hi => h i (by omega) (by omega))]
  congr 1
  refine rm_filled_same (by rw [List.length_take, List.length_take, hl]) (by rw [List.length_take]; omega) fun i h1 h2 => ?_
  by_cases hi : i < m
  · rw [getD_take hi, getD_take hi, h i h1 h2]
  · rw [List.getD_eq_getElem?_getD, List.getD_eq_getElem?_getD, List.getElem?_eq_none (by rw [List.length_take]; omega), List.getElem?_eq_none (by rw [List.length_take]; omega)]
/-- Marked twice is marked once. -/
theorem rm_twice {n d e : Nat} {bs : List Nat} (hl : bs.length = n) (hb : ∀ x ∈ bs, x < 256) (hd : d < 64) (he : e < 64) (h : pkDefs n bs = []) : rmMark (rmMark bs d) e = rmMark bs e := by
  have hh := pkHeads_nil h
  rcases pk_four_of hh with ⟨h4, ha, hr⟩ | ⟨h6, ha, hr⟩
  · obtain ⟨d0, h20, m20, hmt, htn⟩ := fhall_nil ha
    have b1 := getD_byte hb 1
    have e1 : rmMark bs d = fhseal (bs.set 1 (d * 4 + bs.getD 1 0 % 4)) (4 * (bs.getD 0 0 % 16)) := by unfold rmMark rm4; rw [if_pos h4]
    have M := marked4_is hl hb m20 (by omega) (show d * 4 + bs.getD 1 0 % 4 < 256 by omega)
    rw [← e1] at M
    obtain ⟨S, hS⟩ : ∃ S, S = rmMark bs d := ⟨_, rfl⟩
    rw [← hS] at M ⊢
    have g0 := M.same 0 (by decide) (by decide) (by decide)
    have e2 : rmMark S e = fhseal (S.set 1 (e * 4 + bs.getD 1 0 % 4)) (4 * (bs.getD 0 0 % 16)) := by
      unfold rmMark rm4
      rw [g0, if_pos h4, M.one]
      congr 2
      omega
    have e3 : rmMark bs e = fhseal (bs.set 1 (e * 4 + bs.getD 1 0 % 4)) (4 * (bs.getD 0 0 % 16)) := by unfold rmMark rm4; rw [if_pos h4]
    rw [e2, e3]
    refine rm_seal_same (by rw [List.length_set, List.length_set, M.len, hl]) (by omega) (by rw [List.length_set, M.len]; omega) fun i h1 h2 => ?_
    rw [fhput_getD _ _ _ (by rw [M.len]; omega), fhput_getD _ _ _ (by omega)]
    split
    · rfl
    · exact M.same i (by assumption) h1 h2
  · obtain ⟨d0, h40, _, _, _⟩ := sxall_nil hl ha
    obtain ⟨a, b, t, rfl⟩ : ∃ a b t, bs = a :: b :: t := by
      match bs, (show 2 ≤ bs.length by omega) with
      | a :: b :: t, _ => exact ⟨a, b, t, rfl⟩
    have h6 : a / 16 = 6 := h6
    have k : ∀ d, rmMark (a :: b :: t) d = (a / 16 * 16 + d / 4) :: (d % 4 * 64 + b % 64) :: t := fun d => by
      unfold rmMark
      rw [if_neg (show ¬ (a :: b :: t).getD 0 0 / 16 = 4 by show ¬ a / 16 = 4; omega)]
      unfold rm6
      simp
    rw [k d, k e]
    unfold rmMark
    rw [if_neg (show ¬ ((a / 16 * 16 + d / 4) :: (d % 4 * 64 + b % 64) :: t).getD 0 0 / 16 = 4 by show ¬ (a / 16 * 16 + d / 4) / 16 = 4; omega)]
    unfold rm6
    simp
    omega
/-- Marked with its own code point it is as it was, but for FFFF in the place of 0. -/
theorem rm_back {n : Nat} {bs : List Nat} (hl : bs.length = n) (hb : ∀ x ∈ bs, x < 256) (h : pkDefs n bs = []) (hff : bs.getD 0 0 / 16 = 4 → ¬ (bs.getD 10 0 = 255 ∧ bs.getD 11 0 = 255)) : rmMark bs ((pkRec bs).field / 4) = bs := by
  have hh := pkHeads_nil h
  have a0 := getD_byte hb 0
  have a1 := getD_byte hb 1
  rcases pk_four_of hh with ⟨h4, ha, hr⟩ | ⟨h6, ha, hr⟩
  · obtain ⟨d0, h20, m20, hmt, htn⟩ := fhall_nil ha
    have hf : (pkRec bs).field = bs.getD 1 0 := by rw [hr]; rfl
    have hg : orest (wsum 0 (bs.take (4 * (bs.getD 0 0 % 16)))) = 65535 := by
      refine Decidable.byContradiction fun g => ?_
      have h9 := (fhall_nine d0).2 g
      rw [ha] at h9
      cases h9
    rw [hf]
    unfold rmMark rm4
    rw [if_pos h4]
    have e1 : bs.set 1 (bs.getD 1 0 / 4 * 4 + bs.getD 1 0 % 4) = bs := by
      rw [show bs.getD 1 0 / 4 * 4 + bs.getD 1 0 % 4 = bs.getD 1 0 by omega]
      refine list_getD_ext (by rw [List.length_set]) fun i => ?_
      rw [fhput_getD _ _ _ (by omega)]
      split
      · rename_i h1; rw [h1]
      · rfl
    rw [e1]
    unfold fhseal
    have hlt : (bs.take (4 * (bs.getD 0 0 % 16))).length = 4 * (bs.getD 0 0 % 16) := by rw [List.length_take]; omega
    have t0 : (bs.take (4 * (bs.getD 0 0 % 16))).getD 0 0 = bs.getD 0 0 := getD_take (by omega)
    have t10 : (bs.take (4 * (bs.getD 0 0 % 16))).getD 10 0 = bs.getD 10 0 := getD_take (by omega)
    have t11 : (bs.take (4 * (bs.getD 0 0 % 16))).getD 11 0 = bs.getD 11 0 := getD_take (by omega)
    have b10 := getD_byte hb 10
    have b11 := getD_byte hb 11
    have hnf := hff h4
    rw [rm_filled_back (fun x hx => hb x (List.mem_of_mem_take hx)) (by decide) (by rw [hlt]; omega) (by decide) (by rw [t0]; omega) hg (by unfold fhw; rw [t10, t11]; omega), List.take_append_drop]
  · obtain ⟨d0, h40, _, _, _⟩ := sxall_nil hl ha
    obtain ⟨y, hy, e1, f1⟩ := be_eight (bs := bs) (by omega) hb
    have hf0 : (pk6 bs).field = sxN (be (bs.take 8)) 0 := rfl
    rw [hr, hf0, e1, sxn_field a0 a1 hy]
    have hl2 : 2 ≤ bs.length := by omega
    clear e1 f1 hf0 hy ha hr hh h d0 h40 hff
    obtain ⟨a, b, t, rfl⟩ : ∃ a b t, bs = a :: b :: t := by
      match bs, hl2 with
      | a :: b :: t, _ => exact ⟨a, b, t, rfl⟩
    have h6 : a / 16 = 6 := h6
    have a0 : a < 256 := a0
    have a1 : b < 256 := a1
    unfold rmMark
    rw [if_neg (show ¬ (a :: b :: t).getD 0 0 / 16 = 4 by show ¬ a / 16 = 4; omega)]
    unfold rm6
    simp
    constructor <;> omega
end Go.Proofs.YtmchclpkjjmocaaGreat

namespace Go.Proofs.YtmchclpkjjmocaaGreat
open Go.RowKit
set_option linter.unusedVariables false
set_option maxRecDepth 8000

theorem rm_u64 {d : Nat} (h : d < 64) : IntKind.u64.wrap (d : Int) = (d : Int) := by
  show (d : Int) % 18446744073709551616 = _
  omega
/-- Own memory, told as one value. -/
def OneTo (w : World) (l : List Nat) (n : Nat) (e : Ending) (w' : World) : Prop := ∃ g, w.heap.size ≤ g ∧ e = .returned (.slice (some ⟨g, 0, none⟩) n n) ∧ Own w' g l ∧ Below w.heap.size w w'
set_option maxHeartbeats 1600000 in
theorem rmput_any (A : Option Addr) (n c : Nat) (bs : List Nat) (f d : Nat) (w : World) (h2 : 2 ≤ n) (hn2 : n ≤ 140737488355328) (hc : n ≤ c) (hR : Row w A n bs) (hf : f ≤ 58) (hd : d < 64) (hx : setb (fhw bs 0) f 6 d < 65536) :
    Calls Tryz.prog 24 #[.slice A n c, .int .i64 (f : Nat), .int .i64 (d : Nat)] w (OneTo w (splice bs 0 (pb (setb (fhw bs 0) f 6 d) 2)) n) := by
  have hw := fhw_lt hR.byte 0
  have CG := Lib.hid (get_ok A n c 0 2 bs w (by omega) hc (by decide) (by decide) (by omega) hR)
  rw [be_two bs 0 (by rw [hR.1]; omega)] at CG
  rw [show bs.getD 0 0 * 256 + bs.getD (0 + 1) 0 = fhw bs 0 from rfl] at CG
  have CS := Lib.hid (setbits_ok (fhw bs 0) f 6 d w (by omega) (by omega) (by omega))
  have CP := Lib.hid (put_new A n c (setb (fhw bs 0) f 6 d) 0 2 bs w hc hn2 (by decide) (by decide) hx (by omega) hR)
  unfold PutTo at CP
  have hsl : (splice bs 0 (pb (setb (fhw bs 0) f 6 d) 2)).length = n := by rw [splice_two_length (by rw [hR.1]; omega)]; exact hR.1
  rw [hsl] at CP
  obtain ⟨x, hxe⟩ : ∃ x, x = fhw bs 0 := ⟨_, rfl⟩
  rw [← hxe] at CG CS CP hx hsl ⊢
  obtain ⟨y, hye⟩ : ∃ y, y = setb x f 6 d := ⟨_, rfl⟩
  rw [← hye] at CS CP hx hsl ⊢
  obtain ⟨S, hS⟩ : ∃ S, S = splice bs 0 (pb y 2) := ⟨_, rfl⟩
  rw [← hS] at CP ⊢
  have hu := rm_u64 hd
  unfold OneTo
  clear hw hxe hye hS hsl hx hR hn2 hc h2 hf hd
  go_enter Tryz.func24, Tryz.ntmps24
  go_wp2_with fail
  refine CG.out.mono ?_
  rintro e w' ⟨rfl, rfl⟩
  go_wp2_with fail
  refine CS.out.mono ?_
  rintro e w' ⟨rfl, rfl⟩
  go_wp2_with fail
  refine CP.out.mono ?_
  rintro e w' ⟨rfl, ho, hb⟩
  have HO := Lib.hid ho
  have HB := Lib.hid hb
  clear ho hb
  go_wp2_with fail
  go_ret
  exact ⟨_, Nat.le_refl _, rfl, HO.out, HB.out⟩
theorem rmsix_any (A : Option Addr) (n c : Nat) (bs : List Nat) (d : Nat) (w : World) (h2 : 2 ≤ n) (hn2 : n ≤ 140737488355328) (hc : n ≤ c) (hR : Row w A n bs) (hd : d < 64) :
    Calls Tryz.prog 13 #[.slice A n c, .int .i64 (d : Nat)] w (OneTo w (rm6 bs d) n) := by
  have hw := fhw_lt hR.byte 0
  have C := Lib.hid (rmput_any A n c bs 6 d w h2 hn2 hc hR (by decide) hd (by rw [setb_six (by omega) hd]; omega))
  rw [rm_put_six (by rw [hR.1]; exact h2) hR.2.1 hd] at C
  unfold OneTo at C ⊢
  clear hw hR hn2 hc h2 hd
  go_enter Tryz.func13, Tryz.ntmps13
  go_wp2_with fail
  refine C.out.mono ?_
  rintro e w' ⟨g, hg, rfl, ho, hb⟩
  have HO := Lib.hid ho
  have HB := Lib.hid hb
  have HG := Lib.hid hg
  clear ho hb hg
  go_wp2_with fail
  go_ret
  exact ⟨_, HG.out, rfl, HO.out, HB.out⟩
theorem rmfour_any (A : Option Addr) (n c : Nat) (bs : List Nat) (d : Nat) (w : World) (h2 : 20 ≤ n) (hn2 : n ≤ 140737488355328) (hc : n ≤ c) (hR : Row w A n bs) (hd : d < 64) (hdf : fhdef n bs = 0) :
    Calls Tryz.prog 14 #[.slice A n c, .int .i64 (d : Nat)] w fun e w' => ∃ v, e = .returned v ∧ OutIs w.heap.size w' v (fhseal (rm4 bs d) (4 * (bs.getD 0 0 % 16))) ∧ Below w.heap.size w w' := by
  have hw := fhw_lt hR.byte 0
  have b1 := hR.byte 1
  have C := Lib.hid (rmput_any A n c bs 2 d w (by omega) hn2 hc hR (by decide) hd (by rw [setb_two (by omega) hd]; omega))
  rw [rm_put_four (by rw [hR.1]; omega) hR.2.1 hd] at C
  unfold OneTo at C
  have g0 : (rm4 bs d).getD 0 0 = bs.getD 0 0 := by unfold rm4; rw [fhput_getD _ _ _ (by rw [hR.1]; omega), if_neg (by decide)]
  have hby : ∀ x ∈ rm4 bs d, x < 256 := fun x hx => by
    unfold rm4 at hx
    rcases List.mem_or_eq_of_mem_set hx with h | h
    · exact hR.2.1 x h
    · omega
  have hll : (rm4 bs d).length = n := by unfold rm4; rw [List.length_set]; exact hR.1
  have CS : Hid (∀ (g : Nat) (W : World), Own W g (rm4 bs d) → Calls Tryz.prog 25 #[.slice (some ⟨g, 0, none⟩) n n] W (SealIs W (fhseal (rm4 bs d) (4 * (bs.getD 0 0 % 16))))) := fun g W h => by
    have hr := h.row hby
    rw [hll] at hr
    have h3 := fhseal_ok (some ⟨g, 0, none⟩) n n (rm4 bs d) W hn2 (Nat.le_refl _) hr (by
      unfold fhdef at hdf ⊢
      rw [g0]
      exact hdf)
    rw [g0] at h3
    exact h3
  unfold SealIs at CS
  clear hw b1 g0 hby hll hR hn2 hc h2 hd hdf
  go_enter Tryz.func14, Tryz.ntmps14
  go_wp2_with fail
  refine C.out.mono ?_
  rintro e w1 ⟨g, hg, rfl, ho, hb⟩
  have HO := Lib.hid ho
  have HB := Lib.hid hb
  clear ho hb hg
  go_wp2_with fail
  refine (CS.out _ _ HO.out).mono ?_
  rintro e w2 ⟨v, rfl, ho2, hb2⟩
  have HO2 := Lib.hid ho2
  have HB2 := Lib.hid (below_both HB.out hb2)
  clear ho2 hb2
  go_wp2_with fail
  go_ret
  exact ⟨_, rfl, HO2.out.mono HB.out.size, HB2.out⟩
def rmRes (n : Nat) (bs : List Nat) (d : Int) : Nat × Nat := if 0 ≤ d ∧ d < 64 then (pkTold n bs, 0) else (0, 14)
def rmOut (n : Nat) (bs : List Nat) (d : Int) : List Nat := if 0 ≤ d ∧ d < 64 then (if pkDefs n bs = [] then rmMark bs d.toNat else []) else []
set_option maxHeartbeats 3200000 in
theorem rmmark_any (A : Option Addr) (n c : Nat) (bs : List Nat) (d : Int) (w : World) (hn2 : n ≤ 140737488351232) (hc : n ≤ c) (hR : Row w A n bs) :
    Calls Tryz.prog 5 #[.slice A n c, .int .i64 d] w fun e w' => ∃ v, e = .returned (.tuple #[v, .int .i64 ((rmRes n bs d).1 : Nat), .int .i64 ((rmRes n bs d).2 : Nat)]) ∧ OutIs w.heap.size w' v (rmOut n bs d) ∧ Below w.heap.size w w' := by
  have CJ := Lib.hid (ptjoin_any d 0 w)
  unfold ptJoin at CJ
  by_cases hd : 0 ≤ d ∧ d < 64
  · obtain ⟨j, rfl⟩ : ∃ j : Nat, d = (j : Nat) := ⟨d.toNat, by omega⟩
    have hj : j < 64 := by omega
    rw [if_pos hd, if_pos (by decide)] at CJ
    have hres : rmRes n bs (j : Int) = (pkTold n bs, 0) := by unfold rmRes; rw [if_pos hd]
    have hout : rmOut n bs (j : Int) = if pkDefs n bs = [] then rmMark bs j else [] := by unfold rmOut; rw [if_pos hd, Int.toNat_natCast]
    rw [hres, hout]
    have CP := Lib.hid (pkparse_any A n c bs w hn2 hc hR)
    obtain ⟨Hl, Ho⟩ := pkHead_all hR.1 hR.2.1
    have hlitZ := hd_lit
    obtain ⟨Z, hZ⟩ : ∃ Z, Z = hdCells RZ false 0 0 := ⟨_, rfl⟩
    have hZl : Z.length = 40 := by rw [hZ]; rfl
    rw [← hZ] at hlitZ
    by_cases hD : pkDefs n bs = []
    · rw [if_pos hD]
      have hh := pkHeads_nil hD
      have ok := pkRec_ok hR.1 hR.2.1 hh
      obtain ⟨hv46, g20, gas, gsn, _, _⟩ := pk_good hR.1 hR.2.1 hh
      obtain ⟨v, hv⟩ : ∃ v, v = (pkRec bs).v := ⟨_, rfl⟩
      have h0 : (pkHead n bs)[0]? = some (.int .i64 (v : Nat)) := by
        unfold pkHead
        rw [if_pos hD, hv]
        rfl
      have hdz := pkTold_nil hD
      rw [hdz] at CP ⊢
      obtain ⟨H, hH⟩ : ∃ H, H = pkHead n bs := ⟨_, rfl⟩
      rw [← hH] at CP Hl Ho h0
      have H0 := Lib.hid h0
      rw [← hv] at hv46
      have HR := Lib.hid hR
      rcases pk_four_of hh with ⟨h4, ha, hr⟩ | ⟨h6, ha, hr⟩
      · have hv4 : v = 4 := by rw [hv, hr]; rfl
        subst hv4
        have hdf := (fhall_nil ha).1
        have e : rmMark bs j = fhseal (rm4 bs j) (4 * (bs.getD 0 0 % 16)) := by unfold rmMark; rw [if_pos h4]
        rw [e]
        have CF : Hid (∀ W, Row W A n bs → Calls Tryz.prog 14 #[.slice A n c, .int .i64 (j : Nat)] W fun e w' => ∃ v, e = .returned v ∧ OutIs W.heap.size w' v (fhseal (rm4 bs j) (4 * (bs.getD 0 0 % 16))) ∧ Below W.heap.size W w') := fun W h => rmfour_any A n c bs j W (by omega) (by omega) hc h hj hdf
        clear hD hh ok hv46 g20 gas gsn hv h0 hdz hH hr ha h4 hdf e hZ hres hout hj hd hn2 hc hR
        go_enter Tryz.func5, Tryz.ntmps5
        go_wp2_with fail
        refine CJ.out.mono ?_
        rintro e w' ⟨rfl, rfl⟩
        go_wp2_with fail
        refine CP.out.mono ?_
        rintro e w1 ⟨rfl, b1⟩
        go_upto_region 5 with (first | refine wpList_store_v rfl 37 (.tmp 9) (.tmp 23) rfl _ rfl tyhead (ArrV.new _ _ Z) hZl H Hl Ho rfl ?_ | fail)
        obtain ⟨V1, e1⟩ : ∃ V, V = (w1.alloc (.cells Z.toArray 37)).setCells w1.heap.size 0 H := ⟨_, rfl⟩
        obtain ⟨x1, hb1⟩ := ArrV.laid 37 w1 Z H (by rw [Hl, hZl])
        rw [← e1] at x1 hb1 ⊢
        have c0 := (x1.get 0).trans H0.out
        have B1 := Lib.hid (below_both b1 hb1)
        obtain ⟨g1, hg1⟩ : ∃ g, g = w1.heap.size := ⟨_, rfl⟩
        rw [← hg1] at c0 ⊢
        clear e1 x1 hb1 b1 hg1
        go_wp2_with fail
        refine (CF.out _ (HR.out.below B1.out)).mono ?_
        rintro e w2 ⟨v, rfl, ho2, hb2⟩
        have HO2 := Lib.hid ho2
        have HB2 := Lib.hid (below_both B1.out hb2)
        clear ho2 hb2
        go_wp2_with fail
        go_ret3
        exact ⟨_, rfl, HO2.out.mono B1.out.size, HB2.out⟩
      · have hv6 : v = 6 := by rw [hv, hr]; rfl
        subst hv6
        have e : rmMark bs j = rm6 bs j := by unfold rmMark; rw [if_neg (by omega)]
        rw [e]
        have hlen : n ≤ maxLen := Nat.le_trans hn2 (by decide)
        have h66 : (rm6 bs j).length = n := (rm6_is hR.1 (by have := (sxall_nil hR.1 ha).2.1; omega) hR.2.1 hj h6).1
        have CF : Hid (∀ W, Row W A n bs → Calls Tryz.prog 13 #[.slice A n c, .int .i64 (j : Nat)] W fun e w' => ∃ v, e = .returned v ∧ OutIs W.heap.size w' v (rm6 bs j) ∧ Below W.heap.size W w') := fun W h => (rmsix_any A n c bs j W (by omega) (by omega) hc h hj).mono fun e w' h => by
          obtain ⟨g, hg, rfl, ho, hb⟩ := h
          have h2 := own_out ho hg (by rw [h66]; exact hlen)
          rw [h66] at h2
          exact ⟨_, rfl, h2, hb⟩
        clear hD hh ok hv46 g20 gas gsn hv h0 hdz hH hr ha h6 e hlen h66 hZ hres hout hj hd hn2 hc hR
        go_enter Tryz.func5, Tryz.ntmps5
        go_wp2_with fail
        refine CJ.out.mono ?_
        rintro e w' ⟨rfl, rfl⟩
        go_wp2_with fail
        refine CP.out.mono ?_
        rintro e w1 ⟨rfl, b1⟩
        go_upto_region 5 with (first | refine wpList_store_v rfl 37 (.tmp 9) (.tmp 23) rfl _ rfl tyhead (ArrV.new _ _ Z) hZl H Hl Ho rfl ?_ | fail)
        obtain ⟨V1, e1⟩ : ∃ V, V = (w1.alloc (.cells Z.toArray 37)).setCells w1.heap.size 0 H := ⟨_, rfl⟩
        obtain ⟨x1, hb1⟩ := ArrV.laid 37 w1 Z H (by rw [Hl, hZl])
        rw [← e1] at x1 hb1 ⊢
        have c0 := (x1.get 0).trans H0.out
        have B1 := Lib.hid (below_both b1 hb1)
        obtain ⟨g1, hg1⟩ : ∃ g, g = w1.heap.size := ⟨_, rfl⟩
        rw [← hg1] at c0 ⊢
        clear e1 x1 hb1 b1 hg1
        go_wp2_with fail
        refine (CF.out _ (HR.out.below B1.out)).mono ?_
        rintro e w2 ⟨v, rfl, ho2, hb2⟩
        have HO2 := Lib.hid ho2
        have HB2 := Lib.hid (below_both B1.out hb2)
        clear ho2 hb2
        go_wp2_with fail
        go_ret3
        exact ⟨_, rfl, HO2.out.mono B1.out.size, HB2.out⟩
    · rw [if_neg hD]
      have hne : pkTold n bs ≠ 0 := fun h => hD (pkTold_zero.1 h)
      obtain ⟨H, hH⟩ : ∃ H, H = pkHead n bs := ⟨_, rfl⟩
      obtain ⟨t, ht⟩ : ∃ d, d = pkTold n bs := ⟨_, rfl⟩
      rw [← hH, ← ht] at CP
      rw [← hH] at Hl Ho
      rw [← ht] at hne ⊢
      have db : ((t : Int) != 0) = true := bne_iff_ne.2 (by omega)
      clear hH ht hD hne hZ hres hout hj hd hn2 hc hR
      go_enter Tryz.func5, Tryz.ntmps5
      go_wp2_with fail
      refine CJ.out.mono ?_
      rintro e w' ⟨rfl, rfl⟩
      go_wp2_with fail
      refine CP.out.mono ?_
      rintro e w1 ⟨rfl, b1⟩
      go_upto_region 5 with (first | refine wpList_store_v rfl 37 (.tmp 9) (.tmp 23) rfl _ rfl tyhead (ArrV.new _ _ Z) hZl H Hl Ho rfl ?_ | fail)
      obtain ⟨V1, e1⟩ : ∃ V, V = (w1.alloc (.cells Z.toArray 37)).setCells w1.heap.size 0 H := ⟨_, rfl⟩
      obtain ⟨x1, hb1⟩ := ArrV.laid 37 w1 Z H (by rw [Hl, hZl])
      rw [← e1] at x1 hb1 ⊢
      have B1 := Lib.hid (below_both b1 hb1)
      clear e1 x1 hb1 b1
      go_wp2_with fail
      go_ret3
      exact ⟨_, rfl, OutIs.nil _ _, B1.out⟩
  · rw [if_neg hd] at CJ
    have hres : rmRes n bs d = (0, 14) := by unfold rmRes; rw [if_neg hd]
    have hout : rmOut n bs d = [] := by unfold rmOut; rw [if_neg hd]
    rw [hres, hout]
    clear hres hout hd hn2 hc hR
    go_enter Tryz.func5, Tryz.ntmps5
    go_wp2_with fail
    refine CJ.out.mono ?_
    rintro e w' ⟨rfl, rfl⟩
    go_wp2_with fail
    go_ret3
    exact ⟨_, rfl, OutIs.nil _ _, Below.refl _ _⟩
end Go.Proofs.YtmchclpkjjmocaaGreat

namespace Go.Proofs.YtmchclpkjjmocaaGreat
open Go.RowKit
set_option linter.unusedVariables false
set_option maxRecDepth 8000

/-- How many of a byte's first bits are 1. -/
def popF (u : Nat) : Nat → Nat
  | 0 => 0
  | k + 1 => popF u k + u / 2 ^ k % 2
theorem popF_le (u : Nat) : ∀ k, popF u k ≤ k
  | 0 => Nat.le_refl _
  | k + 1 => by
    have := popF_le u k
    show popF u k + u / 2 ^ k % 2 ≤ k + 1
    omega
def unF (a b : List Nat) : Nat → Nat
  | 0 => 0
  | i + 1 => unF a b i + popF (a.getD i 0 ^^^ b.getD i 0) 8
theorem unF_le (a b : List Nat) : ∀ k, unF a b k ≤ 8 * k
  | 0 => Nat.le_refl _
  | k + 1 => by
    have := unF_le a b k
    have := popF_le (a.getD k 0 ^^^ b.getD k 0) 8
    show unF a b k + popF (a.getD k 0 ^^^ b.getD k 0) 8 ≤ 8 * (k + 1)
    omega
def unlike (n m : Nat) (a b : List Nat) : Nat := 8 * (n - min n m + m - min n m) + unF a b (min n m)
theorem xor_u8 {a b : Nat} (ha : a < 256) (hb : b < 256) : bits .xor .u8 (a : Int) (b : Int) = ((a ^^^ b : Nat) : Int) ∧ a ^^^ b < 256 := by
  have h : a ^^^ b < 2 ^ 8 := Nat.xor_lt_two_pow (by omega) (by omega)
  refine ⟨?_, h⟩
  have e1 : a % 2 ^ IntKind.u8.bits = a := Nat.mod_eq_of_lt ha
  have e2 : b % 2 ^ IntKind.u8.bits = b := Nat.mod_eq_of_lt hb
  simp [bits]
  rw [e1, e2]
  show ((a ^^^ b : Nat) : Int) % 256 = _
  omega
theorem low_u8 {x : Nat} (hx : x < 256) : bits .and .u8 (x : Int) 1 = ((x % 2 : Nat) : Int) := by
  have h := u8_and_nat x 1 (by omega) (by decide)
  rw [Nat.and_one_is_mod] at h
  exact h
theorem un_pos {i k n : Nat} (h : i < k) (hk : k ≤ n) : 0 < n := by omega
theorem un_eight {t : Nat} (h : t < 8) : t = 0 ∨ t = 1 ∨ t = 2 ∨ t = 3 ∨ t = 4 ∨ t = 5 ∨ t = 6 ∨ t = 7 := by omega
theorem un_t {t : Nat} (h : t < 8) : wrap64 ((t : Int) + 1) = ((t + 1 : Nat) : Int) := by unfold wrap64; omega
theorem un_step {i k n m : Nat} (h : i < k) (hk : k ≤ n ∧ k ≤ m) (hs : n + m ≤ 281474976710656) : (i : Int) < (k : Int) ∧ (i : Int) < (n : Int) ∧ (i : Int) < (m : Int) ∧ (0 : Int) ≤ (i : Int) ∧ wrap64 ((i : Int) + 1) = ((i + 1 : Nat) : Int) :=
  ⟨by omega, by omega, by omega, by omega, by unfold wrap64; omega⟩
theorem un_start {n m k S : Nat} (hn : n ≤ 140737488355328) (hm : m ≤ 140737488355328) (hk : k = min n m) (hS : S = 8 * (n - k + m - k)) :
    k ≤ n ∧ k ≤ m ∧ wrap64 ((n : Int) - (k : Int)) = (n : Int) - (k : Int) ∧ wrap64 ((n : Int) - (k : Int) + (m : Int)) = (n : Int) - (k : Int) + (m : Int) ∧ wrap64 ((n : Int) - (k : Int) + (m : Int) - (k : Int)) = (n : Int) - (k : Int) + (m : Int) - (k : Int) ∧ wrap64 (8 * ((n : Int) - (k : Int) + (m : Int) - (k : Int))) = 8 * ((n : Int) - (k : Int) + (m : Int) - (k : Int)) ∧
    8 * ((n : Int) - (k : Int) + (m : Int) - (k : Int)) = (S : Int) ∧ min (n : Int) (m : Int) = (k : Int) ∧ (if m < n then (m : Int) else (n : Int)) = (k : Int) ∧ S ≤ 8 * (n + m) ∧ n + m ≤ 281474976710656 :=
  ⟨by omega, by omega, by unfold wrap64; omega, by unfold wrap64; omega, by unfold wrap64; omega, by unfold wrap64; omega, by omega, by omega, by split <;> omega, by omega, by omega⟩
theorem un_small {y z S n m k i t A B : Nat} (hy : y = z + B) (hz : z = S + A) (hs : S ≤ 8 * (n + m) ∧ n + m ≤ 281474976710656) (hik : i ≤ k ∧ i < k) (hk : k ≤ n ∧ k ≤ m) (hb : B ≤ t) (ha : A ≤ 8 * i) (ht : t < 8) : y ≤ 9007199254740992 := by omega
theorem un_meas {i k : Nat} (h : i < k) : k - (i + 1) < k - i := by omega
theorem un_meas2 {i k : Nat} (h : i < k) : k - (intOf (.int .i64 ((i + 1 : Nat) : Int))).toNat < k - (intOf (.int .i64 (i : Int))).toNat := by
  have e : ∀ j : Nat, (intOf (.int .i64 (j : Int))).toNat = j := fun j => rfl
  rw [e, e]
  omega
theorem un_wraps {y b : Nat} (hy : y ≤ 9007199254740992) (hb : b < 2) : wrap64 (b : Int) = (b : Int) ∧ wrap64 ((y : Int) + (b : Int)) = ((y + b : Nat) : Int) := by
  constructor
  · unfold wrap64; omega
  · unfold wrap64; omega
set_option maxHeartbeats 3200000 in
theorem unlike_any (A B : Option Addr) (n c m d : Nat) (xs ys : List Nat) (w : World) (hn : n ≤ 140737488355328) (hm : m ≤ 140737488355328) (hA : Row w A n xs) (hB : Row w B m ys) :
    Calls Tryz.prog 9 #[.slice A n c, .slice B m d] w fun e w' => e = .returned (.int .i64 (unlike n m xs ys : Nat)) ∧ ∃ q, w' = w.drewN q := by
  obtain ⟨k, hk⟩ : ∃ k, k = min n m := ⟨_, rfl⟩
  obtain ⟨S, hS⟩ : ∃ S, S = 8 * (n - k + m - k) := ⟨_, rfl⟩
  obtain ⟨hkn, hkm, i1, i2, i3, i4, hSI, hkI, hsel, hSL⟩ := un_start hn hm hk hS
  have HU : Hid (unlike n m xs ys = S + unF xs ys k) := by show _ = _; unfold unlike; rw [← hk, hS]
  have HRA := Lib.hid hA
  have HRB := Lib.hid hB
  have HK := Lib.hid (And.intro hkn hkm)
  have HSL := Lib.hid hSL
  clear hS hA hB hSL hkn hkm
  go_enter Tryz.func9, Tryz.ntmps9
  go_upto_region 3 with fail
  rw [← hk, hSI]
  clear i1 i2 i3 i4 hkI hsel hSI hk hn hm
  go_wp2_with fail
  go_loopw [6, 7, 8, 9, 26] (fun a _ _ _ j W => ∃ i z : Nat, i ≤ k ∧ j = .int .i64 (i : Nat) ∧ a = .int .i64 (z : Nat) ∧ Hid (z = S + unF xs ys i) ∧ ∃ q, W = w.drewN q) (fun _ _ _ _ j _ => k - (intOf j).toNat)
  case atStart => exact ⟨0, S, Nat.zero_le _, rfl, rfl, rfl, 0, rfl⟩
  case round =>
    obtain ⟨i, z, hik, rfl, rfl, HZ, q, hq⟩ := hrel
    have RA : Row wr A n xs := by rw [hq]; exact HRA.out.drewN q
    have RB : Row wr B m ys := by rw [hq]; exact HRB.out.drewN q
    have HQ := Lib.hid hq
    clear hq
    by_cases hlt : i < k
    · obtain ⟨b, o, rfl, _, hca⟩ := RA.addr (un_pos hlt HK.out.1)
      obtain ⟨b2, o2, rfl, _, hcb⟩ := RB.addr (un_pos hlt HK.out.2)
      have ca := hca i (Nat.lt_of_lt_of_le hlt HK.out.1)
      have cb := hcb i (Nat.lt_of_lt_of_le hlt HK.out.2)
      have hx := HRA.out.byte i
      have hy := HRB.out.byte i
      have HN : Hid (unF xs ys (i + 1) = unF xs ys i + popF (xs.getD i 0 ^^^ ys.getD i 0) 8) := rfl
      obtain ⟨x, hxe⟩ : ∃ x, x = xs.getD i 0 := ⟨_, rfl⟩
      obtain ⟨y, hye⟩ : ∃ x, x = ys.getD i 0 := ⟨_, rfl⟩
      rw [← hxe] at ca hx HN
      rw [← hye] at cb hy HN
      obtain ⟨hxor, hu⟩ := xor_u8 hx hy
      obtain ⟨u, hue⟩ : ∃ u, u = x ^^^ y := ⟨_, rfl⟩
      rw [← hue] at hxor hu HN
      obtain ⟨iI, jI, kI, i0, wi⟩ := un_step hlt HK.out HSL.out.2
      have HIK := Lib.hid (And.intro hik hlt)
      have HUB := Lib.hid hu
      clear hca hcb hx hy hxe hye hue hik hlt hu RA RB
      go_upto_region 6 with fail
      go_quiet (fail)
      clear ca cb hxor
      go_wp2_with fail
      go_loop [6, 9, 38] (fun a _ j => ∃ t y : Nat, t ≤ 8 ∧ j = .int .i64 (t : Nat) ∧ a = .int .i64 (y : Nat) ∧ Hid (y = z + popF u t)) (fun _ _ j => 8 - (intOf j).toNat)
      case atStart => exact ⟨0, z, by decide, rfl, rfl, rfl⟩
      case round =>
        obtain ⟨t, y, ht, rfl, rfl, HY⟩ := hrel
        by_cases h8 : t < 8
        · have h8' : (t : Int) < 8 := by omega
          have HF : Hid (popF u (t + 1) = popF u t + u / 2 ^ t % 2) := rfl
          have wt := un_t h8
          obtain ⟨bt, hbt⟩ : ∃ bt, bt = u / 2 ^ t % 2 := ⟨_, rfl⟩
          rw [← hbt] at HF
          have hb2 : bt < 2 := by rw [hbt]; exact Nat.mod_lt _ (by decide)
          have hpl := popF_le u t
          have hul := unF_le xs ys i
          have hyb : y ≤ 9007199254740992 := un_small HY.out HZ.out HSL.out HIK.out HK.out hpl hul h8
          obtain ⟨w1, w2⟩ := un_wraps hyb hb2
          have HT : Hid (y + bt = z + popF u (t + 1)) := by show _ = _; rw [HF.out, HY.out, Nat.add_assoc]
          have hsh : bits .and .u8 ((u / 2 ^ t : Nat) : Int) 1 = (bt : Int) := by rw [low_u8 (Nat.lt_of_le_of_lt (Nat.div_le_self _ _) HUB.out), hbt]
          have e := un_eight h8
          clear hbt hb2 hpl hul hyb HF HY
          rcases e with rfl | rfl | rfl | rfl | rfl | rfl | rfl | rfl
          · have f : bits .and .u8 (u : Int) 1 = (bt : Int) := by
              rw [Nat.pow_zero, Nat.div_one] at hsh
              exact hsh
            clear hsh
            go_wp2_with fail
            go_round
            case rel => exact ⟨1, y + bt, by decide, by go_num, by go_num, HT.out⟩
            case measure => simp [intOf]
          · have f : bits .and .u8 ((u : Int) / 2) 1 = (bt : Int) := by
              have e2 : ((u / 2 ^ 1 : Nat) : Int) = (u : Int) / 2 := by omega
              rw [e2] at hsh
              exact hsh
            clear hsh
            go_wp2_with fail
            go_round
            case rel => exact ⟨2, y + bt, by decide, by go_num, by go_num, HT.out⟩
            case measure => simp [intOf]
          · have f : bits .and .u8 ((u : Int) / 4) 1 = (bt : Int) := by
              have e2 : ((u / 2 ^ 2 : Nat) : Int) = (u : Int) / 4 := by omega
              rw [e2] at hsh
              exact hsh
            clear hsh
            go_wp2_with fail
            go_round
            case rel => exact ⟨3, y + bt, by decide, by go_num, by go_num, HT.out⟩
            case measure => simp [intOf]
          · have f : bits .and .u8 ((u : Int) / 8) 1 = (bt : Int) := by
              have e2 : ((u / 2 ^ 3 : Nat) : Int) = (u : Int) / 8 := by omega
              rw [e2] at hsh
              exact hsh
            clear hsh
            go_wp2_with fail
            go_round
            case rel => exact ⟨4, y + bt, by decide, by go_num, by go_num, HT.out⟩
            case measure => simp [intOf]
          · have f : bits .and .u8 ((u : Int) / 16) 1 = (bt : Int) := by
              have e2 : ((u / 2 ^ 4 : Nat) : Int) = (u : Int) / 16 := by omega
              rw [e2] at hsh
              exact hsh
            clear hsh
            go_wp2_with fail
            go_round
            case rel => exact ⟨5, y + bt, by decide, by go_num, by go_num, HT.out⟩
            case measure => simp [intOf]
          · have f : bits .and .u8 ((u : Int) / 32) 1 = (bt : Int) := by
              have e2 : ((u / 2 ^ 5 : Nat) : Int) = (u : Int) / 32 := by omega
              rw [e2] at hsh
              exact hsh
            clear hsh
            go_wp2_with fail
            go_round
            case rel => exact ⟨6, y + bt, by decide, by go_num, by go_num, HT.out⟩
            case measure => simp [intOf]
          · have f : bits .and .u8 ((u : Int) / 64) 1 = (bt : Int) := by
              have e2 : ((u / 2 ^ 6 : Nat) : Int) = (u : Int) / 64 := by omega
              rw [e2] at hsh
              exact hsh
            clear hsh
            go_wp2_with fail
            go_round
            case rel => exact ⟨7, y + bt, by decide, by go_num, by go_num, HT.out⟩
            case measure => simp [intOf]
          · have f : bits .and .u8 ((u : Int) / 128) 1 = (bt : Int) := by
              have e2 : ((u / 2 ^ 7 : Nat) : Int) = (u : Int) / 128 := by omega
              rw [e2] at hsh
              exact hsh
            clear hsh
            go_wp2_with fail
            go_round
            case rel => exact ⟨8, y + bt, by decide, by go_num, by go_num, HT.out⟩
            case measure => simp [intOf]
        · have t8 : t = 8 := Nat.le_antisymm ht (Nat.le_of_not_lt h8)
          subst t8
          have HZ2 : Hid (y = S + unF xs ys (i + 1)) := by show _ = _; rw [HY.out, HZ.out, HN.out, Nat.add_assoc]
          go_wp2_with fail
          go_roundw
          case rel => exact ⟨i + 1, y, Nat.succ_le_of_lt HIK.out.2, by go_num, rfl, HZ2.out, q + nq, by rw [HQ.out]; simp [World.drewN, Nat.add_assoc]⟩
          case measure =>
            rw [wi]
            exact un_meas2 HIK.out.2
    · have hik2 : i = k := Nat.le_antisymm hik (Nat.le_of_not_lt hlt)
      subst hik2
      have HO : Hid (unlike n m xs ys = z) := by show _ = _; rw [HU.out, HZ.out]
      clear RA RB hlt hik
      go_wp2_with fail
      go_ret
      exact ⟨congrArg (fun z : Nat => Ending.returned (.int .i64 (z : Int))) HO.out.symm, q, HQ.out⟩
end Go.Proofs.YtmchclpkjjmocaaGreat

namespace Go.Proofs.YtmchclpkjjmocaaGreat
open Go.RowKit
set_option linter.unusedVariables false
set_option maxRecDepth 8000

def P16 (tv : Value) (ts : List Nat) : PlanV := ⟨4, [10, 0, 0, 1, 0, 0, 0, 0, 0, 0, 0, 0, 0, 0, 0, 0], [10, 0, 0, 2, 0, 0, 0, 0, 0, 0, 0, 0, 0, 0, 0, 0], 0, 1, 0, 0, 0, false, .slice none 0 0, [], .slice none 0 0, [], 1, .slice none 0 0, [], tv, ts⟩
def Q16 : PlanV := ⟨6, List.replicate 16 0, List.replicate 16 0, 0, 2, 0, 0, 0, false, .slice none 0 0, [], .slice none 0 0, [], 59, .slice none 0 0, [], .slice none 0 0, []⟩
theorem p16_ok (tv : Value) (ts : List Nat) (h : tv.oneCell' = true) (hl : ts.length ≤ 140737488351232) : (P16 tv ts).Ok :=
  ⟨rfl, rfl, (show ∀ x ∈ ([10, 0, 0, 1, 0, 0, 0, 0, 0, 0, 0, 0, 0, 0, 0, 0] : List Nat), x < 256 by decide), (show ∀ x ∈ ([10, 0, 0, 2, 0, 0, 0, 0, 0, 0, 0, 0, 0, 0, 0, 0] : List Nat), x < 256 by decide), ⟨rfl, rfl, rfl, h⟩, (show Big 4 from ⟨by decide, by decide⟩), (show Big 0 from ⟨by decide, by decide⟩), (show Big 1 from ⟨by decide, by decide⟩), (show Big 0 from ⟨by decide, by decide⟩), (show Big 0 from ⟨by decide, by decide⟩), (show Big 0 from ⟨by decide, by decide⟩), (show Big 1 from ⟨by decide, by decide⟩), Nat.zero_le _, Nat.zero_le _, hl, Nat.zero_le _⟩
theorem q16_ok : Q16.Ok :=
  ⟨rfl, rfl, by decide, by decide, ⟨rfl, rfl, rfl, rfl⟩, ⟨by decide, by decide⟩, ⟨by decide, by decide⟩, ⟨by decide, by decide⟩, ⟨by decide, by decide⟩, ⟨by decide, by decide⟩, ⟨by decide, by decide⟩, ⟨by decide, by decide⟩, Nat.zero_le _, Nat.zero_le _, Nat.zero_le _, Nat.zero_le _⟩
theorem exts_nil (w : World) : ExtsIn w (.slice none 0 0) [] := ⟨none, 0, rfl, Nat.le_refl _, fun i m h => by cases h⟩
theorem plErr_tv (p : PlanV) (v : Value) : plErr { p with tv := v } = plErr p := by cases p; rfl
theorem plPacket_tv (p : PlanV) (v : Value) : plPacket { p with tv := v } = plPacket p := by cases p; rfl
def K16 : List Nat := plPacket (P16 (.slice none 0 0) [7])
def K6 : List Nat := plPacket Q16
theorem p16_err (tv : Value) : plErr (P16 tv [7]) = 0 := (plErr_tv (P16 (.slice none 0 0) [7]) tv).trans (by decide +kernel)
theorem p16_packet (tv : Value) : plPacket (P16 tv [7]) = K16 := plPacket_tv (P16 (.slice none 0 0) [7]) tv
theorem q16_err : plErr Q16 = 0 := by decide +kernel
theorem k16_len : K16.length = 21 := by decide +kernel
theorem k16_byte : ∀ x ∈ K16, x < 256 := by decide +kernel
theorem k16_good : pkDefs 21 K16 = [] := by decide +kernel
theorem k16_field : (pkRec K16).field = 1 := by decide +kernel
theorem k6_len : K6.length = 40 := by decide +kernel
theorem k6_byte : ∀ x ∈ K6, x < 256 := by decide +kernel
theorem k6_good : pkDefs 40 K6 = [] := by decide +kernel
theorem k6_unlike : unlike 40 40 K6 (rmMark K6 63) = 6 := by decide +kernel
theorem two_unlike : unlike 1 2 [1] [2, 0] = 10 := by decide +kernel
theorem one_told : pkTold 1 [1] = 2 := by decide +kernel
set_option maxRecDepth 10000 in
set_option maxHeartbeats 6400000 in
theorem live16 (w : World) : Calls Tryz.prog 7 #[] w fun e w' => e = .returned (.bool true) ∧ Below w.heap.size w w' := by
  obtain ⟨m1, m2, m3, m4, m5, _⟩ := rm_rec k16_len k16_byte (show 46 < 64 by decide) k16_good
  obtain ⟨n1, n2, n3, n4, n5, _⟩ := rm_rec k6_len k6_byte (show 63 < 64 by decide) k6_good
  have CB1 : Hid (∀ (g : Nat) (W : World), Own W g [7] → Calls Tryz.prog 20 #[.agg (P16 (.slice (some ⟨g, 0, none⟩) 1 1) [7]).cells.toArray] W fun e w' => ∃ A c, e = .returned (.tuple #[.slice A 21 c, .int .i64 0]) ∧ 21 ≤ c ∧ Row w' A 21 K16 ∧ Below W.heap.size W w') := fun g W h => by
    refine (bdbuild_any _ (p16_ok (.slice (some ⟨g, 0, none⟩) 1 1) [7] rfl (by decide)) W ⟨ByteVal.nil W, exts_nil W, ByteVal.nil W, ⟨_, 1, rfl, Nat.le_refl _, h.row (by decide)⟩⟩ (by show 0 + 1 ≤ _; decide)).mono ?_
    rintro e w' ⟨v, rfl, ho, hb⟩
    rw [p16_err]
    rw [p16_packet] at ho
    obtain ⟨A, c, rfl, h1, _, h3⟩ := ho.out k16_byte
    rw [k16_len] at h1 h3 ⊢
    exact ⟨A, c, rfl, h1, h3, hb⟩
  have CB2 : Hid (∀ (W : World), Calls Tryz.prog 20 #[.agg Q16.cells.toArray] W fun e w' => ∃ A c, e = .returned (.tuple #[.slice A 40 c, .int .i64 0]) ∧ 40 ≤ c ∧ Row w' A 40 K6 ∧ Below W.heap.size W w') := fun W => by
    refine (bdbuild_any _ q16_ok W ⟨ByteVal.nil W, exts_nil W, ByteVal.nil W, ByteVal.nil W⟩ (by decide)).mono ?_
    rintro e w' ⟨v, rfl, ho, hb⟩
    rw [q16_err]
    obtain ⟨A, c, rfl, h1, _, h3⟩ := ho.out k6_byte
    rw [show (plPacket Q16).length = 40 from k6_len] at h1 h3 ⊢
    exact ⟨A, c, rfl, h1, h3, hb⟩
  have CM1 : Hid (∀ (A : Option Addr) (c : Nat) (W : World), 21 ≤ c → Row W A 21 K16 → Calls Tryz.prog 5 #[.slice A 21 c, .int .i64 46] W fun e w' => ∃ A2 c2, e = .returned (.tuple #[.slice A2 21 c2, .int .i64 0, .int .i64 0]) ∧ 21 ≤ c2 ∧ Row w' A2 21 (rmMark K16 46) ∧ Below W.heap.size W w') := fun A c W hc h => by
    refine (rmmark_any A 21 c K16 46 W (by decide) hc h).mono ?_
    rintro e w' ⟨v, rfl, ho, hb⟩
    have e1 : rmOut 21 K16 46 = rmMark K16 46 := by unfold rmOut; rw [if_pos (by decide), if_pos k16_good]; rfl
    have e2 : rmRes 21 K16 46 = (0, 0) := by unfold rmRes; rw [if_pos (by decide), pkTold_nil k16_good]
    rw [e1] at ho
    rw [e2]
    obtain ⟨A2, c2, rfl, h1, _, h3⟩ := ho.out m2
    rw [m1] at h1 h3 ⊢
    exact ⟨A2, c2, rfl, h1, h3, hb⟩
  have CM4 : Hid (∀ (A : Option Addr) (c : Nat) (W : World), 40 ≤ c → Row W A 40 K6 → Calls Tryz.prog 5 #[.slice A 40 c, .int .i64 63] W fun e w' => ∃ A2 c2, e = .returned (.tuple #[.slice A2 40 c2, .int .i64 0, .int .i64 0]) ∧ 40 ≤ c2 ∧ Row w' A2 40 (rmMark K6 63) ∧ Below W.heap.size W w') := fun A c W hc h => by
    refine (rmmark_any A 40 c K6 63 W (by decide) hc h).mono ?_
    rintro e w' ⟨v, rfl, ho, hb⟩
    have e1 : rmOut 40 K6 63 = rmMark K6 63 := by unfold rmOut; rw [if_pos (by decide), if_pos k6_good]; rfl
    have e2 : rmRes 40 K6 63 = (0, 0) := by unfold rmRes; rw [if_pos (by decide), pkTold_nil k6_good]
    rw [e1] at ho
    rw [e2]
    obtain ⟨A2, c2, rfl, h1, _, h3⟩ := ho.out n2
    rw [n1] at h1 h3 ⊢
    exact ⟨A2, c2, rfl, h1, h3, hb⟩
  have CP : Hid (∀ (A : Option Addr) (c : Nat) (W : World), 21 ≤ c → Row W A 21 (rmMark K16 46) → Calls Tryz.prog 21 #[.slice A 21 c] W fun e w' => e = .returned (.tuple #[.int .i64 46, .int .i64 1, .bool true]) ∧ Below W.heap.size W w') := fun A c W hc h => by
    have h2 := pkpoint_any A 21 c (rmMark K16 46) W (by decide) hc h
    have e1 : pkPoint 21 (rmMark K16 46) = .tuple #[.int .i64 46, .int .i64 1, .bool true] := by
      unfold pkPoint
      rw [if_pos m3, m4, k16_field]
      rfl
    rw [e1] at h2
    exact h2
  have CM2 : Hid (∀ (g : Nat) (W : World), Row W (some ⟨g, 0, none⟩) 1 [1] → Calls Tryz.prog 5 #[.slice (some ⟨g, 0, none⟩) 1 1, .int .i64 46] W fun e w' => ∃ v, e = .returned (.tuple #[v, .int .i64 2, .int .i64 0]) ∧ Below W.heap.size W w') := fun g W h => by
    refine (rmmark_any _ 1 1 [1] 46 W (by decide) (by decide) h).mono ?_
    rintro e w' ⟨v, rfl, ho, hb⟩
    have e2 : rmRes 1 [1] 46 = (2, 0) := by unfold rmRes; rw [if_pos (by decide), one_told]
    rw [e2]
    exact ⟨v, rfl, hb⟩
  have CM3 : Hid (∀ (g : Nat) (W : World), Row W (some ⟨g, 0, none⟩) 1 [1] → Calls Tryz.prog 5 #[.slice (some ⟨g, 0, none⟩) 1 1, .int .i64 64] W fun e w' => ∃ v, e = .returned (.tuple #[v, .int .i64 0, .int .i64 14]) ∧ Below W.heap.size W w') := fun g W h => by
    refine (rmmark_any _ 1 1 [1] 64 W (by decide) (by decide) h).mono ?_
    rintro e w' ⟨v, rfl, ho, hb⟩
    have e2 : rmRes 1 [1] 64 = (0, 14) := by unfold rmRes; rw [if_neg (by decide)]
    rw [e2]
    exact ⟨v, rfl, hb⟩
  have CU1 : Hid (∀ (A B : Option Addr) (c d : Nat) (W : World), Row W A 40 K6 → Row W B 40 (rmMark K6 63) → Calls Tryz.prog 9 #[.slice A 40 c, .slice B 40 d] W fun e w' => e = .returned (.int .i64 6) ∧ ∃ q, w' = W.drewN q) := fun A B c d W h1 h2 => by
    have h := unlike_any A B 40 c 40 d K6 (rmMark K6 63) W (by decide) (by decide) h1 h2
    rw [k6_unlike] at h
    exact h
  have CU2 : Hid (∀ (g h : Nat) (W : World), Row W (some ⟨g, 0, none⟩) 1 [1] → Row W (some ⟨h, 0, none⟩) 2 [2, 0] → Calls Tryz.prog 9 #[.slice (some ⟨g, 0, none⟩) 1 1, .slice (some ⟨h, 0, none⟩) 2 2] W fun e w' => e = .returned (.int .i64 10) ∧ ∃ q, w' = W.drewN q) := fun g h W h1 h2 => by
    have h3 := unlike_any _ _ 1 1 2 2 [1] [2, 0] W (by decide) (by decide) h1 h2
    rw [two_unlike] at h3
    exact h3
  have hlit1 : (#[.int .i64 4, .int .u8 10, .int .u8 0, .int .u8 0, .int .u8 1, .int .u8 0, .int .u8 0, .int .u8 0, .int .u8 0, .int .u8 0, .int .u8 0, .int .u8 0, .int .u8 0, .int .u8 0, .int .u8 0, .int .u8 0, .int .u8 0, .int .u8 10, .int .u8 0, .int .u8 0, .int .u8 2, .int .u8 0, .int .u8 0, .int .u8 0, .int .u8 0, .int .u8 0, .int .u8 0, .int .u8 0, .int .u8 0, .int .u8 0, .int .u8 0, .int .u8 0, .int .u8 0, .int .i64 0, .int .i64 1, .int .i64 0, .int .i64 0, .int .i64 0, .bool false, .slice none 0 0, .slice none 0 0, .int .i64 1, .slice none 0 0, .slice (some ⟨w.heap.size, 0, none⟩) 1 1] : Array Value) = (P16 (.slice (some ⟨w.heap.size, 0, none⟩) 1 1) [7]).cells.toArray := rfl
  have hlit2 : (#[.int .i64 6, .int .u8 0, .int .u8 0, .int .u8 0, .int .u8 0, .int .u8 0, .int .u8 0, .int .u8 0, .int .u8 0, .int .u8 0, .int .u8 0, .int .u8 0, .int .u8 0, .int .u8 0, .int .u8 0, .int .u8 0, .int .u8 0, .int .u8 0, .int .u8 0, .int .u8 0, .int .u8 0, .int .u8 0, .int .u8 0, .int .u8 0, .int .u8 0, .int .u8 0, .int .u8 0, .int .u8 0, .int .u8 0, .int .u8 0, .int .u8 0, .int .u8 0, .int .u8 0, .int .i64 0, .int .i64 2, .int .i64 0, .int .i64 0, .int .i64 0, .bool false, .slice none 0 0, .slice none 0 0, .int .i64 59, .slice none 0 0, .slice none 0 0] : Array Value) = Q16.cells.toArray := rfl
  have CB1 := Lib.hid (CB1.out w.heap.size)
  obtain ⟨X1, hX1⟩ : ∃ X, X = (P16 (.slice (some ⟨w.heap.size, 0, none⟩) 1 1) [7]).cells := ⟨_, rfl⟩
  obtain ⟨X2, hX2⟩ : ∃ X, X = Q16.cells := ⟨_, rfl⟩
  rw [← hX1] at CB1 hlit1
  rw [← hX2] at CB2 hlit2
  have HL2 := Lib.hid hlit2
  clear hX1 hX2 hlit2 m1 m2 m3 m4 m5 n1 n2 n3 n4 n5
  go_enter Tryz.func7, Tryz.ntmps7
  go_wp2_with fail
  refine (CB1.out _ (by have h := Own.new w [7]; exact h)).mono ?_
  rintro e w1 ⟨A1, c1, rfl, hc1, r1, b1⟩
  have b1 : Below w.heap.size w w1 := below_al b1
  have C1 := Lib.hid hc1
  have R1 := Lib.hid r1
  have B1 := Lib.hid b1
  clear hc1 r1 b1 hlit1 CB1
  go_wp2_with fail
  refine (CM1.out _ _ _ C1.out R1.out).mono ?_
  rintro e w2 ⟨A2, c2, rfl, hc2, r2, b2⟩
  have C2 := Lib.hid hc2
  have R2 := Lib.hid r2
  have B2 := Lib.hid (below_both B1.out b2)
  clear hc2 r2 b2 CM1 R1 B1
  go_wp2_with fail
  refine (CP.out _ _ _ C2.out R2.out).mono ?_
  rintro e w3 ⟨rfl, b3⟩
  have B3 := Lib.hid (below_both B2.out b3)
  clear b3 CP R2 B2
  go_wp2_with fail
  refine (CM2.out _ _ (by have h := (Own.new w3 [1]).row (by decide); exact h)).mono ?_
  rintro e w4 ⟨v4, rfl, b4⟩
  have B4 := Lib.hid (below_both B3.out (show Below w3.heap.size w3 w4 from below_al b4))
  clear b4 CM2 B3
  go_wp2_with fail
  refine (CM3.out _ _ (by have h := (Own.new w4 [1]).row (by decide); exact h)).mono ?_
  rintro e w5 ⟨v5, rfl, b5⟩
  have B5 := Lib.hid (below_both B4.out (show Below w4.heap.size w4 w5 from below_al b5))
  have hlit2 := HL2.out
  clear b5 CM3 B4
  go_wp2_with fail
  refine (CB2.out _).mono ?_
  rintro e w6 ⟨A6, c6, rfl, hc6, r6, b6⟩
  have C6 := Lib.hid hc6
  have R6 := Lib.hid r6
  have B6 := Lib.hid (below_both B5.out b6)
  clear hc6 r6 b6 CB2 B5 hlit2
  go_wp2_with fail
  refine (CM4.out _ _ _ C6.out R6.out).mono ?_
  rintro e w7 ⟨A7, c7, rfl, hc7, r7, b7⟩
  have R7 := Lib.hid r7
  have R67 := Lib.hid (R6.out.below b7)
  have B7 := Lib.hid (below_both B6.out b7)
  clear hc7 r7 b7 CM4 B6 R6
  go_wp2_with fail
  refine (CU1.out _ _ _ _ _ R67.out R7.out).mono ?_
  rintro e w8 ⟨rfl, q, hq⟩
  have B8 : Hid (Below w.heap.size w w8) := by show Below _ _ _; rw [hq]; exact below_drewN' B7.out q
  clear hq CU1 R7 R67 B7
  go_wp2_with fail
  refine (CU2.out _ _ _ (by
    have h := (Own.new w8 [1]).row (by decide)
    exact h.alloc _) (by
    have h := (Own.new (w8.alloc (.cells #[.int .u8 1] 5)) [2, 0]).row (by decide)
    rw [show (w8.alloc (.cells #[.int .u8 1] 5)).heap.size = w8.heap.size + 1 by simp] at h
    exact h)).mono ?_
  rintro e w9 ⟨rfl, q9, hq9⟩
  have B9 : Hid (Below w.heap.size w w9) := by show Below _ _ _; rw [hq9]; exact below_drewN' ((B8.out.alloc B8.out.size _).alloc (by simp; have := B8.out.size; omega) _) q9
  clear hq9 CU2 B8
  go_wp2_with fail
  go_ret
  exact ⟨rfl, B9.out⟩
end Go.Proofs.YtmchclpkjjmocaaGreat
