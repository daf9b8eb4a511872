/-
  Plain facts: a checksum that is made up for is the one that is reckoned anew. Nothing of the program.
-/
import Derived.Test.YtgpdghibkkgonaaAdj5
namespace Go.Proofs.Ytgpdghibkkgonaa
open Go.RowKit
set_option linter.unusedVariables false

theorem splice_same {bs l m : List Nat} {a : Nat} (hl : l.length = m.length) (h : a + l.length ≤ bs.length) : splice (splice bs a l) a m = splice bs a m := by
  have la : (splice bs a l).length = bs.length := splice_length h
  have hm : a + m.length ≤ bs.length := by omega
  have hm2 : a + m.length ≤ (splice bs a l).length := by omega
  refine list_getD_ext ((splice_length hm2).trans (la.trans (splice_length hm).symm)) fun i => ?_
  rw [splice_getD hm2, splice_getD h, splice_getD hm]
  by_cases h1 : a ≤ i ∧ i < a + m.length
  · rw [if_pos h1, if_pos h1]
  · rw [if_neg h1, if_neg h1, if_neg (by omega)]
/-- What already stands there. -/
theorem splice_id {bs l : List Nat} {a : Nat} (h : a + l.length ≤ bs.length) (hs : ∀ i, i < l.length → bs.getD (a + i) 0 = l.getD i 0) : splice bs a l = bs := by
  refine list_getD_ext (splice_length h) fun i => ?_
  rw [splice_getD h]
  by_cases h1 : a ≤ i ∧ i < a + l.length
  · rw [if_pos h1, ← hs (i - a) (by omega)]
    congr 1
    omega
  · rw [if_neg h1]
theorem pb_wat (bs : List Nat) (h : ∀ x ∈ bs, x < 256) (a : Nat) : pb (wat bs a) 2 = [bs.getD a 0, bs.getD (a + 1) 0] := by
  have h1 := byte_at h a
  have h2 := byte_at h (a + 1)
  rw [pb_two]
  unfold wat
  congr 1
  · omega
  · congr 1
    omega
theorem wat_split {bs : List Nat} {a : Nat} (ha : a % 2 = 0) (hn : a + 2 ≤ bs.length) : wsum 0 bs = wrest bs a + wat bs a := by
  rw [wsum_split ha hn]
  unfold wat
  omega
theorem wat_put {bs : List Nat} {a c : Nat} (hn : a + 2 ≤ bs.length) (hc : c ≤ 65535) : wat (splice bs a (pb c 2)) a = c := by
  unfold wat
  rw [pb_two, splice_getD (by simpa using hn), splice_getD (by simpa using hn), if_pos (by simp), if_pos (by simp), Nat.sub_self, Nat.add_sub_cancel_left]
  simp
  omega
theorem wat_other {bs : List Nat} {f a c : Nat} (hf : f + 2 ≤ bs.length) (hfa : f + 2 ≤ a ∨ a + 2 ≤ f) : wat (splice bs f (pb c 2)) a = wat bs a := by
  unfold wat
  rw [splice_getD (by rw [pb_length]; exact hf), splice_getD (by rw [pb_length]; exact hf), if_neg (by rw [pb_length]; omega), if_neg (by rw [pb_length]; omega)]
theorem byte_other {bs : List Nat} {f i c : Nat} (hf : f + 2 ≤ bs.length) (h : i < f ∨ f + 2 ≤ i) : (splice bs f (pb c 2)).getD i 0 = bs.getD i 0 := by
  rw [splice_getD (by rw [pb_length]; exact hf), if_neg (by rw [pb_length]; omega)]

theorem filled_is (bs : List Nat) (f : Nat) (hf : f % 2 = 0) (hn : f + 2 ≤ bs.length) : filled bs f = splice bs f (pb (65535 - orest (wrest bs f)) 2) := by
  unfold filled
  have h0 := wsum_put (c := 0) hf hn (by decide)
  rw [Nat.add_zero] at h0
  rw [h0]
  exact splice_same (by rw [pb_length, pb_length]) (by rw [pb_length]; exact hn)
/-- The checksum stands there already. -/
theorem filled_fix (bs : List Nat) (h : ∀ x ∈ bs, x < 256) (f : Nat) (hf : f % 2 = 0) (hn : f + 2 ≤ bs.length) (hc : wat bs f = 65535 - orest (wrest bs f)) : filled bs f = bs := by
  rw [filled_is bs f hf hn, ← hc, pb_wat bs h f]
  exact splice_id (by simpa using hn) fun i hi => by
    have hi2 : i < 2 := by simpa using hi
    match i, hi2 with
    | 0, _ => rfl
    | 1, _ => rfl
theorem filled_twice (bs : List Nat) (h : ∀ x ∈ bs, x < 256) (f : Nat) (hf : f % 2 = 0) (hn : f + 2 ≤ bs.length) : filled (filled bs f) f = filled bs f := by
  have e := filled_is bs f hf hn
  refine filled_fix _ (filled_byte h) f hf (by rw [filled_length hn]; exact hn) ?_
  rw [e, wat_put hn (by omega), wrest_put hn]

theorem made_up {r c o v : Nat} (hr : 0 < r) (hc : c ≤ 65535) (ho : o ≤ 65535) (hv : v ≤ 65535) (hg : (r + c + o) % 65535 = 0) : oclean (oword c o v) = 65535 - orest (r + v) := by
  unfold oword
  have e1 := orest_le (65535 - c + (65535 - o) + v)
  have e2 := orest_mod (65535 - c + (65535 - o) + v)
  have e3 := orest_null (65535 - c + (65535 - o) + v)
  generalize orest (65535 - c + (65535 - o) + v) = s at *
  have f1 := orest_le (r + v)
  have f2 := orest_mod (r + v)
  have f3 := orest_null (r + v)
  generalize orest (r + v) = t at *
  unfold oclean
  split <;> omega

/-- A word put into good bytes, whose first byte is not 0, leaves them good, with the checksum that is reckoned anew. -/
theorem adjAt_fresh (X : List Nat) (h : ∀ x ∈ X, x < 256) (f a v : Nat) (hf : f % 2 = 0) (ha : a % 2 = 0) (hfa : f ≠ a) (hfn : f + 2 ≤ X.length) (han : a + 2 ≤ X.length) (hf0 : 0 < f) (ha0 : 0 < a) (hX : X.getD 0 0 ≠ 0) (hv : v ≤ 65535) (hg : orest (wsum 0 X) = 65535) :
    orest (wsum 0 (adjAt X f a v)) = 65535 ∧ filled (adjAt X f a v) f = adjAt X f a v := by
  have hap : f + 2 ≤ a ∨ a + 2 ≤ f := by omega
  have hby : ∀ x ∈ adjAt X f a v, x < 256 := splice_byte (splice_byte h (pb_byte _ _)) (pb_byte _ _)
  obtain ⟨c, hc⟩ : ∃ c, c = wat X f := ⟨_, rfl⟩
  obtain ⟨o, ho⟩ : ∃ o, o = wat X a := ⟨_, rfl⟩
  have hcl : c ≤ 65535 := by rw [hc]; exact wat_le h f
  have hol : o ≤ 65535 := by rw [ho]; exact wat_le h a
  have key : ∀ k, k ≤ 65535 → wrest (splice X f (pb k 2)) a + o = wrest X f + k := fun k hk => by
    have e1 := wat_split ha (bs := splice X f (pb k 2)) (by rw [splice_two_length hfn]; exact han)
    rw [wat_other hfn hap, wsum_put hf hfn hk, ← ho] at e1
    omega
  obtain ⟨r, hr⟩ : ∃ r, r = wrest (splice X f (pb 0 2)) a := ⟨_, rfl⟩
  have k0 := key 0 (by decide)
  rw [← hr, Nat.add_zero] at k0
  have hr0 : 0 < r := by
    rcases Nat.eq_zero_or_pos r with h0 | h0
    · exfalso
      have e1 := wsum_put (c := 0) ha (bs := splice X f (pb 0 2)) (by rw [splice_two_length hfn]; exact han) (by decide)
      rw [← hr, h0] at e1
      have e2 := (wsum_zero 0 _).1 e1
      have e3 : (splice (splice X f (pb 0 2)) a (pb 0 2)).getD 0 0 = X.getD 0 0 := by
        rw [byte_other (by rw [splice_two_length hfn]; exact han) (.inl ha0), byte_other hfn (.inl hf0)]
      have e4 : 0 < (splice (splice X f (pb 0 2)) a (pb 0 2)).length := by
        rw [splice_two_length (by rw [splice_two_length hfn]; exact han), splice_two_length hfn]; omega
      rw [List.getD_eq_getElem?_getD, List.getElem?_eq_getElem e4] at e3
      have e5 := e2 _ (List.getElem_mem e4)
      rw [Option.getD_some, e5] at e3
      exact hX e3.symm
    · exact h0
  have hw := wat_split hf hfn
  rw [← hc] at hw
  have hg2 := (orest_full _).1 hg
  rw [hw, ← k0] at hg2
  have hm := made_up hr0 hcl hol hv (by have := hg2.2; omega)
  obtain ⟨k, hk⟩ : ∃ k, k = oclean (oword c o v) := ⟨_, rfl⟩
  have hkl : k ≤ 65535 := by rw [hk]; exact oclean_le (oword_le _ _ _)
  have hY : adjAt X f a v = splice (splice X f (pb k 2)) a (pb v 2) := by
    unfold adjAt
    rw [← hc, ← ho, ← hk]
  have kk := key k hkl
  have hs : wsum 0 (adjAt X f a v) = r + k + v := by
    rw [hY, wsum_put ha (by rw [splice_two_length hfn]; exact han) hv]
    omega
  rw [← hk] at hm
  have hlen : (adjAt X f a v).length = X.length := by rw [hY, splice_two_length (by rw [splice_two_length hfn]; exact han), splice_two_length hfn]
  have hwk : wat (adjAt X f a v) f = k := by rw [hY, wat_other (by rw [splice_two_length hfn]; exact han) (by omega), wat_put hfn hkl]
  have hwr := wat_split hf (bs := adjAt X f a v) (by omega)
  rw [hwk, hs] at hwr
  have hwr2 : wrest (adjAt X f a v) f = r + v := by omega
  refine ⟨?_, filled_fix _ hby f hf (by omega) (by rw [hwk, hwr2]; exact hm)⟩
  rw [hs, orest_full, hm]
  have f1 := orest_le (r + v)
  have f2 := orest_mod (r + v)
  have f3 := orest_null (r + v)
  omega
theorem adjAt_length (X : List Nat) (f a v : Nat) (hfn : f + 2 ≤ X.length) (han : a + 2 ≤ X.length) : (adjAt X f a v).length = X.length := by
  unfold adjAt
  rw [splice_two_length (by rw [splice_two_length hfn]; exact han), splice_two_length hfn]
theorem adjAt_byte (X : List Nat) (f a v : Nat) (h : ∀ x ∈ X, x < 256) : ∀ x ∈ adjAt X f a v, x < 256 := splice_byte (splice_byte h (pb_byte _ _)) (pb_byte _ _)
theorem adjAt_head (X : List Nat) (f a v : Nat) (hfn : f + 2 ≤ X.length) (han : a + 2 ≤ X.length) (hf0 : 0 < f) (ha0 : 0 < a) : (adjAt X f a v).getD 0 0 = X.getD 0 0 := by
  unfold adjAt
  rw [byte_other (by rw [splice_two_length hfn]; exact han) (.inl ha0), byte_other hfn (.inl hf0)]
theorem filled_head (X : List Nat) (f : Nat) (hf : f % 2 = 0) (hfn : f + 2 ≤ X.length) (hf0 : 0 < f) : (filled X f).getD 0 0 = X.getD 0 0 := by
  rw [filled_is X f hf hfn, byte_other hfn (.inl hf0)]
end Go.Proofs.Ytgpdghibkkgonaa
