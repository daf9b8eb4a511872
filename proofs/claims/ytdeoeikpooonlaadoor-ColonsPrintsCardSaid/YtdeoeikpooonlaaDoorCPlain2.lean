/-
  How long an address's text is: at most 39 letters, and at most one more than any text without a dot that is read as it. Plain facts.
-/
import Derived.Test.YtdeoeikpooonlaaDoorCPlain
namespace Go.Proofs.YtdeoeikpooonlaaDoor
set_option linter.unusedVariables false

/-- The letters of all groups together. -/
def tlen : List Nat → Nat
  | [] => 0
  | g :: gs => (gtext g).length + tlen gs
theorem tlen_append (a b : List Nat) : tlen (a ++ b) = tlen a + tlen b := by
  induction a with
  | nil => simp [tlen]
  | cons g a ih => rw [List.cons_append, tlen, tlen, ih]; omega
theorem tlen_zeros (n : Nat) : tlen (List.replicate n 0) = n := by
  induction n with
  | zero => rfl
  | succ n ih =>
    rw [List.replicate_succ, tlen, ih]
    show 1 + n = n + 1
    omega
theorem gsjoin_length (gs : List Nat) : (gsjoin gs).length = tlen gs + (gs.length - 1) := by
  induction gs with
  | nil => rfl
  | cons g gs ih =>
    by_cases hgs : gs = []
    · subst hgs
      rw [gsjoin_one]
      simp [tlen]
    · rw [gsjoin_cons _ _ hgs, tlen]
      have : gs.length ≠ 0 := by simpa using hgs
      simp only [List.length_append, List.length_cons, ih]
      omega
theorem tlen_le {gs : List Nat} (h : ∀ g ∈ gs, g < 65536) : tlen gs ≤ 4 * gs.length := by
  induction gs with
  | nil => exact Nat.le_refl _
  | cons g gs ih =>
    have h1 := (gtext_all g (h g (by simp))).le
    have h2 := ih (fun x hx => h x (by simp [hx]))
    rw [tlen, List.length_cons]
    omega
theorem gtext_le {g n : Nat} (h1 : 1 ≤ n) (h : g < 16 ^ n) : (gtext g).length ≤ n := by
  unfold gtext
  by_cases a : g < 16
  · rw [if_pos a]; simpa using h1
  rw [if_neg a]
  have n2 : 2 ≤ n := by
    rcases (by omega : n = 1 ∨ 2 ≤ n) with rfl | k
    · omega
    · exact k
  by_cases b : g < 256
  · rw [if_pos b]; simpa using n2
  rw [if_neg b]
  have n3 : 3 ≤ n := by
    rcases (by omega : n = 2 ∨ 3 ≤ n) with rfl | k
    · omega
    · exact k
  by_cases c : g < 4096
  · rw [if_pos c]; simpa using n3
  rw [if_neg c]
  have n4 : 4 ≤ n := by
    rcases (by omega : n = 3 ∨ 4 ≤ n) with rfl | k
    · omega
    · exact k
  simpa using n4
theorem cutL_total (c : UInt8) (l : List UInt8) : l.length + 1 = ((cutL c l).map List.length).sum + (cutL c l).length := by
  induction l with
  | nil => rfl
  | cons x l ih =>
    rw [cutL]
    split
    · simp only [List.map_cons, List.sum_cons, List.length_nil, List.length_cons]
      omega
    · have hp := cutL_pos c l
      cases hc : cutL c l with
      | nil => exact absurd hc hp
      | cons p r =>
        rw [hc] at ih
        simp only [onHead, List.map_cons, List.sum_cons, List.length_cons] at ih ⊢
        omega
theorem parts_tlen (ps : List (List UInt8)) (h : ∀ p ∈ ps, grpOk p = true) : tlen (ps.map hexnum) ≤ (ps.map List.length).sum := by
  induction ps with
  | nil => exact Nat.le_refl _
  | cons p ps ih =>
    have h1 := ih (fun x hx => h x (by simp [hx]))
    have h2 := h p (by simp)
    unfold grpOk at h2
    simp only [Bool.and_eq_true, decide_eq_true_eq] at h2
    have h3 := gtext_le (n := p.length) h2.1.1 (hexnum_lt p)
    simp only [List.map_cons, List.sum_cons, tlen]
    omega
/-- A text that is groups has room for their letters and the colons between. -/
theorem read_room {l : List UInt8} (h : readOk l = true) : tlen (readT l) + ((readT l).length - 1) ≤ l.length ∧ (readT l).length ≤ 8 := by
  unfold readT
  split
  · rename_i e
    subst e
    exact ⟨Nat.le_refl _, by simp⟩
  · rename_i hne
    unfold readOk at h
    simp only [Bool.or_eq_true, decide_eq_true_eq, Bool.and_eq_true, List.all_eq_true] at h
    rcases h with h | ⟨h8, hok⟩
    · exact absurd h hne
    have h1 := cutL_total 58 l
    have h2 := parts_tlen (cutL 58 l) hok
    have h3 := cutL_one 58 l
    rw [List.length_map]
    omega
theorem best_max (gs : List Nat) (k : Nat) : ∀ i, i < k → zrun (gs.drop i) ≤ (best gs k).2 := by
  induction k with
  | zero => intro i hi; omega
  | succ k ih =>
    intro i hi
    rw [best]
    rcases (by omega : i = k ∨ i < k) with rfl | h
    · split <;> (try simp only) <;> omega
    · have := ih i h
      split
      · simp only; omega
      · exact this
theorem zrun_zeros (k : Nat) (l : List Nat) : k ≤ zrun (List.replicate k 0 ++ l) := by
  induction k with
  | zero => exact Nat.zero_le _
  | succ k ih =>
    rw [List.replicate_succ, List.cons_append, zrun, if_pos rfl]
    omega
theorem colPrint_size {gs : List Nat} (h8 : gs.length = 8) : ((best gs 8).2 < 2 ∧ (colPrint gs).length = tlen gs + 7) ∨
    (2 ≤ (best gs 8).2 ∧ (best gs 8).2 ≤ 8 ∧ ((best gs 8).2 < 8 → (colPrint gs).length + 2 * (best gs 8).2 ≤ tlen gs + 9) ∧ ((best gs 8).2 = 8 → (colPrint gs).length = 2)) := by
  unfold colPrint
  split
  · rename_i h
    left
    rw [gsjoin_length, h8]
    exact ⟨h, rfl⟩
  · rename_i h
    right
    have hr := best_room gs h8 (by omega)
    have hs := congrArg tlen (best_split gs)
    rw [tlen_append, tlen_append, tlen_zeros] at hs
    simp only [List.length_append, List.length_cons, gsjoin_length, List.length_take, List.length_drop, h8]
    generalize (best gs 8).1 = p at *
    generalize (best gs 8).2 = n at *
    refine ⟨by omega, by omega, ?_, ?_⟩
    · intro hn
      omega
    · rintro rfl
      have hp : p = 0 := by omega
      subst hp
      have a : tlen (gs.take 0) = 0 := rfl
      have b : tlen (gs.drop (0 + 8)) = 0 := by
        rw [List.drop_of_length_le (by omega)]
        rfl
      omega
theorem colPrint_39 {gs : List Nat} (h : ∀ g ∈ gs, g < 65536) (h8 : gs.length = 8) : (colPrint gs).length ≤ 39 := by
  have h1 := tlen_le h
  rcases colPrint_size h8 with ⟨_, e⟩ | ⟨a, b, c, d⟩
  · omega
  · rcases (by omega : (best gs 8).2 = 8 ∨ (best gs 8).2 < 8) with q | q
    · have := d q
      omega
    · have := c q
      omega
/-- The shortest text is longer by one letter at most. -/
theorem colPrint_short {l : List UInt8} {gs : List Nat} (hd : (46 : UInt8) ∉ l) (h : colParse l = some gs) : (colPrint gs).length ≤ l.length + 1 := by
  have h8 := (colParse_len h).1
  have hsz := colPrint_size h8
  unfold colParse at h
  rw [spread_nodot hd] at h
  simp only at h
  split at h
  · rename_i hc
    injection h with h
    simp only [Bool.and_eq_true, beq_iff_eq] at hc
    obtain ⟨⟨hA, hB⟩, hg⟩ := hc
    obtain ⟨a1, a2⟩ := read_room hA
    obtain ⟨b1, b2⟩ := read_room hB
    by_cases hi : 0 ≤ Lib.index l [58, 58]
    · have hroom := Lib.index_room l [58, 58] hi
      have ec : Lib.cut l [58, 58] = (l.take (Lib.index l [58, 58]).toNat, l.drop ((Lib.index l [58, 58]).toNat + 2), true) := by
        unfold Lib.cut
        rw [if_pos hi]
        rfl
      rw [ec] at h hg a1 a2 b1 b2
      simp only at h hg a1 a2 b1 b2
      have hk := of_decide_eq_true hg.symm
      rw [List.length_take] at a1
      rw [List.length_drop] at b1
      generalize (readT (l.take (Lib.index l [58, 58]).toNat)) = F at *
      generalize (readT (l.drop ((Lib.index l [58, 58]).toNat + 2))) = B at *
      have hl : ([58, 58] : List UInt8).length = 2 := rfl
      rw [hl] at hroom
      have ht := congrArg tlen h
      rw [tlen_append, tlen_append, tlen_zeros] at ht
      have hz := best_max gs 8 F.length (by omega)
      have hz2 := zrun_zeros (8 - F.length - B.length) B
      have e2 : gs.drop F.length = List.replicate (8 - F.length - B.length) 0 ++ B := by
        rw [← h, List.append_assoc, List.drop_left]
      rw [e2] at hz
      rcases hsz with ⟨x, e⟩ | ⟨x, y, z, u⟩
      · omega
      · rcases (by omega : (best gs 8).2 = 8 ∨ (best gs 8).2 < 8) with q | q
        · have := u q
          omega
        · have := z q
          omega
    · have ec : Lib.cut l [58, 58] = (l, [], false) := by
        unfold Lib.cut
        rw [if_neg hi]
      rw [ec] at h hg a1 a2
      simp only at h hg a1 a2
      have e0 : readT [] = [] := rfl
      rw [e0] at h hg
      have hk := of_decide_eq_false hg.symm
      have ht := congrArg tlen h
      rw [tlen_append, tlen_append, tlen_zeros] at ht
      simp only [List.length_nil, tlen] at hk ht
      rcases hsz with ⟨x, e⟩ | ⟨x, y, z, u⟩
      · omega
      · rcases (by omega : (best gs 8).2 = 8 ∨ (best gs 8).2 < 8) with q | q
        · have := u q
          omega
        · have := z q
          omega
  · cases h
end Go.Proofs.YtdeoeikpooonlaaDoor
