/-
  Groups of an address of version 6 as text, both ways: plain facts. Nothing of the program.
-/
import Derived.Test.YtaicmadeobglfaaDoorCol1
import Derived.Lib.IndexMore
import Derived.Lib.LastIndexByte
namespace Go.Proofs.YtaicmadeobglfaaDoor
open Go.RowKit
set_option linter.unusedVariables false

/-! A group's text -/
def hexd (n : Nat) : UInt8 := if n < 10 then UInt8.ofNat (48 + n) else UInt8.ofNat (87 + n)
theorem hexd_all : ∀ n, n < 16 → hxv (hexd n).toNat = n ∧ hxok (hexd n).toNat = true ∧ hexd n ≠ 58 ∧ hexd n ≠ 46 := by decide
def gtext (g : Nat) : List UInt8 :=
  if g < 16 then [hexd g] else if g < 256 then [hexd (g / 16), hexd (g % 16)] else if g < 4096 then [hexd (g / 16 / 16), hexd (g / 16 % 16), hexd (g % 16)]
  else [hexd (g / 16 / 16 / 16), hexd (g / 16 / 16 % 16), hexd (g / 16 % 16), hexd (g % 16)]
/-- What is wanted of a group's text. -/
structure GText (g : Nat) : Prop where
  ok : grpOk (gtext g) = true
  num : hexnum (gtext g) = g
  col : (58 : UInt8) ∉ gtext g
  dot : (46 : UInt8) ∉ gtext g
  pos : 1 ≤ (gtext g).length
  le : (gtext g).length ≤ 4
theorem gtext_all (g : Nat) (h : g < 65536) : GText g := by
  have z := hexd_all (g % 16) (by omega)
  by_cases h1 : g < 16
  · have a := hexd_all g h1
    have e : gtext g = [hexd g] := if_pos h1
    obtain ⟨a1, a2, a3, a4⟩ := a
    exact ⟨by rw [e]; simp [grpOk, hexAll, a2], by rw [e]; simp [hexnum, a1], by rw [e]; simpa using fun e => a3 e.symm, by rw [e]; simpa using fun e => a4 e.symm, by rw [e]; simp, by rw [e]; simp⟩
  by_cases h2 : g < 256
  · have e : gtext g = [hexd (g / 16), hexd (g % 16)] := by unfold gtext; rw [if_neg h1, if_pos h2]
    obtain ⟨a1, a2, a3, a4⟩ := hexd_all (g / 16) (by omega)
    obtain ⟨b1, b2, b3, b4⟩ := z
    exact ⟨by rw [e]; simp [grpOk, hexAll, a2, b2], by rw [e]; simp [hexnum, a1, b1]; omega, by rw [e]; simpa using ⟨fun e => a3 e.symm, fun e => b3 e.symm⟩, by rw [e]; simpa using ⟨fun e => a4 e.symm, fun e => b4 e.symm⟩, by rw [e]; simp, by rw [e]; simp⟩
  by_cases h3 : g < 4096
  · have e : gtext g = [hexd (g / 16 / 16), hexd (g / 16 % 16), hexd (g % 16)] := by unfold gtext; rw [if_neg h1, if_neg h2, if_pos h3]
    obtain ⟨a1, a2, a3, a4⟩ := hexd_all (g / 16 / 16) (by omega)
    obtain ⟨c1, c2, c3, c4⟩ := hexd_all (g / 16 % 16) (by omega)
    obtain ⟨b1, b2, b3, b4⟩ := z
    exact ⟨by rw [e]; simp [grpOk, hexAll, a2, b2, c2], by rw [e]; simp [hexnum, a1, b1, c1]; omega, by rw [e]; simpa using ⟨fun e => a3 e.symm, fun e => c3 e.symm, fun e => b3 e.symm⟩, by rw [e]; simpa using ⟨fun e => a4 e.symm, fun e => c4 e.symm, fun e => b4 e.symm⟩, by rw [e]; simp, by rw [e]; simp⟩
  · have e : gtext g = [hexd (g / 16 / 16 / 16), hexd (g / 16 / 16 % 16), hexd (g / 16 % 16), hexd (g % 16)] := by unfold gtext; rw [if_neg h1, if_neg h2, if_neg h3]
    obtain ⟨a1, a2, a3, a4⟩ := hexd_all (g / 16 / 16 / 16) (by omega)
    obtain ⟨d1, d2, d3, d4⟩ := hexd_all (g / 16 / 16 % 16) (by omega)
    obtain ⟨c1, c2, c3, c4⟩ := hexd_all (g / 16 % 16) (by omega)
    obtain ⟨b1, b2, b3, b4⟩ := z
    exact ⟨by rw [e]; simp [grpOk, hexAll, a2, b2, c2, d2], by rw [e]; simp [hexnum, a1, b1, c1, d1]; omega, by rw [e]; simpa using ⟨fun e => a3 e.symm, fun e => d3 e.symm, fun e => c3 e.symm, fun e => b3 e.symm⟩, by rw [e]; simpa using ⟨fun e => a4 e.symm, fun e => d4 e.symm, fun e => c4 e.symm, fun e => b4 e.symm⟩, by rw [e]; simp, by rw [e]; simp⟩

/-- Groups with colons between. -/
def gsjoin (gs : List Nat) : List UInt8 := Lib.join (gs.map gtext) [58]
theorem gsjoin_nil : gsjoin [] = [] := rfl
theorem gsjoin_one (g : Nat) : gsjoin [g] = gtext g := Lib.join_one _ _
theorem gsjoin_cons (g : Nat) (gs : List Nat) (h : gs ≠ []) : gsjoin (g :: gs) = gtext g ++ 58 :: gsjoin gs := by
  unfold gsjoin
  rw [List.map_cons, join_cons _ _ (by simpa using h)]
  simp
theorem gsjoin_cut {gs : List Nat} (h : ∀ g ∈ gs, g < 65536) (hne : gs ≠ []) : cutL 58 (gsjoin gs) = gs.map gtext := by
  induction gs with
  | nil => exact absurd rfl hne
  | cons g gs ih =>
    have hg := gtext_all g (h g (by simp))
    by_cases hgs : gs = []
    · subst hgs
      rw [gsjoin_one, cutL_whole hg.col]
      rfl
    · rw [gsjoin_cons _ _ hgs, cutL_part _ hg.col, ih (fun x hx => h x (by simp [hx])) hgs]
      rfl
theorem gsjoin_nodot {gs : List Nat} (h : ∀ g ∈ gs, g < 65536) : (46 : UInt8) ∉ gsjoin gs := by
  induction gs with
  | nil => simp [gsjoin_nil]
  | cons g gs ih =>
    have hg := gtext_all g (h g (by simp))
    have ih' := ih (fun x hx => h x (by simp [hx]))
    by_cases hgs : gs = []
    · subst hgs
      rw [gsjoin_one]
      exact hg.dot
    · rw [gsjoin_cons _ _ hgs]
      simp [hg.dot, ih']
theorem gsjoin_len {gs : List Nat} (h : ∀ g ∈ gs, g < 65536) : (gsjoin gs).length + 1 ≤ 5 * gs.length + 1 := by
  induction gs with
  | nil => simp [gsjoin_nil]
  | cons g gs ih =>
    have hg := gtext_all g (h g (by simp))
    have ih' := ih (fun x hx => h x (by simp [hx]))
    have := hg.le
    by_cases hgs : gs = []
    · subst hgs
      rw [gsjoin_one]
      simp
      omega
    · rw [gsjoin_cons _ _ hgs]
      simp
      omega
theorem gsjoin_pos {gs : List Nat} (h : ∀ g ∈ gs, g < 65536) (hne : gs ≠ []) : gsjoin gs ≠ [] := by
  cases gs with
  | nil => exact absurd rfl hne
  | cons g gs =>
    have hg := gtext_all g (h g (by simp))
    intro e
    have e2 := congrArg List.length e
    have := hg.pos
    by_cases hgs : gs = []
    · subst hgs
      rw [gsjoin_one] at e2
      simp at e2
      simp [e2] at this
    · rw [gsjoin_cons _ _ hgs] at e2
      simp at e2

/-! Two colons -/
/-- No two colons next to each other. -/
def noDD : List UInt8 → Bool
  | [] => true
  | [_] => true
  | x :: y :: r => !(x == 58 && y == 58) && noDD (y :: r)
theorem noDD_word {w : List UInt8} (r : List UInt8) (hw : (58 : UInt8) ∉ w) (hr : noDD r = true) (hn : w ≠ []) (hh : r = [] ∨ r.head? ≠ some 58) : noDD (w ++ 58 :: r) = true := by
  induction w with
  | nil => exact absurd rfl hn
  | cons x w ih =>
    have hx : x ≠ 58 := fun e => hw (by simp [e])
    cases w with
    | nil =>
      cases r with
      | nil => simp [noDD, hx]
      | cons y r =>
        have hy : y ≠ 58 := by
          rcases hh with hh | hh
          · cases hh
          · simpa using hh
        simp only [List.cons_append, List.nil_append, noDD]
        rw [hr]
        simp [hx, hy]
    | cons z w =>
      have := ih (fun e => hw (by simp [e])) (by simp)
      simp only [List.cons_append] at this ⊢
      rw [noDD, this]
      simp [hx]
theorem noDD_whole {w : List UInt8} (hw : (58 : UInt8) ∉ w) : noDD w = true := by
  induction w with
  | nil => rfl
  | cons x w ih =>
    have hx : x ≠ 58 := fun e => hw (by simp [e])
    cases w with
    | nil => rfl
    | cons y w =>
      rw [noDD, ih (fun e => hw (by simp [e]))]
      simp [hx]
theorem gsjoin_head {gs : List Nat} (h : ∀ g ∈ gs, g < 65536) (r : List UInt8) (hne : gs ≠ []) : (gsjoin gs ++ r).head? ≠ some 58 := by
  cases gs with
  | nil => exact absurd rfl hne
  | cons g gs =>
    have hg := gtext_all g (h g (by simp))
    have hp := hg.pos
    have hc := hg.col
    have key : ∀ t : List UInt8, (gtext g ++ t).head? ≠ some 58 := by
      intro t
      cases hl : gtext g with
      | nil => rw [hl] at hp; simp at hp
      | cons x l =>
        rw [hl] at hc
        simp at hc ⊢
        exact fun e => hc.1 e.symm
    by_cases hgs : gs = []
    · subst hgs
      rw [gsjoin_one]
      exact key r
    · rw [gsjoin_cons _ _ hgs, List.append_assoc]
      exact key _
theorem gsjoin_noDD {gs : List Nat} (h : ∀ g ∈ gs, g < 65536) : noDD (gsjoin gs) = true ∧ noDD (gsjoin gs ++ [58]) = true := by
  induction gs with
  | nil => exact ⟨rfl, rfl⟩
  | cons g gs ih =>
    have hg := gtext_all g (h g (by simp))
    have ih' := ih (fun x hx => h x (by simp [hx]))
    have hne : gtext g ≠ [] := by
      intro e
      have := hg.pos
      rw [e] at this
      simp at this
    by_cases hgs : gs = []
    · subst hgs
      rw [gsjoin_one]
      exact ⟨noDD_whole hg.col, noDD_word [] hg.col rfl hne (.inl rfl)⟩
    · have hh := fun r => gsjoin_head (gs := gs) (fun x hx => h x (by simp [hx])) r hgs
      rw [gsjoin_cons _ _ hgs]
      refine ⟨noDD_word _ hg.col ih'.1 hne (.inr ?_), ?_⟩
      · have := hh []
        simpa using this
      · rw [List.append_assoc, List.cons_append]
        exact noDD_word _ hg.col ih'.2 hne (.inr (hh _))
theorem dd_step (x : UInt8) (l : List UInt8) (h : ([58, 58] : List UInt8).isPrefixOf (x :: l) = false) : Lib.index (x :: l) [58, 58] = if Lib.index l [58, 58] = -1 then -1 else Lib.index l [58, 58] + 1 := by
  rw [Lib.index, h]
  by_cases h2 : Lib.index l [58, 58] = -1 <;> simp [h2]
theorem dd_none : ∀ {l : List UInt8}, noDD l = true → Lib.index l [58, 58] = -1
  | [], _ => rfl
  | [x], _ => by
    rw [dd_step x [] (by simp [List.isPrefixOf])]
    rfl
  | x :: y :: r, h => by
    rw [noDD, Bool.and_eq_true] at h
    rw [dd_step x (y :: r) (by
      have h1 := h.1
      simp only [List.isPrefixOf]
      rw [Bool.and_true, Bool.eq_false_iff]
      intro e
      simp only [Bool.and_eq_true, beq_iff_eq] at e
      rw [← e.1, ← e.2] at h1
      simp at h1), dd_none h.2]
    rfl
theorem dd_here : ∀ {p : List UInt8} (q : List UInt8), noDD (p ++ [58]) = true → Lib.index (p ++ 58 :: 58 :: q) [58, 58] = p.length
  | [], q, _ => by
    rw [List.nil_append, Lib.index]
    simp [List.isPrefixOf]
  | [x], q, h => by
    have hx : x ≠ 58 := by
      intro e
      subst e
      simp [noDD] at h
    have ih := dd_here (p := []) q rfl
    rw [List.singleton_append, dd_step x _ (by simp [List.isPrefixOf]; exact fun e => absurd e.symm hx), show (58 :: 58 :: q) = ([] ++ 58 :: 58 :: q) from rfl, ih]
    rfl
  | x :: y :: r, q, h => by
    rw [List.cons_append, List.cons_append, noDD, Bool.and_eq_true] at h
    have ih := dd_here (p := y :: r) q h.2
    rw [List.cons_append, dd_step x _ (by
      have h1 := h.1
      simp only [List.cons_append, List.isPrefixOf]
      rw [Bool.and_true, Bool.eq_false_iff]
      intro e
      simp only [Bool.and_eq_true, beq_iff_eq] at e
      rw [← e.1, ← e.2] at h1
      simp at h1), ih, if_neg (by omega)]
    simp
theorem dd_cut {p : List UInt8} (q : List UInt8) (h : noDD (p ++ [58]) = true) : Lib.cut (p ++ 58 :: 58 :: q) [58, 58] = (p, q, true) := by
  unfold Lib.cut
  rw [dd_here q h, if_pos (by omega)]
  simp [List.drop_append]
theorem dd_cut_none {l : List UInt8} (h : noDD l = true) : Lib.cut l [58, 58] = (l, [], false) := by
  unfold Lib.cut
  rw [dd_none h, if_neg (by omega)]

/-! Behind the last colon -/
def colAt : List UInt8 → Nat
  | [] => 0
  | x :: l => if 58 ∈ l then colAt l + 1 else if x = 58 then 1 else 0
theorem colAt_none {l : List UInt8} (h : (58 : UInt8) ∉ l) : colAt l = 0 := by
  cases l with
  | nil => rfl
  | cons x l =>
    rw [colAt, if_neg (fun e => h (by simp [e])), if_neg (fun e => h (by simp [e]))]
theorem colAt_some (p q : List UInt8) (h : (58 : UInt8) ∉ q) : colAt (p ++ 58 :: q) = p.length + 1 := by
  induction p with
  | nil => rw [List.nil_append, colAt, if_neg h, if_pos rfl]; rfl
  | cons x p ih =>
    rw [List.cons_append, colAt, if_pos (by simp), ih]
    rfl
theorem colAt_le (l : List UInt8) : colAt l ≤ l.length := by
  induction l with
  | nil => exact Nat.le_refl _
  | cons x l ih =>
    rw [colAt, List.length_cons]
    split
    · omega
    · split <;> omega
theorem colAt_last (s : ByteArray) : Lib.lastIndexByte s 58 + 1 = (colAt s.data.toList : Nat) := by
  have hbang : ∀ j (hj : j < s.size), s.data[j]! = s.data.toList[j]'(by rw [size_list]; exact hj) := by
    intro j hj
    have hj2 : j < s.data.size := hj
    rw [getElem!_pos s.data j hj2]
    simp
  rcases Lib.lastIndexByte_spec s 58 with ⟨e, hn⟩ | ⟨i, hi, e, hc, hn⟩
  · rw [e, colAt_none]
    · rfl
    · intro hm
      obtain ⟨j, hj, hx⟩ := List.getElem_of_mem hm
      rw [size_list] at hj
      have h1 := hn j hj
      rw [hbang j hj, hx] at h1
      exact h1 rfl
  · have hi2 : i < s.data.toList.length := by rw [size_list]; exact hi
    have hsplit : s.data.toList = s.data.toList.take i ++ s.data.toList[i] :: s.data.toList.drop (i + 1) := by
      rw [← List.drop_eq_getElem_cons hi2, List.take_append_drop]
    have h58 : s.data.toList[i] = 58 := by
      rw [hbang i hi] at hc
      have : s.data.toList[i].toNat = 58 := by omega
      rw [← u8_back s.data.toList[i] 58 this.symm]
      rfl
    have hno : (58 : UInt8) ∉ s.data.toList.drop (i + 1) := by
      intro hm
      obtain ⟨j, hj, hx⟩ := List.getElem_of_mem hm
      rw [List.getElem_drop] at hx
      rw [List.length_drop, size_list] at hj
      have h1 := hn (i + 1 + j) (by omega) (by omega)
      rw [hbang (i + 1 + j) (by omega), hx] at h1
      exact h1 rfl
    rw [h58] at hsplit
    rw [hsplit, colAt_some _ _ hno, e, List.length_take]
    omega

/-! Reading -/
def spreadT (l : List UInt8) : List UInt8 :=
  if (dparse (l.drop (colAt l))).2 = 0 then
    l.take (colAt l) ++ gsjoin [(dparse (l.drop (colAt l))).1.1 * 256 + (dparse (l.drop (colAt l))).1.2.1, (dparse (l.drop (colAt l))).1.2.2.1 * 256 + (dparse (l.drop (colAt l))).1.2.2.2]
  else l
def readOk (l : List UInt8) : Bool := decide (l = []) || (decide ((cutL 58 l).length ≤ 8) && (cutL 58 l).all grpOk)
def readT (l : List UInt8) : List Nat := if l = [] then [] else (cutL 58 l).map hexnum
/-- The groups of a text; none: it is no address. -/
def colParse (l : List UInt8) : Option (List Nat) :=
  let c := Lib.cut (spreadT l) [58, 58]
  if readOk c.1 && readOk c.2.1 && (c.2.2 == decide ((readT c.1).length + (readT c.2.1).length < 8)) then
    some (readT c.1 ++ List.replicate (8 - (readT c.1).length - (readT c.2.1).length) 0 ++ readT c.2.1)
  else none
theorem read_join {gs : List Nat} (h : ∀ g ∈ gs, g < 65536) (h8 : gs.length ≤ 8) : readOk (gsjoin gs) = true ∧ readT (gsjoin gs) = gs := by
  by_cases hne : gs = []
  · subst hne
    exact ⟨rfl, rfl⟩
  · have hp := gsjoin_pos h hne
    have hc := gsjoin_cut h hne
    constructor
    · unfold readOk
      rw [hc, List.length_map, decide_eq_true h8, Bool.true_and, Bool.or_eq_true]
      right
      rw [List.all_map, List.all_eq_true]
      intro g hg
      exact (gtext_all g (h g hg)).ok
    · unfold readT
      rw [if_neg hp, hc, List.map_map]
      conv => rhs; rw [← List.map_id gs]
      refine List.map_congr_left fun g hg => (gtext_all g (h g hg)).num
theorem dparse_nodot {l : List UInt8} (h : (46 : UInt8) ∉ l) : (dparse l).2 = 3 := by
  unfold dparse
  rw [cutL_whole h]
theorem spread_nodot {l : List UInt8} (h : (46 : UInt8) ∉ l) : spreadT l = l := by
  unfold spreadT
  rw [dparse_nodot (fun hm => h (List.mem_of_mem_drop hm)), if_neg (by decide)]

/-! Printing -/
/-- How many zeros there are from one on. -/
def zrun : List Nat → Nat
  | [] => 0
  | g :: gs => if g = 0 then zrun gs + 1 else 0
theorem zrun_le (gs : List Nat) : zrun gs ≤ gs.length := by
  induction gs with
  | nil => exact Nat.le_refl _
  | cons g gs ih => rw [zrun]; split <;> simp <;> omega
theorem zrun_split (gs : List Nat) (n : Nat) (h : n ≤ zrun gs) : gs = List.replicate n 0 ++ gs.drop n := by
  induction gs generalizing n with
  | nil =>
    simp [zrun] at h
    subst h
    rfl
  | cons g gs ih =>
    cases n with
    | zero => rfl
    | succ n =>
      rw [zrun] at h
      split at h
      · rename_i hg
        subst hg
        rw [List.replicate_succ, List.drop_succ_cons, List.cons_append, ← ih n (by omega)]
      · omega
/-- Where the first of the longest runs begins, of those that begin ahead of k, and its length. -/
def best (gs : List Nat) : Nat → Nat × Nat
  | 0 => (0, 0)
  | k + 1 => if (best gs k).2 < zrun (gs.drop k) then (k, zrun (gs.drop k)) else best gs k
theorem best_spec (gs : List Nat) (k : Nat) : (best gs k).2 ≤ zrun (gs.drop (best gs k).1) := by
  induction k with
  | zero => exact Nat.zero_le _
  | succ k ih =>
    rw [best]
    split
    · exact Nat.le_refl _
    · exact ih
def colPrint (gs : List Nat) : List UInt8 :=
  if (best gs 8).2 < 2 then gsjoin gs else gsjoin (gs.take (best gs 8).1) ++ 58 :: 58 :: gsjoin (gs.drop ((best gs 8).1 + (best gs 8).2))
theorem best_room (gs : List Nat) (h : gs.length = 8) (hn : 1 ≤ (best gs 8).2) : (best gs 8).1 + (best gs 8).2 ≤ 8 := by
  have h1 := best_spec gs 8
  have h2 := zrun_le (gs.drop (best gs 8).1)
  rw [List.length_drop] at h2
  omega
theorem best_split (gs : List Nat) : gs = gs.take (best gs 8).1 ++ List.replicate (best gs 8).2 0 ++ gs.drop ((best gs 8).1 + (best gs 8).2) := by
  have h1 := zrun_split _ _ (best_spec gs 8)
  conv => lhs; rw [← List.take_append_drop (best gs 8).1 gs]
  rw [List.append_assoc, ← List.drop_drop, ← h1]
theorem colPrint_nodot {gs : List Nat} (h : ∀ g ∈ gs, g < 65536) : (46 : UInt8) ∉ colPrint gs := by
  unfold colPrint
  split
  · exact gsjoin_nodot h
  · have h1 := gsjoin_nodot (gs := gs.take (best gs 8).1) (fun g hg => h g (List.mem_of_mem_take hg))
    have h2 := gsjoin_nodot (gs := gs.drop ((best gs 8).1 + (best gs 8).2)) (fun g hg => h g (List.mem_of_mem_drop hg))
    simp [h1, h2]
theorem colPrint_len {gs : List Nat} (h : ∀ g ∈ gs, g < 65536) (h8 : gs.length = 8) : (colPrint gs).length ≤ 82 := by
  unfold colPrint
  split
  · have := gsjoin_len h
    omega
  · have h1 := gsjoin_len (gs := gs.take (best gs 8).1) (fun g hg => h g (List.mem_of_mem_take hg))
    have h2 := gsjoin_len (gs := gs.drop ((best gs 8).1 + (best gs 8).2)) (fun g hg => h g (List.mem_of_mem_drop hg))
    rw [List.length_take] at h1
    rw [List.length_drop] at h2
    simp only [List.length_append, List.length_cons]
    omega
/-- What was printed is read as it was. -/
theorem colParse_print {gs : List Nat} (h : ∀ g ∈ gs, g < 65536) (h8 : gs.length = 8) : colParse (colPrint gs) = some gs := by
  unfold colParse
  rw [spread_nodot (colPrint_nodot h)]
  unfold colPrint
  split
  · rw [dd_cut_none (gsjoin_noDD h).1]
    obtain ⟨a, b⟩ := read_join h (by omega)
    simp only [a, b]
    simp [readOk, readT, h8]
  · rename_i hn
    have hF : ∀ g ∈ gs.take (best gs 8).1, g < 65536 := fun g hg => h g (List.mem_of_mem_take hg)
    have hB : ∀ g ∈ gs.drop ((best gs 8).1 + (best gs 8).2), g < 65536 := fun g hg => h g (List.mem_of_mem_drop hg)
    have hroom := best_room gs h8 (by omega)
    rw [dd_cut _ (gsjoin_noDD hF).2]
    obtain ⟨a, b⟩ := read_join hF (by rw [List.length_take]; omega)
    obtain ⟨c, d⟩ := read_join hB (by rw [List.length_drop]; omega)
    have hs := best_split gs
    have l1 : (gs.take (best gs 8).1).length = (best gs 8).1 := by rw [List.length_take]; omega
    have l2 : (gs.drop ((best gs 8).1 + (best gs 8).2)).length = 8 - ((best gs 8).1 + (best gs 8).2) := by rw [List.length_drop]; omega
    simp only [a, b, c, d]
    rw [l1, l2, decide_eq_true (by omega), show 8 - (best gs 8).1 - (8 - ((best gs 8).1 + (best gs 8).2)) = (best gs 8).2 from by omega, ← hs]
    rfl
/-- What is read is eight groups. -/
theorem colParse_len {l : List UInt8} {gs : List Nat} (h : colParse l = some gs) : gs.length = 8 ∧ ∀ g ∈ gs, g < 65536 := by
  unfold colParse at h
  simp only [Bool.and_eq_true, beq_iff_eq] at h
  split at h
  · rename_i hc
    obtain ⟨⟨h1, h2⟩, h3⟩ := hc
    injection h with h
    have key : ∀ t, readOk t = true → (readT t).length ≤ 8 ∧ ∀ g ∈ readT t, g < 65536 := by
      intro t ht
      unfold readOk at ht
      unfold readT
      by_cases e : t = []
      · rw [if_pos e]; simp
      · rw [if_neg e]
        rw [decide_eq_false e, Bool.false_or, Bool.and_eq_true] at ht
        refine ⟨by rw [List.length_map]; simpa using ht.1, fun g hg => ?_⟩
        obtain ⟨p, hp, rfl⟩ := List.mem_map.1 hg
        have h4 := List.all_eq_true.1 ht.2 p hp
        simp only [grpOk, Bool.and_eq_true, decide_eq_true_eq] at h4
        have h5 := hexnum_lt p
        have h6 : 16 ^ p.length ≤ 16 ^ 4 := Nat.pow_le_pow_right (by decide) h4.1.2
        omega
    have k1 := key _ h1
    have k2 := key _ h2
    have hg : (Lib.cut (spreadT l) [58, 58]).2.2 = false → readT (Lib.cut (spreadT l) [58, 58]).2.1 = [] := by
      unfold Lib.cut
      split
      · intro e; cases e
      · intro _; rfl
    subst h
    constructor
    · simp only [List.length_append, List.length_replicate]
      rcases Bool.eq_false_or_eq_true ((Lib.cut (spreadT l) [58, 58]).2.2) with e | e
      · rw [e] at h3
        have := of_decide_eq_true h3.symm
        omega
      · have e2 := hg e
        rw [e] at h3
        have h7 := of_decide_eq_false h3.symm
        rw [e2] at h7 k2 ⊢
        simp at h7 ⊢
        omega
    · intro g hm
      simp only [List.mem_append, List.mem_replicate] at hm
      rcases hm with (hm | hm) | hm
      · exact k1.2 g hm
      · rw [hm.2]; decide
      · exact k2.2 g hm
  · cases h
/-- A mapped address as text. -/
theorem colParse_mapped {a b c d : Nat} (ha : a ≤ 255) (hb : b ≤ 255) (hc : c ≤ 255) (hd : d ≤ 255) :
    colParse ([58, 58, 102, 102, 102, 102, 58] ++ dtext a b c d) = some [0, 0, 0, 0, 0, 65535, a * 256 + b, c * 256 + d] := by
  have hno : (58 : UInt8) ∉ dtext a b c d := by
    have key : ∀ n, n ≤ 999 → (58 : UInt8) ∉ Lib.decDigits n := by
      intro n hn hm
      have h1 := (dec_byte n hn).1
      simp only [numOk, Bool.and_eq_true] at h1
      have h2 := List.all_eq_true.1 h1.2 58 hm
      simp [isDig] at h2
    have e : dtext a b c d = Lib.decDigits a ++ 46 :: (Lib.decDigits b ++ 46 :: (Lib.decDigits c ++ 46 :: Lib.decDigits d)) := by
      simp [dtext, Lib.join, List.intercalate, List.intersperse]
    rw [e]
    simp [key a (by omega), key b (by omega), key c (by omega), key d (by omega)]
  have e1 : colAt ([58, 58, 102, 102, 102, 102, 58] ++ dtext a b c d) = 7 := colAt_some [58, 58, 102, 102, 102, 102] _ hno
  have e2 : spreadT ([58, 58, 102, 102, 102, 102, 58] ++ dtext a b c d) = [] ++ 58 :: 58 :: gsjoin [65535, a * 256 + b, c * 256 + d] := by
    unfold spreadT
    have d7 : List.drop 7 ([58, 58, 102, 102, 102, 102, 58] ++ dtext a b c d) = dtext a b c d := rfl
    rw [e1, d7, dparse_dtext ha hb hc hd, if_pos rfl, gsjoin_cons 65535 _ (by simp)]
    rfl
  have hG : ∀ g ∈ [65535, a * 256 + b, c * 256 + d], g < 65536 := by
    intro g hg
    simp at hg
    omega
  unfold colParse
  obtain ⟨p, q⟩ := read_join hG (by simp)
  rw [e2, dd_cut _ rfl]
  simp only [p, q]
  rfl
end Go.Proofs.YtaicmadeobglfaaDoor
