/-
  Rows that a map holds by their keys: what stands under each key ('TabK'), one more entry, how many keys there are.
-/
import Derived.Test.YthikjngmaekjgaaRowsZ
import Derived.Test.YthikjngmaekjgaaBrOf
import Derived.Maps.OwnSet
namespace Go.Proofs.Ythikjngmaekjgaa
open Go.RowKit
open Go.Maps (Keyed)
open Go.ChangeMaps Go.MapKept
set_option linter.unusedVariables false

/-- An element, told as the very value. -/
def heldElem (v : Value) : Option (DataW Value × List MemPlace) := some (.held v, [])
theorem int_law : Keyed Try.prog 3 := Go.Maps.int_keyed Try.underlying3
theorem rows_zero (w : World) : (zeroValue 32).run Try.prog w = .ok (.slice none 0 0) w := by kernel_rfl
def keyI (x : Int) : Lit := .int .i64 x
theorem key_is {x : Int} (h1 : -9223372036854775808 ≤ x) (h2 : x ≤ 9223372036854775807) : keyOf Try.prog 3 (.int .i64 x) = some (keyI x) :=
  Go.Maps.keyOf_int_mk Try.underlying3 (WalkArith.wf_i64 (by omega))
abbrev nilV : Value := .slice none 0 0
theorem map_look {w : World} {b n : Nat} {D : DataW Value} {x : Int} {v : Value} (h : w.ownsMap Try.prog 3 heldElem b n D) (h1 : -9223372036854775808 ≤ x) (h2 : x ≤ 9223372036854775807) (hv : D.atKey (keyI x) (.held nilV) = .held v) :
    (Instr.lookup 43 (.map (some b)) (.int .i64 x) false).run Try.prog w = .ok v w := by
  obtain ⟨v', ps, hrun, hR⟩ := h.lookup int_law Try.underlying43 (rows_zero w) (zd := .held nilV) (zp := []) rfl (key_is h1 h2)
  simp only [heldElem, Option.some.injEq, Prod.mk.injEq, hv, DataW.held.injEq] at hR
  rw [hrun, hR.1]
theorem map_look_ok {w : World} {b n : Nat} {D : DataW Value} {x : Int} {v : Value} (h : w.ownsMap Try.prog 3 heldElem b n D) (h1 : -9223372036854775808 ≤ x) (h2 : x ≤ 9223372036854775807) (hv : D.atKey (keyI x) (.held nilV) = .held v) :
    (Instr.lookup 43 (.map (some b)) (.int .i64 x) true).run Try.prog w = .ok (.tuple #[v, .bool (Maps.has D (keyI x))]) w := by
  obtain ⟨v', ps, hrun, hR⟩ := h.look_ok int_law Try.underlying43 (rows_zero w) (zd := .held nilV) (zp := []) rfl (key_is h1 h2)
  simp only [heldElem, Option.some.injEq, Prod.mk.injEq, hv, DataW.held.injEq] at hR
  rw [hrun, hR.1]
theorem cell_none_map {w : World} {b : Nat} {es : Array MapEntry} {c : Nat} (h : w.heap[b]? = some (.map es c)) (o : Nat) (s : Option Nat) : w.cell? ⟨b, o, s⟩ = none := by
  unfold World.cell?
  rw [h]
/-- A map that was written: every cell is as it was. -/
theorem cells_kept {w w' : World} {b n n' : Nat} {D D' : DataW Value} {P : Program} {k : TypeId} {R : Value → Option (DataW Value × List MemPlace)} (h : w.ownsMap P k R b n D) (h' : w'.ownsMap P k R b n' D') (hg : w.grownBy w' (some b)) :
    ∀ p : Addr, p.block < w.heap.size → w'.cell? p = w.cell? p := by
  intro p hp
  obtain ⟨pb, po, ps⟩ := p
  by_cases e : pb = b
  · subst e
    obtain ⟨es, c, h1, _⟩ := h
    obtain ⟨es', c', h1', _⟩ := h'
    rw [cell_none_map h1, cell_none_map h1']
  · have := hg.block pb hp (fun h => e (Option.some.inj h))
    unfold World.cell?
    rw [this]
theorem RowU.kept {w w' : World} {A : Option Addr} {n : Nat} {xs : List Nat} (h : RowU w A n xs) (hk : ∀ p : Addr, p.block < w.heap.size → w'.cell? p = w.cell? p) : RowU w' A n xs := h.keep hk
theorem ValU.kept {w w' : World} {v : Value} {xs : List Nat} (h : ValU w v xs) (hk : ∀ p : Addr, p.block < w.heap.size → w'.cell? p = w.cell? p) : ValU w' v xs := by
  obtain ⟨A, c, h1, h2, h3⟩ := h
  exact ⟨A, c, h1, h2, h3.keep hk⟩
theorem ValU.nil (w : World) : ValU w nilV [] := ⟨none, 0, rfl, Nat.le_refl _, RowU.nil w none⟩

/-- What the first k of l have at x: the bits of those that are x; nothing where none is. -/
def isAt (l : List Int) (x : Int) (i : Nat) : Bool := decide (l.getD i 0 = x)
def seen (l : List Int) (k : Nat) (x : Int) : Bool := (l.take k).contains x
def curR (l : List Int) (m k : Nat) (x : Int) : List Nat := if seen l k x then mkRow (isAt l x) m k else []
theorem curR_word (l : List Int) (m k : Nat) (x : Int) : ∀ y ∈ curR l m k x, y < 18446744073709551616 := by
  unfold curR
  split
  · exact mkRow_word _ _ _
  · intro y hy; cases hy
theorem curR_length (l : List Int) (m k : Nat) (x : Int) : (curR l m k x).length ≤ m := by
  unfold curR
  split
  · rw [mkRow_length]; exact Nat.le_refl _
  · exact Nat.zero_le _
theorem take_succ_int (l : List Int) (k : Nat) (h : k < l.length) : l.take (k + 1) = l.take k ++ [l.getD k 0] := by
  rw [List.getD_eq_getElem?_getD, List.getElem?_eq_getElem h]
  exact List.take_succ_eq_append_getElem h
theorem seen_succ {l : List Int} {k : Nat} (h : k < l.length) (x : Int) : seen l (k + 1) x = (seen l k x || decide (l.getD k 0 = x)) := by
  unfold seen
  rw [take_succ_int l k h, Bool.eq_iff_iff, List.contains_iff_mem, Bool.or_eq_true, List.contains_iff_mem, decide_eq_true_iff, List.mem_append, List.mem_singleton]
  constructor
  · rintro (h | h)
    · exact .inl h
    · exact .inr h.symm
  · rintro (h | h)
    · exact .inl h
    · exact .inr h.symm
theorem seen_none {l : List Int} {k : Nat} {x : Int} (h : seen l k x = false) (hk : k ≤ l.length) : ∀ i, i < k → isAt l x i = false := by
  intro i hi
  unfold isAt
  refine decide_eq_false fun e => ?_
  have : x ∈ l.take k := by
    rw [← e, List.getD_eq_getElem?_getD, List.getElem?_eq_getElem (by omega)]
    exact List.mem_take_iff_getElem.2 ⟨i, by omega, rfl⟩
  have h2 : (l.take k).contains x = true := List.contains_iff_mem.2 this
  unfold seen at h
  rw [h2] at h
  cases h
theorem tb_mkRow {P : Nat → Bool} {m k : Nat} (hk : k ≤ 64 * m) (i : Nat) : tb (mkRow P m k) i = (decide (i < k) && P i) := by
  unfold mkRow
  rw [tb_setAll _ _ (fun j hj => by have := List.mem_range.1 (List.mem_filter.1 hj).1; omega), Bool.eq_iff_iff]
  simp
theorem tb_curR {l : List Int} {m k : Nat} (hk : k ≤ l.length) (hm : k ≤ 64 * m) (x : Int) (i : Nat) : tb (curR l m k x) i = (decide (i < k) && isAt l x i) := by
  unfold curR
  cases h : seen l k x with
  | true => rw [if_pos rfl, tb_mkRow hm]
  | false =>
    rw [if_neg (by simp), tb_beyond (by simp)]
    by_cases hi : i < k
    · rw [seen_none h hk i hi]; simp
    · simp [hi]
theorem zeros_word' (m : Nat) : ∀ x ∈ List.replicate m 0, x < 18446744073709551616 := fun x hx => by rw [List.eq_of_mem_replicate hx]; decide
theorem curR_zero (l : List Int) (m : Nat) (x : Int) : curR l m 0 x = [] := by simp [curR, seen]
theorem curR_other {l : List Int} {m k : Nat} {x : Int} (hk : k < l.length) (h : l.getD k 0 ≠ x) : curR l m (k + 1) x = curR l m k x := by
  unfold curR
  rw [seen_succ hk, mkRow_no (by unfold isAt; exact decide_eq_false h), decide_eq_false h, Bool.or_false]
theorem words_of {xss : List (List Nat)} (h : ∀ r ∈ xss, ∀ x ∈ r, x < 18446744073709551616) : Words xss := by
  intro k w
  rw [List.getD_eq_getElem?_getD (l := xss)]
  cases hk : xss[k]? with
  | none => simp
  | some r =>
    show r.getD w 0 < _
    rw [List.getD_eq_getElem?_getD]
    cases hw : r[w]? with
    | none => simp
    | some x => exact h r (List.mem_of_getElem? hk) x (List.mem_of_getElem? hw)
theorem maxL_pair (a b : List Nat) : maxL [a, b] = max a.length b.length := by
  show max (max 0 a.length) b.length = _
  omega
theorem maxL_three (a b c : List Nat) : maxL [a, b, c] = max (max a.length b.length) c.length := by
  show max (max (max 0 a.length) b.length) c.length = _
  omega
theorem orRow_two_is {a b : List Nat} {n : Nat} {R : List Nat} (ha : a.length ≤ n) (hb : b.length = n) (hR : R.length = n) (hw : ∀ x ∈ a, x < 18446744073709551616) (hwb : ∀ x ∈ b, x < 18446744073709551616) (hwR : ∀ x ∈ R, x < 18446744073709551616)
    (h : ∀ i, i < 64 * n → tb R i = (tb a i || tb b i)) : orRow [a, b] = R := by
  have hml : maxL [a, b] = n := by rw [maxL_pair]; omega
  refine row_ext (by rw [orRow_length, hml, hR]) (orRow_word (words_of (by
    intro r hr
    simp only [List.mem_cons, List.not_mem_nil, or_false] at hr
    rcases hr with rfl | rfl
    · exact hw
    · exact hwb))) hwR fun i hi => ?_
  rw [orRow_length, hml] at hi
  rw [tb_orRow (by rw [hml]; exact hi), h i hi]
  simp
theorem orRow_three_is {a b c : List Nat} {n : Nat} {R : List Nat} (ha : a.length = n) (hb : b.length ≤ n) (hc : c.length ≤ n) (hR : R.length = n) (hwa : ∀ x ∈ a, x < 18446744073709551616) (hwb : ∀ x ∈ b, x < 18446744073709551616) (hwc : ∀ x ∈ c, x < 18446744073709551616) (hwR : ∀ x ∈ R, x < 18446744073709551616)
    (h : ∀ i, i < 64 * n → tb R i = (tb a i || tb b i || tb c i)) : orRow [a, b, c] = R := by
  have hml : maxL [a, b, c] = n := by rw [maxL_three]; omega
  refine row_ext (by rw [orRow_length, hml, hR]) (orRow_word (words_of (by
    intro r hr
    simp only [List.mem_cons, List.not_mem_nil, or_false] at hr
    rcases hr with rfl | rfl | rfl
    · exact hwa
    · exact hwb
    · exact hwc))) hwR fun i hi => ?_
  rw [orRow_length, hml] at hi
  rw [tb_orRow (by rw [hml]; exact hi), h i hi]
  simp [Bool.or_assoc]
/-- What New lays at the key of number k. -/
theorem curR_same {l : List Int} {m k : Nat} (hk : k < l.length) (hm : l.length ≤ 64 * m) : orRow [curR l m k (l.getD k 0), setB (List.replicate m 0) (k : Int)] = curR l m (k + 1) (l.getD k 0) := by
  have hlen : (curR l m (k + 1) (l.getD k 0)).length = m := by
    unfold curR
    rw [seen_succ hk, decide_eq_true rfl, Bool.or_true, if_pos rfl, mkRow_length]
  refine orRow_two_is (curR_length _ _ _ _) (by rw [setB_length]; simp) hlen (curR_word _ _ _ _) (setB_word (zeros_word' m) _) (curR_word _ _ _ _) fun i hi => ?_
  rw [tb_curR (by omega) (by omega), tb_curR (by omega) (by omega), setB_nat, tb_setRow (by rw [List.length_replicate]; omega), tb_zero]
  unfold isAt
  by_cases e : k = i
  · subst e; simp
  · have e1 : (i < k + 1) ↔ (i < k) := by omega
    simp [e, e1]

/-- How many of -1 to most are among the first k of l. -/
def seenN (l : List Int) (most k : Nat) : Nat := ((List.range (most + 2)).filter fun j : Nat => seen l k ((j : Int) - 1)).length
theorem seenN_zero (l : List Int) (most : Nat) : seenN l most 0 = 0 := by
  unfold seenN
  rw [List.filter_eq_nil_iff.2 (fun j _ => by simp [seen])]
  rfl
theorem filter_one_more {p q : Nat → Bool} {j0 : Nat} (h0 : p j0 = false) (h : ∀ j, q j = (p j || decide (j = j0))) : ∀ n, j0 < n → ((List.range n).filter q).length = ((List.range n).filter p).length + 1 := by
  have hsame : ∀ n, n ≤ j0 → (List.range n).filter q = (List.range n).filter p := fun n hn => List.filter_congr fun j hj => by
    have := List.mem_range.1 hj
    rw [h, decide_eq_false (by omega), Bool.or_false]
  intro n
  induction n with
  | zero => intro h; omega
  | succ n ih =>
    intro hn
    rw [List.range_succ, List.filter_append, List.filter_append, List.length_append, List.length_append]
    by_cases e : n = j0
    · subst e
      rw [hsame n (Nat.le_refl _)]
      have hq : q n = true := by rw [h]; simp
      simp [h0, hq]
    · have hq : q n = p n := by rw [h]; simp [e]
      rw [ih (by omega)]
      cases hp : p n <;> simp [hq, hp]
theorem seenN_step {l : List Int} {most k : Nat} (hk : k < l.length) (h1 : -1 ≤ l.getD k 0) (h2 : l.getD k 0 ≤ (most : Int)) : seenN l most (k + 1) = if seen l k (l.getD k 0) then seenN l most k else seenN l most k + 1 := by
  unfold seenN
  cases hs : seen l k (l.getD k 0) with
  | true =>
    rw [if_pos rfl]
    congr 1
    refine List.filter_congr fun j _ => ?_
    rw [seen_succ hk]
    by_cases e : l.getD k 0 = (j : Int) - 1
    · rw [← e, hs]; simp
    · rw [decide_eq_false e, Bool.or_false]
  | false =>
    rw [if_neg (by simp)]
    obtain ⟨j0, hj0⟩ := Int.eq_ofNat_of_zero_le (by omega : 0 ≤ l.getD k 0 + 1)
    have e0 : (j0 : Int) - 1 = l.getD k 0 := by omega
    refine filter_one_more (j0 := j0) (by rw [e0]; exact hs) (fun j => ?_) _ (by omega)
    rw [seen_succ hk]
    congr 1
    have : (l.getD k 0 = (j : Int) - 1) ↔ j = j0 := by omega
    simp only [this]
/-- How many of 0 to most are not in l. -/
def freeN (l : List Int) (most : Nat) : Nat := ((List.range (most + 1)).filter fun j : Nat => !(seen l l.length (j : Int))).length
theorem filter_not_length (l : List Nat) (p : Nat → Bool) : (l.filter p).length + (l.filter fun j => !(p j)).length = l.length := by
  induction l with
  | nil => rfl
  | cons x l ih =>
    simp only [List.filter_cons]
    cases p x <;> simp <;> omega
theorem freeN_is (l : List Int) (most : Nat) : (freeN l most : Int) = (most : Int) + 1 - ((seenN l most l.length : Int) - (if seen l l.length (-1) then 1 else 0)) := by
  have h1 := filter_not_length (List.range (most + 1)) (fun j : Nat => seen l l.length (j : Int))
  rw [List.length_range] at h1
  have h2 : seenN l most l.length = (if seen l l.length (-1) then 1 else 0) + ((List.range (most + 1)).filter fun j : Nat => seen l l.length (j : Int)).length := by
    unfold seenN
    rw [List.range_succ_eq_map, List.filter_cons, List.filter_map]
    have e : ((fun j : Nat => seen l l.length ((j : Int) - 1)) ∘ Nat.succ) = fun j : Nat => seen l l.length (j : Int) := by
      funext j
      show seen l l.length (((j + 1 : Nat) : Int) - 1) = _
      congr 1
      omega
    have e0 : ((0 : Nat) : Int) - 1 = -1 := by omega
    rw [e0, e]
    split
    · rw [List.length_cons, List.length_map]; omega
    · rw [List.length_map]; omega
  unfold freeN
  rw [h2]
  split <;> omega

/-- A table: its three cells; a map that has the rows of the first k of l by their values. -/
structure TabK (w : World) (tb mb : Nat) (l : List Int) (m most k n : Nat) (c : Nat) (D : DataW Value) : Prop where
  c0 : w.cell? ⟨tb, 0, none⟩ = some (.int .i64 (c : Int))
  c1 : w.cell? ⟨tb, 1, none⟩ = some (.int .i64 (most : Int))
  c2 : w.cell? ⟨tb, 2, none⟩ = some (.map (some mb))
  own : w.ownsMap Try.prog 3 heldElem mb n D
  val : ∀ x : Int, ∃ v, D.atKey (keyI x) (.held nilV) = .held v ∧ ValU w v (curR l m k x)
  has : ∀ x : Int, Maps.has D (keyI x) = seen l k x
  size : Maps.size D = seenN l most k
theorem TabK.below {w w' : World} {tb mb : Nat} {l : List Int} {m most k n c : Nat} {D : DataW Value} (h : TabK w tb mb l m most k n c D) (hb : Below w.heap.size w w') : TabK w' tb mb l m most k n c D := by
  refine ⟨(hb.cell (p := ⟨tb, 0, none⟩) (cell_lt h.c0)).trans h.c0, (hb.cell (p := ⟨tb, 1, none⟩) (cell_lt h.c1)).trans h.c1, (hb.cell (p := ⟨tb, 2, none⟩) (cell_lt h.c2)).trans h.c2, ?_, fun x => ?_, h.has, h.size⟩
  · have hlt := h.own.lt
    obtain ⟨es, clock, h1, r⟩ := h.own
    exact ⟨es, clock, (hb.block mb hlt).trans h1, r⟩
  · obtain ⟨v, h1, h2⟩ := h.val x
    exact ⟨v, h1, h2.below hb⟩
theorem TabK.drew {w : World} {tb mb : Nat} {l : List Int} {m most k n c : Nat} {D : DataW Value} (h : TabK w tb mb l m most k n c D) : TabK w.drew tb mb l m most k n c D := h.below ((Below.refl _ _).drew)
theorem TabK.alloc {w : World} {tb mb : Nat} {l : List Int} {m most k n c : Nat} {D : DataW Value} (h : TabK w tb mb l m most k n c D) (o : Obj) : TabK (w.alloc o) tb mb l m most k n c D := h.below ((Below.refl _ _).alloc (Nat.le_refl _) _)
theorem RowU.same {w w' : World} {A : Option Addr} {n : Nat} {xs : List Nat} (h : RowU w A n xs) (hk : ∀ q : Nat, w'.heap[q]? = w.heap[q]?) : RowU w' A n xs := h.keep fun p _ => by unfold World.cell?; rw [hk]
theorem TabK.same {w w' : World} {tb mb : Nat} {l : List Int} {m most k n c : Nat} {D : DataW Value} (h : TabK w tb mb l m most k n c D) (hk : ∀ q : Nat, w'.heap[q]? = w.heap[q]?) : TabK w' tb mb l m most k n c D := by
  have hc : ∀ p : Addr, w'.cell? p = w.cell? p := fun p => by unfold World.cell?; rw [hk]
  refine ⟨(hc _).trans h.c0, (hc _).trans h.c1, (hc _).trans h.c2, ?_, fun x => ?_, h.has, h.size⟩
  · obtain ⟨es, clock, h1, r⟩ := h.own
    exact ⟨es, clock, (hk mb).trans h1, r⟩
  · obtain ⟨v, h1, A, c, h2, h3, h4⟩ := h.val x
    exact ⟨v, h1, A, c, h2, h3, h4.same hk⟩
theorem keyI_ne {x y : Int} (h : x ≠ y) : keyI x ≠ keyI y := fun e => h (by unfold keyI at e; injection e)
theorem TabK.update {w : World} {tb mb : Nat} {l : List Int} {m most k n c : Nat} {D : DataW Value} (h : TabK w tb mb l m most k n c D) (hk : k < l.length) (h1 : -1 ≤ l.getD k 0) (h2 : l.getD k 0 ≤ (most : Int)) (hmost : (most : Int) ≤ 65535) (hn : n ≤ 65536)
    {v : Value} (hv : ValU w v (curR l m (k + 1) (l.getD k 0))) :
    ∃ w', (Instr.mapUpdate 43 (.map (some mb)) (.int .i64 (l.getD k 0)) v).run Try.prog w = .ok () w' ∧ TabK w' tb mb l m most (k + 1) (n + 1) c (D.put (keyI (l.getD k 0)) (.held v)) ∧ w.grownBy w' (some mb) := by
  have hkey := key_is (x := l.getD k 0) (by omega) (by omega)
  obtain ⟨w', hrun, hown, hg⟩ := h.own.update int_law Try.underlying43 (by unfold maxLen; omega) hkey (val := v) (d := .held v) (ps := []) rfl
  have hck := cells_kept h.own hown hg
  have hkl := int_law.key hkey
  refine ⟨w', hrun, ⟨(hck _ (cell_lt h.c0)).trans h.c0, (hck _ (cell_lt h.c1)).trans h.c1, (hck _ (cell_lt h.c2)).trans h.c2, hown, fun x => ?_, fun x => ?_, ?_⟩, hg⟩
  · by_cases e : l.getD k 0 = x
    · subst e
      exact ⟨v, Maps.atKey_put_same h.own.isMap hkl _ _, hv.kept hck⟩
    · obtain ⟨v0, h3, h4⟩ := h.val x
      exact ⟨v0, (Maps.atKey_put_other (keyI_ne (Ne.symm e)) _ _).trans h3, by rw [curR_other hk e]; exact h4.kept hck⟩
  · rw [seen_succ hk]
    by_cases e : l.getD k 0 = x
    · subst e
      rw [Maps.has_put_same h.own.isMap hkl]; simp
    · rw [Maps.has_put_other (keyI_ne (Ne.symm e)), h.has, decide_eq_false e, Bool.or_false]
  · rw [Maps.size_put (h.own.tidy int_law), h.has, h.size, seenN_step hk h1 h2]
end Go.Proofs.Ythikjngmaekjgaa
