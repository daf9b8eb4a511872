/-
  Plain facts of the document's own Starts and Union of spans.
-/
import Derived.Test.YtcbhhfnnjfpmbaaSpPlain
import Derived.Test.YtcbhhfnnjfpmbaaSp11
namespace Go.Proofs.Ytcbhhfnnjfpmbaa
set_option linter.unusedVariables false

/-- A number into a rising list. -/
def putF (n : Int) : List Int → Bool → List Int
  | [], d => if d then [] else [n]
  | x :: l, d => (if d = false ∧ n ≤ x then [n] else []) ++ (if x ≠ n then [x] else []) ++ putF n l (d || decide (n ≤ x))
def putL (n : Int) (l : List Int) : List Int := if 65535 < n then l else putF n l false
theorem putF_true (n : Int) : ∀ l : List Int, (∀ x ∈ l, n < x) → putF n l true = l
  | [], _ => rfl
  | x :: l, h => by
    have hx := h x (by simp)
    unfold putF
    rw [if_neg (by simp), if_pos (by omega), Bool.true_or, putF_true n l fun y hy => h y (List.mem_cons_of_mem _ hy)]
    rfl
theorem putF_up (n : Int) : ∀ l : List Int, l.Pairwise (· < ·) → (putF n l false).Pairwise (· < ·) ∧ ∀ x, x ∈ putF n l false ↔ x = n ∨ x ∈ l
  | [], _ => ⟨by simp [putF], fun x => by simp [putF]⟩
  | y :: l, h => by
    obtain ⟨h1, h2⟩ := List.pairwise_cons.1 h
    by_cases hy : n ≤ y
    · have e : putF n (y :: l) false = (if y ≠ n then [n, y] else [n]) ++ l := by
        unfold putF
        rw [if_pos ⟨rfl, hy⟩, decide_eq_true hy, Bool.or_true, putF_true n l fun x hx => by have := h1 x hx; omega]
        split <;> rfl
      rw [e]
      by_cases hn : y = n
      · subst hn
        rw [if_neg (by simp)]
        exact ⟨h, fun x => by simp⟩
      · rw [if_pos hn]
        refine ⟨List.pairwise_cons.2 ⟨fun x hx => ?_, h⟩, fun x => by simp⟩
        rcases List.mem_cons.1 hx with rfl | hx
        · omega
        · have := h1 x hx; omega
    · have e : putF n (y :: l) false = y :: putF n l false := by
        conv => lhs; unfold putF
        rw [if_neg (fun h => hy h.2), decide_eq_false hy, if_pos (by omega)]
        rfl
      obtain ⟨i1, i2⟩ := putF_up n l h2
      rw [e]
      refine ⟨List.pairwise_cons.2 ⟨fun x hx => ?_, i1⟩, fun x => ?_⟩
      · rcases (i2 x).1 hx with rfl | hx
        · omega
        · exact h1 x hx
      · rw [List.mem_cons, i2 x, List.mem_cons]
        constructor
        · rintro (h | h | h)
          · exact .inr (.inl h)
          · exact .inl h
          · exact .inr (.inr h)
        · rintro (h | h | h)
          · exact .inr (.inl h)
          · exact .inl h
          · exact .inr (.inr h)
theorem putL_up (n : Int) (l : List Int) (h : l.Pairwise (· < ·)) : (putL n l).Pairwise (· < ·) ∧ ∀ x, x ∈ putL n l ↔ (x = n ∧ n ≤ 65535) ∨ x ∈ l := by
  unfold putL
  by_cases hn : 65535 < n
  · rw [if_pos hn]
    exact ⟨h, fun x => ⟨.inr, fun h => h.elim (fun h => by omega) id⟩⟩
  · rw [if_neg hn]
    obtain ⟨h1, h2⟩ := putF_up n l h
    exact ⟨h1, fun x => by rw [h2 x]; constructor <;> rintro (h | h) <;> first | exact .inr h | exact .inl (by omega) | exact .inl ⟨h, by omega⟩⟩
theorem starts_put {st : List Int} {L : List Sp} {s : Sp} (h : Starts st L) (hs : OkS s) : Starts (putL (s.2 + 1) (putL s.1 st)) (L ++ [s]) := by
  obtain ⟨a1, a2⟩ := putL_up s.1 st h.up
  obtain ⟨b1, b2⟩ := putL_up (s.2 + 1) _ a1
  unfold OkS at hs
  refine ⟨b1, fun x => ?_⟩
  rw [b2 x, a2 x, h.mem x, mem_marks, mem_marks]
  constructor
  · rintro (⟨h1, h2⟩ | ⟨h1, h2⟩ | h1 | ⟨t, ht, h1⟩)
    · exact .inr ⟨s, by simp, .inr ⟨h1, by omega⟩⟩
    · exact .inr ⟨s, by simp, .inl h1⟩
    · exact .inl h1
    · exact .inr ⟨t, by simp [ht], h1⟩
  · rintro (h1 | ⟨t, ht, h1⟩)
    · exact .inr (.inr (.inl h1))
    · rcases List.mem_append.1 ht with ht | ht
      · exact .inr (.inr (.inr ⟨t, ht, h1⟩))
      · rw [List.mem_singleton] at ht
        subst ht
        rcases h1 with h1 | ⟨h1, h2⟩
        · exact .inr (.inl ⟨h1, by omega⟩)
        · exact .inl ⟨h1, by omega⟩
theorem starts_zero : Starts [0] [] := ⟨by simp, fun x => by simp [marks]⟩
theorem starts_len {st : List Int} {L : List Sp} (h : Starts st L) (hL : ∀ s ∈ L, OkS s) : st.length ≤ 65536 := by
  have hb := h.bounds hL
  have key : ∀ (l : List Int) (lo : Int), l.Pairwise (· < ·) → (∀ x ∈ l, lo ≤ x ∧ x ≤ 65535) → lo ≤ 65536 → (l.length : Int) ≤ 65536 - lo := by
    intro l
    induction l with
    | nil => intro lo _ _ h; simp; omega
    | cons y l ih =>
      intro lo hp hx hlo
      obtain ⟨h1, h2⟩ := List.pairwise_cons.1 hp
      have hy := hx y (by simp)
      have := ih (y + 1) h2 (fun x hm => ⟨by have := h1 x hm; omega, (hx x (List.mem_cons_of_mem _ hm)).2⟩) (by omega)
      simp only [List.length_cons]
      omega
  have := key st 0 h.up hb (by omega)
  omega

/-- Is a number in any of some spans? -/
def wthn (L : List Sp) (x : Int) : Bool := L.any fun s => hasS s x
theorem wthn_mem {L : List Sp} (hL : ∀ s ∈ L, OkS s) (x : Int) : wthn L x = true ↔ mem L x := by
  unfold wthn
  rw [List.any_eq_true]
  constructor
  · rintro ⟨s, hs, h⟩
    unfold hasS at h
    simp only [Bool.and_eq_true, decide_eq_true_eq] at h
    exact ⟨s, hs, h.1.2, h.2⟩
  · rintro ⟨s, hs, h1, h2⟩
    refine ⟨s, hs, ?_⟩
    unfold hasS
    simp only [Bool.and_eq_true, decide_eq_true_eq]
    exact ⟨⟨chkS_ok.2 (hL s hs), h1⟩, h2⟩
/-- The union of the first pieces of which p holds. -/
def unionTo (st : List Int) (p : Int → Bool) (k : Nat) : List Sp := (((pieces st).take k).filter fun s => p s.1).foldl mstep []
theorem pieces_length (st : List Int) : (pieces st).length = st.length := by simp [pieces]
theorem unionTo_all (st : List Int) (p : Int → Bool) : unionTo st p st.length = unionOf st p := by
  unfold unionTo unionOf uni
  rw [← pieces_length st, List.take_length]
theorem pieces_getD {st : List Int} {k : Nat} (h : k < st.length) : (pieces st).getD k (0, 0) = pieceAt st k := by
  unfold pieces
  rw [List.getD_eq_getElem?_getD]
  simp [h]
theorem unionTo_step {st : List Int} {p : Int → Bool} {k : Nat} (h : k < st.length) : unionTo st p (k + 1) = if p (pieceAt st k).1 then mstep (unionTo st p k) (pieceAt st k) else unionTo st p k := by
  unfold unionTo
  rw [take_succ_sp _ k (by rw [pieces_length]; exact h), pieces_getD h, List.filter_append, List.foldl_append]
  cases hp : p (pieceAt st k).1 <;> simp [hp]
theorem unionTo_uni {st : List Int} {L : List Sp} (h : Starts st L) (hL : ∀ s ∈ L, OkS s) (p : Int → Bool) (k : Nat) : Uni (unionTo st p k) (((pieces st).take k).filter fun s => p s.1) := by
  refine uni_uni (fun s hs => ?_) ?_
  · have hm := List.mem_of_mem_take (List.mem_filter.1 hs).1
    obtain ⟨i, hi, rfl⟩ := mem_pieces.1 hm
    have := piece_ok h hL hi
    unfold OkS at this
    omega
  · exact List.Pairwise.filter _ (List.Pairwise.sublist (List.take_sublist _ _) (pieces_sorted h.up))
theorem mem_take_pieces {st : List Int} {k : Nat} {s : Sp} (hs : s ∈ (pieces st).take k) : ∃ i, i < k ∧ i < st.length ∧ pieceAt st i = s := by
  obtain ⟨i, hi, rfl⟩ := List.getElem_of_mem hs
  rw [List.length_take, pieces_length] at hi
  refine ⟨i, by omega, by omega, ?_⟩
  rw [List.getElem_take, ← pieces_getD (by omega : i < st.length), List.getD_eq_getElem?_getD, List.getElem?_eq_getElem (by rw [pieces_length]; omega)]
  rfl
/-- What is there already ends ahead of the next piece. -/
theorem unionTo_ahead {st : List Int} {L : List Sp} (h : Starts st L) (hL : ∀ s ∈ L, OkS s) (p : Int → Bool) {k : Nat} (hk : k < st.length) : ∀ t ∈ unionTo st p k, OkS t ∧ t.2 < (pieceAt st k).1 := by
  intro t ht
  have hu := unionTo_uni h hL p k
  have hle : t.1 ≤ t.2 := hu.norm.1 t ht
  obtain ⟨s, hs, hi1, hi2⟩ := (hu.mem t.2).1 ⟨t, ht, hle, Int.le_refl _⟩
  obtain ⟨i, h1, h2, rfl⟩ := mem_take_pieces (List.mem_filter.1 hs).1
  have ha := piece_apart h.up h1 hk
  have ho := piece_ok h hL h2
  obtain ⟨s', hs', he⟩ := hu.lo t ht
  obtain ⟨j, g1, g2, rfl⟩ := mem_take_pieces (List.mem_filter.1 hs').1
  have hj := piece_ok h hL g2
  unfold OkS at *
  omega
/-- The document's union is the one that has the same numbers. -/
theorem union_same {st : List Int} {L S : List Sp} (h : Starts st L) (hL : ∀ s ∈ L, OkS s) (hS : SortedS L S) : uni S = unionOf st (wthn L) := by
  have hu := uni_uni (S := S) (fun s hs => by have := hL s (hS.perm.mem_iff.1 hs); unfold OkS at this; omega) hS.up
  refine norm_unique hu.norm (unionOf_uni h hL _).norm fun n => ?_
  have e : mem S n ↔ mem L n := ⟨fun ⟨s, hs, hi⟩ => ⟨s, hS.perm.mem_iff.1 hs, hi⟩, fun ⟨s, hs, hi⟩ => ⟨s, hS.perm.mem_iff.2 hs, hi⟩⟩
  rw [hu.mem, e, unionOf_mem h hL (q := fun n => mem L n) (fun i hi n hn => by rw [wthn_mem hL]; exact (piece_mem h hL hi hn).symm)]
  refine ⟨fun hm => ?_, fun hm => hm.2.2⟩
  obtain ⟨s, hs, h1, h2⟩ := hm
  have := hL s hs
  unfold OkS at this
  exact ⟨by omega, by omega, s, hs, h1, h2⟩
/-- How many of the first k spans a number is in. -/
def cnt (L : List Sp) (x : Int) (k : Nat) : Nat := ((L.take k).filter fun s => hasS s x).length
theorem cnt_step {L : List Sp} {x : Int} {k : Nat} (h : k < L.length) : cnt L x (k + 1) = cnt L x k + if hasS (L.getD k (0, 0)) x then 1 else 0 := by
  unfold cnt
  rw [take_succ_sp L k h, List.filter_append, List.length_append]
  show _ + (List.filter (fun s => hasS s x) (L.getD k (0, 0) :: [])).length = _
  rw [List.filter_cons]
  cases hp : hasS (L.getD k (0, 0)) x
  · rw [if_neg (by simp), if_neg (by simp)]; rfl
  · rw [if_pos rfl, if_pos rfl]; rfl
theorem cnt_le (L : List Sp) (x : Int) (k : Nat) : cnt L x k ≤ k := by
  unfold cnt
  have h2 := List.length_filter_le (fun s : Sp => hasS s x) (L.take k)
  have h3 : (L.take k).length ≤ k := by rw [List.length_take]; omega
  omega
theorem hasS_in {s : Sp} (hs : OkS s) (x : Int) : hasS s x = true ↔ inS s x := by
  unfold hasS inS
  simp only [Bool.and_eq_true, decide_eq_true_eq]
  exact ⟨fun h => ⟨h.1.2, h.2⟩, fun h => ⟨⟨chkS_ok.2 hs, h.1⟩, h.2⟩⟩
theorem cnt_norm : ∀ {L : List Sp} {x : Int}, Norm L → (∀ s ∈ L, OkS s) → (L.filter fun s => hasS s x).length ≤ 1 ∧ ((L.filter fun s => hasS s x).length = 1 ↔ mem L x)
  | [], x, _, _ => ⟨Nat.zero_le _, by simp [mem]⟩
  | s :: L, x, hN, hok => by
    obtain ⟨p1, p2⟩ := List.pairwise_cons.1 hN.2
    obtain ⟨i1, i2⟩ := cnt_norm (L := L) (x := x) ⟨fun t ht => hN.1 t (List.mem_cons_of_mem _ ht), p2⟩ fun t ht => hok t (List.mem_cons_of_mem _ ht)
    have hs := hasS_in (hok s (by simp)) x
    rw [mem_cons]
    cases hp : hasS s x
    · rw [hp] at hs
      rw [List.filter_cons, hp]
      refine ⟨i1, ?_⟩
      rw [if_neg (by simp), i2]
      exact ⟨.inr, fun h => h.elim (fun h => absurd (hs.2 h) (by simp)) id⟩
    · rw [hp] at hs
      have hin := hs.1 rfl
      have h0 : L.filter (fun s => hasS s x) = [] := by
        rw [List.filter_eq_nil_iff]
        intro t ht hh
        have h1 := (hasS_in (hok t (List.mem_cons_of_mem _ ht)) x).1 hh
        have := p1 t ht
        have := h1.1
        have := hin.2
        omega
      rw [List.filter_cons, hp, if_pos rfl, h0]
      exact ⟨Nat.le_refl _, ⟨fun _ => .inl hin, fun _ => rfl⟩⟩
theorem cnt_all (L : List Sp) (x : Int) : cnt L x L.length = (L.filter fun s => hasS s x).length := by unfold cnt; rw [List.take_length]
end Go.Proofs.Ytcbhhfnnjfpmbaa
