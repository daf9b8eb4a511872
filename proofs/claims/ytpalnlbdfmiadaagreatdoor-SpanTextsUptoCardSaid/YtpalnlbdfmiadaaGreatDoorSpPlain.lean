/-
  Plain facts about spans (pairs of numbers): lists of them that are apart are known by the numbers that they have; merging sorted ones; the pieces between starts. Nothing is claimed of the program here.
-/
import Derived.Test.YtpalnlbdfmiadaaGreatDoorPlain
namespace Go.Proofs.YtpalnlbdfmiadaaGreatDoor
set_option linter.unusedVariables false

abbrev Sp := Int × Int
/-- Does a span have a number? -/
def inS (s : Sp) (n : Int) : Prop := s.1 ≤ n ∧ n ≤ s.2
/-- Has any of some? -/
def mem (L : List Sp) (n : Int) : Prop := ∃ s, s ∈ L ∧ inS s n
/-- A span that may be. -/
def OkS (s : Sp) : Prop := 0 ≤ s.1 ∧ s.1 ≤ s.2 ∧ s.2 ≤ 65535
/-- Spans that are apart, in order. -/
def Norm (L : List Sp) : Prop := (∀ s ∈ L, s.1 ≤ s.2) ∧ L.Pairwise (fun a b => a.2 + 1 < b.1)
theorem mem_nil (n : Int) : ¬ mem [] n := fun ⟨_, h, _⟩ => by cases h
theorem mem_cons {s : Sp} {L : List Sp} {n : Int} : mem (s :: L) n ↔ inS s n ∨ mem L n := by
  constructor
  · rintro ⟨t, ht, hn⟩
    rcases List.mem_cons.1 ht with rfl | ht
    · exact .inl hn
    · exact .inr ⟨t, ht, hn⟩
  · rintro (h | ⟨t, ht, hn⟩)
    · exact ⟨s, List.mem_cons_self, h⟩
    · exact ⟨t, List.mem_cons_of_mem _ ht, hn⟩
theorem mem_append {L M : List Sp} {n : Int} : mem (L ++ M) n ↔ mem L n ∨ mem M n := by
  constructor
  · rintro ⟨t, ht, hn⟩
    rcases List.mem_append.1 ht with h | h
    · exact .inl ⟨t, h, hn⟩
    · exact .inr ⟨t, h, hn⟩
  · rintro (⟨t, ht, hn⟩ | ⟨t, ht, hn⟩)
    · exact ⟨t, List.mem_append_left _ ht, hn⟩
    · exact ⟨t, List.mem_append_right _ ht, hn⟩
theorem mem_one {s : Sp} {n : Int} : mem [s] n ↔ inS s n := by
  rw [mem_cons]
  constructor
  · rintro (h | h)
    · exact h
    · exact absurd h (mem_nil n)
  · exact .inl
theorem strict_unique : ∀ {l l' : List Int}, l.Pairwise (· < ·) → l'.Pairwise (· < ·) → (∀ x, x ∈ l ↔ x ∈ l') → l = l'
  | [], [], _, _, _ => rfl
  | [], b :: l', _, _, h => by have := (h b).2 List.mem_cons_self; cases this
  | a :: l, [], _, _, h => by have := (h a).1 List.mem_cons_self; cases this
  | a :: l, b :: l', h1, h2, h => by
    obtain ⟨p1, p2⟩ := List.pairwise_cons.1 h1
    obtain ⟨q1, q2⟩ := List.pairwise_cons.1 h2
    have hab : a = b := by
      rcases List.mem_cons.1 ((h a).1 List.mem_cons_self) with e | ha
      · exact e
      · rcases List.mem_cons.1 ((h b).2 List.mem_cons_self) with e | hb
        · exact e.symm
        · have := q1 a ha; have := p1 b hb; omega
    subst hab
    rw [strict_unique p2 q2 fun x => ⟨fun hx => ?_, fun hx => ?_⟩]
    · rcases List.mem_cons.1 ((h x).1 (List.mem_cons_of_mem _ hx)) with e | h3
      · have := p1 x hx; omega
      · exact h3
    · rcases List.mem_cons.1 ((h x).2 (List.mem_cons_of_mem _ hx)) with e | h3
      · have := q1 x hx; omega
      · exact h3
theorem norm_unique : ∀ {L L' : List Sp}, Norm L → Norm L' → (∀ n, mem L n ↔ mem L' n) → L = L'
  | [], [], _, _, _ => rfl
  | [], b :: l', _, h2, h => absurd ((h b.1).2 (mem_cons.2 (.inl ⟨Int.le_refl _, h2.1 b List.mem_cons_self⟩))) (mem_nil _)
  | a :: l, [], h1, _, h => absurd ((h a.1).1 (mem_cons.2 (.inl ⟨Int.le_refl _, h1.1 a List.mem_cons_self⟩))) (mem_nil _)
  | a :: l, b :: l', h1, h2, h => by
    obtain ⟨p1, p2⟩ := List.pairwise_cons.1 h1.2
    obtain ⟨q1, q2⟩ := List.pairwise_cons.1 h2.2
    have oka := h1.1 a List.mem_cons_self
    have okb := h2.1 b List.mem_cons_self
    have low : ∀ {n}, mem (b :: l') n → b.1 ≤ n := fun {n} hn => by
      rcases mem_cons.1 hn with hn | ⟨s, hs, hn⟩
      · exact hn.1
      · have := q1 s hs; have := hn.1; omega
    have low2 : ∀ {n}, mem (a :: l) n → a.1 ≤ n := fun {n} hn => by
      rcases mem_cons.1 hn with hn | ⟨s, hs, hn⟩
      · exact hn.1
      · have := p1 s hs; have := hn.1; omega
    have e1 : a.1 = b.1 := by
      have u := low ((h a.1).1 (mem_cons.2 (.inl ⟨Int.le_refl _, oka⟩)))
      have v := low2 ((h b.1).2 (mem_cons.2 (.inl ⟨Int.le_refl _, okb⟩)))
      omega
    have e2 : a.2 = b.2 := by
      rcases Int.lt_trichotomy a.2 b.2 with hlt | he | hlt
      · exfalso
        rcases mem_cons.1 ((h (a.2 + 1)).2 (mem_cons.2 (.inl ⟨by omega, by omega⟩))) with hn | ⟨s, hs, hn⟩
        · have := hn.2; omega
        · have := p1 s hs; have := hn.1; omega
      · exact he
      · exfalso
        rcases mem_cons.1 ((h (b.2 + 1)).1 (mem_cons.2 (.inl ⟨by omega, by omega⟩))) with hn | ⟨s, hs, hn⟩
        · have := hn.2; omega
        · have := q1 s hs; have := hn.1; omega
    have hab : a = b := Prod.ext e1 e2
    subst hab
    rw [norm_unique ⟨fun s hs => h1.1 s (List.mem_cons_of_mem _ hs), p2⟩ ⟨fun s hs => h2.1 s (List.mem_cons_of_mem _ hs), q2⟩ fun n => ⟨fun hn => ?_, fun hn => ?_⟩]
    · rcases mem_cons.1 ((h n).1 (mem_cons.2 (.inr hn))) with h3 | h3
      · obtain ⟨s, hs, h4⟩ := hn
        have := p1 s hs; have := h4.1; have := h3.2; omega
      · exact h3
    · rcases mem_cons.1 ((h n).2 (mem_cons.2 (.inr hn))) with h3 | h3
      · obtain ⟨s, hs, h4⟩ := hn
        have := q1 s hs; have := h4.1; have := h3.2; omega
      · exact h3

/-- One more span, behind those that begin no later. -/
def mstep (out : List Sp) (s : Sp) : List Sp := match out.getLast? with
  | some t => if s.1 ≤ t.2 + 1 then out.dropLast ++ [(t.1, max t.2 s.2)] else out ++ [s]
  | none => [s]
theorem mstep_nil (s : Sp) : mstep [] s = [s] := rfl
theorem mstep_join {I : List Sp} {t s : Sp} (h : s.1 ≤ t.2 + 1) : mstep (I ++ [t]) s = I ++ [(t.1, max t.2 s.2)] := by
  unfold mstep
  rw [List.getLast?_append, List.dropLast_concat]
  simp [h]
theorem mstep_more {I : List Sp} {t s : Sp} (h : ¬ s.1 ≤ t.2 + 1) : mstep (I ++ [t]) s = I ++ [t] ++ [s] := by
  unfold mstep
  rw [List.getLast?_append]
  simp [h]
def uni (S : List Sp) : List Sp := S.foldl mstep []
/-- What stands behind the first k of sorted spans. -/
structure Uni (out : List Sp) (S : List Sp) : Prop where
  norm : Norm out
  mem : ∀ n, mem out n ↔ mem S n
  lo : ∀ t ∈ out, ∃ s ∈ S, t.1 = s.1
theorem norm_snoc {I : List Sp} {t : Sp} : Norm (I ++ [t]) ↔ Norm I ∧ t.1 ≤ t.2 ∧ ∀ s ∈ I, s.2 + 1 < t.1 := by
  unfold Norm
  rw [List.pairwise_append]
  constructor
  · rintro ⟨h1, h2, _, h3⟩
    exact ⟨⟨fun s hs => h1 s (List.mem_append_left _ hs), h2⟩, h1 t (by simp), fun s hs => h3 s hs t (by simp)⟩
  · rintro ⟨⟨h1, h2⟩, h3, h4⟩
    refine ⟨fun s hs => ?_, h2, List.pairwise_singleton _ _, fun a ha b hb => ?_⟩
    · rcases List.mem_append.1 hs with h | h
      · exact h1 s h
      · rw [List.mem_singleton.1 h]; exact h3
    · rw [List.mem_singleton.1 hb]; exact h4 a ha
theorem last_cases (out : List Sp) : out = [] ∨ ∃ I t, out = I ++ [t] := by
  rcases List.eq_nil_or_concat out with h | ⟨I, t, h⟩
  · exact .inl h
  · exact .inr ⟨I, t, by rw [h, List.concat_eq_append]⟩
theorem Uni.step {out S : List Sp} {s : Sp} (h : Uni out S) (hs : s.1 ≤ s.2) (hlo : ∀ t ∈ S, t.1 ≤ s.1) : Uni (mstep out s) (S ++ [s]) := by
  rcases last_cases out with rfl | ⟨I, t, rfl⟩
  · rw [mstep_nil]
    refine ⟨⟨by simpa using hs, List.pairwise_singleton _ _⟩, fun n => ?_, fun t ht => ⟨s, by simp, by rw [List.mem_singleton.1 ht]⟩⟩
    rw [mem_append, ← h.mem n, mem_one]
    exact ⟨.inr, fun h => h.resolve_left (mem_nil n)⟩
  · obtain ⟨h1, h2, h3⟩ := norm_snoc.1 h.norm
    have htlo : t.1 ≤ s.1 := by
      obtain ⟨u, hu, e⟩ := h.lo t (by simp)
      have := hlo u hu
      omega
    by_cases hj : s.1 ≤ t.2 + 1
    · rw [mstep_join hj]
      refine ⟨norm_snoc.2 ⟨h1, by show t.1 ≤ max t.2 s.2; omega, h3⟩, fun n => ?_, fun u hu => ?_⟩
      · rw [mem_append (M := [s]), ← h.mem n, mem_append, mem_append, mem_one, mem_one, mem_one]
        unfold inS
        show _ ∨ (t.1 ≤ n ∧ n ≤ max t.2 s.2) ↔ _
        constructor
        · rintro (h | h)
          · exact .inl (.inl h)
          · by_cases hn : n ≤ t.2
            · exact .inl (.inr ⟨h.1, hn⟩)
            · exact .inr (by omega)
        · rintro ((h | h) | h)
          · exact .inl h
          · exact .inr (by omega)
          · exact .inr (by omega)
      · rcases List.mem_append.1 hu with hu | hu
        · obtain ⟨x, hx, e⟩ := h.lo u (List.mem_append_left _ hu)
          exact ⟨x, List.mem_append_left _ hx, e⟩
        · obtain ⟨x, hx, e⟩ := h.lo t (by simp)
          rw [List.mem_singleton.1 hu]
          exact ⟨x, List.mem_append_left _ hx, e⟩
    · rw [mstep_more hj]
      refine ⟨norm_snoc.2 ⟨h.norm, hs, fun u hu => ?_⟩, fun n => ?_, fun u hu => ?_⟩
      · rcases List.mem_append.1 hu with hu | hu
        · have := h3 u hu; omega
        · rw [List.mem_singleton.1 hu]; omega
      · rw [mem_append (L := I ++ [t]) (M := [s]), mem_append (L := S) (M := [s]), h.mem n]
      · rcases List.mem_append.1 hu with hu | hu
        · obtain ⟨x, hx, e⟩ := h.lo u hu
          exact ⟨x, List.mem_append_left _ hx, e⟩
        · rw [List.mem_singleton.1 hu]; exact ⟨s, by simp, rfl⟩
theorem Uni.nil : Uni [] [] := ⟨⟨by simp, List.Pairwise.nil⟩, fun n => Iff.rfl, by simp⟩
theorem uni_is : ∀ (S R out : List Sp), Uni out R → (∀ s ∈ S, s.1 ≤ s.2) → (R ++ S).Pairwise (fun a b => a.1 ≤ b.1) → Uni (S.foldl mstep out) (R ++ S)
  | [], R, out, h, _, _ => by simpa using h
  | s :: S, R, out, h, hs, hp => by
    rw [List.foldl_cons]
    have hp2 : (R ++ [s] ++ S).Pairwise (fun a b => a.1 ≤ b.1) := by simpa using hp
    have h2 := uni_is S (R ++ [s]) (mstep out s) (h.step (hs s (by simp)) (fun t ht => (List.pairwise_append.1 hp).2.2 t ht s (by simp))) (fun t ht => hs t (List.mem_cons_of_mem _ ht)) hp2
    simpa using h2
theorem uni_uni {S : List Sp} (hs : ∀ s ∈ S, s.1 ≤ s.2) (hp : S.Pairwise (fun a b => a.1 ≤ b.1)) : Uni (uni S) S := by
  have := uni_is S [] [] Uni.nil hs (by simpa using hp)
  rw [List.nil_append] at this
  exact this

/-- Where the pieces begin: 0, where a span begins, and behind where one ends, if there is a port. -/
def marks (L : List Sp) : List Int := 0 :: L.flatMap fun s => if s.2 + 1 ≤ 65535 then [s.1, s.2 + 1] else [s.1]
theorem mem_marks {L : List Sp} {x : Int} : x ∈ marks L ↔ x = 0 ∨ ∃ s ∈ L, x = s.1 ∨ (x = s.2 + 1 ∧ x ≤ 65535) := by
  unfold marks
  rw [List.mem_cons, List.mem_flatMap]
  constructor
  · rintro (h | ⟨s, hs, hx⟩)
    · exact .inl h
    · refine .inr ⟨s, hs, ?_⟩
      split at hx
      · simp at hx
        omega
      · simp at hx
        omega
  · rintro (h | ⟨s, hs, hx⟩)
    · exact .inl h
    · refine .inr ⟨s, hs, ?_⟩
      split
      · simp; omega
      · simp; omega
/-- The starts of spans. -/
structure Starts (st : List Int) (L : List Sp) : Prop where
  up : st.Pairwise (· < ·)
  mem : ∀ x, x ∈ st ↔ x ∈ marks L
theorem Starts.unique {st st' : List Int} {L : List Sp} (h : Starts st L) (h' : Starts st' L) : st = st' := strict_unique h.up h'.up fun x => (h.mem x).trans (h'.mem x).symm
theorem Starts.bounds {st : List Int} {L : List Sp} (h : Starts st L) (hL : ∀ s ∈ L, OkS s) : ∀ x ∈ st, 0 ≤ x ∧ x ≤ 65535 := by
  intro x hx
  rcases mem_marks.1 ((h.mem x).1 hx) with rfl | ⟨s, hs, hx⟩
  · omega
  · have := hL s hs
    unfold OkS at this
    omega
theorem Starts.pos {st : List Int} {L : List Sp} (h : Starts st L) : 0 < st.length := List.length_pos_of_mem ((h.mem 0).2 (mem_marks.2 (.inl rfl)))
theorem getD_mem {l : List Int} {i : Nat} (h : i < l.length) : l.getD i 0 ∈ l := by
  rw [List.getD_eq_getElem?_getD, List.getElem?_eq_getElem h]
  exact List.getElem_mem h
theorem up_lt {l : List Int} (h : l.Pairwise (· < ·)) {i j : Nat} (hij : i < j) (hj : j < l.length) : l.getD i 0 < l.getD j 0 := by
  rw [List.getD_eq_getElem?_getD, List.getD_eq_getElem?_getD, List.getElem?_eq_getElem (by omega), List.getElem?_eq_getElem hj]
  exact List.pairwise_iff_getElem.1 h i j (by omega) hj hij
theorem mem_getD {l : List Int} {x : Int} (h : x ∈ l) : ∃ i, i < l.length ∧ l.getD i 0 = x := by
  obtain ⟨i, hi, e⟩ := List.getElem_of_mem h
  exact ⟨i, hi, by rw [List.getD_eq_getElem?_getD, List.getElem?_eq_getElem hi]; exact e⟩
theorem Starts.zero {st : List Int} {L : List Sp} (h : Starts st L) (hL : ∀ s ∈ L, OkS s) : st.getD 0 0 = 0 := by
  obtain ⟨i, hi, e⟩ := mem_getD ((h.mem 0).2 (mem_marks.2 (.inl rfl)))
  rcases Nat.eq_zero_or_pos i with h0 | h0
  · subst h0; exact e
  · have h1 := up_lt h.up h0 hi
    have h2 := h.bounds hL _ (getD_mem h.pos)
    omega
/-- Piece i. -/
def pieceAt (st : List Int) (i : Nat) : Sp := (st.getD i 0, if i + 1 < st.length then st.getD (i + 1) 0 - 1 else 65535)
def pieces (st : List Int) : List Sp := (List.range st.length).map (pieceAt st)
theorem piece_ok {st : List Int} {L : List Sp} (h : Starts st L) (hL : ∀ s ∈ L, OkS s) {i : Nat} (hi : i < st.length) : OkS (pieceAt st i) := by
  have h1 := h.bounds hL _ (getD_mem hi)
  unfold pieceAt OkS
  dsimp only
  split
  · rename_i hlt
    have h2 := up_lt h.up (show i < i + 1 by omega) hlt
    have h3 := h.bounds hL _ (getD_mem hlt)
    omega
  · omega
theorem piece_apart {st : List Int} (h : st.Pairwise (· < ·)) {i j : Nat} (hij : i < j) (hj : j < st.length) : (pieceAt st i).2 < (pieceAt st j).1 := by
  unfold pieceAt
  dsimp only
  rw [if_pos (by omega)]
  rcases Nat.lt_or_ge (i + 1) j with h1 | h1
  · have := up_lt h h1 hj; omega
  · have e : i + 1 = j := by omega
    rw [e]; omega
/-- Every port is in a piece. -/
theorem piece_of {st : List Int} {L : List Sp} (h : Starts st L) (hL : ∀ s ∈ L, OkS s) {n : Int} (h0 : 0 ≤ n) (h1 : n ≤ 65535) : ∃ i, i < st.length ∧ inS (pieceAt st i) n := by
  have hz := h.zero hL
  have hp := h.pos
  suffices ∀ d i, i + d = st.length → 0 < d → st.getD i 0 ≤ n → ∃ i, i < st.length ∧ inS (pieceAt st i) n from this st.length 0 (by omega) hp (by omega)
  intro d
  induction d with
  | zero => intro i _ h; omega
  | succ d ih =>
    intro i hi _ hn
    by_cases hlt : i + 1 < st.length
    · by_cases hn2 : st.getD (i + 1) 0 ≤ n
      · exact ih (i + 1) (by omega) (by omega) hn2
      · refine ⟨i, by omega, hn, ?_⟩
        show n ≤ if i + 1 < st.length then st.getD (i + 1) 0 - 1 else 65535
        rw [if_pos hlt]; omega
    · refine ⟨i, by omega, hn, ?_⟩
      show n ≤ if i + 1 < st.length then st.getD (i + 1) 0 - 1 else 65535
      rw [if_neg hlt]; omega
/-- In a piece all numbers are in the same spans. -/
theorem piece_same {st : List Int} {L : List Sp} (h : Starts st L) (hL : ∀ s ∈ L, OkS s) {i : Nat} (hi : i < st.length) {n : Int} (hn : inS (pieceAt st i) n) {s : Sp} (hs : s ∈ L) : inS s n ↔ inS s (pieceAt st i).1 := by
  have hok := hL s hs
  have hpo := piece_ok h hL hi
  obtain ⟨n1, n2⟩ := hn
  unfold OkS at hok hpo
  have a1 : s.1 ≤ n ↔ s.1 ≤ (pieceAt st i).1 := by
    refine ⟨fun hle => ?_, fun hle => by omega⟩
    obtain ⟨j, hj, e⟩ := mem_getD ((h.mem s.1).2 (mem_marks.2 (.inr ⟨s, hs, .inl rfl⟩)))
    rcases Nat.lt_or_ge i j with hlt | hge
    · have h3 := piece_apart h.up hlt hj
      have e2 : (pieceAt st j).1 = st.getD j 0 := rfl
      omega
    · have e2 : (pieceAt st i).1 = st.getD i 0 := rfl
      rcases Nat.lt_or_ge j i with hlt | hge2
      · have := up_lt h.up hlt hi; omega
      · have : j = i := by omega
        subst this; omega
  have a2 : n ≤ s.2 ↔ (pieceAt st i).1 ≤ s.2 := by
    refine ⟨fun hle => by omega, fun hle => ?_⟩
    rcases Int.lt_or_le s.2 n with hlt | hle2
    · exfalso
      obtain ⟨j, hj, e⟩ := mem_getD ((h.mem (s.2 + 1)).2 (mem_marks.2 (.inr ⟨s, hs, .inr ⟨rfl, by omega⟩⟩)))
      rcases Nat.lt_or_ge i j with h3 | h3
      · have h4 := piece_apart h.up h3 hj
        have e2 : (pieceAt st j).1 = st.getD j 0 := rfl
        omega
      · have e2 : (pieceAt st i).1 = st.getD i 0 := rfl
        rcases Nat.lt_or_ge j i with h5 | h5
        · have := up_lt h.up h5 hi; omega
        · have : j = i := by omega
          subst this; omega
    · exact hle2
  unfold inS
  rw [a1, a2]
theorem piece_mem {st : List Int} {L : List Sp} (h : Starts st L) (hL : ∀ s ∈ L, OkS s) {i : Nat} (hi : i < st.length) {n : Int} (hn : inS (pieceAt st i) n) : mem L n ↔ mem L (pieceAt st i).1 :=
  ⟨fun ⟨s, hs, h1⟩ => ⟨s, hs, (piece_same h hL hi hn hs).1 h1⟩, fun ⟨s, hs, h1⟩ => ⟨s, hs, (piece_same h hL hi hn hs).2 h1⟩⟩
theorem pieces_sorted {st : List Int} (h : st.Pairwise (· < ·)) : (pieces st).Pairwise (fun a b => a.1 ≤ b.1) := by
  unfold pieces
  rw [List.pairwise_map]
  refine List.Pairwise.imp_of_mem (fun {i j} hi hj hij => ?_) List.pairwise_lt_range
  have := up_lt h hij (List.mem_range.1 hj)
  show st.getD i 0 ≤ st.getD j 0
  omega
/-- The pieces that p tells, by where they begin, merged. -/
def unionOf (st : List Int) (p : Int → Bool) : List Sp := uni ((pieces st).filter fun s => p s.1)
theorem mem_pieces {st : List Int} {s : Sp} : s ∈ pieces st ↔ ∃ i, i < st.length ∧ pieceAt st i = s := by
  unfold pieces
  rw [List.mem_map]
  exact ⟨fun ⟨i, h1, h2⟩ => ⟨i, List.mem_range.1 h1, h2⟩, fun ⟨i, h1, h2⟩ => ⟨i, List.mem_range.2 h1, h2⟩⟩
theorem unionOf_uni {st : List Int} {L : List Sp} (h : Starts st L) (hL : ∀ s ∈ L, OkS s) (p : Int → Bool) : Uni (unionOf st p) ((pieces st).filter fun s => p s.1) := by
  refine uni_uni (fun s hs => ?_) ((pieces_sorted h.up).filter _)
  obtain ⟨i, hi, rfl⟩ := mem_pieces.1 (List.mem_filter.1 hs).1
  exact (piece_ok h hL hi).2.1
/-- The document's union and the numbers that it has: those whose piece p tells. -/
theorem unionOf_mem {st : List Int} {L : List Sp} (h : Starts st L) (hL : ∀ s ∈ L, OkS s) {p : Int → Bool} {q : Int → Prop} (hp : ∀ i, i < st.length → ∀ n, inS (pieceAt st i) n → (p (pieceAt st i).1 = true ↔ q n)) (n : Int) : mem (unionOf st p) n ↔ (0 ≤ n ∧ n ≤ 65535 ∧ q n) := by
  rw [(unionOf_uni h hL p).mem n]
  constructor
  · rintro ⟨s, hs, hn⟩
    obtain ⟨h1, h2⟩ := List.mem_filter.1 hs
    obtain ⟨i, hi, rfl⟩ := mem_pieces.1 h1
    have hok := piece_ok h hL hi
    unfold OkS at hok
    have := hn.1
    have := hn.2
    exact ⟨by omega, by omega, (hp i hi n hn).1 h2⟩
  · rintro ⟨h0, h1, hq⟩
    obtain ⟨i, hi, hn⟩ := piece_of h hL h0 h1
    exact ⟨_, List.mem_filter.2 ⟨mem_pieces.2 ⟨i, hi, rfl⟩, (hp i hi n hn).2 hq⟩, hn⟩

/-- What spans that are apart leave, from next on. -/
def restFrom (next : Int) : List Sp → List Sp
  | [] => if next < 65536 then [(next, 65535)] else []
  | s :: U => (if next < s.1 then [(next, s.1 - 1)] else []) ++ restFrom (s.2 + 1) U
theorem rest_is : ∀ (U : List Sp) (next : Int), Norm U → (∀ s ∈ U, OkS s) → (∀ s ∈ U, next ≤ s.1) → next ≤ 65536 → 0 ≤ next →
    Norm (restFrom next U) ∧ (∀ n, mem (restFrom next U) n ↔ (next ≤ n ∧ n ≤ 65535 ∧ ¬ mem U n)) ∧ (∀ s ∈ restFrom next U, next ≤ s.1 ∧ OkS s)
  | [], next, _, _, _, h1, h0 => by
    unfold restFrom
    by_cases h : next < 65536
    · rw [if_pos h]
      refine ⟨⟨fun s hs => ?_, List.pairwise_singleton _ _⟩, fun n => ?_, fun s hs => ?_⟩
      · rw [List.mem_singleton.1 hs]; show next ≤ 65535; omega
      · rw [mem_one]
        exact ⟨fun hn => ⟨hn.1, hn.2, mem_nil n⟩, fun hn => ⟨hn.1, hn.2.1⟩⟩
      · rw [List.mem_singleton.1 hs]; unfold OkS; dsimp only; omega
    · rw [if_neg h]
      refine ⟨⟨by simp, List.Pairwise.nil⟩, fun n => ⟨fun hn => absurd hn (mem_nil n), fun hn => ?_⟩, by simp⟩
      have := hn.1; have := hn.2.1; omega
  | s :: U, next, hU, hok, hlo, h1, h0 => by
    obtain ⟨p1, p2⟩ := List.pairwise_cons.1 hU.2
    have oks := hok s List.mem_cons_self
    unfold OkS at oks
    have los := hlo s List.mem_cons_self
    obtain ⟨i1, i2, i3⟩ := rest_is U (s.2 + 1) ⟨fun t ht => hU.1 t (List.mem_cons_of_mem _ ht), p2⟩ (fun t ht => hok t (List.mem_cons_of_mem _ ht)) (fun t ht => by have := p1 t ht; omega) (by omega) (by omega)
    have hnot : ∀ n, s.2 + 1 ≤ n → (¬ mem (s :: U) n ↔ ¬ mem U n) := fun n hn => by
      rw [mem_cons]
      constructor
      · exact fun h hm => h (.inr hm)
      · rintro h (h2 | h2)
        · have := h2.2; omega
        · exact h h2
    have hin : ∀ n, inS s n → mem (s :: U) n := fun n hn => mem_cons.2 (.inl hn)
    have hfar : ∀ n, n < s.1 → ¬ mem (s :: U) n := fun n hn hm => by
      rcases mem_cons.1 hm with h2 | ⟨t, ht, h2⟩
      · have := h2.1; omega
      · have := p1 t ht; have := h2.1; omega
    unfold restFrom
    by_cases hlt : next < s.1
    · rw [if_pos hlt]
      refine ⟨⟨fun t ht => ?_, ?_⟩, fun n => ?_, fun t ht => ?_⟩
      · rcases List.mem_cons.1 ht with rfl | ht
        · show next ≤ s.1 - 1; omega
        · exact i1.1 t ht
      · refine List.pairwise_cons.2 ⟨fun t ht => ?_, i1.2⟩
        have := (i3 t ht).1
        show s.1 - 1 + 1 < t.1
        omega
      · show mem ((next, s.1 - 1) :: restFrom (s.2 + 1) U) n ↔ _
        rw [mem_cons, i2 n]
        unfold inS
        dsimp only
        constructor
        · rintro (h | ⟨h2, h3, h4⟩)
          · exact ⟨h.1, by omega, hfar n (by omega)⟩
          · exact ⟨by omega, h3, (hnot n h2).2 h4⟩
        · rintro ⟨h2, h3, h4⟩
          rcases Int.lt_or_le n s.1 with h5 | h5
          · exact .inl (by omega)
          · rcases Int.lt_or_le s.2 n with h6 | h6
            · exact .inr ⟨by omega, h3, (hnot n (by omega)).1 h4⟩
            · exact absurd (hin n ⟨h5, h6⟩) h4
      · rcases List.mem_cons.1 ht with rfl | ht
        · unfold OkS; dsimp only; omega
        · have := i3 t ht; exact ⟨by omega, this.2⟩
    · rw [if_neg hlt, List.nil_append]
      refine ⟨i1, fun n => ?_, fun t ht => ⟨by have := (i3 t ht).1; omega, (i3 t ht).2⟩⟩
      rw [i2 n]
      constructor
      · rintro ⟨h2, h3, h4⟩
        exact ⟨by omega, h3, (hnot n h2).2 h4⟩
      · rintro ⟨h2, h3, h4⟩
        rcases Int.lt_or_le s.2 n with h6 | h6
        · exact ⟨by omega, h3, (hnot n (by omega)).1 h4⟩
        · exact absurd (hin n ⟨by omega, h6⟩) h4
end Go.Proofs.YtpalnlbdfmiadaaGreatDoor
