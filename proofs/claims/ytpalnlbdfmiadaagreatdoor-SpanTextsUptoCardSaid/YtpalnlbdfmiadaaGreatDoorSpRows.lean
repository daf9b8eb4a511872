/-
  Rows of spans in memory: 'SpRow' (a slice value reads as these), 'OutSp' (a slice that the call appends to).
-/
import Derived.Test.YtpalnlbdfmiadaaGreatDoorOwn
import Derived.Test.YtpalnlbdfmiadaaGreatDoorSpPlain
import Derived.Maps.AppendAt
namespace Go.Proofs.YtpalnlbdfmiadaaGreatDoor
open Go.RowKit
set_option linter.unusedVariables false

def I64 (x : Int) : Prop := -9223372036854775808 ≤ x ∧ x ≤ 9223372036854775807
/-- A slice with address A and length n reads as the spans L. -/
def SpRow (w : World) (A : Option Addr) (n : Nat) (L : List Sp) : Prop :=
  L.length = n ∧ (∀ s ∈ L, I64 s.1 ∧ I64 s.2) ∧ ∀ i, i < n → ∃ b o, A = some ⟨b, o, none⟩ ∧ w.cell? ⟨b, o + i * 2, none⟩ = some (.int .i64 (L.getD i (0, 0)).1) ∧ w.cell? ⟨b, o + i * 2 + 1, none⟩ = some (.int .i64 (L.getD i (0, 0)).2)
theorem SpRow.len {w : World} {A : Option Addr} {n : Nat} {L : List Sp} (h : SpRow w A n L) : L.length = n := h.1
theorem sp_getD_mem {L : List Sp} {i : Nat} (h : i < L.length) : L.getD i (0, 0) ∈ L := by
  rw [List.getD_eq_getElem?_getD, List.getElem?_eq_getElem h]
  exact List.getElem_mem h
theorem SpRow.word {w : World} {A : Option Addr} {n : Nat} {L : List Sp} (h : SpRow w A n L) {i : Nat} (hi : i < n) : I64 (L.getD i (0, 0)).1 ∧ I64 (L.getD i (0, 0)).2 := h.2.1 _ (sp_getD_mem (by rw [h.1]; exact hi))
theorem SpRow.addr {w : World} {A : Option Addr} {n : Nat} {L : List Sp} (h : SpRow w A n L) (hn : 0 < n) :
    ∃ b o, A = some ⟨b, o, none⟩ ∧ b < w.heap.size ∧ ∀ i, i < n → w.cell? ⟨b, o + i * 2, none⟩ = some (.int .i64 (L.getD i (0, 0)).1) ∧ w.cell? ⟨b, o + i * 2 + 1, none⟩ = some (.int .i64 (L.getD i (0, 0)).2) := by
  obtain ⟨b, o, rfl, hc, _⟩ := h.2.2 0 hn
  refine ⟨b, o, rfl, cell_lt hc, fun i hi => ?_⟩
  obtain ⟨b', o', he, hc', hc2⟩ := h.2.2 i hi
  injection he with he
  injection he with h1 h2
  subst h1 h2
  exact ⟨hc', hc2⟩
theorem SpRow.keep {w w' : World} {A : Option Addr} {n : Nat} {L : List Sp} (h : SpRow w A n L) (hk : ∀ p : Addr, p.block < w.heap.size → w'.cell? p = w.cell? p) : SpRow w' A n L :=
  ⟨h.1, h.2.1, fun i hi => by
    obtain ⟨b, o, he, hc, hc2⟩ := h.2.2 i hi
    exact ⟨b, o, he, (hk _ (cell_lt hc)).trans hc, (hk _ (cell_lt hc2)).trans hc2⟩⟩
theorem SpRow.below {w w' : World} {A : Option Addr} {n : Nat} {L : List Sp} (h : SpRow w A n L) (hb : Below w.heap.size w w') : SpRow w' A n L := h.keep fun _ hp => hb.cell hp
theorem SpRow.alloc {w : World} {A : Option Addr} {n : Nat} {L : List Sp} (h : SpRow w A n L) (o : Obj) : SpRow (w.alloc o) A n L := h.keep fun p hp => World.cell?_alloc_lt w o p hp
theorem SpRow.nil (w : World) (A : Option Addr) : SpRow w A 0 [] := ⟨rfl, by simp, fun _ h => absurd h (by omega)⟩

def scells (L : List Sp) : List Value := L.flatMap fun s => [.int .i64 s.1, .int .i64 s.2]
theorem scells_length (L : List Sp) : (scells L).length = L.length * 2 := by
  induction L with
  | nil => rfl
  | cons p L ih =>
    show ([Value.int .i64 p.1, .int .i64 p.2] ++ scells L).length = (L.length + 1) * 2
    rw [List.length_append, ih]
    show 2 + L.length * 2 = _
    omega
theorem scells_append (L M : List Sp) : scells (L ++ M) = scells L ++ scells M := by simp [scells]
theorem scells_at : ∀ {L : List Sp} {i : Nat}, i < L.length → (scells L)[i * 2]? = some (.int .i64 (L.getD i (0, 0)).1) ∧ (scells L)[i * 2 + 1]? = some (.int .i64 (L.getD i (0, 0)).2)
  | [], i, h => absurd h (Nat.not_lt_zero _)
  | q :: L, 0, h => ⟨rfl, rfl⟩
  | q :: L, i + 1, h => by
    have h2 := scells_at (L := L) (i := i) (by simpa using h)
    have e : scells (q :: L) = .int .i64 q.1 :: .int .i64 q.2 :: scells L := rfl
    rw [e, show (i + 1) * 2 = i * 2 + 1 + 1 by omega]
    simpa using h2
theorem scells_one (L : List Sp) : ∀ v ∈ scells L, v.oneCell' = true := by
  intro v hv
  simp only [scells, List.mem_flatMap] at hv
  obtain ⟨x, _, hx⟩ := hv
  simp at hx
  rcases hx with rfl | rfl <;> rfl
/-- A store into the last span's end. -/
theorem scells_set {I : List Sp} {t : Sp} {x : Int} : (scells (I ++ [t])).set (I.length * 2 + 1) (.int .i64 x) = scells (I ++ [(t.1, x)]) := by
  rw [scells_append, scells_append, List.set_append_right _ _ (by rw [scells_length]; omega), scells_length, show I.length * 2 + 1 - I.length * 2 = 1 by omega]
  rfl
/-- A slice of spans that the call itself appends to. -/
def OutSp (B : Nat) (w : World) (v : Value) (L : List Sp) : Prop := w.ownsRow B 23 2 v L.length (scells L)
theorem OutSp.nil (B : Nat) (w : World) : OutSp B w (.slice none 0 0) [] := World.ownsRow_nil _ _ _ _
theorem OutSp.alloc {B : Nat} {w : World} {v : Value} {L : List Sp} (h : OutSp B w v L) (o : Obj) : OutSp B (w.alloc o) v L := World.ownsRow.alloc h o
theorem OutSp.mono {B B' : Nat} {w : World} {v : Value} {L : List Sp} (h : OutSp B w v L) (hB : B' ≤ B) : OutSp B' w v L := by
  refine ⟨h.1, ?_⟩
  rcases h.2 with h2 | ⟨g, cap, cur, hv, hg, r⟩
  · exact .inl h2
  · exact .inr ⟨g, cap, cur, hv, by omega, r⟩
theorem OutSp.below {B : Nat} {w w' : World} {v : Value} {L : List Sp} (h : OutSp B w v L) (hb : Below w.heap.size w w') : OutSp B w' v L := by
  refine ⟨h.1, ?_⟩
  rcases h.2 with h2 | ⟨g, cap, cur, hv, hg, hh, r⟩
  · exact .inl h2
  · refine .inr ⟨g, cap, cur, hv, hg, (hb.block g ?_).trans hh, r⟩
    rcases Nat.lt_or_ge g w.heap.size with hlt | hge
    · exact hlt
    · rw [Array.getElem?_eq_none hge] at hh; cases hh
theorem OutSp.block {B : Nat} {w : World} {v : Value} {L : List Sp} (h : OutSp B w v L) (h0 : 0 < L.length) : ∃ g c, v = .slice (some ⟨g, 0, none⟩) L.length c ∧ B ≤ g ∧ L.length ≤ c ∧ c ≤ maxLen ∧ g < w.heap.size := by
  rcases h.2 with ⟨_, h2⟩ | ⟨g, cap, cur, hv, hg, hh, h4, h5, _⟩
  · omega
  · refine ⟨g, cap, hv, hg, h4, h5, ?_⟩
    rcases Nat.lt_or_ge g w.heap.size with hlt | hge
    · exact hlt
    · rw [Array.getElem?_eq_none hge] at hh; cases hh
theorem OutSp.cells {B g c n : Nat} {w : World} {L : List Sp} (h : OutSp B w (.slice (some ⟨g, 0, none⟩) n c) L) (hn : L.length = n) (i : Nat) (hi : i < n) : w.cell? ⟨g, i * 2, none⟩ = some (.int .i64 (L.getD i (0, 0)).1) ∧ w.cell? ⟨g, i * 2 + 1, none⟩ = some (.int .i64 (L.getD i (0, 0)).2) := by
  subst hn
  have hs := scells_at hi
  rw [World.ownsRow.cellAt h (i * 2) (by omega), World.ownsRow.cellAt h (i * 2 + 1) (by omega)]
  exact hs
theorem OutSp.frozen {B g n c : Nat} {w : World} {L : List Sp} (h : OutSp B w (.slice (some ⟨g, 0, none⟩) n c) L) (hn : L.length = n) (i : Nat) : w.frozen? ⟨g, i, none⟩ = false := by
  subst hn
  exact World.ownsRow.frozenAt h i
theorem OutSp.setHi {B g c : Nat} {w : World} {I : List Sp} {t : Sp} {n : Nat} (h : OutSp B w (.slice (some ⟨g, 0, none⟩) n c) (I ++ [t])) (hn : I.length + 1 = n) (x : Int) : OutSp B (w.setCell ⟨g, I.length * 2 + 1, none⟩ (.int .i64 x)) (.slice (some ⟨g, 0, none⟩) n c) (I ++ [(t.1, x)]) := by
  subst hn
  have e : (I ++ [t]).length = I.length + 1 := by simp
  have h' : w.ownsRow B 23 2 (.slice (some ⟨g, 0, none⟩) (I ++ [t]).length c) (I ++ [t]).length (scells (I ++ [t])) := by rw [e]; unfold OutSp at h; rw [e] at h; exact h
  have h1 := (World.ownsRow.stored h' (I.length * 2 + 1) (.int .i64 x)).1
  unfold OutSp
  rw [scells_set] at h1
  rw [e] at h1
  rw [show (I ++ [(t.1, x)]).length = I.length + 1 by simp]
  exact h1
/-- It reads as these spans. -/
def ValSp (w : World) (v : Value) (L : List Sp) : Prop := ∃ A c, v = .slice A L.length c ∧ L.length ≤ c ∧ SpRow w A L.length L
theorem ValSp.below {w w' : World} {v : Value} {L : List Sp} (h : ValSp w v L) (hb : Below w.heap.size w w') : ValSp w' v L := by
  obtain ⟨A, c, h1, h2, h3⟩ := h
  exact ⟨A, c, h1, h2, h3.below hb⟩
theorem OutSp.val {B : Nat} {w : World} {v : Value} {L : List Sp} (h : OutSp B w v L) (hb : ∀ s ∈ L, I64 s.1 ∧ I64 s.2) : ValSp w v L := by
  rcases Nat.eq_zero_or_pos L.length with h0 | h0
  · have e : L = [] := List.eq_nil_of_length_eq_zero h0
    subst e
    rcases h.2 with ⟨rfl, _⟩ | ⟨g, cap, cur, rfl, _, _, h4, _⟩
    · exact ⟨none, 0, rfl, Nat.le_refl _, SpRow.nil _ _⟩
    · exact ⟨_, cap, rfl, h4, SpRow.nil _ _⟩
  · obtain ⟨g, c, rfl, _, hc, _⟩ := h.block h0
    exact ⟨_, c, rfl, hc, rfl, hb, fun i hi => ⟨g, 0, rfl, by rw [Nat.zero_add]; exact (h.cells rfl i hi).1, by rw [Nat.zero_add]; exact (h.cells rfl i hi).2⟩⟩
theorem span_info : (Tryz.prog.info? 23).map (fun i => (i.zero, i.size, i.bytes)) = some (some (.agg #[.int .i64 0, .int .i64 0]), 2, 16) := by kernel_rfl
/-- 'append(out, s ..)' of spans that the call laid. -/
theorem wpList_appendSp {ops : Array Oper} {rest : List Oper} {o : Oper} {a : Act} {Q : Exit → Act → World → Prop} (hgd : o.guard = none) (s x : Operand)
    (ho : o.op = .call { callee := .builtin .append, args := #[s, x], argTypes := #[44, 44] })
    {B : Nat} {W wr : World} {v : Value} {L : List Sp} {p q : Int} (hs : a.eval s = v) (hx : a.eval x = .slice (some ⟨wr.heap.size, 0, none⟩) 1 1)
    (hown : OutSp B wr v L) (hb : Below B W wr) (hB : B ≤ wr.heap.size) (hlen : L.length + 1 ≤ 8796093022207)
    (h : ∀ v' w', OutSp B w' v' (L ++ [(p, q)]) → Below B W w' → wpList Tryz.prog ops Q rest (a.put o.dst v') w') : wpList Tryz.prog ops Q (o :: rest) a (wr.alloc (.cells #[.int .i64 p, .int .i64 q] 23)) := by
  obtain ⟨i0, h1, h2, h3, h4⟩ := info_parts span_info
  have hown' : (wr.alloc (.cells #[.int .i64 p, .int .i64 q] 23)).ownsRow B 23 2 v L.length (scells L) := World.ownsRow.alloc hown _
  refine wpList_append_own (P := Tryz.prog) (wr.alloc (.cells #[.int .i64 p, .int .i64 q] 23)) hgd s x 44 ho B 23 i0 _ 2 16 Tryz.underlying44 h1 h2 h3 h4 rfl (by decide) v L.length (scells L) hs hown'
    ⟨wr.heap.size, 0, none⟩ 1 1 [.int .i64 p, .int .i64 q] hx rfl (fun j u hj => by
      rw [add_flat, cell_of_row _ wr.heap.size (0 + j) _ _ _ (heap_alloc_new wr _), Nat.zero_add, ← Array.getElem?_toList]
      exact hj) (scells_one [(p, q)]) (by unfold maxLen; omega) (by omega) (by simp; omega) ?_
  intro v' w' ho' hg _
  refine h v' w' ?_ ((hb.alloc hB _).grown hg (by simp; omega) (fun k hk => (hown'.lt k hk).1))
  unfold OutSp
  rw [List.length_append, scells_append]
  exact ho'
end Go.Proofs.YtpalnlbdfmiadaaGreatDoor
