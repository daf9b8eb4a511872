/-
  Slices of options or extension headers, and slices of defects, that the call itself appends to, and what they read as.
-/
import Derived.Test.YtmchclpkjjmocaaGreatOwn
import Derived.Test.YtmchclpkjjmocaaGreatAgree1
import Derived.Maps.AppendAt
namespace Go.Proofs.YtmchclpkjjmocaaGreat
open Go.RowKit
set_option linter.unusedVariables false

/-- The cells of elements. -/
def ecells (L : List (Nat × Value)) : List Value := L.flatMap fun p => [.int .i64 (p.1 : Nat), p.2]
theorem ecells_length (L : List (Nat × Value)) : (ecells L).length = L.length * 2 := by
  induction L with
  | nil => rfl
  | cons p L ih =>
    show ([Value.int .i64 (p.1 : Nat), p.2] ++ ecells L).length = (L.length + 1) * 2
    rw [List.length_append, ih]
    show 2 + L.length * 2 = _
    omega
theorem ecells_snoc (L : List (Nat × Value)) (p : Nat × Value) : ecells (L ++ [p]) = ecells L ++ [.int .i64 (p.1 : Nat), p.2] := by simp [ecells]
theorem ecells_at : ∀ {L : List (Nat × Value)} {i : Nat} {p : Nat × Value}, L[i]? = some p → (ecells L)[2 * i]? = some (.int .i64 (p.1 : Nat)) ∧ (ecells L)[2 * i + 1]? = some p.2
  | [], i, p, h => by simp at h
  | q :: L, 0, p, h => by
    simp at h
    subst h
    exact ⟨rfl, rfl⟩
  | q :: L, i + 1, p, h => by
    have h2 := ecells_at (L := L) (i := i) (p := p) (by simpa using h)
    have e : ecells (q :: L) = .int .i64 (q.1 : Nat) :: q.2 :: ecells L := rfl
    rw [e, show 2 * (i + 1) = 2 * i + 1 + 1 by omega]
    simpa using h2
/-- A body that reads as these bytes and lies apart from a block. -/
def BodyAt (w : World) (g : Option Nat) (bv : Value) (l : List Nat) : Prop :=
  ∃ A c, bv = .slice A l.length c ∧ l.length ≤ c ∧ Row w A l.length l ∧ ∀ ad, A = some ad → g ≠ some ad.block ∧ ad.block < w.heap.size
theorem BodyAt.val {w : World} {g : Option Nat} {bv : Value} {l : List Nat} (h : BodyAt w g bv l) : ByteVal w bv l := by
  obtain ⟨A, c, e, h1, h2, _⟩ := h
  exact ⟨A, c, e, h1, h2⟩
theorem BodyAt.nil (w : World) (g : Option Nat) : BodyAt w g (.slice none 0 0) [] := ⟨none, 0, rfl, Nat.le_refl _, Row.nil w none, fun ad h => by cases h⟩
theorem BodyAt.below {w w' : World} {g : Option Nat} {bv : Value} {l : List Nat} (h : BodyAt w g bv l) (hb : Below w.heap.size w w') : BodyAt w' g bv l := by
  obtain ⟨A, c, e, h1, h2, h3⟩ := h
  exact ⟨A, c, e, h1, h2.below hb, fun ad ha => ⟨(h3 ad ha).1, Nat.lt_of_lt_of_le (h3 ad ha).2 hb.size⟩⟩
/-- It stays where another block is written, and is apart from a block that was made later. -/
theorem BodyAt.grown {w w' : World} {g g' : Option Nat} {bv : Value} {l : List Nat} (h : BodyAt w g bv l) (hg : w.grownBy w' g) (hs : w.heap.size ≤ w'.heap.size) (hg' : g' = g ∨ g' = some w.heap.size) : BodyAt w' g' bv l := by
  obtain ⟨A, c, e, h1, h2, h3⟩ := h
  refine ⟨A, c, e, h1, ?_, fun ad ha => ⟨?_, Nat.lt_of_lt_of_le (h3 ad ha).2 hs⟩⟩
  · rcases Nat.eq_zero_or_pos l.length with h0 | h0
    · have e : l = [] := List.eq_nil_of_length_eq_zero h0
      subst e
      exact Row.nil _ _
    · obtain ⟨b, o, ea, hb, hc⟩ := h2.addr h0
      subst ea
      have h4 := (h3 _ rfl).1
      exact Row.mk rfl h2.2.1 fun i hi => hg.cell (hc i hi) (fun e => h4 e.symm)
  · rcases hg' with rfl | rfl
    · exact (h3 ad ha).1
    · intro e
      injection e with e
      have := (h3 ad ha).2
      omega

/-- A slice of elements that the call itself appends to. -/
def Exts (B : Nat) (w : World) (v : Value) (M : List (Nat × List Nat)) : Prop :=
  ∃ L : List (Nat × Value), L.length = M.length ∧ w.ownsRow B 112 2 v M.length (ecells L) ∧ ∀ (i : Nat) (p : Nat × Value) (m : Nat × List Nat), L[i]? = some p → M[i]? = some m → p.1 = m.1 ∧ BodyAt w v.ownBlock p.2 m.2
theorem Exts.nil (B : Nat) (w : World) : Exts B w (.slice none 0 0) [] := ⟨[], rfl, World.ownsRow_nil _ _ _ _, fun i p m h => by simp at h⟩
theorem ownsRow_below {B : Nat} {w w' : World} {e : TypeId} {s : Nat} {v : Value} {n : Nat} {xs : List Value} (h : w.ownsRow B e s v n xs) (hb : Below w.heap.size w w') : w'.ownsRow B e s v n xs := by
  refine ⟨h.1, ?_⟩
  rcases h.2 with h2 | ⟨g, cap, cur, hv, hg, hh, r⟩
  · exact .inl h2
  · refine .inr ⟨g, cap, cur, hv, hg, (hb.block g ?_).trans hh, r⟩
    rcases Nat.lt_or_ge g w.heap.size with hlt | hge
    · exact hlt
    · rw [Array.getElem?_eq_none hge] at hh; cases hh
theorem Exts.below {B : Nat} {w w' : World} {v : Value} {M : List (Nat × List Nat)} (h : Exts B w v M) (hb : Below w.heap.size w w') : Exts B w' v M := by
  obtain ⟨L, h1, h2, h3⟩ := h
  exact ⟨L, h1, ownsRow_below h2 hb, fun i p m hp hm => ⟨(h3 i p m hp hm).1, (h3 i p m hp hm).2.below hb⟩⟩
theorem Exts.slice {B : Nat} {w : World} {v : Value} {M : List (Nat × List Nat)} (h : Exts B w v M) : ∃ A c, v = .slice A M.length c ∧ M.length ≤ c ∧ c ≤ maxLen := by
  obtain ⟨L, _, h2, _⟩ := h
  rcases h2.2 with ⟨rfl, h0⟩ | ⟨g, cap, cur, rfl, _, _, h4, h5, _⟩
  · rw [h0]; exact ⟨none, 0, rfl, Nat.le_refl _, Nat.zero_le _⟩
  · exact ⟨_, cap, rfl, h4, h5⟩
theorem Exts.lt {B : Nat} {w : World} {v : Value} {M : List (Nat × List Nat)} (h : Exts B w v M) : ∀ k, v.ownBlock = some k → B ≤ k ∧ k < w.heap.size := by
  obtain ⟨L, _, h2, _⟩ := h
  exact World.ownsRow.lt h2
/-- What it reads as. -/
def ExtRead (w : World) (v : Value) (M : List (Nat × List Nat)) : Prop :=
  ∃ A c, v = .slice A M.length c ∧ M.length ≤ c ∧ ∀ (i : Nat) (m : Nat × List Nat), M[i]? = some m → ∃ b o bv, A = some ⟨b, o, none⟩ ∧ b < w.heap.size ∧ w.cell? ⟨b, o + i * 2, none⟩ = some (.int .i64 (m.1 : Nat)) ∧ w.cell? ⟨b, o + i * 2 + 1, none⟩ = some bv ∧ ByteVal w bv m.2
theorem ExtRead.below {w w' : World} {v : Value} {M : List (Nat × List Nat)} (h : ExtRead w v M) (hb : Below w.heap.size w w') : ExtRead w' v M := by
  obtain ⟨A, c, e, h1, h2⟩ := h
  refine ⟨A, c, e, h1, fun i m hm => ?_⟩
  obtain ⟨b, o, bv, ea, hlt, c1, c2, hv⟩ := h2 i m hm
  exact ⟨b, o, bv, ea, Nat.lt_of_lt_of_le hlt hb.size, (hb.cell (p := ⟨b, o + i * 2, none⟩) hlt).trans c1, (hb.cell (p := ⟨b, o + i * 2 + 1, none⟩) hlt).trans c2, hv.below hb⟩
theorem Exts.read {B : Nat} {w : World} {v : Value} {M : List (Nat × List Nat)} (h : Exts B w v M) : ExtRead w v M := by
  obtain ⟨A, c, e, hc, _⟩ := h.slice
  refine ⟨A, c, e, hc, fun i m hm => ?_⟩
  obtain ⟨L, h1, h2, h3⟩ := h
  have hi : i < M.length := by
    rcases Nat.lt_or_ge i M.length with h | h
    · exact h
    · rw [List.getElem?_eq_none h] at hm; cases hm
  have hp : L[i]? = some (L[i]'(by omega)) := List.getElem?_eq_getElem (by omega)
  obtain ⟨e1, hbody⟩ := h3 i _ m hp hm
  obtain ⟨c1, c2⟩ := ecells_at hp
  rcases h2.2 with ⟨rfl, h0⟩ | ⟨g, cap, cur, rfl, hB, hh, h4, h5, hs, ht⟩
  · omega
  · injection e with e2 e3 e4
    subst e2 e4
    have hlt : g < w.heap.size := by
      rcases Nat.lt_or_ge g w.heap.size with hlt | hge
      · exact hlt
      · rw [Array.getElem?_eq_none hge] at hh; cases hh
    have d1 := World.ownsRow.cellAt h2 (2 * i) (by omega)
    have d2 := World.ownsRow.cellAt h2 (2 * i + 1) (by omega)
    refine ⟨g, 0, _, rfl, hlt, ?_, ?_, hbody.val⟩
    · rw [Nat.zero_add, Nat.mul_comm i 2, d1, c1, e1]
    · rw [Nat.zero_add, Nat.mul_comm i 2, d2, c2]

theorem ext_info : (Tryz.prog.info? 112).map (fun i => (i.zero, i.size, i.bytes)) = some (some (.agg #[.int .i64 0, .slice none 0 0]), 2, 32) := by kernel_rfl
theorem ext_one (k : Nat) {bv : Value} (hone : bv.oneCell' = true) : ∀ u ∈ [Value.int .i64 (k : Nat), bv], u.oneCell' = true := by
  intro u hu
  simp at hu
  rcases hu with h | h
  · rw [h]; rfl
  · rw [h]; exact hone
/-- 'append(out, api.Ext{..})'. -/
theorem wpList_append_ext {ops : Array Oper} {rest : List Oper} {o : Oper} {a : Act} {Q : Exit → Act → World → Prop} (hgd : o.guard = none) (s x : Operand)
    (ho : o.op = .call { callee := .builtin .append, args := #[s, x], argTypes := #[47, 47] })
    {B : Nat} {W wr : World} {v bv : Value} {M : List (Nat × List Nat)} {k : Nat} {l : List Nat} (hs : a.eval s = v) (hx : a.eval x = .slice (some ⟨wr.heap.size, 0, none⟩) 1 1)
    (hE : Exts B wr v M) (hbody : BodyAt wr v.ownBlock bv l) (hone : bv.oneCell' = true) (hb : Below B W wr) (hB : B ≤ wr.heap.size) (hlen : M.length ≤ 1000000)
    (h : ∀ v' w', Exts B w' v' (M ++ [(k, l)]) → Below B W w' → wpList Tryz.prog ops Q rest (a.put o.dst v') w') : wpList Tryz.prog ops Q (o :: rest) a (wr.alloc (.cells #[.int .i64 (k : Nat), bv] 112)) := by
  obtain ⟨i0, h1, h2, h3, h4⟩ := info_parts ext_info
  have hE' : Exts B (wr.alloc (.cells #[.int .i64 (k : Nat), bv] 112)) v M := hE.below ((Below.refl _ _).alloc (Nat.le_refl _) _)
  have hb1 : Below wr.heap.size wr (wr.alloc (.cells #[.int .i64 (k : Nat), bv] 112)) := (Below.refl _ _).alloc (Nat.le_refl _) _
  have hbody' := hbody.below hb1
  obtain ⟨L, l1, l2, l3⟩ := hE'
  refine wpList_append_own_at (P := Tryz.prog) (wr.alloc (.cells #[.int .i64 (k : Nat), bv] 112)) hgd s x 47 ho B 112 i0 _ 2 32 Tryz.underlying47 h1 h2 h3 h4 rfl (by decide) v M.length (ecells L) hs l2
    ⟨wr.heap.size, 0, none⟩ 1 1 [.int .i64 (k : Nat), bv] hx rfl (fun j u hj => by
      rw [add_flat, cell_of_row _ wr.heap.size (0 + j) _ _ _ (heap_alloc_new wr _), Nat.zero_add, ← Array.getElem?_toList]
      exact hj) (ext_one k hone) (by unfold maxLen; omega) (by omega) (by simp; omega) ?_
  intro v' w' ho' hg _ hat
  have hsz := hg.size
  refine h v' w' ⟨L ++ [(k, bv)], by simp [l1], ?_, ?_⟩ ((hb.alloc hB _).grown hg (by simp; omega) (fun k hk => (hE.lt k hk).1))
  · rw [ecells_snoc]
    simpa using ho'
  · intro i p m hp hm
    by_cases hi : i < M.length
    · rw [List.getElem?_append_left (by omega)] at hp
      rw [List.getElem?_append_left hi] at hm
      exact ⟨(l3 i p m hp hm).1, (l3 i p m hp hm).2.grown hg hsz hat⟩
    · have hi2 : i = M.length := by
        have h9 : i < (M ++ [(k, l)]).length := by
          rcases Nat.lt_or_ge i (M ++ [(k, l)]).length with h | h
          · exact h
          · rw [List.getElem?_eq_none h] at hm; cases hm
        simp at h9
        omega
      subst hi2
      rw [← l1, List.getElem?_append_right (Nat.le_refl _), Nat.sub_self] at hp
      rw [List.getElem?_append_right (Nat.le_refl _), Nat.sub_self] at hm
      simp at hp hm
      subst hp hm
      exact ⟨rfl, hbody'.grown hg hsz hat⟩

/-- A slice of defects that the call itself appends to. -/
def dcells (L : List Nat) : List Value := L.map fun x => Value.int .i64 (x : Nat)
def Defs (B : Nat) (w : World) (v : Value) (L : List Nat) : Prop := w.ownsRow B 24 1 v L.length (dcells L)
theorem Defs.nil (B : Nat) (w : World) : Defs B w (.slice none 0 0) [] := World.ownsRow_nil _ _ _ _
theorem Defs.below {B : Nat} {w w' : World} {v : Value} {L : List Nat} (h : Defs B w v L) (hb : Below w.heap.size w w') : Defs B w' v L := ownsRow_below h hb
theorem Defs.slice {B : Nat} {w : World} {v : Value} {L : List Nat} (h : Defs B w v L) : ∃ A c, v = .slice A L.length c ∧ L.length ≤ c ∧ c ≤ maxLen := by
  rcases h.2 with ⟨rfl, h0⟩ | ⟨g, cap, cur, rfl, _, _, h4, h5, _⟩
  · rw [h0]; exact ⟨none, 0, rfl, Nat.le_refl _, Nat.zero_le _⟩
  · exact ⟨_, cap, rfl, h4, h5⟩
/-- What it reads as. -/
def DefRead (w : World) (v : Value) (L : List Nat) : Prop :=
  ∃ A c, v = .slice A L.length c ∧ L.length ≤ c ∧ ∀ (i x : Nat), L[i]? = some x → ∃ b o, A = some ⟨b, o, none⟩ ∧ b < w.heap.size ∧ w.cell? ⟨b, o + i, none⟩ = some (.int .i64 (x : Nat))
theorem DefRead.below {w w' : World} {v : Value} {L : List Nat} (h : DefRead w v L) (hb : Below w.heap.size w w') : DefRead w' v L := by
  obtain ⟨A, c, e, h1, h2⟩ := h
  refine ⟨A, c, e, h1, fun i x hx => ?_⟩
  obtain ⟨b, o, ea, hlt, c1⟩ := h2 i x hx
  exact ⟨b, o, ea, Nat.lt_of_lt_of_le hlt hb.size, (hb.cell (p := ⟨b, o + i, none⟩) hlt).trans c1⟩
theorem Defs.read {B : Nat} {w : World} {v : Value} {L : List Nat} (h : Defs B w v L) : DefRead w v L := by
  obtain ⟨A, c, e, hc, _⟩ := h.slice
  refine ⟨A, c, e, hc, fun i x hx => ?_⟩
  have hi : i < L.length := by
    rcases Nat.lt_or_ge i L.length with h | h
    · exact h
    · rw [List.getElem?_eq_none h] at hx; cases hx
  rcases h.2 with ⟨rfl, h0⟩ | ⟨g, cap, cur, rfl, hB, hh, h4, h5, hs, ht⟩
  · omega
  · injection e with e2 e3 e4
    subst e2 e4
    have hlt : g < w.heap.size := by
      rcases Nat.lt_or_ge g w.heap.size with hlt | hge
      · exact hlt
      · rw [Array.getElem?_eq_none hge] at hh; cases hh
    have d1 := World.ownsRow.cellAt h i (by omega)
    refine ⟨g, 0, rfl, hlt, ?_⟩
    rw [Nat.zero_add, d1]
    simp [dcells, hx]
theorem def_info : (Tryz.prog.info? 24).map (fun i => (i.zero, i.size, i.bytes)) = some (some (.int .i64 0), 1, 8) := by kernel_rfl
theorem wpList_append_def {ops : Array Oper} {rest : List Oper} {o : Oper} {a : Act} {Q : Exit → Act → World → Prop} (hgd : o.guard = none) (s x : Operand)
    (ho : o.op = .call { callee := .builtin .append, args := #[s, x], argTypes := #[56, 56] })
    {B : Nat} {W wr : World} {v : Value} {L : List Nat} {d : Nat} (hs : a.eval s = v) (hx : a.eval x = .slice (some ⟨wr.heap.size, 0, none⟩) 1 1)
    (hE : Defs B wr v L) (hb : Below B W wr) (hB : B ≤ wr.heap.size) (hlen : L.length ≤ 1000000)
    (h : ∀ v' w', Defs B w' v' (L ++ [d]) → Below B W w' → wr.heap.size < w'.heap.size → wpList Tryz.prog ops Q rest (a.put o.dst v') w') : wpList Tryz.prog ops Q (o :: rest) a (wr.alloc (.cells #[.int .i64 (d : Nat)] 24)) := by
  obtain ⟨i0, h1, h2, h3, h4⟩ := info_parts def_info
  have hE' : Defs B (wr.alloc (.cells #[.int .i64 (d : Nat)] 24)) v L := hE.below ((Below.refl _ _).alloc (Nat.le_refl _) _)
  refine wpList_append_own_at (P := Tryz.prog) (wr.alloc (.cells #[.int .i64 (d : Nat)] 24)) hgd s x 56 ho B 24 i0 _ 1 8 Tryz.underlying56 h1 h2 h3 h4 rfl (by decide) v L.length (dcells L) hs hE'
    ⟨wr.heap.size, 0, none⟩ 1 1 [.int .i64 (d : Nat)] hx rfl (fun j u hj => by
      rw [add_flat, cell_of_row _ wr.heap.size (0 + j) _ _ _ (heap_alloc_new wr _), Nat.zero_add, ← Array.getElem?_toList]
      exact hj) (by intro u hu; simp at hu; rcases hu with rfl; rfl) (by unfold maxLen; omega) (by omega) (by simp; omega) ?_
  intro v' w' ho' hg _ hat
  have hsz := hg.size
  refine h v' w' ?_ ((hb.alloc hB _).grown hg (by simp; omega) (fun k hk => (World.ownsRow.lt hE k hk).1)) (by simp at hsz; omega)
  unfold Defs
  rw [List.length_append]
  simpa [dcells] using ho'
end Go.Proofs.YtmchclpkjjmocaaGreat
