/-
  append of headers that came in to a list of one header.
-/
import Derived.Test.YtlopmkmcjcijcaaWS1
import Derived.Test.YtlopmkmcjcijcaaExLift
import Derived.Lib.AppendZeros
namespace Go.Proofs.Ytlopmkmcjcijcaa
open Go.RowKit
set_option linter.unusedVariables false
set_option maxRecDepth 8000

def xcells (L : List (Int × Value)) : List Value := L.flatMap fun p => [.int .i64 p.1, p.2]
theorem xcells_length (L : List (Int × Value)) : (xcells L).length = L.length * 2 := by
  induction L with
  | nil => rfl
  | cons p L ih =>
    show ([Value.int .i64 p.1, p.2] ++ xcells L).length = (L.length + 1) * 2
    rw [List.length_append, ih]
    simp
    omega
theorem xcells_at : ∀ {L : List (Int × Value)} {i : Nat} {p : Int × Value}, L[i]? = some p → (xcells L)[2 * i]? = some (.int .i64 p.1) ∧ (xcells L)[2 * i + 1]? = some p.2
  | [], i, p, h => by simp at h
  | q :: L, 0, p, h => by
    simp at h
    subst h
    exact ⟨rfl, rfl⟩
  | q :: L, i + 1, p, h => by
    obtain ⟨h1, h2⟩ := xcells_at (L := L) (i := i) (p := p) (by simpa using h)
    have e1 : 2 * (i + 1) = 2 * i + 1 + 1 := by omega
    rw [e1]
    exact ⟨h1, h2⟩
theorem xcells_parts : ∀ {L : List (Int × Value)} {j : Nat} {u : Value}, (xcells L)[j]? = some u → ∃ i p, L[i]? = some p ∧ ((j = 2 * i ∧ u = .int .i64 p.1) ∨ (j = 2 * i + 1 ∧ u = p.2))
  | [], j, u, h => by simp [xcells] at h
  | q :: L, 0, u, h => by
    have : (xcells (q :: L))[0]? = some (.int .i64 q.1) := rfl
    rw [this] at h
    injection h with h
    exact ⟨0, q, rfl, .inl ⟨rfl, h.symm⟩⟩
  | q :: L, 1, u, h => by
    have : (xcells (q :: L))[1]? = some q.2 := rfl
    rw [this] at h
    injection h with h
    exact ⟨0, q, rfl, .inr ⟨rfl, h.symm⟩⟩
  | q :: L, j + 2, u, h => by
    obtain ⟨i, p, h1, h2⟩ := xcells_parts (L := L) (j := j) (u := u) h
    refine ⟨i + 1, p, by simpa using h1, ?_⟩
    rcases h2 with ⟨rfl, h2⟩ | ⟨rfl, h2⟩
    · exact .inl ⟨by omega, h2⟩
    · exact .inr ⟨by omega, h2⟩
theorem byteVal_one {w : World} {v : Value} {l : List Nat} (h : ByteVal w v l) : v.oneCell' = true := by
  obtain ⟨A, c, rfl, _⟩ := h
  rfl
/-- 'append([]api.Ext{{k, body}}, l...)'. -/
theorem append_exts (wa : World) (A0 : Option Addr) (n0 c0 : Nat) (M : List (Int × List Nat)) (hM : ExtsIn wa (.slice A0 n0 c0) M) (hn : n0 ≤ 1000) (bv : Value) (k : Int) (l : List Nat) (hl : l.length ≤ 140737488355328) (hbv : ByteVal wa bv l) :
    ∃ v' w', (Builtin.append_ #[34, 34] 34 #[.slice (some ⟨wa.heap.size, 0, none⟩) 1 1, .slice A0 n0 c0]).run Try.prog (wa.alloc (.cells #[.int .i64 k, bv] 45)) = .ok v' w' ∧ ExtsIn w' v' ((k, l) :: M) ∧ Below wa.heap.size wa w' := by
  obtain ⟨A, c, e, hc, hcell⟩ := hM
  injection e with e1 e2 e3
  subst e1 e3
  have hb1 : Below wa.heap.size wa (wa.alloc (.cells #[.int .i64 k, bv] 45)) := (Below.refl _ _).alloc (Nat.le_refl _) _
  have hsz : (wa.alloc (.cells #[.int .i64 k, bv] 45)).heap.size = wa.heap.size + 1 := by simp
  have hg0 := heap_alloc_new wa (.cells #[.int .i64 k, bv] 45)
  cases A0 with
  | none =>
    have hM0 : M = [] := by
      cases M with
      | nil => rfl
      | cons m r =>
        obtain ⟨_, b, o, _, e, _⟩ := hcell 0 m rfl
        cases e
    subst hM0
    simp at e2
    subst e2
    obtain ⟨i0, h1, h2, h3, h4⟩ := info_parts ext_info
    refine ⟨.slice (some ⟨wa.heap.size, 0, none⟩) 1 1, _, ?_, ⟨_, 1, rfl, Nat.le_refl _, fun i m hm => ?_⟩, hb1⟩
    · simp [Builtin.append_, run_underlying Try.underlying34, sizeOf, typeInfo, h1, Builtin.lenOf, Builtin.firstCells, storeCells, loadCells]
    · have hi : i = 0 := by
        have := (List.getElem?_eq_some_iff.1 hm).1
        simp at this
        exact this
      subst hi
      simp at hm
      subst hm
      refine ⟨hl, wa.heap.size, 0, bv, rfl, by rw [hsz]; omega, ?_, ?_, hbv.below hb1⟩
      · rw [cell_of_row _ _ _ _ _ _ hg0]; rfl
      · rw [cell_of_row _ _ _ _ _ _ hg0]; rfl
  | some ad =>
    obtain ⟨L, hL, hLi⟩ := Go.Proofs.Ytlopmkmcjcijcaa.pick_list (P := fun i (p : Int × Value) => ∃ m, M[i]? = some m ∧ p.1 = m.1 ∧ m.2.length ≤ 140737488355328 ∧ ByteVal wa p.2 m.2 ∧ (∃ b o, ad = ⟨b, o, none⟩ ∧ b < wa.heap.size ∧ wa.cell? ⟨b, o + i * 2, none⟩ = some (.int .i64 p.1) ∧ wa.cell? ⟨b, o + i * 2 + 1, none⟩ = some p.2)) M.length (fun i hi => by
      have hm : M[i]? = some M[i] := List.getElem?_eq_getElem hi
      obtain ⟨h1, b, o, bv2, e, hlt, c1, c2, hv⟩ := hcell i _ hm
      injection e with e
      exact ⟨(M[i].1, bv2), M[i], hm, rfl, h1, hv, b, o, e, hlt, c1, c2⟩)
    have hone : ∀ u ∈ xcells L, u.oneCell' = true := fun u hu => by
      obtain ⟨j, hj, rfl⟩ := List.getElem_of_mem hu
      obtain ⟨i, p, h1, h2⟩ := xcells_parts (List.getElem?_eq_getElem hj)
      obtain ⟨m, _, _, _, hv, _⟩ := hLi i p h1
      rcases h2 with ⟨_, h2⟩ | ⟨_, h2⟩
      · rw [h2]; rfl
      · rw [h2]; exact byteVal_one hv
    obtain ⟨i0, h1, h2, h3, h4⟩ := info_parts ext_info
    have hown : (wa.alloc (.cells #[.int .i64 k, bv] 45)).ownsRow wa.heap.size 45 2 (.slice (some ⟨wa.heap.size, 0, none⟩) 1 1) 1 [.int .i64 k, bv] :=
      ⟨rfl, .inr ⟨wa.heap.size, 1, #[.int .i64 k, bv], rfl, Nat.le_refl _, hg0, Nat.le_refl _, by decide, rfl, rfl⟩⟩
    obtain ⟨v', w', hr, ho', hgr, _, hat⟩ := run_append_own_at (P := Try.prog) (w := wa.alloc (.cells #[.int .i64 k, bv] 45)) wa.heap.size 34 34 45 i0 _ 2 32 Try.underlying34 h1 h2 h3 h4 rfl (by decide)
      (.slice (some ⟨wa.heap.size, 0, none⟩) 1 1) 1 [.int .i64 k, bv] hown ad n0 c0 (xcells L) (by rw [xcells_length, hL, e2]) (fun j u hj => by
        obtain ⟨i, p, g1, g2⟩ := xcells_parts hj
        obtain ⟨m, _, _, _, _, b, o, rfl, hlt, c1, c2⟩ := hLi i p g1
        rw [add_flat]
        rcases g2 with ⟨rfl, rfl⟩ | ⟨rfl, rfl⟩
        · rw [Nat.mul_comm 2 i]; exact (hb1.cell (p := ⟨b, o + i * 2, none⟩) hlt).trans c1
        · rw [Nat.mul_comm 2 i, ← Nat.add_assoc]; exact (hb1.cell (p := ⟨b, o + i * 2 + 1, none⟩) hlt).trans c2) hone (by unfold maxLen; omega) (by omega) (by rw [hsz]; omega)
    have hb : Below wa.heap.size wa w' := hb1.grown hgr (by rw [hsz]; omega) (fun k hk => (World.ownsRow.lt hown k hk).1)
    refine ⟨v', w', hr, ?_, hb⟩
    rcases ho'.2 with ⟨_, h0⟩ | ⟨g, cap, cur, rfl, hB, hh, g4, g5, g6, g7⟩
    · omega
    · have hlt : g < w'.heap.size := by
        rcases Nat.lt_or_ge g w'.heap.size with hlt | hge
        · exact hlt
        · rw [Array.getElem?_eq_none hge] at hh; cases hh
      refine ⟨some ⟨g, 0, none⟩, cap, by rw [e2, List.length_cons, Nat.add_comm], by rw [List.length_cons]; omega, fun i m hm => ?_⟩
      have hlen : ((Value.int .i64 k :: bv :: xcells L)).length = (1 + n0) * 2 := by simp [xcells_length, hL, e2]; omega
      cases i with
      | zero =>
        simp at hm
        subst hm
        have d1 := World.ownsRow.cellAt ho' 0 (by omega)
        have d2 := World.ownsRow.cellAt ho' 1 (by omega)
        exact ⟨hl, g, 0, bv, rfl, hlt, by rw [Nat.zero_add, Nat.zero_mul, d1]; rfl, by rw [show 0 + 0 * 2 + 1 = 1 from rfl, d2]; rfl, hbv.below hb⟩
      | succ i =>
        have hm' : M[i]? = some m := by simpa using hm
        have hi : i < M.length := (List.getElem?_eq_some_iff.1 hm').1
        have hp : L[i]? = some (L[i]'(by omega)) := List.getElem?_eq_getElem (by omega)
        obtain ⟨m2, q1, q2, q3, q4, _⟩ := hLi i _ hp
        rw [hm'] at q1
        injection q1 with q1
        subst q1
        obtain ⟨x1, x2⟩ := xcells_at hp
        have d1 := World.ownsRow.cellAt ho' (2 * i + 2) (by omega)
        have d2 := World.ownsRow.cellAt ho' (2 * i + 1 + 2) (by omega)
        refine ⟨q3, g, 0, _, rfl, hlt, ?_, ?_, q4.below hb⟩
        · rw [Nat.zero_add, show (i + 1) * 2 = 2 * i + 2 by omega, d1]
          show (xcells L)[2 * i]? = _
          rw [x1, q2]
        · rw [Nat.zero_add, show (i + 1) * 2 + 1 = 2 * i + 1 + 2 by omega, d2]
          show (xcells L)[2 * i + 1]? = _
          rw [x2]
end Go.Proofs.Ytlopmkmcjcijcaa
