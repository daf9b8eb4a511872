/-
  Rows of packets in memory: a slice that the call appends to, one that it makes and copies into.
-/
import Derived.Test.YtemgnaalmgkfiaaSmLift
import Derived.Test.YtemgnaalmgkfiaaKv
import Derived.Maps.AppendAt
namespace Go.Proofs.Ytemgnaalmgkfiaa
open Go.RowKit
set_option linter.unusedVariables false

def smcells (L : List Sm) : List Value := L.flatMap fun s => [.int .u64 (s.time : Nat), .int .i64 s.size]
theorem smcells_length (L : List Sm) : (smcells L).length = L.length * 2 := by
  induction L with
  | nil => rfl
  | cons p L ih =>
    show ([Value.int .u64 (p.time : Nat), .int .i64 p.size] ++ smcells L).length = (L.length + 1) * 2
    rw [List.length_append, ih]
    show 2 + L.length * 2 = _
    omega
theorem smcells_append (L M : List Sm) : smcells (L ++ M) = smcells L ++ smcells M := by simp [smcells]
theorem smcells_at : ∀ {L : List Sm} {i : Nat}, i < L.length → (smcells L)[i * 2]? = some (.int .u64 ((L.getD i sm0).time : Nat)) ∧ (smcells L)[i * 2 + 1]? = some (.int .i64 (L.getD i sm0).size)
  | [], i, h => absurd h (Nat.not_lt_zero _)
  | q :: L, 0, h => ⟨rfl, rfl⟩
  | q :: L, i + 1, h => by
    have h2 := smcells_at (L := L) (i := i) (by simpa using h)
    have e : smcells (q :: L) = .int .u64 (q.time : Nat) :: .int .i64 q.size :: smcells L := rfl
    rw [e, show (i + 1) * 2 = i * 2 + 1 + 1 by omega]
    simpa using h2
theorem smcells_one (L : List Sm) : ∀ v ∈ smcells L, v.oneCell' = true := by
  intro v hv
  simp only [smcells, List.mem_flatMap] at hv
  obtain ⟨x, _, hx⟩ := hv
  simp at hx
  rcases hx with rfl | rfl <;> rfl
/-- A slice of packets that the call itself appends to. -/
def OutSm (B : Nat) (w : World) (v : Value) (L : List Sm) : Prop := w.ownsRow B 55 2 v L.length (smcells L)
theorem OutSm.nil (B : Nat) (w : World) : OutSm B w (.slice none 0 0) [] := World.ownsRow_nil _ _ _ _
theorem OutSm.alloc {B : Nat} {w : World} {v : Value} {L : List Sm} (h : OutSm B w v L) (o : Obj) : OutSm B (w.alloc o) v L := World.ownsRow.alloc h o
theorem OutSm.mono {B B' : Nat} {w : World} {v : Value} {L : List Sm} (h : OutSm B w v L) (hB : B' ≤ B) : OutSm B' w v L := by
  refine ⟨h.1, ?_⟩
  rcases h.2 with h2 | ⟨g, cap, cur, hv, hg, r⟩
  · exact .inl h2
  · exact .inr ⟨g, cap, cur, hv, by omega, r⟩
theorem OutSm.below {B : Nat} {w w' : World} {v : Value} {L : List Sm} (h : OutSm B w v L) (hb : Below w.heap.size w w') : OutSm B w' v L := by
  refine ⟨h.1, ?_⟩
  rcases h.2 with h2 | ⟨g, cap, cur, hv, hg, hh, r⟩
  · exact .inl h2
  · refine .inr ⟨g, cap, cur, hv, hg, (hb.block g ?_).trans hh, r⟩
    rcases Nat.lt_or_ge g w.heap.size with hlt | hge
    · exact hlt
    · rw [Array.getElem?_eq_none hge] at hh; cases hh
theorem OutSm.block {B : Nat} {w : World} {v : Value} {L : List Sm} (h : OutSm B w v L) (h0 : 0 < L.length) : ∃ g c, v = .slice (some ⟨g, 0, none⟩) L.length c ∧ B ≤ g ∧ L.length ≤ c ∧ c ≤ maxLen ∧ g < w.heap.size := by
  rcases h.2 with ⟨_, h2⟩ | ⟨g, cap, cur, hv, hg, hh, h4, h5, _⟩
  · omega
  · refine ⟨g, cap, hv, hg, h4, h5, ?_⟩
    rcases Nat.lt_or_ge g w.heap.size with hlt | hge
    · exact hlt
    · rw [Array.getElem?_eq_none hge] at hh; cases hh
theorem OutSm.cells {B g c n : Nat} {w : World} {L : List Sm} (h : OutSm B w (.slice (some ⟨g, 0, none⟩) n c) L) (hn : L.length = n) (i : Nat) (hi : i < n) : w.cell? ⟨g, i * 2, none⟩ = some (.int .u64 ((L.getD i sm0).time : Nat)) ∧ w.cell? ⟨g, i * 2 + 1, none⟩ = some (.int .i64 (L.getD i sm0).size) := by
  subst hn
  have hs := smcells_at hi
  rw [World.ownsRow.cellAt h (i * 2) (by omega), World.ownsRow.cellAt h (i * 2 + 1) (by omega)]
  exact hs
theorem OutSm.frozen {B g n c : Nat} {w : World} {L : List Sm} (h : OutSm B w (.slice (some ⟨g, 0, none⟩) n c) L) (hn : L.length = n) (i : Nat) : w.frozen? ⟨g, i, none⟩ = false := by
  subst hn
  exact World.ownsRow.frozenAt h i
/-- It reads as these packets. -/
def ValSm (w : World) (v : Value) (L : List Sm) : Prop := ∃ A c, v = .slice A L.length c ∧ L.length ≤ c ∧ SmRow w A L.length L
theorem ValSm.below {w w' : World} {v : Value} {L : List Sm} (h : ValSm w v L) (hb : Below w.heap.size w w') : ValSm w' v L := by
  obtain ⟨A, c, h1, h2, h3⟩ := h
  exact ⟨A, c, h1, h2, h3.below hb⟩
theorem OutSm.val {B : Nat} {w : World} {v : Value} {L : List Sm} (h : OutSm B w v L) (hb : ∀ s ∈ L, SmOk s) : ValSm w v L := by
  rcases Nat.eq_zero_or_pos L.length with h0 | h0
  · have e : L = [] := List.eq_nil_of_length_eq_zero h0
    subst e
    rcases h.2 with ⟨rfl, _⟩ | ⟨g, cap, cur, rfl, _, _, h4, _⟩
    · exact ⟨none, 0, rfl, Nat.le_refl _, SmRow.nil _ _⟩
    · exact ⟨_, cap, rfl, h4, SmRow.nil _ _⟩
  · obtain ⟨g, c, rfl, _, hc, _⟩ := h.block h0
    exact ⟨_, c, rfl, hc, rfl, hb, fun i hi => ⟨g, 0, rfl, by rw [Nat.zero_add]; exact (h.cells rfl i hi).1, by rw [Nat.zero_add]; exact (h.cells rfl i hi).2⟩⟩
theorem sample_info : (Try.prog.info? 55).map (fun i => (i.zero, i.size, i.bytes)) = some (some (.agg #[.int .u64 0, .int .i64 0]), 2, 16) := by kernel_rfl
/-- 'append(out, s ..)' of packets that the call laid. -/
theorem wpList_appendSm {ops : Array Oper} {rest : List Oper} {o : Oper} {a : Act} {Q : Exit → Act → World → Prop} (hgd : o.guard = none) (s x : Operand)
    (ho : o.op = .call { callee := .builtin .append, args := #[s, x], argTypes := #[22, 22] })
    {B : Nat} {W wr : World} {v : Value} {L : List Sm} {p : Nat} {q : Int} (hs : a.eval s = v) (hx : a.eval x = .slice (some ⟨wr.heap.size, 0, none⟩) 1 1)
    (hown : OutSm B wr v L) (hb : Below B W wr) (hB : B ≤ wr.heap.size) (hlen : L.length + 1 ≤ 8796093022207)
    (h : ∀ v' w', OutSm B w' v' (L ++ [⟨p, q⟩]) → Below B W w' → wpList Try.prog ops Q rest (a.put o.dst v') w') : wpList Try.prog ops Q (o :: rest) a (wr.alloc (.cells #[.int .u64 (p : Nat), .int .i64 q] 55)) := by
  obtain ⟨i0, h1, h2, h3, h4⟩ := info_parts sample_info
  have hown' : (wr.alloc (.cells #[.int .u64 (p : Nat), .int .i64 q] 55)).ownsRow B 55 2 v L.length (smcells L) := World.ownsRow.alloc hown _
  refine wpList_append_own (P := Try.prog) (wr.alloc (.cells #[.int .u64 (p : Nat), .int .i64 q] 55)) hgd s x 22 ho B 55 i0 _ 2 16 Try.underlying22 h1 h2 h3 h4 rfl (by decide) v L.length (smcells L) hs hown'
    ⟨wr.heap.size, 0, none⟩ 1 1 [.int .u64 (p : Nat), .int .i64 q] hx rfl (fun j u hj => by
      rw [add_flat, cell_of_row _ wr.heap.size (0 + j) _ _ _ (heap_alloc_new wr _), Nat.zero_add, ← Array.getElem?_toList]
      exact hj) (smcells_one [⟨p, q⟩]) (by unfold maxLen; omega) (by omega) (by simp; omega) ?_
  intro v' w' ho' hg _
  refine h v' w' ?_ ((hb.alloc hB _).grown hg (by simp; omega) (fun k hk => (hown'.lt k hk).1))
  unfold OutSm
  rw [List.length_append, smcells_append]
  exact ho'

theorem ArrV.smrow {W : World} {g : Nat} {L : List Sm} {t : TypeId} (h : ArrV t W g (smcells L)) (hb : ∀ s ∈ L, SmOk s) : SmRow W (some ⟨g, 0, none⟩) L.length L :=
  ⟨rfl, hb, fun i hi => ⟨g, 0, rfl, by rw [Nat.zero_add, h.get]; exact (smcells_at hi).1, by rw [Nat.zero_add, h.get]; exact (smcells_at hi).2⟩⟩
theorem madeSm (n : Nat) : madeCells (Value.agg #[.int .u64 0, .int .i64 0]).cells (n * 2) = (smcells (List.replicate n ⟨0, 0⟩)).toArray := by
  have hc : (Value.agg #[.int .u64 0, .int .i64 0]).cells = #[.int .u64 0, .int .i64 0] := rfl
  rw [hc]
  apply Array.ext
  · simp [madeCells, smcells_length]
  · intro i h1 h2
    have hi : i < n * 2 := by simpa [madeCells] using h1
    have hr : (List.replicate n (⟨0, 0⟩ : Sm)).length = n := List.length_replicate
    have hq : i / 2 < n := by omega
    have hz : (List.replicate n (⟨0, 0⟩ : Sm)).getD (i / 2) sm0 = ⟨0, 0⟩ := by rw [List.getD_eq_getElem?_getD, List.getElem?_replicate, if_pos hq]; rfl
    obtain ⟨s1, s2⟩ := smcells_at (L := List.replicate n (⟨0, 0⟩ : Sm)) (i := i / 2) (by rw [hr]; exact hq)
    rw [hz] at s1 s2
    have e : (smcells (List.replicate n (⟨0, 0⟩ : Sm))).toArray[i] = (smcells (List.replicate n (⟨0, 0⟩ : Sm)))[i]'(by simpa using h2) := by simp
    rw [e]
    rcases Nat.mod_two_eq_zero_or_one i with hm | hm
    · have hi2 : i / 2 * 2 = i := by omega
      rw [hi2, List.getElem?_eq_getElem (by simpa using h2)] at s1
      injection s1 with s1
      rw [s1]
      simp [madeCells, hm]
    · have hi2 : i / 2 * 2 + 1 = i := by omega
      rw [hi2, List.getElem?_eq_getElem (by simpa using h2)] at s2
      injection s2 with s2
      rw [s2]
      simp [madeCells, hm]
/-- 'make([]api.Sample, n)'. -/
theorem make_rowSm (n : Nat) (hn : n ≤ 1048576) (w : World) :
    (Instr.makeSlice 22 (.int .i64 (n : Int)) (.int .i64 (n : Int))).run Try.prog w = .ok (.slice (some ⟨w.heap.size, 0, none⟩) n n) (w.alloc (.cells (smcells (List.replicate n ⟨0, 0⟩)).toArray 55)) := by
  obtain ⟨i, h1, h2, h3, h4⟩ := info_parts sample_info
  have h := run_make (P := Try.prog) w 22 55 i _ Try.underlying22 h1 h2 .i64 .i64 (n : Int) (n : Int) (by omega) (Int.le_refl _) (by rw [h4]; omega) (by omega)
  simp only [Int.toNat_natCast, h3] at h
  rw [madeSm] at h
  exact h
/-- 'copy(out, l)' that fills all of a new row. -/
theorem copy_newSm (W : World) (g n : Nat) (cur : List Value) (A : Option Addr) (cap : Nat) (L : List Sm) (hg : ArrV 55 W g cur) (hcur : cur.length = n * 2) (hA : SmRow W A n L) :
    ∃ w2, Sem.run Try.prog (Builtin.copy_ #[22, 22] 3 #[.slice (some ⟨g, 0, none⟩) n n, .slice A n cap]) W = .ok (.int .i64 (n : Nat)) w2 ∧ ArrV 55 w2 g (smcells L) ∧ Below g W w2 := by
  obtain ⟨i, h1, h2, h3, h4⟩ := info_parts sample_info
  have hl := hA.1
  rcases Nat.eq_zero_or_pos n with h0 | h0
  · subst h0
    have e1 : cur = [] := List.eq_nil_of_length_eq_zero (by omega)
    have e2 : L = [] := List.eq_nil_of_length_eq_zero hl
    subst e1 e2
    have hlc : ∀ (x : Addr), (loadCells x 0).run Try.prog W = .ok #[] W := fun x => by simpa using run_loadCells_list (P := Try.prog) W x [] (by simp)
    refine ⟨W, ?_, hg, Below.refl _ _⟩
    cases A <;> (simp [Builtin.copy_, run_underlying Try.underlying22, Builtin.lenOf, Builtin.firstCells, sizeOf, typeInfo, h1, h3, storeCells, hlc]; try rfl)
  · obtain ⟨b, o, rfl, hb, hc⟩ := hA.addr h0
    have hcs : (smcells L).length = n * 2 := by rw [smcells_length, hl]
    have hsrc : ∀ j v, (smcells L)[j]? = some v → W.cell? ((⟨b, o, none⟩ : Addr).add j) = some v := fun j v hj => by
      rw [add_flat]
      have hjl : j < n * 2 := by
        rcases Nat.lt_or_ge j (n * 2) with h | h
        · exact h
        · rw [List.getElem?_eq_none (by omega)] at hj; cases hj
      obtain ⟨s1, s2⟩ := smcells_at (L := L) (i := j / 2) (by omega)
      obtain ⟨c1, c2⟩ := hc (j / 2) (by omega)
      rcases Nat.mod_two_eq_zero_or_one j with hm | hm
      · rw [show j / 2 * 2 = j by omega] at s1 c1
        rw [hj] at s1
        rw [c1, s1]
      · rw [show j / 2 * 2 + 1 = j by omega] at s2
        rw [show o + j / 2 * 2 + 1 = o + j by omega] at c2
        rw [hj] at s2
        rw [c2, s2]
    have hld := run_loadCells_list (P := Try.prog) W ⟨b, o, none⟩ (smcells L) hsrc
    have hst := run_storeCells_at Try.prog g 0 55 (smcells L) 0 cur.toArray W hg (by simp [hcs, hcur]) (smcells_one L)
    rw [hcs] at hld
    have e : (cur.toArray.toList.take (0 + 0) ++ smcells L ++ cur.toArray.toList.drop (0 + 0 + (smcells L).length)) = smcells L := by
      rw [List.drop_eq_nil_of_le (by simp [hcs, hcur])]
      simp
    rw [e] at hst
    refine ⟨W.setRow g (smcells L).toArray, ?_, setRow_heap W g cur.toArray (smcells L).toArray 55 (0, 0) hg, below_setRow (Below.refl _ _) (Nat.le_refl _) _⟩
    simp [Builtin.copy_, run_underlying Try.underlying22, Builtin.lenOf, Builtin.firstCells, sizeOf, typeInfo, h1, h3, hld, hst]
    rfl
end Go.Proofs.Ytemgnaalmgkfiaa
