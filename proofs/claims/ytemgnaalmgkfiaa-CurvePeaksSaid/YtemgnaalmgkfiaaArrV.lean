/-
  A variable of several plain cells, known whole; results that lie in variables; copies between arrays.
-/
import Derived.Test.YtemgnaalmgkfiaaOwn
import Derived.Laws.CopyOwn
import Derived.Deep.MidRow
import Derived.Laws.ResultCell
import Derived.Laws.BitsAllLaws
namespace Go.Proofs.Ytemgnaalmgkfiaa
open Go.RowKit
set_option linter.unusedVariables false

/-- Block g holds just these cells. -/
def ArrV (t : TypeId) (W : World) (g : Nat) (cs : List Value) : Prop := W.heap[g]? = some (.cells cs.toArray t (0, 0))
theorem ArrV.get {t : TypeId} {W : World} {g : Nat} {cs : List Value} (h : ArrV t W g cs) (i : Nat) : W.cell? ⟨g, i, none⟩ = cs[i]? := by
  rw [cell_of_row W g i _ _ _ h]
  simp
theorem ArrV.frozen {t : TypeId} {W : World} {g : Nat} {cs : List Value} (h : ArrV t W g cs) (i : Nat) : W.frozen? ⟨g, i, none⟩ = false := frozen_of_row W g i _ _ h
theorem ArrV.lt {t : TypeId} {W : World} {g : Nat} {cs : List Value} (h : ArrV t W g cs) : g < W.heap.size := by
  rcases Nat.lt_or_ge g W.heap.size with hlt | hge
  · exact hlt
  · unfold ArrV at h; rw [Array.getElem?_eq_none hge] at h; cases h
theorem ArrV.below {t : TypeId} {W W' : World} {g : Nat} {cs : List Value} (h : ArrV t W g cs) (hb : Below W.heap.size W W') : ArrV t W' g cs := (hb.block g h.lt).trans h
theorem ArrV.belowB {t : TypeId} {B : Nat} {W W' : World} {g : Nat} {cs : List Value} (h : ArrV t W g cs) (hb : Below B W W') (hg : g < B) : ArrV t W' g cs := (hb.block g hg).trans h
theorem ArrV.drew {t : TypeId} {W : World} {g : Nat} {cs : List Value} (h : ArrV t W g cs) : ArrV t W.drew g cs := h
theorem ArrV.new (t : TypeId) (W : World) (cs : List Value) : ArrV t (W.alloc (.cells cs.toArray t)) W.heap.size cs := heap_alloc_new W _
theorem ArrV.alloc {t : TypeId} {W : World} {g : Nat} {cs : List Value} (h : ArrV t W g cs) (o : Obj) : ArrV t (W.alloc o) g cs := (Below.heap_alloc W o g h.lt).trans h
theorem ArrV.set {t : TypeId} {W : World} {g : Nat} {cs : List Value} (h : ArrV t W g cs) (i : Nat) (v : Value) : ArrV t (W.setCell ⟨g, i, none⟩ v) g (cs.set i v) := by
  have h1 := heap_setCell_same W g i _ _ v h
  unfold ArrV
  rw [h1]
  simp
theorem ArrV.other {t : TypeId} {W : World} {g : Nat} {cs : List Value} (h : ArrV t W g cs) (p : Addr) (v : Value) (hp : p.block ≠ g) : ArrV t (W.setCell p v) g cs := (heap_setCell_other W p g v (Ne.symm hp)).trans h
theorem ArrV.range {t : TypeId} {W : World} {g : Nat} {cs : List Value} (h : ArrV t W g cs) : W.rangeAt g 0 cs := fun j v hv => by
  rw [Nat.zero_add, h.get j]
  exact hv
theorem ArrV.there {t : TypeId} {W : World} {g : Nat} {cs : List Value} (h : ArrV t W g cs) : W.there g 0 cs.length := fun j hj => by
  rw [Nat.zero_add]
  refine ⟨?_, h.frozen j⟩
  rw [h.get j, List.getElem?_eq_getElem hj]
  rfl
theorem heap_setCells_at {t : TypeId} {g : Nat} : ∀ (vs : List Value) (o : Nat) (W : World) (cs : List Value), ArrV t W g cs → o + vs.length ≤ cs.length → ArrV t (W.setCells g o vs) g (cs.take o ++ vs ++ cs.drop (o + vs.length))
  | [], o, W, cs, h, _ => by
    rw [World.setCells]
    simpa using h
  | v :: r, o, W, cs, h, hl => by
    rw [World.setCells]
    have hl2 : o + 1 + r.length ≤ cs.length := by simp at hl; omega
    have h2 := heap_setCells_at r (o + 1) _ _ (h.set o v) (by rw [List.length_set]; exact hl2)
    have e : (cs.set o v).take (o + 1) ++ r ++ (cs.set o v).drop (o + 1 + r.length) = cs.take o ++ v :: r ++ cs.drop (o + (v :: r).length) := by
      have ho : o < cs.length := by omega
      rw [List.take_set, List.take_succ_eq_append_getElem ho, List.set_append_right (h := by rw [List.length_take]; omega), List.length_take, Nat.min_eq_left (by omega), Nat.sub_self, List.set_cons_zero, List.drop_set_of_lt (by omega)]
      simp [Nat.add_assoc, Nat.add_comm 1]
    rw [e] at h2
    exact h2
theorem heap_setCells_far {g b : Nat} (hne : g ≠ b) : ∀ (vs : List Value) (o : Nat) (W : World), (W.setCells b o vs).heap[g]? = W.heap[g]?
  | [], _, _ => rfl
  | v :: r, o, W => by
    rw [World.setCells, heap_setCells_far hne r (o + 1)]
    exact heap_setCell_other W ⟨b, o, none⟩ g v hne
theorem ArrV.store {t : TypeId} {W : World} {g : Nat} {cs : List Value} (h : ArrV t W g cs) (vs : List Value) (hl : vs.length = cs.length) : ArrV t (W.setCells g 0 vs) g vs := by
  have h2 := heap_setCells_at vs 0 W cs h (by omega)
  rw [List.take_zero, List.nil_append, Nat.zero_add, hl, List.drop_length, List.append_nil] at h2
  exact h2
theorem ArrV.apart {t : TypeId} {W : World} {g b : Nat} {cs : List Value} (h : ArrV t W g cs) (vs : List Value) (hne : g ≠ b) : ArrV t (W.setCells b 0 vs) g cs := (heap_setCells_far hne vs 0 W).trans h
theorem setCells_below {B : Nat} {a : World} (g : Nat) (hg : B ≤ g) : ∀ (vs : List Value) (o : Nat) (w : World), Below B a w → Below B a (w.setCells g o vs)
  | [], _, _, h => h
  | v :: r, o, w, h => by
    rw [World.setCells]
    exact setCells_below g hg r (o + 1) _ (h.setCell hg v)
theorem setCells_size (g : Nat) : ∀ (vs : List Value) (o : Nat) (w : World), (w.setCells g o vs).heap.size = w.heap.size
  | [], _, _ => rfl
  | v :: r, o, w => by
    rw [World.setCells, setCells_size g r (o + 1)]
    simp

/-- Which types are rows of so many plain cells. -/
structure RowTy (t : TypeId) (n : Nat) : Prop where
  desc : ∃ d, Try.prog.underlying t = some d ∧ d.isRow = true
  size : (Try.prog.info? t).map (·.size) = some n
/-- The load and the store of a whole variable, at the list of a plain region's operations; the load of a result. -/
theorem wpList_load_v {ops : Array Oper} {rest : List Oper} {op : Oper} {a : Act} {w : World} {Q : Exit → Act → World → Prop} (hgd : op.guard = none) (t : TypeId) (x : Operand) (ho : op.op = .load t x)
    (g : Nat) (hx : a.eval x = .pointer (some ⟨g, 0, none⟩)) {n : Nat} {cs : List Value} (ht : RowTy t n) (h : ArrV t w g cs) (hl : cs.length = n) (hk : wpList Try.prog ops Q rest (a.put op.dst (.agg cs.toArray)) w) : wpList Try.prog ops Q (op :: rest) a w := by
  obtain ⟨d, hd, hr⟩ := ht.desc
  exact wpList_load_mid hgd t x ho g 0 hx cs d h.range hd hr (by rw [hl]; exact ht.size) hk
/-- The same where the operation is guarded, and wanted. -/
theorem wpList_load_vg {ops : Array Oper} {rest : List Oper} {op : Oper} {a : Act} {w : World} {Q : Exit → Act → World → Prop} (hw : Region.wanted op (yielded ops a.tmps) = true) (t : TypeId) (x : Operand) (ho : op.op = .load t x)
    (g : Nat) (hx : a.eval x = .pointer (some ⟨g, 0, none⟩)) {n : Nat} {cs : List Value} (ht : RowTy t n) (h : ArrV t w g cs) (hl : cs.length = n) (hk : wpList Try.prog ops Q rest (a.put op.dst (.agg cs.toArray)) w) : wpList Try.prog ops Q (op :: rest) a w := by
  have h2 := wpList_load_v (ops := ops) (rest := rest) (op := { op with guard := none }) (Q := Q) rfl t x ho g hx ht h hl hk
  unfold wpList at h2 ⊢
  rw [if_pos hw]
  rw [if_pos (by simp [Region.wanted])] at h2
  exact h2
theorem wpList_store_v {ops : Array Oper} {rest : List Oper} {op : Oper} {a : Act} {w : World} {Q : Exit → Act → World → Prop} (hgd : op.guard = none) (t : TypeId) (x y : Operand) (ho : op.op = .store t x y)
    (g : Nat) (hx : a.eval x = .pointer (some ⟨g, 0, none⟩)) {n : Nat} {cs : List Value} (ht : RowTy t n) (h : ArrV t w g cs) (hl : cs.length = n) (vs : List Value) (hv : vs.length = n) (h1 : ∀ v ∈ vs, v.oneCell' = true) (hy : a.eval y = .agg vs.toArray)
    (hk : wpList Try.prog ops Q rest (a.put op.dst undef) (w.setCells g 0 vs)) : wpList Try.prog ops Q (op :: rest) a w :=
  wpList_store_mid hgd t x y ho g 0 vs.toArray hx hy (by rw [List.size_toArray, hv, ← hl]; exact h.there) (by rw [List.size_toArray, hv]; exact ht.size) (all_oneCell_toArray h1) hk
theorem ArrV.loadVar {t : TypeId} {n : Nat} {W : World} {g : Nat} {cs : List Value} (h : ArrV t W g cs) (ht : RowTy t n) (hl : cs.length = n) : (Go.loadVar t ⟨g, 0, none⟩).run Try.prog W = .ok (.agg cs.toArray) W := by
  obtain ⟨d, hd, hr⟩ := ht.desc
  exact run_loadVar_mid W g 0 t cs d h.range hd hr (by rw [hl]; exact ht.size)
theorem ArrV.loadAt {t : TypeId} {n : Nat} {W : World} {g : Nat} {cs : List Value} (h : ArrV t W g cs) (ht : RowTy t n) (hl : cs.length = n) : (Instr.loadAt t (.pointer (some ⟨g, 0, none⟩))).run Try.prog W = .ok (.agg cs.toArray) W := by
  obtain ⟨d, hd, hr⟩ := ht.desc
  exact run_loadAt_mid W g 0 t cs d h.range hd hr (by rw [hl]; exact ht.size)
theorem ArrV.storeAt {t : TypeId} {n : Nat} {W : World} {g : Nat} {cs : List Value} (h : ArrV t W g cs) (ht : RowTy t n) (hl : cs.length = n) (vs : List Value) (hv : vs.length = n) (h1 : ∀ v ∈ vs, v.oneCell' = true) :
    (Instr.storeAt t (.pointer (some ⟨g, 0, none⟩)) (.agg vs.toArray)).run Try.prog W = .ok () (W.setCells g 0 vs) :=
  run_storeAt_mid W g 0 t vs.toArray (by rw [List.size_toArray, hv, ← hl]; exact h.there) (by rw [List.size_toArray, hv]; exact ht.size) (all_oneCell_toArray h1)
/-- One result that lies in a variable; two, of which the first does. -/
theorem res_cell {P : Program} {fn : Func} {p : Tmp} {ty : TypeId} {tmps : Array Value} {w : World} {a : Addr} {v : Value} (h : fn.results = #[.cell p ty]) (hp : tmps.getD p undef = .pointer (some a))
    (hl : (Go.loadVar ty a).run P w = .ok v w) : (results fn tmps).run P w = .ok v w := by
  simp only [results, h]
  have hq : tmps[p]?.getD undef = .pointer (some a) := by rw [← hp]; simp
  simp [asAddr, hq, hl]
theorem res_cell_tmp {P : Program} {fn : Func} {p u : Tmp} {ty : TypeId} {tmps : Array Value} {w : World} {a : Addr} {v x : Value} (h : fn.results = #[.cell p ty, .tmp u]) (hp : tmps.getD p undef = .pointer (some a))
    (hl : (Go.loadVar ty a).run P w = .ok v w) (hx : tmps.getD u undef = x) : (results fn tmps).run P w = .ok (.tuple #[v, x]) w := by
  rw [results_cell_tmp h, hp]
  simp [asAddr, hl, hx]
theorem u8one : (Try.prog.info? 5).map (·.size) = some 1 := by kernel_rfl
/-- 'copy' into a part of a variable. -/
theorem copy_at {sT e : TypeId} (hu : Try.prog.underlying sT = some (.slice e)) (he : (Try.prog.info? e).map (·.size) = some 1) (t : TypeId) (W : World) (g off dl dc : Nat) (cur : List Value) (ad : Addr) (sl sc : Nat) (cs : List Value) (hg : ArrV t W g cur) (hn : cs.length = Nat.min sl dl)
    (hsrc : ∀ j v, cs[j]? = some v → W.cell? (ad.add j) = some v) (hfit : off + cs.length ≤ cur.length) (h1 : ∀ v ∈ cs, v.oneCell' = true) :
    ∃ w2, Sem.run Try.prog (Builtin.copy_ #[sT, sT] 3 #[.slice (some ⟨g, off, none⟩) dl dc, .slice (some ad) sl sc]) W = .ok (.int .i64 (cs.length : Nat)) w2 ∧ ArrV t w2 g (cur.take off ++ cs ++ cur.drop (off + cs.length)) ∧ Below g W w2 := by
  have h := run_copy_row (P := Try.prog) W sT sT 3 e g off dl dc ad sl sc cur.toArray t cs hu he hg hn hsrc (by simpa using hfit) h1
  refine ⟨_, h, ?_, below_setRow (Below.refl _ _) (Nat.le_refl _) _⟩
  have h2 := setRow_heap W g cur.toArray (cur.take off ++ cs ++ cur.drop (off + cs.length)).toArray t (0, 0) hg
  unfold ArrV
  simpa using h2
end Go.Proofs.Ytemgnaalmgkfiaa
