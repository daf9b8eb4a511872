/-
  A class of worlds for the walks of regions whose order is drawn: blocks of the call's own with just these cells ('KV'), and what a load yields in each world of it. Nothing is claimed of the program here.
-/
import Derived.Test.YtemgnaalmgkfiaaArrV
import Derived.Deep.RegionHeld3
import Derived.BigQuiet
import Derived.StillTailTactics
namespace Go.Proofs.Ytemgnaalmgkfiaa
open Go.RowKit
set_option linter.unusedVariables false

/-- Blocks that the call made, each with just these cells; all that was there is as it was. -/
structure KV (w : World) (L : List (TypeId × Nat × List Value)) (W : World) : Prop where
  arr : ∀ (i : Nat) p, L[i]? = some p → ArrV p.1 W p.2.1 p.2.2
  own : ∀ (i : Nat) p, L[i]? = some p → w.heap.size ≤ p.2.1
  apart : ∀ (i j : Nat) p q, L[i]? = some p → L[j]? = some q → i ≠ j → p.2.1 ≠ q.2.1
  bel : Below w.heap.size w W
theorem KV.at {w W : World} {L : List (TypeId × Nat × List Value)} (h : KV w L W) (i : Nat) {t : TypeId} {g : Nat} {cs : List Value} (hi : L[i]? = some (t, g, cs)) : ArrV t W g cs := h.arr i _ hi
theorem KV.nil (w : World) : KV w [] w := ⟨fun i p h => by simp at h, fun i p h => by simp at h, fun i j p q h => by simp at h, Below.refl _ _⟩
theorem KV.below {w W W' : World} {L : List (TypeId × Nat × List Value)} (h : KV w L W) (hb : Below W.heap.size W W') : KV w L W' := ⟨fun i p hp => (h.arr i p hp).below hb, h.own, h.apart, below_both h.bel hb⟩
theorem KV.drew {w W : World} {L : List (TypeId × Nat × List Value)} (h : KV w L W) : KV w L W.drew := ⟨fun i p hp => (h.arr i p hp).drew, h.own, h.apart, h.bel.drew⟩
theorem KV.drewN {w W : World} {L : List (TypeId × Nat × List Value)} (h : KV w L W) (n : Nat) : KV w L (W.drewN n) := ⟨fun i p hp => h.arr i p hp, h.own, h.apart, below_drewN' h.bel n⟩
theorem KV.new {w W : World} {L : List (TypeId × Nat × List Value)} (h : KV w L W) (t : TypeId) (cs : List Value) : KV w (L ++ [(t, W.heap.size, cs)]) (W.alloc (.cells cs.toArray t)) := by
  have hn : ∀ (i : Nat) p, (L ++ [(t, W.heap.size, cs)])[i]? = some p → L[i]? = some p ∨ (i = L.length ∧ p = (t, W.heap.size, cs)) := fun i p hp => by
    rcases Nat.lt_or_ge i L.length with hi | hi
    · rw [List.getElem?_append_left hi] at hp; exact .inl hp
    · rw [List.getElem?_append_right hi] at hp
      rcases Nat.eq_zero_or_pos (i - L.length) with e | e
      · rw [e] at hp; injection hp with hp; exact .inr ⟨by omega, hp.symm⟩
      · rw [List.getElem?_eq_none (by simp; omega)] at hp; cases hp
  refine ⟨fun i p hp => ?_, fun i p hp => ?_, fun i j p q hp hq hij => ?_, h.bel.alloc h.bel.size _⟩
  · rcases hn i p hp with h1 | ⟨_, rfl⟩
    · exact (h.arr i p h1).alloc _
    · exact ArrV.new t W cs
  · rcases hn i p hp with h1 | ⟨_, rfl⟩
    · exact h.own i p h1
    · exact h.bel.size
  · rcases hn i p hp with h1 | ⟨e1, rfl⟩
    · rcases hn j q hq with h2 | ⟨_, rfl⟩
      · exact h.apart i j p q h1 h2 hij
      · exact Nat.ne_of_lt (h.arr i p h1).lt
    · rcases hn j q hq with h2 | ⟨e2, rfl⟩
      · exact Ne.symm (Nat.ne_of_lt (h.arr j q h2).lt)
      · exact absurd (e1.trans e2.symm) hij
theorem KV.one (w : World) (t : TypeId) (cs : List Value) : KV w [(t, w.heap.size, cs)] (w.alloc (.cells cs.toArray t)) := (KV.nil w).new t cs
theorem KV.two (w : World) (t t' : TypeId) (cs ds : List Value) : KV w [(t, w.heap.size, cs), (t', w.heap.size + 1, ds)] ((w.alloc (.cells cs.toArray t)).alloc (.cells ds.toArray t')) := by
  have h := (KV.one w t cs).new t' ds
  rw [World.size_alloc] at h
  exact h
theorem KV.three (w : World) (t t' t2 : TypeId) (cs ds es : List Value) : KV w [(t, w.heap.size, cs), (t', w.heap.size + 1, ds), (t2, w.heap.size + 2, es)] (((w.alloc (.cells cs.toArray t)).alloc (.cells ds.toArray t')).alloc (.cells es.toArray t2)) := by
  have h := (KV.two w t t' cs ds).new t2 es
  rw [World.size_alloc, World.size_alloc] at h
  exact h
theorem KV.low {w W : World} (hb : Below w.heap.size w W) (t : TypeId) (cs : List Value) : KV w [(t, W.heap.size, cs)] (W.alloc (.cells cs.toArray t)) := ((KV.nil w).below hb).new t cs
theorem kv_set {L : List (TypeId × Nat × List Value)} {i : Nat} {t : TypeId} {g : Nat} {cs ds : List Value} (hi : L[i]? = some (t, g, cs)) : ∀ (k : Nat) p, (L.set i (t, g, ds))[k]? = some p → (k = i ∧ p = (t, g, ds)) ∨ (k ≠ i ∧ L[k]? = some p) := fun k p hp => by
  by_cases e : i = k
  · subst e
    rw [List.getElem?_set_self (by rcases Nat.lt_or_ge i L.length with h | h; exact h; rw [List.getElem?_eq_none h] at hi; cases hi)] at hp
    injection hp with hp
    exact .inl ⟨rfl, hp.symm⟩
  · rw [List.getElem?_set_ne e] at hp
    exact .inr ⟨Ne.symm e, hp⟩
theorem KV.turn {w W W' : World} {L : List (TypeId × Nat × List Value)} (h : KV w L W) {i : Nat} {t : TypeId} {g : Nat} {cs ds : List Value} (hi : L[i]? = some (t, g, cs)) (hs : ArrV t W' g ds) (ho : ∀ k, k ≠ g → W'.heap[k]? = W.heap[k]?) (hb : Below w.heap.size w W') : KV w (L.set i (t, g, ds)) W' := by
  refine ⟨fun k p hp => ?_, fun k p hp => ?_, fun k j p q hp hq hkj => ?_, hb⟩
  · rcases kv_set hi k p hp with ⟨_, rfl⟩ | ⟨e, h1⟩
    · exact hs
    · exact (ho _ (h.apart k i p _ h1 hi e)).trans (h.arr k p h1)
  · rcases kv_set hi k p hp with ⟨_, rfl⟩ | ⟨e, h1⟩
    · exact h.own i (t, g, cs) hi
    · exact h.own k p h1
  · rcases kv_set hi k p hp with ⟨e1, rfl⟩ | ⟨e1, h1⟩
    · rcases kv_set hi j q hq with ⟨e2, rfl⟩ | ⟨e2, h2⟩
      · exact absurd (e1.trans e2.symm) hkj
      · exact Ne.symm (h.apart j i q (t, g, cs) h2 hi e2)
    · rcases kv_set hi j q hq with ⟨e2, rfl⟩ | ⟨e2, h2⟩
      · exact h.apart k i p (t, g, cs) h1 hi e1
      · exact h.apart k j p q h1 h2 hkj
/-- One cell is stored. -/
theorem KV.put {w W : World} {L : List (TypeId × Nat × List Value)} (h : KV w L W) (i : Nat) {t : TypeId} {g : Nat} {cs : List Value} (hi : L[i]? = some (t, g, cs)) (j : Nat) (v : Value) : KV w (L.set i (t, g, cs.set j v)) (W.setCell ⟨g, j, none⟩ v) :=
  h.turn hi ((h.at i hi).set j v) (fun k hk => heap_setCell_other W ⟨g, j, none⟩ k v hk) (h.bel.setCell (h.own i _ hi) v)
/-- Cells are stored. -/
theorem KV.puts {w W : World} {L : List (TypeId × Nat × List Value)} (h : KV w L W) (i : Nat) {t : TypeId} {g : Nat} {cs : List Value} (hi : L[i]? = some (t, g, cs)) (o : Nat) (vs : List Value) (hl : o + vs.length ≤ cs.length) : KV w (L.set i (t, g, cs.take o ++ vs ++ cs.drop (o + vs.length))) (W.setCells g o vs) :=
  h.turn hi (heap_setCells_at vs o W cs (h.at i hi) hl) (fun k hk => heap_setCells_far hk vs o W) (setCells_below g (h.own i _ hi) vs o W h.bel)
/-- A whole variable is stored. -/
theorem KV.store {w W : World} {L : List (TypeId × Nat × List Value)} (h : KV w L W) (i : Nat) {t : TypeId} {g : Nat} {cs : List Value} (hi : L[i]? = some (t, g, cs)) (vs : List Value) (hl : vs.length = cs.length) : KV w (L.set i (t, g, vs)) (W.setCells g 0 vs) :=
  h.turn hi ((h.at i hi).store vs hl) (fun k hk => heap_setCells_far hk vs 0 W) (setCells_below g (h.own i _ hi) vs 0 W h.bel)

theorem wp_quiet_kv {P : Program} {C : World → Prop} {id : Nat} {Q : Exit → Act → World → Prop} {a : Act} {w : World} {l : List Oper} (hm : P.follows .mixedOrders = true) (hB : Region.lexB .any l.toArray = true) (hC : C w.drew)
    (h : wpQuiet P l.toArray C (fun a' => ∀ w', C w' → Q .normal a' w') l a) : (Code.region id l.toArray true).wp P Q a w :=
  wp_region_quiet hm hB hC (by simpa using h)
/-- A load of a part of a variable, in each world of the class. -/
theorem quietAt_part {C : World → Prop} {o : Oper} {a : Act} {W : World} {t t' : TypeId} {x : Operand} {g off n : Nat} {cs vs : List Value} (ho : o.op = .load t x) (hx : a.eval x = .pointer (some ⟨g, off, none⟩)) (ht : RowTy t n) (h : ArrV t' W g cs) (hv : (cs.drop off).take n = vs) (hl : vs.length = n) :
    Oper.quietAt Try.prog o a C W (.agg vs.toArray) := by
  obtain ⟨d, hd, hr⟩ := ht.desc
  have hload : (Instr.loadAt t (.pointer (some ⟨g, off, none⟩))).run Try.prog W = .ok (.agg vs.toArray) W := run_loadAt_mid W g off t vs d (fun j v hj => by
    rw [← hv, List.getElem?_take] at hj
    split at hj
    · rw [List.getElem?_drop] at hj
      exact (h.get (off + j)).trans hj
    · cases hj) hd hr (by rw [hl]; exact ht.size)
  unfold Oper.quietAt execOp
  simp only [ho, hx, Sem.run_bind, Sem.run_pure, hload, Result.andThen_ok]
  exact ⟨rfl, rfl⟩
/-- Types of one cell. -/
def OneTy (t : TypeId) : Prop := ∀ w, (isAgg t).run Try.prog w = .ok false w
theorem one_int : OneTy 3 := fun w => by simp [isAgg, run_underlying Try.underlying3, go_sem]
theorem one_u8 : OneTy 5 := fun w => by simp [isAgg, run_underlying Try.underlying5, go_sem]
theorem one_bool : OneTy 4 := fun w => by simp [isAgg, run_underlying Try.underlying4, go_sem]
theorem quietAt_cell {C : World → Prop} {o : Oper} {a : Act} {W : World} {t t' : TypeId} {x : Operand} {g j : Nat} {cs : List Value} {v : Value} (ho : o.op = .load t x) (hx : a.eval x = .pointer (some ⟨g, j, none⟩)) (ht : OneTy t) (h : ArrV t' W g cs) (hv : cs[j]? = some v) :
    Oper.quietAt Try.prog o a C W v := by
  have hc : W.cell? ⟨g, j, none⟩ = some v := (h.get j).trans hv
  have hload : (Instr.loadAt t (.pointer (some ⟨g, j, none⟩))).run Try.prog W = .ok v W := by
    simp [Instr.loadAt, Instr.sureAddr, loadVar, go_sem, ht W, hc]
  unfold Oper.quietAt execOp
  simp only [ho, hx, Sem.run_bind, Sem.run_pure, hload, Result.andThen_ok]
  exact ⟨rfl, rfl⟩
/-- '==' and '!=' of two values of a type whose equality is known. -/
def NoGuard (t : TypeId) : Prop := ∀ (op : BinOp) (x y : Operand) (u v : Array Value) w, (eqGuard op t x y (.agg u) (.agg v)).run Try.prog w = .ok () w
theorem quietAt_eql {C : World → Prop} {o : Oper} {a : Act} {W : World} {t r : TypeId} {x y : Operand} {u v : Array Value} {b : Bool} (ho : o.op = .binOp .eql t x y r) (hx : a.eval x = .agg u) (hy : a.eval y = .agg v) (hg : NoGuard t)
    (h : ∀ w, (Op.equalIn 10000 t (.agg u) (.agg v)).run Try.prog w = .ok b w) : Oper.quietAt Try.prog o a C W (.bool b) := by
  have hg' := hg .eql x y u v W
  unfold Oper.quietAt execOp
  simp only [ho, hx, hy, Sem.run_bind, hg', Result.andThen_ok]
  simp [binOp, Op.equal, Op.maxDepth, go_sem, h, Oper.quietUpon]
theorem quietAt_neq {C : World → Prop} {o : Oper} {a : Act} {W : World} {t r : TypeId} {x y : Operand} {u v : Array Value} {b : Bool} (ho : o.op = .binOp .neq t x y r) (hx : a.eval x = .agg u) (hy : a.eval y = .agg v) (hg : NoGuard t)
    (h : ∀ w, (Op.equalIn 10000 t (.agg u) (.agg v)).run Try.prog w = .ok b w) : Oper.quietAt Try.prog o a C W (.bool (!b)) := by
  have hg' := hg .neq x y u v W
  unfold Oper.quietAt execOp
  simp only [ho, hx, hy, Sem.run_bind, hg', Result.andThen_ok]
  simp [binOp, Op.equal, Op.maxDepth, go_sem, h, Oper.quietUpon]
theorem quietAt_ne {C : World → Prop} {o : Oper} {a : Act} {W : World} {t r : TypeId} {x y : Operand} {u v : Array Value} (ho : o.op = .binOp .neq t x y r) (hx : a.eval x = .agg u) (hy : a.eval y = .agg v) (hg : NoGuard t)
    (h : ∀ w, (Op.equalIn 10000 t (.agg u) (.agg v)).run Try.prog w = .ok false w) : Oper.quietAt Try.prog o a C W (.bool true) := quietAt_neq ho hx hy hg h
theorem quietAt_nn {C : World → Prop} {o : Oper} {a : Act} {W : World} {t r : TypeId} {x y : Operand} {u v : Array Value} (ho : o.op = .binOp .neq t x y r) (hx : a.eval x = .agg u) (hy : a.eval y = .agg v) (hg : NoGuard t)
    (h : ∀ w, (Op.equalIn 10000 t (.agg u) (.agg v)).run Try.prog w = .ok true w) : Oper.quietAt Try.prog o a C W (.bool false) := quietAt_neq ho hx hy hg h
theorem guard_of (t : TypeId) (h : Try.prog.eqGuardType Try.prog.depth t = false) : NoGuard t := fun op x y u v w => by
  unfold eqGuard
  cases op <;> simp [go_sem, h]
/-- A plain region's operations, one after the other: those that only read or call, then the rest. -/
theorem wpList_of_quiet {P : Program} {C : World → Prop} {ops : Array Oper} {Q : Exit → Act → World → Prop} {rest : List Oper} : ∀ (l : List Oper) (a : Act) (w : World), C w → wpQuiet P ops C (fun a' => ∀ w', C w' → wpList P ops Q rest a' w') l a → wpList P ops Q (l ++ rest) a w
  | [], a, w, hC, h => h w hC
  | o :: l, a, w, hC, h => by
    rw [List.cons_append]
    unfold wpList
    unfold wpQuiet at h
    by_cases hw : Region.wanted o (yielded ops a.tmps) = true
    · rw [if_pos hw] at h ⊢
      exact .inl (Oper.wp_of_quiet hC (fun a' w' hC' h' => wpList_of_quiet l a' w' hC' h') h)
    · rw [if_neg hw] at h ⊢
      exact wpList_of_quiet l _ w hC h
theorem wpList_quiet_all {P : Program} {C : World → Prop} {ops : Array Oper} {Q : Exit → Act → World → Prop} {l : List Oper} {a : Act} {w : World} (hC : C w) (h : wpQuiet P ops C (fun a' => ∀ w', C w' → wpList P ops Q [] a' w') l a) : wpList P ops Q l a w := by
  have h2 := wpList_of_quiet (rest := []) l a w hC h
  rwa [List.append_nil] at h2
theorem wpList_quiet_take {P : Program} {C : World → Prop} {ops : Array Oper} {Q : Exit → Act → World → Prop} {l : List Oper} {a : Act} {w : World} (n : Nat) (hC : C w) (h : wpQuiet P ops C (fun a' => ∀ w', C w' → wpList P ops Q (l.drop n) a' w') (l.take n) a) : wpList P ops Q l a w := by
  have h2 := wpList_of_quiet (rest := l.drop n) (l.take n) a w hC h
  rwa [List.take_append_drop] at h2
end Go.Proofs.Ytemgnaalmgkfiaa
