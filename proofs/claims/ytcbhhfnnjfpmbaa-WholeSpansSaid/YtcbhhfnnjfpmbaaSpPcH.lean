/-
  Helpers for the walks of SpanPieces and WholeSpans.
-/
import Derived.Test.YtcbhhfnnjfpmbaaSpPc2
import Derived.Test.YtcbhhfnnjfpmbaaKv
import Derived.Test.YtcbhhfnnjfpmbaaPairs
import Derived.StillTailTactics
import Derived.BigQuiet
import Derived.Deep.CutBlock
import Derived.Deep.RegionHeld3
namespace Go.Proofs.Ytcbhhfnnjfpmbaa
open Go.RowKit Go.Shelf
set_option linter.unusedVariables false

theorem u16_conv {a : Int} (h : 0 ≤ a ∧ a ≤ 65535) : wrap64 a = a ∧ IntKind.i64.wrap a = a := ⟨by unfold wrap64; omega, by rw [IntKind.wrap_i64]; omega⟩
/-- 'append(out, s)' as one operation of a drawn region. -/
theorem oper_appendSp {o : Oper} {a : Act} {K : Act → World → Prop} {Q : Exit → Act → World → Prop} (s x : Operand)
    (ho : o.op = .call { callee := .builtin .append, args := #[s, x], argTypes := #[23, 23] })
    {B : Nat} {W wr : World} {v : Value} {L : List Sp} {p q : Int} (hs : a.eval s = v) (hx : a.eval x = .slice (some ⟨wr.heap.size, 0, none⟩) 1 1)
    (hown : OutSp B wr v L) (hb : Below B W wr) (hB : B ≤ wr.heap.size) (hlen : L.length + 1 ≤ 8796093022207)
    (h : ∀ v' w', OutSp B w' v' (L ++ [(p, q)]) → Below B W w' → K (a.put o.dst v') w') : o.wp Try.prog a (wr.alloc (.cells #[.int .i64 p, .int .i64 q] 27)) K Q := by
  obtain ⟨i0, h1, h2, h3, h4⟩ := info_parts span_info
  have hown' : (wr.alloc (.cells #[.int .i64 p, .int .i64 q] 27)).ownsRow B 27 2 v L.length (scells L) := World.ownsRow.alloc hown _
  obtain ⟨v', w', hr, g2, g3, _, _⟩ := run_append_own_at (P := Try.prog) (wr.alloc (.cells #[.int .i64 p, .int .i64 q] 27)) B 23 o.type 27 i0 _ 2 16 Try.underlying23 h1 h2 h3 h4 rfl (by decide) v L.length (scells L) hown'
    ⟨wr.heap.size, 0, none⟩ 1 1 [.int .i64 p, .int .i64 q] rfl (fun j u hj => by
      rw [add_flat, cell_of_row _ wr.heap.size (0 + j) _ _ _ (heap_alloc_new wr _), Nat.zero_add, ← Array.getElem?_toList]
      exact hj) (scells_one [(p, q)]) (by unfold maxLen; omega) (by omega) (by simp; omega)
  unfold Oper.wp execOp
  simp only [ho, resolve, invoke, builtin, Sem.run_bind, Sem.run_pure, Result.andThen_ok, List.map_toArray, List.map_cons, List.map_nil, hs, hx, hr]
  refine h _ _ ?_ ((hb.alloc hB _).grown g3 (by simp; omega) (fun k hk => (hown'.lt k hk).1))
  unfold OutSp
  rw [List.length_append, scells_append]
  exact g2

theorem oper_appendSp_drew {o : Oper} {a : Act} {K : Act → World → Prop} {Q : Exit → Act → World → Prop} (s x : Operand)
    (ho : o.op = .call { callee := .builtin .append, args := #[s, x], argTypes := #[23, 23] })
    {B : Nat} {W wr : World} {v : Value} {L : List Sp} {p q : Int} (hs : a.eval s = v) (hx : a.eval x = .slice (some ⟨wr.heap.size, 0, none⟩) 1 1)
    (hown : OutSp B wr v L) (hb : Below B W wr) (hB : B ≤ wr.heap.size) (hlen : L.length + 1 ≤ 8796093022207)
    (h : ∀ v' w', OutSp B w' v' (L ++ [(p, q)]) → Below B W w' → K (a.put o.dst v') w') : o.wp Try.prog a (wr.alloc (.cells #[.int .i64 p, .int .i64 q] 27)).drew K Q :=
  oper_appendSp s x ho (wr := wr.drew) hs hx hown hb.drew hB hlen h

theorem one_u16 : OneTy 24 := fun w => by simp [isAgg, run_underlying Try.underlying24, go_sem]
theorem tyspan : RowTy 27 2 := ⟨⟨_, Try.underlying27, rfl⟩, by kernel_rfl⟩
/-- A cell, and two cells of one value, in each world of a class. -/
theorem quietAt_at {C : World → Prop} {o : Oper} {a : Act} {W : World} {t : TypeId} {x : Operand} {p : Addr} {v : Value} (ho : o.op = .load t x) (hx : a.eval x = .pointer (some p)) (ht : OneTy t) (hc : W.cell? p = some v) :
    Oper.quietAt Try.prog o a C W v := by
  have hload : (Instr.loadAt t (.pointer (some p))).run Try.prog W = .ok v W := by
    simp [Instr.loadAt, Instr.sureAddr, loadVar, go_sem, ht W, hc]
  unfold Oper.quietAt execOp
  simp only [ho, hx, Sem.run_bind, Sem.run_pure, hload, Result.andThen_ok]
  exact ⟨rfl, rfl⟩
theorem quietAt_pair {C : World → Prop} {o : Oper} {a : Act} {W : World} {t : TypeId} {x : Operand} {g off : Nat} {u v : Value} (ho : o.op = .load t x) (hx : a.eval x = .pointer (some ⟨g, off, none⟩)) (ht : RowTy t 2) (h0 : W.cell? ⟨g, off, none⟩ = some u) (h1 : W.cell? ⟨g, off + 1, none⟩ = some v) :
    Oper.quietAt Try.prog o a C W (.agg #[u, v]) := by
  obtain ⟨d, hd, hr⟩ := ht.desc
  have hload : (Instr.loadAt t (.pointer (some ⟨g, off, none⟩))).run Try.prog W = .ok (.agg #[u, v]) W := run_loadAt_mid W g off t [u, v] d (fun j v' hj => by
    match j, hj with
    | 0, hj => simp at hj; subst hj; exact h0
    | 1, hj => simp at hj; subst hj; exact h1) hd hr ht.size
  unfold Oper.quietAt execOp
  simp only [ho, hx, Sem.run_bind, Sem.run_pure, hload, Result.andThen_ok]
  exact ⟨rfl, rfl⟩
theorem cnt_wrap9 {c : Nat} (h : (c : Int) ≤ 8796093022206) : IntKind.i64.wrap ((c : Int) + 1) = (c : Int) + 1 := by rw [IntKind.wrap_i64]; omega
theorem wsp_meas {N k : Nat} (h : k < N) : N - (intOf (.int .i64 ((k + 1 : Nat) : Int))).toNat < N - (intOf (.int .i64 (k : Int))).toNat := by
  simp [intOf]
  omega
theorem rowP_of {w : World} {A : Option Addr} {n : Nat} {L : List (Int × Int)} (h : RowQ .u16 w A n L) : RowP w A n L := by
  refine ⟨h.1, fun s hs => ?_, h.2.2⟩
  obtain ⟨h1, h2⟩ := h.2.1 s hs
  simp [Lit.wf, IntKind.min, IntKind.max, IntKind.signed, IntKind.bits] at h1 h2
  omega
end Go.Proofs.Ytcbhhfnnjfpmbaa
