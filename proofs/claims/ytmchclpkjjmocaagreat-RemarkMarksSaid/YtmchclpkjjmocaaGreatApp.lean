/-
  append of a slice's bytes to bytes that the call itself holds, and what such bytes are afterwards.
-/
import Derived.Test.YtmchclpkjjmocaaGreatOwn
import Derived.Test.YtmchclpkjjmocaaGreatAgree1
namespace Go.Proofs.YtmchclpkjjmocaaGreat
open Go.RowKit
set_option linter.unusedVariables false
set_option maxRecDepth 8000

/-- 'append(out, b...)'. -/
theorem run_append_row_any {B : Nat} {W wr : World} {v : Value} {bs cs : List Nat} {A : Option Addr} {m c : Nat} (hown : OutIs B wr v bs) (hA : Row wr A m cs) (hb : Below B W wr) (hB : B ≤ wr.heap.size) (hlen : bs.length + m ≤ 140737488355328) :
    ∃ v' w', Sem.run Tryz.prog (Builtin.append_ #[22, 22] 22 #[v, .slice A m c]) wr = .ok v' w' ∧ OutIs B w' v' (bs ++ cs) ∧ Below B W w' := by
  obtain ⟨i0, h1, h2, h3, h4⟩ := u8_parts
  cases A with
  | none =>
    have hm : m = 0 := by
      rcases Nat.eq_zero_or_pos m with h | h
      · exact h
      · obtain ⟨b, o, e, _⟩ := hA.addr h
        cases e
    subst hm
    obtain rfl : cs = [] := List.eq_nil_of_length_eq_zero hA.1
    refine ⟨v, wr, ?_, by simpa using hown, hb⟩
    rcases hown.2 with ⟨rfl, h0⟩ | ⟨g, cap, cur, rfl, hg, hh, hn, hm, hs, ht⟩
    · simp [Builtin.append_, run_underlying Tryz.underlying22, sizeOf, typeInfo, h1, Builtin.lenOf, Builtin.firstCells]
    · simp [Builtin.append_, run_underlying Tryz.underlying22, sizeOf, typeInfo, h1, Builtin.lenOf, Builtin.firstCells, loadCells, hn, storeCells]
  | some ad =>
    obtain ⟨v', w', hr, ho, hg, _⟩ := run_append_own (P := Tryz.prog) wr B 22 22 5 i0 (.int .u8 0) 1 1 Tryz.underlying22 h1 h2 h3 h4 rfl (by decide) v bs.length (bcells bs) hown
      ad m c (bcells cs) (by rw [bcells_length, hA.1, Nat.mul_one]) (fun j u hj => by
        obtain ⟨hj, rfl⟩ := bcells_get hj
        obtain ⟨b, o, e, _, hc⟩ := hA.addr (by have := hA.1; omega)
        injection e with e
        subst e
        rw [add_flat]
        exact hc j (by have := hA.1; omega)) (bcells_one cs) (by unfold maxLen; omega) (by omega) hB
    refine ⟨v', w', hr, ?_, hb.grown hg hB (fun k hk => (World.ownsRow.lt hown k hk).1)⟩
    unfold OutIs
    rw [List.length_append, hA.1]
    simpa [bcells] using ho

/-- The same as a law for the walk. -/
theorem wpList_append_row_any {ops : Array Oper} {rest : List Oper} {o : Oper} {a : Act} {Q : Exit → Act → World → Prop} (hgd : o.guard = none) (s x : Operand)
    (ho : o.op = .call { callee := .builtin .append, args := #[s, x], argTypes := #[22, 22] }) (hty : o.type = 22)
    {B : Nat} {W wr : World} {v : Value} {bs cs : List Nat} {A : Option Addr} {m c : Nat} (hs : a.eval s = v) (hx : a.eval x = .slice A m c) (hown : OutIs B wr v bs) (hA : Row wr A m cs) (hb : Below B W wr) (hB : B ≤ wr.heap.size) (hlen : bs.length + m ≤ 140737488355328)
    (h : ∀ v' w', OutIs B w' v' (bs ++ cs) → Below B W w' → wpList Tryz.prog ops Q rest (a.put o.dst v') w') : wpList Tryz.prog ops Q (o :: rest) a wr := by
  refine wpList_plain hgd fun K hK => ?_
  obtain ⟨v', w', hr, h2, h3⟩ := run_append_row_any (c := c) hown hA hb hB hlen
  unfold Oper.wp execOp
  simp only [ho, hty, resolve, invoke, builtin, Sem.run_bind, Sem.run_pure, Result.andThen_ok, List.map_toArray, List.map_cons, List.map_nil, hs, hx, hr]
  exact hK _ _ (h v' w' h2 h3)

/-- Bytes that were just laid, all of them. -/
theorem OutIs.laid (w : World) (bs : List Nat) (B : Nat) (hB : B ≤ w.heap.size) (hl : bs.length ≤ maxLen) : OutIs B (w.alloc (.cells (bcells bs).toArray 5)) (.slice (some ⟨w.heap.size, 0, none⟩) bs.length bs.length) bs := by
  refine ⟨by simp [bcells_length], .inr ⟨w.heap.size, bs.length, (bcells bs).toArray, rfl, hB, heap_alloc_new w _, Nat.le_refl _, hl, by simp [bcells_length], ?_⟩⟩
  simp [List.take_of_length_le, bcells_length]
/-- Held bytes as a value that reads as them. -/
theorem OutIs.val {B : Nat} {w : World} {v : Value} {bs : List Nat} (h : OutIs B w v bs) (hb : ∀ x ∈ bs, x < 256) : ByteVal w v bs := by
  obtain ⟨A, c, rfl, h1, _, h3⟩ := h.out hb
  exact ⟨A, c, rfl, h1, h3⟩
end Go.Proofs.YtmchclpkjjmocaaGreat
