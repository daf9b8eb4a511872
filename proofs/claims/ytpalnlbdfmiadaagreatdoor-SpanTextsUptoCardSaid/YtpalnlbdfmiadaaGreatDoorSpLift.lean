/-
  Spans as arguments, opened.
-/
import Derived.Test.YtpalnlbdfmiadaaGreatDoorLift
import Derived.Test.YtpalnlbdfmiadaaGreatDoorSpRows
import Derived.Lib.SmallJoins
namespace Go.Proofs.YtpalnlbdfmiadaaGreatDoor
open Go.ChangeShapes Go.WideShapes Go.ChangeAt Go.RowKit Go.Joins Go.Deep
set_option linter.unusedVariables false
section
variable {H : Type} {enc : TypeId × Value → H} {P : Program} {W : World}
theorem open_span {r : Reach} {b0 base : Nat} {spare : Nat → Bool} {held : Bool} {t e : TypeId} {f0 f1 : Field} {v : Value} {d : DataW H} {p : List MemPlace} (hs : P.underlying t = some (.struct #[f0, f1]))
    (hu : P.underlying e = some (.int .i64)) (h0 : f0.type = e) (h1 : f1.type = e) (hone : oneCellFields P #[f0, f1] = true) (hC : P.cellsOf t = 2)
    (hv : Value.okWide P W r b0 t v) (h : DataW.Trod enc P W base spare held t v d p) :
    ∃ x y : Int, v = .agg #[.int .i64 x, .int .i64 y] ∧ (-9223372036854775808 ≤ x ∧ x ≤ 9223372036854775807) ∧ (-9223372036854775808 ≤ y ∧ y ≤ 9223372036854775807) := by
  obtain ⟨c0, c1, y0, y1, m, rfl, _, _, hy0, hy1⟩ := open_agg2 hs hone hC hv h
  rw [h0] at hy0
  rw [h1] at hy1
  obtain ⟨a, e0, _, wa⟩ := DataW.trod_int hu hy0
  obtain ⟨b, e1, _, wb⟩ := DataW.trod_int hu hy1
  simp at e0 e1
  subst e0 e1
  exact ⟨a, b, rfl, wf_i64 wa, wf_i64 wb⟩
theorem pick_list {α : Type} {P : Nat → α → Prop} : ∀ (n : Nat), (∀ i, i < n → ∃ m, P i m) → ∃ M : List α, M.length = n ∧ ∀ (i : Nat) (m : α), M[i]? = some m → P i m
  | 0, _ => ⟨[], rfl, fun i m h => by simp at h⟩
  | n + 1, h => by
    obtain ⟨M, h1, h2⟩ := pick_list n (fun i hi => h i (by omega))
    obtain ⟨m, hm⟩ := h n (by omega)
    refine ⟨M ++ [m], by simp [h1], fun i x hx => ?_⟩
    rcases Nat.lt_or_ge i n with hi | hi
    · rw [List.getElem?_append_left (by omega)] at hx
      exact h2 i x hx
    · rw [List.getElem?_append_right (by omega), h1] at hx
      have hi0 : i - n = 0 := by
        have := (List.getElem?_eq_some_iff.1 hx).1
        simp at this
        omega
      rw [hi0] at hx
      have e : i = n := by omega
      subst e
      simp at hx
      subst hx
      exact hm
set_option maxRecDepth 10000 in
/-- A list of spans that came in. -/
theorem open_spans {enc : TypeId × Value → H} {a : Option Addr} {len cap : Nat} {d : DataW H} {ps : List MemPlace}
    (h : DataW.Trod enc Tryz.prog W 0 (fun _ => true) true 44 (.slice a len cap) d ps) {ts : List TypeId} {ds : List (DataW H)} {j : Nat} {T : TypeId} (hT : T = 44) (hj : ts[j]? = some T ∧ ds[j]? = some d)
    (hsz : (DataW.weightsEach Tryz.prog ts ds).all (· ≤ reachBytes) = true) :
    ∃ L : List Sp, SpRow W a len L ∧ len ≤ 8796093021952 := by
  subst hT
  obtain ⟨fuel, hf⟩ := h
  rcases DataW.trod_slice Tryz.underlying44 hf with ⟨hcs, _⟩ | ⟨x, l, c, elems, rest, n, _, hcs, hx, _, hl, hm, hlen, hel, _, _⟩
  · simp [Value.cells] at hcs
    obtain ⟨rfl, rfl, rfl⟩ := hcs
    exact ⟨[], SpRow.nil _ _, Nat.zero_le _⟩
  · simp [Value.cells] at hcs
    obtain ⟨rfl, rfl, rfl⟩ := hcs
    simp only [Prod.mk.injEq] at hx
    obtain ⟨rfl, _⟩ := hx
    have hb : Tryz.prog.bytesOf 23 = 16 := by kernel_rfl
    have hc2 : Tryz.prog.cellsOf 23 = 2 := by kernel_rfl
    have h1 := sized_slice hsz hj.1 hj.2 Tryz.underlying44
    rw [hb] at h1
    simp only [List.length_map, reachBytes] at h1
    have two : ∀ i, i < len → ∃ c0 c1 y, W.cell? ((x.add (i * 2)).add 0) = some c0 ∧ W.cell? ((x.add (i * 2)).add 1) = some c1 ∧ DataW.trod enc Tryz.prog W 0 (fun _ => true) true n 23 [c0, c1] = some y ∧ elems[i]? = some y := by
      intro i hi
      have he := hel i hi
      rw [hc2, List.getElem?_eq_getElem (by omega)] at he
      obtain ⟨cs, hcs, htr⟩ := Option.bind_eq_some_iff.1 he
      unfold World.cells? at hcs
      rw [if_pos (Nat.zero_le _)] at hcs
      simp only [List.range_succ, List.range_zero, List.nil_append, List.cons_append, List.mapM_cons, List.mapM_nil] at hcs
      cases e0 : W.cell? ((x.add (i * 2)).add 0) with
      | none => rw [e0] at hcs; simp at hcs
      | some c0 =>
        cases e1 : W.cell? ((x.add (i * 2)).add 1) with
        | none => rw [e0, e1] at hcs; simp at hcs
        | some c1 =>
          rw [e0, e1] at hcs
          simp at hcs
          subst hcs
          exact ⟨c0, c1, _, rfl, rfl, htr, List.getElem?_eq_getElem (by omega)⟩
    have hsp0 : 0 < len → x.spot = none := fun h0 => by
      obtain ⟨c0, _, _, e0, _⟩ := two 0 h0
      simpa [Addr.add] using World.cell?_spot e0
    have hsp0 : 0 < len → x.spot = none := fun h0 => by
      obtain ⟨c0, _, _, e0, _⟩ := two 0 h0
      simpa [Addr.add] using World.cell?_spot e0
    have key : ∀ i, i < len → ∃ m : Sp, (I64 m.1 ∧ I64 m.2) ∧ x.spot = none ∧ W.cell? ⟨x.block, x.off + i * 2, none⟩ = some (.int .i64 m.1) ∧ W.cell? ⟨x.block, x.off + i * 2 + 1, none⟩ = some (.int .i64 m.2) := by
      intro i hi
      obtain ⟨c0, c1, y, e0, e1, htr, hy⟩ := two i hi
      have hsp := hsp0 (by omega)
      obtain ⟨b, o, sp⟩ := x
      obtain rfl : sp = none := hsp
      rw [add_flat, add_flat] at e0 e1
      obtain ⟨xs, m, _, hxe, _, hxl, hfl⟩ := DataW.trod_struct Tryz.underlying23 htr
      have hx2 : xs.length = 2 := hxl
      have f0 := hfl 0 _ rfl
      have f1 := hfl 1 _ rfl
      rw [List.getElem?_eq_getElem (by omega)] at f0 f1
      obtain ⟨z, ez, _, wz⟩ := DataW.trod_int Tryz.underlying3 f0
      obtain ⟨u, eu, _, wu⟩ := DataW.trod_int Tryz.underlying3 f1
      have ez2 : c0 = .int .i64 z := by
        have : [c0] = [Value.int .i64 z] := ez
        simpa using this
      have eu2 : c1 = .int .i64 u := by
        have : [c1] = [Value.int .i64 u] := eu
        simpa using this
      exact ⟨(z, u), ⟨wf_i64 wz, wf_i64 wu⟩, rfl, by rw [← ez2]; exact e0, by rw [← eu2]; exact e1⟩
    obtain ⟨M, hM, hP⟩ := pick_list len key
    refine ⟨M, ⟨hM, fun m hm => ?_, fun i hi => ?_⟩, by omega⟩
    · obtain ⟨i, hi, rfl⟩ := List.getElem_of_mem hm
      exact (hP i _ (List.getElem?_eq_getElem hi)).1
    · have hi2 : i < M.length := by omega
      obtain ⟨_, hs, q1, q2⟩ := hP i _ (List.getElem?_eq_getElem hi2)
      have eg : M.getD i (0, 0) = M[i] := by rw [List.getD_eq_getElem?_getD, List.getElem?_eq_getElem hi2]; rfl
      obtain ⟨b, o, sp⟩ := x
      obtain rfl : sp = none := hs
      exact ⟨b, o, rfl, by rw [eg]; exact q1, by rw [eg]; exact q2⟩
end
end Go.Proofs.YtpalnlbdfmiadaaGreatDoor
