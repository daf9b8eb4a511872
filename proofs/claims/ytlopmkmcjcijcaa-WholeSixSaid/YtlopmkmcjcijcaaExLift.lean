/-
  Opening an argument that is a list of extension headers: their kinds and bodies. Nothing is claimed of the program here.
-/
import Derived.Test.YtlopmkmcjcijcaaLift
import Derived.Test.YtlopmkmcjcijcaaEw5
namespace Go.Proofs.Ytlopmkmcjcijcaa
open Go.ChangeShapes Go.WideShapes Go.ChangeAt Go.RowKit
set_option linter.unusedVariables false
section
variable {H : Type} {enc : TypeId × Value → H} {W : World}
theorem weights_all {P : Program} {e : TypeId} {d : DataW H} {n : Nat} : ∀ {l : List (DataW H)}, d ∈ l → n ∈ d.weights P e → n ∈ DataW.weightsAll P e l
  | x :: l, hd, hn => by
    simp only [DataW.weightsAll, List.mem_append]
    rcases List.mem_cons.1 hd with rfl | hd
    · exact .inl hn
    · exact .inr (weights_all hd hn)
theorem pick_list {α : Type} {P : Nat → α → Prop} : ∀ (n : Nat), (∀ i, i < n → ∃ m, P i m) → ∃ M : List α, M.length = n ∧ ∀ (i : Nat) (m : α), M[i]? = some m → P i m
  | 0, _ => ⟨[], rfl, fun i m h => by simp at h⟩
  | n + 1, h => by
    obtain ⟨M, h1, h2⟩ := pick_list n (fun i hi => h i (by omega))
    obtain ⟨m, hm⟩ := h n (by omega)
    refine ⟨M ++ [m], by simp [h1], fun i x hx => ?_⟩
    rcases Nat.lt_or_ge i n with hi | hi
    · rw [List.getElem?_append_left (by omega)] at hx
      exact h2 i x hx
    · rw [List.getElem?_append_right (by omega), h1] at hx
      have hi0 : i - n = 0 := by
        have := (List.getElem?_eq_some_iff.1 hx).1
        simp at this
        omega
      rw [hi0] at hx
      have e : i = n := by omega
      subst e
      simp at hx
      subst hx
      exact hm
/-- A slice of bytes inside what came in: its bytes, and how long it is at most. -/
theorem open_inner {fuel : Nat} {c : Value} {x : DataW H × List MemPlace} (h : DataW.trod enc Try.prog W 0 (fun _ => true) true fuel 22 [c] = some x) (hw : ∀ n ∈ x.1.weights Try.prog 22, n ≤ reachBytes) :
    ∃ l : List Nat, ByteVal W c l ∧ l.length ≤ 140737488351232 := by
  rcases open_ints Try.underlying22 Try.underlying5 (by kernel_rfl) h with ⟨hcs, _⟩ | ⟨a, len, cap, zs, hcs, _, hl, hm, hz, rfl, hcell, hwz⟩
  · simp at hcs
    subst hcs
    exact ⟨[], ByteVal.nil W, Nat.zero_le _⟩
  · simp at hcs
    subst hcs
    simp only [if_true] at hz
    obtain ⟨bs, hR⟩ := row_of_cells hl hz hcell hwz
    have h1 := hw ((lits IntKind.u8 (zs.take len)).length + (lits IntKind.u8 (zs.drop len)).length) (by
      have hb : Try.prog.bytesOf 5 = 1 := by kernel_rfl
      simp only [DataW.weights, Try.underlying22, hb, Nat.mul_one, List.mem_cons, List.mem_append]
      exact .inl rfl)
    simp only [lits, List.length_map, List.length_take, List.length_drop, reachBytes] at h1
    refine ⟨bs, ⟨some a, cap, by rw [hR.1], by rw [hR.1]; exact hl, by rw [hR.1]; exact hR⟩, by rw [hR.1]; omega⟩
set_option maxRecDepth 10000 in
/-- Extension headers that came in. -/
theorem open_exts {a : Option Addr} {len cap : Nat} {d : DataW H} {ps : List MemPlace}
    (h : DataW.Trod enc Try.prog W 0 (fun _ => true) true 34 (.slice a len cap) d ps) {ts : List TypeId} {ds : List (DataW H)} {j : Nat} {T : TypeId} (hT : T = 34) (hj : ts[j]? = some T ∧ ds[j]? = some d)
    (hsz : (DataW.weightsEach Try.prog ts ds).all (· ≤ reachBytes) = true) :
    ∃ M : List (Int × List Nat), M.length = len ∧ ExtsIn W (.slice a len cap) M ∧ len ≤ 140737488351232 ∧ ∀ m ∈ M, (-9223372036854775808 ≤ m.1 ∧ m.1 ≤ 9223372036854775807) ∧ m.2.length ≤ 140737488351232 := by
  subst hT
  obtain ⟨fuel, hf⟩ := h
  rcases DataW.trod_slice Try.underlying34 hf with ⟨hcs, _⟩ | ⟨x, l, c, elems, rest, n, _, hcs, hx, _, hl, hm, hlen, hel, _, _⟩
  · simp [Value.cells] at hcs
    obtain ⟨rfl, rfl, rfl⟩ := hcs
    exact ⟨[], rfl, ⟨none, 0, rfl, Nat.le_refl _, fun i m h => by simp at h⟩, Nat.zero_le _, fun m h => by cases h⟩
  · simp [Value.cells] at hcs
    obtain ⟨rfl, rfl, rfl⟩ := hcs
    simp only [Prod.mk.injEq] at hx
    obtain ⟨rfl, _⟩ := hx
    have hb : Try.prog.bytesOf 45 = 32 := by kernel_rfl
    have hc2 : Try.prog.cellsOf 45 = 2 := by kernel_rfl
    have h1 := sized_slice hsz hj.1 hj.2 Try.underlying34
    rw [hb] at h1
    simp only [List.length_map, reachBytes] at h1
    have hmem := fun n hn => by
      have := List.all_eq_true.1 hsz n (DataW.weights_mem_each hj.1 hj.2 n hn)
      simpa using this
    have two : ∀ i, i < len → ∃ c0 c1 y, W.cell? ((x.add (i * 2)).add 0) = some c0 ∧ W.cell? ((x.add (i * 2)).add 1) = some c1 ∧ DataW.trod enc Try.prog W 0 (fun _ => true) true n 45 [c0, c1] = some y ∧ elems[i]? = some y := by
      intro i hi
      have he := hel i hi
      rw [hc2, List.getElem?_eq_getElem (by omega)] at he
      obtain ⟨cs, hcs, htr⟩ := Option.bind_eq_some_iff.1 he
      unfold World.cells? at hcs
      rw [if_pos (Nat.zero_le _)] at hcs
      simp only [List.range_succ, List.range_zero, List.nil_append, List.cons_append, List.mapM_cons, List.mapM_nil] at hcs
      cases e0 : W.cell? ((x.add (i * 2)).add 0) with
      | none => rw [e0] at hcs; simp at hcs
      | some c0 =>
        cases e1 : W.cell? ((x.add (i * 2)).add 1) with
        | none => rw [e0, e1] at hcs; simp at hcs
        | some c1 =>
          rw [e0, e1] at hcs
          simp at hcs
          subst hcs
          exact ⟨c0, c1, _, rfl, rfl, htr, List.getElem?_eq_getElem (by omega)⟩
    have hsp0 : 0 < len → x.spot = none := fun h0 => by
      obtain ⟨c0, _, _, e0, _⟩ := two 0 h0
      simpa [Addr.add] using World.cell?_spot e0
    have key : ∀ i, i < len → ∃ m : Int × List Nat, ((-9223372036854775808 ≤ m.1 ∧ m.1 ≤ 9223372036854775807) ∧ m.2.length ≤ 140737488351232) ∧ ∃ bv, x.spot = none ∧ x.block < W.heap.size ∧ W.cell? ⟨x.block, x.off + i * 2, none⟩ = some (.int .i64 m.1) ∧ W.cell? ⟨x.block, x.off + i * 2 + 1, none⟩ = some bv ∧ ByteVal W bv m.2 := by
      intro i hi
      obtain ⟨c0, c1, y, e0, e1, htr, hy⟩ := two i hi
      have hsp := hsp0 (by omega)
      obtain ⟨b, o, sp⟩ := x
      obtain rfl : sp = none := hsp
      rw [add_flat, add_flat] at e0 e1
      obtain ⟨xs, m, _, hxe, _, hxl, hfl⟩ := DataW.trod_struct Try.underlying45 htr
      have hx2 : xs.length = 2 := hxl
      have f0 := hfl 0 _ rfl
      have f1 := hfl 1 _ rfl
      rw [List.getElem?_eq_getElem (by omega)] at f0 f1
      obtain ⟨z, ez, _, wz⟩ := DataW.trod_int Try.underlying3 f0
      have ez2 : c0 = .int .i64 z := by
        have : [c0] = [Value.int .i64 z] := ez
        simpa using this
      obtain ⟨lb, hBV, hlb⟩ := open_inner (c := c1) f1 (fun n hn => by
        refine hmem n ?_
        simp only [DataW.weights, Try.underlying34, List.mem_cons, List.mem_append]
        refine .inr (.inl (weights_all (d := y.1) (List.mem_map.2 ⟨y, List.mem_of_getElem? hy, rfl⟩) ?_))
        rw [hxe]
        simp only [DataW.weights, Try.underlying45]
        exact DataW.weights_mem_each (j := 1) rfl (by rw [List.getElem?_map, List.getElem?_eq_getElem (by omega)]; rfl) n hn)
      exact ⟨(z, lb), ⟨wf_i64 wz, hlb⟩, c1, rfl, cell_lt (p := ⟨b, o + i * 2 + 0, none⟩) e0, by rw [← ez2]; exact e0, e1, hBV⟩
    obtain ⟨M, hM, hP⟩ := pick_list len key
    refine ⟨M, hM, ⟨some x, cap, by rw [hM], by rw [hM]; exact hl, fun i m hm => ?_⟩, by omega, fun m hm => ?_⟩
    · obtain ⟨⟨_, hb2⟩, bv, hs, hlt, q1, q2, q3⟩ := hP i m hm
      obtain ⟨b, o, sp⟩ := x
      obtain rfl : sp = none := hs
      exact ⟨Nat.le_trans hb2 (by decide), b, o, bv, rfl, hlt, q1, q2, q3⟩
    · obtain ⟨i, hi, rfl⟩ := List.getElem_of_mem hm
      exact (hP i _ (List.getElem?_eq_getElem hi)).1
end
end Go.Proofs.Ytlopmkmcjcijcaa
