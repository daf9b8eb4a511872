/-
  Slices of pairs of numbers that come in as arguments, of whatever kind.
-/
import Derived.Test.YtcbhhfnnjfpmbaaLift
import Derived.Lib.SmallJoins
namespace Go.Proofs.Ytcbhhfnnjfpmbaa
open Go.ChangeShapes Go.WideShapes Go.ChangeAt Go.RowKit Go.Joins Go.Deep
set_option linter.unusedVariables false

/-- A slice of pairs with address A and length n reads as L. -/
def RowQ (k : IntKind) (w : World) (A : Option Addr) (n : Nat) (L : List (Int × Int)) : Prop :=
  L.length = n ∧ (∀ s ∈ L, (Lit.int k s.1).wf = true ∧ (Lit.int k s.2).wf = true) ∧ ∀ i, i < n → ∃ b o, A = some ⟨b, o, none⟩ ∧ w.cell? ⟨b, o + i * 2, none⟩ = some (.int k (L.getD i (0, 0)).1) ∧ w.cell? ⟨b, o + i * 2 + 1, none⟩ = some (.int k (L.getD i (0, 0)).2)
theorem RowQ.addr {k : IntKind} {w : World} {A : Option Addr} {n : Nat} {L : List (Int × Int)} (h : RowQ k w A n L) (hn : 0 < n) :
    ∃ b o, A = some ⟨b, o, none⟩ ∧ b < w.heap.size ∧ ∀ i, i < n → w.cell? ⟨b, o + i * 2, none⟩ = some (.int k (L.getD i (0, 0)).1) ∧ w.cell? ⟨b, o + i * 2 + 1, none⟩ = some (.int k (L.getD i (0, 0)).2) := by
  obtain ⟨b, o, rfl, hc, _⟩ := h.2.2 0 hn
  refine ⟨b, o, rfl, cell_lt hc, fun i hi => ?_⟩
  obtain ⟨b', o', he, hc', hc2⟩ := h.2.2 i hi
  injection he with he
  injection he with h1 h2
  subst h1 h2
  exact ⟨hc', hc2⟩
theorem RowQ.keep {k : IntKind} {w w' : World} {A : Option Addr} {n : Nat} {L : List (Int × Int)} (h : RowQ k w A n L) (hk : ∀ p : Addr, p.block < w.heap.size → w'.cell? p = w.cell? p) : RowQ k w' A n L :=
  ⟨h.1, h.2.1, fun i hi => by
    obtain ⟨b, o, he, hc, hc2⟩ := h.2.2 i hi
    exact ⟨b, o, he, (hk _ (cell_lt hc)).trans hc, (hk _ (cell_lt hc2)).trans hc2⟩⟩
theorem RowQ.below {k : IntKind} {w w' : World} {A : Option Addr} {n : Nat} {L : List (Int × Int)} (h : RowQ k w A n L) (hb : Below w.heap.size w w') : RowQ k w' A n L := h.keep fun _ hp => hb.cell hp
theorem RowQ.nil (k : IntKind) (w : World) (A : Option Addr) : RowQ k w A 0 [] := ⟨rfl, by simp, fun _ h => absurd h (by omega)⟩
theorem RowQ.get {k : IntKind} {w : World} {A : Option Addr} {n : Nat} {L : List (Int × Int)} (h : RowQ k w A n L) {i : Nat} (hi : i < n) : (Lit.int k (L.getD i (0, 0)).1).wf = true ∧ (Lit.int k (L.getD i (0, 0)).2).wf = true := by
  have hl : i < L.length := by have := h.1; omega
  rw [List.getD_eq_getElem?_getD, List.getElem?_eq_getElem hl]
  exact h.2.1 _ (List.getElem_mem hl)
theorem pick_pairs {α : Type} {P : Nat → α → Prop} : ∀ (n : Nat), (∀ i, i < n → ∃ m, P i m) → ∃ M : List α, M.length = n ∧ ∀ (i : Nat) (m : α), M[i]? = some m → P i m
  | 0, _ => ⟨[], rfl, fun i m h => by simp at h⟩
  | n + 1, h => by
    obtain ⟨M, h1, h2⟩ := pick_pairs n (fun i hi => h i (by omega))
    obtain ⟨m, hm⟩ := h n (by omega)
    refine ⟨M ++ [m], by simp [h1], fun i x hx => ?_⟩
    rcases Nat.lt_or_ge i n with hi | hi
    · rw [List.getElem?_append_left (by omega)] at hx
      exact h2 i x hx
    · rw [List.getElem?_append_right (by omega), h1] at hx
      have hi0 : i - n = 0 := by
        have := (List.getElem?_eq_some_iff.1 hx).1
        simp at this
        omega
      rw [hi0] at hx
      have e : i = n := by omega
      subst e
      simp at hx
      subst hx
      exact hm
section
variable {H : Type} {enc : TypeId × Value → H} {W : World}
set_option maxRecDepth 10000 in
/-- Pairs that came in. -/
theorem open_pairs {k : IntKind} {tS tA tE : TypeId} {B : Nat} (hS : Try.prog.underlying tS = some (.slice tA)) (hA : Try.prog.underlying tA = some (.array 2 tE)) (hE : Try.prog.underlying tE = some (.int k)) (hcA : Try.prog.cellsOf tA = 2) (hcE : Try.prog.cellsOf tE = 1) (hB : Try.prog.bytesOf tA = B) (hB0 : 1 ≤ B)
    {a : Option Addr} {len cap : Nat} {d : DataW H} {ps : List MemPlace}
    (h : DataW.Trod enc Try.prog W 0 (fun _ => true) true tS (.slice a len cap) d ps) {ts : List TypeId} {ds : List (DataW H)} {j : Nat} {T : TypeId} (hT : T = tS) (hj : ts[j]? = some T ∧ ds[j]? = some d)
    (hsz : (DataW.weightsEach Try.prog ts ds).all (· ≤ reachBytes) = true) :
    ∃ L : List (Int × Int), RowQ k W a len L ∧ len ≤ 140737488351232 ∧ len ≤ cap ∧ len * B ≤ 140737488351232 := by
  subst hT
  obtain ⟨fuel, hf⟩ := h
  rcases DataW.trod_slice hS hf with ⟨hcs, _⟩ | ⟨x, l, c, elems, rest, n, _, hcs, hx, _, hl, hm, hlen, hel, _, _⟩
  · simp [Value.cells] at hcs
    obtain ⟨rfl, rfl, rfl⟩ := hcs
    exact ⟨[], RowQ.nil _ _ _, Nat.zero_le _, Nat.zero_le _, by rw [Nat.zero_mul]; exact Nat.zero_le _⟩
  · simp [Value.cells] at hcs
    obtain ⟨rfl, rfl, rfl⟩ := hcs
    simp only [Prod.mk.injEq] at hx
    obtain ⟨rfl, _⟩ := hx
    have h1 := sized_slice hsz hj.1 hj.2 hS
    rw [hB] at h1
    simp only [List.length_map, reachBytes] at h1
    have hmul : len ≤ elems.length * B := by
      have := Nat.mul_le_mul_left elems.length hB0
      omega
    have hmul2 : elems.length * B ≤ (elems.length + rest.length) * B := Nat.mul_le_mul_right B (Nat.le_add_right _ _)
    have two : ∀ i, i < len → ∃ c0 c1 y, W.cell? ((x.add (i * 2)).add 0) = some c0 ∧ W.cell? ((x.add (i * 2)).add 1) = some c1 ∧ DataW.trod enc Try.prog W 0 (fun _ => true) true n tA [c0, c1] = some y ∧ elems[i]? = some y := by
      intro i hi
      have he := hel i hi
      rw [hcA, List.getElem?_eq_getElem (by omega)] at he
      obtain ⟨cs, hcs, htr⟩ := Option.bind_eq_some_iff.1 he
      unfold World.cells? at hcs
      rw [if_pos (Nat.zero_le _)] at hcs
      simp only [List.range_succ, List.range_zero, List.nil_append, List.cons_append, List.mapM_cons, List.mapM_nil] at hcs
      cases e0 : W.cell? ((x.add (i * 2)).add 0) with
      | none => rw [e0] at hcs; simp at hcs
      | some c0 =>
        cases e1 : W.cell? ((x.add (i * 2)).add 1) with
        | none => rw [e0, e1] at hcs; simp at hcs
        | some c1 =>
          rw [e0, e1] at hcs
          simp at hcs
          subst hcs
          exact ⟨c0, c1, _, rfl, rfl, htr, List.getElem?_eq_getElem (by omega)⟩
    have hsp0 : 0 < len → x.spot = none := fun h0 => by
      obtain ⟨c0, _, _, e0, _⟩ := two 0 h0
      simpa [Addr.add] using World.cell?_spot e0
    have key : ∀ i, i < len → ∃ m : Int × Int, ((Lit.int k m.1).wf = true ∧ (Lit.int k m.2).wf = true) ∧ x.spot = none ∧ W.cell? ⟨x.block, x.off + i * 2, none⟩ = some (.int k m.1) ∧ W.cell? ⟨x.block, x.off + i * 2 + 1, none⟩ = some (.int k m.2) := by
      intro i hi
      obtain ⟨c0, c1, y, e0, e1, htr, hy⟩ := two i hi
      have hsp := hsp0 (by omega)
      obtain ⟨b, o, sp⟩ := x
      obtain rfl : sp = none := hsp
      rw [add_flat, add_flat] at e0 e1
      obtain ⟨xs, m, _, _, _, hxl, hfl⟩ := DataW.trod_array hA htr
      have f0 := hfl 0 (by decide)
      have f1 := hfl 1 (by decide)
      rw [hcE, List.getElem?_eq_getElem (by omega)] at f0 f1
      obtain ⟨z, ez, _, wz⟩ := DataW.trod_int hE f0
      obtain ⟨u, eu, _, wu⟩ := DataW.trod_int hE f1
      have ez2 : c0 = .int k z := by
        have : [c0] = [Value.int k z] := ez
        simpa using this
      have eu2 : c1 = .int k u := by
        have : [c1] = [Value.int k u] := eu
        simpa using this
      exact ⟨(z, u), ⟨wz, wu⟩, rfl, by rw [← ez2]; exact e0, by rw [← eu2]; exact e1⟩
    obtain ⟨M, hM, hP⟩ := pick_pairs len key
    refine ⟨M, ⟨hM, fun m hm => ?_, fun i hi => ?_⟩, by omega, by omega, by
      have hel2 : len = elems.length := by omega
      rw [hel2]
      omega⟩
    · obtain ⟨i, hi, rfl⟩ := List.getElem_of_mem hm
      exact (hP i _ (List.getElem?_eq_getElem hi)).1
    · have hi2 : i < M.length := by omega
      obtain ⟨_, hs, q1, q2⟩ := hP i _ (List.getElem?_eq_getElem hi2)
      have eg : M.getD i (0, 0) = M[i] := by rw [List.getD_eq_getElem?_getD, List.getElem?_eq_getElem hi2]; rfl
      obtain ⟨b, o, sp⟩ := x
      obtain rfl : sp = none := hs
      exact ⟨b, o, rfl, by rw [eg]; exact q1, by rw [eg]; exact q2⟩
end
end Go.Proofs.Ytcbhhfnnjfpmbaa
