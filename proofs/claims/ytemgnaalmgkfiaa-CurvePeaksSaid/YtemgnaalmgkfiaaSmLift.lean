/-
  Opening arguments that are lists of packets; rows of packets. Nothing is claimed of the program here.
-/
import Derived.Test.YtemgnaalmgkfiaaLift
import Derived.Test.YtemgnaalmgkfiaaArrV
import Derived.Test.YtemgnaalmgkfiaaCuPlain
import Derived.Lib.SmallJoins
namespace Go.Proofs.Ytemgnaalmgkfiaa
open Go.ChangeShapes Go.WideShapes Go.ChangeAt Go.RowKit Go.Joins Go.Deep
set_option linter.unusedVariables false

def I64k (z : Int) : Prop := -9223372036854775808 ≤ z ∧ z ≤ 9223372036854775807
structure SmOk (a : Sm) : Prop where
  time : a.time ≤ 18446744073709551615
  size : I64k a.size
/-- A slice of packets, with address A and length n, reads as L. -/
def SmRow (w : World) (A : Option Addr) (n : Nat) (L : List Sm) : Prop :=
  L.length = n ∧ (∀ a ∈ L, SmOk a) ∧ ∀ i, i < n → ∃ b o, A = some ⟨b, o, none⟩ ∧ w.cell? ⟨b, o + i * 2, none⟩ = some (.int .u64 ((L.getD i sm0).time : Nat)) ∧ w.cell? ⟨b, o + i * 2 + 1, none⟩ = some (.int .i64 (L.getD i sm0).size)
theorem SmRow.addr {w : World} {A : Option Addr} {n : Nat} {L : List Sm} (h : SmRow w A n L) (hn : 0 < n) :
    ∃ b o, A = some ⟨b, o, none⟩ ∧ b < w.heap.size ∧ ∀ i, i < n → w.cell? ⟨b, o + i * 2, none⟩ = some (.int .u64 ((L.getD i sm0).time : Nat)) ∧ w.cell? ⟨b, o + i * 2 + 1, none⟩ = some (.int .i64 (L.getD i sm0).size) := by
  obtain ⟨b, o, rfl, hc, _⟩ := h.2.2 0 hn
  refine ⟨b, o, rfl, cell_lt hc, fun i hi => ?_⟩
  obtain ⟨b', o', he, hc', hc2⟩ := h.2.2 i hi
  injection he with he
  injection he with h1 h2
  subst h1 h2
  exact ⟨hc', hc2⟩
theorem SmRow.keep {w w' : World} {A : Option Addr} {n : Nat} {L : List Sm} (h : SmRow w A n L) (hk : ∀ p : Addr, p.block < w.heap.size → w'.cell? p = w.cell? p) : SmRow w' A n L :=
  ⟨h.1, h.2.1, fun i hi => by
    obtain ⟨b, o, he, hc, hc2⟩ := h.2.2 i hi
    exact ⟨b, o, he, (hk _ (cell_lt hc)).trans hc, (hk _ (cell_lt hc2)).trans hc2⟩⟩
theorem SmRow.below {w w' : World} {A : Option Addr} {n : Nat} {L : List Sm} (h : SmRow w A n L) (hb : Below w.heap.size w w') : SmRow w' A n L := h.keep fun _ hp => hb.cell hp
theorem SmRow.drewN {w : World} {A : Option Addr} {n : Nat} {L : List Sm} (h : SmRow w A n L) (k : Nat) : SmRow (w.drewN k) A n L := h
theorem SmRow.nil (w : World) (A : Option Addr) : SmRow w A 0 [] := ⟨rfl, by simp, fun _ h => absurd h (by omega)⟩
theorem SmRow.get {w : World} {A : Option Addr} {n : Nat} {L : List Sm} (h : SmRow w A n L) {i : Nat} (hi : i < n) : SmOk (L.getD i sm0) := by
  have hl : i < L.length := by have := h.1; omega
  rw [smD_in hl]
  exact h.2.1 _ (List.getElem_mem hl)
/-- The first m of a row. -/
theorem SmRow.front {w : World} {A : Option Addr} {n : Nat} {L : List Sm} (h : SmRow w A n L) (m : Nat) (hm : m ≤ n) : SmRow w A m (L.take m) := by
  have hl := h.1
  refine ⟨by rw [List.length_take]; omega, fun a ha => h.2.1 a (List.mem_of_mem_take ha), fun i hi => ?_⟩
  have e : (L.take m).getD i sm0 = L.getD i sm0 := by
    rw [List.getD_eq_getElem?_getD, List.getD_eq_getElem?_getD, List.getElem?_take, if_pos hi]
  rw [e]
  exact h.2.2 i (by omega)
/-- The rest of a row. -/
theorem SmRow.rest {w : World} {b o n : Nat} {L : List Sm} (h : SmRow w (some ⟨b, o, none⟩) n L) (m : Nat) (hm : m ≤ n) : SmRow w (some ⟨b, o + m * 2, none⟩) (n - m) (L.drop m) := by
  have hl := h.1
  refine ⟨by rw [List.length_drop]; omega, fun a ha => h.2.1 a (List.mem_of_mem_drop ha), fun i hi => ?_⟩
  have e : (L.drop m).getD i sm0 = L.getD (m + i) sm0 := by
    rw [List.getD_eq_getElem?_getD, List.getD_eq_getElem?_getD, List.getElem?_drop]
  rw [e]
  obtain ⟨b', o', he, h1, h2⟩ := h.2.2 (m + i) (by omega)
  injection he with he
  injection he with e1 e2
  subst e1 e2
  refine ⟨b, o + m * 2, rfl, ?_, ?_⟩
  · rw [show o + m * 2 + i * 2 = o + (m + i) * 2 from by omega]; exact h1
  · rw [show o + m * 2 + i * 2 + 1 = o + (m + i) * 2 + 1 from by omega]; exact h2
theorem pick_aks {α : Type} {P : Nat → α → Prop} : ∀ (n : Nat), (∀ i, i < n → ∃ m, P i m) → ∃ M : List α, M.length = n ∧ ∀ (i : Nat) (m : α), M[i]? = some m → P i m
  | 0, _ => ⟨[], rfl, fun i m h => by simp at h⟩
  | n + 1, h => by
    obtain ⟨M, h1, h2⟩ := pick_aks n (fun i hi => h i (by omega))
    obtain ⟨m, hm⟩ := h n (by omega)
    refine ⟨M ++ [m], by simp [h1], fun i x hx => ?_⟩
    rcases Nat.lt_or_ge i n with hi | hi
    · rw [List.getElem?_append_left (by omega)] at hx
      exact h2 i x hx
    · rw [List.getElem?_append_right (by omega), h1] at hx
      have hi0 : i - n = 0 := by
        have := (List.getElem?_eq_some_iff.1 hx).1
        simp at this
        omega
      rw [hi0] at hx
      have e : i = n := by omega
      subst e
      simp at hx
      subst hx
      exact hm
theorem wf_u64k {n : Int} (h : (Lit.int .u64 n).wf = true) : ∃ k : Nat, n = (k : Int) ∧ k ≤ 18446744073709551615 := by
  have h2 : 0 ≤ n ∧ n ≤ 18446744073709551615 := by
    simp [Lit.wf, IntKind.min, IntKind.max, IntKind.signed, IntKind.bits] at h; omega
  obtain ⟨k, rfl⟩ := Int.eq_ofNat_of_zero_le h2.1
  exact ⟨k, rfl, by omega⟩
theorem wf_i64k {n : Int} (h : (Lit.int .i64 n).wf = true) : I64k n := by
  unfold I64k
  simp [Lit.wf, IntKind.min, IntKind.max, IntKind.signed, IntKind.bits] at h; omega
section
variable {H : Type} {enc : TypeId × Value → H} {W : World}
theorem opk_u64 {base : Nat} {spare : Nat → Bool} {held : Bool} {n : Nat} {c : Value} {y : Option (DataW H × List MemPlace)} (h : DataW.trod enc Try.prog W base spare held n 23 [c] = y) (hy : ∃ z, y = some z) : ∃ k : Nat, c = .int .u64 (k : Int) ∧ k ≤ 18446744073709551615 := by
  obtain ⟨z, rfl⟩ := hy
  obtain ⟨a, e, _, wa⟩ := DataW.trod_int Try.underlying23 h
  simp at e
  obtain ⟨k, rfl, hk⟩ := wf_u64k wa
  exact ⟨k, e, hk⟩
theorem opk_i64 {base : Nat} {spare : Nat → Bool} {held : Bool} {n : Nat} {c : Value} {y : Option (DataW H × List MemPlace)} (h : DataW.trod enc Try.prog W base spare held n 3 [c] = y) (hy : ∃ z, y = some z) : ∃ k : Int, c = .int .i64 k ∧ I64k k := by
  obtain ⟨z, rfl⟩ := hy
  obtain ⟨a, e, _, wa⟩ := DataW.trod_int Try.underlying3 h
  simp at e
  exact ⟨a, e, wf_i64k wa⟩
theorem opk_bool {base : Nat} {spare : Nat → Bool} {held : Bool} {n : Nat} {c : Value} {y : Option (DataW H × List MemPlace)} (h : DataW.trod enc Try.prog W base spare held n 4 [c] = y) (hy : ∃ z, y = some z) : ∃ b : Bool, c = .bool b := by
  obtain ⟨z, rfl⟩ := hy
  obtain ⟨a, e, _⟩ := DataW.trod_bool Try.underlying4 h
  simp at e
  exact ⟨a, e⟩
theorem cells_sample : Try.prog.cellsOf 55 = 2 := by kernel_rfl
theorem bytes_sample : Try.prog.bytesOf 55 = 16 := by kernel_rfl
theorem trod_sample {base : Nat} {spare : Nat → Bool} {held : Bool} {n : Nat} {c0 c1 : Value} {y : DataW H × List MemPlace} (h : DataW.trod enc Try.prog W base spare held n 55 [c0, c1] = some y) :
    ∃ a : Sm, SmOk a ∧ c0 = .int .u64 (a.time : Nat) ∧ c1 = .int .i64 a.size := by
  obtain ⟨xs, m, _, _, _, hlen, hel⟩ := DataW.trod_struct Try.underlying55 h
  have hx3 : xs.length = 2 := hlen
  have hsome : ∀ i, i < 2 → ∃ z, xs[i]? = some z := fun i hi => ⟨_, List.getElem?_eq_getElem (by omega)⟩
  have h0 : DataW.trod enc Try.prog W base spare held m 23 [c0] = xs[0]? := hel 0 _ rfl
  have h1 : DataW.trod enc Try.prog W base spare held m 3 [c1] = xs[1]? := hel 1 _ rfl
  obtain ⟨a0, rfl, w0⟩ := opk_u64 (enc := enc) h0 (hsome 0 (by decide))
  obtain ⟨a1, rfl, w1⟩ := opk_i64 (enc := enc) h1 (hsome 1 (by decide))
  exact ⟨⟨a0, a1⟩, ⟨w0, w1⟩, rfl, rfl⟩
set_option maxRecDepth 10000 in
/-- A list of packets, that came in. -/
theorem open_samples {a : Option Addr} {len cap : Nat} {d : DataW H} {ps : List MemPlace}
    (h : DataW.Trod enc Try.prog W 0 (fun _ => true) true 22 (.slice a len cap) d ps) {ts : List TypeId} {ds : List (DataW H)} {j : Nat} {T : TypeId} (hT : T = 22) (hj : ts[j]? = some T ∧ ds[j]? = some d)
    (hsz : (DataW.weightsEach Try.prog ts ds).all (· ≤ reachBytes) = true) :
    ∃ L : List Sm, SmRow W a len L ∧ len ≤ 8796093022208 ∧ len ≤ cap := by
  subst hT
  obtain ⟨fuel, hf⟩ := h
  rcases DataW.trod_slice Try.underlying22 hf with ⟨hcs, _⟩ | ⟨x, l, c, elems, rest, n, _, hcs, hx, _, hl, hm, hlen, hel, _, _⟩
  · simp [Value.cells] at hcs
    obtain ⟨rfl, rfl, rfl⟩ := hcs
    exact ⟨[], SmRow.nil _ _, Nat.zero_le _, Nat.zero_le _⟩
  · simp [Value.cells] at hcs
    obtain ⟨rfl, rfl, rfl⟩ := hcs
    simp only [Prod.mk.injEq] at hx
    obtain ⟨rfl, _⟩ := hx
    have h1 := sized_slice hsz hj.1 hj.2 Try.underlying22
    rw [bytes_sample] at h1
    simp only [List.length_map, reachBytes] at h1
    have two : ∀ i, i < len → ∃ c0 c1 y, W.cell? ((x.add (i * 2)).add 0) = some c0 ∧ W.cell? ((x.add (i * 2)).add 1) = some c1 ∧ DataW.trod enc Try.prog W 0 (fun _ => true) true n 55 [c0, c1] = some y ∧ elems[i]? = some y := by
      intro i hi
      have he := hel i hi
      rw [cells_sample, List.getElem?_eq_getElem (by omega)] at he
      obtain ⟨cs, hcs, htr⟩ := Option.bind_eq_some_iff.1 he
      unfold World.cells? at hcs
      rw [if_pos (Nat.zero_le _)] at hcs
      simp only [List.range_succ, List.range_zero, List.nil_append, List.cons_append, List.mapM_cons, List.mapM_nil] at hcs
      cases e0 : W.cell? ((x.add (i * 2)).add 0) with
      | none => rw [e0] at hcs; simp at hcs
      | some c0 =>
        cases e1 : W.cell? ((x.add (i * 2)).add 1) with
        | none => rw [e0, e1] at hcs; simp at hcs
        | some c1 =>
          rw [e0, e1] at hcs
          simp at hcs
          subst hcs
          exact ⟨c0, c1, _, rfl, rfl, htr, List.getElem?_eq_getElem (by omega)⟩
    have hsp0 : 0 < len → x.spot = none := fun h0 => by
      obtain ⟨c0, _, _, e0, _⟩ := two 0 h0
      simpa [Addr.add] using World.cell?_spot e0
    have key : ∀ i, i < len → ∃ m : Sm, SmOk m ∧ x.spot = none ∧ W.cell? ⟨x.block, x.off + i * 2, none⟩ = some (.int .u64 (m.time : Nat)) ∧ W.cell? ⟨x.block, x.off + i * 2 + 1, none⟩ = some (.int .i64 m.size) := by
      intro i hi
      obtain ⟨c0, c1, y, e0, e1, htr, hy⟩ := two i hi
      have hsp := hsp0 (by omega)
      obtain ⟨b, o, sp⟩ := x
      obtain rfl : sp = none := hsp
      rw [add_flat, add_flat] at e0 e1
      obtain ⟨m, hm, rfl, rfl⟩ := trod_sample (enc := enc) htr
      exact ⟨m, hm, rfl, e0, e1⟩
    obtain ⟨M, hM, hP⟩ := pick_aks len key
    refine ⟨M, ⟨hM, fun m hm => ?_, fun i hi => ?_⟩, by omega, by omega⟩
    · obtain ⟨i, hi, rfl⟩ := List.getElem_of_mem hm
      exact (hP i _ (List.getElem?_eq_getElem hi)).1
    · have hi2 : i < M.length := by omega
      obtain ⟨_, hs, q1, q2⟩ := hP i _ (List.getElem?_eq_getElem hi2)
      have eg : M.getD i sm0 = M[i] := smD_in hi2
      obtain ⟨b, o, sp⟩ := x
      obtain rfl : sp = none := hs
      exact ⟨b, o, rfl, by rw [eg]; exact q1, by rw [eg]; exact q2⟩
end
end Go.Proofs.Ytemgnaalmgkfiaa
