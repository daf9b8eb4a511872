/-
  Opening arguments that are meters, levels, what a meter is asked, and lists of such. Nothing is claimed of the program here.
-/
import Derived.Test.YtdeehkhdmohalaaLift
import Derived.Test.YtdeehkhdmohalaaSgPlain
import Derived.Lib.SmallJoins
namespace Go.Proofs.Ytdeehkhdmohalaa
open Go.ChangeShapes Go.WideShapes Go.ChangeAt Go.RowKit Go.Joins Go.Deep
set_option linter.unusedVariables false

/-- What a meter is asked: a time, a size, a colour ahead. -/
structure Ak where
  time : Nat
  size : Int
  pre : Int
def ak0 : Ak := ⟨0, 0, 0⟩
def I64k (z : Int) : Prop := -9223372036854775808 ≤ z ∧ z ≤ 9223372036854775807
structure AkOk (a : Ak) : Prop where
  time : a.time ≤ 18446744073709551615
  size : I64k a.size
  pre : I64k a.pre
structure MtOk (m : Mt) : Prop where
  kind : I64k m.kind
  rate : m.rate ≤ 18446744073709551615
  peak : m.peak ≤ 18446744073709551615
  burst : m.burst ≤ 18446744073709551615
  extra : m.extra ≤ 18446744073709551615
structure LvOk (s : Lv) : Prop where
  one : s.one ≤ 18446744073709551615
  two : s.two ≤ 18446744073709551615
  last : s.last ≤ 18446744073709551615
def mtC (m : Mt) : List Value := [.int .i64 m.kind, .bool m.aware, .int .u64 (m.rate : Nat), .int .u64 (m.peak : Nat), .int .u64 (m.burst : Nat), .int .u64 (m.extra : Nat)]
def lvC (s : Lv) : List Value := [.int .u64 (s.one : Nat), .int .u64 (s.two : Nat), .int .u64 (s.last : Nat), .bool s.seen]
/-- A slice of what is asked, with address A and length n, reads as L. -/
def AkRow (w : World) (A : Option Addr) (n : Nat) (L : List Ak) : Prop :=
  L.length = n ∧ (∀ a ∈ L, AkOk a) ∧ ∀ i, i < n → ∃ b o, A = some ⟨b, o, none⟩ ∧ w.cell? ⟨b, o + i * 3, none⟩ = some (.int .u64 ((L.getD i ak0).time : Nat)) ∧ w.cell? ⟨b, o + i * 3 + 1, none⟩ = some (.int .i64 (L.getD i ak0).size) ∧ w.cell? ⟨b, o + i * 3 + 2, none⟩ = some (.int .i64 (L.getD i ak0).pre)
theorem AkRow.addr {w : World} {A : Option Addr} {n : Nat} {L : List Ak} (h : AkRow w A n L) (hn : 0 < n) :
    ∃ b o, A = some ⟨b, o, none⟩ ∧ b < w.heap.size ∧ ∀ i, i < n → w.cell? ⟨b, o + i * 3, none⟩ = some (.int .u64 ((L.getD i ak0).time : Nat)) ∧ w.cell? ⟨b, o + i * 3 + 1, none⟩ = some (.int .i64 (L.getD i ak0).size) ∧ w.cell? ⟨b, o + i * 3 + 2, none⟩ = some (.int .i64 (L.getD i ak0).pre) := by
  obtain ⟨b, o, rfl, hc, _⟩ := h.2.2 0 hn
  refine ⟨b, o, rfl, cell_lt hc, fun i hi => ?_⟩
  obtain ⟨b', o', he, hc', hc2⟩ := h.2.2 i hi
  injection he with he
  injection he with h1 h2
  subst h1 h2
  exact ⟨hc', hc2⟩
theorem AkRow.keep {w w' : World} {A : Option Addr} {n : Nat} {L : List Ak} (h : AkRow w A n L) (hk : ∀ p : Addr, p.block < w.heap.size → w'.cell? p = w.cell? p) : AkRow w' A n L :=
  ⟨h.1, h.2.1, fun i hi => by
    obtain ⟨b, o, he, hc, hc2, hc3⟩ := h.2.2 i hi
    exact ⟨b, o, he, (hk _ (cell_lt hc)).trans hc, (hk _ (cell_lt hc2)).trans hc2, (hk _ (cell_lt hc3)).trans hc3⟩⟩
theorem AkRow.below {w w' : World} {A : Option Addr} {n : Nat} {L : List Ak} (h : AkRow w A n L) (hb : Below w.heap.size w w') : AkRow w' A n L := h.keep fun _ hp => hb.cell hp
theorem AkRow.nil (w : World) (A : Option Addr) : AkRow w A 0 [] := ⟨rfl, by simp, fun _ h => absurd h (by omega)⟩
theorem AkRow.get {w : World} {A : Option Addr} {n : Nat} {L : List Ak} (h : AkRow w A n L) {i : Nat} (hi : i < n) : AkOk (L.getD i ak0) := by
  have hl : i < L.length := by have := h.1; omega
  rw [List.getD_eq_getElem?_getD, List.getElem?_eq_getElem hl]
  exact h.2.1 _ (List.getElem_mem hl)
theorem pick_aks {α : Type} {P : Nat → α → Prop} : ∀ (n : Nat), (∀ i, i < n → ∃ m, P i m) → ∃ M : List α, M.length = n ∧ ∀ (i : Nat) (m : α), M[i]? = some m → P i m
  | 0, _ => ⟨[], rfl, fun i m h => by simp at h⟩
  | n + 1, h => by
    obtain ⟨M, h1, h2⟩ := pick_aks n (fun i hi => h i (by omega))
    obtain ⟨m, hm⟩ := h n (by omega)
    refine ⟨M ++ [m], by simp [h1], fun i x hx => ?_⟩
    rcases Nat.lt_or_ge i n with hi | hi
    · rw [List.getElem?_append_left (by omega)] at hx
      exact h2 i x hx
    · rw [List.getElem?_append_right (by omega), h1] at hx
      have hi0 : i - n = 0 := by
        have := (List.getElem?_eq_some_iff.1 hx).1
        simp at this
        omega
      rw [hi0] at hx
      have e : i = n := by omega
      subst e
      simp at hx
      subst hx
      exact hm
theorem wf_u64k {n : Int} (h : (Lit.int .u64 n).wf = true) : ∃ k : Nat, n = (k : Int) ∧ k ≤ 18446744073709551615 := by
  have h2 : 0 ≤ n ∧ n ≤ 18446744073709551615 := by
    simp [Lit.wf, IntKind.min, IntKind.max, IntKind.signed, IntKind.bits] at h; omega
  obtain ⟨k, rfl⟩ := Int.eq_ofNat_of_zero_le h2.1
  exact ⟨k, rfl, by omega⟩
theorem wf_i64k {n : Int} (h : (Lit.int .i64 n).wf = true) : I64k n := by
  unfold I64k
  simp [Lit.wf, IntKind.min, IntKind.max, IntKind.signed, IntKind.bits] at h; omega
section
variable {H : Type} {enc : TypeId × Value → H} {W : World}
theorem opk_u64 {base : Nat} {spare : Nat → Bool} {held : Bool} {n : Nat} {c : Value} {y : Option (DataW H × List MemPlace)} (h : DataW.trod enc Try.prog W base spare held n 22 [c] = y) (hy : ∃ z, y = some z) : ∃ k : Nat, c = .int .u64 (k : Int) ∧ k ≤ 18446744073709551615 := by
  obtain ⟨z, rfl⟩ := hy
  obtain ⟨a, e, _, wa⟩ := DataW.trod_int Try.underlying22 h
  simp at e
  obtain ⟨k, rfl, hk⟩ := wf_u64k wa
  exact ⟨k, e, hk⟩
theorem opk_i64 {base : Nat} {spare : Nat → Bool} {held : Bool} {n : Nat} {c : Value} {y : Option (DataW H × List MemPlace)} (h : DataW.trod enc Try.prog W base spare held n 3 [c] = y) (hy : ∃ z, y = some z) : ∃ k : Int, c = .int .i64 k ∧ I64k k := by
  obtain ⟨z, rfl⟩ := hy
  obtain ⟨a, e, _, wa⟩ := DataW.trod_int Try.underlying3 h
  simp at e
  exact ⟨a, e, wf_i64k wa⟩
theorem opk_bool {base : Nat} {spare : Nat → Bool} {held : Bool} {n : Nat} {c : Value} {y : Option (DataW H × List MemPlace)} (h : DataW.trod enc Try.prog W base spare held n 4 [c] = y) (hy : ∃ z, y = some z) : ∃ b : Bool, c = .bool b := by
  obtain ⟨z, rfl⟩ := hy
  obtain ⟨a, e, _⟩ := DataW.trod_bool Try.underlying4 h
  simp at e
  exact ⟨a, e⟩
theorem cells_meter : Try.prog.cellsOf 24 = 6 := by kernel_rfl
theorem cells_level : Try.prog.cellsOf 26 = 4 := by kernel_rfl
theorem cells_asked : Try.prog.cellsOf 28 = 3 := by kernel_rfl
theorem bytes_asked : Try.prog.bytesOf 28 = 24 := by kernel_rfl
set_option maxRecDepth 10000 in
theorem open_meter {r : Reach} {b0 base : Nat} {spare : Nat → Bool} {held : Bool} {v : Value} {d : DataW H} {p : List MemPlace}
    (hv : Value.okWide Try.prog W r b0 24 v) (h : DataW.Trod enc Try.prog W base spare held 24 v d p) :
    ∃ m : Mt, v = .agg (mtC m).toArray ∧ MtOk m := by
  obtain ⟨cs, rfl, hsz⟩ := okWide_struct Try.underlying24 hv
  rw [cells_meter] at hsz
  obtain ⟨fuel, hf⟩ := h
  obtain ⟨xs, n, _, _, _, hlen, hel⟩ := DataW.trod_struct Try.underlying24 hf
  have hx6 : xs.length = 6 := hlen
  have hsome : ∀ i, i < 6 → ∃ z, xs[i]? = some z := fun i hi => ⟨_, List.getElem?_eq_getElem (by omega)⟩
  obtain ⟨l⟩ := cs
  match l, hsz with
  | [c0, c1, c2, c3, c4, c5], _ =>
    have h0 : DataW.trod enc Try.prog W base spare held n 3 [c0] = xs[0]? := hel 0 _ rfl
    have h1 : DataW.trod enc Try.prog W base spare held n 4 [c1] = xs[1]? := hel 1 _ rfl
    have h2 : DataW.trod enc Try.prog W base spare held n 22 [c2] = xs[2]? := hel 2 _ rfl
    have h3 : DataW.trod enc Try.prog W base spare held n 22 [c3] = xs[3]? := hel 3 _ rfl
    have h4 : DataW.trod enc Try.prog W base spare held n 22 [c4] = xs[4]? := hel 4 _ rfl
    have h5 : DataW.trod enc Try.prog W base spare held n 22 [c5] = xs[5]? := hel 5 _ rfl
    obtain ⟨a0, rfl, w0⟩ := opk_i64 (enc := enc) h0 (hsome 0 (by decide))
    obtain ⟨a1, rfl⟩ := opk_bool (enc := enc) h1 (hsome 1 (by decide))
    obtain ⟨a2, rfl, w2⟩ := opk_u64 (enc := enc) h2 (hsome 2 (by decide))
    obtain ⟨a3, rfl, w3⟩ := opk_u64 (enc := enc) h3 (hsome 3 (by decide))
    obtain ⟨a4, rfl, w4⟩ := opk_u64 (enc := enc) h4 (hsome 4 (by decide))
    obtain ⟨a5, rfl, w5⟩ := opk_u64 (enc := enc) h5 (hsome 5 (by decide))
    exact ⟨⟨a0, a1, a2, a3, a4, a5⟩, rfl, ⟨w0, w2, w3, w4, w5⟩⟩
set_option maxRecDepth 10000 in
theorem open_level {r : Reach} {b0 base : Nat} {spare : Nat → Bool} {held : Bool} {v : Value} {d : DataW H} {p : List MemPlace}
    (hv : Value.okWide Try.prog W r b0 26 v) (h : DataW.Trod enc Try.prog W base spare held 26 v d p) :
    ∃ s : Lv, v = .agg (lvC s).toArray ∧ LvOk s := by
  obtain ⟨cs, rfl, hsz⟩ := okWide_struct Try.underlying26 hv
  rw [cells_level] at hsz
  obtain ⟨fuel, hf⟩ := h
  obtain ⟨xs, n, _, _, _, hlen, hel⟩ := DataW.trod_struct Try.underlying26 hf
  have hx6 : xs.length = 4 := hlen
  have hsome : ∀ i, i < 4 → ∃ z, xs[i]? = some z := fun i hi => ⟨_, List.getElem?_eq_getElem (by omega)⟩
  obtain ⟨l⟩ := cs
  match l, hsz with
  | [c0, c1, c2, c3], _ =>
    have h0 : DataW.trod enc Try.prog W base spare held n 22 [c0] = xs[0]? := hel 0 _ rfl
    have h1 : DataW.trod enc Try.prog W base spare held n 22 [c1] = xs[1]? := hel 1 _ rfl
    have h2 : DataW.trod enc Try.prog W base spare held n 22 [c2] = xs[2]? := hel 2 _ rfl
    have h3 : DataW.trod enc Try.prog W base spare held n 4 [c3] = xs[3]? := hel 3 _ rfl
    obtain ⟨a0, rfl, w0⟩ := opk_u64 (enc := enc) h0 (hsome 0 (by decide))
    obtain ⟨a1, rfl, w1⟩ := opk_u64 (enc := enc) h1 (hsome 1 (by decide))
    obtain ⟨a2, rfl, w2⟩ := opk_u64 (enc := enc) h2 (hsome 2 (by decide))
    obtain ⟨a3, rfl⟩ := opk_bool (enc := enc) h3 (hsome 3 (by decide))
    exact ⟨⟨a0, a1, a2, a3⟩, rfl, ⟨w0, w1, w2⟩⟩
theorem trod_asked {base : Nat} {spare : Nat → Bool} {held : Bool} {n : Nat} {c0 c1 c2 : Value} {y : DataW H × List MemPlace} (h : DataW.trod enc Try.prog W base spare held n 28 [c0, c1, c2] = some y) :
    ∃ a : Ak, AkOk a ∧ c0 = .int .u64 (a.time : Nat) ∧ c1 = .int .i64 a.size ∧ c2 = .int .i64 a.pre := by
  obtain ⟨xs, m, _, _, _, hlen, hel⟩ := DataW.trod_struct Try.underlying28 h
  have hx3 : xs.length = 3 := hlen
  have hsome : ∀ i, i < 3 → ∃ z, xs[i]? = some z := fun i hi => ⟨_, List.getElem?_eq_getElem (by omega)⟩
  have h0 : DataW.trod enc Try.prog W base spare held m 22 [c0] = xs[0]? := hel 0 _ rfl
  have h1 : DataW.trod enc Try.prog W base spare held m 3 [c1] = xs[1]? := hel 1 _ rfl
  have h2 : DataW.trod enc Try.prog W base spare held m 3 [c2] = xs[2]? := hel 2 _ rfl
  obtain ⟨a0, rfl, w0⟩ := opk_u64 (enc := enc) h0 (hsome 0 (by decide))
  obtain ⟨a1, rfl, w1⟩ := opk_i64 (enc := enc) h1 (hsome 1 (by decide))
  obtain ⟨a2, rfl, w2⟩ := opk_i64 (enc := enc) h2 (hsome 2 (by decide))
  exact ⟨⟨a0, a1, a2⟩, ⟨w0, w1, w2⟩, rfl, rfl, rfl⟩
theorem open_asked {r : Reach} {b0 base : Nat} {spare : Nat → Bool} {held : Bool} {v : Value} {d : DataW H} {p : List MemPlace}
    (hv : Value.okWide Try.prog W r b0 28 v) (h : DataW.Trod enc Try.prog W base spare held 28 v d p) :
    ∃ a : Ak, v = .agg #[.int .u64 (a.time : Nat), .int .i64 a.size, .int .i64 a.pre] ∧ AkOk a := by
  obtain ⟨cs, rfl, hsz⟩ := okWide_struct Try.underlying28 hv
  rw [cells_asked] at hsz
  obtain ⟨fuel, hf⟩ := h
  obtain ⟨l⟩ := cs
  match l, hsz with
  | [c0, c1, c2], _ =>
    obtain ⟨a, ha, rfl, rfl, rfl⟩ := trod_asked (enc := enc) hf
    exact ⟨a, rfl, ha⟩
set_option maxRecDepth 10000 in
/-- A list of what is asked, that came in. -/
theorem open_askeds {a : Option Addr} {len cap : Nat} {d : DataW H} {ps : List MemPlace}
    (h : DataW.Trod enc Try.prog W 0 (fun _ => true) true 37 (.slice a len cap) d ps) {ts : List TypeId} {ds : List (DataW H)} {j : Nat} {T : TypeId} (hT : T = 37) (hj : ts[j]? = some T ∧ ds[j]? = some d)
    (hsz : (DataW.weightsEach Try.prog ts ds).all (· ≤ reachBytes) = true) :
    ∃ L : List Ak, AkRow W a len L ∧ len ≤ 5864062014801 ∧ len ≤ cap := by
  subst hT
  obtain ⟨fuel, hf⟩ := h
  rcases DataW.trod_slice Try.underlying37 hf with ⟨hcs, _⟩ | ⟨x, l, c, elems, rest, n, _, hcs, hx, _, hl, hm, hlen, hel, _, _⟩
  · simp [Value.cells] at hcs
    obtain ⟨rfl, rfl, rfl⟩ := hcs
    exact ⟨[], AkRow.nil _ _, Nat.zero_le _, Nat.zero_le _⟩
  · simp [Value.cells] at hcs
    obtain ⟨rfl, rfl, rfl⟩ := hcs
    simp only [Prod.mk.injEq] at hx
    obtain ⟨rfl, _⟩ := hx
    have h1 := sized_slice hsz hj.1 hj.2 Try.underlying37
    rw [bytes_asked] at h1
    simp only [List.length_map, reachBytes] at h1
    have three : ∀ i, i < len → ∃ c0 c1 c2 y, W.cell? ((x.add (i * 3)).add 0) = some c0 ∧ W.cell? ((x.add (i * 3)).add 1) = some c1 ∧ W.cell? ((x.add (i * 3)).add 2) = some c2 ∧ DataW.trod enc Try.prog W 0 (fun _ => true) true n 28 [c0, c1, c2] = some y ∧ elems[i]? = some y := by
      intro i hi
      have he := hel i hi
      rw [cells_asked, List.getElem?_eq_getElem (by omega)] at he
      obtain ⟨cs, hcs, htr⟩ := Option.bind_eq_some_iff.1 he
      unfold World.cells? at hcs
      rw [if_pos (Nat.zero_le _)] at hcs
      simp only [List.range_succ, List.range_zero, List.nil_append, List.cons_append, List.mapM_cons, List.mapM_nil] at hcs
      cases e0 : W.cell? ((x.add (i * 3)).add 0) with
      | none => rw [e0] at hcs; simp at hcs
      | some c0 =>
        cases e1 : W.cell? ((x.add (i * 3)).add 1) with
        | none => rw [e0, e1] at hcs; simp at hcs
        | some c1 =>
          cases e2 : W.cell? ((x.add (i * 3)).add 2) with
          | none => rw [e0, e1, e2] at hcs; simp at hcs
          | some c2 =>
            rw [e0, e1, e2] at hcs
            simp at hcs
            subst hcs
            exact ⟨c0, c1, c2, _, rfl, rfl, rfl, htr, List.getElem?_eq_getElem (by omega)⟩
    have hsp0 : 0 < len → x.spot = none := fun h0 => by
      obtain ⟨c0, _, _, _, e0, _⟩ := three 0 h0
      simpa [Addr.add] using World.cell?_spot e0
    have key : ∀ i, i < len → ∃ m : Ak, AkOk m ∧ x.spot = none ∧ W.cell? ⟨x.block, x.off + i * 3, none⟩ = some (.int .u64 (m.time : Nat)) ∧ W.cell? ⟨x.block, x.off + i * 3 + 1, none⟩ = some (.int .i64 m.size) ∧ W.cell? ⟨x.block, x.off + i * 3 + 2, none⟩ = some (.int .i64 m.pre) := by
      intro i hi
      obtain ⟨c0, c1, c2, y, e0, e1, e2, htr, hy⟩ := three i hi
      have hsp := hsp0 (by omega)
      obtain ⟨b, o, sp⟩ := x
      obtain rfl : sp = none := hsp
      rw [add_flat, add_flat] at e0 e1 e2
      obtain ⟨m, hm, rfl, rfl, rfl⟩ := trod_asked (enc := enc) htr
      exact ⟨m, hm, rfl, e0, e1, e2⟩
    obtain ⟨M, hM, hP⟩ := pick_aks len key
    refine ⟨M, ⟨hM, fun m hm => ?_, fun i hi => ?_⟩, by omega, by omega⟩
    · obtain ⟨i, hi, rfl⟩ := List.getElem_of_mem hm
      exact (hP i _ (List.getElem?_eq_getElem hi)).1
    · have hi2 : i < M.length := by omega
      obtain ⟨_, hs, q1, q2, q3⟩ := hP i _ (List.getElem?_eq_getElem hi2)
      have eg : M.getD i ak0 = M[i] := by rw [List.getD_eq_getElem?_getD, List.getElem?_eq_getElem hi2]; rfl
      obtain ⟨b, o, sp⟩ := x
      obtain rfl : sp = none := hs
      exact ⟨b, o, rfl, by rw [eg]; exact q1, by rw [eg]; exact q2, by rw [eg]; exact q3⟩
end
end Go.Proofs.Ytdeehkhdmohalaa
