/-
  The contract of extwalk's count.
  The contract of extwalk's check.
  The contract of extwalk's Write.
  The contract of extwalk's List.
  append where the old slice is read afterwards; plain facts of a walk.
-/
import Derived.Test.YtcjaidpmfjnhpaaEw4
namespace Go.Proofs.Ytcjaidpmfjnhpaa
open Go.RowKit
set_option linter.unusedVariables false

/-- What the second byte of a header with such a body must be, from i on. -/
def exCountF (u : Nat) (x : Int) : Nat → Nat → Option Nat
  | 0, _ => none
  | f + 1, i => if (i : Int) * (u : Int) = x then some i else exCountF u x f (i + 1)
def exCount (k : Int) (len : Nat) : Option Nat := exCountF (exUnit k) ((len : Int) - 6) 256 0
theorem count_len {n : Nat} (h : n ≤ 140737488355328) : wrap64 ((n : Int) + 2) = (n : Int) + 2 ∧ wrap64 ((n : Int) + 2 - 8) = (n : Int) - 6 := by
  have h1 : (n : Int) + 2 - 8 = (n : Int) - 6 := by omega
  have h2 := IntWalk.i64_in ((n : Int) + 2) ⟨by omega, by omega⟩
  have h3 := IntWalk.i64_in ((n : Int) - 6) ⟨by omega, by omega⟩
  rw [IntKind.wrap_i64] at h2 h3
  rw [h1]
  unfold wrap64
  exact ⟨h2, h3⟩
theorem count_mul {i u : Nat} (hi : i < 256) (hu : u ≤ 8) : wrap64 ((i : Int) * (u : Int)) = (i : Int) * (u : Int) := by
  have h : i * u ≤ 256 * 8 := Nat.mul_le_mul (by omega) hu
  have e : (i : Int) * (u : Int) = ((i * u : Nat) : Int) := by simp
  rw [e]
  exact w64_in (by omega) (by omega)
theorem count_fuel {i f : Nat} (h : i + f = 256) (hi : i < 256) : ∃ f2, f = f2 + 1 ∧ i + 1 + f2 = 256 := ⟨f - 1, by omega, by omega⟩
theorem tyext2 : RowTy 130 2 := ⟨⟨_, Try.underlying130, rfl⟩, by kernel_rfl⟩
end Go.Proofs.Ytcjaidpmfjnhpaa

namespace Go.Proofs.Ytcjaidpmfjnhpaa
open Go.RowKit
set_option linter.unusedVariables false

/-- Extension headers that came in, or were laid: kinds and bodies. -/
def ExtsIn (w : World) (v : Value) (M : List (Int × List Nat)) : Prop :=
  ∃ A c, v = .slice A M.length c ∧ M.length ≤ c ∧ ∀ (i : Nat) (m : Int × List Nat), M[i]? = some m → m.2.length ≤ 140737488355328 ∧ ∃ b o bv, A = some ⟨b, o, none⟩ ∧ b < w.heap.size ∧ w.cell? ⟨b, o + i * 2, none⟩ = some (.int .i64 m.1) ∧ w.cell? ⟨b, o + i * 2 + 1, none⟩ = some bv ∧ ByteVal w bv m.2
theorem ExtsIn.below {w w' : World} {v : Value} {M : List (Int × List Nat)} (h : ExtsIn w v M) (hb : Below w.heap.size w w') : ExtsIn w' v M := by
  obtain ⟨A, c, e, h1, h2⟩ := h
  refine ⟨A, c, e, h1, fun i m hm => ?_⟩
  obtain ⟨hl, b, o, bv, ea, hlt, c1, c2, hv⟩ := h2 i m hm
  exact ⟨hl, b, o, bv, ea, Nat.lt_of_lt_of_le hlt hb.size, (hb.cell (p := ⟨b, o + i * 2, none⟩) hlt).trans c1, (hb.cell (p := ⟨b, o + i * 2 + 1, none⟩) hlt).trans c2, hv.below hb⟩
/-- What is wrong with headers, from number i on: an error's number, and where. -/
def exCheckF : List (Int × List Nat) → Nat → Bool → Nat × Nat
  | [], _, _ => (0, 0)
  | (k, b) :: r, i, fr =>
    if exKind k = false then (10, i) else if (exCount k b.length).isSome = false then (3, i) else if k = 0 ∧ 0 < i then (6, i) else if k = 44 ∧ fr = true then (9, i) else exCheckF r (i + 1) (fr || decide (k = 44))
def exCheck (M : List (Int × List Nat)) (proto : Int) : Nat × Nat :=
  if proto < 0 ∨ 255 < proto ∨ exKind proto = true then (1, 0) else if 8 < M.length then (7, 8) else exCheckF M 0 false
def faultV (p : Nat × Nat) : List Value := [.int .i64 (p.1 : Nat), .int .i64 (p.2 : Nat)]
def CheckIs (r : Nat × Nat) (w : World) (e : Ending) (w' : World) : Prop := e = .returned (.agg (faultV r).toArray) ∧ Below w.heap.size w w'
end Go.Proofs.Ytcjaidpmfjnhpaa

namespace Go.Proofs.Ytcjaidpmfjnhpaa
open Go.RowKit
set_option linter.unusedVariables false

def exNext (proto : Int) : List (Int × List Nat) → Int
  | [] => proto
  | (k, _) :: _ => k
/-- The bytes of extension headers. -/
def exBytes (proto : Int) : List (Int × List Nat) → List Nat
  | [] => []
  | (k, b) :: r => [(exNext proto r).toNat, (exCount k b.length).getD 0] ++ b ++ exBytes proto r
theorem exCountF_some : ∀ {f i u x : Nat} {y : Int}, exCountF u y f i = some x → x < i + f ∧ (x : Int) * (u : Int) = y
  | 0, i, u, x, y, h => by cases h
  | f + 1, i, u, x, y, h => by
    rw [exCountF] at h
    split at h
    · rename_i e
      injection h with h
      subst h
      exact ⟨by omega, e⟩
    · have := exCountF_some h
      exact ⟨by omega, this.2⟩
theorem exCount_some {k : Int} {len x : Nat} (h : exCount k len = some x) : x < 256 ∧ len ≤ 2046 ∧ x * exUnit k + 6 = len := by
  obtain ⟨h1, h2⟩ := exCountF_some h
  have hu := exUnit_le k
  have h3 : x * exUnit k ≤ 255 * 8 := Nat.mul_le_mul (by omega) hu
  have h4 : ((x * exUnit k : Nat) : Int) = (len : Int) - 6 := by rw [← h2]; simp
  exact ⟨by omega, by omega, by omega⟩
theorem exCheckF_ok : ∀ {M : List (Int × List Nat)} {i : Nat} {fr : Bool} {a : Nat}, exCheckF M i fr = (0, a) → ∀ m ∈ M, exKind m.1 = true ∧ ∃ x, exCount m.1 m.2.length = some x
  | [], i, fr, a, h, m, hm => by cases hm
  | (k, b) :: r, i, fr, a, h, m, hm => by
    rw [exCheckF] at h
    split at h
    · cases h
    split at h
    · cases h
    split at h
    · cases h
    split at h
    · cases h
    rename_i h1 h2 _ _
    rcases List.mem_cons.1 hm with rfl | hm
    · refine ⟨by simpa using h1, ?_⟩
      cases hc : exCount k b.length with
      | none => rw [hc] at h2; exact absurd rfl h2
      | some x => exact ⟨x, rfl⟩
    · exact exCheckF_ok h m hm
theorem exCheckF_zero : ∀ {M : List (Int × List Nat)} {i : Nat} {fr : Bool}, (exCheckF M i fr).1 = 0 → exCheckF M i fr = (0, 0)
  | [], i, fr, h => rfl
  | (k, b) :: r, i, fr, h => by
    rw [exCheckF] at h ⊢
    split
    · rename_i h1; rw [if_pos h1] at h; cases h
    · rename_i h1
      rw [if_neg h1] at h
      split
      · rename_i h2; rw [if_pos h2] at h; cases h
      · rename_i h2
        rw [if_neg h2] at h
        split
        · rename_i h3; rw [if_pos h3] at h; cases h
        · rename_i h3
          rw [if_neg h3] at h
          split
          · rename_i h4; rw [if_pos h4] at h; cases h
          · rename_i h4
            rw [if_neg h4] at h
            exact exCheckF_zero h
theorem exCheck_ok {M : List (Int × List Nat)} {proto : Int} (h : (exCheck M proto).1 = 0) : exCheck M proto = (0, 0) ∧ (0 ≤ proto ∧ proto ≤ 255 ∧ exKind proto = false) ∧ M.length ≤ 8 ∧ ∀ m ∈ M, exKind m.1 = true ∧ ∃ x, exCount m.1 m.2.length = some x := by
  unfold exCheck at h ⊢
  split
  · rename_i h1; rw [if_pos h1] at h; cases h
  · rename_i h1
    rw [if_neg h1] at h
    split
    · rename_i h2; rw [if_pos h2] at h; cases h
    · rename_i h2
      rw [if_neg h2] at h
      have e : exCheckF M 0 false = (0, 0) := exCheckF_zero h
      refine ⟨e, ⟨by omega, by omega, ?_⟩, by omega, exCheckF_ok e⟩
      cases hk : exKind proto with
      | false => rfl
      | true => exact absurd (.inr (.inr hk)) h1
theorem exKind_byte {k : Int} (h : exKind k = true) : 0 ≤ k ∧ k ≤ 255 := by
  unfold exKind at h
  have := of_decide_eq_true h
  omega
theorem exNext_byte {proto : Int} {M : List (Int × List Nat)} (hp : 0 ≤ proto ∧ proto ≤ 255) (hM : ∀ m ∈ M, exKind m.1 = true) : 0 ≤ exNext proto M ∧ exNext proto M ≤ 255 := by
  cases M with
  | nil => exact hp
  | cons m r => exact exKind_byte (hM m (List.mem_cons_self ..))
theorem exBytes_byte {proto : Int} (hp : 0 ≤ proto ∧ proto ≤ 255) : ∀ {M : List (Int × List Nat)}, (∀ m ∈ M, exKind m.1 = true ∧ ∃ x, exCount m.1 m.2.length = some x) → (∀ m ∈ M, ∀ x ∈ m.2, x < 256) → ∀ x ∈ exBytes proto M, x < 256
  | [], _, _, x, hx => by cases hx
  | (k, b) :: r, h, hb, x, hx => by
    have hn := exNext_byte (M := r) hp fun m hm => (h m (List.mem_cons_of_mem _ hm)).1
    obtain ⟨c, hc⟩ := (h (k, b) (List.mem_cons_self ..)).2
    have hc2 := exCount_some hc
    rw [exBytes] at hx
    simp only [] at hc
    rcases List.mem_append.1 hx with hx | hx
    · rcases List.mem_append.1 hx with hx | hx
      · rw [hc] at hx
        simp at hx
        rcases hx with rfl | rfl <;> omega
      · exact hb (k, b) (List.mem_cons_self ..) x hx
    · exact exBytes_byte hp (fun m hm => h m (List.mem_cons_of_mem _ hm)) (fun m hm => hb m (List.mem_cons_of_mem _ hm)) x hx
theorem res_tmp_cell {P : Program} {fn : Func} {p u : Tmp} {ty : TypeId} {tmps : Array Value} {w : World} {a : Addr} {v x : Value} (h : fn.results = #[.tmp u, .cell p ty]) (hp : tmps.getD p undef = .pointer (some a))
    (hl : (Go.loadVar ty a).run P w = .ok v w) (hx : tmps.getD u undef = x) : (results fn tmps).run P w = .ok (.tuple #[x, v]) w := by
  subst hx
  simp only [results, h]
  have hq : tmps[p]?.getD undef = .pointer (some a) := by rw [← hp]; simp
  simp [Result.andThen, asAddr, hq, hl]
def WriteExt (M : List (Int × List Nat)) (proto : Int) (w : World) (e : Ending) (w' : World) : Prop :=
  Below w.heap.size w w' ∧ ((exCheck M proto).1 ≠ 0 → e = .returned (.tuple #[.slice none 0 0, .agg (faultV (exCheck M proto)).toArray])) ∧
    ((exCheck M proto).1 = 0 → ∃ v, e = .returned (.tuple #[v, .agg (faultV (0, 0)).toArray]) ∧ OutIs w.heap.size w' v (exBytes proto M))
/-- 'append(out, x ..)', and what else has stayed. -/
theorem wpList_append_bytes_g {ops : Array Oper} {rest : List Oper} {o : Oper} {a : Act} {Q : Exit → Act → World → Prop} (hgd : o.guard = none) (s x : Operand)
    (ho : o.op = .call { callee := .builtin .append, args := #[s, x], argTypes := #[22, 22] })
    {B : Nat} {W wr : World} {v : Value} {bs news : List Nat} (cs : Array Value) (m : Nat) (hs : a.eval s = v) (hx : a.eval x = .slice (some ⟨wr.heap.size, 0, none⟩) m m)
    (hcs : cs.toList = bcells news) (hm : news.length = m) (hown : OutIs B wr v bs) (hb : Below B W wr) (hB : B ≤ wr.heap.size) (hlen : bs.length + m ≤ 140737488355328)
    (h : ∀ v' w', OutIs B w' v' (bs ++ news) → Below B W w' → (wr.alloc (.cells cs 5)).grownBy w' v.ownBlock → wpList Try.prog ops Q rest (a.put o.dst v') w') : wpList Try.prog ops Q (o :: rest) a (wr.alloc (.cells cs 5)) := by
  obtain ⟨i0, h1, h2, h3, h4⟩ := u8_parts
  have hown' : (wr.alloc (.cells cs 5)).ownsRow B 5 1 v bs.length (bcells bs) := World.ownsRow.alloc hown _
  refine wpList_append_own (P := Try.prog) (wr.alloc (.cells cs 5)) hgd s x 22 ho B 5 i0 (.int .u8 0) 1 1 Try.underlying22 h1 h2 h3 h4 rfl (by decide) v bs.length (bcells bs) hs hown'
    ⟨wr.heap.size, 0, none⟩ m m (bcells news) hx (by rw [bcells_length, hm, Nat.mul_one]) (fun j u hj => by
      rw [add_flat, cell_of_row _ wr.heap.size (0 + j) cs _ _ (heap_alloc_new wr _), Nat.zero_add, ← Array.getElem?_toList, hcs]
      exact hj) (bcells_one news) (by unfold maxLen; omega) (by omega) (by simp; omega) ?_
  intro v' w' ho hg _
  refine h v' w' ?_ ((hb.alloc hB _).grown hg (by simp; omega) (fun k hk => (hown'.lt k hk).1)) hg
  unfold OutIs
  rw [List.length_append, hm]
  simpa [bcells] using ho
/-- A variable that was made later than the row stays. -/
theorem cell_grown {wr w' : World} {cs : Array Value} {v u : Value} {B g i : Nat} {bs : List Nat} (hO : OutIs B wr v bs) (hg9 : ∀ k, v.ownBlock = some k → k < g) (hc : (wr.alloc (.cells cs 5)).cell? ⟨g, i, none⟩ = some u) (h : (wr.alloc (.cells cs 5)).grownBy w' v.ownBlock) : w'.cell? ⟨g, i, none⟩ = some u :=
  h.cell hc (fun e => Nat.lt_irrefl _ (hg9 g (by first | exact e.symm | exact e)))
theorem out_lt {B : Nat} {w : World} {v : Value} {bs : List Nat} (h : OutIs B w v bs) : ∀ k, v.ownBlock = some k → k < w.heap.size := fun k hk => (World.ownsRow.lt h k hk).2
theorem idx_more {j N : Nat} (h : j + 1 < N) (h8 : N ≤ 8) : (j : Int) + 1 < (N : Int) ∧ ((j : Int) + 1).toNat = j + 1 ∧ (0 : Int) ≤ (j : Int) + 1 ∧ wrap64 ((j : Int) + 1) = (j : Int) + 1 := ⟨by omega, by omega, by omega, w64_in (by omega) (by omega)⟩
theorem idx_last {j N : Nat} (h : ¬ j + 1 < N) (hj : j ≤ N) (h8 : N ≤ 8) : ¬ (j : Int) + 1 < (N : Int) ∧ wrap64 ((j : Int) + 1) = (j : Int) + 1 := ⟨by omega, w64_in (by omega) (by omega)⟩
theorem idx_le {j N : Nat} (hj : j ≤ N) (h8 : N ≤ 8) : (j : Int) ≤ 8 := by omega
theorem idx_meas {j N : Nat} (h : j < N) : N - (j + 1) < N - j := by omega
theorem out_bound {a b j L : Nat} (h : a ≤ 2100 * j) (hj : j ≤ 8) (hb : b ≤ 2046) : a + 2 ≤ 140737488355328 ∧ a + 2 + b ≤ 140737488355328 ∧ a + 2 + b ≤ 2100 * (j + 1) := by
  have h2 : 2100 * j ≤ 2100 * 8 := Nat.mul_le_mul_left _ hj
  refine ⟨by omega, by omega, by omega⟩
theorem next_byte {z : Int} (h : 0 ≤ z ∧ z ≤ 255) : z % 256 = ((z.toNat : Nat) : Int) := by omega
theorem cnt_byte {x : Nat} (h : x < 256) : (x : Int) % 256 = (x : Int) := by omega
end Go.Proofs.Ytcjaidpmfjnhpaa

namespace Go.Proofs.Ytcjaidpmfjnhpaa
open Go.RowKit
set_option linter.unusedVariables false

def ListIs (w : World) (M : List (Nat × List Nat)) (e : Ending) (w' : World) : Prop := ∃ v, e = .returned v ∧ Exts w.heap.size w' v M ∧ Below w.heap.size w w'
theorem tour_field (t : Tour) (A : Option Addr) (N c : Nat) (X : Array Value) (hX : X = (Tour.cells t (.slice A N c)).toArray) (w : World) : (Instr.field 138 (.agg X) 1).run Try.prog w = .ok (.slice A N c) w := by
  subst hX
  simp [Tour.cells, Instr.field, asAgg, run_underlying Try.underlying138, go_sem]
theorem idx_thousand {j N : Nat} (hj : j ≤ N) (h8 : N ≤ 1000) : (j : Int) ≤ 1000 := by omega
theorem take_snoc {α : Type} {M : List α} {j : Nat} {m : α} (h : M[j]? = some m) : M.take (j + 1) = M.take j ++ [m] := by
  obtain ⟨h1, h2⟩ := List.getElem?_eq_some_iff.1 h
  rw [List.take_succ_eq_append_getElem h1, h2]
end Go.Proofs.Ytcjaidpmfjnhpaa

namespace Go.Proofs.Ytcjaidpmfjnhpaa
open Go.RowKit
set_option linter.unusedVariables false

theorem run_append_keep {B : Nat} {W wr : World} {g n c : Nat} {bs news : List Nat} (cs : Array Value) (m : Nat) (hcs : cs.toList = bcells news) (hm : news.length = m) (hn : bs.length = n) (hown : OutIs B wr (.slice (some ⟨g, 0, none⟩) n c) bs)
    (hbb : ∀ x ∈ bs ++ news, x < 256) (hb : Below B W wr) (hB : B ≤ wr.heap.size) (hlen : bs.length + m ≤ 140737488355328) :
    ∃ v' w', Sem.run Try.prog (Builtin.append_ #[22, 22] 22 #[.slice (some ⟨g, 0, none⟩) n c, .slice (some ⟨wr.heap.size, 0, none⟩) m m]) (wr.alloc (.cells cs 5)) = .ok v' w' ∧ OutIs B w' v' (bs ++ news) ∧ Below B W w' ∧ Row w' (some ⟨g, 0, none⟩) n bs ∧ (wr.alloc (.cells cs 5)).grownBy w' (Value.ownBlock (.slice (some ⟨g, 0, none⟩) n c)) := by
  obtain ⟨v', w', hr, ho, hb'⟩ := append_bytes cs m hcs hm hown hb hB hlen
  obtain ⟨i0, h1, h2, h3, h4⟩ := u8_parts
  refine ⟨v', w', hr, ho, hb', ?_, ?_⟩
  rotate_left
  · obtain ⟨v2, w2, hr2, _, hg2, _⟩ := run_append_own (P := Try.prog) (wr.alloc (.cells cs 5)) B 22 22 5 i0 (.int .u8 0) 1 1 Try.underlying22 h1 h2 h3 h4 rfl (by decide) (.slice (some ⟨g, 0, none⟩) n c) bs.length (bcells bs) (World.ownsRow.alloc hown _)
      ⟨wr.heap.size, 0, none⟩ m m (bcells news) (by rw [bcells_length, hm, Nat.mul_one]) (fun j u hj => by
        rw [add_flat, cell_of_row _ wr.heap.size (0 + j) cs _ _ (heap_alloc_new wr _), Nat.zero_add, ← Array.getElem?_toList, hcs]
        exact hj) (bcells_one news) (by unfold maxLen; omega) (by omega) (by simp; omega)
    rw [hr] at hr2
    injection hr2 with e1 e2
    rw [e2]
    exact hg2
  have hbs : ∀ x ∈ bs, x < 256 := fun x hx => hbb x (List.mem_append_left _ hx)
  have hnews : ∀ j u, (bcells news)[j]? = some u → (wr.alloc (.cells cs 5)).cell? ((⟨wr.heap.size, 0, none⟩ : Addr).add j) = some u := fun j u hj => by
    rw [add_flat, cell_of_row _ wr.heap.size (0 + j) cs _ _ (heap_alloc_new wr _), Nat.zero_add, ← Array.getElem?_toList, hcs]
    exact hj
  have hown2 : (wr.alloc (.cells cs 5)).ownsRow B 5 1 (.slice (some ⟨g, 0, none⟩) n c) bs.length (bcells bs) := World.ownsRow.alloc hown _
  rcases hown2.2 with ⟨h0, _⟩ | ⟨g2, cap, cur, hv, hg, hh, h5, h6, hs, ht⟩
  · cases h0
  · injection hv with hv1 hv2 hv3
    injection hv1 with hv1
    injection hv1 with hv1 hv4
    subst hv1 hv3
    by_cases hroom : n + m ≤ c
    · have hrr := run_append_room (P := Try.prog) (wr.alloc (.cells cs 5)) 22 22 5 i0 Try.underlying22 h1 g n c cur hh ⟨wr.heap.size, 0, none⟩ m m (bcells news) (by rw [bcells_length, hm, h3, Nat.mul_one]) hnews (bcells_one news) hroom (by rw [bcells_length, hs, h3, hm, Nat.mul_one, Nat.mul_one]; exact hroom)
      rw [hrr] at hr
      injection hr with e1 e2
      obtain ⟨A9, c9, e9, _, _, r9⟩ := ho.out hbb
      rw [← e1] at e9
      injection e9 with e9 _ _
      subst e9
      have hp := r9.part 0 n (by rw [List.length_append]; omega)
      rw [List.drop_zero, Nat.add_zero, List.take_append_of_le_length (by omega), List.take_of_length_le (by omega)] at hp
      exact hp
    · have hgr := run_append_grow (P := Try.prog) (wr.alloc (.cells cs 5)) 22 22 5 i0 _ Try.underlying22 h1 h2 ⟨g, 0, none⟩ n c (bcells bs) (by rw [bcells_length, hn, h3, Nat.mul_one]) (hown2.cells (g := g) rfl) ⟨wr.heap.size, 0, none⟩ m m (bcells news) (by rw [bcells_length, hm, h3, Nat.mul_one]) hnews (by omega) (by omega) (growslice_fits (by omega) (by rw [h4]; omega))
      rw [hgr] at hr
      injection hr with e1 e2
      have hold : OutIs B (wr.alloc (.cells cs 5)) (.slice (some ⟨g, 0, none⟩) n c) bs := hown2
      have hk := hold.below (w' := w') (by rw [← e2]; exact (show Below (wr.alloc (.cells cs 5)).heap.size (wr.alloc (.cells cs 5)) (wr.alloc (.cells cs 5)).drew from (Below.refl _ _).drew).alloc (Nat.le_refl _) _)
      obtain ⟨A9, c9, e9, _, _, r9⟩ := hk.out hbs
      injection e9 with e9 _ _
      subst e9
      rw [hn] at r9
      exact r9
/-- A walk's defects, in ascending order, between 10 and 14. -/
theorem defects_asc (t : Tour) : t.defects.Pairwise (· < ·) ∧ (∀ x ∈ t.defects, 10 ≤ x ∧ x ≤ 14) ∧ t.defects.length ≤ 5 := by
  unfold Tour.defects
  cases t.ext <;> cases t.hop <;> cases t.many <;> cases t.twice <;> cases t.lng <;> refine ⟨by decide, by decide, by decide⟩
/-- What holds of a walk wherever it stands. -/
structure TourOk (k : Int) (n : Nat) (t : Tour) : Prop where
  at_ : t.at_ ≤ n
  count : t.count ≤ 8
  start : t.count = 0 → t.proto = k ∧ t.at_ = 0
  frag : (0 < t.off) ↔ t.frag = 2
theorem exFrag_iff (hd : List Nat) : 0 < exOff hd ↔ exFrag hd = 2 := by
  unfold exFrag
  split
  · exact ⟨fun _ => rfl, fun _ => by omega⟩
  · split
    · exact ⟨fun h => by omega, fun h => by cases h⟩
    · exact ⟨fun h => by omega, fun h => by cases h⟩
theorem pass_ok {k : Int} {n q behind : Nat} {t : Tour} {hd : List Nat} (h : TourOk k n t) (h8 : t.count < 8) (hl : t.at_ + hd.length ≤ n) : TourOk k n (t.pass q hd behind) := by
  have hoff : 0 < (t.pass q hd behind).off ↔ (t.pass q hd behind).frag = 2 := by
    unfold Tour.pass Tour.mid
    split
    · exact h.frag
    · split
      · exact h.frag
      · split
        · exact exFrag_iff hd
        · exact h.frag
  exact ⟨hl, by show t.count + 1 ≤ 8; omega, fun h0 => by have : t.count + 1 = 0 := h0; omega, hoff⟩
theorem start_ok (k : Int) (n : Nat) : TourOk k n (Tour.start k) := ⟨Nat.zero_le _, Nat.zero_le _, fun _ => ⟨rfl, rfl⟩, ⟨fun h => absurd (show 0 < 0 from h) (Nat.lt_irrefl 0), fun h => by have h2 : (0 : Nat) = 2 := h; cases h2⟩⟩
theorem walkF_ok {k : Int} {n : Nat} {bs : List Nat} : ∀ (f : Nat) (t : Tour) (M : List (Nat × List Nat)), TourOk k n t → t.count + f = 9 → bs.length = n →
    TourOk k n (walkF n bs f t M).1 ∧ ((walkF n bs f t M).1.defects = [] → exKind (walkF n bs f t M).1.proto = false ∨ (walkF n bs f t M).1.frag = 2)
  | 0, t, M, h, hf, hl => by have := h.count; omega
  | f + 1, t, M, h, hf, hl => by
    cases hk : exKind t.proto with
    | false => rw [walkF_end hk]; exact ⟨h, fun _ => .inl hk⟩
    | true =>
      by_cases h8 : t.count = 8
      · rw [walkF_many hk h8]
        refine ⟨⟨h.at_, h.count, h.start, h.frag⟩, fun hd => ?_⟩
        have : 12 ∈ Tour.defects { t with many := true } := by unfold Tour.defects; simp
        rw [hd] at this
        cases this
      · cases hs : exSize t.proto (n - t.at_) (bs.getD (t.at_ + 1) 0) with
        | none =>
          rw [walkF_ext hk h8 hs]
          refine ⟨⟨h.at_, h.count, h.start, h.frag⟩, fun hd => ?_⟩
          have : 10 ∈ Tour.defects { t with ext := true } := by unfold Tour.defects; simp
          rw [hd] at this
          cases this
        | some m =>
          rw [walkF_pass hk h8 hs]
          have hm := exSize_some hs
          have hat := h.at_
          have hcnt := h.count
          have hdl : ((bs.drop t.at_).take m).length = m := by rw [List.length_take, List.length_drop]; omega
          have hp : TourOk k n (t.pass t.proto.toNat ((bs.drop t.at_).take m) (n - t.at_ - m)) := pass_ok h (by omega) (by rw [hdl]; omega)
          split
          · rename_i hfr
            exact ⟨hp, fun _ => .inr hfr⟩
          · exact walkF_ok f _ _ hp (by show t.count + 1 + f = 9; omega) hl
end Go.Proofs.Ytcjaidpmfjnhpaa
