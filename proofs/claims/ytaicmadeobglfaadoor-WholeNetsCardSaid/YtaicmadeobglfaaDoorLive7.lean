/-
  The examples of layer 7 come out as they must: the contract of weighbridgelaw07.live; equality of two prefixes.
-/
import Derived.Test.YtaicmadeobglfaaDoorPre10
import Derived.DeepKeys
namespace Go.Proofs.YtaicmadeobglfaaDoor
open Go.RowKit Go.Lib
set_option linter.unusedVariables false

theorem pparse_ok {l : List UInt8} {V : Int} {X : List Nat} {n : Nat} (h1 : wholeV (Lib.cut l [47]).1 = some (V, X)) (h2 : numOkM 3 (Lib.cut l [47]).2.1 = true) (h3 : numv (Lib.cut l [47]).2.1 = n) (h4 : pcheck V X n = 0) : pparse l = (pcells V X n, 0) := by
  unfold pparse
  rw [h1]
  simp only [h2, if_true, h3, h4]
theorem pparse_no {l : List UInt8} {V : Int} {X : List Nat} {n : Nat} {e : Int} (h1 : wholeV (Lib.cut l [47]).1 = some (V, X)) (h2 : numOkM 3 (Lib.cut l [47]).2.1 = true) (h3 : numv (Lib.cut l [47]).2.1 = n) (h4 : pcheck V X n = e) (h5 : e ≠ 0) : pparse l = (pcells 0 zero16 0, e) := by
  unfold pparse
  rw [h1]
  simp only [h2, if_true, h3, h4, if_neg h5]
theorem pparse_nodig {l : List UInt8} {V : Int} {X : List Nat} (h1 : wholeV (Lib.cut l [47]).1 = some (V, X)) (h2 : numOkM 3 (Lib.cut l [47]).2.1 = false) : pparse l = (pcells 0 zero16 0, 3) := by
  unfold pparse
  rw [h1]
  simp only [h2, Bool.false_eq_true, if_false]
theorem l7_p1 : pparse [49, 48, 46, 51, 50, 46, 48, 46, 48, 47, 49, 49] = (pcells 4 [10, 32, 0, 0, 0, 0, 0, 0, 0, 0, 0, 0, 0, 0, 0, 0] 11, 0) := pparse_ok (V := 4) (X := [10, 32, 0, 0, 0, 0, 0, 0, 0, 0, 0, 0, 0, 0, 0, 0]) (n := 11) (by decide +kernel) (by decide +kernel) (by decide +kernel) (by decide +kernel)
theorem l7_p2 : pparse [49, 48, 46, 51, 50, 46, 48, 46, 49, 47, 49, 49] = (pcells 0 zero16 0, 5) := pparse_no (V := 4) (X := [10, 32, 0, 1, 0, 0, 0, 0, 0, 0, 0, 0, 0, 0, 0, 0]) (n := 11) (by decide +kernel) (by decide +kernel) (by decide +kernel) (by decide +kernel) (by decide)
theorem l7_p3 : pparse [49, 48, 46, 48, 46, 48, 46, 48, 47, 51, 51] = (pcells 0 zero16 0, 1) := pparse_no (V := 4) (X := [10, 0, 0, 0, 0, 0, 0, 0, 0, 0, 0, 0, 0, 0, 0, 0]) (n := 33) (by decide +kernel) (by decide +kernel) (by decide +kernel) (by decide +kernel) (by decide)
theorem l7_p4 : pparse [49, 48, 46, 48, 46, 48, 46, 48] = (pcells 0 zero16 0, 3) := pparse_nodig (V := 4) (X := [10, 0, 0, 0, 0, 0, 0, 0, 0, 0, 0, 0, 0, 0, 0, 0]) (by decide +kernel) (by decide +kernel)
theorem l7_tq : pprint 6 [32, 1, 240, 0, 0, 0, 0, 0, 0, 0, 0, 0, 0, 0, 0, 0] 20 = ⟨#[50, 48, 48, 49, 58, 102, 48, 48, 48, 58, 58, 47, 50, 48]⟩ := ByteArray.ext (by decide +kernel)
theorem l7_ta : pprint 4 [10, 32, 0, 0, 0, 0, 0, 0, 0, 0, 0, 0, 0, 0, 0, 0] 12 = ⟨#[49, 48, 46, 51, 50, 46, 48, 46, 48, 47, 49, 50]⟩ := ByteArray.ext (by decide +kernel)
theorem l7_tb : pprint 4 [10, 48, 0, 0, 0, 0, 0, 0, 0, 0, 0, 0, 0, 0, 0, 0] 12 = ⟨#[49, 48, 46, 52, 56, 46, 48, 46, 48, 47, 49, 50]⟩ := ByteArray.ext (by decide +kernel)
theorem KV.new2 {w W : World} {L : List (TypeId × Nat × List Value)} (h : KV w L W) (t t' : TypeId) (cs ds : List Value) : KV w (L ++ [(t, W.heap.size, cs), (t', W.heap.size + 1, ds)]) ((W.alloc (.cells cs.toArray t)).alloc (.cells ds.toArray t')) := by
  have h2 := (h.new t cs).new t' ds
  rw [World.size_alloc, List.append_assoc] at h2
  exact h2
theorem guardpfx : NoGuard 24 := guard_of _ (by kernel_rfl)
theorem lit_of {k : Int} (h : -9223372036854775808 ≤ k ∧ k ≤ 9223372036854775807) : (Lit.int .i64 k).wf = true := by
  have h1 : IntKind.min .i64 ≤ k := h.1
  have h2 : k ≤ IntKind.max .i64 := h.2
  show (decide (IntKind.min .i64 ≤ k) && decide (k ≤ IntKind.max .i64)) = true
  rw [decide_eq_true h1, decide_eq_true h2]
  rfl
theorem pkey_int (d : Nat) {k : Int} (h : -9223372036854775808 ≤ k ∧ k ≤ 9223372036854775807) : Tryd.prog.keyLits (d + 1) 3 [.int .i64 k] = some [.int .i64 k] := by
  unfold Program.keyLits
  rw [Tryd.underlying3]
  simp [lit_of h]
theorem pkey_u8 (d : Nat) {k : Nat} (h : k < 256) : Tryd.prog.keyLits (d + 1) 5 [.int .u8 k] = some [.int .u8 k] := by
  unfold Program.keyLits
  rw [Tryd.underlying5]
  have hw : (Lit.int .u8 (k : Int)).wf = true := by
    have h1 : IntKind.min .u8 ≤ (k : Int) := Int.natCast_nonneg k
    have h2 : (k : Int) ≤ IntKind.max .u8 := by show (k : Int) ≤ 255; omega
    show (decide (IntKind.min .u8 ≤ (k : Int)) && decide ((k : Int) ≤ IntKind.max .u8)) = true
    rw [decide_eq_true h1, decide_eq_true h2]
    rfl
  simp [hw]
theorem pcells_a16 : Tryd.prog.cellsOf 22 = 16 := by kernel_rfl
theorem pcells_u8 : Tryd.prog.cellsOf 5 = 1 := by kernel_rfl
theorem pcells_int : Tryd.prog.cellsOf 3 = 1 := by kernel_rfl
theorem pcells_pfx : Tryd.prog.cellsOf 24 = 18 := by kernel_rfl
def alits (X : List Nat) : List Lit := X.map fun x : Nat => Lit.int .u8 (x : Int)
theorem pkey_a16 (d : Nat) {X : List Nat} (hX : Adr X) : Tryd.prog.keyLits (d + 2) 22 (bcells X) = some (alits X) := by
  obtain ⟨a, b, c, e, f, g, h, i, j, k, l, m, n, o, p, q, rfl⟩ := split16 hX.len
  have hb := hX.lt
  unfold Program.keyLits bcells alits
  rw [Tryd.underlying22]
  simp at hb
  obtain ⟨h0, h1, h2, h3, h4, h5, h6, h7, h8, h9, h10, h11, h12, h13, h14, h15⟩ := hb
  simp [pcells_a16, pcells_u8, List.range_succ, pkey_u8 d h0, pkey_u8 d h1, pkey_u8 d h2, pkey_u8 d h3, pkey_u8 d h4, pkey_u8 d h5, pkey_u8 d h6, pkey_u8 d h7, pkey_u8 d h8, pkey_u8 d h9, pkey_u8 d h10, pkey_u8 d h11, pkey_u8 d h12, pkey_u8 d h13, pkey_u8 d h14, pkey_u8 d h15]
theorem key_pfx {V n : Int} {X : List Nat} (hX : Adr X) (hV : -9223372036854775808 ≤ V ∧ V ≤ 9223372036854775807) (hn : -9223372036854775808 ≤ n ∧ n ≤ 9223372036854775807) : Tryd.prog.keyLits 4 24 (pcells V X n) = some (Lit.int .i64 V :: alits X ++ [Lit.int .i64 n]) := by
  have k0 := pkey_int 2 hV
  have k1 := pkey_a16 1 hX
  have k2 := pkey_int 2 hn
  unfold pcells
  obtain ⟨Y, hY⟩ : ∃ Y, Y = bcells X := ⟨_, rfl⟩
  have hYl : Y.length = 16 := by rw [hY, bcells_length, hX.len]
  rw [← hY] at k1 ⊢
  have d5 : List.take 16 (Y ++ [Value.int .i64 n]) = Y := List.take_left' hYl
  unfold Program.keyLits
  rw [Tryd.underlying24]
  simp [pcells_pfx, pcells_a16, pcells_int, k0, k1, k2, hYl, d5]
theorem alits_inj {X Y : List Nat} (h : alits X = alits Y) : X = Y := by
  have h2 := congrArg (List.map fun l : Lit => match l with | .int _ v => v.toNat | _ => 0) h
  unfold alits at h2
  simpa [List.map_map, Function.comp_def] using h2
/-- Equality of two prefixes. -/
theorem pfx_same {V n V' n' : Int} {X X' : List Nat} (hX : Adr X) (hX' : Adr X') (hV : -9223372036854775808 ≤ V ∧ V ≤ 9223372036854775807) (hn : -9223372036854775808 ≤ n ∧ n ≤ 9223372036854775807) (hV' : -9223372036854775808 ≤ V' ∧ V' ≤ 9223372036854775807) (hn' : -9223372036854775808 ≤ n' ∧ n' ≤ 9223372036854775807) (w : World) :
    (Op.equalIn 10000 24 (.agg (pcells V X n).toArray) (.agg (pcells V' X' n').toArray)).run Tryd.prog w = .ok (decide (V = V' ∧ X = X' ∧ n = n')) w := by
  have hl := key_pfx hX hV hn
  have hl' := key_pfx hX' hV' hn'
  have hf : ∀ (U k : Int) (Y : List Nat), Y.length = 16 → (Value.agg (pcells U Y k).toArray).formed Tryd.prog 24 = true := fun U k Y hY => by simp [Value.formed, Tryd.underlying24, pcells_pfx, (pc_parts U k hY).len]
  obtain ⟨r, hr, hi⟩ := run_equalIn_deep (P := Tryd.prog) 9990 10 24 (by kernel_rfl) w 4 4 (.agg (pcells V X n).toArray) (.agg (pcells V' X' n').toArray) _ _ (hf V n X hX.len) (hf V' n' X' hX'.len) (by simpa [Value.cells] using hl) (by simpa [Value.cells] using hl')
  have hiff : r = true ↔ (V = V' ∧ X = X' ∧ n = n') := by
    rw [hi]
    constructor
    · intro h
      injection h with h1 h2
      injection h1 with _ h1
      have hlen : (alits X).length = (alits X').length := by unfold alits; rw [List.length_map, List.length_map, hX.len, hX'.len]
      obtain ⟨h3, h4⟩ := List.append_inj h2 hlen
      injection h4 with h4 _
      injection h4 with _ h4
      exact ⟨h1, alits_inj h3, h4⟩
    · rintro ⟨rfl, rfl, rfl⟩; rfl
  have e : r = decide (V = V' ∧ X = X' ∧ n = n') := by
    cases r
    · rw [eq_comm, decide_eq_false_iff_not]; intro h; exact absurd (hiff.2 h) (by decide)
    · rw [eq_comm, decide_eq_true_iff]; exact hiff.1 rfl
  rw [← e]
  exact hr
theorem l7_halves (w : World) : Calls Tryd.prog 5 #[.agg (pcells 4 [10, 32, 0, 0, 0, 0, 0, 0, 0, 0, 0, 0, 0, 0, 0, 0] 11).toArray] w fun e w' => e = .returned (.tuple #[.agg (pcells 4 [10, 32, 0, 0, 0, 0, 0, 0, 0, 0, 0, 0, 0, 0, 0, 0] 12).toArray, .agg (pcells 4 [10, 48, 0, 0, 0, 0, 0, 0, 0, 0, 0, 0, 0, 0, 0, 0] 12).toArray, .bool true]) ∧ Below w.heap.size w w' := by
  refine (phalves_any 4 [10, 32, 0, 0, 0, 0, 0, 0, 0, 0, 0, 0, 0, 0, 0, 0] 11 w ⟨rfl, by decide⟩).mono ?_
  rintro e w' ⟨rfl, hb⟩
  refine ⟨?_, hb⟩
  have e1 : phalfB 4 [10, 32, 0, 0, 0, 0, 0, 0, 0, 0, 0, 0, 0, 0, 0, 0] 11 = true := by decide +kernel
  have e2 : highB [10, 32, 0, 0, 0, 0, 0, 0, 0, 0, 0, 0, 0, 0, 0, 0] 11 = [10, 48, 0, 0, 0, 0, 0, 0, 0, 0, 0, 0, 0, 0, 0, 0] := by decide +kernel
  unfold plow phigh
  rw [e1]
  show Ending.returned (.tuple #[.agg (pcells 4 [10, 32, 0, 0, 0, 0, 0, 0, 0, 0, 0, 0, 0, 0, 0, 0] 12).toArray, .agg (pcells 4 (highB [10, 32, 0, 0, 0, 0, 0, 0, 0, 0, 0, 0, 0, 0, 0, 0] 11) 12).toArray, .bool true]) = _
  rw [e2]
end Go.Proofs.YtaicmadeobglfaaDoor
