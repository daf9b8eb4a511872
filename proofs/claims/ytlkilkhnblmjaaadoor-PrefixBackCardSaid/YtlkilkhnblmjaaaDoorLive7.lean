/-
  The examples of layer 7 come out as they must: the contract of weighbridgelaw07.live; equality of two prefixes.
-/
import Derived.Test.YtlkilkhnblmjaaaDoorPre10
import Derived.DeepKeys
namespace Go.Proofs.YtlkilkhnblmjaaaDoor
open Go.RowKit Go.Lib
set_option linter.unusedVariables false

theorem pparse_ok {l : List UInt8} {V : Int} {X : List Nat} {n : Nat} (h1 : wholeV (Lib.cut l [47]).1 = some (V, X)) (h2 : numOkM 3 (Lib.cut l [47]).2.1 = true) (h3 : numv (Lib.cut l [47]).2.1 = n) (h4 : pcheck V X n = 0) : pparse l = (pcells V X n, 0) := by
  unfold pparse
  rw [h1]
  simp only [h2, if_true, h3, h4]
theorem pparse_no {l : List UInt8} {V : Int} {X : List Nat} {n : Nat} {e : Int} (h1 : wholeV (Lib.cut l [47]).1 = some (V, X)) (h2 : numOkM 3 (Lib.cut l [47]).2.1 = true) (h3 : numv (Lib.cut l [47]).2.1 = n) (h4 : pcheck V X n = e) (h5 : e ≠ 0) : pparse l = (pcells 0 zero16 0, e) := by
  unfold pparse
  rw [h1]
  simp only [h2, if_true, h3, h4, if_neg h5]
theorem pparse_nodig {l : List UInt8} {V : Int} {X : List Nat} (h1 : wholeV (Lib.cut l [47]).1 = some (V, X)) (h2 : numOkM 3 (Lib.cut l [47]).2.1 = false) : pparse l = (pcells 0 zero16 0, 3) := by
  unfold pparse
  rw [h1]
  simp only [h2, Bool.false_eq_true, if_false]
theorem l7_p1 : pparse [49, 48, 46, 51, 50, 46, 48, 46, 48, 47, 49, 49] = (pcells 4 [10, 32, 0, 0, 0, 0, 0, 0, 0, 0, 0, 0, 0, 0, 0, 0] 11, 0) := pparse_ok (V := 4) (X := [10, 32, 0, 0, 0, 0, 0, 0, 0, 0, 0, 0, 0, 0, 0, 0]) (n := 11) (by decide +kernel) (by decide +kernel) (by decide +kernel) (by decide +kernel)
theorem l7_p2 : pparse [49, 48, 46, 51, 50, 46, 48, 46, 49, 47, 49, 49] = (pcells 0 zero16 0, 5) := pparse_no (V := 4) (X := [10, 32, 0, 1, 0, 0, 0, 0, 0, 0, 0, 0, 0, 0, 0, 0]) (n := 11) (by decide +kernel) (by decide +kernel) (by decide +kernel) (by decide +kernel) (by decide)
theorem l7_p3 : pparse [49, 48, 46, 48, 46, 48, 46, 48, 47, 51, 51] = (pcells 0 zero16 0, 1) := pparse_no (V := 4) (X := [10, 0, 0, 0, 0, 0, 0, 0, 0, 0, 0, 0, 0, 0, 0, 0]) (n := 33) (by decide +kernel) (by decide +kernel) (by decide +kernel) (by decide +kernel) (by decide)
theorem l7_p4 : pparse [49, 48, 46, 48, 46, 48, 46, 48] = (pcells 0 zero16 0, 3) := pparse_nodig (V := 4) (X := [10, 0, 0, 0, 0, 0, 0, 0, 0, 0, 0, 0, 0, 0, 0, 0]) (by decide +kernel) (by decide +kernel)
theorem l7_tq : pprint 6 [32, 1, 240, 0, 0, 0, 0, 0, 0, 0, 0, 0, 0, 0, 0, 0] 20 = ⟨#[50, 48, 48, 49, 58, 102, 48, 48, 48, 58, 58, 47, 50, 48]⟩ := ByteArray.ext (by decide +kernel)
theorem l7_ta : pprint 4 [10, 32, 0, 0, 0, 0, 0, 0, 0, 0, 0, 0, 0, 0, 0, 0] 12 = ⟨#[49, 48, 46, 51, 50, 46, 48, 46, 48, 47, 49, 50]⟩ := ByteArray.ext (by decide +kernel)
theorem l7_tb : pprint 4 [10, 48, 0, 0, 0, 0, 0, 0, 0, 0, 0, 0, 0, 0, 0, 0] 12 = ⟨#[49, 48, 46, 52, 56, 46, 48, 46, 48, 47, 49, 50]⟩ := ByteArray.ext (by decide +kernel)
theorem KV.new2 {w W : World} {L : List (TypeId × Nat × List Value)} (h : KV w L W) (t t' : TypeId) (cs ds : List Value) : KV w (L ++ [(t, W.heap.size, cs), (t', W.heap.size + 1, ds)]) ((W.alloc (.cells cs.toArray t)).alloc (.cells ds.toArray t')) := by
  have h2 := (h.new t cs).new t' ds
  rw [World.size_alloc, List.append_assoc] at h2
  exact h2
theorem guardpfx : NoGuard 24 := guard_of _ (by kernel_rfl)
theorem lit_of {k : Int} (h : -9223372036854775808 ≤ k ∧ k ≤ 9223372036854775807) : (Lit.int .i64 k).wf = true := by
  have h1 : IntKind.min .i64 ≤ k := h.1
  have h2 : k ≤ IntKind.max .i64 := h.2
  show (decide (IntKind.min .i64 ≤ k) && decide (k ≤ IntKind.max .i64)) = true
  rw [decide_eq_true h1, decide_eq_true h2]
  rfl
theorem pkey_int (d : Nat) {k : Int} (h : -9223372036854775808 ≤ k ∧ k ≤ 9223372036854775807) : Tryd.prog.keyLits (d + 1) 3 [.int .i64 k] = some [.int .i64 k] := by
  unfold Program.keyLits
  rw [Tryd.underlying3]
  simp [lit_of h]
theorem pkey_u8 (d : Nat) {k : Nat} (h : k < 256) : Tryd.prog.keyLits (d + 1) 5 [.int .u8 k] = some [.int .u8 k] := by
  unfold Program.keyLits
  rw [Tryd.underlying5]
  have hw : (Lit.int .u8 (k : Int)).wf = true := by
    have h1 : IntKind.min .u8 ≤ (k : Int) := Int.natCast_nonneg k
    have h2 : (k : Int) ≤ IntKind.max .u8 := by show (k : Int) ≤ 255; omega
    show (decide (IntKind.min .u8 ≤ (k : Int)) && decide ((k : Int) ≤ IntKind.max .u8)) = true
    rw [decide_eq_true h1, decide_eq_true h2]
    rfl
  simp [hw]
theorem pcells_a16 : Tryd.prog.cellsOf 22 = 16 := by kernel_rfl
theorem pcells_u8 : Tryd.prog.cellsOf 5 = 1 := by kernel_rfl
theorem pcells_int : Tryd.prog.cellsOf 3 = 1 := by kernel_rfl
theorem pcells_pfx : Tryd.prog.cellsOf 24 = 18 := by kernel_rfl
def alits (X : List Nat) : List Lit := X.map fun x : Nat => Lit.int .u8 (x : Int)
theorem pkey_a16 (d : Nat) {X : List Nat} (hX : Adr X) : Tryd.prog.keyLits (d + 2) 22 (bcells X) = some (alits X) := by
  obtain ⟨a, b, c, e, f, g, h, i, j, k, l, m, n, o, p, q, rfl⟩ := split16 hX.len
  have hb := hX.lt
  unfold Program.keyLits bcells alits
  rw [Tryd.underlying22]
  simp at hb
  obtain ⟨h0, h1, h2, h3, h4, h5, h6, h7, h8, h9, h10, h11, h12, h13, h14, h15⟩ := hb
  simp [pcells_a16, pcells_u8, List.range_succ, pkey_u8 d h0, pkey_u8 d h1, pkey_u8 d h2, pkey_u8 d h3, pkey_u8 d h4, pkey_u8 d h5, pkey_u8 d h6, pkey_u8 d h7, pkey_u8 d h8, pkey_u8 d h9, pkey_u8 d h10, pkey_u8 d h11, pkey_u8 d h12, pkey_u8 d h13, pkey_u8 d h14, pkey_u8 d h15]
theorem key_pfx {V n : Int} {X : List Nat} (hX : Adr X) (hV : -9223372036854775808 ≤ V ∧ V ≤ 9223372036854775807) (hn : -9223372036854775808 ≤ n ∧ n ≤ 9223372036854775807) : Tryd.prog.keyLits 4 24 (pcells V X n) = some (Lit.int .i64 V :: alits X ++ [Lit.int .i64 n]) := by
  have k0 := pkey_int 2 hV
  have k1 := pkey_a16 1 hX
  have k2 := pkey_int 2 hn
  unfold pcells
  obtain ⟨Y, hY⟩ : ∃ Y, Y = bcells X := ⟨_, rfl⟩
  have hYl : Y.length = 16 := by rw [hY, bcells_length, hX.len]
  rw [← hY] at k1 ⊢
  have d5 : List.take 16 (Y ++ [Value.int .i64 n]) = Y := List.take_left' hYl
  unfold Program.keyLits
  rw [Tryd.underlying24]
  simp [pcells_pfx, pcells_a16, pcells_int, k0, k1, k2, hYl, d5]
theorem alits_inj {X Y : List Nat} (h : alits X = alits Y) : X = Y := by
  have h2 := congrArg (List.map fun l : Lit => match l with | .int _ v => v.toNat | _ => 0) h
  unfold alits at h2
  simpa [List.map_map, Function.comp_def] using h2
/-- Equality of two prefixes. -/
theorem pfx_same {V n V' n' : Int} {X X' : List Nat} (hX : Adr X) (hX' : Adr X') (hV : -9223372036854775808 ≤ V ∧ V ≤ 9223372036854775807) (hn : -9223372036854775808 ≤ n ∧ n ≤ 9223372036854775807) (hV' : -9223372036854775808 ≤ V' ∧ V' ≤ 9223372036854775807) (hn' : -9223372036854775808 ≤ n' ∧ n' ≤ 9223372036854775807) (w : World) :
    (Op.equalIn 10000 24 (.agg (pcells V X n).toArray) (.agg (pcells V' X' n').toArray)).run Tryd.prog w = .ok (decide (V = V' ∧ X = X' ∧ n = n')) w := by
  have hl := key_pfx hX hV hn
  have hl' := key_pfx hX' hV' hn'
  have hf : ∀ (U k : Int) (Y : List Nat), Y.length = 16 → (Value.agg (pcells U Y k).toArray).formed Tryd.prog 24 = true := fun U k Y hY => by simp [Value.formed, Tryd.underlying24, pcells_pfx, (pc_parts U k hY).len]
  obtain ⟨r, hr, hi⟩ := run_equalIn_deep (P := Tryd.prog) 9990 10 24 (by kernel_rfl) w 4 4 (.agg (pcells V X n).toArray) (.agg (pcells V' X' n').toArray) _ _ (hf V n X hX.len) (hf V' n' X' hX'.len) (by simpa [Value.cells] using hl) (by simpa [Value.cells] using hl')
  have hiff : r = true ↔ (V = V' ∧ X = X' ∧ n = n') := by
    rw [hi]
    constructor
    · intro h
      injection h with h1 h2
      injection h1 with _ h1
      have hlen : (alits X).length = (alits X').length := by unfold alits; rw [List.length_map, List.length_map, hX.len, hX'.len]
      obtain ⟨h3, h4⟩ := List.append_inj h2 hlen
      injection h4 with h4 _
      injection h4 with _ h4
      exact ⟨h1, alits_inj h3, h4⟩
    · rintro ⟨rfl, rfl, rfl⟩; rfl
  have e : r = decide (V = V' ∧ X = X' ∧ n = n') := by
    cases r
    · rw [eq_comm, decide_eq_false_iff_not]; intro h; exact absurd (hiff.2 h) (by decide)
    · rw [eq_comm, decide_eq_true_iff]; exact hiff.1 rfl
  rw [← e]
  exact hr
theorem l7_make (w : World) : Calls Tryd.prog 6 #[.int .i64 6, .agg #[.int .u8 32, .int .u8 1, .int .u8 255, .int .u8 255, .int .u8 0, .int .u8 0, .int .u8 0, .int .u8 0, .int .u8 0, .int .u8 0, .int .u8 0, .int .u8 0, .int .u8 0, .int .u8 0, .int .u8 0, .int .u8 0], .int .i64 20] w fun e w' => e = .returned (.tuple #[.agg (pcells 6 [32, 1, 240, 0, 0, 0, 0, 0, 0, 0, 0, 0, 0, 0, 0, 0] 20).toArray, .int .i64 0]) ∧ Below w.heap.size w w' := by
  refine (show Calls _ _ #[.int .i64 6, .agg (bcells [32, 1, 255, 255, 0, 0, 0, 0, 0, 0, 0, 0, 0, 0, 0, 0]).toArray, .int .i64 20] _ _ from pmake_any 6 [32, 1, 255, 255, 0, 0, 0, 0, 0, 0, 0, 0, 0, 0, 0, 0] 20 w ⟨rfl, by decide⟩).mono ?_
  rintro e w' ⟨rfl, hb⟩
  refine ⟨?_, hb⟩
  have e1 : keepB [32, 1, 255, 255, 0, 0, 0, 0, 0, 0, 0, 0, 0, 0, 0, 0] 20 = [32, 1, 240, 0, 0, 0, 0, 0, 0, 0, 0, 0, 0, 0, 0, 0] := by decide +kernel
  show Ending.returned (.tuple #[.agg (pcells 6 (keepB [32, 1, 255, 255, 0, 0, 0, 0, 0, 0, 0, 0, 0, 0, 0, 0] 20) 20).toArray, .int .i64 0]) = _
  rw [e1]
theorem l7_halves (w : World) : Calls Tryd.prog 8 #[.agg (pcells 4 [10, 32, 0, 0, 0, 0, 0, 0, 0, 0, 0, 0, 0, 0, 0, 0] 11).toArray] w fun e w' => e = .returned (.tuple #[.agg (pcells 4 [10, 32, 0, 0, 0, 0, 0, 0, 0, 0, 0, 0, 0, 0, 0, 0] 12).toArray, .agg (pcells 4 [10, 48, 0, 0, 0, 0, 0, 0, 0, 0, 0, 0, 0, 0, 0, 0] 12).toArray, .bool true]) ∧ Below w.heap.size w w' := by
  refine (phalves_any 4 [10, 32, 0, 0, 0, 0, 0, 0, 0, 0, 0, 0, 0, 0, 0, 0] 11 w ⟨rfl, by decide⟩).mono ?_
  rintro e w' ⟨rfl, hb⟩
  refine ⟨?_, hb⟩
  have e1 : phalfB 4 [10, 32, 0, 0, 0, 0, 0, 0, 0, 0, 0, 0, 0, 0, 0, 0] 11 = true := by decide +kernel
  have e2 : highB [10, 32, 0, 0, 0, 0, 0, 0, 0, 0, 0, 0, 0, 0, 0, 0] 11 = [10, 48, 0, 0, 0, 0, 0, 0, 0, 0, 0, 0, 0, 0, 0, 0] := by decide +kernel
  unfold plow phigh
  rw [e1]
  show Ending.returned (.tuple #[.agg (pcells 4 [10, 32, 0, 0, 0, 0, 0, 0, 0, 0, 0, 0, 0, 0, 0, 0] 12).toArray, .agg (pcells 4 (highB [10, 32, 0, 0, 0, 0, 0, 0, 0, 0, 0, 0, 0, 0, 0, 0] 11) 12).toArray, .bool true]) = _
  rw [e2]
set_option maxRecDepth 10000 in
set_option maxHeartbeats 12800000 in
theorem live7 (w : World) (hT : Six w) : Calls Tryd.prog 10 #[] w fun e w' => e = .returned (.bool true) ∧ Below w.heap.size w w' := by
  obtain ⟨P0, hP⟩ : ∃ R, R = pcells 4 [10, 32, 0, 0, 0, 0, 0, 0, 0, 0, 0, 0, 0, 0, 0, 0] 11 := ⟨_, rfl⟩
  have HP : Hid (PcParts 4 [10, 32, 0, 0, 0, 0, 0, 0, 0, 0, 0, 0, 0, 0, 0, 0] 11 P0) := by rw [hP]; exact pc_parts 4 11 rfl
  obtain ⟨Q0, hQ⟩ : ∃ R, R = pcells 6 [32, 1, 240, 0, 0, 0, 0, 0, 0, 0, 0, 0, 0, 0, 0, 0] 20 := ⟨_, rfl⟩
  have HQ : Hid (PcParts 6 [32, 1, 240, 0, 0, 0, 0, 0, 0, 0, 0, 0, 0, 0, 0, 0] 20 Q0) := by rw [hQ]; exact pc_parts 6 20 rfl
  obtain ⟨A0, hA⟩ : ∃ R, R = pcells 4 [10, 32, 0, 0, 0, 0, 0, 0, 0, 0, 0, 0, 0, 0, 0, 0] 12 := ⟨_, rfl⟩
  have HA : Hid (PcParts 4 [10, 32, 0, 0, 0, 0, 0, 0, 0, 0, 0, 0, 0, 0, 0, 0] 12 A0) := by rw [hA]; exact pc_parts 4 12 rfl
  obtain ⟨B0, hB⟩ : ∃ R, R = pcells 4 [10, 48, 0, 0, 0, 0, 0, 0, 0, 0, 0, 0, 0, 0, 0, 0] 12 := ⟨_, rfl⟩
  have HB : Hid (PcParts 4 [10, 48, 0, 0, 0, 0, 0, 0, 0, 0, 0, 0, 0, 0, 0, 0] 12 B0) := by rw [hB]; exact pc_parts 4 12 rfl
  obtain ⟨Z0, hZ⟩ : ∃ R, R = pcells 0 zero16 0 := ⟨_, rfl⟩
  have HZ : Hid (PcParts 0 zero16 0 Z0) := by rw [hZ]; exact pc_parts 0 0 rfl
  have C1 : Hid (∀ w, Six w → Calls Tryd.prog 20 #[.string ⟨#[49, 48, 46, 51, 50, 46, 48, 46, 48, 47, 49, 49]⟩] w fun e w' => e = .returned (.tuple #[.agg P0.toArray, .int .i64 0]) ∧ Below w.heap.size w w') := by
      rw [hP]; exact fun w h => (pparse_any ⟨#[49, 48, 46, 51, 50, 46, 48, 46, 48, 47, 49, 49]⟩ w (by decide) h).mono fun e w' g => ⟨by rw [g.1]; show Ending.returned (.tuple #[.agg (pparse [49, 48, 46, 51, 50, 46, 48, 46, 48, 47, 49, 49]).1.toArray, .int .i64 (pparse [49, 48, 46, 51, 50, 46, 48, 46, 48, 47, 49, 49]).2]) = _; rw [l7_p1], g.2⟩
  have C2 : Hid (∀ w, Six w → Calls Tryd.prog 20 #[.string ⟨#[49, 48, 46, 51, 50, 46, 48, 46, 49, 47, 49, 49]⟩] w fun e w' => e = .returned (.tuple #[.agg Z0.toArray, .int .i64 5]) ∧ Below w.heap.size w w') := by
      rw [hZ]; exact fun w h => (pparse_any ⟨#[49, 48, 46, 51, 50, 46, 48, 46, 49, 47, 49, 49]⟩ w (by decide) h).mono fun e w' g => ⟨by rw [g.1]; show Ending.returned (.tuple #[.agg (pparse [49, 48, 46, 51, 50, 46, 48, 46, 49, 47, 49, 49]).1.toArray, .int .i64 (pparse [49, 48, 46, 51, 50, 46, 48, 46, 49, 47, 49, 49]).2]) = _; rw [l7_p2], g.2⟩
  have C3 : Hid (∀ w, Six w → Calls Tryd.prog 20 #[.string ⟨#[49, 48, 46, 48, 46, 48, 46, 48, 47, 51, 51]⟩] w fun e w' => e = .returned (.tuple #[.agg Z0.toArray, .int .i64 1]) ∧ Below w.heap.size w w') := by
      rw [hZ]; exact fun w h => (pparse_any ⟨#[49, 48, 46, 48, 46, 48, 46, 48, 47, 51, 51]⟩ w (by decide) h).mono fun e w' g => ⟨by rw [g.1]; show Ending.returned (.tuple #[.agg (pparse [49, 48, 46, 48, 46, 48, 46, 48, 47, 51, 51]).1.toArray, .int .i64 (pparse [49, 48, 46, 48, 46, 48, 46, 48, 47, 51, 51]).2]) = _; rw [l7_p3], g.2⟩
  have C4 : Hid (∀ w, Six w → Calls Tryd.prog 20 #[.string ⟨#[49, 48, 46, 48, 46, 48, 46, 48]⟩] w fun e w' => e = .returned (.tuple #[.agg Z0.toArray, .int .i64 3]) ∧ Below w.heap.size w w') := by
      rw [hZ]; exact fun w h => (pparse_any ⟨#[49, 48, 46, 48, 46, 48, 46, 48]⟩ w (by decide) h).mono fun e w' g => ⟨by rw [g.1]; show Ending.returned (.tuple #[.agg (pparse [49, 48, 46, 48, 46, 48, 46, 48]).1.toArray, .int .i64 (pparse [49, 48, 46, 48, 46, 48, 46, 48]).2]) = _; rw [l7_p4], g.2⟩
  have C5 : Hid (∀ w, Six w → Calls Tryd.prog 6 #[.int .i64 6, .agg #[.int .u8 32, .int .u8 1, .int .u8 255, .int .u8 255, .int .u8 0, .int .u8 0, .int .u8 0, .int .u8 0, .int .u8 0, .int .u8 0, .int .u8 0, .int .u8 0, .int .u8 0, .int .u8 0, .int .u8 0, .int .u8 0], .int .i64 20] w fun e w' => e = .returned (.tuple #[.agg Q0.toArray, .int .i64 0]) ∧ Below w.heap.size w w') := by
      rw [hQ]; exact fun w h => l7_make w
  have C6 : Hid (∀ w, Six w → Calls Tryd.prog 8 #[.agg P0.toArray] w fun e w' => e = .returned (.tuple #[.agg A0.toArray, .agg B0.toArray, .bool true]) ∧ Below w.heap.size w w') := by
      rw [hP, hA, hB]; exact fun w h => l7_halves w
  have CTq : Hid (∀ w, Six w → Calls Tryd.prog 21 #[.agg Q0.toArray] w fun e w' => e = .returned (.string ⟨#[50, 48, 48, 49, 58, 102, 48, 48, 48, 58, 58, 47, 50, 48]⟩) ∧ Below w.heap.size w w') := by
      rw [hQ]; exact fun w h => (pprint_any 6 [32, 1, 240, 0, 0, 0, 0, 0, 0, 0, 0, 0, 0, 0, 0, 0] 20 w ⟨rfl, by decide⟩ h).mono fun e w' g => ⟨by rw [g.1, l7_tq], g.2⟩
  have CTa : Hid (∀ w, Six w → Calls Tryd.prog 21 #[.agg A0.toArray] w fun e w' => e = .returned (.string ⟨#[49, 48, 46, 51, 50, 46, 48, 46, 48, 47, 49, 50]⟩) ∧ Below w.heap.size w w') := by
      rw [hA]; exact fun w h => (pprint_any 4 [10, 32, 0, 0, 0, 0, 0, 0, 0, 0, 0, 0, 0, 0, 0, 0] 12 w ⟨rfl, by decide⟩ h).mono fun e w' g => ⟨by rw [g.1, l7_ta], g.2⟩
  have CTb : Hid (∀ w, Six w → Calls Tryd.prog 21 #[.agg B0.toArray] w fun e w' => e = .returned (.string ⟨#[49, 48, 46, 52, 56, 46, 48, 46, 48, 47, 49, 50]⟩) ∧ Below w.heap.size w w') := by
      rw [hB]; exact fun w h => (pprint_any 4 [10, 48, 0, 0, 0, 0, 0, 0, 0, 0, 0, 0, 0, 0, 0, 0] 12 w ⟨rfl, by decide⟩ h).mono fun e w' g => ⟨by rw [g.1, l7_tb], g.2⟩
  have CH1 : Hid (∀ w, Six w → Calls Tryd.prog 16 #[.agg P0.toArray, .int .i64 4, .agg #[.int .u8 10, .int .u8 63, .int .u8 1, .int .u8 0, .int .u8 0, .int .u8 0, .int .u8 0, .int .u8 0, .int .u8 0, .int .u8 0, .int .u8 0, .int .u8 0, .int .u8 0, .int .u8 0, .int .u8 0, .int .u8 0]] w fun e w' => e = .returned (.bool true) ∧ Below w.heap.size w w') := by
      rw [hP]; exact fun w h => (show Calls _ _ #[_, _, .agg (bcells [10, 63, 1, 0, 0, 0, 0, 0, 0, 0, 0, 0, 0, 0, 0, 0]).toArray] _ _ from phas_any 4 [10, 32, 0, 0, 0, 0, 0, 0, 0, 0, 0, 0, 0, 0, 0, 0] 11 4 [10, 63, 1, 0, 0, 0, 0, 0, 0, 0, 0, 0, 0, 0, 0, 0] w ⟨rfl, by decide⟩ ⟨rfl, by decide⟩).mono fun e w' g => ⟨by rw [g.1, show phas 4 [10, 32, 0, 0, 0, 0, 0, 0, 0, 0, 0, 0, 0, 0, 0, 0] 11 4 [10, 63, 1, 0, 0, 0, 0, 0, 0, 0, 0, 0, 0, 0, 0, 0] = true from by decide +kernel], g.2⟩
  have CH2 : Hid (∀ w, Six w → Calls Tryd.prog 16 #[.agg P0.toArray, .int .i64 4, .agg #[.int .u8 10, .int .u8 64, .int .u8 0, .int .u8 0, .int .u8 0, .int .u8 0, .int .u8 0, .int .u8 0, .int .u8 0, .int .u8 0, .int .u8 0, .int .u8 0, .int .u8 0, .int .u8 0, .int .u8 0, .int .u8 0]] w fun e w' => e = .returned (.bool false) ∧ Below w.heap.size w w') := by
      rw [hP]; exact fun w h => (show Calls _ _ #[_, _, .agg (bcells [10, 64, 0, 0, 0, 0, 0, 0, 0, 0, 0, 0, 0, 0, 0, 0]).toArray] _ _ from phas_any 4 [10, 32, 0, 0, 0, 0, 0, 0, 0, 0, 0, 0, 0, 0, 0, 0] 11 4 [10, 64, 0, 0, 0, 0, 0, 0, 0, 0, 0, 0, 0, 0, 0, 0] w ⟨rfl, by decide⟩ ⟨rfl, by decide⟩).mono fun e w' g => ⟨by rw [g.1, show phas 4 [10, 32, 0, 0, 0, 0, 0, 0, 0, 0, 0, 0, 0, 0, 0, 0] 11 4 [10, 64, 0, 0, 0, 0, 0, 0, 0, 0, 0, 0, 0, 0, 0, 0] = false from by decide +kernel], g.2⟩
  have CH3 : Hid (∀ w, Six w → Calls Tryd.prog 16 #[.agg P0.toArray, .int .i64 6, .agg #[.int .u8 10, .int .u8 63, .int .u8 0, .int .u8 0, .int .u8 0, .int .u8 0, .int .u8 0, .int .u8 0, .int .u8 0, .int .u8 0, .int .u8 0, .int .u8 0, .int .u8 0, .int .u8 0, .int .u8 0, .int .u8 0]] w fun e w' => e = .returned (.bool false) ∧ Below w.heap.size w w') := by
      rw [hP]; exact fun w h => (show Calls _ _ #[_, _, .agg (bcells [10, 63, 0, 0, 0, 0, 0, 0, 0, 0, 0, 0, 0, 0, 0, 0]).toArray] _ _ from phas_any 4 [10, 32, 0, 0, 0, 0, 0, 0, 0, 0, 0, 0, 0, 0, 0, 0] 11 6 [10, 63, 0, 0, 0, 0, 0, 0, 0, 0, 0, 0, 0, 0, 0, 0] w ⟨rfl, by decide⟩ ⟨rfl, by decide⟩).mono fun e w' g => ⟨by rw [g.1, show phas 4 [10, 32, 0, 0, 0, 0, 0, 0, 0, 0, 0, 0, 0, 0, 0, 0] 11 6 [10, 63, 0, 0, 0, 0, 0, 0, 0, 0, 0, 0, 0, 0, 0, 0] = false from by decide +kernel], g.2⟩
  have CW1 : Hid (∀ w, Six w → Calls Tryd.prog 18 #[.agg B0.toArray, .agg P0.toArray] w fun e w' => e = .returned (.bool true) ∧ Below w.heap.size w w') := by
      rw [hP, hB]; exact fun w h => (pwithin_any 4 [10, 48, 0, 0, 0, 0, 0, 0, 0, 0, 0, 0, 0, 0, 0, 0] 12 4 [10, 32, 0, 0, 0, 0, 0, 0, 0, 0, 0, 0, 0, 0, 0, 0] 11 w ⟨rfl, by decide⟩ ⟨rfl, by decide⟩).mono fun e w' g => ⟨by rw [g.1, show pwithin 4 [10, 48, 0, 0, 0, 0, 0, 0, 0, 0, 0, 0, 0, 0, 0, 0] 12 4 [10, 32, 0, 0, 0, 0, 0, 0, 0, 0, 0, 0, 0, 0, 0, 0] 11 = true from by decide +kernel], g.2⟩
  have CW2 : Hid (∀ w, Six w → Calls Tryd.prog 18 #[.agg P0.toArray, .agg B0.toArray] w fun e w' => e = .returned (.bool false) ∧ Below w.heap.size w w') := by
      rw [hP, hB]; exact fun w h => (pwithin_any 4 [10, 32, 0, 0, 0, 0, 0, 0, 0, 0, 0, 0, 0, 0, 0, 0] 11 4 [10, 48, 0, 0, 0, 0, 0, 0, 0, 0, 0, 0, 0, 0, 0, 0] 12 w ⟨rfl, by decide⟩ ⟨rfl, by decide⟩).mono fun e w' g => ⟨by rw [g.1, show pwithin 4 [10, 32, 0, 0, 0, 0, 0, 0, 0, 0, 0, 0, 0, 0, 0, 0] 11 4 [10, 48, 0, 0, 0, 0, 0, 0, 0, 0, 0, 0, 0, 0, 0, 0] 12 = false from by decide +kernel], g.2⟩
  have CM1 : Hid (∀ w, Six w → Calls Tryd.prog 19 #[.agg P0.toArray, .agg B0.toArray] w fun e w' => e = .returned (.bool true) ∧ Below w.heap.size w w') := by
      rw [hP, hB]; exact fun w h => (pmeet_any 4 [10, 32, 0, 0, 0, 0, 0, 0, 0, 0, 0, 0, 0, 0, 0, 0] 11 4 [10, 48, 0, 0, 0, 0, 0, 0, 0, 0, 0, 0, 0, 0, 0, 0] 12 w ⟨rfl, by decide⟩ ⟨rfl, by decide⟩).mono fun e w' g => ⟨by rw [g.1, show pmeet 4 [10, 32, 0, 0, 0, 0, 0, 0, 0, 0, 0, 0, 0, 0, 0, 0] 11 4 [10, 48, 0, 0, 0, 0, 0, 0, 0, 0, 0, 0, 0, 0, 0, 0] 12 = true from by decide +kernel], g.2⟩
  have CM2 : Hid (∀ w, Six w → Calls Tryd.prog 19 #[.agg A0.toArray, .agg B0.toArray] w fun e w' => e = .returned (.bool false) ∧ Below w.heap.size w w') := by
      rw [hA, hB]; exact fun w h => (pmeet_any 4 [10, 32, 0, 0, 0, 0, 0, 0, 0, 0, 0, 0, 0, 0, 0, 0] 12 4 [10, 48, 0, 0, 0, 0, 0, 0, 0, 0, 0, 0, 0, 0, 0, 0] 12 w ⟨rfl, by decide⟩ ⟨rfl, by decide⟩).mono fun e w' g => ⟨by rw [g.1, show pmeet 4 [10, 32, 0, 0, 0, 0, 0, 0, 0, 0, 0, 0, 0, 0, 0, 0] 12 4 [10, 48, 0, 0, 0, 0, 0, 0, 0, 0, 0, 0, 0, 0, 0, 0] 12 = false from by decide +kernel], g.2⟩
  have CK : Hid (∀ w, Six w → Calls Tryd.prog 11 #[.agg #[.int .i64 0, .int .u8 0, .int .u8 0, .int .u8 0, .int .u8 0, .int .u8 0, .int .u8 0, .int .u8 0, .int .u8 0, .int .u8 0, .int .u8 0, .int .u8 0, .int .u8 0, .int .u8 0, .int .u8 0, .int .u8 0, .int .u8 0, .int .i64 0]] w fun e w' => e = .returned (.int .i64 4) ∧ Below w.heap.size w w') := by
      exact fun w h => (show Calls _ _ #[.agg (pcells 0 zero16 0).toArray] _ _ from (pcheck_any 0 zero16 0 w zero_adr).mono fun e w' g => ⟨by rw [g.1, show pcheck 0 zero16 0 = 4 from by decide +kernel], g.2⟩)
  have CL : Hid (∀ w, Six w → Calls Tryd.prog 13 #[.agg P0.toArray] w fun e w' => e = .returned (.agg (bcells [10, 63, 255, 255, 0, 0, 0, 0, 0, 0, 0, 0, 0, 0, 0, 0]).toArray) ∧ Below w.heap.size w w') := by
      rw [hP]; exact fun w h => (plast_any 4 [10, 32, 0, 0, 0, 0, 0, 0, 0, 0, 0, 0, 0, 0, 0, 0] 11 w ⟨rfl, by decide⟩).mono fun e w' g => ⟨by rw [g.1, show plast 4 [10, 32, 0, 0, 0, 0, 0, 0, 0, 0, 0, 0, 0, 0, 0, 0] 11 = [10, 63, 255, 255, 0, 0, 0, 0, 0, 0, 0, 0, 0, 0, 0, 0] from by decide +kernel], g.2⟩
  have CA : Hid (∀ w, Six w → Calls Tryd.prog 22 #[.int .i64 4] w fun e w' => e = .returned (.agg (pcells 4 zero16 0).toArray) ∧ Below w.heap.size w w') := by
      exact fun w h => pall_any 4 w
  have q1 : Hid (∀ w, (Op.equalIn 10000 24 (.agg P0.toArray) (.agg #[.int .i64 4, .int .u8 10, .int .u8 32, .int .u8 0, .int .u8 0, .int .u8 0, .int .u8 0, .int .u8 0, .int .u8 0, .int .u8 0, .int .u8 0, .int .u8 0, .int .u8 0, .int .u8 0, .int .u8 0, .int .u8 0, .int .u8 0, .int .i64 11])).run Tryd.prog w = .ok true w) := by
      rw [hP]; exact fun w => pfx_same (V' := 4) (X' := [10, 32, 0, 0, 0, 0, 0, 0, 0, 0, 0, 0, 0, 0, 0, 0]) (n' := 11) ⟨rfl, by decide⟩ ⟨rfl, by decide⟩ (by decide) (by decide) (by decide) (by decide) w
  have q2 : Hid (∀ w, (Op.equalIn 10000 22 (.agg (bcells [10, 63, 255, 255, 0, 0, 0, 0, 0, 0, 0, 0, 0, 0, 0, 0]).toArray) (.agg #[.int .u8 10, .int .u8 63, .int .u8 255, .int .u8 255, .int .u8 0, .int .u8 0, .int .u8 0, .int .u8 0, .int .u8 0, .int .u8 0, .int .u8 0, .int .u8 0, .int .u8 0, .int .u8 0, .int .u8 0, .int .u8 0])).run Tryd.prog w = .ok true w) := fun w => same_nat Tryd.underlying22 [10, 63, 255, 255, 0, 0, 0, 0, 0, 0, 0, 0, 0, 0, 0, 0] [10, 63, 255, 255, 0, 0, 0, 0, 0, 0, 0, 0, 0, 0, 0, 0] rfl rfl w
  have q3 : Hid (∀ w, (Op.equalIn 10000 24 (.agg (pcells 4 zero16 0).toArray) (.agg #[.int .i64 4, .int .u8 0, .int .u8 0, .int .u8 0, .int .u8 0, .int .u8 0, .int .u8 0, .int .u8 0, .int .u8 0, .int .u8 0, .int .u8 0, .int .u8 0, .int .u8 0, .int .u8 0, .int .u8 0, .int .u8 0, .int .u8 0, .int .i64 0])).run Tryd.prog w = .ok true w) := fun w => pfx_same (V' := 4) (X' := zero16) (n' := 0) zero_adr zero_adr (by decide) (by decide) (by decide) (by decide) w
  clear hP hQ hA hB hZ
  have HT := Lib.hid hT
  clear hT
  obtain ⟨A4, hA4⟩ : ∃ R, R = pcells 4 zero16 0 := ⟨_, rfl⟩
  obtain ⟨LL, hLL⟩ : ∃ R, R = bcells [10, 63, 255, 255, 0, 0, 0, 0, 0, 0, 0, 0, 0, 0, 0, 0] := ⟨_, rfl⟩
  rw [← hA4] at CA q3
  rw [← hLL] at CL q2
  clear hA4 hLL
  go_enter Tryd.func10, Tryd.ntmps10
  go_upto_region 1 with fail
  refine wp_region_lit ?_
  refine wpList_quiet_take (C := KV w []) 4 (KV.nil w) ?_
  simp only [List.take, List.drop]
  repeat (first
    | go_big_quiet_skip
    | (go_big_quiet_want; go_big_quiet_op; go_big_quiet_on)
    | (go_big_quiet_want; go_big_quiet_op; apply Exists.intro; refine ⟨fun w' hw' => (by first | (with_reducible refine (C1.out w' (HT.out.below hw'.bel)).mono ?_; rintro e w'' ⟨rfl, hb⟩; exact ⟨rfl, hw'.below hb⟩) | fail), ?_⟩; go_big_quiet_on)
    | (go_big_quiet_want; go_big_quiet_op; apply Exists.intro; refine ⟨fun w' hw' => rfl, ?_⟩; go_big_quiet_on))
  refine wpQuiet_nil ?_
  intro w1 hw1
  have k1 : Hid (KV w [(24, w1.heap.size, P0)] ((w1.alloc (.cells (pcells 0 zero16 0).toArray 24)).setCells w1.heap.size 0 P0)) := (hw1.new 24 (pcells 0 zero16 0)).store 0 rfl P0 (by rw [HP.out.len]; rfl)
  have a1 := Lib.hid ((hw1.new 24 (pcells 0 zero16 0)).at 0 rfl)
  clear hw1
  go_upto_region 2 with (first | refine wpList_store_v rfl 24 (.tmp 1) (.tmp 16) rfl _ rfl typfx a1.out zero18_len P0 HP.out.len HP.out.one rfl ?_ | fail)
  try simp only [Act.put]
  clear a1
  refine wp_region_lit ?_
  refine wpList_quiet_take (C := KV w [(24, w1.heap.size, P0)]) 4 k1.out ?_
  simp only [List.take, List.drop]
  repeat (first
    | go_big_quiet_skip
    | (go_big_quiet_want; go_big_quiet_op; go_big_quiet_on)
    | (go_big_quiet_want; go_big_quiet_op; apply Exists.intro; refine ⟨fun w' hw' => (by first | (with_reducible refine (C2.out w' (HT.out.below hw'.bel)).mono ?_; rintro e w'' ⟨rfl, hb⟩; exact ⟨rfl, hw'.below hb⟩) | fail), ?_⟩; go_big_quiet_on)
    | (go_big_quiet_want; go_big_quiet_op; apply Exists.intro; refine ⟨fun w' hw' => rfl, ?_⟩; go_big_quiet_on))
  refine wpQuiet_nil ?_
  intro w2 hw2
  have k2 : Hid (KV w [(24, w1.heap.size, P0), (24, w2.heap.size, Z0)] ((w2.alloc (.cells (pcells 0 zero16 0).toArray 24)).setCells w2.heap.size 0 Z0)) := (hw2.new 24 (pcells 0 zero16 0)).store 1 rfl Z0 (by rw [HZ.out.len]; rfl)
  have a2 := Lib.hid ((hw2.new 24 (pcells 0 zero16 0)).at 1 rfl)
  clear hw2 k1
  go_upto_region 3 with (first | refine wpList_store_v rfl 24 (.tmp 3) (.tmp 20) rfl _ rfl typfx a2.out zero18_len Z0 HZ.out.len HZ.out.one rfl ?_ | fail)
  try simp only [Act.put]
  clear a2
  refine wp_region_lit ?_
  refine wpList_quiet_take (C := KV w [(24, w1.heap.size, P0), (24, w2.heap.size, Z0)]) 4 k2.out ?_
  simp only [List.take, List.drop]
  repeat (first
    | go_big_quiet_skip
    | (go_big_quiet_want; go_big_quiet_op; go_big_quiet_on)
    | (go_big_quiet_want; go_big_quiet_op; apply Exists.intro; refine ⟨fun w' hw' => (by first | (with_reducible refine (C3.out w' (HT.out.below hw'.bel)).mono ?_; rintro e w'' ⟨rfl, hb⟩; exact ⟨rfl, hw'.below hb⟩) | fail), ?_⟩; go_big_quiet_on)
    | (go_big_quiet_want; go_big_quiet_op; apply Exists.intro; refine ⟨fun w' hw' => rfl, ?_⟩; go_big_quiet_on))
  refine wpQuiet_nil ?_
  intro w3 hw3
  have k3 : Hid (KV w [(24, w1.heap.size, P0), (24, w2.heap.size, Z0), (24, w3.heap.size, Z0)] ((w3.alloc (.cells (pcells 0 zero16 0).toArray 24)).setCells w3.heap.size 0 Z0)) := (hw3.new 24 (pcells 0 zero16 0)).store 2 rfl Z0 (by rw [HZ.out.len]; rfl)
  have a3 := Lib.hid ((hw3.new 24 (pcells 0 zero16 0)).at 2 rfl)
  clear hw3 k2
  go_upto_region 4 with (first | refine wpList_store_v rfl 24 (.tmp 5) (.tmp 24) rfl _ rfl typfx a3.out zero18_len Z0 HZ.out.len HZ.out.one rfl ?_ | fail)
  try simp only [Act.put]
  clear a3
  refine wp_region_lit ?_
  refine wpList_quiet_take (C := KV w [(24, w1.heap.size, P0), (24, w2.heap.size, Z0), (24, w3.heap.size, Z0)]) 4 k3.out ?_
  simp only [List.take, List.drop]
  repeat (first
    | go_big_quiet_skip
    | (go_big_quiet_want; go_big_quiet_op; go_big_quiet_on)
    | (go_big_quiet_want; go_big_quiet_op; apply Exists.intro; refine ⟨fun w' hw' => (by first | (with_reducible refine (C4.out w' (HT.out.below hw'.bel)).mono ?_; rintro e w'' ⟨rfl, hb⟩; exact ⟨rfl, hw'.below hb⟩) | fail), ?_⟩; go_big_quiet_on)
    | (go_big_quiet_want; go_big_quiet_op; apply Exists.intro; refine ⟨fun w' hw' => rfl, ?_⟩; go_big_quiet_on))
  refine wpQuiet_nil ?_
  intro w4 hw4
  have k4 : Hid (KV w [(24, w1.heap.size, P0), (24, w2.heap.size, Z0), (24, w3.heap.size, Z0), (24, w4.heap.size, Z0)] ((w4.alloc (.cells (pcells 0 zero16 0).toArray 24)).setCells w4.heap.size 0 Z0)) := (hw4.new 24 (pcells 0 zero16 0)).store 3 rfl Z0 (by rw [HZ.out.len]; rfl)
  have a4 := Lib.hid ((hw4.new 24 (pcells 0 zero16 0)).at 3 rfl)
  clear hw4 k3
  go_upto_region 5 with (first | refine wpList_store_v rfl 24 (.tmp 7) (.tmp 28) rfl _ rfl typfx a4.out zero18_len Z0 HZ.out.len HZ.out.one rfl ?_ | fail)
  try simp only [Act.put]
  clear a4
  refine wp_region_lit ?_
  refine wpList_quiet_take (C := KV w [(24, w1.heap.size, P0), (24, w2.heap.size, Z0), (24, w3.heap.size, Z0), (24, w4.heap.size, Z0)]) 5 k4.out ?_
  simp only [List.take, List.drop]
  repeat (first
    | go_big_quiet_skip
    | (go_big_quiet_want; go_big_quiet_op; go_big_quiet_on)
    | (go_big_quiet_want; go_big_quiet_op; apply Exists.intro; refine ⟨fun w' hw' => (by first | (with_reducible refine (C5.out w' (HT.out.below hw'.bel)).mono ?_; rintro e w'' ⟨rfl, hb⟩; exact ⟨rfl, hw'.below hb⟩) | fail), ?_⟩; go_big_quiet_on)
    | (go_big_quiet_want; go_big_quiet_op; apply Exists.intro; refine ⟨fun w' hw' => rfl, ?_⟩; go_big_quiet_on))
  refine wpQuiet_nil ?_
  intro w5 hw5
  have k5 : Hid (KV w [(24, w1.heap.size, P0), (24, w2.heap.size, Z0), (24, w3.heap.size, Z0), (24, w4.heap.size, Z0), (24, w5.heap.size, Q0)] ((w5.alloc (.cells (pcells 0 zero16 0).toArray 24)).setCells w5.heap.size 0 Q0)) := (hw5.new 24 (pcells 0 zero16 0)).store 4 rfl Q0 (by rw [HQ.out.len]; rfl)
  have a5 := Lib.hid ((hw5.new 24 (pcells 0 zero16 0)).at 4 rfl)
  clear hw5 k4
  go_upto_region 6 with (first | refine wpList_store_v rfl 24 (.tmp 9) (.tmp 33) rfl _ rfl typfx a5.out zero18_len Q0 HQ.out.len HQ.out.one rfl ?_ | fail)
  try simp only [Act.put]
  clear a5
  refine wp_region_lit ?_
  refine wpList_quiet_take (C := KV w [(24, w1.heap.size, P0), (24, w2.heap.size, Z0), (24, w3.heap.size, Z0), (24, w4.heap.size, Z0), (24, w5.heap.size, Q0)]) 6 k5.out ?_
  simp only [List.take, List.drop]
  repeat (first
    | go_big_quiet_skip
    | (go_big_quiet_want; apply Exists.intro; refine ⟨fun w' hw' => (by first | exact quietAt_part rfl rfl typfx (hw'.at 0 rfl) HP.out.all HP.out.len | exact quietAt_part rfl rfl typfx (hw'.at 4 rfl) HQ.out.all HQ.out.len | fail), ?_⟩; simp only [Act.put, List.setIfInBounds_toArray, List.set_cons_zero, List.set_cons_succ]; go_big_quiet_on)
    | (go_big_quiet_want; go_big_quiet_op; go_big_quiet_on)
    | (go_big_quiet_want; go_big_quiet_op; apply Exists.intro; refine ⟨fun w' hw' => (by first | (with_reducible refine (C6.out w' (HT.out.below hw'.bel)).mono ?_; rintro e w'' ⟨rfl, hb⟩; exact ⟨rfl, hw'.below hb⟩) | fail), ?_⟩; go_big_quiet_on)
    | (go_big_quiet_want; go_big_quiet_op; apply Exists.intro; refine ⟨fun w' hw' => rfl, ?_⟩; go_big_quiet_on))
  refine wpQuiet_nil ?_
  intro w6 hw6
  have m0 := Lib.hid (hw6.new2 24 24 (pcells 0 zero16 0) (pcells 0 zero16 0))
  have m1 := Lib.hid (m0.out.store 5 rfl A0 (by rw [HA.out.len]; rfl))
  have k6 : Hid (KV w [(24, w1.heap.size, P0), (24, w2.heap.size, Z0), (24, w3.heap.size, Z0), (24, w4.heap.size, Z0), (24, w5.heap.size, Q0), (24, w6.heap.size, A0), (24, w6.heap.size + 1, B0)] ((((w6.alloc (.cells (pcells 0 zero16 0).toArray 24)).alloc (.cells (pcells 0 zero16 0).toArray 24)).setCells w6.heap.size 0 A0).setCells (w6.heap.size + 1) 0 B0)) := m1.out.store 6 rfl B0 (by rw [HB.out.len]; rfl)
  have a6 := Lib.hid (m0.out.at 5 rfl)
  have b6 := Lib.hid (m1.out.at 6 rfl)
  clear hw6 k5 m0 m1
  go_upto_region 7 with (first | refine wpList_store_v rfl 24 (.tmp 11) (.tmp 38) rfl _ rfl typfx a6.out zero18_len A0 HA.out.len HA.out.one rfl ?_ | refine wpList_store_v rfl 24 (.tmp 12) (.tmp 39) rfl _ rfl typfx b6.out zero18_len B0 HB.out.len HB.out.one rfl ?_ | fail)
  try simp only [Act.put]
  clear a6 b6
  simp only [List.append_eq, List.cons_append, List.nil_append]
  refine wp_region_lit ?_
  refine wpList_quiet_all (C := KV w [(24, w1.heap.size, P0), (24, w2.heap.size, Z0), (24, w3.heap.size, Z0), (24, w4.heap.size, Z0), (24, w5.heap.size, Q0), (24, w6.heap.size, A0), (24, w6.heap.size + 1, B0)]) k6.out ?_
  repeat (first
    | go_big_quiet_skip
    | (go_big_quiet_want; apply Exists.intro; refine ⟨fun w' hw' => (by first | exact quietAt_part rfl rfl typfx (hw'.at 0 rfl) HP.out.all HP.out.len | exact quietAt_part rfl rfl typfx (hw'.at 4 rfl) HQ.out.all HQ.out.len | exact quietAt_part rfl rfl typfx (hw'.at 5 rfl) HA.out.all HA.out.len | exact quietAt_part rfl rfl typfx (hw'.at 6 rfl) HB.out.all HB.out.len | exact quietAt_eql rfl rfl rfl guardpfx q1.out | exact quietAt_eql rfl rfl rfl guard16 q2.out | exact quietAt_eql rfl rfl rfl guardpfx q3.out | fail), ?_⟩; simp only [Act.put, List.setIfInBounds_toArray, List.set_cons_zero, List.set_cons_succ]; go_big_quiet_on)
    | (go_big_quiet_want; go_big_quiet_op; go_big_quiet_on)
    | (go_big_quiet_want; go_big_quiet_op; apply Exists.intro; refine ⟨fun w' hw' => (by first | (with_reducible refine (CTq.out w' (HT.out.below hw'.bel)).mono ?_; rintro e w'' ⟨rfl, hb⟩; exact ⟨rfl, hw'.below hb⟩) | (with_reducible refine (CTa.out w' (HT.out.below hw'.bel)).mono ?_; rintro e w'' ⟨rfl, hb⟩; exact ⟨rfl, hw'.below hb⟩) | (with_reducible refine (CTb.out w' (HT.out.below hw'.bel)).mono ?_; rintro e w'' ⟨rfl, hb⟩; exact ⟨rfl, hw'.below hb⟩) | (with_reducible refine (CH1.out w' (HT.out.below hw'.bel)).mono ?_; rintro e w'' ⟨rfl, hb⟩; exact ⟨rfl, hw'.below hb⟩) | (with_reducible refine (CH2.out w' (HT.out.below hw'.bel)).mono ?_; rintro e w'' ⟨rfl, hb⟩; exact ⟨rfl, hw'.below hb⟩) | (with_reducible refine (CH3.out w' (HT.out.below hw'.bel)).mono ?_; rintro e w'' ⟨rfl, hb⟩; exact ⟨rfl, hw'.below hb⟩) | (with_reducible refine (CW1.out w' (HT.out.below hw'.bel)).mono ?_; rintro e w'' ⟨rfl, hb⟩; exact ⟨rfl, hw'.below hb⟩) | (with_reducible refine (CW2.out w' (HT.out.below hw'.bel)).mono ?_; rintro e w'' ⟨rfl, hb⟩; exact ⟨rfl, hw'.below hb⟩) | (with_reducible refine (CM1.out w' (HT.out.below hw'.bel)).mono ?_; rintro e w'' ⟨rfl, hb⟩; exact ⟨rfl, hw'.below hb⟩) | (with_reducible refine (CM2.out w' (HT.out.below hw'.bel)).mono ?_; rintro e w'' ⟨rfl, hb⟩; exact ⟨rfl, hw'.below hb⟩) | (with_reducible refine (CK.out w' (HT.out.below hw'.bel)).mono ?_; rintro e w'' ⟨rfl, hb⟩; exact ⟨rfl, hw'.below hb⟩) | (with_reducible refine (CL.out w' (HT.out.below hw'.bel)).mono ?_; rintro e w'' ⟨rfl, hb⟩; exact ⟨rfl, hw'.below hb⟩) | (with_reducible refine (CA.out w' (HT.out.below hw'.bel)).mono ?_; rintro e w'' ⟨rfl, hb⟩; exact ⟨rfl, hw'.below hb⟩) | fail), ?_⟩; go_big_quiet_on)
    | (go_big_quiet_want; go_big_quiet_op; apply Exists.intro; refine ⟨fun w' hw' => rfl, ?_⟩; go_big_quiet_on))
  refine wpQuiet_nil ?_
  intro w7 hw7
  have BB := Lib.hid hw7.bel
  clear hw7 k6
  go_wp2_with fail
  go_ret
  exact ⟨rfl, BB.out⟩
end Go.Proofs.YtlkilkhnblmjaaaDoor
