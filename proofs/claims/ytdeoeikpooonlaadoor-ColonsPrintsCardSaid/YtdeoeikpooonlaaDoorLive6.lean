/-
  The examples of layer 6 come out as they must: the contract of weighbridgelaw06.live.
-/
import Derived.Test.YtdeoeikpooonlaaDoorCol12
import Derived.Deep.RegionHeld3
import Derived.BigQuiet
namespace Go.Proofs.YtdeoeikpooonlaaDoor
open Go.RowKit
set_option linter.unusedVariables false
attribute [local go_sem] eq4_run

theorem l6_a (w : World) (hB : Bru w) (hm : MaxL w) : Calls Tryd.prog 37 #[.string ⟨#[50, 48, 48, 49, 58, 68, 66, 56, 58, 58, 49, 58, 48, 58, 48, 58, 49]⟩] w fun e w' => e = .returned (.tuple #[.agg #[.int .u8 32, .int .u8 1, .int .u8 13, .int .u8 184, .int .u8 0, .int .u8 0, .int .u8 0, .int .u8 0, .int .u8 0, .int .u8 1, .int .u8 0, .int .u8 0, .int .u8 0, .int .u8 0, .int .u8 0, .int .u8 1], .int .i64 0]) ∧ Below w.heap.size w w' := by
  refine (cparse_any ⟨#[50, 48, 48, 49, 58, 68, 66, 56, 58, 58, 49, 58, 48, 58, 48, 58, 49]⟩ w (by decide) hB hm).mono ?_
  rintro e w' ⟨rfl, hb⟩
  have h : colParse (⟨#[50, 48, 48, 49, 58, 68, 66, 56, 58, 58, 49, 58, 48, 58, 48, 58, 49]⟩ : ByteArray).data.toList = some [8193, 3512, 0, 0, 1, 0, 0, 1] := by decide +kernel
  rw [h]
  exact ⟨rfl, hb⟩
theorem l6_b (w : World) (hB : Bru w) (hm : MaxL w) : Calls Tryd.prog 37 #[.string ⟨#[58, 58, 102, 102, 102, 102, 58, 49, 46, 50, 46, 51, 46, 52]⟩] w fun e w' => e = .returned (.tuple #[.agg #[.int .u8 0, .int .u8 0, .int .u8 0, .int .u8 0, .int .u8 0, .int .u8 0, .int .u8 0, .int .u8 0, .int .u8 0, .int .u8 0, .int .u8 255, .int .u8 255, .int .u8 1, .int .u8 2, .int .u8 3, .int .u8 4], .int .i64 0]) ∧ Below w.heap.size w w' := by
  refine (cparse_any ⟨#[58, 58, 102, 102, 102, 102, 58, 49, 46, 50, 46, 51, 46, 52]⟩ w (by decide) hB hm).mono ?_
  rintro e w' ⟨rfl, hb⟩
  have h : colParse (⟨#[58, 58, 102, 102, 102, 102, 58, 49, 46, 50, 46, 51, 46, 52]⟩ : ByteArray).data.toList = some [0, 0, 0, 0, 0, 65535, 258, 772] := by decide +kernel
  rw [h]
  exact ⟨rfl, hb⟩
theorem l6_g (w : World) (hB : Bru w) (hm : MaxL w) : Calls Tryd.prog 37 #[.string ⟨#[49, 58, 50, 58, 51, 58, 52, 58, 53, 58, 54, 58, 55, 58, 58, 56]⟩] w fun e w' => e = .returned (.tuple #[.agg #[.int .u8 0, .int .u8 0, .int .u8 0, .int .u8 0, .int .u8 0, .int .u8 0, .int .u8 0, .int .u8 0, .int .u8 0, .int .u8 0, .int .u8 0, .int .u8 0, .int .u8 0, .int .u8 0, .int .u8 0, .int .u8 0], .int .i64 3]) ∧ Below w.heap.size w w' := by
  refine (cparse_any ⟨#[49, 58, 50, 58, 51, 58, 52, 58, 53, 58, 54, 58, 55, 58, 58, 56]⟩ w (by decide) hB hm).mono ?_
  rintro e w' ⟨rfl, hb⟩
  have h : colParse (⟨#[49, 58, 50, 58, 51, 58, 52, 58, 53, 58, 54, 58, 55, 58, 58, 56]⟩ : ByteArray).data.toList = none := by decide +kernel
  rw [h]
  exact ⟨rfl, hb⟩
theorem l6_h (w : World) (hB : Bru w) (hm : MaxL w) : Calls Tryd.prog 37 #[.string ⟨#[58, 49, 58, 50, 58, 51, 58, 52, 58, 53, 58, 54, 58, 55]⟩] w fun e w' => e = .returned (.tuple #[.agg #[.int .u8 0, .int .u8 0, .int .u8 0, .int .u8 0, .int .u8 0, .int .u8 0, .int .u8 0, .int .u8 0, .int .u8 0, .int .u8 0, .int .u8 0, .int .u8 0, .int .u8 0, .int .u8 0, .int .u8 0, .int .u8 0], .int .i64 3]) ∧ Below w.heap.size w w' := by
  refine (cparse_any ⟨#[58, 49, 58, 50, 58, 51, 58, 52, 58, 53, 58, 54, 58, 55]⟩ w (by decide) hB hm).mono ?_
  rintro e w' ⟨rfl, hb⟩
  have h : colParse (⟨#[58, 49, 58, 50, 58, 51, 58, 52, 58, 53, 58, 54, 58, 55]⟩ : ByteArray).data.toList = none := by decide +kernel
  rw [h]
  exact ⟨rfl, hb⟩
theorem l6_pa (w : World) (hB : Bru w) : Calls Tryd.prog 29 #[.agg #[.int .u8 32, .int .u8 1, .int .u8 13, .int .u8 184, .int .u8 0, .int .u8 0, .int .u8 0, .int .u8 0, .int .u8 0, .int .u8 1, .int .u8 0, .int .u8 0, .int .u8 0, .int .u8 0, .int .u8 0, .int .u8 1]] w fun e w' => e = .returned (.string ⟨#[50, 48, 48, 49, 58, 100, 98, 56, 58, 58, 49, 58, 48, 58, 48, 58, 49]⟩) ∧ Below w.heap.size w w' := by
  refine (show Calls Tryd.prog 29 #[.agg #[.int .u8 32, .int .u8 1, .int .u8 13, .int .u8 184, .int .u8 0, .int .u8 0, .int .u8 0, .int .u8 0, .int .u8 0, .int .u8 1, .int .u8 0, .int .u8 0, .int .u8 0, .int .u8 0, .int .u8 0, .int .u8 1]] w _ from cprint_any [32, 1, 13, 184, 0, 0, 0, 0, 0, 1, 0, 0, 0, 0, 0, 1] w rfl (by decide) hB).mono ?_
  rintro e w' ⟨rfl, hb⟩
  have h : colPrint (grps [32, 1, 13, 184, 0, 0, 0, 0, 0, 1, 0, 0, 0, 0, 0, 1]) = (#[50, 48, 48, 49, 58, 100, 98, 56, 58, 58, 49, 58, 48, 58, 48, 58, 49] : Array UInt8).toList := by decide +kernel
  refine ⟨?_, hb⟩
  unfold pstr6
  rw [h]
theorem l6_pb (w : World) (hB : Bru w) : Calls Tryd.prog 29 #[.agg #[.int .u8 0, .int .u8 0, .int .u8 0, .int .u8 0, .int .u8 0, .int .u8 0, .int .u8 0, .int .u8 0, .int .u8 0, .int .u8 0, .int .u8 255, .int .u8 255, .int .u8 1, .int .u8 2, .int .u8 3, .int .u8 4]] w fun e w' => e = .returned (.string ⟨#[58, 58, 102, 102, 102, 102, 58, 49, 48, 50, 58, 51, 48, 52]⟩) ∧ Below w.heap.size w w' := by
  refine (show Calls Tryd.prog 29 #[.agg #[.int .u8 0, .int .u8 0, .int .u8 0, .int .u8 0, .int .u8 0, .int .u8 0, .int .u8 0, .int .u8 0, .int .u8 0, .int .u8 0, .int .u8 255, .int .u8 255, .int .u8 1, .int .u8 2, .int .u8 3, .int .u8 4]] w _ from cprint_any [0, 0, 0, 0, 0, 0, 0, 0, 0, 0, 255, 255, 1, 2, 3, 4] w rfl (by decide) hB).mono ?_
  rintro e w' ⟨rfl, hb⟩
  have h : colPrint (grps [0, 0, 0, 0, 0, 0, 0, 0, 0, 0, 255, 255, 1, 2, 3, 4]) = (#[58, 58, 102, 102, 102, 102, 58, 49, 48, 50, 58, 51, 48, 52] : Array UInt8).toList := by decide +kernel
  refine ⟨?_, hb⟩
  unfold pstr6
  rw [h]
theorem l6_pz (w : World) (hB : Bru w) : Calls Tryd.prog 29 #[.agg #[.int .u8 0, .int .u8 0, .int .u8 0, .int .u8 0, .int .u8 0, .int .u8 0, .int .u8 0, .int .u8 0, .int .u8 0, .int .u8 0, .int .u8 0, .int .u8 0, .int .u8 0, .int .u8 0, .int .u8 0, .int .u8 0]] w fun e w' => e = .returned (.string ⟨#[58, 58]⟩) ∧ Below w.heap.size w w' := by
  refine (show Calls Tryd.prog 29 #[.agg #[.int .u8 0, .int .u8 0, .int .u8 0, .int .u8 0, .int .u8 0, .int .u8 0, .int .u8 0, .int .u8 0, .int .u8 0, .int .u8 0, .int .u8 0, .int .u8 0, .int .u8 0, .int .u8 0, .int .u8 0, .int .u8 0]] w _ from cprint_any [0, 0, 0, 0, 0, 0, 0, 0, 0, 0, 0, 0, 0, 0, 0, 0] w rfl (by decide) hB).mono ?_
  rintro e w' ⟨rfl, hb⟩
  have h : colPrint (grps [0, 0, 0, 0, 0, 0, 0, 0, 0, 0, 0, 0, 0, 0, 0, 0]) = (#[58, 58] : Array UInt8).toList := by decide +kernel
  refine ⟨?_, hb⟩
  unfold pstr6
  rw [h]
theorem l6_un (w : World) : Calls Tryd.prog 26 #[.agg #[.int .u8 0, .int .u8 0, .int .u8 0, .int .u8 0, .int .u8 0, .int .u8 0, .int .u8 0, .int .u8 0, .int .u8 0, .int .u8 0, .int .u8 255, .int .u8 255, .int .u8 1, .int .u8 2, .int .u8 3, .int .u8 4]] w fun e w' => e = .returned (.tuple #[.agg #[.int .u8 1, .int .u8 2, .int .u8 3, .int .u8 4], .bool true]) ∧ Below w.heap.size w w' := unmap_yes 1 2 3 4 w
theorem l6_g1 (w : World) : Calls Tryd.prog 31 #[.agg #[.int .u8 32, .int .u8 1, .int .u8 13, .int .u8 184, .int .u8 0, .int .u8 0, .int .u8 0, .int .u8 0, .int .u8 0, .int .u8 1, .int .u8 0, .int .u8 0, .int .u8 0, .int .u8 0, .int .u8 0, .int .u8 1], .int .i64 1] w fun e w' => e = .returned (.int .u16 3512) ∧ Below w.heap.size w w' := cgroup_in [32, 1, 13, 184, 0, 0, 0, 0, 0, 1, 0, 0, 0, 0, 0, 1] 1 w rfl (by decide) (by decide)
theorem l6_g8 (w : World) : Calls Tryd.prog 31 #[.agg #[.int .u8 32, .int .u8 1, .int .u8 13, .int .u8 184, .int .u8 0, .int .u8 0, .int .u8 0, .int .u8 0, .int .u8 0, .int .u8 1, .int .u8 0, .int .u8 0, .int .u8 0, .int .u8 0, .int .u8 0, .int .u8 1], .int .i64 8] w fun e w' => e = .returned (.int .u16 0) ∧ Below w.heap.size w w' := cgroup_out [32, 1, 13, 184, 0, 0, 0, 0, 0, 1, 0, 0, 0, 0, 0, 1] 8 w rfl (.inr (by decide))
theorem l6_sort (w : World) : Calls Tryd.prog 33 #[.agg #[.int .u8 0, .int .u8 0, .int .u8 0, .int .u8 0, .int .u8 0, .int .u8 0, .int .u8 0, .int .u8 0, .int .u8 0, .int .u8 0, .int .u8 255, .int .u8 255, .int .u8 1, .int .u8 2, .int .u8 3, .int .u8 4]] w fun e w' => e = .returned (.string ⟨#[102, 111, 117, 114]⟩) ∧ Below w.heap.size w w' := csort_any [0, 0, 0, 0, 0, 0, 0, 0, 0, 0, 255, 255, 1, 2, 3, 4] w rfl (by decide)
theorem l6_map (w : World) : Calls Tryd.prog 35 #[.agg #[.int .u8 1, .int .u8 2, .int .u8 3, .int .u8 4]] w fun e w' => e = .returned (.agg #[.int .u8 0, .int .u8 0, .int .u8 0, .int .u8 0, .int .u8 0, .int .u8 0, .int .u8 0, .int .u8 0, .int .u8 0, .int .u8 0, .int .u8 255, .int .u8 255, .int .u8 1, .int .u8 2, .int .u8 3, .int .u8 4]) ∧ Below w.heap.size w w' := map_any [1, 2, 3, 4] w rfl
theorem l6_same (w : World) : (Op.equalIn 10000 37 (.agg #[.int .u8 0, .int .u8 0, .int .u8 0, .int .u8 0, .int .u8 0, .int .u8 0, .int .u8 0, .int .u8 0, .int .u8 0, .int .u8 0, .int .u8 255, .int .u8 255, .int .u8 1, .int .u8 2, .int .u8 3, .int .u8 4]) (.agg #[.int .u8 0, .int .u8 0, .int .u8 0, .int .u8 0, .int .u8 0, .int .u8 0, .int .u8 0, .int .u8 0, .int .u8 0, .int .u8 0, .int .u8 255, .int .u8 255, .int .u8 1, .int .u8 2, .int .u8 3, .int .u8 4])).run Tryd.prog w = .ok true w := same_nat Tryd.underlying37 [0, 0, 0, 0, 0, 0, 0, 0, 0, 0, 255, 255, 1, 2, 3, 4] [0, 0, 0, 0, 0, 0, 0, 0, 0, 0, 255, 255, 1, 2, 3, 4] rfl rfl w
theorem wp_quiet_l6 {P : Program} {C : World → Prop} {id : Nat} {Q : Exit → Act → World → Prop} {a : Act} {w : World} {l : List Oper} (hm : P.follows .mixedOrders = true) (hB : Region.lexB .any l.toArray = true) (hC : C w.drew)
    (h : wpQuiet P l.toArray C (fun a' => ∀ w', C w' → Q .normal a' w') l a) : (Code.region id l.toArray true).wp P Q a w :=
  wp_region_quiet hm hB hC (by simpa using h)
/-- A load under a class of worlds. -/
theorem quietAt_load {C : World → Prop} {o : Oper} {a : Act} {W : World} {t : TypeId} {x : Operand} {g n : Nat} {cs : List Value} (ho : o.op = .load t x) (hx : a.eval x = .pointer (some ⟨g, 0, none⟩)) (ht : RowTy t n) (h : ArrV t W g cs) (hl : cs.length = n) :
    Oper.quietAt Tryd.prog o a C W (.agg cs.toArray) := by
  unfold Oper.quietAt execOp
  simp only [ho, hx, Instr.loadAt, Instr.sureAddr, Sem.run_bind, Sem.run_pure, Result.andThen_ok, h.loadVar ht hl]
  exact ⟨rfl, rfl⟩
/-- What stands in the variables. -/
structure LJ (w : World) (g1 g3 g9 : Nat) (W : World) : Prop where
  a : ArrV 37 W g1 (bcells [32, 1, 13, 184, 0, 0, 0, 0, 0, 1, 0, 0, 0, 0, 0, 1])
  b : ArrV 37 W g3 (bcells [0, 0, 0, 0, 0, 0, 0, 0, 0, 0, 255, 255, 1, 2, 3, 4])
  x : ArrV 38 W g9 (bcells [1, 2, 3, 4])
  bru : Bru W
  bel : Below w.heap.size w W
theorem LJ.below {w W W' : World} {g1 g3 g9 : Nat} (h : LJ w g1 g3 g9 W) (hb : Below W.heap.size W W') : LJ w g1 g3 g9 W' := ⟨h.a.below hb, h.b.below hb, h.x.below hb, h.bru.below hb, below_both h.bel hb⟩
theorem LJ.drew {w W : World} {g1 g3 g9 : Nat} (h : LJ w g1 g3 g9 W) : LJ w g1 g3 g9 W.drew := ⟨h.a, h.b, h.x, h.bru, h.bel.drew⟩
theorem LJ.ca {w W : World} {g1 g3 g9 : Nat} (h : LJ w g1 g3 g9 W) : W.cell? ⟨g1, 0, none⟩ = some (.int .u8 32) ∧ W.cell? ⟨g1, 1, none⟩ = some (.int .u8 1) ∧ W.cell? ⟨g1, 2, none⟩ = some (.int .u8 13) ∧ W.cell? ⟨g1, 3, none⟩ = some (.int .u8 184) ∧ W.cell? ⟨g1, 4, none⟩ = some (.int .u8 0) ∧ W.cell? ⟨g1, 5, none⟩ = some (.int .u8 0) ∧ W.cell? ⟨g1, 6, none⟩ = some (.int .u8 0) ∧ W.cell? ⟨g1, 7, none⟩ = some (.int .u8 0) ∧ W.cell? ⟨g1, 8, none⟩ = some (.int .u8 0) ∧ W.cell? ⟨g1, 9, none⟩ = some (.int .u8 1) ∧ W.cell? ⟨g1, 10, none⟩ = some (.int .u8 0) ∧ W.cell? ⟨g1, 11, none⟩ = some (.int .u8 0) ∧ W.cell? ⟨g1, 12, none⟩ = some (.int .u8 0) ∧ W.cell? ⟨g1, 13, none⟩ = some (.int .u8 0) ∧ W.cell? ⟨g1, 14, none⟩ = some (.int .u8 0) ∧ W.cell? ⟨g1, 15, none⟩ = some (.int .u8 1) := by
  obtain ⟨c0, c1, c2, c3, c4, c5, c6, c7, c8, c9, c10, c11, c12, c13, c14, c15⟩ := cells16 (x0 := 32) (x1 := 1) (x2 := 13) (x3 := 184) (x4 := 0) (x5 := 0) (x6 := 0) (x7 := 0) (x8 := 0) (x9 := 1) (x10 := 0) (x11 := 0) (x12 := 0) (x13 := 0) (x14 := 0) (x15 := 1) h.a
  exact ⟨c0, c1, c2, c3, c4, c5, c6, c7, c8, c9, c10, c11, c12, c13, c14, c15⟩
theorem LJ.cb {w W : World} {g1 g3 g9 : Nat} (h : LJ w g1 g3 g9 W) : W.cell? ⟨g3, 0, none⟩ = some (.int .u8 0) ∧ W.cell? ⟨g3, 1, none⟩ = some (.int .u8 0) ∧ W.cell? ⟨g3, 2, none⟩ = some (.int .u8 0) ∧ W.cell? ⟨g3, 3, none⟩ = some (.int .u8 0) ∧ W.cell? ⟨g3, 4, none⟩ = some (.int .u8 0) ∧ W.cell? ⟨g3, 5, none⟩ = some (.int .u8 0) ∧ W.cell? ⟨g3, 6, none⟩ = some (.int .u8 0) ∧ W.cell? ⟨g3, 7, none⟩ = some (.int .u8 0) ∧ W.cell? ⟨g3, 8, none⟩ = some (.int .u8 0) ∧ W.cell? ⟨g3, 9, none⟩ = some (.int .u8 0) ∧ W.cell? ⟨g3, 10, none⟩ = some (.int .u8 255) ∧ W.cell? ⟨g3, 11, none⟩ = some (.int .u8 255) ∧ W.cell? ⟨g3, 12, none⟩ = some (.int .u8 1) ∧ W.cell? ⟨g3, 13, none⟩ = some (.int .u8 2) ∧ W.cell? ⟨g3, 14, none⟩ = some (.int .u8 3) ∧ W.cell? ⟨g3, 15, none⟩ = some (.int .u8 4) := by
  obtain ⟨c0, c1, c2, c3, c4, c5, c6, c7, c8, c9, c10, c11, c12, c13, c14, c15⟩ := mapped_cells (a := 1) (b := 2) (c := 3) (d := 4) h.b
  exact ⟨c0, c1, c2, c3, c4, c5, c6, c7, c8, c9, c10, c11, c12, c13, c14, c15⟩
theorem LJ.cx {w W : World} {g1 g3 g9 : Nat} (h : LJ w g1 g3 g9 W) : W.cell? ⟨g9, 0, none⟩ = some (.int .u8 1) ∧ W.cell? ⟨g9, 1, none⟩ = some (.int .u8 2) ∧ W.cell? ⟨g9, 2, none⟩ = some (.int .u8 3) ∧ W.cell? ⟨g9, 3, none⟩ = some (.int .u8 4) := by
  obtain ⟨e0, e1, e2, e3⟩ := cells4 h.x
  exact ⟨e0, e1, e2, e3⟩

set_option maxRecDepth 10000 in
set_option maxHeartbeats 6400000 in
theorem live6 (w : World) (hT : Six w) : Calls Tryd.prog 28 #[] w fun e w' => e = .returned (.bool true) ∧ Below w.heap.size w w' := by
  have HT := Lib.hid hT
  clear hT
  go_enter Tryd.func28, Tryd.ntmps28
  obtain ⟨Xa, hX⟩ : ∃ X : List Nat, X = [32, 1, 13, 184, 0, 0, 0, 0, 0, 1, 0, 0, 0, 0, 0, 1] := ⟨_, rfl⟩
  have Ea := Lib.hid hX
  have La := Lib.hid (show Xa.length = 16 from by rw [hX]; rfl)
  have sa : (bcells Xa).length = 16 := by rw [bcells_length, La.out]
  have Ca : Hid (∀ w, Bru w → MaxL w → Calls Tryd.prog 37 #[.string ⟨#[50, 48, 48, 49, 58, 68, 66, 56, 58, 58, 49, 58, 48, 58, 48, 58, 49]⟩] w fun e w' => e = .returned (.tuple #[.agg (bcells Xa).toArray, .int .i64 0]) ∧ Below w.heap.size w w') := fun w hB hm => by
    rw [hX]
    exact l6_a w hB hm
  clear hX
  obtain ⟨Xb, hX⟩ : ∃ X : List Nat, X = [0, 0, 0, 0, 0, 0, 0, 0, 0, 0, 255, 255, 1, 2, 3, 4] := ⟨_, rfl⟩
  have Eb := Lib.hid hX
  have Lb := Lib.hid (show Xb.length = 16 from by rw [hX]; rfl)
  have sb : (bcells Xb).length = 16 := by rw [bcells_length, Lb.out]
  have Cb : Hid (∀ w, Bru w → MaxL w → Calls Tryd.prog 37 #[.string ⟨#[58, 58, 102, 102, 102, 102, 58, 49, 46, 50, 46, 51, 46, 52]⟩] w fun e w' => e = .returned (.tuple #[.agg (bcells Xb).toArray, .int .i64 0]) ∧ Below w.heap.size w w') := fun w hB hm => by
    rw [hX]
    exact l6_b w hB hm
  clear hX
  obtain ⟨Xg, hX⟩ : ∃ X : List Nat, X = [0, 0, 0, 0, 0, 0, 0, 0, 0, 0, 0, 0, 0, 0, 0, 0] := ⟨_, rfl⟩
  have Eg := Lib.hid hX
  have Lg := Lib.hid (show Xg.length = 16 from by rw [hX]; rfl)
  have sg : (bcells Xg).length = 16 := by rw [bcells_length, Lg.out]
  have Cg : Hid (∀ w, Bru w → MaxL w → Calls Tryd.prog 37 #[.string ⟨#[49, 58, 50, 58, 51, 58, 52, 58, 53, 58, 54, 58, 55, 58, 58, 56]⟩] w fun e w' => e = .returned (.tuple #[.agg (bcells Xg).toArray, .int .i64 3]) ∧ Below w.heap.size w w') := fun w hB hm => by
    rw [hX]
    exact l6_g w hB hm
  clear hX
  obtain ⟨Xh, hX⟩ : ∃ X : List Nat, X = [0, 0, 0, 0, 0, 0, 0, 0, 0, 0, 0, 0, 0, 0, 0, 0] := ⟨_, rfl⟩
  have Eh := Lib.hid hX
  have Lh := Lib.hid (show Xh.length = 16 from by rw [hX]; rfl)
  have sh : (bcells Xh).length = 16 := by rw [bcells_length, Lh.out]
  have Ch : Hid (∀ w, Bru w → MaxL w → Calls Tryd.prog 37 #[.string ⟨#[58, 49, 58, 50, 58, 51, 58, 52, 58, 53, 58, 54, 58, 55]⟩] w fun e w' => e = .returned (.tuple #[.agg (bcells Xh).toArray, .int .i64 3]) ∧ Below w.heap.size w w') := fun w hB hm => by
    rw [hX]
    exact l6_h w hB hm
  clear hX
  go_wp2_with fail
  refine (Ca.out _ HT.out.bru HT.out.max).mono ?_
  rintro e w1 ⟨rfl, b1⟩
  obtain ⟨hst, hA, hb⟩ := addr_stored w1 Xa La.out
  have HT1 := Lib.hid ((HT.out.below b1).below hb)
  have BB1 := Lib.hid (below_both b1 hb)
  have Aa1 := Lib.hid hA
  clear b1 hA hb Ca La
  go_wp2_with fail
  refine (Cb.out _ HT1.out.bru HT1.out.max).mono ?_
  rintro e w2 ⟨rfl, b2⟩
  obtain ⟨hst, hA, hb⟩ := addr_stored w2 Xb Lb.out
  have Aa2 := Lib.hid ((Aa1.out.below b2).below hb)
  have HT2 := Lib.hid ((HT1.out.below b2).below hb)
  have BB2 := Lib.hid (below_both (below_both BB1.out b2) hb)
  clear HT1 BB1 Aa1
  have Ab2 := Lib.hid hA
  clear b2 hA hb Cb Lb
  go_wp2_with fail
  refine (Cg.out _ HT2.out.bru HT2.out.max).mono ?_
  rintro e w3 ⟨rfl, b3⟩
  obtain ⟨hst, hA, hb⟩ := addr_stored w3 Xg Lg.out
  have Aa3 := Lib.hid ((Aa2.out.below b3).below hb)
  have Ab3 := Lib.hid ((Ab2.out.below b3).below hb)
  have HT3 := Lib.hid ((HT2.out.below b3).below hb)
  have BB3 := Lib.hid (below_both (below_both BB2.out b3) hb)
  clear HT2 BB2 Aa2 Ab2
  clear b3 hA hb Cg Lg
  go_wp2_with fail
  refine (Ch.out _ HT3.out.bru HT3.out.max).mono ?_
  rintro e w4 ⟨rfl, b4⟩
  obtain ⟨hst, hA, hb⟩ := addr_stored w4 Xh Lh.out
  have Aa4 := Lib.hid ((Aa3.out.below b4).below hb)
  have Ab4 := Lib.hid ((Ab3.out.below b4).below hb)
  have HT4 := Lib.hid ((HT3.out.below b4).below hb)
  have BB4 := Lib.hid (below_both (below_both BB3.out b4) hb)
  clear HT3 BB3 Aa3 Ab3
  clear b4 hA hb Ch Lh
  go_upto_region 5 with fail
  clear hst
  generalize (w4.alloc (.cells #[.int .u8 0, .int .u8 0, .int .u8 0, .int .u8 0, .int .u8 0, .int .u8 0, .int .u8 0, .int .u8 0, .int .u8 0, .int .u8 0, .int .u8 0, .int .u8 0, .int .u8 0, .int .u8 0, .int .u8 0, .int .u8 0] 37)).setCells w4.heap.size 0 (bcells Xh) = W4 at *
  generalize w1.heap.size = g1 at *
  generalize w2.heap.size = g3 at *
  have A1 := Aa4.out
  have A3 := Ab4.out
  rw [Ea.out] at A1
  rw [Eb.out] at A3
  have A1 := Lib.hid A1
  have A3 := Lib.hid A3
  have HT := HT4
  have BB := BB4
  clear HT4 BB4
  clear Aa4 Ab4 Ea Eb Eg Eh
  obtain ⟨c0, c1, c2, c3, c4, c5, c6, c7, c8, c9, c10, c11, c12, c13, c14, c15⟩ := mapped_cells (a := 1) (b := 2) (c := 3) (d := 4) A3.out
  go_wp2_with fail
  refine (l6_un _).mono ?_
  rintro e w5 ⟨rfl, b5⟩
  clear c0 c1 c2 c3 c4 c5 c6 c7 c8 c9 c10 c11 c12 c13 c14 c15
  have J : Hid (LJ w g1 g3 w5.heap.size (w5.alloc (.cells #[.int .u8 1, .int .u8 2, .int .u8 3, .int .u8 4] 38))) :=
    ⟨(A1.out.below b5).alloc _, (A3.out.below b5).alloc _, ArrV.new _ w5 _, (HT.out.below b5).bru.below ((Below.refl _ _).alloc (Nat.le_refl _) _), (below_both BB.out b5).alloc (below_both BB.out b5).size _⟩
  clear A1 A3 HT BB b5
  go_upto_region 6 with fail
  generalize w5.alloc (.cells #[.int .u8 1, .int .u8 2, .int .u8 3, .int .u8 4] 38) = W5 at *
  generalize w5.heap.size = g9 at *
  have hsame := l6_same
  have hs4 : same4 1 2 3 4 1 2 3 4 = true := by simp [same4]
  refine wp_quiet_l6 (C := LJ w g1 g3 g9) (by kernel_rfl) (by kernel_rfl) J.out.drew ?_
  go_big_quiet_want
  go_big_quiet_op
  first | go_big_quiet_on | (apply Exists.intro; refine ⟨fun w' hw' => rfl, ?_⟩; go_big_quiet_on)
  go_big_quiet_want
  go_big_quiet_op
  first | go_big_quiet_on | (apply Exists.intro; refine ⟨fun w' hw' => rfl, ?_⟩; go_big_quiet_on)
  go_big_quiet_want
  go_big_quiet_op
  first | go_big_quiet_on | (apply Exists.intro; refine ⟨fun w' hw' => rfl, ?_⟩; go_big_quiet_on)
  go_big_quiet_want
  apply Exists.intro
  refine ⟨fun w' hw' => ?_, ?_⟩
  · exact quietAt_load rfl rfl ty16 (show ArrV _ w' g1 [.int .u8 32, .int .u8 1, .int .u8 13, .int .u8 184, .int .u8 0, .int .u8 0, .int .u8 0, .int .u8 0, .int .u8 0, .int .u8 1, .int .u8 0, .int .u8 0, .int .u8 0, .int .u8 0, .int .u8 0, .int .u8 1] from hw'.a) rfl
  simp only [Act.put, List.setIfInBounds_toArray, List.set_cons_zero, List.set_cons_succ]
  go_big_quiet_on
  go_big_quiet_want
  go_big_quiet_op
  apply Exists.intro
  refine ⟨fun w' hw' => ?_, ?_⟩
  · refine (l6_pa _ hw'.bru).mono ?_
    rintro e w'' ⟨rfl, hb⟩
    exact ⟨rfl, hw'.below hb⟩
  go_big_quiet_on
  go_big_quiet_want
  go_big_quiet_op
  first | go_big_quiet_on | (apply Exists.intro; refine ⟨fun w' hw' => rfl, ?_⟩; go_big_quiet_on)
  go_big_quiet_want
  go_big_quiet_op
  first | go_big_quiet_on | (apply Exists.intro; refine ⟨fun w' hw' => rfl, ?_⟩; go_big_quiet_on)
  go_big_quiet_want
  go_big_quiet_op
  first | go_big_quiet_on | (apply Exists.intro; refine ⟨fun w' hw' => rfl, ?_⟩; go_big_quiet_on)
  go_big_quiet_want
  go_big_quiet_op
  first | go_big_quiet_on | (apply Exists.intro; refine ⟨fun w' hw' => rfl, ?_⟩; go_big_quiet_on)
  go_big_quiet_want
  go_big_quiet_op
  first | go_big_quiet_on | (apply Exists.intro; refine ⟨fun w' hw' => rfl, ?_⟩; go_big_quiet_on)
  go_big_quiet_want
  go_big_quiet_op
  first | go_big_quiet_on | (apply Exists.intro; refine ⟨fun w' hw' => rfl, ?_⟩; go_big_quiet_on)
  go_big_quiet_want
  go_big_quiet_op
  first | go_big_quiet_on | (apply Exists.intro; refine ⟨fun w' hw' => rfl, ?_⟩; go_big_quiet_on)
  go_big_quiet_want
  apply Exists.intro
  refine ⟨fun w' hw' => ?_, ?_⟩
  · exact quietAt_load rfl rfl ty16 (show ArrV _ w' g3 [.int .u8 0, .int .u8 0, .int .u8 0, .int .u8 0, .int .u8 0, .int .u8 0, .int .u8 0, .int .u8 0, .int .u8 0, .int .u8 0, .int .u8 255, .int .u8 255, .int .u8 1, .int .u8 2, .int .u8 3, .int .u8 4] from hw'.b) rfl
  simp only [Act.put, List.setIfInBounds_toArray, List.set_cons_zero, List.set_cons_succ]
  go_big_quiet_on
  go_big_quiet_want
  go_big_quiet_op
  apply Exists.intro
  refine ⟨fun w' hw' => ?_, ?_⟩
  · refine (l6_pb _ hw'.bru).mono ?_
    rintro e w'' ⟨rfl, hb⟩
    exact ⟨rfl, hw'.below hb⟩
  go_big_quiet_on
  go_big_quiet_want
  go_big_quiet_op
  first | go_big_quiet_on | (apply Exists.intro; refine ⟨fun w' hw' => rfl, ?_⟩; go_big_quiet_on)
  go_big_quiet_want
  go_big_quiet_op
  first | go_big_quiet_on | (apply Exists.intro; refine ⟨fun w' hw' => rfl, ?_⟩; go_big_quiet_on)
  go_big_quiet_want
  go_big_quiet_op
  first | go_big_quiet_on | (apply Exists.intro; refine ⟨fun w' hw' => rfl, ?_⟩; go_big_quiet_on)
  go_big_quiet_want
  go_big_quiet_op
  first | go_big_quiet_on | (apply Exists.intro; refine ⟨fun w' hw' => rfl, ?_⟩; go_big_quiet_on)
  go_big_quiet_want
  go_big_quiet_op
  first | go_big_quiet_on | (apply Exists.intro; refine ⟨fun w' hw' => rfl, ?_⟩; go_big_quiet_on)
  go_big_quiet_want
  go_big_quiet_op
  first | go_big_quiet_on | (apply Exists.intro; refine ⟨fun w' hw' => rfl, ?_⟩; go_big_quiet_on)
  go_big_quiet_want
  go_big_quiet_op
  first | go_big_quiet_on | (apply Exists.intro; refine ⟨fun w' hw' => rfl, ?_⟩; go_big_quiet_on)
  go_big_quiet_want
  go_big_quiet_op
  first | go_big_quiet_on | (apply Exists.intro; refine ⟨fun w' hw' => rfl, ?_⟩; go_big_quiet_on)
  go_big_quiet_want
  go_big_quiet_op
  first | go_big_quiet_on | (apply Exists.intro; refine ⟨fun w' hw' => rfl, ?_⟩; go_big_quiet_on)
  go_big_quiet_want
  go_big_quiet_op
  first | go_big_quiet_on | (apply Exists.intro; refine ⟨fun w' hw' => rfl, ?_⟩; go_big_quiet_on)
  go_big_quiet_want
  go_big_quiet_op
  first | go_big_quiet_on | (apply Exists.intro; refine ⟨fun w' hw' => rfl, ?_⟩; go_big_quiet_on)
  go_big_quiet_want
  go_big_quiet_op
  first | go_big_quiet_on | (apply Exists.intro; refine ⟨fun w' hw' => rfl, ?_⟩; go_big_quiet_on)
  go_big_quiet_want
  go_big_quiet_op
  first | go_big_quiet_on | (apply Exists.intro; refine ⟨fun w' hw' => rfl, ?_⟩; go_big_quiet_on)
  go_big_quiet_want
  go_big_quiet_op
  first | go_big_quiet_on | (apply Exists.intro; refine ⟨fun w' hw' => rfl, ?_⟩; go_big_quiet_on)
  go_big_quiet_want
  apply Exists.intro
  refine ⟨fun w' hw' => ?_, ?_⟩
  · exact quietAt_load rfl rfl ty4 (show ArrV _ w' g9 [.int .u8 1, .int .u8 2, .int .u8 3, .int .u8 4] from hw'.x) rfl
  simp only [Act.put, List.setIfInBounds_toArray, List.set_cons_zero, List.set_cons_succ]
  go_big_quiet_on
  go_big_quiet_want
  go_big_quiet_op
  first | go_big_quiet_on | (apply Exists.intro; refine ⟨fun w' hw' => rfl, ?_⟩; go_big_quiet_on)
  go_big_quiet_want
  go_big_quiet_op
  first | go_big_quiet_on | (apply Exists.intro; refine ⟨fun w' hw' => rfl, ?_⟩; go_big_quiet_on)
  go_big_quiet_want
  go_big_quiet_op
  first | go_big_quiet_on | (apply Exists.intro; refine ⟨fun w' hw' => rfl, ?_⟩; go_big_quiet_on)
  go_big_quiet_want
  go_big_quiet_op
  first | go_big_quiet_on | (apply Exists.intro; refine ⟨fun w' hw' => rfl, ?_⟩; go_big_quiet_on)
  go_big_quiet_want
  apply Exists.intro
  refine ⟨fun w' hw' => ?_, ?_⟩
  · exact quietAt_load rfl rfl ty16 (show ArrV _ w' g1 [.int .u8 32, .int .u8 1, .int .u8 13, .int .u8 184, .int .u8 0, .int .u8 0, .int .u8 0, .int .u8 0, .int .u8 0, .int .u8 1, .int .u8 0, .int .u8 0, .int .u8 0, .int .u8 0, .int .u8 0, .int .u8 1] from hw'.a) rfl
  simp only [Act.put, List.setIfInBounds_toArray, List.set_cons_zero, List.set_cons_succ]
  go_big_quiet_on
  go_big_quiet_want
  go_big_quiet_op
  apply Exists.intro
  refine ⟨fun w' hw' => ?_, ?_⟩
  · refine (l6_g1 _).mono ?_
    rintro e w'' ⟨rfl, hb⟩
    exact ⟨rfl, hw'.below hb⟩
  go_big_quiet_on
  go_big_quiet_want
  go_big_quiet_op
  first | go_big_quiet_on | (apply Exists.intro; refine ⟨fun w' hw' => rfl, ?_⟩; go_big_quiet_on)
  go_big_quiet_want
  go_big_quiet_op
  first | go_big_quiet_on | (apply Exists.intro; refine ⟨fun w' hw' => rfl, ?_⟩; go_big_quiet_on)
  go_big_quiet_want
  go_big_quiet_op
  first | go_big_quiet_on | (apply Exists.intro; refine ⟨fun w' hw' => rfl, ?_⟩; go_big_quiet_on)
  go_big_quiet_want
  apply Exists.intro
  refine ⟨fun w' hw' => ?_, ?_⟩
  · exact quietAt_load rfl rfl ty16 (show ArrV _ w' g1 [.int .u8 32, .int .u8 1, .int .u8 13, .int .u8 184, .int .u8 0, .int .u8 0, .int .u8 0, .int .u8 0, .int .u8 0, .int .u8 1, .int .u8 0, .int .u8 0, .int .u8 0, .int .u8 0, .int .u8 0, .int .u8 1] from hw'.a) rfl
  simp only [Act.put, List.setIfInBounds_toArray, List.set_cons_zero, List.set_cons_succ]
  go_big_quiet_on
  go_big_quiet_want
  go_big_quiet_op
  apply Exists.intro
  refine ⟨fun w' hw' => ?_, ?_⟩
  · refine (l6_g8 _).mono ?_
    rintro e w'' ⟨rfl, hb⟩
    exact ⟨rfl, hw'.below hb⟩
  go_big_quiet_on
  go_big_quiet_want
  go_big_quiet_op
  first | go_big_quiet_on | (apply Exists.intro; refine ⟨fun w' hw' => rfl, ?_⟩; go_big_quiet_on)
  go_big_quiet_want
  go_big_quiet_op
  first | go_big_quiet_on | (apply Exists.intro; refine ⟨fun w' hw' => rfl, ?_⟩; go_big_quiet_on)
  go_big_quiet_want
  go_big_quiet_op
  first | go_big_quiet_on | (apply Exists.intro; refine ⟨fun w' hw' => rfl, ?_⟩; go_big_quiet_on)
  go_big_quiet_want
  go_big_quiet_op
  first | go_big_quiet_on | (apply Exists.intro; refine ⟨fun w' hw' => rfl, ?_⟩; go_big_quiet_on)
  go_big_quiet_want
  go_big_quiet_op
  apply Exists.intro
  refine ⟨fun w' hw' => ?_, ?_⟩
  · refine (l6_pz _ hw'.bru).mono ?_
    rintro e w'' ⟨rfl, hb⟩
    exact ⟨rfl, hw'.below hb⟩
  go_big_quiet_on
  go_big_quiet_want
  go_big_quiet_op
  first | go_big_quiet_on | (apply Exists.intro; refine ⟨fun w' hw' => rfl, ?_⟩; go_big_quiet_on)
  go_big_quiet_want
  go_big_quiet_op
  first | go_big_quiet_on | (apply Exists.intro; refine ⟨fun w' hw' => rfl, ?_⟩; go_big_quiet_on)
  go_big_quiet_want
  go_big_quiet_op
  first | go_big_quiet_on | (apply Exists.intro; refine ⟨fun w' hw' => rfl, ?_⟩; go_big_quiet_on)
  go_big_quiet_want
  apply Exists.intro
  refine ⟨fun w' hw' => ?_, ?_⟩
  · exact quietAt_load rfl rfl ty16 (show ArrV _ w' g3 [.int .u8 0, .int .u8 0, .int .u8 0, .int .u8 0, .int .u8 0, .int .u8 0, .int .u8 0, .int .u8 0, .int .u8 0, .int .u8 0, .int .u8 255, .int .u8 255, .int .u8 1, .int .u8 2, .int .u8 3, .int .u8 4] from hw'.b) rfl
  simp only [Act.put, List.setIfInBounds_toArray, List.set_cons_zero, List.set_cons_succ]
  go_big_quiet_on
  go_big_quiet_want
  go_big_quiet_op
  apply Exists.intro
  refine ⟨fun w' hw' => ?_, ?_⟩
  · refine (l6_sort _).mono ?_
    rintro e w'' ⟨rfl, hb⟩
    exact ⟨rfl, hw'.below hb⟩
  go_big_quiet_on
  go_big_quiet_want
  go_big_quiet_op
  first | go_big_quiet_on | (apply Exists.intro; refine ⟨fun w' hw' => rfl, ?_⟩; go_big_quiet_on)
  go_big_quiet_want
  go_big_quiet_op
  first | go_big_quiet_on | (apply Exists.intro; refine ⟨fun w' hw' => rfl, ?_⟩; go_big_quiet_on)
  go_big_quiet_want
  go_big_quiet_op
  first | go_big_quiet_on | (apply Exists.intro; refine ⟨fun w' hw' => rfl, ?_⟩; go_big_quiet_on)
  go_big_quiet_want
  apply Exists.intro
  refine ⟨fun w' hw' => ?_, ?_⟩
  · exact quietAt_load rfl rfl ty4 (show ArrV _ w' g9 [.int .u8 1, .int .u8 2, .int .u8 3, .int .u8 4] from hw'.x) rfl
  simp only [Act.put, List.setIfInBounds_toArray, List.set_cons_zero, List.set_cons_succ]
  go_big_quiet_on
  go_big_quiet_want
  go_big_quiet_op
  apply Exists.intro
  refine ⟨fun w' hw' => ?_, ?_⟩
  · refine (l6_map _).mono ?_
    rintro e w'' ⟨rfl, hb⟩
    exact ⟨rfl, hw'.below hb⟩
  go_big_quiet_on
  go_big_quiet_want
  apply Exists.intro
  refine ⟨fun w' hw' => ?_, ?_⟩
  · exact quietAt_load rfl rfl ty16 (show ArrV _ w' g3 [.int .u8 0, .int .u8 0, .int .u8 0, .int .u8 0, .int .u8 0, .int .u8 0, .int .u8 0, .int .u8 0, .int .u8 0, .int .u8 0, .int .u8 255, .int .u8 255, .int .u8 1, .int .u8 2, .int .u8 3, .int .u8 4] from hw'.b) rfl
  simp only [Act.put, List.setIfInBounds_toArray, List.set_cons_zero, List.set_cons_succ]
  go_big_quiet_on
  go_big_quiet_want
  go_big_quiet_op
  first | go_big_quiet_on | (apply Exists.intro; refine ⟨fun w' hw' => rfl, ?_⟩; go_big_quiet_on)
  go_big_quiet_want
  go_big_quiet_op
  first | go_big_quiet_on | (apply Exists.intro; refine ⟨fun w' hw' => rfl, ?_⟩; go_big_quiet_on)
  go_big_quiet_want
  go_big_quiet_op
  first | go_big_quiet_on | (apply Exists.intro; refine ⟨fun w' hw' => rfl, ?_⟩; go_big_quiet_on)
  refine wpQuiet_nil ?_
  intro w' hw'
  have BB := Lib.hid hw'.bel
  clear hw' J hsame
  go_wp2_with fail
  go_ret
  exact ⟨by simp, BB.out⟩
end Go.Proofs.YtdeoeikpooonlaaDoor
