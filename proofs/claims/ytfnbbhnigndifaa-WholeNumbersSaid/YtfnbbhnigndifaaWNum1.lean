/-
  What WholeNumbers reads of sixteen bytes; what must come, whatever the arguments are.
-/
import Derived.Test.YtfnbbhnigndifaaWNPlain
import Derived.Test.YtfnbbhnigndifaaOwn
import Derived.Test.YtfnbbhnigndifaaOct2
import Derived.Test.YtfnbbhnigndifaaWid1
import Derived.Test.YtfnbbhnigndifaaOLift
import Derived.Deep.MidRow
namespace Go.Proofs.Ytfnbbhnigndifaa
open Go.RowKit
set_option linter.unusedVariables false

/-- Block g is an array of sixteen bytes. -/
def Arr16 (W : World) (g : Nat) (bs : List Nat) : Prop := W.heap[g]? = some (.cells (bcells bs).toArray 30 (0, 0))
theorem Arr16.cell {W : World} {g : Nat} {bs : List Nat} (h : Arr16 W g bs) (i : Nat) (hi : i < bs.length) : W.cell? ⟨g, i, none⟩ = some (.int .u8 (bs.getD i 0 : Nat)) := by
  rw [cell_of_row W g i _ _ _ h]
  simp [bcells, hi]
theorem Arr16.frozen {W : World} {g : Nat} {bs : List Nat} (h : Arr16 W g bs) (i : Nat) : W.frozen? ⟨g, i, none⟩ = false := frozen_of_row W g i _ _ h
theorem Arr16.lt {W : World} {g : Nat} {bs : List Nat} (h : Arr16 W g bs) : g < W.heap.size := by
  rcases Nat.lt_or_ge g W.heap.size with hlt | hge
  · exact hlt
  · unfold Arr16 at h; rw [Array.getElem?_eq_none hge] at h; cases h
theorem Arr16.below {W W' : World} {g : Nat} {bs : List Nat} (h : Arr16 W g bs) (hb : Below W.heap.size W W') : Arr16 W' g bs := (hb.block g h.lt).trans h
theorem Arr16.alloc {W : World} {g : Nat} {bs : List Nat} (h : Arr16 W g bs) (o : Obj) : Arr16 (W.alloc o) g bs := (Below.heap_alloc W o g h.lt).trans h
theorem Arr16.set {W : World} {g : Nat} {bs : List Nat} (h : Arr16 W g bs) (i x : Nat) : Arr16 (W.setCell ⟨g, i, none⟩ (.int .u8 (x : Nat))) g (bs.set i x) := by
  have h1 := heap_setCell_same W g i _ _ (.int .u8 (x : Nat)) h
  unfold Arr16
  rw [h1]
  simp [bcells, List.map_set]
theorem Arr16.other {W : World} {g : Nat} {bs : List Nat} (h : Arr16 W g bs) (p : Addr) (v : Value) (hp : p.block ≠ g) : Arr16 (W.setCell p v) g bs := (heap_setCell_other W p g v (Ne.symm hp)).trans h
theorem Arr16.row {W : World} {g : Nat} {bs : List Nat} (h : Arr16 W g bs) (hl : bs.length = 16) (hb : ∀ x ∈ bs, x < 256) : Row W (some ⟨g, 0, none⟩) 16 bs :=
  Row.mk hl hb fun i hi => by rw [Nat.zero_add]; exact h.cell i (by omega)
theorem arr16_size : (Try.prog.info? 30).map (·.size) = some 16 := by kernel_rfl
theorem Arr16.loadAt {W : World} {g : Nat} {bs : List Nat} (h : Arr16 W g bs) (hl : bs.length = 16) : (Instr.loadAt 30 (.pointer (some ⟨g, 0, none⟩))).run Try.prog W = .ok (.agg (bcells bs).toArray) W :=
  run_loadAt_mid W g 0 30 _ _ (fun j v hv => by
    obtain ⟨hj, rfl⟩ := bcells_get hv
    rw [Nat.zero_add]
    exact h.cell j hj) Try.underlying30 rfl (by rw [bcells_length, hl]; exact arr16_size)

/-- The load of a whole row, at the list of a plain region's operations. -/
theorem wpList_load_16 {ops : Array Oper} {rest : List Oper} {op : Oper} {a : Act} {w : World} {Q : Exit → Act → World → Prop} (hgd : op.guard = none) (x : Operand) (ho : op.op = .load 30 x)
    (g : Nat) (hx : a.eval x = .pointer (some ⟨g, 0, none⟩)) {bs : List Nat} (h : Arr16 w g bs) (hl : bs.length = 16) (hk : wpList Try.prog ops Q rest (a.put op.dst (.agg (bcells bs).toArray)) w) : wpList Try.prog ops Q (op :: rest) a w :=
  wpList_load_mid hgd 30 x ho g 0 hx (bcells bs) _ (fun j v hv => by
    obtain ⟨hj, rfl⟩ := bcells_get hv
    rw [Nat.zero_add]
    exact h.cell j hj) Try.underlying30 rfl (by rw [bcells_length, hl]; exact arr16_size) hk

set_option maxHeartbeats 1600000 in
theorem read_any (X : List Nat) (hi lo : Nat) (w : World) (hX : X.length = 16) (bX : ∀ x ∈ X, x < 256) (hh : Hid (hi = be (X.take 8))) (hl : Hid (lo = be (X.drop 8))) :
    Calls Try.prog 7 #[.agg (bcells X).toArray] w fun e w' => e = .returned (.tuple #[.agg #[.int .u64 hi, .int .u64 lo], .bool true]) ∧ Below w.heap.size w w' := by
  have hs : (bcells X).length = 16 := by rw [bcells_length, hX]
  have HA : Hid (Arr16 ((w.alloc (.cells (bcells X).toArray 30)).alloc (.cells #[.int .u64 0, .int .u64 0] 33)) w.heap.size X) := heap_alloc2_old w _ _
  have HR := Lib.hid (HA.out.row hX bX)
  have C1 : Hid (Calls Try.prog 8 #[.slice (some ⟨w.heap.size, 0, none⟩) 16 16, .int .i64 0, .int .i64 8] ((w.alloc (.cells (bcells X).toArray 30)).alloc (.cells #[.int .u64 0, .int .u64 0] 33)) fun e w' => e = .returned (.tuple #[.int .u64 hi, .int .i64 0]) ∧ ((w.alloc (.cells (bcells X).toArray 30)).alloc (.cells #[.int .u64 0, .int .u64 0] 33)) = w') := by
    have h := get_ok (some ⟨w.heap.size, 0, none⟩) 16 16 0 8 X _ (by decide) (by decide) (by decide) (by decide) (by decide) HR.out
    have e : be ((X.drop 0).take 8) = hi := by rw [hh.out]; rfl
    rw [e] at h
    exact h
  have C2 : Hid (Calls Try.prog 8 #[.slice (some ⟨w.heap.size, 0, none⟩) 16 16, .int .i64 8, .int .i64 8] ((w.alloc (.cells (bcells X).toArray 30)).alloc (.cells #[.int .u64 0, .int .u64 0] 33)) fun e w' => e = .returned (.tuple #[.int .u64 lo, .int .i64 0]) ∧ ((w.alloc (.cells (bcells X).toArray 30)).alloc (.cells #[.int .u64 0, .int .u64 0] 33)) = w') := by
    have h := get_ok (some ⟨w.heap.size, 0, none⟩) 16 16 8 8 X _ (by decide) (by decide) (by decide) (by decide) (by decide) HR.out
    have e : be ((X.drop 8).take 8) = lo := by rw [hl.out, List.take_of_length_le (by rw [List.length_drop]; omega)]
    rw [e] at h
    exact h
  clear HA HR
  go_enter Try.func7, Try.ntmps7
  go_wp2_with fail
  refine C1.out.mono ?_
  rintro e w1 ⟨rfl, rfl⟩
  go_wp2_with fail
  refine C2.out.mono ?_
  rintro e w1 ⟨rfl, rfl⟩
  go_wp2_with fail
  exact bodyPost_ret (v := .tuple #[.agg #[.int .u64 hi, .int .u64 lo], .bool true]) (by simp [results, Try.results7, go_sem]) rfl ⟨rfl, ((Below.refl _ _).alloc (Nat.le_refl _) _).alloc (by simp) _⟩

theorem awake_get (A : Option Addr) (w : World) (h : Row w A 2 [1, 2]) : Calls Try.prog 8 #[.slice A 2 2, .int .i64 0, .int .i64 2] w fun e w' => e = .returned (.tuple #[.int .u64 258, .int .i64 0]) ∧ w = w' :=
  get_ok A 2 2 0 2 [1, 2] w (by decide) (by decide) (by decide) (by decide) (by decide) h
theorem awake_full (w : World) : Calls Try.prog 28 #[.int .u64 18446744073709551615] w fun e w' => e = .returned (.agg #[.int .u64 0, .int .u64 18446744073709551615]) ∧ Below w.heap.size w w' := of_any 18446744073709551615 w
theorem awake_one (w : World) : Calls Try.prog 28 #[.int .u64 1] w fun e w' => e = .returned (.agg #[.int .u64 0, .int .u64 1]) ∧ Below w.heap.size w w' := of_any 1 w
theorem awake_add (w : World) : Calls Try.prog 9 #[.agg #[.int .u64 0, .int .u64 18446744073709551615], .agg #[.int .u64 0, .int .u64 1]] w fun e w' => e = .returned (.tuple #[.agg #[.int .u64 1, .int .u64 0], .bool false]) ∧ Below w.heap.size w w' :=
  add_raw 0 18446744073709551615 0 1 18446744073709551616 false w (by decide) (by decide) (by decide) (by decide) (by rfl) (by rfl)
theorem awake_any (w : World) : Calls Try.prog 13 #[] w fun e w' => e = .returned (.bool true) ∧ Below w.heap.size w w' := by
  have hR : Row (w.alloc (.cells #[.int .u8 1, .int .u8 2] 5)) (some ⟨w.heap.size, 0, none⟩) 2 [1, 2] := Own.row (g := w.heap.size) (bs := [1, 2]) (heap_alloc_new w _) (by simp)
  have C1 := Lib.hid (awake_get _ _ hR)
  have B1 : Hid (Below w.heap.size w (w.alloc (.cells #[.int .u8 1, .int .u8 2] 5))) := (Below.refl _ _).alloc (Nat.le_refl _) _
  clear hR
  go_enter Try.func13, Try.ntmps13
  go_wp2_with fail
  refine C1.out.mono ?_
  rintro e w1 ⟨rfl, rfl⟩
  go_wp2_with fail
  refine (awake_full _).mono ?_
  rintro e w2 ⟨rfl, b2⟩
  have B2 := Lib.hid (below_both B1.out b2)
  clear b2 B1
  go_wp2_with fail
  refine (awake_one _).mono ?_
  rintro e w3 ⟨rfl, b3⟩
  have B3 := Lib.hid (below_both B2.out b3)
  clear b3 B2
  go_wp2_with fail
  refine (awake_add _).mono ?_
  rintro e w4 ⟨rfl, b4⟩
  have B4 := Lib.hid (below_both B3.out b4)
  have B5 := Lib.hid (B4.out.alloc B4.out.size (.cells #[.int .u64 1, .int .u64 0] 33))
  clear b4 B3
  go_wp2_with fail
  go_ret
  exact ⟨by simp, B5.out⟩
end Go.Proofs.Ytfnbbhnigndifaa
