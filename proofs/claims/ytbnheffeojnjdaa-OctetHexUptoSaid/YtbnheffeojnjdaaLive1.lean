/-
  The examples of layer 1 come out as they must, in whatever world: the contract of weighbridgelaw01.live.
-/
import Derived.Test.YtbnheffeojnjdaaOct5
import Derived.Test.YtbnheffeojnjdaaOct8
import Derived.Test.YtbnheffeojnjdaaOct9
namespace Go.Proofs.Ytbnheffeojnjdaa
open Go.RowKit
set_option linter.unusedVariables false

theorem new_row (w : World) (bs : List Nat) (cs : Array Value) (n g : Nat) (hcs : cs = (bcells bs).toArray) (hb : ∀ x ∈ bs, x < 256) (hn : bs.length = n) (hg : w.heap.size = g) :
    Row (w.alloc (.cells cs 5)) (some ⟨g, 0, none⟩) n bs := by
  subst hcs hn hg
  exact (Own.new w bs).row hb
theorem conv_is {w : World} {A : Option Addr} {n c : Nat} {bs : List Nat} {s : ByteArray} (h : Row w A n bs) (hs : str bs = s) : (convert 22 9 (.slice A n c)).run Try.prog w = .ok (.string s) w := by
  rw [← hs]; exact conv_str h

theorem l1_get (A : Option Addr) (w : World) (h : Row w A 4 [9, 1, 2, 9]) : Calls Try.prog 14 #[.slice A 4 4, .int .i64 1, .int .i64 2] w fun e w' => e = .returned (.tuple #[.int .u64 258, .int .i64 0]) ∧ w = w' :=
  get_ok A 4 4 1 2 [9, 1, 2, 9] w (by decide) (by decide) (by decide) (by decide) (by decide) h
theorem l1_short (A : Option Addr) (w : World) : Calls Try.prog 14 #[.slice A 1 1, .int .i64 0, .int .i64 2] w fun e w' => e = .returned (.tuple #[.int .u64 0, .int .i64 2]) ∧ w = w' :=
  get_short A 1 1 0 2 w (by decide) (by decide) (by decide) (by decide) (by decide)
theorem l1_put (A : Option Addr) (w : World) (h : Row w A 3 [9, 9, 9]) : Calls Try.prog 21 #[.slice A 3 3, .int .i64 1, .int .i64 2, .int .u64 258] w fun e w' =>
    e = .returned (.tuple #[.slice (some ⟨w.heap.size, 0, none⟩) 3 3, .int .i64 0]) ∧ Row w' (some ⟨w.heap.size, 0, none⟩) 3 [9, 1, 2] ∧ Below w.heap.size w w' :=
  (put_ok A 3 3 258 1 2 [9, 9, 9] w (by decide) (by decide) (by decide) (by decide) (by decide) (by decide) h).mono fun e w' ⟨h1, h2, h3⟩ => ⟨h1, h2.row (by decide), h3⟩
theorem l1_big (A : Option Addr) (w : World) : Calls Try.prog 21 #[.slice A 1 1, .int .i64 0, .int .i64 1, .int .u64 256] w fun e w' => e = .returned (.tuple #[.slice none 0 0, .int .i64 1]) ∧ w = w' :=
  put_big A 1 1 256 0 1 w (by decide) (by decide) (by decide)
theorem l1_cut (A : Option Addr) (w : World) (h : Row w A 3 [1, 2, 3]) : Calls Try.prog 16 #[.slice A 3 3, .int .i64 1, .int .i64 2] w fun e w' =>
    e = .returned (.tuple #[.slice (some ⟨w.heap.size, 0, none⟩) 2 2, .int .i64 0]) ∧ Row w' (some ⟨w.heap.size, 0, none⟩) 2 [2, 3] ∧ Below w.heap.size w w' :=
  (cut_ok A 3 3 1 2 [1, 2, 3] w (by decide) (by decide) (by decide) h).mono fun e w' ⟨h1, h2, h3⟩ => ⟨h1, h2.row (by decide), h3⟩
theorem l1_unhex (w : World) : Calls Try.prog 29 #[.string ⟨#[48, 97, 102, 102]⟩] w fun e w' =>
    e = .returned (.tuple #[.slice (some ⟨w.heap.size + 1, 0, none⟩) 2 2, .agg #[.int .i64 0, .int .i64 0]]) ∧ Row w' (some ⟨w.heap.size + 1, 0, none⟩) 2 [10, 255] ∧ Below w.heap.size w w' :=
  (unhex_ok ⟨#[48, 97, 102, 102]⟩ w (by decide) (by decide) (fun j hj => by
    have : j < 4 := hj
    match j, this with
    | 0, _ => decide
    | 1, _ => decide
    | 2, _ => decide
    | 3, _ => decide)).mono fun e w' ⟨h1, h2, h3⟩ => ⟨h1, h2.row (by decide), h3⟩
theorem l1_form (w : World) : Calls Try.prog 29 #[.string ⟨#[48, 97, 70]⟩] w fun e w' =>
    e = .returned (.tuple #[.slice none 0 0, .agg #[.int .i64 3, .int .i64 2]]) ∧ Below w.heap.size w w' :=
  unhex_bad ⟨#[48, 97, 70]⟩ 2 w (by decide) (by decide) (fun j hj => by
    match j, hj with
    | 0, _ => decide
    | 1, _ => decide) (by decide)
theorem l1_bits (w : World) : Calls Try.prog 23 #[.int .u64 184, .int .i64 2, .int .i64 6] w (Quiet (.int .u64 46) w) :=
  bits_ok 184 2 6 w (by decide) (by decide) (by decide)
theorem l1_setbits (w : World) : Calls Try.prog 25 #[.int .u64 3, .int .i64 2, .int .i64 6, .int .u64 10] w fun e w' => e = .returned (.int .u64 43) ∧ w = w' :=
  setbits_ok 3 2 6 10 w (by decide) (by decide) (by decide)
theorem l1_hex (A : Option Addr) (w : World) (h : Row w A 2 [10, 255]) : Calls Try.prog 27 #[.slice A 2 2] w fun e w' => e = .returned (.string ⟨#[48, 97, 102, 102]⟩) ∧ Below w.heap.size w w' :=
  hex_ok A 2 2 [10, 255] w (by decide) h

set_option maxHeartbeats 400000 in
theorem live1 (w : World) : Calls Try.prog 18 #[] w fun e w' => e = .returned (.bool true) ∧ Below w.heap.size w w' := by
  go_enter Try.func18, Try.ntmps18
  go_wp2_with fail
  refine (l1_get _ _ (by exact new_row _ [9, 1, 2, 9] _ _ _ rfl (by decide) rfl (by simp))).mono ?_
  rintro e w1 ⟨rfl, rfl⟩
  go_wp2_with fail
  refine (l1_put _ _ (by exact new_row _ [9, 9, 9] _ _ _ rfl (by decide) rfl (by simp))).mono ?_
  rintro e w2 ⟨rfl, r2, h2⟩
  have r2 : Row w2 (some ⟨w.heap.size + 1 + 1, 0, none⟩) 3 [9, 1, 2] := by simpa using r2
  have h2 := below_al2 h2
  have R2 := Lib.hid r2
  have H2 := Lib.hid h2
  clear r2 h2
  go_wp2_with fail
  refine (l1_big _ _).mono ?_
  rintro e w3 ⟨rfl, rfl⟩
  go_wp2_with fail
  refine (l1_short _ _).mono ?_
  rintro e w4 ⟨rfl, rfl⟩
  go_wp2_with fail
  refine (l1_cut _ _ (by exact new_row _ [1, 2, 3] _ _ _ rfl (by decide) rfl (by simp))).mono ?_
  rintro e w5 ⟨rfl, r5, h5⟩
  have r5 : Row w5 (some ⟨w2.heap.size + 1 + 1 + 1, 0, none⟩) 2 [2, 3] := by simpa using r5
  have h5 := below_al3 h5
  have R2 := Lib.hid (R2.out.below h5)
  have H5 := Lib.hid (below_both H2.out h5)
  have R5 := Lib.hid r5
  clear r5 h5 H2
  go_wp2_with fail
  refine (l1_unhex _).mono ?_
  rintro e w6 ⟨rfl, r6, h6⟩
  have R2 := Lib.hid (R2.out.below h6)
  have R5 := Lib.hid (R5.out.below h6)
  have H6 := Lib.hid (below_both H5.out h6)
  have R6 := Lib.hid r6
  clear r6 h6 H5
  go_wp2_with fail
  refine (l1_form _).mono ?_
  rintro e w7 ⟨rfl, h7⟩
  have c0 : w7.cell? ⟨w6.heap.size, 0, none⟩ = some (.int .i64 0) := (h7.cell (p := ⟨w6.heap.size, 0, none⟩) (by simp)).trans (cell_of_row _ _ _ _ _ _ (heap_alloc_new w6 _))
  have c1 : w7.cell? ⟨w6.heap.size, 1, none⟩ = some (.int .i64 0) := (h7.cell (p := ⟨w6.heap.size, 1, none⟩) (by simp)).trans (cell_of_row _ _ _ _ _ _ (heap_alloc_new w6 _))
  have h7 := below_al h7
  have R6 := Lib.hid ((R6.out.below h7).alloc (.cells #[.int .i64 3, .int .i64 2] 42))
  have k1 := conv_is (c := 3) (s := ⟨#[9, 1, 2]⟩) ((R2.out.below h7).alloc (.cells #[.int .i64 3, .int .i64 2] 42)) rfl
  have k2 := conv_is (c := 2) (s := ⟨#[2, 3]⟩) ((R5.out.below h7).alloc (.cells #[.int .i64 3, .int .i64 2] 42)) rfl
  have H7 := Lib.hid ((below_both H6.out h7).alloc (below_both H6.out h7).size (.cells #[.int .i64 3, .int .i64 2] 42))
  have C0 := Lib.hid c0
  have C1 := Lib.hid c1
  clear R2 R5 h7 H6 c0 c1
  go_wp2_with fail
  refine (l1_bits _).mono ?_
  rintro e w8 ⟨rfl, q, rfl⟩
  clear k1 k2
  go_wp2_with fail
  refine (l1_setbits _).mono ?_
  rintro e w9 ⟨rfl, rfl⟩
  go_wp2_with fail
  refine (l1_hex _ _ (by exact (new_row _ [10, 255] _ _ _ rfl (by decide) rfl (by simp)).drewN q)).mono ?_
  rintro e w10 ⟨rfl, h10⟩
  have h10 := below_al h10
  have l6 := cell_lt C0.out
  have d0 : w10.cell? ⟨w6.heap.size, 0, none⟩ = some (.int .i64 0) := (h10.cell (p := ⟨w6.heap.size, 0, none⟩) (Nat.lt_of_lt_of_le l6 (by simp))).trans ((World.cell?_alloc_lt w7 _ ⟨w6.heap.size, 0, none⟩ l6).trans C0.out)
  have d1 : w10.cell? ⟨w6.heap.size, 1, none⟩ = some (.int .i64 0) := (h10.cell (p := ⟨w6.heap.size, 1, none⟩) (Nat.lt_of_lt_of_le l6 (by simp))).trans ((World.cell?_alloc_lt w7 _ ⟨w6.heap.size, 1, none⟩ l6).trans C1.out)
  have e0 : w10.cell? ⟨w7.heap.size, 0, none⟩ = some (.int .i64 3) := (h10.cell (p := ⟨w7.heap.size, 0, none⟩) (by simp)).trans (cell_of_row _ _ _ _ _ _ (heap_alloc_new w7 _))
  have e1 : w10.cell? ⟨w7.heap.size, 1, none⟩ = some (.int .i64 2) := (h10.cell (p := ⟨w7.heap.size, 1, none⟩) (by simp)).trans (cell_of_row _ _ _ _ _ _ (heap_alloc_new w7 _))
  have k3 := conv_is (c := 2) (s := ⟨#[10, 255]⟩) ((R6.out.drewN q).below h10) rfl
  have H10 := Lib.hid ((below_drewN' H7.out q).trans (h10.mono (by have := H7.out.size; simp at this ⊢; omega)))
  clear R6 C0 C1 h10 H7 l6
  go_wp2
  go_ret
  exact ⟨rfl, H10.out⟩
end Go.Proofs.Ytbnheffeojnjdaa
