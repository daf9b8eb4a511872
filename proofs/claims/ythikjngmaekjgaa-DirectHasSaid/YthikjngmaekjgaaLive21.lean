/-
  The examples of layer 21 come out as they must, in whatever world: the contract of weighbridgelaw21.live.
-/
import Derived.Test.YthikjngmaekjgaaDr2
import Derived.Test.YthikjngmaekjgaaDr3
namespace Go.Proofs.Ythikjngmaekjgaa
open Go.RowKit
set_option linter.unusedVariables false

theorem FB.laid21 (w : World) (a b : Int) : FB (w.alloc (.cells #[.int .i64 a, .int .i64 b] 26)) w.heap.size a b := heap_alloc_new w _
theorem FB.next {W W' : World} {g : Nat} {a b : Int} (h : FB W g a b) (hb : Below W.heap.size W W') : FB W' g a b := h.below hb h.lt
theorem cell_next {W W' : World} {p : Addr} {v : Value} (h : W.cell? p = some v) (hb : Below W.heap.size W W') : W'.cell? p = some v := (hb.cell (cell_lt h)).trans h
theorem rowZ_new (w : World) (l : List Int) (hb : ∀ x ∈ l, -9223372036854775808 ≤ x ∧ x ≤ 9223372036854775807) : RowZ (w.alloc (.cells (cellsZ l).toArray 3)) (some ⟨w.heap.size, 0, none⟩) l.length l := (OwnZ.new w l).row hb
/-- A table of these required values. -/
def IsTab (w : World) (tb : Nat) (l : List Int) (most : Nat) : Prop := ∃ mb D, TabK w tb mb l ((l.length + 63) / 64) most l.length l.length l.length D
theorem IsTab.next {w w' : World} {tb : Nat} {l : List Int} {most : Nat} (h : IsTab w tb l most) (hb : Below w.heap.size w w') : IsTab w' tb l most := by
  obtain ⟨mb, D, h⟩ := h
  exact ⟨mb, D, h.below hb⟩
theorem tab_new (A : Option Addr) (n cap most : Nat) (l : List Int) (w : World) (h2 : (most : Int) ≤ 65535) (hn : n ≤ 256) (hA : RowZ w A n l) (hfit : Fit21 l most n) :
    Calls Try.prog 5 #[.slice A n cap, .int .i64 (most : Int)] w fun e w' => ∃ tb, e = .returned (.tuple #[.pointer (some ⟨tb, 0, none⟩), .agg #[.int .i64 0, .int .i64 0]]) ∧ IsTab w' tb l most ∧ Below w.heap.size w w' := by
  have hl := hA.len
  subst hl
  refine (dnew_ok A l.length cap _ most l w h2 hn rfl hA hfit).mono ?_
  rintro e w' ⟨rfl, ⟨D, hT⟩, hb⟩
  exact ⟨_, rfl, ⟨_, D, hT⟩, hb⟩
theorem tab_find {w : World} {tb : Nat} {l : List Int} {most : Nat} (x : Int) (h : IsTab w tb l most) (hl : l.length ≤ 256) (hmost : (most : Int) ≤ 65535) (hx1 : -9223372036854775808 ≤ x) (hx2 : x ≤ 9223372036854775807) :
    Calls Try.prog 9 #[.pointer (some ⟨tb, 0, none⟩), .int .i64 x] w fun e w' => ∃ v, e = .returned v ∧ ValU w' v (findR l ((l.length + 63) / 64) most l.length x) ∧ Below w.heap.size w w' := by
  obtain ⟨mb, D, h⟩ := h
  exact dfind_any x h hmost hx1 hx2 hl rfl rfl
theorem tab_most {w : World} {tb : Nat} {l : List Int} {most : Nat} (h : IsTab w tb l most) :
    Calls Try.prog 11 #[.pointer (some ⟨tb, 0, none⟩)] w fun e w' => e = .returned (.int .i64 (most : Int)) ∧ Below w.heap.size w w' := by
  obtain ⟨mb, D, h⟩ := h
  refine (dmost_any h).mono ?_
  rintro e w' ⟨rfl, rfl⟩
  exact ⟨rfl, Below.refl _ _⟩
theorem tab_free {w : World} {tb : Nat} {l : List Int} {most : Nat} (h : IsTab w tb l most) (hl : l.length ≤ 256) (hmost : (most : Int) ≤ 65535) :
    Calls Try.prog 12 #[.pointer (some ⟨tb, 0, none⟩)] w fun e w' => e = .returned (.int .i64 (freeN l most : Int)) ∧ Below w.heap.size w w' := by
  obtain ⟨mb, D, h⟩ := h
  exact dfree_any h hmost (by omega)
def l21 : List Int := [-1, 17, 6, 17]
theorem l21_new (w : World) : Calls Try.prog 5 #[.slice (some ⟨w.heap.size, 0, none⟩) 4 4, .int .i64 255] (w.alloc (.cells #[.int .i64 (-1), .int .i64 17, .int .i64 6, .int .i64 17] 3)) fun e w' => ∃ tb, e = .returned (.tuple #[.pointer (some ⟨tb, 0, none⟩), .agg #[.int .i64 0, .int .i64 0]]) ∧ IsTab w' tb l21 255 ∧ Below w.heap.size w w' :=
  (tab_new (some ⟨w.heap.size, 0, none⟩) 4 4 255 l21 (w.alloc (.cells #[.int .i64 (-1), .int .i64 17, .int .i64 6, .int .i64 17] 3)) (by decide) (by decide) (rowZ_new w l21 (by decide)) (by unfold Fit21; decide)).mono fun e w' ⟨tb, h1, h2, h3⟩ => ⟨tb, h1, h2, below_al h3⟩
theorem l21_bad (w : World) (g : Nat) (hg : w.heap.size = g) : Calls Try.prog 5 #[.slice (some ⟨g, 0, none⟩) 2 2, .int .i64 255] (w.alloc (.cells #[.int .i64 1, .int .i64 256] 3)) fun e w' => e = .returned (.tuple #[.pointer none, .agg #[.int .i64 1, .int .i64 1]]) ∧ Below w.heap.size w w' := by
  subst hg
  exact (dnew_bad (some ⟨w.heap.size, 0, none⟩) 2 2 255 [1, 256] 1 (w.alloc (.cells #[.int .i64 1, .int .i64 256] 3)) (by decide) (by decide) (by decide) (rowZ_new w [1, 256] (by decide)) (by decide) (by unfold Fit21; decide) (by decide)).mono fun e w' ⟨h1, h2⟩ => ⟨h1, below_al h2⟩
theorem l21_find (x : Int) (y : Nat) {w : World} {tb : Nat} (h : IsTab w tb l21 255) (hx1 : -9223372036854775808 ≤ x) (hx2 : x ≤ 9223372036854775807) (hy : findR l21 1 255 4 x = [y]) :
    Calls Try.prog 9 #[.pointer (some ⟨tb, 0, none⟩), .int .i64 x] w fun e w' => ∃ b o c, e = .returned (.slice (some ⟨b, o, none⟩) 1 c) ∧ w'.cell? ⟨b, o, none⟩ = some (.int .u64 (y : Int)) ∧ Below w.heap.size w w' := by
  refine (tab_find x h (by decide) (by decide) hx1 hx2).mono ?_
  rintro e w' ⟨v, rfl, hv, hb⟩
  have hv2 : ValU w' v [y] := by rw [← hy]; exact hv
  obtain ⟨A, c, rfl, _, hR⟩ := hv2
  obtain ⟨b, o, rfl, _, hc⟩ := hR.addr Nat.zero_lt_one
  exact ⟨b, o, c, rfl, hc 0 Nat.zero_lt_one, hb⟩
theorem l21_free : freeN l21 255 = 254 := by decide +kernel
theorem l21_r17 : findR l21 1 255 4 17 = [11] := by decide +kernel
theorem l21_r1 : findR l21 1 255 4 1 = [1] := by decide +kernel
theorem l21_r256 : findR l21 1 255 4 256 = [0] := by decide +kernel

set_option maxRecDepth 10000 in
set_option maxHeartbeats 3200000 in
theorem live21 (w : World) : Calls Try.prog 7 #[] w fun e w' => e = .returned (.bool true) ∧ Below w.heap.size w w' := by
  have B : Hid (Below w.heap.size w w) := Below.refl _ _
  go_enter Try.func7, Try.ntmps7
  go_wp2_with fail
  refine (l21_new _).mono ?_
  rintro e w1 ⟨tb, rfl, t1, hb1⟩
  have B := Lib.hid (below_both B.out hb1)
  have T := Lib.hid t1
  clear hb1 t1
  have hd := (Below.refl w1.heap.size w1).alloc (Nat.le_refl _) (.cells #[.int .i64 0, .int .i64 0] 26)
  have B := Lib.hid (below_both B.out hd)
  have T := Lib.hid (T.out.next hd)
  have F1 := Lib.hid (FB.laid21 w1 0 0)
  clear hd
  go_wp2_with fail
  refine (l21_bad (w1.alloc (.cells #[.int .i64 0, .int .i64 0] 26)) _ (by simp)).mono ?_
  rintro e w2 ⟨rfl, hb2⟩
  have B := Lib.hid (below_both B.out hb2)
  have T := Lib.hid (T.out.next hb2)
  have F1 := Lib.hid (F1.out.next hb2)
  clear hb2
  have hd := (Below.refl w2.heap.size w2).alloc (Nat.le_refl _) (.cells #[.int .i64 1, .int .i64 1] 26)
  have B := Lib.hid (below_both B.out hd)
  have T := Lib.hid (T.out.next hd)
  have F1 := Lib.hid (F1.out.next hd)
  have F2 := Lib.hid (FB.laid21 w2 1 1)
  clear hd
  go_wp2_with fail
  refine (dnew_range none 0 0 65536 _ (by decide)).mono ?_
  rintro e w3 ⟨rfl, hb3⟩
  have B := Lib.hid (below_both B.out hb3)
  have T := Lib.hid (T.out.next hb3)
  have F1 := Lib.hid (F1.out.next hb3)
  have F2 := Lib.hid (F2.out.next hb3)
  clear hb3
  have hd := (Below.refl w3.heap.size w3).alloc (Nat.le_refl _) (.cells #[.int .i64 1, .int .i64 0] 26)
  have B := Lib.hid (below_both B.out hd)
  have T := Lib.hid (T.out.next hd)
  have F1 := Lib.hid (F1.out.next hd)
  have F2 := Lib.hid (F2.out.next hd)
  have F3 := Lib.hid (FB.laid21 w3 1 0)
  clear hd
  go_wp2_with fail
  refine (l21_find 17 11 T.out (by decide) (by decide) l21_r17).mono ?_
  rintro e w4 ⟨b0, o0, c0, rfl, k0, hb⟩
  have B := Lib.hid (below_both B.out hb)
  have T := Lib.hid (T.out.next hb)
  have F1 := Lib.hid (F1.out.next hb)
  have F2 := Lib.hid (F2.out.next hb)
  have F3 := Lib.hid (F3.out.next hb)
  have K0 := Lib.hid k0
  clear hb k0
  go_wp2_with fail
  refine (l21_find 1 1 T.out (by decide) (by decide) l21_r1).mono ?_
  rintro e w5 ⟨b1, o1, c1, rfl, k1, hb⟩
  have B := Lib.hid (below_both B.out hb)
  have T := Lib.hid (T.out.next hb)
  have F1 := Lib.hid (F1.out.next hb)
  have F2 := Lib.hid (F2.out.next hb)
  have F3 := Lib.hid (F3.out.next hb)
  have K0 := Lib.hid (cell_next K0.out hb)
  have K1 := Lib.hid k1
  clear hb k1
  go_wp2_with fail
  refine (l21_find 256 0 T.out (by decide) (by decide) l21_r256).mono ?_
  rintro e w6 ⟨b2, o2, c2, rfl, k2, hb⟩
  have B := Lib.hid (below_both B.out hb)
  have T := Lib.hid (T.out.next hb)
  have F1 := Lib.hid (F1.out.next hb)
  have F2 := Lib.hid (F2.out.next hb)
  have F3 := Lib.hid (F3.out.next hb)
  have K0 := Lib.hid (cell_next K0.out hb)
  have K1 := Lib.hid (cell_next K1.out hb)
  have K2 := Lib.hid k2
  clear hb k2
  have F1a := F1.out.c0; have F1b := F1.out.c1
  have F2a := F2.out.c0; have F2b := F2.out.c1
  have F3a := F3.out.c0; have F3b := F3.out.c1
  have k0 := K0.out
  have k1 := K1.out
  have k2 := K2.out
  go_wp2_with fail
  clear F1a F1b F2a F2b F3a F3b k0 k1 k2
  refine (tab_most T.out).mono ?_
  rintro e w7 ⟨rfl, hb⟩
  have B := Lib.hid (below_both B.out hb)
  have T := Lib.hid (T.out.next hb)
  clear hb
  go_wp2_with fail
  refine (tab_free T.out (by decide) (by decide)).mono ?_
  rintro e w8 ⟨rfl, hb⟩
  have B := Lib.hid (below_both B.out hb)
  have T := Lib.hid (T.out.next hb)
  clear hb
  rw [l21_free]
  go_wp2_with fail
  refine (dfind_nil _ _).mono ?_
  rintro e w9 ⟨rfl, rfl⟩
  go_wp2_with fail
  refine (dmost_nil _).mono ?_
  rintro e w10 ⟨rfl, rfl⟩
  go_wp2_with fail
  refine (dfree_nil _).mono ?_
  rintro e w11 ⟨rfl, rfl⟩
  go_wp2_with fail
  go_ret
  exact ⟨rfl, B.out⟩
end Go.Proofs.Ythikjngmaekjgaa
