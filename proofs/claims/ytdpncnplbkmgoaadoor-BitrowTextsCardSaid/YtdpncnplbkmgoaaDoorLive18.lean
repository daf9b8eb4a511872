/-
  The examples of layer 18 come out as they must, in whatever world in which the table lies: the contract of weighbridgelaw18.live.
-/
import Derived.Test.YtdpncnplbkmgoaaDoorBr9
namespace Go.Proofs.YtdpncnplbkmgoaaDoor
open Go.RowKit
set_option linter.unusedVariables false

theorem OutU.row {B g n c : Nat} {w : World} {xs : List Nat} (h : OutU B w (.slice (some ⟨g, 0, none⟩) n c) xs) (hn : xs.length = n) (hb : ∀ x ∈ xs, x < 18446744073709551616) : RowU w (some ⟨g, 0, none⟩) n xs := by
  obtain ⟨A, c', hv, _, _, hR⟩ := h.out hb
  injection hv with h1 h2 h3
  subst h1
  rw [hn] at hR
  exact hR
theorem OutI.row {B g n c : Nat} {w : World} {xs : List Nat} (h : OutI B w (.slice (some ⟨g, 0, none⟩) n c) xs) (hn : xs.length = n) (hb : ∀ x ∈ xs, x < 9223372036854775808) : RowI w (some ⟨g, 0, none⟩) n xs := by
  obtain ⟨A, c', hv, _, _, hR⟩ := h.out hb
  injection hv with h1 h2 h3
  subst h1
  rw [hn] at hR
  exact hR
/-- Made, and not empty. -/
def MadeS (w : World) (n : Nat) (xs : List Nat) (e : Ending) (w' : World) : Prop := ∃ g c, e = .returned (.slice (some ⟨g, 0, none⟩) n c) ∧ (OutU w.heap.size w' (.slice (some ⟨g, 0, none⟩) n c) xs ∧ n ≤ c) ∧ RowU w' (some ⟨g, 0, none⟩) n xs ∧ Below w.heap.size w w'
theorem MadeU.some {w : World} {xs ys : List Nat} {n : Nat} {e : Ending} {w' : World} (h : MadeU w xs e w') (hx : xs = ys) (hn : ys.length = n) (h0 : 0 < n) (hb : ∀ x ∈ ys, x < 18446744073709551616) : MadeS w n ys e w' := by
  subst hx hn
  obtain ⟨v, rfl, ho, hbl⟩ := h
  obtain ⟨g, c, rfl, _, hc, _⟩ := ho.block h0
  exact ⟨g, c, rfl, ⟨ho, hc⟩, ho.row rfl hb, hbl⟩
/-- Made, and empty. -/
theorem MadeU.none {w : World} {xs : List Nat} {e : Ending} {w' : World} (h : MadeU w xs e w') (hx : xs = []) : ∃ A c, e = .returned (.slice A 0 c) ∧ Below w.heap.size w w' := by
  subst hx
  obtain ⟨v, rfl, ho, hbl⟩ := h
  obtain ⟨A, c, rfl, _⟩ := ho.out (by simp)
  exact ⟨A, c, rfl, hbl⟩

theorem l18_new (w : World) : Calls Tryd.prog 10 #[.int .i64 70] w (MadeS w 2 [0, 0]) :=
  (brnew_any 70 w).mono fun e w' h => h.some (by decide) rfl (by decide) (by decide)
theorem l18_set69 (A : Option Addr) (c : Nat) (w : World) (h : RowU w A 2 [0, 0]) : Calls Tryd.prog 8 #[.slice A 2 c, .int .i64 69] w (MadeS w 2 [0, 32]) :=
  (brSet_any A 2 c [0, 0] 69 w (by decide) (by decide) h).mono fun e w' h => h.some (by decide) rfl (by decide) (by decide)
theorem l18_set3 (A : Option Addr) (c : Nat) (w : World) (h : RowU w A 2 [0, 32]) : Calls Tryd.prog 8 #[.slice A 2 c, .int .i64 3] w (MadeS w 2 [8, 32]) :=
  (brSet_any A 2 c [0, 32] 3 w (by decide) (by decide) h).mono fun e w' h => h.some (by decide) rfl (by decide) (by decide)
theorem l18_all (w : World) : Calls Tryd.prog 12 #[.int .i64 66] w (MadeS w 2 [18446744073709551615, 3]) :=
  (brall_any 66 w (by decide) (by decide)).mono fun e w' h => h.some (by decide +kernel) rfl (by decide) (by decide)
theorem l18_has (i : Int) (t : Bool) (A : Option Addr) (c : Nat) (w : World) (hi : i ≤ 9223372036854775807) (ht : hasB [8, 32] i = t) (h : RowU w A 2 [8, 32]) : Calls Tryd.prog 15 #[.slice A 2 c, .int .i64 i] w fun e w' => e = .returned (.bool t) ∧ w = w' := by
  rw [← ht]
  exact brhas_any A 2 c [8, 32] i w hi h

/-- Two rows laid in a slice. -/
theorem two_rows {W : World} {A A' : Option Addr} {c c' n m : Nat} {xs ys : List Nat} (hA : RowU W A n xs) (hB : RowU W A' m ys) (g : Nat) (hg : W.heap.size = g) :
    RowsAt (W.alloc (.cells #[.slice A n c, .slice A' m c'] 22)) (some ⟨g, 0, none⟩) [xs, ys] := by
  subst hg
  have hl1 := hA.len
  have hl2 := hB.len
  intro i hi
  have hr := heap_alloc_new W (.cells #[.slice A n c, .slice A' m c'] 22)
  match i, hi with
  | 0, _ =>
    refine ⟨W.heap.size, 0, A, c, rfl, by simp, ?_, ?_⟩
    · rw [Nat.zero_add, cell_of_row _ _ 0 _ _ _ hr, ← hl1]; rfl
    · show RowU _ A xs.length xs
      rw [hl1]
      exact hA.alloc _
  | 1, _ =>
    refine ⟨W.heap.size, 0, A', c', rfl, by simp, ?_, ?_⟩
    · rw [Nat.zero_add, cell_of_row _ _ 1 _ _ _ hr, ← hl2]; rfl
    · show RowU _ A' ys.length ys
      rw [hl2]
      exact hB.alloc _
theorem two_short {xs ys : List Nat} {m : Nat} (h1 : xs.length ≤ m) (h2 : ys.length ≤ m) : ∀ k, ([xs, ys].getD k []).length ≤ m := by
  intro k
  match k with
  | 0 => exact h1
  | 1 => exact h2
  | k + 2 => exact Nat.zero_le _
theorem two_words {xs ys : List Nat} (h1 : ∀ w, xs.getD w 0 < 18446744073709551616) (h2 : ∀ w, ys.getD w 0 < 18446744073709551616) : Words [xs, ys] := by
  intro k w
  match k with
  | 0 => exact h1 w
  | 1 => exact h2 w
  | k + 2 => show 0 < 18446744073709551616; decide
theorem words_lt {xs : List Nat} (h : ∀ x ∈ xs, x < 18446744073709551616) (i : Nat) : xs.getD i 0 < 18446744073709551616 := by
  rw [List.getD_eq_getElem?_getD]
  rcases Nat.lt_or_ge i xs.length with hl | hl
  · rw [List.getElem?_eq_getElem hl]; exact h _ (List.getElem_mem hl)
  · rw [List.getElem?_eq_none hl]; decide
theorem l18_and (A : Option Addr) (c : Nat) (w : World) (h : RowsAt w A [[8, 32], [18446744073709551615, 3]]) : Calls Tryd.prog 23 #[.slice A 2 c] w (MadeS w 2 [8, 0]) :=
  (brand_any A 2 c _ w h rfl (by decide) (two_short (by decide) (by decide)) (two_words (words_lt (by decide)) (words_lt (by decide)))).mono fun e w' h => h.some (by decide +kernel) rfl (by decide) (by decide)
theorem l18_and1 (A : Option Addr) (c : Nat) (w : World) (h : RowsAt w A [[8, 32], [18446744073709551615]]) : Calls Tryd.prog 23 #[.slice A 2 c] w (MadeS w 1 [8]) :=
  (brand_any A 2 c _ w h rfl (by decide) (two_short (by decide) (by decide)) (two_words (words_lt (by decide)) (words_lt (by decide)))).mono fun e w' h => h.some (by decide +kernel) rfl (by decide) (by decide)
theorem l18_or (A : Option Addr) (c : Nat) (w : World) (h : RowsAt w A [[8, 32], [18446744073709551615, 3]]) : Calls Tryd.prog 25 #[.slice A 2 c] w (MadeS w 2 [18446744073709551615, 35]) :=
  (bror_any A 2 c _ w h rfl (by decide) (two_short (by decide) (by decide)) (two_words (words_lt (by decide)) (words_lt (by decide)))).mono fun e w' h => h.some (by decide +kernel) rfl (by decide) (by decide)
theorem l18_and0 (w : World) : Calls Tryd.prog 23 #[.slice none 0 0] w fun e w' => ∃ A c, e = .returned (.slice A 0 c) ∧ Below w.heap.size w w' :=
  (brand_any none 0 0 [] w (RowsAt.nil _ _) rfl (by decide) (fun k => by simp) (fun k v => by simp)).mono fun e w' h => h.none (by decide)
theorem l18_none (w : World) : Calls Tryd.prog 10 #[.int .i64 65537] w fun e w' => ∃ A c, e = .returned (.slice A 0 c) ∧ Below w.heap.size w w' :=
  (brnew_any 65537 w).mono fun e w' h => h.none (by decide)
theorem l18_first (A : Option Addr) (c : Nat) (w : World) (hT : Bru w) (h : RowU w A 2 [8, 0]) : Calls Tryd.prog 17 #[.slice A 2 c] w fun e w' => e = .returned (.int .i64 3) ∧ Below w.heap.size w w' := by
  have e : firstB [8, 0] = 3 := by decide +kernel
  rw [← e]
  exact brfirst_any A 2 c [8, 0] w (by decide) hT h
theorem l18_first0 (w : World) (hT : Bru w) : Calls Tryd.prog 17 #[.slice none 0 0] w fun e w' => e = .returned (.int .i64 (-1)) ∧ Below w.heap.size w w' :=
  brfirst_any none 0 0 [] w (by decide) hT (RowU.nil w none)
theorem l18_count (A : Option Addr) (c : Nat) (w : World) (h : RowU w A 2 [18446744073709551615, 35]) : Calls Tryd.prog 22 #[.slice A 2 c] w fun e w' => e = .returned (.int .i64 67) ∧ w = w' := by
  have e : (bitsOf [18446744073709551615, 35]).length = 67 := by decide +kernel
  have := brcount_any A 2 c [18446744073709551615, 35] w (by decide) h
  rw [e] at this
  exact this
theorem l18_list (A : Option Addr) (c : Nat) (w : World) (hT : Bru w) (h : RowU w A 2 [8, 32]) : Calls Tryd.prog 20 #[.slice A 2 c] w fun e w' => ∃ g c, e = .returned (.slice (some ⟨g, 0, none⟩) 2 c) ∧ RowI w' (some ⟨g, 0, none⟩) 2 [3, 69] ∧ Below w.heap.size w w' := by
  have e : bitsOf [8, 32] = [3, 69] := by decide +kernel
  have := brlist_any A 2 c [8, 32] w (by decide) hT h
  rw [e] at this
  refine this.mono ?_
  rintro e w' ⟨v, rfl, ho, hb⟩
  obtain ⟨g, c, rfl, _, _, _⟩ := ho.block (by decide)
  exact ⟨g, c, rfl, ho.row rfl (by decide), hb⟩
theorem l18_same (A : Option Addr) (c g : Nat) (w : World) (h : RowI w A 2 [3, 69]) (hg : w.heap.size = g) : Calls Tryd.prog 19 #[.slice A 2 c, .slice (some ⟨g, 0, none⟩) 2 2] (w.alloc (.cells #[.int .i64 3, .int .i64 69] 3)) fun e w' => e = .returned (.bool true) ∧ Below w.heap.size w w' := by
  subst hg
  have h2 : RowI (w.alloc (.cells #[.int .i64 3, .int .i64 69] 3)) (some ⟨w.heap.size, 0, none⟩) 2 [3, 69] := (OwnI.new w [3, 69]).row (by decide)
  exact (sameints_yes A (some ⟨w.heap.size, 0, none⟩) 2 c 2 [3, 69] _ (by decide) (h.alloc _) h2).mono fun e w' ⟨h1, h2⟩ => ⟨h1, below_al h2⟩

set_option maxHeartbeats 3200000 in
theorem live18 (w : World) (hT : Bru w) : Calls Tryd.prog 7 #[] w fun e w' => e = .returned (.bool true) ∧ Below w.heap.size w w' := by
  have HT := Lib.hid hT
  clear hT
  go_enter Tryd.func7, Tryd.ntmps7
  go_wp2_with fail
  refine (l18_new _).mono ?_
  rintro e w1 ⟨g1, c1, rfl, o1, r1, b1⟩
  have R1 := Lib.hid r1
  have B1 := Lib.hid b1
  clear o1 r1 b1
  go_wp2_with fail
  refine (l18_set69 _ _ _ R1.out).mono ?_
  rintro e w2 ⟨g2, c2, rfl, o2, r2, b2⟩
  have R2 := Lib.hid r2
  have B2 := Lib.hid (below_both B1.out b2)
  clear o2 r2 b2 R1 B1
  go_wp2_with fail
  refine (l18_set3 _ _ _ R2.out).mono ?_
  rintro e w3 ⟨g3, c3, rfl, o3, r3, b3⟩
  have R3 := Lib.hid r3
  have B3 := Lib.hid (below_both B2.out b3)
  clear o3 r3 b3 R2 B2
  go_wp2_with fail
  refine (l18_all _).mono ?_
  rintro e w4 ⟨g4, c4, rfl, o4, r4, b4⟩
  have a0 := (R3.out.below b4).2.2 0 (by decide)
  have a1 := (R3.out.below b4).2.2 1 (by decide)
  have d1 := r4.2.2 1 (by decide)
  obtain ⟨ba, oa, ea, ha0⟩ := a0
  injection ea with ea
  injection ea with ea1 ea2
  subst ea1 ea2
  obtain ⟨bb, ob, eb, ha1⟩ := a1
  injection eb with eb
  injection eb with eb1 eb2
  subst eb1 eb2
  obtain ⟨bc, oc, ec, hd1⟩ := d1
  injection ec with ec
  injection ec with ec1 ec2
  subst ec1 ec2
  have ha0 : w4.cell? ⟨g3, 0, none⟩ = some (.int .u64 8) := ha0
  have ha1 : w4.cell? ⟨g3, 1, none⟩ = some (.int .u64 32) := ha1
  have hd1 : w4.cell? ⟨g4, 1, none⟩ = some (.int .u64 3) := hd1
  have RA := Lib.hid (R3.out.below b4)
  have RB := Lib.hid r4
  have B4 := Lib.hid (below_both B3.out b4)
  have HT4 := Lib.hid (HT.out.below B4.out)
  have hc4 : (1 : Int) ≤ (c4 : Int) := by have := o4.2; omega
  have hc5 : 1 ≤ c4 := by have := o4.2; omega
  have hc6 : ¬ c4 = 0 := by omega
  clear o4 r4 b4 R3 B3
  go_wp2_with fail
  refine (l18_has 69 true _ _ _ (by decide) (by decide) RA.out).mono ?_
  rintro e w5 ⟨rfl, rfl⟩
  clear ha0 ha1 hd1
  go_wp2_with fail
  refine (l18_has 70 false _ _ _ (by decide) (by decide) RA.out).mono ?_
  rintro e w5 ⟨rfl, rfl⟩
  go_wp2_with fail
  refine (l18_has (-1) false _ _ _ (by decide) (by decide) RA.out).mono ?_
  rintro e w5 ⟨rfl, rfl⟩
  go_wp2_with fail
  refine (l18_and _ _ _ (two_rows RA.out RB.out _ rfl)).mono ?_
  rintro e w5 ⟨g5, c5, rfl, _, r5, b5⟩
  have bb := below_al b5
  have RA := Lib.hid (RA.out.below bb)
  have RB := Lib.hid (RB.out.below bb)
  have HT4 := Lib.hid (HT4.out.below bb)
  have B5 := Lib.hid (below_both B4.out bb)
  clear B4 bb
  have R5 := Lib.hid r5
  clear r5 b5
  go_wp2_with fail
  refine (l18_first _ _ _ HT4.out R5.out).mono ?_
  rintro e w6 ⟨rfl, b6⟩
  have bb := b6
  have RA := Lib.hid (RA.out.below bb)
  have RB := Lib.hid (RB.out.below bb)
  have HT4 := Lib.hid (HT4.out.below bb)
  have B6 := Lib.hid (below_both B5.out bb)
  clear B5 bb
  clear b6 R5
  go_wp2_with fail
  refine (l18_or _ _ _ (two_rows RA.out RB.out _ rfl)).mono ?_
  rintro e w7 ⟨g7, c7, rfl, _, r7, b7⟩
  have bb := below_al b7
  have RA := Lib.hid (RA.out.below bb)
  have RB := Lib.hid (RB.out.below bb)
  have HT4 := Lib.hid (HT4.out.below bb)
  have B7 := Lib.hid (below_both B6.out bb)
  clear B6 bb
  have R7 := Lib.hid r7
  clear r7 b7
  go_wp2_with fail
  refine (l18_count _ _ _ R7.out).mono ?_
  rintro e w8 ⟨rfl, rfl⟩
  clear R7
  go_wp2_with fail
  refine (l18_list _ _ _ HT4.out RA.out).mono ?_
  rintro e w8 ⟨g8, c8, rfl, r8, b8⟩
  have bb := b8
  have RA := Lib.hid (RA.out.below bb)
  have RB := Lib.hid (RB.out.below bb)
  have HT4 := Lib.hid (HT4.out.below bb)
  have B8 := Lib.hid (below_both B7.out bb)
  clear B7 bb
  have R8 := Lib.hid r8
  clear r8 b8
  go_wp2_with fail
  refine (l18_same _ _ _ _ R8.out rfl).mono ?_
  rintro e w9 ⟨rfl, b9⟩
  have bb := b9
  have RA := Lib.hid (RA.out.below bb)
  have RB := Lib.hid (RB.out.below bb)
  have HT4 := Lib.hid (HT4.out.below bb)
  have B9 := Lib.hid (below_both B8.out bb)
  clear B8 bb
  clear b9 R8
  go_wp2_with fail
  refine (l18_first0 _ HT4.out).mono ?_
  rintro e w10 ⟨rfl, b10⟩
  have bb := b10
  have RA := Lib.hid (RA.out.below bb)
  have RB := Lib.hid (RB.out.below bb)
  have HT4 := Lib.hid (HT4.out.below bb)
  have B10 := Lib.hid (below_both B9.out bb)
  clear B9 bb
  clear b10
  go_wp2_with fail
  refine (l18_none _).mono ?_
  rintro e w11 ⟨g11, c11, rfl, b11⟩
  have bb := b11
  have RA := Lib.hid (RA.out.below bb)
  have RB := Lib.hid (RB.out.below bb)
  have HT4 := Lib.hid (HT4.out.below bb)
  have B11 := Lib.hid (below_both B10.out bb)
  clear B10 bb
  clear b11
  go_wp2_with fail
  refine (l18_and0 _).mono ?_
  rintro e w12 ⟨g12, c12, rfl, b12⟩
  have bb := b12
  have RA := Lib.hid (RA.out.below bb)
  have RB := Lib.hid (RB.out.below bb)
  have HT4 := Lib.hid (HT4.out.below bb)
  have B12 := Lib.hid (below_both B11.out bb)
  clear B11 bb
  clear b12
  go_wp2_with fail
  refine (l18_and1 _ _ _ (two_rows RA.out (RB.out.front 1 (by decide)) _ rfl)).mono ?_
  rintro e w13 ⟨g13, c13, rfl, _, r13, b13⟩
  have bb := below_al b13
  have B := Lib.hid (below_both B12.out bb)
  clear bb b13 r13
  go_wp2_with fail
  go_ret
  exact ⟨rfl, B.out⟩
end Go.Proofs.YtdpncnplbkmgoaaDoor
