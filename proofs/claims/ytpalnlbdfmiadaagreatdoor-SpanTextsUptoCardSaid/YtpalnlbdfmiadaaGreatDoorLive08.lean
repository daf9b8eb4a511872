/-
  The examples of layer 8 come out as they must, in whatever world where the library's tables lie: the contract of weighbridgelaw08.live.
-/
import Derived.Test.YtpalnlbdfmiadaaGreatDoorSp12
import Derived.Test.YtpalnlbdfmiadaaGreatDoorSp14
import Derived.Test.YtpalnlbdfmiadaaGreatDoorSp3
namespace Go.Proofs.YtpalnlbdfmiadaaGreatDoor
open Go.RowKit Go.Shelf
set_option linter.unusedVariables false

theorem below_al8 {w w' : World} {o : Obj} (h : Below (w.alloc o).heap.size (w.alloc o) w') : Below w.heap.size w w' := below_both ((Below.refl _ _).alloc (Nat.le_refl _) o) h
theorem spRow_new (w : World) (L : List Sp) (hb : ∀ s ∈ L, I64 s.1 ∧ I64 s.2) : SpRow (w.alloc (.cells (scells L).toArray 23)) (some ⟨w.heap.size, 0, none⟩) L.length L :=
  ⟨rfl, hb, fun i hi => ⟨_, _, rfl, by
    have h := (scells_at hi).1
    rw [cell_of_row _ w.heap.size (0 + i * 2) _ _ _ (heap_alloc_new w _), Nat.zero_add]
    simpa using h, by
    have h := (scells_at hi).2
    rw [cell_of_row _ w.heap.size (0 + i * 2 + 1) _ _ _ (heap_alloc_new w _), Nat.zero_add]
    simpa using h⟩⟩
theorem rowZ_new (w : World) (l : List Int) (hb : ∀ x ∈ l, -9223372036854775808 ≤ x ∧ x ≤ 9223372036854775807) : RowZ (w.alloc (.cells (cellsZ l).toArray 3)) (some ⟨w.heap.size, 0, none⟩) l.length l := (OwnZ.new w l).row hb
def l8 : List Sp := [(5, 9), (20, 30), (10, 12)]
def u8l : List Sp := [(5, 12), (20, 30)]
theorem l8_uni {S : List Sp} (h : SortedS l8 S) : uni S = u8l := by
  have hu := uni_uni (S := S) (fun s hs => (show ∀ s ∈ l8, s.1 ≤ s.2 by decide) s (h.perm.mem_iff.1 hs)) h.up
  refine norm_unique hu.norm ⟨by decide, by decide⟩ fun n => ?_
  have e : mem S n ↔ mem l8 n := ⟨fun ⟨s, hs, hi⟩ => ⟨s, h.perm.mem_iff.1 hs, hi⟩, fun ⟨s, hs, hi⟩ => ⟨s, h.perm.mem_iff.2 hs, hi⟩⟩
  rw [hu.mem, e]
  unfold l8 u8l
  simp only [mem_cons, inS, mem_nil, or_false]
  omega
theorem l8_starts : Starts [0, 5, 10] [(5, 9)] := ⟨by decide, fun x => by rw [show marks [(5, 9)] = [0, 5, 10] from by decide]⟩
theorem l8_union (w : World) (g : Nat) (hg : w.heap.size = g) : Calls Tryz.prog 18 #[.slice (some ⟨g, 0, none⟩) 3 3] (w.alloc (.cells #[.int .i64 5, .int .i64 9, .int .i64 20, .int .i64 30, .int .i64 10, .int .i64 12] 23)) fun e w' => ∃ v, e = .returned (.tuple #[v, .int .i64 0]) ∧ ValSp w' v u8l ∧ Below w.heap.size w w' := by
  subst hg
  refine (sunion_ok (some ⟨w.heap.size, 0, none⟩) 3 3 l8 _ (by decide) (spRow_new w l8 (by unfold I64; decide)) (by unfold OkS; decide)).mono ?_
  rintro e w' ⟨v, S, rfl, hS, ho, hb⟩
  rw [l8_uni hS] at ho
  exact ⟨v, rfl, ho.val (by unfold I64; decide), below_al8 hb⟩
theorem l8_pieces (w : World) (g : Nat) (hg : w.heap.size = g) : Calls Tryz.prog 19 #[.slice (some ⟨g, 0, none⟩) 1 1] (w.alloc (.cells #[.int .i64 5, .int .i64 9] 23)) fun e w' => ∃ v, e = .returned (.tuple #[v, .int .i64 0]) ∧ ValZ w' v [0, 5, 10] ∧ Below w.heap.size w w' := by
  subst hg
  refine (sstarts_ok (some ⟨w.heap.size, 0, none⟩) 1 1 [(5, 9)] _ (by decide) (spRow_new w [(5, 9)] (by unfold I64; decide)) (by unfold OkS; decide)).mono ?_
  rintro e w' ⟨v, st, rfl, hS, ho, hb⟩
  rw [hS.unique l8_starts] at ho
  exact ⟨v, rfl, ho.val (by decide), below_al8 hb⟩
theorem l8_same (w : World) (g : Nat) (v : Value) (hv : ValSp w v u8l) (hg : w.heap.size = g) : Calls Tryz.prog 21 #[v, .slice (some ⟨g, 0, none⟩) 2 2] (w.alloc (.cells #[.int .i64 5, .int .i64 12, .int .i64 20, .int .i64 30] 23)) fun e w' => e = .returned (.bool true) ∧ Below w.heap.size w w' := by
  subst hg
  obtain ⟨A, c, rfl, _, hR⟩ := hv
  refine (rssame_yes A (some ⟨w.heap.size, 0, none⟩) 2 c 2 u8l _ (by decide) (hR.alloc _) (spRow_new w u8l (by unfold I64; decide))).mono ?_
  rintro e w' ⟨rfl, hb⟩
  exact ⟨rfl, below_al8 hb⟩
theorem l8_ints (w : World) (g : Nat) (v : Value) (hv : ValZ w v [0, 5, 10]) (hg : w.heap.size = g) : Calls Tryz.prog 22 #[v, .slice (some ⟨g, 0, none⟩) 3 3] (w.alloc (.cells #[.int .i64 0, .int .i64 5, .int .i64 10] 3)) fun e w' => e = .returned (.bool true) ∧ Below w.heap.size w w' := by
  subst hg
  obtain ⟨A, c, rfl, _, hR⟩ := hv
  refine (rssameints_yes A (some ⟨w.heap.size, 0, none⟩) 3 c 3 [0, 5, 10] _ (by decide) (hR.alloc _) (rowZ_new w [0, 5, 10] (by decide))).mono ?_
  rintro e w' ⟨rfl, hb⟩
  exact ⟨rfl, below_al8 hb⟩
theorem l8_meet (w : World) : Calls Tryz.prog 20 #[.agg #[.int .i64 10, .int .i64 20], .agg #[.int .i64 15, .int .i64 99]] w fun e w' => e = .returned (.tuple #[.agg #[.int .i64 15, .int .i64 20], .bool true]) ∧ Below w.heap.size w w' := by
  have h := smeet_any 10 20 15 99 w
  rw [show meetS (10, 20) (15, 99) = ((15, 20), true) from by decide] at h
  exact h
theorem l8_star (w : World) (h : Pow w) : Calls Tryz.prog 6 #[.agg #[.int .i64 0, .int .i64 65535]] w fun e w' => e = .returned (.string ⟨#[42]⟩) ∧ Below w.heap.size w w' := by
  have h := sprint_any 0 65535 w h
  rw [show sprint (0, 65535) = [42] from rfl] at h
  exact h
theorem l8_dec15 : Lib.decDigits 15 = [49, 53] := by rw [dec_step (by decide), dec_small (by decide)]; rfl
theorem l8_dec20 : Lib.decDigits 20 = [50, 48] := by rw [dec_step (by decide), dec_small (by decide)]; rfl
theorem l8_text (w : World) (h : Pow w) : Calls Tryz.prog 6 #[.agg #[.int .i64 15, .int .i64 20]] w fun e w' => e = .returned (.string ⟨#[49, 53, 45, 50, 48]⟩) ∧ Below w.heap.size w w' := by
  have h := sprint_any 15 20 w h
  rw [show sprint (15, 20) = [49, 53, 45, 50, 48] from by
    show Lib.decDigits 15 ++ 45 :: Lib.decDigits 20 = _
    rw [l8_dec15, l8_dec20]; rfl] at h
  exact h
theorem l8_has (w : World) : Calls Tryz.prog 23 #[.agg #[.int .i64 15, .int .i64 20], .int .i64 20] w fun e w' => e = .returned (.bool true) ∧ Below w.heap.size w w' := shas_any 15 20 20 w
theorem l8_hasnt (w : World) : Calls Tryz.prog 23 #[.agg #[.int .i64 15, .int .i64 20], .int .i64 21] w fun e w' => e = .returned (.bool false) ∧ Below w.heap.size w w' := shas_any 15 20 21 w
theorem l8_check (w : World) : Calls Tryz.prog 9 #[.agg #[.int .i64 (-1), .int .i64 0]] w fun e w' => e = .returned (.int .i64 1) ∧ Below w.heap.size w w' := scheck_any (-1) 0 w
theorem l8_parse0 (w : World) (h : MaxL w) : Calls Tryz.prog 4 #[.string ⟨#[49, 48, 45, 50, 48]⟩] w fun e w' => e = .returned (.tuple #[.agg #[.int .i64 10, .int .i64 20], .int .i64 0]) ∧ Below w.heap.size w w' := by
  have h := sparse_any ⟨#[49, 48, 45, 50, 48]⟩ w (by decide) h
  rw [show sparse (⟨#[49, 48, 45, 50, 48]⟩ : ByteArray).data.toList = ((10, 20), 0) from by decide +kernel] at h
  exact h
theorem l8_parse1 (w : World) (h : MaxL w) : Calls Tryz.prog 4 #[.string ⟨#[50, 48, 45, 49, 48]⟩] w fun e w' => e = .returned (.tuple #[.agg #[.int .i64 0, .int .i64 0], .int .i64 6]) ∧ Below w.heap.size w w' := by
  have h := sparse_any ⟨#[50, 48, 45, 49, 48]⟩ w (by decide) h
  rw [show sparse (⟨#[50, 48, 45, 49, 48]⟩ : ByteArray).data.toList = ((0, 0), 6) from by decide +kernel] at h
  exact h
theorem l8_parse2 (w : World) (h : MaxL w) : Calls Tryz.prog 4 #[.string ⟨#[54, 53, 53, 51, 54]⟩] w fun e w' => e = .returned (.tuple #[.agg #[.int .i64 0, .int .i64 0], .int .i64 1]) ∧ Below w.heap.size w w' := by
  have h := sparse_any ⟨#[54, 53, 53, 51, 54]⟩ w (by decide) h
  rw [show sparse (⟨#[54, 53, 53, 51, 54]⟩ : ByteArray).data.toList = ((0, 0), 1) from by decide +kernel] at h
  exact h
theorem l8_parse3 (w : World) (h : MaxL w) : Calls Tryz.prog 4 #[.string ⟨#[49, 45, 50, 45, 51]⟩] w fun e w' => e = .returned (.tuple #[.agg #[.int .i64 0, .int .i64 0], .int .i64 3]) ∧ Below w.heap.size w w' := by
  have h := sparse_any ⟨#[49, 45, 50, 45, 51]⟩ w (by decide) h
  rw [show sparse (⟨#[49, 45, 50, 45, 51]⟩ : ByteArray).data.toList = ((0, 0), 3) from by decide +kernel] at h
  exact h

set_option maxRecDepth 10000 in
set_option maxHeartbeats 3200000 in
theorem live08 (w : World) (hT : Tabs w) : Calls Tryz.prog 8 #[] w fun e w' => e = .returned (.bool true) ∧ Below w.heap.size w w' := by
  have B : Hid (Below w.heap.size w w) := Below.refl _ _
  have T := Lib.hid hT
  clear hT
  go_enter Tryz.func8, Tryz.ntmps8
  go_wp2_with fail
  refine (l8_parse0 _ T.out.max).mono ?_
  rintro e w1 ⟨rfl, hb⟩
  have B := Lib.hid (below_both B.out hb)
  have T := Lib.hid (T.out.below hb)
  clear hb
  have hd := (Below.refl w1.heap.size w1).alloc (Nat.le_refl _) (.cells #[.int .i64 10, .int .i64 20] 23)
  have B := Lib.hid (below_both B.out hd)
  have T := Lib.hid (T.out.below hd)
  have S1 := Lib.hid (SB.new w1 10 20)
  clear hd
  go_wp2_with fail
  refine (l8_parse1 _ T.out.max).mono ?_
  rintro e w2 ⟨rfl, hb⟩
  have B := Lib.hid (below_both B.out hb)
  have T := Lib.hid (T.out.below hb)
  have S1 := Lib.hid (S1.out.next hb)
  clear hb
  have hd := (Below.refl w2.heap.size w2).alloc (Nat.le_refl _) (.cells #[.int .i64 0, .int .i64 0] 23)
  have B := Lib.hid (below_both B.out hd)
  have T := Lib.hid (T.out.below hd)
  have S1 := Lib.hid (S1.out.next hd)
  clear hd
  go_wp2_with fail
  refine (l8_parse2 _ T.out.max).mono ?_
  rintro e w3 ⟨rfl, hb⟩
  have B := Lib.hid (below_both B.out hb)
  have T := Lib.hid (T.out.below hb)
  have S1 := Lib.hid (S1.out.next hb)
  clear hb
  have hd := (Below.refl w3.heap.size w3).alloc (Nat.le_refl _) (.cells #[.int .i64 0, .int .i64 0] 23)
  have B := Lib.hid (below_both B.out hd)
  have T := Lib.hid (T.out.below hd)
  have S1 := Lib.hid (S1.out.next hd)
  clear hd
  go_wp2_with fail
  refine (l8_parse3 _ T.out.max).mono ?_
  rintro e w4 ⟨rfl, hb⟩
  have B := Lib.hid (below_both B.out hb)
  have T := Lib.hid (T.out.below hb)
  have S1 := Lib.hid (S1.out.next hb)
  clear hb
  have hd := (Below.refl w4.heap.size w4).alloc (Nat.le_refl _) (.cells #[.int .i64 0, .int .i64 0] 23)
  have B := Lib.hid (below_both B.out hd)
  have T := Lib.hid (T.out.below hd)
  have S1 := Lib.hid (S1.out.next hd)
  clear hd
  go_wp2_with fail
  refine (l8_union (w4.alloc (.cells #[.int .i64 0, .int .i64 0] 23)) _ (by simp)).mono ?_
  rintro e w5 ⟨v9, rfl, hv, hb⟩
  have B := Lib.hid (below_both B.out hb)
  have T := Lib.hid (T.out.below hb)
  have S1 := Lib.hid (S1.out.next hb)
  have V9 := Lib.hid hv
  clear hb hv
  go_wp2_with fail
  refine (l8_pieces w5 _ rfl).mono ?_
  rintro e w6 ⟨v11, rfl, hv, hb⟩
  have B := Lib.hid (below_both B.out hb)
  have T := Lib.hid (T.out.below hb)
  have S1 := Lib.hid (S1.out.next hb)
  have V9 := Lib.hid (V9.out.below hb)
  have V11 := Lib.hid hv
  clear hb hv
  have s0 := S1.out.c0; have s1 := S1.out.c1
  go_wp2_with fail
  refine (l8_meet _).mono ?_
  rintro e w7 ⟨rfl, hb⟩
  have B := Lib.hid (below_both B.out hb)
  have T := Lib.hid (T.out.below hb)
  have S1 := Lib.hid (S1.out.next hb)
  have V9 := Lib.hid (V9.out.below hb)
  have V11 := Lib.hid (V11.out.below hb)
  clear hb s0 s1
  have hd := (Below.refl w7.heap.size w7).alloc (Nat.le_refl _) (.cells #[.int .i64 15, .int .i64 20] 23)
  have B := Lib.hid (below_both B.out hd)
  have T := Lib.hid (T.out.below hd)
  have S1 := Lib.hid (S1.out.next hd)
  have V9 := Lib.hid (V9.out.below hd)
  have V11 := Lib.hid (V11.out.below hd)
  have S2 := Lib.hid (SB.new w7 15 20)
  clear hd
  have s0 := S1.out.c0; have s1 := S1.out.c1
  go_wp2_with fail
  clear s0 s1
  refine (l8_same (w7.alloc (.cells #[.int .i64 15, .int .i64 20] 23)) _ _ V9.out (by simp)).mono ?_
  rintro e w8 ⟨rfl, hb⟩
  have B := Lib.hid (below_both B.out hb)
  have T := Lib.hid (T.out.below hb)
  have V11 := Lib.hid (V11.out.below hb)
  have S2 := Lib.hid (S2.out.next hb)
  clear hb
  go_wp2_with fail
  refine (l8_ints w8 _ _ V11.out rfl).mono ?_
  rintro e w9 ⟨rfl, hb⟩
  have B := Lib.hid (below_both B.out hb)
  have T := Lib.hid (T.out.below hb)
  have S2 := Lib.hid (S2.out.next hb)
  clear hb
  have s0 := S2.out.c0; have s1 := S2.out.c1
  go_wp2_with fail
  clear s0 s1
  refine (sall_any _).mono ?_
  rintro e w10 ⟨rfl, hb⟩
  have B := Lib.hid (below_both B.out hb)
  have T := Lib.hid (T.out.below hb)
  have S2 := Lib.hid (S2.out.next hb)
  clear hb
  go_wp2_with fail
  refine (l8_star _ T.out.pow).mono ?_
  rintro e w11 ⟨rfl, hb⟩
  have B := Lib.hid (below_both B.out hb)
  have T := Lib.hid (T.out.below hb)
  have S2 := Lib.hid (S2.out.next hb)
  clear hb
  have s0 := S2.out.c0; have s1 := S2.out.c1
  go_wp2_with fail
  clear s0 s1
  refine (l8_text _ T.out.pow).mono ?_
  rintro e w12 ⟨rfl, hb⟩
  have B := Lib.hid (below_both B.out hb)
  have T := Lib.hid (T.out.below hb)
  have S2 := Lib.hid (S2.out.next hb)
  clear hb
  have s0 := S2.out.c0; have s1 := S2.out.c1
  go_wp2_with fail
  clear s0 s1
  refine (l8_has _).mono ?_
  rintro e w13 ⟨rfl, hb⟩
  have B := Lib.hid (below_both B.out hb)
  have T := Lib.hid (T.out.below hb)
  have S2 := Lib.hid (S2.out.next hb)
  clear hb
  have s0 := S2.out.c0; have s1 := S2.out.c1
  go_wp2_with fail
  clear s0 s1
  refine (l8_hasnt _).mono ?_
  rintro e w14 ⟨rfl, hb⟩
  have B := Lib.hid (below_both B.out hb)
  have T := Lib.hid (T.out.below hb)
  have S2 := Lib.hid (S2.out.next hb)
  clear hb
  have s0 := S2.out.c0; have s1 := S2.out.c1
  go_wp2_with fail
  clear s0 s1
  refine (l8_check _).mono ?_
  rintro e w15 ⟨rfl, hb⟩
  have B := Lib.hid (below_both B.out hb)
  have T := Lib.hid (T.out.below hb)
  have S2 := Lib.hid (S2.out.next hb)
  clear hb
  go_wp2_with fail
  go_ret
  exact ⟨rfl, B.out⟩
end Go.Proofs.YtpalnlbdfmiadaaGreatDoor
