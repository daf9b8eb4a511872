/-
  The walk of SpanTexts, for texts of at most 2^20 bytes.
-/
import Derived.Test.YtpalnlbdfmiadaaGreatDoorSpR7
import Derived.Test.YtpalnlbdfmiadaaGreatDoorLive08
namespace Go.Proofs.YtpalnlbdfmiadaaGreatDoor
open Go.RowKit Go.Shelf Go.Lib Go.Sort
set_option linter.unusedVariables false

theorem sprint_size (x1 x2 : Int) : (⟨(sprint (x1, x2)).toArray⟩ : ByteArray).size ≤ 11 := by
  show (sprint (x1, x2)).toArray.size ≤ 11
  rw [List.size_toArray]
  unfold sprint
  split
  · simp
  · rename_i h
    have hok := chkS_ok.1 (Classical.not_not.1 h)
    have hx : (0 ≤ x1 ∧ x1 ≤ x2) ∧ x2 ≤ 65535 := by unfold OkS at hok; dsimp only at hok; omega
    have d1 := dec_le 4 x1.toNat (by omega)
    have d2 := dec_le 4 x2.toNat (by omega)
    split
    · simp
    · split
      · dsimp only; omega
      · dsimp only
        rw [List.length_append, List.length_cons]
        omega
set_option maxRecDepth 10000 in
set_option maxHeartbeats 6400000 in
theorem sptexts_walk (x1 x2 : Int) (s : ByteArray) (w : World) (hT : Tabs w) (hs : s.size ≤ 1048576) :
    Calls Tryz.prog 3 #[.agg #[.int .i64 x1, .int .i64 x2], .string s] w fun e w' => e = .returned (.bool true) ∧ Below w.heap.size w w' := by
  have T := Lib.hid hT
  obtain ⟨a1, ha1⟩ : ∃ x, x = (sparse s.data.toList).1.1 := ⟨_, rfl⟩
  obtain ⟨a2, ha2⟩ : ∃ x, x = (sparse s.data.toList).1.2 := ⟨_, rfl⟩
  obtain ⟨e0, he0⟩ : ∃ x, x = (sparse s.data.toList).2 := ⟨_, rfl⟩
  have C1 : Hid (∀ w, MaxL w → Calls Tryz.prog 4 #[.string s] w fun e w' => e = .returned (.tuple #[.agg #[.int .i64 a1, .int .i64 a2], .int .i64 e0]) ∧ Below w.heap.size w w') := fun w h => by rw [ha1, ha2, he0]; exact sparse_any s w (by omega) h
  have C2 : Hid (∀ w, Calls Tryz.prog 5 #[.string s] w fun e w' => e = .returned (.tuple #[.agg #[.int .i64 a1, .int .i64 a2], .int .i64 e0]) ∧ Below w.heap.size w w') := fun w => by rw [ha1, ha2, he0]; exact rsparse_any s w (by omega)
  obtain ⟨t, ht⟩ : ∃ t : ByteArray, t = ⟨(sprint (x1, x2)).toArray⟩ := ⟨_, rfl⟩
  have P1 : Hid (∀ w, Pow w → Calls Tryz.prog 6 #[.agg #[.int .i64 x1, .int .i64 x2]] w fun e w' => e = .returned (.string t) ∧ Below w.heap.size w w') := fun w h => by rw [ht]; exact sprint_any x1 x2 w h
  have P2 : Hid (∀ w, Calls Tryz.prog 7 #[.agg #[.int .i64 x1, .int .i64 x2]] w fun e w' => e = .returned (.string t) ∧ Below w.heap.size w w') := fun w => by rw [ht]; exact rsprint_any x1 x2 w
  obtain ⟨c1, hc1⟩ : ∃ x, x = (sparse t.data.toList).1.1 := ⟨_, rfl⟩
  obtain ⟨c2, hc2⟩ : ∃ x, x = (sparse t.data.toList).1.2 := ⟨_, rfl⟩
  obtain ⟨g0, hg0⟩ : ∃ x, x = (sparse t.data.toList).2 := ⟨_, rfl⟩
  have htz : t.size ≤ 11 := by rw [ht]; exact sprint_size x1 x2
  have C3 : Hid (∀ w, MaxL w → Calls Tryz.prog 4 #[.string t] w fun e w' => e = .returned (.tuple #[.agg #[.int .i64 c1, .int .i64 c2], .int .i64 g0]) ∧ Below w.heap.size w w') := fun w h => by rw [hc1, hc2, hg0]; exact sparse_any t w (by omega) h
  obtain ⟨k, hk⟩ : ∃ k, k = chkS (x1, x2) := ⟨_, rfl⟩
  have K1 : Hid (∀ w, Calls Tryz.prog 9 #[.agg #[.int .i64 x1, .int .i64 x2]] w fun e w' => e = .returned (.int .i64 k) ∧ Below w.heap.size w w') := fun w => by rw [hk]; exact scheck_any x1 x2 w
  have HK : Hid (k = 0 → c1 = x1 ∧ c2 = x2 ∧ g0 = 0) := fun h => by
    have h2 := sparse_sprint (x1 := x1) (x2 := x2) (by rw [← hk]; exact h)
    have e : t.data.toList = sprint (x1, x2) := by rw [ht]
    rw [hc1, hc2, hg0, e, h2]
    exact ⟨rfl, rfl, rfl⟩
  have X0 := Lib.hid (SB.new w x1 x2)
  have B0 : Hid (Below w.heap.size w (w.alloc (.cells #[.int .i64 x1, .int .i64 x2] 23))) := (Below.refl _ _).alloc (Nat.le_refl _) _
  clear hT hs ha1 ha2 he0 ht hc1 hc2 hg0 htz hk
  go_enter Tryz.func3, Tryz.ntmps3
  go_wp2_with fail
  refine (C1.out _ (T.out.below B0.out).max).mono ?_
  rintro e w1 ⟨rfl, hb⟩
  have B1 := Lib.hid (below_both B0.out hb)
  have X1 := Lib.hid (X0.out.next hb)
  clear hb B0 X0
  have hd := (Below.refl w1.heap.size w1).alloc (Nat.le_refl _) (.cells #[.int .i64 a1, .int .i64 a2] 23)
  have B2 := Lib.hid (below_both B1.out hd)
  have X2 := Lib.hid (X1.out.next hd)
  have A2 := Lib.hid (SB.new w1 a1 a2)
  clear hd B1 X1
  go_wp2_with fail
  refine (C2.out _).mono ?_
  rintro e w2 ⟨rfl, hb⟩
  have B3 := Lib.hid (below_both B2.out hb)
  have X3 := Lib.hid (X2.out.next hb)
  have A3 := Lib.hid (A2.out.next hb)
  clear hb B2 X2 A2
  have hd := (Below.refl w2.heap.size w2).alloc (Nat.le_refl _) (.cells #[.int .i64 a1, .int .i64 a2] 23)
  have B4 := Lib.hid (below_both B3.out hd)
  have X4 := Lib.hid (X3.out.next hd)
  have A4 := Lib.hid (A3.out.next hd)
  have Q4 := Lib.hid (SB.new w2 a1 a2)
  clear hd B3 X3 A3
  go_wp2_with fail
  have T5 := Lib.hid ((T.out.below B4.out).below (w' := (w2.alloc (.cells #[.int .i64 a1, .int .i64 a2] 23)).drew) (Below.refl _ _).drew)
  generalize w1.heap.size = g7 at A4 ⊢
  generalize w2.heap.size = g9 at Q4 ⊢
  generalize w2.alloc (.cells #[.int .i64 a1, .int .i64 a2] 23) = W at *
  have X5 := Lib.hid (X4.out.next (W' := W.drew) (Below.refl _ _).drew)
  have A5 := Lib.hid (A4.out.next (W' := W.drew) (Below.refl _ _).drew)
  have Q5 := Lib.hid (Q4.out.next (W' := W.drew) (Below.refl _ _).drew)
  have B5 := Lib.hid B4.out.drew
  clear X4 A4 Q4 B4 T C1 C2
  have HD := Lib.hid (fun (w' : World) (hb : Below W.drew.heap.size W.drew w') => And.intro (X5.out.next hb).c0 (And.intro (X5.out.next hb).c1 (And.intro (A5.out.next hb).c0 (And.intro (A5.out.next hb).c1 (And.intro (Q5.out.next hb).c0 (Q5.out.next hb).c1)))))
  have HT := Lib.hid (fun (w' : World) (hb : Below W.drew.heap.size W.drew w') => And.intro (T5.out.below hb) (And.intro (X5.out.next hb) (below_both B5.out hb)))
  have D : Hid (Below W.drew.heap.size W.drew W.drew) := Below.refl _ _
  have hS := HD.out _ D.out
  clear X5 A5 Q5 B5 T5
  go_region_held3 (fun w' => w'.cell? ⟨w.heap.size, 0, none⟩ = some (.int .i64 x1) ∧ w'.cell? ⟨w.heap.size, 1, none⟩ = some (.int .i64 x2) ∧ w'.cell? ⟨g7, 0, none⟩ = some (.int .i64 a1) ∧ w'.cell? ⟨g7, 1, none⟩ = some (.int .i64 a2) ∧ w'.cell? ⟨g9, 0, none⟩ = some (.int .i64 a1) ∧ w'.cell? ⟨g9, 1, none⟩ = some (.int .i64 a2))
    (first | exact hS | go_keep)
    (first
      | (go_at_call 6; refine (P1.out _ (HT.out _ D.out).1.pow).mono ?_; rintro e w' ⟨rfl, hb⟩; have D := Lib.hid (below_both D.out hb); have hS := HD.out _ D.out; clear hb)
      | (go_at_call 7; refine (P2.out _).mono ?_; rintro e w' ⟨rfl, hb⟩; have D := Lib.hid (below_both D.out hb); have hS := HD.out _ D.out; clear hb)
      | fail)
  all_goals
    have h9 := HT.out _ D.out
    have T6 := Lib.hid h9.1
    have X6 := Lib.hid h9.2.1
    have B6 := Lib.hid h9.2.2
    clear h9 hS HD HT D
    have s0 := X6.out.c0; have s1 := X6.out.c1
    go_wp2_with fail
    refine (P1.out _ T6.out.pow).mono ?_
    rintro e w7 ⟨rfl, hb⟩
    have T7 := Lib.hid (T6.out.below hb)
    have X7 := Lib.hid (X6.out.next hb)
    have B7 := Lib.hid (below_both B6.out hb)
    clear hb T6 X6 B6 s0 s1
    go_wp2_with fail
    refine (C3.out _ T7.out.max).mono ?_
    rintro e w8 ⟨rfl, hb⟩
    have T8 := Lib.hid (T7.out.below hb)
    have X8 := Lib.hid (X7.out.next hb)
    have B8 := Lib.hid (below_both B7.out hb)
    clear hb T7 X7 B7
    have hd := (Below.refl w8.heap.size w8).alloc (Nat.le_refl _) (.cells #[.int .i64 c1, .int .i64 c2] 23)
    have B9 := Lib.hid (below_both B8.out hd)
    have X9 := Lib.hid (X8.out.next hd)
    have Y9 := Lib.hid (SB.new w8 c1 c2)
    have T9 := Lib.hid (T8.out.below hd)
    clear hd B8 X8 T8
    go_wp2_with fail
    refine (live08 _ T9.out).mono ?_
    rintro e w10 ⟨rfl, hb⟩
    have X10 := Lib.hid (X9.out.next hb)
    have Y10 := Lib.hid (Y9.out.next hb)
    have B10 := Lib.hid (below_both B9.out hb)
    clear hb X9 Y9 T9 B9
    have s0 := X10.out.c0; have s1 := X10.out.c1; have s2 := Y10.out.c0; have s3 := Y10.out.c1
    go_wp2_with fail
    refine (K1.out _).mono ?_
    rintro e w11 ⟨rfl, hb⟩
    have X11 := Lib.hid (X10.out.next hb)
    have Y11 := Lib.hid (Y10.out.next hb)
    have B11 := Lib.hid (below_both B10.out hb)
    clear hb X10 Y10 B10 s0 s1 s2 s3
    have s0 := X11.out.c0; have s1 := X11.out.c1; have s2 := Y11.out.c0; have s3 := Y11.out.c1
    by_cases hk0 : k = 0
    · obtain ⟨rfl, rfl, rfl⟩ := HK.out hk0
      subst hk0
      go_wp2_with fail
      go_ret
      exact ⟨by simp, B11.out⟩
    · have hkb : (k == 0) = false := by rw [beq_eq_false_iff_ne]; exact hk0
      go_wp2_with fail
      go_ret
      exact ⟨by simp, B11.out⟩
theorem walk_SpanTexts (x1 x2 : Int) (s : ByteArray) (w : World) (hT : Tabs w) (_ : -9223372036854775808 ≤ x1 ∧ x1 ≤ 9223372036854775807) (_ : -9223372036854775808 ≤ x2 ∧ x2 ≤ 9223372036854775807) (hs : s.size ≤ 1048576) :
    Calls Tryz.prog 3 #[.agg #[.int .i64 x1, .int .i64 x2], .string s] w fun e w' => e = .returned (.bool true) ∧ Below w.heap.size w w' := sptexts_walk x1 x2 s w hT hs
end Go.Proofs.YtpalnlbdfmiadaaGreatDoor
