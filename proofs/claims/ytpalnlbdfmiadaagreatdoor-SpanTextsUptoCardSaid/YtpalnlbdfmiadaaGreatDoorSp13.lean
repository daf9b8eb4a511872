/-
  Print.
-/
import Derived.Test.YtpalnlbdfmiadaaGreatDoorSp2
import Derived.Test.YtpalnlbdfmiadaaGreatDoorSpTxt
import Derived.Deep.RegionHeld3
namespace Go.Proofs.YtpalnlbdfmiadaaGreatDoor
open Go.RowKit Go.Shelf Go.Lib Go.Sort
set_option linter.unusedVariables false

def sprint (s : Sp) : List UInt8 := if chkS s ≠ 0 then [] else if s = (0, 65535) then [42] else if s.1 = s.2 then Lib.decDigits s.1.toNat else Lib.decDigits s.1.toNat ++ 45 :: Lib.decDigits s.2.toNat

theorem dec_le : ∀ (k n : Nat), n < 10 ^ (k + 1) → (Lib.decDigits n).length ≤ k + 1
  | 0, n, h => by rw [dec_small (by simpa using h)]; simp
  | k + 1, n, h => by
    by_cases h1 : n < 10
    · rw [dec_small h1]; simp
    · rw [dec_step h1, List.length_append]
      have := dec_le k (n / 10) (by rw [Nat.pow_succ] at h; omega)
      simp only [List.length_cons, List.length_nil]
      omega
theorem cat3 (a b : List UInt8) : (⟨(a ++ 45 :: b).toArray⟩ : ByteArray) = ⟨a.toArray⟩ ++ ⟨#[45]⟩ ++ ⟨b.toArray⟩ := by
  apply ByteArray.ext
  simp [ByteArray.data_append]
theorem dec_port {n : Int} (h : n ≤ 65535) : (⟨(Lib.decDigits n.toNat).toArray⟩ : ByteArray).size ≤ 5 := by
  have := dec_le 4 n.toNat (by omega)
  show (Lib.decDigits n.toNat).toArray.size ≤ 5
  simpa using this
set_option maxRecDepth 10000 in
set_option maxHeartbeats 1600000 in
theorem sprint_any (x1 x2 : Int) (w : World) (hT : Pow w) : Calls Tryz.prog 6 #[.agg #[.int .i64 x1, .int .i64 x2]] w fun e w' => e = .returned (.string ⟨(sprint (x1, x2)).toArray⟩) ∧ Below w.heap.size w w' := by
  have CK := Lib.hid (fun w => scheck_any x1 x2 w)
  have CA := Lib.hid sall_any
  have HT := Lib.hid hT
  have S0 := Lib.hid (SB.new w x1 x2)
  have B0 : Hid (Below w.heap.size w (w.alloc (.cells #[.int .i64 x1, .int .i64 x2] 23))) := (Below.refl _ _).alloc (Nat.le_refl _) _
  by_cases hc : chkS (x1, x2) = 0
  · have hok := chkS_ok.1 hc
    have hx : (0 ≤ x1 ∧ x1 ≤ x2) ∧ x2 ≤ 65535 := by unfold OkS at hok; dsimp only at hok; omega
    obtain ⟨⟨h0, h1⟩, h2⟩ := hx
    rw [hc] at CK
    have HE := Lib.hid (show sprint (x1, x2) = if (x1, x2) = (0, 65535) then [42] else if x1 = x2 then Lib.decDigits x1.toNat else Lib.decDigits x1.toNat ++ 45 :: Lib.decDigits x2.toNat by unfold sprint; rw [if_neg (by simp [hc])])
    have I1 := Lib.hid (fun w h => itoa_port x1 w h0 (by omega) h)
    have I2 := Lib.hid (fun w h => itoa_port x2 w (by omega) h2 h)
    clear hok hc hT
    go_enter Tryz.func6, Tryz.ntmps6
    go_wp2_with fail
    have s0 := S0.out.c0; have s1 := S0.out.c1
    go_wp2_with fail
    refine (CK.out _).mono ?_
    rintro e w1 ⟨rfl, hb⟩
    have HP := Lib.hid ((HT.out.below (below_both B0.out hb)).below (w' := w1.drew) (Below.refl _ _).drew)
    have S := Lib.hid ((S0.out.next hb).next (W' := w1.drew) (Below.refl _ _).drew)
    have B := Lib.hid (below_both B0.out hb).drew
    clear hb s0 s1 B0 S0 CK
    go_wp2_with fail
    have HD := Lib.hid (fun (w' : World) (hb : Below w1.drew.heap.size w1.drew w') => And.intro (S.out.next hb).c0 (S.out.next hb).c1)
    have HQ := Lib.hid (fun (w' : World) (hb : Below w1.drew.heap.size w1.drew w') => And.intro (HP.out.below hb) (And.intro (S.out.next hb) (below_both B.out hb)))
    have D : Hid (Below w1.drew.heap.size w1.drew w1.drew) := Below.refl _ _
    have hS := HD.out _ D.out
    clear HP HT S B
    rcases (by omega : (x1 = 0 ∧ x2 = 65535) ∨ x1 ≠ 0 ∨ (x1 = 0 ∧ x2 ≠ 65535)) with ⟨rfl, rfl⟩ | ha | ⟨rfl, ha⟩
    · go_region_held3 (fun w' => w'.cell? ⟨w.heap.size, 0, none⟩ = some (.int .i64 0) ∧ w'.cell? ⟨w.heap.size, 1, none⟩ = some (.int .i64 65535))
        (first | exact hS | go_keep)
        (first
          | (go_at_call 10; refine (CA.out _).mono ?_; rintro e w' ⟨rfl, hb⟩; have D := Lib.hid (below_both D.out hb); have hS := HD.out _ D.out; clear hb)
          | fail)
      all_goals
        go_wp2_with fail
        go_ret
        exact ⟨by rw [HE.out]; rfl, (HQ.out _ D.out).2.2⟩
    · go_region_held3 (fun w' => w'.cell? ⟨w.heap.size, 0, none⟩ = some (.int .i64 x1) ∧ w'.cell? ⟨w.heap.size, 1, none⟩ = some (.int .i64 x2))
        (first | exact hS | go_keep)
        (first
          | (go_at_call 10; refine (CA.out _).mono ?_; rintro e w' ⟨rfl, hb⟩; have D := Lib.hid (below_both D.out hb); have hS := HD.out _ D.out; clear hb)
          | fail)
      all_goals
        have hq := HQ.out _ D.out
        have S := Lib.hid (hq.2.1.next (W' := w'.drew) (Below.refl _ _).drew)
        have B := Lib.hid hq.2.2.drew
        have HP := Lib.hid (hq.1.below (w' := w'.drew) (Below.refl _ _).drew)
        have s0 := hq.2.1.c0; have s1 := hq.2.1.c1
        have hp := Lib.hid hq.1
        have B9 := Lib.hid hq.2.2
        clear hq hS HD HQ D CA
        rcases Int.lt_or_eq_of_le h1 with hlt | heq
        · have hne : (x1 == x2) = false := by simp; omega
          have HE2 := Lib.hid (show (⟨(sprint (x1, x2)).toArray⟩ : ByteArray) = ⟨(Lib.decDigits (x1 : Int).toNat).toArray⟩ ++ ⟨#[45]⟩ ++ ⟨(Lib.decDigits x2.toNat).toArray⟩ by rw [HE.out, if_neg (by simp; omega), if_neg (by omega)]; exact cat3 _ _)
          have hz1 := dec_port (n := x1) (by omega)
          have hz2 := dec_port (n := x2) h2
          generalize (⟨(Lib.decDigits (x1 : Int).toNat).toArray⟩ : ByteArray) = t1 at HE2 hz1 I1
          generalize (⟨(Lib.decDigits x2.toNat).toArray⟩ : ByteArray) = t2 at HE2 hz2 I2
          have z1 : t1.size + (⟨#[45]⟩ : ByteArray).size ≤ 9223372036854775807 := by show t1.size + 1 ≤ _; omega
          have z2 : (t1 ++ ⟨#[45]⟩ : ByteArray).size + t2.size ≤ 9223372036854775807 := by rw [ByteArray.size_append]; show t1.size + 1 + t2.size ≤ _; omega
          have z3 : t1.size + 1 ≤ 9223372036854775807 := by omega
          have z4 : t1.size + 1 + t2.size ≤ 9223372036854775807 := by omega
          have z5 : ¬ (9223372036854775807 < t1.size + 1) := by omega
          have z6 : ¬ (9223372036854775807 < t1.size + 1 + t2.size) := by omega
          clear HE hp B9 hz1 hz2
          go_wp2_with fail
          have HD := Lib.hid (fun (w2 : World) (hb : Below w'.drew.heap.size w'.drew w2) => And.intro (S.out.next hb).c0 (S.out.next hb).c1)
          have HQ := Lib.hid (fun (w2 : World) (hb : Below w'.drew.heap.size w'.drew w2) => And.intro (HP.out.below hb) (below_both B.out hb))
          have D : Hid (Below w'.drew.heap.size w'.drew w'.drew) := Below.refl _ _
          have hS := HD.out _ D.out
          clear HP S B s0 s1
          go_region_held3 (fun w2 => w2.cell? ⟨w.heap.size, 0, none⟩ = some (.int .i64 x1) ∧ w2.cell? ⟨w.heap.size, 1, none⟩ = some (.int .i64 x2))
            (first | exact hS | go_keep)
            (first
              | (go_at_call 16; with_reducible refine (I1.out _ (HQ.out _ D.out).1).mono ?_; rintro e w2 ⟨rfl, hb⟩; have D := Lib.hid (below_both D.out hb); have hS := HD.out _ D.out; clear hb)
              | (go_at_call 16; with_reducible refine (I2.out _ (HQ.out _ D.out).1).mono ?_; rintro e w2 ⟨rfl, hb⟩; have D := Lib.hid (below_both D.out hb); have hS := HD.out _ D.out; clear hb)
              | fail)
          all_goals
            go_wp2_with fail
            go_ret
            exact ⟨by rw [HE2.out]; rfl, (HQ.out _ D.out).2⟩
        · subst heq
          have HE2 := Lib.hid (show sprint (x1, x1) = Lib.decDigits (x1 : Int).toNat by rw [HE.out, if_neg (by simp <;> omega), if_pos rfl])
          clear HE HP S B
          go_wp2_with fail
          refine (I1.out _ hp.out).mono ?_
          rintro e w3 ⟨rfl, hb⟩
          have B := Lib.hid (below_both B9.out hb)
          clear hb s0 s1
          go_wp2_with fail
          go_ret
          exact ⟨by rw [HE2.out]; rfl, B.out⟩
    · go_region_held3 (fun w' => w'.cell? ⟨w.heap.size, 0, none⟩ = some (.int .i64 0) ∧ w'.cell? ⟨w.heap.size, 1, none⟩ = some (.int .i64 x2))
        (first | exact hS | go_keep)
        (first
          | (go_at_call 10; refine (CA.out _).mono ?_; rintro e w' ⟨rfl, hb⟩; have D := Lib.hid (below_both D.out hb); have hS := HD.out _ D.out; clear hb)
          | fail)
      all_goals
        have hq := HQ.out _ D.out
        have S := Lib.hid (hq.2.1.next (W' := w'.drew) (Below.refl _ _).drew)
        have B := Lib.hid hq.2.2.drew
        have HP := Lib.hid (hq.1.below (w' := w'.drew) (Below.refl _ _).drew)
        have s0 := hq.2.1.c0; have s1 := hq.2.1.c1
        have hp := Lib.hid hq.1
        have B9 := Lib.hid hq.2.2
        clear hq hS HD HQ D CA
        rcases Int.lt_or_eq_of_le h1 with hlt | heq
        · have hne : (0 == x2) = false := by simp; omega
          have HE2 := Lib.hid (show (⟨(sprint (0, x2)).toArray⟩ : ByteArray) = ⟨(Lib.decDigits (0 : Int).toNat).toArray⟩ ++ ⟨#[45]⟩ ++ ⟨(Lib.decDigits x2.toNat).toArray⟩ by rw [HE.out, if_neg (by simp; omega), if_neg (by omega)]; exact cat3 _ _)
          have hz1 := dec_port (n := 0) (by omega)
          have hz2 := dec_port (n := x2) h2
          generalize (⟨(Lib.decDigits (0 : Int).toNat).toArray⟩ : ByteArray) = t1 at HE2 hz1 I1
          generalize (⟨(Lib.decDigits x2.toNat).toArray⟩ : ByteArray) = t2 at HE2 hz2 I2
          have z1 : t1.size + (⟨#[45]⟩ : ByteArray).size ≤ 9223372036854775807 := by show t1.size + 1 ≤ _; omega
          have z2 : (t1 ++ ⟨#[45]⟩ : ByteArray).size + t2.size ≤ 9223372036854775807 := by rw [ByteArray.size_append]; show t1.size + 1 + t2.size ≤ _; omega
          have z3 : t1.size + 1 ≤ 9223372036854775807 := by omega
          have z4 : t1.size + 1 + t2.size ≤ 9223372036854775807 := by omega
          have z5 : ¬ (9223372036854775807 < t1.size + 1) := by omega
          have z6 : ¬ (9223372036854775807 < t1.size + 1 + t2.size) := by omega
          clear HE hp B9 hz1 hz2
          go_wp2_with fail
          have HD := Lib.hid (fun (w2 : World) (hb : Below w'.drew.heap.size w'.drew w2) => And.intro (S.out.next hb).c0 (S.out.next hb).c1)
          have HQ := Lib.hid (fun (w2 : World) (hb : Below w'.drew.heap.size w'.drew w2) => And.intro (HP.out.below hb) (below_both B.out hb))
          have D : Hid (Below w'.drew.heap.size w'.drew w'.drew) := Below.refl _ _
          have hS := HD.out _ D.out
          clear HP S B s0 s1
          go_region_held3 (fun w2 => w2.cell? ⟨w.heap.size, 0, none⟩ = some (.int .i64 0) ∧ w2.cell? ⟨w.heap.size, 1, none⟩ = some (.int .i64 x2))
            (first | exact hS | go_keep)
            (first
              | (go_at_call 16; with_reducible refine (I1.out _ (HQ.out _ D.out).1).mono ?_; rintro e w2 ⟨rfl, hb⟩; have D := Lib.hid (below_both D.out hb); have hS := HD.out _ D.out; clear hb)
              | (go_at_call 16; with_reducible refine (I2.out _ (HQ.out _ D.out).1).mono ?_; rintro e w2 ⟨rfl, hb⟩; have D := Lib.hid (below_both D.out hb); have hS := HD.out _ D.out; clear hb)
              | fail)
          all_goals
            go_wp2_with fail
            go_ret
            exact ⟨by rw [HE2.out]; rfl, (HQ.out _ D.out).2⟩
        · subst heq
          have HE2 := Lib.hid (show sprint (0, 0) = Lib.decDigits (0 : Int).toNat by rw [HE.out, if_neg (by simp <;> omega), if_pos rfl])
          clear HE HP S B
          go_wp2_with fail
          refine (I1.out _ hp.out).mono ?_
          rintro e w3 ⟨rfl, hb⟩
          have B := Lib.hid (below_both B9.out hb)
          clear hb s0 s1
          go_wp2_with fail
          go_ret
          exact ⟨by rw [HE2.out]; rfl, B.out⟩
  · have hb1 : (chkS (x1, x2) != 0) = true := by rw [bne_iff_ne]; exact hc
    have HE := Lib.hid (show sprint (x1, x2) = [] by unfold sprint; rw [if_pos hc])
    generalize chkS (x1, x2) = c at CK hb1
    clear hc hT
    go_enter Tryz.func6, Tryz.ntmps6
    go_wp2_with fail
    have s0 := S0.out.c0; have s1 := S0.out.c1
    go_wp2_with fail
    refine (CK.out _).mono ?_
    rintro e w1 ⟨rfl, hb⟩
    have B := Lib.hid (below_both B0.out hb)
    clear hb s0 s1 B0 S0 CK
    go_wp2_with fail
    go_ret
    exact ⟨by rw [HE.out]; rfl, B.out⟩
end Go.Proofs.YtpalnlbdfmiadaaGreatDoor
