/-
  Contracts of the document's Is, Split, Join, Af, Prec, digit of layer 9, and of its Number of layer 5 at any most of digits.
  Contracts of the document's Sort, Name, Number and Parse of layers 9 and 5.
-/
import Derived.Test.YtdeoeikpooonlaaDoorPt3
import Derived.Test.YtdeoeikpooonlaaDoorRDot
namespace Go.Proofs.YtdeoeikpooonlaaDoor
open Go.RowKit
set_option linter.unusedVariables false

theorem rptsplit_any (b : Nat) (w : World) (hb : b ≤ 255) :
    Calls Tryd.prog 12 #[.int .u8 b] w fun e w' => e = .returned (.tuple #[.int .i64 (b / 4 : Nat), .int .i64 (b % 4 : Nat)]) ∧ w = w' := by
  have h1 : wrap64 (b : Int) = (b : Int) := by unfold wrap64; omega
  go_enter Tryd.func12, Tryd.ntmps12
  go_wp2_with fail
  go_ret2
  exact ⟨rfl, rfl⟩
theorem rptis_any (d : Int) (w : World) (b : Bool) (h : b = decide (0 ≤ d ∧ d < 64)) : Calls Tryd.prog 56 #[.int .i64 d] w fun e w' => e = .returned (.bool b) ∧ w = w' := by
  by_cases h0 : 0 ≤ d
  · have H : Hid (b = decide (d ≤ 63)) := by show b = _; rw [h]; simp [h0]; omega
    clear h
    go_enter Tryd.func56, Tryd.ntmps56
    go_wp2_with fail
    go_ret
    exact ⟨by rw [H.out]; rfl, rfl⟩
  · have H : Hid (b = false) := by show b = _; rw [h]; simp; omega
    clear h
    have h1 : d < 0 := by omega
    clear h0
    go_enter Tryd.func56, Tryd.ntmps56
    go_wp2_with fail
    go_ret
    exact ⟨by rw [H.out]; rfl, rfl⟩
theorem rptjoin_any (d e : Int) (w : World) : Calls Tryd.prog 14 #[.int .i64 d, .int .i64 e] w fun en w' => en = .returned (ptJoin d e) ∧ w = w' := by
  by_cases h0 : 0 ≤ d ∧ d < 64
  · by_cases h1 : 0 ≤ e ∧ e < 4
    · have H : Hid (ptJoin d e = .tuple #[.int .u8 (4 * d + e), .int .i64 0]) := by show ptJoin d e = _; rw [ptJoin, if_pos h0, if_pos h1]
      have C := Lib.hid (fun w => rptis_any d w true (by simp [h0]))
      obtain ⟨⟨h2, h3⟩, h4, h5⟩ := And.intro h0 h1
      clear h0 h1
      obtain ⟨n, rfl⟩ := Int.eq_ofNat_of_zero_le h2
      obtain ⟨m, rfl⟩ := Int.eq_ofNat_of_zero_le h4
      have k2 : IntKind.u8.wrap (4 * (n : Int) + (m : Int)) = 4 * (n : Int) + (m : Int) := by show (4 * (n : Int) + (m : Int)) % 256 = _; omega
      have k3 : IntKind.u8.wrap ((n : Int) * 4 + (m : Int)) = 4 * (n : Int) + (m : Int) := by show ((n : Int) * 4 + (m : Int)) % 256 = _; omega
      have h6 : (m : Int) ≤ 3 := by omega
      go_enter Tryd.func14, Tryd.ntmps14
      go_wp2_with fail
      refine (C.out _).mono ?_
      rintro e w' ⟨rfl, rfl⟩
      go_wp2_with fail
      go_ret2
      exact ⟨H.out.symm ▸ rfl, rfl⟩
    · have H : Hid (ptJoin d e = .tuple #[.int .u8 0, .int .i64 1]) := by show ptJoin d e = _; rw [ptJoin, if_pos h0, if_neg h1]
      have C := Lib.hid (fun w => rptis_any d w true (by simp [h0]))
      clear h0
      by_cases h2 : e < 0
      · clear h1
        go_enter Tryd.func14, Tryd.ntmps14
        go_wp2_with fail
        refine (C.out _).mono ?_
        rintro e w' ⟨rfl, rfl⟩
        go_wp2_with fail
        go_ret2
        exact ⟨H.out.symm ▸ rfl, rfl⟩
      · have h3 : 0 ≤ e := by omega
        have h4 : 3 < e := by omega
        clear h1 h2
        go_enter Tryd.func14, Tryd.ntmps14
        go_wp2_with fail
        refine (C.out _).mono ?_
        rintro e w' ⟨rfl, rfl⟩
        go_wp2_with fail
        go_ret2
        exact ⟨H.out.symm ▸ rfl, rfl⟩
  · have H : Hid (ptJoin d e = .tuple #[.int .u8 0, .int .i64 14]) := by show ptJoin d e = _; rw [ptJoin, if_neg h0]
    have C := Lib.hid (fun w => rptis_any d w false (by simp [h0]))
    clear h0
    go_enter Tryd.func14, Tryd.ntmps14
    go_wp2_with fail
    refine (C.out _).mono ?_
    rintro e w' ⟨rfl, rfl⟩
    go_wp2_with fail
    go_ret2
    exact ⟨H.out.symm ▸ rfl, rfl⟩
theorem rptaf_yes (c p : Int) (w : World) (h1 : 1 ≤ c) (h2 : c ≤ 4) (h3 : 1 ≤ p) (h4 : p ≤ 3) : Calls Tryd.prog 16 #[.int .i64 c, .int .i64 p] w fun en w' => en = .returned (.tuple #[.int .i64 (8 * c + 2 * p), .int .i64 0]) ∧ w = w' := by
  go_enter Tryd.func16, Tryd.ntmps16
  go_wp2_with fail
  go_ret2
  exact ⟨rfl, rfl⟩
theorem rptaf_no (c p : Int) (w : World) (h : ¬ (1 ≤ c ∧ c ≤ 4 ∧ 1 ≤ p ∧ p ≤ 3)) : Calls Tryd.prog 16 #[.int .i64 c, .int .i64 p] w fun en w' => en = .returned (.tuple #[.int .i64 0, .int .i64 1]) ∧ w = w' := by
  by_cases h1 : c < 1
  · clear h
    go_enter Tryd.func16, Tryd.ntmps16
    go_wp2_with fail
    go_ret2
    exact ⟨rfl, rfl⟩
  have g1 : 1 ≤ c := by omega
  by_cases h2 : 4 < c
  · clear h h1
    go_enter Tryd.func16, Tryd.ntmps16
    go_wp2_with fail
    go_ret2
    exact ⟨rfl, rfl⟩
  have g2 : c ≤ 4 := by omega
  by_cases h3 : p < 1
  · clear h h1 h2
    go_enter Tryd.func16, Tryd.ntmps16
    go_wp2_with fail
    go_ret2
    exact ⟨rfl, rfl⟩
  have g3 : 1 ≤ p := by omega
  have h4 : 3 < p := by omega
  clear h h1 h2 h3
  go_enter Tryd.func16, Tryd.ntmps16
  go_wp2_with fail
  go_ret2
  exact ⟨rfl, rfl⟩
theorem rptaf_any (c p : Int) (w : World) : Calls Tryd.prog 16 #[.int .i64 c, .int .i64 p] w fun en w' => en = .returned (ptAf c p) ∧ w = w' := by
  unfold ptAf
  split
  · rename_i h
    exact rptaf_yes c p w h.1 h.2.1 h.2.2.1 h.2.2.2
  · rename_i h
    exact rptaf_no c p w h
theorem ptPrec_hit {d : Int} {c p : Nat} (h1 : 1 ≤ c) (h2 : c ≤ 4) (h3 : 1 ≤ p) (h4 : p ≤ 3) (h : 8 * (c : Int) + 2 * (p : Int) = d) : ptPrec d = p := by
  subst h
  unfold ptPrec
  rw [if_pos (by omega)]
  omega
theorem ptPrec_miss {d : Int} (h : ∀ c p : Nat, 1 ≤ c → c ≤ 4 → 1 ≤ p → p ≤ 3 → 8 * (c : Int) + 2 * (p : Int) ≠ d) : ptPrec d = 0 := by
  unfold ptPrec
  split
  · rename_i hr
    rcases (by omega : d % 8 / 2 = 0 ∨ (1 ≤ d % 8 / 2 ∧ d % 8 / 2 ≤ 3)) with k | k
    · rw [k]; rfl
    · exact absurd (by omega) (h (d / 8).toNat (d % 8 / 2).toNat (by omega) (by omega) (by omega) (by omega))
  · rfl
theorem inc_small {k : Nat} (h : k ≤ 100) : wrap64 ((k : Int) + 1) = ((k + 1 : Nat) : Int) := by
  have h2 : wrap64 ((k : Int) + 1) = (k : Int) + 1 := by unfold wrap64; omega
  rw [h2]
  rfl
set_option maxHeartbeats 800000 in
theorem rptprec_any (d : Int) (w : World) : Calls Tryd.prog 23 #[.int .i64 d] w fun en w' => en = .returned (.int .i64 (ptPrec d : Nat)) ∧ w = w' := by
  go_enter Tryd.func23, Tryd.ntmps23
  go_wp2_with fail
  go_loop [3] (fun i => ∃ c : Nat, 1 ≤ c ∧ c ≤ 5 ∧ i = .int .i64 c ∧ Hid (∀ c' p : Nat, 1 ≤ c' → c' < c → 1 ≤ p → p ≤ 3 → 8 * (c' : Int) + 2 * (p : Int) ≠ d)) (fun i => 5 - (intOf i).toNat)
  case atStart => exact ⟨1, by decide, by decide, rfl, fun c' p h1 h2 => absurd h2 (by omega)⟩
  case round =>
    obtain ⟨c, hc1, hc5, rfl, HC⟩ := hrel
    by_cases hc4 : c ≤ 4
    · have wc : wrap64 ((c : Int) + 1) = ((c + 1 : Nat) : Int) := inc_small (by omega)
      go_wp2_with fail
      go_loop [4] (fun i => ∃ p : Nat, 1 ≤ p ∧ p ≤ 4 ∧ i = .int .i64 p ∧ Hid (∀ p' : Nat, 1 ≤ p' → p' < p → 8 * (c : Int) + 2 * (p' : Int) ≠ d)) (fun i => 4 - (intOf i).toNat)
      case atStart => exact ⟨1, by decide, by decide, rfl, fun p' h1 h2 => absurd h2 (by omega)⟩
      case round =>
        obtain ⟨p, hp1, hp4, rfl, HP⟩ := hrel
        by_cases hp3 : p ≤ 3
        · have wp : wrap64 ((p : Int) + 1) = ((p + 1 : Nat) : Int) := inc_small (by omega)
          have CA := Lib.hid (fun w => rptaf_yes (c : Int) (p : Int) w (by omega) (by omega) (by omega) (by omega))
          obtain ⟨x, hx⟩ : ∃ x, 8 * (c : Int) + 2 * (p : Int) = x := ⟨_, rfl⟩
          rw [hx] at CA
          by_cases he : x = d
          · subst he
            have E := Lib.hid (ptPrec_hit hc1 hc4 hp1 hp3 hx)
            clear hx wc wp
            go_wp2_with fail
            refine (CA.out _).mono ?_
            rintro e w1 ⟨rfl, rfl⟩
            go_wp2_with fail
            go_ret
            exact ⟨by rw [E.out]; rfl, rfl⟩
          · have q : (x == d) = false := by simpa using he
            have HP1 : Hid (∀ p' : Nat, 1 ≤ p' → p' < p + 1 → 8 * (c : Int) + 2 * (p' : Int) ≠ d) := fun p' h1 h2 => by
              rcases (by omega : p' = p ∨ p' < p) with rfl | h3
              · rw [hx]; exact he
              · exact HP.out p' h1 h3
            clear hx wc he
            go_wp2_with fail
            refine (CA.out _).mono ?_
            rintro e w1 ⟨rfl, rfl⟩
            go_wp2_with fail
            go_round
            case rel => first | exact ⟨p + 1, by omega, by omega, rfl, HP1.out⟩ | exact ⟨_, _, ⟨p + 1, by omega, by omega, rfl, HP1.out⟩, rfl, rfl⟩ | fail
            case measure => simp [intOf]; omega
        · obtain rfl : p = 4 := by omega
          have HC1 : Hid (∀ c' p : Nat, 1 ≤ c' → c' < c + 1 → 1 ≤ p → p ≤ 3 → 8 * (c' : Int) + 2 * (p : Int) ≠ d) := fun c' p h1 h2 h3 h4 => by
            rcases (by omega : c' = c ∨ c' < c) with rfl | h5
            · exact HP.out p h3 (by omega)
            · exact HC.out c' p h1 h5 h3 h4
          go_wp2_with fail
          go_round
          case rel => first | exact ⟨c + 1, by omega, by omega, rfl, HC1.out⟩ | exact ⟨_, _, ⟨c + 1, by omega, by omega, rfl, HC1.out⟩, rfl, rfl⟩ | fail
          case measure => simp [intOf]; omega
    · obtain rfl : c = 5 := by omega
      have E : Hid (ptPrec d = 0) := ptPrec_miss fun c' p h1 h2 h3 h4 => HC.out c' p h1 (by omega) h3 h4
      go_wp2_with fail
      go_ret
      exact ⟨by rw [E.out]; rfl, rfl⟩
theorem pt_conv (W : World) (D : Nat) (hD : D < 256) : (convert 62 9 (.slice (some ⟨W.heap.size, 0, none⟩) 1 1)).run Tryd.prog (W.alloc (.cells #[.int .u8 (D : Int)] 5)) = .ok (.string (str [D])) (W.alloc (.cells #[.int .u8 (D : Int)] 5)) :=
  conv_str ((Own.new W [D]).row (by simpa using hD))
set_option maxRecDepth 10000 in
theorem rptdigit_any (n : Nat) (w : World) (hn : n < 10) : Calls Tryd.prog 60 #[.int .i64 n] w fun en w' => en = .returned (.string (dig n)) ∧ Below w.heap.size w w' := by
  obtain ⟨D, hD⟩ : ∃ D, D = 48 + n := ⟨_, rfl⟩
  have E : Hid (str [D] = dig n) := by show str _ = _; rw [dig_ten hn, hD]; rfl
  have k1 : wrap64 (48 + (n : Int)) = (D : Int) := by unfold wrap64; omega
  have k2 : IntKind.u8.wrap (D : Int) = (D : Int) := by show (D : Int) % 256 = _; omega
  have hc := pt_conv w D (by omega)
  clear hD hn
  generalize str [D] = S at *
  go_enter Tryd.func60, Tryd.ntmps60
  go_wp2_with fail
  go_ret
  exact ⟨pt_ret E.out, (Below.refl _ _).alloc (Nat.le_refl _) _⟩
end Go.Proofs.YtdeoeikpooonlaaDoor

namespace Go.Proofs.YtdeoeikpooonlaaDoor
open Go.RowKit
set_option linter.unusedVariables false

set_option maxHeartbeats 800000 in
theorem rptsort_any (d : Int) (w : World) (h1 : -9223372036854775808 ≤ d) (h2 : d ≤ 9223372036854775807) : Calls Tryd.prog 21 #[.int .i64 d] w fun en w' => en = .returned (.string (ptSort d)) ∧ w = w' := by
  by_cases hv : 0 ≤ d ∧ d < 64
  · have C := Lib.hid (fun w => rptis_any d w true (by simp [hv]))
    obtain ⟨hv0, hv1⟩ := hv
    by_cases h8 : d % 8 = 0
    · have E : Hid (ptSort d = ⟨#[99, 108, 97, 115, 115]⟩) := by show ptSort d = _; rw [ptSort, ptSort_class hv0 hv1 h8]; rfl
      obtain ⟨n, rfl⟩ := Int.eq_ofNat_of_zero_le hv0
      clear h1 h2 hv0 hv1
      go_enter Tryd.func21, Tryd.ntmps21
      go_wp2_with fail
      refine (C.out _).mono ?_
      rintro e w' ⟨rfl, rfl⟩
      go_wp2_with fail
      go_ret
      exact ⟨pt_ret E.out.symm, rfl⟩
    · have CP := Lib.hid (fun w => rptprec_any d w)
      have q8 : (d % 8 == 0) = false := by simpa using h8
      by_cases hp : ptPrec d = 0
      · have E0 := ptSort_rest hv0 hv1 h8 hp
        rw [hp] at CP
        obtain ⟨n, rfl⟩ := Int.eq_ofNat_of_zero_le hv0
        clear h1 h2 hv0 hv1 h8 hp
        by_cases a : (n : Int) = 46
        · have E : Hid (ptSort (n : Int) = ⟨#[101, 120, 112, 101, 100, 105, 116, 101, 100]⟩) := by show ptSort _ = _; rw [ptSort, E0, if_pos a]; rfl
          have qa : ((n : Int) == 46) = true := by simpa using a
          clear E0 a
          go_enter Tryd.func21, Tryd.ntmps21
          go_wp2_with fail
          refine (C.out _).mono ?_
          rintro e w' ⟨rfl, rfl⟩
          go_wp2_with fail
          refine (CP.out _).mono ?_
          rintro e w' ⟨rfl, rfl⟩
          go_wp2_with fail
          go_ret
          exact ⟨pt_ret E.out.symm, rfl⟩
        have qa : ((n : Int) == 46) = false := by simpa using a
        rw [if_neg a] at E0
        by_cases b : (n : Int) = 44
        · have E : Hid (ptSort (n : Int) = ⟨#[118, 111, 105, 99, 101]⟩) := by show ptSort _ = _; rw [ptSort, E0, if_pos b]; rfl
          have qb : ((n : Int) == 44) = true := by simpa using b
          clear E0 a b
          go_enter Tryd.func21, Tryd.ntmps21
          go_wp2_with fail
          refine (C.out _).mono ?_
          rintro e w' ⟨rfl, rfl⟩
          go_wp2_with fail
          refine (CP.out _).mono ?_
          rintro e w' ⟨rfl, rfl⟩
          go_wp2_with fail
          go_ret
          exact ⟨pt_ret E.out.symm, rfl⟩
        have qb : ((n : Int) == 44) = false := by simpa using b
        rw [if_neg b] at E0
        by_cases c : (n : Int) = 1
        · have E : Hid (ptSort (n : Int) = ⟨#[108, 111, 119, 101, 114]⟩) := by show ptSort _ = _; rw [ptSort, E0, if_pos c]; rfl
          have qc : ((n : Int) == 1) = true := by simpa using c
          clear E0 a b c
          go_enter Tryd.func21, Tryd.ntmps21
          go_wp2_with fail
          refine (C.out _).mono ?_
          rintro e w' ⟨rfl, rfl⟩
          go_wp2_with fail
          refine (CP.out _).mono ?_
          rintro e w' ⟨rfl, rfl⟩
          go_wp2_with fail
          go_ret
          exact ⟨pt_ret E.out.symm, rfl⟩
        have qc : ((n : Int) == 1) = false := by simpa using c
        rw [if_neg c] at E0
        have E : Hid (ptSort (n : Int) = ⟨#[111, 116, 104, 101, 114]⟩) := by show ptSort _ = _; rw [ptSort, E0]; rfl
        clear E0 a b c
        go_enter Tryd.func21, Tryd.ntmps21
        go_wp2_with fail
        refine (C.out _).mono ?_
        rintro e w' ⟨rfl, rfl⟩
        go_wp2_with fail
        refine (CP.out _).mono ?_
        rintro e w' ⟨rfl, rfl⟩
        go_wp2_with fail
        go_ret
        exact ⟨pt_ret E.out.symm, rfl⟩
      · have E : Hid (ptSort d = ⟨#[97, 115, 115, 117, 114, 101, 100]⟩) := by show ptSort d = _; rw [ptSort, ptSort_assured hv0 hv1 h8 hp]; rfl
        have qp : (0 : Int) < ((ptPrec d : Nat) : Int) := by omega
        obtain ⟨n, rfl⟩ := Int.eq_ofNat_of_zero_le hv0
        clear h1 h2 hv0 hv1 h8 hp
        generalize ptPrec (n : Int) = p at *
        go_enter Tryd.func21, Tryd.ntmps21
        go_wp2_with fail
        refine (C.out _).mono ?_
        rintro e w' ⟨rfl, rfl⟩
        go_wp2_with fail
        refine (CP.out _).mono ?_
        rintro e w' ⟨rfl, rfl⟩
        go_wp2_with fail
        go_ret
        exact ⟨pt_ret E.out.symm, rfl⟩
  · have C := Lib.hid (fun w => rptis_any d w false (by simp [hv]))
    have E : Hid (ptSort d = ⟨#[]⟩) := by show ptSort d = _; rw [ptSort, ptSort_none (by omega)]; rfl
    clear hv h1 h2
    go_enter Tryd.func21, Tryd.ntmps21
    go_wp2_with fail
    refine (C.out _).mono ?_
    rintro e w' ⟨rfl, rfl⟩
    go_wp2_with fail
    go_ret
    exact ⟨pt_ret E.out.symm, rfl⟩

set_option maxRecDepth 10000 in
set_option maxHeartbeats 1600000 in
theorem rptname_any (d : Int) (w : World) (h1 : -9223372036854775808 ≤ d) (h2 : d ≤ 9223372036854775807) : Calls Tryd.prog 25 #[.int .i64 d] w fun en w' => en = .returned (.string (ptName d)) ∧ Below w.heap.size w w' := by
  have CS := Lib.hid (fun w => rptsort_any d w h1 h2)
  have hle := ptSort_le d
  obtain ⟨c, hc⟩ : ∃ c, ptSortN d = c := ⟨_, rfl⟩
  unfold ptSort at CS
  rw [hc] at CS hle
  by_cases h0 : c = 0
  · subst h0
    have E := Lib.hid (ptName_none hc)
    obtain ⟨sw, hsw, f0, f1, f2, f3, f4, f5, f6⟩ := ptWord_facts 0 (by decide)
    rw [hsw] at CS
    have f0 : sw.toList.isEmpty = true := f0
    have f1 : (sw.toList == [99, 108, 97, 115, 115]) = false := f1
    have f2 : (sw.toList == [97, 115, 115, 117, 114, 101, 100]) = false := f2
    have f3 : (sw.toList == [101, 120, 112, 101, 100, 105, 116, 101, 100]) = false := f3
    have f4 : (sw.toList == [118, 111, 105, 99, 101]) = false := f4
    have f5 : (sw.toList == [108, 111, 119, 101, 114]) = false := f5
    have f6 : (sw.toList == [111, 116, 104, 101, 114]) = false := f6
    clear hsw
    clear hc h1 h2 hle
    go_enter Tryd.func25, Tryd.ntmps25
    go_wp2_with fail
    refine (CS.out _).mono ?_
    rintro e w' ⟨rfl, rfl⟩
    go_wp2_with fail
    go_ret
    exact ⟨pt_ret E.out.symm, Below.refl _ _⟩
  have hr := ptSortN_range (d := d) (by rw [hc]; exact h0)
  have CP := Lib.hid (fun w => rptprec_any d w)
  obtain ⟨n, rfl⟩ := Int.eq_ofNat_of_zero_le hr.1
  have hn : n < 64 := by have := hr.2; omega
  clear h1 h2 hr
  rcases (by omega : c = 1 ∨ c = 2 ∨ c = 3 ∨ c = 4 ∨ c = 5 ∨ c = 6) with rfl | rfl | rfl | rfl | rfl | rfl
  · have E := Lib.hid (ptName_class hn hc)
    obtain ⟨sw, hsw, f0, f1, f2, f3, f4, f5, f6⟩ := ptWord_facts 1 (by decide)
    rw [hsw] at CS
    have f0 : sw.toList.isEmpty = false := f0
    have f1 : (sw.toList == [99, 108, 97, 115, 115]) = true := f1
    have f2 : (sw.toList == [97, 115, 115, 117, 114, 101, 100]) = false := f2
    have f3 : (sw.toList == [101, 120, 112, 101, 100, 105, 116, 101, 100]) = false := f3
    have f4 : (sw.toList == [118, 111, 105, 99, 101]) = false := f4
    have f5 : (sw.toList == [108, 111, 119, 101, 114]) = false := f5
    have f6 : (sw.toList == [111, 116, 104, 101, 114]) = false := f6
    clear hsw
    have e1 : (n : Int) / 8 = ((n / 8 : Nat) : Int) := by omega
    have hs := dig_size2 (x := n / 8) (by omega)
    have hq : n / 8 < 10 := by omega
    generalize n / 8 = q at *
    have s1 : (⟨#[99, 115]⟩ : ByteArray).size + (dig q).size ≤ 9223372036854775807 := by show 2 + (dig q).size ≤ _; omega
    have CD := Lib.hid (fun w => rptdigit_any q w hq)
    clear hc hs hq hle
    go_enter Tryd.func25, Tryd.ntmps25
    go_wp2_with fail
    refine (CS.out _).mono ?_
    rintro e w' ⟨rfl, rfl⟩
    go_wp2_with fail
    refine (CD.out _).mono ?_
    rintro e w1 ⟨rfl, hb⟩
    have HB := Lib.hid hb
    clear hb
    go_wp2_with fail
    go_ret
    exact ⟨pt_ret E.out.symm, HB.out⟩
  · have E := Lib.hid (ptName_assured hn hc)
    obtain ⟨sw, hsw, f0, f1, f2, f3, f4, f5, f6⟩ := ptWord_facts 2 (by decide)
    rw [hsw] at CS
    have f0 : sw.toList.isEmpty = false := f0
    have f1 : (sw.toList == [99, 108, 97, 115, 115]) = false := f1
    have f2 : (sw.toList == [97, 115, 115, 117, 114, 101, 100]) = true := f2
    have f3 : (sw.toList == [101, 120, 112, 101, 100, 105, 116, 101, 100]) = false := f3
    have f4 : (sw.toList == [118, 111, 105, 99, 101]) = false := f4
    have f5 : (sw.toList == [108, 111, 119, 101, 114]) = false := f5
    have f6 : (sw.toList == [111, 116, 104, 101, 114]) = false := f6
    clear hsw
    have e1 : (n : Int) / 8 = ((n / 8 : Nat) : Int) := by omega
    have hs := dig_size2 (x := n / 8) (by omega)
    have hp := ptPrec_le (n : Int)
    have hs2 := dig_size2 (x := ptPrec (n : Int)) (by omega)
    have hq : n / 8 < 10 := by omega
    have hp9 : ptPrec (n : Int) < 10 := by omega
    generalize ptPrec (n : Int) = p at *
    generalize n / 8 = q at *
    have s1 : (⟨#[97, 102]⟩ : ByteArray).size + (dig q).size ≤ 9223372036854775807 := by show 2 + (dig q).size ≤ _; omega
    have s2 : (⟨#[97, 102]⟩ ++ dig q : ByteArray).size + (dig p).size ≤ 9223372036854775807 := by rw [ByteArray.size_append]; show 2 + (dig q).size + (dig p).size ≤ _; omega
    have CD := Lib.hid (fun w => rptdigit_any q w hq)
    have CE := Lib.hid (fun w => rptdigit_any p w hp9)
    clear hc hs hq hle hp hs2 hp9
    go_enter Tryd.func25, Tryd.ntmps25
    go_wp2_with fail
    refine (CS.out _).mono ?_
    rintro e w' ⟨rfl, rfl⟩
    go_wp2_with fail
    refine (CD.out _).mono ?_
    rintro e w1 ⟨rfl, hb⟩
    have HB := Lib.hid hb
    clear hb
    go_wp2_with fail
    refine (CP.out _).mono ?_
    rintro e w2 ⟨rfl, rfl⟩
    go_wp2_with fail
    refine (CE.out _).mono ?_
    rintro e w2 ⟨rfl, hb⟩
    have HB2 := Lib.hid (below_both HB.out hb)
    clear hb
    go_wp2_with fail
    go_ret
    exact ⟨pt_ret E.out.symm, HB2.out⟩
  · have E := Lib.hid (ptName_fixed (s := ⟨#[101, 102]⟩) hc (by simp))
    obtain ⟨sw, hsw, f0, f1, f2, f3, f4, f5, f6⟩ := ptWord_facts 3 (by decide)
    rw [hsw] at CS
    have f0 : sw.toList.isEmpty = false := f0
    have f1 : (sw.toList == [99, 108, 97, 115, 115]) = false := f1
    have f2 : (sw.toList == [97, 115, 115, 117, 114, 101, 100]) = false := f2
    have f3 : (sw.toList == [101, 120, 112, 101, 100, 105, 116, 101, 100]) = true := f3
    have f4 : (sw.toList == [118, 111, 105, 99, 101]) = false := f4
    have f5 : (sw.toList == [108, 111, 119, 101, 114]) = false := f5
    have f6 : (sw.toList == [111, 116, 104, 101, 114]) = false := f6
    clear hsw
    clear hc hle
    go_enter Tryd.func25, Tryd.ntmps25
    go_wp2_with fail
    refine (CS.out _).mono ?_
    rintro e w' ⟨rfl, rfl⟩
    go_wp2_with fail
    go_ret
    exact ⟨pt_ret E.out.symm, Below.refl _ _⟩
  · have E := Lib.hid (ptName_fixed (s := ⟨#[118, 97]⟩) hc (by simp))
    obtain ⟨sw, hsw, f0, f1, f2, f3, f4, f5, f6⟩ := ptWord_facts 4 (by decide)
    rw [hsw] at CS
    have f0 : sw.toList.isEmpty = false := f0
    have f1 : (sw.toList == [99, 108, 97, 115, 115]) = false := f1
    have f2 : (sw.toList == [97, 115, 115, 117, 114, 101, 100]) = false := f2
    have f3 : (sw.toList == [101, 120, 112, 101, 100, 105, 116, 101, 100]) = false := f3
    have f4 : (sw.toList == [118, 111, 105, 99, 101]) = true := f4
    have f5 : (sw.toList == [108, 111, 119, 101, 114]) = false := f5
    have f6 : (sw.toList == [111, 116, 104, 101, 114]) = false := f6
    clear hsw
    clear hc hle
    go_enter Tryd.func25, Tryd.ntmps25
    go_wp2_with fail
    refine (CS.out _).mono ?_
    rintro e w' ⟨rfl, rfl⟩
    go_wp2_with fail
    go_ret
    exact ⟨pt_ret E.out.symm, Below.refl _ _⟩
  · have E := Lib.hid (ptName_fixed (s := ⟨#[108, 101]⟩) hc (by simp))
    obtain ⟨sw, hsw, f0, f1, f2, f3, f4, f5, f6⟩ := ptWord_facts 5 (by decide)
    rw [hsw] at CS
    have f0 : sw.toList.isEmpty = false := f0
    have f1 : (sw.toList == [99, 108, 97, 115, 115]) = false := f1
    have f2 : (sw.toList == [97, 115, 115, 117, 114, 101, 100]) = false := f2
    have f3 : (sw.toList == [101, 120, 112, 101, 100, 105, 116, 101, 100]) = false := f3
    have f4 : (sw.toList == [118, 111, 105, 99, 101]) = false := f4
    have f5 : (sw.toList == [108, 111, 119, 101, 114]) = true := f5
    have f6 : (sw.toList == [111, 116, 104, 101, 114]) = false := f6
    clear hsw
    clear hc hle
    go_enter Tryd.func25, Tryd.ntmps25
    go_wp2_with fail
    refine (CS.out _).mono ?_
    rintro e w' ⟨rfl, rfl⟩
    go_wp2_with fail
    go_ret
    exact ⟨pt_ret E.out.symm, Below.refl _ _⟩
  · have E := Lib.hid (ptName_other hn hc)
    obtain ⟨sw, hsw, f0, f1, f2, f3, f4, f5, f6⟩ := ptWord_facts 6 (by decide)
    rw [hsw] at CS
    have f0 : sw.toList.isEmpty = false := f0
    have f1 : (sw.toList == [99, 108, 97, 115, 115]) = false := f1
    have f2 : (sw.toList == [97, 115, 115, 117, 114, 101, 100]) = false := f2
    have f3 : (sw.toList == [101, 120, 112, 101, 100, 105, 116, 101, 100]) = false := f3
    have f4 : (sw.toList == [118, 111, 105, 99, 101]) = false := f4
    have f5 : (sw.toList == [108, 111, 119, 101, 114]) = false := f5
    have f6 : (sw.toList == [111, 116, 104, 101, 114]) = true := f6
    clear hsw
    have CD := Lib.hid (fun w => rtext_byte n w (by omega))
    have k1 : IntKind.u64.wrap (n : Int) = (n : Int) := IntWalk.u64_in _ ⟨by omega, by omega⟩
    clear hc hle hn
    go_enter Tryd.func25, Tryd.ntmps25
    go_wp2_with fail
    refine (CS.out _).mono ?_
    rintro e w' ⟨rfl, rfl⟩
    go_wp2_with fail
    refine (CD.out _).mono ?_
    rintro e w1 ⟨rfl, hb⟩
    have HB := Lib.hid hb
    clear hb
    go_wp2_with fail
    go_ret
    exact ⟨pt_ret E.out.symm, HB.out⟩
def RNumIsM (m : Nat) (s : ByteArray) (w : World) (e : Ending) (w' : World) : Prop := e = .returned (.int .i64 (if numOkM m s.data.toList then (numv s.data.toList : Nat) else -1 : Int)) ∧ w = w'
theorem rnumM_no {m : Nat} {s : ByteArray} {w : World} (h : numOkM m s.data.toList = false) : RNumIsM m s w (.returned (.int .i64 (-1))) w := by
  refine ⟨?_, rfl⟩
  rw [h]
  rfl
theorem rnumM_yes {m : Nat} {s : ByteArray} {w : World} {n : Nat} (h : numOkM m s.data.toList = true) (hn : n = numv s.data.toList) : RNumIsM m s w (.returned (.int .i64 n)) w := by
  refine ⟨?_, rfl⟩
  rw [h, if_pos rfl, hn]
set_option maxHeartbeats 800000 in
theorem rnumberM_any (m : Nat) (s : ByteArray) (w : World) (hm : m ≤ 9) : Calls Tryd.prog 58 #[.string s, .int .i64 m] w (RNumIsM m s w) := by
  by_cases h0 : s.size < 1
  · have F := Lib.hid (rnumM_no (m := m) (w := w) (s := s) (by simp only [numOkM, size_list]; rw [decide_eq_false (by omega)]; rfl))
    go_enter Tryd.func58, Tryd.ntmps58
    go_wp2_with fail
    go_ret
    exact F.out
  by_cases h3 : m < s.size
  · have F := Lib.hid (rnumM_no (m := m) (w := w) (s := s) (by simp only [numOkM, size_list]; rw [decide_eq_false (show ¬ s.size ≤ m by omega), Bool.and_false]; rfl))
    go_enter Tryd.func58, Tryd.ntmps58
    go_wp2_with fail
    go_ret
    exact F.out
  have hp : 0 < s.size := by omega
  have hd0 := head_zero s hp
  by_cases hz : 1 < s.size ∧ s[0].toNat = 48
  · obtain ⟨hz1, hz2⟩ := hz
    have F := Lib.hid (rnumM_no (m := m) (w := w) (s := s) (by
      simp only [numOkM, size_list]
      rw [decide_eq_false (show ¬ s.size ≤ 1 by omega), hd0.2 hz2]
      simp))
    have q : ((s[0].toNat : Int) == 48) = true := by simp; omega
    clear hd0 hz2
    go_enter Tryd.func58, Tryd.ntmps58
    go_wp2_with fail
    go_ret
    exact F.out
  have ho : Hid (numOkM m s.data.toList = allDig s.data.toList) := numOkM_of m s hp (by omega) (by
    by_cases h1 : s.size ≤ 1
    · exact .inl h1
    · exact .inr fun e => hz ⟨by omega, hd0.1 e⟩)
  have HZ := Lib.hid hz
  clear hd0 hz
  have hs3 : s.size ≤ m := by omega
  clear h0 h3
  go_enter Tryd.func58, Tryd.ntmps58
  by_cases h1 : 1 < s.size
  all_goals
    (try (have q : ((s[0].toNat : Int) == 48) = false := by have := HZ.out; simp; omega))
    go_wp2_with fail
    go_loop [5, 6] (fun n i => ∃ k v : Nat, k ≤ s.size ∧ i = .int .i64 k ∧ n = .int .i64 v ∧ Hid (v = numv (s.data.toList.take k)) ∧ Hid (allDig (s.data.toList.take k) = true)) (fun _ i => s.size - (intOf i).toNat)
    case atStart => exact ⟨0, 0, Nat.zero_le _, rfl, rfl, rfl, rfl⟩
    case round =>
      obtain ⟨k, v, hk, rfl, rfl, HV, HA⟩ := hrel
      have hv : v ≤ 999999999 := by
        have := numv_lt _ HA.out
        rw [← HV.out, List.length_take, size_list] at this
        have h2 : 10 ^ min k s.size ≤ 10 ^ 9 := Nat.pow_le_pow_right (by decide) (by omega)
        omega
      by_cases hlt : k < s.size
      · have T := Lib.hid (take_byte s k hlt)
        have NA := Lib.hid (not_all s k hlt)
        obtain ⟨c, hc⟩ : ∃ c, s[k].toNat = c := ⟨_, rfl⟩
        by_cases hd : 48 ≤ c ∧ c ≤ 57
        · obtain ⟨hd1, hd2⟩ := hd
          have ND : Hid (isDig s[k] = true) := by
            show isDig s[k] = true
            unfold isDig
            rw [hc]
            simp
            omega
          have HC := Lib.hid hc
          go_wp2_with fail
          go_round
          case rel =>
            have R1 : 10 * v + (c - 48) = numv (s.data.toList.take (k + 1)) := by rw [T.out, numv_snoc, HC.out, HV.out]
            have R2 : allDig (s.data.toList.take (k + 1)) = true := by
              rw [T.out, allDig_snoc, HA.out, ND.out]
              rfl
            have R3 : (v : Int) * 10 + ((c : Int) - 48) = ((10 * v + (c - 48) : Nat) : Int) := by omega
            have R4 : (k : Int) + 1 = ((k + 1 : Nat) : Int) := rfl
            rw [R3, R4]
            first
              | exact ⟨k + 1, 10 * v + (c - 48), by omega, rfl, rfl, R1, R2⟩
              | exact ⟨_, _, _, ⟨k + 1, by omega, rfl, 10 * v + (c - 48), rfl, R1, R2⟩, rfl, rfl, rfl⟩
              | exact ⟨_, _, _, ⟨k + 1, 10 * v + (c - 48), by omega, rfl, rfl, R1, R2⟩, rfl, rfl, rfl⟩
              | fail
          case measure => simp [intOf]; omega
        · have F := Lib.hid (rnumM_no (m := m) (w := w) (by rw [ho.out]; exact NA.out (by rw [hc]; exact hd)))
          by_cases hd1 : c < 48
          · clear hd
            go_wp2_with fail
            go_ret
            exact F.out
          · have hd2 : 57 < c := by omega
            have hd3 : 48 ≤ c := by omega
            clear hd hd1
            go_wp2_with fail
            go_ret
            exact F.out
      · obtain rfl : k = s.size := by omega
        have e : s.data.toList.take s.size = s.data.toList := by rw [← size_list]; exact List.take_length
        have F := Lib.hid (rnumM_yes (m := m) (w := w) (s := s) (n := v) (by rw [ho.out, ← e]; exact HA.out) (by rw [HV.out, e]))
        clear e
        go_wp2_with fail
        go_ret
        exact F.out
set_option maxRecDepth 10000 in
set_option maxHeartbeats 1600000 in
theorem rptparse_any (s : ByteArray) (w : World) : Calls Tryd.prog 19 #[.string s] w (PtParseIs s w) := by
  go_enter Tryd.func19, Tryd.ntmps19
  go_wp2_with fail
  go_loopw [4] (fun i wr => ∃ k : Nat, k ≤ 64 ∧ i = .int .i64 k ∧ Hid (∀ j, j < k → ptLetters j ≠ s.data.toList) ∧ Hid (Below w.heap.size w wr)) (fun i _ => 64 - (intOf i).toNat)
  case atStart => exact ⟨0, by decide, rfl, fun j hj => absurd hj (by omega), Below.refl _ _⟩
  case round =>
    obtain ⟨k, hk, rfl, HJ, HB⟩ := hrel
    by_cases hlt : k < 64
    · have CN := Lib.hid (fun w => rptname_any (k : Int) w (by omega) (by omega))
      by_cases he : ptLetters k = s.data.toList
      · have q := pt_same he
        have F := Lib.hid (fun w' hb => ptParse_is (w := w) (w' := w') (ptParse_found hlt he HJ.out) hb)
        clear he
        generalize ptName (k : Int) = x at *
        go_wp2_with fail
        refine (CN.out _).mono ?_
        rintro e w1 ⟨rfl, hb⟩
        have HB1 := Lib.hid (below_both HB.out hb)
        clear hb
        go_wp2_with fail
        go_ret2
        exact F.out _ HB1.out
      · have q := pt_other he
        have HJ1 : Hid (∀ j, j < k + 1 → ptLetters j ≠ s.data.toList) := fun j hj => by
          rcases (by omega : j = k ∨ j < k) with rfl | h
          · exact he
          · exact HJ.out j h
        clear he
        generalize ptName (k : Int) = x at *
        have wk : wrap64 ((k : Int) + 1) = ((k + 1 : Nat) : Int) := wrap_inc (by omega)
        go_wp2_with fail
        refine (CN.out _).mono ?_
        rintro e w1 ⟨rfl, hb⟩
        have HB1 := Lib.hid (below_both HB.out hb)
        clear hb
        go_wp2_with fail
        go_roundw
        case rel =>
          first
            | exact ⟨k + 1, by omega, rfl, HJ1.out, HB1.out⟩
            | exact ⟨_, ⟨k + 1, by omega, rfl, HJ1.out, HB1.out⟩, rfl⟩
            | fail
        case measure => simp [intOf]; omega
    · obtain rfl : k = 64 := by omega
      have E := Lib.hid (ptParse_none HJ.out)
      by_cases ho : numOkM 2 s.data.toList = true
      · have hn := numv_two ho
        obtain ⟨n, hnv⟩ : ∃ n, numv s.data.toList = n := ⟨_, rfl⟩
        have CD : Hid (∀ w, Calls Tryd.prog 58 #[.string s, .int .i64 2] w fun e w' => e = .returned (.int .i64 n) ∧ w = w') := fun w => by
          refine (rnumberM_any 2 s w (by decide)).mono ?_
          rintro e w' ⟨rfl, rfl⟩
          rw [ho, if_pos rfl, hnv]
          exact ⟨rfl, rfl⟩
        have E1 : Hid (ptParse s.data.toList = if n < 64 then (n, 0) else (0, 14)) := by
          show ptParse _ = _
          rw [E.out, if_pos ho, hnv]
        rw [hnv] at hn
        have w1 : wrap64 (n : Int) = (n : Int) := by unfold wrap64; omega
        have w2 : IntKind.i64.wrap (n : Int) = (n : Int) := IntWalk.i64_in _ (by omega)
        clear ho hnv E
        by_cases h6 : n < 64
        · have CV := Lib.hid (fun w => rptis_any (n : Int) w true (by simp; omega))
          have F := Lib.hid (fun w' hb => ptParse_is (w := w) (w' := w') (a := n) (b := 0) (s := s) (by rw [E1.out, if_pos h6]) hb)
          clear h6 hn
          go_wp2_with fail
          refine (CD.out _).mono ?_
          rintro e w1 ⟨rfl, rfl⟩
          have HB1 := HB
          go_wp2_with fail
          refine (CV.out _).mono ?_
          rintro e w2 ⟨rfl, rfl⟩
          go_wp2_with fail
          go_ret2
          exact F.out _ HB1.out
        · have CV := Lib.hid (fun w => rptis_any (n : Int) w false (by simp; omega))
          have F := Lib.hid (fun w' hb => ptParse_is (w := w) (w' := w') (a := 0) (b := 14) (s := s) (by rw [E1.out, if_neg h6]) hb)
          clear h6 hn
          go_wp2_with fail
          refine (CD.out _).mono ?_
          rintro e w1 ⟨rfl, rfl⟩
          have HB1 := HB
          go_wp2_with fail
          refine (CV.out _).mono ?_
          rintro e w2 ⟨rfl, rfl⟩
          go_wp2_with fail
          go_ret2
          exact F.out _ HB1.out
      · have ho2 : numOkM 2 s.data.toList = false := by simpa using ho
        have CD : Hid (∀ w, Calls Tryd.prog 58 #[.string s, .int .i64 2] w fun e w' => e = .returned (.int .i64 (-1)) ∧ w = w') := fun w => by
          refine (rnumberM_any 2 s w (by decide)).mono ?_
          rintro e w' ⟨rfl, rfl⟩
          rw [ho2]
          exact ⟨rfl, rfl⟩
        have F := Lib.hid (fun w' hb => ptParse_is (w := w) (w' := w') (a := 0) (b := 3) (s := s) (by rw [E.out, if_neg ho]) hb)
        clear ho ho2 E
        go_wp2_with fail
        refine (CD.out _).mono ?_
        rintro e w1 ⟨rfl, rfl⟩
        have HB1 := HB
        go_wp2_with fail
        go_ret2
        exact F.out _ HB1.out
end Go.Proofs.YtdeoeikpooonlaaDoor
