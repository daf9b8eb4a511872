/-
  Contracts of point's Split, Join, Af, Prec, valid, digits and of the document's Is, Split, Join, Af, digit.
  Contracts of point's Sort, digits, Name.
-/
import Derived.Test.YtnofalgcpgheoaaDoorPtPlain
import Derived.Test.YtnofalgcpgheoaaDoorDot4
import Derived.Test.YtnofalgcpgheoaaDoorOwn
import Derived.Laws.BitsAllLaws
namespace Go.Proofs.YtnofalgcpgheoaaDoor
open Go.RowKit
set_option linter.unusedVariables false

theorem pt_or : ∀ d, d < 64 → ∀ e, e < 4 → bits .or .i64 ((d : Nat) * 4 : Int) (e : Nat) = ((4 * d + e : Nat) : Int) := by decide +kernel
theorem ptsplit_any (b : Nat) (w : World) (hb : b ≤ 255) :
    Calls Tryd.prog 8 #[.int .u8 b] w fun e w' => e = .returned (.tuple #[.int .i64 (b / 4 : Nat), .int .i64 (b % 4 : Nat)]) ∧ w = w' := by
  have h1 : bits .and .u8 (b : Int) 3 = ((b % 4 : Nat) : Int) := by
    have := u8_and_nat b 3 (by omega) (by decide)
    rw [nat_mask2] at this
    exact this
  go_enter Tryd.func8, Tryd.ntmps8
  go_wp2_with fail
  go_ret2
  exact ⟨rfl, rfl⟩
theorem ptvalid_any (d : Int) (w : World) (b : Bool) (h : b = decide (0 ≤ d ∧ d < 64)) : Calls Tryd.prog 17 #[.int .i64 d] w fun e w' => e = .returned (.bool b) ∧ w = w' := by
  by_cases h0 : 0 ≤ d
  · have H : Hid (b = decide (d < 64)) := by show b = _; rw [h]; simp [h0]
    clear h
    go_enter Tryd.func17, Tryd.ntmps17
    go_wp2_with fail
    go_ret
    exact ⟨by rw [H.out]; rfl, rfl⟩
  · have H : Hid (b = false) := by show b = _; rw [h]; simp; omega
    clear h
    have h1 : d < 0 := by omega
    clear h0
    go_enter Tryd.func17, Tryd.ntmps17
    go_wp2_with fail
    go_ret
    exact ⟨by rw [H.out]; rfl, rfl⟩
def ptJoin (d e : Int) : Value := if 0 ≤ d ∧ d < 64 then (if 0 ≤ e ∧ e < 4 then .tuple #[.int .u8 (4 * d + e), .int .i64 0] else .tuple #[.int .u8 0, .int .i64 1]) else .tuple #[.int .u8 0, .int .i64 14]
theorem ptjoin_any (d e : Int) (w : World) : Calls Tryd.prog 9 #[.int .i64 d, .int .i64 e] w fun en w' => en = .returned (ptJoin d e) ∧ w = w' := by
  by_cases h0 : 0 ≤ d ∧ d < 64
  · by_cases h1 : 0 ≤ e ∧ e < 4
    · have H : Hid (ptJoin d e = .tuple #[.int .u8 (4 * d + e), .int .i64 0]) := by show ptJoin d e = _; rw [ptJoin, if_pos h0, if_pos h1]
      have C := Lib.hid (fun w => ptvalid_any d w true (by simp [h0]))
      obtain ⟨⟨h2, h3⟩, h4, h5⟩ := And.intro h0 h1
      clear h0 h1
      obtain ⟨n, rfl⟩ := Int.eq_ofNat_of_zero_le h2
      obtain ⟨m, rfl⟩ := Int.eq_ofNat_of_zero_le h4
      have k := pt_or n (by omega) m (by omega)
      have k2 : IntKind.u8.wrap ((4 * n + m : Nat) : Int) = 4 * (n : Int) + (m : Int) := by show ((4 * n + m : Nat) : Int) % 256 = _; omega
      have h6 : (m : Int) ≤ 3 := by omega
      go_enter Tryd.func9, Tryd.ntmps9
      go_wp2_with fail
      refine (C.out _).mono ?_
      rintro e w' ⟨rfl, rfl⟩
      go_wp2_with fail
      go_ret2
      exact ⟨H.out.symm ▸ rfl, rfl⟩
    · have H : Hid (ptJoin d e = .tuple #[.int .u8 0, .int .i64 1]) := by show ptJoin d e = _; rw [ptJoin, if_pos h0, if_neg h1]
      have C := Lib.hid (fun w => ptvalid_any d w true (by simp [h0]))
      clear h0
      by_cases h2 : e < 0
      · clear h1
        go_enter Tryd.func9, Tryd.ntmps9
        go_wp2_with fail
        refine (C.out _).mono ?_
        rintro e w' ⟨rfl, rfl⟩
        go_wp2_with fail
        go_ret2
        exact ⟨H.out.symm ▸ rfl, rfl⟩
      · have h3 : 0 ≤ e := by omega
        have h4 : 3 < e := by omega
        clear h1 h2
        go_enter Tryd.func9, Tryd.ntmps9
        go_wp2_with fail
        refine (C.out _).mono ?_
        rintro e w' ⟨rfl, rfl⟩
        go_wp2_with fail
        go_ret2
        exact ⟨H.out.symm ▸ rfl, rfl⟩
  · have H : Hid (ptJoin d e = .tuple #[.int .u8 0, .int .i64 14]) := by show ptJoin d e = _; rw [ptJoin, if_neg h0]
    have C := Lib.hid (fun w => ptvalid_any d w false (by simp [h0]))
    clear h0
    go_enter Tryd.func9, Tryd.ntmps9
    go_wp2_with fail
    refine (C.out _).mono ?_
    rintro e w' ⟨rfl, rfl⟩
    go_wp2_with fail
    go_ret2
    exact ⟨H.out.symm ▸ rfl, rfl⟩
def ptAfOk (c p : Int) : Prop := 1 ≤ c ∧ c ≤ 4 ∧ 1 ≤ p ∧ p ≤ 3
def ptAf (c p : Int) : Value := if 1 ≤ c ∧ c ≤ 4 ∧ 1 ≤ p ∧ p ≤ 3 then .tuple #[.int .i64 (8 * c + 2 * p), .int .i64 0] else .tuple #[.int .i64 0, .int .i64 1]
theorem ptaf_yes (c p : Int) (w : World) (h1 : 1 ≤ c) (h2 : c ≤ 4) (h3 : 1 ≤ p) (h4 : p ≤ 3) : Calls Tryd.prog 23 #[.int .i64 c, .int .i64 p] w fun en w' => en = .returned (.tuple #[.int .i64 (8 * c + 2 * p), .int .i64 0]) ∧ w = w' := by
  go_enter Tryd.func23, Tryd.ntmps23
  go_wp2_with fail
  go_ret2
  exact ⟨rfl, rfl⟩
theorem ptaf_no (c p : Int) (w : World) (h : ¬ (1 ≤ c ∧ c ≤ 4 ∧ 1 ≤ p ∧ p ≤ 3)) : Calls Tryd.prog 23 #[.int .i64 c, .int .i64 p] w fun en w' => en = .returned (.tuple #[.int .i64 0, .int .i64 1]) ∧ w = w' := by
  by_cases h1 : c < 1
  · clear h
    go_enter Tryd.func23, Tryd.ntmps23
    go_wp2_with fail
    go_ret2
    exact ⟨rfl, rfl⟩
  have g1 : 1 ≤ c := by omega
  by_cases h2 : 4 < c
  · clear h h1
    go_enter Tryd.func23, Tryd.ntmps23
    go_wp2_with fail
    go_ret2
    exact ⟨rfl, rfl⟩
  have g2 : c ≤ 4 := by omega
  by_cases h3 : p < 1
  · clear h h1 h2
    go_enter Tryd.func23, Tryd.ntmps23
    go_wp2_with fail
    go_ret2
    exact ⟨rfl, rfl⟩
  have g3 : 1 ≤ p := by omega
  have h4 : 3 < p := by omega
  clear h h1 h2 h3
  go_enter Tryd.func23, Tryd.ntmps23
  go_wp2_with fail
  go_ret2
  exact ⟨rfl, rfl⟩
theorem ptaf_any (c p : Int) (w : World) : Calls Tryd.prog 23 #[.int .i64 c, .int .i64 p] w fun en w' => en = .returned (ptAf c p) ∧ w = w' := by
  unfold ptAf
  split
  · rename_i h
    exact ptaf_yes c p w h.1 h.2.1 h.2.2.1 h.2.2.2
  · rename_i h
    exact ptaf_no c p w h
set_option maxRecDepth 10000 in
theorem ptprec_any (d : Int) (w : World) (h1 : -9223372036854775808 ≤ d) (h2 : d ≤ 9223372036854775807) : Calls Tryd.prog 13 #[.int .i64 d] w fun en w' => en = .returned (.int .i64 (ptPrec d : Nat)) ∧ w = w' := by
  by_cases h0 : 0 ≤ d
  · obtain ⟨n, rfl⟩ := Int.eq_ofNat_of_zero_le h0
    clear h0 h1
    by_cases hr : 8 ≤ n ∧ n < 40 ∧ n % 8 / 2 ≠ 0
    · obtain ⟨r1, r2, r3⟩ := hr
      have C := Lib.hid (fun w => ptaf_yes ((n / 8 : Nat) : Int) ((n % 8 / 2 : Nat) : Int) w (by omega) (by omega) (by omega) (by omega))
      by_cases he : n % 2 = 0
      · have H : Hid (ptPrec (n : Int) = n % 8 / 2) := by show ptPrec _ = _; unfold ptPrec; rw [if_pos (by omega)]; omega
        have k : 8 * ((n / 8 : Nat) : Int) + 2 * ((n % 8 / 2 : Nat) : Int) = (n : Int) := by omega
        have e1 : (n : Int) / 8 = ((n / 8 : Nat) : Int) := by omega
        have e2 : (n : Int) % 8 / 2 = ((n % 8 / 2 : Nat) : Int) := by omega
        rw [k] at C
        clear k r1 r2 r3 he
        generalize n / 8 = q at *
        generalize n % 8 / 2 = p at *
        go_enter Tryd.func13, Tryd.ntmps13
        go_wp2_with fail
        refine (C.out _).mono ?_
        rintro e w' ⟨rfl, rfl⟩
        go_wp2_with fail
        go_ret
        exact ⟨by rw [H.out]; rfl, rfl⟩
      · have H : Hid (ptPrec (n : Int) = 0) := by show ptPrec _ = _; unfold ptPrec; rw [if_neg (by omega)]
        obtain ⟨m, hm⟩ : ∃ m : Nat, 8 * ((n / 8 : Nat) : Int) + 2 * ((n % 8 / 2 : Nat) : Int) = (m : Int) := ⟨8 * (n / 8) + 2 * (n % 8 / 2), by omega⟩
        have k : ((m : Int) == (n : Int)) = false := by simp; omega
        have e1 : (n : Int) / 8 = ((n / 8 : Nat) : Int) := by omega
        have e2 : (n : Int) % 8 / 2 = ((n % 8 / 2 : Nat) : Int) := by omega
        rw [hm] at C
        clear hm r1 r2 r3 he
        generalize n / 8 = q at *
        generalize n % 8 / 2 = p at *
        go_enter Tryd.func13, Tryd.ntmps13
        go_wp2_with fail
        refine (C.out _).mono ?_
        rintro e w' ⟨rfl, rfl⟩
        go_wp2_with fail
        go_ret
        exact ⟨by rw [H.out]; rfl, rfl⟩
    · have H : Hid (ptPrec (n : Int) = 0) := by show ptPrec _ = _; unfold ptPrec; split <;> omega
      have C := Lib.hid (fun w => ptaf_no ((n / 8 : Nat) : Int) ((n % 8 / 2 : Nat) : Int) w (by omega))
      have e1 : (n : Int) / 8 = ((n / 8 : Nat) : Int) := by omega
      have e2 : (n : Int) % 8 / 2 = ((n % 8 / 2 : Nat) : Int) := by omega
      clear hr
      generalize n / 8 = q at *
      generalize n % 8 / 2 = p at *
      go_enter Tryd.func13, Tryd.ntmps13
      go_wp2_with fail
      refine (C.out _).mono ?_
      rintro e w' ⟨rfl, rfl⟩
      go_wp2_with fail
      go_ret
      exact ⟨by rw [H.out]; rfl, rfl⟩
  · have H : Hid (ptPrec d = 0) := by show ptPrec _ = _; unfold ptPrec; rw [if_neg (by omega)]
    have hq : Int.tdiv d 8 ≤ 0 ∧ -9223372036854775808 ≤ Int.tdiv d 8 ∧ -4 ≤ Int.tdiv (Int.tmod d 8) 2 ∧ Int.tdiv (Int.tmod d 8) 2 ≤ 0 := by
      obtain ⟨n, rfl⟩ : ∃ n : Nat, d = -(n : Int) := ⟨(-d).toNat, by omega⟩
      rw [Int.neg_tdiv, Int.neg_tmod, Int.neg_tdiv, Int.tdiv_eq_ediv_of_nonneg (by omega), Int.tmod_eq_emod_of_nonneg (by omega), Int.tdiv_eq_ediv_of_nonneg (by omega)]
      omega
    obtain ⟨q, e1⟩ : ∃ q, Int.tdiv d 8 = q := ⟨_, rfl⟩
    obtain ⟨p, e2⟩ : ∃ p, Int.tdiv (Int.tmod d 8) 2 = p := ⟨_, rfl⟩
    rw [e1, e2] at hq
    obtain ⟨q1, q2, q3, q4⟩ := hq
    have w1 : wrap64 q = q := by unfold wrap64; omega
    have w2 : wrap64 p = p := by unfold wrap64; omega
    have C := Lib.hid (fun w => ptaf_no q p w (by omega))
    clear q1 q2 q3 q4 h0 h1 h2
    go_enter Tryd.func13, Tryd.ntmps13
    go_wp2_with fail
    refine (C.out _).mono ?_
    rintro e w' ⟨rfl, rfl⟩
    go_wp2_with fail
    go_ret
    exact ⟨by rw [H.out]; rfl, rfl⟩
end Go.Proofs.YtnofalgcpgheoaaDoor

namespace Go.Proofs.YtnofalgcpgheoaaDoor
open Go.RowKit
set_option linter.unusedVariables false

theorem pt_ret {x y : ByteArray} (h : x = y) : Ending.returned (.string x) = .returned (.string y) := by rw [h]
set_option maxHeartbeats 800000 in
theorem ptsort_any (d : Int) (w : World) (h1 : -9223372036854775808 ≤ d) (h2 : d ≤ 9223372036854775807) : Calls Tryd.prog 11 #[.int .i64 d] w fun en w' => en = .returned (.string (ptSort d)) ∧ w = w' := by
  by_cases hv : 0 ≤ d ∧ d < 64
  · have C := Lib.hid (fun w => ptvalid_any d w true (by simp [hv]))
    obtain ⟨hv0, hv1⟩ := hv
    by_cases h8 : d % 8 = 0
    · have E : Hid (ptSort d = ⟨#[99, 108, 97, 115, 115]⟩) := by show ptSort d = _; rw [ptSort, ptSort_class hv0 hv1 h8]; rfl
      obtain ⟨n, rfl⟩ := Int.eq_ofNat_of_zero_le hv0
      clear h1 h2 hv0 hv1
      go_enter Tryd.func11, Tryd.ntmps11
      go_wp2_with fail
      refine (C.out _).mono ?_
      rintro e w' ⟨rfl, rfl⟩
      go_wp2_with fail
      go_ret
      exact ⟨pt_ret E.out.symm, rfl⟩
    · have CP := Lib.hid (fun w => ptprec_any d w h1 h2)
      have q8 : (d % 8 == 0) = false := by simpa using h8
      by_cases hp : ptPrec d = 0
      · have E0 := ptSort_rest hv0 hv1 h8 hp
        rw [hp] at CP
        obtain ⟨n, rfl⟩ := Int.eq_ofNat_of_zero_le hv0
        clear h1 h2 hv0 hv1 h8 hp
        by_cases a : (n : Int) = 46
        · have E : Hid (ptSort (n : Int) = ⟨#[101, 120, 112, 101, 100, 105, 116, 101, 100]⟩) := by show ptSort _ = _; rw [ptSort, E0, if_pos a]; rfl
          have qa : ((n : Int) == 46) = true := by simpa using a
          clear E0 a
          go_enter Tryd.func11, Tryd.ntmps11
          go_wp2_with fail
          refine (C.out _).mono ?_
          rintro e w' ⟨rfl, rfl⟩
          go_wp2_with fail
          refine (CP.out _).mono ?_
          rintro e w' ⟨rfl, rfl⟩
          go_wp2_with fail
          go_ret
          exact ⟨pt_ret E.out.symm, rfl⟩
        have qa : ((n : Int) == 46) = false := by simpa using a
        rw [if_neg a] at E0
        by_cases b : (n : Int) = 44
        · have E : Hid (ptSort (n : Int) = ⟨#[118, 111, 105, 99, 101]⟩) := by show ptSort _ = _; rw [ptSort, E0, if_pos b]; rfl
          have qb : ((n : Int) == 44) = true := by simpa using b
          clear E0 a b
          go_enter Tryd.func11, Tryd.ntmps11
          go_wp2_with fail
          refine (C.out _).mono ?_
          rintro e w' ⟨rfl, rfl⟩
          go_wp2_with fail
          refine (CP.out _).mono ?_
          rintro e w' ⟨rfl, rfl⟩
          go_wp2_with fail
          go_ret
          exact ⟨pt_ret E.out.symm, rfl⟩
        have qb : ((n : Int) == 44) = false := by simpa using b
        rw [if_neg b] at E0
        by_cases c : (n : Int) = 1
        · have E : Hid (ptSort (n : Int) = ⟨#[108, 111, 119, 101, 114]⟩) := by show ptSort _ = _; rw [ptSort, E0, if_pos c]; rfl
          have qc : ((n : Int) == 1) = true := by simpa using c
          clear E0 a b c
          go_enter Tryd.func11, Tryd.ntmps11
          go_wp2_with fail
          refine (C.out _).mono ?_
          rintro e w' ⟨rfl, rfl⟩
          go_wp2_with fail
          refine (CP.out _).mono ?_
          rintro e w' ⟨rfl, rfl⟩
          go_wp2_with fail
          go_ret
          exact ⟨pt_ret E.out.symm, rfl⟩
        have qc : ((n : Int) == 1) = false := by simpa using c
        rw [if_neg c] at E0
        have E : Hid (ptSort (n : Int) = ⟨#[111, 116, 104, 101, 114]⟩) := by show ptSort _ = _; rw [ptSort, E0]; rfl
        clear E0 a b c
        go_enter Tryd.func11, Tryd.ntmps11
        go_wp2_with fail
        refine (C.out _).mono ?_
        rintro e w' ⟨rfl, rfl⟩
        go_wp2_with fail
        refine (CP.out _).mono ?_
        rintro e w' ⟨rfl, rfl⟩
        go_wp2_with fail
        go_ret
        exact ⟨pt_ret E.out.symm, rfl⟩
      · have E : Hid (ptSort d = ⟨#[97, 115, 115, 117, 114, 101, 100]⟩) := by show ptSort d = _; rw [ptSort, ptSort_assured hv0 hv1 h8 hp]; rfl
        have qp : (((ptPrec d : Nat) : Int) == 0) = false := by simp; omega
        obtain ⟨n, rfl⟩ := Int.eq_ofNat_of_zero_le hv0
        clear h1 h2 hv0 hv1 h8 hp
        generalize ptPrec (n : Int) = p at *
        go_enter Tryd.func11, Tryd.ntmps11
        go_wp2_with fail
        refine (C.out _).mono ?_
        rintro e w' ⟨rfl, rfl⟩
        go_wp2_with fail
        refine (CP.out _).mono ?_
        rintro e w' ⟨rfl, rfl⟩
        go_wp2_with fail
        go_ret
        exact ⟨pt_ret E.out.symm, rfl⟩
  · have C := Lib.hid (fun w => ptvalid_any d w false (by simp [hv]))
    have E : Hid (ptSort d = ⟨#[]⟩) := by show ptSort d = _; rw [ptSort, ptSort_none (by omega)]; rfl
    clear hv h1 h2
    go_enter Tryd.func11, Tryd.ntmps11
    go_wp2_with fail
    refine (C.out _).mono ?_
    rintro e w' ⟨rfl, rfl⟩
    go_wp2_with fail
    go_ret
    exact ⟨pt_ret E.out.symm, rfl⟩

theorem dig_size2 {x : Nat} (h : x < 100) : (dig x).size ≤ 2 := by
  by_cases h3 : x < 10
  · rw [dig_ten h3]
    exact Nat.le_succ 1
  · rw [dig_hundred h3 h]
    exact Nat.le_refl 2
theorem ptd_size (xs : List Nat) (h : ∀ k, xs.getD k 0 ≤ 99) : ∀ k, (ptd xs k).size ≤ 2 * k
  | 0 => by simp [ptd, ByteArray.size]
  | k + 1 => by
    have h1 := ptd_size xs h k
    have h2 : (dig (xs.getD k 0)).size ≤ 2 := by
      by_cases h3 : xs.getD k 0 < 10
      · rw [dig_ten h3]
        exact Nat.le_succ 1
      · rw [dig_hundred h3 (by have := h k; omega)]
        exact Nat.le_refl 2
    rw [ptd, ByteArray.size_append]
    omega
theorem ptdigits_any (g n : Nat) (xs : List Nat) (w : World) (hn : xs.length = n) (h2 : n ≤ 2) (hx : ∀ k, xs.getD k 0 ≤ 99) (hc : ∀ k, k < n → w.cell? ⟨g, k, none⟩ = some (.int .i64 (xs.getD k 0 : Nat))) (hT : Pow w) :
    Calls Tryd.prog 12 #[.slice (some ⟨g, 0, none⟩) n n] w fun e w' => e = .returned (.string (ptd xs n)) ∧ Below w.heap.size w w' := by
  have HC := Lib.hid hc
  have HX := Lib.hid hx
  have HT := Lib.hid hT
  have HN := Lib.hid hn
  clear hc hx hT hn
  go_enter Tryd.func12, Tryd.ntmps12
  go_wp2_with fail
  go_loopw [3, 8] (fun s i wr => ∃ k : Nat, k ≤ n ∧ i = .int .i64 k ∧ s = .string (ptd xs k) ∧ Hid (Below w.heap.size w wr)) (fun _ i _ => n - (intOf i).toNat)
  case atStart => exact ⟨0, Nat.zero_le _, rfl, rfl, Below.refl _ _⟩
  case round =>
    obtain ⟨k, hk, rfl, rfl, HB⟩ := hrel
    by_cases hlt : k < n
    · have c0 := HC.out k hlt
      have c1 := (HB.out.cell (cell_lt c0)).trans c0
      clear c0
      have HP : Hid (ptd xs (k + 1) = ptd xs k ++ dig (xs.getD k 0)) := rfl
      have hs := ptd_size xs HX.out k
      have hxk := HX.out k
      have hds : (dig (xs.getD k 0)).size ≤ 2 := dig_size2 (by omega)
      generalize xs.getD k 0 = x at *
      generalize ptd xs k = s at *
      have s1 : s.size + (dig x).size ≤ 9223372036854775807 := by omega
      have CI : Hid (∀ w, Pow w → Calls Tryd.prog 22 #[.int .i64 x] w fun e w' => e = .returned (.string (dig x)) ∧ Below w.heap.size w w') := fun w hT => itoa_any x w (by omega) hT
      generalize dig x = dx at *
      have wk : wrap64 ((k : Int) + 1) = ((k + 1 : Nat) : Int) := wrap_inc (by omega)
      clear hs hxk hds
      go_wp2_with fail
      refine (CI.out _ (HT.out.below HB.out)).mono ?_
      rintro e w1 ⟨rfl, hb1⟩
      have HB1 := Lib.hid (below_both HB.out hb1)
      clear hb1
      go_wp2_with fail
      go_roundw
      case rel => exact ⟨k + 1, by omega, rfl, by rw [HP.out], HB1.out⟩
      case measure => simp [intOf]; omega
    · obtain rfl : k = n := by omega
      go_wp2_with fail
      go_ret
      exact ⟨rfl, HB.out⟩
/-- One number's digits. -/
theorem ptdigits_one (g a : Nat) (w : World) (ha : a ≤ 99) (hc : w.cell? ⟨g, 0, none⟩ = some (.int .i64 (a : Nat))) (hT : Pow w) :
    Calls Tryd.prog 12 #[.slice (some ⟨g, 0, none⟩) 1 1] w fun e w' => e = .returned (.string (dig a)) ∧ Below w.heap.size w w' := by
  have h := ptdigits_any g 1 [a] w rfl (by decide) (fun k => by match k with
    | 0 => exact ha
    | _ + 1 => simp) (fun k hk => by
      obtain rfl : k = 0 := by omega
      exact hc) hT
  rw [ptd_one] at h
  exact h
theorem ptdigits_two (g a b : Nat) (w : World) (ha : a ≤ 99) (hb : b ≤ 99) (hc : w.cell? ⟨g, 0, none⟩ = some (.int .i64 (a : Nat))) (hd : w.cell? ⟨g, 1, none⟩ = some (.int .i64 (b : Nat))) (hT : Pow w) :
    Calls Tryd.prog 12 #[.slice (some ⟨g, 0, none⟩) 2 2] w fun e w' => e = .returned (.string (dig a ++ dig b)) ∧ Below w.heap.size w w' := by
  have h := ptdigits_any g 2 [a, b] w rfl (by decide) (fun k => by match k with
    | 0 => exact ha
    | 1 => exact hb
    | _ + 2 => simp) (fun k hk => by
      rcases (by omega : k = 0 ∨ k = 1) with rfl | rfl
      · exact hc
      · exact hd) hT
  rw [ptd_two] at h
  exact h
theorem ptWord_facts (c : Nat) (h : c ≤ 6) : ∃ s, ptWord c = s ∧ s.toList.isEmpty = decide (c = 0) ∧ (s.toList == [99, 108, 97, 115, 115]) = decide (c = 1) ∧ (s.toList == [97, 115, 115, 117, 114, 101, 100]) = decide (c = 2) ∧ (s.toList == [101, 120, 112, 101, 100, 105, 116, 101, 100]) = decide (c = 3) ∧ (s.toList == [118, 111, 105, 99, 101]) = decide (c = 4) ∧ (s.toList == [108, 111, 119, 101, 114]) = decide (c = 5) ∧ (s.toList == [111, 116, 104, 101, 114]) = decide (c = 6) := by
  refine ⟨_, rfl, ?_⟩
  rw [Lib.toList_data]
  revert c
  decide
set_option maxRecDepth 10000 in
set_option maxHeartbeats 1600000 in
theorem ptname_any (d : Int) (w : World) (h1 : -9223372036854775808 ≤ d) (h2 : d ≤ 9223372036854775807) (hT : Pow w) : Calls Tryd.prog 4 #[.int .i64 d] w fun en w' => en = .returned (.string (ptName d)) ∧ Below w.heap.size w w' := by
  have CS := Lib.hid (fun w => ptsort_any d w h1 h2)
  have hle := ptSort_le d
  obtain ⟨c, hc⟩ : ∃ c, ptSortN d = c := ⟨_, rfl⟩
  unfold ptSort at CS
  rw [hc] at CS hle
  have HT := Lib.hid hT
  clear hT
  by_cases h0 : c = 0
  · subst h0
    have E := Lib.hid (ptName_none hc)
    obtain ⟨sw, hsw, f0, f1, f2, f3, f4, f5, f6⟩ := ptWord_facts 0 (by decide)
    rw [hsw] at CS
    have f0 : sw.toList.isEmpty = true := f0
    have f1 : (sw.toList == [99, 108, 97, 115, 115]) = false := f1
    have f2 : (sw.toList == [97, 115, 115, 117, 114, 101, 100]) = false := f2
    have f3 : (sw.toList == [101, 120, 112, 101, 100, 105, 116, 101, 100]) = false := f3
    have f4 : (sw.toList == [118, 111, 105, 99, 101]) = false := f4
    have f5 : (sw.toList == [108, 111, 119, 101, 114]) = false := f5
    have f6 : (sw.toList == [111, 116, 104, 101, 114]) = false := f6
    clear hsw
    clear hc h1 h2 hle
    go_enter Tryd.func4, Tryd.ntmps4
    go_wp2_with fail
    refine (CS.out _).mono ?_
    rintro e w' ⟨rfl, rfl⟩
    go_wp2_with fail
    go_ret
    exact ⟨pt_ret E.out.symm, Below.refl _ _⟩
  have hr := ptSortN_range (d := d) (by rw [hc]; exact h0)
  have CP := Lib.hid (fun w => ptprec_any d w h1 h2)
  obtain ⟨n, rfl⟩ := Int.eq_ofNat_of_zero_le hr.1
  have hn : n < 64 := by have := hr.2; omega
  clear h1 h2 hr
  rcases (by omega : c = 1 ∨ c = 2 ∨ c = 3 ∨ c = 4 ∨ c = 5 ∨ c = 6) with rfl | rfl | rfl | rfl | rfl | rfl
  · have E := Lib.hid (ptName_class hn hc)
    obtain ⟨sw, hsw, f0, f1, f2, f3, f4, f5, f6⟩ := ptWord_facts 1 (by decide)
    rw [hsw] at CS
    have f0 : sw.toList.isEmpty = false := f0
    have f1 : (sw.toList == [99, 108, 97, 115, 115]) = true := f1
    have f2 : (sw.toList == [97, 115, 115, 117, 114, 101, 100]) = false := f2
    have f3 : (sw.toList == [101, 120, 112, 101, 100, 105, 116, 101, 100]) = false := f3
    have f4 : (sw.toList == [118, 111, 105, 99, 101]) = false := f4
    have f5 : (sw.toList == [108, 111, 119, 101, 114]) = false := f5
    have f6 : (sw.toList == [111, 116, 104, 101, 114]) = false := f6
    clear hsw
    have e1 : (n : Int) / 8 = ((n / 8 : Nat) : Int) := by omega
    have hs := dig_size2 (x := n / 8) (by omega)
    have hq : n / 8 ≤ 99 := by omega
    generalize n / 8 = q at *
    have s1 : (⟨#[99, 115]⟩ : ByteArray).size + (dig q).size ≤ 9223372036854775807 := by show 2 + (dig q).size ≤ _; omega
    have CD := Lib.hid (fun g w hc hT => ptdigits_one g q w hq hc hT)
    clear hc hs hq hle
    have HN : Hid (((w.alloc (.cells #[.int .i64 (q : Nat)] 3)).cell? ⟨w.heap.size, 0, none⟩) = some (.int .i64 (q : Nat))) := new_cell w _ _ _ rfl
    have HP : Hid (Pow (w.alloc (.cells #[.int .i64 (q : Nat)] 3))) := HT.out.below ((Below.refl _ _).alloc (Nat.le_refl _) _)
    go_enter Tryd.func4, Tryd.ntmps4
    go_wp2_with fail
    refine (CS.out _).mono ?_
    rintro e w' ⟨rfl, rfl⟩
    go_wp2_with fail
    refine (CD.out _ _ HN.out HP.out).mono ?_
    rintro e w1 ⟨rfl, hb⟩
    have HB := Lib.hid (below_al hb)
    clear hb
    go_wp2_with fail
    go_ret
    exact ⟨pt_ret E.out.symm, HB.out⟩
  · have E := Lib.hid (ptName_assured2 hn hc)
    obtain ⟨sw, hsw, f0, f1, f2, f3, f4, f5, f6⟩ := ptWord_facts 2 (by decide)
    rw [hsw] at CS
    have f0 : sw.toList.isEmpty = false := f0
    have f1 : (sw.toList == [99, 108, 97, 115, 115]) = false := f1
    have f2 : (sw.toList == [97, 115, 115, 117, 114, 101, 100]) = true := f2
    have f3 : (sw.toList == [101, 120, 112, 101, 100, 105, 116, 101, 100]) = false := f3
    have f4 : (sw.toList == [118, 111, 105, 99, 101]) = false := f4
    have f5 : (sw.toList == [108, 111, 119, 101, 114]) = false := f5
    have f6 : (sw.toList == [111, 116, 104, 101, 114]) = false := f6
    clear hsw
    have e1 : (n : Int) / 8 = ((n / 8 : Nat) : Int) := by omega
    have hs := dig_size2 (x := n / 8) (by omega)
    have hp := ptPrec_le (n : Int)
    have hs2 := dig_size2 (x := ptPrec (n : Int)) (by omega)
    have hq : n / 8 ≤ 99 := by omega
    have hp9 : ptPrec (n : Int) ≤ 99 := by omega
    generalize ptPrec (n : Int) = p at *
    generalize n / 8 = q at *
    have hsz : (dig q ++ dig p).size ≤ 4 := by rw [ByteArray.size_append]; omega
    have CD := Lib.hid (fun g w hc hd hT => ptdigits_two g q p w hq hp9 hc hd hT)
    clear hc hs hq hle hp hs2 hp9
    have H0 : Hid (((w.alloc (.cells #[.int .i64 (q : Nat), .int .i64 (p : Nat)] 3)).cell? ⟨w.heap.size, 0, none⟩) = some (.int .i64 (q : Nat))) := by
      show _ = _
      rw [cell_of_row _ _ _ _ _ _ (heap_alloc_new w _)]; rfl
    have H1 : Hid (((w.alloc (.cells #[.int .i64 (q : Nat), .int .i64 (p : Nat)] 3)).cell? ⟨w.heap.size, 1, none⟩) = some (.int .i64 (p : Nat))) := by
      show _ = _
      rw [cell_of_row _ _ _ _ _ _ (heap_alloc_new w _)]; rfl
    have HP : Hid (Pow (w.alloc (.cells #[.int .i64 (q : Nat), .int .i64 (p : Nat)] 3))) := HT.out.below ((Below.refl _ _).alloc (Nat.le_refl _) _)
    generalize hR : dig q ++ dig p = R at *
    have s1 : (⟨#[97, 102]⟩ : ByteArray).size + R.size ≤ 9223372036854775807 := by show 2 + R.size ≤ _; omega
    clear hsz hR
    go_enter Tryd.func4, Tryd.ntmps4
    go_wp2_with fail
    refine (CS.out _).mono ?_
    rintro e w' ⟨rfl, rfl⟩
    go_wp2_with fail
    refine (CP.out _).mono ?_
    rintro e w' ⟨rfl, rfl⟩
    go_wp2_with fail
    refine (CD.out _ _ H0.out H1.out HP.out).mono ?_
    rintro e w1 ⟨rfl, hb⟩
    have HB := Lib.hid (below_al hb)
    clear hb
    go_wp2_with fail
    go_ret
    exact ⟨pt_ret E.out.symm, HB.out⟩
  · have E := Lib.hid (ptName_fixed (s := ⟨#[101, 102]⟩) hc (by simp))
    obtain ⟨sw, hsw, f0, f1, f2, f3, f4, f5, f6⟩ := ptWord_facts 3 (by decide)
    rw [hsw] at CS
    have f0 : sw.toList.isEmpty = false := f0
    have f1 : (sw.toList == [99, 108, 97, 115, 115]) = false := f1
    have f2 : (sw.toList == [97, 115, 115, 117, 114, 101, 100]) = false := f2
    have f3 : (sw.toList == [101, 120, 112, 101, 100, 105, 116, 101, 100]) = true := f3
    have f4 : (sw.toList == [118, 111, 105, 99, 101]) = false := f4
    have f5 : (sw.toList == [108, 111, 119, 101, 114]) = false := f5
    have f6 : (sw.toList == [111, 116, 104, 101, 114]) = false := f6
    clear hsw
    clear hc hle
    go_enter Tryd.func4, Tryd.ntmps4
    go_wp2_with fail
    refine (CS.out _).mono ?_
    rintro e w' ⟨rfl, rfl⟩
    go_wp2_with fail
    go_ret
    exact ⟨pt_ret E.out.symm, Below.refl _ _⟩
  · have E := Lib.hid (ptName_fixed (s := ⟨#[118, 97]⟩) hc (by simp))
    obtain ⟨sw, hsw, f0, f1, f2, f3, f4, f5, f6⟩ := ptWord_facts 4 (by decide)
    rw [hsw] at CS
    have f0 : sw.toList.isEmpty = false := f0
    have f1 : (sw.toList == [99, 108, 97, 115, 115]) = false := f1
    have f2 : (sw.toList == [97, 115, 115, 117, 114, 101, 100]) = false := f2
    have f3 : (sw.toList == [101, 120, 112, 101, 100, 105, 116, 101, 100]) = false := f3
    have f4 : (sw.toList == [118, 111, 105, 99, 101]) = true := f4
    have f5 : (sw.toList == [108, 111, 119, 101, 114]) = false := f5
    have f6 : (sw.toList == [111, 116, 104, 101, 114]) = false := f6
    clear hsw
    clear hc hle
    go_enter Tryd.func4, Tryd.ntmps4
    go_wp2_with fail
    refine (CS.out _).mono ?_
    rintro e w' ⟨rfl, rfl⟩
    go_wp2_with fail
    go_ret
    exact ⟨pt_ret E.out.symm, Below.refl _ _⟩
  · have E := Lib.hid (ptName_fixed (s := ⟨#[108, 101]⟩) hc (by simp))
    obtain ⟨sw, hsw, f0, f1, f2, f3, f4, f5, f6⟩ := ptWord_facts 5 (by decide)
    rw [hsw] at CS
    have f0 : sw.toList.isEmpty = false := f0
    have f1 : (sw.toList == [99, 108, 97, 115, 115]) = false := f1
    have f2 : (sw.toList == [97, 115, 115, 117, 114, 101, 100]) = false := f2
    have f3 : (sw.toList == [101, 120, 112, 101, 100, 105, 116, 101, 100]) = false := f3
    have f4 : (sw.toList == [118, 111, 105, 99, 101]) = false := f4
    have f5 : (sw.toList == [108, 111, 119, 101, 114]) = true := f5
    have f6 : (sw.toList == [111, 116, 104, 101, 114]) = false := f6
    clear hsw
    clear hc hle
    go_enter Tryd.func4, Tryd.ntmps4
    go_wp2_with fail
    refine (CS.out _).mono ?_
    rintro e w' ⟨rfl, rfl⟩
    go_wp2_with fail
    go_ret
    exact ⟨pt_ret E.out.symm, Below.refl _ _⟩
  · have E := Lib.hid (ptName_other hn hc)
    obtain ⟨sw, hsw, f0, f1, f2, f3, f4, f5, f6⟩ := ptWord_facts 6 (by decide)
    rw [hsw] at CS
    have f0 : sw.toList.isEmpty = false := f0
    have f1 : (sw.toList == [99, 108, 97, 115, 115]) = false := f1
    have f2 : (sw.toList == [97, 115, 115, 117, 114, 101, 100]) = false := f2
    have f3 : (sw.toList == [101, 120, 112, 101, 100, 105, 116, 101, 100]) = false := f3
    have f4 : (sw.toList == [118, 111, 105, 99, 101]) = false := f4
    have f5 : (sw.toList == [108, 111, 119, 101, 114]) = false := f5
    have f6 : (sw.toList == [111, 116, 104, 101, 114]) = true := f6
    clear hsw
    have hq : n ≤ 99 := by omega
    have CD := Lib.hid (fun g w hc hT => ptdigits_one g n w hq hc hT)
    clear hc hq hle hn
    have HN : Hid (((w.alloc (.cells #[.int .i64 (n : Nat)] 3)).cell? ⟨w.heap.size, 0, none⟩) = some (.int .i64 (n : Nat))) := new_cell w _ _ _ rfl
    have HP : Hid (Pow (w.alloc (.cells #[.int .i64 (n : Nat)] 3))) := HT.out.below ((Below.refl _ _).alloc (Nat.le_refl _) _)
    go_enter Tryd.func4, Tryd.ntmps4
    go_wp2_with fail
    refine (CS.out _).mono ?_
    rintro e w' ⟨rfl, rfl⟩
    go_wp2_with fail
    refine (CD.out _ _ HN.out HP.out).mono ?_
    rintro e w1 ⟨rfl, hb⟩
    have HB := Lib.hid (below_al hb)
    clear hb
    go_wp2_with fail
    go_ret
    exact ⟨pt_ret E.out.symm, HB.out⟩
end Go.Proofs.YtnofalgcpgheoaaDoor
