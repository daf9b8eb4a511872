/-
  Contracts of the document's Is, Split, Join, Af, Prec, digit of layer 9, and of its Number of layer 5 at any most of digits.
-/
import Derived.Test.YtdeoeikpooonlaaDoorPt3
namespace Go.Proofs.YtdeoeikpooonlaaDoor
open Go.RowKit
set_option linter.unusedVariables false

theorem rptsplit_any (b : Nat) (w : World) (hb : b ≤ 255) :
    Calls Tryd.prog 12 #[.int .u8 b] w fun e w' => e = .returned (.tuple #[.int .i64 (b / 4 : Nat), .int .i64 (b % 4 : Nat)]) ∧ w = w' := by
  have h1 : wrap64 (b : Int) = (b : Int) := by unfold wrap64; omega
  go_enter Tryd.func12, Tryd.ntmps12
  go_wp2_with fail
  go_ret2
  exact ⟨rfl, rfl⟩
theorem rptis_any (d : Int) (w : World) (b : Bool) (h : b = decide (0 ≤ d ∧ d < 64)) : Calls Tryd.prog 56 #[.int .i64 d] w fun e w' => e = .returned (.bool b) ∧ w = w' := by
  by_cases h0 : 0 ≤ d
  · have H : Hid (b = decide (d ≤ 63)) := by show b = _; rw [h]; simp [h0]; omega
    clear h
    go_enter Tryd.func56, Tryd.ntmps56
    go_wp2_with fail
    go_ret
    exact ⟨by rw [H.out]; rfl, rfl⟩
  · have H : Hid (b = false) := by show b = _; rw [h]; simp; omega
    clear h
    have h1 : d < 0 := by omega
    clear h0
    go_enter Tryd.func56, Tryd.ntmps56
    go_wp2_with fail
    go_ret
    exact ⟨by rw [H.out]; rfl, rfl⟩
theorem rptjoin_any (d e : Int) (w : World) : Calls Tryd.prog 14 #[.int .i64 d, .int .i64 e] w fun en w' => en = .returned (ptJoin d e) ∧ w = w' := by
  by_cases h0 : 0 ≤ d ∧ d < 64
  · by_cases h1 : 0 ≤ e ∧ e < 4
    · have H : Hid (ptJoin d e = .tuple #[.int .u8 (4 * d + e), .int .i64 0]) := by show ptJoin d e = _; rw [ptJoin, if_pos h0, if_pos h1]
      have C := Lib.hid (fun w => rptis_any d w true (by simp [h0]))
      obtain ⟨⟨h2, h3⟩, h4, h5⟩ := And.intro h0 h1
      clear h0 h1
      obtain ⟨n, rfl⟩ := Int.eq_ofNat_of_zero_le h2
      obtain ⟨m, rfl⟩ := Int.eq_ofNat_of_zero_le h4
      have k2 : IntKind.u8.wrap (4 * (n : Int) + (m : Int)) = 4 * (n : Int) + (m : Int) := by show (4 * (n : Int) + (m : Int)) % 256 = _; omega
      have k3 : IntKind.u8.wrap ((n : Int) * 4 + (m : Int)) = 4 * (n : Int) + (m : Int) := by show ((n : Int) * 4 + (m : Int)) % 256 = _; omega
      have h6 : (m : Int) ≤ 3 := by omega
      go_enter Tryd.func14, Tryd.ntmps14
      go_wp2_with fail
      refine (C.out _).mono ?_
      rintro e w' ⟨rfl, rfl⟩
      go_wp2_with fail
      go_ret2
      exact ⟨H.out.symm ▸ rfl, rfl⟩
    · have H : Hid (ptJoin d e = .tuple #[.int .u8 0, .int .i64 1]) := by show ptJoin d e = _; rw [ptJoin, if_pos h0, if_neg h1]
      have C := Lib.hid (fun w => rptis_any d w true (by simp [h0]))
      clear h0
      by_cases h2 : e < 0
      · clear h1
        go_enter Tryd.func14, Tryd.ntmps14
        go_wp2_with fail
        refine (C.out _).mono ?_
        rintro e w' ⟨rfl, rfl⟩
        go_wp2_with fail
        go_ret2
        exact ⟨H.out.symm ▸ rfl, rfl⟩
      · have h3 : 0 ≤ e := by omega
        have h4 : 3 < e := by omega
        clear h1 h2
        go_enter Tryd.func14, Tryd.ntmps14
        go_wp2_with fail
        refine (C.out _).mono ?_
        rintro e w' ⟨rfl, rfl⟩
        go_wp2_with fail
        go_ret2
        exact ⟨H.out.symm ▸ rfl, rfl⟩
  · have H : Hid (ptJoin d e = .tuple #[.int .u8 0, .int .i64 14]) := by show ptJoin d e = _; rw [ptJoin, if_neg h0]
    have C := Lib.hid (fun w => rptis_any d w false (by simp [h0]))
    clear h0
    go_enter Tryd.func14, Tryd.ntmps14
    go_wp2_with fail
    refine (C.out _).mono ?_
    rintro e w' ⟨rfl, rfl⟩
    go_wp2_with fail
    go_ret2
    exact ⟨H.out.symm ▸ rfl, rfl⟩
theorem rptaf_yes (c p : Int) (w : World) (h1 : 1 ≤ c) (h2 : c ≤ 4) (h3 : 1 ≤ p) (h4 : p ≤ 3) : Calls Tryd.prog 16 #[.int .i64 c, .int .i64 p] w fun en w' => en = .returned (.tuple #[.int .i64 (8 * c + 2 * p), .int .i64 0]) ∧ w = w' := by
  go_enter Tryd.func16, Tryd.ntmps16
  go_wp2_with fail
  go_ret2
  exact ⟨rfl, rfl⟩
theorem rptaf_no (c p : Int) (w : World) (h : ¬ (1 ≤ c ∧ c ≤ 4 ∧ 1 ≤ p ∧ p ≤ 3)) : Calls Tryd.prog 16 #[.int .i64 c, .int .i64 p] w fun en w' => en = .returned (.tuple #[.int .i64 0, .int .i64 1]) ∧ w = w' := by
  by_cases h1 : c < 1
  · clear h
    go_enter Tryd.func16, Tryd.ntmps16
    go_wp2_with fail
    go_ret2
    exact ⟨rfl, rfl⟩
  have g1 : 1 ≤ c := by omega
  by_cases h2 : 4 < c
  · clear h h1
    go_enter Tryd.func16, Tryd.ntmps16
    go_wp2_with fail
    go_ret2
    exact ⟨rfl, rfl⟩
  have g2 : c ≤ 4 := by omega
  by_cases h3 : p < 1
  · clear h h1 h2
    go_enter Tryd.func16, Tryd.ntmps16
    go_wp2_with fail
    go_ret2
    exact ⟨rfl, rfl⟩
  have g3 : 1 ≤ p := by omega
  have h4 : 3 < p := by omega
  clear h h1 h2 h3
  go_enter Tryd.func16, Tryd.ntmps16
  go_wp2_with fail
  go_ret2
  exact ⟨rfl, rfl⟩
theorem rptaf_any (c p : Int) (w : World) : Calls Tryd.prog 16 #[.int .i64 c, .int .i64 p] w fun en w' => en = .returned (ptAf c p) ∧ w = w' := by
  unfold ptAf
  split
  · rename_i h
    exact rptaf_yes c p w h.1 h.2.1 h.2.2.1 h.2.2.2
  · rename_i h
    exact rptaf_no c p w h
theorem ptPrec_hit {d : Int} {c p : Nat} (h1 : 1 ≤ c) (h2 : c ≤ 4) (h3 : 1 ≤ p) (h4 : p ≤ 3) (h : 8 * (c : Int) + 2 * (p : Int) = d) : ptPrec d = p := by
  subst h
  unfold ptPrec
  rw [if_pos (by omega)]
  omega
theorem ptPrec_miss {d : Int} (h : ∀ c p : Nat, 1 ≤ c → c ≤ 4 → 1 ≤ p → p ≤ 3 → 8 * (c : Int) + 2 * (p : Int) ≠ d) : ptPrec d = 0 := by
  unfold ptPrec
  split
  · rename_i hr
    rcases (by omega : d % 8 / 2 = 0 ∨ (1 ≤ d % 8 / 2 ∧ d % 8 / 2 ≤ 3)) with k | k
    · rw [k]; rfl
    · exact absurd (by omega) (h (d / 8).toNat (d % 8 / 2).toNat (by omega) (by omega) (by omega) (by omega))
  · rfl
theorem inc_small {k : Nat} (h : k ≤ 100) : wrap64 ((k : Int) + 1) = ((k + 1 : Nat) : Int) := by
  have h2 : wrap64 ((k : Int) + 1) = (k : Int) + 1 := by unfold wrap64; omega
  rw [h2]
  rfl
set_option maxHeartbeats 800000 in
theorem rptprec_any (d : Int) (w : World) : Calls Tryd.prog 23 #[.int .i64 d] w fun en w' => en = .returned (.int .i64 (ptPrec d : Nat)) ∧ w = w' := by
  go_enter Tryd.func23, Tryd.ntmps23
  go_wp2_with fail
  go_loop [3] (fun i => ∃ c : Nat, 1 ≤ c ∧ c ≤ 5 ∧ i = .int .i64 c ∧ Hid (∀ c' p : Nat, 1 ≤ c' → c' < c → 1 ≤ p → p ≤ 3 → 8 * (c' : Int) + 2 * (p : Int) ≠ d)) (fun i => 5 - (intOf i).toNat)
  case atStart => exact ⟨1, by decide, by decide, rfl, fun c' p h1 h2 => absurd h2 (by omega)⟩
  case round =>
    obtain ⟨c, hc1, hc5, rfl, HC⟩ := hrel
    by_cases hc4 : c ≤ 4
    · have wc : wrap64 ((c : Int) + 1) = ((c + 1 : Nat) : Int) := inc_small (by omega)
      go_wp2_with fail
      go_loop [4] (fun i => ∃ p : Nat, 1 ≤ p ∧ p ≤ 4 ∧ i = .int .i64 p ∧ Hid (∀ p' : Nat, 1 ≤ p' → p' < p → 8 * (c : Int) + 2 * (p' : Int) ≠ d)) (fun i => 4 - (intOf i).toNat)
      case atStart => exact ⟨1, by decide, by decide, rfl, fun p' h1 h2 => absurd h2 (by omega)⟩
      case round =>
        obtain ⟨p, hp1, hp4, rfl, HP⟩ := hrel
        by_cases hp3 : p ≤ 3
        · have wp : wrap64 ((p : Int) + 1) = ((p + 1 : Nat) : Int) := inc_small (by omega)
          have CA := Lib.hid (fun w => rptaf_yes (c : Int) (p : Int) w (by omega) (by omega) (by omega) (by omega))
          obtain ⟨x, hx⟩ : ∃ x, 8 * (c : Int) + 2 * (p : Int) = x := ⟨_, rfl⟩
          rw [hx] at CA
          by_cases he : x = d
          · subst he
            have E := Lib.hid (ptPrec_hit hc1 hc4 hp1 hp3 hx)
            clear hx wc wp
            go_wp2_with fail
            refine (CA.out _).mono ?_
            rintro e w1 ⟨rfl, rfl⟩
            go_wp2_with fail
            go_ret
            exact ⟨by rw [E.out]; rfl, rfl⟩
          · have q : (x == d) = false := by simpa using he
            have HP1 : Hid (∀ p' : Nat, 1 ≤ p' → p' < p + 1 → 8 * (c : Int) + 2 * (p' : Int) ≠ d) := fun p' h1 h2 => by
              rcases (by omega : p' = p ∨ p' < p) with rfl | h3
              · rw [hx]; exact he
              · exact HP.out p' h1 h3
            clear hx wc he
            go_wp2_with fail
            refine (CA.out _).mono ?_
            rintro e w1 ⟨rfl, rfl⟩
            go_wp2_with fail
            go_round
            case rel => first | exact ⟨p + 1, by omega, by omega, rfl, HP1.out⟩ | exact ⟨_, _, ⟨p + 1, by omega, by omega, rfl, HP1.out⟩, rfl, rfl⟩ | fail
            case measure => simp [intOf]; omega
        · obtain rfl : p = 4 := by omega
          have HC1 : Hid (∀ c' p : Nat, 1 ≤ c' → c' < c + 1 → 1 ≤ p → p ≤ 3 → 8 * (c' : Int) + 2 * (p : Int) ≠ d) := fun c' p h1 h2 h3 h4 => by
            rcases (by omega : c' = c ∨ c' < c) with rfl | h5
            · exact HP.out p h3 (by omega)
            · exact HC.out c' p h1 h5 h3 h4
          go_wp2_with fail
          go_round
          case rel => first | exact ⟨c + 1, by omega, by omega, rfl, HC1.out⟩ | exact ⟨_, _, ⟨c + 1, by omega, by omega, rfl, HC1.out⟩, rfl, rfl⟩ | fail
          case measure => simp [intOf]; omega
    · obtain rfl : c = 5 := by omega
      have E : Hid (ptPrec d = 0) := ptPrec_miss fun c' p h1 h2 h3 h4 => HC.out c' p h1 (by omega) h3 h4
      go_wp2_with fail
      go_ret
      exact ⟨by rw [E.out]; rfl, rfl⟩
theorem pt_conv (W : World) (D : Nat) (hD : D < 256) : (convert 62 9 (.slice (some ⟨W.heap.size, 0, none⟩) 1 1)).run Tryd.prog (W.alloc (.cells #[.int .u8 (D : Int)] 5)) = .ok (.string (str [D])) (W.alloc (.cells #[.int .u8 (D : Int)] 5)) :=
  conv_str ((Own.new W [D]).row (by simpa using hD))
set_option maxRecDepth 10000 in
theorem rptdigit_any (n : Nat) (w : World) (hn : n < 10) : Calls Tryd.prog 60 #[.int .i64 n] w fun en w' => en = .returned (.string (dig n)) ∧ Below w.heap.size w w' := by
  obtain ⟨D, hD⟩ : ∃ D, D = 48 + n := ⟨_, rfl⟩
  have E : Hid (str [D] = dig n) := by show str _ = _; rw [dig_ten hn, hD]; rfl
  have k1 : wrap64 (48 + (n : Int)) = (D : Int) := by unfold wrap64; omega
  have k2 : IntKind.u8.wrap (D : Int) = (D : Int) := by show (D : Int) % 256 = _; omega
  have hc := pt_conv w D (by omega)
  clear hD hn
  generalize str [D] = S at *
  go_enter Tryd.func60, Tryd.ntmps60
  go_wp2_with fail
  go_ret
  exact ⟨pt_ret E.out, (Below.refl _ _).alloc (Nat.le_refl _) _⟩
end Go.Proofs.YtdeoeikpooonlaaDoor
