/-
  The walk of DirectFinds.
-/
import Derived.Test.YthikjngmaekjgaaLive21
import Derived.Test.YthikjngmaekjgaaRDr1
namespace Go.Proofs.Ythikjngmaekjgaa
open Go.RowKit
set_option linter.unusedVariables false

theorem fit_or_bad (l : List Int) (most : Int) : ∀ n, Fit21 l most n ∨ ∃ i, i < n ∧ Fit21 l most i ∧ (l.getD i 0 < -1 ∨ most < l.getD i 0)
  | 0 => .inl fun i hi => absurd hi (Nat.not_lt_zero _)
  | n + 1 => by
    rcases fit_or_bad l most n with h | ⟨i, h1, h2, h3⟩
    · by_cases hb : l.getD n 0 < -1 ∨ most < l.getD n 0
      · exact .inr ⟨n, Nat.lt_succ_self _, h, hb⟩
      · refine .inl fun i hi => ?_
        rcases Nat.lt_or_ge i n with hlt | hge
        · exact h i hlt
        · obtain rfl : i = n := by omega
          omega
    · exact .inr ⟨i, by omega, h2, h3⟩

set_option maxRecDepth 10000 in
set_option maxHeartbeats 1600000 in
theorem wdf_bad (A : Option Addr) (n cap : Nat) (most x a b : Int) (w : World) (ha : (a == 0) = false)
    (CN : Calls Try.prog 5 #[.slice A n cap, .int .i64 most] w fun e w' => e = .returned (.tuple #[.pointer none, .agg #[.int .i64 a, .int .i64 b]]) ∧ Below w.heap.size w w')
    (CC : ∀ w', Below w.heap.size w w' → Calls Try.prog 6 #[.slice A n cap, .int .i64 most] w' fun e w'' => e = .returned (.agg #[.int .i64 a, .int .i64 b]) ∧ Below w'.heap.size w' w'') :
    Calls Try.prog 3 #[.slice A n cap, .int .i64 most, .int .i64 x] w fun e w' => e = .returned (.bool true) ∧ Below w.heap.size w w' := by
  have CN := Lib.hid CN
  have CC := Lib.hid CC
  have B : Hid (Below w.heap.size w w) := Below.refl _ _
  go_enter Try.func3, Try.ntmps3
  go_wp2_with fail
  refine CN.out.mono ?_
  rintro e w1 ⟨rfl, hb⟩
  have B := Lib.hid (below_both B.out hb)
  clear hb
  have hd := (Below.refl w1.heap.size w1).alloc (Nat.le_refl _) (.cells #[.int .i64 a, .int .i64 b] 26)
  have B := Lib.hid (below_both B.out hd)
  have F1 := Lib.hid (FB.laid21 w1 a b)
  clear hd
  go_wp2_with fail
  refine (CC.out _ B.out).mono ?_
  rintro e w2 ⟨rfl, hb⟩
  have B := Lib.hid (below_both B.out hb)
  have F1 := Lib.hid (F1.out.next hb)
  clear hb
  have hd := (Below.refl w2.heap.size w2).alloc (Nat.le_refl _) (.cells #[.int .i64 a, .int .i64 b] 26)
  have B := Lib.hid (below_both B.out hd)
  have F1 := Lib.hid (F1.out.next hd)
  have F2 := Lib.hid (FB.laid21 w2 a b)
  clear hd
  have f0 := F1.out.c0
  have f1 := F1.out.c1
  have g0 := F2.out.c0
  have g1 := F2.out.c1
  go_wp2_with fail
  refine (live21 _).mono ?_
  rintro e w3 ⟨rfl, hb⟩
  have B := Lib.hid (below_both B.out hb)
  clear hb
  go_wp2_with fail
  go_ret
  exact ⟨rfl, B.out⟩

set_option maxRecDepth 10000 in
set_option maxHeartbeats 3200000 in
theorem wdf_ok (A : Option Addr) (n cap most : Nat) (x : Int) (l : List Int) (w : World) (h2 : (most : Int) ≤ 65535) (hn : n ≤ 256) (hA : RowZ w A n l) (hfit : Fit21 l most n) (hx1 : -9223372036854775808 ≤ x) (hx2 : x ≤ 9223372036854775807) :
    Calls Try.prog 3 #[.slice A n cap, .int .i64 (most : Int), .int .i64 x] w fun e w' => e = .returned (.bool true) ∧ Below w.heap.size w w' := by
  have hl := hA.len
  subst hl
  have CN := Lib.hid (fun w hA => tab_new A l.length cap most l w h2 hn hA hfit)
  have CC := Lib.hid (fun w hA => rdcheck_ok A l.length cap (most : Int) l w (by omega) h2 hn hA hfit)
  have CF := Lib.hid (fun w hA => rdfind_any A l.length cap _ most l x w hx1 hx2 h2 hn rfl hA)
  have CG := Lib.hid (fun w hA => rdfree_any A l.length cap most l w h2 hn hA)
  have CT := Lib.hid (fun w tb (h : IsTab w tb l most) => tab_find x h hn h2 hx1 hx2)
  have CM := Lib.hid (fun w tb (h : IsTab w tb l most) => tab_most h)
  have CR := Lib.hid (fun w tb (h : IsTab w tb l most) => tab_free h hn h2)
  have B : Hid (Below w.heap.size w w) := Below.refl _ _
  have R := Lib.hid hA
  have HRl : Hid ((findR l ((l.length + 63) / 64) most l.length x).length ≤ 1048576) := by
    rw [findR_length]; exact (by omega : (l.length + 63) / 64 ≤ 1048576)
  obtain ⟨Q, hQ⟩ : ∃ Q, Q = findR l ((l.length + 63) / 64) most l.length x := ⟨_, rfl⟩
  rw [← hQ] at CF CT HRl
  obtain ⟨f, hf⟩ : ∃ f, f = freeN l most := ⟨_, rfl⟩
  rw [← hf] at CG CR
  have HL := Lib.hid (rfl : l.length = l.length)
  obtain ⟨n, hne⟩ : ∃ n, n = l.length := ⟨_, rfl⟩
  rw [← hne] at CN CC CF CG R ⊢
  clear hA hfit hQ hf HL hne hn
  go_enter Try.func3, Try.ntmps3
  go_wp2_with fail
  refine (CN.out _ R.out).mono ?_
  rintro e w1 ⟨tb, rfl, t1, hb⟩
  have B := Lib.hid (below_both B.out hb)
  have R := Lib.hid (R.out.below hb)
  have T := Lib.hid t1
  clear hb t1
  have hd := (Below.refl w1.heap.size w1).alloc (Nat.le_refl _) (.cells #[.int .i64 0, .int .i64 0] 26)
  have B := Lib.hid (below_both B.out hd)
  have R := Lib.hid (R.out.below hd)
  have T := Lib.hid (T.out.next hd)
  have F1 := Lib.hid (FB.laid21 w1 0 0)
  clear hd
  go_wp2_with fail
  refine (CC.out _ R.out).mono ?_
  rintro e w2 ⟨rfl, hb⟩
  have B := Lib.hid (below_both B.out hb)
  have R := Lib.hid (R.out.below hb)
  have T := Lib.hid (T.out.next hb)
  have F1 := Lib.hid (F1.out.next hb)
  clear hb
  have hd := (Below.refl w2.heap.size w2).alloc (Nat.le_refl _) (.cells #[.int .i64 0, .int .i64 0] 26)
  have B := Lib.hid (below_both B.out hd)
  have R := Lib.hid (R.out.below hd)
  have T := Lib.hid (T.out.next hd)
  have F1 := Lib.hid (F1.out.next hd)
  have F2 := Lib.hid (FB.laid21 w2 0 0)
  clear hd
  have f0 := F1.out.c0
  have f1 := F1.out.c1
  have g0 := F2.out.c0
  have g1 := F2.out.c1
  go_wp2_with fail
  clear f0 f1 g0 g1
  refine (live21 _).mono ?_
  rintro e w3 ⟨rfl, hb⟩
  have B := Lib.hid (below_both B.out hb)
  have R := Lib.hid (R.out.below hb)
  have T := Lib.hid (T.out.next hb)
  clear hb F1 F2
  go_wp2_with fail
  refine (CT.out _ _ T.out).mono ?_
  rintro e w4 ⟨v4, rfl, hv, hb⟩
  have B := Lib.hid (below_both B.out hb)
  have R := Lib.hid (R.out.below hb)
  have T := Lib.hid (T.out.next hb)
  have V4 := Lib.hid hv
  clear hb hv
  go_wp2_with fail
  refine (CF.out _ R.out).mono ?_
  rintro e w5 ⟨v5, rfl, hv, hb⟩
  have B := Lib.hid (below_both B.out hb)
  have R := Lib.hid (R.out.below hb)
  have T := Lib.hid (T.out.next hb)
  obtain ⟨A4, c4, rfl, _, hr4⟩ := V4.out.below hb
  obtain ⟨A5, c5, rfl, _, hr5⟩ := hv
  have C6 := Lib.hid (rowsame_yes A4 A5 Q.length c4 c5 Q w5 HRl.out hr4 hr5)
  clear hb hr4 hr5
  go_wp2_with fail
  refine C6.out.mono ?_
  rintro e w6 ⟨rfl, hb⟩
  have B := Lib.hid (below_both B.out hb)
  have R := Lib.hid (R.out.below hb)
  have T := Lib.hid (T.out.next hb)
  clear hb C6 V4
  go_wp2_with fail
  refine (CM.out _ _ T.out).mono ?_
  rintro e w7 ⟨rfl, hb⟩
  have B := Lib.hid (below_both B.out hb)
  have R := Lib.hid (R.out.below hb)
  have T := Lib.hid (T.out.next hb)
  clear hb
  by_cases hm : 1000 < (most : Int)
  · go_wp2_with fail
    go_ret
    exact ⟨rfl, B.out⟩
  · go_wp2_with fail
    refine (CR.out _ _ T.out).mono ?_
    rintro e w8 ⟨rfl, hb⟩
    have B := Lib.hid (below_both B.out hb)
    have R := Lib.hid (R.out.below hb)
    clear hb
    go_wp2_with fail
    refine (CG.out _ R.out).mono ?_
    rintro e w9 ⟨rfl, hb⟩
    have B := Lib.hid (below_both B.out hb)
    clear hb
    go_wp2_with fail
    go_ret
    exact ⟨rfl, B.out⟩

theorem walk_DirectFinds (A : Option Addr) (n cap : Nat) (l : List Int) (most x : Int) (w : World) (hA : RowZ w A n l) (hn : n ≤ cap) (hc : cap ≤ 17592186043904) (h1 : -9223372036854775808 ≤ most) (h2 : most ≤ 9223372036854775807) (hx1 : -9223372036854775808 ≤ x) (hx2 : x ≤ 9223372036854775807) :
    Calls Try.prog 3 #[.slice A n cap, .int .i64 most, .int .i64 x] w fun e w' => e = .returned (.bool true) ∧ Below w.heap.size w w' := by
  by_cases hr : most < 0 ∨ 65535 < most
  · exact wdf_bad A n cap most x 1 0 w (by decide) (dnew_range A n cap most w hr) (fun w' _ => rdcheck_range A n cap most w' hr)
  · obtain ⟨m, rfl⟩ := Int.eq_ofNat_of_zero_le (by omega : 0 ≤ most)
    rcases Nat.lt_or_ge 256 n with hm | hm
    · exact wdf_bad A n cap m x 7 256 w (by decide) (dnew_many A n cap m w (by omega) (by omega) hm (by omega)) (fun w' _ => rdcheck_many A n cap m w' (by omega) (by omega) hm (by omega))
    · rcases fit_or_bad l m n with hf | ⟨i, hi, hf, hb⟩
      · exact wdf_ok A n cap m x l w (by omega) hm hA hf hx1 hx2
      · exact wdf_bad A n cap m x 1 i w (by decide) (dnew_bad A n cap m l i w (by omega) (by omega) hm hA hi hf hb) (fun w' hb' => rdcheck_bad A n cap m l i w' (by omega) (by omega) hm (hA.below hb') hi hf hb)
end Go.Proofs.Ythikjngmaekjgaa
