/-
  The walk of the statement OctetPuts.
-/
import Derived.Test.YtbnheffeojnjdaaAgree1
import Derived.Test.YtbnheffeojnjdaaWBits
namespace Go.Proofs.Ytbnheffeojnjdaa
open Go.RowKit
set_option linter.unusedVariables false

theorem put_agree (A : Option Addr) (n cap x : Nat) (a m : Int) (bs : List Nat) (hby : ∀ x ∈ bs, x < 256) (hlen : bs.length = n) (hcap : n ≤ cap) (hreach : cap ≤ 140737488351232) (ha : a ≤ 9223372036854775807) (hx : x ≤ 18446744073709551615) :
    ∃ (l : List Nat) (y : Int), l.length ≤ 9223372036854775807 ∧ (∀ w, Row w A n bs → Calls Try.prog 21 #[.slice A n cap, .int .i64 a, .int .i64 m, .int .u64 x] w (Two w l y)) ∧
      (∀ w, Row w A n bs → Calls Try.prog 22 #[.slice A n cap, .int .i64 a, .int .i64 m, .int .u64 x] w (Two w l y)) := by
  by_cases h : m < 1 ∨ 8 < m ∨ a < 0
  · exact ⟨[], 1, by simp, fun w _ => (put_range A n cap x a m w h).mono two_nil, fun w _ => (rput_range A n cap x a m w h).mono two_nil⟩
  · obtain ⟨a, rfl⟩ := Int.eq_ofNat_of_zero_le (show 0 ≤ a by omega)
    obtain ⟨m, rfl⟩ := Int.eq_ofNat_of_zero_le (show 0 ≤ m by omega)
    by_cases hb : 256 ^ m ≤ x
    · exact ⟨[], 1, by simp, fun w _ => (put_big A n cap x a m w (by omega) (by omega) hb).mono two_nil, fun w _ => (rput_big A n cap x a m w (by omega) (by omega) hx hb).mono two_nil⟩
    · by_cases hs : n < a + m
      · exact ⟨[], 2, by simp, fun w _ => (put_short A n cap x a m w (by omega) (by omega) (by omega) (by omega) (by omega) hs).mono two_nil,
          fun w _ => (rput_short A n cap x a m w (by omega) (by omega) (by omega) (by omega) hx (by omega) hs).mono two_nil⟩
      · have hb2 : ∀ y ∈ splice bs a (pb x m), y < 256 := splice_byte hby (pb_byte x m)
        refine ⟨splice bs a (pb x m), 0, by rw [splice_length (by rw [pb_length]; omega)]; omega, fun w hR => (put_ok A n cap x a m bs w hcap hreach (by omega) (by omega) (by omega) (by omega) hR).mono (two_own hb2),
          fun w hR => (rput_ok A n cap x a m bs w hcap hreach (by omega) (by omega) hx (by omega) (by omega) hR).mono (two_out hb2)⟩

theorem join_val (g n cap c : Nat) (A : Option Addr) (bs : List Nat) (w : World) (hn : n ≤ 140737488355328) (hA : Row w A n bs) (hc : w.cell? ⟨g, 0, none⟩ = some (.slice A n cap)) :
    Calls Try.prog 20 #[.slice (some ⟨g, 0, none⟩) 1 c] w fun e w' => ∃ v, e = .returned v ∧ ByteVal w' v bs ∧ Below w.heap.size w w' :=
  (join_one g n cap c A bs w hn hA hc).mono fun e w' ⟨v, he, ho, hb⟩ => by
    obtain ⟨B, d, rfl, h1, _, h3⟩ := ho.out hA.2.1
    exact ⟨_, he, ⟨B, d, rfl, h1, h3⟩, hb⟩

set_option maxHeartbeats 800000 in
theorem walk_OctetPuts (a0 : Option Addr) (len0 cap0 : Nat) (bs0 : List Nat) (zs1 : List Int) (x : Nat) (w : World) (R0 : Row w a0 len0 bs0) (hl0 : len0 ≤ cap0) (hc0 : cap0 ≤ 140737488351232)
    (hn1 : zs1.length = 2) (hz1 : ∀ z ∈ zs1, (Lit.int .i64 z).wf = true) (hx : x ≤ 18446744073709551615) :
    Calls Try.prog 4 #[.slice a0 len0 cap0, .agg (zs1.map (Value.int .i64)).toArray, .int .u64 x] w fun e w' => e = .returned (.bool true) ∧ Below w.heap.size w w' := by
  obtain ⟨a, m, rfl⟩ := two_of hn1
  have ha := wf_i64 (hz1 a (by simp))
  obtain ⟨l, y, hl, g1, g2⟩ := put_agree a0 len0 cap0 x a m bs0 R0.2.1 R0.1 hl0 hc0 ha.2 hx
  have G1 := Lib.hid g1
  have G2 := Lib.hid g2
  have HL := Lib.hid hl
  have R := Lib.hid R0
  have hV : ByteVal w (.slice a0 len0 cap0) bs0 := ⟨a0, cap0, by rw [R0.1], by rw [R0.1]; exact hl0, by rw [R0.1]; exact R0⟩
  have HV := Lib.hid hV
  have HLB := Lib.hid (show bs0.length ≤ 9223372036854775807 by rw [R0.1]; omega)
  clear g1 g2 hz1 ha hn1 hl R0 hV
  show Calls Try.prog 4 #[.slice a0 len0 cap0, .agg #[.int .i64 a, .int .i64 m], .int .u64 x] w fun e w' => e = .returned (.bool true) ∧ Below w.heap.size w w'
  go_enter Try.func4, Try.ntmps4
  go_wp2_with fail
  go_quiet (fail)
  have hb0 : Below w.heap.size w (w.alloc (.cells #[.int .i64 a, .int .i64 m] 32)) := (Below.refl _ _).alloc (Nat.le_refl _) _
  have H0 := Lib.hid hb0
  clear hb0
  have RJ := Lib.hid ((R.out.alloc (.cells #[.int .i64 a, .int .i64 m] 32)).drewN nq)
  go_wp2_with fail
  refine (join_val _ len0 cap0 _ a0 bs0 _ (by omega) (RJ.out.alloc _) (new_cell _ _ _ _ (by simp))).mono ?_
  rintro e w1 ⟨v0, rfl, r0, b0⟩
  have b0 := below_step (below_drewN' H0.out nq) (below_al b0) (Nat.le_refl _)
  have V0 := Lib.hid r0
  have B0 := Lib.hid b0
  clear r0 b0 RJ H0
  go_wp2_with fail
  refine (G1.out _ (R.out.below B0.out)).mono ?_
  rintro e w2 ⟨v1, rfl, r1, b1⟩
  have V0 := Lib.hid (V0.out.below b1)
  have V1 := Lib.hid r1
  have B1 := Lib.hid (below_both B0.out b1)
  clear r1 b1 B0
  go_wp2_with fail
  refine (G2.out _ (R.out.below B1.out)).mono ?_
  rintro e w3 ⟨v2, rfl, r2, b2⟩
  have V0 := Lib.hid (V0.out.below b2)
  have V1 := Lib.hid (V1.out.below b2)
  have V2 := Lib.hid r2
  have B2 := Lib.hid (below_both B1.out b2)
  clear r2 b2 B1
  go_wp2_with fail
  refine (live1 _).mono ?_
  rintro e w4 ⟨rfl, b3⟩
  have V0 := Lib.hid (V0.out.below b3)
  have V1 := Lib.hid (V1.out.below b3)
  have V2 := Lib.hid (V2.out.below b3)
  have B3 := Lib.hid (below_both B2.out b3)
  clear b3 B2
  go_wp2_with fail
  refine (same_vals _ _ l _ HL.out V1.out V2.out).mono ?_
  rintro e w5 ⟨rfl, b4⟩
  have V0 := Lib.hid (V0.out.below b4)
  have B4 := Lib.hid (below_both B3.out b4)
  clear b4 B3 V1 V2
  go_wp2_with fail
  refine (same_vals _ _ bs0 _ HLB.out (HV.out.below B4.out) V0.out).mono ?_
  rintro e w6 ⟨rfl, b5⟩
  have B5 := Lib.hid (below_both B4.out b5)
  clear b5 B4 V0
  go_wp2
  go_ret
  exact ⟨rfl, B5.out⟩
end Go.Proofs.Ytbnheffeojnjdaa
