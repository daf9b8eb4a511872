/-
  The contract of the document's Less.
-/
import Derived.Test.YtemgnaalmgkfiaaRef2b
namespace Go.Proofs.Ytemgnaalmgkfiaa
open Go.RowKit
set_option linter.unusedVariables false
attribute [local go_sem ↓] Go.wp_at_zero Go.wp_at_succ
attribute [local go_sem] World.cell?_alloc_some fcells_length run_storeCells_row Place.new Place.new2 Place.newOld Place.stored

/-- The two boxes of the arguments; nothing below w's blocks is touched. -/
structure KB (w : World) (a b c d : Nat) (W : World) : Prop where
  a0 : W.cell? ⟨w.heap.size, 0, none⟩ = some (.int .u64 a)
  a1 : W.cell? ⟨w.heap.size, 1, none⟩ = some (.int .u64 b)
  c0 : W.cell? ⟨w.heap.size + 1, 0, none⟩ = some (.int .u64 c)
  c1 : W.cell? ⟨w.heap.size + 1, 1, none⟩ = some (.int .u64 d)
  below : Below w.heap.size w W
  size : w.heap.size + 2 ≤ W.heap.size
theorem KB.drew {w W : World} {a b c d : Nat} (h : KB w a b c d W) : KB w a b c d W.drew := ⟨h.a0, h.a1, h.c0, h.c1, h.below.drew, h.size⟩
theorem KB.of {w W W' : World} {a b c d : Nat} (h : KB w a b c d W) (hb : Below W.heap.size W W') : KB w a b c d W' :=
  ⟨carry h.a0 hb, carry h.a1 hb, carry h.c0 hb, carry h.c1 hb, below_both h.below hb, Nat.le_trans h.size hb.size⟩
theorem KB.alloc {w W : World} {a b c d : Nat} (h : KB w a b c d W) (o : Obj) : KB w a b c d (W.alloc o) := h.of ((Below.refl _ _).alloc (Nat.le_refl _) o)
theorem KB.start (w : World) (a b c d : Nat) : KB w a b c d ((w.alloc (.cells #[.int .u64 a, .int .u64 b] 42)).alloc (.cells #[.int .u64 c, .int .u64 d] 42)) where
  a0 := by simp
  a1 := by simp
  c0 := by simp
  c1 := by simp
  below := below_two _ _ _
  size := by simp

set_option maxRecDepth 10000 in
set_option maxHeartbeats 8000000 in
theorem rless_any (a b c d A B : Nat) (w : World) (ha : a ≤ 18446744073709551615) (hb0 : b ≤ 18446744073709551615) (hc : c ≤ 18446744073709551615) (hd : d ≤ 18446744073709551615) (hAe : Hid (A = wnum a b)) (hBe : Hid (B = wnum c d)) :
    Calls Try.prog 25 #[.agg #[.int .u64 a, .int .u64 b], .agg #[.int .u64 c, .int .u64 d]] w fun e w' => e = .returned (.bool (decide (A < B))) ∧ Below w.heap.size w w' := by
  have HB1 : Hid (∀ w, Calls Try.prog 40 #[.agg #[.int .u64 a, .int .u64 b]] w fun e w' => e = .returned (.agg (fcells (bit A)).toArray) ∧ Below w.heap.size w w') := by
    rw [hAe.out]; exact fun w => bits2_any a b w ha hb0
  have HB2 : Hid (∀ w, Calls Try.prog 40 #[.agg #[.int .u64 c, .int .u64 d]] w fun e w' => e = .returned (.agg (fcells (bit B)).toArray) ∧ Below w.heap.size w w') := by
    rw [hBe.out]; exact fun w => bits2_any c d w hc hd
  have K := Lib.hid (KB.start w a b c d)
  go_enter Try.func25, Try.ntmps25
  go_wp2_with fail
  generalize (w.alloc (.cells #[.int .u64 a, .int .u64 b] 42)).alloc (.cells #[.int .u64 c, .int .u64 d] 42) = w0 at *
  have a0 := K.out.a0; have a1 := K.out.a1; have c0 := K.out.c0; have c1 := K.out.c1
  go_cut [5, 6] from 8 to 11 (fun p q wx => ∃ g1 g2 : Nat, p = .pointer (some ⟨g1, 0, none⟩) ∧ q = .pointer (some ⟨g2, 0, none⟩) ∧ Bl wx g1 (bit A) ∧ Bl wx g2 (bit B) ∧ w.heap.size ≤ g1 ∧ w.heap.size ≤ g2 ∧ Below w.heap.size w wx)
  case first =>
    have K0 := K
    rename_i Q1 A1 J1 K2 Q2 h2
    have H2 := Lib.hid h2
    clear h2 A1
    go_region_with (first
      | (go_at_call 40; (with_reducible refine (HB1.out _).mono ?_); rintro e w' ⟨rfl, hb'⟩
         have KP := K
         have K : Hid (KB w a b c d w') := by
           first | exact K.out.of hb' | exact K.out.drew.of hb' | exact (K.out.alloc _).of hb' | exact (K.out.drew.alloc _).of hb' | exact ((K.out.alloc _).alloc _).of hb' | exact ((K.out.drew.alloc _).alloc _).of hb'
         have a0 := K.out.a0; have a1 := K.out.a1; have c0 := K.out.c0; have c1 := K.out.c1
         have hs := Lib.hid hb'.size
         (try (have m1 := Lib.hid p1.1.lt)); (try (have m2 := Lib.hid p2.1.lt)); (try (have m3 := Lib.hid p3.1.lt))
         (try (with_reducible have r1 := (Place.below p1.1 hb').all)); (try (with_reducible have r1 := (Place.below (p1.2.1 _) hb').all)); (try (with_reducible have r1 := (Place.below (p1.2.2 _ _) hb').all))
         (try (with_reducible have r2 := (Place.below p2.1 hb').all)); (try (with_reducible have r2 := (Place.below (p2.2.1 _) hb').all)); (try (with_reducible have r2 := (Place.below (p2.2.2 _ _) hb').all))
         (try (with_reducible have r3 := (Place.below p3.1 hb').all)); (try (with_reducible have r3 := (Place.below (p3.2.1 _) hb').all)); (try (with_reducible have r3 := (Place.below (p3.2.2 _ _) hb').all))
         (try (with_reducible have p1 := ((Place.new _).below hb').all)); (try (with_reducible have p1 := ((Place.newD _).below hb').all)); (try (with_reducible have p1 := ((Place.newE _).below hb').all))
         (try (with_reducible have p2 := ((Place.newOld _ _).below hb').all)); (try (with_reducible have p2 := ((Place.newOldD _ _).below hb').all)); (try (with_reducible have p2 := ((Place.newOldE _ _).below hb').all))
         (try (with_reducible have p3 := ((Place.new2 _ _).below hb').all)); (try (with_reducible have p3 := ((Place.new2D _ _).below hb').all)); (try (with_reducible have p3 := ((Place.new2E _ _).below hb').all)))
      | (go_at_call 40; (with_reducible refine (HB2.out _).mono ?_); rintro e w' ⟨rfl, hb'⟩
         have KP := K
         have K : Hid (KB w a b c d w') := by
           first | exact K.out.of hb' | exact K.out.drew.of hb' | exact (K.out.alloc _).of hb' | exact (K.out.drew.alloc _).of hb' | exact ((K.out.alloc _).alloc _).of hb' | exact ((K.out.drew.alloc _).alloc _).of hb'
         have a0 := K.out.a0; have a1 := K.out.a1; have c0 := K.out.c0; have c1 := K.out.c1
         have hs := Lib.hid hb'.size
         (try (have m1 := Lib.hid p1.1.lt)); (try (have m2 := Lib.hid p2.1.lt)); (try (have m3 := Lib.hid p3.1.lt))
         (try (with_reducible have r1 := (Place.below p1.1 hb').all)); (try (with_reducible have r1 := (Place.below (p1.2.1 _) hb').all)); (try (with_reducible have r1 := (Place.below (p1.2.2 _ _) hb').all))
         (try (with_reducible have r2 := (Place.below p2.1 hb').all)); (try (with_reducible have r2 := (Place.below (p2.2.1 _) hb').all)); (try (with_reducible have r2 := (Place.below (p2.2.2 _ _) hb').all))
         (try (with_reducible have r3 := (Place.below p3.1 hb').all)); (try (with_reducible have r3 := (Place.below (p3.2.1 _) hb').all)); (try (with_reducible have r3 := (Place.below (p3.2.2 _ _) hb').all))
         (try (with_reducible have p1 := ((Place.new _).below hb').all)); (try (with_reducible have p1 := ((Place.newD _).below hb').all)); (try (with_reducible have p1 := ((Place.newE _).below hb').all))
         (try (with_reducible have p2 := ((Place.newOld _ _).below hb').all)); (try (with_reducible have p2 := ((Place.newOldD _ _).below hb').all)); (try (with_reducible have p2 := ((Place.newOldE _ _).below hb').all))
         (try (with_reducible have p3 := ((Place.new2 _ _).below hb').all)); (try (with_reducible have p3 := ((Place.new2D _ _).below hb').all)); (try (with_reducible have p3 := ((Place.new2E _ _).below hb').all)))
      | fail)
    all_goals
      have h2 := H2.out
      go_wp2_with fail
      go_meet
      have z0 := K0.out.size
      have z1 := KP.out.size
      have z2 := K.out.size
      (try (have y1 := m1.out)); (try (have y2 := m2.out)); (try (have y3 := m3.out))
      (try (have x1 := p1.1.lt)); (try (have x2 := p2.1.lt)); (try (have x3 := p3.1.lt))
      (try (have v1 := r1.1.lt)); (try (have v2 := r2.1.lt)); (try (have v3 := r3.1.lt))
      refine ⟨_, _, rfl, rfl, (Place.into (by first | with_reducible exact p1.1 | with_reducible exact p1.2.1 _ | with_reducible exact p1.2.2 _ _ | with_reducible exact p2.1 | with_reducible exact p2.2.1 _ | with_reducible exact p2.2.2 _ _ | with_reducible exact p3.1 | with_reducible exact p3.2.1 _ | with_reducible exact p3.2.2 _ _ | with_reducible exact r1.1 | with_reducible exact r1.2.1 _ | with_reducible exact r1.2.2 _ _ | with_reducible exact r2.1 | with_reducible exact r2.2.1 _ | with_reducible exact r2.2.2 _ _ | with_reducible exact r3.1 | with_reducible exact r3.2.1 _ | with_reducible exact r3.2.2 _ _ | with_reducible exact Place.newOld _ _ | with_reducible exact Place.new2 _ _ | with_reducible exact Place.new _) _).stored _ (by omega), Place.into (Place.stored (by first | with_reducible exact p1.1 | with_reducible exact p1.2.1 _ | with_reducible exact p1.2.2 _ _ | with_reducible exact p2.1 | with_reducible exact p2.2.1 _ | with_reducible exact p2.2.2 _ _ | with_reducible exact p3.1 | with_reducible exact p3.2.1 _ | with_reducible exact p3.2.2 _ _ | with_reducible exact r1.1 | with_reducible exact r1.2.1 _ | with_reducible exact r1.2.2 _ _ | with_reducible exact r2.1 | with_reducible exact r2.2.1 _ | with_reducible exact r2.2.2 _ _ | with_reducible exact r3.1 | with_reducible exact r3.2.1 _ | with_reducible exact r3.2.2 _ _ | with_reducible exact Place.newOld _ _ | with_reducible exact Place.new2 _ _ | with_reducible exact Place.new _) _) _, by omega, by omega,
        below_stored (by omega) (below_stored (by omega) (by first | exact K.out.below | exact (K.out.alloc _).below | exact ((K.out.alloc _).alloc _).below) _) _⟩
  case rest =>
    obtain ⟨g1, g2, rfl, rfl, b1, b2, l1, l2, hb⟩ := hcut
    have B1 := Lib.hid b1
    have B2 := Lib.hid b2
    have BB := Lib.hid hb
    clear b1 b2 hb l1 l2 K HB1 HB2
    have hA := wnum_lt ha hb0
    have hB := wnum_lt hc hd
    rw [← hAe.out] at hA
    rw [← hBe.out] at hB
    have HA := Lib.hid hA
    have HB := Lib.hid hB
    clear hA hB
    go_wp2_with fail
    go_loopw [7] (fun i wr => ∃ (j : Int) (k n : Nat), Hid ((k : Int) = j + 1) ∧ k ≤ 128 ∧ i = .int .i64 j ∧ wr = wc.drewN n ∧ Hid (A / 2 ^ k = B / 2 ^ k)) (fun i _ => (intOf i + 1).toNat)
    case atStart => exact ⟨127, 128, 0, rfl, by omega, rfl, rfl, by
      show A / 2 ^ 128 = B / 2 ^ 128
      rw [show (2 : Nat) ^ 128 = w128 from rfl, Nat.div_eq_of_lt HA.out, Nat.div_eq_of_lt HB.out]⟩
    case round =>
      obtain ⟨j, k, n, hj, hk, rfl, rfl, hq⟩ := hrel
      cases k with
      | zero =>
        obtain rfl : j = -1 := by have := hj.out; omega
        have he : A = B := by have := hq.out; simpa using this
        clear hk hj
        go_wp2_with fail
        go_ret
        exact ⟨by rw [he]; simp, below_drewN' BB.out n⟩
      | succ p =>
        obtain rfl : j = (p : Int) := by have := hj.out; omega
        have d1 := B1.out.cell p (by omega)
        have d2 := B2.out.cell p (by omega)
        have hl := Lib.hid (fun h => less_here (A := A) (B := B) (i := p) hq.out h)
        have hd := Lib.hid (fun h => less_down (A := A) (B := B) (i := p) hq.out h)
        obtain ⟨u, hu⟩ : ∃ u, u = bit A p := ⟨_, rfl⟩
        obtain ⟨v, hv⟩ : ∃ v, v = bit B p := ⟨_, rfl⟩
        rw [← hu, ← hv] at hl hd
        rw [← hu] at d1
        rw [← hv] at d2
        have i0 : (0 : Int) ≤ (p : Int) := by omega
        have i1 : (p : Int) < 128 := by omega
        have HK := Lib.hid hk
        clear hu hv hk hj
        by_cases huv : u = v
        · subst huv
          go_wp2_with fail
          go_quiet (fail)
          go_wp2_with fail
          go_roundw
          case rel => exact ⟨(p : Int) - 1, p, _, by show (p : Int) = (p : Int) - 1 + 1; omega, by have := HK.out; omega, by go_num, rfl, hd.out (by first | rfl | trivial)⟩
          case measure => simp [intOf]
        · have hne : ((u : Int) != (v : Int)) = true := by simp; omega
          have hni : ¬ (u : Int) = (v : Int) := by omega
          have HN := Lib.hid huv
          clear huv
          go_wp2_with fail
          go_quiet (fail)
          go_wp2_with fail
          go_quiet (fail)
          go_wp2_with fail
          go_ret
          refine ⟨?_, ?_⟩
          · have := hl.out HN.out
            simp [this]
          · exact below_drewN' (below_drewN' (below_drewN' BB.out n) _) _
end Go.Proofs.Ytemgnaalmgkfiaa
