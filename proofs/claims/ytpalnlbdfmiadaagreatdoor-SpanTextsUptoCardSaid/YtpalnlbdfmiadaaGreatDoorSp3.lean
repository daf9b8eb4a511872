/-
  Meet of span and the document's; the document's Same over equal spans; checkAll.
-/
import Derived.Test.YtpalnlbdfmiadaaGreatDoorSp2
namespace Go.Proofs.YtpalnlbdfmiadaaGreatDoor
open Go.RowKit
set_option linter.unusedVariables false

set_option maxRecDepth 10000 in
set_option maxHeartbeats 1600000 in
theorem smeet_any0 (x1 x2 y1 y2 : Int) (w : World) (hA : x1 < y1) (hB : y2 < x2) : Calls Tryz.prog 20 #[.agg #[.int .i64 x1, .int .i64 x2], .agg #[.int .i64 y1, .int .i64 y2]] w fun e w' => e = .returned (.tuple #[.agg #[.int .i64 (meetS (x1, x2) (y1, y2)).1.1, .int .i64 (meetS (x1, x2) (y1, y2)).1.2], .bool (meetS (x1, x2) (y1, y2)).2]) ∧ Below w.heap.size w w' := by
  have HM : Hid (meetS (x1, x2) (y1, y2) = if chkS (x1, x2) = 0 ∧ chkS (y1, y2) = 0 ∧ max x1 y1 ≤ min x2 y2 then ((max x1 y1, min x2 y2), true) else ((0, 0), false)) := (rfl : meetS (x1, x2) (y1, y2) = meetS (x1, x2) (y1, y2))
  have HK : Hid (chkS (x1, x2) = 0 → chkS (y1, y2) = 0 → chkS (max x1 y1, min x2 y2) = if max x1 y1 ≤ min x2 y2 then 0 else 6) := fun h1 h2 => chk_meet h1 h2
  rw [show max x1 y1 = y1 by omega, show min x2 y2 = y2 by omega] at HM HK
  have CX := Lib.hid (fun w => scheck_any x1 x2 w)
  have CY := Lib.hid (fun w => scheck_any y1 y2 w)
  have CM := Lib.hid (fun w a b => scheck_any a b w)
  obtain ⟨cx, hcx⟩ : ∃ c, c = chkS (x1, x2) := ⟨_, rfl⟩
  obtain ⟨cy, hcy⟩ : ∃ c, c = chkS (y1, y2) := ⟨_, rfl⟩
  rw [← hcx] at HM CX
  rw [← hcy] at HM CY
  have Hx := Lib.hid hcx; have Hy := Lib.hid hcy
  clear hcx hcy
  have S0 : Hid (SB (((w.alloc (.cells #[.int .i64 x1, .int .i64 x2] 23)).alloc (.cells #[.int .i64 y1, .int .i64 y2] 23)).alloc (.cells #[.int .i64 0, .int .i64 0] 23)) w.heap.size x1 x2) := ((SB.new w x1 x2).next ((Below.refl _ _).alloc (Nat.le_refl _) _)).next ((Below.refl _ _).alloc (Nat.le_refl _) _)
  have S1 : Hid (SB (((w.alloc (.cells #[.int .i64 x1, .int .i64 x2] 23)).alloc (.cells #[.int .i64 y1, .int .i64 y2] 23)).alloc (.cells #[.int .i64 0, .int .i64 0] 23)) (w.heap.size + 1) y1 y2) := by
    have h := (SB.new (w.alloc (.cells #[.int .i64 x1, .int .i64 x2] 23)) y1 y2).next ((Below.refl _ _).alloc (Nat.le_refl _) (.cells #[.int .i64 0, .int .i64 0] 23))
    rw [show (w.alloc (.cells #[.int .i64 x1, .int .i64 x2] 23)).heap.size = w.heap.size + 1 from by simp] at h
    exact h
  have S2 : Hid (SB (((w.alloc (.cells #[.int .i64 x1, .int .i64 x2] 23)).alloc (.cells #[.int .i64 y1, .int .i64 y2] 23)).alloc (.cells #[.int .i64 0, .int .i64 0] 23)) (w.heap.size + 2) 0 0) := by
    have h := SB.new ((w.alloc (.cells #[.int .i64 x1, .int .i64 x2] 23)).alloc (.cells #[.int .i64 y1, .int .i64 y2] 23)) 0 0
    rw [show ((w.alloc (.cells #[.int .i64 x1, .int .i64 x2] 23)).alloc (.cells #[.int .i64 y1, .int .i64 y2] 23)).heap.size = w.heap.size + 2 from by simp] at h
    exact h
  have B : Hid (Below w.heap.size w (((w.alloc (.cells #[.int .i64 x1, .int .i64 x2] 23)).alloc (.cells #[.int .i64 y1, .int .i64 y2] 23)).alloc (.cells #[.int .i64 0, .int .i64 0] 23))) := (((Below.refl _ _).alloc (Nat.le_refl _) _).alloc (by simp) _).alloc (by simp; omega) _
  by_cases hx : cx = 0
  · subst hx
    have hx0 : ((0 : Int) != 0) = false := rfl
    by_cases hy : cy = 0
    · subst hy
      by_cases hm : y1 ≤ y2
      · have e : meetS (x1, x2) (y1, y2) = ((y1, y2), true) := by rw [HM.out]; exact if_pos ⟨rfl, rfl, hm⟩
        have hk : chkS (y1, y2) = 0 := by rw [HK.out Hx.out.symm Hy.out.symm]; exact if_pos hm
        have CK := Lib.hid (fun w => CM.out w y1 y2)
        rw [hk] at CK
        rw [e]
        have hm2 : y1 ≤ y2 := hm
        clear e hk hm HM HK CM Hx Hy
        go_enter Tryz.func20, Tryz.ntmps20
        go_wp2_with fail
        have s0a := S0.out.c0; have s0b := S0.out.c1
        refine (CX.out _).mono ?_
        rintro e w1 ⟨rfl, hb⟩
        have B := Lib.hid (below_both B.out hb)
        have S0 := Lib.hid (S0.out.next hb)
        have S1 := Lib.hid (S1.out.next hb)
        have S2 := Lib.hid (S2.out.next hb)
        clear hb
        clear s0a s0b
        have s1a := S1.out.c0; have s1b := S1.out.c1
        go_wp2_with fail
        clear s1a s1b
        refine (CY.out _).mono ?_
        rintro e w2 ⟨rfl, hb⟩
        have B := Lib.hid (below_both B.out hb)
        have S0 := Lib.hid (S0.out.next hb)
        have S1 := Lib.hid (S1.out.next hb)
        have S2 := Lib.hid (S2.out.next hb)
        clear hb
        have s0a := S0.out.c0; have s0b := S0.out.c1
        have s1a := S1.out.c0; have s1b := S1.out.c1
        go_wp2_with fail
        clear s0a s0b s1a s1b
        have hd := (Below.refl w2.heap.size w2).alloc (Nat.le_refl _) (.cells #[.int .i64 y1, .int .i64 y2] 23)
        have B := Lib.hid (below_both B.out hd)
        have S2 := Lib.hid (S2.out.next hd)
        have S3 := Lib.hid (SB.new w2 y1 y2)
        clear hd
        refine (CK.out _).mono ?_
        rintro e w3 ⟨rfl, hb⟩
        have B := Lib.hid (below_both B.out hb)
        have S2 := Lib.hid (S2.out.next hb)
        have S3 := Lib.hid (S3.out.next hb)
        clear hb
        have s3a := S3.out.c0; have s3b := S3.out.c1
        have hr0 := (S2.out.two y1 y2).c0
        have hr1 := (S2.out.two y1 y2).c1
        have hc0 := S2.out.c0; have hc1 := S2.out.c1; have hf0 := S2.out.f 0; have hf1 := S2.out.f 1
        have B3 := Lib.hid ((B.out.setCell (p := ⟨w.heap.size + 2, 0, none⟩) (by show w.heap.size ≤ w.heap.size + 2; omega) (.int .i64 y1)).setCell (p := ⟨w.heap.size + 2, 1, none⟩) (by show w.heap.size ≤ w.heap.size + 2; omega) (.int .i64 y2))
        go_wp2_with fail
        exact bodyPost_ret (v := .tuple #[.agg #[.int .i64 y1, .int .i64 y2], .bool true]) (by simp [results, Tryz.results20, go_sem, hr0, hr1]) rfl ⟨rfl, B3.out⟩
      · have e : meetS (x1, x2) (y1, y2) = ((0, 0), false) := by rw [HM.out]; exact if_neg (fun h => hm h.2.2)
        have hk : chkS (y1, y2) = 6 := by rw [HK.out Hx.out.symm Hy.out.symm]; exact if_neg hm
        have CK := Lib.hid (fun w => CM.out w y1 y2)
        rw [hk] at CK
        rw [e]
        have hm2 : y2 < y1 := Int.not_le.1 hm
        clear e hk hm HM HK CM Hx Hy
        go_enter Tryz.func20, Tryz.ntmps20
        go_wp2_with fail
        have s0a := S0.out.c0; have s0b := S0.out.c1
        refine (CX.out _).mono ?_
        rintro e w1 ⟨rfl, hb⟩
        have B := Lib.hid (below_both B.out hb)
        have S0 := Lib.hid (S0.out.next hb)
        have S1 := Lib.hid (S1.out.next hb)
        have S2 := Lib.hid (S2.out.next hb)
        clear hb
        clear s0a s0b
        have s1a := S1.out.c0; have s1b := S1.out.c1
        go_wp2_with fail
        clear s1a s1b
        refine (CY.out _).mono ?_
        rintro e w2 ⟨rfl, hb⟩
        have B := Lib.hid (below_both B.out hb)
        have S0 := Lib.hid (S0.out.next hb)
        have S1 := Lib.hid (S1.out.next hb)
        have S2 := Lib.hid (S2.out.next hb)
        clear hb
        have s0a := S0.out.c0; have s0b := S0.out.c1
        have s1a := S1.out.c0; have s1b := S1.out.c1
        go_wp2_with fail
        clear s0a s0b s1a s1b
        have hd := (Below.refl w2.heap.size w2).alloc (Nat.le_refl _) (.cells #[.int .i64 y1, .int .i64 y2] 23)
        have B := Lib.hid (below_both B.out hd)
        have S2 := Lib.hid (S2.out.next hd)
        have S3 := Lib.hid (SB.new w2 y1 y2)
        clear hd
        refine (CK.out _).mono ?_
        rintro e w3 ⟨rfl, hb⟩
        have B := Lib.hid (below_both B.out hb)
        have S2 := Lib.hid (S2.out.next hb)
        have S3 := Lib.hid (S3.out.next hb)
        clear hb
        have s3a := S3.out.c0; have s3b := S3.out.c1
        have hr0 := (S2.out.two 0 0).c0
        have hr1 := (S2.out.two 0 0).c1
        have hc0 := S2.out.c0; have hc1 := S2.out.c1; have hf0 := S2.out.f 0; have hf1 := S2.out.f 1
        have B3 := Lib.hid ((B.out.setCell (p := ⟨w.heap.size + 2, 0, none⟩) (by show w.heap.size ≤ w.heap.size + 2; omega) (.int .i64 0)).setCell (p := ⟨w.heap.size + 2, 1, none⟩) (by show w.heap.size ≤ w.heap.size + 2; omega) (.int .i64 0))
        go_wp2_with fail
        exact bodyPost_ret (v := .tuple #[.agg #[.int .i64 0, .int .i64 0], .bool false]) (by simp [results, Tryz.results20, go_sem, hr0, hr1]) rfl ⟨rfl, B3.out⟩
    · have e : meetS (x1, x2) (y1, y2) = ((0, 0), false) := by rw [HM.out]; exact if_neg (fun h => hy h.2.1)
      have hy0 : (cy != 0) = true := by rw [bne_iff_ne]; exact hy
      rw [e]
      clear e HM HK CM Hx Hy
      go_enter Tryz.func20, Tryz.ntmps20
      go_wp2_with fail
      have s0a := S0.out.c0; have s0b := S0.out.c1
      refine (CX.out _).mono ?_
      rintro e w1 ⟨rfl, hb⟩
      have B := Lib.hid (below_both B.out hb)
      have S0 := Lib.hid (S0.out.next hb)
      have S1 := Lib.hid (S1.out.next hb)
      have S2 := Lib.hid (S2.out.next hb)
      clear hb
      clear s0a s0b
      have s1a := S1.out.c0; have s1b := S1.out.c1
      go_wp2_with fail
      clear s1a s1b
      refine (CY.out _).mono ?_
      rintro e w2 ⟨rfl, hb⟩
      have B := Lib.hid (below_both B.out hb)
      have S0 := Lib.hid (S0.out.next hb)
      have S1 := Lib.hid (S1.out.next hb)
      have S2 := Lib.hid (S2.out.next hb)
      clear hb
      have hr0 := (S2.out.two 0 0).c0
      have hr1 := (S2.out.two 0 0).c1
      have hc0 := S2.out.c0; have hc1 := S2.out.c1; have hf0 := S2.out.f 0; have hf1 := S2.out.f 1
      have B3 := Lib.hid ((B.out.setCell (p := ⟨w.heap.size + 2, 0, none⟩) (by show w.heap.size ≤ w.heap.size + 2; omega) (.int .i64 0)).setCell (p := ⟨w.heap.size + 2, 1, none⟩) (by show w.heap.size ≤ w.heap.size + 2; omega) (.int .i64 0))
      go_wp2_with fail
      exact bodyPost_ret (v := .tuple #[.agg #[.int .i64 0, .int .i64 0], .bool false]) (by simp [results, Tryz.results20, go_sem, hr0, hr1]) rfl ⟨rfl, B3.out⟩
  · have e : meetS (x1, x2) (y1, y2) = ((0, 0), false) := by rw [HM.out]; exact if_neg (fun h => hx h.1)
    have hx0 : (cx != 0) = true := by rw [bne_iff_ne]; exact hx
    rw [e]
    clear e HM HK CM Hx Hy
    go_enter Tryz.func20, Tryz.ntmps20
    go_wp2_with fail
    have s0a := S0.out.c0; have s0b := S0.out.c1
    refine (CX.out _).mono ?_
    rintro e w1 ⟨rfl, hb⟩
    have B := Lib.hid (below_both B.out hb)
    have S0 := Lib.hid (S0.out.next hb)
    have S1 := Lib.hid (S1.out.next hb)
    have S2 := Lib.hid (S2.out.next hb)
    clear hb
    have hr0 := (S2.out.two 0 0).c0
    have hr1 := (S2.out.two 0 0).c1
    have hc0 := S2.out.c0; have hc1 := S2.out.c1; have hf0 := S2.out.f 0; have hf1 := S2.out.f 1
    have B3 := Lib.hid ((B.out.setCell (p := ⟨w.heap.size + 2, 0, none⟩) (by show w.heap.size ≤ w.heap.size + 2; omega) (.int .i64 0)).setCell (p := ⟨w.heap.size + 2, 1, none⟩) (by show w.heap.size ≤ w.heap.size + 2; omega) (.int .i64 0))
    go_wp2_with fail
    exact bodyPost_ret (v := .tuple #[.agg #[.int .i64 0, .int .i64 0], .bool false]) (by simp [results, Tryz.results20, go_sem, hr0, hr1]) rfl ⟨rfl, B3.out⟩
set_option maxRecDepth 10000 in
set_option maxHeartbeats 1600000 in
theorem smeet_any1 (x1 x2 y1 y2 : Int) (w : World) (hA : x1 < y1) (hB : x2 ≤ y2) : Calls Tryz.prog 20 #[.agg #[.int .i64 x1, .int .i64 x2], .agg #[.int .i64 y1, .int .i64 y2]] w fun e w' => e = .returned (.tuple #[.agg #[.int .i64 (meetS (x1, x2) (y1, y2)).1.1, .int .i64 (meetS (x1, x2) (y1, y2)).1.2], .bool (meetS (x1, x2) (y1, y2)).2]) ∧ Below w.heap.size w w' := by
  have HM : Hid (meetS (x1, x2) (y1, y2) = if chkS (x1, x2) = 0 ∧ chkS (y1, y2) = 0 ∧ max x1 y1 ≤ min x2 y2 then ((max x1 y1, min x2 y2), true) else ((0, 0), false)) := (rfl : meetS (x1, x2) (y1, y2) = meetS (x1, x2) (y1, y2))
  have HK : Hid (chkS (x1, x2) = 0 → chkS (y1, y2) = 0 → chkS (max x1 y1, min x2 y2) = if max x1 y1 ≤ min x2 y2 then 0 else 6) := fun h1 h2 => chk_meet h1 h2
  rw [show max x1 y1 = y1 by omega, show min x2 y2 = x2 by omega] at HM HK
  have CX := Lib.hid (fun w => scheck_any x1 x2 w)
  have CY := Lib.hid (fun w => scheck_any y1 y2 w)
  have CM := Lib.hid (fun w a b => scheck_any a b w)
  obtain ⟨cx, hcx⟩ : ∃ c, c = chkS (x1, x2) := ⟨_, rfl⟩
  obtain ⟨cy, hcy⟩ : ∃ c, c = chkS (y1, y2) := ⟨_, rfl⟩
  rw [← hcx] at HM CX
  rw [← hcy] at HM CY
  have Hx := Lib.hid hcx; have Hy := Lib.hid hcy
  clear hcx hcy
  have S0 : Hid (SB (((w.alloc (.cells #[.int .i64 x1, .int .i64 x2] 23)).alloc (.cells #[.int .i64 y1, .int .i64 y2] 23)).alloc (.cells #[.int .i64 0, .int .i64 0] 23)) w.heap.size x1 x2) := ((SB.new w x1 x2).next ((Below.refl _ _).alloc (Nat.le_refl _) _)).next ((Below.refl _ _).alloc (Nat.le_refl _) _)
  have S1 : Hid (SB (((w.alloc (.cells #[.int .i64 x1, .int .i64 x2] 23)).alloc (.cells #[.int .i64 y1, .int .i64 y2] 23)).alloc (.cells #[.int .i64 0, .int .i64 0] 23)) (w.heap.size + 1) y1 y2) := by
    have h := (SB.new (w.alloc (.cells #[.int .i64 x1, .int .i64 x2] 23)) y1 y2).next ((Below.refl _ _).alloc (Nat.le_refl _) (.cells #[.int .i64 0, .int .i64 0] 23))
    rw [show (w.alloc (.cells #[.int .i64 x1, .int .i64 x2] 23)).heap.size = w.heap.size + 1 from by simp] at h
    exact h
  have S2 : Hid (SB (((w.alloc (.cells #[.int .i64 x1, .int .i64 x2] 23)).alloc (.cells #[.int .i64 y1, .int .i64 y2] 23)).alloc (.cells #[.int .i64 0, .int .i64 0] 23)) (w.heap.size + 2) 0 0) := by
    have h := SB.new ((w.alloc (.cells #[.int .i64 x1, .int .i64 x2] 23)).alloc (.cells #[.int .i64 y1, .int .i64 y2] 23)) 0 0
    rw [show ((w.alloc (.cells #[.int .i64 x1, .int .i64 x2] 23)).alloc (.cells #[.int .i64 y1, .int .i64 y2] 23)).heap.size = w.heap.size + 2 from by simp] at h
    exact h
  have B : Hid (Below w.heap.size w (((w.alloc (.cells #[.int .i64 x1, .int .i64 x2] 23)).alloc (.cells #[.int .i64 y1, .int .i64 y2] 23)).alloc (.cells #[.int .i64 0, .int .i64 0] 23))) := (((Below.refl _ _).alloc (Nat.le_refl _) _).alloc (by simp) _).alloc (by simp; omega) _
  by_cases hx : cx = 0
  · subst hx
    have hx0 : ((0 : Int) != 0) = false := rfl
    by_cases hy : cy = 0
    · subst hy
      by_cases hm : y1 ≤ x2
      · have e : meetS (x1, x2) (y1, y2) = ((y1, x2), true) := by rw [HM.out]; exact if_pos ⟨rfl, rfl, hm⟩
        have hk : chkS (y1, x2) = 0 := by rw [HK.out Hx.out.symm Hy.out.symm]; exact if_pos hm
        have CK := Lib.hid (fun w => CM.out w y1 x2)
        rw [hk] at CK
        rw [e]
        have hm2 : y1 ≤ x2 := hm
        clear e hk hm HM HK CM Hx Hy
        go_enter Tryz.func20, Tryz.ntmps20
        go_wp2_with fail
        have s0a := S0.out.c0; have s0b := S0.out.c1
        refine (CX.out _).mono ?_
        rintro e w1 ⟨rfl, hb⟩
        have B := Lib.hid (below_both B.out hb)
        have S0 := Lib.hid (S0.out.next hb)
        have S1 := Lib.hid (S1.out.next hb)
        have S2 := Lib.hid (S2.out.next hb)
        clear hb
        clear s0a s0b
        have s1a := S1.out.c0; have s1b := S1.out.c1
        go_wp2_with fail
        clear s1a s1b
        refine (CY.out _).mono ?_
        rintro e w2 ⟨rfl, hb⟩
        have B := Lib.hid (below_both B.out hb)
        have S0 := Lib.hid (S0.out.next hb)
        have S1 := Lib.hid (S1.out.next hb)
        have S2 := Lib.hid (S2.out.next hb)
        clear hb
        have s0a := S0.out.c0; have s0b := S0.out.c1
        have s1a := S1.out.c0; have s1b := S1.out.c1
        go_wp2_with fail
        clear s0a s0b s1a s1b
        have hd := (Below.refl w2.heap.size w2).alloc (Nat.le_refl _) (.cells #[.int .i64 y1, .int .i64 x2] 23)
        have B := Lib.hid (below_both B.out hd)
        have S2 := Lib.hid (S2.out.next hd)
        have S3 := Lib.hid (SB.new w2 y1 x2)
        clear hd
        refine (CK.out _).mono ?_
        rintro e w3 ⟨rfl, hb⟩
        have B := Lib.hid (below_both B.out hb)
        have S2 := Lib.hid (S2.out.next hb)
        have S3 := Lib.hid (S3.out.next hb)
        clear hb
        have s3a := S3.out.c0; have s3b := S3.out.c1
        have hr0 := (S2.out.two y1 x2).c0
        have hr1 := (S2.out.two y1 x2).c1
        have hc0 := S2.out.c0; have hc1 := S2.out.c1; have hf0 := S2.out.f 0; have hf1 := S2.out.f 1
        have B3 := Lib.hid ((B.out.setCell (p := ⟨w.heap.size + 2, 0, none⟩) (by show w.heap.size ≤ w.heap.size + 2; omega) (.int .i64 y1)).setCell (p := ⟨w.heap.size + 2, 1, none⟩) (by show w.heap.size ≤ w.heap.size + 2; omega) (.int .i64 x2))
        go_wp2_with fail
        exact bodyPost_ret (v := .tuple #[.agg #[.int .i64 y1, .int .i64 x2], .bool true]) (by simp [results, Tryz.results20, go_sem, hr0, hr1]) rfl ⟨rfl, B3.out⟩
      · have e : meetS (x1, x2) (y1, y2) = ((0, 0), false) := by rw [HM.out]; exact if_neg (fun h => hm h.2.2)
        have hk : chkS (y1, x2) = 6 := by rw [HK.out Hx.out.symm Hy.out.symm]; exact if_neg hm
        have CK := Lib.hid (fun w => CM.out w y1 x2)
        rw [hk] at CK
        rw [e]
        have hm2 : x2 < y1 := Int.not_le.1 hm
        clear e hk hm HM HK CM Hx Hy
        go_enter Tryz.func20, Tryz.ntmps20
        go_wp2_with fail
        have s0a := S0.out.c0; have s0b := S0.out.c1
        refine (CX.out _).mono ?_
        rintro e w1 ⟨rfl, hb⟩
        have B := Lib.hid (below_both B.out hb)
        have S0 := Lib.hid (S0.out.next hb)
        have S1 := Lib.hid (S1.out.next hb)
        have S2 := Lib.hid (S2.out.next hb)
        clear hb
        clear s0a s0b
        have s1a := S1.out.c0; have s1b := S1.out.c1
        go_wp2_with fail
        clear s1a s1b
        refine (CY.out _).mono ?_
        rintro e w2 ⟨rfl, hb⟩
        have B := Lib.hid (below_both B.out hb)
        have S0 := Lib.hid (S0.out.next hb)
        have S1 := Lib.hid (S1.out.next hb)
        have S2 := Lib.hid (S2.out.next hb)
        clear hb
        have s0a := S0.out.c0; have s0b := S0.out.c1
        have s1a := S1.out.c0; have s1b := S1.out.c1
        go_wp2_with fail
        clear s0a s0b s1a s1b
        have hd := (Below.refl w2.heap.size w2).alloc (Nat.le_refl _) (.cells #[.int .i64 y1, .int .i64 x2] 23)
        have B := Lib.hid (below_both B.out hd)
        have S2 := Lib.hid (S2.out.next hd)
        have S3 := Lib.hid (SB.new w2 y1 x2)
        clear hd
        refine (CK.out _).mono ?_
        rintro e w3 ⟨rfl, hb⟩
        have B := Lib.hid (below_both B.out hb)
        have S2 := Lib.hid (S2.out.next hb)
        have S3 := Lib.hid (S3.out.next hb)
        clear hb
        have s3a := S3.out.c0; have s3b := S3.out.c1
        have hr0 := (S2.out.two 0 0).c0
        have hr1 := (S2.out.two 0 0).c1
        have hc0 := S2.out.c0; have hc1 := S2.out.c1; have hf0 := S2.out.f 0; have hf1 := S2.out.f 1
        have B3 := Lib.hid ((B.out.setCell (p := ⟨w.heap.size + 2, 0, none⟩) (by show w.heap.size ≤ w.heap.size + 2; omega) (.int .i64 0)).setCell (p := ⟨w.heap.size + 2, 1, none⟩) (by show w.heap.size ≤ w.heap.size + 2; omega) (.int .i64 0))
        go_wp2_with fail
        exact bodyPost_ret (v := .tuple #[.agg #[.int .i64 0, .int .i64 0], .bool false]) (by simp [results, Tryz.results20, go_sem, hr0, hr1]) rfl ⟨rfl, B3.out⟩
    · have e : meetS (x1, x2) (y1, y2) = ((0, 0), false) := by rw [HM.out]; exact if_neg (fun h => hy h.2.1)
      have hy0 : (cy != 0) = true := by rw [bne_iff_ne]; exact hy
      rw [e]
      clear e HM HK CM Hx Hy
      go_enter Tryz.func20, Tryz.ntmps20
      go_wp2_with fail
      have s0a := S0.out.c0; have s0b := S0.out.c1
      refine (CX.out _).mono ?_
      rintro e w1 ⟨rfl, hb⟩
      have B := Lib.hid (below_both B.out hb)
      have S0 := Lib.hid (S0.out.next hb)
      have S1 := Lib.hid (S1.out.next hb)
      have S2 := Lib.hid (S2.out.next hb)
      clear hb
      clear s0a s0b
      have s1a := S1.out.c0; have s1b := S1.out.c1
      go_wp2_with fail
      clear s1a s1b
      refine (CY.out _).mono ?_
      rintro e w2 ⟨rfl, hb⟩
      have B := Lib.hid (below_both B.out hb)
      have S0 := Lib.hid (S0.out.next hb)
      have S1 := Lib.hid (S1.out.next hb)
      have S2 := Lib.hid (S2.out.next hb)
      clear hb
      have hr0 := (S2.out.two 0 0).c0
      have hr1 := (S2.out.two 0 0).c1
      have hc0 := S2.out.c0; have hc1 := S2.out.c1; have hf0 := S2.out.f 0; have hf1 := S2.out.f 1
      have B3 := Lib.hid ((B.out.setCell (p := ⟨w.heap.size + 2, 0, none⟩) (by show w.heap.size ≤ w.heap.size + 2; omega) (.int .i64 0)).setCell (p := ⟨w.heap.size + 2, 1, none⟩) (by show w.heap.size ≤ w.heap.size + 2; omega) (.int .i64 0))
      go_wp2_with fail
      exact bodyPost_ret (v := .tuple #[.agg #[.int .i64 0, .int .i64 0], .bool false]) (by simp [results, Tryz.results20, go_sem, hr0, hr1]) rfl ⟨rfl, B3.out⟩
  · have e : meetS (x1, x2) (y1, y2) = ((0, 0), false) := by rw [HM.out]; exact if_neg (fun h => hx h.1)
    have hx0 : (cx != 0) = true := by rw [bne_iff_ne]; exact hx
    rw [e]
    clear e HM HK CM Hx Hy
    go_enter Tryz.func20, Tryz.ntmps20
    go_wp2_with fail
    have s0a := S0.out.c0; have s0b := S0.out.c1
    refine (CX.out _).mono ?_
    rintro e w1 ⟨rfl, hb⟩
    have B := Lib.hid (below_both B.out hb)
    have S0 := Lib.hid (S0.out.next hb)
    have S1 := Lib.hid (S1.out.next hb)
    have S2 := Lib.hid (S2.out.next hb)
    clear hb
    have hr0 := (S2.out.two 0 0).c0
    have hr1 := (S2.out.two 0 0).c1
    have hc0 := S2.out.c0; have hc1 := S2.out.c1; have hf0 := S2.out.f 0; have hf1 := S2.out.f 1
    have B3 := Lib.hid ((B.out.setCell (p := ⟨w.heap.size + 2, 0, none⟩) (by show w.heap.size ≤ w.heap.size + 2; omega) (.int .i64 0)).setCell (p := ⟨w.heap.size + 2, 1, none⟩) (by show w.heap.size ≤ w.heap.size + 2; omega) (.int .i64 0))
    go_wp2_with fail
    exact bodyPost_ret (v := .tuple #[.agg #[.int .i64 0, .int .i64 0], .bool false]) (by simp [results, Tryz.results20, go_sem, hr0, hr1]) rfl ⟨rfl, B3.out⟩
set_option maxRecDepth 10000 in
set_option maxHeartbeats 1600000 in
theorem smeet_any2 (x1 x2 y1 y2 : Int) (w : World) (hA : y1 ≤ x1) (hB : y2 < x2) : Calls Tryz.prog 20 #[.agg #[.int .i64 x1, .int .i64 x2], .agg #[.int .i64 y1, .int .i64 y2]] w fun e w' => e = .returned (.tuple #[.agg #[.int .i64 (meetS (x1, x2) (y1, y2)).1.1, .int .i64 (meetS (x1, x2) (y1, y2)).1.2], .bool (meetS (x1, x2) (y1, y2)).2]) ∧ Below w.heap.size w w' := by
  have HM : Hid (meetS (x1, x2) (y1, y2) = if chkS (x1, x2) = 0 ∧ chkS (y1, y2) = 0 ∧ max x1 y1 ≤ min x2 y2 then ((max x1 y1, min x2 y2), true) else ((0, 0), false)) := (rfl : meetS (x1, x2) (y1, y2) = meetS (x1, x2) (y1, y2))
  have HK : Hid (chkS (x1, x2) = 0 → chkS (y1, y2) = 0 → chkS (max x1 y1, min x2 y2) = if max x1 y1 ≤ min x2 y2 then 0 else 6) := fun h1 h2 => chk_meet h1 h2
  rw [show max x1 y1 = x1 by omega, show min x2 y2 = y2 by omega] at HM HK
  have CX := Lib.hid (fun w => scheck_any x1 x2 w)
  have CY := Lib.hid (fun w => scheck_any y1 y2 w)
  have CM := Lib.hid (fun w a b => scheck_any a b w)
  obtain ⟨cx, hcx⟩ : ∃ c, c = chkS (x1, x2) := ⟨_, rfl⟩
  obtain ⟨cy, hcy⟩ : ∃ c, c = chkS (y1, y2) := ⟨_, rfl⟩
  rw [← hcx] at HM CX
  rw [← hcy] at HM CY
  have Hx := Lib.hid hcx; have Hy := Lib.hid hcy
  clear hcx hcy
  have S0 : Hid (SB (((w.alloc (.cells #[.int .i64 x1, .int .i64 x2] 23)).alloc (.cells #[.int .i64 y1, .int .i64 y2] 23)).alloc (.cells #[.int .i64 0, .int .i64 0] 23)) w.heap.size x1 x2) := ((SB.new w x1 x2).next ((Below.refl _ _).alloc (Nat.le_refl _) _)).next ((Below.refl _ _).alloc (Nat.le_refl _) _)
  have S1 : Hid (SB (((w.alloc (.cells #[.int .i64 x1, .int .i64 x2] 23)).alloc (.cells #[.int .i64 y1, .int .i64 y2] 23)).alloc (.cells #[.int .i64 0, .int .i64 0] 23)) (w.heap.size + 1) y1 y2) := by
    have h := (SB.new (w.alloc (.cells #[.int .i64 x1, .int .i64 x2] 23)) y1 y2).next ((Below.refl _ _).alloc (Nat.le_refl _) (.cells #[.int .i64 0, .int .i64 0] 23))
    rw [show (w.alloc (.cells #[.int .i64 x1, .int .i64 x2] 23)).heap.size = w.heap.size + 1 from by simp] at h
    exact h
  have S2 : Hid (SB (((w.alloc (.cells #[.int .i64 x1, .int .i64 x2] 23)).alloc (.cells #[.int .i64 y1, .int .i64 y2] 23)).alloc (.cells #[.int .i64 0, .int .i64 0] 23)) (w.heap.size + 2) 0 0) := by
    have h := SB.new ((w.alloc (.cells #[.int .i64 x1, .int .i64 x2] 23)).alloc (.cells #[.int .i64 y1, .int .i64 y2] 23)) 0 0
    rw [show ((w.alloc (.cells #[.int .i64 x1, .int .i64 x2] 23)).alloc (.cells #[.int .i64 y1, .int .i64 y2] 23)).heap.size = w.heap.size + 2 from by simp] at h
    exact h
  have B : Hid (Below w.heap.size w (((w.alloc (.cells #[.int .i64 x1, .int .i64 x2] 23)).alloc (.cells #[.int .i64 y1, .int .i64 y2] 23)).alloc (.cells #[.int .i64 0, .int .i64 0] 23))) := (((Below.refl _ _).alloc (Nat.le_refl _) _).alloc (by simp) _).alloc (by simp; omega) _
  by_cases hx : cx = 0
  · subst hx
    have hx0 : ((0 : Int) != 0) = false := rfl
    by_cases hy : cy = 0
    · subst hy
      by_cases hm : x1 ≤ y2
      · have e : meetS (x1, x2) (y1, y2) = ((x1, y2), true) := by rw [HM.out]; exact if_pos ⟨rfl, rfl, hm⟩
        have hk : chkS (x1, y2) = 0 := by rw [HK.out Hx.out.symm Hy.out.symm]; exact if_pos hm
        have CK := Lib.hid (fun w => CM.out w x1 y2)
        rw [hk] at CK
        rw [e]
        have hm2 : x1 ≤ y2 := hm
        clear e hk hm HM HK CM Hx Hy
        go_enter Tryz.func20, Tryz.ntmps20
        go_wp2_with fail
        have s0a := S0.out.c0; have s0b := S0.out.c1
        refine (CX.out _).mono ?_
        rintro e w1 ⟨rfl, hb⟩
        have B := Lib.hid (below_both B.out hb)
        have S0 := Lib.hid (S0.out.next hb)
        have S1 := Lib.hid (S1.out.next hb)
        have S2 := Lib.hid (S2.out.next hb)
        clear hb
        clear s0a s0b
        have s1a := S1.out.c0; have s1b := S1.out.c1
        go_wp2_with fail
        clear s1a s1b
        refine (CY.out _).mono ?_
        rintro e w2 ⟨rfl, hb⟩
        have B := Lib.hid (below_both B.out hb)
        have S0 := Lib.hid (S0.out.next hb)
        have S1 := Lib.hid (S1.out.next hb)
        have S2 := Lib.hid (S2.out.next hb)
        clear hb
        have s0a := S0.out.c0; have s0b := S0.out.c1
        have s1a := S1.out.c0; have s1b := S1.out.c1
        go_wp2_with fail
        clear s0a s0b s1a s1b
        have hd := (Below.refl w2.heap.size w2).alloc (Nat.le_refl _) (.cells #[.int .i64 x1, .int .i64 y2] 23)
        have B := Lib.hid (below_both B.out hd)
        have S2 := Lib.hid (S2.out.next hd)
        have S3 := Lib.hid (SB.new w2 x1 y2)
        clear hd
        refine (CK.out _).mono ?_
        rintro e w3 ⟨rfl, hb⟩
        have B := Lib.hid (below_both B.out hb)
        have S2 := Lib.hid (S2.out.next hb)
        have S3 := Lib.hid (S3.out.next hb)
        clear hb
        have s3a := S3.out.c0; have s3b := S3.out.c1
        have hr0 := (S2.out.two x1 y2).c0
        have hr1 := (S2.out.two x1 y2).c1
        have hc0 := S2.out.c0; have hc1 := S2.out.c1; have hf0 := S2.out.f 0; have hf1 := S2.out.f 1
        have B3 := Lib.hid ((B.out.setCell (p := ⟨w.heap.size + 2, 0, none⟩) (by show w.heap.size ≤ w.heap.size + 2; omega) (.int .i64 x1)).setCell (p := ⟨w.heap.size + 2, 1, none⟩) (by show w.heap.size ≤ w.heap.size + 2; omega) (.int .i64 y2))
        go_wp2_with fail
        exact bodyPost_ret (v := .tuple #[.agg #[.int .i64 x1, .int .i64 y2], .bool true]) (by simp [results, Tryz.results20, go_sem, hr0, hr1]) rfl ⟨rfl, B3.out⟩
      · have e : meetS (x1, x2) (y1, y2) = ((0, 0), false) := by rw [HM.out]; exact if_neg (fun h => hm h.2.2)
        have hk : chkS (x1, y2) = 6 := by rw [HK.out Hx.out.symm Hy.out.symm]; exact if_neg hm
        have CK := Lib.hid (fun w => CM.out w x1 y2)
        rw [hk] at CK
        rw [e]
        have hm2 : y2 < x1 := Int.not_le.1 hm
        clear e hk hm HM HK CM Hx Hy
        go_enter Tryz.func20, Tryz.ntmps20
        go_wp2_with fail
        have s0a := S0.out.c0; have s0b := S0.out.c1
        refine (CX.out _).mono ?_
        rintro e w1 ⟨rfl, hb⟩
        have B := Lib.hid (below_both B.out hb)
        have S0 := Lib.hid (S0.out.next hb)
        have S1 := Lib.hid (S1.out.next hb)
        have S2 := Lib.hid (S2.out.next hb)
        clear hb
        clear s0a s0b
        have s1a := S1.out.c0; have s1b := S1.out.c1
        go_wp2_with fail
        clear s1a s1b
        refine (CY.out _).mono ?_
        rintro e w2 ⟨rfl, hb⟩
        have B := Lib.hid (below_both B.out hb)
        have S0 := Lib.hid (S0.out.next hb)
        have S1 := Lib.hid (S1.out.next hb)
        have S2 := Lib.hid (S2.out.next hb)
        clear hb
        have s0a := S0.out.c0; have s0b := S0.out.c1
        have s1a := S1.out.c0; have s1b := S1.out.c1
        go_wp2_with fail
        clear s0a s0b s1a s1b
        have hd := (Below.refl w2.heap.size w2).alloc (Nat.le_refl _) (.cells #[.int .i64 x1, .int .i64 y2] 23)
        have B := Lib.hid (below_both B.out hd)
        have S2 := Lib.hid (S2.out.next hd)
        have S3 := Lib.hid (SB.new w2 x1 y2)
        clear hd
        refine (CK.out _).mono ?_
        rintro e w3 ⟨rfl, hb⟩
        have B := Lib.hid (below_both B.out hb)
        have S2 := Lib.hid (S2.out.next hb)
        have S3 := Lib.hid (S3.out.next hb)
        clear hb
        have s3a := S3.out.c0; have s3b := S3.out.c1
        have hr0 := (S2.out.two 0 0).c0
        have hr1 := (S2.out.two 0 0).c1
        have hc0 := S2.out.c0; have hc1 := S2.out.c1; have hf0 := S2.out.f 0; have hf1 := S2.out.f 1
        have B3 := Lib.hid ((B.out.setCell (p := ⟨w.heap.size + 2, 0, none⟩) (by show w.heap.size ≤ w.heap.size + 2; omega) (.int .i64 0)).setCell (p := ⟨w.heap.size + 2, 1, none⟩) (by show w.heap.size ≤ w.heap.size + 2; omega) (.int .i64 0))
        go_wp2_with fail
        exact bodyPost_ret (v := .tuple #[.agg #[.int .i64 0, .int .i64 0], .bool false]) (by simp [results, Tryz.results20, go_sem, hr0, hr1]) rfl ⟨rfl, B3.out⟩
    · have e : meetS (x1, x2) (y1, y2) = ((0, 0), false) := by rw [HM.out]; exact if_neg (fun h => hy h.2.1)
      have hy0 : (cy != 0) = true := by rw [bne_iff_ne]; exact hy
      rw [e]
      clear e HM HK CM Hx Hy
      go_enter Tryz.func20, Tryz.ntmps20
      go_wp2_with fail
      have s0a := S0.out.c0; have s0b := S0.out.c1
      refine (CX.out _).mono ?_
      rintro e w1 ⟨rfl, hb⟩
      have B := Lib.hid (below_both B.out hb)
      have S0 := Lib.hid (S0.out.next hb)
      have S1 := Lib.hid (S1.out.next hb)
      have S2 := Lib.hid (S2.out.next hb)
      clear hb
      clear s0a s0b
      have s1a := S1.out.c0; have s1b := S1.out.c1
      go_wp2_with fail
      clear s1a s1b
      refine (CY.out _).mono ?_
      rintro e w2 ⟨rfl, hb⟩
      have B := Lib.hid (below_both B.out hb)
      have S0 := Lib.hid (S0.out.next hb)
      have S1 := Lib.hid (S1.out.next hb)
      have S2 := Lib.hid (S2.out.next hb)
      clear hb
      have hr0 := (S2.out.two 0 0).c0
      have hr1 := (S2.out.two 0 0).c1
      have hc0 := S2.out.c0; have hc1 := S2.out.c1; have hf0 := S2.out.f 0; have hf1 := S2.out.f 1
      have B3 := Lib.hid ((B.out.setCell (p := ⟨w.heap.size + 2, 0, none⟩) (by show w.heap.size ≤ w.heap.size + 2; omega) (.int .i64 0)).setCell (p := ⟨w.heap.size + 2, 1, none⟩) (by show w.heap.size ≤ w.heap.size + 2; omega) (.int .i64 0))
      go_wp2_with fail
      exact bodyPost_ret (v := .tuple #[.agg #[.int .i64 0, .int .i64 0], .bool false]) (by simp [results, Tryz.results20, go_sem, hr0, hr1]) rfl ⟨rfl, B3.out⟩
  · have e : meetS (x1, x2) (y1, y2) = ((0, 0), false) := by rw [HM.out]; exact if_neg (fun h => hx h.1)
    have hx0 : (cx != 0) = true := by rw [bne_iff_ne]; exact hx
    rw [e]
    clear e HM HK CM Hx Hy
    go_enter Tryz.func20, Tryz.ntmps20
    go_wp2_with fail
    have s0a := S0.out.c0; have s0b := S0.out.c1
    refine (CX.out _).mono ?_
    rintro e w1 ⟨rfl, hb⟩
    have B := Lib.hid (below_both B.out hb)
    have S0 := Lib.hid (S0.out.next hb)
    have S1 := Lib.hid (S1.out.next hb)
    have S2 := Lib.hid (S2.out.next hb)
    clear hb
    have hr0 := (S2.out.two 0 0).c0
    have hr1 := (S2.out.two 0 0).c1
    have hc0 := S2.out.c0; have hc1 := S2.out.c1; have hf0 := S2.out.f 0; have hf1 := S2.out.f 1
    have B3 := Lib.hid ((B.out.setCell (p := ⟨w.heap.size + 2, 0, none⟩) (by show w.heap.size ≤ w.heap.size + 2; omega) (.int .i64 0)).setCell (p := ⟨w.heap.size + 2, 1, none⟩) (by show w.heap.size ≤ w.heap.size + 2; omega) (.int .i64 0))
    go_wp2_with fail
    exact bodyPost_ret (v := .tuple #[.agg #[.int .i64 0, .int .i64 0], .bool false]) (by simp [results, Tryz.results20, go_sem, hr0, hr1]) rfl ⟨rfl, B3.out⟩
set_option maxRecDepth 10000 in
set_option maxHeartbeats 1600000 in
theorem smeet_any3 (x1 x2 y1 y2 : Int) (w : World) (hA : y1 ≤ x1) (hB : x2 ≤ y2) : Calls Tryz.prog 20 #[.agg #[.int .i64 x1, .int .i64 x2], .agg #[.int .i64 y1, .int .i64 y2]] w fun e w' => e = .returned (.tuple #[.agg #[.int .i64 (meetS (x1, x2) (y1, y2)).1.1, .int .i64 (meetS (x1, x2) (y1, y2)).1.2], .bool (meetS (x1, x2) (y1, y2)).2]) ∧ Below w.heap.size w w' := by
  have HM : Hid (meetS (x1, x2) (y1, y2) = if chkS (x1, x2) = 0 ∧ chkS (y1, y2) = 0 ∧ max x1 y1 ≤ min x2 y2 then ((max x1 y1, min x2 y2), true) else ((0, 0), false)) := (rfl : meetS (x1, x2) (y1, y2) = meetS (x1, x2) (y1, y2))
  have HK : Hid (chkS (x1, x2) = 0 → chkS (y1, y2) = 0 → chkS (max x1 y1, min x2 y2) = if max x1 y1 ≤ min x2 y2 then 0 else 6) := fun h1 h2 => chk_meet h1 h2
  rw [show max x1 y1 = x1 by omega, show min x2 y2 = x2 by omega] at HM HK
  have CX := Lib.hid (fun w => scheck_any x1 x2 w)
  have CY := Lib.hid (fun w => scheck_any y1 y2 w)
  have CM := Lib.hid (fun w a b => scheck_any a b w)
  obtain ⟨cx, hcx⟩ : ∃ c, c = chkS (x1, x2) := ⟨_, rfl⟩
  obtain ⟨cy, hcy⟩ : ∃ c, c = chkS (y1, y2) := ⟨_, rfl⟩
  rw [← hcx] at HM CX
  rw [← hcy] at HM CY
  have Hx := Lib.hid hcx; have Hy := Lib.hid hcy
  clear hcx hcy
  have S0 : Hid (SB (((w.alloc (.cells #[.int .i64 x1, .int .i64 x2] 23)).alloc (.cells #[.int .i64 y1, .int .i64 y2] 23)).alloc (.cells #[.int .i64 0, .int .i64 0] 23)) w.heap.size x1 x2) := ((SB.new w x1 x2).next ((Below.refl _ _).alloc (Nat.le_refl _) _)).next ((Below.refl _ _).alloc (Nat.le_refl _) _)
  have S1 : Hid (SB (((w.alloc (.cells #[.int .i64 x1, .int .i64 x2] 23)).alloc (.cells #[.int .i64 y1, .int .i64 y2] 23)).alloc (.cells #[.int .i64 0, .int .i64 0] 23)) (w.heap.size + 1) y1 y2) := by
    have h := (SB.new (w.alloc (.cells #[.int .i64 x1, .int .i64 x2] 23)) y1 y2).next ((Below.refl _ _).alloc (Nat.le_refl _) (.cells #[.int .i64 0, .int .i64 0] 23))
    rw [show (w.alloc (.cells #[.int .i64 x1, .int .i64 x2] 23)).heap.size = w.heap.size + 1 from by simp] at h
    exact h
  have S2 : Hid (SB (((w.alloc (.cells #[.int .i64 x1, .int .i64 x2] 23)).alloc (.cells #[.int .i64 y1, .int .i64 y2] 23)).alloc (.cells #[.int .i64 0, .int .i64 0] 23)) (w.heap.size + 2) 0 0) := by
    have h := SB.new ((w.alloc (.cells #[.int .i64 x1, .int .i64 x2] 23)).alloc (.cells #[.int .i64 y1, .int .i64 y2] 23)) 0 0
    rw [show ((w.alloc (.cells #[.int .i64 x1, .int .i64 x2] 23)).alloc (.cells #[.int .i64 y1, .int .i64 y2] 23)).heap.size = w.heap.size + 2 from by simp] at h
    exact h
  have B : Hid (Below w.heap.size w (((w.alloc (.cells #[.int .i64 x1, .int .i64 x2] 23)).alloc (.cells #[.int .i64 y1, .int .i64 y2] 23)).alloc (.cells #[.int .i64 0, .int .i64 0] 23))) := (((Below.refl _ _).alloc (Nat.le_refl _) _).alloc (by simp) _).alloc (by simp; omega) _
  by_cases hx : cx = 0
  · subst hx
    have hx0 : ((0 : Int) != 0) = false := rfl
    by_cases hy : cy = 0
    · subst hy
      by_cases hm : x1 ≤ x2
      · have e : meetS (x1, x2) (y1, y2) = ((x1, x2), true) := by rw [HM.out]; exact if_pos ⟨rfl, rfl, hm⟩
        have hk : chkS (x1, x2) = 0 := by rw [HK.out Hx.out.symm Hy.out.symm]; exact if_pos hm
        have CK := Lib.hid (fun w => CM.out w x1 x2)
        rw [hk] at CK
        rw [e]
        have hm2 : x1 ≤ x2 := hm
        clear e hk hm HM HK CM Hx Hy
        go_enter Tryz.func20, Tryz.ntmps20
        go_wp2_with fail
        have s0a := S0.out.c0; have s0b := S0.out.c1
        refine (CX.out _).mono ?_
        rintro e w1 ⟨rfl, hb⟩
        have B := Lib.hid (below_both B.out hb)
        have S0 := Lib.hid (S0.out.next hb)
        have S1 := Lib.hid (S1.out.next hb)
        have S2 := Lib.hid (S2.out.next hb)
        clear hb
        clear s0a s0b
        have s1a := S1.out.c0; have s1b := S1.out.c1
        go_wp2_with fail
        clear s1a s1b
        refine (CY.out _).mono ?_
        rintro e w2 ⟨rfl, hb⟩
        have B := Lib.hid (below_both B.out hb)
        have S0 := Lib.hid (S0.out.next hb)
        have S1 := Lib.hid (S1.out.next hb)
        have S2 := Lib.hid (S2.out.next hb)
        clear hb
        have s0a := S0.out.c0; have s0b := S0.out.c1
        have s1a := S1.out.c0; have s1b := S1.out.c1
        go_wp2_with fail
        clear s0a s0b s1a s1b
        have hd := (Below.refl w2.heap.size w2).alloc (Nat.le_refl _) (.cells #[.int .i64 x1, .int .i64 x2] 23)
        have B := Lib.hid (below_both B.out hd)
        have S2 := Lib.hid (S2.out.next hd)
        have S3 := Lib.hid (SB.new w2 x1 x2)
        clear hd
        refine (CK.out _).mono ?_
        rintro e w3 ⟨rfl, hb⟩
        have B := Lib.hid (below_both B.out hb)
        have S2 := Lib.hid (S2.out.next hb)
        have S3 := Lib.hid (S3.out.next hb)
        clear hb
        have s3a := S3.out.c0; have s3b := S3.out.c1
        have hr0 := (S2.out.two x1 x2).c0
        have hr1 := (S2.out.two x1 x2).c1
        have hc0 := S2.out.c0; have hc1 := S2.out.c1; have hf0 := S2.out.f 0; have hf1 := S2.out.f 1
        have B3 := Lib.hid ((B.out.setCell (p := ⟨w.heap.size + 2, 0, none⟩) (by show w.heap.size ≤ w.heap.size + 2; omega) (.int .i64 x1)).setCell (p := ⟨w.heap.size + 2, 1, none⟩) (by show w.heap.size ≤ w.heap.size + 2; omega) (.int .i64 x2))
        go_wp2_with fail
        exact bodyPost_ret (v := .tuple #[.agg #[.int .i64 x1, .int .i64 x2], .bool true]) (by simp [results, Tryz.results20, go_sem, hr0, hr1]) rfl ⟨rfl, B3.out⟩
      · have e : meetS (x1, x2) (y1, y2) = ((0, 0), false) := by rw [HM.out]; exact if_neg (fun h => hm h.2.2)
        have hk : chkS (x1, x2) = 6 := by rw [HK.out Hx.out.symm Hy.out.symm]; exact if_neg hm
        have CK := Lib.hid (fun w => CM.out w x1 x2)
        rw [hk] at CK
        rw [e]
        have hm2 : x2 < x1 := Int.not_le.1 hm
        clear e hk hm HM HK CM Hx Hy
        go_enter Tryz.func20, Tryz.ntmps20
        go_wp2_with fail
        have s0a := S0.out.c0; have s0b := S0.out.c1
        refine (CX.out _).mono ?_
        rintro e w1 ⟨rfl, hb⟩
        have B := Lib.hid (below_both B.out hb)
        have S0 := Lib.hid (S0.out.next hb)
        have S1 := Lib.hid (S1.out.next hb)
        have S2 := Lib.hid (S2.out.next hb)
        clear hb
        clear s0a s0b
        have s1a := S1.out.c0; have s1b := S1.out.c1
        go_wp2_with fail
        clear s1a s1b
        refine (CY.out _).mono ?_
        rintro e w2 ⟨rfl, hb⟩
        have B := Lib.hid (below_both B.out hb)
        have S0 := Lib.hid (S0.out.next hb)
        have S1 := Lib.hid (S1.out.next hb)
        have S2 := Lib.hid (S2.out.next hb)
        clear hb
        have s0a := S0.out.c0; have s0b := S0.out.c1
        have s1a := S1.out.c0; have s1b := S1.out.c1
        go_wp2_with fail
        clear s0a s0b s1a s1b
        have hd := (Below.refl w2.heap.size w2).alloc (Nat.le_refl _) (.cells #[.int .i64 x1, .int .i64 x2] 23)
        have B := Lib.hid (below_both B.out hd)
        have S2 := Lib.hid (S2.out.next hd)
        have S3 := Lib.hid (SB.new w2 x1 x2)
        clear hd
        refine (CK.out _).mono ?_
        rintro e w3 ⟨rfl, hb⟩
        have B := Lib.hid (below_both B.out hb)
        have S2 := Lib.hid (S2.out.next hb)
        have S3 := Lib.hid (S3.out.next hb)
        clear hb
        have s3a := S3.out.c0; have s3b := S3.out.c1
        have hr0 := (S2.out.two 0 0).c0
        have hr1 := (S2.out.two 0 0).c1
        have hc0 := S2.out.c0; have hc1 := S2.out.c1; have hf0 := S2.out.f 0; have hf1 := S2.out.f 1
        have B3 := Lib.hid ((B.out.setCell (p := ⟨w.heap.size + 2, 0, none⟩) (by show w.heap.size ≤ w.heap.size + 2; omega) (.int .i64 0)).setCell (p := ⟨w.heap.size + 2, 1, none⟩) (by show w.heap.size ≤ w.heap.size + 2; omega) (.int .i64 0))
        go_wp2_with fail
        exact bodyPost_ret (v := .tuple #[.agg #[.int .i64 0, .int .i64 0], .bool false]) (by simp [results, Tryz.results20, go_sem, hr0, hr1]) rfl ⟨rfl, B3.out⟩
    · have e : meetS (x1, x2) (y1, y2) = ((0, 0), false) := by rw [HM.out]; exact if_neg (fun h => hy h.2.1)
      have hy0 : (cy != 0) = true := by rw [bne_iff_ne]; exact hy
      rw [e]
      clear e HM HK CM Hx Hy
      go_enter Tryz.func20, Tryz.ntmps20
      go_wp2_with fail
      have s0a := S0.out.c0; have s0b := S0.out.c1
      refine (CX.out _).mono ?_
      rintro e w1 ⟨rfl, hb⟩
      have B := Lib.hid (below_both B.out hb)
      have S0 := Lib.hid (S0.out.next hb)
      have S1 := Lib.hid (S1.out.next hb)
      have S2 := Lib.hid (S2.out.next hb)
      clear hb
      clear s0a s0b
      have s1a := S1.out.c0; have s1b := S1.out.c1
      go_wp2_with fail
      clear s1a s1b
      refine (CY.out _).mono ?_
      rintro e w2 ⟨rfl, hb⟩
      have B := Lib.hid (below_both B.out hb)
      have S0 := Lib.hid (S0.out.next hb)
      have S1 := Lib.hid (S1.out.next hb)
      have S2 := Lib.hid (S2.out.next hb)
      clear hb
      have hr0 := (S2.out.two 0 0).c0
      have hr1 := (S2.out.two 0 0).c1
      have hc0 := S2.out.c0; have hc1 := S2.out.c1; have hf0 := S2.out.f 0; have hf1 := S2.out.f 1
      have B3 := Lib.hid ((B.out.setCell (p := ⟨w.heap.size + 2, 0, none⟩) (by show w.heap.size ≤ w.heap.size + 2; omega) (.int .i64 0)).setCell (p := ⟨w.heap.size + 2, 1, none⟩) (by show w.heap.size ≤ w.heap.size + 2; omega) (.int .i64 0))
      go_wp2_with fail
      exact bodyPost_ret (v := .tuple #[.agg #[.int .i64 0, .int .i64 0], .bool false]) (by simp [results, Tryz.results20, go_sem, hr0, hr1]) rfl ⟨rfl, B3.out⟩
  · have e : meetS (x1, x2) (y1, y2) = ((0, 0), false) := by rw [HM.out]; exact if_neg (fun h => hx h.1)
    have hx0 : (cx != 0) = true := by rw [bne_iff_ne]; exact hx
    rw [e]
    clear e HM HK CM Hx Hy
    go_enter Tryz.func20, Tryz.ntmps20
    go_wp2_with fail
    have s0a := S0.out.c0; have s0b := S0.out.c1
    refine (CX.out _).mono ?_
    rintro e w1 ⟨rfl, hb⟩
    have B := Lib.hid (below_both B.out hb)
    have S0 := Lib.hid (S0.out.next hb)
    have S1 := Lib.hid (S1.out.next hb)
    have S2 := Lib.hid (S2.out.next hb)
    clear hb
    have hr0 := (S2.out.two 0 0).c0
    have hr1 := (S2.out.two 0 0).c1
    have hc0 := S2.out.c0; have hc1 := S2.out.c1; have hf0 := S2.out.f 0; have hf1 := S2.out.f 1
    have B3 := Lib.hid ((B.out.setCell (p := ⟨w.heap.size + 2, 0, none⟩) (by show w.heap.size ≤ w.heap.size + 2; omega) (.int .i64 0)).setCell (p := ⟨w.heap.size + 2, 1, none⟩) (by show w.heap.size ≤ w.heap.size + 2; omega) (.int .i64 0))
    go_wp2_with fail
    exact bodyPost_ret (v := .tuple #[.agg #[.int .i64 0, .int .i64 0], .bool false]) (by simp [results, Tryz.results20, go_sem, hr0, hr1]) rfl ⟨rfl, B3.out⟩
theorem smeet_any (x1 x2 y1 y2 : Int) (w : World) : Calls Tryz.prog 20 #[.agg #[.int .i64 x1, .int .i64 x2], .agg #[.int .i64 y1, .int .i64 y2]] w fun e w' => e = .returned (.tuple #[.agg #[.int .i64 (meetS (x1, x2) (y1, y2)).1.1, .int .i64 (meetS (x1, x2) (y1, y2)).1.2], .bool (meetS (x1, x2) (y1, y2)).2]) ∧ Below w.heap.size w w' := by
  rcases Int.lt_or_le x1 y1 with hA | hA
  · rcases Int.lt_or_le y2 x2 with hB | hB
    · exact smeet_any0 x1 x2 y1 y2 w hA hB
    · exact smeet_any1 x1 x2 y1 y2 w hA hB
  · rcases Int.lt_or_le y2 x2 with hB | hB
    · exact smeet_any2 x1 x2 y1 y2 w hA hB
    · exact smeet_any3 x1 x2 y1 y2 w hA hB
end Go.Proofs.YtpalnlbdfmiadaaGreatDoor
