/-
  The walk of the statement WholeService.
-/
import Derived.Test.YtnofalgcpgheoaaDoorFh6
import Derived.Test.YtnofalgcpgheoaaDoorPt3
namespace Go.Proofs.YtnofalgcpgheoaaDoor
open Go.RowKit
set_option linter.unusedVariables false

theorem svc_mod {t : Nat} (h : t < 256) : (t : Int) % 256 = (t : Int) := by omega
theorem svc_wrap {t : Nat} (h : t < 256) : wrap64 (t : Int) = (t : Int) := by unfold wrap64; omega
theorem svc_not {n : Nat} (h : 20 ≤ n) : ¬ (n : Int) < 20 := by omega
theorem svc_one {n : Nat} (h : 20 ≤ n) : (1 : Int) < (n : Int) := by omega
theorem svc_lt {d t j : Nat} (h : d < 64) (hj : j = 4 * d + t % 4) : j < 256 := by omega
theorem svc_join {d t j : Nat} (h : d < 64) (hj : j = 4 * d + t % 4) : ptJoin d ((t % 4 : Nat) : Int) = .tuple #[.int .u8 (j : Nat), .int .i64 0] := by
  unfold ptJoin
  rw [if_pos (by omega), if_pos (by omega), hj]
  rfl
theorem out_row {B g n c : Nat} {w : World} {bs : List Nat} (h : OutIs B w (.slice (some ⟨g, 0, none⟩) n c) bs) (hb : ∀ x ∈ bs, x < 256) : Row w (some ⟨g, 0, none⟩) n bs ∧ n ≤ c := by
  obtain ⟨A, c', e, h1, _, h3⟩ := h.out hb
  cases e
  exact ⟨h3, h1⟩
theorem svc_put {n j : Nat} {bs : List Nat} (hl : bs.length = n) (h : fhdef n bs = 0) (hn : 20 ≤ n) : fhdef n (bs.set 1 j) = 0 ∧ (bs.set 1 j).getD 0 0 = bs.getD 0 0 := by
  have e : (bs.set 1 j).getD 0 0 = bs.getD 0 0 := by rw [fhput_getD _ _ _ (by omega), if_neg (by decide)]
  refine ⟨?_, e⟩
  unfold fhdef at h ⊢
  rw [e]
  exact h
theorem svc_m {n : Nat} {bs : List Nat} (h : fhdef n bs = 0) : 20 ≤ 4 * (bs.getD 0 0 % 16) ∧ 4 * (bs.getD 0 0 % 16) ≤ n := by
  unfold fhdef at h
  (repeat' split at h) <;> first | omega | cases h
theorem svc_set {bs : List Nat} {j : Nat} (hb : ∀ x ∈ bs, x < 256) (hj : j < 256) : ∀ x ∈ bs.set 1 j, x < 256 := fun x hx => by
  rcases List.mem_or_eq_of_mem_set hx with h | h
  · exact hb x h
  · omega
theorem svc_len {n : Nat} {bs : List Nat} (h : fhdef n bs = 0) : 20 ≤ n := by
  unfold fhdef at h
  (repeat' split at h) <;> first | omega | cases h
set_option maxRecDepth 10000 in
set_option maxHeartbeats 6400000 in
theorem walk_WholeService (A : Option Addr) (n c : Nat) (bs : List Nat) (x : Nat) (w : World) (hT : Pow w) (hR : Row w A n bs) (hc : n ≤ c) (hn : c ≤ 140737488351232) (hx : x ≤ 255) :
    Calls Tryd.prog 3 #[.slice A n c, .int .u8 x] w fun e w' => e = .returned (.bool true) ∧ Below w.heap.size w w' := by
  have HT := Lib.hid hT
  have HR := Lib.hid hR
  obtain ⟨d, hd⟩ : ∃ d, d = x % 64 := ⟨_, rfl⟩
  have e1 : (x : Int) % 64 = (d : Int) := by omega
  have e3 : wrap64 (d : Int) = (d : Int) := by unfold wrap64; omega
  have hd6 : d < 64 := by omega
  clear hd
  have C46 := Lib.hid (fun w hT => l9_n46 w hT)
  have CN := Lib.hid (fun w hT => ptname_any (d : Int) w (by omega) (by omega) hT)
  have CB : Hid (∀ w, Pow w → Calls Tryd.prog 6 #[.string (ptName (d : Int))] w fun e w' => e = .returned (.tuple #[.int .i64 d, .int .i64 0]) ∧ Below w.heap.size w w') := fun w hT => by
    refine (ptparse_any (ptName (d : Int)) w hT).mono ?_
    rintro e w' ⟨he, hb⟩
    rw [ptName_list, ptParse_name hd6] at he
    exact ⟨he, hb⟩
  generalize ptName (d : Int) = sd at *
  have CR := Lib.hid (fun w hR => fhread_any A n c bs w (by omega) hc hR)
  unfold ReadIs at CR
  obtain ⟨X, hX⟩ : ∃ X, X = fhval n bs := ⟨_, rfl⟩
  have hXl : X.length = 17 := by rw [hX]; exact fhval_len n bs
  have hXo : ∀ v ∈ X, v.oneCell' = true := by rw [hX]; exact fhval_one n bs
  rw [← hX] at CR
  have hd6 := Lib.hid hd6
  by_cases h0 : fhdef n bs ≠ 0
  · have CA := Lib.hid (fun w hR => fhall_bad A n c bs w (by omega) hc hR h0)
    obtain ⟨f, hf⟩ : ∃ f, f = fhdef n bs := ⟨_, rfl⟩
    rw [← hf] at CR CA h0
    have f0 : ((f : Int) == 0) = false := by simp; omega
    clear hX hf hR hT h0 hx hc hn
    go_enter Tryd.func3, Tryd.ntmps3
    go_wp2_with fail
    refine (C46.out _ HT.out).mono ?_
    rintro e w1 ⟨rfl, hb⟩
    have B1 := Lib.hid hb
    clear hb
    go_wp2_with fail
    refine (CR.out _ (HR.out.below B1.out)).mono ?_
    rintro e w2 ⟨rfl, b2⟩
    obtain ⟨hst, hA, hb⟩ := four_stored w2 X hXl hXo
    have B2 := Lib.hid (below_both (below_both B1.out b2) hb)
    clear b2 hA hb
    go_upto_region 4 with fail
    clear hst
    obtain ⟨W, eW⟩ : ∃ W, W = (w2.alloc (.cells #[.int .i64 0, .int .i64 0, .int .i64 0, .int .i64 0, .int .i64 0, .int .i64 0, .int .i64 0, .int .i64 0, .int .i64 0, .int .u8 0, .int .u8 0, .int .u8 0, .int .u8 0, .int .u8 0, .int .u8 0, .int .u8 0, .int .u8 0] 26)).setCells w2.heap.size 0 X := ⟨_, rfl⟩
    rw [← eW] at B2 ⊢
    clear eW
    go_wp2_with fail
    refine (CN.out _ (HT.out.below B2.out)).mono ?_
    rintro e w3 ⟨rfl, hb⟩
    have B3 := Lib.hid (below_both B2.out hb)
    clear hb
    go_wp2_with fail
    refine (CB.out _ (HT.out.below B3.out)).mono ?_
    rintro e w4 ⟨rfl, hb⟩
    have B4 := Lib.hid (below_both B3.out hb)
    clear hb
    go_wp2_with fail
    refine (CA.out _ (HR.out.below B4.out)).mono ?_
    rintro e w5 ⟨g, rfl, _, hb⟩
    have B5 := Lib.hid (below_both B4.out hb)
    clear hb
    go_wp2_with fail
    go_ret
    exact ⟨rfl, B5.out⟩
  have h0 : fhdef n bs = 0 := Decidable.of_not_not h0
  have n20 : 20 ≤ n := svc_len h0
  obtain ⟨t, ht⟩ : ∃ t, t = bs.getD 1 0 := ⟨_, rfl⟩
  have t8 : t < 256 := by rw [ht]; exact hR.byte 1
  have hXf : X = fhf bs := by rw [hX]; unfold fhval; rw [if_pos h0]
  have X1 : X[1]? = some (.int .i64 (t : Nat)) := by rw [hXf, ht]; rfl
  obtain ⟨j, hj⟩ : ∃ j, j = 4 * d + t % 4 := ⟨_, rfl⟩
  have j8 : j < 256 := svc_lt hd6.out hj
  have HN : Hid (([] : List Nat).length + n ≤ 140737488355328) := by show 0 + n ≤ _; omega
  have CS := Lib.hid (fun w => ptsplit_any t w (Nat.le_of_lt_succ t8))
  have CJ : Hid (∀ w, Calls Tryd.prog 9 #[.int .i64 d, .int .i64 (t % 4 : Nat)] w fun e w' => e = .returned (.tuple #[.int .u8 (j : Nat), .int .i64 0]) ∧ w = w') := fun w => by
    refine (ptjoin_any d ((t % 4 : Nat) : Int) w).mono ?_
    rintro e w' ⟨he, hb⟩
    rw [svc_join hd6.out hj] at he
    exact ⟨he, hb⟩
  obtain ⟨u, hu⟩ : ∃ u, u = t / 4 := ⟨_, rfl⟩
  obtain ⟨y, hy⟩ : ∃ y, y = t % 4 := ⟨_, rfl⟩
  rw [← hu, ← hy] at CS
  rw [← hy] at CJ
  have tw := svc_wrap t8
  have t256 := svc_mod t8
  have nI := svc_not n20
  rw [h0] at CR
  have hm := svc_m h0
  have hput := svc_put (j := j) hR.1 h0 n20
  obtain ⟨S, hS⟩ : ∃ S, S = fhseal (bs.set 1 j) (4 * (bs.getD 0 0 % 16)) := ⟨_, rfl⟩
  have hSe : Sealed n (4 * (bs.getD 0 0 % 16)) bs j S := by rw [hS]; exact sealed_is hR.1 hR.2.1 hm.1 hm.2 j8
  have HSB := Lib.hid hSe.byte
  have HSL : Hid (S.length = n) := hSe.len
  have HPB := Lib.hid (svc_set hR.2.1 j8)
  have CL : Hid (∀ g c w, n ≤ c → Row w (some ⟨g, 0, none⟩) n (bs.set 1 j) → Calls Tryd.prog 10 #[.slice (some ⟨g, 0, none⟩) n c] w (SealIs w S)) := fun g c w h1 h2 => by
    have h := fhseal_ok (some ⟨g, 0, none⟩) n c (bs.set 1 j) w (by omega) h1 h2 hput.1
    rw [hput.2, ← hS] at h
    exact h
  obtain ⟨Y, hY⟩ : ∃ Y, Y = fhf S := ⟨_, rfl⟩
  have CZ : Hid (∀ A c w, n ≤ c → Row w A n S → Calls Tryd.prog 5 #[.slice A n c] w fun e w' => e = .returned (.tuple #[.agg Y.toArray, .int .i64 0]) ∧ Below w.heap.size w w') := fun A c w h1 h2 => by
    have h := fhread_any A n c S w (by omega) h1 h2
    unfold ReadIs at h
    have e0 : fhdef n S = 0 := hSe.def.trans h0
    have e1 : fhval n S = Y := by rw [hY]; unfold fhval; rw [if_pos e0]
    rw [e0, e1] at h
    exact h
  have hYl : Y.length = 17 := by rw [hY]; rfl
  have hYo : ∀ v ∈ Y, v.oneCell' = true := by rw [hY]; exact fhf_one S
  obtain ⟨q, hq⟩ : ∃ q, q = fhw S 10 := ⟨_, rfl⟩
  obtain ⟨p, hp⟩ : ∃ p, p = fhw bs 10 := ⟨_, rfl⟩
  have Y1 : Hid (Y[1]? = some (.int .i64 (j : Nat))) := by show _ = _; rw [hY, hSe.fields]; rfl
  have Y8 : Hid (Y[8]? = some (.int .i64 (q : Nat))) := by show _ = _; rw [hY, hSe.fields, hq]; rfl
  have X8 : Hid (X[8]? = some (.int .i64 (p : Nat))) := by show _ = _; rw [hXf, hp]; rfl
  have YX : Hid ((Y.set 1 (.int .i64 (t : Nat))).set 8 (.int .i64 (p : Nat)) = X) := by show _ = _; rw [hXf, hY, hp, ht]; exact hSe.back
  have hqX : Hid (∀ w, (Op.equalIn 10000 26 (.agg X.toArray) (.agg X.toArray)).run Tryd.prog w = .ok true w) := fun w => by rw [hXf]; exact four_same hR.byte w
  have X1h := Lib.hid X1
  have jw : wrap64 (j : Int) = (j : Int) := svc_wrap j8
  have n1 : (1 : Int) < (n : Int) := svc_one n20
  have nlt : 1 < n := by omega
  have n0h : Hid (0 < bs.length) := by show 0 < bs.length; rw [hR.1]; omega
  clear hS hSe hY hm hput hq hp
  clear hX hR hT h0 hx hc hn hXf ht hj hu hy t8 j8 n20
  go_enter Tryd.func3, Tryd.ntmps3
  go_wp2_with fail
  refine (C46.out _ HT.out).mono ?_
  rintro e w1 ⟨rfl, hb⟩
  have B1 := Lib.hid hb
  clear hb
  go_wp2_with fail
  refine (CR.out _ (HR.out.below B1.out)).mono ?_
  rintro e w2 ⟨rfl, b2⟩
  obtain ⟨hst, hA, hb⟩ := four_stored w2 X hXl hXo
  have HA := Lib.hid hA
  have B2w : Hid (w.heap.size ≤ w2.heap.size) := (below_both B1.out b2).size
  have B2 := Lib.hid (below_both (below_both B1.out b2) hb)
  clear b2 hA hb
  go_upto_region 4 with fail
  clear hst
  obtain ⟨W, eW⟩ : ∃ W, W = (w2.alloc (.cells #[.int .i64 0, .int .i64 0, .int .i64 0, .int .i64 0, .int .i64 0, .int .i64 0, .int .i64 0, .int .i64 0, .int .i64 0, .int .u8 0, .int .u8 0, .int .u8 0, .int .u8 0, .int .u8 0, .int .u8 0, .int .u8 0, .int .u8 0] 26)).setCells w2.heap.size 0 X := ⟨_, rfl⟩
  rw [← eW] at B2 HA ⊢
  clear eW
  go_wp2_with fail
  refine (CN.out _ (HT.out.below B2.out)).mono ?_
  rintro e w3 ⟨rfl, hb⟩
  have B3 := Lib.hid (below_both B2.out hb)
  have HA3 := Lib.hid (HA.out.below hb)
  clear hb
  go_wp2_with fail
  refine (CB.out _ (HT.out.below B3.out)).mono ?_
  rintro e w4 ⟨rfl, hb⟩
  have B4 := Lib.hid (below_both B3.out hb)
  have HA4 := Lib.hid (HA3.out.below hb)
  clear hb
  have X1 := (HA4.out.get 1).trans X1
  go_wp2_with fail
  refine (CS.out _).mono ?_
  rintro e w' ⟨rfl, rfl⟩
  go_wp2_with fail
  refine (CJ.out _).mono ?_
  rintro e w' ⟨rfl, rfl⟩
  clear X1
  have O0 : Hid (OutIs w4.heap.size (w4.alloc (.cells #[] 5)) (.slice (some ⟨w4.heap.size, 0, none⟩) 0 0) []) := OutIs.laid w4 [] w4.heap.size (Nat.le_refl _) (by decide)
  have B5 : Hid (Below w4.heap.size w4 (w4.alloc (.cells #[] 5))) := (Below.refl _ _).alloc (Nat.le_refl _) _
  have R5 := Lib.hid ((HR.out.below B4.out).below B5.out)
  go_wp2_with (at_builtin; refine wpList_append_row_any (B := w4.heap.size) (W := w4) rfl (.tmp 72) (.tmp 73) rfl rfl rfl rfl O0.out R5.out B5.out B5.out.size HN.out ?_; intro v6 w6 ho6 hb6; rw [List.nil_append] at ho6; obtain ⟨g6, c6, rfl, hg6, hc6, hm6⟩ := ho6.block n0h.out; rw [HR.out.1] at ho6 hc6 ⊢; have hg6 := Lib.hid hg6; have hc6 := Lib.hid hc6; have O6 := Lib.hid ho6; have B6 := Lib.hid hb6; have s6 := ho6.cell HR.out.1 1 nlt; have f6 := ho6.frozen HR.out.1 1; clear ho6 hb6 hm6)
  all_goals
    have O7 := Lib.hid (O6.out.set HR.out.1 1 j)
    have R7 := Lib.hid (out_row O7.out HPB.out)
    have A6 := HA4.out.below B6.out
    have A7 := Lib.hid (A6.other ⟨g6, 1, none⟩ (.int .u8 (j : Nat)) (by have h1 := HA4.out.lt; have h2 := hg6.out; show g6 ≠ w2.heap.size; omega))
    have B7 := Lib.hid ((below_both B4.out B6.out).setCell (p := ⟨g6, 1, none⟩) (Nat.le_trans B4.out.size hg6.out) (.int .u8 (j : Nat)))
    clear A6 s6 f6
    refine (CL.out g6 c6 _ hc6.out R7.out.1).mono ?_
    rintro e w8 ⟨v8, rfl, o8, b8⟩
    have A8 := Lib.hid (A7.out.below b8)
    have B8 := Lib.hid (below_both B7.out b8)
    obtain ⟨a8, c8, rfl, hc8, _, r8⟩ := o8.out HSB.out
    rw [HSL.out] at hc8 r8 ⊢
    have R8 := Lib.hid r8
    have hc8 := Lib.hid hc8
    clear b8 o8 r8 A7 B7 R7 O7
    go_wp2_with fail
    refine (CZ.out a8 c8 _ hc8.out R8.out).mono ?_
    rintro e w9 ⟨rfl, b9⟩
    obtain ⟨hst, hA, hb⟩ := four_stored w9 Y hYl hYo
    have A9 := Lib.hid ((A8.out.below b9).below hb)
    have Z9 := Lib.hid hA
    have B9 := Lib.hid (below_both (below_both B8.out b9) hb)
    have L9 : Hid (w2.heap.size < w9.heap.size) := (A8.out.below b9).lt
    have M9 : Hid (w.heap.size ≤ w9.heap.size) := (below_both B8.out b9).size
    have M2 : Hid (w.heap.size ≤ w2.heap.size) := B2w.out
    clear b9 hA hb A8 B8
    go_upto_region 18 with fail
    clear hst
    obtain ⟨V, eV⟩ : ∃ V, V = (w9.alloc (.cells #[.int .i64 0, .int .i64 0, .int .i64 0, .int .i64 0, .int .i64 0, .int .i64 0, .int .i64 0, .int .i64 0, .int .i64 0, .int .u8 0, .int .u8 0, .int .u8 0, .int .u8 0, .int .u8 0, .int .u8 0, .int .u8 0, .int .u8 0] 26)).setCells w9.heap.size 0 Y := ⟨_, rfl⟩
    rw [← eV] at A9 Z9 B9 ⊢
    clear eV
    generalize w9.heap.size = gz at *
    generalize w2.heap.size = gf at *
    have z1 := (Z9.out.get 1).trans Y1.out
    have z8 := (Z9.out.get 8).trans Y8.out
    have x1 := (A9.out.get 1).trans X1h.out
    have x8 := (A9.out.get 8).trans X8.out
    have y1 := Z9.out.frozen 1
    have y8 := Z9.out.frozen 8
    go_quiet (fail)
    go_wp2_with fail
    go_region
    all_goals
      have hne : gf ≠ gz := Nat.ne_of_lt L9.out
      obtain ⟨U, eU⟩ : ∃ U, U = (((V.drewN (nq + 1)).setCell ⟨gz, 1, none⟩ (.int .i64 (t : Nat))).setCell ⟨gz, 8, none⟩ (.int .i64 (p : Nat))) := ⟨_, rfl⟩
      have ZF : Hid (ArrV 26 U gz X) := by
        show ArrV _ _ _ _
        have h := ((show ArrV _ (V.drewN (nq + 1)) gz Y from Z9.out).set 1 (.int .i64 (t : Nat))).set 8 (.int .i64 (p : Nat))
        rw [YX.out, ← eU] at h
        exact h
      have AF : Hid (ArrV 26 U gf X) := by
        show ArrV _ _ _ _
        have h := ((show ArrV _ (V.drewN (nq + 1)) gf X from A9.out).other ⟨gz, 1, none⟩ (.int .i64 (t : Nat)) (Ne.symm hne)).other ⟨gz, 8, none⟩ (.int .i64 (p : Nat)) (Ne.symm hne)
        rw [← eU] at h
        exact h
      have BF : Hid (Below w.heap.size w U) := by
        show Below _ _ _
        have h := ((below_drewN' B9.out (nq + 1)).setCell (p := ⟨gz, 1, none⟩) M9.out (.int .i64 (t : Nat))).setCell (p := ⟨gz, 8, none⟩) M9.out (.int .i64 (p : Nat))
        rw [← eU] at h
        exact h
      rw [← eU]
      clear eU z1 z8 x1 x8 y1 y8 hne Z9 A9 B9
      have hq := hqX.out
      have q0 : (0 : Int) ≤ (q : Int) := by omega
      go_upto_region 20 with fail
      refine wp_region_lit ?_
      have jb : ((j : Int) == (j : Int)) = true := by simp
      go_wp2_with (first | refine wpList_load_vg (by rfl) 26 (.tmp 17) rfl _ rfl tyfour ZF.out hXl ?_ | refine wpList_load_vg (by rfl) 26 (.tmp 5) rfl _ rfl tyfour AF.out hXl ?_ | fail)
      go_ret
      exact ⟨rfl, BF.out⟩
end Go.Proofs.YtnofalgcpgheoaaDoor
