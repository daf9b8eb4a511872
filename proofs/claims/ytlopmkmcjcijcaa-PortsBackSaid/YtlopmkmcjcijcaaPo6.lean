/-
  The document's Write of layer 13; the walk of PortsWrites.
-/
import Derived.Test.YtlopmkmcjcijcaaPo5
import Derived.Test.YtlopmkmcjcijcaaAgree1
namespace Go.Proofs.Ytlopmkmcjcijcaa
open Go.RowKit
set_option linter.unusedVariables false

theorem rpowrite_bad (p src dst : Int) (A : Option Addr) (n c : Nat) (w : World) (hn : n ≤ 140737488355328) (h : poErr p src dst n ≠ 0) :
    Calls Try.prog 46 #[.int .i64 p, .int .i64 src, .int .i64 dst, .slice A n c] w fun e w' => e = .returned (.tuple #[.slice none 0 0, .int .i64 (poErr p src dst n : Nat)]) ∧ Below w.heap.size w w' := by
  have CL := Lib.hid (fun w => rpoleast_any p w)
  have hll := poLeast_le p
  by_cases h0 : poLeast p = 0
  · have hF : poErr p src dst n = 10 := by unfold poErr; rw [if_pos h0]
    rw [hF]
    rw [h0] at CL
    clear hF hll h0 h
    go_enter Try.func46, Try.ntmps46
    go_wp2_with fail
    refine (CL.out _).mono ?_
    rintro e w' ⟨rfl, rfl⟩
    go_wp2_with fail
    go_ret2
    exact ⟨rfl, Below.refl _ _⟩
  have HE : Hid (poErr p src dst n = if spPort src = false ∨ spPort dst = false then 1 else if 65535 - poLeast p < n then 18 else 0) := by show _ = _; unfold poErr; rw [if_neg h0]
  rw [HE.out] at h ⊢
  generalize poLeast p = l at *
  have l0 : ((l : Int) == 0) = false := beq_false_of_ne (by omega)
  clear HE h0
  by_cases hs : spPort src = true ∧ spPort dst = true
  · obtain ⟨hs, hd⟩ := hs
    obtain ⟨s, rfl, hs2⟩ := spPort_nat hs
    obtain ⟨d, rfl, hd2⟩ := spPort_nat hd
    rw [if_neg (by rw [hs, hd]; simp)] at h ⊢
    have hln : 65535 - l < n := by
      rcases Nat.lt_or_ge (65535 - l) n with h1 | h1
      · exact h1
      · rw [if_neg (by omega)] at h; exact absurd rfl h
    rw [if_pos hln]
    have a1 : wrap64 (65535 - (l : Int)) = ((65535 - l : Nat) : Int) := by unfold wrap64; omega
    have a2 : ((65535 - l : Nat) : Int) < (n : Int) := by omega
    have s1 : ¬ (s : Int) < 0 := by omega
    have s2 : ¬ (65535 : Int) < (s : Int) := by omega
    have d1 : ¬ (d : Int) < 0 := by omega
    have d2 : ¬ (65535 : Int) < (d : Int) := by omega
    obtain ⟨m, hm⟩ : ∃ m, m = 65535 - l := ⟨_, rfl⟩
    rw [← hm] at a1 a2
    clear hs hd h hm hln hll hs2 hd2
    go_enter Try.func46, Try.ntmps46
    go_wp2_with fail
    refine (CL.out _).mono ?_
    rintro e w' ⟨rfl, rfl⟩
    go_wp2_with fail
    refine (CL.out _).mono ?_
    rintro e w' ⟨rfl, rfl⟩
    go_wp2_with fail
    go_ret2
    exact ⟨rfl, Below.refl _ _⟩
  · have hF : spPort src = false ∨ spPort dst = false := by
      cases h1 : spPort src with
      | false => exact .inl rfl
      | true => cases h2 : spPort dst with
        | false => exact .inr rfl
        | true => exact absurd ⟨h1, h2⟩ hs
    rw [if_pos hF]
    have hF : src < 0 ∨ (0 ≤ src ∧ 65535 < src) ∨ (0 ≤ src ∧ src ≤ 65535 ∧ dst < 0) ∨ (0 ≤ src ∧ src ≤ 65535 ∧ 0 ≤ dst ∧ 65535 < dst) := by
      rcases hF with h1 | h1
      · have h1 := of_decide_eq_false h1; omega
      · have h1 := of_decide_eq_false h1; omega
    clear h hll hs
    rcases hF with s1 | ⟨s1, s2⟩ | ⟨s1, s2, d1⟩ | ⟨s1, s2, d1, d2⟩
    · go_enter Try.func46, Try.ntmps46
      go_wp2_with fail
      refine (CL.out _).mono ?_
      rintro e w' ⟨rfl, rfl⟩
      go_wp2_with fail
      go_ret2
      exact ⟨rfl, Below.refl _ _⟩
    · have s1 : ¬ src < 0 := by omega
      go_enter Try.func46, Try.ntmps46
      go_wp2_with fail
      refine (CL.out _).mono ?_
      rintro e w' ⟨rfl, rfl⟩
      go_wp2_with fail
      go_ret2
      exact ⟨rfl, Below.refl _ _⟩
    · have s1 : ¬ src < 0 := by omega
      have s2 : ¬ 65535 < src := by omega
      go_enter Try.func46, Try.ntmps46
      go_wp2_with fail
      refine (CL.out _).mono ?_
      rintro e w' ⟨rfl, rfl⟩
      go_wp2_with fail
      go_ret2
      exact ⟨rfl, Below.refl _ _⟩
    · have s1 : ¬ src < 0 := by omega
      have s2 : ¬ 65535 < src := by omega
      have d1 : ¬ dst < 0 := by omega
      go_enter Try.func46, Try.ntmps46
      go_wp2_with fail
      refine (CL.out _).mono ?_
      rintro e w' ⟨rfl, rfl⟩
      go_wp2_with fail
      go_ret2
      exact ⟨rfl, Below.refl _ _⟩
set_option maxRecDepth 10000 in
set_option maxHeartbeats 3200000 in
theorem rpowrite_6 (src dst : Nat) (A : Option Addr) (n c : Nat) (bs : List Nat) (w : World) (hs : src ≤ 65535) (hd : dst ≤ 65535) (hn : n ≤ 65515) (hc : n ≤ c) (hR : Row w A n bs) :
    Calls Try.prog 46 #[.int .i64 6, .int .i64 (src : Nat), .int .i64 (dst : Nat), .slice A n c] w (OutTo w (poHead 6 src dst n ++ bs)) := by
  have CL : Hid (∀ w, Calls Try.prog 44 #[.int .i64 6] w fun e w' => e = .returned (.int .i64 20) ∧ w = w') := fun w => rpoleast_any 6 w
  have hmk : ∀ w : World, (Instr.makeSlice 22 (.int .i64 20) (.int .i64 20)).run Try.prog w = .ok (.slice (some ⟨w.heap.size, 0, none⟩) 20 20) (w.alloc (.cells (bcells (List.replicate 20 0)).toArray 5)) := fun w => make_bytes 20 (by decide) w
  have a1 : ¬ ((65515 : Int) < (n : Int)) := by omega
  have s1 : ¬ (src : Int) < 0 := by omega
  have s2 : ¬ (65535 : Int) < (src : Int) := by omega
  have d1 : ¬ (dst : Int) < 0 := by omega
  have d2 : ¬ (65535 : Int) < (dst : Int) := by omega
  obtain ⟨x0, hx0⟩ : ∃ x, x = src / 256 := ⟨_, rfl⟩
  obtain ⟨x1, hx1⟩ : ∃ x, x = src % 256 := ⟨_, rfl⟩
  obtain ⟨x2, hx2⟩ : ∃ x, x = dst / 256 := ⟨_, rfl⟩
  obtain ⟨x3, hx3⟩ : ∃ x, x = dst % 256 := ⟨_, rfl⟩
  have e0 : (src : Int) / 256 = (x0 : Int) := by omega
  have e1 : (src : Int) % 256 = (x1 : Int) := by omega
  have e2 : (dst : Int) / 256 = (x2 : Int) := by omega
  have e3 : (dst : Int) % 256 = (x3 : Int) := by omega
  have u0 : x0 < 256 := by omega
  have u1 : x1 < 256 := by omega
  have u2 : x2 < 256 := by omega
  have u3 : x3 < 256 := by omega
  have HX : Hid (poHead 6 src dst n = [x0, x1, x2, x3] ++ (if (6 : Int) = 6 then [0, 0, 0, 0, 0, 0, 0, 0, 80, 0, 0, 0, 0, 0, 0, 0] else if (6 : Int) = 17 then [(8 + n) / 256, (8 + n) % 256, 0, 0] else [0, 0, 0, 0, 0, 0, 0, 0])) := by show _ = _; unfold poHead; rw [hx0, hx1, hx2, hx3]
  have HN := Lib.hid hn
  have HP := Lib.hid (And.intro hs hd)
  have HR := Lib.hid hR
  clear hs hd hn hR hx0 hx1 hx2 hx3
  go_enter Try.func46, Try.ntmps46
  go_wp2_with fail
  refine (CL.out _).mono ?_
  rintro e w' ⟨rfl, rfl⟩
  go_wp2_with fail
  refine (CL.out _).mono ?_
  rintro e w' ⟨rfl, rfl⟩
  go_wp2_with fail
  refine (CL.out _).mono ?_
  rintro e w' ⟨rfl, rfl⟩
  go_upto_region 8 with fail
  obtain ⟨V, eV⟩ : ∃ V, V = w.alloc (.cells (bcells [0, 0, 0, 0, 0, 0, 0, 0, 0, 0, 0, 0, 0, 0, 0, 0, 0, 0, 0, 0]).toArray 5) := ⟨_, rfl⟩
  have O0 : Hid (OutIs w.heap.size V (.slice (some ⟨w.heap.size, 0, none⟩) 20 20) (List.replicate 20 0)) := by
    show OutIs _ _ _ _
    rw [eV]
    exact OutIs.laid w (List.replicate 20 0) w.heap.size (Nat.le_refl _) (by decide)
  have BV : Hid (Below w.heap.size w V) := by show Below _ _ _; rw [eV]; exact (Below.refl _ _).alloc (Nat.le_refl _) _
  rw [← eV]
  obtain ⟨g, hg⟩ : ∃ g, g = w.heap.size := ⟨_, rfl⟩
  have BG : Hid (w.heap.size ≤ g) := by show w.heap.size ≤ g; rw [hg]; exact Nat.le_refl _
  rw [← hg] at O0 ⊢
  clear eV hmk hg
  have O1 : Hid (OutIs w.heap.size (V.setCell ⟨g, 0, none⟩ (.int .u8 x0)) (.slice (some ⟨g, 0, none⟩) 20 20) _) := (O0.out.mono BG.out).set rfl 0 x0
  have O2 : Hid (OutIs w.heap.size ((V.setCell ⟨g, 0, none⟩ (.int .u8 x0)).setCell ⟨g, 1, none⟩ (.int .u8 x1)) (.slice (some ⟨g, 0, none⟩) 20 20) _) := O1.out.set rfl 1 x1
  have O3 : Hid (OutIs w.heap.size (((V.setCell ⟨g, 0, none⟩ (.int .u8 x0)).setCell ⟨g, 1, none⟩ (.int .u8 x1)).setCell ⟨g, 2, none⟩ (.int .u8 x2)) (.slice (some ⟨g, 0, none⟩) 20 20) _) := O2.out.set rfl 2 x2
  have O4 : Hid (OutIs w.heap.size ((((V.setCell ⟨g, 0, none⟩ (.int .u8 x0)).setCell ⟨g, 1, none⟩ (.int .u8 x1)).setCell ⟨g, 2, none⟩ (.int .u8 x2)).setCell ⟨g, 3, none⟩ (.int .u8 x3)) (.slice (some ⟨g, 0, none⟩) 20 20) _) := O3.out.set rfl 3 x3
  have B4 : Hid (Below w.heap.size w ((((V.setCell ⟨g, 0, none⟩ (.int .u8 x0)).setCell ⟨g, 1, none⟩ (.int .u8 x1)).setCell ⟨g, 2, none⟩ (.int .u8 x2)).setCell ⟨g, 3, none⟩ (.int .u8 x3))) := (((BV.out.setCell (p := ⟨g, 0, none⟩) BG.out _).setCell (p := ⟨g, 1, none⟩) BG.out _).setCell (p := ⟨g, 2, none⟩) BG.out _).setCell (p := ⟨g, 3, none⟩) BG.out _
  have c0 := O0.out.cell rfl 0 (by decide)
  have f0 := O0.out.frozen rfl 0
  have c1 := O1.out.cell rfl 1 (by decide)
  have f1 := O1.out.frozen rfl 1
  have c2 := O2.out.cell rfl 2 (by decide)
  have f2 := O2.out.frozen rfl 2
  have c3 := O3.out.cell rfl 3 (by decide)
  have f3 := O3.out.frozen rfl 3
  go_upto_region 9 with fail
  obtain ⟨U, eU⟩ : ∃ U, U = ((((V.setCell ⟨g, 0, none⟩ (.int .u8 x0)).setCell ⟨g, 1, none⟩ (.int .u8 x1)).setCell ⟨g, 2, none⟩ (.int .u8 x2)).setCell ⟨g, 3, none⟩ (.int .u8 x3)) := ⟨_, rfl⟩
  rw [← eU] at O4 B4 ⊢
  clear eU c0 f0 c1 f1 c2 f2 c3 f3 O0 O1 O2 O3 BV e0 e1 e2 e3 u0 u1 u2 u3
  have c12 := O4.out.cell rfl 12 (by decide)
  have f12 := O4.out.frozen rfl 12
  have O7 : Hid (OutIs w.heap.size (U.setCell ⟨g, 12, none⟩ (.int .u8 80)) (.slice (some ⟨g, 0, none⟩) 20 20) (poHead 6 src dst n)) := by
    show OutIs _ _ _ _
    rw [HX.out]
    exact O4.out.set rfl 12 80
  have B7 : Hid (Below w.heap.size w (U.setCell ⟨g, 12, none⟩ (.int .u8 80))) := B4.out.setCell (p := ⟨g, 12, none⟩) BG.out _
  go_upto_region 13 with fail
  obtain ⟨T, eT⟩ : ∃ T, T = U.setCell ⟨g, 12, none⟩ (.int .u8 80) := ⟨_, rfl⟩
  rw [← eT] at O7 B7 ⊢
  clear eT c12 f12 O4 B4
  have R7 := Lib.hid (HR.out.below B7.out)
  have R8 : Hid (Row T (some ⟨g, 0, none⟩) 20 (poHead 6 src dst n)) := by
    obtain ⟨A2, c2, e2, _, _, hr⟩ := O7.out.out (poHead_byte 6 src dst n HP.out.1 HP.out.2 (by have := HN.out; omega))
    cases e2
    exact hr
  have HT : Hid (20 + n ≤ 140737488355328) := by show 20 + n ≤ _; have := HN.out; omega
  clear HN HX
  go_wp2_with (go_at_call 58; refine (join_two T.heap.size _ _ _ _ _ _ _ _ _ _ (by rw [cell_of_row _ _ _ _ _ _ (heap_alloc_new T _)]; rfl) (by rw [cell_of_row _ _ _ _ _ _ (heap_alloc_new T _)]; rfl) (R8.out.alloc _) (R7.out.alloc _) HT.out).mono ?_; rintro e w' ⟨v, rfl, ho, hb⟩; have O9 := Lib.hid ho; have B9 := Lib.hid hb; clear ho hb)
  go_ret2
  exact ⟨_, rfl, O9.out.mono (Nat.le_trans B7.out.size (by simp)), below_both B7.out (below_al B9.out)⟩
set_option maxRecDepth 10000 in
set_option maxHeartbeats 3200000 in
theorem rpowrite_17 (src dst : Nat) (A : Option Addr) (n c : Nat) (bs : List Nat) (w : World) (hs : src ≤ 65535) (hd : dst ≤ 65535) (hn : n ≤ 65527) (hc : n ≤ c) (hR : Row w A n bs) :
    Calls Try.prog 46 #[.int .i64 17, .int .i64 (src : Nat), .int .i64 (dst : Nat), .slice A n c] w (OutTo w (poHead 17 src dst n ++ bs)) := by
  have CL : Hid (∀ w, Calls Try.prog 44 #[.int .i64 17] w fun e w' => e = .returned (.int .i64 8) ∧ w = w') := fun w => rpoleast_any 17 w
  have hmk : ∀ w : World, (Instr.makeSlice 22 (.int .i64 8) (.int .i64 8)).run Try.prog w = .ok (.slice (some ⟨w.heap.size, 0, none⟩) 8 8) (w.alloc (.cells (bcells (List.replicate 8 0)).toArray 5)) := fun w => make_bytes 8 (by decide) w
  have a1 : ¬ ((65527 : Int) < (n : Int)) := by omega
  have s1 : ¬ (src : Int) < 0 := by omega
  have s2 : ¬ (65535 : Int) < (src : Int) := by omega
  have d1 : ¬ (dst : Int) < 0 := by omega
  have d2 : ¬ (65535 : Int) < (dst : Int) := by omega
  obtain ⟨x0, hx0⟩ : ∃ x, x = src / 256 := ⟨_, rfl⟩
  obtain ⟨x1, hx1⟩ : ∃ x, x = src % 256 := ⟨_, rfl⟩
  obtain ⟨x2, hx2⟩ : ∃ x, x = dst / 256 := ⟨_, rfl⟩
  obtain ⟨x3, hx3⟩ : ∃ x, x = dst % 256 := ⟨_, rfl⟩
  have e0 : (src : Int) / 256 = (x0 : Int) := by omega
  have e1 : (src : Int) % 256 = (x1 : Int) := by omega
  have e2 : (dst : Int) / 256 = (x2 : Int) := by omega
  have e3 : (dst : Int) % 256 = (x3 : Int) := by omega
  have u0 : x0 < 256 := by omega
  have u1 : x1 < 256 := by omega
  have u2 : x2 < 256 := by omega
  have u3 : x3 < 256 := by omega
  have HX : Hid (poHead 17 src dst n = [x0, x1, x2, x3] ++ (if (17 : Int) = 6 then [0, 0, 0, 0, 0, 0, 0, 0, 80, 0, 0, 0, 0, 0, 0, 0] else if (17 : Int) = 17 then [(8 + n) / 256, (8 + n) % 256, 0, 0] else [0, 0, 0, 0, 0, 0, 0, 0])) := by show _ = _; unfold poHead; rw [hx0, hx1, hx2, hx3]
  have HN := Lib.hid hn
  have HP := Lib.hid (And.intro hs hd)
  have HR := Lib.hid hR
  clear hs hd hn hR hx0 hx1 hx2 hx3
  go_enter Try.func46, Try.ntmps46
  go_wp2_with fail
  refine (CL.out _).mono ?_
  rintro e w' ⟨rfl, rfl⟩
  go_wp2_with fail
  refine (CL.out _).mono ?_
  rintro e w' ⟨rfl, rfl⟩
  go_wp2_with fail
  refine (CL.out _).mono ?_
  rintro e w' ⟨rfl, rfl⟩
  go_upto_region 8 with fail
  obtain ⟨V, eV⟩ : ∃ V, V = w.alloc (.cells (bcells [0, 0, 0, 0, 0, 0, 0, 0]).toArray 5) := ⟨_, rfl⟩
  have O0 : Hid (OutIs w.heap.size V (.slice (some ⟨w.heap.size, 0, none⟩) 8 8) (List.replicate 8 0)) := by
    show OutIs _ _ _ _
    rw [eV]
    exact OutIs.laid w (List.replicate 8 0) w.heap.size (Nat.le_refl _) (by decide)
  have BV : Hid (Below w.heap.size w V) := by show Below _ _ _; rw [eV]; exact (Below.refl _ _).alloc (Nat.le_refl _) _
  rw [← eV]
  obtain ⟨g, hg⟩ : ∃ g, g = w.heap.size := ⟨_, rfl⟩
  have BG : Hid (w.heap.size ≤ g) := by show w.heap.size ≤ g; rw [hg]; exact Nat.le_refl _
  rw [← hg] at O0 ⊢
  clear eV hmk hg
  have O1 : Hid (OutIs w.heap.size (V.setCell ⟨g, 0, none⟩ (.int .u8 x0)) (.slice (some ⟨g, 0, none⟩) 8 8) _) := (O0.out.mono BG.out).set rfl 0 x0
  have O2 : Hid (OutIs w.heap.size ((V.setCell ⟨g, 0, none⟩ (.int .u8 x0)).setCell ⟨g, 1, none⟩ (.int .u8 x1)) (.slice (some ⟨g, 0, none⟩) 8 8) _) := O1.out.set rfl 1 x1
  have O3 : Hid (OutIs w.heap.size (((V.setCell ⟨g, 0, none⟩ (.int .u8 x0)).setCell ⟨g, 1, none⟩ (.int .u8 x1)).setCell ⟨g, 2, none⟩ (.int .u8 x2)) (.slice (some ⟨g, 0, none⟩) 8 8) _) := O2.out.set rfl 2 x2
  have O4 : Hid (OutIs w.heap.size ((((V.setCell ⟨g, 0, none⟩ (.int .u8 x0)).setCell ⟨g, 1, none⟩ (.int .u8 x1)).setCell ⟨g, 2, none⟩ (.int .u8 x2)).setCell ⟨g, 3, none⟩ (.int .u8 x3)) (.slice (some ⟨g, 0, none⟩) 8 8) _) := O3.out.set rfl 3 x3
  have B4 : Hid (Below w.heap.size w ((((V.setCell ⟨g, 0, none⟩ (.int .u8 x0)).setCell ⟨g, 1, none⟩ (.int .u8 x1)).setCell ⟨g, 2, none⟩ (.int .u8 x2)).setCell ⟨g, 3, none⟩ (.int .u8 x3))) := (((BV.out.setCell (p := ⟨g, 0, none⟩) BG.out _).setCell (p := ⟨g, 1, none⟩) BG.out _).setCell (p := ⟨g, 2, none⟩) BG.out _).setCell (p := ⟨g, 3, none⟩) BG.out _
  have c0 := O0.out.cell rfl 0 (by decide)
  have f0 := O0.out.frozen rfl 0
  have c1 := O1.out.cell rfl 1 (by decide)
  have f1 := O1.out.frozen rfl 1
  have c2 := O2.out.cell rfl 2 (by decide)
  have f2 := O2.out.frozen rfl 2
  have c3 := O3.out.cell rfl 3 (by decide)
  have f3 := O3.out.frozen rfl 3
  go_upto_region 9 with fail
  obtain ⟨U, eU⟩ : ∃ U, U = ((((V.setCell ⟨g, 0, none⟩ (.int .u8 x0)).setCell ⟨g, 1, none⟩ (.int .u8 x1)).setCell ⟨g, 2, none⟩ (.int .u8 x2)).setCell ⟨g, 3, none⟩ (.int .u8 x3)) := ⟨_, rfl⟩
  rw [← eU] at O4 B4 ⊢
  clear eU c0 f0 c1 f1 c2 f2 c3 f3 O0 O1 O2 O3 BV e0 e1 e2 e3 u0 u1 u2 u3
  obtain ⟨y0, hy0⟩ : ∃ x, x = (8 + n) / 256 := ⟨_, rfl⟩
  obtain ⟨y1, hy1⟩ : ∃ x, x = (8 + n) % 256 := ⟨_, rfl⟩
  have e0 : ((n : Int) + 8) / 256 = (y0 : Int) := by omega
  have e1 : ((n : Int) + 8) % 256 = (y1 : Int) := by omega
  have u0 : y0 < 256 := by have := HN.out; omega
  have u1 : y1 < 256 := by omega
  have nI : (n : Int) ≤ 65527 := by have := HN.out; omega
  rw [← hy0, ← hy1] at HX
  have O5 : Hid (OutIs w.heap.size (U.setCell ⟨g, 4, none⟩ (.int .u8 y0)) (.slice (some ⟨g, 0, none⟩) 8 8) _) := O4.out.set rfl 4 y0
  have c4 := O4.out.cell rfl 4 (by decide)
  have f4 := O4.out.frozen rfl 4
  have c5 := O5.out.cell rfl 5 (by decide)
  have f5 := O5.out.frozen rfl 5
  have O7 : Hid (OutIs w.heap.size ((U.setCell ⟨g, 4, none⟩ (.int .u8 y0)).setCell ⟨g, 5, none⟩ (.int .u8 y1)) (.slice (some ⟨g, 0, none⟩) 8 8) (poHead 17 src dst n)) := by
    show OutIs _ _ _ _
    rw [HX.out]
    exact O5.out.set rfl 5 y1
  have B7 : Hid (Below w.heap.size w ((U.setCell ⟨g, 4, none⟩ (.int .u8 y0)).setCell ⟨g, 5, none⟩ (.int .u8 y1))) := (B4.out.setCell (p := ⟨g, 4, none⟩) BG.out _).setCell (p := ⟨g, 5, none⟩) BG.out _
  clear hy0 hy1
  go_upto_region 13 with fail
  obtain ⟨T, eT⟩ : ∃ T, T = (U.setCell ⟨g, 4, none⟩ (.int .u8 y0)).setCell ⟨g, 5, none⟩ (.int .u8 y1) := ⟨_, rfl⟩
  rw [← eT] at O7 B7 ⊢
  clear eT c4 f4 c5 f5 O4 B4 O5 e0 e1 u0 u1 nI
  have R7 := Lib.hid (HR.out.below B7.out)
  have R8 : Hid (Row T (some ⟨g, 0, none⟩) 8 (poHead 17 src dst n)) := by
    obtain ⟨A2, c2, e2, _, _, hr⟩ := O7.out.out (poHead_byte 17 src dst n HP.out.1 HP.out.2 (by have := HN.out; omega))
    cases e2
    exact hr
  have HT : Hid (8 + n ≤ 140737488355328) := by show 8 + n ≤ _; have := HN.out; omega
  clear HN HX
  go_wp2_with (go_at_call 58; refine (join_two T.heap.size _ _ _ _ _ _ _ _ _ _ (by rw [cell_of_row _ _ _ _ _ _ (heap_alloc_new T _)]; rfl) (by rw [cell_of_row _ _ _ _ _ _ (heap_alloc_new T _)]; rfl) (R8.out.alloc _) (R7.out.alloc _) HT.out).mono ?_; rintro e w' ⟨v, rfl, ho, hb⟩; have O9 := Lib.hid ho; have B9 := Lib.hid hb; clear ho hb)
  go_ret2
  exact ⟨_, rfl, O9.out.mono (Nat.le_trans B7.out.size (by simp)), below_both B7.out (below_al B9.out)⟩
set_option maxRecDepth 10000 in
set_option maxHeartbeats 3200000 in
theorem rpowrite_132 (src dst : Nat) (A : Option Addr) (n c : Nat) (bs : List Nat) (w : World) (hs : src ≤ 65535) (hd : dst ≤ 65535) (hn : n ≤ 65523) (hc : n ≤ c) (hR : Row w A n bs) :
    Calls Try.prog 46 #[.int .i64 132, .int .i64 (src : Nat), .int .i64 (dst : Nat), .slice A n c] w (OutTo w (poHead 132 src dst n ++ bs)) := by
  have CL : Hid (∀ w, Calls Try.prog 44 #[.int .i64 132] w fun e w' => e = .returned (.int .i64 12) ∧ w = w') := fun w => rpoleast_any 132 w
  have hmk : ∀ w : World, (Instr.makeSlice 22 (.int .i64 12) (.int .i64 12)).run Try.prog w = .ok (.slice (some ⟨w.heap.size, 0, none⟩) 12 12) (w.alloc (.cells (bcells (List.replicate 12 0)).toArray 5)) := fun w => make_bytes 12 (by decide) w
  have a1 : ¬ ((65523 : Int) < (n : Int)) := by omega
  have s1 : ¬ (src : Int) < 0 := by omega
  have s2 : ¬ (65535 : Int) < (src : Int) := by omega
  have d1 : ¬ (dst : Int) < 0 := by omega
  have d2 : ¬ (65535 : Int) < (dst : Int) := by omega
  obtain ⟨x0, hx0⟩ : ∃ x, x = src / 256 := ⟨_, rfl⟩
  obtain ⟨x1, hx1⟩ : ∃ x, x = src % 256 := ⟨_, rfl⟩
  obtain ⟨x2, hx2⟩ : ∃ x, x = dst / 256 := ⟨_, rfl⟩
  obtain ⟨x3, hx3⟩ : ∃ x, x = dst % 256 := ⟨_, rfl⟩
  have e0 : (src : Int) / 256 = (x0 : Int) := by omega
  have e1 : (src : Int) % 256 = (x1 : Int) := by omega
  have e2 : (dst : Int) / 256 = (x2 : Int) := by omega
  have e3 : (dst : Int) % 256 = (x3 : Int) := by omega
  have u0 : x0 < 256 := by omega
  have u1 : x1 < 256 := by omega
  have u2 : x2 < 256 := by omega
  have u3 : x3 < 256 := by omega
  have HX : Hid (poHead 132 src dst n = [x0, x1, x2, x3] ++ (if (132 : Int) = 6 then [0, 0, 0, 0, 0, 0, 0, 0, 80, 0, 0, 0, 0, 0, 0, 0] else if (132 : Int) = 17 then [(8 + n) / 256, (8 + n) % 256, 0, 0] else [0, 0, 0, 0, 0, 0, 0, 0])) := by show _ = _; unfold poHead; rw [hx0, hx1, hx2, hx3]
  have HN := Lib.hid hn
  have HP := Lib.hid (And.intro hs hd)
  have HR := Lib.hid hR
  clear hs hd hn hR hx0 hx1 hx2 hx3
  go_enter Try.func46, Try.ntmps46
  go_wp2_with fail
  refine (CL.out _).mono ?_
  rintro e w' ⟨rfl, rfl⟩
  go_wp2_with fail
  refine (CL.out _).mono ?_
  rintro e w' ⟨rfl, rfl⟩
  go_wp2_with fail
  refine (CL.out _).mono ?_
  rintro e w' ⟨rfl, rfl⟩
  go_upto_region 8 with fail
  obtain ⟨V, eV⟩ : ∃ V, V = w.alloc (.cells (bcells [0, 0, 0, 0, 0, 0, 0, 0, 0, 0, 0, 0]).toArray 5) := ⟨_, rfl⟩
  have O0 : Hid (OutIs w.heap.size V (.slice (some ⟨w.heap.size, 0, none⟩) 12 12) (List.replicate 12 0)) := by
    show OutIs _ _ _ _
    rw [eV]
    exact OutIs.laid w (List.replicate 12 0) w.heap.size (Nat.le_refl _) (by decide)
  have BV : Hid (Below w.heap.size w V) := by show Below _ _ _; rw [eV]; exact (Below.refl _ _).alloc (Nat.le_refl _) _
  rw [← eV]
  obtain ⟨g, hg⟩ : ∃ g, g = w.heap.size := ⟨_, rfl⟩
  have BG : Hid (w.heap.size ≤ g) := by show w.heap.size ≤ g; rw [hg]; exact Nat.le_refl _
  rw [← hg] at O0 ⊢
  clear eV hmk hg
  have O1 : Hid (OutIs w.heap.size (V.setCell ⟨g, 0, none⟩ (.int .u8 x0)) (.slice (some ⟨g, 0, none⟩) 12 12) _) := (O0.out.mono BG.out).set rfl 0 x0
  have O2 : Hid (OutIs w.heap.size ((V.setCell ⟨g, 0, none⟩ (.int .u8 x0)).setCell ⟨g, 1, none⟩ (.int .u8 x1)) (.slice (some ⟨g, 0, none⟩) 12 12) _) := O1.out.set rfl 1 x1
  have O3 : Hid (OutIs w.heap.size (((V.setCell ⟨g, 0, none⟩ (.int .u8 x0)).setCell ⟨g, 1, none⟩ (.int .u8 x1)).setCell ⟨g, 2, none⟩ (.int .u8 x2)) (.slice (some ⟨g, 0, none⟩) 12 12) _) := O2.out.set rfl 2 x2
  have O4 : Hid (OutIs w.heap.size ((((V.setCell ⟨g, 0, none⟩ (.int .u8 x0)).setCell ⟨g, 1, none⟩ (.int .u8 x1)).setCell ⟨g, 2, none⟩ (.int .u8 x2)).setCell ⟨g, 3, none⟩ (.int .u8 x3)) (.slice (some ⟨g, 0, none⟩) 12 12) _) := O3.out.set rfl 3 x3
  have B4 : Hid (Below w.heap.size w ((((V.setCell ⟨g, 0, none⟩ (.int .u8 x0)).setCell ⟨g, 1, none⟩ (.int .u8 x1)).setCell ⟨g, 2, none⟩ (.int .u8 x2)).setCell ⟨g, 3, none⟩ (.int .u8 x3))) := (((BV.out.setCell (p := ⟨g, 0, none⟩) BG.out _).setCell (p := ⟨g, 1, none⟩) BG.out _).setCell (p := ⟨g, 2, none⟩) BG.out _).setCell (p := ⟨g, 3, none⟩) BG.out _
  have c0 := O0.out.cell rfl 0 (by decide)
  have f0 := O0.out.frozen rfl 0
  have c1 := O1.out.cell rfl 1 (by decide)
  have f1 := O1.out.frozen rfl 1
  have c2 := O2.out.cell rfl 2 (by decide)
  have f2 := O2.out.frozen rfl 2
  have c3 := O3.out.cell rfl 3 (by decide)
  have f3 := O3.out.frozen rfl 3
  go_upto_region 9 with fail
  obtain ⟨U, eU⟩ : ∃ U, U = ((((V.setCell ⟨g, 0, none⟩ (.int .u8 x0)).setCell ⟨g, 1, none⟩ (.int .u8 x1)).setCell ⟨g, 2, none⟩ (.int .u8 x2)).setCell ⟨g, 3, none⟩ (.int .u8 x3)) := ⟨_, rfl⟩
  rw [← eU] at O4 B4 ⊢
  clear eU c0 f0 c1 f1 c2 f2 c3 f3 O0 O1 O2 O3 BV e0 e1 e2 e3 u0 u1 u2 u3
  have O7 : Hid (OutIs w.heap.size U (.slice (some ⟨g, 0, none⟩) 12 12) (poHead 132 src dst n)) := by
    show OutIs _ _ _ _
    rw [HX.out]
    exact O4.out
  have B7 := Lib.hid B4.out
  go_upto_region 13 with fail
  obtain ⟨T, eT⟩ : ∃ T, T = U := ⟨_, rfl⟩
  rw [← eT] at O7 B7 ⊢
  clear eT O4 B4
  have R7 := Lib.hid (HR.out.below B7.out)
  have R8 : Hid (Row T (some ⟨g, 0, none⟩) 12 (poHead 132 src dst n)) := by
    obtain ⟨A2, c2, e2, _, _, hr⟩ := O7.out.out (poHead_byte 132 src dst n HP.out.1 HP.out.2 (by have := HN.out; omega))
    cases e2
    exact hr
  have HT : Hid (12 + n ≤ 140737488355328) := by show 12 + n ≤ _; have := HN.out; omega
  clear HN HX
  go_wp2_with (go_at_call 58; refine (join_two T.heap.size _ _ _ _ _ _ _ _ _ _ (by rw [cell_of_row _ _ _ _ _ _ (heap_alloc_new T _)]; rfl) (by rw [cell_of_row _ _ _ _ _ _ (heap_alloc_new T _)]; rfl) (R8.out.alloc _) (R7.out.alloc _) HT.out).mono ?_; rintro e w' ⟨v, rfl, ho, hb⟩; have O9 := Lib.hid ho; have B9 := Lib.hid hb; clear ho hb)
  go_ret2
  exact ⟨_, rfl, O9.out.mono (Nat.le_trans B7.out.size (by simp)), below_both B7.out (below_al B9.out)⟩
end Go.Proofs.Ytlopmkmcjcijcaa
