/-
  The document's Seal of layer 13.
-/
import Derived.Test.YtlopmkmcjcijcaaPo12
namespace Go.Proofs.Ytlopmkmcjcijcaa
open Go.RowKit
set_option linter.unusedVariables false
set_option maxRecDepth 8000

theorem rleft_ints {s l : Nat} (hs : s ≤ 65535) (hl : l = 65535 - s) : IntKind.u16.wrap (65535 - (s : Int)) = (l : Int) := by
  subst hl
  show (65535 - (s : Int)) % 65536 = _
  omega
theorem at_less {a n : Nat} (h : a + 2 ≤ n) : (a : Int) < (n : Int) ∧ ((a : Int) + 1) < (n : Int) := ⟨by omega, by omega⟩
theorem word_ints {f y z : Nat} {fI : Int} (hf : f ≤ 65535) (hy : y = f / 256) (hz : z = f % 256) (h : fI = (f : Int)) :
    ∃ yI zI : Int, yI = (y : Int) ∧ zI = (z : Int) ∧ fI / 256 = yI ∧ fI % 256 = zI ∧ yI % 256 = yI ∧ zI % 256 = zI ∧ yI % 65536 = yI ∧ zI % 65536 = zI ∧ Int.tdiv fI 256 = yI ∧ Int.tmod fI 256 = zI ∧ IntKind.u16.wrap yI = yI ∧ IntKind.u16.wrap zI = zI :=
  ⟨(y : Int), (z : Int), rfl, rfl, by omega, by omega, by omega, by omega, by omega, by omega, by rw [Int.tdiv_eq_ediv_of_nonneg (by omega)]; omega, by rw [Int.tmod_eq_emod_of_nonneg (by omega)]; omega, by show (y : Int) % 65536 = _; omega, by show (z : Int) % 65536 = _; omega⟩
/-- Two bytes put one behind the other. -/
structure StTwo (B : Nat) (W : World) (g n c a : Nat) (L L2 : List Nat) (u v : Int) : Prop where
  q0 : W.cell? ⟨g, a, none⟩ = some (.int .u8 (L.getD a 0 : Nat))
  f0 : W.frozen? ⟨g, a, none⟩ = false
  q1 : ∃ x : Nat, (W.setCell ⟨g, a, none⟩ (.int .u8 u)).cell? ⟨g, a + 1, none⟩ = some (.int .u8 (x : Nat))
  f1 : (W.setCell ⟨g, a, none⟩ (.int .u8 u)).frozen? ⟨g, a + 1, none⟩ = false
  o : OutIs B ((W.setCell ⟨g, a, none⟩ (.int .u8 u)).setCell ⟨g, a + 1, none⟩ (.int .u8 v)) (.slice (some ⟨g, 0, none⟩) n c) L2
  b : Below B W ((W.setCell ⟨g, a, none⟩ (.int .u8 u)).setCell ⟨g, a + 1, none⟩ (.int .u8 v))
theorem st_two {B : Nat} {W : World} {g n c a : Nat} {L : List Nat} (hl : L.length = n) (hk : a + 2 ≤ n) (hg : B ≤ g) (ho : OutIs B W (.slice (some ⟨g, 0, none⟩) n c) L) (u v : Nat) {uI vI : Int} (hu : uI = (u : Int)) (hv : vI = (v : Int)) :
    StTwo B W g n c a L ((L.set a u).set (a + 1) v) uI vI := by
  subst hu hv
  have h2 := ho.set hl a u
  exact ⟨ho.cell hl a (by omega), ho.frozen hl a, ⟨_, h2.cell (by rw [List.length_set]; exact hl) (a + 1) (by omega)⟩, h2.frozen (by rw [List.length_set]; exact hl) (a + 1), h2.set (by rw [List.length_set]; exact hl) (a + 1) v,
    ((Below.refl _ _).setCell (p := ⟨g, a, none⟩) hg _).setCell (p := ⟨g, a + 1, none⟩) hg _⟩
set_option maxHeartbeats 3200000 in
theorem rposeal_any (k : KeyV) (hk : KeyOk k) (A : Option Addr) (n c : Nat) (bs : List Nat) (w : World) (hn : n ≤ 140737488355328) (hR : Row w A n bs) :
    Calls Try.prog 50 #[.agg k.cells.toArray, .slice A n c] w fun e w' => ∃ v, e = .returned (.tuple #[v, .int .i64 (poWrong k.v k.p n : Nat)]) ∧ OutIs w.heap.size w' v (poSealV k n bs) ∧ Below w.heap.size w w' := by
  obtain ⟨hXl, hXo⟩ := hk.all
  have hcp := hk.at_p
  have CC : Hid (∀ w, Calls Try.prog 79 #[.agg k.cells.toArray, .slice A n c] w fun e w' => e = .returned (.int .i64 (poWrong k.v k.p n : Nat)) ∧ Below w.heap.size w w') := fun w => rpowrong_any k hk A n c w
  obtain ⟨V, eV⟩ : ∃ V, V = w.alloc (.cells k.cells.toArray 73) := ⟨_, rfl⟩
  have HA : Hid (ArrV 73 V w.heap.size k.cells) := by show ArrV _ _ _ _; rw [eV]; exact ArrV.new _ w _
  have HB : Hid (Below w.heap.size w V) := by show Below _ _ _; rw [eV]; exact (Below.refl _ _).alloc (Nat.le_refl _) _
  obtain ⟨r, hr⟩ : ∃ r, r = poWrong k.v k.p n := ⟨_, rfl⟩
  by_cases h0 : r = 0
  · have h00 : poWrong k.v k.p n = 0 := by rw [← hr]; exact h0
    obtain ⟨hv, hp, hl, hbig⟩ := poWrong_ok h00
    obtain ⟨room, hpos⟩ := at_room hp hl
    have hF : poSealV k n bs = poSealed k n bs := by unfold poSealV; rw [if_pos h00]
    rw [hF, h00]
    rw [h00] at CC
    have CK : Hid (∀ (w : World) (g c' : Nat), Row w A n bs → w.cell? ⟨g, 0, none⟩ = some (.slice A n c) → Calls Try.prog 58 #[.slice (some ⟨g, 0, none⟩) 1 c'] w fun e w' => ∃ v, e = .returned v ∧ OutIs w.heap.size w' v bs ∧ Below w.heap.size w w') := fun w g c' h h2 => join_one g n c c' A bs w hn h h2
    obtain ⟨Z, hZ⟩ : ∃ Z, Z = poZero k.p bs := ⟨_, rfl⟩
    have hZl : Z.length = n := by rw [hZ, poZero_len, hR.1]
    have hZb : ∀ x ∈ Z, x < 256 := by rw [hZ]; exact poZero_byte hR.2.1 _
    obtain ⟨s, hs⟩ : ∃ s, s = poSum k n Z := ⟨_, rfl⟩
    have hs2 : s ≤ 65535 := by rw [hs]; exact poSum_le _ _ _
    have CS : Hid (∀ (A : Option Addr) (c : Nat) (w : World), Row w A n Z → Calls Try.prog 48 #[.agg k.cells.toArray, .slice A n c] w fun e w' => e = .returned (.tuple #[.int .u16 (s : Nat), .int .i64 0]) ∧ Below w.heap.size w w') := fun A c w h => by
      have h2 := rposum_any k hk A n c Z w hn h
      rw [h00, ← hs] at h2
      exact h2
    obtain ⟨l, hll⟩ : ∃ l, l = 65535 - s := ⟨_, rfl⟩
    have i1 := rleft_ints hs2 hll
    obtain ⟨f, hf⟩ : ∃ f, f = poLeft k n bs := ⟨_, rfl⟩
    have hf5 : f ≤ 65535 := by rw [hf]; exact poLeft_le _ _ _
    have hfl : f = if l = 0 ∧ k.p = 17 then 65535 else l := by rw [hf]; unfold poLeft; rw [← hZ, ← hs, ← hll]
    obtain ⟨a, ha⟩ : ∃ a, a = poAt k.p := ⟨_, rfl⟩
    have hZ2 : Z = (bs.set a 0).set (a + 1) 0 := by rw [hZ, ha]; rfl
    obtain ⟨E, hE⟩ : ∃ E, E = poSealed k n bs := ⟨_, rfl⟩
    have hE2 : E = (Z.set a (f / 256)).set (a + 1) (f % 256) := by rw [hE, hZ, ha, hf]; rfl
    rw [← hE]
    rw [← ha] at room
    have hbl := hR.1
    obtain ⟨fI, hfI⟩ : ∃ x : Int, x = (f : Int) := ⟨_, rfl⟩
    obtain ⟨lI, hlI⟩ : ∃ x : Int, x = (l : Int) := ⟨_, rfl⟩
    rw [← hlI] at i1
    obtain ⟨y, hy⟩ : ∃ y, y = f / 256 := ⟨_, rfl⟩
    obtain ⟨z, hz⟩ : ∃ z, z = f % 256 := ⟨_, rfl⟩
    obtain ⟨yI, zI, hyI, hzI, m1, m2, m3, m4, m5, m6, m7, m8, m9, m10⟩ := word_ints hf5 hy hz hfI
    have HS0 : Hid (∀ (g c : Nat) (W : World), V.heap.size ≤ g → OutIs V.heap.size W (.slice (some ⟨g, 0, none⟩) n c) bs → StTwo V.heap.size W g n c a bs Z 0 0) := fun g c W h2 h3 => by
      have := st_two hbl room h2 h3 0 0 rfl rfl
      rw [← hZ2] at this
      exact this
    have HS1 : Hid (∀ (g c : Nat) (W : World), V.heap.size ≤ g → OutIs V.heap.size W (.slice (some ⟨g, 0, none⟩) n c) Z → StTwo V.heap.size W g n c a Z E yI zI) := fun g c W h2 h3 => by
      have := st_two hZl room h2 h3 y z hyI hzI
      rw [hy, hz, ← hE2] at this
      exact this
    have nI : (a : Int) < (n : Int) ∧ ((a : Int) + 1) < (n : Int) := at_less room
    have HR := Lib.hid hR
    have HBL := Lib.hid (And.intro hbl hpos)
    have HZ := Lib.hid (And.intro hZl hZb)
    have hca : a = if k.p = 17 then 6 else 16 := by rw [ha]; unfold poAt; split <;> rfl
    have hfl0 := hfl
    clear hfl
    have hfl : fI = if lI = 0 ∧ k.p = 17 then 65535 else lI := by
      rw [hfI, hfl0, hlI]
      by_cases h1 : l = 0 ∧ k.p = 17
      · rw [if_pos h1, if_pos ⟨by omega, h1.2⟩]; rfl
      · rw [if_neg h1, if_neg (fun h => h1 ⟨by omega, h.2⟩)]
    obtain ⟨p, hpp⟩ : ∃ p, p = k.p := ⟨_, rfl⟩
    rw [← hpp] at hcp hp hfl hca
    obtain ⟨X, hX⟩ : ∃ X, X = k.cells := ⟨_, rfl⟩
    rw [← hX] at hXl hXo CC CS HA eV hcp ⊢
    have c33 := (HA.out.get 33).trans hcp
    obtain ⟨g0, hg0⟩ : ∃ g, g = w.heap.size := ⟨_, rfl⟩
    have HG0 := Lib.hid hg0
    have HCP := Lib.hid hcp
    rw [← hg0] at c33 HA
    clear hX hr h0 h00 hv hl hbig room hpos hF hZ hZl hZb hs hs2 hll hf hf5 ha hZ2 hE hE2 hbl hpp hR hn hg0 hcp hfI hlI hfl0 hy hz hyI hzI
    rcases hp with hp | hp
    · subst hp
      have ha16 : a = 16 := by rw [hca]; rfl
      have hfl2 : fI = lI := by rw [hfl, if_neg (fun h => absurd h.2 (by decide))]
      clear hfl
      subst ha16 hfl2
      clear hca
      by_cases hl0 : fI = 0
      · subst hl0
        have hy0 : yI = 0 := by rw [← m1]; rfl
        have hz0 : zI = 0 := by rw [← m2]; rfl
        subst hy0 hz0
        clear m1 m2 m3 m4 m5 m6 m7 m8 m9 m10
        obtain ⟨n1, n2⟩ := nI
        go_enter Try.func50, Try.ntmps50
        go_upto_region 1 with fail
        rw [← eV, ← HG0.out]
        clear eV
        refine wp_region_lit ?_
        go_wp2_with (refine wpList_load_v rfl 73 (.tmp 2) rfl _ rfl tykey HA.out hXl ?_)
        refine (CC.out _).mono ?_
        rintro e w1 ⟨rfl, b1⟩
        have c33 := (HA.out.below b1 |>.get 33).trans HCP.out
        have B1 := Lib.hid b1
        have RB := Lib.hid ((HR.out.below HB.out).below b1)
        clear b1 CC
        go_wp2_with fail
        refine (CK.out _ _ _ (RB.out.alloc _) (by exact new_at _ _ _ _ _ _ rfl rfl)).mono ?_
        rintro e w2 ⟨v2, rfl, o2, b2⟩
        have B2 := Lib.hid (below_both B1.out (below_al b2))
        have o2 := o2.mono (B' := V.heap.size) (Nat.le_trans B1.out.size (by simp))
        obtain ⟨g2, c2, rfl, hg2, _, _⟩ := o2.block (by rw [HBL.out.1]; exact HBL.out.2)
        rw [HBL.out.1] at o2 ⊢
        have HG2 := Lib.hid hg2
        obtain ⟨q0, f0, ⟨x1, q1⟩, f1, o3, b3⟩ := HS0.out g2 c2 w2 hg2 o2
        simp only [Nat.reduceAdd] at q1 f1 o3 b3
        obtain ⟨w3, ew3⟩ : ∃ w3, w3 = (w2.setCell ⟨g2, 16, none⟩ (.int .u8 0)).setCell ⟨g2, 17, none⟩ (.int .u8 0) := ⟨_, rfl⟩
        rw [← ew3] at o3 b3
        have B3 := Lib.hid (B2.out.trans b3)
        have O3 := Lib.hid o3
        obtain ⟨A3, c3, e3, _, _, r3w⟩ := o3.out HZ.out.2
        rw [HZ.out.1] at e3 r3w
        cases e3
        have R3 := Lib.hid r3w
        clear o2 b2 hg2 B1 CK c33 o3 b3 B2 r3w
        have HA3 := Lib.hid (HA.out.below B3.out)
        go_upto_region 9 with fail
        rw [← ew3]
        clear ew3 q0 f0 q1 f1
        refine wp_region_lit ?_
        go_wp2_with (refine wpList_load_v rfl 73 (.tmp 2) rfl _ rfl tykey HA3.out hXl ?_)
        refine (CS.out _ _ _ R3.out).mono ?_
        rintro e w4 ⟨rfl, b4⟩
        have c33 := (HA3.out.below b4 |>.get 33).trans HCP.out
        have B4 := Lib.hid (below_both B3.out b4)
        obtain ⟨q0, f0, ⟨x1, q1⟩, f1, o5, b5⟩ := HS1.out g2 c2 w4 HG2.out (O3.out.below b4)
        simp only [Nat.reduceAdd] at q1 f1 o5 b5
        have B5 := Lib.hid (B4.out.trans b5)
        have O5 := Lib.hid o5
        clear b4 B3 O3 HA3 R3 CS o5 b5 B4
        go_upto_region 11 with fail
        go_wp2_with fail
        go_ret2
        exact ⟨_, rfl, O5.out.mono HB.out.size, below_both HB.out B5.out⟩
      · have bl : (fI == 0) = false := beq_false_of_ne hl0
        clear hl0
        obtain ⟨n1, n2⟩ := nI
        go_enter Try.func50, Try.ntmps50
        go_upto_region 1 with fail
        rw [← eV, ← HG0.out]
        clear eV
        refine wp_region_lit ?_
        go_wp2_with (refine wpList_load_v rfl 73 (.tmp 2) rfl _ rfl tykey HA.out hXl ?_)
        refine (CC.out _).mono ?_
        rintro e w1 ⟨rfl, b1⟩
        have c33 := (HA.out.below b1 |>.get 33).trans HCP.out
        have B1 := Lib.hid b1
        have RB := Lib.hid ((HR.out.below HB.out).below b1)
        clear b1 CC
        go_wp2_with fail
        refine (CK.out _ _ _ (RB.out.alloc _) (by exact new_at _ _ _ _ _ _ rfl rfl)).mono ?_
        rintro e w2 ⟨v2, rfl, o2, b2⟩
        have B2 := Lib.hid (below_both B1.out (below_al b2))
        have o2 := o2.mono (B' := V.heap.size) (Nat.le_trans B1.out.size (by simp))
        obtain ⟨g2, c2, rfl, hg2, _, _⟩ := o2.block (by rw [HBL.out.1]; exact HBL.out.2)
        rw [HBL.out.1] at o2 ⊢
        have HG2 := Lib.hid hg2
        obtain ⟨q0, f0, ⟨x1, q1⟩, f1, o3, b3⟩ := HS0.out g2 c2 w2 hg2 o2
        simp only [Nat.reduceAdd] at q1 f1 o3 b3
        obtain ⟨w3, ew3⟩ : ∃ w3, w3 = (w2.setCell ⟨g2, 16, none⟩ (.int .u8 0)).setCell ⟨g2, 17, none⟩ (.int .u8 0) := ⟨_, rfl⟩
        rw [← ew3] at o3 b3
        have B3 := Lib.hid (B2.out.trans b3)
        have O3 := Lib.hid o3
        obtain ⟨A3, c3, e3, _, _, r3w⟩ := o3.out HZ.out.2
        rw [HZ.out.1] at e3 r3w
        cases e3
        have R3 := Lib.hid r3w
        clear o2 b2 hg2 B1 CK c33 o3 b3 B2 r3w
        have HA3 := Lib.hid (HA.out.below B3.out)
        go_upto_region 9 with fail
        rw [← ew3]
        clear ew3 q0 f0 q1 f1
        refine wp_region_lit ?_
        go_wp2_with (refine wpList_load_v rfl 73 (.tmp 2) rfl _ rfl tykey HA3.out hXl ?_)
        refine (CS.out _ _ _ R3.out).mono ?_
        rintro e w4 ⟨rfl, b4⟩
        have c33 := (HA3.out.below b4 |>.get 33).trans HCP.out
        have B4 := Lib.hid (below_both B3.out b4)
        obtain ⟨q0, f0, ⟨x1, q1⟩, f1, o5, b5⟩ := HS1.out g2 c2 w4 HG2.out (O3.out.below b4)
        simp only [Nat.reduceAdd] at q1 f1 o5 b5
        have B5 := Lib.hid (B4.out.trans b5)
        have O5 := Lib.hid o5
        clear b4 B3 O3 HA3 R3 CS o5 b5 B4
        go_upto_region 11 with fail
        go_wp2_with fail
        go_ret2
        exact ⟨_, rfl, O5.out.mono HB.out.size, below_both HB.out B5.out⟩
    · subst hp
      have ha6 : a = 6 := by rw [hca]; rfl
      subst ha6
      clear hca
      by_cases hl0 : lI = 0
      · subst hl0
        have hf5 : fI = 65535 := by rw [hfl, if_pos ⟨rfl, rfl⟩]
        subst hf5
        clear hfl
        have hy0 : yI = 255 := by rw [← m1]; rfl
        have hz0 : zI = 255 := by rw [← m2]; rfl
        subst hy0 hz0
        clear m1 m2 m3 m4 m5 m6 m7 m8 m9 m10
        obtain ⟨n1, n2⟩ := nI
        go_enter Try.func50, Try.ntmps50
        go_upto_region 1 with fail
        rw [← eV, ← HG0.out]
        clear eV
        refine wp_region_lit ?_
        go_wp2_with (refine wpList_load_v rfl 73 (.tmp 2) rfl _ rfl tykey HA.out hXl ?_)
        refine (CC.out _).mono ?_
        rintro e w1 ⟨rfl, b1⟩
        have c33 := (HA.out.below b1 |>.get 33).trans HCP.out
        have B1 := Lib.hid b1
        have RB := Lib.hid ((HR.out.below HB.out).below b1)
        clear b1 CC
        go_wp2_with fail
        refine (CK.out _ _ _ (RB.out.alloc _) (by exact new_at _ _ _ _ _ _ rfl rfl)).mono ?_
        rintro e w2 ⟨v2, rfl, o2, b2⟩
        have B2 := Lib.hid (below_both B1.out (below_al b2))
        have o2 := o2.mono (B' := V.heap.size) (Nat.le_trans B1.out.size (by simp))
        obtain ⟨g2, c2, rfl, hg2, _, _⟩ := o2.block (by rw [HBL.out.1]; exact HBL.out.2)
        rw [HBL.out.1] at o2 ⊢
        have HG2 := Lib.hid hg2
        obtain ⟨q0, f0, ⟨x1, q1⟩, f1, o3, b3⟩ := HS0.out g2 c2 w2 hg2 o2
        simp only [Nat.reduceAdd] at q1 f1 o3 b3
        obtain ⟨w3, ew3⟩ : ∃ w3, w3 = (w2.setCell ⟨g2, 6, none⟩ (.int .u8 0)).setCell ⟨g2, 7, none⟩ (.int .u8 0) := ⟨_, rfl⟩
        rw [← ew3] at o3 b3
        have B3 := Lib.hid (B2.out.trans b3)
        have O3 := Lib.hid o3
        obtain ⟨A3, c3, e3, _, _, r3w⟩ := o3.out HZ.out.2
        rw [HZ.out.1] at e3 r3w
        cases e3
        have R3 := Lib.hid r3w
        clear o2 b2 hg2 B1 CK c33 o3 b3 B2 r3w
        have HA3 := Lib.hid (HA.out.below B3.out)
        go_upto_region 9 with fail
        rw [← ew3]
        clear ew3 q0 f0 q1 f1
        refine wp_region_lit ?_
        go_wp2_with (refine wpList_load_v rfl 73 (.tmp 2) rfl _ rfl tykey HA3.out hXl ?_)
        refine (CS.out _ _ _ R3.out).mono ?_
        rintro e w4 ⟨rfl, b4⟩
        have c33 := (HA3.out.below b4 |>.get 33).trans HCP.out
        have B4 := Lib.hid (below_both B3.out b4)
        obtain ⟨q0, f0, ⟨x1, q1⟩, f1, o5, b5⟩ := HS1.out g2 c2 w4 HG2.out (O3.out.below b4)
        simp only [Nat.reduceAdd] at q1 f1 o5 b5
        have B5 := Lib.hid (B4.out.trans b5)
        have O5 := Lib.hid o5
        clear b4 B3 O3 HA3 R3 CS o5 b5 B4
        go_upto_region 11 with fail
        go_wp2_with fail
        go_ret2
        exact ⟨_, rfl, O5.out.mono HB.out.size, below_both HB.out B5.out⟩
      · have hfl2 : fI = lI := by rw [hfl, if_neg (fun h => hl0 h.1)]
        subst hfl2
        have bl : (fI == 0) = false := beq_false_of_ne hl0
        clear hl0 hfl
        obtain ⟨n1, n2⟩ := nI
        go_enter Try.func50, Try.ntmps50
        go_upto_region 1 with fail
        rw [← eV, ← HG0.out]
        clear eV
        refine wp_region_lit ?_
        go_wp2_with (refine wpList_load_v rfl 73 (.tmp 2) rfl _ rfl tykey HA.out hXl ?_)
        refine (CC.out _).mono ?_
        rintro e w1 ⟨rfl, b1⟩
        have c33 := (HA.out.below b1 |>.get 33).trans HCP.out
        have B1 := Lib.hid b1
        have RB := Lib.hid ((HR.out.below HB.out).below b1)
        clear b1 CC
        go_wp2_with fail
        refine (CK.out _ _ _ (RB.out.alloc _) (by exact new_at _ _ _ _ _ _ rfl rfl)).mono ?_
        rintro e w2 ⟨v2, rfl, o2, b2⟩
        have B2 := Lib.hid (below_both B1.out (below_al b2))
        have o2 := o2.mono (B' := V.heap.size) (Nat.le_trans B1.out.size (by simp))
        obtain ⟨g2, c2, rfl, hg2, _, _⟩ := o2.block (by rw [HBL.out.1]; exact HBL.out.2)
        rw [HBL.out.1] at o2 ⊢
        have HG2 := Lib.hid hg2
        obtain ⟨q0, f0, ⟨x1, q1⟩, f1, o3, b3⟩ := HS0.out g2 c2 w2 hg2 o2
        simp only [Nat.reduceAdd] at q1 f1 o3 b3
        obtain ⟨w3, ew3⟩ : ∃ w3, w3 = (w2.setCell ⟨g2, 6, none⟩ (.int .u8 0)).setCell ⟨g2, 7, none⟩ (.int .u8 0) := ⟨_, rfl⟩
        rw [← ew3] at o3 b3
        have B3 := Lib.hid (B2.out.trans b3)
        have O3 := Lib.hid o3
        obtain ⟨A3, c3, e3, _, _, r3w⟩ := o3.out HZ.out.2
        rw [HZ.out.1] at e3 r3w
        cases e3
        have R3 := Lib.hid r3w
        clear o2 b2 hg2 B1 CK c33 o3 b3 B2 r3w
        have HA3 := Lib.hid (HA.out.below B3.out)
        go_upto_region 9 with fail
        rw [← ew3]
        clear ew3 q0 f0 q1 f1
        refine wp_region_lit ?_
        go_wp2_with (refine wpList_load_v rfl 73 (.tmp 2) rfl _ rfl tykey HA3.out hXl ?_)
        refine (CS.out _ _ _ R3.out).mono ?_
        rintro e w4 ⟨rfl, b4⟩
        have c33 := (HA3.out.below b4 |>.get 33).trans HCP.out
        have B4 := Lib.hid (below_both B3.out b4)
        obtain ⟨q0, f0, ⟨x1, q1⟩, f1, o5, b5⟩ := HS1.out g2 c2 w4 HG2.out (O3.out.below b4)
        simp only [Nat.reduceAdd] at q1 f1 o5 b5
        have B5 := Lib.hid (B4.out.trans b5)
        have O5 := Lib.hid o5
        clear b4 B3 O3 HA3 R3 CS o5 b5 B4
        go_upto_region 11 with fail
        go_wp2_with fail
        go_ret2
        exact ⟨_, rfl, O5.out.mono HB.out.size, below_both HB.out B5.out⟩
  · have hF : poSealV k n bs = [] := by unfold poSealV; rw [if_neg (by rw [← hr]; exact h0)]
    rw [hF, ← hr]
    rw [← hr] at CC
    have b0 : ((r : Int) != 0) = true := bne_iff_ne.2 (by omega)
    obtain ⟨X, hX⟩ : ∃ X, X = k.cells := ⟨_, rfl⟩
    rw [← hX] at hXl hXo CC HA eV ⊢
    clear hX hr h0 hF hR hn hcp
    go_enter Try.func50, Try.ntmps50
    go_upto_region 1 with fail
    rw [← eV]
    clear eV
    refine wp_region_lit ?_
    go_wp2_with (refine wpList_load_v rfl 73 (.tmp 2) rfl _ rfl tykey HA.out hXl ?_)
    refine (CC.out _).mono ?_
    rintro e w1 ⟨rfl, b1⟩
    have B1 := Lib.hid (below_both HB.out b1)
    go_wp2_with fail
    go_ret2
    exact ⟨_, rfl, OutIs.nil _ _, B1.out⟩
end Go.Proofs.Ytlopmkmcjcijcaa
