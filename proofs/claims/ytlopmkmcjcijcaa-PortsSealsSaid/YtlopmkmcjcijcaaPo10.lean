/-
  ports: Seal (the program's).
-/
import Derived.Test.YtlopmkmcjcijcaaPo9
namespace Go.Proofs.Ytlopmkmcjcijcaa
open Go.RowKit
set_option linter.unusedVariables false
set_option maxRecDepth 8000

def poAt (p : Int) : Nat := if p = 17 then 6 else 16
def poZero (p : Int) (bs : List Nat) : List Nat := (bs.set (poAt p) 0).set (poAt p + 1) 0
def poLeft (k : KeyV) (n : Nat) (bs : List Nat) : Nat := if 65535 - poSum k n (poZero k.p bs) = 0 ∧ k.p = 17 then 65535 else 65535 - poSum k n (poZero k.p bs)
def poSealed (k : KeyV) (n : Nat) (bs : List Nat) : List Nat := ((poZero k.p bs).set (poAt k.p) (poLeft k n bs / 256)).set (poAt k.p + 1) (poLeft k n bs % 256)
def poSealV (k : KeyV) (n : Nat) (bs : List Nat) : List Nat := if poWrong k.v k.p n = 0 then poSealed k n bs else []
theorem poZero_len (p : Int) (bs : List Nat) : (poZero p bs).length = bs.length := by unfold poZero; rw [List.length_set, List.length_set]
theorem set_byte {l : List Nat} (h : ∀ x ∈ l, x < 256) {i y : Nat} (hy : y < 256) : ∀ x ∈ l.set i y, x < 256 := fun x hx => by
  rcases List.mem_or_eq_of_mem_set hx with h1 | h1
  · exact h x h1
  · rw [h1]; exact hy
theorem poZero_byte {l : List Nat} (h : ∀ x ∈ l, x < 256) (p : Int) : ∀ x ∈ poZero p l, x < 256 := set_byte (set_byte h (by decide)) (by decide)
theorem poSum_le (k : KeyV) (n : Nat) (bs : List Nat) : poSum k n bs ≤ 65535 := by
  unfold poSum
  split
  · exact orest_le _
  · decide
theorem poLeft_le (k : KeyV) (n : Nat) (bs : List Nat) : poLeft k n bs ≤ 65535 := by unfold poLeft; split <;> omega
theorem poSealed_len (k : KeyV) (n : Nat) (bs : List Nat) : (poSealed k n bs).length = bs.length := by unfold poSealed; rw [List.length_set, List.length_set, poZero_len]
theorem poSealed_byte {bs : List Nat} (h : ∀ x ∈ bs, x < 256) (k : KeyV) (n : Nat) : ∀ x ∈ poSealed k n bs, x < 256 := by
  have := poLeft_le k n bs
  exact set_byte (set_byte (poZero_byte h _) (by omega)) (by omega)
theorem left_ints {s l : Nat} (hs : s ≤ 65535) (hl : l = 65535 - s) : wrap64 (65535 - wrap64 (s : Int)) = (l : Int) := by
  subst hl
  unfold wrap64
  omega
theorem at_room {p : Int} {n : Nat} (hp : p = 6 ∨ p = 17) (hl : poLeast p ≤ n) : poAt p + 2 ≤ n ∧ 0 < n := by
  unfold poLeast at hl
  unfold poAt
  rcases hp with rfl | rfl <;> simp at hl ⊢ <;> omega
set_option maxHeartbeats 3200000 in
theorem poseal_any (k : KeyV) (hk : KeyOk k) (A : Option Addr) (n c : Nat) (bs : List Nat) (w : World) (hn : n ≤ 140737488355328) (hR : Row w A n bs) :
    Calls Try.prog 49 #[.agg k.cells.toArray, .slice A n c] w fun e w' => ∃ v, e = .returned (.tuple #[v, .int .i64 (poWrong k.v k.p n : Nat)]) ∧ OutIs w.heap.size w' v (poSealV k n bs) ∧ Below w.heap.size w w' := by
  obtain ⟨hXl, hXo⟩ := hk.all
  have hcp := hk.at_p
  have CC : Hid (∀ w, Calls Try.prog 75 #[.agg k.cells.toArray, .slice A n c] w fun e w' => e = .returned (.int .i64 (poWrong k.v k.p n : Nat)) ∧ Below w.heap.size w w') := fun w => pocheck_any k hk A n c w
  obtain ⟨V, eV⟩ : ∃ V, V = w.alloc (.cells k.cells.toArray 73) := ⟨_, rfl⟩
  have HA : Hid (ArrV 73 V w.heap.size k.cells) := by show ArrV _ _ _ _; rw [eV]; exact ArrV.new _ w _
  have HB : Hid (Below w.heap.size w V) := by show Below _ _ _; rw [eV]; exact (Below.refl _ _).alloc (Nat.le_refl _) _
  obtain ⟨r, hr⟩ : ∃ r, r = poWrong k.v k.p n := ⟨_, rfl⟩
  by_cases h0 : r = 0
  · have h00 : poWrong k.v k.p n = 0 := by rw [← hr]; exact h0
    obtain ⟨hv, hp, hl, hbig⟩ := poWrong_ok h00
    obtain ⟨room, hpos⟩ := at_room hp hl
    have hF : poSealV k n bs = poSealed k n bs := by unfold poSealV; rw [if_pos h00]
    rw [hF, h00]
    rw [h00] at CC
    have CK : Hid (∀ (w : World), Row w A n bs → Calls Try.prog 82 #[.slice A n c] w fun e w' => ∃ v, e = .returned v ∧ OutIs w.heap.size w' v bs ∧ Below w.heap.size w w') := fun w h => clone_any A n c bs w hn h
    obtain ⟨Z, hZ⟩ : ∃ Z, Z = poZero k.p bs := ⟨_, rfl⟩
    have hZl : Z.length = n := by rw [hZ, poZero_len, hR.1]
    have hZb : ∀ x ∈ Z, x < 256 := by rw [hZ]; exact poZero_byte hR.2.1 _
    obtain ⟨s, hs⟩ : ∃ s, s = poSum k n Z := ⟨_, rfl⟩
    have hs2 : s ≤ 65535 := by rw [hs]; exact poSum_le _ _ _
    have CS : Hid (∀ (A : Option Addr) (c : Nat) (w : World), Row w A n Z → Calls Try.prog 47 #[.agg k.cells.toArray, .slice A n c] w fun e w' => e = .returned (.tuple #[.int .u16 (s : Nat), .int .i64 0]) ∧ Below w.heap.size w w') := fun A c w h => by
      have h2 := posum_any k hk A n c Z w hn h
      rw [h00, ← hs] at h2
      exact h2
    obtain ⟨l, hll⟩ : ∃ l, l = 65535 - s := ⟨_, rfl⟩
    have i1 := left_ints hs2 hll
    obtain ⟨f, hf⟩ : ∃ f, f = poLeft k n bs := ⟨_, rfl⟩
    have hf5 : f ≤ 65535 := by rw [hf]; exact poLeft_le _ _ _
    have hfl : f = if l = 0 ∧ k.p = 17 then 65535 else l := by rw [hf]; unfold poLeft; rw [← hZ, ← hs, ← hll]
    obtain ⟨a, ha⟩ : ∃ a, a = poAt k.p := ⟨_, rfl⟩
    have hZ2 : Z = (bs.set a 0).set (a + 1) 0 := by rw [hZ, ha]; rfl
    obtain ⟨E, hE⟩ : ∃ E, E = poSealed k n bs := ⟨_, rfl⟩
    have hE2 : E = (Z.set a (f / 256)).set (a + 1) (f % 256) := by rw [hE, hZ, ha, hf]; rfl
    rw [← hE]
    rw [← ha] at room
    have hbl := hR.1
    obtain ⟨aI, haI⟩ : ∃ x : Int, x = (a : Int) := ⟨_, rfl⟩
    obtain ⟨fI, hfI⟩ : ∃ x : Int, x = (f : Int) := ⟨_, rfl⟩
    obtain ⟨lI, hlI⟩ : ∃ x : Int, x = (l : Int) := ⟨_, rfl⟩
    rw [← hlI] at i1
    have CP0 : Hid (∀ (g c : Nat) (W : World), V.heap.size ≤ g → OutIs V.heap.size W (.slice (some ⟨g, 0, none⟩) n c) bs → Calls Try.prog 74 #[.slice (some ⟨g, 0, none⟩) n c, .int .i64 aI, .int .i64 0] W fun e w' => (∃ r, e = .returned r) ∧ OutIs V.heap.size w' (.slice (some ⟨g, 0, none⟩) n c) Z ∧ Below V.heap.size W w') := fun g c W hg ho => by
      have h := poput_out g n c a bs 0 W hbl (by decide) room hn hg ho
      rw [hZ2, haI]
      exact h
    have CP1 : Hid (∀ (g c : Nat) (W : World), V.heap.size ≤ g → OutIs V.heap.size W (.slice (some ⟨g, 0, none⟩) n c) Z → Calls Try.prog 74 #[.slice (some ⟨g, 0, none⟩) n c, .int .i64 aI, .int .i64 fI] W fun e w' => (∃ r, e = .returned r) ∧ OutIs V.heap.size w' (.slice (some ⟨g, 0, none⟩) n c) E ∧ Below V.heap.size W w') := fun g c W hg ho => by
      have h := poput_out g n c a Z f W hZl hf5 room hn hg ho
      rw [hE2, haI, hfI]
      exact h
    have HR := Lib.hid hR
    have HBL := Lib.hid (And.intro hbl hpos)
    have HZ := Lib.hid (And.intro hZl hZb)
    have hca : aI = if k.p = 17 then 6 else 16 := by rw [haI, ha]; unfold poAt; split <;> rfl
    have hfl0 := hfl
    clear hfl
    have hfl : fI = if lI = 0 ∧ k.p = 17 then 65535 else lI := by
      rw [hfI, hfl0, hlI]
      by_cases h1 : l = 0 ∧ k.p = 17
      · rw [if_pos h1, if_pos ⟨by omega, h1.2⟩]; rfl
      · rw [if_neg h1, if_neg (fun h => h1 ⟨by omega, h.2⟩)]
    obtain ⟨p, hpp⟩ : ∃ p, p = k.p := ⟨_, rfl⟩
    rw [← hpp] at hcp hp hfl hca
    obtain ⟨X, hX⟩ : ∃ X, X = k.cells := ⟨_, rfl⟩
    rw [← hX] at hXl hXo CC CS HA eV hcp ⊢
    have c33 := (HA.out.get 33).trans hcp
    obtain ⟨g0, hg0⟩ : ∃ g, g = w.heap.size := ⟨_, rfl⟩
    have HG0 := Lib.hid hg0
    have HCP := Lib.hid hcp
    rw [← hg0] at c33 HA
    clear hX hr h0 h00 hv hl hbig room hpos hF hZ hZl hZb hs hs2 hll hf hf5 ha hZ2 hE hE2 hbl hpp hR hn hg0 hcp haI hfI hlI hfl0
    rcases hp with hp | hp
    · subst hp
      have ha16 : aI = 16 := by rw [hca]; rfl
      have hfl2 : fI = lI := by rw [hfl, if_neg (fun h => absurd h.2 (by decide))]
      clear hfl
      subst ha16 hfl2
      clear hca
      by_cases hl0 : fI = 0
      · subst hl0
        go_enter Try.func49, Try.ntmps49
        go_upto_region 1 with fail
        rw [← eV, ← HG0.out]
        clear eV
        refine wp_region_lit ?_
        go_wp2_with (refine wpList_load_v rfl 73 (.tmp 2) rfl _ rfl tykey HA.out hXl ?_)
        refine (CC.out _).mono ?_
        rintro e w1 ⟨rfl, b1⟩
        have c33 := (HA.out.below b1 |>.get 33).trans HCP.out
        have B1 := Lib.hid b1
        clear b1 CC
        go_wp2_with fail
        refine (CK.out _ ((HR.out.below HB.out).below B1.out)).mono ?_
        rintro e w2 ⟨v2, rfl, o2, b2⟩
        have B2 := Lib.hid (below_both B1.out b2)
        have o2 := o2.mono B1.out.size
        obtain ⟨g2, c2, rfl, hg2, _, _⟩ := o2.block (by rw [HBL.out.1]; exact HBL.out.2)
        rw [HBL.out.1] at o2 ⊢
        have O2 := Lib.hid o2
        have HG2 := Lib.hid hg2
        clear o2 b2 hg2 B1 CK c33
        go_wp2_with fail
        refine (CP0.out _ _ _ HG2.out O2.out).mono ?_
        rintro e w3 ⟨⟨r3, rfl⟩, o3, b3⟩
        have B3 := Lib.hid (B2.out.trans b3)
        have O3 := Lib.hid o3
        obtain ⟨A3, c3, e3, _, _, r3w⟩ := o3.out HZ.out.2
        rw [HZ.out.1] at e3 r3w
        cases e3
        have R3 := Lib.hid r3w
        clear o3 b3 B2 O2 r3w CP0
        have HA3 := Lib.hid (HA.out.below B3.out)
        go_upto_region 9 with fail
        refine wp_region_lit ?_
        go_wp2_with (refine wpList_load_v rfl 73 (.tmp 2) rfl _ rfl tykey HA3.out hXl ?_)
        refine (CS.out _ _ _ R3.out).mono ?_
        rintro e w4 ⟨rfl, b4⟩
        have c33 := (HA3.out.below b4 |>.get 33).trans HCP.out
        have B4 := Lib.hid (below_both B3.out b4)
        have O4 := Lib.hid (O3.out.below b4)
        clear b4 B3 O3 HA3 R3 CS
        go_upto_region 11 with fail
        simp only [i1]
        go_wp2_with fail
        refine (CP1.out _ _ _ HG2.out O4.out).mono ?_
        rintro e w5 ⟨⟨r5, rfl⟩, o5, b5⟩
        have B5 := Lib.hid (B4.out.trans b5)
        have O5 := Lib.hid o5
        clear o5 b5 B4 O4 CP1 c33
        go_wp2_with fail
        go_ret2
        exact ⟨_, rfl, O5.out.mono HB.out.size, below_both HB.out B5.out⟩
      · have bl : (fI == 0) = false := beq_false_of_ne hl0
        clear hl0
        go_enter Try.func49, Try.ntmps49
        go_upto_region 1 with fail
        rw [← eV, ← HG0.out]
        clear eV
        refine wp_region_lit ?_
        go_wp2_with (refine wpList_load_v rfl 73 (.tmp 2) rfl _ rfl tykey HA.out hXl ?_)
        refine (CC.out _).mono ?_
        rintro e w1 ⟨rfl, b1⟩
        have c33 := (HA.out.below b1 |>.get 33).trans HCP.out
        have B1 := Lib.hid b1
        clear b1 CC
        go_wp2_with fail
        refine (CK.out _ ((HR.out.below HB.out).below B1.out)).mono ?_
        rintro e w2 ⟨v2, rfl, o2, b2⟩
        have B2 := Lib.hid (below_both B1.out b2)
        have o2 := o2.mono B1.out.size
        obtain ⟨g2, c2, rfl, hg2, _, _⟩ := o2.block (by rw [HBL.out.1]; exact HBL.out.2)
        rw [HBL.out.1] at o2 ⊢
        have O2 := Lib.hid o2
        have HG2 := Lib.hid hg2
        clear o2 b2 hg2 B1 CK c33
        go_wp2_with fail
        refine (CP0.out _ _ _ HG2.out O2.out).mono ?_
        rintro e w3 ⟨⟨r3, rfl⟩, o3, b3⟩
        have B3 := Lib.hid (B2.out.trans b3)
        have O3 := Lib.hid o3
        obtain ⟨A3, c3, e3, _, _, r3w⟩ := o3.out HZ.out.2
        rw [HZ.out.1] at e3 r3w
        cases e3
        have R3 := Lib.hid r3w
        clear o3 b3 B2 O2 r3w CP0
        have HA3 := Lib.hid (HA.out.below B3.out)
        go_upto_region 9 with fail
        refine wp_region_lit ?_
        go_wp2_with (refine wpList_load_v rfl 73 (.tmp 2) rfl _ rfl tykey HA3.out hXl ?_)
        refine (CS.out _ _ _ R3.out).mono ?_
        rintro e w4 ⟨rfl, b4⟩
        have c33 := (HA3.out.below b4 |>.get 33).trans HCP.out
        have B4 := Lib.hid (below_both B3.out b4)
        have O4 := Lib.hid (O3.out.below b4)
        clear b4 B3 O3 HA3 R3 CS
        go_upto_region 11 with fail
        simp only [i1]
        go_wp2_with fail
        refine (CP1.out _ _ _ HG2.out O4.out).mono ?_
        rintro e w5 ⟨⟨r5, rfl⟩, o5, b5⟩
        have B5 := Lib.hid (B4.out.trans b5)
        have O5 := Lib.hid o5
        clear o5 b5 B4 O4 CP1 c33
        go_wp2_with fail
        go_ret2
        exact ⟨_, rfl, O5.out.mono HB.out.size, below_both HB.out B5.out⟩
    · subst hp
      have ha6 : aI = 6 := by rw [hca]; rfl
      subst ha6
      clear hca
      by_cases hl0 : lI = 0
      · subst hl0
        have hf5 : fI = 65535 := by rw [hfl, if_pos ⟨rfl, rfl⟩]
        subst hf5
        clear hfl
        go_enter Try.func49, Try.ntmps49
        go_upto_region 1 with fail
        rw [← eV, ← HG0.out]
        clear eV
        refine wp_region_lit ?_
        go_wp2_with (refine wpList_load_v rfl 73 (.tmp 2) rfl _ rfl tykey HA.out hXl ?_)
        refine (CC.out _).mono ?_
        rintro e w1 ⟨rfl, b1⟩
        have c33 := (HA.out.below b1 |>.get 33).trans HCP.out
        have B1 := Lib.hid b1
        clear b1 CC
        go_wp2_with fail
        refine (CK.out _ ((HR.out.below HB.out).below B1.out)).mono ?_
        rintro e w2 ⟨v2, rfl, o2, b2⟩
        have B2 := Lib.hid (below_both B1.out b2)
        have o2 := o2.mono B1.out.size
        obtain ⟨g2, c2, rfl, hg2, _, _⟩ := o2.block (by rw [HBL.out.1]; exact HBL.out.2)
        rw [HBL.out.1] at o2 ⊢
        have O2 := Lib.hid o2
        have HG2 := Lib.hid hg2
        clear o2 b2 hg2 B1 CK c33
        go_wp2_with fail
        refine (CP0.out _ _ _ HG2.out O2.out).mono ?_
        rintro e w3 ⟨⟨r3, rfl⟩, o3, b3⟩
        have B3 := Lib.hid (B2.out.trans b3)
        have O3 := Lib.hid o3
        obtain ⟨A3, c3, e3, _, _, r3w⟩ := o3.out HZ.out.2
        rw [HZ.out.1] at e3 r3w
        cases e3
        have R3 := Lib.hid r3w
        clear o3 b3 B2 O2 r3w CP0
        have HA3 := Lib.hid (HA.out.below B3.out)
        go_upto_region 9 with fail
        refine wp_region_lit ?_
        go_wp2_with (refine wpList_load_v rfl 73 (.tmp 2) rfl _ rfl tykey HA3.out hXl ?_)
        refine (CS.out _ _ _ R3.out).mono ?_
        rintro e w4 ⟨rfl, b4⟩
        have c33 := (HA3.out.below b4 |>.get 33).trans HCP.out
        have B4 := Lib.hid (below_both B3.out b4)
        have O4 := Lib.hid (O3.out.below b4)
        clear b4 B3 O3 HA3 R3 CS
        go_upto_region 11 with fail
        simp only [i1]
        go_wp2_with fail
        refine (CP1.out _ _ _ HG2.out O4.out).mono ?_
        rintro e w5 ⟨⟨r5, rfl⟩, o5, b5⟩
        have B5 := Lib.hid (B4.out.trans b5)
        have O5 := Lib.hid o5
        clear o5 b5 B4 O4 CP1 c33
        go_wp2_with fail
        go_ret2
        exact ⟨_, rfl, O5.out.mono HB.out.size, below_both HB.out B5.out⟩
      · have hfl2 : fI = lI := by rw [hfl, if_neg (fun h => hl0 h.1)]
        subst hfl2
        have bl : (fI == 0) = false := beq_false_of_ne hl0
        clear hl0 hfl
        go_enter Try.func49, Try.ntmps49
        go_upto_region 1 with fail
        rw [← eV, ← HG0.out]
        clear eV
        refine wp_region_lit ?_
        go_wp2_with (refine wpList_load_v rfl 73 (.tmp 2) rfl _ rfl tykey HA.out hXl ?_)
        refine (CC.out _).mono ?_
        rintro e w1 ⟨rfl, b1⟩
        have c33 := (HA.out.below b1 |>.get 33).trans HCP.out
        have B1 := Lib.hid b1
        clear b1 CC
        go_wp2_with fail
        refine (CK.out _ ((HR.out.below HB.out).below B1.out)).mono ?_
        rintro e w2 ⟨v2, rfl, o2, b2⟩
        have B2 := Lib.hid (below_both B1.out b2)
        have o2 := o2.mono B1.out.size
        obtain ⟨g2, c2, rfl, hg2, _, _⟩ := o2.block (by rw [HBL.out.1]; exact HBL.out.2)
        rw [HBL.out.1] at o2 ⊢
        have O2 := Lib.hid o2
        have HG2 := Lib.hid hg2
        clear o2 b2 hg2 B1 CK c33
        go_wp2_with fail
        refine (CP0.out _ _ _ HG2.out O2.out).mono ?_
        rintro e w3 ⟨⟨r3, rfl⟩, o3, b3⟩
        have B3 := Lib.hid (B2.out.trans b3)
        have O3 := Lib.hid o3
        obtain ⟨A3, c3, e3, _, _, r3w⟩ := o3.out HZ.out.2
        rw [HZ.out.1] at e3 r3w
        cases e3
        have R3 := Lib.hid r3w
        clear o3 b3 B2 O2 r3w CP0
        have HA3 := Lib.hid (HA.out.below B3.out)
        go_upto_region 9 with fail
        refine wp_region_lit ?_
        go_wp2_with (refine wpList_load_v rfl 73 (.tmp 2) rfl _ rfl tykey HA3.out hXl ?_)
        refine (CS.out _ _ _ R3.out).mono ?_
        rintro e w4 ⟨rfl, b4⟩
        have c33 := (HA3.out.below b4 |>.get 33).trans HCP.out
        have B4 := Lib.hid (below_both B3.out b4)
        have O4 := Lib.hid (O3.out.below b4)
        clear b4 B3 O3 HA3 R3 CS
        go_upto_region 11 with fail
        simp only [i1]
        go_wp2_with fail
        refine (CP1.out _ _ _ HG2.out O4.out).mono ?_
        rintro e w5 ⟨⟨r5, rfl⟩, o5, b5⟩
        have B5 := Lib.hid (B4.out.trans b5)
        have O5 := Lib.hid o5
        clear o5 b5 B4 O4 CP1 c33
        go_wp2_with fail
        go_ret2
        exact ⟨_, rfl, O5.out.mono HB.out.size, below_both HB.out B5.out⟩
  · have hF : poSealV k n bs = [] := by unfold poSealV; rw [if_neg (by rw [← hr]; exact h0)]
    rw [hF, ← hr]
    rw [← hr] at CC
    have b0 : ((r : Int) != 0) = true := bne_iff_ne.2 (by omega)
    obtain ⟨X, hX⟩ : ∃ X, X = k.cells := ⟨_, rfl⟩
    rw [← hX] at hXl hXo CC HA eV ⊢
    clear hX hr h0 hF hR hn hcp
    go_enter Try.func49, Try.ntmps49
    go_upto_region 1 with fail
    rw [← eV]
    clear eV
    refine wp_region_lit ?_
    go_wp2_with (refine wpList_load_v rfl 73 (.tmp 2) rfl _ rfl tykey HA.out hXl ?_)
    refine (CC.out _).mono ?_
    rintro e w1 ⟨rfl, b1⟩
    have B1 := Lib.hid (below_both HB.out b1)
    go_wp2_with fail
    go_ret2
    exact ⟨_, rfl, OutIs.nil _ _, B1.out⟩
end Go.Proofs.Ytlopmkmcjcijcaa
