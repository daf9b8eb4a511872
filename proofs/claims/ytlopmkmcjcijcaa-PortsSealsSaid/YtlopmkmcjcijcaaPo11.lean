/-
  The document's wrong and ahead of layer 13.
-/
import Derived.Test.YtlopmkmcjcijcaaPo10
import Derived.Deep.RegionHeld3
namespace Go.Proofs.Ytlopmkmcjcijcaa
open Go.RowKit
set_option linter.unusedVariables false
set_option maxRecDepth 8000

theorem ahead_ints {n y z : Nat} (hn : n ≤ 65535) (hy : y = n / 256) (hz : z = n % 256) : IntKind.i64.wrap (y : Int) = (y : Int) ∧ Int.tmod (n : Int) 256 = (z : Int) ∧ IntKind.u8.wrap (z : Int) = (z : Int) := by
  refine ⟨IntWalk.i64_in _ (by omega), by rw [Int.tmod_eq_emod_of_nonneg (by omega)]; omega, ?_⟩
  show (z : Int) % 256 = _
  omega
set_option maxHeartbeats 1600000 in
theorem rpowrong_any (k : KeyV) (hk : KeyOk k) (A : Option Addr) (n c : Nat) (w : World) :
    Calls Try.prog 79 #[.agg k.cells.toArray, .slice A n c] w fun e w' => e = .returned (.int .i64 (poWrong k.v k.p n : Nat)) ∧ Below w.heap.size w w' := by
  obtain ⟨hXl, hXo⟩ := hk.all
  have hp := hk.at_p
  have hv : k.cells[0]? = some (.int .i64 k.v) := rfl
  obtain ⟨X, hX⟩ : ∃ X, X = k.cells := ⟨_, rfl⟩
  rw [← hX] at hXl hXo hp hv ⊢
  obtain ⟨v, hvv⟩ : ∃ v, v = k.v := ⟨_, rfl⟩
  obtain ⟨p, hpp⟩ : ∃ p, p = k.p := ⟨_, rfl⟩
  rw [← hvv] at hv ⊢
  rw [← hpp] at hp ⊢
  obtain ⟨V, eV⟩ : ∃ V, V = w.alloc (.cells X.toArray 73) := ⟨_, rfl⟩
  have hA : ArrV 73 V w.heap.size X := by rw [eV]; exact ArrV.new _ w X
  have HB : Hid (Below w.heap.size w V) := by show Below _ _ _; rw [eV]; exact (Below.refl _ _).alloc (Nat.le_refl _) _
  have c0 := (hA.get 0).trans hv
  have c33 := (hA.get 33).trans hp
  have CL := Lib.hid (rpoleast_any p)
  obtain ⟨g, hg⟩ : ∃ g, g = w.heap.size := ⟨_, rfl⟩
  rw [← hg] at c0 c33
  obtain ⟨l, hl⟩ : ∃ l, l = poLeast p := ⟨_, rfl⟩
  rw [← hl] at CL
  have HG := Lib.hid hg
  have HL := Lib.hid hl
  clear hX hvv hpp hXl hXo hp hv hA hk hg hl
  by_cases v4 : v = 4
  · subst v4
    by_cases p6 : p = 6
    · subst p6
      by_cases hn : n < l
      · have hF : poWrong 4 6 n = 2 := by unfold poWrong; rw [if_neg (by decide), if_neg (by decide), if_pos (by rw [← HL.out]; exact hn)]
        have hI : (n : Int) < (l : Int) := Int.ofNat_lt.2 hn
        rw [hF]
        clear hF hn
        go_enter Try.func79, Try.ntmps79
        go_upto_region 1 with fail
        rw [← eV, ← HG.out]
        clear eV
        go_wp2_with fail
        refine (CL.out _).mono ?_
        rintro e w' ⟨rfl, rfl⟩
        go_wp2_with fail
        go_ret
        exact ⟨rfl, HB.out⟩
      · by_cases hbig : 65535 < n
        · have hF : poWrong 4 6 n = 18 := by unfold poWrong; rw [if_neg (by decide), if_neg (by decide), if_neg (by rw [← HL.out]; exact hn), if_pos hbig]
          have hI : ¬ (n : Int) < (l : Int) := fun h => hn (Int.ofNat_lt.1 h)
          have hJ : (65535 : Int) < (n : Int) := by omega
          rw [hF]
          clear hF hn hbig
          go_enter Try.func79, Try.ntmps79
          go_upto_region 1 with fail
          rw [← eV, ← HG.out]
          clear eV
          go_wp2_with fail
          refine (CL.out _).mono ?_
          rintro e w' ⟨rfl, rfl⟩
          go_wp2_with fail
          go_ret
          exact ⟨rfl, HB.out⟩
        · have hF : poWrong 4 6 n = 0 := by unfold poWrong; rw [if_neg (by decide), if_neg (by decide), if_neg (by rw [← HL.out]; exact hn), if_neg hbig]
          have hI : ¬ (n : Int) < (l : Int) := fun h => hn (Int.ofNat_lt.1 h)
          have hJ : ¬ (65535 : Int) < (n : Int) := by omega
          rw [hF]
          clear hF hn hbig
          go_enter Try.func79, Try.ntmps79
          go_upto_region 1 with fail
          rw [← eV, ← HG.out]
          clear eV
          go_wp2_with fail
          refine (CL.out _).mono ?_
          rintro e w' ⟨rfl, rfl⟩
          go_wp2_with fail
          go_ret
          exact ⟨rfl, HB.out⟩
    · by_cases p17 : p = 17
      · subst p17
        by_cases hn : n < l
        · have hF : poWrong 4 17 n = 2 := by unfold poWrong; rw [if_neg (by decide), if_neg (by decide), if_pos (by rw [← HL.out]; exact hn)]
          have hI : (n : Int) < (l : Int) := Int.ofNat_lt.2 hn
          rw [hF]
          clear hF hn
          go_enter Try.func79, Try.ntmps79
          go_upto_region 1 with fail
          rw [← eV, ← HG.out]
          clear eV
          go_wp2_with fail
          refine (CL.out _).mono ?_
          rintro e w' ⟨rfl, rfl⟩
          go_wp2_with fail
          go_ret
          exact ⟨rfl, HB.out⟩
        · by_cases hbig : 65535 < n
          · have hF : poWrong 4 17 n = 18 := by unfold poWrong; rw [if_neg (by decide), if_neg (by decide), if_neg (by rw [← HL.out]; exact hn), if_pos hbig]
            have hI : ¬ (n : Int) < (l : Int) := fun h => hn (Int.ofNat_lt.1 h)
            have hJ : (65535 : Int) < (n : Int) := by omega
            rw [hF]
            clear hF hn hbig
            go_enter Try.func79, Try.ntmps79
            go_upto_region 1 with fail
            rw [← eV, ← HG.out]
            clear eV
            go_wp2_with fail
            refine (CL.out _).mono ?_
            rintro e w' ⟨rfl, rfl⟩
            go_wp2_with fail
            go_ret
            exact ⟨rfl, HB.out⟩
          · have hF : poWrong 4 17 n = 0 := by unfold poWrong; rw [if_neg (by decide), if_neg (by decide), if_neg (by rw [← HL.out]; exact hn), if_neg hbig]
            have hI : ¬ (n : Int) < (l : Int) := fun h => hn (Int.ofNat_lt.1 h)
            have hJ : ¬ (65535 : Int) < (n : Int) := by omega
            rw [hF]
            clear hF hn hbig
            go_enter Try.func79, Try.ntmps79
            go_upto_region 1 with fail
            rw [← eV, ← HG.out]
            clear eV
            go_wp2_with fail
            refine (CL.out _).mono ?_
            rintro e w' ⟨rfl, rfl⟩
            go_wp2_with fail
            go_ret
            exact ⟨rfl, HB.out⟩
      · have hF : poWrong 4 p n = 10 := by unfold poWrong; rw [if_neg (by decide), if_pos ⟨p6, p17⟩]
        have b6 : (p != 6) = true := bne_iff_ne.2 p6
        have b17 : (p != 17) = true := bne_iff_ne.2 p17
        rw [hF]
        clear hF p6 p17
        go_enter Try.func79, Try.ntmps79
        go_upto_region 1 with fail
        rw [← eV, ← HG.out]
        clear eV
        go_wp2_with fail
        go_ret
        exact ⟨rfl, HB.out⟩
  · by_cases v6 : v = 6
    · subst v6
      by_cases p6 : p = 6
      · subst p6
        by_cases hn : n < l
        · have hF : poWrong 6 6 n = 2 := by unfold poWrong; rw [if_neg (by decide), if_neg (by decide), if_pos (by rw [← HL.out]; exact hn)]
          have hI : (n : Int) < (l : Int) := Int.ofNat_lt.2 hn
          rw [hF]
          clear hF hn
          go_enter Try.func79, Try.ntmps79
          go_upto_region 1 with fail
          rw [← eV, ← HG.out]
          clear eV
          go_wp2_with fail
          refine (CL.out _).mono ?_
          rintro e w' ⟨rfl, rfl⟩
          go_wp2_with fail
          go_ret
          exact ⟨rfl, HB.out⟩
        · by_cases hbig : 65535 < n
          · have hF : poWrong 6 6 n = 18 := by unfold poWrong; rw [if_neg (by decide), if_neg (by decide), if_neg (by rw [← HL.out]; exact hn), if_pos hbig]
            have hI : ¬ (n : Int) < (l : Int) := fun h => hn (Int.ofNat_lt.1 h)
            have hJ : (65535 : Int) < (n : Int) := by omega
            rw [hF]
            clear hF hn hbig
            go_enter Try.func79, Try.ntmps79
            go_upto_region 1 with fail
            rw [← eV, ← HG.out]
            clear eV
            go_wp2_with fail
            refine (CL.out _).mono ?_
            rintro e w' ⟨rfl, rfl⟩
            go_wp2_with fail
            go_ret
            exact ⟨rfl, HB.out⟩
          · have hF : poWrong 6 6 n = 0 := by unfold poWrong; rw [if_neg (by decide), if_neg (by decide), if_neg (by rw [← HL.out]; exact hn), if_neg hbig]
            have hI : ¬ (n : Int) < (l : Int) := fun h => hn (Int.ofNat_lt.1 h)
            have hJ : ¬ (65535 : Int) < (n : Int) := by omega
            rw [hF]
            clear hF hn hbig
            go_enter Try.func79, Try.ntmps79
            go_upto_region 1 with fail
            rw [← eV, ← HG.out]
            clear eV
            go_wp2_with fail
            refine (CL.out _).mono ?_
            rintro e w' ⟨rfl, rfl⟩
            go_wp2_with fail
            go_ret
            exact ⟨rfl, HB.out⟩
      · by_cases p17 : p = 17
        · subst p17
          by_cases hn : n < l
          · have hF : poWrong 6 17 n = 2 := by unfold poWrong; rw [if_neg (by decide), if_neg (by decide), if_pos (by rw [← HL.out]; exact hn)]
            have hI : (n : Int) < (l : Int) := Int.ofNat_lt.2 hn
            rw [hF]
            clear hF hn
            go_enter Try.func79, Try.ntmps79
            go_upto_region 1 with fail
            rw [← eV, ← HG.out]
            clear eV
            go_wp2_with fail
            refine (CL.out _).mono ?_
            rintro e w' ⟨rfl, rfl⟩
            go_wp2_with fail
            go_ret
            exact ⟨rfl, HB.out⟩
          · by_cases hbig : 65535 < n
            · have hF : poWrong 6 17 n = 18 := by unfold poWrong; rw [if_neg (by decide), if_neg (by decide), if_neg (by rw [← HL.out]; exact hn), if_pos hbig]
              have hI : ¬ (n : Int) < (l : Int) := fun h => hn (Int.ofNat_lt.1 h)
              have hJ : (65535 : Int) < (n : Int) := by omega
              rw [hF]
              clear hF hn hbig
              go_enter Try.func79, Try.ntmps79
              go_upto_region 1 with fail
              rw [← eV, ← HG.out]
              clear eV
              go_wp2_with fail
              refine (CL.out _).mono ?_
              rintro e w' ⟨rfl, rfl⟩
              go_wp2_with fail
              go_ret
              exact ⟨rfl, HB.out⟩
            · have hF : poWrong 6 17 n = 0 := by unfold poWrong; rw [if_neg (by decide), if_neg (by decide), if_neg (by rw [← HL.out]; exact hn), if_neg hbig]
              have hI : ¬ (n : Int) < (l : Int) := fun h => hn (Int.ofNat_lt.1 h)
              have hJ : ¬ (65535 : Int) < (n : Int) := by omega
              rw [hF]
              clear hF hn hbig
              go_enter Try.func79, Try.ntmps79
              go_upto_region 1 with fail
              rw [← eV, ← HG.out]
              clear eV
              go_wp2_with fail
              refine (CL.out _).mono ?_
              rintro e w' ⟨rfl, rfl⟩
              go_wp2_with fail
              go_ret
              exact ⟨rfl, HB.out⟩
        · have hF : poWrong 6 p n = 10 := by unfold poWrong; rw [if_neg (by decide), if_pos ⟨p6, p17⟩]
          have b6 : (p != 6) = true := bne_iff_ne.2 p6
          have b17 : (p != 17) = true := bne_iff_ne.2 p17
          rw [hF]
          clear hF p6 p17
          go_enter Try.func79, Try.ntmps79
          go_upto_region 1 with fail
          rw [← eV, ← HG.out]
          clear eV
          go_wp2_with fail
          go_ret
          exact ⟨rfl, HB.out⟩
    · have hF : poWrong v p n = 4 := by unfold poWrong; rw [if_pos ⟨v4, v6⟩]
      have b4 : (v != 4) = true := bne_iff_ne.2 v4
      have b6 : (v != 6) = true := bne_iff_ne.2 v6
      rw [hF]
      clear hF v4 v6
      go_enter Try.func79, Try.ntmps79
      go_upto_region 1 with fail
      rw [← eV, ← HG.out]
      clear eV
      go_wp2_with fail
      go_ret
      exact ⟨rfl, HB.out⟩
set_option maxHeartbeats 1600000 in
theorem rpoahead_any (k : KeyV) (hk : KeyOk k) (P n : Nat) (w : World) (hP : k.p = (P : Int)) (hP2 : P < 256) (hn : n ≤ 65535) :
    Calls Try.prog 81 #[.agg k.cells.toArray, .int .i64 n] w fun e w' => ∃ v, e = .returned v ∧ OutIs w.heap.size w' v (poAhead k P n) ∧ Below w.heap.size w w' := by
  obtain ⟨hXl, hXo⟩ := hk.all
  have hp := hk.at_p
  have hv : k.cells[0]? = some (.int .i64 k.v) := rfl
  obtain ⟨V, eV⟩ : ∃ V, V = w.alloc (.cells k.cells.toArray 73) := ⟨_, rfl⟩
  have hA : ArrV 73 V w.heap.size k.cells := by rw [eV]; exact ArrV.new _ w _
  have HB : Hid (Below w.heap.size w V) := by show Below _ _ _; rw [eV]; exact (Below.refl _ _).alloc (Nat.le_refl _) _
  have RS := Lib.hid (hk.src_row hA)
  have RD := Lib.hid (hk.dst_row hA)
  have HS := Lib.hid (And.intro (And.intro hk.sl hk.dl) (And.intro hk.sb hk.db))
  have c0 := (hA.get 0).trans hv
  have c33 := (hA.get 33).trans hp
  rw [hP] at c33
  obtain ⟨X, hX⟩ : ∃ X, X = k.cells := ⟨_, rfl⟩
  rw [← hX] at eV ⊢
  obtain ⟨y, hy⟩ : ∃ y, y = n / 256 := ⟨_, rfl⟩
  obtain ⟨z, hz⟩ : ∃ z, z = n % 256 := ⟨_, rfl⟩
  obtain ⟨i1, i2, i3, i4, i5, i6, i7, i8⟩ := pseudo_ints hn hP2 hy hz
  obtain ⟨j1, j2, j3⟩ := ahead_ints hn hy hz
  have HF : Hid (poAhead k P n = if k.v = 4 then k.src.take 4 ++ k.dst.take 4 ++ [0, P, y, z] else k.src ++ k.dst ++ [0, 0, y, z, 0, 0, 0, P]) := by show _ = _; rw [hy, hz]; rfl
  have HYZ := Lib.hid (And.intro hP2 (And.intro i2 i8))
  obtain ⟨src, hsrc⟩ : ∃ s, s = k.src := ⟨_, rfl⟩
  obtain ⟨dst, hdst⟩ : ∃ s, s = k.dst := ⟨_, rfl⟩
  obtain ⟨v, hvv⟩ : ∃ v, v = k.v := ⟨_, rfl⟩
  obtain ⟨Q, hQ⟩ : ∃ Q, Q = poAhead k P n := ⟨_, rfl⟩
  rw [← hsrc] at RS HS HF
  rw [← hdst] at RD HS HF
  rw [← hvv] at c0 HF
  rw [← hQ] at HF ⊢
  obtain ⟨g, hg⟩ : ∃ g, g = w.heap.size := ⟨_, rfl⟩
  rw [← hg] at c0 c33 RS RD
  have HG := Lib.hid hg
  clear hX hXl hXo hp hv hA hk hsrc hdst hvv hQ hg hP hP2 hn hy hz i2 i8
  go_enter Try.func81, Try.ntmps81
  go_upto_region 1 with fail
  rw [← eV, ← HG.out]
  clear eV
  by_cases v4 : v = 4
  · subst v4
    go_upto_region 2 with fail
    have HQ : Hid (Q = src.take 4 ++ dst.take 4 ++ [0, P, y, z]) := by show _ = _; rw [HF.out, if_pos rfl]
    have CC : Hid (∀ (W2 : World) (g2 h : Nat), Below V.heap.size V W2 → W2.cell? ⟨g2, 0, none⟩ = some (.slice (some ⟨g, 1, none⟩) 4 16) → W2.cell? ⟨g2, 1, none⟩ = some (.slice (some ⟨g, 17, none⟩) 4 16) → W2.cell? ⟨g2, 2, none⟩ = some (.slice (some ⟨h, 0, none⟩) 4 4) → Own W2 h [0, P, y, z] →
        Calls Try.prog 58 #[.slice (some ⟨g2, 0, none⟩) 3 3] W2 fun e w' => ∃ v, e = .returned v ∧ OutIs V.heap.size w' v Q ∧ Below V.heap.size V w') := fun W2 g2 h hb h0 h1 h2 ho => by
      have r0 := RS.out.below hb
      have r1 := RD.out.below hb
      have r2 : Row W2 (some ⟨h, 0, none⟩) 4 [0, P, y, z] := ho.row (fun x hx => by
        have := HYZ.out
        simp at hx
        omega)
      have q0 := r0.part 0 4 (by decide)
      have q1 := r1.part 0 4 (by decide)
      rw [List.drop_zero, Nat.add_zero] at q0 q1
      have hfl : flat [⟨some ⟨g, 1, none⟩, 4, 16, src.take 4⟩, ⟨some ⟨g, 17, none⟩, 4, 16, dst.take 4⟩, ⟨some ⟨h, 0, none⟩, 4, 4, [0, P, y, z]⟩] = Q := by rw [HQ.out]; simp [flat]
      have hll : Q.length = 12 := by rw [HQ.out, List.length_append, List.length_append, q0.1, q1.1]; rfl
      refine (join_any g2 3 [⟨some ⟨g, 1, none⟩, 4, 16, src.take 4⟩, ⟨some ⟨g, 17, none⟩, 4, 16, dst.take 4⟩, ⟨some ⟨h, 0, none⟩, 4, 4, [0, P, y, z]⟩] W2 (by show (3 : Nat) ≤ _; decide) (by rw [hfl, hll]; decide) (pieces_three h0 h1 h2 q0 q1 r2 (by show (4 : Nat) ≤ _; decide) (by show (4 : Nat) ≤ _; decide) (by show (4 : Nat) ≤ _; decide)) 3 rfl).mono ?_
      rintro e w' ⟨v, rfl, ho', hb'⟩
      rw [hfl] at ho'
      exact ⟨v, rfl, ho'.mono hb.size, hb.trans (hb'.mono hb.size)⟩
    have hCell : Hid (∀ W, Below V.heap.size V W → W.cell? ⟨g, 33, none⟩ = some (.int .i64 P)) := fun W h => (h.cell (p := ⟨g, 33, none⟩) (cell_lt c33)).trans c33
    clear c0
    go_region_held3 (fun w' => w'.cell? ⟨g, 33, none⟩ = some (.int .i64 P))
      (first | exact c33 | exact hTwo | go_keep)
      (first
      | (go_at_call 58; refine (CC.out _ _ _ (by exact (((Below.refl _ _).alloc (Nat.le_refl _) _).alloc (by simp) _).drew) (by exact new_at _ _ _ _ _ _ (by simp) rfl) (by exact new_at _ _ _ _ _ _ (by simp) rfl) (by exact new_at _ _ _ _ _ _ (by simp) rfl) (by exact ((Own.new _ [0, P, y, z]).alloc _))).mono ?_; rintro e w' ⟨v', rfl, ho, hb⟩; have hTwo := hCell.out _ hb)
      | fail)
    all_goals
      go_wp2_with fail
      go_ret
      exact ⟨_, rfl, ho.mono HB.out.size, below_both HB.out hb⟩
  · have b4 : (v == 4) = false := beq_false_of_ne v4
    go_upto_region 3 with fail
    have HQ : Hid (Q = src ++ dst ++ [0, 0, y, z, 0, 0, 0, P]) := by show _ = _; rw [HF.out, if_neg v4]
    have CC : Hid (∀ (W2 : World) (g2 h : Nat), Below V.heap.size V W2 → W2.cell? ⟨g2, 0, none⟩ = some (.slice (some ⟨g, 1, none⟩) 16 16) → W2.cell? ⟨g2, 1, none⟩ = some (.slice (some ⟨g, 17, none⟩) 16 16) → W2.cell? ⟨g2, 2, none⟩ = some (.slice (some ⟨h, 0, none⟩) 8 8) → Own W2 h [0, 0, y, z, 0, 0, 0, P] →
        Calls Try.prog 58 #[.slice (some ⟨g2, 0, none⟩) 3 3] W2 fun e w' => ∃ v, e = .returned v ∧ OutIs V.heap.size w' v Q ∧ Below V.heap.size V w') := fun W2 g2 h hb h0 h1 h2 ho => by
      have r0 := RS.out.below hb
      have r1 := RD.out.below hb
      have r2 : Row W2 (some ⟨h, 0, none⟩) 8 [0, 0, y, z, 0, 0, 0, P] := ho.row (fun x hx => by
        have := HYZ.out
        simp at hx
        omega)
      have q0 := r0
      have q1 := r1
      have hfl : flat [⟨some ⟨g, 1, none⟩, 16, 16, src⟩, ⟨some ⟨g, 17, none⟩, 16, 16, dst⟩, ⟨some ⟨h, 0, none⟩, 8, 8, [0, 0, y, z, 0, 0, 0, P]⟩] = Q := by rw [HQ.out]; simp [flat]
      have hll : Q.length = 40 := by rw [HQ.out, List.length_append, List.length_append, q0.1, q1.1]; rfl
      refine (join_any g2 3 [⟨some ⟨g, 1, none⟩, 16, 16, src⟩, ⟨some ⟨g, 17, none⟩, 16, 16, dst⟩, ⟨some ⟨h, 0, none⟩, 8, 8, [0, 0, y, z, 0, 0, 0, P]⟩] W2 (by show (3 : Nat) ≤ _; decide) (by rw [hfl, hll]; decide) (pieces_three h0 h1 h2 q0 q1 r2 (by show (16 : Nat) ≤ _; decide) (by show (16 : Nat) ≤ _; decide) (by show (8 : Nat) ≤ _; decide)) 3 rfl).mono ?_
      rintro e w' ⟨v, rfl, ho', hb'⟩
      rw [hfl] at ho'
      exact ⟨v, rfl, ho'.mono hb.size, hb.trans (hb'.mono hb.size)⟩
    have hCell : Hid (∀ W, Below V.heap.size V W → W.cell? ⟨g, 33, none⟩ = some (.int .i64 P)) := fun W h => (h.cell (p := ⟨g, 33, none⟩) (cell_lt c33)).trans c33
    clear c0
    go_region_held3 (fun w' => w'.cell? ⟨g, 33, none⟩ = some (.int .i64 P))
      (first | exact c33 | exact hTwo | go_keep)
      (first
      | (go_at_call 58; refine (CC.out _ _ _ (by exact (((Below.refl _ _).alloc (Nat.le_refl _) _).alloc (by simp) _).drew) (by exact new_at _ _ _ _ _ _ (by simp) rfl) (by exact new_at _ _ _ _ _ _ (by simp) rfl) (by exact new_at _ _ _ _ _ _ (by simp) rfl) (by exact ((Own.new _ [0, 0, y, z, 0, 0, 0, P]).alloc _))).mono ?_; rintro e w' ⟨v', rfl, ho, hb⟩; have hTwo := hCell.out _ hb)
      | fail)
    all_goals
      go_wp2_with fail
      go_ret
      exact ⟨_, rfl, ho.mono HB.out.size, below_both HB.out hb⟩
end Go.Proofs.Ytlopmkmcjcijcaa
