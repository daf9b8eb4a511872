/-
  The walk of the statement FourheadRanks.
-/
import Derived.Test.YtnofalgcpgheoaaFh15
namespace Go.Proofs.Ytnofalgcpgheoaa
open Go.RowKit
set_option linter.unusedVariables false

set_option maxRecDepth 10000 in
set_option maxHeartbeats 6400000 in
theorem walk_FourheadRanks (a0 : Option Addr) (len0 cap0 : Nat) (bs0 : List Nat) (at1 bit2 : Nat) (w : World) (R0 : Row w a0 len0 bs0) (hl0 : len0 ≤ cap0) (hc0 : cap0 ≤ 140737488351232) (hi1 : at1 ≤ 255) (hi2 : bit2 ≤ 255) :
    Calls Try.prog 6 #[.slice a0 len0 cap0, .int .u8 at1, .int .u8 bit2] w fun e w' => e = .returned (.bool true) ∧ Below w.heap.size w w' := by
  have CA := Lib.hid (fun w hR => fhall_any a0 len0 cap0 bs0 w hl0 (by omega) hR)
  have CR := Lib.hid (fun w hR => fhread_any a0 len0 cap0 bs0 w (by omega) hl0 hR)
  unfold AllIs at CA
  unfold ReadIs at CR
  have R := Lib.hid R0
  have HBS := Lib.hid R0.2.1
  have HLN := Lib.hid R0.1
  have HC := Lib.hid (And.intro hl0 hc0)
  have HI := Lib.hid (And.intro hi1 hi2)
  obtain ⟨L, hL⟩ : ∃ L, L = fhall len0 bs0 := ⟨_, rfl⟩
  have hL5 : L.length ≤ 5 := by rw [hL]; exact fhall_len _ _
  have HASC : Hid (∀ k p x y, k = p + 1 → L[k]? = some x → L[p]? = some y → y < x) := fun k p x y hk hx hy => by
    have h := fhall_asc len0 bs0
    rw [← hL] at h
    obtain ⟨h1, h2⟩ := List.getElem?_eq_some_iff.1 hx
    obtain ⟨h3, h4⟩ := List.getElem?_eq_some_iff.1 hy
    rw [← h2, ← h4]
    exact List.pairwise_iff_getElem.1 h p k h3 h1 (by omega)
  rw [← hL] at CA
  obtain ⟨X, hX⟩ : ∃ X, X = fhval len0 bs0 := ⟨_, rfl⟩
  have hXl : X.length = 17 := by rw [hX]; exact fhval_len len0 bs0
  have hXo : ∀ v ∈ X, v.oneCell' = true := by rw [hX]; exact fhval_one len0 bs0
  obtain ⟨d, hdd⟩ : ∃ d, d = fhdef len0 bs0 := ⟨_, rfl⟩
  rw [← hX, ← hdd] at CR
  have HL := Lib.hid hL
  have HX := Lib.hid hX
  have HD := Lib.hid hdd
  obtain ⟨N, hN⟩ : ∃ N, N = L.length := ⟨_, rfl⟩
  have HN := Lib.hid hN
  have HN5 : Hid (N ≤ 5) := by show N ≤ 5; rw [hN]; exact hL5
  clear hL hX hdd hN hL5 R0 hl0 hc0 hi1 hi2
  go_enter Try.func6, Try.ntmps6
  go_wp2_with fail
  refine (CA.out _ R.out).mono ?_
  rintro e w1 ⟨v1, rfl, ⟨A1, c1, rfl, hc1, hcell1⟩, hb1⟩
  have B1 := Lib.hid hb1
  have D1 : Hid (∀ W, Below w1.heap.size w1 W → ∀ i x, L[i]? = some x → ∃ b o, A1 = some ⟨b, o, none⟩ ∧ W.cell? ⟨b, o + i, none⟩ = some (.int .i64 (x : Nat))) := fun W hW i x hx => by
    obtain ⟨b, o, e, hlt, hc⟩ := hcell1 i x hx
    exact ⟨b, o, e, (hW.cell (p := ⟨b, o + i, none⟩) hlt).trans hc⟩
  have HC1 := Lib.hid hc1
  rw [← HN.out]
  clear hb1 hc1 hcell1
  go_wp2_with fail
  go_loopw [8] (fun i W => ∃ k : Nat, 1 ≤ k ∧ k ≤ 6 ∧ i = .int .i64 k ∧ Below w1.heap.size w1 W) (fun i W => 6 - (intOf i).toNat)
  case atStart => exact ⟨1, by decide, by decide, rfl, Below.refl _ _⟩
  case round =>
    obtain ⟨k, h1, h6, rfl, hW⟩ := hrel
    have HW := Lib.hid hW
    by_cases hlt : k < N
    · obtain ⟨p, hp⟩ : ∃ p, k = p + 1 := ⟨k - 1, by omega⟩
      have hkl : k < L.length := by rw [← HN.out]; exact hlt
      have hpl : p < L.length := by omega
      obtain ⟨x, hx⟩ : ∃ x, L[k]? = some x := ⟨_, List.getElem?_eq_getElem hkl⟩
      obtain ⟨y, hy⟩ : ∃ y, L[p]? = some y := ⟨_, List.getElem?_eq_getElem hpl⟩
      have hxy := HASC.out k p x y hp hx hy
      obtain ⟨b, o, e1, q1⟩ := D1.out wr hW k x hx
      obtain ⟨b', o', e2, q2⟩ := D1.out wr hW p y hy
      subst e1
      cases e2
      have hle : ¬ ((x : Int) ≤ (y : Int)) := by omega
      have w2 : wrap64 ((k : Int) - 1) = (p : Int) := by unfold wrap64; omega
      have w3 : IntKind.i64.wrap ((k : Int) - 1) = (p : Int) := by rw [IntKind.wrap_i64]; omega
      have i1 : (p : Int) < (N : Int) := by omega
      have i2 : (k : Int) < (N : Int) := by omega
      have HK := Lib.hid (And.intro h1 (And.intro h6 hlt))
      have HP := Lib.hid hp
      have hk6 : (k : Int) ≤ 6 := by omega
      clear hp hkl hpl hx hy hxy hW h1 h6 hlt
      go_upto_region 5 with fail
      go_region
      all_goals
        go_wp2_with fail
        go_roundw
        case rel => exact ⟨k + 1, by omega, by have := HK.out; have := HN5.out; omega, by go_num, HW.out.drew⟩
        case measure => have := HK.out; have := HN5.out; simp [intOf]; omega
    · have hkN : ¬ ((k : Int) < (N : Int)) := by omega
      have BW := Lib.hid (below_both B1.out hW)
      clear hW h1 h6 hlt
      by_cases hd : d ≠ 0
      · have hLd : L = [d] := by rw [HL.out, HD.out]; exact fhall_bad_is (by rw [← HD.out]; exact hd)
        have hN1 : N = 1 := by rw [HN.out, hLd]; rfl
        obtain ⟨b, o, e1, q1⟩ := D1.out wr HW.out 0 d (by rw [hLd]; rfl)
        simp only [Nat.add_zero] at q1
        have hd0 : ((d : Int) != 0) = true := bne_iff_ne.2 (by omega)
        have HQ : Hid (∀ W, Below wr.heap.size wr W → W.cell? ⟨b, o, none⟩ = some (.int .i64 (d : Nat))) := fun W h => (h.cell (p := ⟨b, o, none⟩) (cell_lt q1)).trans q1
        subst e1 hN1
        clear hd hLd q1 HASC D1 HW HL HD HX
        go_wp2_with fail
        refine (CR.out _ (R.out.below BW.out)).mono ?_
        rintro e w3 ⟨rfl, b3⟩
        obtain ⟨hst, hA, hb⟩ := four_stored w3 X hXl hXo
        have hQ := HQ.out _ (below_both b3 hb)
        have B3 := Lib.hid (below_both (below_both BW.out b3) hb)
        clear hA hb b3
        go_upto_region 8 with fail
        clear hst
        obtain ⟨V, eV⟩ : ∃ V, V = (w3.alloc (.cells #[.int .i64 0, .int .i64 0, .int .i64 0, .int .i64 0, .int .i64 0, .int .i64 0, .int .i64 0, .int .i64 0, .int .i64 0, .int .u8 0, .int .u8 0, .int .u8 0, .int .u8 0, .int .u8 0, .int .u8 0, .int .u8 0, .int .u8 0] 25)).setCells w3.heap.size 0 X := ⟨_, rfl⟩
        rw [← eV] at hQ B3 ⊢
        clear eV
        have HQ2 : Hid (∀ W, Below V.heap.size V W → W.cell? ⟨b, o, none⟩ = some (.int .i64 (d : Nat))) := fun W h => (h.cell (p := ⟨b, o, none⟩) (cell_lt hQ)).trans hQ
        clear hQ HQ
        go_wp2_with fail
        refine (live10 _).mono ?_
        rintro e w4 ⟨rfl, b4⟩
        have q4 := HQ2.out _ b4
        have B4 := Lib.hid (below_both B3.out b4)
        clear b4
        go_wp2_with fail
        go_ret
        exact ⟨by simp, B4.out⟩
      · obtain rfl : d = 0 := Decidable.of_not_not hd
        have hdz : fhdef len0 bs0 = 0 := HD.out.symm
        obtain ⟨z0, z1, z2, z3, z4⟩ := fhdef_zero hdz
        have hXf : X = fhf bs0 := by rw [HX.out]; unfold fhval; rw [if_pos hdz]
        obtain ⟨y, hy⟩ : ∃ y, y = bs0.getD 0 0 % 16 := ⟨_, rfl⟩
        rw [← hy] at z3 z4
        have y16 : y < 16 := by omega
        have X0 : Hid (X[0]? = some (.int .i64 (y : Nat))) := by show X[0]? = _; rw [hXf, hy]; rfl
        obtain ⟨S, hS⟩ : ∃ S, S = fhseal bs0 (4 * y) := ⟨_, rfl⟩
        have CS : Hid (∀ w, Row w a0 len0 bs0 → Calls Try.prog 25 #[.slice a0 len0 cap0] w (SealIs w S)) := fun w h => by
          have h := fhseal_ok a0 len0 cap0 bs0 w (by have := HC.out; omega) HC.out.1 h hdz
          rw [← hy, ← hS] at h
          exact h
        unfold SealIs at CS
        have hSl : S.length = len0 := by rw [hS]; exact fhseal_length bs0 len0 (4 * y) HLN.out (by omega) (by omega)
        have hSb : ∀ x ∈ S, x < 256 := by rw [hS]; exact fhseal_byte _ HBS.out
        obtain ⟨kk, hkk⟩ : ∃ kk, kk = at1 % (4 * y) := ⟨_, rfl⟩
        obtain ⟨j, hj⟩ : ∃ j, j = bit2 % 8 := ⟨_, rfl⟩
        have hklt : kk < 4 * y := by rw [hkk]; exact Nat.mod_lt _ (by omega)
        have hj8 : j < 8 := by omega
        have HT := turned_ranks HLN.out HBS.out hdz hy hklt hj8 S hS
        obtain ⟨s, hs⟩ : ∃ s, s = S.getD kk 0 := ⟨_, rfl⟩
        have hs256 : s < 256 := by rw [hs]; exact getD_byte hSb kk
        rw [← hs] at HT
        have hxor := u8_xor_bit s j hs256 hj8
        obtain ⟨s2, hs2⟩ : ∃ s2, s2 = xorBit s j := ⟨_, rfl⟩
        rw [← hs2] at HT hxor
        obtain ⟨T, hT⟩ : ∃ T, T = S.set kk s2 := ⟨_, rfl⟩
        rw [← hT] at HT
        have HTB : Hid (∀ x ∈ T, x < 256) := fun x hx => by
          rw [hT] at hx
          rcases List.mem_or_eq_of_mem_set hx with h | h
          · exact hSb x h
          · rw [h]; exact HT.2.2
        have HT := Lib.hid HT
        have HS := Lib.hid (And.intro hSl hs)
        have HTT := Lib.hid hT
        have y5 : (5 : Int) ≤ (y : Int) := by omega
        have yn : 4 * (y : Int) ≤ (len0 : Int) := by omega
        have kn : (kk : Int) < (len0 : Int) := by omega
        have HKY := Lib.hid (And.intro hklt (And.intro z4 y16))
        have w1m : ((at1 : Int)).tmod (4 * (y : Int)) = (kk : Int) := by
          have h := Int.natCast_emod at1 (4 * y)
          rw [Int.tmod_eq_emod_of_nonneg (by omega), hkk, h]
          rfl
        have w2m : ((at1 : Int)) % (4 * (y : Int)) = (kk : Int) := by rw [← w1m, Int.tmod_eq_emod_of_nonneg (by omega)]
        have rj : (bit2 : Int) % 8 = (j : Int) := by omega
        have at255 : at1 < 256 := by have := HI.out; omega
        have bit255 : bit2 < 256 := by have := HI.out; omega
        clear hd hdz z0 z1 z2 z3 z4 hXf hy hS hSl hSb hkk hj hklt hs hs2 hT HASC D1 HL HD HX
        go_wp2_with fail
        refine (CR.out _ (R.out.below BW.out)).mono ?_
        rintro e w3 ⟨rfl, b3⟩
        obtain ⟨hst, hA, hb⟩ := four_stored w3 X hXl hXo
        have A3 := Lib.hid hA
        have B3 := Lib.hid (below_both (below_both BW.out b3) hb)
        clear hA hb b3
        go_upto_region 8 with fail
        clear hst
        obtain ⟨V, eV⟩ : ∃ V, V = (w3.alloc (.cells #[.int .i64 0, .int .i64 0, .int .i64 0, .int .i64 0, .int .i64 0, .int .i64 0, .int .i64 0, .int .i64 0, .int .i64 0, .int .u8 0, .int .u8 0, .int .u8 0, .int .u8 0, .int .u8 0, .int .u8 0, .int .u8 0, .int .u8 0] 25)).setCells w3.heap.size 0 X := ⟨_, rfl⟩
        rw [← eV] at A3 B3 ⊢
        obtain ⟨gf, hgf⟩ : ∃ gf, gf = w3.heap.size := ⟨_, rfl⟩
        rw [← hgf] at A3 ⊢
        clear eV hgf
        go_wp2_with fail
        refine (CS.out _ (R.out.below B3.out)).mono ?_
        rintro e w4 ⟨v4, rfl, ho, b4⟩
        obtain ⟨g, c, rfl, hgV, hlc, hcm⟩ := ho.block (by rw [HS.out.1]; have := HKY.out; omega)
        rw [HS.out.1] at hlc ho ⊢
        have A4 := Lib.hid (A3.out.below b4)
        have B4 := Lib.hid (below_both B3.out b4)
        have O4 := Lib.hid ho
        have hf0 := (A4.out.get 0).trans X0.out
        have HGL := Lib.hid hgV
        have HLC := Lib.hid (And.intro hlc hcm)
        have hgfl : gf < V.heap.size := A3.out.lt
        have hgg : gf ≠ g := by omega
        have hgg2 : g ≠ gf := by omega
        have ck := ho.cell HS.out.1 kk (by have := HKY.out; omega)
        rw [← HS.out.2] at ck
        have B3s : Hid (w.heap.size ≤ V.heap.size) := B3.out.size
        clear ho b4 hlc hcm hgV A3 B3 hgfl
        go_upto_region 16 with fail
        have fk := O4.out.frozen HS.out.1 kk
        have hx2 : bits .xor .u8 (s : Int) (2 ^ j % 256) = (s2 : Int) := by
          rw [← hxor]
          congr 1
          rcases (by omega : j = 0 ∨ j = 1 ∨ j = 2 ∨ j = 3 ∨ j = 4 ∨ j = 5 ∨ j = 6 ∨ j = 7) with rfl | rfl | rfl | rfl | rfl | rfl | rfl | rfl <;> decide
        have OT : Hid (OutIs V.heap.size (w4.setCell ⟨g, kk, none⟩ (.int .u8 (s2 : Nat))) (.slice (some ⟨g, 0, none⟩) len0 c) T) := by
          show OutIs _ _ _ _
          rw [HTT.out]
          exact O4.out.set HS.out.1 kk s2
        have AU : Hid (ArrV 25 (w4.setCell ⟨g, kk, none⟩ (.int .u8 (s2 : Nat))) gf X) := A4.out.other _ _ hgg2
        have BU : Hid (Below w.heap.size w (w4.setCell ⟨g, kk, none⟩ (.int .u8 (s2 : Nat)))) := B4.out.setCell (p := ⟨g, kk, none⟩) (Nat.le_trans B3s.out HGL.out) _
        have hTl : T.length = len0 := by rw [HTT.out, List.length_set]; exact HS.out.1
        go_upto_region 17 with fail
        obtain ⟨U, eU⟩ : ∃ U, U = w4.setCell ⟨g, kk, none⟩ (.int .u8 (s2 : Nat)) := ⟨_, rfl⟩
        rw [← eU] at OT AU BU ⊢
        have RT : Hid (Row U (some ⟨g, 0, none⟩) len0 T) := by
          obtain ⟨A9, c9, e9, _, _, h9⟩ := OT.out.out HTB.out
          cases e9
          rw [hTl] at h9
          exact h9
        clear eU hx2 hxor ck fk A4 B4 O4 hf0
        have CT : Hid (∀ w, Row w (some ⟨g, 0, none⟩) len0 T → Calls Try.prog 14 #[.slice (some ⟨g, 0, none⟩) len0 c] w (ReadIs len0 T w)) := fun w h => fhread_any _ len0 c T w (by have := HC.out; omega) HLC.out.1 h
        have CTA : Hid (∀ w, Row w (some ⟨g, 0, none⟩) len0 T → Calls Try.prog 21 #[.slice (some ⟨g, 0, none⟩) len0 c] w (AllIs w (fhall len0 T))) := fun w h => fhall_any _ len0 c T w HLC.out.1 (by have := HC.out; omega) h
        unfold ReadIs at CT
        unfold AllIs at CTA
        obtain ⟨X2, hX2⟩ : ∃ X, X = fhval len0 T := ⟨_, rfl⟩
        have hX2l : X2.length = 17 := by rw [hX2]; exact fhval_len len0 T
        have hX2o : ∀ v ∈ X2, v.oneCell' = true := by rw [hX2]; exact fhval_one len0 T
        obtain ⟨d2, hd2⟩ : ∃ d, d = fhdef len0 T := ⟨_, rfl⟩
        have X20 : Hid (X2[0]? = some (.int .i64 (if d2 = 0 then T.getD 0 0 % 16 else 0 : Nat))) := by
          show X2[0]? = _
          rw [hX2, hd2]
          unfold fhval
          split <;> rfl
        rw [← hd2] at HT CT
        rw [← hX2] at CT
        obtain ⟨y2, hy2⟩ : ∃ y2, y2 = T.getD 0 0 % 16 := ⟨_, rfl⟩
        rw [← hy2] at HT X20
        obtain ⟨M, hM⟩ : ∃ M, M = fhall len0 T := ⟨_, rfl⟩
        rw [← hM] at HT CTA
        have hM5 : M.length ≤ 5 := by rw [hM]; exact fhall_len _ _
        clear hX2 hd2 hy2 hM
        go_wp2_with fail
        refine (CT.out _ RT.out).mono ?_
        rintro e w5 ⟨rfl, b5⟩
        obtain ⟨hst, hA, hb⟩ := four_stored w5 X2 hX2l hX2o
        have A5 := Lib.hid ((AU.out.below b5).below hb)
        have R5 := Lib.hid ((RT.out.below b5).below hb)
        have B5 := Lib.hid (below_both (below_both BU.out b5) hb)
        have A52 := Lib.hid hA
        clear hA hb b5
        go_upto_region 18 with fail
        clear hst
        obtain ⟨Z, eZ⟩ : ∃ V, V = (w5.alloc (.cells #[.int .i64 0, .int .i64 0, .int .i64 0, .int .i64 0, .int .i64 0, .int .i64 0, .int .i64 0, .int .i64 0, .int .i64 0, .int .u8 0, .int .u8 0, .int .u8 0, .int .u8 0, .int .u8 0, .int .u8 0, .int .u8 0, .int .u8 0] 25)).setCells w5.heap.size 0 X2 := ⟨_, rfl⟩
        rw [← eZ] at A5 R5 B5 A52 ⊢
        obtain ⟨gz, hgz⟩ : ∃ gf, gf = w5.heap.size := ⟨_, rfl⟩
        rw [← hgz] at A52 ⊢
        clear eZ hgz AU RT BU OT
        have z1 := (A5.out.get 0).trans X0.out
        have z2 := (A52.out.get 0).trans X20.out
        have HM5 := Lib.hid hM5
        clear hM5
        by_cases hq : d2 = 0 ∧ y2 = y
        · obtain ⟨rfl, rfl⟩ := hq
          rw [if_pos rfl] at z2
          have h9 : Hid (9 ∈ M) := HT.out.2.1 rfl rfl
          clear HT
          obtain ⟨m, hm⟩ : ∃ m, m = M.length := ⟨_, rfl⟩
          have HM := Lib.hid hm
          clear hm
          go_wp2_with fail
          refine (CTA.out _ R5.out).mono ?_
          rintro e w6 ⟨v6, rfl, ⟨A6, c6, rfl, hc6, hcell6⟩, hb6⟩
          have B6 := Lib.hid (below_both B5.out hb6)
          have D6 : Hid (∀ W, Below w6.heap.size w6 W → ∀ i x, M[i]? = some x → ∃ b o, A6 = some ⟨b, o, none⟩ ∧ W.cell? ⟨b, o + i, none⟩ = some (.int .i64 (x : Nat))) := fun W hW i x hx => by
            obtain ⟨b, o, e, hlt, hc⟩ := hcell6 i x hx
            exact ⟨b, o, e, (hW.cell (p := ⟨b, o + i, none⟩) hlt).trans hc⟩
          rw [← HM.out]
          clear hb6 hc6 hcell6 z1 z2
          go_wp2_with fail
          go_loopw [16, 18] (fun q i W => ∃ k : Nat, k ≤ m ∧ i = .int .i64 k ∧ q = .bool (decide (9 ∈ M.take k)) ∧ Below w6.heap.size w6 W) (fun q i W => m - (intOf i).toNat)
          case atStart => exact ⟨0, Nat.zero_le _, rfl, by simp, Below.refl _ _⟩
          case round =>
            obtain ⟨k, hk, rfl, rfl, hW⟩ := hrel
            have HW2 := Lib.hid hW
            have hk5 : (k : Int) ≤ 5 := by have := HM5.out; have := HM.out; omega
            by_cases hlt : k < m
            · have hkl : k < M.length := by rw [← HM.out]; exact hlt
              obtain ⟨x, hx⟩ : ∃ x, M[k]? = some x := ⟨_, List.getElem?_eq_getElem hkl⟩
              obtain ⟨b, o, e1, q1⟩ := D6.out wr hW k x hx
              subst e1
              have hstep : Hid (decide (9 ∈ M.take (k + 1)) = (decide (9 ∈ M.take k) || ((x : Int) == 9))) := by
                show _ = _
                have e : M.take (k + 1) = M.take k ++ [x] := by
                  obtain ⟨h1, h2⟩ := List.getElem?_eq_some_iff.1 hx
                  rw [List.take_succ_eq_append_getElem h1, h2]
                rw [e]
                by_cases h : 9 ∈ M.take k
                · simp [h]
                · by_cases hx9 : x = 9
                  · subst hx9; simp
                  · have h3 : ((x : Int) == 9) = false := by simp; omega
                    rw [h3]
                    simp [h]
                    omega
              have i2 : (k : Int) < (m : Int) := by omega
              have HK := Lib.hid (And.intro hk hlt)
              clear hkl hx hW hk hlt
              cases hb : decide (9 ∈ M.take k) with
              | true =>
                rw [hb] at hstep
                go_wp2_with fail
                go_roundw
                case rel => exact ⟨k + 1, HK.out.2, by go_num, by rw [hstep.out]; rfl, HW2.out⟩
                case measure => have := HK.out; simp [intOf]; omega
              | false =>
                rw [hb] at hstep
                go_wp2_with fail
                go_roundw
                case rel => exact ⟨k + 1, HK.out.2, by go_num, by rw [hstep.out]; rfl, HW2.out⟩
                case measure => have := HK.out; simp [intOf]; omega
            · have hkN : ¬ ((k : Int) < (m : Int)) := by omega
              obtain rfl : k = m := by omega
              have hT : decide (9 ∈ M.take k) = true := by rw [HM.out, List.take_length]; exact decide_eq_true h9.out
              rw [hT]
              have B7 := Lib.hid (below_both B6.out hW)
              clear hW hT
              go_wp2_with fail
              refine (live10 _).mono ?_
              rintro e w7 ⟨rfl, b7⟩
              have B8 := Lib.hid (below_both B7.out b7)
              clear b7
              go_wp2_with fail
              go_ret
              exact ⟨rfl, B8.out⟩
        · have hk0 : kk = 0 := by
            rcases Nat.eq_zero_or_pos kk with h | h
            · exact h
            · exact absurd (HT.out.1 (by omega)) hq
          subst hk0
          by_cases hd2 : d2 = 0
          · subst hd2
            rw [if_pos rfl] at z2
            have hne : ((y2 : Int) != (y : Int)) = true := bne_iff_ne.2 (by intro h; exact hq ⟨rfl, by omega⟩)
            clear hq HT
            go_wp2_with fail
            refine (live10 _).mono ?_
            rintro e w7 ⟨rfl, b7⟩
            have B8 := Lib.hid (below_both B5.out b7)
            clear b7
            go_wp2_with fail
            go_ret
            exact ⟨rfl, B8.out⟩
          · have hne : ((d2 : Int) != 0) = true := bne_iff_ne.2 (by omega)
            clear hq HT hd2
            go_wp2_with fail
            refine (live10 _).mono ?_
            rintro e w7 ⟨rfl, b7⟩
            have B8 := Lib.hid (below_both B5.out b7)
            clear b7
            go_wp2_with fail
            go_ret
            exact ⟨rfl, B8.out⟩
end Go.Proofs.Ytnofalgcpgheoaa
