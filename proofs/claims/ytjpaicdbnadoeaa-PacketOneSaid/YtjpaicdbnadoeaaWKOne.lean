/-
  The walk of the statement PacketOne.
-/
import Derived.BigQuiet
import Derived.Test.YtjpaicdbnadoeaaPk11
namespace Go.Proofs.Ytjpaicdbnadoeaa
open Go.RowKit
set_option linter.unusedVariables false

theorem pksxall_len (n : Nat) (bs : List Nat) : (sxall n bs).length ≤ 5 := by
  unfold sxall
  split
  · simp
  · split
    · simp
    · exact (defects_asc _).2.2
theorem pkDefs_len (n : Nat) (bs : List Nat) : (pkDefs n bs).length ≤ 5 := by
  unfold pkDefs
  split
  · unfold pkHeads
    split
    · show 1 ≤ 5; decide
    · split
      · exact fhall_len n bs
      · split
        · exact pksxall_len n bs
        · show 1 ≤ 5; decide
  · split
    · show 1 ≤ 5; decide
    · exact Nat.zero_le _
theorem head_at {a : Value} {S D T : List Value} (hS : S.length = 16) (hD : D.length = 16) (j : Nat) : (a :: (S ++ (D ++ T)))[33 + j]? = T[j]? := three_at hS hD j
set_option maxRecDepth 10000 in
set_option maxHeartbeats 6400000 in
theorem walk_PacketOne (a0 : Option Addr) (len0 cap0 : Nat) (bs0 : List Nat) (w : World) (R0 : Row w a0 len0 bs0) (hl0 : len0 ≤ cap0) (hc0 : cap0 ≤ 140737488351232) :
    Calls Try.prog 4 #[.slice a0 len0 cap0] w fun e w' => e = .returned (.bool true) ∧ Below w.heap.size w w' := by
  have hn : len0 ≤ 140737488351232 := by omega
  have C1 := Lib.hid (fun w (hR : Row w a0 len0 bs0) => pkparse_any a0 len0 cap0 bs0 w hn hl0 hR)
  have C2 := Lib.hid (fun w (hR : Row w a0 len0 bs0) => pkall_any a0 len0 cap0 bs0 w hn hl0 hR)
  obtain ⟨dasc, drange⟩ := pkDefs_asc len0 bs0
  have dlen := pkDefs_len len0 bs0
  obtain ⟨Hl, Ho⟩ := pkHead_all R0.1 R0.2.1
  have hlitZ := hd_lit
  obtain ⟨Z, hZ⟩ : ∃ Z, Z = hdCells RZ false 0 0 := ⟨_, rfl⟩
  have hZl : Z.length = 40 := by rw [hZ]; rfl
  have hsame : ∀ w : World, (Op.equalIn 10000 25 (.agg Z.toArray) (.agg Z.toArray)).run Try.prog w = .ok true w := fun w => by rw [hZ]; exact head_same rz_ok w
  have hHe : pkDefs len0 bs0 ≠ [] → pkHead len0 bs0 = Z := fun h => by unfold pkHead; rw [if_neg h, hZ]
  have hgood : pkDefs len0 bs0 = [] → (∃ S T, S.length = 16 ∧ T.length = 16 ∧ pkHead len0 bs0 = .int .i64 ((pkRec bs0).v : Nat) :: (S ++ (T ++ hdTail (pkRec bs0) (pkRec bs0).has ((pkRec bs0).ports bs0).1 ((pkRec bs0).ports bs0).2.1))) ∧ ((pkRec bs0).v = 4 ∨ (pkRec bs0).v = 6) ∧ 20 ≤ (pkRec bs0).at_ ∧ (pkRec bs0).at_ ≤ (pkRec bs0).size ∧ (pkRec bs0).size ≤ len0 ∧ 0 ≤ (pkRec bs0).proto ∧ (pkRec bs0).proto ≤ 255 := fun h => by
    refine ⟨?_, pk_good R0.1 R0.2.1 (pkHeads_nil h)⟩
    have ok := pkRec_ok R0.1 R0.2.1 (pkHeads_nil h)
    refine ⟨bcells (pkRec bs0).src, bcells (pkRec bs0).dst, by rw [bcells_length, ok.sl], by rw [bcells_length, ok.dl], ?_⟩
    unfold pkHead
    rw [if_pos h]
    rfl
  have hT0 : pkDefs len0 bs0 = [] → pkTold len0 bs0 = 0 := pkTold_nil
  have hTd : ∀ d l, pkDefs len0 bs0 = d :: l → pkTold len0 bs0 = d := fun d l h => by unfold pkTold; rw [h]; rfl
  have HR := Lib.hid R0
  rw [← hZ] at hlitZ
  obtain ⟨H, hH⟩ : ∃ H, H = pkHead len0 bs0 := ⟨_, rfl⟩
  obtain ⟨L, hL⟩ : ∃ D, D = pkDefs len0 bs0 := ⟨_, rfl⟩
  obtain ⟨d, hd⟩ : ∃ d, d = pkTold len0 bs0 := ⟨_, rfl⟩
  obtain ⟨r, hr⟩ : ∃ r, r = pkRec bs0 := ⟨_, rfl⟩
  obtain ⟨px, hpx⟩ : ∃ x, x = ((pkRec bs0).ports bs0).1 := ⟨_, rfl⟩
  obtain ⟨py, hpy⟩ : ∃ x, x = ((pkRec bs0).ports bs0).2.1 := ⟨_, rfl⟩
  rw [← hH, ← hd] at C1
  rw [← hL] at C2 dasc drange dlen hHe hgood hT0 hTd
  rw [← hH] at Hl Ho hHe hgood
  rw [← hpx, ← hpy, ← hr] at hgood
  rw [← hd] at hT0 hTd
  obtain ⟨N, hN⟩ : ∃ N, N = L.length := ⟨_, rfl⟩
  have HN := Lib.hid hN
  rw [← hN] at C2 dlen
  have HN5 := Lib.hid dlen
  have HASC : Hid (∀ k p x y, k = p + 1 → L[k]? = some x → L[p]? = some y → y < x) := fun k p x y hk hx hy => by
    subst hk
    obtain ⟨h1, rfl⟩ := List.getElem?_eq_some_iff.1 hx
    obtain ⟨h2, rfl⟩ := List.getElem?_eq_some_iff.1 hy
    exact List.pairwise_iff_getElem.1 dasc p (p + 1) h2 h1 (Nat.lt_succ_self p)
  have HRG : Hid (∀ k x, L[k]? = some x → 1 ≤ x ∧ x ≤ 16) := fun k x hx => drange x (List.mem_of_getElem? hx)
  have HG := Lib.hid hgood
  have HT := Lib.hid (And.intro hT0 hTd)
  have HHE := Lib.hid hHe
  have HSame := Lib.hid hsame
  clear hH hL hd hr hpx hpy hN hZ dasc drange dlen hgood hT0 hTd hHe hsame R0 hl0 hc0 hn
  go_enter Try.func4, Try.ntmps4
  go_wp2_with fail
  refine (C1.out _ HR.out).mono ?_
  rintro e w1 ⟨rfl, b1⟩
  go_upto_region 2 with (first | refine wpList_store_v rfl 25 (.tmp 3) (.tmp 10) rfl _ rfl tyhead (ArrV.new _ _ Z) hZl H Hl Ho rfl ?_ | fail)
  obtain ⟨V1, e1⟩ : ∃ V, V = (w1.alloc (.cells Z.toArray 25)).setCells w1.heap.size 0 H := ⟨_, rfl⟩
  obtain ⟨x1, hb1⟩ := ArrV.laid 25 w1 Z H (by rw [Hl, hZl])
  rw [← e1] at x1 hb1 ⊢
  have X1 := Lib.hid x1
  have B1 := Lib.hid (below_both b1 hb1)
  have R1 := Lib.hid (HR.out.below B1.out)
  obtain ⟨g1, hg1⟩ : ∃ g, g = w1.heap.size := ⟨_, rfl⟩
  rw [← hg1] at X1 ⊢
  clear e1 x1 hb1 b1 hg1
  go_wp2_with fail
  refine (C2.out _ R1.out).mono ?_
  rintro e V ⟨A1, c1, rfl, b2, hD2⟩
  have X2 := Lib.hid (X1.out.below b2)
  have BV := Lib.hid (below_both B1.out b2)
  have D1 : Hid (∀ W, Below V.heap.size V W → ∀ i x, L[i]? = some x → ∃ b o, A1 = some ⟨b, o, none⟩ ∧ W.cell? ⟨b, o + i, none⟩ = some (.int .i64 (x : Nat))) := fun W hW i x hx => by
    obtain ⟨A9, c9, e9, _, hcell⟩ := hD2
    cases e9
    obtain ⟨b, o, e, hlt, hc⟩ := hcell i x hx
    exact ⟨b, o, e, (hW.cell (p := ⟨b, o + i, none⟩) hlt).trans hc⟩
  have HWV : Hid (∀ W, Below V.heap.size V W → ArrV 25 W g1 H) := fun W h => X2.out.below h
  clear b2 hD2 X1 B1 R1 C1 C2 HR X2
  go_wp2_with fail
  go_loopw [6] (fun i W => ∃ k : Nat, k ≤ 5 ∧ i = .int .i64 (k : Nat) ∧ Below V.heap.size V W) (fun i W => 6 - (intOf i).toNat)
  case atStart => exact ⟨0, by decide, rfl, Below.refl _ _⟩
  case round =>
    obtain ⟨k, h5, rfl, hW⟩ := hrel
    have HW := Lib.hid hW
    by_cases hlt : k < N
    · have hkl : k < L.length := by rw [← HN.out]; exact hlt
      obtain ⟨x, hx⟩ : ∃ x, L[k]? = some x := ⟨_, List.getElem?_eq_getElem hkl⟩
      obtain ⟨r1, r2⟩ := HRG.out k x hx
      obtain ⟨b, o, e1, q1⟩ := D1.out wr hW k x hx
      subst e1
      have x1 : ¬ ((x : Int) ≤ 0) := by omega
      have x2 : ¬ ((16 : Int) < (x : Int)) := by omega
      have x0 : ¬ x = 0 := by omega
      have x4 : ¬ 16 < x := by omega
      have x3 : decide ((x : Int) ≤ 0) = false := decide_eq_false x1
      have i2 : (k : Int) < (N : Int) := by omega
      by_cases hk0 : k = 0
      · subst hk0
        have HK := Lib.hid hlt
        simp only [Nat.add_zero] at q1
        have i2 : (0 : Int) < (N : Int) := by omega
        rw [show (((0 : Nat) : Nat) : Int) = 0 from rfl]
        clear hkl hx hW h5 hlt r1 r2
        go_upto_region 6 with fail
        go_quiet (fail)
        go_wp2_with fail
        go_roundw
        case rel => exact ⟨1, by decide, by go_num, below_drewN' HW.out _⟩
        case measure => have := HK.out; have := HN5.out; simp [intOf]
      · obtain ⟨p, hp⟩ : ∃ p, k = p + 1 := ⟨k - 1, by omega⟩
        have hpl : p < L.length := by omega
        obtain ⟨y, hy⟩ : ∃ y, L[p]? = some y := ⟨_, List.getElem?_eq_getElem hpl⟩
        have hxy := HASC.out k p x y hp hx hy
        obtain ⟨b', o', e2, q2⟩ := D1.out wr hW p y hy
        cases e2
        have hle : ¬ ((x : Int) ≤ (y : Int)) := by omega
        have k0 : (0 : Int) < (k : Int) := by omega
        have k0n : 0 < k := by omega
        have hlen : ¬ (x ≤ y) := by omega
        have w2 : wrap64 ((k : Int) - 1) = (p : Int) := by unfold wrap64; omega
        have w3 : IntKind.i64.wrap ((k : Int) - 1) = (p : Int) := by rw [IntKind.wrap_i64]; omega
        have i1 : (p : Int) < (N : Int) := by omega
        have HK := Lib.hid (And.intro h5 hlt)
        have hk6 : (k : Int) ≤ 6 := by omega
        clear hp hkl hpl hx hy hxy hW h5 hlt r1 r2 hk0
        go_upto_region 6 with fail
        go_quiet (fail)
        go_wp2_with fail
        go_roundw
        case rel => exact ⟨k + 1, by have := HK.out; have := HN5.out; omega, by go_num, below_drewN' HW.out _⟩
        case measure => have := HK.out; have := HN5.out; simp [intOf]; omega
    · have hkN : ¬ ((k : Int) < (N : Int)) := by omega
      by_cases hL0 : L = []
      · have N0 : N = 0 := by rw [HN.out, hL0]; rfl
        have hd0 := HT.out.1 hL0
        obtain ⟨⟨S, T, hSl, hTl, hHe⟩, hv, h20, has, hsn, hp0, hp1⟩ := HG.out hL0
        have hhas := pkhas_iff r
        subst N0 hd0
        obtain ⟨v, hve⟩ : ∃ v, v = r.v := ⟨_, rfl⟩
        obtain ⟨pr, hpr⟩ : ∃ v, v = r.proto := ⟨_, rfl⟩
        obtain ⟨sz, hsz⟩ : ∃ v, v = r.size := ⟨_, rfl⟩
        obtain ⟨ta, hta⟩ : ∃ v, v = r.at_ := ⟨_, rfl⟩
        obtain ⟨fr, hfr⟩ : ∃ v, v = r.frag := ⟨_, rfl⟩
        obtain ⟨ha, hha⟩ : ∃ v, v = r.has := ⟨_, rfl⟩
        unfold hdTail at hHe
        rw [← hve, ← hpr, ← hsz, ← hta, ← hfr, ← hha] at hHe
        rw [← hve] at hv
        rw [← hpr] at hp0 hp1
        rw [← hsz] at has hsn
        rw [← hta] at h20 has
        rw [← hfr, ← hha] at hhas
        have j1 : (20 : Int) ≤ (ta : Int) := by omega
        have j2 : (ta : Int) ≤ (sz : Int) := by omega
        have j3 : (sz : Int) ≤ (len0 : Int) := by omega
        have HXX : Hid (∀ W, ArrV 25 W g1 H → W.cell? ⟨g1, 0, none⟩ = some (.int .i64 (v : Nat)) ∧ W.cell? ⟨g1, 33, none⟩ = some (.int .i64 pr) ∧ W.cell? ⟨g1, 34, none⟩ = some (.int .i64 (sz : Nat)) ∧ W.cell? ⟨g1, 35, none⟩ = some (.int .i64 (ta : Nat)) ∧ W.cell? ⟨g1, 36, none⟩ = some (.int .i64 (fr : Nat)) ∧ W.cell? ⟨g1, 37, none⟩ = some (.bool ha)) := fun W h => by
          rw [hHe] at h
          exact ⟨h.get 0, (h.get 33).trans (three_at hSl hTl 0), (h.get 34).trans (three_at hSl hTl 1), (h.get 35).trans (three_at hSl hTl 2), (h.get 36).trans (three_at hSl hTl 3), (h.get 37).trans (three_at hSl hTl 4)⟩
        have HHas : Hid (ha = true → fr ≠ 2) := fun h => (hhas.1 h).1
        clear hW h5 hlt hSl hTl hHe hhas hve hpr hsz hta hfr hha h20 has hsn hL0
        go_upto_region 8 with fail
        go_wp2_with fail
        refine (live14 _).mono ?_
        rintro e w4 ⟨rfl, b4⟩
        obtain ⟨c0, c33, c34, c35, c36, c37⟩ := HXX.out _ (HWV.out _ (below_both HW.out b4))
        have B4 := Lib.hid (below_both (below_both BV.out HW.out) b4)
        clear b4 HWV BV HW HASC D1 HRG HXX
        rcases hv with rfl | rfl
        · cases ha with
          | false =>
            go_wp2_with fail
            go_ret
            exact ⟨rfl, B4.out⟩
          | true =>
            have f2 := HHas.out rfl
            have f3 : ((fr : Int) != 2) = true := bne_iff_ne.2 (by omega)
            go_wp2_with fail
            go_ret
            exact ⟨rfl, B4.out⟩
        · cases ha with
          | false =>
            go_wp2_with fail
            go_ret
            exact ⟨rfl, B4.out⟩
          | true =>
            have f2 := HHas.out rfl
            have f3 : ((fr : Int) != 2) = true := bne_iff_ne.2 (by omega)
            go_wp2_with fail
            go_ret
            exact ⟨rfl, B4.out⟩
      · have hHZ := HHE.out hL0
        obtain ⟨d', l, hLe⟩ := List.exists_cons_of_ne_nil hL0
        have hdd := HT.out.2 _ _ hLe
        subst hdd
        have hN0 : 0 < N := by rw [HN.out, hLe]; simp
        have n0 : (0 : Int) < (N : Int) := by omega
        clear hL0 h5 hlt HT HHE HG
        go_upto_region 8 with fail
        go_wp2_with fail
        refine (live14 _).mono ?_
        rintro e w4 ⟨rfl, b4⟩
        have X4 := Lib.hid (HWV.out _ (below_both HW.out b4))
        obtain ⟨b, o, e1, q1⟩ := D1.out _ (below_both HW.out b4) 0 d (by rw [hLe]; rfl)
        subst e1
        rw [Nat.add_zero] at q1
        have B4 := Lib.hid (below_both (below_both BV.out HW.out) b4)
        have hsame := HSame.out
        subst hHZ
        clear b4 HWV BV HW HASC D1 HRG hLe hN0 hW
        go_wp2_with (first | refine wpList_load_vg (by rfl) 25 (.tmp 3) rfl _ rfl tyhead X4.out Hl ?_ | fail)
        go_ret
        exact ⟨rfl, B4.out⟩
end Go.Proofs.Ytjpaicdbnadoeaa
