/-
  The document's List of layer 11.
  The walk of ExtwalkGoes.
-/
import Derived.Test.YtlopmkmcjcijcaaREw3
import Derived.Deep.RegionHeld3
import Derived.Test.YtlopmkmcjcijcaaEw10
namespace Go.Proofs.Ytlopmkmcjcijcaa
open Go.RowKit
set_option linter.unusedVariables false

theorem body_part {bs : List Nat} {a k m : Nat} : (stepExt bs (a, k, m)).2 = (bs.drop (a + 2)).take (m - 2) := by
  show ((bs.drop a).take m).drop 2 = _
  rw [List.drop_take, List.drop_drop]
theorem list_ints {a m n c p z : Nat} (hp : p = a + 2) (hz : z = a + m) (hm : 8 ≤ m) (hn : a + m ≤ n) (hc : n ≤ c) (h2 : n ≤ 140737488351232) :
    IntKind.i64.wrap ((a : Int) + 2) = (p : Int) ∧ wrap64 ((a : Int) + 2) = (p : Int) ∧ IntKind.i64.wrap ((a : Int) + (m : Int)) = (z : Int) ∧ wrap64 ((a : Int) + (m : Int)) = (z : Int) ∧ (0 : Int) ≤ (p : Int) ∧ (p : Int) ≤ (z : Int) ∧ (z : Int) ≤ (c : Int) ∧ (p : Int) ≤ (c : Int) ∧ ¬ c = p ∧ z - p = m - 2 := by
  subst hp hz
  have e1 : (a : Int) + 2 = ((a + 2 : Nat) : Int) := by omega
  have e2 : (a : Int) + (m : Int) = ((a + m : Nat) : Int) := by omega
  rw [e1, e2]
  exact ⟨IntWalk.i64_in _ (by omega), w64_big (by omega) (by omega), IntWalk.i64_in _ (by omega), w64_big (by omega) (by omega), by omega, by omega, by omega, by omega, by omega, by omega⟩
theorem list_nats {a m n : Nat} (hm : 8 ≤ m) (hn : a + m ≤ n) : 0 < n ∧ a + 2 + (m - 2) ≤ n ∧ (m - 2) ≤ n - (a + 2) := by omega
set_option maxRecDepth 10000 in
set_option maxHeartbeats 6400000 in
theorem rexlist_any (k : Int) (A : Option Addr) (n c : Nat) (bs : List Nat) (w : World) (hc : n ≤ c) (hc2 : n ≤ 140737488351232) (hR : Row w A n bs) :
    Calls Try.prog 26 #[.int .i64 k, .slice A n c] w (ListIs w ((walkS n bs 9 (Tour.start k) []).2.map (stepExt bs))) := by
  have CW := Lib.hid (rexway_any k A n c bs w hc hc2 hR)
  unfold WayIs at CW
  obtain ⟨fi, hok⟩ := walkS_ok hR.1 9 (Tour.start k) [] (-1) (steps_start k n bs)
  obtain ⟨R, hRR⟩ : ∃ R, R = walkS n bs 9 (Tour.start k) [] := ⟨_, rfl⟩
  rw [← hRR] at CW hok ⊢
  obtain ⟨t, S⟩ := R
  have HOK : Hid (StepsOk n bs t S fi) := hok
  have CW : Hid (Calls Try.prog 54 #[.int .i64 k, .slice A n c] w fun e w' => ∃ v, e = .returned (.tuple #[v, .int .i64 t.proto, .bool t.ext, .bool t.many]) ∧ Steps w.heap.size w' v S ∧ Below w.heap.size w w') := CW
  show Calls _ _ _ _ (ListIs w (S.map (stepExt bs)))
  have HR := Lib.hid hR
  have HC := Lib.hid (And.intro hc hc2)
  obtain ⟨pr, hpr⟩ : ∃ pr, pr = t.proto := ⟨_, rfl⟩
  obtain ⟨bx, hbx⟩ : ∃ b, b = t.ext := ⟨_, rfl⟩
  obtain ⟨bm, hbm⟩ : ∃ b, b = t.many := ⟨_, rfl⟩
  rw [← hpr, ← hbx, ← hbm] at CW
  obtain ⟨N, hN⟩ : ∃ N, N = S.length := ⟨_, rfl⟩
  have hN8 : N ≤ 8 := by rw [hN, ← hok.count]; exact hok.c8
  have HN := Lib.hid (And.intro hN hN8)
  obtain ⟨Mx, hMx⟩ : ∃ M, M = S.map (stepExt bs) := ⟨_, rfl⟩
  rw [← hMx]
  have HMX := Lib.hid hMx
  clear hRR hR hc hc2 hok hpr hbx hbm hMx
  go_enter Try.func26, Try.ntmps26
  go_wp2_with fail
  refine CW.out.mono ?_
  rintro e w1 ⟨v1, rfl, hst, b1⟩
  obtain ⟨A1, d1, rfl, hd1a, hd1b⟩ := hst.slice
  clear hd1a hd1b
  rw [← hN]
  rw [← hN] at hst
  have HSC : Hid (∀ W, Below w1.heap.size w1 W → ∀ (i : Nat) (s : Nat × Nat × Nat), S[i]? = some s → ∃ b o, A1 = some ⟨b, o, none⟩ ∧ b < w1.heap.size ∧ W.cell? ⟨b, o + i * 3, none⟩ = some (.int .i64 (s.1 : Nat)) ∧ W.cell? ⟨b, o + i * 3 + 1, none⟩ = some (.int .i64 (s.2.1 : Nat)) ∧ W.cell? ⟨b, o + i * 3 + 2, none⟩ = some (.int .i64 (s.2.2 : Nat))) := fun W h i s hs => by
    obtain ⟨A', d', e', _, hcl⟩ := hst.read
    obtain ⟨b, o, e, hlt, c0, c1, c2⟩ := hcl i s hs
    injection e' with e1 e2 e3
    exact ⟨b, o, e1.trans e, hlt, (h.cell (p := ⟨b, o + i * 3, none⟩) hlt).trans c0, (h.cell (p := ⟨b, o + i * 3 + 1, none⟩) hlt).trans c1, (h.cell (p := ⟨b, o + i * 3 + 2, none⟩) hlt).trans c2⟩
  have BW := Lib.hid b1
  clear hst b1 CW hN hN8
  go_wp2_with fail
  go_loopw [9, 10] (fun out i V => ∃ j : Nat, j ≤ N ∧ i = .int .i64 (j : Nat) ∧ Exts w1.heap.size V out (Mx.take j) ∧ Below w1.heap.size w1 V) (fun out i V => N - (intOf i).toNat)
  case atStart => exact ⟨0, Nat.zero_le _, rfl, Exts.nil _ _, Below.refl _ _⟩
  case round =>
    obtain ⟨j, hj, rfl, hO, hW⟩ := hrel
    have HE := Lib.hid hO
    have HW := Lib.hid hW
    by_cases hlt : j < N
    · obtain ⟨⟨a, kk, m⟩, hs⟩ : ∃ s, S[j]? = some s := ⟨_, List.getElem?_eq_getElem (by rw [← HN.out.1]; exact hlt)⟩
      obtain ⟨b5, o5, e5, blt, c0, c1, c2⟩ := HSC.out wr hW j _ hs
      obtain ⟨hmn, hm8⟩ := HOK.out.within j _ hs
      simp only at c0 c1 c2 hmn hm8
      have HBLT := Lib.hid blt
      have HM : Hid (Mx[j]? = some (kk, (stepExt bs (a, kk, m)).2)) := by
        show Mx[j]? = _
        rw [HMX.out, List.getElem?_map, hs]
        rfl
      have HT := Lib.hid (take_snoc HM.out)
      obtain ⟨l, hl⟩ : ∃ l, l = (stepExt bs (a, kk, m)).2 := ⟨_, rfl⟩
      rw [← hl] at HT
      have hl2 : l = (bs.drop (a + 2)).take (m - 2) := by rw [hl]; exact body_part
      have hbl : bs.length = n := HR.out.1
      have hll : l.length = m - 2 := by rw [hl2, List.length_take, List.length_drop, hbl]; exact Nat.min_eq_left (list_nats hm8 hmn).2.2
      have hl60 : Hid (l.length ≤ 140737488355328) := by show l.length ≤ _; rw [hll]; exact Nat.le_trans (list_nats hm8 hmn).2.2 (Nat.le_trans (Nat.sub_le _ _) (Nat.le_trans HC.out.2 (by decide)))
      have hlb : Hid (∀ x ∈ l, x < 256) := fun x hx => by rw [hl2] at hx; exact HR.out.2.1 x (List.mem_of_mem_drop (List.mem_of_mem_take hx))
      obtain ⟨p, hp⟩ : ∃ p, p = a + 2 := ⟨_, rfl⟩
      obtain ⟨z, hz⟩ : ∃ z, z = a + m := ⟨_, rfl⟩
      obtain ⟨i1, i1b, i2, i2b, p0, pz, zc, pc, ncp, hzp⟩ := list_ints hp hz hm8 hmn HC.out.1 HC.out.2
      obtain ⟨b, o, rfl, hb, hcell⟩ := (HR.out.below BW.out).addr (list_nats hm8 hmn).1
      have HP : Hid (∀ A', A' = some ⟨b, o + p, none⟩ → Row wr A' l.length l) := fun A' h => by
        rw [h, hll, hl2, hp]
        exact ((HR.out.below BW.out).below hW).part (a + 2) _ (list_nats hm8 hmn).2.1
      have HQ : Hid (z - p = l.length) := by show _ = _; rw [hll, hzp]
      cases e5
      have HCW : Hid (∀ W, Below w1.heap.size w1 W → W.cell? ⟨b5, o5 + j * 3, none⟩ = some (.int .i64 (a : Nat)) ∧ W.cell? ⟨b5, o5 + j * 3 + 1, none⟩ = some (.int .i64 (kk : Nat)) ∧ W.cell? ⟨b5, o5 + j * 3 + 2, none⟩ = some (.int .i64 (m : Nat))) := fun W h => by
        obtain ⟨b6, o6, e6, _, q0, q1, q2⟩ := HSC.out W h j _ hs
        cases e6
        exact ⟨q0, q1, q2⟩
      have CJ : Hid (∀ (W2 : World) (g : Nat) (A' : Option Addr) (c' c2 q : Nat), q = l.length → Below wr.heap.size wr W2 → W2.cell? ⟨g, 0, none⟩ = some (.slice A' q c') → A' = some ⟨b, o + p, none⟩ →
          Calls Try.prog 58 #[.slice (some ⟨g, 0, none⟩) 1 c2] W2 fun e w' => ∃ A2 c2, e = .returned (.slice A2 l.length c2) ∧ BodyAt w' u9.ownBlock (.slice A2 l.length c2) l ∧ Below wr.heap.size wr w') := fun W2 g A' c' c2 q hq hb hc hA => by
        subst hq
        refine (join_one g l.length c' c2 A' l W2 hl60.out ((HP.out A' hA).below hb) hc).mono ?_
        rintro e w' ⟨v, rfl, ho, hb'⟩
        obtain ⟨A2, c2, e2, _⟩ := ho.out hlb.out
        rw [e2] at ho ⊢
        refine ⟨A2, c2, rfl, BodyAt.ofOut ho hlb.out fun k hk => ?_, hb.trans (hb'.mono hb.size)⟩
        have h1 := (HE.out.lt k hk).2
        exact Nat.lt_of_lt_of_le h1 hb.size
      have hl6 : Hid ((Mx.take j).length ≤ 1000000) := by show (Mx.take j).length ≤ _; rw [List.length_take]; exact Nat.le_trans (Nat.min_le_left _ _) (Nat.le_trans hj (Nat.le_trans HN.out.2 (by decide)))
      have jI : (j : Int) < (N : Int) := Int.ofNat_lt.2 hlt
      have j0 : (0 : Int) ≤ (j : Int) := Int.natCast_nonneg j
      have HLT := Lib.hid (And.intro hlt (idx_meas2 hlt))
      have j8 : (j : Int) ≤ 1000 := idx_thousand hj (Nat.le_trans HN.out.2 (by decide))
      have hc0 : wr.cell? ⟨b5, o5 + j * 3, none⟩ = some (.int .i64 (a : Nat)) := c0
      have hc1 : wr.cell? ⟨b5, o5 + j * 3 + 1, none⟩ = some (.int .i64 (kk : Nat)) := c1
      have hc2 : wr.cell? ⟨b5, o5 + j * 3 + 2, none⟩ = some (.int .i64 (m : Nat)) := c2
      have HC0 := Lib.hid (And.intro c0 (And.intro c1 c2))
      clear hO hW hj hlt hs c0 c1 c2 hl hl2 hll hbl hmn hm8 hp hz hzp hb hcell HP
      go_upto_region 6 with fail
      go_region_held3 (fun w' => w'.cell? ⟨b5, o5 + j * 3, none⟩ = some (.int .i64 (a : Nat)) ∧ w'.cell? ⟨b5, o5 + j * 3 + 1, none⟩ = some (.int .i64 (kk : Nat)) ∧ w'.cell? ⟨b5, o5 + j * 3 + 2, none⟩ = some (.int .i64 (m : Nat)))
        (first | exact ⟨hc0, hc1, hc2⟩ | exact hTwo | go_keep)
        (first
          | (go_at_call 58; refine (CJ.out _ _ _ _ _ _ HQ.out (by exact ((Below.refl _ _).alloc (Nat.le_refl _) _).drew) (by exact new_cell _ _ _ _ rfl) (by rfl)).mono ?_; rintro e w' ⟨A2, c2, rfl, hbd, hbl⟩
             have hTwo : w'.cell? ⟨b5, o5 + j * 3, none⟩ = some (.int .i64 (a : Nat)) ∧ w'.cell? ⟨b5, o5 + j * 3 + 1, none⟩ = some (.int .i64 (kk : Nat)) ∧ w'.cell? ⟨b5, o5 + j * 3 + 2, none⟩ = some (.int .i64 (m : Nat)) := HCW.out _ (below_both HW.out hbl)
             have HBD := Lib.hid hbd
             have HBL := Lib.hid hbl
             clear hbd hbl)
          | (refine step_append_ext (B := w1.heap.size) (W := w1) (k := kk) (l := l) (by rfl) (.tmp 25) (.tmp 53) (by rfl) (by rfl) (by rfl) (by exact heap_alloc_new _ _) (by exact HE.out.below (HBL.out.alloc HBL.out.size _)) (by exact HBD.out.below ((Below.refl _ _).alloc (Nat.le_refl _) _)) (by rfl) (by exact (below_both HW.out HBL.out).alloc (below_both HW.out HBL.out).size _) (by simp; exact Nat.le_succ_of_le (below_both HW.out HBL.out).size) hl6.out ?_; intro v' w'' ho' hb'
             have hTwo : w''.cell? ⟨b5, o5 + j * 3, none⟩ = some (.int .i64 (a : Nat)) ∧ w''.cell? ⟨b5, o5 + j * 3 + 1, none⟩ = some (.int .i64 (kk : Nat)) ∧ w''.cell? ⟨b5, o5 + j * 3 + 2, none⟩ = some (.int .i64 (m : Nat)) := HCW.out _ hb')
          | fail)
      all_goals
        go_wp2_with fail
        go_roundw
        case rel => exact ⟨j + 1, HLT.out.1, by go_num, by rw [HT.out]; exact ho', hb'⟩
        case measure => have := HLT.out.2; simpa [intOf] using this
    · have hjN : j = N := Nat.le_antisymm hj (Nat.le_of_not_lt hlt)
      have jI : ¬ (j : Int) < (N : Int) := fun h => hlt (Int.ofNat_lt.1 h)
      have HX : Hid (Mx.take j = Mx) := by show _ = _; rw [List.take_of_length_le]; rw [HMX.out, List.length_map, ← HN.out.1, hjN]; exact Nat.le_refl _
      rw [HX.out] at HE
      clear hO hW hj hlt hjN
      go_wp2_with fail
      go_ret
      exact ⟨_, rfl, HE.out.mono BW.out.size, below_both BW.out HW.out⟩
end Go.Proofs.Ytlopmkmcjcijcaa

namespace Go.Proofs.Ytlopmkmcjcijcaa
open Go.RowKit
set_option linter.unusedVariables false

theorem told_five (t : Tour) : ∃ x0 x1 x2 x3 x4 : Int, t.told = [.int .i64 x0, .int .i64 x1, .int .i64 x2, .int .i64 x3, .int .i64 x4] := by
  unfold Tour.told
  split
  · exact ⟨_, _, _, _, _, rfl⟩
  · exact ⟨_, _, _, _, _, rfl⟩
theorem exts_small {n : Nat} {bs : List Nat} {t : Tour} {S : List (Nat × Nat × Nat)} {fi : Int} (h : StepsOk n bs t S fi) (hl : bs.length = n) (hn : n ≤ 140737488351232) : (S.map (stepExt bs)).length ≤ 1000 ∧ ∀ m ∈ S.map (stepExt bs), m.2.length ≤ 140737488355328 := by
  have h8 := h.c8
  rw [h.count] at h8
  refine ⟨by rw [List.length_map]; omega, fun m hm => ?_⟩
  obtain ⟨s, _, rfl⟩ := List.mem_map.1 hm
  show (((bs.drop s.1).take s.2.2).drop 2).length ≤ _
  rw [List.length_drop, List.length_take, List.length_drop]
  omega
set_option maxRecDepth 10000 in
set_option maxHeartbeats 6400000 in
theorem walk_ExtwalkGoes (n0 : Int) (a1 : Option Addr) (len1 cap1 : Nat) (bs1 : List Nat) (w : World) (lo0 : -9223372036854775808 ≤ n0) (hi0 : n0 ≤ 9223372036854775807) (R1 : Row w a1 len1 bs1) (hl1 : len1 ≤ cap1) (hc1 : cap1 ≤ 140737488351232) :
    Calls Try.prog 3 #[.int .i64 n0, .slice a1 len1 cap1] w fun e w' => e = .returned (.bool true) ∧ Below w.heap.size w w' := by
  have hn : len1 ≤ 140737488351232 := Nat.le_trans hl1 hc1
  obtain ⟨k1, k2⟩ := walkS_walkF len1 bs1 9 (Tour.start n0) [] [] rfl
  obtain ⟨fi, hok⟩ := walkS_ok R1.1 9 (Tour.start n0) [] (-1) (steps_start n0 len1 bs1)
  obtain ⟨s1, s2⟩ := exts_small hok R1.1 hn
  have CG := Lib.hid (fun w hR => exgo_tour n0 a1 len1 cap1 bs1 w hl1 hn hR)
  have CR := Lib.hid (fun w hR => rexgo_any n0 a1 len1 cap1 bs1 w hl1 hn hR)
  have CS := Lib.hid (fun w hR => exsize_any n0 a1 len1 cap1 bs1 w (Nat.le_trans hn (by decide)) hl1 hR)
  have CT := Lib.hid (fun w hR => rexsize_any n0 a1 len1 cap1 bs1 w (Nat.le_trans hn (by decide)) hR)
  have CL := Lib.hid (fun w hR => exlist_any n0 a1 len1 cap1 bs1 w hl1 hn hR (by rw [k2]; exact s1) (by rw [k2]; exact s2))
  have CM := Lib.hid (fun w hR => rexlist_any n0 a1 len1 cap1 bs1 w hl1 hn hR)
  have CI := Lib.hid (exis_any n0)
  have CJ := Lib.hid (rexis_any n0)
  rw [k1] at CG
  rw [k2] at CL
  obtain ⟨t, ht⟩ : ∃ t, t = (walkS len1 bs1 9 (Tour.start n0) []).1 := ⟨_, rfl⟩
  obtain ⟨M, hM⟩ : ∃ M, M = (walkS len1 bs1 9 (Tour.start n0) []).2.map (stepExt bs1) := ⟨_, rfl⟩
  rw [← ht] at CG CR
  rw [← hM] at CL CM s1 s2
  unfold GoIs at CG CR
  unfold ListIs at CL CM
  unfold SizeIs Quiet at CS
  unfold RSizeIs at CT
  obtain ⟨x0, x1, x2, x3, x4, hx⟩ := told_five t
  rw [hx] at CG CR
  obtain ⟨D, hD⟩ : ∃ D, D = t.defects := ⟨_, rfl⟩
  have hD5 : D.length ≤ 1000000 := by rw [hD]; exact Nat.le_trans (defects_asc t).2.2 (by decide)
  rw [← hD] at CG CR
  obtain ⟨r, hr⟩ : ∃ r, r = exSize n0 len1 (bs1.getD 1 0) := ⟨_, rfl⟩
  rw [← hr] at CS CT
  obtain ⟨rn, hrn⟩ : ∃ rn, rn = r.getD 0 := ⟨_, rfl⟩
  obtain ⟨rb, hrb⟩ : ∃ rb, rb = r.isSome := ⟨_, rfl⟩
  rw [← hrn, ← hrb] at CS CT
  obtain ⟨ek, hek⟩ : ∃ ek, ek = exKind n0 := ⟨_, rfl⟩
  rw [← hek] at CI CJ
  have HR := Lib.hid R1
  have HB := Lib.hid (And.intro hD5 (And.intro (Nat.le_trans s1 (by decide) : M.length ≤ 1000000) (show ∀ m ∈ M, m.2.length ≤ 9223372036854775807 from fun m hm => Nat.le_trans (s2 m hm) (by decide))))
  have e1 : ((rn : Int) == (rn : Int)) = true := by simp
  have e2 : (rb == rb) = true := by simp
  have e3 : (ek == ek) = true := by simp
  clear k1 k2 hok s1 s2 hn ht hM hx hD hD5 hr hrn hrb hek R1 hl1 hc1 lo0 hi0
  go_enter Try.func3, Try.ntmps3
  go_wp2_with fail
  refine (CG.out _ HR.out).mono ?_
  rintro e w1 ⟨v1, rfl, d1, b1⟩
  go_upto_region 2 with fail
  obtain ⟨V1, eV⟩ : ∃ V, V = w1.alloc (.cells #[.int .i64 x0, .int .i64 x1, .int .i64 x2, .int .i64 x3, .int .i64 x4] 24) := ⟨_, rfl⟩
  have hA : ArrV 24 V1 w1.heap.size [.int .i64 x0, .int .i64 x1, .int .i64 x2, .int .i64 x3, .int .i64 x4] := by rw [eV]; exact ArrV.new _ w1 _
  have hb : Below w1.heap.size w1 V1 := by rw [eV]; exact (Below.refl _ _).alloc (Nat.le_refl _) _
  have A1 := Lib.hid hA
  have B1 := Lib.hid (below_both b1 hb)
  have D1 := Lib.hid (d1.below hb)
  rw [← eV]
  obtain ⟨g1, hg1⟩ : ∃ g, g = w1.heap.size := ⟨_, rfl⟩
  rw [← hg1] at A1 ⊢
  clear eV hA hb b1 d1 hg1
  go_wp2_with fail
  refine (CR.out _ (HR.out.below B1.out)).mono ?_
  rintro e w2 ⟨v2, rfl, d2, b2⟩
  go_upto_region 3 with fail
  obtain ⟨V2, eV⟩ : ∃ V, V = w2.alloc (.cells #[.int .i64 x0, .int .i64 x1, .int .i64 x2, .int .i64 x3, .int .i64 x4] 24) := ⟨_, rfl⟩
  have hA : ArrV 24 V2 w2.heap.size [.int .i64 x0, .int .i64 x1, .int .i64 x2, .int .i64 x3, .int .i64 x4] := by rw [eV]; exact ArrV.new _ w2 _
  have hb : Below w2.heap.size w2 V2 := by rw [eV]; exact (Below.refl _ _).alloc (Nat.le_refl _) _
  have b22 := below_both b2 hb
  have A1 := Lib.hid (A1.out.below b22)
  have A2 := Lib.hid hA
  have B2 := Lib.hid (below_both B1.out b22)
  have D1 := Lib.hid (D1.out.below b22)
  have D2 := Lib.hid (d2.below hb)
  rw [← eV]
  obtain ⟨g2, hg2⟩ : ∃ g, g = w2.heap.size := ⟨_, rfl⟩
  rw [← hg2] at A2 ⊢
  clear eV hA hb b2 b22 d2 hg2 B1
  go_wp2_with fail
  refine (CS.out _ (HR.out.below B2.out)).mono ?_
  rintro e w' ⟨rfl, q, rfl⟩
  obtain ⟨V3, eV⟩ : ∃ V, V = V2.drewN q := ⟨_, rfl⟩
  have A1 : Hid (ArrV 24 V3 g1 [.int .i64 x0, .int .i64 x1, .int .i64 x2, .int .i64 x3, .int .i64 x4]) := by show ArrV _ _ _ _; rw [eV]; exact A1.out
  have A2 : Hid (ArrV 24 V3 g2 [.int .i64 x0, .int .i64 x1, .int .i64 x2, .int .i64 x3, .int .i64 x4]) := by show ArrV _ _ _ _; rw [eV]; exact A2.out
  have B3 : Hid (Below w.heap.size w V3) := by show Below _ _ _; rw [eV]; exact below_drewN' B2.out q
  have D1 : Hid (DefRead V3 v1 D) := by show DefRead _ _ _; rw [eV]; exact D1.out
  have D2 : Hid (DefRead V3 v2 D) := by show DefRead _ _ _; rw [eV]; exact D2.out
  rw [← eV]
  clear eV B2
  go_wp2_with fail
  refine (CT.out _ (HR.out.below B3.out)).mono ?_
  rintro e w' ⟨rfl, rfl⟩
  go_wp2_with fail
  refine (live11 _).mono ?_
  rintro e w4 ⟨rfl, b4⟩
  have A1 := Lib.hid (A1.out.below b4)
  have A2 := Lib.hid (A2.out.below b4)
  have B4 := Lib.hid (below_both B3.out b4)
  have D1 := Lib.hid (D1.out.below b4)
  have D2 := Lib.hid (D2.out.below b4)
  clear b4 B3
  go_wp2_with (first | refine wpList_load_vg (by rfl) 24 (.tmp 5) rfl _ rfl tywalk A1.out rfl ?_ | refine wpList_load_vg (by rfl) 24 (.tmp 7) rfl _ rfl tywalk A2.out rfl ?_ | fail)
  refine (samedefs D _ _ _ HB.out.1 D1.out D2.out).mono ?_
  rintro e w5 ⟨rfl, b5⟩
  have B5 := Lib.hid (below_both B4.out b5)
  clear b5 B4 A1 A2 D1 D2
  go_wp2_with fail
  refine (CI.out _).mono ?_
  rintro e w' ⟨rfl, rfl⟩
  go_wp2_with fail
  refine (CJ.out _).mono ?_
  rintro e w' ⟨rfl, rfl⟩
  go_wp2_with fail
  refine (CL.out _ (HR.out.below B5.out)).mono ?_
  rintro e w6 ⟨v6, rfl, o6, b6⟩
  have O6 := Lib.hid o6.read
  have B6 := Lib.hid (below_both B5.out b6)
  clear o6 b6 B5
  go_wp2_with fail
  refine (CM.out _ (HR.out.below B6.out)).mono ?_
  rintro e w7 ⟨v7, rfl, o7, b7⟩
  have O6 := Lib.hid (O6.out.below b7)
  have O7 := Lib.hid o7.read
  have B7 := Lib.hid (below_both B6.out b7)
  clear o7 b7 B6
  go_wp2_with fail
  refine (sameexts M _ _ _ HB.out.2.1 HB.out.2.2 O6.out O7.out).mono ?_
  rintro e w8 ⟨rfl, b8⟩
  have B8 := Lib.hid (below_both B7.out b8)
  clear b8 B7
  go_wp2_with fail
  go_ret
  exact ⟨rfl, B8.out⟩
end Go.Proofs.Ytlopmkmcjcijcaa
