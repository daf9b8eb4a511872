/-
  packet.four: what a header of version 4 says.
  packet.six: what a header of version 6 and the headers behind it say.
-/
import Derived.Test.YtjpaicdbnadoeaaPk3
import Derived.Test.YtjpaicdbnadoeaaSx4
import Derived.Test.YtjpaicdbnadoeaaEw4
import Derived.BigRegion
namespace Go.Proofs.Ytjpaicdbnadoeaa
open Go.RowKit
set_option linter.unusedVariables false
set_option maxRecDepth 8000

def pkPv (A : Option Addr) (c : Nat) (r : PkRec) : Value := .slice (if c = r.at_ then A else A.map (·.add r.at_)) (r.size - r.at_) (c - r.at_)
def z16 : List Value := bcells (List.replicate 16 0)
def z12 : List Value := bcells (List.replicate 12 0)
theorem z_lens : z16.length = 16 ∧ z12.length = 12 := ⟨rfl, rfl⟩
theorem copy_one {a : Value} {S R : List Value} : (a :: (z16 ++ R)).take 1 ++ S ++ (a :: (z16 ++ R)).drop 5 = a :: ((S ++ z12) ++ R) := by
  have e : (a :: (z16 ++ R)).drop 5 = z12 ++ R := rfl
  rw [e]
  simp
theorem copy_two {a : Value} {S D T : List Value} (hS : S.length = 16) : (a :: (S ++ (z16 ++ T))).take 17 ++ D ++ (a :: (S ++ (z16 ++ T))).drop 21 = a :: (S ++ ((D ++ z12) ++ T)) := by
  have e : (S ++ (z16 ++ T)).drop 20 = z12 ++ T := by
    rw [show 20 = 16 + 4 from rfl, ← List.drop_drop, List.drop_left' hS]
    rfl
  rw [List.take_succ_cons, List.take_left' hS, List.drop_succ_cons, e]
  simp
theorem pkfour_of {bs : List Nat} {k : Nat} (h : k + 4 ≤ bs.length) : (bs.drop k).take 4 = [bs.getD k 0, bs.getD (k + 1) 0, bs.getD (k + 2) 0, bs.getD (k + 3) 0] := by
  refine List.ext_getElem (by simp; omega) fun i h1 h2 => ?_
  simp at h2
  match i, h2 with
  | 0, _ => simp [List.getD_eq_getElem?_getD, List.getElem?_eq_getElem (show k < bs.length by omega)]
  | 1, _ => simp [List.getD_eq_getElem?_getD, List.getElem?_eq_getElem (show k + 1 < bs.length by omega)]
  | 2, _ => simp [List.getD_eq_getElem?_getD, List.getElem?_eq_getElem (show k + 2 < bs.length by omega)]
  | 3, _ => simp [List.getD_eq_getElem?_getD, List.getElem?_eq_getElem (show k + 3 < bs.length by omega)]
theorem flag_one {f : Nat} (h : f < 8) : bits .and .i64 (f : Int) 1 = ((f % 2 : Nat) : Int) := by
  match f, h with
  | 0, _ | 1, _ | 2, _ | 3, _ | 4, _ | 5, _ | 6, _ | 7, _ => decide
theorem four_tail (bs : List Nat) (pv : Value) : trTail (pk4 bs) false 0 0 pv = [.int .i64 (bs.getD 9 0 : Nat), .int .i64 (fhw bs 2 : Nat), .int .i64 (4 * (bs.getD 0 0 % 16) : Nat), .int .i64 ((pk4 bs).frag : Nat), .bool false, .int .i64 0, .int .i64 0, .int .u8 (bs.getD 1 0 : Nat), pv] := rfl
theorem pkfour_ints {i m tot n c : Nat} (hi : i < 16) (hm : m = 4 * i) (h1 : m ≤ tot) (h2 : tot ≤ n) (h3 : n ≤ c) : wrap64 (4 * (i : Int)) = (m : Int) ∧ (0 : Int) ≤ (m : Int) ∧ (m : Int) ≤ (tot : Int) ∧ (tot : Int) ≤ (c : Int) ∧ (0 : Int) ≤ (tot : Int) := by
  subst hm
  refine ⟨by unfold wrap64; omega, by omega, by omega, by omega, by omega⟩
set_option maxHeartbeats 6400000 in
theorem pkfour_any (A : Option Addr) (n c : Nat) (bs : List Nat) (w : World) (hn2 : n ≤ 140737488355328) (hc : n ≤ c) (hR : Row w A n bs) :
    Calls Try.prog 113 #[.slice A n c] w (HeadsIs (fhall n bs) (pk4 bs) false 0 0 (pkPv A c (pk4 bs)) w) := by
  have CH := Lib.hid (fun w (hR : Row w A n bs) => fhall_any A n c bs w hc hn2 hR)
  unfold AllIs at CH
  obtain ⟨Z, hZ⟩ : ∃ Z, Z = trZ := ⟨_, rfl⟩
  obtain ⟨hZl, hZo⟩ := trZ_all
  have hlit := tr_lit
  obtain ⟨V, e0⟩ : ∃ V, V = w.alloc (.cells Z.toArray 82) := ⟨_, rfl⟩
  unfold HeadsIs
  rw [← hZ] at hZl hZo hlit ⊢
  have HA : Hid (ArrV 82 V w.heap.size Z) := by show ArrV _ _ _ _; rw [e0]; exact ArrV.new _ w Z
  have HB : Hid (Below w.heap.size w V) := by show Below _ _ _; rw [e0]; exact (Below.refl _ _).alloc (Nat.le_refl _) _
  obtain ⟨g2, hg2⟩ : ∃ g, g = w.heap.size := ⟨_, rfl⟩
  have HG2 := Lib.hid hg2
  rw [← hg2] at HA
  have HR := Lib.hid hR
  obtain ⟨D, hDD⟩ : ∃ D, D = fhall n bs := ⟨_, rfl⟩
  rw [← hDD] at CH ⊢
  by_cases hD : D = []
  · have HDEF : Hid (∀ W, Row W A n bs → Calls Try.prog 130 #[.slice A n c] W fun e w' => ∃ A9 c9, e = .returned (.slice A9 0 c9) ∧ Below W.heap.size W w') := fun W hW => (CH.out W hW).mono fun e w' h => by
      obtain ⟨v, rfl, hd, hb⟩ := h
      obtain ⟨A9, c9, rfl, _, _⟩ := hd
      rw [hD]
      exact ⟨A9, c9, rfl, hb⟩
    rw [hD] at hDD
    obtain ⟨d0, h20, m20, hmt, htn⟩ := fhall_nil hDD.symm
    have CR := Lib.hid (fun w (hR : Row w A n bs) => fhread_any A n c bs w hn2 hc hR)
    unfold ReadIs at CR
    have hval : fhval n bs = fhf bs := by unfold fhval; rw [if_pos d0]
    rw [hval, d0] at CR
    have hby := hR.byte
    have hF0 : (fhf bs)[0]? = some (.int .i64 (bs.getD 0 0 % 16 : Nat)) := rfl
    have hF1 : (fhf bs)[1]? = some (.int .i64 (bs.getD 1 0 : Nat)) := rfl
    have hF2 : (fhf bs)[2]? = some (.int .i64 (fhw bs 2 : Nat)) := rfl
    have hF4 : (fhf bs)[4]? = some (.int .i64 (bs.getD 6 0 / 32 : Nat)) := rfl
    have hF5 : (fhf bs)[5]? = some (.int .i64 (fhw bs 6 % 8192 : Nat)) := rfl
    have hF7 : (fhf bs)[7]? = some (.int .i64 (bs.getD 9 0 : Nat)) := rfl
    have hsb := pkfour_of (bs := bs) (k := 12) (by rw [hR.1]; omega)
    have hdb := pkfour_of (bs := bs) (k := 16) (by rw [hR.1]; omega)
    obtain ⟨S, hS⟩ : ∃ S, S = bcells ((bs.drop 12).take 4) := ⟨_, rfl⟩
    obtain ⟨T, hT⟩ : ∃ T, T = bcells ((bs.drop 16).take 4) := ⟨_, rfl⟩
    have hS4 : S = ((fhf bs).drop 9).take 4 := by rw [hS, hsb]; rfl
    have hT4 : T = ((fhf bs).drop 13).take 4 := by rw [hT, hdb]; rfl
    have hSl : S.length = 4 := by rw [hS, bcells_length, hsb]; rfl
    have hTl : T.length = 4 := by rw [hT, bcells_length, hdb]; rfl
    have hSo : ∀ v ∈ S, v.oneCell' = true := by rw [hS]; exact bcells_one _
    have hTo : ∀ v ∈ T, v.oneCell' = true := by rw [hT]; exact bcells_one _
    have HFS : Hid (∀ (j : Nat) v, S[j]? = some v → (fhf bs)[9 + j]? = some v) := fun j v h => by
      have hj := (List.getElem?_eq_some_iff.1 h).1
      rw [hS4, List.getElem?_take, if_pos (by omega), List.getElem?_drop] at h
      exact h
    have HFT : Hid (∀ (j : Nat) v, T[j]? = some v → (fhf bs)[13 + j]? = some v) := fun j v h => by
      have hj := (List.getElem?_eq_some_iff.1 h).1
      rw [hT4, List.getElem?_take, if_pos (by omega), List.getElem?_drop] at h
      exact h
    have hFin : ∀ pv, Value.int .i64 4 :: ((S ++ z12) ++ ((T ++ z12) ++ trTail (pk4 bs) false 0 0 pv)) = trCells (pk4 bs) false 0 0 pv := fun pv => by
      rw [hS, hT]
      unfold trCells pk4 z12
      simp only [bcells, List.map_append]
      rfl
    have HFIN := Lib.hid hFin
    have HTAIL := Lib.hid (four_tail bs)
    have hfl : (fhf bs).length = 17 := fhf_len bs
    have hfo := fhf_one bs
    obtain ⟨F, hF⟩ : ∃ F, F = fhf bs := ⟨_, rfl⟩
    have hfr : (pk4 bs).frag = if fhw bs 6 % 8192 ≠ 0 then 2 else if bs.getD 6 0 / 32 % 2 = 1 then 1 else 0 := rfl
    have hat : (pk4 bs).at_ = 4 * (bs.getD 0 0 % 16) := rfl
    have hsz : (pk4 bs).size = fhw bs 2 := rfl
    rw [← hF] at CR hF0 hF1 hF2 hF4 hF5 hF7 HFS HFT hfl hfo
    obtain ⟨ihl, hihl⟩ : ∃ x, x = bs.getD 0 0 % 16 := ⟨_, rfl⟩
    obtain ⟨tos, htos⟩ : ∃ x, x = bs.getD 1 0 := ⟨_, rfl⟩
    obtain ⟨tot, htot⟩ : ∃ x, x = fhw bs 2 := ⟨_, rfl⟩
    obtain ⟨fl, hfl2⟩ : ∃ x, x = bs.getD 6 0 / 32 := ⟨_, rfl⟩
    obtain ⟨off, hoff⟩ : ∃ x, x = fhw bs 6 % 8192 := ⟨_, rfl⟩
    obtain ⟨pr, hpr⟩ : ∃ x, x = bs.getD 9 0 := ⟨_, rfl⟩
    obtain ⟨m, hm⟩ : ∃ m, m = 4 * ihl := ⟨_, rfl⟩
    have hfl8 : fl < 8 := by have := hby 6; omega
    have ht256 : (tos : Int) % 256 = (tos : Int) := by have := hby 1; omega
    rw [← hihl] at hF0 m20 hmt HTAIL hat
    rw [← htos] at hF1 HTAIL
    rw [← htot] at hF2 hmt htn HTAIL hsz
    rw [← hfl2] at hF4 hfr
    rw [← hoff] at hF5 hfr
    rw [← hpr] at hF7 HTAIL
    rw [← hm] at m20 hmt HTAIL hat
    obtain ⟨i1, i2, i3, i4, i5⟩ := pkfour_ints (by omega) hm hmt htn hc
    have hpv : pkPv A c (pk4 bs) = .slice (if c = m then A else A.map (·.add m)) (tot - m) (c - m) := by unfold pkPv; rw [hat, hsz]
    rw [hpv]
    obtain ⟨frI, hfrr⟩ : ∃ x : Int, x = ((pk4 bs).frag : Nat) := ⟨_, rfl⟩
    rw [← hfrr] at HTAIL
    have HFRAG : Hid (frI = ((if off ≠ 0 then 2 else if fl % 2 = 1 then 1 else 0 : Nat) : Int)) := by show _ = _; rw [hfrr, hfr]
    obtain ⟨ZF, hZF⟩ : ∃ ZF, ZF = fhz := ⟨_, rfl⟩
    have hZFl : ZF.length = 17 := by rw [hZF]; rfl
    have hlitF : (#[.int .i64 0, .int .i64 0, .int .i64 0, .int .i64 0, .int .i64 0, .int .i64 0, .int .i64 0, .int .i64 0, .int .i64 0, .int .u8 0, .int .u8 0, .int .u8 0, .int .u8 0, .int .u8 0, .int .u8 0, .int .u8 0, .int .u8 0] : Array Value) = ZF.toArray := by rw [hZF]; rfl
    obtain ⟨Y0, hY0⟩ : ∃ Y, Y = Value.int .i64 0 :: (z16 ++ (z16 ++ [.int .i64 0, .int .i64 0, .int .i64 0, .int .i64 0, .bool false, .int .i64 0, .int .i64 0, .int .u8 (tos : Nat), .slice none 0 0])) := ⟨_, rfl⟩
    have hlitY : Z.set 40 (.int .u8 (tos : Nat)) = Y0 := by rw [hZ, hY0]; rfl
    have hY0l : Y0.length = 42 := by rw [hY0]; rfl
    have hY0o : ∀ v ∈ Y0, v.oneCell' = true := by rw [hY0]; unfold z16 bcells; simp [Value.oneCell']
    have HY0 := Lib.hid hY0
    have HFL := Lib.hid (And.intro hfl hfo)
    clear hDD d0 h20 m20 hmt htn hval hby hsb hdb hS hT hS4 hT4 hFin hihl htos htot hfl2 hoff hpr hm hat hsz hfr hpv hfrr hZF hY0 hF hR hn2 hc hZ hg2 CH
    have CH1 : Hid (∀ W, Row W A n bs → Calls Try.prog 130 #[.slice A n c] W fun e w' => ∃ A9 c9, e = .returned (.slice A9 0 c9) ∧ Below W.heap.size W w') := fun W hW => (HDEF.out W hW)
    go_enter Try.func113, Try.ntmps113
    go_upto_region 1 with fail
    rw [← e0, ← HG2.out]
    clear e0
    go_wp2_with fail
    refine (CH1.out _ (HR.out.below HB.out)).mono ?_
    rintro e w1 ⟨A9, c9, rfl, b1⟩
    have A1 := Lib.hid (HA.out.below b1)
    have B1 := Lib.hid (below_both HB.out b1)
    clear b1 HA HB CH1
    go_wp2_with fail
    refine (CR.out _ (HR.out.below B1.out)).mono ?_
    rintro e w2 ⟨rfl, b2⟩
    have A2 := Lib.hid (A1.out.below b2)
    have B2 := Lib.hid (below_both B1.out b2)
    clear b2 A1 B1 CR
    go_upto_region 5 with (first | refine wpList_store_v rfl 46 (.tmp 5) (.tmp 18) rfl _ rfl tyfour (ArrV.new _ _ ZF) hZFl F HFL.out.1 HFL.out.2 rfl ?_ | fail)
    obtain ⟨V5, e5⟩ : ∃ V, V = (w2.alloc (.cells ZF.toArray 46)).setCells w2.heap.size 0 F := ⟨_, rfl⟩
    have hb5 : Below w2.heap.size w2 V5 := by rw [e5]; exact setCells_below _ (Nat.le_refl _) _ _ _ ((Below.refl _ _).alloc (Nat.le_refl _) _)
    have F5 : Hid (ArrV 46 V5 w2.heap.size F) := by
      show ArrV _ _ _ _
      rw [e5]
      exact (ArrV.new _ w2 ZF).store F (by rw [HFL.out.1, hZFl])
    rw [← e5]
    obtain ⟨g5, hg5⟩ : ∃ g, g = w2.heap.size := ⟨_, rfl⟩
    have A5 := Lib.hid (A2.out.below hb5)
    have B5 := Lib.hid (below_both B2.out hb5)
    have HG5 : Hid (w.heap.size ≤ g5) := by show w.heap.size ≤ g5; rw [hg5]; exact B2.out.size
    rw [← hg5] at F5 ⊢
    clear e5 hb5 hg5 A2 B2 hlitF
    have x1 := (F5.out.get 1).trans hF1
    go_upto_region 6 with (first | refine wpList_store_v rfl 82 (.tmp 7) (.tmp 23) rfl _ rfl tytr (ArrV.new _ _ Z) hZl Y0 hY0l hY0o rfl ?_ | fail)
    obtain ⟨V6, e6⟩ : ∃ V, V = (V5.alloc (.cells Z.toArray 82)).setCells V5.heap.size 0 Y0 := ⟨_, rfl⟩
    have hb6 : Below V5.heap.size V5 V6 := by rw [e6]; exact setCells_below _ (Nat.le_refl _) _ _ _ ((Below.refl _ _).alloc (Nat.le_refl _) _)
    have hY6 : ArrV 82 V6 V5.heap.size Y0 := by
      rw [e6]
      exact (ArrV.new _ V5 Z).store Y0 (by rw [hY0l, hZl])
    rw [← e6]
    obtain ⟨g7, hg7⟩ : ∃ g, g = V5.heap.size := ⟨_, rfl⟩
    have F6 := Lib.hid (F5.out.below hb6)
    have A6 := Lib.hid (A5.out.below hb6)
    have B6 := Lib.hid (below_both B5.out hb6)
    have HG7 : Hid (g5 < g7 ∧ g2 < g7 ∧ w.heap.size ≤ g7) := by
      refine ⟨?_, ?_, ?_⟩
      · rw [hg7]; exact F5.out.lt
      · rw [hg7]; exact A5.out.lt
      · rw [hg7]; exact B5.out.size
    rw [← hg7] at hY6 ⊢
    clear e6 hb6 hg7 F5 A5 B5 hlitY
    have k0 := (F6.out.get 0).trans hF0
    have k2 := (F6.out.get 2).trans hF2
    have k7 := (F6.out.get 7).trans hF7
    rw [HY0.out] at hY6
    have y0 := hY6.get 0
    have fy0 := hY6.frozen 0
    have u1 := hY6.set 0 (.int .i64 4)
    simp only [List.set_cons_zero, List.getElem?_cons_zero] at u1 y0
    have y33 := (u1.get 33).trans (three_at z_lens.1 z_lens.1 0)
    have fy33 := u1.frozen 33
    have u2 := u1.set 33 (.int .i64 (pr : Nat))
    rw [show 33 = 33 + 0 from rfl, three_set z_lens.1 z_lens.1] at u2
    have y34 := (u2.get 34).trans (three_at z_lens.1 z_lens.1 1)
    have fy34 := u2.frozen 34
    have u3 := u2.set 34 (.int .i64 (tot : Nat))
    rw [show 34 = 33 + 1 from rfl, three_set z_lens.1 z_lens.1] at u3
    have y35 := (u3.get 35).trans (three_at z_lens.1 z_lens.1 2)
    have fy35 := u3.frozen 35
    have u4 := u3.set 35 (.int .i64 (m : Nat))
    rw [show 35 = 33 + 2 from rfl, three_set z_lens.1 z_lens.1] at u4
    simp only [List.set_cons_zero, List.set_cons_succ, List.getElem?_cons_zero, List.getElem?_cons_succ, Nat.add_zero, Nat.reduceAdd] at u1 u2 u3 u4 y33 y34 y35 fy33 fy34 fy35
    obtain ⟨W7, eW⟩ : ∃ W, W = (((V6.setCell ⟨g7, 0, none⟩ (.int .i64 4)).setCell ⟨g7, 33, none⟩ (.int .i64 (pr : Nat))).setCell ⟨g7, 34, none⟩ (.int .i64 (tot : Nat))).setCell ⟨g7, 35, none⟩ (.int .i64 (m : Nat)) := ⟨_, rfl⟩
    have n75 : g7 ≠ g5 := Nat.ne_of_gt HG7.out.1
    have n72 : g7 ≠ g2 := Nat.ne_of_gt HG7.out.2.1
    have F7 : ArrV 46 W7 g5 F := by rw [eW]; exact ((((F6.out.other ⟨g7, 0, none⟩ _ n75).other ⟨g7, 33, none⟩ _ n75).other ⟨g7, 34, none⟩ _ n75).other ⟨g7, 35, none⟩ _ n75)
    have A7 : ArrV 82 W7 g2 Z := by rw [eW]; exact ((((A6.out.other ⟨g7, 0, none⟩ _ n72).other ⟨g7, 33, none⟩ _ n72).other ⟨g7, 34, none⟩ _ n72).other ⟨g7, 35, none⟩ _ n72)
    have B7 : Below w.heap.size w W7 := by rw [eW]; exact (((B6.out.setCell (p := ⟨g7, 0, none⟩) HG7.out.2.2 _).setCell (p := ⟨g7, 33, none⟩) HG7.out.2.2 _).setCell (p := ⟨g7, 34, none⟩) HG7.out.2.2 _).setCell (p := ⟨g7, 35, none⟩) HG7.out.2.2 _
    rw [← eW] at u4
    obtain ⟨w8, hcp, hO8, b8⟩ := copy_at Try.underlying22 u8one 82 W7.drew g7 1 16 16 _ ⟨g5, 9, none⟩ 4 4 S u4.drew (by rw [hSl]; rfl) (arr_src F7.drew HFS.out) (by rw [hSl]; simp [z_lens.1]) hSo
    rw [hSl] at hcp hO8
    rw [show 1 + 4 = 5 from rfl, copy_one] at hO8
    have F8 : ArrV 46 w8 g5 F := F7.drew.belowB b8 HG7.out.1
    have A8 : ArrV 82 w8 g2 Z := A7.drew.belowB b8 HG7.out.2.1
    have B8 : Below w.heap.size w w8 := B7.drew.trans (b8.mono HG7.out.2.2)
    have hS16 : (S ++ z12).length = 16 := by rw [List.length_append, hSl, z_lens.2]
    have hT16 : (T ++ z12).length = 16 := by rw [List.length_append, hTl, z_lens.2]
    obtain ⟨w9, hcp2, hO9, b9⟩ := copy_at Try.underlying22 u8one 82 w8.drew g7 17 16 16 _ ⟨g5, 13, none⟩ 4 4 T hO8.drew (by rw [hTl]; rfl) (arr_src F8.drew HFT.out) (by rw [hTl]; simp [hSl, z_lens.1, z_lens.2]) hTo
    rw [hTl] at hcp2 hO9
    rw [show 17 + 4 = 21 from rfl, copy_two hS16] at hO9
    have F9 := Lib.hid (F8.drew.belowB b9 HG7.out.1)
    have A9' := Lib.hid (A8.drew.belowB b9 HG7.out.2.1)
    have B9 : Hid (Below w.heap.size w w9) := B8.drew.trans (b9.mono HG7.out.2.2)
    have U9 := Lib.hid hO9
    have HST16 := Lib.hid (And.intro hS16 hT16)
    clear F7 A7 B7 F8 A8 B8 b8 b9 hO8 hO9 u1 u2 u3 n75 n72
    go_upto_region 7 with fail
    rw [← eW]
    clear eW u4 y0 fy0 y33 fy33 y34 fy34 y35 fy35 k0 k2 k7 x1
    go_region
    go_wp2_with fail
    go_region
    go_upto_region 9 with fail
    have x4 := (F9.out.get 4).trans hF4
    have x5 := (F9.out.get 5).trans hF5
    by_cases hoff0 : off ≠ 0
    · have ob : ((off : Int) != 0) = true := bne_iff_ne.2 (by omega)
      have y36 := (U9.out.get 36).trans (three_at HST16.out.1 HST16.out.2 3)
      have fy36 := U9.out.frozen 36
      have u10 := U9.out.set 36 (.int .i64 2)
      rw [show 36 = 33 + 3 from rfl, three_set HST16.out.1 HST16.out.2] at u10
      simp only [List.set_cons_zero, List.set_cons_succ, List.getElem?_cons_zero, List.getElem?_cons_succ, Nat.reduceAdd] at u10 y36 fy36
      have hfr : frI = 2 := by rw [HFRAG.out, if_pos hoff0]; rfl
      have n72 : g7 ≠ g2 := Nat.ne_of_gt HG7.out.2.1
      have W10 : Hid (Below w.heap.size w (w9.setCell ⟨g7, 36, none⟩ (.int .i64 2)) ∧ ArrV 82 (w9.setCell ⟨g7, 36, none⟩ (.int .i64 2)) g2 Z) := ⟨B9.out.setCell (p := ⟨g7, 36, none⟩) HG7.out.2.2 _, A9'.out.other ⟨g7, 36, none⟩ _ n72⟩
      clear n72
      obtain ⟨W0, eW⟩ : ∃ W, W = (w9.setCell ⟨g7, 36, none⟩ (.int .i64 2)) := ⟨_, rfl⟩
      rw [← eW] at u10 W10
      have U10 := Lib.hid u10
      clear u10
      go_upto_region 13 with fail
      rw [← eW]
      clear eW y36 fy36 x4 x5
      obtain ⟨W10a, W10b⟩ := W10.out
      have y34 := (U10.out.get 34).trans (three_at HST16.out.1 HST16.out.2 1)
      have y35 := (U10.out.get 35).trans (three_at HST16.out.1 HST16.out.2 2)
      have y41 := (U10.out.get 41).trans (three_at HST16.out.1 HST16.out.2 8)
      have fy41 := U10.out.frozen 41
      have u11 := U10.out.set 41 (.slice (if c = m then A else A.map (·.add m)) (tot - m) (c - m))
      rw [show 41 = 33 + 8 from rfl, three_set HST16.out.1 HST16.out.2] at u11
      simp only [List.set_cons_zero, List.set_cons_succ, List.getElem?_cons_zero, List.getElem?_cons_succ, Nat.reduceAdd] at u11 y34 y35 y41 fy41
      have hfin := HFIN.out (.slice (if c = m then A else A.map (·.add m)) (tot - m) (c - m))
      rw [HTAIL.out, hfr] at hfin
      rw [hfin] at u11
      obtain ⟨Yl, Yo⟩ : (trCells (pk4 bs) false 0 0 (.slice (if c = m then A else A.map (·.add m)) (tot - m) (c - m))).length = 42 ∧ ∀ v ∈ trCells (pk4 bs) false 0 0 (.slice (if c = m then A else A.map (·.add m)) (tot - m) (c - m)), v.oneCell' = true := by
        rw [← hfin]
        refine ⟨by simp [hSl, hTl, z_lens.2], fun v hv => ?_⟩
        have hzz : ∀ v ∈ z12, v.oneCell' = true := bcells_one _
        rcases List.mem_cons.1 hv with rfl | hv
        · rfl
        rcases List.mem_append.1 hv with hv | hv
        · rcases List.mem_append.1 hv with hv | hv
          · exact hSo v hv
          · exact hzz v hv
        rcases List.mem_append.1 hv with hv | hv
        · rcases List.mem_append.1 hv with hv | hv
          · exact hTo v hv
          · exact hzz v hv
        · simp at hv
          rcases hv with rfl | rfl | rfl | rfl | rfl | rfl | rfl | rfl <;> rfl
      have n72 : g7 ≠ g2 := Nat.ne_of_gt HG7.out.2.1
      have A11 := W10b.other ⟨g7, 41, none⟩ (.slice (if c = m then A else A.map (·.add m)) (tot - m) (c - m)) n72
      have B11 := W10a.setCell (p := ⟨g7, 41, none⟩) HG7.out.2.2 (.slice (if c = m then A else A.map (·.add m)) (tot - m) (c - m))
      obtain ⟨Y, hY⟩ : ∃ Y, Y = trCells (pk4 bs) false 0 0 (.slice (if c = m then A else A.map (·.add m)) (tot - m) (c - m)) := ⟨_, rfl⟩
      rw [← hY] at u11 Yl Yo
      obtain ⟨pv, hpv⟩ : ∃ pv : Value, pv = (.slice (if c = m then A else A.map (·.add m)) (tot - m) (c - m)) := ⟨_, rfl⟩
      rw [← hpv] at u11 A11 B11
      obtain ⟨W11, e11⟩ : ∃ W, W = W0.setCell ⟨g7, 41, none⟩ pv := ⟨_, rfl⟩
      rw [← e11] at u11 A11 B11
      have U11 := Lib.hid u11
      have A11 := Lib.hid A11
      have B11 := Lib.hid B11
      have HY := Lib.hid hY
      clear u11 hfin hY n72 W10a W10b hfr
      go_upto_region 14 with fail
      rw [← hpv, ← e11]
      clear hpv e11 y34 y35 y41 fy41
      refine wp_region_lit ?_
      go_wp2_with (first | refine wpList_load_v rfl 82 (.tmp 7) rfl _ rfl tytr U11.out Yl ?_ | refine wpList_store_v rfl 82 (.tmp 2) (.tmp 73) rfl _ rfl tytr A11.out hZl Y Yl Yo rfl ?_ | fail)
      all_goals
        have HS := A11.out.store Y (by rw [Yl, hZl])
        exact bodyPost_ret (v := .tuple #[.agg Y.toArray, .slice none 0 0]) (res_cell_tmp Try.results113 rfl (HS.loadVar tytr Yl) rfl) rfl ⟨setCells_below g2 (by rw [HG2.out]; exact Nat.le_refl _) _ _ _ B11.out, by rw [HY.out]; first | rw [if_neg (by assumption)] | (have hcm : c = m := (by assumption); rw [if_pos hcm, hcm, Nat.sub_self])⟩
    · have hoff0 : off = 0 := Decidable.of_not_not hoff0
      have ob : ((off : Int) != 0) = false := by rw [hoff0]; rfl
      have fb := flag_one hfl8
      by_cases hfl1 : fl % 2 = 1
      · have fb2 : (((fl % 2 : Nat) : Int) != 0) = true := bne_iff_ne.2 (by omega)
        have y36 := (U9.out.get 36).trans (three_at HST16.out.1 HST16.out.2 3)
        have fy36 := U9.out.frozen 36
        have u10 := U9.out.set 36 (.int .i64 1)
        rw [show 36 = 33 + 3 from rfl, three_set HST16.out.1 HST16.out.2] at u10
        simp only [List.set_cons_zero, List.set_cons_succ, List.getElem?_cons_zero, List.getElem?_cons_succ, Nat.reduceAdd] at u10 y36 fy36
        have hfr : frI = 1 := by rw [HFRAG.out, if_neg (fun h => h hoff0), if_pos hfl1]; rfl
        have n72 : g7 ≠ g2 := Nat.ne_of_gt HG7.out.2.1
        have W10 : Hid (Below w.heap.size w (w9.setCell ⟨g7, 36, none⟩ (.int .i64 1)) ∧ ArrV 82 (w9.setCell ⟨g7, 36, none⟩ (.int .i64 1)) g2 Z) := ⟨B9.out.setCell (p := ⟨g7, 36, none⟩) HG7.out.2.2 _, A9'.out.other ⟨g7, 36, none⟩ _ n72⟩
        clear n72
        obtain ⟨W0, eW⟩ : ∃ W, W = (w9.setCell ⟨g7, 36, none⟩ (.int .i64 1)) := ⟨_, rfl⟩
        rw [← eW] at u10 W10
        have U10 := Lib.hid u10
        clear u10
        go_upto_region 13 with fail
        rw [← eW]
        clear eW y36 fy36 x4 x5
        obtain ⟨W10a, W10b⟩ := W10.out
        have y34 := (U10.out.get 34).trans (three_at HST16.out.1 HST16.out.2 1)
        have y35 := (U10.out.get 35).trans (three_at HST16.out.1 HST16.out.2 2)
        have y41 := (U10.out.get 41).trans (three_at HST16.out.1 HST16.out.2 8)
        have fy41 := U10.out.frozen 41
        have u11 := U10.out.set 41 (.slice (if c = m then A else A.map (·.add m)) (tot - m) (c - m))
        rw [show 41 = 33 + 8 from rfl, three_set HST16.out.1 HST16.out.2] at u11
        simp only [List.set_cons_zero, List.set_cons_succ, List.getElem?_cons_zero, List.getElem?_cons_succ, Nat.reduceAdd] at u11 y34 y35 y41 fy41
        have hfin := HFIN.out (.slice (if c = m then A else A.map (·.add m)) (tot - m) (c - m))
        rw [HTAIL.out, hfr] at hfin
        rw [hfin] at u11
        obtain ⟨Yl, Yo⟩ : (trCells (pk4 bs) false 0 0 (.slice (if c = m then A else A.map (·.add m)) (tot - m) (c - m))).length = 42 ∧ ∀ v ∈ trCells (pk4 bs) false 0 0 (.slice (if c = m then A else A.map (·.add m)) (tot - m) (c - m)), v.oneCell' = true := by
          rw [← hfin]
          refine ⟨by simp [hSl, hTl, z_lens.2], fun v hv => ?_⟩
          have hzz : ∀ v ∈ z12, v.oneCell' = true := bcells_one _
          rcases List.mem_cons.1 hv with rfl | hv
          · rfl
          rcases List.mem_append.1 hv with hv | hv
          · rcases List.mem_append.1 hv with hv | hv
            · exact hSo v hv
            · exact hzz v hv
          rcases List.mem_append.1 hv with hv | hv
          · rcases List.mem_append.1 hv with hv | hv
            · exact hTo v hv
            · exact hzz v hv
          · simp at hv
            rcases hv with rfl | rfl | rfl | rfl | rfl | rfl | rfl | rfl <;> rfl
        have n72 : g7 ≠ g2 := Nat.ne_of_gt HG7.out.2.1
        have A11 := W10b.other ⟨g7, 41, none⟩ (.slice (if c = m then A else A.map (·.add m)) (tot - m) (c - m)) n72
        have B11 := W10a.setCell (p := ⟨g7, 41, none⟩) HG7.out.2.2 (.slice (if c = m then A else A.map (·.add m)) (tot - m) (c - m))
        obtain ⟨Y, hY⟩ : ∃ Y, Y = trCells (pk4 bs) false 0 0 (.slice (if c = m then A else A.map (·.add m)) (tot - m) (c - m)) := ⟨_, rfl⟩
        rw [← hY] at u11 Yl Yo
        obtain ⟨pv, hpv⟩ : ∃ pv : Value, pv = (.slice (if c = m then A else A.map (·.add m)) (tot - m) (c - m)) := ⟨_, rfl⟩
        rw [← hpv] at u11 A11 B11
        obtain ⟨W11, e11⟩ : ∃ W, W = W0.setCell ⟨g7, 41, none⟩ pv := ⟨_, rfl⟩
        rw [← e11] at u11 A11 B11
        have U11 := Lib.hid u11
        have A11 := Lib.hid A11
        have B11 := Lib.hid B11
        have HY := Lib.hid hY
        clear u11 hfin hY n72 W10a W10b hfr
        go_upto_region 14 with fail
        rw [← hpv, ← e11]
        clear hpv e11 y34 y35 y41 fy41
        refine wp_region_lit ?_
        go_wp2_with (first | refine wpList_load_v rfl 82 (.tmp 7) rfl _ rfl tytr U11.out Yl ?_ | refine wpList_store_v rfl 82 (.tmp 2) (.tmp 73) rfl _ rfl tytr A11.out hZl Y Yl Yo rfl ?_ | fail)
        all_goals
          have HS := A11.out.store Y (by rw [Yl, hZl])
          exact bodyPost_ret (v := .tuple #[.agg Y.toArray, .slice none 0 0]) (res_cell_tmp Try.results113 rfl (HS.loadVar tytr Yl) rfl) rfl ⟨setCells_below g2 (by rw [HG2.out]; exact Nat.le_refl _) _ _ _ B11.out, by rw [HY.out]; first | rw [if_neg (by assumption)] | (have hcm : c = m := (by assumption); rw [if_pos hcm, hcm, Nat.sub_self])⟩
      · have fb2 : (((fl % 2 : Nat) : Int) != 0) = false := by
          have : fl % 2 = 0 := by omega
          rw [this]; rfl
        have u10 := U9.out
        have hfr : frI = 0 := by rw [HFRAG.out, if_neg (fun h => h hoff0), if_neg hfl1]; rfl
        have W10 : Hid (Below w.heap.size w w9 ∧ ArrV 82 w9 g2 Z) := ⟨B9.out, A9'.out⟩
        obtain ⟨W0, eW⟩ : ∃ W, W = w9 := ⟨_, rfl⟩
        rw [← eW] at u10 W10
        have U10 := Lib.hid u10
        clear u10
        go_upto_region 13 with fail
        rw [← eW]
        clear eW x4 x5
        obtain ⟨W10a, W10b⟩ := W10.out
        have y34 := (U10.out.get 34).trans (three_at HST16.out.1 HST16.out.2 1)
        have y35 := (U10.out.get 35).trans (three_at HST16.out.1 HST16.out.2 2)
        have y41 := (U10.out.get 41).trans (three_at HST16.out.1 HST16.out.2 8)
        have fy41 := U10.out.frozen 41
        have u11 := U10.out.set 41 (.slice (if c = m then A else A.map (·.add m)) (tot - m) (c - m))
        rw [show 41 = 33 + 8 from rfl, three_set HST16.out.1 HST16.out.2] at u11
        simp only [List.set_cons_zero, List.set_cons_succ, List.getElem?_cons_zero, List.getElem?_cons_succ, Nat.reduceAdd] at u11 y34 y35 y41 fy41
        have hfin := HFIN.out (.slice (if c = m then A else A.map (·.add m)) (tot - m) (c - m))
        rw [HTAIL.out, hfr] at hfin
        rw [hfin] at u11
        obtain ⟨Yl, Yo⟩ : (trCells (pk4 bs) false 0 0 (.slice (if c = m then A else A.map (·.add m)) (tot - m) (c - m))).length = 42 ∧ ∀ v ∈ trCells (pk4 bs) false 0 0 (.slice (if c = m then A else A.map (·.add m)) (tot - m) (c - m)), v.oneCell' = true := by
          rw [← hfin]
          refine ⟨by simp [hSl, hTl, z_lens.2], fun v hv => ?_⟩
          have hzz : ∀ v ∈ z12, v.oneCell' = true := bcells_one _
          rcases List.mem_cons.1 hv with rfl | hv
          · rfl
          rcases List.mem_append.1 hv with hv | hv
          · rcases List.mem_append.1 hv with hv | hv
            · exact hSo v hv
            · exact hzz v hv
          rcases List.mem_append.1 hv with hv | hv
          · rcases List.mem_append.1 hv with hv | hv
            · exact hTo v hv
            · exact hzz v hv
          · simp at hv
            rcases hv with rfl | rfl | rfl | rfl | rfl | rfl | rfl | rfl <;> rfl
        have n72 : g7 ≠ g2 := Nat.ne_of_gt HG7.out.2.1
        have A11 := W10b.other ⟨g7, 41, none⟩ (.slice (if c = m then A else A.map (·.add m)) (tot - m) (c - m)) n72
        have B11 := W10a.setCell (p := ⟨g7, 41, none⟩) HG7.out.2.2 (.slice (if c = m then A else A.map (·.add m)) (tot - m) (c - m))
        obtain ⟨Y, hY⟩ : ∃ Y, Y = trCells (pk4 bs) false 0 0 (.slice (if c = m then A else A.map (·.add m)) (tot - m) (c - m)) := ⟨_, rfl⟩
        rw [← hY] at u11 Yl Yo
        obtain ⟨pv, hpv⟩ : ∃ pv : Value, pv = (.slice (if c = m then A else A.map (·.add m)) (tot - m) (c - m)) := ⟨_, rfl⟩
        rw [← hpv] at u11 A11 B11
        obtain ⟨W11, e11⟩ : ∃ W, W = W0.setCell ⟨g7, 41, none⟩ pv := ⟨_, rfl⟩
        rw [← e11] at u11 A11 B11
        have U11 := Lib.hid u11
        have A11 := Lib.hid A11
        have B11 := Lib.hid B11
        have HY := Lib.hid hY
        clear u11 hfin hY n72 W10a W10b hfr
        go_upto_region 14 with fail
        rw [← hpv, ← e11]
        clear hpv e11 y34 y35 y41 fy41
        refine wp_region_lit ?_
        go_wp2_with (first | refine wpList_load_v rfl 82 (.tmp 7) rfl _ rfl tytr U11.out Yl ?_ | refine wpList_store_v rfl 82 (.tmp 2) (.tmp 73) rfl _ rfl tytr A11.out hZl Y Yl Yo rfl ?_ | fail)
        all_goals
          have HS := A11.out.store Y (by rw [Yl, hZl])
          exact bodyPost_ret (v := .tuple #[.agg Y.toArray, .slice none 0 0]) (res_cell_tmp Try.results113 rfl (HS.loadVar tytr Yl) rfl) rfl ⟨setCells_below g2 (by rw [HG2.out]; exact Nat.le_refl _) _ _ _ B11.out, by rw [HY.out]; first | rw [if_neg (by assumption)] | (have hcm : c = m := (by assumption); rw [if_pos hcm, hcm, Nat.sub_self])⟩
  · have CH1 : Hid (∀ W, Row W A n bs → Calls Try.prog 130 #[.slice A n c] W fun e w' => ∃ A9 c9, e = .returned (.slice A9 D.length c9) ∧ DefRead w' (.slice A9 D.length c9) D ∧ Below W.heap.size W w') := fun W hW => (CH.out W hW).mono fun e w' h => by
      obtain ⟨v, rfl, hd, hb⟩ := h
      obtain ⟨A9, c9, rfl, h4, h5⟩ := hd
      exact ⟨A9, c9, rfl, ⟨A9, c9, rfl, h4, h5⟩, hb⟩
    have hl0 : 0 < D.length := List.length_pos_iff.2 hD
    obtain ⟨q, hq⟩ : ∃ q, q = D.length := ⟨_, rfl⟩
    rw [← hq] at CH1 hl0
    have qI : (0 : Int) < (q : Int) := by omega
    have HND := Lib.hid hD
    clear hg2 hD hDD hl0 CH hq hR hZ hn2 hc
    go_enter Try.func113, Try.ntmps113
    go_upto_region 1 with fail
    rw [← e0, ← HG2.out]
    clear e0
    go_wp2_with fail
    refine (CH1.out _ (HR.out.below HB.out)).mono ?_
    rintro e w1 ⟨A9, c9, rfl, d1, b1⟩
    have A4 := Lib.hid (HA.out.below b1)
    have B4 := Lib.hid (below_both HB.out b1)
    have D4 := Lib.hid d1
    clear d1 b1 HA HB
    go_wp2_with (first | refine wpList_store_v rfl 82 (.tmp 2) (.tmp 13) rfl _ rfl tytr A4.out hZl Z hZl hZo rfl ?_ | fail)
    have HS := A4.out.store Z rfl
    exact bodyPost_ret (v := .tuple #[.agg Z.toArray, .slice A9 q c9]) (res_cell_tmp Try.results113 rfl (HS.loadVar tytr hZl) rfl) rfl ⟨setCells_below g2 (by rw [HG2.out]; exact Nat.le_refl _) _ _ _ B4.out, fun _ => ⟨_, rfl, D4.out.again A4.out⟩, fun h => absurd h HND.out⟩
end Go.Proofs.Ytjpaicdbnadoeaa

namespace Go.Proofs.Ytjpaicdbnadoeaa
open Go.RowKit
set_option linter.unusedVariables false
set_option maxRecDepth 8000

theorem copy_src {a : Value} {S R : List Value} (hS : S.length = 16) : (a :: (z16 ++ R)).take 1 ++ S ++ (a :: (z16 ++ R)).drop 17 = a :: (S ++ R) := by
  have e : (a :: (z16 ++ R)).drop 17 = R := rfl
  rw [e]
  simp
theorem copy_dst {a : Value} {S D T : List Value} (hS : S.length = 16) : (a :: (S ++ (z16 ++ T))).take 17 ++ D ++ (a :: (S ++ (z16 ++ T))).drop 33 = a :: (S ++ (D ++ T)) := by
  have e : (S ++ (z16 ++ T)).drop 32 = T := by
    rw [show 32 = 16 + 16 from rfl, ← List.drop_drop, List.drop_left' hS]
    rfl
  rw [List.take_succ_cons, List.take_left' hS, List.drop_succ_cons, e]
  simp
theorem six_tail (bs : List Nat) (pv : Value) : trTail (pk6 bs) false 0 0 pv = [.int .i64 (pkTour bs).proto, .int .i64 (40 + sxPay bs : Nat), .int .i64 (40 + (pkTour bs).at_ : Nat), .int .i64 ((pkTour bs).frag : Nat), .bool false, .int .i64 0, .int .i64 0, .int .u8 (sxN (be (bs.take 8)) 0 : Nat), pv] := rfl
theorem sixp_ints {p a n c s m : Nat} (hs : s = 40 + p) (hm : m = 40 + a) (h1 : a ≤ p) (h2 : s ≤ n) (h3 : n ≤ c) (h4 : n ≤ 140737488355328) : wrap64 (40 + (p : Int)) = (s : Int) ∧ wrap64 (40 + (a : Int)) = (m : Int) ∧ (0 : Int) ≤ (m : Int) ∧ (m : Int) ≤ (s : Int) ∧ (s : Int) ≤ (c : Int) ∧ (0 : Int) ≤ (s : Int) ∧ IntKind.i64.wrap (40 + (p : Int)) = (s : Int) ∧ IntKind.i64.wrap (40 + (a : Int)) = (m : Int) := by
  have e1 : (40 : Int) + (p : Int) = (s : Int) := by omega
  have e2 : (40 : Int) + (a : Int) = (m : Int) := by omega
  rw [e1, e2]
  exact ⟨w64_big (by omega) (by omega), w64_big (by omega) (by omega), by omega, by omega, by omega, by omega, IntWalk.i64_in _ (by omega), IntWalk.i64_in _ (by omega)⟩
set_option maxHeartbeats 6400000 in
theorem pksix_any (A : Option Addr) (n c : Nat) (bs : List Nat) (w : World) (hn2 : n ≤ 140737488351232) (hc : n ≤ c) (hR : Row w A n bs) :
    Calls Try.prog 114 #[.slice A n c] w (HeadsIs (sxall n bs) (pk6 bs) false 0 0 (pkPv A c (pk6 bs)) w) := by
  have hn3 : n ≤ 140737488355328 := Nat.le_trans hn2 (by decide)
  have CH := Lib.hid (fun w (hR : Row w A n bs) => sxall_any A n c bs w hn3 hc hR)
  unfold SxAllIs at CH
  obtain ⟨Z, hZ⟩ : ∃ Z, Z = trZ := ⟨_, rfl⟩
  obtain ⟨hZl, hZo⟩ := trZ_all
  have hlit := tr_lit
  obtain ⟨V, e0⟩ : ∃ V, V = w.alloc (.cells Z.toArray 82) := ⟨_, rfl⟩
  unfold HeadsIs
  rw [← hZ] at hZl hZo hlit ⊢
  have HA : Hid (ArrV 82 V w.heap.size Z) := by show ArrV _ _ _ _; rw [e0]; exact ArrV.new _ w Z
  have HB : Hid (Below w.heap.size w V) := by show Below _ _ _; rw [e0]; exact (Below.refl _ _).alloc (Nat.le_refl _) _
  obtain ⟨g2, hg2⟩ : ∃ g, g = w.heap.size := ⟨_, rfl⟩
  have HG2 := Lib.hid hg2
  rw [← hg2] at HA
  have HR := Lib.hid hR
  obtain ⟨D, hDD⟩ : ∃ D, D = sxall n bs := ⟨_, rfl⟩
  rw [← hDD] at CH ⊢
  by_cases hD : D = []
  · have CH1 : Hid (∀ W, Row W A n bs → Calls Try.prog 131 #[.slice A n c] W fun e w' => ∃ A9 c9, e = .returned (.slice A9 0 c9) ∧ Below W.heap.size W w') := fun W hW => (CH.out W hW).mono fun e w' h => by
      obtain ⟨v, rfl, hd, hb⟩ := h
      obtain ⟨A9, c9, rfl, _, _⟩ := hd
      rw [hD]
      exact ⟨A9, c9, rfl, hb⟩
    rw [hD] at hDD
    obtain ⟨d0, h40, hrest, hrl, hdf⟩ := sxall_nil hR.1 hDD.symm
    have CR := Lib.hid (fun w (hR : Row w A n bs) => sxread_any A n c bs w hn3 hc hR)
    unfold SxReadIs at CR
    have hval : sxval n bs = sxF bs := by unfold sxval; rw [if_pos d0]
    rw [hval, d0] at CR
    have CT : Hid (∀ W, Row W A n bs → Calls Try.prog 133 #[.slice A n c] W fun e w' => ∃ A8 c8, e = .returned (.tuple #[.slice A8 (sxPay bs) c8, .bool true]) ∧ sxPay bs ≤ c8 ∧ Row w' A8 (sxPay bs) (pkRest bs) ∧ Below W.heap.size W w') := fun W hW => by
      have h := sxrest_any A n c bs W hn3 hc hW
      unfold SxRestIs at h
      rw [hrest] at h
      refine h.mono ?_
      rintro e w' ⟨v, rfl, ⟨A8, c8, rfl, h1, h2⟩, hb⟩
      rw [Option.getD_some, hrl] at h1 h2 ⊢
      exact ⟨A8, c8, rfl, h1, h2, hb⟩
    have CG : Hid (∀ (A8 : Option Addr) (c8 : Nat) (W : World), sxPay bs ≤ c8 → Row W A8 (sxPay bs) (pkRest bs) → Calls Try.prog 134 #[.int .i64 (sxNext bs : Nat), .slice A8 (sxPay bs) c8] W fun e w' => ∃ v, e = .returned (.tuple #[.agg #[.int .i64 (pkTour bs).proto, .int .i64 ((pkTour bs).at_ : Nat), .int .i64 ((pkTour bs).frag : Nat), .int .i64 ((pkTour bs).off : Nat), .int .i64 ((pkTour bs).count : Nat)], v]) ∧ Below W.heap.size W w') := fun A8 c8 W h1 h2 => by
      have h := exgo_tour ((sxNext bs : Nat) : Int) A8 (sxPay bs) c8 (pkRest bs) W h1 (by omega) h2
      rw [show (walkF (sxPay bs) (pkRest bs) 9 (Tour.start ((sxNext bs : Nat) : Int)) []).1 = pkTour bs by unfold pkTour; rw [hrl]] at h
      unfold GoIs at h
      refine h.mono ?_
      rintro e w' ⟨v, rfl, _, hb⟩
      refine ⟨v, ?_, hb⟩
      unfold Tour.told
      rw [if_pos hdf]
      rfl
    have hby := hR.byte
    obtain ⟨ok, _⟩ := walkF_ok (k := ((sxNext bs : Nat) : Int)) (n := (pkRest bs).length) (bs := pkRest bs) 9 (Tour.start ((sxNext bs : Nat) : Int)) [] (start_ok _ _) rfl rfl
    have hatl : (pkTour bs).at_ ≤ sxPay bs := by have h := ok.at_; rw [hrl] at h; unfold pkTour; rw [hrl]; exact h
    have hF0 : (sxF bs)[0]? = some (.int .i64 (sxN (be (bs.take 8)) 0 : Nat)) := rfl
    have hF2 : (sxF bs)[2]? = some (.int .i64 (sxPay bs : Nat)) := rfl
    have hF3 : (sxF bs)[3]? = some (.int .i64 (sxNext bs : Nat)) := rfl
    have l1 : ((bs.drop 8).take 16).length = 16 := by rw [List.length_take, List.length_drop, hR.1]; omega
    have l2 : ((bs.drop 24).take 16).length = 16 := by rw [List.length_take, List.length_drop, hR.1]; omega
    obtain ⟨hfl, hfo⟩ := six_all (be (bs.take 8)) l1 l2
    have hfl : (sxF bs).length = 37 := hfl
    have hfo : ∀ v ∈ sxF bs, v.oneCell' = true := hfo
    obtain ⟨S, hS⟩ : ∃ S, S = bcells ((bs.drop 8).take 16) := ⟨_, rfl⟩
    obtain ⟨T, hT⟩ : ∃ T, T = bcells ((bs.drop 24).take 16) := ⟨_, rfl⟩
    have hSl : S.length = 16 := by rw [hS, bcells_length, l1]
    have hTl : T.length = 16 := by rw [hT, bcells_length, l2]
    have hSo : ∀ v ∈ S, v.oneCell' = true := by rw [hS]; exact bcells_one _
    have hTo : ∀ v ∈ T, v.oneCell' = true := by rw [hT]; exact bcells_one _
    have hFe : sxF bs = sxNums (be (bs.take 8)) ++ S ++ T := by rw [hS, hT]; rfl
    have hN5 : (sxNums (be (bs.take 8))).length = 5 := rfl
    have HFS : Hid (∀ (j : Nat) v, S[j]? = some v → (sxF bs)[5 + j]? = some v) := fun j v h => by
      have hj := (List.getElem?_eq_some_iff.1 h).1
      rw [hFe, List.append_assoc, List.getElem?_append_right (by omega), hN5, Nat.add_sub_cancel_left, List.getElem?_append_left hj]
      exact h
    have HFT : Hid (∀ (j : Nat) v, T[j]? = some v → (sxF bs)[21 + j]? = some v) := fun j v h => by
      have hj := (List.getElem?_eq_some_iff.1 h).1
      rw [hFe, List.getElem?_append_right (by rw [List.length_append, hN5, hSl]; omega), List.length_append, hN5, hSl, Nat.add_sub_cancel_left]
      exact h
    have hFin : ∀ pv, Value.int .i64 6 :: (S ++ (T ++ trTail (pk6 bs) false 0 0 pv)) = trCells (pk6 bs) false 0 0 pv := fun pv => by rw [hS, hT]; rfl
    have HFIN := Lib.hid hFin
    have HTAIL := Lib.hid (six_tail bs)
    have hat : (pk6 bs).at_ = 40 + (pkTour bs).at_ := rfl
    have hsz : (pk6 bs).size = 40 + sxPay bs := rfl
    have hcl : sxN (be (bs.take 8)) 0 < 256 := by unfold sxN; exact Nat.mod_lt _ (by decide)
    obtain ⟨F, hF⟩ : ∃ F, F = sxF bs := ⟨_, rfl⟩
    rw [← hF] at CR hF0 hF2 hF3 HFS HFT hfl hfo
    obtain ⟨cls, hcls⟩ : ∃ x, x = sxN (be (bs.take 8)) 0 := ⟨_, rfl⟩
    obtain ⟨pay, hpay⟩ : ∃ x, x = sxPay bs := ⟨_, rfl⟩
    obtain ⟨nx, hnx⟩ : ∃ x, x = sxNext bs := ⟨_, rfl⟩
    obtain ⟨pr, hpr⟩ : ∃ x, x = (pkTour bs).proto := ⟨_, rfl⟩
    obtain ⟨ta, hta⟩ : ∃ x, x = (pkTour bs).at_ := ⟨_, rfl⟩
    obtain ⟨tf, htf⟩ : ∃ x, x = (pkTour bs).frag := ⟨_, rfl⟩
    obtain ⟨tot, htot⟩ : ∃ x, x = 40 + pay := ⟨_, rfl⟩
    obtain ⟨m, hm⟩ : ∃ x, x = 40 + ta := ⟨_, rfl⟩
    rw [← hcls] at hF0 HTAIL hcl
    rw [← hpay] at hF2 HTAIL CT CG hsz hatl h40
    rw [← hnx] at hF3 CG
    rw [← hpr] at HTAIL CG
    rw [← hta] at HTAIL CG hat hatl
    rw [← htf] at HTAIL CG
    rw [← htot] at HTAIL hsz h40
    rw [← hm] at HTAIL hat
    obtain ⟨i1, i2, i3, i4, i5, i6, i7, i8⟩ := sixp_ints htot hm hatl h40 hc hn3
    have hpv : pkPv A c (pk6 bs) = .slice (if c = m then A else A.map (·.add m)) (tot - m) (c - m) := by unfold pkPv; rw [hat, hsz]
    rw [hpv]
    have ct256 : (cls : Int) % 256 = (cls : Int) := by omega
    obtain ⟨ZF, hZF⟩ : ∃ ZF, ZF = sxZ := ⟨_, rfl⟩
    have hZFl : ZF.length = 37 := by rw [hZF]; rfl
    have hlitF : (#[.int .i64 0, .int .i64 0, .int .i64 0, .int .i64 0, .int .i64 0, .int .u8 0, .int .u8 0, .int .u8 0, .int .u8 0, .int .u8 0, .int .u8 0, .int .u8 0, .int .u8 0, .int .u8 0, .int .u8 0, .int .u8 0, .int .u8 0, .int .u8 0, .int .u8 0, .int .u8 0, .int .u8 0, .int .u8 0, .int .u8 0, .int .u8 0, .int .u8 0, .int .u8 0, .int .u8 0, .int .u8 0, .int .u8 0, .int .u8 0, .int .u8 0, .int .u8 0, .int .u8 0, .int .u8 0, .int .u8 0, .int .u8 0, .int .u8 0] : Array Value) = ZF.toArray := by rw [hZF]; rfl
    obtain ⟨Y0, hY0⟩ : ∃ Y, Y = Value.int .i64 0 :: (z16 ++ (z16 ++ [.int .i64 0, .int .i64 0, .int .i64 0, .int .i64 0, .bool false, .int .i64 0, .int .i64 0, .int .u8 (cls : Nat), .slice none 0 0])) := ⟨_, rfl⟩
    have hlitY : Z.set 40 (.int .u8 (cls : Nat)) = Y0 := by rw [hZ, hY0]; rfl
    have hY0l : Y0.length = 42 := by rw [hY0]; rfl
    have hY0o : ∀ v ∈ Y0, v.oneCell' = true := by rw [hY0]; unfold z16 bcells; simp [Value.oneCell']
    have HY0 := Lib.hid hY0
    have HFL := Lib.hid (And.intro hfl hfo)
    clear hDD d0 h40 hrest hrl hdf hval hby ok hatl l1 l2 hS hT hFe hN5 hFin hat hsz hcls hpay hnx hpr hta htf htot hm hpv hZF hY0 hF hR hn2 hn3 hc hZ hg2 CH hcl
    go_enter Try.func114, Try.ntmps114
    go_upto_region 1 with fail
    rw [← e0, ← HG2.out]
    clear e0
    go_wp2_with fail
    refine (CH1.out _ (HR.out.below HB.out)).mono ?_
    rintro e w1 ⟨A9, c9, rfl, b1⟩
    have A1 := Lib.hid (HA.out.below b1)
    have B1 := Lib.hid (below_both HB.out b1)
    clear b1 HA HB CH1
    go_wp2_with fail
    refine (CR.out _ (HR.out.below B1.out)).mono ?_
    rintro e w2 ⟨rfl, b2⟩
    have A2 := Lib.hid (A1.out.below b2)
    have B2 := Lib.hid (below_both B1.out b2)
    clear b2 A1 B1 CR
    go_upto_region 5 with (first | refine wpList_store_v rfl 53 (.tmp 5) (.tmp 22) rfl _ rfl tysix (ArrV.new _ _ ZF) hZFl F HFL.out.1 HFL.out.2 rfl ?_ | fail)
    obtain ⟨V5, e5⟩ : ∃ V, V = (w2.alloc (.cells ZF.toArray 53)).setCells w2.heap.size 0 F := ⟨_, rfl⟩
    have hb5 : Below w2.heap.size w2 V5 := by rw [e5]; exact setCells_below _ (Nat.le_refl _) _ _ _ ((Below.refl _ _).alloc (Nat.le_refl _) _)
    have F5 : Hid (ArrV 53 V5 w2.heap.size F) := by
      show ArrV _ _ _ _
      rw [e5]
      exact (ArrV.new _ w2 ZF).store F (by rw [HFL.out.1, hZFl])
    rw [← e5]
    obtain ⟨g5, hg5⟩ : ∃ g, g = w2.heap.size := ⟨_, rfl⟩
    have A5 := Lib.hid (A2.out.below hb5)
    have B5 := Lib.hid (below_both B2.out hb5)
    rw [← hg5] at F5 ⊢
    clear e5 hb5 hg5 A2 B2 hlitF
    go_wp2_with fail
    refine (CT.out _ (HR.out.below B5.out)).mono ?_
    rintro e w6 ⟨A8, c8, rfl, hc8, r8, b6⟩
    have F6 := Lib.hid (F5.out.below b6)
    have A6 := Lib.hid (A5.out.below b6)
    have B6 := Lib.hid (below_both B5.out b6)
    have x3 := (F6.out.get 3).trans hF3
    clear F5 A5 B5 CT b6
    go_wp2_with fail
    refine (CG.out _ _ _ hc8 r8).mono ?_
    rintro e w7 ⟨v7, rfl, b7⟩
    have F7 := Lib.hid (F6.out.below b7)
    have A7 := Lib.hid (A6.out.below b7)
    have B7 := Lib.hid (below_both B6.out b7)
    clear F6 A6 B6 CG b7 x3 hc8 r8
    have k0 := (F7.out.get 0).trans hF0
    obtain ⟨of, hof⟩ : ∃ x, x = (pkTour bs).off := ⟨_, rfl⟩
    obtain ⟨ct, hct⟩ : ∃ x, x = (pkTour bs).count := ⟨_, rfl⟩
    rw [← hof, ← hct]
    clear hof hct
    obtain ⟨V8, e8⟩ : ∃ V, V = w7.alloc (.cells #[.int .i64 pr, .int .i64 (ta : Nat), .int .i64 (tf : Nat), .int .i64 (of : Nat), .int .i64 (ct : Nat)] 153) := ⟨_, rfl⟩
    have hb8 : Below w7.heap.size w7 V8 := by rw [e8]; exact (Below.refl _ _).alloc (Nat.le_refl _) _
    have G8 : Hid (ArrV 153 V8 w7.heap.size [.int .i64 pr, .int .i64 (ta : Nat), .int .i64 (tf : Nat), .int .i64 (of : Nat), .int .i64 (ct : Nat)]) := by
      show ArrV _ _ _ _
      rw [e8]
      exact ArrV.new _ w7 _
    have F8 := Lib.hid (F7.out.below hb8)
    have A8' := Lib.hid (A7.out.below hb8)
    have B8 := Lib.hid (below_both B7.out hb8)
    go_upto_region 7 with fail
    rw [← e8]
    obtain ⟨g9, hg9⟩ : ∃ g, g = w7.heap.size := ⟨_, rfl⟩
    have HG9 : Hid (g5 < g9) := by show g5 < g9; rw [hg9]; exact F7.out.lt
    rw [← hg9] at G8 ⊢
    clear e8 hb8 hg9 F7 A7 B7 k0
    have k0 := (F8.out.get 0).trans hF0
    go_upto_region 8 with (first | refine wpList_store_v rfl 82 (.tmp 11) (.tmp 39) rfl _ rfl tytr (ArrV.new _ _ Z) hZl Y0 hY0l hY0o rfl ?_ | fail)
    obtain ⟨U8, e8⟩ : ∃ V, V = (V8.alloc (.cells Z.toArray 82)).setCells V8.heap.size 0 Y0 := ⟨_, rfl⟩
    have hb9 : Below V8.heap.size V8 U8 := by rw [e8]; exact setCells_below _ (Nat.le_refl _) _ _ _ ((Below.refl _ _).alloc (Nat.le_refl _) _)
    have hY8 : ArrV 82 U8 V8.heap.size Y0 := by
      rw [e8]
      exact (ArrV.new _ V8 Z).store Y0 (by rw [hY0l, hZl])
    rw [← e8]
    obtain ⟨g7, hg7⟩ : ∃ g, g = V8.heap.size := ⟨_, rfl⟩
    have F9 := Lib.hid (F8.out.below hb9)
    have G9 := Lib.hid (G8.out.below hb9)
    have A9' := Lib.hid (A8'.out.below hb9)
    have B9 := Lib.hid (below_both B8.out hb9)
    have HG7 : Hid (g5 < g7 ∧ g2 < g7 ∧ w.heap.size ≤ g7 ∧ g9 < g7) := by
      refine ⟨?_, ?_, ?_, ?_⟩
      · rw [hg7]; exact F8.out.lt
      · rw [hg7]; exact A8'.out.lt
      · rw [hg7]; exact B8.out.size
      · rw [hg7]; exact G8.out.lt
    rw [← hg7] at hY8 ⊢
    clear e8 hb9 hg7 F8 G8 A8' B8 hlitY k0
    have k2 := (F9.out.get 2).trans hF2
    have p0 := G9.out.get 0
    have p1 := G9.out.get 1
    have p2 := G9.out.get 2
    simp only [List.getElem?_cons_zero, List.getElem?_cons_succ] at p0 p1 p2
    rw [HY0.out] at hY8
    have y0 := hY8.get 0
    have fy0 := hY8.frozen 0
    have u1 := hY8.set 0 (.int .i64 6)
    simp only [List.set_cons_zero, List.getElem?_cons_zero] at u1 y0
    have y33 := (u1.get 33).trans (three_at z_lens.1 z_lens.1 0)
    have fy33 := u1.frozen 33
    have u2 := u1.set 33 (.int .i64 pr)
    rw [show 33 = 33 + 0 from rfl, three_set z_lens.1 z_lens.1] at u2
    have y34 := (u2.get 34).trans (three_at z_lens.1 z_lens.1 1)
    have fy34 := u2.frozen 34
    have u3 := u2.set 34 (.int .i64 (tot : Nat))
    rw [show 34 = 33 + 1 from rfl, three_set z_lens.1 z_lens.1] at u3
    have y35 := (u3.get 35).trans (three_at z_lens.1 z_lens.1 2)
    have fy35 := u3.frozen 35
    have u4 := u3.set 35 (.int .i64 (m : Nat))
    rw [show 35 = 33 + 2 from rfl, three_set z_lens.1 z_lens.1] at u4
    have y36 := (u4.get 36).trans (three_at z_lens.1 z_lens.1 3)
    have fy36 := u4.frozen 36
    have u5 := u4.set 36 (.int .i64 (tf : Nat))
    rw [show 36 = 33 + 3 from rfl, three_set z_lens.1 z_lens.1] at u5
    simp only [List.set_cons_zero, List.set_cons_succ, List.getElem?_cons_zero, List.getElem?_cons_succ, Nat.add_zero, Nat.reduceAdd] at u1 u2 u3 u4 u5 y33 y34 y35 y36 fy33 fy34 fy35 fy36
    clear u1 u2 u3 u4
    have n75 : g7 ≠ g5 := Nat.ne_of_gt HG7.out.1
    have n79 : g7 ≠ g9 := Nat.ne_of_gt HG7.out.2.2.2
    have F_0 := F9.out
    have G_0 := G9.out
    have F_1 := F_0.other ⟨g7, 0, none⟩ (.int .i64 6) n75
    have G_1 := G_0.other ⟨g7, 0, none⟩ (.int .i64 6) n79
    have F_2 := F_1.other ⟨g7, 33, none⟩ (.int .i64 pr) n75
    have G_2 := G_1.other ⟨g7, 33, none⟩ (.int .i64 pr) n79
    have F_3 := F_2.other ⟨g7, 34, none⟩ (.int .i64 (tot : Nat)) n75
    have G_3 := G_2.other ⟨g7, 34, none⟩ (.int .i64 (tot : Nat)) n79
    have F_4 := F_3.other ⟨g7, 35, none⟩ (.int .i64 (m : Nat)) n75
    have G_4 := G_3.other ⟨g7, 35, none⟩ (.int .i64 (m : Nat)) n79
    have F_5 := F_4.other ⟨g7, 36, none⟩ (.int .i64 (tf : Nat)) n75
    have G_5 := G_4.other ⟨g7, 36, none⟩ (.int .i64 (tf : Nat)) n79
    have S_0 : Hid (U8.drew.cell? ⟨g9, 0, none⟩ = some (.int .i64 pr) ∧ U8.drew.cell? ⟨g9, 1, none⟩ = some (.int .i64 (ta : Nat)) ∧ U8.drew.cell? ⟨g9, 2, none⟩ = some (.int .i64 (tf : Nat)) ∧ U8.drew.cell? ⟨g5, 2, none⟩ = some (.int .i64 (pay : Nat))) := ⟨G_0.drew.get 0, G_0.drew.get 1, G_0.drew.get 2, (F_0.drew.get 2).trans hF2⟩
    have S_1 : Hid ((U8.setCell ⟨g7, 0, none⟩ (.int .i64 6)).drew.cell? ⟨g9, 0, none⟩ = some (.int .i64 pr) ∧ (U8.setCell ⟨g7, 0, none⟩ (.int .i64 6)).drew.cell? ⟨g9, 1, none⟩ = some (.int .i64 (ta : Nat)) ∧ (U8.setCell ⟨g7, 0, none⟩ (.int .i64 6)).drew.cell? ⟨g9, 2, none⟩ = some (.int .i64 (tf : Nat)) ∧ (U8.setCell ⟨g7, 0, none⟩ (.int .i64 6)).drew.cell? ⟨g5, 2, none⟩ = some (.int .i64 (pay : Nat))) := ⟨G_1.drew.get 0, G_1.drew.get 1, G_1.drew.get 2, (F_1.drew.get 2).trans hF2⟩
    have S_2 : Hid (((U8.setCell ⟨g7, 0, none⟩ (.int .i64 6)).setCell ⟨g7, 33, none⟩ (.int .i64 pr)).drew.cell? ⟨g9, 0, none⟩ = some (.int .i64 pr) ∧ ((U8.setCell ⟨g7, 0, none⟩ (.int .i64 6)).setCell ⟨g7, 33, none⟩ (.int .i64 pr)).drew.cell? ⟨g9, 1, none⟩ = some (.int .i64 (ta : Nat)) ∧ ((U8.setCell ⟨g7, 0, none⟩ (.int .i64 6)).setCell ⟨g7, 33, none⟩ (.int .i64 pr)).drew.cell? ⟨g9, 2, none⟩ = some (.int .i64 (tf : Nat)) ∧ ((U8.setCell ⟨g7, 0, none⟩ (.int .i64 6)).setCell ⟨g7, 33, none⟩ (.int .i64 pr)).drew.cell? ⟨g5, 2, none⟩ = some (.int .i64 (pay : Nat))) := ⟨G_2.drew.get 0, G_2.drew.get 1, G_2.drew.get 2, (F_2.drew.get 2).trans hF2⟩
    have S_3 : Hid ((((U8.setCell ⟨g7, 0, none⟩ (.int .i64 6)).setCell ⟨g7, 33, none⟩ (.int .i64 pr)).setCell ⟨g7, 34, none⟩ (.int .i64 (tot : Nat))).drew.cell? ⟨g9, 0, none⟩ = some (.int .i64 pr) ∧ (((U8.setCell ⟨g7, 0, none⟩ (.int .i64 6)).setCell ⟨g7, 33, none⟩ (.int .i64 pr)).setCell ⟨g7, 34, none⟩ (.int .i64 (tot : Nat))).drew.cell? ⟨g9, 1, none⟩ = some (.int .i64 (ta : Nat)) ∧ (((U8.setCell ⟨g7, 0, none⟩ (.int .i64 6)).setCell ⟨g7, 33, none⟩ (.int .i64 pr)).setCell ⟨g7, 34, none⟩ (.int .i64 (tot : Nat))).drew.cell? ⟨g9, 2, none⟩ = some (.int .i64 (tf : Nat)) ∧ (((U8.setCell ⟨g7, 0, none⟩ (.int .i64 6)).setCell ⟨g7, 33, none⟩ (.int .i64 pr)).setCell ⟨g7, 34, none⟩ (.int .i64 (tot : Nat))).drew.cell? ⟨g5, 2, none⟩ = some (.int .i64 (pay : Nat))) := ⟨G_3.drew.get 0, G_3.drew.get 1, G_3.drew.get 2, (F_3.drew.get 2).trans hF2⟩
    have S_4 : Hid (((((U8.setCell ⟨g7, 0, none⟩ (.int .i64 6)).setCell ⟨g7, 33, none⟩ (.int .i64 pr)).setCell ⟨g7, 34, none⟩ (.int .i64 (tot : Nat))).setCell ⟨g7, 35, none⟩ (.int .i64 (m : Nat))).drew.cell? ⟨g9, 0, none⟩ = some (.int .i64 pr) ∧ ((((U8.setCell ⟨g7, 0, none⟩ (.int .i64 6)).setCell ⟨g7, 33, none⟩ (.int .i64 pr)).setCell ⟨g7, 34, none⟩ (.int .i64 (tot : Nat))).setCell ⟨g7, 35, none⟩ (.int .i64 (m : Nat))).drew.cell? ⟨g9, 1, none⟩ = some (.int .i64 (ta : Nat)) ∧ ((((U8.setCell ⟨g7, 0, none⟩ (.int .i64 6)).setCell ⟨g7, 33, none⟩ (.int .i64 pr)).setCell ⟨g7, 34, none⟩ (.int .i64 (tot : Nat))).setCell ⟨g7, 35, none⟩ (.int .i64 (m : Nat))).drew.cell? ⟨g9, 2, none⟩ = some (.int .i64 (tf : Nat)) ∧ ((((U8.setCell ⟨g7, 0, none⟩ (.int .i64 6)).setCell ⟨g7, 33, none⟩ (.int .i64 pr)).setCell ⟨g7, 34, none⟩ (.int .i64 (tot : Nat))).setCell ⟨g7, 35, none⟩ (.int .i64 (m : Nat))).drew.cell? ⟨g5, 2, none⟩ = some (.int .i64 (pay : Nat))) := ⟨G_4.drew.get 0, G_4.drew.get 1, G_4.drew.get 2, (F_4.drew.get 2).trans hF2⟩
    have S_5 : Hid ((((((U8.setCell ⟨g7, 0, none⟩ (.int .i64 6)).setCell ⟨g7, 33, none⟩ (.int .i64 pr)).setCell ⟨g7, 34, none⟩ (.int .i64 (tot : Nat))).setCell ⟨g7, 35, none⟩ (.int .i64 (m : Nat))).setCell ⟨g7, 36, none⟩ (.int .i64 (tf : Nat))).drew.cell? ⟨g9, 0, none⟩ = some (.int .i64 pr) ∧ (((((U8.setCell ⟨g7, 0, none⟩ (.int .i64 6)).setCell ⟨g7, 33, none⟩ (.int .i64 pr)).setCell ⟨g7, 34, none⟩ (.int .i64 (tot : Nat))).setCell ⟨g7, 35, none⟩ (.int .i64 (m : Nat))).setCell ⟨g7, 36, none⟩ (.int .i64 (tf : Nat))).drew.cell? ⟨g9, 1, none⟩ = some (.int .i64 (ta : Nat)) ∧ (((((U8.setCell ⟨g7, 0, none⟩ (.int .i64 6)).setCell ⟨g7, 33, none⟩ (.int .i64 pr)).setCell ⟨g7, 34, none⟩ (.int .i64 (tot : Nat))).setCell ⟨g7, 35, none⟩ (.int .i64 (m : Nat))).setCell ⟨g7, 36, none⟩ (.int .i64 (tf : Nat))).drew.cell? ⟨g9, 2, none⟩ = some (.int .i64 (tf : Nat)) ∧ (((((U8.setCell ⟨g7, 0, none⟩ (.int .i64 6)).setCell ⟨g7, 33, none⟩ (.int .i64 pr)).setCell ⟨g7, 34, none⟩ (.int .i64 (tot : Nat))).setCell ⟨g7, 35, none⟩ (.int .i64 (m : Nat))).setCell ⟨g7, 36, none⟩ (.int .i64 (tf : Nat))).drew.cell? ⟨g5, 2, none⟩ = some (.int .i64 (pay : Nat))) := ⟨G_5.drew.get 0, G_5.drew.get 1, G_5.drew.get 2, (F_5.drew.get 2).trans hF2⟩
    obtain ⟨W8, eW⟩ : ∃ W, W = (((((U8.setCell ⟨g7, 0, none⟩ (.int .i64 6)).setCell ⟨g7, 33, none⟩ (.int .i64 pr)).setCell ⟨g7, 34, none⟩ (.int .i64 (tot : Nat))).setCell ⟨g7, 35, none⟩ (.int .i64 (m : Nat))).setCell ⟨g7, 36, none⟩ (.int .i64 (tf : Nat))) := ⟨_, rfl⟩
    have HF8 : Hid (ArrV 53 W8 g5 F) := by show ArrV _ _ _ _; rw [eW]; exact F_5
    have n72 : g7 ≠ g2 := Nat.ne_of_gt HG7.out.2.1
    have HA8 : Hid (ArrV 82 W8 g2 Z) := by show ArrV _ _ _ _; rw [eW]; exact (((((A9'.out.other ⟨g7, 0, none⟩ (.int .i64 6) n72).other ⟨g7, 33, none⟩ (.int .i64 pr) n72).other ⟨g7, 34, none⟩ (.int .i64 (tot : Nat)) n72).other ⟨g7, 35, none⟩ (.int .i64 (m : Nat)) n72).other ⟨g7, 36, none⟩ (.int .i64 (tf : Nat)) n72)
    have HB8 : Hid (Below w.heap.size w W8) := by show Below _ _ _; rw [eW]; exact (((((B9.out.setCell (p := ⟨g7, 0, none⟩) HG7.out.2.2.1 (.int .i64 6)).setCell (p := ⟨g7, 33, none⟩) HG7.out.2.2.1 (.int .i64 pr)).setCell (p := ⟨g7, 34, none⟩) HG7.out.2.2.1 (.int .i64 (tot : Nat))).setCell (p := ⟨g7, 35, none⟩) HG7.out.2.2.1 (.int .i64 (m : Nat))).setCell (p := ⟨g7, 36, none⟩) HG7.out.2.2.1 (.int .i64 (tf : Nat)))
    have HU5 : Hid (ArrV 82 W8 g7 _) := Lib.hid (by rw [eW]; exact u5)
    have EW := Lib.hid eW
    have HSO := Lib.hid (And.intro hSo hTo)
    have HZO := Lib.hid hZo
    have HI := Lib.hid (And.intro i3 (And.intro i4 (And.intro i5 i6)))
    clear F_0 G_0 F_1 G_1 F_2 G_2 F_3 G_3 F_4 G_4 F_5 G_5 n75 n79 n72 p0 p1 p2 k2 hF0 hF2 hF3 i3 i4 i5 i6 ct256 u5 F9 G9 A9' B9 eW hfo hlit hfl hSo hTo hZo hY0o
    go_region_held3 (fun w' => w'.cell? ⟨g9, 0, none⟩ = some (.int .i64 pr) ∧ w'.cell? ⟨g9, 1, none⟩ = some (.int .i64 (ta : Nat)) ∧ w'.cell? ⟨g9, 2, none⟩ = some (.int .i64 (tf : Nat)) ∧ w'.cell? ⟨g5, 2, none⟩ = some (.int .i64 (pay : Nat)))
      (first | with_reducible exact S_0.out | with_reducible exact S_1.out | with_reducible exact S_2.out | with_reducible exact S_3.out | with_reducible exact S_4.out | with_reducible exact S_5.out)
      (first | fail)
    rename_i hh0
    clear hh0
    rw [← EW.out]
    clear S_0 S_1 S_2 S_3 S_4 S_5 y0 fy0 y33 fy33 y34 fy34 y35 fy35 y36 fy36 i1 i2 i7 i8
    obtain ⟨X8, hX⟩ : ∃ X, X = W8.drew := ⟨_, rfl⟩
    have u5 := HU5.out.drew
    rw [← hX] at u5
    have F7 : ArrV 53 X8 g5 F := by rw [hX]; exact HF8.out.drew
    have A7 : ArrV 82 X8 g2 Z := by rw [hX]; exact HA8.out.drew
    have B7 : Below w.heap.size w X8 := by rw [hX]; exact HB8.out.drew
    rw [← hX]
    clear hX EW HU5 HF8 HA8 HB8
    obtain ⟨w8, hcp, hO8, b8⟩ := copy_at Try.underlying22 u8one 82 X8.drew g7 1 16 16 _ ⟨g5, 5, none⟩ 16 16 S u5.drew (by rw [hSl]; rfl) (arr_src F7.drew HFS.out) (by rw [hSl]; simp [z_lens.1]) HSO.out.1
    rw [hSl] at hcp hO8
    rw [show 1 + 16 = 17 from rfl, copy_src hSl] at hO8
    have F8 : ArrV 53 w8 g5 F := F7.drew.belowB b8 HG7.out.1
    have A8' : ArrV 82 w8 g2 Z := A7.drew.belowB b8 HG7.out.2.1
    have B8 : Below w.heap.size w w8 := B7.drew.trans (b8.mono HG7.out.2.2.1)
    obtain ⟨w9, hcp2, hO9, b9⟩ := copy_at Try.underlying22 u8one 82 w8.drew g7 17 16 16 _ ⟨g5, 21, none⟩ 16 16 T hO8.drew (by rw [hTl]; rfl) (arr_src F8.drew HFT.out) (by rw [hTl]; simp [hSl, z_lens.1]) HSO.out.2
    rw [hTl] at hcp2 hO9
    rw [show 17 + 16 = 33 from rfl, copy_dst hSl] at hO9
    have A9' := Lib.hid (A8'.drew.belowB b9 HG7.out.2.1)
    have B9 : Hid (Below w.heap.size w w9) := B8.drew.trans (b9.mono HG7.out.2.2.1)
    have U9 := Lib.hid hO9
    clear F7 A7 B7 F8 A8' B8 b8 b9 hO8 hO9 u5
    go_upto_region 9 with fail
    go_region
    go_wp2_with fail
    go_region
    have y34 := (U9.out.get 34).trans (three_at hSl hTl 1)
    have y35 := (U9.out.get 35).trans (three_at hSl hTl 2)
    have y41 := (U9.out.get 41).trans (three_at hSl hTl 8)
    have fy41 := U9.out.frozen 41
    have u11 := U9.out.set 41 (.slice (if c = m then A else A.map (·.add m)) (tot - m) (c - m))
    rw [show 41 = 33 + 8 from rfl, three_set hSl hTl] at u11
    simp only [List.set_cons_zero, List.set_cons_succ, List.getElem?_cons_zero, List.getElem?_cons_succ, Nat.reduceAdd] at u11 y34 y35 y41 fy41
    have hfin := HFIN.out (.slice (if c = m then A else A.map (·.add m)) (tot - m) (c - m))
    rw [HTAIL.out] at hfin
    rw [hfin] at u11
    obtain ⟨Yl, Yo⟩ : (trCells (pk6 bs) false 0 0 (.slice (if c = m then A else A.map (·.add m)) (tot - m) (c - m))).length = 42 ∧ ∀ v ∈ trCells (pk6 bs) false 0 0 (.slice (if c = m then A else A.map (·.add m)) (tot - m) (c - m)), v.oneCell' = true := by
      rw [← hfin]
      refine ⟨by simp [hSl, hTl], fun v hv => ?_⟩
      rcases List.mem_cons.1 hv with rfl | hv
      · rfl
      rcases List.mem_append.1 hv with hv | hv
      · exact HSO.out.1 v hv
      rcases List.mem_append.1 hv with hv | hv
      · exact HSO.out.2 v hv
      · simp at hv
        rcases hv with rfl | rfl | rfl | rfl | rfl | rfl | rfl | rfl | rfl <;> rfl
    have n72 : g7 ≠ g2 := Nat.ne_of_gt HG7.out.2.1
    have A11 := A9'.out.other ⟨g7, 41, none⟩ (.slice (if c = m then A else A.map (·.add m)) (tot - m) (c - m)) n72
    have B11 := B9.out.setCell (p := ⟨g7, 41, none⟩) HG7.out.2.2.1 (.slice (if c = m then A else A.map (·.add m)) (tot - m) (c - m))
    obtain ⟨Y, hY⟩ : ∃ Y, Y = trCells (pk6 bs) false 0 0 (.slice (if c = m then A else A.map (·.add m)) (tot - m) (c - m)) := ⟨_, rfl⟩
    rw [← hY] at u11 Yl Yo
    obtain ⟨pv, hpv⟩ : ∃ pv : Value, pv = (.slice (if c = m then A else A.map (·.add m)) (tot - m) (c - m)) := ⟨_, rfl⟩
    rw [← hpv] at u11 A11 B11
    obtain ⟨W11, e11⟩ : ∃ W, W = w9.setCell ⟨g7, 41, none⟩ pv := ⟨_, rfl⟩
    rw [← e11] at u11 A11 B11
    have U11 := Lib.hid u11
    have A11 := Lib.hid A11
    have B11 := Lib.hid B11
    have HY := Lib.hid hY
    have hZo := HZO.out
    obtain ⟨i3, i4, i5, i6⟩ := HI.out
    clear u11 hfin hY n72 A9' B9
    go_upto_region 12 with fail
    rw [← hpv, ← e11]
    clear hpv e11 y34 y35 y41 fy41
    refine wp_region_lit ?_
    go_wp2_with (first | refine wpList_load_v rfl 82 (.tmp 11) rfl _ rfl tytr U11.out Yl ?_ | refine wpList_store_v rfl 82 (.tmp 2) (.tmp 81) rfl _ rfl tytr A11.out hZl Y Yl Yo rfl ?_ | fail)
    all_goals
      have HS := A11.out.store Y (by rw [Yl, hZl])
      exact bodyPost_ret (v := .tuple #[.agg Y.toArray, .slice none 0 0]) (res_cell_tmp Try.results114 rfl (HS.loadVar tytr Yl) rfl) rfl ⟨setCells_below g2 (by rw [HG2.out]; exact Nat.le_refl _) _ _ _ B11.out, by rw [HY.out]; first | rw [if_neg (by assumption)] | (have hcm : c = m := (by assumption); rw [if_pos hcm, hcm, Nat.sub_self])⟩
  · have CH1 : Hid (∀ W, Row W A n bs → Calls Try.prog 131 #[.slice A n c] W fun e w' => ∃ A9 c9, e = .returned (.slice A9 D.length c9) ∧ DefRead w' (.slice A9 D.length c9) D ∧ Below W.heap.size W w') := fun W hW => (CH.out W hW).mono fun e w' h => by
      obtain ⟨v, rfl, hd, hb⟩ := h
      obtain ⟨A9, c9, rfl, h4, h5⟩ := hd
      exact ⟨A9, c9, rfl, ⟨A9, c9, rfl, h4, h5⟩, hb⟩
    have hl0 : 0 < D.length := List.length_pos_iff.2 hD
    obtain ⟨q, hq⟩ : ∃ q, q = D.length := ⟨_, rfl⟩
    rw [← hq] at CH1 hl0
    have qI : (0 : Int) < (q : Int) := by omega
    have HND := Lib.hid hD
    clear hg2 hD hDD hl0 CH hq hR hZ hn2 hn3 hc
    go_enter Try.func114, Try.ntmps114
    go_upto_region 1 with fail
    rw [← e0, ← HG2.out]
    clear e0
    go_wp2_with fail
    refine (CH1.out _ (HR.out.below HB.out)).mono ?_
    rintro e w1 ⟨A9, c9, rfl, d1, b1⟩
    have A4 := Lib.hid (HA.out.below b1)
    have B4 := Lib.hid (below_both HB.out b1)
    have D4 := Lib.hid d1
    clear d1 b1 HA HB
    go_wp2_with (first | refine wpList_store_v rfl 82 (.tmp 2) (.tmp 17) rfl _ rfl tytr A4.out hZl Z hZl hZo rfl ?_ | fail)
    have HS := A4.out.store Z rfl
    exact bodyPost_ret (v := .tuple #[.agg Z.toArray, .slice A9 q c9]) (res_cell_tmp Try.results114 rfl (HS.loadVar tytr hZl) rfl) rfl ⟨setCells_below g2 (by rw [HG2.out]; exact Nat.le_refl _) _ _ _ B4.out, fun _ => ⟨_, rfl, D4.out.again A4.out⟩, fun h => absurd h HND.out⟩
end Go.Proofs.Ytjpaicdbnadoeaa
