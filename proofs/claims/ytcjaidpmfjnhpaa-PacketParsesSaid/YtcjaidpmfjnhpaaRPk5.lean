/-
  The document's parts of layer 14, at a header of version 4 without a defect.
-/
import Derived.Test.YtcjaidpmfjnhpaaRPk0
import Derived.Test.YtcjaidpmfjnhpaaRFh3
import Derived.Test.YtcjaidpmfjnhpaaPut
namespace Go.Proofs.Ytcjaidpmfjnhpaa
open Go.RowKit
set_option linter.unusedVariables false
set_option maxRecDepth 8000

/-- Two variables of later blocks. -/
theorem kv_pair {w W : World} {t t' : TypeId} {g g' : Nat} {cs ds : List Value} (h1 : ArrV t W g cs) (h2 : ArrV t' W g' ds) (hb : Below w.heap.size w W) (hg : w.heap.size ≤ g) (hg' : w.heap.size ≤ g') (hne : g' ≠ g) : KV w [(t, g, cs), (t', g', ds)] W := by
  refine ⟨fun i p hp => ?_, fun i p hp => ?_, fun i j p q hp hq hij => ?_, hb⟩
  · match i, hp with
    | 0, hp => cases hp; exact h1
    | 1, hp => cases hp; exact h2
  · match i, hp with
    | 0, hp => cases hp; exact hg
    | 1, hp => cases hp; exact hg'
  · match i, j, hp, hq, hij with
    | 0, 0, _, _, h => exact absurd rfl h
    | 1, 1, _, _, h => exact absurd rfl h
    | 0, 1, hp, hq, _ => cases hp; cases hq; exact Ne.symm hne
    | 1, 0, hp, hq, _ => cases hp; cases hq; exact hne
/-- The record, ahead of its addresses. -/
def hd4 (bs : List Nat) : Nat → List Value
  | 0 => [.int .i64 4, .int .u8 0, .int .u8 0, .int .u8 0, .int .u8 0, .int .u8 0, .int .u8 0, .int .u8 0, .int .u8 0, .int .u8 0, .int .u8 0, .int .u8 0, .int .u8 0, .int .u8 0, .int .u8 0, .int .u8 0, .int .u8 0, .int .u8 0, .int .u8 0, .int .u8 0, .int .u8 0, .int .u8 0, .int .u8 0, .int .u8 0, .int .u8 0, .int .u8 0, .int .u8 0, .int .u8 0, .int .u8 0, .int .u8 0, .int .u8 0, .int .u8 0, .int .u8 0, .int .i64 (bs.getD 9 0 : Nat), .int .i64 (fhw bs 2 : Nat), .int .i64 (4 * (bs.getD 0 0 % 16) : Nat), .int .i64 0, .bool false, .int .i64 0, .int .i64 0]
  | k + 1 => ((hd4 bs k).set (1 + k) (.int .u8 (bs.getD (12 + k) 0 : Nat))).set (17 + k) (.int .u8 (bs.getD (16 + k) 0 : Nat))
theorem hd4_len (bs : List Nat) : ∀ k, (hd4 bs k).length = 40
  | 0 => rfl
  | k + 1 => by unfold hd4; rw [List.length_set, List.length_set]; exact hd4_len bs k
theorem hd4_done {bs : List Nat} (h : 20 ≤ bs.length) : (hd4 bs 4).set 36 (.int .i64 ((pk4 bs).frag : Nat)) = hdCells (pk4 bs) false 0 0 := by
  unfold hdCells pk4 hdTail
  rw [pkfour_of (bs := bs) (k := 12) (by omega), pkfour_of (bs := bs) (k := 16) (by omega)]
  rfl
set_option maxHeartbeats 6400000 in
theorem rparts_four (A : Option Addr) (n c : Nat) (bs : List Nat) (w : World) (hn2 : n ≤ 140737488351232) (hc : n ≤ c) (hR : Row w A n bs) (hgood : fhall n bs = []) :
    Calls Try.prog 39 #[.slice A n c] w fun e w' => Below w.heap.size w w' ∧ e = .returned (.tuple #[.agg (hdCells (pk4 bs) false 0 0).toArray, pkPv A c (pk4 bs), .slice none 0 0]) := by
  obtain ⟨Z, hZ⟩ : ∃ Z, Z = hdCells RZ false 0 0 := ⟨_, rfl⟩
  obtain ⟨hZl, hZo⟩ := hdCells_all rz_ok
  have hlit := hd_lit
  obtain ⟨V, e0⟩ : ∃ V, V = w.alloc (.cells Z.toArray 25) := ⟨_, rfl⟩
  rw [← hZ] at hZl hZo hlit
  have HA : Hid (ArrV 25 V w.heap.size Z) := by show ArrV _ _ _ _; rw [e0]; exact ArrV.new _ w Z
  have HB : Hid (Below w.heap.size w V) := by show Below _ _ _; rw [e0]; exact (Below.refl _ _).alloc (Nat.le_refl _) _
  obtain ⟨g2, hg2⟩ : ∃ g, g = w.heap.size := ⟨_, rfl⟩
  have HG2 := Lib.hid hg2
  rw [← hg2] at HA
  obtain ⟨d0, h20, m20, hmt, htn⟩ := fhall_nil hgood
  have h4 : bs.getD 0 0 / 16 = 4 := by
    unfold fhdef at d0
    by_cases h : bs.getD 0 0 / 16 = 4
    · exact h
    · rw [if_neg (by omega), if_pos h] at d0; cases d0
  have hby := hR.byte
  have hlen := hR.1
  obtain ⟨b, o, rfl, hb, hcell⟩ := hR.addr (by omega)
  have c0 := (HB.out.cell (p := ⟨b, o, none⟩) hb).trans (hcell 0 (by omega))
  have HR := Lib.hid (hR.below HB.out)
  obtain ⟨P, hP⟩ : ∃ P : Option Addr, P = some ⟨b, o, none⟩ := ⟨_, rfl⟩
  have CH := Lib.hid (fun w (hR : Row w (some ⟨b, o, none⟩) n bs) => rfhall_any (some ⟨b, o, none⟩) n c bs w hc (by omega) hR)
  unfold AllIs at CH
  have CH1 : Hid (∀ W, Row W (some ⟨b, o, none⟩) n bs → Calls Try.prog 54 #[.slice (some ⟨b, o, none⟩) n c] W fun e w' => ∃ A9 c9, e = .returned (.slice A9 0 c9) ∧ Below W.heap.size W w') := fun W hW => (CH.out W hW).mono fun e w' h => by
    obtain ⟨v, rfl, hd, hb⟩ := h
    obtain ⟨A9, c9, rfl, _, _⟩ := hd
    rw [hgood]
    exact ⟨A9, c9, rfl, hb⟩
  have CR := Lib.hid (fun w (hR : Row w (some ⟨b, o, none⟩) n bs) => rfhread_any (some ⟨b, o, none⟩) n c bs w (by omega) hc hR)
  unfold ReadIs at CR
  have hval : fhval n bs = fhf bs := by unfold fhval; rw [if_pos d0]
  rw [hval, d0] at CR
  have hF0 : (fhf bs)[0]? = some (.int .i64 (bs.getD 0 0 % 16 : Nat)) := rfl
  have hF2 : (fhf bs)[2]? = some (.int .i64 (fhw bs 2 : Nat)) := rfl
  have hF4 : (fhf bs)[4]? = some (.int .i64 (bs.getD 6 0 / 32 : Nat)) := rfl
  have hF5 : (fhf bs)[5]? = some (.int .i64 (fhw bs 6 % 8192 : Nat)) := rfl
  have hF7 : (fhf bs)[7]? = some (.int .i64 (bs.getD 9 0 : Nat)) := rfl
  have HF9 : Hid (∀ k, k < 4 → (fhf bs)[9 + k]? = some (.int .u8 (bs.getD (12 + k) 0 : Nat)) ∧ (fhf bs)[13 + k]? = some (.int .u8 (bs.getD (16 + k) 0 : Nat))) := fun k hk => by
    match k, hk with
    | 0, _ | 1, _ | 2, _ | 3, _ => exact ⟨rfl, rfl⟩
  have hfl : (fhf bs).length = 17 := fhf_len bs
  have hfo := fhf_one bs
  have hfr : (pk4 bs).frag = if fhw bs 6 % 8192 ≠ 0 then 2 else if bs.getD 6 0 / 32 % 2 = 1 then 1 else 0 := rfl
  have hat : (pk4 bs).at_ = 4 * (bs.getD 0 0 % 16) := rfl
  have hsz : (pk4 bs).size = fhw bs 2 := rfl
  have hdone := hd4_done (bs := bs) (by omega)
  have hY0 : hd4 bs 0 = [.int .i64 4, .int .u8 0, .int .u8 0, .int .u8 0, .int .u8 0, .int .u8 0, .int .u8 0, .int .u8 0, .int .u8 0, .int .u8 0, .int .u8 0, .int .u8 0, .int .u8 0, .int .u8 0, .int .u8 0, .int .u8 0, .int .u8 0, .int .u8 0, .int .u8 0, .int .u8 0, .int .u8 0, .int .u8 0, .int .u8 0, .int .u8 0, .int .u8 0, .int .u8 0, .int .u8 0, .int .u8 0, .int .u8 0, .int .u8 0, .int .u8 0, .int .u8 0, .int .u8 0, .int .i64 (bs.getD 9 0 : Nat), .int .i64 (fhw bs 2 : Nat), .int .i64 (4 * (bs.getD 0 0 % 16) : Nat), .int .i64 0, .bool false, .int .i64 0, .int .i64 0] := rfl
  have hYo : ∀ v ∈ hdCells (pk4 bs) false 0 0, v.oneCell' = true := by
    intro v hv
    unfold hdCells at hv
    rcases List.mem_cons.1 hv with rfl | hv
    · rfl
    rcases List.mem_append.1 hv with hv | hv
    · exact bcells_one _ v hv
    rcases List.mem_append.1 hv with hv | hv
    · exact bcells_one _ v hv
    · unfold hdTail at hv
      simp at hv
      rcases hv with rfl | rfl | rfl | rfl | rfl | rfl | rfl <;> rfl
  have hYl : (hdCells (pk4 bs) false 0 0).length = 40 := by rw [← hdone, List.length_set]; exact hd4_len bs 4
  have hpv : pkPv (some ⟨b, o, none⟩) c (pk4 bs) = .slice (if c = (pk4 bs).at_ then some ⟨b, o, none⟩ else (some (⟨b, o, none⟩ : Addr)).map (·.add (pk4 bs).at_)) ((pk4 bs).size - (pk4 bs).at_) (c - (pk4 bs).at_) := rfl
  rw [hat, hsz] at hpv
  rw [hpv]
  obtain ⟨F, hF⟩ : ∃ F, F = fhf bs := ⟨_, rfl⟩
  rw [← hF] at CR hF0 hF2 hF4 hF5 hF7 HF9 hfl hfo
  obtain ⟨ihl, hihl⟩ : ∃ x, x = bs.getD 0 0 % 16 := ⟨_, rfl⟩
  obtain ⟨tot, htot⟩ : ∃ x, x = fhw bs 2 := ⟨_, rfl⟩
  obtain ⟨fl, hfl2⟩ : ∃ x, x = bs.getD 6 0 / 32 := ⟨_, rfl⟩
  obtain ⟨off, hoff⟩ : ∃ x, x = fhw bs 6 % 8192 := ⟨_, rfl⟩
  obtain ⟨pr, hpr⟩ : ∃ x, x = bs.getD 9 0 := ⟨_, rfl⟩
  obtain ⟨m, hm⟩ : ∃ m, m = 4 * ihl := ⟨_, rfl⟩
  have hfl8 : fl < 8 := by have := hby 6; omega
  rw [← hihl] at hF0 m20 hmt hY0
  rw [← htot] at hF2 hmt htn hY0
  rw [← hfl2] at hF4 hfr
  rw [← hoff] at hF5 hfr
  rw [← hpr] at hF7 hY0
  rw [← hm] at m20 hmt hY0
  rw [← hihl, ← htot, ← hm]
  have hm0 : m ≠ 0 := by omega
  obtain ⟨PV, hPV⟩ : ∃ P : Option Addr, P = if c = m then some ⟨b, o, none⟩ else (some (⟨b, o, none⟩ : Addr)).map (·.add m) := ⟨_, rfl⟩
  rw [← hPV]
  have HPV : Hid (PV = if c = m then some ⟨b, o, none⟩ else some ⟨b, o + m, none⟩) := by
    show PV = _
    rw [hPV]
    by_cases hcm : c = m <;> simp [hcm, Addr.add, hm0]
  clear hPV hm0
  obtain ⟨i1, i2, i3, i4, i5⟩ := pkfour_ints (by omega) hm hmt htn hc
  have x16 : (bs.getD 0 0 : Int) / 16 = 4 := by omega
  obtain ⟨x, hxx⟩ : ∃ x, x = bs.getD 0 0 := ⟨_, rfl⟩
  rw [← hxx] at c0 x16
  have n0 : (0 : Int) < (n : Int) := by omega
  have n0b : ((n : Int) == 0) = false := beq_false_of_ne (by omega)
  obtain ⟨ZF, hZF⟩ : ∃ ZF, ZF = fhz := ⟨_, rfl⟩
  have hZFl : ZF.length = 17 := by rw [hZF]; rfl
  have hlitF : (#[.int .i64 0, .int .i64 0, .int .i64 0, .int .i64 0, .int .i64 0, .int .i64 0, .int .i64 0, .int .i64 0, .int .i64 0, .int .u8 0, .int .u8 0, .int .u8 0, .int .u8 0, .int .u8 0, .int .u8 0, .int .u8 0, .int .u8 0] : Array Value) = ZF.toArray := by rw [hZF]; rfl
  obtain ⟨H0, hH0⟩ : ∃ H, H = hd4 bs 0 := ⟨_, rfl⟩
  have hH0l : H0.length = 40 := by rw [hH0]; rfl
  rw [← hH0] at hY0
  have hlitY : (#[.int .i64 4, .int .u8 0, .int .u8 0, .int .u8 0, .int .u8 0, .int .u8 0, .int .u8 0, .int .u8 0, .int .u8 0, .int .u8 0, .int .u8 0, .int .u8 0, .int .u8 0, .int .u8 0, .int .u8 0, .int .u8 0, .int .u8 0, .int .u8 0, .int .u8 0, .int .u8 0, .int .u8 0, .int .u8 0, .int .u8 0, .int .u8 0, .int .u8 0, .int .u8 0, .int .u8 0, .int .u8 0, .int .u8 0, .int .u8 0, .int .u8 0, .int .u8 0, .int .u8 0, .int .i64 (pr : Nat), .int .i64 (tot : Nat), .int .i64 (m : Nat), .int .i64 0, .bool false, .int .i64 0, .int .i64 0] : Array Value) = H0.toArray := by rw [hY0]
  have HLIT := Lib.hid hlit
  have hH0o : ∀ v ∈ H0, v.oneCell' = true := by rw [hY0]; simp [Value.oneCell']
  have HH0 := Lib.hid hH0
  have HFL := Lib.hid (And.intro hfl hfo)
  have HY := Lib.hid (And.intro hYl hYo)
  have HDONE := Lib.hid hdone
  have H435 : Hid ((hd4 bs 4)[34]? = some (.int .i64 (tot : Nat)) ∧ (hd4 bs 4)[35]? = some (.int .i64 (m : Nat)) ∧ (hd4 bs 4)[36]? = some (.int .i64 0) ∧ (hd4 bs 4).set 36 (.int .i64 0) = hd4 bs 4) := by
    rw [htot, hm, hihl]
    exact ⟨rfl, rfl, rfl, rfl⟩
  have HFRAG := Lib.hid hfr
  have HN := Lib.hid (And.intro hb hfl8)
  clear hgood h20 m20 hmt htn hval hby hlen hihl htot hfl2 hoff hpr hm hat hsz hfr hpv hZF hY0 hF hR hn2 hc hZ hg2 CH hH0 hxx hP hcell h4 d0 hdone hYo hYl
  go_enter Try.func39, Try.ntmps39
  go_upto_region 1 with fail
  rw [← e0, ← HG2.out]
  clear e0
  go_wp2_with fail
  refine (CH1.out _ HR.out).mono ?_
  rintro e w1 ⟨A9, c9, rfl, b1⟩
  have A1 := Lib.hid (HA.out.below b1)
  have B1 := Lib.hid (below_both HB.out b1)
  have R1 := Lib.hid (HR.out.below b1)
  clear b1 HA HB CH1 HR c0
  go_wp2_with fail
  refine (CR.out _ R1.out).mono ?_
  rintro e w2 ⟨rfl, b2⟩
  have A2 := Lib.hid (A1.out.below b2)
  have B2 := Lib.hid (below_both B1.out b2)
  clear b2 A1 B1 CR R1
  go_upto_region 8 with (first | refine wpList_store_v rfl 44 (.tmp 6) (.tmp 36) rfl _ rfl tyfour (ArrV.new _ _ ZF) hZFl F HFL.out.1 HFL.out.2 rfl ?_ | fail)
  obtain ⟨V5, e5⟩ : ∃ V, V = (w2.alloc (.cells ZF.toArray 44)).setCells w2.heap.size 0 F := ⟨_, rfl⟩
  obtain ⟨f5, hb5⟩ := ArrV.laid 44 w2 ZF F (by rw [HFL.out.1, hZFl])
  rw [← e5] at f5 hb5
  rw [← e5]
  obtain ⟨g5, hg5⟩ : ∃ g, g = w2.heap.size := ⟨_, rfl⟩
  have A5 := Lib.hid (A2.out.below hb5)
  have B5 := Lib.hid (below_both B2.out hb5)
  have HG5 : Hid (w.heap.size ≤ g5) := by show w.heap.size ≤ g5; rw [hg5]; exact B2.out.size
  rw [← hg5] at f5 ⊢
  have F5 := Lib.hid f5
  clear e5 hb5 hg5 A2 B2 hlitF f5
  clear hlit
  have x0 := (F5.out.get 0).trans hF0
  have x2 := (F5.out.get 2).trans hF2
  have x7 := (F5.out.get 7).trans hF7
  go_upto_region 9 with (first | refine wpList_store_v rfl 25 (.tmp 8) (.tmp 45) rfl _ rfl tyhead (ArrV.new _ _ _) (by rfl) H0 hH0l hH0o rfl ?_ | fail)
  rw [HLIT.out]
  obtain ⟨V6, e6⟩ : ∃ V, V = (V5.alloc (.cells Z.toArray 25)).setCells V5.heap.size 0 H0 := ⟨_, rfl⟩
  obtain ⟨h6, hb6⟩ := ArrV.laid 25 V5 Z H0 (by rw [hH0l, hZl])
  rw [← e6] at h6 hb6
  rw [← e6]
  obtain ⟨g7, hg7⟩ : ∃ g, g = V5.heap.size := ⟨_, rfl⟩
  have F6 := Lib.hid (F5.out.below hb6)
  have A6 := Lib.hid (A5.out.below hb6)
  have B6 := Lib.hid (below_both B5.out hb6)
  have HG7 : Hid (g7 ≠ g5 ∧ g7 ≠ g2 ∧ w.heap.size ≤ g7) := by
    refine ⟨?_, ?_, ?_⟩
    · rw [hg7]; exact Ne.symm (Nat.ne_of_lt F5.out.lt)
    · rw [hg7]; exact Ne.symm (Nat.ne_of_lt A5.out.lt)
    · rw [hg7]; exact B5.out.size
  rw [← hg7] at h6 ⊢
  rw [HH0.out] at h6
  have H6 := Lib.hid h6
  clear e6 hb6 hg7 F5 A5 B5 hlitY x0 x2 x7 h6
  go_wp2_with fail
  go_loopw [9] (fun i W => ∃ k : Nat, k ≤ 4 ∧ i = .int .i64 k ∧ ArrV 25 W g7 (hd4 bs k) ∧ ArrV 44 W g5 F ∧ ArrV 25 W g2 Z ∧ Below w.heap.size w W) (fun i W => 4 - (intOf i).toNat)
  case atStart => exact ⟨0, by omega, rfl, H6.out, F6.out, A6.out, B6.out⟩
  case round =>
    clear H6 F6 A6 B6
    obtain ⟨k, hk, rfl, hH, hF, hA, hB⟩ := hrel
    by_cases hlt : k < 4
    · have c9 := (hF.get (9 + k)).trans (HF9.out k hlt).1
      have c13 := (hF.get (13 + k)).trans (HF9.out k hlt).2
      have HFN : Hid (hd4 bs (k + 1) = ((hd4 bs k).set (1 + k) (.int .u8 (bs.getD (12 + k) 0 : Nat))).set (17 + k) (.int .u8 (bs.getD (16 + k) 0 : Nat))) := rfl
      obtain ⟨p, hp⟩ : ∃ p, p = bs.getD (12 + k) 0 := ⟨_, rfl⟩
      obtain ⟨q, hq⟩ : ∃ q, q = bs.getD (16 + k) 0 := ⟨_, rfl⟩
      rw [← hp] at c9 HFN
      rw [← hq] at c13 HFN
      obtain ⟨u, hu⟩ : ∃ u, (hd4 bs k)[1 + k]? = some u := ⟨_, List.getElem?_eq_getElem (by rw [hd4_len]; omega)⟩
      obtain ⟨v2, hv2⟩ : ∃ u, (hd4 bs k)[17 + k]? = some u := ⟨_, List.getElem?_eq_getElem (by rw [hd4_len]; omega)⟩
      have t1 := (hH.get (1 + k)).trans hu
      have t17 := (hH.get (17 + k)).trans hv2
      have f1 := hH.frozen (1 + k)
      have f17 := hH.frozen (17 + k)
      have hbg : g7 ≠ g5 := HG7.out.1
      have hgb : g5 ≠ g7 := Ne.symm hbg
      have HREL : Hid (ArrV 25 (((wr.setCell ⟨g7, 1 + k, none⟩ (.int .u8 (p : Nat))).setCell ⟨g7, 17 + k, none⟩ (.int .u8 (q : Nat))).drew) g7 (hd4 bs (k + 1)) ∧ ArrV 44 (((wr.setCell ⟨g7, 1 + k, none⟩ (.int .u8 (p : Nat))).setCell ⟨g7, 17 + k, none⟩ (.int .u8 (q : Nat))).drew) g5 F ∧ ArrV 25 (((wr.setCell ⟨g7, 1 + k, none⟩ (.int .u8 (p : Nat))).setCell ⟨g7, 17 + k, none⟩ (.int .u8 (q : Nat))).drew) g2 Z ∧
          Below w.heap.size w (((wr.setCell ⟨g7, 1 + k, none⟩ (.int .u8 (p : Nat))).setCell ⟨g7, 17 + k, none⟩ (.int .u8 (q : Nat))).drew)) := by
        refine ⟨?_, ?_, ?_, ?_⟩
        · rw [HFN.out]
          exact ((hH.set (1 + k) _).set (17 + k) _).drew
        · exact ((hF.other _ _ HG7.out.1).other _ _ HG7.out.1).drew
        · exact ((hA.other _ _ HG7.out.2.1).other _ _ HG7.out.2.1).drew
        · exact ((hB.setCell (p := ⟨g7, 1 + k, none⟩) HG7.out.2.2 _).setCell (p := ⟨g7, 17 + k, none⟩) HG7.out.2.2 _).drew
      clear hu hv2 hp hq hH hF hA hB hk
      have hk4 : k = 0 ∨ k = 1 ∨ k = 2 ∨ k = 3 := by omega
      clear hlt
      rcases hk4 with rfl | rfl | rfl | rfl
      all_goals
        simp only [Nat.reduceAdd, Nat.add_zero] at c9 c13 t1 t17 f1 f17 HREL
        go_upto_region 12 with fail
        go_region
        all_goals
          go_wp2_with fail
          go_roundw
          case rel => exact ⟨_, by decide, by go_num, HREL.out.1, HREL.out.2.1, HREL.out.2.2.1, HREL.out.2.2.2⟩
          case measure => simp [intOf]
    · obtain rfl : k = 4 := by omega
      clear hk hlt
      have x4 := (hF.get 4).trans hF4
      have x5 := (hF.get 5).trans hF5
      obtain ⟨U, eU⟩ : ∃ U, U = wr := ⟨_, rfl⟩
      rw [← eU] at hH hF hA hB x4 x5 ⊢
      clear eU
      by_cases hoff0 : off = 0
      · have ob : ¬ (0 : Int) < (off : Int) := by omega
        have ob2 : (off : Int) ≤ 0 := by omega
        obtain ⟨q, hq⟩ : ∃ q, q = fl % 2 := ⟨_, rfl⟩
        have r1 : (fl : Int) % 2 = (q : Int) := by omega
        have r2 : (fl : Int).tmod 2 = (q : Int) := by rw [Int.tmod_eq_emod_of_nonneg (by omega)]; omega
        by_cases hq1 : q = 1
        · have hfr : (pk4 bs).frag = 1 := by rw [HFRAG.out, if_neg (fun h => h hoff0), if_pos (by omega)]
          have qb : ((q : Int) == 1) = true := by rw [hq1]; rfl
          have hdn : (hd4 bs 4).set 36 (.int .i64 1) = hdCells (pk4 bs) false 0 0 := by
            have h := HDONE.out
            rw [hfr] at h
            exact h
          have u1 := hH.set 36 (.int .i64 1)
          rw [hdn] at u1
          have y36 := (hH.get 36).trans H435.out.2.2.1
          have fy36 := hH.frozen 36
          have A7 := hA.other ⟨g7, 36, none⟩ (.int .i64 1) HG7.out.2.1
          have B7 := hB.setCell (p := ⟨g7, 36, none⟩) HG7.out.2.2 (.int .i64 1)
          obtain ⟨W7, e7⟩ : ∃ W, W = U.setCell ⟨g7, 36, none⟩ (.int .i64 1) := ⟨_, rfl⟩
          rw [← e7] at u1 A7 B7
          have q34 : W7.cell? ⟨g7, 34, none⟩ = some (.int .i64 (tot : Nat)) := by
            rw [u1.get 34, ← hdn, List.getElem?_set_ne (by decide)]
            exact H435.out.1
          have q35 : W7.cell? ⟨g7, 35, none⟩ = some (.int .i64 (m : Nat)) := by
            rw [u1.get 35, ← hdn, List.getElem?_set_ne (by decide)]
            exact H435.out.2.1
          have U7 := Lib.hid u1
          have A7 := Lib.hid A7
          have B7 := Lib.hid B7
          have r34 : W7.drew.cell? ⟨g7, 34, none⟩ = some (.int .i64 (tot : Nat)) := q34
          have r35 : W7.drew.cell? ⟨g7, 35, none⟩ = some (.int .i64 (m : Nat)) := q35
          clear hH hF hA hB u1 hdn hq hq1 hoff0 hfr
          go_upto_region 17 with fail
          rw [← e7]
          clear e7 x4 x5 y36 fy36
          obtain ⟨Y, hY⟩ : ∃ Y, Y = hdCells (pk4 bs) false 0 0 := ⟨_, rfl⟩
          rw [← hY] at U7 HY
          have HYE := Lib.hid hY
          clear hY
          have K7 := Lib.hid (kv_pair A7.out U7.out B7.out (by rw [HG2.out]; exact Nat.le_refl _) HG7.out.2.2 HG7.out.2.1)
          have M34 := Lib.hid q34
          have Y34 : Hid (Y[34]? = some (.int .i64 (tot : Nat)) ∧ Y[35]? = some (.int .i64 (m : Nat))) := ⟨(U7.out.get 34).symm.trans q34, (U7.out.get 35).symm.trans q35⟩
          clear q34 q35 r34 r35
          refine wp_region_put (C0 := KV w [(25, g2, Z), (25, g7, Y)]) (C1 := KV w [(25, g2, Y), (25, g7, Y)]) [some (.agg Y.toArray), some (.slice (some ⟨b, o, none⟩) n c), some (.pointer (some ⟨g7, 35, none⟩)), some (.int .i64 (m : Nat)), some (.pointer (some ⟨g7, 34, none⟩)), some (.int .i64 (tot : Nat)), some (.slice PV (tot - m) (c - m)), none, some (.slice PV (tot - m) (c - m)), some (.slice none 0 0)] 7 [0] (by kernel_rfl) (by kernel_rfl) K7.out.drew ?_ (fun W9 hW9 => ?_)
          · refine putWalk_quiet rfl (fun W hw' => quietAt_part (off := 0) (n := 40) (vs := Y) rfl rfl tyhead (hw'.at 1 rfl) (by rw [List.drop_zero, List.take_of_length_le (Nat.le_of_eq HY.out.1)]) HY.out.1) (fun hna => absurd hna (by decide)) ?_
            simp only [Act.put, List.setIfInBounds_toArray, List.set_cons_zero, List.set_cons_succ]
            refine putWalk_quiet rfl (fun W hw' => quietAt_run rfl) (fun hna => fun W hw' => quietAt_run rfl) ?_
            simp only [Act.put, List.setIfInBounds_toArray, List.set_cons_zero, List.set_cons_succ]
            refine putWalk_quiet rfl (fun W hw' => quietAt_run rfl) (fun hna => fun W hw' => quietAt_run rfl) ?_
            simp only [Act.put, List.setIfInBounds_toArray, List.set_cons_zero, List.set_cons_succ]
            refine putWalk_quiet rfl (fun W hw' => quietAt_cell (j := 35) rfl rfl one_int (hw'.at 1 rfl) Y34.out.2) (fun hna => fun W hw' => quietAt_cell (j := 35) rfl rfl one_int (hw'.at 1 rfl) Y34.out.2) ?_
            simp only [Act.put, List.setIfInBounds_toArray, List.set_cons_zero, List.set_cons_succ]
            refine putWalk_quiet rfl (fun W hw' => quietAt_run rfl) (fun hna => fun W hw' => quietAt_run rfl) ?_
            simp only [Act.put, List.setIfInBounds_toArray, List.set_cons_zero, List.set_cons_succ]
            refine putWalk_quiet rfl (fun W hw' => quietAt_cell (j := 34) rfl rfl one_int (hw'.at 1 rfl) Y34.out.1) (fun hna => fun W hw' => quietAt_cell (j := 34) rfl rfl one_int (hw'.at 1 rfl) Y34.out.1) ?_
            simp only [Act.put, List.setIfInBounds_toArray, List.set_cons_zero, List.set_cons_succ]
            refine putWalk_quiet rfl (fun W hw' => quietAt_run (by rw [HPV.out]; by_cases hcm : c = m <;> first | (simp [go_sem, i2, i3, i4, i5, hcm]; done) | (have k4 : tot ≤ m := (by omega); have k3 : m ≤ tot := (by omega); simp [go_sem, hcm, k3, k4]))) (fun hna => fun W hw' => quietAt_run (by rw [HPV.out]; by_cases hcm : c = m <;> first | (simp [go_sem, i2, i3, i4, i5, hcm]; done) | (have k4 : tot ≤ m := (by omega); have k3 : m ≤ tot := (by omega); simp [go_sem, hcm, k3, k4]))) ?_
            simp only [Act.put, List.setIfInBounds_toArray, List.set_cons_zero, List.set_cons_succ]
            refine putWalk_put rfl (put_store 0 rfl rfl rfl rfl tyhead hZl HY.out.1 HY.out.2) ?_
            simp only [Act.put]
            refine putWalk_quiet rfl (fun W hw' => quietAt_run rfl) (fun hna => fun W hw' => quietAt_run rfl) ?_
            simp only [Act.put, List.setIfInBounds_toArray, List.set_cons_zero, List.set_cons_succ]
            refine putWalk_quiet rfl (fun W hw' => quietAt_run rfl) (fun hna => fun W hw' => quietAt_run rfl) ?_
            trivial
          · simp only [List.length_cons, List.length_nil, lexAct, pval, toK, List.map_cons, List.map_nil, List.getElem?_cons_zero, List.getElem?_cons_succ, Option.bind_some, Act.put, List.setIfInBounds_toArray, List.set_cons_zero, List.set_cons_succ]
            have hHS : ArrV 25 W9 g2 Y := hW9.at 0 rfl
            go_wp2_with fail
            exact bodyPost_ret (v := .tuple #[.agg Y.toArray, .slice PV (tot - m) (c - m), .slice none 0 0]) (res_cell_two Try.results39 rfl (hHS.loadVar tyhead HY.out.1) rfl rfl) rfl ⟨hW9.bel, by rw [HYE.out]⟩
        · have hfr : (pk4 bs).frag = 0 := by rw [HFRAG.out, if_neg (fun h => h hoff0), if_neg (by omega)]
          have qb : ((q : Int) == 1) = false := beq_false_of_ne (by omega)
          have hdn : hd4 bs 4 = hdCells (pk4 bs) false 0 0 := by
            have h := HDONE.out
            rw [hfr] at h
            exact H435.out.2.2.2.symm.trans h
          have u1 := hH
          rw [hdn] at u1
          have A7 := hA
          have B7 := hB
          obtain ⟨W7, e7⟩ : ∃ W, W = U := ⟨_, rfl⟩
          rw [← e7] at u1 A7 B7
          have q34 : W7.cell? ⟨g7, 34, none⟩ = some (.int .i64 (tot : Nat)) := by
            rw [e7, hH.get 34]
            exact H435.out.1
          have q35 : W7.cell? ⟨g7, 35, none⟩ = some (.int .i64 (m : Nat)) := by
            rw [e7, hH.get 35]
            exact H435.out.2.1
          have U7 := Lib.hid u1
          have A7 := Lib.hid A7
          have B7 := Lib.hid B7
          have r34 : W7.drew.cell? ⟨g7, 34, none⟩ = some (.int .i64 (tot : Nat)) := q34
          have r35 : W7.drew.cell? ⟨g7, 35, none⟩ = some (.int .i64 (m : Nat)) := q35
          clear hH hF hA hB u1 hdn hq hq1 hoff0 hfr
          go_upto_region 17 with fail
          rw [← e7]
          clear e7 x4 x5
          obtain ⟨Y, hY⟩ : ∃ Y, Y = hdCells (pk4 bs) false 0 0 := ⟨_, rfl⟩
          rw [← hY] at U7 HY
          have HYE := Lib.hid hY
          clear hY
          have K7 := Lib.hid (kv_pair A7.out U7.out B7.out (by rw [HG2.out]; exact Nat.le_refl _) HG7.out.2.2 HG7.out.2.1)
          have M34 := Lib.hid q34
          have Y34 : Hid (Y[34]? = some (.int .i64 (tot : Nat)) ∧ Y[35]? = some (.int .i64 (m : Nat))) := ⟨(U7.out.get 34).symm.trans q34, (U7.out.get 35).symm.trans q35⟩
          clear q34 q35 r34 r35
          refine wp_region_put (C0 := KV w [(25, g2, Z), (25, g7, Y)]) (C1 := KV w [(25, g2, Y), (25, g7, Y)]) [some (.agg Y.toArray), some (.slice (some ⟨b, o, none⟩) n c), some (.pointer (some ⟨g7, 35, none⟩)), some (.int .i64 (m : Nat)), some (.pointer (some ⟨g7, 34, none⟩)), some (.int .i64 (tot : Nat)), some (.slice PV (tot - m) (c - m)), none, some (.slice PV (tot - m) (c - m)), some (.slice none 0 0)] 7 [0] (by kernel_rfl) (by kernel_rfl) K7.out.drew ?_ (fun W9 hW9 => ?_)
          · refine putWalk_quiet rfl (fun W hw' => quietAt_part (off := 0) (n := 40) (vs := Y) rfl rfl tyhead (hw'.at 1 rfl) (by rw [List.drop_zero, List.take_of_length_le (Nat.le_of_eq HY.out.1)]) HY.out.1) (fun hna => absurd hna (by decide)) ?_
            simp only [Act.put, List.setIfInBounds_toArray, List.set_cons_zero, List.set_cons_succ]
            refine putWalk_quiet rfl (fun W hw' => quietAt_run rfl) (fun hna => fun W hw' => quietAt_run rfl) ?_
            simp only [Act.put, List.setIfInBounds_toArray, List.set_cons_zero, List.set_cons_succ]
            refine putWalk_quiet rfl (fun W hw' => quietAt_run rfl) (fun hna => fun W hw' => quietAt_run rfl) ?_
            simp only [Act.put, List.setIfInBounds_toArray, List.set_cons_zero, List.set_cons_succ]
            refine putWalk_quiet rfl (fun W hw' => quietAt_cell (j := 35) rfl rfl one_int (hw'.at 1 rfl) Y34.out.2) (fun hna => fun W hw' => quietAt_cell (j := 35) rfl rfl one_int (hw'.at 1 rfl) Y34.out.2) ?_
            simp only [Act.put, List.setIfInBounds_toArray, List.set_cons_zero, List.set_cons_succ]
            refine putWalk_quiet rfl (fun W hw' => quietAt_run rfl) (fun hna => fun W hw' => quietAt_run rfl) ?_
            simp only [Act.put, List.setIfInBounds_toArray, List.set_cons_zero, List.set_cons_succ]
            refine putWalk_quiet rfl (fun W hw' => quietAt_cell (j := 34) rfl rfl one_int (hw'.at 1 rfl) Y34.out.1) (fun hna => fun W hw' => quietAt_cell (j := 34) rfl rfl one_int (hw'.at 1 rfl) Y34.out.1) ?_
            simp only [Act.put, List.setIfInBounds_toArray, List.set_cons_zero, List.set_cons_succ]
            refine putWalk_quiet rfl (fun W hw' => quietAt_run (by rw [HPV.out]; by_cases hcm : c = m <;> first | (simp [go_sem, i2, i3, i4, i5, hcm]; done) | (have k4 : tot ≤ m := (by omega); have k3 : m ≤ tot := (by omega); simp [go_sem, hcm, k3, k4]))) (fun hna => fun W hw' => quietAt_run (by rw [HPV.out]; by_cases hcm : c = m <;> first | (simp [go_sem, i2, i3, i4, i5, hcm]; done) | (have k4 : tot ≤ m := (by omega); have k3 : m ≤ tot := (by omega); simp [go_sem, hcm, k3, k4]))) ?_
            simp only [Act.put, List.setIfInBounds_toArray, List.set_cons_zero, List.set_cons_succ]
            refine putWalk_put rfl (put_store 0 rfl rfl rfl rfl tyhead hZl HY.out.1 HY.out.2) ?_
            simp only [Act.put]
            refine putWalk_quiet rfl (fun W hw' => quietAt_run rfl) (fun hna => fun W hw' => quietAt_run rfl) ?_
            simp only [Act.put, List.setIfInBounds_toArray, List.set_cons_zero, List.set_cons_succ]
            refine putWalk_quiet rfl (fun W hw' => quietAt_run rfl) (fun hna => fun W hw' => quietAt_run rfl) ?_
            trivial
          · simp only [List.length_cons, List.length_nil, lexAct, pval, toK, List.map_cons, List.map_nil, List.getElem?_cons_zero, List.getElem?_cons_succ, Option.bind_some, Act.put, List.setIfInBounds_toArray, List.set_cons_zero, List.set_cons_succ]
            have hHS : ArrV 25 W9 g2 Y := hW9.at 0 rfl
            go_wp2_with fail
            exact bodyPost_ret (v := .tuple #[.agg Y.toArray, .slice PV (tot - m) (c - m), .slice none 0 0]) (res_cell_two Try.results39 rfl (hHS.loadVar tyhead HY.out.1) rfl rfl) rfl ⟨hW9.bel, by rw [HYE.out]⟩
      · have ob : (0 : Int) < (off : Int) := by omega
        have hfr : (pk4 bs).frag = 2 := by rw [HFRAG.out, if_pos hoff0]
        have hdn : (hd4 bs 4).set 36 (.int .i64 2) = hdCells (pk4 bs) false 0 0 := by
          have h := HDONE.out
          rw [hfr] at h
          exact h
        have u1 := hH.set 36 (.int .i64 2)
        rw [hdn] at u1
        have y36 := (hH.get 36).trans H435.out.2.2.1
        have fy36 := hH.frozen 36
        have A7 := hA.other ⟨g7, 36, none⟩ (.int .i64 2) HG7.out.2.1
        have B7 := hB.setCell (p := ⟨g7, 36, none⟩) HG7.out.2.2 (.int .i64 2)
        obtain ⟨W7, e7⟩ : ∃ W, W = U.setCell ⟨g7, 36, none⟩ (.int .i64 2) := ⟨_, rfl⟩
        rw [← e7] at u1 A7 B7
        have q34 : W7.cell? ⟨g7, 34, none⟩ = some (.int .i64 (tot : Nat)) := by
          rw [u1.get 34, ← hdn, List.getElem?_set_ne (by decide)]
          exact H435.out.1
        have q35 : W7.cell? ⟨g7, 35, none⟩ = some (.int .i64 (m : Nat)) := by
          rw [u1.get 35, ← hdn, List.getElem?_set_ne (by decide)]
          exact H435.out.2.1
        have U7 := Lib.hid u1
        have A7 := Lib.hid A7
        have B7 := Lib.hid B7
        have r34 : W7.drew.cell? ⟨g7, 34, none⟩ = some (.int .i64 (tot : Nat)) := q34
        have r35 : W7.drew.cell? ⟨g7, 35, none⟩ = some (.int .i64 (m : Nat)) := q35
        clear hH hF hA hB u1 hdn hoff0 hfr
        go_upto_region 17 with fail
        rw [← e7]
        clear e7 x4 x5 y36 fy36
        obtain ⟨Y, hY⟩ : ∃ Y, Y = hdCells (pk4 bs) false 0 0 := ⟨_, rfl⟩
        rw [← hY] at U7 HY
        have HYE := Lib.hid hY
        clear hY
        have K7 := Lib.hid (kv_pair A7.out U7.out B7.out (by rw [HG2.out]; exact Nat.le_refl _) HG7.out.2.2 HG7.out.2.1)
        have M34 := Lib.hid q34
        have Y34 : Hid (Y[34]? = some (.int .i64 (tot : Nat)) ∧ Y[35]? = some (.int .i64 (m : Nat))) := ⟨(U7.out.get 34).symm.trans q34, (U7.out.get 35).symm.trans q35⟩
        clear q34 q35 r34 r35
        refine wp_region_put (C0 := KV w [(25, g2, Z), (25, g7, Y)]) (C1 := KV w [(25, g2, Y), (25, g7, Y)]) [some (.agg Y.toArray), some (.slice (some ⟨b, o, none⟩) n c), some (.pointer (some ⟨g7, 35, none⟩)), some (.int .i64 (m : Nat)), some (.pointer (some ⟨g7, 34, none⟩)), some (.int .i64 (tot : Nat)), some (.slice PV (tot - m) (c - m)), none, some (.slice PV (tot - m) (c - m)), some (.slice none 0 0)] 7 [0] (by kernel_rfl) (by kernel_rfl) K7.out.drew ?_ (fun W9 hW9 => ?_)
        · refine putWalk_quiet rfl (fun W hw' => quietAt_part (off := 0) (n := 40) (vs := Y) rfl rfl tyhead (hw'.at 1 rfl) (by rw [List.drop_zero, List.take_of_length_le (Nat.le_of_eq HY.out.1)]) HY.out.1) (fun hna => absurd hna (by decide)) ?_
          simp only [Act.put, List.setIfInBounds_toArray, List.set_cons_zero, List.set_cons_succ]
          refine putWalk_quiet rfl (fun W hw' => quietAt_run rfl) (fun hna => fun W hw' => quietAt_run rfl) ?_
          simp only [Act.put, List.setIfInBounds_toArray, List.set_cons_zero, List.set_cons_succ]
          refine putWalk_quiet rfl (fun W hw' => quietAt_run rfl) (fun hna => fun W hw' => quietAt_run rfl) ?_
          simp only [Act.put, List.setIfInBounds_toArray, List.set_cons_zero, List.set_cons_succ]
          refine putWalk_quiet rfl (fun W hw' => quietAt_cell (j := 35) rfl rfl one_int (hw'.at 1 rfl) Y34.out.2) (fun hna => fun W hw' => quietAt_cell (j := 35) rfl rfl one_int (hw'.at 1 rfl) Y34.out.2) ?_
          simp only [Act.put, List.setIfInBounds_toArray, List.set_cons_zero, List.set_cons_succ]
          refine putWalk_quiet rfl (fun W hw' => quietAt_run rfl) (fun hna => fun W hw' => quietAt_run rfl) ?_
          simp only [Act.put, List.setIfInBounds_toArray, List.set_cons_zero, List.set_cons_succ]
          refine putWalk_quiet rfl (fun W hw' => quietAt_cell (j := 34) rfl rfl one_int (hw'.at 1 rfl) Y34.out.1) (fun hna => fun W hw' => quietAt_cell (j := 34) rfl rfl one_int (hw'.at 1 rfl) Y34.out.1) ?_
          simp only [Act.put, List.setIfInBounds_toArray, List.set_cons_zero, List.set_cons_succ]
          refine putWalk_quiet rfl (fun W hw' => quietAt_run (by rw [HPV.out]; by_cases hcm : c = m <;> first | (simp [go_sem, i2, i3, i4, i5, hcm]; done) | (have k4 : tot ≤ m := (by omega); have k3 : m ≤ tot := (by omega); simp [go_sem, hcm, k3, k4]))) (fun hna => fun W hw' => quietAt_run (by rw [HPV.out]; by_cases hcm : c = m <;> first | (simp [go_sem, i2, i3, i4, i5, hcm]; done) | (have k4 : tot ≤ m := (by omega); have k3 : m ≤ tot := (by omega); simp [go_sem, hcm, k3, k4]))) ?_
          simp only [Act.put, List.setIfInBounds_toArray, List.set_cons_zero, List.set_cons_succ]
          refine putWalk_put rfl (put_store 0 rfl rfl rfl rfl tyhead hZl HY.out.1 HY.out.2) ?_
          simp only [Act.put]
          refine putWalk_quiet rfl (fun W hw' => quietAt_run rfl) (fun hna => fun W hw' => quietAt_run rfl) ?_
          simp only [Act.put, List.setIfInBounds_toArray, List.set_cons_zero, List.set_cons_succ]
          refine putWalk_quiet rfl (fun W hw' => quietAt_run rfl) (fun hna => fun W hw' => quietAt_run rfl) ?_
          trivial
        · simp only [List.length_cons, List.length_nil, lexAct, pval, toK, List.map_cons, List.map_nil, List.getElem?_cons_zero, List.getElem?_cons_succ, Option.bind_some, Act.put, List.setIfInBounds_toArray, List.set_cons_zero, List.set_cons_succ]
          have hHS : ArrV 25 W9 g2 Y := hW9.at 0 rfl
          go_wp2_with fail
          exact bodyPost_ret (v := .tuple #[.agg Y.toArray, .slice PV (tot - m) (c - m), .slice none 0 0]) (res_cell_two Try.results39 rfl (hHS.loadVar tyhead HY.out.1) rfl rfl) rfl ⟨hW9.bel, by rw [HYE.out]⟩
end Go.Proofs.Ytcjaidpmfjnhpaa
