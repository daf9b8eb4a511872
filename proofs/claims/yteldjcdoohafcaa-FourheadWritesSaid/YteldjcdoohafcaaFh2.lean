/-
  The contract of fourhead's Read.
-/
import Derived.Test.YteldjcdoohafcaaFh1
namespace Go.Proofs.Yteldjcdoohafcaa
open Go.RowKit
set_option linter.unusedVariables false

/-- What Read tells: the fields, and what is wrong. -/
def fhdef (n : Nat) (bs : List Nat) : Nat :=
  if n = 0 then 1 else if bs.getD 0 0 / 16 ≠ 4 then 2 else if n < 20 then 3 else if bs.getD 0 0 % 16 < 5 then 4 else if n < 4 * (bs.getD 0 0 % 16) then 5 else 0
def fhval (n : Nat) (bs : List Nat) : List Value := if fhdef n bs = 0 then fhf bs else fhz
theorem fhz_one : ∀ v ∈ fhz, v.oneCell' = true := by
  intro v hv
  simp [fhz] at hv
  rcases hv with rfl | rfl <;> rfl
theorem fhf_len (bs : List Nat) : (fhf bs).length = 17 := rfl
theorem fhf_one (bs : List Nat) : ∀ v ∈ fhf bs, v.oneCell' = true := by
  unfold fhf
  simp [Value.oneCell']
def ReadIs (n : Nat) (bs : List Nat) (w : World) (e : Ending) (w' : World) : Prop := e = .returned (.tuple #[.agg (fhval n bs).toArray, .int .i64 (fhdef n bs : Nat)]) ∧ Below w.heap.size w w'
set_option maxRecDepth 10000 in
set_option maxHeartbeats 6400000 in
theorem fhread_any (A : Option Addr) (n c : Nat) (bs : List Nat) (w : World) (hn2 : n ≤ 140737488355328) (hc : n ≤ c) (hR : Row w A n bs) :
    Calls Try.prog 14 #[.slice A n c] w (ReadIs n bs w) := by
  obtain ⟨Z, hZ⟩ : ∃ Z, Z = fhz := ⟨_, rfl⟩
  obtain ⟨V, e0⟩ : ∃ V, V = w.alloc (.cells Z.toArray 25) := ⟨_, rfl⟩
  have hZl : Z.length = 17 := by rw [hZ]; rfl
  have hZo : ∀ v ∈ Z, v.oneCell' = true := by rw [hZ]; exact fhz_one
  have hlit : (#[.int .i64 0, .int .i64 0, .int .i64 0, .int .i64 0, .int .i64 0, .int .i64 0, .int .i64 0, .int .i64 0, .int .i64 0, .int .u8 0, .int .u8 0, .int .u8 0, .int .u8 0, .int .u8 0, .int .u8 0, .int .u8 0, .int .u8 0] : Array Value) = Z.toArray := by rw [hZ]; rfl
  have HA : Hid (ArrV 25 V w.heap.size Z) := by show ArrV _ _ _ _; rw [e0]; exact ArrV.new _ w Z
  have HB : Hid (Below w.heap.size w V) := by show Below _ _ _; rw [e0]; exact (Below.refl _ _).alloc (Nat.le_refl _) _
  have HE0 := Lib.hid e0
  have HST : Hid (Below w.heap.size w (V.setCells w.heap.size 0 Z)) := setCells_below _ (Nat.le_refl _) _ _ _ HB.out
  have HLD := Lib.hid ((HA.out.store Z rfl).loadVar tyfour hZl)
  by_cases h0 : n = 0
  · have HF : Hid (fhval n bs = Z ∧ fhdef n bs = 1) := by
      have e : fhdef n bs = 1 := by unfold fhdef; rw [if_pos h0]
      exact ⟨by unfold fhval; rw [e, if_neg (by decide), hZ], e⟩
    subst h0
    clear hZ hR hn2 hc
    go_enter Try.func14, Try.ntmps14
    go_upto_region 1 with fail
    rw [← HE0.out]
    clear e0
    go_wp2_with (first | refine wpList_store_v rfl 25 (.tmp 2) (.tmp 8) rfl _ rfl tyfour HA.out hZl Z hZl hZo rfl ?_ | refine wpList_store_v rfl 25 (.tmp 2) (.tmp 15) rfl _ rfl tyfour HA.out hZl Z hZl hZo rfl ?_ | refine wpList_store_v rfl 25 (.tmp 2) (.tmp 20) rfl _ rfl tyfour HA.out hZl Z hZl hZo rfl ?_ | refine wpList_store_v rfl 25 (.tmp 2) (.tmp 27) rfl _ rfl tyfour HA.out hZl Z hZl hZo rfl ?_ | refine wpList_store_v rfl 25 (.tmp 2) (.tmp 34) rfl _ rfl tyfour HA.out hZl Z hZl hZo rfl ?_ | fail)
    exact bodyPost_ret (v := .tuple #[.agg Z.toArray, .int .i64 1]) (res_cell_tmp Try.results14 rfl HLD.out rfl) rfl ⟨by rw [HF.out.1, HF.out.2]; rfl, HST.out⟩
  have hRV := hR.below HB.out
  obtain ⟨b, o, rfl, hb, hcell⟩ := hRV.addr (by omega)
  have c0 := hcell 0 (by omega)
  simp only [Nat.add_zero] at c0
  have hx := hR.byte 0
  have HRV := Lib.hid hRV
  have HCF := Lib.hid (fun h20 => fhfields_any (some ⟨b, o, none⟩) n c bs V h20 hn2 hc HRV.out)
  have HSZ := Lib.hid (fun h1 => fhsize_any (some ⟨b, o, none⟩) n c bs V h1 hn2 HRV.out)
  have hFH : Hid (fhval n bs = if fhdef n bs = 0 then fhf bs else fhz) := rfl
  have HD : Hid (fhdef n bs = if n = 0 then 1 else if bs.getD 0 0 / 16 ≠ 4 then 2 else if n < 20 then 3 else if bs.getD 0 0 % 16 < 5 then 4 else if n < 4 * (bs.getD 0 0 % 16) then 5 else 0) := rfl
  generalize bs.getD 0 0 = x at *
  have q1 : bits .and .u8 (x : Int) 15 = ((x % 16 : Nat) : Int) := by
    have := u8_and_nat x 15 (by omega) (by decide)
    rw [nat_mask4] at this
    exact this
  obtain ⟨y, hy⟩ : ∃ y, y = x % 16 := ⟨_, rfl⟩
  obtain ⟨v, hv⟩ : ∃ v, v = x / 16 := ⟨_, rfl⟩
  rw [← hy] at q1 HD HSZ
  rw [← hv] at HD
  have e16 : (x : Int) / 16 = (v : Int) := by omega
  have n0 : (0 : Int) < (n : Int) := by omega
  have n0b : ((n : Int) == 0) = false := by simp; omega
  have yl : y < 16 := by omega
  have NE := Lib.hid h0
  clear hy hv hcell hRV hR hb h0
  by_cases h4 : v ≠ 4
  · have HF : Hid (fhval n bs = Z ∧ fhdef n bs = 2) := by
      have e : fhdef n bs = 2 := by rw [HD.out]; rw [if_neg NE.out, if_pos h4]
      exact ⟨by rw [hFH.out, e, if_neg (by decide), hZ], e⟩
    have vb : ((v : Int) == 4) = false := by simp; omega
    clear hZ h4 HD hFH hx hn2 hc
    go_enter Try.func14, Try.ntmps14
    go_upto_region 1 with fail
    rw [← HE0.out]
    clear e0
    go_wp2_with (first | refine wpList_store_v rfl 25 (.tmp 2) (.tmp 8) rfl _ rfl tyfour HA.out hZl Z hZl hZo rfl ?_ | refine wpList_store_v rfl 25 (.tmp 2) (.tmp 15) rfl _ rfl tyfour HA.out hZl Z hZl hZo rfl ?_ | refine wpList_store_v rfl 25 (.tmp 2) (.tmp 20) rfl _ rfl tyfour HA.out hZl Z hZl hZo rfl ?_ | refine wpList_store_v rfl 25 (.tmp 2) (.tmp 27) rfl _ rfl tyfour HA.out hZl Z hZl hZo rfl ?_ | refine wpList_store_v rfl 25 (.tmp 2) (.tmp 34) rfl _ rfl tyfour HA.out hZl Z hZl hZo rfl ?_ | fail)
    exact bodyPost_ret (v := .tuple #[.agg Z.toArray, .int .i64 2]) (res_cell_tmp Try.results14 rfl HLD.out rfl) rfl ⟨by rw [HF.out.1, HF.out.2]; rfl, HST.out⟩
  have h4e : v = 4 := by omega
  have vb : ((v : Int) == 4) = true := by simp; omega
  by_cases h20 : n < 20
  · have HF : Hid (fhval n bs = Z ∧ fhdef n bs = 3) := by
      have e : fhdef n bs = 3 := by rw [HD.out]; rw [if_neg NE.out, if_neg h4, if_pos h20]
      exact ⟨by rw [hFH.out, e, if_neg (by decide), hZ], e⟩
    have nI : (n : Int) < 20 := by omega
    clear hZ h4 h4e HD hFH hx hn2 hc h20
    go_enter Try.func14, Try.ntmps14
    go_upto_region 1 with fail
    rw [← HE0.out]
    clear e0
    go_wp2_with (first | refine wpList_store_v rfl 25 (.tmp 2) (.tmp 8) rfl _ rfl tyfour HA.out hZl Z hZl hZo rfl ?_ | refine wpList_store_v rfl 25 (.tmp 2) (.tmp 15) rfl _ rfl tyfour HA.out hZl Z hZl hZo rfl ?_ | refine wpList_store_v rfl 25 (.tmp 2) (.tmp 20) rfl _ rfl tyfour HA.out hZl Z hZl hZo rfl ?_ | refine wpList_store_v rfl 25 (.tmp 2) (.tmp 27) rfl _ rfl tyfour HA.out hZl Z hZl hZo rfl ?_ | refine wpList_store_v rfl 25 (.tmp 2) (.tmp 34) rfl _ rfl tyfour HA.out hZl Z hZl hZo rfl ?_ | fail)
    exact bodyPost_ret (v := .tuple #[.agg Z.toArray, .int .i64 3]) (res_cell_tmp Try.results14 rfl HLD.out rfl) rfl ⟨by rw [HF.out.1, HF.out.2]; rfl, HST.out⟩
  have nI : (20 : Int) ≤ (n : Int) := by omega
  by_cases h5 : y < 5
  · have HF : Hid (fhval n bs = Z ∧ fhdef n bs = 4) := by
      have e : fhdef n bs = 4 := by rw [HD.out]; rw [if_neg NE.out, if_neg h4, if_neg h20, if_pos h5]
      exact ⟨by rw [hFH.out, e, if_neg (by decide), hZ], e⟩
    have yI : (y : Int) < 5 := by omega
    clear hZ h4 h4e HD hFH hx hn2 hc h20 h5
    go_enter Try.func14, Try.ntmps14
    go_upto_region 1 with fail
    rw [← HE0.out]
    clear e0
    go_wp2_with (first | refine wpList_store_v rfl 25 (.tmp 2) (.tmp 8) rfl _ rfl tyfour HA.out hZl Z hZl hZo rfl ?_ | refine wpList_store_v rfl 25 (.tmp 2) (.tmp 15) rfl _ rfl tyfour HA.out hZl Z hZl hZo rfl ?_ | refine wpList_store_v rfl 25 (.tmp 2) (.tmp 20) rfl _ rfl tyfour HA.out hZl Z hZl hZo rfl ?_ | refine wpList_store_v rfl 25 (.tmp 2) (.tmp 27) rfl _ rfl tyfour HA.out hZl Z hZl hZo rfl ?_ | refine wpList_store_v rfl 25 (.tmp 2) (.tmp 34) rfl _ rfl tyfour HA.out hZl Z hZl hZo rfl ?_ | fail)
    exact bodyPost_ret (v := .tuple #[.agg Z.toArray, .int .i64 4]) (res_cell_tmp Try.results14 rfl HLD.out rfl) rfl ⟨by rw [HF.out.1, HF.out.2]; rfl, HST.out⟩
  have yI : (5 : Int) ≤ (y : Int) := by omega
  have CS : Hid (∀ w, w = V → Calls Try.prog 50 #[.slice (some ⟨b, o, none⟩) n c] w fun e w' => e = .returned (.int .i64 (4 * y : Nat)) ∧ w = w') := fun w h => by rw [h]; exact HSZ.out (by omega)
  by_cases h6 : n < 4 * y
  · have HF : Hid (fhval n bs = Z ∧ fhdef n bs = 5) := by
      have e : fhdef n bs = 5 := by rw [HD.out]; rw [if_neg NE.out, if_neg h4, if_neg h20, if_neg h5, if_pos h6]
      exact ⟨by rw [hFH.out, e, if_neg (by decide), hZ], e⟩
    obtain ⟨m, hm⟩ : ∃ m, m = 4 * y := ⟨_, rfl⟩
    rw [← hm] at CS h6
    have mI : (n : Int) < (m : Int) := by omega
    clear hZ h4 h4e HD hFH hx hn2 hc h20 h5 h6 hm
    go_enter Try.func14, Try.ntmps14
    go_upto_region 1 with fail
    rw [← HE0.out]
    clear e0
    go_wp2_with fail
    refine (CS.out _ rfl).mono ?_
    rintro e w' ⟨rfl, rfl⟩
    go_wp2_with (first | refine wpList_store_v rfl 25 (.tmp 2) (.tmp 8) rfl _ rfl tyfour HA.out hZl Z hZl hZo rfl ?_ | refine wpList_store_v rfl 25 (.tmp 2) (.tmp 15) rfl _ rfl tyfour HA.out hZl Z hZl hZo rfl ?_ | refine wpList_store_v rfl 25 (.tmp 2) (.tmp 20) rfl _ rfl tyfour HA.out hZl Z hZl hZo rfl ?_ | refine wpList_store_v rfl 25 (.tmp 2) (.tmp 27) rfl _ rfl tyfour HA.out hZl Z hZl hZo rfl ?_ | refine wpList_store_v rfl 25 (.tmp 2) (.tmp 34) rfl _ rfl tyfour HA.out hZl Z hZl hZo rfl ?_ | fail)
    exact bodyPost_ret (v := .tuple #[.agg Z.toArray, .int .i64 5]) (res_cell_tmp Try.results14 rfl HLD.out rfl) rfl ⟨by rw [HF.out.1, HF.out.2]; rfl, HST.out⟩
  have CF := Lib.hid (HCF.out (by omega))
  have HF : Hid (fhval n bs = fhf bs ∧ fhdef n bs = 0) := by
    have e : fhdef n bs = 0 := by rw [HD.out, if_neg NE.out, if_neg h4, if_neg h20, if_neg h5, if_neg h6]
    exact ⟨by rw [hFH.out, e, if_pos rfl], e⟩
  obtain ⟨X, hX⟩ : ∃ X, X = fhf bs := ⟨_, rfl⟩
  have hXl : X.length = 17 := by rw [hX]; rfl
  have hXo : ∀ v ∈ X, v.oneCell' = true := by rw [hX]; exact fhf_one bs
  rw [← hX] at CF HF
  obtain ⟨m, hm⟩ : ∃ m, m = 4 * y := ⟨_, rfl⟩
  rw [← hm] at CS h6
  have mI : (m : Int) ≤ (n : Int) := by omega
  clear hZ h4 h4e HD hFH hx hn2 hc h20 h5 h6 hm hX
  go_enter Try.func14, Try.ntmps14
  go_upto_region 1 with fail
  rw [← HE0.out]
  clear e0
  go_wp2_with fail
  refine (CS.out _ rfl).mono ?_
  rintro e w' ⟨rfl, rfl⟩
  go_wp2_with fail
  refine CF.out.mono ?_
  rintro e w2 ⟨rfl, b2⟩
  have HA2 := Lib.hid (HA.out.below b2)
  have HB2 := Lib.hid (below_both HB.out b2)
  clear b2
  go_wp2_with (refine wpList_store_v rfl 25 (.tmp 2) (.tmp 36) rfl _ rfl tyfour HA2.out hZl X hXl hXo rfl ?_)
  exact bodyPost_ret (v := .tuple #[.agg X.toArray, .int .i64 0]) (res_cell_tmp Try.results14 rfl ((HA2.out.store X (by rw [hXl, hZl])).loadVar tyfour hXl) rfl) rfl ⟨by rw [HF.out.1, HF.out.2]; rfl, setCells_below _ (Nat.le_refl _) _ _ _ HB2.out⟩
end Go.Proofs.Yteldjcdoohafcaa
