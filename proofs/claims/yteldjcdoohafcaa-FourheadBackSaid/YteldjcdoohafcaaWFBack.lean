/-
  The walk of the statement FourheadBack.
-/
import Derived.Test.YteldjcdoohafcaaFh16
import Derived.Deep.CutRange
import Derived.Deep.CutBlock
import Derived.Test.YteldjcdoohafcaaRegCall
namespace Go.Proofs.Yteldjcdoohafcaa
open Go.RowKit
set_option linter.unusedVariables false

theorem cell_far (W : World) (p q : Addr) (v : Value) (h : p.block ≠ q.block) : (W.setCell p v).cell? q = W.cell? q := by
  unfold World.cell?
  rw [heap_setCell_other W p q.block v (Ne.symm h)]
/-- What there is where the bytes have a header. -/
def BackGood (a2 : Option Addr) (len2 cap2 : Nat) (bs2 : List Nat) (X : List Value) : Prop :=
  ∃ (y m : Nat) (S : List Nat), 5 ≤ y ∧ y ≤ 15 ∧ m = 4 * y ∧ m ≤ len2 ∧ X[0]? = some (.int .i64 (y : Nat)) ∧ X[8]? = some (.int .i64 (fhw bs2 10 : Nat)) ∧ S.length = len2 ∧
    (∀ w, Row w a2 len2 bs2 → Calls Try.prog 25 #[.slice a2 len2 cap2] w (SealIs w S)) ∧
    (∀ A c w, Row w A (m - 20) ((bs2.drop 20).take (m - 20)) → Calls Try.prog 23 #[.agg X.toArray, .slice A (m - 20) c] w fun e w' => ∃ v, e = .returned (.tuple #[v, .int .i64 0]) ∧ OutIs w.heap.size w' v (bs2.take m) ∧ Below w.heap.size w w') ∧
    (∃ Y : List Value, Y.length = 17 ∧ (∀ v ∈ Y, v.oneCell' = true) ∧ Y.set 8 (.int .i64 (fhw bs2 10 : Nat)) = X ∧ (∃ v8, Y[8]? = some v8) ∧
      ∀ A c w, len2 ≤ c → Row w A len2 S → Calls Try.prog 14 #[.slice A len2 c] w fun e w' => e = .returned (.tuple #[.agg Y.toArray, .int .i64 0]) ∧ Below w.heap.size w w') ∧
    (∃ L : List Nat, (∀ x ∈ L, x ≠ 9) ∧ L.length ≤ 5 ∧ ∀ A c w, len2 ≤ c → Row w A len2 S → Calls Try.prog 21 #[.slice A len2 c] w (AllIs w L)) ∧
    (∀ x ∈ S, x < 256) ∧ (∀ i, i ≠ 10 → i ≠ 11 → S.getD i 0 = bs2.getD i 0) ∧ (∀ w, (Op.equalIn 10000 25 (.agg X.toArray) (.agg X.toArray)).run Try.prog w = .ok true w)
theorem back_good {a2 : Option Addr} {len2 cap2 : Nat} {bs2 : List Nat} {w0 : World} (R : Row w0 a2 len2 bs2) (hl2 : len2 ≤ cap2) (hc2 : cap2 ≤ 140737488351232) (hd : fhdef len2 bs2 = 0) (X : List Value) (hX : X = fhval len2 bs2) : BackGood a2 len2 cap2 bs2 X := by
  obtain ⟨z0, z1, z2, z3, z4⟩ := fhdef_zero hd
  have hXf : X = fhf bs2 := by rw [hX]; unfold fhval; rw [if_pos hd]
  obtain ⟨y, hy⟩ : ∃ y, y = bs2.getD 0 0 % 16 := ⟨_, rfl⟩
  rw [← hy] at z3 z4
  have hbl := R.1
  have hbb := R.2.1
  have hself := sealed_self hbl hbb (show 20 ≤ 4 * y by omega) (show 4 * y ≤ len2 by omega)
  have hSd : fhdef len2 (fhseal bs2 (4 * y)) = 0 := hself.def.trans hd
  have hS0 : (fhseal bs2 (4 * y)).getD 0 0 = bs2.getD 0 0 := hself.same 0 (by decide) (by decide) (by decide) (by decide)
  refine ⟨y, 4 * y, fhseal bs2 (4 * y), by omega, by omega, rfl, by omega, by rw [hXf, hy]; rfl, by rw [hXf]; rfl, hself.len, fun w h => ?_, fun A c w h => ?_, ?_, ?_, hself.byte, fun i h1 h2 => ?_, fun w => ?_⟩
  · have h := fhseal_ok a2 len2 cap2 bs2 w (by omega) hl2 h hd
    rw [← hy] at h
    exact h
  · have hw := fhwrite_any (fourOf bs2) A (4 * y - 20) c ((bs2.drop 20).take (4 * y - 20)) w rfl rfl (by intro x hx; simp [fourOf] at hx; rcases hx with rfl | rfl | rfl | rfl <;> exact getD_byte hbb _) (by intro x hx; simp [fourOf] at hx; rcases hx with rfl | rfl | rfl | rfl <;> exact getD_byte hbb _) (by omega) h
    rw [fourOf_cells, ← hXf] at hw
    refine hw.mono ?_
    rintro e w' ⟨hb, _, _, h4⟩
    obtain ⟨v, he, ho⟩ := h4 (fourOf_fits (getD_byte hbb) (by omega)) (by show ((4 * y - 20 : Nat) : Int) = 4 * ((bs2.getD 0 0 % 16 : Nat) : Int) - 20; omega)
    rw [fourOf_bytes (getD_byte hbb) z1 (by omega) (by omega)] at ho
    exact ⟨v, he, ho, hb⟩
  · refine ⟨fhf (fhseal bs2 (4 * y)), rfl, fhf_one _, by rw [hXf]; exact hself.sum_back, ⟨_, rfl⟩, fun A c w hc h => ?_⟩
    have hr := fhread_any A len2 c (fhseal bs2 (4 * y)) w (by omega) hc h
    unfold ReadIs fhval at hr
    rw [hSd, if_pos rfl] at hr
    exact hr
  · refine ⟨fhall len2 (fhseal bs2 (4 * y)), fun x hx => ?_, fhall_len _ _, fun A c w hc h => fhall_any A len2 c _ w hc (by omega) h⟩
    rintro rfl
    rw [fhall_nine hSd, hS0, ← hy] at hx
    exact hx (fhseal_good (by omega) (by omega))
  · exact fhseal_same bs2 len2 (4 * y) i hbl (by omega) (by omega) (by omega)
  · rw [hXf]
    exact four_same (getD_byte hbb) w

set_option maxRecDepth 10000 in
set_option maxHeartbeats 12800000 in
theorem walk_FourheadBack (f : FourV) (a1 : Option Addr) (len1 cap1 : Nat) (bs1 : List Nat) (a2 : Option Addr) (len2 cap2 : Nat) (bs2 : List Nat) (w : World) (fs : f.src.length = 4) (fd : f.dst.length = 4) (fsb : ∀ x ∈ f.src, x < 256) (fdb : ∀ x ∈ f.dst, x < 256)
    (R1 : Row w a1 len1 bs1) (hl1 : len1 ≤ cap1) (hc1 : cap1 ≤ 140737488351232) (R2 : Row w a2 len2 bs2) (hl2 : len2 ≤ cap2) (hc2 : cap2 ≤ 140737488351232) :
    Calls Try.prog 5 #[.agg f.cells.toArray, .slice a1 len1 cap1, .slice a2 len2 cap2] w fun e w' => e = .returned (.bool true) ∧ Below w.heap.size w w' := by
  have CW := Lib.hid (fun w hR => fhwrite_any f a1 len1 cap1 bs1 w fs fd fsb fdb (by omega) hR)
  unfold WriteIs at CW
  obtain ⟨C, hC⟩ : ∃ C, C = f.cells := ⟨_, rfl⟩
  have hCl : C.length = 17 := by rw [hC]; exact FourV.cells_len fs fd
  have hCo : ∀ v ∈ C, v.oneCell' = true := by rw [hC]; exact f.cells_one
  rw [← hC] at CW ⊢
  have HC := Lib.hid hC
  have HR1 := Lib.hid R1
  have HR2 := Lib.hid R2
  have HL := Lib.hid (And.intro (And.intro hl1 hc1) (And.intro hl2 hc2))
  have HF := Lib.hid (And.intro (And.intro fs fd) (And.intro fsb fdb))
  have HA0 : Hid (ArrV 25 (w.alloc (.cells C.toArray 25)) w.heap.size C) := ArrV.new _ w C
  have HB0 : Hid (Below w.heap.size w (w.alloc (.cells C.toArray 25))) := (Below.refl _ _).alloc (Nat.le_refl _) _
  have CR := Lib.hid (fun w hR => fhread_any a2 len2 cap2 bs2 w (by omega) hl2 hR)
  unfold ReadIs at CR
  obtain ⟨X, hX⟩ : ∃ X, X = fhval len2 bs2 := ⟨_, rfl⟩
  have hXl : X.length = 17 := by rw [hX]; exact fhval_len len2 bs2
  have hXo : ∀ v ∈ X, v.oneCell' = true := by rw [hX]; exact fhval_one len2 bs2
  obtain ⟨d, hdd⟩ : ∃ d, d = fhdef len2 bs2 := ⟨_, rfl⟩
  rw [← hX, ← hdd] at CR
  have CSB : Hid (d ≠ 0 → ∀ w, Row w a2 len2 bs2 → Calls Try.prog 25 #[.slice a2 len2 cap2] w fun e w' => e = .returned (.tuple #[.slice none 0 0, .int .i64 3]) ∧ Below w.heap.size w w') := fun hd w h =>
    fhseal_bad a2 len2 cap2 bs2 w (by omega) hl2 h (by rw [← hdd]; exact hd)
  have CSG := Lib.hid (fun (h : d = 0) => back_good (R := R2) hl2 hc2 (hdd.symm.trans h) X hX)
  clear hX hdd
  clear hC R1 R2 hl1 hc1 hl2 hc2 fs fd fsb fdb
  go_enter Try.func5, Try.ntmps5
  go_upto_region 1 with fail
  obtain ⟨V0, eV0⟩ : ∃ V, V = w.alloc (.cells C.toArray 25) := ⟨_, rfl⟩
  rw [← eV0] at HA0 HB0 ⊢
  clear eV0
  refine wp_region_lit ?_
  go_wp2_with (refine wpList_load_v rfl 25 (.tmp 3) rfl _ rfl tyfour HA0.out hCl ?_)
  refine (CW.out _ (HR1.out.below HB0.out)).mono ?_
  rintro e w1 ⟨b1, n1, n2, n3⟩
  have A1 := Lib.hid (HA0.out.below b1)
  have B1 := Lib.hid (below_both HB0.out b1)
  have N1 := Lib.hid n1
  have N2 := Lib.hid n2
  have N3 := Lib.hid n3
  clear b1 n1 n2 n3
  by_cases hok : f.fits ∧ (len1 : Int) = 4 * f.k0 - 20
  · obtain ⟨v1, rfl, o1⟩ := N3.out hok.1 hok.2
    have HOK := Lib.hid hok
    have hx : ∀ x ∈ f.bytes bs1, x < 256 := FourV.bytes_byte hok.1 HF.out.2.1 HF.out.2.2 HR1.out.2.1
    have hwr := written_read hok.1 HF.out.1.1 HF.out.1.2 bs1 bs2 (by rw [HR1.out.1]; exact hok.2)
    obtain ⟨F, hF⟩ : ∃ F, F = f.bytes bs1 := ⟨_, rfl⟩
    rw [← hF] at o1 hx hwr
    have hFl : F.length ≤ 60 := by have h := (FourV.fits_all hok.1).1; have h2 := hwr.2.2; omega
    obtain ⟨A9, c9, rfl, hc9, hm9, r9⟩ := o1.out hx
    obtain ⟨q, hq⟩ : ∃ q, q = F.length := ⟨_, rfl⟩
    rw [← hq] at r9 hc9 ⊢
    have hlen : Hid ((F ++ bs2).length = q + len2) := by show _ = _; rw [List.length_append, ← hq, HR2.out.1]
    have HFD : Hid (∀ A n c w, n = (F ++ bs2).length → n ≤ c → n ≤ 140737488355328 → Row w A n (F ++ bs2) → Calls Try.prog 14 #[.slice A n c] w fun e w' => e = .returned (.tuple #[.agg C.toArray, .int .i64 0]) ∧ Below w.heap.size w w') := fun A n c w hn hnc hn2 hR => by
      have h := fhread_any A n c (F ++ bs2) w hn2 hnc hR
      unfold ReadIs at h
      subst hn
      have e1 : fhval (F ++ bs2).length (F ++ bs2) = C := by unfold fhval; rw [if_pos hwr.2.1, hwr.1, HC.out]
      rw [hwr.2.1, e1] at h
      exact h
    have hk0 : f.k0 = ((f.k0.toNat : Nat) : Int) := by have h := (FourV.fits_all hok.1).1; omega
    obtain ⟨k, hk⟩ : ∃ k, k = f.k0.toNat := ⟨_, rfl⟩
    rw [← hk] at hk0
    have hk15 : k ≤ 15 := by have h := (FourV.fits_all hok.1).1; omega
    have hqk : (q : Int) = 4 * (k : Int) := by have h := hwr.2.2; omega
    have C0 : Hid (C[0]? = some (.int .i64 (k : Nat))) := by show C[0]? = _; rw [HC.out, ← hk0]; rfl
    have HEQ : Hid (∀ w, (Op.equalIn 10000 25 (.agg C.toArray) (.agg C.toArray)).run Try.prog w = .ok true w) := fun w => by
      rw [HC.out]
      exact FourV.same hok.1 HF.out.1.1 HF.out.1.2 HF.out.2.1 HF.out.2.2 HR1.out.2.1 (by rw [HR1.out.1]; exact hok.2) w
    have R9 := Lib.hid r9
    have HBY : Hid (∀ x ∈ F ++ bs2, x < 256) := fun x h => by
      rcases List.mem_append.1 h with h | h
      · exact hx x h
      · exact HR2.out.2.1 x h
    have HQ : Hid (([] : List Nat).length + q ≤ 140737488355328) := by show 0 + q ≤ _; omega
    have HQ2 : Hid (F.length + len2 ≤ 140737488355328) := by show F.length + len2 ≤ _; have := HL.out; omega
    clear hok o1 hx hwr hF hFl hc9 hm9 r9 hq hk0 hk N1 N2 N3
    go_upto_region 3 with fail
    have O0 : Hid (OutIs w1.heap.size (w1.alloc (.cells #[] 5)) (.slice (some ⟨w1.heap.size, 0, none⟩) 0 0) []) := OutIs.laid w1 [] w1.heap.size (Nat.le_refl _) (by decide)
    have B5 : Hid (Below w1.heap.size w1 (w1.alloc (.cells #[] 5))) := (Below.refl _ _).alloc (Nat.le_refl _) _
    have R5 := Lib.hid (R9.out.below B5.out)
    refine wp_region_lit ?_
    go_wp2_with (first | (at_builtin; refine wpList_append_row_any (B := w1.heap.size) (W := w1) rfl (.tmp 31) (.tmp 32) rfl rfl rfl rfl O0.out R5.out B5.out B5.out.size HQ.out ?_; intro v6 w6 ho6 hb6; rw [List.nil_append] at ho6; have O6 := Lib.hid ho6; have B6 := Lib.hid hb6; have R6 := Lib.hid ((HR2.out.below B1.out).below hb6); have Z6 : Hid (w1.heap.size ≤ w6.heap.size) := hb6.size; clear ho6 hb6) | (at_builtin; refine wpList_append_row_any (B := w1.heap.size) (W := w1) rfl (.tmp 33) (.tmp 34) rfl rfl rfl rfl O6.out R6.out B6.out Z6.out HQ2.out ?_; intro v7 w7 ho7 hb7; obtain ⟨A7, c7, rfl, hc7, hm7, r7⟩ := ho7.out HBY.out; rw [hlen.out] at hc7 r7 ⊢; have R7 := Lib.hid r7; have B7 := Lib.hid hb7; have H7 := Lib.hid hc7; clear ho7 hb7 hc7 hm7 r7) | fail)
    all_goals
      have A7 := Lib.hid (A1.out.below B7.out)
      refine (HFD.out _ _ _ _ hlen.out.symm H7.out (by have := HQ2.out; have := hlen.out; have := HL.out; omega) R7.out).mono ?_
      rintro e w8 ⟨rfl, b8⟩
      obtain ⟨hst, hA, hb⟩ := four_stored w8 C hCl hCo
      have A8 := Lib.hid ((A7.out.below b8).below hb)
      have G8 := Lib.hid hA
      have B8 := Lib.hid (below_both (below_both (below_both B1.out B7.out) b8) hb)
      clear b8 hA hb
      go_upto_region 4 with fail
      clear hst
      obtain ⟨V8, eV⟩ : ∃ V, V = (w8.alloc (.cells #[.int .i64 0, .int .i64 0, .int .i64 0, .int .i64 0, .int .i64 0, .int .i64 0, .int .i64 0, .int .i64 0, .int .i64 0, .int .u8 0, .int .u8 0, .int .u8 0, .int .u8 0, .int .u8 0, .int .u8 0, .int .u8 0, .int .u8 0] 25)).setCells w8.heap.size 0 C := ⟨_, rfl⟩
      rw [← eV] at A8 G8 B8 ⊢
      clear eV
      refine wp_region_lit ?_
      have z0 := (A8.out.get 0).trans C0.out
      have heq := HEQ.out
      have hne : ((q : Int) != 4 * (k : Int)) = false := by rw [hqk]; simp
      go_wp2_with (first | refine wpList_load_v rfl 25 (.tmp 9) rfl _ rfl tyfour G8.out hCl ?_ | refine wpList_load_v rfl 25 (.tmp 3) rfl _ rfl tyfour A8.out hCl ?_ | fail)
      have BX := Lib.hid B8.out
      clear B8 A8 G8 z0 heq hne B7 R7 H7 A7
      refine (CR.out _ (HR2.out.below BX.out)).mono ?_
      rintro e w11 ⟨rfl, b11⟩
      obtain ⟨hst, hA, hb⟩ := four_stored w11 X hXl hXo
      have AX := Lib.hid hA
      have BX := Lib.hid (below_both (below_both BX.out b11) hb)
      clear b11 hA hb
      go_upto_region 7 with fail
      clear hst
      obtain ⟨VX, eV⟩ : ∃ V, V = (w11.alloc (.cells #[.int .i64 0, .int .i64 0, .int .i64 0, .int .i64 0, .int .i64 0, .int .i64 0, .int .i64 0, .int .i64 0, .int .i64 0, .int .u8 0, .int .u8 0, .int .u8 0, .int .u8 0, .int .u8 0, .int .u8 0, .int .u8 0, .int .u8 0] 25)).setCells w11.heap.size 0 X := ⟨_, rfl⟩
      rw [← eV] at AX BX ⊢
      clear eV
      by_cases hd : d ≠ 0
      · have hCS := Lib.hid (CSB.out hd)
        have hd0 : ((d : Int) != 0) = true := bne_iff_ne.2 (by omega)
        clear hd CSB CSG
        go_wp2_with fail
        refine (hCS.out _ (HR2.out.below BX.out)).mono ?_
        rintro e w12 ⟨rfl, b12⟩
        have BX := Lib.hid (below_both BX.out b12)
        clear b12
        go_wp2_with fail
        refine (live10 _).mono ?_
        rintro e w13 ⟨rfl, b13⟩
        have BX := Lib.hid (below_both BX.out b13)
        clear b13
        go_wp2_with fail
        go_ret
        exact ⟨rfl, BX.out⟩
      · obtain rfl : d = 0 := Decidable.of_not_not hd
        obtain ⟨y, m, S, hY⟩ := CSG.out rfl
        obtain ⟨y5, y15, hm, hmn, X0, X8, hSl, hCS, hCW, ⟨Y, hYl, hYo, hYX, ⟨v8, hY8⟩, hCZ⟩, ⟨L, hL9, hL5, hCL⟩, hSb, hSame, hEq⟩ := hY
        have HCS := Lib.hid hCS
        have HCW := Lib.hid hCW
        have HCZ := Lib.hid hCZ
        have HCLL := Lib.hid hCL
        have HSB := Lib.hid hSb
        have HSM := Lib.hid hSame
        have HEQX := Lib.hid hEq
        have HX0 := Lib.hid X0
        have HX8 := Lib.hid X8
        have HY8 := Lib.hid hY8
        have HYX := Lib.hid hYX
        have HL9 := Lib.hid hL9
        have HL5 := Lib.hid hL5
        have HSL := Lib.hid hSl
        have HM := Lib.hid (And.intro hm (And.intro hmn (And.intro y5 y15)))
        have y5I : (5 : Int) ≤ (y : Int) := by omega
        have y15I : (y : Int) ≤ 15 := by omega
        have ymI : 4 * (y : Int) ≤ (len2 : Int) := by omega
        have x0 := (AX.out.get 0).trans X0
        clear hCS hCW hCZ hCL hSb hSame hEq X0 X8 hY8 hYX hL9 hL5 hm hmn y5 y15 hd CSB CSG hSl
        go_wp2_with fail
        refine (HCS.out _ (HR2.out.below BX.out)).mono ?_
        rintro e w12 ⟨vs, rfl, os, b12⟩
        obtain ⟨As, cs, rfl, hcs, hms, rs⟩ := os.out HSB.out
        rw [HSL.out] at hcs rs ⊢
        have AX2 := Lib.hid (AX.out.below b12)
        have x0 := (AX2.out.get 0).trans HX0.out
        have BX := Lib.hid (below_both BX.out b12)
        have RS := Lib.hid rs
        have HCS2 := Lib.hid hcs
        clear os b12 hcs hms rs
        go_upto_region 12 with fail
        obtain ⟨b, o, e2, _, _⟩ := HR2.out.addr (by have := HM.out; omega)
        subst e2
        have c20I : (20 : Int) ≤ (cap2 : Int) := by have := HM.out; have := HL.out; omega
        have m20I : (20 : Int) ≤ 4 * (y : Int) := by omega
        have mcI : 4 * (y : Int) ≤ (cap2 : Int) := by have := HL.out; omega
        have sI : (4 * (y : Int) - 20).toNat = m - 20 := by have := HM.out; omega
        have sI2 : ((cap2 : Int) - 20).toNat = cap2 - 20 := by omega
        have x0d : w12.drew.cell? ⟨w11.heap.size, 0, none⟩ = some (.int .i64 (y : Nat)) := x0
        have R12 : Hid (Row w12 (some ⟨b, o, none⟩) len2 bs2) := HR2.out.below BX.out
        have HP := Lib.hid (row_piece (w := w12.drew) (c := cap2) m (show Row w12.drew _ _ _ from R12.out) (show 20 ≤ m by have := HM.out; omega) (by have := HM.out; omega) (by have := HL.out; omega))
        go_cut [15, 16] from 76 to 96 (fun p q wx => q = .int .i64 0 ∧ OutIs w12.heap.size wx p (bs2.take m) ∧ Below w12.heap.size w12 wx)
        case first =>
          by_cases hc20 : cap2 = 20
          · have hm20 : m = 20 := by have := HM.out; have := HL.out; omega
            have hl20 : len2 = 20 := by have := HM.out; have := HL.out; omega
            have hy5 : y = 5 := by have := HM.out; omega
            subst hc20 hm20 hl20 hy5
            rw [if_pos rfl] at HP
            have w20 : IntKind.i64.wrap 20 = 20 := by decide
            refine wp_region_still_call 6 _ (by kernel_rfl) (by kernel_rfl) rfl ?_
            simp only [List.take_succ_cons, List.take_zero]
            refine wpStill_load_v rfl 25 (.tmp 11) rfl _ rfl tyfour AX2.out hXl ?_
            repeat still_step
            refine wpStill_nil ?_
            go_wp2_with fail
            refine (HCW.out _ _ _ HP.out).mono ?_
            rintro e w13 ⟨vw, rfl, ow, b13⟩
            have b14 : Below w12.heap.size w12 w13 := below_both (Below.refl w12.heap.size w12).drew b13
            go_wp2_with fail
            simp only [onlyN, List.drop_succ_cons, List.drop_zero]
            repeat still_step
            refine wpStill_nil ?_
            simp only [Exit.then]
            go_wp2_with fail
            go_meet
            case rel => exact ⟨rfl, ow, b14⟩
          · rw [if_neg hc20] at HP
            have e4 : 4 * (y : Int) = (m : Int) := by have := HM.out; omega
            have k1 : (20 : Int) ≤ (m : Int) := by have := HM.out; omega
            have k2 : (m : Int) ≤ (cap2 : Int) := by have := HM.out; have := HL.out; omega
            have k3 : 20 ≤ m := by omega
            have k4 : m ≤ cap2 := by omega
            have k5 : ((m : Int) - 20).toNat = m - 20 := by omega
            have k6 : 20 ≤ cap2 := by omega
            have k7 : IntKind.i64.wrap (m : Int) = (m : Int) := IntWalk.i64_in _ (by have := HL.out; omega)
            have k8 : (20 : Int) ≤ max (m : Int) 0 := by omega
            refine wp_region_still_call 6 _ (by kernel_rfl) (by kernel_rfl) rfl ?_
            simp only [List.take_succ_cons, List.take_zero]
            refine wpStill_load_v rfl 25 (.tmp 11) rfl _ rfl tyfour AX2.out hXl ?_
            repeat still_step
            refine wpStill_nil ?_
            go_wp2_with fail
            refine (HCW.out _ _ _ HP.out).mono ?_
            rintro e w13 ⟨vw, rfl, ow, b13⟩
            have b14 : Below w12.heap.size w12 w13 := below_both (Below.refl w12.heap.size w12).drew b13
            go_wp2_with fail
            simp only [onlyN, List.drop_succ_cons, List.drop_zero]
            repeat still_step
            refine wpStill_nil ?_
            simp only [Exit.then]
            go_wp2_with fail
            go_meet
            case rel => exact ⟨rfl, ow, b14⟩
        case rest =>
          obtain ⟨rfl, ow, b13⟩ := hcut
          have hml : (bs2.take m).length = m := by rw [List.length_take, R12.out.1]; have := HM.out; omega
          obtain ⟨Aw, cw, rfl, hcw, hmw, rw13⟩ := ow.out (fun x hx => R12.out.2.1 x (List.mem_of_mem_take hx))
          rw [hml] at hcw rw13 ⊢
          have AX3 := Lib.hid (AX2.out.below b13)
          have BX := Lib.hid (below_both BX.out b13)
          have RS := Lib.hid (RS.out.below b13)
          have R13 := Lib.hid (R12.out.below b13)
          have V13 : Hid (ByteVal wc (.slice Aw m cw) (bs2.take m)) := ⟨Aw, cw, by rw [hml], by rw [hml]; exact hcw, by rw [hml]; exact rw13⟩
          have V13b : Hid (ByteVal wc (.slice (some ⟨b, o, none⟩) m cap2) (bs2.take m)) := by
            have hp := R13.out.part 0 m (by have := HM.out; omega)
            rw [List.drop_zero, Nat.add_zero] at hp
            exact ⟨_, cap2, by rw [hml], by rw [hml]; have := HM.out; have := HL.out; omega, by rw [hml]; exact hp⟩
          have hml9 : Hid ((bs2.take m).length ≤ 9223372036854775807) := by show (bs2.take m).length ≤ _; rw [hml]; have := HM.out; omega
          have x0 := (AX3.out.get 0).trans HX0.out
          have e4 : 4 * (y : Int) = (m : Int) := by have := HM.out; omega
          have k2 : (m : Int) ≤ (cap2 : Int) := by have := HM.out; have := HL.out; omega
          have k1 : (0 : Int) ≤ (m : Int) := by omega
          clear ow b13 hcw hmw rw13 hml HP x0d R12
          go_wp2_with fail
          refine (same_vals _ _ _ _ hml9.out V13.out V13b.out).mono ?_
          rintro e w14 ⟨rfl, b14⟩
          have AX4 := Lib.hid (AX3.out.below b14)
          have BX := Lib.hid (below_both BX.out b14)
          have RS := Lib.hid (RS.out.below b14)
          have R14 := Lib.hid (R13.out.below b14)
          clear b14 V13 V13b AX2 AX3 x0
          go_wp2_with fail
          refine (HCZ.out _ _ _ HCS2.out RS.out).mono ?_
          rintro e w15 ⟨rfl, b15⟩
          obtain ⟨hst, hA, hb⟩ := four_stored w15 Y hYl hYo
          have AX5 := Lib.hid ((AX4.out.below b15).below hb)
          have AZ := Lib.hid hA
          have hwz : w.heap.size ≤ w15.heap.size := (below_both BX.out b15).size
          have RSS := RS
          have BX := Lib.hid (below_both (below_both BX.out b15) hb)
          have RS := Lib.hid ((RS.out.below b15).below hb)
          have R15 := Lib.hid ((R14.out.below b15).below hb)
          have hgz : w11.heap.size < w15.heap.size := (AX4.out.below b15).lt
          have hbz : b < w15.heap.size := by
            obtain ⟨b', o', e', hlt, _⟩ := (R14.out.below b15).addr (by have := HM.out; omega)
            cases e'
            exact hlt
          obtain ⟨sb, so, eS, hsz, _⟩ := (RSS.out.below b15).addr (by have := HM.out; omega)
          subst eS
          clear b15 hA hb AX4 R14 R13
          go_upto_region 16 with fail
          clear hst
          obtain ⟨VZ, eV⟩ : ∃ V, V = (w15.alloc (.cells #[.int .i64 0, .int .i64 0, .int .i64 0, .int .i64 0, .int .i64 0, .int .i64 0, .int .i64 0, .int .i64 0, .int .i64 0, .int .u8 0, .int .u8 0, .int .u8 0, .int .u8 0, .int .u8 0, .int .u8 0, .int .u8 0, .int .u8 0] 25)).setCells w15.heap.size 0 Y := ⟨_, rfl⟩
          rw [← eV] at AX5 AZ BX RS R15 ⊢
          obtain ⟨gz, egz⟩ : ∃ g, g = w15.heap.size := ⟨_, rfl⟩
          rw [← egz] at AZ hgz hbz hwz hsz ⊢
          obtain ⟨gx, egx⟩ : ∃ g, g = w11.heap.size := ⟨_, rfl⟩
          rw [← egx] at AX5 hgz ⊢
          clear eV egz egx
          have x8 := (AX5.out.get 8).trans HX8.out
          have z8 := (AZ.out.get 8).trans HY8.out
          have f8 := AZ.out.frozen 8
          obtain ⟨p, hp⟩ : ∃ p, p = fhw bs2 10 := ⟨_, rfl⟩
          rw [← hp] at x8 HYX
          obtain ⟨U, eU⟩ : ∃ U, U = VZ.setCell ⟨gz, 8, none⟩ (.int .i64 (p : Nat)) := ⟨_, rfl⟩
          have AZU : Hid (ArrV 25 U gz X) := by
            show ArrV _ _ _ _
            have h := AZ.out.set 8 (.int .i64 (p : Nat))
            rw [HYX.out, ← eU] at h
            exact h
          have AXU : Hid (ArrV 25 U gx X) := by
            show ArrV _ _ _ _
            rw [eU]
            exact AX5.out.other _ _ (by show gz ≠ gx; omega)
          have BU : Hid (Below w.heap.size w U) := by
            show Below _ _ _
            rw [eU]
            exact BX.out.setCell (p := ⟨gz, 8, none⟩) hwz _
          have RSU : Hid (∀ k, k < len2 → k ≠ 10 → k ≠ 11 → ∀ W, Below U.heap.size U W → ∃ x : Nat, W.cell? ⟨sb, so + k, none⟩ = some (.int .u8 (x : Nat)) ∧ W.cell? ⟨b, o + k, none⟩ = some (.int .u8 (x : Nat))) := fun k hk h1 h2 W hW => by
            obtain ⟨b1, o1, e1, _, q1⟩ := RS.out.addr (by omega)
            cases e1
            obtain ⟨b2, o2, e2, _, q2⟩ := R15.out.addr (by omega)
            cases e2
            have r1 : U.cell? ⟨sb, so + k, none⟩ = some (.int .u8 (bs2.getD k 0 : Nat)) := by rw [eU, cell_far _ _ _ _ (show gz ≠ sb by omega), q1 k hk, HSM.out k h1 h2]
            have r2 : U.cell? ⟨b, o + k, none⟩ = some (.int .u8 (bs2.getD k 0 : Nat)) := by rw [eU, cell_far _ _ _ _ (show gz ≠ b by omega), q2 k hk]
            exact ⟨_, (hW.cell (p := ⟨sb, so + k, none⟩) (cell_lt r1)).trans r1, (hW.cell (p := ⟨b, o + k, none⟩) (cell_lt r2)).trans r2⟩
          have RSU2 : Hid (Row U (some ⟨sb, so, none⟩) len2 S) := by
            refine ⟨RS.out.1, RS.out.2.1, fun k hk => ⟨sb, so, rfl, ?_⟩⟩
            obtain ⟨b1, o1, e1, _, q1⟩ := RS.out.addr (by omega)
            cases e1
            rw [eU, cell_far _ _ _ _ (show gz ≠ sb by omega), q1 k hk]
          clear hp
          go_upto_region 17 with fail
          rw [← eU]
          clear eU x8 z8 f8 AX5 AZ BX RS R15 hgz hbz hwz hsz
          go_wp2_with fail
          go_loopw [19] (fun i W => ∃ k : Nat, k ≤ len2 ∧ i = .int .i64 k ∧ Below U.heap.size U W) (fun i W => len2 - (intOf i).toNat)
          case atStart => exact ⟨0, Nat.zero_le _, rfl, Below.refl _ _⟩
          case round =>
            obtain ⟨k, hk, rfl, hW⟩ := hrel
            have HW := Lib.hid hW
            have hkc : (k : Int) ≤ 140737488351232 := by have := HL.out; omega
            by_cases hlt : k < len2
            · have i2 : (k : Int) < (len2 : Int) := by omega
              have HK := Lib.hid (And.intro hk hlt)
              by_cases h10 : k = 10
              · subst h10
                clear hW hk hlt
                go_upto_region 20 with fail
                go_region
                all_goals
                  go_wp2_with fail
                  go_roundw
                  case rel => exact ⟨11, HK.out.2, by go_num, HW.out.drew⟩
                  case measure => have := HK.out; simp [intOf]; omega
              · by_cases h11 : k = 11
                · subst h11
                  clear hW hk hlt
                  go_upto_region 20 with fail
                  go_region
                  all_goals
                    go_wp2_with fail
                    go_roundw
                    case rel => exact ⟨12, HK.out.2, by go_num, HW.out.drew⟩
                    case measure => have := HK.out; simp [intOf]; omega
                · obtain ⟨x, q1, q2⟩ := RSU.out k hlt h10 h11 wr hW
                  have n10 : ((k : Int) != 10) = true := bne_iff_ne.2 (by omega)
                  have n11 : ((k : Int) != 11) = true := bne_iff_ne.2 (by omega)
                  have n10' : ¬ ((k : Int) = 10) := by omega
                  have n11' : ¬ ((k : Int) = 11) := by omega
                  have nxx : ((x : Int) != (x : Int)) = false := by simp
                  clear hW hk hlt h10 h11
                  go_upto_region 20 with fail
                  go_region
                  all_goals
                    go_wp2_with fail
                    go_roundw
                    case rel => exact ⟨k + 1, HK.out.2, by go_num, HW.out.drew⟩
                    case measure => have := HK.out; simp [intOf]; omega
            · obtain rfl : k = len2 := by omega
              have hkN : ¬ ((k : Int) < (k : Int)) := by omega
              have BX := Lib.hid (below_both BU.out hW)
              have AZ := Lib.hid (AZU.out.below hW)
              have AX := Lib.hid (AXU.out.below hW)
              have RS := Lib.hid (RSU2.out.below hW)
              clear hW hk hlt BU AZU AXU RSU2 RSU HW
              obtain ⟨n9, hn9⟩ : ∃ n, n = L.length := ⟨_, rfl⟩
              have HN9 := Lib.hid hn9
              clear hn9
              go_wp2_with fail
              refine (HCLL.out _ _ _ HCS2.out RS.out).mono ?_
              rintro e w16 ⟨v16, rfl, ⟨Al, cl, rfl, hcl, hcelll⟩, b16⟩
              have D16 : Hid (∀ W, Below w16.heap.size w16 W → ∀ i x, L[i]? = some x → ∃ b o, Al = some ⟨b, o, none⟩ ∧ W.cell? ⟨b, o + i, none⟩ = some (.int .i64 (x : Nat))) := fun W hW i x hx => by
                obtain ⟨b, o, e, hlt, hc⟩ := hcelll i x hx
                exact ⟨b, o, e, (hW.cell (p := ⟨b, o + i, none⟩) hlt).trans hc⟩
              rw [← HN9.out]
              have BX := Lib.hid (below_both BX.out b16)
              have AZ := Lib.hid (AZ.out.below b16)
              have AX := Lib.hid (AX.out.below b16)
              clear b16 hcl hcelll
              go_wp2_with fail
              go_loopw [21] (fun i W => ∃ j : Nat, j ≤ n9 ∧ i = .int .i64 j ∧ Below w16.heap.size w16 W) (fun i W => n9 - (intOf i).toNat)
              case atStart => exact ⟨0, Nat.zero_le _, rfl, Below.refl _ _⟩
              case round =>
                obtain ⟨j, hj, rfl, hW⟩ := hrel
                have HW := Lib.hid hW
                have hj5 : (j : Int) ≤ 5 := by have := HL5.out; have := HN9.out; omega
                by_cases hlt : j < n9
                · have hjl : j < L.length := by rw [← HN9.out]; exact hlt
                  obtain ⟨x, hx⟩ : ∃ x, L[j]? = some x := ⟨_, List.getElem?_eq_getElem hjl⟩
                  obtain ⟨lb, lo, e1, q1⟩ := D16.out wr hW j x hx
                  subst e1
                  have hx9 : x ≠ 9 := HL9.out x (List.mem_of_getElem? hx)
                  have hx9b : ((x : Int) == 9) = false := by simp; omega
                  have i2 : (j : Int) < (n9 : Int) := by omega
                  have HK := Lib.hid (And.intro hj hlt)
                  clear hW hj hlt hjl hx hx9
                  go_wp2_with fail
                  go_roundw
                  case rel => exact ⟨j + 1, HK.out.2, by go_num, HW.out⟩
                  case measure => have := HK.out; simp [intOf]; omega
                · obtain rfl : j = n9 := by omega
                  have hjN : ¬ ((j : Int) < (j : Int)) := by omega
                  have BX := Lib.hid (below_both BX.out hW)
                  have AZ := Lib.hid (AZ.out.below hW)
                  have AX := Lib.hid (AX.out.below hW)
                  clear hW hj hlt HW
                  go_upto_region 28 with fail
                  refine wp_region_lit ?_
                  have heq := HEQX.out
                  go_wp2_with fail
                  refine (live10 _).mono ?_
                  rintro e w17 ⟨rfl, b17⟩
                  have BX := Lib.hid (below_both BX.out b17)
                  have AZ := Lib.hid (AZ.out.below b17)
                  have AX := Lib.hid (AX.out.below b17)
                  clear b17
                  go_wp2_with (first | refine wpList_load_vg (by rfl) 25 (.tmp 17) rfl _ rfl tyfour AZ.out hXl ?_ | refine wpList_load_vg (by rfl) 25 (.tmp 11) rfl _ rfl tyfour AX.out hXl ?_ | fail)
                  go_ret
                  exact ⟨rfl, BX.out⟩
  · have hret : ∃ E : Int, E ≠ 0 ∧ e = .returned (.tuple #[.slice none 0 0, .int .i64 E]) := by
      by_cases h1 : f.fits
      · exact ⟨2, by decide, N2.out h1 (fun h => hok ⟨h1, h⟩)⟩
      · exact ⟨1, by decide, N1.out h1⟩
    obtain ⟨E, hE, rfl⟩ := hret
    have hEb : (E == 0) = false := by simp [hE]
    have BX := Lib.hid B1.out
    clear hok N1 N2 N3 hE A1 B1
    go_wp2_with fail
    refine (CR.out _ (HR2.out.below BX.out)).mono ?_
    rintro e w11 ⟨rfl, b11⟩
    obtain ⟨hst, hA, hb⟩ := four_stored w11 X hXl hXo
    have AX := Lib.hid hA
    have BX := Lib.hid (below_both (below_both BX.out b11) hb)
    clear b11 hA hb
    go_upto_region 7 with fail
    clear hst
    obtain ⟨VX, eV⟩ : ∃ V, V = (w11.alloc (.cells #[.int .i64 0, .int .i64 0, .int .i64 0, .int .i64 0, .int .i64 0, .int .i64 0, .int .i64 0, .int .i64 0, .int .i64 0, .int .u8 0, .int .u8 0, .int .u8 0, .int .u8 0, .int .u8 0, .int .u8 0, .int .u8 0, .int .u8 0] 25)).setCells w11.heap.size 0 X := ⟨_, rfl⟩
    rw [← eV] at AX BX ⊢
    clear eV
    by_cases hd : d ≠ 0
    · have hCS := Lib.hid (CSB.out hd)
      have hd0 : ((d : Int) != 0) = true := bne_iff_ne.2 (by omega)
      clear hd CSB CSG
      go_wp2_with fail
      refine (hCS.out _ (HR2.out.below BX.out)).mono ?_
      rintro e w12 ⟨rfl, b12⟩
      have BX := Lib.hid (below_both BX.out b12)
      clear b12
      go_wp2_with fail
      refine (live10 _).mono ?_
      rintro e w13 ⟨rfl, b13⟩
      have BX := Lib.hid (below_both BX.out b13)
      clear b13
      go_wp2_with fail
      go_ret
      exact ⟨rfl, BX.out⟩
    · obtain rfl : d = 0 := Decidable.of_not_not hd
      obtain ⟨y, m, S, hY⟩ := CSG.out rfl
      obtain ⟨y5, y15, hm, hmn, X0, X8, hSl, hCS, hCW, ⟨Y, hYl, hYo, hYX, ⟨v8, hY8⟩, hCZ⟩, ⟨L, hL9, hL5, hCL⟩, hSb, hSame, hEq⟩ := hY
      have HCS := Lib.hid hCS
      have HCW := Lib.hid hCW
      have HCZ := Lib.hid hCZ
      have HCLL := Lib.hid hCL
      have HSB := Lib.hid hSb
      have HSM := Lib.hid hSame
      have HEQX := Lib.hid hEq
      have HX0 := Lib.hid X0
      have HX8 := Lib.hid X8
      have HY8 := Lib.hid hY8
      have HYX := Lib.hid hYX
      have HL9 := Lib.hid hL9
      have HL5 := Lib.hid hL5
      have HSL := Lib.hid hSl
      have HM := Lib.hid (And.intro hm (And.intro hmn (And.intro y5 y15)))
      have y5I : (5 : Int) ≤ (y : Int) := by omega
      have y15I : (y : Int) ≤ 15 := by omega
      have ymI : 4 * (y : Int) ≤ (len2 : Int) := by omega
      have x0 := (AX.out.get 0).trans X0
      clear hCS hCW hCZ hCL hSb hSame hEq X0 X8 hY8 hYX hL9 hL5 hm hmn y5 y15 hd CSB CSG hSl
      go_wp2_with fail
      refine (HCS.out _ (HR2.out.below BX.out)).mono ?_
      rintro e w12 ⟨vs, rfl, os, b12⟩
      obtain ⟨As, cs, rfl, hcs, hms, rs⟩ := os.out HSB.out
      rw [HSL.out] at hcs rs ⊢
      have AX2 := Lib.hid (AX.out.below b12)
      have x0 := (AX2.out.get 0).trans HX0.out
      have BX := Lib.hid (below_both BX.out b12)
      have RS := Lib.hid rs
      have HCS2 := Lib.hid hcs
      clear os b12 hcs hms rs
      go_upto_region 12 with fail
      obtain ⟨b, o, e2, _, _⟩ := HR2.out.addr (by have := HM.out; omega)
      subst e2
      have c20I : (20 : Int) ≤ (cap2 : Int) := by have := HM.out; have := HL.out; omega
      have m20I : (20 : Int) ≤ 4 * (y : Int) := by omega
      have mcI : 4 * (y : Int) ≤ (cap2 : Int) := by have := HL.out; omega
      have sI : (4 * (y : Int) - 20).toNat = m - 20 := by have := HM.out; omega
      have sI2 : ((cap2 : Int) - 20).toNat = cap2 - 20 := by omega
      have x0d : w12.drew.cell? ⟨w11.heap.size, 0, none⟩ = some (.int .i64 (y : Nat)) := x0
      have R12 : Hid (Row w12 (some ⟨b, o, none⟩) len2 bs2) := HR2.out.below BX.out
      have HP := Lib.hid (row_piece (w := w12.drew) (c := cap2) m (show Row w12.drew _ _ _ from R12.out) (show 20 ≤ m by have := HM.out; omega) (by have := HM.out; omega) (by have := HL.out; omega))
      go_cut [15, 16] from 76 to 96 (fun p q wx => q = .int .i64 0 ∧ OutIs w12.heap.size wx p (bs2.take m) ∧ Below w12.heap.size w12 wx)
      case first =>
        by_cases hc20 : cap2 = 20
        · have hm20 : m = 20 := by have := HM.out; have := HL.out; omega
          have hl20 : len2 = 20 := by have := HM.out; have := HL.out; omega
          have hy5 : y = 5 := by have := HM.out; omega
          subst hc20 hm20 hl20 hy5
          rw [if_pos rfl] at HP
          have w20 : IntKind.i64.wrap 20 = 20 := by decide
          refine wp_region_still_call 6 _ (by kernel_rfl) (by kernel_rfl) rfl ?_
          simp only [List.take_succ_cons, List.take_zero]
          refine wpStill_load_v rfl 25 (.tmp 11) rfl _ rfl tyfour AX2.out hXl ?_
          repeat still_step
          refine wpStill_nil ?_
          go_wp2_with fail
          refine (HCW.out _ _ _ HP.out).mono ?_
          rintro e w13 ⟨vw, rfl, ow, b13⟩
          have b14 : Below w12.heap.size w12 w13 := below_both (Below.refl w12.heap.size w12).drew b13
          go_wp2_with fail
          simp only [onlyN, List.drop_succ_cons, List.drop_zero]
          repeat still_step
          refine wpStill_nil ?_
          simp only [Exit.then]
          go_wp2_with fail
          go_meet
          case rel => exact ⟨rfl, ow, b14⟩
        · rw [if_neg hc20] at HP
          have e4 : 4 * (y : Int) = (m : Int) := by have := HM.out; omega
          have k1 : (20 : Int) ≤ (m : Int) := by have := HM.out; omega
          have k2 : (m : Int) ≤ (cap2 : Int) := by have := HM.out; have := HL.out; omega
          have k3 : 20 ≤ m := by omega
          have k4 : m ≤ cap2 := by omega
          have k5 : ((m : Int) - 20).toNat = m - 20 := by omega
          have k6 : 20 ≤ cap2 := by omega
          have k7 : IntKind.i64.wrap (m : Int) = (m : Int) := IntWalk.i64_in _ (by have := HL.out; omega)
          have k8 : (20 : Int) ≤ max (m : Int) 0 := by omega
          refine wp_region_still_call 6 _ (by kernel_rfl) (by kernel_rfl) rfl ?_
          simp only [List.take_succ_cons, List.take_zero]
          refine wpStill_load_v rfl 25 (.tmp 11) rfl _ rfl tyfour AX2.out hXl ?_
          repeat still_step
          refine wpStill_nil ?_
          go_wp2_with fail
          refine (HCW.out _ _ _ HP.out).mono ?_
          rintro e w13 ⟨vw, rfl, ow, b13⟩
          have b14 : Below w12.heap.size w12 w13 := below_both (Below.refl w12.heap.size w12).drew b13
          go_wp2_with fail
          simp only [onlyN, List.drop_succ_cons, List.drop_zero]
          repeat still_step
          refine wpStill_nil ?_
          simp only [Exit.then]
          go_wp2_with fail
          go_meet
          case rel => exact ⟨rfl, ow, b14⟩
      case rest =>
        obtain ⟨rfl, ow, b13⟩ := hcut
        have hml : (bs2.take m).length = m := by rw [List.length_take, R12.out.1]; have := HM.out; omega
        obtain ⟨Aw, cw, rfl, hcw, hmw, rw13⟩ := ow.out (fun x hx => R12.out.2.1 x (List.mem_of_mem_take hx))
        rw [hml] at hcw rw13 ⊢
        have AX3 := Lib.hid (AX2.out.below b13)
        have BX := Lib.hid (below_both BX.out b13)
        have RS := Lib.hid (RS.out.below b13)
        have R13 := Lib.hid (R12.out.below b13)
        have V13 : Hid (ByteVal wc (.slice Aw m cw) (bs2.take m)) := ⟨Aw, cw, by rw [hml], by rw [hml]; exact hcw, by rw [hml]; exact rw13⟩
        have V13b : Hid (ByteVal wc (.slice (some ⟨b, o, none⟩) m cap2) (bs2.take m)) := by
          have hp := R13.out.part 0 m (by have := HM.out; omega)
          rw [List.drop_zero, Nat.add_zero] at hp
          exact ⟨_, cap2, by rw [hml], by rw [hml]; have := HM.out; have := HL.out; omega, by rw [hml]; exact hp⟩
        have hml9 : Hid ((bs2.take m).length ≤ 9223372036854775807) := by show (bs2.take m).length ≤ _; rw [hml]; have := HM.out; omega
        have x0 := (AX3.out.get 0).trans HX0.out
        have e4 : 4 * (y : Int) = (m : Int) := by have := HM.out; omega
        have k2 : (m : Int) ≤ (cap2 : Int) := by have := HM.out; have := HL.out; omega
        have k1 : (0 : Int) ≤ (m : Int) := by omega
        clear ow b13 hcw hmw rw13 hml HP x0d R12
        go_wp2_with fail
        refine (same_vals _ _ _ _ hml9.out V13.out V13b.out).mono ?_
        rintro e w14 ⟨rfl, b14⟩
        have AX4 := Lib.hid (AX3.out.below b14)
        have BX := Lib.hid (below_both BX.out b14)
        have RS := Lib.hid (RS.out.below b14)
        have R14 := Lib.hid (R13.out.below b14)
        clear b14 V13 V13b AX2 AX3 x0
        go_wp2_with fail
        refine (HCZ.out _ _ _ HCS2.out RS.out).mono ?_
        rintro e w15 ⟨rfl, b15⟩
        obtain ⟨hst, hA, hb⟩ := four_stored w15 Y hYl hYo
        have AX5 := Lib.hid ((AX4.out.below b15).below hb)
        have AZ := Lib.hid hA
        have hwz : w.heap.size ≤ w15.heap.size := (below_both BX.out b15).size
        have RSS := RS
        have BX := Lib.hid (below_both (below_both BX.out b15) hb)
        have RS := Lib.hid ((RS.out.below b15).below hb)
        have R15 := Lib.hid ((R14.out.below b15).below hb)
        have hgz : w11.heap.size < w15.heap.size := (AX4.out.below b15).lt
        have hbz : b < w15.heap.size := by
          obtain ⟨b', o', e', hlt, _⟩ := (R14.out.below b15).addr (by have := HM.out; omega)
          cases e'
          exact hlt
        obtain ⟨sb, so, eS, hsz, _⟩ := (RSS.out.below b15).addr (by have := HM.out; omega)
        subst eS
        clear b15 hA hb AX4 R14 R13
        go_upto_region 16 with fail
        clear hst
        obtain ⟨VZ, eV⟩ : ∃ V, V = (w15.alloc (.cells #[.int .i64 0, .int .i64 0, .int .i64 0, .int .i64 0, .int .i64 0, .int .i64 0, .int .i64 0, .int .i64 0, .int .i64 0, .int .u8 0, .int .u8 0, .int .u8 0, .int .u8 0, .int .u8 0, .int .u8 0, .int .u8 0, .int .u8 0] 25)).setCells w15.heap.size 0 Y := ⟨_, rfl⟩
        rw [← eV] at AX5 AZ BX RS R15 ⊢
        obtain ⟨gz, egz⟩ : ∃ g, g = w15.heap.size := ⟨_, rfl⟩
        rw [← egz] at AZ hgz hbz hwz hsz ⊢
        obtain ⟨gx, egx⟩ : ∃ g, g = w11.heap.size := ⟨_, rfl⟩
        rw [← egx] at AX5 hgz ⊢
        clear eV egz egx
        have x8 := (AX5.out.get 8).trans HX8.out
        have z8 := (AZ.out.get 8).trans HY8.out
        have f8 := AZ.out.frozen 8
        obtain ⟨p, hp⟩ : ∃ p, p = fhw bs2 10 := ⟨_, rfl⟩
        rw [← hp] at x8 HYX
        obtain ⟨U, eU⟩ : ∃ U, U = VZ.setCell ⟨gz, 8, none⟩ (.int .i64 (p : Nat)) := ⟨_, rfl⟩
        have AZU : Hid (ArrV 25 U gz X) := by
          show ArrV _ _ _ _
          have h := AZ.out.set 8 (.int .i64 (p : Nat))
          rw [HYX.out, ← eU] at h
          exact h
        have AXU : Hid (ArrV 25 U gx X) := by
          show ArrV _ _ _ _
          rw [eU]
          exact AX5.out.other _ _ (by show gz ≠ gx; omega)
        have BU : Hid (Below w.heap.size w U) := by
          show Below _ _ _
          rw [eU]
          exact BX.out.setCell (p := ⟨gz, 8, none⟩) hwz _
        have RSU : Hid (∀ k, k < len2 → k ≠ 10 → k ≠ 11 → ∀ W, Below U.heap.size U W → ∃ x : Nat, W.cell? ⟨sb, so + k, none⟩ = some (.int .u8 (x : Nat)) ∧ W.cell? ⟨b, o + k, none⟩ = some (.int .u8 (x : Nat))) := fun k hk h1 h2 W hW => by
          obtain ⟨b1, o1, e1, _, q1⟩ := RS.out.addr (by omega)
          cases e1
          obtain ⟨b2, o2, e2, _, q2⟩ := R15.out.addr (by omega)
          cases e2
          have r1 : U.cell? ⟨sb, so + k, none⟩ = some (.int .u8 (bs2.getD k 0 : Nat)) := by rw [eU, cell_far _ _ _ _ (show gz ≠ sb by omega), q1 k hk, HSM.out k h1 h2]
          have r2 : U.cell? ⟨b, o + k, none⟩ = some (.int .u8 (bs2.getD k 0 : Nat)) := by rw [eU, cell_far _ _ _ _ (show gz ≠ b by omega), q2 k hk]
          exact ⟨_, (hW.cell (p := ⟨sb, so + k, none⟩) (cell_lt r1)).trans r1, (hW.cell (p := ⟨b, o + k, none⟩) (cell_lt r2)).trans r2⟩
        have RSU2 : Hid (Row U (some ⟨sb, so, none⟩) len2 S) := by
          refine ⟨RS.out.1, RS.out.2.1, fun k hk => ⟨sb, so, rfl, ?_⟩⟩
          obtain ⟨b1, o1, e1, _, q1⟩ := RS.out.addr (by omega)
          cases e1
          rw [eU, cell_far _ _ _ _ (show gz ≠ sb by omega), q1 k hk]
        clear hp
        go_upto_region 17 with fail
        rw [← eU]
        clear eU x8 z8 f8 AX5 AZ BX RS R15 hgz hbz hwz hsz
        go_wp2_with fail
        go_loopw [19] (fun i W => ∃ k : Nat, k ≤ len2 ∧ i = .int .i64 k ∧ Below U.heap.size U W) (fun i W => len2 - (intOf i).toNat)
        case atStart => exact ⟨0, Nat.zero_le _, rfl, Below.refl _ _⟩
        case round =>
          obtain ⟨k, hk, rfl, hW⟩ := hrel
          have HW := Lib.hid hW
          have hkc : (k : Int) ≤ 140737488351232 := by have := HL.out; omega
          by_cases hlt : k < len2
          · have i2 : (k : Int) < (len2 : Int) := by omega
            have HK := Lib.hid (And.intro hk hlt)
            by_cases h10 : k = 10
            · subst h10
              clear hW hk hlt
              go_upto_region 20 with fail
              go_region
              all_goals
                go_wp2_with fail
                go_roundw
                case rel => exact ⟨11, HK.out.2, by go_num, HW.out.drew⟩
                case measure => have := HK.out; simp [intOf]; omega
            · by_cases h11 : k = 11
              · subst h11
                clear hW hk hlt
                go_upto_region 20 with fail
                go_region
                all_goals
                  go_wp2_with fail
                  go_roundw
                  case rel => exact ⟨12, HK.out.2, by go_num, HW.out.drew⟩
                  case measure => have := HK.out; simp [intOf]; omega
              · obtain ⟨x, q1, q2⟩ := RSU.out k hlt h10 h11 wr hW
                have n10 : ((k : Int) != 10) = true := bne_iff_ne.2 (by omega)
                have n11 : ((k : Int) != 11) = true := bne_iff_ne.2 (by omega)
                have n10' : ¬ ((k : Int) = 10) := by omega
                have n11' : ¬ ((k : Int) = 11) := by omega
                have nxx : ((x : Int) != (x : Int)) = false := by simp
                clear hW hk hlt h10 h11
                go_upto_region 20 with fail
                go_region
                all_goals
                  go_wp2_with fail
                  go_roundw
                  case rel => exact ⟨k + 1, HK.out.2, by go_num, HW.out.drew⟩
                  case measure => have := HK.out; simp [intOf]; omega
          · obtain rfl : k = len2 := by omega
            have hkN : ¬ ((k : Int) < (k : Int)) := by omega
            have BX := Lib.hid (below_both BU.out hW)
            have AZ := Lib.hid (AZU.out.below hW)
            have AX := Lib.hid (AXU.out.below hW)
            have RS := Lib.hid (RSU2.out.below hW)
            clear hW hk hlt BU AZU AXU RSU2 RSU HW
            obtain ⟨n9, hn9⟩ : ∃ n, n = L.length := ⟨_, rfl⟩
            have HN9 := Lib.hid hn9
            clear hn9
            go_wp2_with fail
            refine (HCLL.out _ _ _ HCS2.out RS.out).mono ?_
            rintro e w16 ⟨v16, rfl, ⟨Al, cl, rfl, hcl, hcelll⟩, b16⟩
            have D16 : Hid (∀ W, Below w16.heap.size w16 W → ∀ i x, L[i]? = some x → ∃ b o, Al = some ⟨b, o, none⟩ ∧ W.cell? ⟨b, o + i, none⟩ = some (.int .i64 (x : Nat))) := fun W hW i x hx => by
              obtain ⟨b, o, e, hlt, hc⟩ := hcelll i x hx
              exact ⟨b, o, e, (hW.cell (p := ⟨b, o + i, none⟩) hlt).trans hc⟩
            rw [← HN9.out]
            have BX := Lib.hid (below_both BX.out b16)
            have AZ := Lib.hid (AZ.out.below b16)
            have AX := Lib.hid (AX.out.below b16)
            clear b16 hcl hcelll
            go_wp2_with fail
            go_loopw [21] (fun i W => ∃ j : Nat, j ≤ n9 ∧ i = .int .i64 j ∧ Below w16.heap.size w16 W) (fun i W => n9 - (intOf i).toNat)
            case atStart => exact ⟨0, Nat.zero_le _, rfl, Below.refl _ _⟩
            case round =>
              obtain ⟨j, hj, rfl, hW⟩ := hrel
              have HW := Lib.hid hW
              have hj5 : (j : Int) ≤ 5 := by have := HL5.out; have := HN9.out; omega
              by_cases hlt : j < n9
              · have hjl : j < L.length := by rw [← HN9.out]; exact hlt
                obtain ⟨x, hx⟩ : ∃ x, L[j]? = some x := ⟨_, List.getElem?_eq_getElem hjl⟩
                obtain ⟨lb, lo, e1, q1⟩ := D16.out wr hW j x hx
                subst e1
                have hx9 : x ≠ 9 := HL9.out x (List.mem_of_getElem? hx)
                have hx9b : ((x : Int) == 9) = false := by simp; omega
                have i2 : (j : Int) < (n9 : Int) := by omega
                have HK := Lib.hid (And.intro hj hlt)
                clear hW hj hlt hjl hx hx9
                go_wp2_with fail
                go_roundw
                case rel => exact ⟨j + 1, HK.out.2, by go_num, HW.out⟩
                case measure => have := HK.out; simp [intOf]; omega
              · obtain rfl : j = n9 := by omega
                have hjN : ¬ ((j : Int) < (j : Int)) := by omega
                have BX := Lib.hid (below_both BX.out hW)
                have AZ := Lib.hid (AZ.out.below hW)
                have AX := Lib.hid (AX.out.below hW)
                clear hW hj hlt HW
                go_upto_region 28 with fail
                refine wp_region_lit ?_
                have heq := HEQX.out
                go_wp2_with fail
                refine (live10 _).mono ?_
                rintro e w17 ⟨rfl, b17⟩
                have BX := Lib.hid (below_both BX.out b17)
                have AZ := Lib.hid (AZ.out.below b17)
                have AX := Lib.hid (AX.out.below b17)
                clear b17
                go_wp2_with (first | refine wpList_load_vg (by rfl) 25 (.tmp 17) rfl _ rfl tyfour AZ.out hXl ?_ | refine wpList_load_vg (by rfl) 25 (.tmp 11) rfl _ rfl tyfour AX.out hXl ?_ | fail)
                go_ret
                exact ⟨rfl, BX.out⟩
end Go.Proofs.Yteldjcdoohafcaa
