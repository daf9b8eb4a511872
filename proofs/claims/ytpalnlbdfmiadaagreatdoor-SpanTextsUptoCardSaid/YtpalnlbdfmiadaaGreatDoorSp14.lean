/-
  Parse.
-/
import Derived.Test.YtpalnlbdfmiadaaGreatDoorSp13
import Derived.Test.YtpalnlbdfmiadaaGreatDoorSpCut
namespace Go.Proofs.YtpalnlbdfmiadaaGreatDoor
open Go.RowKit Go.Shelf Go.Lib Go.Sort
set_option linter.unusedVariables false

/-- Of two numbers' texts. -/
def sparse2 (a b : List UInt8) : Sp × Int := if numOkM 5 a then if numOkM 5 b then if chkS ((numv a : Nat), (numv b : Nat)) = 0 then (((numv a : Nat), (numv b : Nat)), 0) else ((0, 0), chkS ((numv a : Nat), (numv b : Nat))) else ((0, 0), 3) else ((0, 0), 3)
def sparse (l : List UInt8) : Sp × Int := if l = [42] then ((0, 65535), 0) else sparse2 (Lib.cut l [45]).1 (if (Lib.cut l [45]).2.2 then (Lib.cut l [45]).2.1 else (Lib.cut l [45]).1)
theorem num5 {l : List UInt8} (h : numOkM 5 l = true) : numv l ≤ 99999 := by
  simp only [numOkM, Bool.and_eq_true, decide_eq_true_eq] at h
  have h1 := numv_lt l h.2
  have h2 : 10 ^ l.length ≤ 10 ^ 5 := Nat.pow_le_pow_right (by decide) h.1.1.2
  omega
theorem conv5 {n : Nat} (h : n ≤ 99999) : wrap64 (n : Int) = (n : Int) := by unfold wrap64; omega

set_option maxRecDepth 10000 in
set_option maxHeartbeats 3200000 in
theorem sparse_star (w : World) : Calls Tryz.prog 4 #[.string ⟨#[42]⟩] w fun e w' => e = .returned (.tuple #[.agg #[.int .i64 0, .int .i64 65535], .int .i64 0]) ∧ Below w.heap.size w w' := by
  have CA := Lib.hid sall_any
  have S := Lib.hid (SB.new w 0 0)
  have B : Hid (Below w.heap.size w (w.alloc (.cells #[.int .i64 0, .int .i64 0] 23))) := (Below.refl _ _).alloc (Nat.le_refl _) _
  go_enter Tryz.func4, Tryz.ntmps4
  go_wp2_with fail
  refine (CA.out _).mono ?_
  rintro e w1 ⟨rfl, hb⟩
  have B2 := Lib.hid (below_both B.out hb)
  have S2 := Lib.hid (S.out.next hb)
  clear hb
  have hc0 := S2.out.c0; have hc1 := S2.out.c1; have hf0 := S2.out.f 0; have hf1 := S2.out.f 1
  have hr0 := (S2.out.two 0 65535).c0
  have hr1 := (S2.out.two 0 65535).c1
  have B3 := Lib.hid ((B2.out.setCell (p := ⟨w.heap.size, 0, none⟩) (Nat.le_refl _) (.int .i64 0)).setCell (p := ⟨w.heap.size, 1, none⟩) (Nat.le_refl _) (.int .i64 65535))
  go_wp2_with fail
  exact bodyPost_ret (v := .tuple #[.agg #[.int .i64 0, .int .i64 65535], .int .i64 0]) (by simp [results, Tryz.results4, go_sem, hr0, hr1]) rfl ⟨rfl, B3.out⟩

theorem sparse2_ok {a b : List UInt8} (ha : numOkM 5 a = true) (hb : numOkM 5 b = true) : sparse2 a b = if chkS ((numv a : Nat), (numv b : Nat)) = 0 then ((((numv a : Nat) : Int), ((numv b : Nat) : Int)), 0) else ((0, 0), chkS ((numv a : Nat), (numv b : Nat))) := by
  unfold sparse2
  rw [if_pos ha, if_pos hb]
def ParseIs (a b : List UInt8) (w : World) (e : Ending) (w' : World) : Prop := e = .returned (.tuple #[.agg #[.int .i64 (sparse2 a b).1.1, .int .i64 (sparse2 a b).1.2], .int .i64 (sparse2 a b).2]) ∧ Below w.heap.size w w'
set_option maxRecDepth 10000 in
set_option maxHeartbeats 6400000 in
theorem sparse_one (s s1 s2 : ByteArray) (w : World) (hs : (s.toList == [42]) = false) (hT : MaxL w)
    (CU : ∀ w, MaxL w → Calls Tryz.prog 11 #[.string s, .string ⟨#[45]⟩] w fun e w' => e = .returned (.tuple #[.string s1, .string s2, .bool false]) ∧ Below w.heap.size w w') :
    Calls Tryz.prog 4 #[.string s] w fun e w' => e = .returned (.tuple #[.agg #[.int .i64 (sparse2 s1.data.toList s1.data.toList).1.1, .int .i64 (sparse2 s1.data.toList s1.data.toList).1.2], .int .i64 (sparse2 s1.data.toList s1.data.toList).2]) ∧ Below w.heap.size w w' := by
  have HT := Lib.hid hT
  have CU := Lib.hid CU
  have S := Lib.hid (SB.new w 0 0)
  have B : Hid (Below w.heap.size w (w.alloc (.cells #[.int .i64 0, .int .i64 0] 23))) := (Below.refl _ _).alloc (Nat.le_refl _) _
  have D1 := Lib.hid (fun w h => decimal_ok 5 s1 w (by decide) (numv s1.data.toList) h rfl)
  have E1 := Lib.hid (fun w h => decimal_bad 5 s1 w (by decide) h)
  have D2 := Lib.hid (fun w h => decimal_ok 5 s1 w (by decide) (numv s1.data.toList) h rfl)
  have E2 := Lib.hid (fun w h => decimal_bad 5 s1 w (by decide) h)
  clear hT
  cases h1 : numOkM 5 s1.data.toList
  · have HU := Lib.hid (show sparse2 s1.data.toList s1.data.toList = ((0, 0), 3) by unfold sparse2; rw [h1]; rfl)
    go_enter Tryz.func4, Tryz.ntmps4
    go_wp2_with fail
    refine (CU.out _ (HT.out.below B.out)).mono ?_
    rintro e w' ⟨rfl, hb⟩
    have B := Lib.hid (below_both B.out hb)
    have S := Lib.hid (S.out.next hb)
    clear hb
    go_wp2_with fail
    refine (E1.out _ h1).mono ?_
    rintro e w' ⟨rfl, hb⟩
    have B := Lib.hid (below_both B.out hb)
    have S := Lib.hid (S.out.next hb)
    clear hb
    have hc0 := S.out.c0; have hc1 := S.out.c1; have hf0 := S.out.f 0; have hf1 := S.out.f 1
    have hr0 := (S.out.two 0 0).c0
    have hr1 := (S.out.two 0 0).c1
    have B9 := Lib.hid ((B.out.setCell (p := ⟨w.heap.size, 0, none⟩) (Nat.le_refl _) (.int .i64 0)).setCell (p := ⟨w.heap.size, 1, none⟩) (Nat.le_refl _) (.int .i64 0))
    go_wp2_with fail
    exact bodyPost_ret (v := .tuple #[.agg #[.int .i64 0, .int .i64 0], .int .i64 3]) (by simp [results, Tryz.results4, go_sem, hr0, hr1]) rfl ⟨by rw [HU.out], B9.out⟩
  · have b1 := num5 h1
    have b2 := num5 h1
    have HU := Lib.hid (sparse2_ok h1 h1)
    generalize numv s1.data.toList = n1 at D1 D2 b2 b1 HU
    have b1i : (n1 : Int) ≤ 99999 := by omega
    have b2i : (n1 : Int) ≤ 99999 := by omega
    have v1 := conv5 b1
    have v2 := conv5 b2
    have CK := Lib.hid (fun w => scheck_any (n1 : Int) (n1 : Int) w)
    by_cases hz : chkS ((n1 : Int), (n1 : Int)) = 0
    · have HU := Lib.hid (show sparse2 s1.data.toList s1.data.toList = ((((n1 : Nat) : Int), ((n1 : Nat) : Int)), 0) by rw [HU.out]; exact if_pos hz)
      rw [hz] at CK
      clear hz b1 b2
      go_enter Tryz.func4, Tryz.ntmps4
      go_wp2_with fail
      refine (CU.out _ (HT.out.below B.out)).mono ?_
      rintro e w' ⟨rfl, hb⟩
      have B := Lib.hid (below_both B.out hb)
      have S := Lib.hid (S.out.next hb)
      clear hb
      go_wp2_with fail
      refine (D1.out _ h1).mono ?_
      rintro e w' ⟨rfl, hb⟩
      have B := Lib.hid (below_both B.out hb)
      have S := Lib.hid (S.out.next hb)
      clear hb
      go_wp2_with fail
      refine (D2.out _ h1).mono ?_
      rintro e w' ⟨rfl, hb⟩
      have B := Lib.hid (below_both B.out hb)
      have S := Lib.hid (S.out.next hb)
      clear hb
      go_wp2_with fail
      have T := Lib.hid (SB.new w' (n1 : Int) (n1 : Int))
      have B := Lib.hid (B.out.alloc B.out.size (.cells #[.int .i64 (n1 : Int), .int .i64 (n1 : Int)] 23))
      have S := Lib.hid (S.out.next ((Below.refl _ _).alloc (Nat.le_refl _) (.cells #[.int .i64 (n1 : Int), .int .i64 (n1 : Int)] 23)))
      have t0 := T.out.c0; have t1 := T.out.c1
      go_wp2_with fail
      refine (CK.out _).mono ?_
      rintro e w' ⟨rfl, hb⟩
      have B := Lib.hid (below_both B.out hb)
      have S := Lib.hid (S.out.next hb)
      have T := Lib.hid (T.out.next hb)
      clear hb
      clear t0 t1
      have t0 := T.out.c0; have t1 := T.out.c1
      have hc0 := S.out.c0; have hc1 := S.out.c1; have hf0 := S.out.f 0; have hf1 := S.out.f 1
      have hr0 := (S.out.two (n1 : Int) (n1 : Int)).c0
      have hr1 := (S.out.two (n1 : Int) (n1 : Int)).c1
      have B9 := Lib.hid ((B.out.setCell (p := ⟨w.heap.size, 0, none⟩) (Nat.le_refl _) (.int .i64 (n1 : Int))).setCell (p := ⟨w.heap.size, 1, none⟩) (Nat.le_refl _) (.int .i64 (n1 : Int)))
      go_wp2_with fail
      exact bodyPost_ret (v := .tuple #[.agg #[.int .i64 (n1 : Int), .int .i64 (n1 : Int)], .int .i64 0]) (by simp [results, Tryz.results4, go_sem, hr0, hr1]) rfl ⟨by rw [HU.out], B9.out⟩
    · have HU := Lib.hid (show sparse2 s1.data.toList s1.data.toList = ((0, 0), chkS ((n1 : Int), (n1 : Int))) by rw [HU.out]; exact if_neg hz)
      have hz1 : (chkS ((n1 : Int), (n1 : Int)) != 0) = true := by rw [bne_iff_ne]; exact hz
      generalize chkS ((n1 : Int), (n1 : Int)) = c at CK hz1 HU
      clear hz b1 b2
      go_enter Tryz.func4, Tryz.ntmps4
      go_wp2_with fail
      refine (CU.out _ (HT.out.below B.out)).mono ?_
      rintro e w' ⟨rfl, hb⟩
      have B := Lib.hid (below_both B.out hb)
      have S := Lib.hid (S.out.next hb)
      clear hb
      go_wp2_with fail
      refine (D1.out _ h1).mono ?_
      rintro e w' ⟨rfl, hb⟩
      have B := Lib.hid (below_both B.out hb)
      have S := Lib.hid (S.out.next hb)
      clear hb
      go_wp2_with fail
      refine (D2.out _ h1).mono ?_
      rintro e w' ⟨rfl, hb⟩
      have B := Lib.hid (below_both B.out hb)
      have S := Lib.hid (S.out.next hb)
      clear hb
      go_wp2_with fail
      have T := Lib.hid (SB.new w' (n1 : Int) (n1 : Int))
      have B := Lib.hid (B.out.alloc B.out.size (.cells #[.int .i64 (n1 : Int), .int .i64 (n1 : Int)] 23))
      have S := Lib.hid (S.out.next ((Below.refl _ _).alloc (Nat.le_refl _) (.cells #[.int .i64 (n1 : Int), .int .i64 (n1 : Int)] 23)))
      have t0 := T.out.c0; have t1 := T.out.c1
      go_wp2_with fail
      refine (CK.out _).mono ?_
      rintro e w' ⟨rfl, hb⟩
      have B := Lib.hid (below_both B.out hb)
      have S := Lib.hid (S.out.next hb)
      have T := Lib.hid (T.out.next hb)
      clear hb
      clear t0 t1
      have t0 := T.out.c0; have t1 := T.out.c1
      have hc0 := S.out.c0; have hc1 := S.out.c1; have hf0 := S.out.f 0; have hf1 := S.out.f 1
      have hr0 := (S.out.two 0 0).c0
      have hr1 := (S.out.two 0 0).c1
      have B9 := Lib.hid ((B.out.setCell (p := ⟨w.heap.size, 0, none⟩) (Nat.le_refl _) (.int .i64 0)).setCell (p := ⟨w.heap.size, 1, none⟩) (Nat.le_refl _) (.int .i64 0))
      go_wp2_with fail
      exact bodyPost_ret (v := .tuple #[.agg #[.int .i64 0, .int .i64 0], .int .i64 c]) (by simp [results, Tryz.results4, go_sem, hr0, hr1]) rfl ⟨by rw [HU.out], B9.out⟩
set_option maxRecDepth 10000 in
set_option maxHeartbeats 6400000 in
theorem sparse_two (s s1 s2 : ByteArray) (w : World) (hs : (s.toList == [42]) = false) (hT : MaxL w)
    (CU : ∀ w, MaxL w → Calls Tryz.prog 11 #[.string s, .string ⟨#[45]⟩] w fun e w' => e = .returned (.tuple #[.string s1, .string s2, .bool true]) ∧ Below w.heap.size w w') :
    Calls Tryz.prog 4 #[.string s] w fun e w' => e = .returned (.tuple #[.agg #[.int .i64 (sparse2 s1.data.toList s2.data.toList).1.1, .int .i64 (sparse2 s1.data.toList s2.data.toList).1.2], .int .i64 (sparse2 s1.data.toList s2.data.toList).2]) ∧ Below w.heap.size w w' := by
  have HT := Lib.hid hT
  have CU := Lib.hid CU
  have S := Lib.hid (SB.new w 0 0)
  have B : Hid (Below w.heap.size w (w.alloc (.cells #[.int .i64 0, .int .i64 0] 23))) := (Below.refl _ _).alloc (Nat.le_refl _) _
  have D1 := Lib.hid (fun w h => decimal_ok 5 s1 w (by decide) (numv s1.data.toList) h rfl)
  have E1 := Lib.hid (fun w h => decimal_bad 5 s1 w (by decide) h)
  have D2 := Lib.hid (fun w h => decimal_ok 5 s2 w (by decide) (numv s2.data.toList) h rfl)
  have E2 := Lib.hid (fun w h => decimal_bad 5 s2 w (by decide) h)
  clear hT
  cases h1 : numOkM 5 s1.data.toList
  · have HU := Lib.hid (show sparse2 s1.data.toList s2.data.toList = ((0, 0), 3) by unfold sparse2; rw [h1]; rfl)
    go_enter Tryz.func4, Tryz.ntmps4
    go_wp2_with fail
    refine (CU.out _ (HT.out.below B.out)).mono ?_
    rintro e w' ⟨rfl, hb⟩
    have B := Lib.hid (below_both B.out hb)
    have S := Lib.hid (S.out.next hb)
    clear hb
    go_wp2_with fail
    refine (E1.out _ h1).mono ?_
    rintro e w' ⟨rfl, hb⟩
    have B := Lib.hid (below_both B.out hb)
    have S := Lib.hid (S.out.next hb)
    clear hb
    have hc0 := S.out.c0; have hc1 := S.out.c1; have hf0 := S.out.f 0; have hf1 := S.out.f 1
    have hr0 := (S.out.two 0 0).c0
    have hr1 := (S.out.two 0 0).c1
    have B9 := Lib.hid ((B.out.setCell (p := ⟨w.heap.size, 0, none⟩) (Nat.le_refl _) (.int .i64 0)).setCell (p := ⟨w.heap.size, 1, none⟩) (Nat.le_refl _) (.int .i64 0))
    go_wp2_with fail
    exact bodyPost_ret (v := .tuple #[.agg #[.int .i64 0, .int .i64 0], .int .i64 3]) (by simp [results, Tryz.results4, go_sem, hr0, hr1]) rfl ⟨by rw [HU.out], B9.out⟩
  · cases h2 : numOkM 5 s2.data.toList
    · have HU := Lib.hid (show sparse2 s1.data.toList s2.data.toList = ((0, 0), 3) by unfold sparse2; rw [h1, h2]; rfl)
      generalize numv s1.data.toList = n1 at D1
      go_enter Tryz.func4, Tryz.ntmps4
      go_wp2_with fail
      refine (CU.out _ (HT.out.below B.out)).mono ?_
      rintro e w' ⟨rfl, hb⟩
      have B := Lib.hid (below_both B.out hb)
      have S := Lib.hid (S.out.next hb)
      clear hb
      go_wp2_with fail
      refine (D1.out _ h1).mono ?_
      rintro e w' ⟨rfl, hb⟩
      have B := Lib.hid (below_both B.out hb)
      have S := Lib.hid (S.out.next hb)
      clear hb
      go_wp2_with fail
      refine (E2.out _ h2).mono ?_
      rintro e w' ⟨rfl, hb⟩
      have B := Lib.hid (below_both B.out hb)
      have S := Lib.hid (S.out.next hb)
      clear hb
      have hc0 := S.out.c0; have hc1 := S.out.c1; have hf0 := S.out.f 0; have hf1 := S.out.f 1
      have hr0 := (S.out.two 0 0).c0
      have hr1 := (S.out.two 0 0).c1
      have B9 := Lib.hid ((B.out.setCell (p := ⟨w.heap.size, 0, none⟩) (Nat.le_refl _) (.int .i64 0)).setCell (p := ⟨w.heap.size, 1, none⟩) (Nat.le_refl _) (.int .i64 0))
      go_wp2_with fail
      exact bodyPost_ret (v := .tuple #[.agg #[.int .i64 0, .int .i64 0], .int .i64 3]) (by simp [results, Tryz.results4, go_sem, hr0, hr1]) rfl ⟨by rw [HU.out], B9.out⟩
    · have b1 := num5 h1
      have b2 := num5 h2
      have HU := Lib.hid (sparse2_ok h1 h2)
      generalize numv s1.data.toList = n1 at D1 b1 HU
      generalize numv s2.data.toList = n2 at D2 b2 HU
      have b1i : (n1 : Int) ≤ 99999 := by omega
      have b2i : (n2 : Int) ≤ 99999 := by omega
      have v1 := conv5 b1
      have v2 := conv5 b2
      have CK := Lib.hid (fun w => scheck_any (n1 : Int) (n2 : Int) w)
      by_cases hz : chkS ((n1 : Int), (n2 : Int)) = 0
      · have HU := Lib.hid (show sparse2 s1.data.toList s2.data.toList = ((((n1 : Nat) : Int), ((n2 : Nat) : Int)), 0) by rw [HU.out]; exact if_pos hz)
        rw [hz] at CK
        clear hz b1 b2
        go_enter Tryz.func4, Tryz.ntmps4
        go_wp2_with fail
        refine (CU.out _ (HT.out.below B.out)).mono ?_
        rintro e w' ⟨rfl, hb⟩
        have B := Lib.hid (below_both B.out hb)
        have S := Lib.hid (S.out.next hb)
        clear hb
        go_wp2_with fail
        refine (D1.out _ h1).mono ?_
        rintro e w' ⟨rfl, hb⟩
        have B := Lib.hid (below_both B.out hb)
        have S := Lib.hid (S.out.next hb)
        clear hb
        go_wp2_with fail
        refine (D2.out _ h2).mono ?_
        rintro e w' ⟨rfl, hb⟩
        have B := Lib.hid (below_both B.out hb)
        have S := Lib.hid (S.out.next hb)
        clear hb
        go_wp2_with fail
        have T := Lib.hid (SB.new w' (n1 : Int) (n2 : Int))
        have B := Lib.hid (B.out.alloc B.out.size (.cells #[.int .i64 (n1 : Int), .int .i64 (n2 : Int)] 23))
        have S := Lib.hid (S.out.next ((Below.refl _ _).alloc (Nat.le_refl _) (.cells #[.int .i64 (n1 : Int), .int .i64 (n2 : Int)] 23)))
        have t0 := T.out.c0; have t1 := T.out.c1
        go_wp2_with fail
        refine (CK.out _).mono ?_
        rintro e w' ⟨rfl, hb⟩
        have B := Lib.hid (below_both B.out hb)
        have S := Lib.hid (S.out.next hb)
        have T := Lib.hid (T.out.next hb)
        clear hb
        clear t0 t1
        have t0 := T.out.c0; have t1 := T.out.c1
        have hc0 := S.out.c0; have hc1 := S.out.c1; have hf0 := S.out.f 0; have hf1 := S.out.f 1
        have hr0 := (S.out.two (n1 : Int) (n2 : Int)).c0
        have hr1 := (S.out.two (n1 : Int) (n2 : Int)).c1
        have B9 := Lib.hid ((B.out.setCell (p := ⟨w.heap.size, 0, none⟩) (Nat.le_refl _) (.int .i64 (n1 : Int))).setCell (p := ⟨w.heap.size, 1, none⟩) (Nat.le_refl _) (.int .i64 (n2 : Int)))
        go_wp2_with fail
        exact bodyPost_ret (v := .tuple #[.agg #[.int .i64 (n1 : Int), .int .i64 (n2 : Int)], .int .i64 0]) (by simp [results, Tryz.results4, go_sem, hr0, hr1]) rfl ⟨by rw [HU.out], B9.out⟩
      · have HU := Lib.hid (show sparse2 s1.data.toList s2.data.toList = ((0, 0), chkS ((n1 : Int), (n2 : Int))) by rw [HU.out]; exact if_neg hz)
        have hz1 : (chkS ((n1 : Int), (n2 : Int)) != 0) = true := by rw [bne_iff_ne]; exact hz
        generalize chkS ((n1 : Int), (n2 : Int)) = c at CK hz1 HU
        clear hz b1 b2
        go_enter Tryz.func4, Tryz.ntmps4
        go_wp2_with fail
        refine (CU.out _ (HT.out.below B.out)).mono ?_
        rintro e w' ⟨rfl, hb⟩
        have B := Lib.hid (below_both B.out hb)
        have S := Lib.hid (S.out.next hb)
        clear hb
        go_wp2_with fail
        refine (D1.out _ h1).mono ?_
        rintro e w' ⟨rfl, hb⟩
        have B := Lib.hid (below_both B.out hb)
        have S := Lib.hid (S.out.next hb)
        clear hb
        go_wp2_with fail
        refine (D2.out _ h2).mono ?_
        rintro e w' ⟨rfl, hb⟩
        have B := Lib.hid (below_both B.out hb)
        have S := Lib.hid (S.out.next hb)
        clear hb
        go_wp2_with fail
        have T := Lib.hid (SB.new w' (n1 : Int) (n2 : Int))
        have B := Lib.hid (B.out.alloc B.out.size (.cells #[.int .i64 (n1 : Int), .int .i64 (n2 : Int)] 23))
        have S := Lib.hid (S.out.next ((Below.refl _ _).alloc (Nat.le_refl _) (.cells #[.int .i64 (n1 : Int), .int .i64 (n2 : Int)] 23)))
        have t0 := T.out.c0; have t1 := T.out.c1
        go_wp2_with fail
        refine (CK.out _).mono ?_
        rintro e w' ⟨rfl, hb⟩
        have B := Lib.hid (below_both B.out hb)
        have S := Lib.hid (S.out.next hb)
        have T := Lib.hid (T.out.next hb)
        clear hb
        clear t0 t1
        have t0 := T.out.c0; have t1 := T.out.c1
        have hc0 := S.out.c0; have hc1 := S.out.c1; have hf0 := S.out.f 0; have hf1 := S.out.f 1
        have hr0 := (S.out.two 0 0).c0
        have hr1 := (S.out.two 0 0).c1
        have B9 := Lib.hid ((B.out.setCell (p := ⟨w.heap.size, 0, none⟩) (Nat.le_refl _) (.int .i64 0)).setCell (p := ⟨w.heap.size, 1, none⟩) (Nat.le_refl _) (.int .i64 0))
        go_wp2_with fail
        exact bodyPost_ret (v := .tuple #[.agg #[.int .i64 0, .int .i64 0], .int .i64 c]) (by simp [results, Tryz.results4, go_sem, hr0, hr1]) rfl ⟨by rw [HU.out], B9.out⟩
theorem sparse_any (s : ByteArray) (w : World) (hs : s.size < 4294967281) (hT : MaxL w) : Calls Tryz.prog 4 #[.string s] w fun e w' => e = .returned (.tuple #[.agg #[.int .i64 (sparse s.data.toList).1.1, .int .i64 (sparse s.data.toList).1.2], .int .i64 (sparse s.data.toList).2]) ∧ Below w.heap.size w w' := by
  by_cases he : s.data.toList = [42]
  · have e : s = ⟨#[42]⟩ := ByteArray.ext (Array.ext' he)
    subst e
    exact sparse_star w
  · have h1 : (s.toList == [42]) = false := by rw [toList_data, beq_eq_false_iff_ne]; exact he
    have CU := fun w h => dash_any s w hs h
    have e : sparse s.data.toList = sparse2 (Lib.cut s.data.toList [45]).1 (if (Lib.cut s.data.toList [45]).2.2 then (Lib.cut s.data.toList [45]).2.1 else (Lib.cut s.data.toList [45]).1) := if_neg he
    rw [e]
    cases hb : (Lib.cut s.data.toList [45]).2.2
    · rw [hb] at CU
      exact sparse_one s ⟨(Lib.cut s.data.toList [45]).1.toArray⟩ ⟨(Lib.cut s.data.toList [45]).2.1.toArray⟩ w h1 hT CU
    · rw [hb] at CU
      exact sparse_two s ⟨(Lib.cut s.data.toList [45]).1.toArray⟩ ⟨(Lib.cut s.data.toList [45]).2.1.toArray⟩ w h1 hT CU
end Go.Proofs.YtpalnlbdfmiadaaGreatDoor
