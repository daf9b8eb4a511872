/-
  The walk of the statement PointBack.
-/
import Derived.Test.YtdeoeikpooonlaaDoorLive9
namespace Go.Proofs.YtdeoeikpooonlaaDoor
open Go.RowKit
set_option linter.unusedVariables false

theorem ptName_same {d x : Nat} (hd : d < 64) (hx : x < 64) : ((ptName (d : Int)).toList == (ptName (x : Int)).toList) = decide (d = x) := by
  rw [Lib.toList_data, Lib.toList_data, ptName_list, ptName_list]
  by_cases h : d = x
  · subst h
    simp
  · rw [decide_eq_false h, beq_eq_false_iff_ne]
    exact fun e => h (ptLetters_one d hd x hx e)
theorem ptPrec_less {d x : Nat} (hd : d < 64) (hx : x < 64) (h1 : 0 < ptPrec (d : Int)) (h2 : 0 < ptPrec (x : Int)) (h : d / 8 = x / 8) : decide (ptPrec (d : Int) < ptPrec (x : Int)) = decide (d < x) := by
  unfold ptPrec at *
  split at h1
  · split at h2
    · rename_i a b
      rw [if_pos a, if_pos b]
      by_cases k : d < x
      · rw [decide_eq_true k, decide_eq_true]
        omega
      · rw [decide_eq_false k, decide_eq_false]
        omega
    · omega
  · omega
theorem ptAf_back {d : Nat} (hd : d < 64) (h : ptPrec (d : Int) ≠ 0) : 1 ≤ ((d / 8 : Nat) : Int) ∧ ((d / 8 : Nat) : Int) ≤ 4 ∧ 1 ≤ ((ptPrec (d : Int) : Nat) : Int) ∧ ((ptPrec (d : Int) : Nat) : Int) ≤ 3 ∧ 8 * ((d / 8 : Nat) : Int) + 2 * ((ptPrec (d : Int) : Nat) : Int) = (d : Int) := by
  unfold ptPrec at *
  split at h
  · rename_i a
    rw [if_pos a]
    omega
  · exact absurd rfl h
theorem ptSort_word (d : Nat) (hd : d < 64) : ((ptSort (d : Int)).toList == [97, 115, 115, 117, 114, 101, 100]) = decide (ptPrec (d : Int) ≠ 0) := by
  obtain ⟨s, hs, f0, f1, f2, f3, f4, f5, f6⟩ := ptWord_facts (ptSortN (d : Int)) (ptSort_le _)
  unfold ptSort
  rw [hs, f2]
  rw [Bool.eq_iff_iff, decide_eq_true_eq, decide_eq_true_eq]
  constructor
  · intro e h
    by_cases h8 : (d : Int) % 8 = 0
    · rw [ptSort_class (by omega) (by omega) h8] at e
      omega
    · rw [ptSort_rest (by omega) (by omega) h8 h] at e
      (repeat' split at e) <;> omega
  · intro h
    refine ptSort_assured (by omega) (by omega) (fun e => h ?_) h
    unfold ptPrec
    split
    · omega
    · rfl
set_option maxRecDepth 10000 in
set_option maxHeartbeats 6400000 in
theorem walk_PointBack (n m : Nat) (s : ByteArray) (w : World) (hT : Pow w) (hn : n ≤ 255) (hm : m ≤ 255) (hs : s.size ≤ 140737488351232) :
    Calls Tryd.prog 5 #[.int .u8 n, .int .u8 m, .string s] w fun e w' => e = .returned (.bool true) ∧ Below w.heap.size w w' := by
  have HT := Lib.hid hT
  clear hT
  obtain ⟨d, hd⟩ : ∃ d, d = n % 64 := ⟨_, rfl⟩
  obtain ⟨x, hx⟩ : ∃ x, x = m % 64 := ⟨_, rfl⟩
  have e1 : (n : Int) % 64 = (d : Int) := by omega
  have e2 : (m : Int) % 64 = (x : Int) := by omega
  have e3 : wrap64 (d : Int) = (d : Int) := by unfold wrap64; omega
  have e4 : wrap64 (x : Int) = (x : Int) := by unfold wrap64; omega
  have hd6 : d < 64 := by omega
  have hx6 : x < 64 := by omega
  clear hd hx hn hm hs
  have CN := Lib.hid (fun w hT => ptname_any (d : Int) w (by omega) (by omega) hT)
  have CX := Lib.hid (fun w hT => ptname_any (x : Int) w (by omega) (by omega) hT)
  have CB : Hid (∀ w, Pow w → Calls Tryd.prog 18 #[.string (ptName (d : Int))] w fun e w' => e = .returned (.tuple #[.int .i64 d, .int .i64 0]) ∧ Below w.heap.size w w') := fun w hT => by
    refine (ptparse_any (ptName (d : Int)) w hT).mono ?_
    rintro e w' ⟨he, hb⟩
    rw [ptName_list, ptParse_name hd6] at he
    exact ⟨he, hb⟩
  have CS := Lib.hid (fun w hT => ptparse_any s w hT)
  have CP := Lib.hid (fun w => ptprec_any (d : Int) w (by omega) (by omega))
  have CQ := Lib.hid (fun w => ptprec_any (x : Int) w (by omega) (by omega))
  have CT := Lib.hid (fun w => ptsort_any (d : Int) w (by omega) (by omega))
  have n1 := ptName_same hd6 hx6
  have HL := Lib.hid (fun h1 h2 h => ptPrec_less hd6 hx6 h1 h2 h)
  have HA := Lib.hid (fun h => ptAf_back hd6 h)
  have HW := Lib.hid (ptSort_word d hd6)
  have HG := Lib.hid (fun h => ptParse_good (l := s.data.toList) h)
  have HE := Lib.hid (ptParse_err (l := s.data.toList))
  unfold PtParseIs at CS
  obtain ⟨y, hy⟩ : ∃ y, (ptParse s.data.toList).1 = y := ⟨_, rfl⟩
  obtain ⟨f, hf⟩ : ∃ f, (ptParse s.data.toList).2 = f := ⟨_, rfl⟩
  rw [hy, hf] at CS HG
  rw [hf] at HE
  have hsz : s.data.toList.length = s.size := size_list s
  rw [hsz] at HG
  clear hy hf hsz
  generalize ptName (d : Int) = sd at *
  generalize ptName (x : Int) = sx at *
  generalize ptSort (d : Int) = st at *
  generalize ptPrec (d : Int) = p at *
  generalize ptPrec (x : Int) = q at *
  have q1 : ((d : Int) == (x : Int)) = decide (d = x) := by
    by_cases h : d = x
    · subst h; simp
    · rw [decide_eq_false h]; simp; omega
  have hd6 := Lib.hid hd6
  have hx6 := Lib.hid hx6
  go_enter Tryd.func5, Tryd.ntmps5
  go_wp2_with fail
  refine (CN.out _ HT.out).mono ?_
  rintro e w1 ⟨rfl, hb⟩
  have B1 := Lib.hid hb
  clear hb
  go_wp2_with fail
  refine (CB.out _ (HT.out.below B1.out)).mono ?_
  rintro e w2 ⟨rfl, hb⟩
  have B2 := Lib.hid (below_both B1.out hb)
  clear hb
  go_wp2_with fail
  refine (CN.out _ (HT.out.below B2.out)).mono ?_
  rintro e w3 ⟨rfl, hb⟩
  have B3 := Lib.hid (below_both B2.out hb)
  clear hb
  go_wp2_with fail
  refine (CX.out _ (HT.out.below B3.out)).mono ?_
  rintro e w4 ⟨rfl, hb⟩
  have B4 := Lib.hid (below_both B3.out hb)
  clear hb
  go_wp2_with fail
  refine (CS.out _ (HT.out.below B4.out)).mono ?_
  rintro e w5 ⟨rfl, hb⟩
  have B5 := Lib.hid (below_both B4.out hb)
  clear hb
  by_cases hf : f = 0
  · obtain ⟨g1, g2⟩ := HG.out hf
    subst hf
    have g3 : (y : Int) ≤ 63 := by omega
    have g4 : (s.size : Int) ≤ 4 := by omega
    clear g1 g2
    by_cases hp0 : p = 0
    · have hw : (st.toList == [97, 115, 115, 117, 114, 101, 100]) = false := by rw [HW.out, hp0]; rfl
      subst hp0
      go_wp2_with fail
      refine (CP.out _).mono ?_
      rintro e w' ⟨rfl, rfl⟩
      go_wp2_with fail
      refine (CP.out _).mono ?_
      rintro e w' ⟨rfl, rfl⟩
      go_wp2_with fail
      refine (live9 _ (HT.out.below B5.out)).mono ?_
      rintro e w6 ⟨rfl, hb⟩
      have B6 := Lib.hid (below_both B5.out hb)
      clear hb
      go_wp2_with fail
      refine (CT.out _).mono ?_
      rintro e w' ⟨rfl, rfl⟩
      go_wp2_with fail
      go_ret
      exact ⟨by simp, B6.out⟩
    have hw : (st.toList == [97, 115, 115, 117, 114, 101, 100]) = true := by rw [HW.out]; exact decide_eq_true hp0
    have CA : Hid (∀ w, Calls Tryd.prog 15 #[.int .i64 ((d / 8 : Nat) : Int), .int .i64 p] w fun en w' => en = .returned (.tuple #[.int .i64 d, .int .i64 0]) ∧ w = w') := fun w => by
      obtain ⟨a1, a2, a3, a4, a5⟩ := HA.out hp0
      have k := ptaf_yes ((d / 8 : Nat) : Int) p w a1 a2 a3 a4
      rw [a5] at k
      exact k
    have hp1 : (0 : Int) < (p : Int) := by omega
    have hp2 : ((p : Int) == 0) = false := by simp; omega
    have hd8 : (d : Int) / 8 = ((d / 8 : Nat) : Int) := by omega
    have hx8 : (x : Int) / 8 = ((x / 8 : Nat) : Int) := by omega
    by_cases hq0 : q = 0
    · subst hq0
      clear hx8
      generalize d / 8 = d8 at *
      go_wp2_with fail
      refine (CP.out _).mono ?_
      rintro e w' ⟨rfl, rfl⟩
      go_wp2_with fail
      refine (CQ.out _).mono ?_
      rintro e w' ⟨rfl, rfl⟩
      go_wp2_with fail
      refine (CP.out _).mono ?_
      rintro e w' ⟨rfl, rfl⟩
      go_wp2_with fail
      refine (CP.out _).mono ?_
      rintro e w' ⟨rfl, rfl⟩
      go_wp2_with fail
      refine (CA.out _).mono ?_
      rintro e w' ⟨rfl, rfl⟩
      go_wp2_with fail
      refine (live9 _ (HT.out.below B5.out)).mono ?_
      rintro e w6 ⟨rfl, hb⟩
      have B6 := Lib.hid (below_both B5.out hb)
      clear hb
      go_wp2_with fail
      refine (CT.out _).mono ?_
      rintro e w' ⟨rfl, rfl⟩
      go_wp2_with fail
      go_ret
      exact ⟨by simp, B6.out⟩
    have hq1 : (0 : Int) < (q : Int) := by omega
    by_cases h8 : d / 8 = x / 8
    · have k0 : decide (p < q) = decide (d < x) := HL.out (by omega) (by omega) h8
      have k1 : (!decide (p < q) == decide (d < x)) = false := by rw [k0]; cases decide (d < x) <;> rfl
      have k2 : (((d / 8 : Nat) : Int) == ((x / 8 : Nat) : Int)) = true := by rw [h8]; simp
      clear h8 hp0 hq0
      generalize d / 8 = d8 at *
      generalize x / 8 = x8 at *
      go_wp2_with fail
      refine (CP.out _).mono ?_
      rintro e w' ⟨rfl, rfl⟩
      go_wp2_with fail
      refine (CQ.out _).mono ?_
      rintro e w' ⟨rfl, rfl⟩
      go_wp2_with fail
      refine (CP.out _).mono ?_
      rintro e w' ⟨rfl, rfl⟩
      go_wp2_with fail
      refine (CQ.out _).mono ?_
      rintro e w' ⟨rfl, rfl⟩
      go_wp2_with fail
      refine (CP.out _).mono ?_
      rintro e w' ⟨rfl, rfl⟩
      go_wp2_with fail
      refine (CP.out _).mono ?_
      rintro e w' ⟨rfl, rfl⟩
      go_wp2_with fail
      refine (CA.out _).mono ?_
      rintro e w' ⟨rfl, rfl⟩
      go_wp2_with fail
      refine (live9 _ (HT.out.below B5.out)).mono ?_
      rintro e w6 ⟨rfl, hb⟩
      have B6 := Lib.hid (below_both B5.out hb)
      clear hb
      go_wp2_with fail
      refine (CT.out _).mono ?_
      rintro e w' ⟨rfl, rfl⟩
      go_wp2_with fail
      go_ret
      exact ⟨by simp, B6.out⟩
    · have k2 : (((d / 8 : Nat) : Int) == ((x / 8 : Nat) : Int)) = false := by simp; omega
      clear h8 hp0 hq0
      generalize d / 8 = d8 at *
      generalize x / 8 = x8 at *
      go_wp2_with fail
      refine (CP.out _).mono ?_
      rintro e w' ⟨rfl, rfl⟩
      go_wp2_with fail
      refine (CQ.out _).mono ?_
      rintro e w' ⟨rfl, rfl⟩
      go_wp2_with fail
      refine (CP.out _).mono ?_
      rintro e w' ⟨rfl, rfl⟩
      go_wp2_with fail
      refine (CP.out _).mono ?_
      rintro e w' ⟨rfl, rfl⟩
      go_wp2_with fail
      refine (CA.out _).mono ?_
      rintro e w' ⟨rfl, rfl⟩
      go_wp2_with fail
      refine (live9 _ (HT.out.below B5.out)).mono ?_
      rintro e w6 ⟨rfl, hb⟩
      have B6 := Lib.hid (below_both B5.out hb)
      clear hb
      go_wp2_with fail
      refine (CT.out _).mono ?_
      rintro e w' ⟨rfl, rfl⟩
      go_wp2_with fail
      go_ret
      exact ⟨by simp, B6.out⟩
  · have hf2 : ((f : Int) == 0) = false := by simp; omega
    clear hf HE HG
    by_cases hp0 : p = 0
    · have hw : (st.toList == [97, 115, 115, 117, 114, 101, 100]) = false := by rw [HW.out, hp0]; rfl
      subst hp0
      go_wp2_with fail
      refine (CP.out _).mono ?_
      rintro e w' ⟨rfl, rfl⟩
      go_wp2_with fail
      refine (CP.out _).mono ?_
      rintro e w' ⟨rfl, rfl⟩
      go_wp2_with fail
      refine (live9 _ (HT.out.below B5.out)).mono ?_
      rintro e w6 ⟨rfl, hb⟩
      have B6 := Lib.hid (below_both B5.out hb)
      clear hb
      go_wp2_with fail
      refine (CT.out _).mono ?_
      rintro e w' ⟨rfl, rfl⟩
      go_wp2_with fail
      go_ret
      exact ⟨by simp, B6.out⟩
    have hw : (st.toList == [97, 115, 115, 117, 114, 101, 100]) = true := by rw [HW.out]; exact decide_eq_true hp0
    have CA : Hid (∀ w, Calls Tryd.prog 15 #[.int .i64 ((d / 8 : Nat) : Int), .int .i64 p] w fun en w' => en = .returned (.tuple #[.int .i64 d, .int .i64 0]) ∧ w = w') := fun w => by
      obtain ⟨a1, a2, a3, a4, a5⟩ := HA.out hp0
      have k := ptaf_yes ((d / 8 : Nat) : Int) p w a1 a2 a3 a4
      rw [a5] at k
      exact k
    have hp1 : (0 : Int) < (p : Int) := by omega
    have hp2 : ((p : Int) == 0) = false := by simp; omega
    have hd8 : (d : Int) / 8 = ((d / 8 : Nat) : Int) := by omega
    have hx8 : (x : Int) / 8 = ((x / 8 : Nat) : Int) := by omega
    by_cases hq0 : q = 0
    · subst hq0
      clear hx8
      generalize d / 8 = d8 at *
      go_wp2_with fail
      refine (CP.out _).mono ?_
      rintro e w' ⟨rfl, rfl⟩
      go_wp2_with fail
      refine (CQ.out _).mono ?_
      rintro e w' ⟨rfl, rfl⟩
      go_wp2_with fail
      refine (CP.out _).mono ?_
      rintro e w' ⟨rfl, rfl⟩
      go_wp2_with fail
      refine (CP.out _).mono ?_
      rintro e w' ⟨rfl, rfl⟩
      go_wp2_with fail
      refine (CA.out _).mono ?_
      rintro e w' ⟨rfl, rfl⟩
      go_wp2_with fail
      refine (live9 _ (HT.out.below B5.out)).mono ?_
      rintro e w6 ⟨rfl, hb⟩
      have B6 := Lib.hid (below_both B5.out hb)
      clear hb
      go_wp2_with fail
      refine (CT.out _).mono ?_
      rintro e w' ⟨rfl, rfl⟩
      go_wp2_with fail
      go_ret
      exact ⟨by simp, B6.out⟩
    have hq1 : (0 : Int) < (q : Int) := by omega
    by_cases h8 : d / 8 = x / 8
    · have k0 : decide (p < q) = decide (d < x) := HL.out (by omega) (by omega) h8
      have k1 : (!decide (p < q) == decide (d < x)) = false := by rw [k0]; cases decide (d < x) <;> rfl
      have k2 : (((d / 8 : Nat) : Int) == ((x / 8 : Nat) : Int)) = true := by rw [h8]; simp
      clear h8 hp0 hq0
      generalize d / 8 = d8 at *
      generalize x / 8 = x8 at *
      go_wp2_with fail
      refine (CP.out _).mono ?_
      rintro e w' ⟨rfl, rfl⟩
      go_wp2_with fail
      refine (CQ.out _).mono ?_
      rintro e w' ⟨rfl, rfl⟩
      go_wp2_with fail
      refine (CP.out _).mono ?_
      rintro e w' ⟨rfl, rfl⟩
      go_wp2_with fail
      refine (CQ.out _).mono ?_
      rintro e w' ⟨rfl, rfl⟩
      go_wp2_with fail
      refine (CP.out _).mono ?_
      rintro e w' ⟨rfl, rfl⟩
      go_wp2_with fail
      refine (CP.out _).mono ?_
      rintro e w' ⟨rfl, rfl⟩
      go_wp2_with fail
      refine (CA.out _).mono ?_
      rintro e w' ⟨rfl, rfl⟩
      go_wp2_with fail
      refine (live9 _ (HT.out.below B5.out)).mono ?_
      rintro e w6 ⟨rfl, hb⟩
      have B6 := Lib.hid (below_both B5.out hb)
      clear hb
      go_wp2_with fail
      refine (CT.out _).mono ?_
      rintro e w' ⟨rfl, rfl⟩
      go_wp2_with fail
      go_ret
      exact ⟨by simp, B6.out⟩
    · have k2 : (((d / 8 : Nat) : Int) == ((x / 8 : Nat) : Int)) = false := by simp; omega
      clear h8 hp0 hq0
      generalize d / 8 = d8 at *
      generalize x / 8 = x8 at *
      go_wp2_with fail
      refine (CP.out _).mono ?_
      rintro e w' ⟨rfl, rfl⟩
      go_wp2_with fail
      refine (CQ.out _).mono ?_
      rintro e w' ⟨rfl, rfl⟩
      go_wp2_with fail
      refine (CP.out _).mono ?_
      rintro e w' ⟨rfl, rfl⟩
      go_wp2_with fail
      refine (CP.out _).mono ?_
      rintro e w' ⟨rfl, rfl⟩
      go_wp2_with fail
      refine (CA.out _).mono ?_
      rintro e w' ⟨rfl, rfl⟩
      go_wp2_with fail
      refine (live9 _ (HT.out.below B5.out)).mono ?_
      rintro e w6 ⟨rfl, hb⟩
      have B6 := Lib.hid (below_both B5.out hb)
      clear hb
      go_wp2_with fail
      refine (CT.out _).mono ?_
      rintro e w' ⟨rfl, rfl⟩
      go_wp2_with fail
      go_ret
      exact ⟨by simp, B6.out⟩
end Go.Proofs.YtdeoeikpooonlaaDoor
