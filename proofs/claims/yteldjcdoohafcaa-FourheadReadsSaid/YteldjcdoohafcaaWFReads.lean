/-
  The walk of the statement FourheadReads.
-/
import Derived.Test.YteldjcdoohafcaaRFh3
import Derived.Test.YteldjcdoohafcaaFh13
import Derived.Test.YteldjcdoohafcaaFh16
namespace Go.Proofs.Yteldjcdoohafcaa
open Go.RowKit
set_option linter.unusedVariables false

theorem optsF_bd : ∀ (f : Nat) (l : List Nat) (M : List (Nat × List Nat)), optsF f l = some M → M.length ≤ f ∧ ∀ m ∈ M, m.2.length ≤ l.length
  | 0, l, M, h => by
    rw [optsF] at h
    injection h with h
    subst h
    exact ⟨Nat.le_refl _, fun m hm => by cases hm⟩
  | f + 1, l, M, h => by
    rw [optsF] at h
    split at h
    · injection h with h
      subst h
      exact ⟨Nat.zero_le _, fun m hm => by cases hm⟩
    · rename_i h0
      split at h
      · cases h
      · rename_i k n b ho
        obtain ⟨M', h1, rfl⟩ := Option.map_eq_some_iff.1 h
        obtain ⟨q1, q2⟩ := optsF_bd f _ _ h1
        have q3 := optOne_bd (by omega) ho
        refine ⟨by simp; omega, fun m hm => ?_⟩
        rcases List.mem_cons.1 hm with rfl | hm
        · exact q3.2.2
        · have := q2 m hm
          rw [List.length_drop] at this
          omega
theorem fhopts_bd {n : Nat} {bs : List Nat} (h : bs.length ≤ 140737488355328) : ((fhopts n bs).getD []).length ≤ 60 ∧ ∀ m ∈ (fhopts n bs).getD [], m.2.length ≤ 9223372036854775807 := by
  cases ho : fhopts n bs with
  | none => exact ⟨Nat.zero_le _, fun m hm => by cases hm⟩
  | some M =>
    unfold fhopts at ho
    split at ho
    · obtain ⟨h1, h2⟩ := optsF_bd _ _ _ ho
      refine ⟨h1, fun m hm => ?_⟩
      have h3 := h2 m hm
      rw [List.length_take, List.length_drop] at h3
      omega
    · cases ho
theorem opts_read {w : World} {r : Option (List (Nat × List Nat))} {e : Ending} {w' : World} (h : OptsIs w r e w') : ∃ v, e = .returned (.tuple #[v, .bool r.isSome]) ∧ ExtRead w' v (r.getD []) ∧ Below w.heap.size w w' := by
  obtain ⟨hb, h⟩ := h
  cases r with
  | none => exact ⟨_, h, ⟨none, 0, rfl, Nat.le_refl _, fun i m hm => by simp at hm⟩, hb⟩
  | some M =>
    obtain ⟨v, e, hE⟩ := h
    exact ⟨v, e, hE.read, hb⟩
theorem fhval_same {n : Nat} {bs : List Nat} (h : ∀ k, bs.getD k 0 < 256) (w : World) : (Op.equalIn 10000 25 (.agg (fhval n bs).toArray) (.agg (fhval n bs).toArray)).run Try.prog w = .ok true w := by
  unfold fhval
  split
  · exact four_same h w
  · have h2 := four_same (bs := []) (fun k => by simp) w
    exact h2
set_option maxRecDepth 10000 in
set_option maxHeartbeats 6400000 in
theorem walk_FourheadReads (a0 : Option Addr) (len0 cap0 : Nat) (bs0 : List Nat) (w : World) (R0 : Row w a0 len0 bs0) (hl0 : len0 ≤ cap0) (hc0 : cap0 ≤ 140737488351232) :
    Calls Try.prog 3 #[.slice a0 len0 cap0] w fun e w' => e = .returned (.bool true) ∧ Below w.heap.size w w' := by
  have hn : len0 ≤ 140737488355328 := by omega
  have CR := Lib.hid (fun w hR => fhread_any a0 len0 cap0 bs0 w hn hl0 hR)
  have CS := Lib.hid (fun w hR => rfhread_any a0 len0 cap0 bs0 w hn hl0 hR)
  unfold ReadIs at CR CS
  have CO : Hid (∀ w, Row w a0 len0 bs0 → Calls Try.prog 16 #[.slice a0 len0 cap0] w fun e w' => ∃ v, e = .returned (.tuple #[v, .bool (fhopts len0 bs0).isSome]) ∧ ExtRead w' v ((fhopts len0 bs0).getD []) ∧ Below w.heap.size w w') := fun w h => (fhoptions_any a0 len0 cap0 bs0 w hl0 hn h).mono fun _ _ h => opts_read h
  have CP : Hid (∀ w, Row w a0 len0 bs0 → Calls Try.prog 17 #[.slice a0 len0 cap0] w fun e w' => ∃ v, e = .returned (.tuple #[v, .bool (fhopts len0 bs0).isSome]) ∧ ExtRead w' v ((fhopts len0 bs0).getD []) ∧ Below w.heap.size w w') := fun w h => (rfhoptions_any a0 len0 cap0 bs0 w hl0 hn h).mono fun _ _ h => opts_read h
  have CA := Lib.hid (fun w hR => fhall_any a0 len0 cap0 bs0 w hl0 hn hR)
  have CB := Lib.hid (fun w hR => rfhall_any a0 len0 cap0 bs0 w hl0 hn hR)
  have HEQ := Lib.hid (fhval_same (n := len0) (bs := bs0) R0.byte)
  obtain ⟨m1, m2⟩ := fhopts_bd (n := len0) (bs := bs0) (by rw [R0.1]; exact hn)
  have HM := Lib.hid (And.intro (show ((fhopts len0 bs0).getD []).length ≤ 1000000 by omega) m2)
  have HL := Lib.hid (fhall_len len0 bs0)
  obtain ⟨X, hX⟩ : ∃ X, X = fhval len0 bs0 := ⟨_, rfl⟩
  have hXl : X.length = 17 := by rw [hX]; exact fhval_len len0 bs0
  have hXo : ∀ v ∈ X, v.oneCell' = true := by rw [hX]; exact fhval_one len0 bs0
  obtain ⟨d, hdd⟩ : ∃ d, d = fhdef len0 bs0 := ⟨_, rfl⟩
  rw [← hX] at HEQ
  rw [← hX, ← hdd] at CR CS
  obtain ⟨M, hM⟩ : ∃ M, M = (fhopts len0 bs0).getD [] := ⟨_, rfl⟩
  obtain ⟨ob, hob⟩ : ∃ ob, ob = (fhopts len0 bs0).isSome := ⟨_, rfl⟩
  rw [← hM, ← hob] at CO CP
  rw [← hM] at HM
  obtain ⟨D, hD⟩ : ∃ D, D = fhall len0 bs0 := ⟨_, rfl⟩
  rw [← hD] at CA CB HL
  unfold AllIs at CA CB
  have HR := Lib.hid R0
  clear hX hdd hM hob hD m1 m2 hn R0 hl0 hc0
  go_enter Try.func3, Try.ntmps3
  go_wp2_with fail
  refine (CR.out _ HR.out).mono ?_
  rintro e w1 ⟨rfl, b1⟩
  obtain ⟨hst, hA, hb⟩ := four_stored w1 X hXl hXo
  have B1 := Lib.hid (below_both b1 hb)
  have A1 := Lib.hid hA
  clear b1 hA hb
  go_upto_region 2 with fail
  clear hst
  obtain ⟨V1, eV⟩ : ∃ V, V = (w1.alloc (.cells #[.int .i64 0, .int .i64 0, .int .i64 0, .int .i64 0, .int .i64 0, .int .i64 0, .int .i64 0, .int .i64 0, .int .i64 0, .int .u8 0, .int .u8 0, .int .u8 0, .int .u8 0, .int .u8 0, .int .u8 0, .int .u8 0, .int .u8 0] 25)).setCells w1.heap.size 0 X := ⟨_, rfl⟩
  rw [← eV] at A1 B1 ⊢
  clear eV
  generalize w1.heap.size = g1 at *
  go_wp2_with fail
  refine (CS.out _ (HR.out.below B1.out)).mono ?_
  rintro e w2 ⟨rfl, b2⟩
  obtain ⟨hst, hA, hb⟩ := four_stored w2 X hXl hXo
  have A1 := Lib.hid ((A1.out.below b2).below hb)
  have A2 := Lib.hid hA
  have B2 := Lib.hid (below_both (below_both B1.out b2) hb)
  clear b2 hA hb B1
  go_upto_region 3 with fail
  clear hst
  obtain ⟨V2, eV⟩ : ∃ V, V = (w2.alloc (.cells #[.int .i64 0, .int .i64 0, .int .i64 0, .int .i64 0, .int .i64 0, .int .i64 0, .int .i64 0, .int .i64 0, .int .i64 0, .int .u8 0, .int .u8 0, .int .u8 0, .int .u8 0, .int .u8 0, .int .u8 0, .int .u8 0, .int .u8 0] 25)).setCells w2.heap.size 0 X := ⟨_, rfl⟩
  rw [← eV] at A1 A2 B2 ⊢
  clear eV
  generalize w2.heap.size = g2 at *
  go_wp2_with fail
  refine (CO.out _ (HR.out.below B2.out)).mono ?_
  rintro e w3 ⟨v3, rfl, e3, b3⟩
  have A1 := Lib.hid (A1.out.below b3)
  have A2 := Lib.hid (A2.out.below b3)
  have B3 := Lib.hid (below_both B2.out b3)
  have E3 := Lib.hid e3
  clear b3 e3 B2
  go_wp2_with fail
  refine (CP.out _ (HR.out.below B3.out)).mono ?_
  rintro e w4 ⟨v4, rfl, e4, b4⟩
  have A1 := Lib.hid (A1.out.below b4)
  have A2 := Lib.hid (A2.out.below b4)
  have B4 := Lib.hid (below_both B3.out b4)
  have E3 := Lib.hid (E3.out.below b4)
  have E4 := Lib.hid e4
  clear b4 e4 B3
  go_wp2_with fail
  refine (live10 _).mono ?_
  rintro e w5 ⟨rfl, b5⟩
  have A1 := Lib.hid (A1.out.below b5)
  have A2 := Lib.hid (A2.out.below b5)
  have B5 := Lib.hid (below_both B4.out b5)
  have E3 := Lib.hid (E3.out.below b5)
  have E4 := Lib.hid (E4.out.below b5)
  clear b5 B4
  have heq := HEQ.out
  have hdd : ((d : Int) == (d : Int)) = true := by simp
  have hbb : (ob == ob) = true := by simp
  go_wp2_with (first | refine wpList_load_vg (by rfl) 25 (.tmp 3) rfl _ rfl tyfour A1.out hXl ?_ | refine wpList_load_vg (by rfl) 25 (.tmp 5) rfl _ rfl tyfour A2.out hXl ?_ | fail)
  refine (sameexts M _ _ _ HM.out.1 HM.out.2 E3.out E4.out).mono ?_
  rintro e w6 ⟨rfl, b6⟩
  have B6 := Lib.hid (below_both B5.out b6)
  clear b6 A1 A2 B5
  go_wp2_with fail
  refine (CA.out _ (HR.out.below B6.out)).mono ?_
  rintro e w7 ⟨v7, rfl, d7, b7⟩
  have D7 := Lib.hid d7
  have B7 := Lib.hid (below_both B6.out b7)
  clear b7 d7 B6
  go_wp2_with fail
  refine (CB.out _ (HR.out.below B7.out)).mono ?_
  rintro e w8 ⟨v8, rfl, d8, b8⟩
  have D7 := Lib.hid (D7.out.below b8)
  have D8 := Lib.hid d8
  have B8 := Lib.hid (below_both B7.out b8)
  clear b8 d8 B7
  go_wp2_with fail
  refine (samedefs D _ _ _ (Nat.le_trans HL.out (by decide)) D7.out D8.out).mono ?_
  rintro e w9 ⟨rfl, b9⟩
  have B9 := Lib.hid (below_both B8.out b9)
  clear b9 B8
  go_wp2_with fail
  go_ret
  exact ⟨rfl, B9.out⟩
end Go.Proofs.Yteldjcdoohafcaa
