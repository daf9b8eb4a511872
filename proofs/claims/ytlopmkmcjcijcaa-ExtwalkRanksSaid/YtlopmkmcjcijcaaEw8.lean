/-
  The contract of extwalk's List.
-/
import Derived.Test.YtlopmkmcjcijcaaEw7
namespace Go.Proofs.Ytlopmkmcjcijcaa
open Go.RowKit
set_option linter.unusedVariables false

def ListIs (w : World) (M : List (Nat × List Nat)) (e : Ending) (w' : World) : Prop := ∃ v, e = .returned v ∧ Exts w.heap.size w' v M ∧ Below w.heap.size w w'
theorem tour_field (t : Tour) (A : Option Addr) (N c : Nat) (X : Array Value) (hX : X = (Tour.cells t (.slice A N c)).toArray) (w : World) : (Instr.field 82 (.agg X) 1).run Try.prog w = .ok (.slice A N c) w := by
  subst hX
  simp [Tour.cells, Instr.field, asAgg, run_underlying Try.underlying82, go_sem]
theorem idx_thousand {j N : Nat} (hj : j ≤ N) (h8 : N ≤ 1000) : (j : Int) ≤ 1000 := by omega
theorem take_snoc {α : Type} {M : List α} {j : Nat} {m : α} (h : M[j]? = some m) : M.take (j + 1) = M.take j ++ [m] := by
  obtain ⟨h1, h2⟩ := List.getElem?_eq_some_iff.1 h
  rw [List.take_succ_eq_append_getElem h1, h2]
set_option maxRecDepth 10000 in
set_option maxHeartbeats 6400000 in
theorem exlist_any (k : Int) (A : Option Addr) (n c : Nat) (bs : List Nat) (w : World) (hc : n ≤ c) (hc2 : n ≤ 140737488351232) (hR : Row w A n bs) (hM8 : ((walkF n bs 9 (Tour.start k) []).2).length ≤ 1000) (hMb : ∀ m ∈ (walkF n bs 9 (Tour.start k) []).2, m.2.length ≤ 140737488355328) :
    Calls Try.prog 25 #[.int .i64 k, .slice A n c] w (ListIs w (walkF n bs 9 (Tour.start k) []).2) := by
  have CW := Lib.hid (exwalk_any k A n c bs w hc hc2 hR)
  unfold WalkIs at CW
  obtain ⟨R, hRR⟩ : ∃ R, R = walkF n bs 9 (Tour.start k) [] := ⟨_, rfl⟩
  rw [← hRR] at CW hM8 hMb ⊢
  obtain ⟨t, M⟩ := R
  have HM8 : Hid (M.length ≤ 1000) := hM8
  have HMB : Hid (∀ m ∈ M, m.2.length ≤ 140737488355328) := hMb
  show Calls _ _ _ _ (ListIs w M)
  clear hRR hR hc hc2 hM8 hMb
  go_enter Try.func25, Try.ntmps25
  go_wp2_with fail
  refine CW.out.mono ?_
  rintro e w1 ⟨pv, rfl, hE, b1⟩
  have HE := Lib.hid hE.read
  have B1 := Lib.hid b1
  obtain ⟨A2, c2, e2, _⟩ := hE.slice
  have e2 : pv = .slice A2 M.length c2 := e2
  subst e2
  have HE : Hid (ExtRead w1 (.slice A2 M.length c2) M) := HE
  obtain ⟨N, hN⟩ : ∃ N, N = M.length := ⟨_, rfl⟩
  rw [← hN] at HE ⊢
  obtain ⟨X, hX⟩ : ∃ X, X = (Tour.cells t (.slice A2 N c2)).toArray := ⟨_, rfl⟩
  have hf := tour_field t A2 N c2 X hX
  simp only [← hX]
  clear hX
  have HN := Lib.hid hN
  clear hE b1 hN
  go_wp2_with fail
  go_loopw [5, 15] (fun out i V => ∃ j : Nat, j ≤ N ∧ i = .int .i64 (j : Nat) ∧ Exts w1.heap.size V out (M.take j) ∧ Below w1.heap.size w1 V) (fun out i V => N - (intOf i).toNat)
  case atStart => exact ⟨0, Nat.zero_le _, rfl, Exts.nil _ _, Below.refl _ _⟩
  case round =>
    obtain ⟨j, hj, rfl, hO, hW⟩ := hrel
    have HO := Lib.hid hO
    have HW := Lib.hid hW
    by_cases hlt : j < N
    · obtain ⟨⟨k2, bd⟩, hm⟩ : ∃ m, M[j]? = some m := ⟨_, List.getElem?_eq_getElem (by rw [← HN.out]; exact hlt)⟩
      have HT := Lib.hid (take_snoc hm)
      have hbd : bd.length ≤ 140737488355328 := HMB.out (k2, bd) (List.mem_of_getElem? hm)
      have hE := HE.out
      obtain ⟨A3, c3, e3, hc3, hcell⟩ := hE.below hW
      rw [← HN.out] at e3
      cases e3
      obtain ⟨b, o, bv, rfl, hb, cc1, cc2, ⟨A4, c4, rfl, hc4, hrow⟩⟩ := hcell j (k2, bd) hm
      have jI : (j : Int) < (N : Int) := Int.ofNat_lt.2 hlt
      have j0 : (0 : Int) ≤ (j : Int) := Int.natCast_nonneg j
      have hjN : (j : Int) ≤ 1000 := idx_thousand (Nat.le_of_lt hlt) (by rw [HN.out]; exact HM8.out)
      have HLT := Lib.hid hlt
      have HR4 := Lib.hid hrow
      have HCB := Lib.hid (And.intro hc4 hbd)
      have HL6 : Hid ((M.take j).length ≤ 1000000) := by show (M.take j).length ≤ _; rw [List.length_take]; exact Nat.le_trans (Nat.min_le_right _ _) (Nat.le_trans HM8.out (by decide))
      simp only [] at cc1 cc2
      clear hm hbd hE hc3 hcell hc4 hrow hj hlt hO hW hb
      go_upto_region 5 with fail
      obtain ⟨W3, eW3⟩ : ∃ W3, W3 = wr.alloc (.cells #[.int .i64 (k2 : Nat), .slice A4 bd.length c4] 45) := ⟨_, rfl⟩
      have hA3 : ArrV 45 W3 wr.heap.size [.int .i64 (k2 : Nat), .slice A4 bd.length c4] := by rw [eW3]; exact ArrV.new _ wr _
      have hB3 : Below wr.heap.size wr W3 := by rw [eW3]; exact (Below.refl _ _).alloc (Nat.le_refl _) _
      have d0 := hA3.get 0
      have d1 := hA3.get 1
      simp at d0 d1
      have HA3 := Lib.hid hA3
      have HO := Lib.hid (HO.out.below hB3)
      have HW := Lib.hid (below_both HW.out hB3)
      have HR4 := Lib.hid (HR4.out.below hB3)
      rw [← eW3]
      obtain ⟨g7, hg7⟩ : ∃ g, g = wr.heap.size := ⟨_, rfl⟩
      rw [← hg7] at HA3 d0 d1 ⊢
      clear eW3 hA3 hB3 cc1 cc2 hg7
      have CC : Hid (Calls Try.prog 57 #[.slice A4 bd.length c4, .int .i64 0, .int .i64 (bd.length : Nat)] W3 (CutTo W3 bd)) := by
        have h := cut_far A4 bd.length c4 0 bd.length bd W3 HCB.out.1 HCB.out.2 (by rw [Nat.zero_add]; exact Nat.le_refl _) HR4.out
        rw [List.drop_zero, List.take_length] at h
        exact h
      unfold CutTo at CC
      go_wp2_with fail
      refine CC.out.mono ?_
      rintro e w5 ⟨rfl, ho5, b5⟩
      have HA3 := Lib.hid (HA3.out.below b5)
      have HLO := Lib.hid (HO.out.lt)
      have HBD : Hid (BodyAt w5 u5.ownBlock (.slice (some ⟨W3.heap.size, 0, none⟩) bd.length bd.length) bd) := ⟨_, _, rfl, Nat.le_refl _, ho5.row HR4.out.2.1, fun ad h => by
        cases h
        exact ⟨fun e => Nat.lt_irrefl _ (HLO.out _ e).2, ho5.lt⟩⟩
      have HO := Lib.hid (HO.out.below b5)
      have HW := Lib.hid (below_both HW.out b5)
      have d0 := HA3.out.get 0
      simp at d0
      clear b5 ho5 CC d1 HR4
      obtain ⟨g8, hg8⟩ : ∃ g, g = W3.heap.size := ⟨_, rfl⟩
      rw [← hg8] at HBD ⊢
      clear hg8
      go_wp2_with (at_builtin; refine wpList_append_ext (B := w1.heap.size) (W := w1) (wr := w5) (k := k2) (l := bd) rfl (.tmp 28) (.tmp 33) rfl rfl rfl HO.out HBD.out rfl HW.out HW.out.size HL6.out ?_; intro v6 w6 ho6 hb6; have O6 := Lib.hid ho6; have B6 := Lib.hid hb6; clear ho6 hb6)
      all_goals
        go_roundw
        case rel => exact ⟨j + 1, HLT.out, by go_num, by rw [HT.out]; exact O6.out, B6.out⟩
        case measure => have hms := idx_meas HLT.out; simpa [intOf] using hms
    · obtain rfl : j = N := Nat.le_antisymm hj (Nat.le_of_not_lt hlt)
      rw [List.take_of_length_le (by rw [HN.out]; exact Nat.le_refl _)] at HO
      have jN : ¬ (j : Int) < (j : Int) := Int.lt_irrefl _
      clear hO hW hj hlt
      go_wp2_with fail
      go_ret
      exact ⟨_, rfl, HO.out.mono B1.out.size, below_both B1.out HW.out⟩
end Go.Proofs.Ytlopmkmcjcijcaa
