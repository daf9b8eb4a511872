/-
  Contracts of the document's run and groups of layer 6.
-/
import Derived.Test.YtdeoeikpooonlaaDoorRCol1
import Derived.Test.YtdeoeikpooonlaaDoorWCBack
namespace Go.Proofs.YtdeoeikpooonlaaDoor
open Go.RowKit
set_option linter.unusedVariables false

theorem sum_up {a b : Nat} (h : a + b ≤ 20) : wrap64 ((a : Int) + (b : Int)) = ((a + b : Nat) : Int) := by
  have h2 : wrap64 ((a : Int) + (b : Int)) = (a : Int) + (b : Int) := by unfold wrap64; omega
  rw [h2]
  rfl
theorem grps_getD (X : List Nat) (k : Nat) (hk : k < 8) : (grps X).getD k 0 = grp X k := by
  rw [List.getD_eq_getElem?_getD, grps_get X k hk]
  rfl
set_option maxRecDepth 10000 in
set_option maxHeartbeats 1600000 in
theorem rrun_any (X : List Nat) (f : Nat) (w : World) (hX : X.length = 16) (bX : ∀ x ∈ X, x < 256) (hf : f ≤ 8) :
    Calls Tryd.prog 65 #[.agg (bcells X).toArray, .int .i64 f] w fun e w' => e = .returned (.int .i64 (zrun ((grps X).drop f) : Nat)) ∧ Below w.heap.size w w' := by
  have hs16 : (bcells X).length = 16 := by rw [bcells_length, hX]
  have A0 : Hid (ArrV 37 (w.alloc (.cells (bcells X).toArray 37)) w.heap.size (bcells X)) := ArrV.new _ w _
  have B0 : Hid (Below w.heap.size w (w.alloc (.cells (bcells X).toArray 37))) := (Below.refl _ _).alloc (Nat.le_refl _) _
  have CG := Lib.hid (fun k w hk => rgroup_in X k w hX bX hk)
  have HD := Lib.hid (fun k hk => grps_getD X k hk)
  have HL := Lib.hid (grps_length X)
  clear hX bX
  generalize hgs : grps X = gs at *
  clear hgs
  go_enter Tryd.func65, Tryd.ntmps65
  go_wp2_with fail
  go_loopw [5] (fun i wr => ∃ n : Nat, f + n ≤ 8 ∧ i = .int .i64 n ∧ Hid (n ≤ zrun (gs.drop f)) ∧ Hid (ArrV 37 wr w.heap.size (bcells X)) ∧ Hid (Below w.heap.size w wr)) (fun i _ => 8 - (intOf i).toNat)
  case atStart => exact ⟨0, by omega, rfl, Nat.zero_le _, A0.out, B0.out⟩
  case round =>
    clear A0 B0
    obtain ⟨n, hn, rfl, HZ, A0, B0⟩ := hrel
    have HN := Lib.hid (zrun_next gs f n HZ.out)
    have ws := sum_up (a := f) (b := n) (by omega)
    obtain ⟨j, hj⟩ : ∃ j, j = f + n := ⟨_, rfl⟩
    rw [← hj] at ws HN hn
    have hjI : (f : Int) + (n : Int) = (j : Int) := by omega
    have HJ := Lib.hid hj
    have HN8 := Lib.hid hn
    clear hj hn
    by_cases h8 : j < 8
    · have CJ := Lib.hid (fun w => CG.out j w h8)
      have HDJ : Hid (gs.getD j 0 = grp X j) := HD.out j h8
      have h8i : (j : Int) < 8 := by omega
      have wk : wrap64 ((n : Int) + 1) = ((n + 1 : Nat) : Int) := wrap_inc (by have := HN8.out; have := HJ.out; omega)
      obtain ⟨g, hg⟩ : ∃ g, grp X j = g := ⟨_, rfl⟩
      rw [hg] at CJ HDJ
      by_cases hz : g = 0
      · have HZ1 : Hid (n + 1 ≤ zrun (gs.drop f)) := HN.out.1 (by rw [HL.out]; exact h8) (by rw [HDJ.out]; exact hz)
        subst hz
        go_upto_region 2 with fail
        refine wp_region_lit ?_
        go_wp2_with (first | refine wpList_load_vg (by rfl) 37 (.tmp 2) rfl _ rfl ty16 A0.out hs16 ?_ | fail)
        refine (CJ.out _).mono ?_
        rintro e w1 ⟨rfl, b1⟩
        have A1 := Lib.hid (A0.out.below b1)
        have B1 := Lib.hid (below_both B0.out b1)
        clear b1
        go_wp2_with fail
        go_roundw
        case rel => exact ⟨n + 1, by have := HJ.out; omega, by go_num, HZ1.out, A1.out, B1.out⟩
        case measure => simp [intOf]; have := HJ.out; omega
      · have E : Hid (n = zrun (gs.drop f)) := HN.out.2.1 (by rw [HL.out]; exact h8) (by rw [HDJ.out]; exact hz)
        have q : ((g : Int) == 0) = false := by simp; omega
        clear hz
        go_upto_region 2 with fail
        refine wp_region_lit ?_
        go_wp2_with (first | refine wpList_load_vg (by rfl) 37 (.tmp 2) rfl _ rfl ty16 A0.out hs16 ?_ | fail)
        refine (CJ.out _).mono ?_
        rintro e w1 ⟨rfl, b1⟩
        have B1 := Lib.hid (below_both B0.out b1)
        clear b1
        go_wp2_with fail
        go_ret
        exact ⟨by rw [← E.out]; rfl, B1.out⟩
    · have wj : wrap64 (j : Int) = (j : Int) := by have := HN8.out; unfold wrap64; omega
      have h8i : (8 : Int) ≤ (j : Int) := by omega
      have E : Hid (n = zrun (gs.drop f)) := HN.out.2.2 (by rw [HL.out]; have := HJ.out; omega) (by rw [HL.out]; exact hf)
      go_wp2_with fail
      go_ret
      exact ⟨by rw [← E.out]; rfl, B0.out⟩

theorem gsjoin_snoc (l : List Nat) (g : Nat) : gsjoin (l ++ [g]) = gsjoin l ++ (if l = [] then [] else [58]) ++ gtext g := by
  induction l with
  | nil => simp [gsjoin_one, gsjoin_nil]
  | cons a l ih =>
    rw [List.cons_append, gsjoin_cons _ _ (by simp), ih]
    by_cases h : l = []
    · subst h
      simp [gsjoin_one, gsjoin_nil]
    · rw [gsjoin_cons _ _ h, if_neg h, if_neg (by simp)]
      simp
theorem gstr_snoc0 (g : Nat) : (⟨#[]⟩ : ByteArray) ++ gt g = gstr ([] ++ [g]) := by
  apply ByteArray.ext
  simp [gstr, gt, gsjoin_one]
theorem gstr_snoc {l : List Nat} (h : l ≠ []) (g : Nat) : (gstr l ++ ⟨#[58]⟩) ++ gt g = gstr (l ++ [g]) := by
  apply ByteArray.ext
  simp [gstr, gt, gsjoin_snoc, h]
theorem part_next (gs : List Nat) (a i : Nat) (ha : a ≤ i) (hi : i < gs.length) : (gs.take (i + 1)).drop a = (gs.take i).drop a ++ [gs.getD i 0] := by
  rw [List.take_succ_eq_append_getElem hi, List.drop_append_of_le_length (by rw [List.length_take]; omega), List.getD_eq_getElem?_getD, List.getElem?_eq_getElem hi]
  rfl
theorem gt_size {g : Nat} (h : g < 65536) : (gt g).size ≤ 4 := by
  have h1 := (gtext_all g h).le
  have e : (gt g).size = (gtext g).length := by simp [gt, ByteArray.size]
  omega
set_option maxRecDepth 10000 in
set_option maxHeartbeats 1600000 in
theorem rgroups_any (X : List Nat) (a b : Nat) (w : World) (hX : X.length = 16) (bX : ∀ x ∈ X, x < 256) (hab : a ≤ b) (hb : b ≤ 8) :
    Calls Tryd.prog 66 #[.agg (bcells X).toArray, .int .i64 a, .int .i64 b] w fun e w' => e = .returned (.string (gstr (((grps X).take b).drop a))) ∧ Below w.heap.size w w' := by
  have hs16 : (bcells X).length = 16 := by rw [bcells_length, hX]
  have A0 : Hid (ArrV 37 (w.alloc (.cells (bcells X).toArray 37)) w.heap.size (bcells X)) := ArrV.new _ w _
  have B0 : Hid (Below w.heap.size w (w.alloc (.cells (bcells X).toArray 37))) := (Below.refl _ _).alloc (Nat.le_refl _) _
  have CG := Lib.hid (fun k w hk => rgroup_in X k w hX bX hk)
  have HD := Lib.hid (fun k hk => grps_getD X k hk)
  have HL := Lib.hid (grps_length X)
  have HB := Lib.hid (grps_lt bX)
  have HG := Lib.hid (fun k => grp_lt bX k)
  clear hX bX
  generalize hgs : grps X = gs at *
  clear hgs
  go_enter Tryd.func66, Tryd.ntmps66
  go_wp2_with fail
  go_loopw [7, 8] (fun s i wr => ∃ k : Nat, a ≤ k ∧ k ≤ b ∧ i = .int .i64 k ∧ s = .string (gstr ((gs.take k).drop a)) ∧ Hid (ArrV 37 wr w.heap.size (bcells X)) ∧ Hid (Below w.heap.size w wr)) (fun _ i _ => b - (intOf i).toNat)
  case atStart => exact ⟨a, Nat.le_refl _, hab, rfl, by rw [List.drop_of_length_le (by rw [List.length_take]; omega)]; rfl, A0.out, B0.out⟩
  case round =>
    clear A0 B0
    obtain ⟨k, hak, hkb, rfl, rfl, A0, B0⟩ := hrel
    by_cases hlt : k < b
    · have CK := Lib.hid (fun w => CG.out k w (by omega))
      have HPN := part_next gs a k hak (by rw [HL.out]; omega)
      rw [HD.out k (by omega)] at HPN
      have hgk := HG.out k
      have CH := Lib.hid (fun w => rhex_any (grp X k) w hgk)
      have wk : wrap64 ((k : Int) + 1) = ((k + 1 : Nat) : Int) := wrap_inc (by omega)
      have hsz := gt_size hgk
      have hss : (gstr ((gs.take k).drop a)).size ≤ 40 := gstr_size (fun g hg => HB.out g (List.mem_of_mem_take (List.mem_of_mem_drop hg))) (by rw [List.length_drop, List.length_take]; omega)
      obtain ⟨g, hg⟩ : ∃ g, grp X k = g := ⟨_, rfl⟩
      rw [hg] at CK CH HPN hsz
      obtain ⟨l, hl⟩ : ∃ l, (gs.take k).drop a = l := ⟨_, rfl⟩
      rw [hl] at HPN hss ⊢
      have hll : (k = a → l = []) ∧ (a < k → l ≠ []) := by
        have e : l.length = k - a := by rw [← hl, List.length_drop, List.length_take, HL.out]; omega
        constructor
        · intro h
          exact List.eq_nil_of_length_eq_zero (by omega)
        · intro h h2
          rw [h2] at e
          simp at e
          omega
      have HPN := Lib.hid HPN
      have hltI : (k : Int) < (b : Int) := by omega
      clear hg hl hgk
      by_cases hka : k = a
      · have hl0 := hll.1 hka
        subst hl0
        have E := Lib.hid (gstr_snoc0 g)
        have s1 : (⟨#[]⟩ : ByteArray).size + (gt g).size ≤ 9223372036854775807 := by show 0 + (gt g).size ≤ _; omega
        have hkI : (k : Int) ≤ (a : Int) := by omega
        have hg0 : gstr [] = ⟨#[]⟩ := rfl
        rw [hg0]
        clear hll hss hsz hka
        generalize gt g = tg at *
        go_upto_region 7 with fail
        refine wp_region_lit ?_
        go_wp2_with (first | refine wpList_load_v rfl 37 (.tmp 3) rfl _ rfl ty16 A0.out hs16 ?_ | fail)
        refine (CK.out _).mono ?_
        rintro e w1 ⟨rfl, b1⟩
        have A1 := Lib.hid (A0.out.below b1)
        have B1 := Lib.hid (below_both B0.out b1)
        clear b1
        go_wp2_with fail
        refine (CH.out _).mono ?_
        rintro e w2 ⟨rfl, rfl⟩
        go_wp2_with fail
        go_roundw
        case rel => exact ⟨k + 1, by omega, by omega, by go_num, by rw [HPN.out, ← E.out], A1.out, B1.out⟩
        case measure => simp [intOf]; omega
      · have hl0 := hll.2 (by omega)
        have E := Lib.hid (gstr_snoc hl0 g)
        obtain ⟨t, ht⟩ : ∃ t, gstr l = t := ⟨_, rfl⟩
        rw [ht] at hss E ⊢
        have s1 : t.size + (⟨#[58]⟩ : ByteArray).size ≤ 9223372036854775807 := by show t.size + 1 ≤ _; omega
        have s2 : (t ++ ⟨#[58]⟩).size + (gt g).size ≤ 9223372036854775807 := by rw [ByteArray.size_append]; show t.size + 1 + (gt g).size ≤ _; omega
        have hkI : (a : Int) < (k : Int) := by omega
        clear hll hss hsz hka ht
        generalize gt g = tg at *
        go_upto_region 7 with fail
        refine wp_region_lit ?_
        go_wp2_with (first | refine wpList_load_v rfl 37 (.tmp 3) rfl _ rfl ty16 A0.out hs16 ?_ | fail)
        refine (CK.out _).mono ?_
        rintro e w1 ⟨rfl, b1⟩
        have A1 := Lib.hid (A0.out.below b1)
        have B1 := Lib.hid (below_both B0.out b1)
        clear b1
        go_wp2_with fail
        refine (CH.out _).mono ?_
        rintro e w2 ⟨rfl, rfl⟩
        go_wp2_with fail
        go_roundw
        case rel => exact ⟨k + 1, by omega, by omega, by go_num, by rw [HPN.out, ← E.out], A1.out, B1.out⟩
        case measure => simp [intOf]; omega
    · obtain rfl : k = b := by omega
      go_wp2_with fail
      go_ret
      exact ⟨rfl, B0.out⟩
end Go.Proofs.YtdeoeikpooonlaaDoor
