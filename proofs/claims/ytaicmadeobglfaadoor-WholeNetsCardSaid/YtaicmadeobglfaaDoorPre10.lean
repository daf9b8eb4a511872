/-
  The contract of prefix's Parse.
-/
import Derived.Test.YtaicmadeobglfaaDoorPre9
namespace Go.Proofs.YtaicmadeobglfaaDoor
open Go.RowKit Go.Lib
set_option linter.unusedVariables false

theorem slash_any (s : ByteArray) (w : World) (hs : s.size < 4294967281) (hm : MaxL w) :
    Calls Tryd.prog 14 #[.string s, .string ⟨#[47]⟩] w fun e w' => e = .returned (.tuple #[.string ⟨(Lib.cut s.data.toList [47]).1.toArray⟩, .string ⟨(Lib.cut s.data.toList [47]).2.1.toArray⟩, .bool (Lib.cut s.data.toList [47]).2.2]) ∧ Below w.heap.size w w' := by
  obtain ⟨m, hm⟩ := hm
  refine (show Calls Tryd.prog 14 #[.string s, .string ⟨#[47]⟩] w _ from Any.strings_Cut lays145 s ⟨#[47]⟩ m w hs hm).mono ?_
  rintro e w' ⟨rfl, n, rfl⟩
  exact ⟨rfl, below_drewN' (Below.refl _ _) n⟩
theorem cut_le (l : List UInt8) : (Lib.cut l [47]).1.length ≤ l.length := by
  unfold Lib.cut
  split
  · rw [List.length_take]; omega
  · exact Nat.le_refl _
/-- A text's prefix, and what is wrong. -/
def pparse (l : List UInt8) : List Value × Int := match wholeV (Lib.cut l [47]).1 with
  | none => (pcells 0 zero16 0, 3)
  | some (V, X) => if numOkM 3 (Lib.cut l [47]).2.1 = true then
      if pcheck V X (numv (Lib.cut l [47]).2.1 : Nat) = 0 then (pcells V X (numv (Lib.cut l [47]).2.1 : Nat), 0) else (pcells 0 zero16 0, pcheck V X (numv (Lib.cut l [47]).2.1 : Nat))
    else (pcells 0 zero16 0, 3)
theorem bytes_len (s : ByteArray) : s.data.toList.length = s.size := Array.length_toList
theorem mk_size (l : List UInt8) : (⟨l.toArray⟩ : ByteArray).size = l.length := List.size_toArray
theorem pcells_set17 {V : Int} {X : List Nat} {n n' : Int} (hX : X.length = 16) : (pcells V X n).set 17 (.int .i64 n') = pcells V X n' := by
  obtain ⟨a, b, c, d, e, f, g, h, i, j, k, l, m, n0, o, p, rfl⟩ := split16 hX
  rfl
theorem num_small {l : List UInt8} (h : numOkM 3 l = true) : numv l ≤ 999 := numv_three l (by rw [numOk_three] at h; exact h)
theorem conv_small {n : Nat} (h : n ≤ 999) : wrap64 (n : Int) = (n : Int) := by unfold wrap64; omega
set_option maxRecDepth 10000 in
set_option maxHeartbeats 6400000 in
theorem pparse_any (s : ByteArray) (w : World) (hs : s.size < 4294967000) (hT : Six w) : Calls Tryd.prog 7 #[.string s] w fun e w' => e = .returned (.tuple #[.agg (pparse s.data.toList).1.toArray, .int .i64 (pparse s.data.toList).2]) ∧ Below w.heap.size w w' := by
  have HT := Lib.hid hT
  have CU := Lib.hid (fun w h => slash_any s w (by omega) h)
  have hle := cut_le s.data.toList
  have hl := bytes_len s
  have HP : Hid (pparse s.data.toList = match wholeV (Lib.cut s.data.toList [47]).1 with
    | none => (pcells 0 zero16 0, 3)
    | some (V, X) => if numOkM 3 (Lib.cut s.data.toList [47]).2.1 = true then
      if pcheck V X (numv (Lib.cut s.data.toList [47]).2.1 : Nat) = 0 then (pcells V X (numv (Lib.cut s.data.toList [47]).2.1 : Nat), 0) else (pcells 0 zero16 0, pcheck V X (numv (Lib.cut s.data.toList [47]).2.1 : Nat))
      else (pcells 0 zero16 0, 3)) := rfl
  obtain ⟨t1, ht1⟩ : ∃ t, t = (Lib.cut s.data.toList [47]).1 := ⟨_, rfl⟩
  obtain ⟨t2, ht2⟩ : ∃ t, t = (Lib.cut s.data.toList [47]).2.1 := ⟨_, rfl⟩
  obtain ⟨bb, hbb⟩ : ∃ b, b = (Lib.cut s.data.toList [47]).2.2 := ⟨_, rfl⟩
  rw [← ht1, ← ht2, ← hbb] at CU
  rw [← ht1, ← ht2] at HP
  rw [← ht1] at hle
  obtain ⟨s1, hs1⟩ : ∃ s : ByteArray, s = ⟨t1.toArray⟩ := ⟨_, rfl⟩
  obtain ⟨s2, hs2⟩ : ∃ s : ByteArray, s = ⟨t2.toArray⟩ := ⟨_, rfl⟩
  rw [← hs1, ← hs2] at CU
  have e1 : s1.data.toList = t1 := by rw [hs1]
  have e2 : s2.data.toList = t2 := by rw [hs2]
  have hz1 : s1.size < 4294967000 := by
    have : s1.size = t1.length := by rw [hs1]; exact mk_size t1
    omega
  have CW := Lib.hid (fun w h => pwhole_any s1 w hz1 h)
  rw [e1] at CW
  have DOK := Lib.hid (fun w h => decimal_ok 3 s2 w (by decide) (numv t2) (by rw [e2]; exact h) (by rw [e2]))
  have DBAD := Lib.hid (fun w h => decimal_bad 3 s2 w (by decide) (by rw [e2]; exact h))
  clear ht1 ht2 hbb hs1 hs2 hle hl hz1 hT hs e1 e2
  have K0 : Hid (KV w [(24, w.heap.size, pcells 0 zero16 0)] (w.alloc (.cells (pcells 0 zero16 0).toArray 24))) := KV.one w _ _
  obtain ⟨ZZ, hZZ⟩ : ∃ Z, Z = pcells 0 zero16 0 := ⟨_, rfl⟩
  have HZ : Hid (Value.agg #[.int .i64 0, .int .u8 0, .int .u8 0, .int .u8 0, .int .u8 0, .int .u8 0, .int .u8 0, .int .u8 0, .int .u8 0, .int .u8 0, .int .u8 0, .int .u8 0, .int .u8 0, .int .u8 0, .int .u8 0, .int .u8 0, .int .u8 0, .int .i64 0] = .agg ZZ.toArray) := by show _ = _; rw [hZZ]; rfl
  have HZl : Hid (ZZ.length = 18) := by show _ = _; rw [hZZ]; rfl
  have HZo : Hid (∀ v ∈ ZZ, v.oneCell' = true) := by show ∀ v ∈ ZZ, v.oneCell' = true; rw [hZZ]; exact zero18_one
  rw [← hZZ] at HP
  cases hw : wholeV t1 with
  | none =>
    have HF : Hid (pparse s.data.toList = (ZZ, 3)) := by show _ = _; rw [HP.out, hw]
    rw [hw] at CW
    obtain ⟨R, hR⟩ : ∃ R, R = wcells none := ⟨_, rfl⟩
    have HRl : Hid (R.length = 18) := by show _ = _; rw [hR]; rfl
    have HRo : Hid (∀ v ∈ R, v.oneCell' = true) := by show ∀ v ∈ R, v.oneCell' = true; rw [hR]; exact zero18_one
    have CW3 : Hid (∀ w, Six w → Calls Tryd.prog 15 #[.string s1] w fun e w' => e = .returned (.tuple #[.agg R.toArray, .int .i64 3]) ∧ Below w.heap.size w w') := by rw [hR]; exact CW.out
    clear hR hw CW HP DOK DBAD hZZ
    go_enter Tryd.func7, Tryd.ntmps7
    go_upto_region 1 with fail
    refine wp_region_lit ?_
    refine wpList_quiet_all (C := KV w [(24, w.heap.size, pcells 0 zero16 0)]) K0.out ?_
    repeat (first
      | go_big_quiet_skip
      | (go_big_quiet_want; go_big_quiet_op; go_big_quiet_on)
      | (go_big_quiet_want; go_big_quiet_op; apply Exists.intro; refine ⟨fun w' hw' => (by first | (with_reducible refine (CU.out w' (HT.out.below hw'.bel).max).mono ?_; rintro e w'' ⟨rfl, hb⟩; exact ⟨rfl, hw'.below hb⟩) | fail), ?_⟩; go_big_quiet_on)
      | (go_big_quiet_want; go_big_quiet_op; apply Exists.intro; refine ⟨fun w' hw' => rfl, ?_⟩; go_big_quiet_on))
    refine wpQuiet_nil ?_
    intro w1 hw1
    go_upto_region 2 with fail
    refine wp_region_lit ?_
    refine wpList_quiet_take (C := KV w [(24, w.heap.size, pcells 0 zero16 0)]) 5 hw1 ?_
    simp only [List.take, List.drop]
    repeat (first
      | go_big_quiet_skip
      | (go_big_quiet_want; go_big_quiet_op; go_big_quiet_on)
      | (go_big_quiet_want; go_big_quiet_op; apply Exists.intro; refine ⟨fun w' hw' => (by first | (with_reducible refine (CW3.out w' (HT.out.below hw'.bel)).mono ?_; rintro e w'' ⟨rfl, hb⟩; exact ⟨rfl, hw'.below hb⟩) | fail), ?_⟩; go_big_quiet_on)
      | (go_big_quiet_want; go_big_quiet_op; apply Exists.intro; refine ⟨fun w' hw' => rfl, ?_⟩; go_big_quiet_on))
    refine wpQuiet_nil ?_
    intro w2 hw2
    have K5 : Hid (KV w [(24, w.heap.size, pcells 0 zero16 0), (24, w2.heap.size, R)] ((w2.alloc (.cells (pcells 0 zero16 0).toArray 24)).setCells w2.heap.size 0 R)) := (hw2.new 24 (pcells 0 zero16 0)).store 1 rfl R (by rw [HRl.out]; rfl)
    have a5 := Lib.hid ((hw2.new 24 (pcells 0 zero16 0)).at 1 rfl)
    clear hw2 hw1 K0 CU CW3
    go_upto_region 3 with (first | refine wpList_store_v rfl 24 (.tmp 7) (.tmp 20) rfl _ rfl typfx a5.out zero18_len R HRl.out HRo.out rfl ?_ | fail)
    refine wp_region_lit ?_
    refine wpList_quiet_all (C := KV w [(24, w.heap.size, pcells 0 zero16 0), (24, w2.heap.size, R)]) K5.out ?_
    repeat (first
      | go_big_quiet_skip
      | (go_big_quiet_want; go_big_quiet_op; go_big_quiet_on)
      | (go_big_quiet_want; go_big_quiet_op; apply Exists.intro; refine ⟨fun w' hw' => rfl, ?_⟩; go_big_quiet_on))
    refine wpQuiet_nil ?_
    intro w3 hw3
    clear K5 a5
    have a1 := Lib.hid (hw3.at 0 rfl)
    have K9 := Lib.hid (hw3.store 0 rfl ZZ (by rw [HZl.out]; rfl))
    clear hw3
    go_wp2_with (first | refine wpList_store_v rfl 24 (.tmp 2) (.tmp 24) rfl _ rfl typfx a1.out zero18_len ZZ HZl.out HZo.out HZ.out ?_ | fail)
    exact bodyPost_ret (v := .tuple #[.agg ZZ.toArray, .int .i64 3]) (res_cell_tmp Tryd.results7 rfl ((K9.out.at 0 rfl).loadVar typfx HZl.out) rfl) rfl ⟨by rw [HF.out], K9.out.bel⟩
  | some p =>
    obtain ⟨V, X⟩ := p
    have hX := wholeV_adr hw
    have HR0 := Lib.hid (pc_parts V 0 hX.len)
    rw [hw] at CW HP
    obtain ⟨R, hR⟩ : ∃ R, R = pcells V X 0 := ⟨_, rfl⟩
    rw [← hR] at HR0
    have HRl : Hid (R.length = 18) := HR0.out.len
    have HRo : Hid (∀ v ∈ R, v.oneCell' = true) := HR0.out.one
    have CW3 : Hid (∀ w, Six w → Calls Tryd.prog 15 #[.string s1] w fun e w' => e = .returned (.tuple #[.agg R.toArray, .int .i64 0]) ∧ Below w.heap.size w w') := by rw [hR]; exact CW.out
    cases hn : numOkM 3 t2
    · have HF : Hid (pparse s.data.toList = (ZZ, 3)) := by show _ = _; rw [HP.out]; simp [hn]
      have CD : Hid (∀ w, Calls Tryd.prog 16 #[.string s2, .int .i64 3] w fun e w' => e = .returned (.tuple #[.int .u64 0, .int .i64 3]) ∧ Below w.heap.size w w') := fun w => DBAD.out w hn
      clear hR hw CW HP DOK DBAD hZZ hn hX HR0
      go_enter Tryd.func7, Tryd.ntmps7
      go_upto_region 1 with fail
      refine wp_region_lit ?_
      refine wpList_quiet_all (C := KV w [(24, w.heap.size, pcells 0 zero16 0)]) K0.out ?_
      repeat (first
        | go_big_quiet_skip
        | (go_big_quiet_want; go_big_quiet_op; go_big_quiet_on)
        | (go_big_quiet_want; go_big_quiet_op; apply Exists.intro; refine ⟨fun w' hw' => (by first | (with_reducible refine (CU.out w' (HT.out.below hw'.bel).max).mono ?_; rintro e w'' ⟨rfl, hb⟩; exact ⟨rfl, hw'.below hb⟩) | fail), ?_⟩; go_big_quiet_on)
        | (go_big_quiet_want; go_big_quiet_op; apply Exists.intro; refine ⟨fun w' hw' => rfl, ?_⟩; go_big_quiet_on))
      refine wpQuiet_nil ?_
      intro w1 hw1
      go_upto_region 2 with fail
      refine wp_region_lit ?_
      refine wpList_quiet_take (C := KV w [(24, w.heap.size, pcells 0 zero16 0)]) 5 hw1 ?_
      simp only [List.take, List.drop]
      repeat (first
        | go_big_quiet_skip
        | (go_big_quiet_want; go_big_quiet_op; go_big_quiet_on)
        | (go_big_quiet_want; go_big_quiet_op; apply Exists.intro; refine ⟨fun w' hw' => (by first | (with_reducible refine (CW3.out w' (HT.out.below hw'.bel)).mono ?_; rintro e w'' ⟨rfl, hb⟩; exact ⟨rfl, hw'.below hb⟩) | fail), ?_⟩; go_big_quiet_on)
        | (go_big_quiet_want; go_big_quiet_op; apply Exists.intro; refine ⟨fun w' hw' => rfl, ?_⟩; go_big_quiet_on))
      refine wpQuiet_nil ?_
      intro w2 hw2
      have K5 : Hid (KV w [(24, w.heap.size, pcells 0 zero16 0), (24, w2.heap.size, R)] ((w2.alloc (.cells (pcells 0 zero16 0).toArray 24)).setCells w2.heap.size 0 R)) := (hw2.new 24 (pcells 0 zero16 0)).store 1 rfl R (by rw [HRl.out]; rfl)
      have a5 := Lib.hid ((hw2.new 24 (pcells 0 zero16 0)).at 1 rfl)
      clear hw2 hw1 K0 CU CW3
      go_upto_region 3 with (first | refine wpList_store_v rfl 24 (.tmp 7) (.tmp 20) rfl _ rfl typfx a5.out zero18_len R HRl.out HRo.out rfl ?_ | fail)
      refine wp_region_lit ?_
      refine wpList_quiet_all (C := KV w [(24, w.heap.size, pcells 0 zero16 0), (24, w2.heap.size, R)]) K5.out ?_
      repeat (first
        | go_big_quiet_skip
        | (go_big_quiet_want; go_big_quiet_op; go_big_quiet_on)
        | (go_big_quiet_want; go_big_quiet_op; apply Exists.intro; refine ⟨fun w' hw' => rfl, ?_⟩; go_big_quiet_on))
      refine wpQuiet_nil ?_
      intro w3 hw3
      clear K5 a5
      go_upto_region 5 with fail
      refine wp_region_lit ?_
      refine wpList_quiet_all (C := KV w [(24, w.heap.size, pcells 0 zero16 0), (24, w2.heap.size, R)]) hw3 ?_
      repeat (first
        | go_big_quiet_skip
        | (go_big_quiet_want; go_big_quiet_op; go_big_quiet_on)
        | (go_big_quiet_want; go_big_quiet_op; apply Exists.intro; refine ⟨fun w' hw' => (by first | (with_reducible refine (CD.out w').mono ?_; rintro e w'' ⟨rfl, hb⟩; exact ⟨rfl, hw'.below hb⟩) | fail), ?_⟩; go_big_quiet_on)
        | (go_big_quiet_want; go_big_quiet_op; apply Exists.intro; refine ⟨fun w' hw' => rfl, ?_⟩; go_big_quiet_on))
      refine wpQuiet_nil ?_
      intro w4 hw4
      have a1 := Lib.hid (hw4.at 0 rfl)
      have K9 := Lib.hid (hw4.store 0 rfl ZZ (by rw [HZl.out]; rfl))
      clear hw4
      go_wp2_with (first | refine wpList_store_v rfl 24 (.tmp 2) (.tmp 33) rfl _ rfl typfx a1.out zero18_len ZZ HZl.out HZo.out HZ.out ?_ | fail)
      exact bodyPost_ret (v := .tuple #[.agg ZZ.toArray, .int .i64 3]) (res_cell_tmp Tryd.results7 rfl ((K9.out.at 0 rfl).loadVar typfx HZl.out) rfl) rfl ⟨by rw [HF.out], K9.out.bel⟩
    · obtain ⟨n, hnn⟩ : ∃ n, n = numv t2 := ⟨_, rfl⟩
      have hn9 : n ≤ 999 := by rw [hnn]; exact num_small hn
      have CD : Hid (∀ w, Calls Tryd.prog 16 #[.string s2, .int .i64 3] w fun e w' => e = .returned (.tuple #[.int .u64 n, .int .i64 0]) ∧ Below w.heap.size w w') := fun w => by rw [hnn]; exact DOK.out w hn
      obtain ⟨RN, hRN⟩ : ∃ RN, RN = pcells V X (n : Int) := ⟨_, rfl⟩
      have HRN := Lib.hid (pc_parts V (n : Int) hX.len)
      rw [← hRN] at HRN
      have HR17 : Hid (R[17]? = some (.int .i64 0)) := HR0.out.n
      have HRNs : Hid (R.set 17 (.int .i64 (n : Int)) = RN) := by show _ = _; rw [hR, hRN]; exact pcells_set17 hX.len
      have CC := Lib.hid (fun w => pcheck_any V X (n : Int) w hX)
      rw [← hRN] at CC
      have wn := conv_small hn9
      have HF0 : Hid (pparse s.data.toList = if pcheck V X (n : Int) = 0 then (RN, 0) else (ZZ, pcheck V X (n : Int))) := by
        show _ = _
        rw [HP.out, hRN, hnn]
        simp only [hn, if_true]
      clear hR hw CW HP DOK DBAD hZZ hn hX HR0 hnn hn9 hRN
      by_cases hc : pcheck V X (n : Int) = 0
      · have HF : Hid (pparse s.data.toList = (RN, 0)) := by show _ = _; rw [HF0.out, if_pos hc]
        rw [hc] at CC
        clear hc HF0
        go_enter Tryd.func7, Tryd.ntmps7
        go_upto_region 1 with fail
        refine wp_region_lit ?_
        refine wpList_quiet_all (C := KV w [(24, w.heap.size, pcells 0 zero16 0)]) K0.out ?_
        repeat (first
          | go_big_quiet_skip
          | (go_big_quiet_want; go_big_quiet_op; go_big_quiet_on)
          | (go_big_quiet_want; go_big_quiet_op; apply Exists.intro; refine ⟨fun w' hw' => (by first | (with_reducible refine (CU.out w' (HT.out.below hw'.bel).max).mono ?_; rintro e w'' ⟨rfl, hb⟩; exact ⟨rfl, hw'.below hb⟩) | fail), ?_⟩; go_big_quiet_on)
          | (go_big_quiet_want; go_big_quiet_op; apply Exists.intro; refine ⟨fun w' hw' => rfl, ?_⟩; go_big_quiet_on))
        refine wpQuiet_nil ?_
        intro w1 hw1
        go_upto_region 2 with fail
        refine wp_region_lit ?_
        refine wpList_quiet_take (C := KV w [(24, w.heap.size, pcells 0 zero16 0)]) 5 hw1 ?_
        simp only [List.take, List.drop]
        repeat (first
          | go_big_quiet_skip
          | (go_big_quiet_want; go_big_quiet_op; go_big_quiet_on)
          | (go_big_quiet_want; go_big_quiet_op; apply Exists.intro; refine ⟨fun w' hw' => (by first | (with_reducible refine (CW3.out w' (HT.out.below hw'.bel)).mono ?_; rintro e w'' ⟨rfl, hb⟩; exact ⟨rfl, hw'.below hb⟩) | fail), ?_⟩; go_big_quiet_on)
          | (go_big_quiet_want; go_big_quiet_op; apply Exists.intro; refine ⟨fun w' hw' => rfl, ?_⟩; go_big_quiet_on))
        refine wpQuiet_nil ?_
        intro w2 hw2
        have K5 : Hid (KV w [(24, w.heap.size, pcells 0 zero16 0), (24, w2.heap.size, R)] ((w2.alloc (.cells (pcells 0 zero16 0).toArray 24)).setCells w2.heap.size 0 R)) := (hw2.new 24 (pcells 0 zero16 0)).store 1 rfl R (by rw [HRl.out]; rfl)
        have a5 := Lib.hid ((hw2.new 24 (pcells 0 zero16 0)).at 1 rfl)
        clear hw2 hw1 K0 CU CW3
        go_upto_region 3 with (first | refine wpList_store_v rfl 24 (.tmp 7) (.tmp 20) rfl _ rfl typfx a5.out zero18_len R HRl.out HRo.out rfl ?_ | fail)
        refine wp_region_lit ?_
        refine wpList_quiet_all (C := KV w [(24, w.heap.size, pcells 0 zero16 0), (24, w2.heap.size, R)]) K5.out ?_
        repeat (first
          | go_big_quiet_skip
          | (go_big_quiet_want; go_big_quiet_op; go_big_quiet_on)
          | (go_big_quiet_want; go_big_quiet_op; apply Exists.intro; refine ⟨fun w' hw' => rfl, ?_⟩; go_big_quiet_on))
        refine wpQuiet_nil ?_
        intro w3 hw3
        clear K5 a5
        go_upto_region 5 with fail
        refine wp_region_lit ?_
        refine wpList_quiet_all (C := KV w [(24, w.heap.size, pcells 0 zero16 0), (24, w2.heap.size, R)]) hw3 ?_
        repeat (first
          | go_big_quiet_skip
          | (go_big_quiet_want; go_big_quiet_op; go_big_quiet_on)
          | (go_big_quiet_want; go_big_quiet_op; apply Exists.intro; refine ⟨fun w' hw' => (by first | (with_reducible refine (CD.out w').mono ?_; rintro e w'' ⟨rfl, hb⟩; exact ⟨rfl, hw'.below hb⟩) | fail), ?_⟩; go_big_quiet_on)
          | (go_big_quiet_want; go_big_quiet_op; apply Exists.intro; refine ⟨fun w' hw' => rfl, ?_⟩; go_big_quiet_on))
        refine wpQuiet_nil ?_
        intro w4 hw4
        have c17 := (hw4.at 1 rfl).get 17
        rw [HR17.out] at c17
        have f17 := (hw4.at 1 rfl).frozen 17
        have KP := Lib.hid (hw4.put 1 rfl 17 (.int .i64 (n : Int)))
        rw [HRNs.out] at KP
        obtain ⟨V6, hV6⟩ : ∃ V6, V6 = w4.setCell ⟨w2.heap.size, 17, none⟩ (.int .i64 (n : Int)) := ⟨_, rfl⟩
        have K6 : Hid (KV w [(24, w.heap.size, pcells 0 zero16 0), (24, w2.heap.size, RN)] V6) := by show KV _ _ _; rw [hV6]; exact KP.out
        clear hw4 KP hw3
        go_upto_region 9 with fail
        rw [← hV6]
        clear hV6 c17 f17
        refine wp_region_lit ?_
        refine wpList_quiet_all (C := KV w [(24, w.heap.size, pcells 0 zero16 0), (24, w2.heap.size, RN)]) K6.out ?_
        repeat (first
          | go_big_quiet_skip
          | (go_big_quiet_want; apply Exists.intro; refine ⟨fun w' hw' => (by first | exact quietAt_part rfl rfl typfx (hw'.at 1 rfl) HRN.out.all HRN.out.len | fail), ?_⟩; simp only [Act.put, List.setIfInBounds_toArray, List.set_cons_zero, List.set_cons_succ]; go_big_quiet_on)
          | (go_big_quiet_want; go_big_quiet_op; go_big_quiet_on)
          | (go_big_quiet_want; go_big_quiet_op; apply Exists.intro; refine ⟨fun w' hw' => (by first | (with_reducible refine (CC.out w').mono ?_; rintro e w'' ⟨rfl, hb⟩; exact ⟨rfl, hw'.below hb⟩) | fail), ?_⟩; go_big_quiet_on)
          | (go_big_quiet_want; go_big_quiet_op; apply Exists.intro; refine ⟨fun w' hw' => rfl, ?_⟩; go_big_quiet_on))
        refine wpQuiet_nil ?_
        intro w6 hw6
        go_upto_region 12 with fail
        refine wp_region_lit ?_
        have r7 := Lib.hid (hw6.at 1 rfl)
        have r0 := Lib.hid (hw6.at 0 rfl)
        have K9 := Lib.hid (hw6.store 0 rfl RN (by rw [HRN.out.len]; rfl))
        clear hw6
        go_wp2_with (first | refine wpList_load_v rfl 24 (.tmp 7) rfl _ rfl typfx r7.out HRN.out.len ?_ | refine wpList_store_v rfl 24 (.tmp 2) (.tmp 44) rfl _ rfl typfx r0.out zero18_len RN HRN.out.len HRN.out.one rfl ?_ | fail)
        exact bodyPost_ret (v := .tuple #[.agg RN.toArray, .int .i64 0]) (res_cell_tmp Tryd.results7 rfl ((K9.out.at 0 rfl).loadVar typfx HRN.out.len) rfl) rfl ⟨by rw [HF.out], K9.out.bel⟩
      · have HF : Hid (pparse s.data.toList = (ZZ, pcheck V X (n : Int))) := by show _ = _; rw [HF0.out, if_neg hc]
        have hcb : (pcheck V X (n : Int) != 0) = true := by simpa using hc
        clear hc HF0
        generalize pcheck V X (n : Int) = f at *
        go_enter Tryd.func7, Tryd.ntmps7
        go_upto_region 1 with fail
        refine wp_region_lit ?_
        refine wpList_quiet_all (C := KV w [(24, w.heap.size, pcells 0 zero16 0)]) K0.out ?_
        repeat (first
          | go_big_quiet_skip
          | (go_big_quiet_want; go_big_quiet_op; go_big_quiet_on)
          | (go_big_quiet_want; go_big_quiet_op; apply Exists.intro; refine ⟨fun w' hw' => (by first | (with_reducible refine (CU.out w' (HT.out.below hw'.bel).max).mono ?_; rintro e w'' ⟨rfl, hb⟩; exact ⟨rfl, hw'.below hb⟩) | fail), ?_⟩; go_big_quiet_on)
          | (go_big_quiet_want; go_big_quiet_op; apply Exists.intro; refine ⟨fun w' hw' => rfl, ?_⟩; go_big_quiet_on))
        refine wpQuiet_nil ?_
        intro w1 hw1
        go_upto_region 2 with fail
        refine wp_region_lit ?_
        refine wpList_quiet_take (C := KV w [(24, w.heap.size, pcells 0 zero16 0)]) 5 hw1 ?_
        simp only [List.take, List.drop]
        repeat (first
          | go_big_quiet_skip
          | (go_big_quiet_want; go_big_quiet_op; go_big_quiet_on)
          | (go_big_quiet_want; go_big_quiet_op; apply Exists.intro; refine ⟨fun w' hw' => (by first | (with_reducible refine (CW3.out w' (HT.out.below hw'.bel)).mono ?_; rintro e w'' ⟨rfl, hb⟩; exact ⟨rfl, hw'.below hb⟩) | fail), ?_⟩; go_big_quiet_on)
          | (go_big_quiet_want; go_big_quiet_op; apply Exists.intro; refine ⟨fun w' hw' => rfl, ?_⟩; go_big_quiet_on))
        refine wpQuiet_nil ?_
        intro w2 hw2
        have K5 : Hid (KV w [(24, w.heap.size, pcells 0 zero16 0), (24, w2.heap.size, R)] ((w2.alloc (.cells (pcells 0 zero16 0).toArray 24)).setCells w2.heap.size 0 R)) := (hw2.new 24 (pcells 0 zero16 0)).store 1 rfl R (by rw [HRl.out]; rfl)
        have a5 := Lib.hid ((hw2.new 24 (pcells 0 zero16 0)).at 1 rfl)
        clear hw2 hw1 K0 CU CW3
        go_upto_region 3 with (first | refine wpList_store_v rfl 24 (.tmp 7) (.tmp 20) rfl _ rfl typfx a5.out zero18_len R HRl.out HRo.out rfl ?_ | fail)
        refine wp_region_lit ?_
        refine wpList_quiet_all (C := KV w [(24, w.heap.size, pcells 0 zero16 0), (24, w2.heap.size, R)]) K5.out ?_
        repeat (first
          | go_big_quiet_skip
          | (go_big_quiet_want; go_big_quiet_op; go_big_quiet_on)
          | (go_big_quiet_want; go_big_quiet_op; apply Exists.intro; refine ⟨fun w' hw' => rfl, ?_⟩; go_big_quiet_on))
        refine wpQuiet_nil ?_
        intro w3 hw3
        clear K5 a5
        go_upto_region 5 with fail
        refine wp_region_lit ?_
        refine wpList_quiet_all (C := KV w [(24, w.heap.size, pcells 0 zero16 0), (24, w2.heap.size, R)]) hw3 ?_
        repeat (first
          | go_big_quiet_skip
          | (go_big_quiet_want; go_big_quiet_op; go_big_quiet_on)
          | (go_big_quiet_want; go_big_quiet_op; apply Exists.intro; refine ⟨fun w' hw' => (by first | (with_reducible refine (CD.out w').mono ?_; rintro e w'' ⟨rfl, hb⟩; exact ⟨rfl, hw'.below hb⟩) | fail), ?_⟩; go_big_quiet_on)
          | (go_big_quiet_want; go_big_quiet_op; apply Exists.intro; refine ⟨fun w' hw' => rfl, ?_⟩; go_big_quiet_on))
        refine wpQuiet_nil ?_
        intro w4 hw4
        have c17 := (hw4.at 1 rfl).get 17
        rw [HR17.out] at c17
        have f17 := (hw4.at 1 rfl).frozen 17
        have KP := Lib.hid (hw4.put 1 rfl 17 (.int .i64 (n : Int)))
        rw [HRNs.out] at KP
        obtain ⟨V6, hV6⟩ : ∃ V6, V6 = w4.setCell ⟨w2.heap.size, 17, none⟩ (.int .i64 (n : Int)) := ⟨_, rfl⟩
        have K6 : Hid (KV w [(24, w.heap.size, pcells 0 zero16 0), (24, w2.heap.size, RN)] V6) := by show KV _ _ _; rw [hV6]; exact KP.out
        clear hw4 KP hw3
        go_upto_region 9 with fail
        rw [← hV6]
        clear hV6 c17 f17
        refine wp_region_lit ?_
        refine wpList_quiet_all (C := KV w [(24, w.heap.size, pcells 0 zero16 0), (24, w2.heap.size, RN)]) K6.out ?_
        repeat (first
          | go_big_quiet_skip
          | (go_big_quiet_want; apply Exists.intro; refine ⟨fun w' hw' => (by first | exact quietAt_part rfl rfl typfx (hw'.at 1 rfl) HRN.out.all HRN.out.len | fail), ?_⟩; simp only [Act.put, List.setIfInBounds_toArray, List.set_cons_zero, List.set_cons_succ]; go_big_quiet_on)
          | (go_big_quiet_want; go_big_quiet_op; go_big_quiet_on)
          | (go_big_quiet_want; go_big_quiet_op; apply Exists.intro; refine ⟨fun w' hw' => (by first | (with_reducible refine (CC.out w').mono ?_; rintro e w'' ⟨rfl, hb⟩; exact ⟨rfl, hw'.below hb⟩) | fail), ?_⟩; go_big_quiet_on)
          | (go_big_quiet_want; go_big_quiet_op; apply Exists.intro; refine ⟨fun w' hw' => rfl, ?_⟩; go_big_quiet_on))
        refine wpQuiet_nil ?_
        intro w6 hw6
        have a1 := Lib.hid (hw6.at 0 rfl)
        have K9 := Lib.hid (hw6.store 0 rfl ZZ (by rw [HZl.out]; rfl))
        clear hw6
        go_wp2_with (first | refine wpList_store_v rfl 24 (.tmp 2) (.tmp 42) rfl _ rfl typfx a1.out zero18_len ZZ HZl.out HZo.out HZ.out ?_ | fail)
        exact bodyPost_ret (v := .tuple #[.agg ZZ.toArray, .int .i64 f]) (res_cell_tmp Tryd.results7 rfl ((K9.out.at 0 rfl).loadVar typfx HZl.out) rfl) rfl ⟨by rw [HF.out], K9.out.bel⟩
end Go.Proofs.YtaicmadeobglfaaDoor
