/-
  The walk of ColonsBack.
-/
import Derived.Test.YtdeoeikpooonlaaDoorLive6
import Derived.Test.YtdeoeikpooonlaaDoorCPlain2
namespace Go.Proofs.YtdeoeikpooonlaaDoor
open Go.RowKit
set_option linter.unusedVariables false

theorem bytes_of {zs : List Int} (hz : ∀ z ∈ zs, (Lit.int .u8 z).wf = true) : ∃ X : List Nat, (zs.map (Value.int .u8)).toArray = (bcells X).toArray ∧ X.length = zs.length ∧ ∀ x ∈ X, x < 256 := by
  refine ⟨zs.map Int.toNat, ?_, by simp, ?_⟩
  · congr 1
    unfold bcells
    rw [List.map_map]
    refine List.map_congr_left fun z hzm => ?_
    have h := hz z hzm
    simp [Lit.wf, IntKind.min, IntKind.max, IntKind.signed, IntKind.bits] at h
    show Value.int .u8 z = Value.int .u8 ((z.toNat : Nat) : Int)
    rw [Int.toNat_of_nonneg h.1]
  · intro x hx
    obtain ⟨z, hzm, rfl⟩ := List.mem_map.1 hx
    have h := hz z hzm
    simp [Lit.wf, IntKind.min, IntKind.max, IntKind.signed, IntKind.bits] at h
    omega
theorem grps_addr {gs : List Nat} (h : gs.length = 8) (hb : ∀ g ∈ gs, g < 65536) : grps (addrB gs) = gs := by
  match gs, h with
  | [a, b, c, d, e, f, g, i], _ =>
    have h1 := hb a (by simp)
    have h2 := hb b (by simp)
    have h3 := hb c (by simp)
    have h4 := hb d (by simp)
    have h5 := hb e (by simp)
    have h6 := hb f (by simp)
    have h7 := hb g (by simp)
    have h8 := hb i (by simp)
    simp [grps, grp, addrB, List.range_succ]
    omega
theorem meas_step {k n : Nat} (h : k < n) : n - ((k + 1 : Nat) : Int).toNat < n - (k : Int).toNat := by rw [Int.toNat_natCast, Int.toNat_natCast]; omega
theorem dot_yes {c : Nat} (h : c = 46) : ((c : Int) == 46) = true := by subst h; rfl
theorem dot_no {c : Nat} (h : ¬ c = 46) : ((c : Int) == 46) = false := by simp; omega
theorem wrap_len {n : Nat} (h : n ≤ 1048576) : wrap64 ((n : Int) + 1) = ((n + 1 : Nat) : Int) := by unfold wrap64; omega
theorem wpList_load_vg {ops : Array Oper} {rest : List Oper} {op : Oper} {a : Act} {w : World} {Q : Exit → Act → World → Prop} (hw : Region.wanted op (yielded ops a.tmps) = true) (t : TypeId) (x : Operand) (ho : op.op = .load t x)
    (g : Nat) (hx : a.eval x = .pointer (some ⟨g, 0, none⟩)) {n : Nat} {cs : List Value} (ht : RowTy t n) (h : ArrV t w g cs) (hl : cs.length = n) (hk : wpList Tryd.prog ops Q rest (a.put op.dst (.agg cs.toArray)) w) : wpList Tryd.prog ops Q (op :: rest) a w := by
  have h2 := wpList_load_v (ops := ops) (rest := rest) (op := { op with guard := none }) (Q := Q) rfl t x ho g hx ht h hl hk
  unfold wpList at h2 ⊢
  rw [if_pos hw]
  rw [if_pos (by simp [Region.wanted])] at h2
  exact h2
set_option maxRecDepth 10000 in
set_option maxHeartbeats 6400000 in
theorem walk_ColonsBack (zs0 : List Int) (s : ByteArray) (w : World) (hT : Six w) (hn0 : zs0.length = 16) (hz0 : ∀ z ∈ zs0, (Lit.int .u8 z).wf = true) (hs : s.size ≤ 1048576) :
    Calls Tryd.prog 7 #[.agg (zs0.map (Value.int .u8)).toArray, .string s] w fun e w' => e = .returned (.bool true) ∧ Below w.heap.size w w' := by
  obtain ⟨X, hX, hlX, bX⟩ := bytes_of hz0
  rw [hn0] at hlX
  rw [hX]
  clear hX hz0 hn0
  have hs16 : (bcells X).length = 16 := by rw [bcells_length, hlX]
  have HL := Lib.hid hlX
  have A0 : Hid (ArrV 37 (w.alloc (.cells (bcells X).toArray 37)) w.heap.size (bcells X)) := ArrV.new _ w _
  have B0 : Hid (Below w.heap.size w (w.alloc (.cells (bcells X).toArray 37))) := (Below.refl _ _).alloc (Nat.le_refl _) _
  have HT := Lib.hid (hT.below B0.out)
  have C1 := Lib.hid (fun w hB => cprint_any X w hlX bX hB)
  have C2 := Lib.hid (fun w hB hm => cparse_printed X w hlX bX hB hm)
  have hl39 : (pstr6 (grps X)).size ≤ 39 := by
    have h := colPrint_39 (grps_lt bX) (grps_length X)
    have e : (pstr6 (grps X)).size = (colPrint (grps X)).length := by simp [pstr6, ByteArray.size]
    omega
  have l39 : ((pstr6 (grps X)).size : Int) ≤ 39 := by omega
  have hqX : ∀ w, (Op.equalIn 10000 37 (.agg (bcells X).toArray) (.agg (bcells X).toArray)).run Tryd.prog w = .ok true w := fun w => by
    have h := same_nat Tryd.underlying37 X X hlX hlX w
    rw [decide_eq_true rfl] at h
    exact h
  obtain ⟨Z, hZ⟩ : ∃ Z : List Nat, Z = zero16 := ⟨_, rfl⟩
  have LZ : Hid (Z.length = 16) := by show _ = _; rw [hZ]; rfl
  have hqZ : ∀ w, (Op.equalIn 10000 37 (.agg (bcells Z).toArray) (.agg #[.int .u8 0, .int .u8 0, .int .u8 0, .int .u8 0, .int .u8 0, .int .u8 0, .int .u8 0, .int .u8 0, .int .u8 0, .int .u8 0, .int .u8 0, .int .u8 0, .int .u8 0, .int .u8 0, .int .u8 0, .int .u8 0])).run Tryd.prog w = .ok true w := fun w => by
    have h := same_nat Tryd.underlying37 zero16 zero16 rfl rfl w
    rw [decide_eq_true rfl] at h
    rw [hZ]
    exact h
  obtain ⟨r, hr⟩ : ∃ r, colParse s.data.toList = r := ⟨_, rfl⟩
  have C3 : Hid (∀ w, Bru w → MaxL w → Calls Tryd.prog 37 #[.string s] w fun e w' => e = .returned (cval r) ∧ Below w.heap.size w w') := fun w hB hm => by
    have h := cparse_any s w (by omega) hB hm
    unfold CParseIs at h
    rw [hr] at h
    exact h
  have HR := Lib.hid hr
  clear hr
  generalize pstr6 (grps X) = sp at *
  clear bX hlX hT hl39
  have HS := Lib.hid hs
  clear hs
  go_enter Tryd.func7, Tryd.ntmps7
  go_upto_region 1 with fail
  refine wp_region_lit ?_
  go_wp2_with (refine wpList_load_v rfl 37 (.tmp 2) rfl _ rfl ty16 A0.out hs16 ?_)
  refine (C1.out _ HT.out.bru).mono ?_
  rintro e w1 ⟨rfl, b1⟩
  have A0 := Lib.hid (A0.out.below b1)
  have HT := Lib.hid (HT.out.below b1)
  have B0 := Lib.hid (below_both B0.out b1)
  clear b1
  go_wp2_with fail
  refine (C2.out _ HT.out.bru HT.out.max).mono ?_
  rintro e w2 ⟨rfl, b2⟩
  obtain ⟨hst, hA, hb⟩ := addr_stored w2 X HL.out
  have A0 := Lib.hid ((A0.out.below b2).below hb)
  have A5 := Lib.hid hA
  have HT := Lib.hid ((HT.out.below b2).below hb)
  have B0 := Lib.hid (below_both (below_both B0.out b2) hb)
  clear b2 hA hb
  go_upto_region 2 with fail
  clear hst
  refine wp_region_lit ?_
  go_wp2_with (first | refine wpList_load_v rfl 37 (.tmp 5) rfl _ rfl ty16 A5.out hs16 ?_ | refine wpList_load_v rfl 37 (.tmp 2) rfl _ rfl ty16 A0.out hs16 ?_ | refine wpList_load_vg (by rfl) 37 (.tmp 2) rfl _ rfl ty16 A0.out hs16 ?_ | fail)
  refine (C1.out _ HT.out.bru).mono ?_
  rintro e w3 ⟨rfl, b3⟩
  have A0 := Lib.hid (A0.out.below b3)
  have HT := Lib.hid (HT.out.below b3)
  have B0 := Lib.hid (below_both B0.out b3)
  clear b3 A5
  go_wp2_with fail
  cases r with
  | none =>
    have C5 : Hid (∀ w, Bru w → MaxL w → Calls Tryd.prog 37 #[.string s] w fun e w' => e = .returned (.tuple #[.agg (bcells Z).toArray, .int .i64 3]) ∧ Below w.heap.size w w') := fun w hB hm => by
      rw [hZ]
      exact C3.out w hB hm
    clear HR C3 hZ
    refine (C5.out _ HT.out.bru HT.out.max).mono ?_
    rintro e w4 ⟨rfl, b4⟩
    have sZ : (bcells Z).length = 16 := by rw [bcells_length, LZ.out]
    obtain ⟨hst, hA, hb⟩ := addr_stored w4 Z LZ.out
    have A7 := Lib.hid hA
    have HT := Lib.hid ((HT.out.below b4).below hb)
    have B0 := Lib.hid (below_both (below_both B0.out b4) hb)
    clear b4 hA hb A0 C1 C2 C5 hqX l39
    go_upto_region 6 with fail
    clear hst
    refine wp_region_lit ?_
    go_wp2_with fail
    refine (live6 _ HT.out).mono ?_
    rintro e w5 ⟨rfl, b5⟩
    have A7 := Lib.hid (A7.out.below b5)
    have B0 := Lib.hid (below_both B0.out b5)
    clear b5
    go_wp2_with (first | refine wpList_load_vg (by rfl) 37 (.tmp 7) rfl _ rfl ty16 A7.out sZ ?_ | fail)
    go_ret
    exact ⟨by simp, B0.out⟩
  | some gs =>
    clear hZ hqZ LZ
    have h8 := colParse_len HR.out
    obtain ⟨Y, hY⟩ : ∃ Y, Y = addrB gs := ⟨_, rfl⟩
    have LY : Hid (Y.length = 16) := by show _ = _; rw [hY, addrB_len, h8.1]
    have bY : ∀ x ∈ Y, x < 256 := by
      rw [hY]
      intro x hx
      obtain ⟨g, hg, hx⟩ := List.mem_flatMap.1 hx
      have := h8.2 g hg
      simp at hx
      omega
    have gY : grps Y = gs := by rw [hY]; exact grps_addr h8.1 h8.2
    have C4 : Hid (∀ w, Bru w → Calls Tryd.prog 29 #[.agg (bcells Y).toArray] w fun e w' => e = .returned (.string (pstr6 gs)) ∧ Below w.heap.size w w') := fun w hB => by
      have h := cprint_any Y w LY.out bY hB
      rw [gY] at h
      exact h
    have HSZ : Hid ((46 : UInt8) ∉ s.data.toList → (pstr6 gs).size ≤ s.size + 1) := fun hd => by
      have h := colPrint_short hd HR.out
      rw [size_list] at h
      have e : (pstr6 gs).size = (colPrint gs).length := by simp [pstr6, ByteArray.size]
      omega
    have C5 : Hid (∀ w, Bru w → MaxL w → Calls Tryd.prog 37 #[.string s] w fun e w' => e = .returned (.tuple #[.agg (bcells Y).toArray, .int .i64 0]) ∧ Below w.heap.size w w') := fun w hB hm => by
      rw [hY]
      exact C3.out w hB hm
    refine (C5.out _ HT.out.bru HT.out.max).mono ?_
    rintro e w4 ⟨rfl, b4⟩
    have sY : (bcells Y).length = 16 := by rw [bcells_length, LY.out]
    obtain ⟨hst, hA, hb⟩ := addr_stored w4 Y LY.out
    have A7 := Lib.hid hA
    have HT := Lib.hid ((HT.out.below b4).below hb)
    have B0 := Lib.hid (below_both (below_both B0.out b4) hb)
    clear b4 hA hb A0 C1 C2 C3 C5 hqX l39 hY bY gY h8 HR
    generalize pstr6 gs = q at *
    go_upto_region 5 with fail
    clear hst
    obtain ⟨g7, e7⟩ : ∃ b, b = w4.heap.size := ⟨_, rfl⟩
    rw [← e7] at A7 HT B0 ⊢
    clear e7
    obtain ⟨W, eW⟩ : ∃ W, W = (w4.alloc (.cells #[.int .u8 0, .int .u8 0, .int .u8 0, .int .u8 0, .int .u8 0, .int .u8 0, .int .u8 0, .int .u8 0, .int .u8 0, .int .u8 0, .int .u8 0, .int .u8 0, .int .u8 0, .int .u8 0, .int .u8 0, .int .u8 0] 37)).setCells g7 0 (bcells Y) := ⟨_, rfl⟩
    rw [← eW] at A7 HT B0 ⊢
    clear eW
    go_wp2_with fail
    go_loop [9] (fun i => ∃ k : Nat, k ≤ s.size ∧ i = .int .i64 k ∧ Hid (∀ j (hj : j < k) (hs : j < s.size), s[j].toNat ≠ 46)) (fun i => s.size - (intOf i).toNat)
    case atStart => exact ⟨0, Nat.zero_le _, rfl, fun j hj => absurd hj (Nat.not_lt_zero j)⟩
    case round =>
      obtain ⟨k, hk, rfl, HJ⟩ := hrel
      by_cases hlt : k < s.size
      · obtain ⟨c, hc⟩ : ∃ c, s[k].toNat = c := ⟨_, rfl⟩
        by_cases h46 : c = 46
        · have q46 := dot_yes h46
          clear h46
          go_wp2_with fail
          refine (live6 _ HT.out).mono ?_
          rintro e w5 ⟨rfl, b5⟩
          have B0 := Lib.hid (below_both B0.out b5)
          clear b5
          go_wp2_with fail
          go_ret
          exact ⟨rfl, B0.out⟩
        · have q46 := dot_no h46
          have HJ1 : Hid (∀ j (hj : j < k + 1) (hs : j < s.size), s[j].toNat ≠ 46) := fun j hj hs => by
            rcases Nat.lt_succ_iff_lt_or_eq.1 hj with h | rfl
            · exact HJ.out j h hs
            · rw [hc]; exact h46
          have hsI : (s.size : Int) ≤ 1048576 := Int.ofNat_le.2 HS.out
          clear h46
          go_wp2_with fail
          go_round
          case rel => exact ⟨k + 1, hlt, by go_num, HJ1.out⟩
          case measure => simp [intOf]; omega
      · obtain rfl : k = s.size := Nat.le_antisymm hk (Nat.le_of_not_lt hlt)
        have hno : (46 : UInt8) ∉ s.data.toList := by
          intro hm
          obtain ⟨j, hj, hx⟩ := List.getElem_of_mem hm
          rw [size_list] at hj
          have h1 := HJ.out j hj hj
          have h2 : s[j] = 46 := hx
          rw [h2] at h1
          exact h1 rfl
        have hq := HSZ.out hno
        have q1 : (q.size : Int) ≤ ((s.size + 1 : Nat) : Int) := Int.ofNat_le.2 hq
        have wk := wrap_len HS.out
        clear hno hq HSZ HJ
        generalize s.size + 1 = n at *
        go_wp2_with fail
        refine (live6 _ HT.out).mono ?_
        rintro e w5 ⟨rfl, b5⟩
        have A7 := Lib.hid (A7.out.below b5)
        have HT := Lib.hid (HT.out.below b5)
        have B0 := Lib.hid (below_both B0.out b5)
        clear b5
        go_wp2_with (first | refine wpList_load_vg (by rfl) 37 (.tmp 7) rfl _ rfl ty16 A7.out sY ?_ | fail)
        refine (C4.out _ HT.out.bru).mono ?_
        rintro e w6 ⟨rfl, b6⟩
        have B0 := Lib.hid (below_both B0.out b6)
        clear b6
        go_wp2_with fail
        go_ret
        exact ⟨by simp, B0.out⟩
end Go.Proofs.YtdeoeikpooonlaaDoor
