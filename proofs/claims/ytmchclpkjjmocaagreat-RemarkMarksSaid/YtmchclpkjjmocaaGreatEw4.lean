/-
  The contract of extwalk's Go.
-/
import Derived.Test.YtmchclpkjjmocaaGreatEw3
import Derived.Test.YtmchclpkjjmocaaGreatFh13
namespace Go.Proofs.YtmchclpkjjmocaaGreat
open Go.RowKit
set_option linter.unusedVariables false

/-- What a walk found, at each defect's number. -/
def Tour.found (t : Tour) : List Bool := [false, false, false, false, false, false, false, false, false, false, t.ext, t.hop, t.many, t.twice, t.lng]
/-- The defects of a walk, in ascending order. -/
def Tour.defects (t : Tour) : List Nat := (if t.ext then [10] else []) ++ (if t.hop then [11] else []) ++ (if t.many then [12] else []) ++ (if t.twice then [13] else []) ++ (if t.lng then [14] else [])
def foundUpto (l : List Bool) : Nat → List Nat
  | 0 => []
  | k + 1 => foundUpto l k ++ if l.getD k false then [k] else []
theorem found_all (t : Tour) : foundUpto t.found 15 = t.defects := by
  unfold Tour.found Tour.defects
  cases t.ext <;> cases t.hop <;> cases t.many <;> cases t.twice <;> cases t.lng <;> rfl
theorem foundUpto_len (l : List Bool) : ∀ k, (foundUpto l k).length ≤ k
  | 0 => Nat.le_refl _
  | k + 1 => by
    unfold foundUpto
    rw [List.length_append]
    have h := foundUpto_len l k
    split <;> simp <;> omega
def bvals (l : List Bool) : List Value := l.map Value.bool
theorem idx15 (l : List Bool) (hl : l.length = 15) (k : Nat) (hk : k < 15) (w : World) : (Instr.index 150 (.agg (bvals l).toArray) (.int .i64 (k : Int))).run Tryz.prog w = .ok (.bool (l.getD k false)) w := by
  match l, hl with
  | [b0, b1, b2, b3, b4, b5, b6, b7, b8, b9, b10, b11, b12, b13, b14], _ =>
    match k, hk with
    | 0, _ => simp [bvals, Instr.index, run_underlying Tryz.underlying150, asIntOf, go_sem]
    | 1, _ => simp [bvals, Instr.index, run_underlying Tryz.underlying150, asIntOf, go_sem]
    | 2, _ => simp [bvals, Instr.index, run_underlying Tryz.underlying150, asIntOf, go_sem]
    | 3, _ => simp [bvals, Instr.index, run_underlying Tryz.underlying150, asIntOf, go_sem]
    | 4, _ => simp [bvals, Instr.index, run_underlying Tryz.underlying150, asIntOf, go_sem]
    | 5, _ => simp [bvals, Instr.index, run_underlying Tryz.underlying150, asIntOf, go_sem]
    | 6, _ => simp [bvals, Instr.index, run_underlying Tryz.underlying150, asIntOf, go_sem]
    | 7, _ => simp [bvals, Instr.index, run_underlying Tryz.underlying150, asIntOf, go_sem]
    | 8, _ => simp [bvals, Instr.index, run_underlying Tryz.underlying150, asIntOf, go_sem]
    | 9, _ => simp [bvals, Instr.index, run_underlying Tryz.underlying150, asIntOf, go_sem]
    | 10, _ => simp [bvals, Instr.index, run_underlying Tryz.underlying150, asIntOf, go_sem]
    | 11, _ => simp [bvals, Instr.index, run_underlying Tryz.underlying150, asIntOf, go_sem]
    | 12, _ => simp [bvals, Instr.index, run_underlying Tryz.underlying150, asIntOf, go_sem]
    | 13, _ => simp [bvals, Instr.index, run_underlying Tryz.underlying150, asIntOf, go_sem]
    | 14, _ => simp [bvals, Instr.index, run_underlying Tryz.underlying150, asIntOf, go_sem]
/-- What a walk comes to, as a value: zero where there are defects. -/
def Tour.walk (t : Tour) : List Value := [.int .i64 t.proto, .int .i64 (t.at_ : Nat), .int .i64 (t.frag : Nat), .int .i64 (t.off : Nat), .int .i64 (t.count : Nat)]
def walkZ : List Value := [.int .i64 0, .int .i64 0, .int .i64 0, .int .i64 0, .int .i64 0]
def Tour.told (t : Tour) : List Value := if t.defects = [] then t.walk else walkZ
def GoIs (w : World) (t : Tour) (e : Ending) (w' : World) : Prop := ∃ v, e = .returned (.tuple #[.agg t.told.toArray, v]) ∧ DefRead w' v t.defects ∧ Below w.heap.size w w'
theorem tyfound : RowTy 150 15 := ⟨⟨_, Tryz.underlying150, rfl⟩, by kernel_rfl⟩
theorem tywalk : RowTy 99 5 := ⟨⟨_, Tryz.underlying99, rfl⟩, by kernel_rfl⟩
theorem wpList_load_part {ops : Array Oper} {rest : List Oper} {op : Oper} {a : Act} {w : World} {Q : Exit → Act → World → Prop} (hgd : op.guard = none) (t : TypeId) (x : Operand) (ho : op.op = .load t x)
    (g off : Nat) (hx : a.eval x = .pointer (some ⟨g, off, none⟩)) {n : Nat} {cs vs : List Value} {t' : TypeId} (ht : RowTy t n) (h : ArrV t' w g cs) (hv : ∀ (j : Nat) v, vs[j]? = some v → cs[off + j]? = some v) (hl : vs.length = n) (hk : wpList Tryz.prog ops Q rest (a.put op.dst (.agg vs.toArray)) w) : wpList Tryz.prog ops Q (op :: rest) a w := by
  obtain ⟨d, hd, hr⟩ := ht.desc
  exact wpList_load_mid hgd t x ho g off hx vs d (fun j v hj => (h.get (off + j)).trans (hv j v hj)) hd hr (by rw [hl]; exact ht.size) hk
theorem tour_found_at (t : Tour) (pv : Value) : ∀ (j : Nat) v, (bvals t.found)[j]? = some v → (t.cells pv)[7 + j]? = some v := by
  intro j v h
  have e : bvals t.found = (t.cells pv).drop 7 := rfl
  rw [e, List.getElem?_drop] at h
  exact h
theorem tour_walk_at (t : Tour) (pv : Value) : ∀ (j : Nat) v, t.walk[j]? = some v → (t.cells pv)[0 + j]? = some v := by
  intro j v h
  have e : t.walk = (t.cells pv).take 5 := rfl
  rw [e, List.getElem?_take] at h
  rw [Nat.zero_add]
  split at h
  · exact h
  · cases h
theorem walk_one5 (t : Tour) : t.walk.length = 5 ∧ ∀ v ∈ t.walk, v.oneCell' = true := by
  refine ⟨rfl, ?_⟩
  unfold Tour.walk
  simp [Value.oneCell']
theorem walkZ_one : walkZ.length = 5 ∧ ∀ v ∈ walkZ, v.oneCell' = true := ⟨rfl, by unfold walkZ; simp [Value.oneCell']⟩
theorem defs_setCells {B : Nat} {w : World} {v : Value} {L : List Nat} {g : Nat} (h : Defs B w v L) (hg : g < B) (vs : List Value) : Defs B (w.setCells g 0 vs) v L := by
  refine ⟨h.1, ?_⟩
  rcases h.2 with h2 | ⟨g2, cap, cur, hv, hg2, hh, r⟩
  · exact .inl h2
  · exact .inr ⟨g2, cap, cur, hv, hg2, (setCells_heap (by omega) vs 0 w).trans hh, r⟩
set_option maxRecDepth 10000 in
set_option maxHeartbeats 6400000 in
theorem exgo_tour (k : Int) (A : Option Addr) (n c : Nat) (bs : List Nat) (w : World) (hc : n ≤ c) (hc2 : n ≤ 140737488351232) (hR : Row w A n bs) :
    Calls Tryz.prog 93 #[.int .i64 k, .slice A n c] w (GoIs w (walkF n bs 9 (Tour.start k) []).1) := by
  have CW := Lib.hid (fun w hR => exwalk_any k A n c bs w hc hc2 hR)
  unfold WalkIs at CW
  obtain ⟨R, hRR⟩ : ∃ R, R = walkF n bs 9 (Tour.start k) [] := ⟨_, rfl⟩
  rw [← hRR] at CW ⊢
  obtain ⟨t, M⟩ := R
  have HR := Lib.hid hR
  obtain ⟨V1, e1⟩ : ∃ V, V = w.alloc (.cells #[.int .i64 0, .int .i64 0, .int .i64 0, .int .i64 0, .int .i64 0] 99) := ⟨_, rfl⟩
  have HA4 : Hid (ArrV 99 V1 w.heap.size walkZ) := by show ArrV _ _ _ _; rw [e1]; exact ArrV.new _ w walkZ
  have HB1 : Hid (Below w.heap.size w V1) := by show Below _ _ _; rw [e1]; exact (Below.refl _ _).alloc (Nat.le_refl _) _
  have HE1 := Lib.hid e1
  clear hRR hR hc hc2 e1
  go_enter Tryz.func93, Tryz.ntmps93
  go_upto_region 1 with fail
  rw [← HE1.out]
  clear HE1
  go_wp2_with fail
  refine (CW.out _ (HR.out.below HB1.out)).mono ?_
  rintro e w1 ⟨pv, rfl, hE, b1⟩
  obtain ⟨X, hX⟩ : ∃ X, X = t.cells pv := ⟨_, rfl⟩
  have hXl : X.length = 22 := by rw [hX]; rfl
  have hXo : ∀ v ∈ X, v.oneCell' = true := by
    obtain ⟨A9, c9, e9, _⟩ := hE.slice
    rw [hX, e9]
    unfold Tour.cells
    simp [Value.oneCell']
  obtain ⟨hA, hb⟩ := tour_stored w1 X hXl hXo
  have hst : (storeCells ⟨w1.heap.size, 0, none⟩ X).run Tryz.prog (w1.alloc (.cells #[.int .i64 0, .int .i64 0, .int .i64 0, .int .i64 0, .int .i64 0, .slice none 0 0, .bool false, .bool false, .bool false, .bool false, .bool false, .bool false, .bool false, .bool false, .bool false, .bool false, .bool false, .bool false, .bool false, .bool false, .bool false, .bool false] 152)) = .ok () ((w1.alloc (.cells #[.int .i64 0, .int .i64 0, .int .i64 0, .int .i64 0, .int .i64 0, .slice none 0 0, .bool false, .bool false, .bool false, .bool false, .bool false, .bool false, .bool false, .bool false, .bool false, .bool false, .bool false, .bool false, .bool false, .bool false, .bool false, .bool false] 152)).setCells w1.heap.size 0 X) :=
    (show ArrV 152 (w1.alloc (.cells #[.int .i64 0, .int .i64 0, .int .i64 0, .int .i64 0, .int .i64 0, .slice none 0 0, .bool false, .bool false, .bool false, .bool false, .bool false, .bool false, .bool false, .bool false, .bool false, .bool false, .bool false, .bool false, .bool false, .bool false, .bool false, .bool false] 152)) w1.heap.size tourZ from ArrV.new _ w1 tourZ).stAll _ (by rw [hXl]; rfl) hXo
  have A6 := Lib.hid hA
  have B6 := Lib.hid (below_both b1 hb)
  rw [← hX]
  have HX := Lib.hid hX
  clear hA hb b1 hE hX
  go_upto_region 2 with fail
  clear hst
  obtain ⟨W, eW⟩ : ∃ W, W = (w1.alloc (.cells #[.int .i64 0, .int .i64 0, .int .i64 0, .int .i64 0, .int .i64 0, .slice none 0 0, .bool false, .bool false, .bool false, .bool false, .bool false, .bool false, .bool false, .bool false, .bool false, .bool false, .bool false, .bool false, .bool false, .bool false, .bool false, .bool false] 152)).setCells w1.heap.size 0 X := ⟨_, rfl⟩
  rw [← eW] at B6 A6 ⊢
  clear eW
  obtain ⟨g6, hg6⟩ : ∃ g, g = w1.heap.size := ⟨_, rfl⟩
  rw [← hg6] at A6 ⊢
  clear hg6
  have A4 := Lib.hid (HA4.out.below B6.out)
  go_upto_region 3 with fail
  refine wp_region_lit ?_
  obtain ⟨F, hF⟩ : ∃ F, F = bvals t.found := ⟨_, rfl⟩
  have HFA : Hid (∀ (j : Nat) v, F[j]? = some v → X[7 + j]? = some v) := by rw [hF, HX.out]; exact tour_found_at t pv
  have hFl : F.length = 15 := by rw [hF]; rfl
  go_wp2_with (refine wpList_load_part rfl 150 (.tmp 13) rfl _ 7 rfl tyfound A6.out HFA.out hFl ?_)
  obtain ⟨Y, hY⟩ : ∃ Y, Y = (bvals t.found).toArray := ⟨_, rfl⟩
  have HIX : Hid (∀ k : Nat, k < 15 → ∀ w, (Instr.index 150 (.agg Y) (.int .i64 (k : Int))).run Tryz.prog w = .ok (.bool (t.found.getD k false)) w) := fun k hk w => by rw [hY]; exact idx15 t.found rfl k hk w
  clear hF HFA hFl
  try rw [← hY]
  clear hY
  have HFU := Lib.hid (found_all t)
  obtain ⟨l, hl⟩ : ∃ l, l = t.found := ⟨_, rfl⟩
  rw [← hl] at HIX HFU
  clear hl
  go_loopw [7, 15] (fun out i V => ∃ k : Nat, k ≤ 15 ∧ i = .int .i64 (k : Nat) ∧ Defs W.heap.size V out (foundUpto l k) ∧ Below W.heap.size W V) (fun out i V => 15 - (intOf i).toNat)
  case atStart => exact ⟨0, Nat.zero_le _, rfl, Defs.nil _ _, Below.refl _ _⟩
  case round =>
    obtain ⟨k, hk, rfl, hD, hB⟩ := hrel
    have HD := Lib.hid hD
    have HB := Lib.hid hB
    have HL := Lib.hid (foundUpto_len l k)
    clear hD hB
    by_cases hlt : k < 15
    · have hix := HIX.out k hlt
      have kI : (k : Int) < 15 := by omega
      have HLT := Lib.hid hlt
      have HS : Hid (foundUpto l (k + 1) = foundUpto l k ++ if l.getD k false then [k] else []) := rfl
      obtain ⟨q, hq⟩ : ∃ q, q = l.getD k false := ⟨_, rfl⟩
      rw [← hq] at hix HS
      have HKB : Hid ((foundUpto l k).length ≤ 1000000) := by show (foundUpto l k).length ≤ _; have := HL.out; omega
      clear hlt hq
      cases q with
      | false =>
        go_wp2_with fail
        go_roundw
        case rel => exact ⟨k + 1, HLT.out, by go_num, by rw [HS.out]; simpa using HD.out, HB.out⟩
        case measure => have := HLT.out; simp [intOf]; omega
      | true =>
        go_wp2_with (at_builtin; refine wpList_append_def (B := W.heap.size) (W := W) (d := k) rfl (.tmp 20) (.tmp 22) rfl rfl rfl HD.out HB.out HB.out.size HKB.out ?_; intro v6 w6 ho6 hb6 hs6; have O6 := Lib.hid ho6; have B6' := Lib.hid hb6; clear ho6 hb6 hs6)
        go_roundw
        case rel => exact ⟨k + 1, HLT.out, by go_num, by rw [HS.out]; exact O6.out, B6'.out⟩
        case measure => have := HLT.out; simp [intOf]; omega
    · obtain rfl : k = 15 := by omega
      rw [HFU.out] at HD HL
      obtain ⟨A9, c9, rfl, _, _⟩ := HD.out.slice
      have A4' := Lib.hid (A4.out.below HB.out)
      have A6' := Lib.hid (A6.out.below HB.out)
      have HG : Hid (∀ Z : List Value, DefRead (wr.setCells w.heap.size 0 Z) (.slice A9 t.defects.length c9) t.defects ∧ Below w.heap.size w (wr.setCells w.heap.size 0 Z)) := fun Z => by
        refine ⟨(defs_setCells HD.out (Nat.lt_of_lt_of_le HA4.out.lt B6.out.size) Z).read, setCells_below _ (Nat.le_refl _) _ _ _ (below_both (below_both HB1.out B6.out) HB.out)⟩
      by_cases hz : t.defects = []
      · have hTD : Hid (t.told = t.walk ∧ t.defects = []) := ⟨by unfold Tour.told; rw [if_pos hz], hz⟩
        obtain ⟨Z, hZ⟩ : ∃ Z, Z = t.walk := ⟨_, rfl⟩
        have hZl : Z.length = 5 := by rw [hZ]; rfl
        have hZo : ∀ v ∈ Z, v.oneCell' = true := by rw [hZ]; exact (walk_one5 t).2
        have HZA : Hid (∀ (j : Nat) v, Z[j]? = some v → X[0 + j]? = some v) := by rw [hZ, HX.out]; exact tour_walk_at t pv
        have hn0 : t.defects.length = 0 := by rw [hz]; rfl
        have HZ := Lib.hid hZ
        obtain ⟨d0, hd0⟩ : ∃ d, d = t.defects.length := ⟨_, rfl⟩
        have HD0 := Lib.hid hd0
        rw [← hd0] at hn0 ⊢
        subst hn0
        clear hz hZ hd0 hk hlt
        go_upto_region 11 with fail
        refine wp_region_lit ?_
        go_wp2_with (first | refine wpList_load_part rfl 99 (.tmp 30) rfl _ 0 rfl tywalk A6'.out HZA.out hZl ?_ | refine wpList_store_v rfl 99 (.tmp 4) (.tmp 31) rfl _ rfl tywalk A4'.out rfl Z hZl hZo rfl ?_ | fail)
        exact bodyPost_ret (v := .tuple #[.agg Z.toArray, .slice none 0 0]) (res_cell_tmp Tryz.results93 rfl ((A4'.out.store Z (by rw [hZl]; rfl)).loadVar tywalk hZl) rfl) rfl
          ⟨_, by rw [hTD.out.1, HZ.out], by rw [hTD.out.2]; exact ⟨none, 0, rfl, Nat.le_refl _, fun i x h => by simp at h⟩, (HG.out Z).2⟩
      · have hTD : Hid (t.told = walkZ) := by show t.told = _; unfold Tour.told; rw [if_neg hz]
        obtain ⟨d0, hd0⟩ : ∃ d, d = t.defects.length := ⟨_, rfl⟩
        have hn0 : 0 < d0 := by rw [hd0]; exact List.length_pos_iff.2 hz
        have hn0I : (0 : Int) < (d0 : Int) := by omega
        have HD0 := Lib.hid hd0
        obtain ⟨Z, hZ⟩ : ∃ Z, Z = walkZ := ⟨_, rfl⟩
        have hlit : (#[.int .i64 0, .int .i64 0, .int .i64 0, .int .i64 0, .int .i64 0] : Array Value) = Z.toArray := by rw [hZ]; rfl
        have hZl : Z.length = 5 := by rw [hZ]; rfl
        have hZo : ∀ v ∈ Z, v.oneCell' = true := by rw [hZ]; exact walkZ_one.2
        have HZ := Lib.hid hZ
        rw [← hd0]
        clear hz hd0 hk hlt hZ
        go_wp2_with (first | refine wpList_store_v rfl 99 (.tmp 4) (.tmp 28) rfl _ rfl tywalk A4'.out rfl Z hZl hZo rfl ?_ | fail)
        exact bodyPost_ret (v := .tuple #[.agg Z.toArray, .slice A9 d0 c9]) (res_cell_tmp Tryz.results93 rfl ((A4'.out.store Z (by rw [hZl]; rfl)).loadVar tywalk hZl) rfl) rfl
          ⟨_, by rw [hTD.out, HZ.out], by rw [HD0.out]; exact (HG.out Z).1, (HG.out Z).2⟩
end Go.Proofs.YtmchclpkjjmocaaGreat
