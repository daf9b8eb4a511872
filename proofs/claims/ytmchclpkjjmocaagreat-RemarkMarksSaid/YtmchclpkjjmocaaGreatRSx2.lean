/-
  The document's Read of layer 12.
  The document's Rest, All and Write of layer 12.
-/
import Derived.Test.YtmchclpkjjmocaaGreatSx1
import Derived.Test.YtmchclpkjjmocaaGreatRegAlloc
import Derived.Test.YtmchclpkjjmocaaGreatOct1
import Derived.Test.YtmchclpkjjmocaaGreatSx3
import Derived.Test.YtmchclpkjjmocaaGreatSx4
import Derived.Test.YtmchclpkjjmocaaGreatREw3
import Derived.Test.YtmchclpkjjmocaaGreatJoin2
namespace Go.Proofs.YtmchclpkjjmocaaGreat
open Go.RowKit
set_option linter.unusedVariables false

theorem rsxnumber_any (A : Option Addr) (n c k m : Nat) (bs : List Nat) (w : World) (h1 : 1 ≤ m) (h4 : m ≤ 4) (hk : k + m ≤ n) (hn2 : n ≤ 140737488355328) (hc : n ≤ c) (hR : Row w A n bs) :
    Calls Tryz.prog 80 #[.slice A n c, .int .i64 k, .int .i64 m] w fun e w' => e = .returned (.int .i64 (be ((bs.drop k).take m) : Nat)) ∧ w = w' := by
  have C := Lib.hid (fun w hR => rget_ok A n c k m bs w (by omega) hc h1 (by omega) hk hR)
  have hx : be ((bs.drop k).take m) ≤ 4294967295 := by
    have h := be_lt ((bs.drop k).take m) (fun x hx => hR.2.1 x (List.mem_of_mem_drop (List.mem_of_mem_take hx)))
    have h2 : 256 ^ ((bs.drop k).take m).length ≤ 256 ^ 4 := Nat.pow_le_pow_right (by decide) (by rw [List.length_take]; exact Nat.le_trans (Nat.min_le_left _ _) h4)
    have h3 : (256 : Nat) ^ 4 = 4294967296 := by decide
    omega
  obtain ⟨x, hxx⟩ : ∃ x, x = be ((bs.drop k).take m) := ⟨_, rfl⟩
  rw [← hxx] at C hx ⊢
  have HR := Lib.hid hR
  clear hR hk hn2 hc h1 h4 hxx
  go_enter Tryz.func80, Tryz.ntmps80
  go_wp2_with fail
  refine (C.out _ HR.out).mono ?_
  rintro e w' ⟨rfl, rfl⟩
  go_wp2_with fail
  go_ret
  exact ⟨rfl, rfl⟩
theorem six_new (o : Oper) (ho : o.op = .alloc 95) (ev : Operand → Value) (W : World) : (execOp ev o).run Tryz.prog W = .ok (.value (.pointer (some ⟨W.heap.size, 0, none⟩))) (W.alloc (.cells sxZ.toArray 95)) := by
  simp [execOp, ho, go_sem]
  rfl
/-- The numbers of a header by its first bytes. -/
theorem rsx_nums {n : Nat} {bs : List Nat} (hl : bs.length = n) (h : 40 ≤ n) (hby : ∀ i, bs.getD i 0 < 256) :
    be ((bs.drop 0).take 2) / 16 % 256 = sxN (be (bs.take 8)) 0 ∧ be ((bs.drop 1).take 3) % 1048576 = sxN (be (bs.take 8)) 1 ∧ be ((bs.drop 4).take 2) = sxN (be (bs.take 8)) 2 ∧ bs.getD 6 0 = sxN (be (bs.take 8)) 3 ∧ bs.getD 7 0 = sxN (be (bs.take 8)) 4 ∧
      be ((bs.drop 0).take 2) < 65536 ∧ be ((bs.drop 1).take 3) < 16777216 ∧ be ((bs.drop 4).take 2) < 65536 := by
  have e8 : be (bs.take 8) = ((((((bs.getD 0 0 * 256 + bs.getD 1 0) * 256 + bs.getD 2 0) * 256 + bs.getD 3 0) * 256 + bs.getD 4 0) * 256 + bs.getD 5 0) * 256 + bs.getD 6 0) * 256 + bs.getD 7 0 := by
    rw [be_step _ 7 (by omega), be_step _ 6 (by omega), be_step _ 5 (by omega), be_step _ 4 (by omega), be_step _ 3 (by omega), be_step _ 2 (by omega), be_step _ 1 (by omega), be_step _ 0 (by omega), List.take_zero, be_nil]
    omega
  have gd : ∀ i j, (bs.drop i).getD j 0 = bs.getD (i + j) 0 := fun i j => by rw [List.getD_eq_getElem?_getD, List.getD_eq_getElem?_getD, List.getElem?_drop]
  have dl : ∀ i, (bs.drop i).length = n - i := fun i => by rw [List.length_drop, hl]
  have a2 : be ((bs.drop 0).take 2) = bs.getD 0 0 * 256 + bs.getD 1 0 := by
    rw [be_step _ 1 (by rw [dl]; omega), be_step _ 0 (by rw [dl]; omega), List.take_zero, be_nil, gd, gd]; simp only [Nat.reduceAdd]; omega
  have a3 : be ((bs.drop 1).take 3) = (bs.getD 1 0 * 256 + bs.getD 2 0) * 256 + bs.getD 3 0 := by
    rw [be_step _ 2 (by rw [dl]; omega), be_step _ 1 (by rw [dl]; omega), be_step _ 0 (by rw [dl]; omega), List.take_zero, be_nil, gd, gd, gd]; simp only [Nat.reduceAdd]; omega
  have a4 : be ((bs.drop 4).take 2) = bs.getD 4 0 * 256 + bs.getD 5 0 := by
    rw [be_step _ 1 (by rw [dl]; omega), be_step _ 0 (by rw [dl]; omega), List.take_zero, be_nil, gd, gd]; simp only [Nat.reduceAdd]; omega
  rw [e8, a2, a3, a4]
  have h0 := hby 0
  have h1 := hby 1
  have h2 := hby 2
  have h3 := hby 3
  have h4 := hby 4
  have h5 := hby 5
  have h6 := hby 6
  have h7 := hby 7
  generalize bs.getD 0 0 = b0 at *
  generalize bs.getD 1 0 = b1 at *
  generalize bs.getD 2 0 = b2 at *
  generalize bs.getD 3 0 = b3 at *
  generalize bs.getD 4 0 = b4 at *
  generalize bs.getD 5 0 = b5 at *
  generalize bs.getD 6 0 = b6 at *
  generalize bs.getD 7 0 = b7 at *
  clear e8 a2 a3 a4 gd dl hby hl h
  refine ⟨?_, ?_, ?_, ?_, ?_, by omega, by omega, by omega⟩
  all_goals
    simp only [sxN, Nat.reducePow]
    omega
/-- The header's variable with so many bytes of each address. -/
def rsxc (x : Nat) (l m : List Nat) (k : Nat) : List Value := sxNums x ++ bcells (splice (List.replicate 16 0) 0 (l.take k)) ++ bcells (splice (List.replicate 16 0) 0 (m.take k))
theorem rsx_sp {l : List Nat} (hl : l.length = 16) (k : Nat) : (splice (List.replicate 16 0) 0 (l.take k)).length = 16 := by
  rw [splice_length (by rw [List.length_replicate, Nat.zero_add, List.length_take, hl]; exact Nat.min_le_right _ _), List.length_replicate]
theorem rsxc_len {x : Nat} {l m : List Nat} (hl : l.length = 16) (hm : m.length = 16) (k : Nat) : (rsxc x l m k).length = 37 := by
  unfold rsxc
  rw [List.length_append, List.length_append, bcells_length, bcells_length, rsx_sp hl, rsx_sp hm]
  rfl
theorem rsx_set {l : List Nat} (hl : l.length = 16) {k : Nat} (hk : k < 16) : (bcells (splice (List.replicate 16 0) 0 (l.take k))).set k (.int .u8 (l.getD k 0 : Nat)) = bcells (splice (List.replicate 16 0) 0 (l.take (k + 1))) := by
  have h := splice_take (bs := List.replicate 16 0) (l := l) (a := 0) (k := k) (by rw [List.length_replicate, hl]; exact Nat.le_refl _) (by rw [hl]; exact hk)
  rw [Nat.zero_add] at h
  rw [← h]
  unfold bcells
  rw [List.map_set]
theorem rsxc_set {x : Nat} {l m : List Nat} (hl : l.length = 16) (hm : m.length = 16) {k : Nat} (hk : k < 16) :
    ((rsxc x l m k).set (5 + k) (.int .u8 (l.getD k 0 : Nat))).set (21 + k) (.int .u8 (m.getD k 0 : Nat)) = rsxc x l m (k + 1) := by
  unfold rsxc
  have h5 : (sxNums x).length = 5 := rfl
  have h21 : (sxNums x ++ bcells (splice (List.replicate 16 0) 0 (l.take (k + 1)))).length = 21 := by rw [List.length_append, bcells_length, rsx_sp hl, h5]
  have e1 : (sxNums x ++ bcells (splice (List.replicate 16 0) 0 (l.take k)) ++ bcells (splice (List.replicate 16 0) 0 (m.take k))).set (5 + k) (.int .u8 (l.getD k 0 : Nat)) = sxNums x ++ bcells (splice (List.replicate 16 0) 0 (l.take (k + 1))) ++ bcells (splice (List.replicate 16 0) 0 (m.take k)) := by
    rw [List.append_assoc, List.set_append_right (h := by rw [h5]; omega), h5, show 5 + k - 5 = k by omega, List.set_append_left (h := by rw [bcells_length, rsx_sp hl]; exact hk), rsx_set hl hk, ← List.append_assoc]
  rw [e1, List.set_append_right (h := by rw [h21]; omega), h21, show 21 + k - 21 = k by omega, rsx_set hm hk]
theorem rsxc_end {x : Nat} {l m : List Nat} (hl : l.length = 16) (hm : m.length = 16) : rsxc x l m 16 = sxNums x ++ bcells l ++ bcells m := by
  unfold rsxc
  rw [List.take_of_length_le (by rw [hl]; exact Nat.le_refl _), List.take_of_length_le (by rw [hm]; exact Nat.le_refl _), splice_whole _ _ (by rw [hl]; rfl), splice_whole _ _ (by rw [hm]; rfl)]
theorem rsxc_zero (x : Nat) (l m : List Nat) : rsxc x l m 0 = sxNums x ++ bcells (List.replicate 32 0) := by
  unfold rsxc
  rw [List.take_zero, List.take_zero, splice_nil, List.append_assoc]
  rfl
theorem rsx_idx {k n : Nat} (hk : k < 16) (h : 40 ≤ n) : wrap64 (8 + (k : Int)) = ((8 + k : Nat) : Int) ∧ IntKind.i64.wrap (8 + (k : Int)) = ((8 + k : Nat) : Int) ∧ wrap64 (24 + (k : Int)) = ((24 + k : Nat) : Int) ∧ IntKind.i64.wrap (24 + (k : Int)) = ((24 + k : Nat) : Int) ∧ ((8 + k : Nat) : Int) < (n : Int) ∧ ((24 + k : Nat) : Int) < (n : Int) ∧ 8 + k < n ∧ 24 + k < n ∧ (k : Int) < 16 ∧ 15 - k < 16 - k := by
  refine ⟨by unfold wrap64; omega, by rw [IntWalk.i64_in _ (by omega)]; omega, by unfold wrap64; omega, by rw [IntWalk.i64_in _ (by omega)]; omega, by omega, by omega, by omega, by omega, by omega, by omega⟩
set_option maxRecDepth 10000 in
set_option maxHeartbeats 3200000 in
theorem rsxread_bad (A : Option Addr) (n c : Nat) (bs : List Nat) (w : World) (hn2 : n ≤ 140737488355328) (hR : Row w A n bs) (h : sxdef n bs ≠ 0) :
    Calls Tryz.prog 60 #[.slice A n c] w (SxReadIs n bs w) := by
  unfold SxReadIs sxval
  rw [if_neg h]
  obtain ⟨V, eV⟩ : ∃ V, V = w.alloc (.cells sxZ.toArray 95) := ⟨_, rfl⟩
  have HA : Hid (ArrV 95 V w.heap.size sxZ) := by show ArrV _ _ _ _; rw [eV]; exact ArrV.new _ w sxZ
  have HB : Hid (Below w.heap.size w V) := by show Below _ _ _; rw [eV]; exact (Below.refl _ _).alloc (Nat.le_refl _) _
  have HRV := Lib.hid (hR.below HB.out)
  have hx := hR.byte 0
  by_cases h0 : n = 0
  · have hF : sxdef n bs = 1 := by unfold sxdef; rw [if_pos h0]
    rw [hF]
    subst h0
    have HS := Lib.hid (HA.out.store sxZ rfl)
    have HB2 : Hid (Below w.heap.size w (V.setCells w.heap.size 0 sxZ)) := setCells_below _ (Nat.le_refl _) _ _ _ HB.out
    clear hF h hR hn2 hx
    go_enter Tryz.func60, Tryz.ntmps60
    go_upto_region 1 with fail
    show Code.wp _ _ _ _ (w.alloc (.cells sxZ.toArray 95))
    rw [← eV]
    clear eV
    go_wp2_with (first | refine wpList_store_v rfl 95 (.tmp 2) (.tmp 9) rfl _ rfl tysix HA.out sxZ_one.1 sxZ sxZ_one.1 sxZ_one.2 rfl ?_ | fail)
    exact bodyPost_ret (v := .tuple #[.agg sxZ.toArray, .int .i64 1]) (res_cell_tmp Tryz.results60 rfl (HS.out.loadVar tysix sxZ_one.1) rfl) rfl ⟨rfl, HB2.out⟩
  have nI : (0 : Int) < (n : Int) := by omega
  have n0b : ((n : Int) == 0) = false := beq_false_of_ne (by omega)
  obtain ⟨b, o, rfl, hb, hcell⟩ := HRV.out.addr (Nat.pos_of_ne_zero h0)
  have c0 := hcell 0 (Nat.pos_of_ne_zero h0)
  simp only [Nat.add_zero] at c0
  have HF0 : Hid (sxdef n bs = if bs.getD 0 0 / 16 ≠ 6 then 2 else if n < 40 then 3 else 0) := by show _ = _; unfold sxdef; rw [if_neg h0]
  rw [HF0.out] at h ⊢
  generalize bs.getD 0 0 = x at *
  obtain ⟨y, hy⟩ : ∃ y, y = x / 16 := ⟨_, rfl⟩
  have xy : (x : Int) / 16 = (y : Int) := by omega
  have y16 : y < 16 := by omega
  rw [← hy] at h ⊢
  have HS := Lib.hid (HA.out.store sxZ rfl)
  have HB2 : Hid (Below w.heap.size w (V.setCells w.heap.size 0 sxZ)) := setCells_below _ (Nat.le_refl _) _ _ _ HB.out
  by_cases h6 : y ≠ 6
  · rw [if_pos h6]
    have y6 : ((y : Int) != 6) = true := bne_iff_ne.2 (by omega)
    clear h HF0 hy h6 h0 hcell hb hx hR hn2
    go_enter Tryz.func60, Tryz.ntmps60
    go_upto_region 1 with fail
    show Code.wp _ _ _ _ (w.alloc (.cells sxZ.toArray 95))
    rw [← eV]
    clear eV
    go_wp2_with (first | refine wpList_store_v rfl 95 (.tmp 2) (.tmp 15) rfl _ rfl tysix HA.out sxZ_one.1 sxZ sxZ_one.1 sxZ_one.2 rfl ?_ | fail)
    exact bodyPost_ret (v := .tuple #[.agg sxZ.toArray, .int .i64 2]) (res_cell_tmp Tryz.results60 rfl (HS.out.loadVar tysix sxZ_one.1) rfl) rfl ⟨rfl, HB2.out⟩
  · have h6' : y = 6 := Decidable.of_not_not h6
    rw [if_neg h6] at h ⊢
    have h40 : n < 40 := by
      rcases Nat.lt_or_ge n 40 with h1 | h1
      · exact h1
      · rw [if_neg (by omega)] at h; exact absurd rfl h
    rw [if_pos h40]
    have y6 : ((y : Int) != 6) = false := by rw [h6']; rfl
    have n40 : (n : Int) < 40 := by omega
    clear h HF0 hy h6 h6' h0 h40 hcell hb hx hR hn2
    go_enter Tryz.func60, Tryz.ntmps60
    go_upto_region 1 with fail
    show Code.wp _ _ _ _ (w.alloc (.cells sxZ.toArray 95))
    rw [← eV]
    clear eV
    go_wp2_with (first | refine wpList_store_v rfl 95 (.tmp 2) (.tmp 19) rfl _ rfl tysix HA.out sxZ_one.1 sxZ sxZ_one.1 sxZ_one.2 rfl ?_ | fail)
    exact bodyPost_ret (v := .tuple #[.agg sxZ.toArray, .int .i64 3]) (res_cell_tmp Tryz.results60 rfl (HS.out.loadVar tysix sxZ_one.1) rfl) rfl ⟨rfl, HB2.out⟩
theorem rsx_ints {n c x y2 y3 y4 b6 b7 q0 q1 : Nat} (h : 40 ≤ n) (hc : n ≤ c) (hn : n ≤ 140737488355328) (hx : x = 96 / 16) (h2 : y2 < 65536) (h3 : y3 < 16777216) (h4 : y4 < 65536) (h6 : b6 < 256) (h7 : b7 < 256) (hq0 : q0 = y2 / 16 % 256) (hq1 : q1 = y3 % 1048576) :
    (0 : Int) < (n : Int) ∧ ¬ (n : Int) < 40 ∧ ((n : Int) == 0) = false ∧ (6 : Int) < (n : Int) ∧ (7 : Int) < (n : Int) ∧ ((y2 : Int) / 16).tmod 256 = (q0 : Int) ∧ (y3 : Int).tmod 1048576 = (q1 : Int) ∧ IntKind.i64.wrap (b6 : Int) = (b6 : Int) ∧ IntKind.i64.wrap (b7 : Int) = (b7 : Int) ∧ IntKind.i64.wrap ((y2 : Int) / 16) = (y2 : Int) / 16 ∧ IntKind.i64.wrap (q0 : Int) = (q0 : Int) ∧ IntKind.i64.wrap (q1 : Int) = (q1 : Int) ∧ 0 < n ∧ 6 < n ∧ 7 < n := by
  refine ⟨by omega, by omega, beq_false_of_ne (by omega), by omega, by omega, ?_, ?_, IntWalk.i64_in _ (by omega), IntWalk.i64_in _ (by omega), IntWalk.i64_in _ (by omega), IntWalk.i64_in _ (by omega), IntWalk.i64_in _ (by omega), by omega, by omega, by omega⟩
  · rw [Int.tmod_eq_emod_of_nonneg (by omega)]; omega
  · rw [Int.tmod_eq_emod_of_nonneg (by omega)]; omega
set_option maxRecDepth 10000 in
set_option maxHeartbeats 6400000 in
theorem rsxread_ok (A : Option Addr) (n c : Nat) (bs : List Nat) (w : World) (hn2 : n ≤ 140737488355328) (hc : n ≤ c) (hR : Row w A n bs) (h : sxdef n bs = 0) :
    Calls Tryz.prog 60 #[.slice A n c] w (SxReadIs n bs w) := by
  unfold SxReadIs sxval
  rw [if_pos h, h]
  have h0 : n ≠ 0 := fun e => by unfold sxdef at h; rw [if_pos e] at h; cases h
  have h6 : bs.getD 0 0 / 16 = 6 := by
    unfold sxdef at h
    rw [if_neg h0] at h
    exact Decidable.of_not_not fun e => by rw [if_pos e] at h; cases h
  have h40 : 40 ≤ n := by
    unfold sxdef at h
    rw [if_neg h0, if_neg (fun e => e h6)] at h
    rcases Nat.lt_or_ge n 40 with h1 | h1
    · rw [if_pos h1] at h; cases h
    · exact h1
  obtain ⟨s0, s1, s2, s3, s4, l2, l3, l4⟩ := rsx_nums hR.1 h40 hR.byte
  have W2 : Hid (∀ w, Row w A n bs → Calls Tryz.prog 80 #[.slice A n c, .int .i64 0, .int .i64 2] w fun e w' => e = .returned (.int .i64 (be ((bs.drop 0).take 2) : Nat)) ∧ w = w') := fun w hR => rsxnumber_any A n c 0 2 bs w (by decide) (by decide) (by omega) hn2 hc hR
  have W3 : Hid (∀ w, Row w A n bs → Calls Tryz.prog 80 #[.slice A n c, .int .i64 1, .int .i64 3] w fun e w' => e = .returned (.int .i64 (be ((bs.drop 1).take 3) : Nat)) ∧ w = w') := fun w hR => rsxnumber_any A n c 1 3 bs w (by decide) (by decide) (by omega) hn2 hc hR
  have W4 : Hid (∀ w, Row w A n bs → Calls Tryz.prog 80 #[.slice A n c, .int .i64 4, .int .i64 2] w fun e w' => e = .returned (.int .i64 (be ((bs.drop 4).take 2) : Nat)) ∧ w = w') := fun w hR => rsxnumber_any A n c 4 2 bs w (by decide) (by decide) (by omega) hn2 hc hR
  obtain ⟨Z, hZ⟩ : ∃ Z, Z = sxZ := ⟨_, rfl⟩
  obtain ⟨V, e0⟩ : ∃ V, V = w.alloc (.cells Z.toArray 95) := ⟨_, rfl⟩
  have hZl : Z.length = 37 := by rw [hZ]; rfl
  have HA : Hid (ArrV 95 V w.heap.size Z) := by show ArrV _ _ _ _; rw [e0]; exact ArrV.new _ w Z
  have HB : Hid (Below w.heap.size w V) := by show Below _ _ _; rw [e0]; exact (Below.refl _ _).alloc (Nat.le_refl _) _
  have hRV := hR.below HB.out
  obtain ⟨b, o, rfl, hb, hcell⟩ := hRV.addr (Nat.pos_of_ne_zero h0)
  have c0 := hcell 0 (by omega)
  simp only [Nat.add_zero] at c0
  have d6 := hcell 6 (by omega)
  have d7 := hcell 7 (by omega)
  have hb6 := hR.byte 6
  have hb7 := hR.byte 7
  obtain ⟨L, hL⟩ : ∃ L, L = (bs.drop 8).take 16 := ⟨_, rfl⟩
  obtain ⟨M, hM⟩ : ∃ M, M = (bs.drop 24).take 16 := ⟨_, rfl⟩
  have hLl : L.length = 16 := by rw [hL]; exact part_len hR.1 (by omega)
  have hMl : M.length = 16 := by rw [hM]; exact part_len hR.1 (by omega)
  have HCL : Hid (∀ W, Below V.heap.size V W → ∀ i, i < 16 → W.cell? ⟨b, o + (8 + i), none⟩ = some (.int .u8 (L.getD i 0 : Nat)) ∧ W.cell? ⟨b, o + (24 + i), none⟩ = some (.int .u8 (M.getD i 0 : Nat))) := fun W hW i hi => by
    have gd : ∀ k, k + 16 ≤ n → ((bs.drop k).take 16).getD i 0 = bs.getD (k + i) 0 := fun k hk => by rw [List.getD_eq_getElem?_getD, List.getD_eq_getElem?_getD, List.getElem?_take, if_pos hi, List.getElem?_drop]
    rw [hL, hM, gd 8 (by omega), gd 24 (by omega)]
    exact ⟨(hW.cell (p := ⟨b, o + (8 + i), none⟩) hb).trans (hcell (8 + i) (by omega)), (hW.cell (p := ⟨b, o + (24 + i), none⟩) hb).trans (hcell (24 + i) (by omega))⟩
  obtain ⟨x, hxx⟩ : ∃ x, x = be (bs.take 8) := ⟨_, rfl⟩
  have HXF : Hid (sxF bs = sxNums x ++ bcells L ++ bcells M) := by show _ = _; unfold sxF; rw [← hxx, ← hL, ← hM]
  rw [← hxx] at s0 s1 s2 s3 s4
  obtain ⟨G, hG⟩ : ∃ G, G = rsxc x L M 0 := ⟨_, rfl⟩
  have hGl : G.length = 37 := by rw [hG]; exact rsxc_len hLl hMl 0
  have hGo : ∀ v ∈ G, v.oneCell' = true := by
    rw [hG, rsxc_zero]
    intro v hv
    rcases List.mem_append.1 hv with h | h
    · unfold sxNums at h
      simp at h
      rcases h with rfl | rfl | rfl | rfl | rfl <;> rfl
    · exact bcells_one _ v h
  obtain ⟨y2, hy2⟩ : ∃ y, y = be ((bs.drop 0).take 2) := ⟨_, rfl⟩
  obtain ⟨y3, hy3⟩ : ∃ y, y = be ((bs.drop 1).take 3) := ⟨_, rfl⟩
  obtain ⟨y4, hy4⟩ : ∃ y, y = be ((bs.drop 4).take 2) := ⟨_, rfl⟩
  rw [← hy2] at W2 s0 l2
  rw [← hy3] at W3 s1 l3
  rw [← hy4] at W4 s2 l4
  obtain ⟨b0, hb0⟩ : ∃ y, y = bs.getD 0 0 := ⟨_, rfl⟩
  obtain ⟨b6, hb6e⟩ : ∃ y, y = bs.getD 6 0 := ⟨_, rfl⟩
  obtain ⟨b7, hb7e⟩ : ∃ y, y = bs.getD 7 0 := ⟨_, rfl⟩
  rw [← hb0] at c0 h6
  rw [← hb6e] at d6 hb6 s3
  rw [← hb7e] at d7 hb7 s4
  have xy : (b0 : Int) / 16 = 6 := by omega
  obtain ⟨q0, hq0⟩ : ∃ y, y = y2 / 16 % 256 := ⟨_, rfl⟩
  obtain ⟨q1, hq1⟩ : ∃ y, y = y3 % 1048576 := ⟨_, rfl⟩
  rw [← hq0] at s0
  rw [← hq1] at s1
  obtain ⟨n0, n40, n0b, i6, i7, r0, r1, u6, u7, u2, v0, v1, n0N, n6N, n7N⟩ := rsx_ints h40 hc hn2 (show 6 = 96 / 16 by decide) l2 l3 l4 hb6 hb7 hq0 hq1
  have hlit2 : (#[.int .i64 (q0 : Nat), .int .i64 (q1 : Nat), .int .i64 (y4 : Nat), .int .i64 (b6 : Nat), .int .i64 (b7 : Nat), .int .u8 0, .int .u8 0, .int .u8 0, .int .u8 0, .int .u8 0, .int .u8 0, .int .u8 0, .int .u8 0, .int .u8 0, .int .u8 0, .int .u8 0, .int .u8 0, .int .u8 0, .int .u8 0, .int .u8 0, .int .u8 0, .int .u8 0, .int .u8 0, .int .u8 0, .int .u8 0, .int .u8 0, .int .u8 0, .int .u8 0, .int .u8 0, .int .u8 0, .int .u8 0, .int .u8 0, .int .u8 0, .int .u8 0, .int .u8 0, .int .u8 0, .int .u8 0] : Array Value) = G.toArray := by
    rw [hG, rsxc_zero]
    unfold sxNums
    rw [← s0, ← s1, ← s2, ← s3, ← s4]
    rfl
  have HGE := Lib.hid hG
  have HLM := Lib.hid (And.intro hLl hMl)
  have HN := Lib.hid (And.intro h40 hn2)
  have HZF := Lib.hid hZ
  have HRV := Lib.hid hRV
  have HBV := Lib.hid hb
  clear h h0 h6 h40 hb hcell hR hRV hn2 hc hL hM hxx hG hy2 hy3 hy4 hb0 hb6e hb7e hq0 hq1 s0 s1 s2 s3 s4 hLl hMl hZ
  go_enter Tryz.func60, Tryz.ntmps60
  go_upto_region 1 with fail
  show Code.wp _ _ _ _ (w.alloc (.cells sxZ.toArray 95))
  rw [← HZF.out, ← e0]
  clear e0
  go_upto_region 7 with fail
  obtain ⟨W1, eW1⟩ : ∃ W1, W1 = (V.alloc (.cells Z.toArray 95)).drew := ⟨_, rfl⟩
  have hB1 : Below V.heap.size V W1 := by rw [eW1]; exact (((Below.refl V.heap.size V).alloc (Nat.le_refl _) _)).drew
  have HR1 : Hid (Row W1 (some ⟨b, o, none⟩) n bs) := HRV.out.below hB1
  have HRVd : Hid (Row V.drew (some ⟨b, o, none⟩) n bs) := HRV.out
  have HA1 : Hid (ArrV 95 W1 V.heap.size Z) := by show ArrV _ _ _ _; rw [eW1]; exact (ArrV.new _ V Z).drew
  have HA0 : Hid (ArrV 95 W1 w.heap.size Z) := HA.out.below hB1
  have HB1 : Hid (Below V.heap.size V W1) := hB1
  have hbV : b < V.heap.size := HBV.out
  have k6 : V.drew.cell? ⟨b, o + 6, none⟩ = some (.int .u8 (b6 : Nat)) := d6
  have k7 : V.drew.cell? ⟨b, o + 7, none⟩ = some (.int .u8 (b7 : Nat)) := d7
  have m6 : W1.cell? ⟨b, o + 6, none⟩ = some (.int .u8 (b6 : Nat)) := (hB1.cell (p := ⟨b, o + 6, none⟩) hbV).trans d6
  have m7 : W1.cell? ⟨b, o + 7, none⟩ = some (.int .u8 (b7 : Nat)) := (hB1.cell (p := ⟨b, o + 7, none⟩) hbV).trans d7
  have HW1 := Lib.hid eW1
  clear eW1 hB1 c0 d6 d7 hbV
  refine wp_region_still_alloc (aF := ?aF) (w1 := W1) (v := .pointer (some ⟨V.heap.size, 0, none⟩)) 18 _ (by kernel_rfl) (by kernel_rfl) rfl (by kernel_rfl) ?h0 ?h1 ?hw ?hal ?hr
  case h0 =>
    simp only [List.take_succ_cons, List.take_zero]
    repeat still_step
    still_call ((W2.out _ HRVd.out).mono fun _ _ h => ⟨h.1, h.2.symm⟩)
    repeat still_step
    still_call ((W3.out _ HRVd.out).mono fun _ _ h => ⟨h.1, h.2.symm⟩)
    repeat still_step
    still_call ((W4.out _ HRVd.out).mono fun _ _ h => ⟨h.1, h.2.symm⟩)
    repeat still_step
    refine wpStill_nil ?_
    exact rfl
  case h1 =>
    simp only [List.take_succ_cons, List.take_zero]
    repeat still_step
    still_call ((W2.out _ HR1.out).mono fun _ _ h => ⟨h.1, h.2.symm⟩)
    repeat still_step
    still_call ((W3.out _ HR1.out).mono fun _ _ h => ⟨h.1, h.2.symm⟩)
    repeat still_step
    still_call ((W4.out _ HR1.out).mono fun _ _ h => ⟨h.1, h.2.symm⟩)
    repeat still_step
    refine wpStill_nil ?_
    exact rfl
  case hw => rfl
  case hal =>
    refine (six_new _ rfl _ _).trans ?_
    rw [HW1.out, HZF.out]
    rfl
  case hr =>
    simp only [List.drop_succ_cons, List.drop_zero]
    have hgne : w.heap.size ≠ V.heap.size := by have := HA.out.lt; omega
    have hgle : w.heap.size ≤ V.heap.size := HB.out.size
    have HF2 : Hid (ArrV 95 (W1.setCells V.heap.size 0 G) V.heap.size G) := HA1.out.store G (by rw [hGl, hZl])
    have HA2 : Hid (ArrV 95 (W1.setCells V.heap.size 0 G) w.heap.size Z) := HA0.out.apart G hgne
    have HB2 : Hid (Below V.heap.size V (W1.setCells V.heap.size 0 G)) := setCells_below _ (Nat.le_refl _) _ _ _ HB1.out
    clear k6 k7 m6 m7 u6 u7 u2 v0 v1 r0 r1 l2 l3 l4 hb6 hb7 n0 n40 n0b i6 i7 xy n0N n6N n7N
    have HG9 := Lib.hid (And.intro hgne hgle)
    clear hgne hgle
    go_wp2_with (refine wpList_store_v rfl 95 (.tmp 4) (.tmp 37) rfl _ rfl tysix HA1.out hZl G hGl hGo rfl ?_)
    have hFV : Hid (ArrV 95 (W1.setCells V.heap.size 0 G) V.heap.size (rsxc x L M 0)) := by show ArrV _ _ _ _; rw [← HGE.out]; exact HF2.out
    obtain ⟨W2', eW2⟩ : ∃ W2, W2 = W1.setCells V.heap.size 0 G := ⟨_, rfl⟩
    obtain ⟨g, hg⟩ : ∃ g, g = V.heap.size := ⟨_, rfl⟩
    have HSZ : Hid (V.heap.size ≤ g) := by show V.heap.size ≤ g; rw [hg]; exact Nat.le_refl _
    rw [← eW2, ← hg] at hFV
    have HBG : Hid (b ≠ g) := by show b ≠ g; rw [hg]; exact Nat.ne_of_lt HBV.out
    rw [← eW2] at HA2 HB2 ⊢
    rw [← hg] at HG9 ⊢
    clear eW2 hg HF2 HA1 HA0 HB1 HR1 HW1 hlit2 hGl hGo HGE HA
    go_loopw [5] (fun i W => ∃ k : Nat, k ≤ 16 ∧ i = .int .i64 k ∧ ArrV 95 W g (rsxc x L M k) ∧ ArrV 95 W w.heap.size Z ∧ Below V.heap.size V W) (fun i W => 16 - (intOf i).toNat)
    case atStart => exact ⟨0, Nat.zero_le _, rfl, hFV.out, HA2.out, HB2.out⟩
    case round =>
      clear hFV HA2 HB2
      obtain ⟨k, hk, rfl, hF, hA, hB⟩ := hrel
      by_cases hlt : k < 16
      · obtain ⟨e8, e8', e24, e24', i8, i24, n8, n24, i16, hms⟩ := rsx_idx hlt HN.out.1
        obtain ⟨c8, c24⟩ := HCL.out wr hB k hlt
        have HFN : Hid (rsxc x L M (k + 1) = ((rsxc x L M k).set (5 + k) (.int .u8 (L.getD k 0 : Nat))).set (21 + k) (.int .u8 (M.getD k 0 : Nat))) := (rsxc_set HLM.out.1 HLM.out.2 hlt).symm
        obtain ⟨p, hp⟩ : ∃ p, p = L.getD k 0 := ⟨_, rfl⟩
        obtain ⟨q, hq⟩ : ∃ q, q = M.getD k 0 := ⟨_, rfl⟩
        rw [← hp] at c8 HFN
        rw [← hq] at c24 HFN
        obtain ⟨u, hu⟩ : ∃ u, (rsxc x L M k)[5 + k]? = some u := ⟨_, List.getElem?_eq_getElem (by rw [rsxc_len HLM.out.1 HLM.out.2]; omega)⟩
        obtain ⟨v2, hv2⟩ : ∃ u, (rsxc x L M k)[21 + k]? = some u := ⟨_, List.getElem?_eq_getElem (by rw [rsxc_len HLM.out.1 HLM.out.2]; omega)⟩
        have t9 := (hF.get (5 + k)).trans hu
        have t13 := (hF.get (21 + k)).trans hv2
        have f9 := hF.frozen (5 + k)
        have f13 := hF.frozen (21 + k)
        have hgb : g ≠ b := fun e => HBG.out e.symm
        have hbg := HBG.out
        have HREL : Hid (ArrV 95 (((wr.setCell ⟨g, 5 + k, none⟩ (.int .u8 (p : Nat))).setCell ⟨g, 21 + k, none⟩ (.int .u8 (q : Nat))).drew) g (rsxc x L M (k + 1)) ∧ ArrV 95 (((wr.setCell ⟨g, 5 + k, none⟩ (.int .u8 (p : Nat))).setCell ⟨g, 21 + k, none⟩ (.int .u8 (q : Nat))).drew) w.heap.size Z ∧
            Below V.heap.size V (((wr.setCell ⟨g, 5 + k, none⟩ (.int .u8 (p : Nat))).setCell ⟨g, 21 + k, none⟩ (.int .u8 (q : Nat))).drew)) := by
          refine ⟨?_, ?_, ?_⟩
          · rw [HFN.out]
            exact ((hF.set (5 + k) _).set (21 + k) _).drew
          · exact ((hA.other _ _ (Ne.symm HG9.out.1)).other _ _ (Ne.symm HG9.out.1)).drew
          · exact ((hB.setCell (p := ⟨g, 5 + k, none⟩) HSZ.out _).setCell (p := ⟨g, 21 + k, none⟩) HSZ.out _).drew
        have hkk : k + 1 ≤ 16 := hlt
        have HKK := Lib.hid (And.intro hkk hms)
        clear hu hv2 hp hq hF hA hB hk hkk hms hlt HFN
        go_upto_region 11 with fail
        go_region
        all_goals
          go_wp2_with fail
          go_roundw
          case rel => exact ⟨k + 1, HKK.out.1, by go_num, HREL.out.1, HREL.out.2.1, HREL.out.2.2⟩
          case measure => simp [intOf]; exact HKK.out.2
      · have hk16 : k = 16 := Nat.le_antisymm hk (Nat.le_of_not_lt hlt)
        subst hk16
        rw [rsxc_end HLM.out.1 HLM.out.2] at hF
        obtain ⟨xl, xo⟩ := six_all x HLM.out.1 HLM.out.2
        obtain ⟨X, hX⟩ : ∃ X, X = sxNums x ++ bcells L ++ bcells M := ⟨_, rfl⟩
        rw [← hX] at hF xl xo HXF
        have HF2 := Lib.hid hF
        have HA2 := Lib.hid hA
        have HB2 : Hid (Below w.heap.size w (wr.setCells w.heap.size 0 X)) := setCells_below _ (Nat.le_refl _) _ _ _ (below_both HB.out hB)
        have HLD := Lib.hid ((hA.store X (by rw [xl, hZl])).loadVar tysix xl)
        clear hF hA hB hk hlt hX
        go_upto_region 12 with fail
        refine wp_region_lit ?_
        go_wp2_with (first | refine wpList_load_v rfl 95 (.tmp 4) rfl _ rfl tysix HF2.out xl ?_ | refine wpList_store_v rfl 95 (.tmp 2) (.tmp 58) rfl _ rfl tysix HA2.out hZl X xl xo rfl ?_ | fail)
        exact bodyPost_ret (v := .tuple #[.agg X.toArray, .int .i64 0]) (res_cell_tmp Tryz.results60 rfl HLD.out rfl) rfl ⟨by rw [HXF.out]; rfl, HB2.out⟩
theorem rsxread_any (A : Option Addr) (n c : Nat) (bs : List Nat) (w : World) (hn2 : n ≤ 140737488355328) (hc : n ≤ c) (hR : Row w A n bs) : Calls Tryz.prog 60 #[.slice A n c] w (SxReadIs n bs w) := by
  by_cases h : sxdef n bs = 0
  · exact rsxread_ok A n c bs w hn2 hc hR h
  · exact rsxread_bad A n c bs w hn2 hR h
end Go.Proofs.YtmchclpkjjmocaaGreat

namespace Go.Proofs.YtmchclpkjjmocaaGreat
open Go.RowKit
set_option linter.unusedVariables false

theorem rsx_fit {n c P : Nat} (h : 40 + P ≤ n) (hc : n ≤ c) (hn : n ≤ 140737488355328) : wrap64 (40 + (P : Int)) = ((40 + P : Nat) : Int) ∧ ((40 + P : Nat) : Int) ≤ (n : Int) ∧ (40 : Int) ≤ ((40 + P : Nat) : Int) ∧ ((40 + P : Nat) : Int) ≤ (c : Int) ∧ ((40 + P : Nat) : Int) - 40 = (P : Int) ∧ 40 + P - 40 = P ∧ 40 ≤ c := by
  refine ⟨by unfold wrap64; omega, by omega, by omega, by omega, by omega, by omega, by omega⟩
theorem rsx_unfit {n P : Nat} (h : ¬ 40 + P ≤ n) (hp : P ≤ 65535) : wrap64 (40 + (P : Int)) = ((40 + P : Nat) : Int) ∧ (n : Int) < ((40 + P : Nat) : Int) := by
  refine ⟨by unfold wrap64; omega, by omega⟩
set_option maxRecDepth 10000 in
set_option maxHeartbeats 3200000 in
theorem rsxrest_any (A : Option Addr) (n c : Nat) (bs : List Nat) (w : World) (hn2 : n ≤ 140737488355328) (hc : n ≤ c) (hR : Row w A n bs) :
    Calls Tryz.prog 79 #[.slice A n c] w (SxRestIs (sxrest n bs) w) := by
  have CR := Lib.hid (rsxread_any A n c bs w hn2 hc hR)
  unfold SxReadIs at CR
  obtain ⟨hXl, hXo⟩ := sxval_all n bs hR.1
  have HV2 : Hid (sxdef n bs = 0 → (sxval n bs)[2]? = some (.int .i64 (sxPay bs : Nat))) := fun h => (sxval_two h).1
  obtain ⟨X, hX⟩ : ∃ X, X = sxval n bs := ⟨_, rfl⟩
  rw [← hX] at CR hXl hXo HV2
  have HP := sxPay_le bs
  have HRI : Hid (sxrest n bs = if sxdef n bs = 0 ∧ 40 + sxPay bs ≤ n then some ((bs.drop 40).take (sxPay bs)) else none) := rfl
  rw [HRI.out]
  clear HRI hX
  obtain ⟨P, hP⟩ : ∃ P, P = sxPay bs := ⟨_, rfl⟩
  rw [← hP] at HP HV2 ⊢
  by_cases h : sxdef n bs = 0
  · have hV2 := HV2.out h
    rw [h] at CR
    have HR := Lib.hid hR
    have HHV := Lib.hid hV2
    have HN := Lib.hid (And.intro hn2 hc)
    by_cases hP2 : 40 + P ≤ n
    · rw [if_pos ⟨h, hP2⟩]
      obtain ⟨l, hl⟩ : ∃ l, l = (bs.drop 40).take P := ⟨_, rfl⟩
      have h40 : 40 ≤ n := Nat.le_trans (Nat.le_add_right _ _) hP2
      have hll : l.length = P := by rw [hl, List.length_take, List.length_drop, hR.1]; exact Nat.min_eq_left (Nat.le_sub_of_add_le (by rw [Nat.add_comm]; exact hP2))
      have CJ : Hid (∀ (g cap : Nat) (A : Option Addr) (w : World), Row w A P l → w.cell? ⟨g, 0, none⟩ = some (.slice A P cap) → Calls Tryz.prog 4 #[.slice (some ⟨g, 0, none⟩) 1 1] w fun e w' => ∃ v, e = .returned v ∧ ByteVal w' v l ∧ Below w.heap.size w w') := fun g cap A w h1 h2 => join_val g P cap 1 A l w (Nat.le_trans HP (by decide)) h1 h2
      obtain ⟨b, o, rfl, hb, hcell⟩ := hR.addr (Nat.lt_of_lt_of_le (by decide) h40)
      have HPART : Hid (∀ W, Below w.heap.size w W → Row W (some ⟨b, o + 40, none⟩) P l) := fun W hW => by rw [hl]; exact (hR.below hW).part 40 P hP2
      have HNIL : Hid (∀ (W : World) (A : Option Addr), P = 0 → Row W A P l) := fun W A h0 => by
        have e : l = [] := List.eq_nil_of_length_eq_zero (by rw [hll, h0])
        rw [e, h0]
        exact Row.nil W A
      obtain ⟨eP, iP, iP2, iP3, iP4, nP, c40⟩ := rsx_fit hP2 hc hn2
      have ic40 : (40 : Int) ≤ (c : Int) := by omega
      have HCP : Hid (c = 40 → P = 0) := fun e => by omega
      have nlt : ¬ (n : Int) < ((40 + P : Nat) : Int) := Int.not_lt.2 iP
      have j1 : (40 : Int) + (P : Int) ≤ (n : Int) := by omega
      have j2 : (40 : Int) + (P : Int) ≤ (c : Int) := by omega
      have j3 : (0 : Int) ≤ 40 + (P : Int) := by omega
      rw [← hl]
      clear h HV2 hV2 hP2 hP hR hn2 hc hl hb hcell h40 hll iP4 nP c40 eP iP iP2 iP3 nlt
      go_enter Tryz.func79, Tryz.ntmps79
      go_wp2_with fail
      refine CR.out.mono ?_
      rintro e w1 ⟨rfl, b1⟩
      obtain ⟨hst, hA, hb⟩ := six_stored w1 X hXl hXo
      go_upto_region 2 with fail
      clear hst
      obtain ⟨V, eV⟩ : ∃ V, V = (w1.alloc (.cells (Value.int .i64 0 :: Value.int .i64 0 :: Value.int .i64 0 :: Value.int .i64 0 :: Value.int .i64 0 :: Value.int .u8 0 :: Value.int .u8 0 :: Value.int .u8 0 :: Value.int .u8 0 :: Value.int .u8 0 :: Value.int .u8 0 :: Value.int .u8 0 :: Value.int .u8 0 :: Value.int .u8 0 :: Value.int .u8 0 :: Value.int .u8 0 :: Value.int .u8 0 :: Value.int .u8 0 :: Value.int .u8 0 :: Value.int .u8 0 :: Value.int .u8 0 :: Value.int .u8 0 :: Value.int .u8 0 :: Value.int .u8 0 :: Value.int .u8 0 :: Value.int .u8 0 :: Value.int .u8 0 :: Value.int .u8 0 :: Value.int .u8 0 :: Value.int .u8 0 :: Value.int .u8 0 :: Value.int .u8 0 :: Value.int .u8 0 :: Value.int .u8 0 :: Value.int .u8 0 :: Value.int .u8 0 :: Value.int .u8 0 :: [] : List Value).toArray 95)).setCells w1.heap.size 0 X := ⟨_, rfl⟩
      obtain ⟨hA2, hb2⟩ := six_world w1 X V eV hA hb
      have B1 := Lib.hid (below_both b1 hb2)
      have c2 := (hA2.get 2).trans HHV.out
      have hr2 := HPART.out V (below_both b1 hb2)
      have HR2 := Lib.hid hr2
      rw [← eV]
      clear eV hA hb b1 hb2 hA2 hr2
      obtain ⟨g, hg⟩ : ∃ g, g = w1.heap.size := ⟨_, rfl⟩
      rw [← hg] at c2 ⊢
      clear hg
      go_wp2_with fail
      ·
        refine (CJ.out _ _ _ _ (HNIL.out _ _ (HCP.out (by assumption))) (new_cell V _ _ _ rfl)).mono ?_
        rintro e w2 ⟨v2, rfl, ho, b2⟩
        have HO := Lib.hid ho
        have B2 := Lib.hid (below_both B1.out (below_al b2))
        clear ho b2 c2
        go_wp2_with fail
        go_ret2
        exact ⟨_, rfl, HO.out, B2.out⟩
      ·
        refine (CJ.out _ _ _ _ (HR2.out.alloc _) (new_cell V _ _ _ rfl)).mono ?_
        rintro e w2 ⟨v2, rfl, ho, b2⟩
        have HO := Lib.hid ho
        have B2 := Lib.hid (below_both B1.out (below_al b2))
        clear ho b2 c2
        go_wp2_with fail
        go_ret2
        exact ⟨_, rfl, HO.out, B2.out⟩
    · rw [if_neg (fun e => hP2 e.2)]
      obtain ⟨eP, iP⟩ := rsx_unfit hP2 HP
      clear h HV2 hV2 hP2 hP hR hn2 hc
      go_enter Tryz.func79, Tryz.ntmps79
      go_wp2_with fail
      refine CR.out.mono ?_
      rintro e w1 ⟨rfl, b1⟩
      obtain ⟨hst, hA, hb⟩ := six_stored w1 X hXl hXo
      go_upto_region 2 with fail
      clear hst
      obtain ⟨V, eV⟩ : ∃ V, V = (w1.alloc (.cells (Value.int .i64 0 :: Value.int .i64 0 :: Value.int .i64 0 :: Value.int .i64 0 :: Value.int .i64 0 :: Value.int .u8 0 :: Value.int .u8 0 :: Value.int .u8 0 :: Value.int .u8 0 :: Value.int .u8 0 :: Value.int .u8 0 :: Value.int .u8 0 :: Value.int .u8 0 :: Value.int .u8 0 :: Value.int .u8 0 :: Value.int .u8 0 :: Value.int .u8 0 :: Value.int .u8 0 :: Value.int .u8 0 :: Value.int .u8 0 :: Value.int .u8 0 :: Value.int .u8 0 :: Value.int .u8 0 :: Value.int .u8 0 :: Value.int .u8 0 :: Value.int .u8 0 :: Value.int .u8 0 :: Value.int .u8 0 :: Value.int .u8 0 :: Value.int .u8 0 :: Value.int .u8 0 :: Value.int .u8 0 :: Value.int .u8 0 :: Value.int .u8 0 :: Value.int .u8 0 :: Value.int .u8 0 :: Value.int .u8 0 :: [] : List Value).toArray 95)).setCells w1.heap.size 0 X := ⟨_, rfl⟩
      obtain ⟨hA2, hb2⟩ := six_world w1 X V eV hA hb
      have B1 := Lib.hid (below_both b1 hb2)
      have c2 := (hA2.get 2).trans HHV.out
      rw [← eV]
      clear eV hA hb b1 hb2 hA2
      obtain ⟨g, hg⟩ : ∃ g, g = w1.heap.size := ⟨_, rfl⟩
      rw [← hg] at c2 ⊢
      clear hg
      go_wp2_with fail
      go_ret2
      exact ⟨_, rfl, ByteVal.nil _, B1.out⟩
  · rw [if_neg (fun e => h e.1)]
    obtain ⟨d, hd⟩ : ∃ d, d = sxdef n bs := ⟨_, rfl⟩
    rw [← hd] at CR h
    have d0 : ((d : Int) != 0) = true := bne_iff_ne.2 (by omega)
    clear h HV2 hP hR hn2 hc hd
    go_enter Tryz.func79, Tryz.ntmps79
    go_wp2_with fail
    refine CR.out.mono ?_
    rintro e w1 ⟨rfl, b1⟩
    obtain ⟨hst, hA, hb⟩ := six_stored w1 X hXl hXo
    go_upto_region 2 with fail
    clear hst
    obtain ⟨V, eV⟩ : ∃ V, V = (w1.alloc (.cells (Value.int .i64 0 :: Value.int .i64 0 :: Value.int .i64 0 :: Value.int .i64 0 :: Value.int .i64 0 :: Value.int .u8 0 :: Value.int .u8 0 :: Value.int .u8 0 :: Value.int .u8 0 :: Value.int .u8 0 :: Value.int .u8 0 :: Value.int .u8 0 :: Value.int .u8 0 :: Value.int .u8 0 :: Value.int .u8 0 :: Value.int .u8 0 :: Value.int .u8 0 :: Value.int .u8 0 :: Value.int .u8 0 :: Value.int .u8 0 :: Value.int .u8 0 :: Value.int .u8 0 :: Value.int .u8 0 :: Value.int .u8 0 :: Value.int .u8 0 :: Value.int .u8 0 :: Value.int .u8 0 :: Value.int .u8 0 :: Value.int .u8 0 :: Value.int .u8 0 :: Value.int .u8 0 :: Value.int .u8 0 :: Value.int .u8 0 :: Value.int .u8 0 :: Value.int .u8 0 :: Value.int .u8 0 :: Value.int .u8 0 :: [] : List Value).toArray 95)).setCells w1.heap.size 0 X := ⟨_, rfl⟩
    obtain ⟨hA2, hb2⟩ := six_world w1 X V eV hA hb
    have B1 := Lib.hid (below_both b1 hb2)
    rw [← eV]
    clear eV hA hb b1 hb2 hA2
    go_wp2_with fail
    go_ret2
    exact ⟨_, rfl, ByteVal.nil _, B1.out⟩
set_option maxRecDepth 10000 in
set_option maxHeartbeats 3200000 in
theorem rsxall_any (A : Option Addr) (n c : Nat) (bs : List Nat) (w : World) (hn2 : n ≤ 140737488355328) (hc : n ≤ c) (hR : Row w A n bs) :
    Calls Tryz.prog 59 #[.slice A n c] w (SxAllIs (sxall n bs) w) := by
  have CR := Lib.hid (rsxread_any A n c bs w hn2 hc hR)
  unfold SxReadIs at CR
  have CT := Lib.hid (fun w hR => rsxrest_any A n c bs w hn2 hc hR)
  unfold SxRestIs at CT
  obtain ⟨hXl, hXo⟩ := sxval_all n bs hR.1
  have HV3 : Hid (sxdef n bs = 0 → (sxval n bs)[3]? = some (.int .i64 (sxNext bs : Nat))) := fun h => (sxval_two h).2
  obtain ⟨X, hX⟩ : ∃ X, X = sxval n bs := ⟨_, rfl⟩
  rw [← hX] at CR hXl hXo HV3
  have HR := Lib.hid hR
  clear hX
  by_cases h : sxdef n bs = 0
  · have hV3 := HV3.out h
    rw [h] at CR
    have HHV := Lib.hid hV3
    obtain ⟨nx, hnx⟩ : ∃ nx, nx = sxNext bs := ⟨_, rfl⟩
    rw [← hnx] at HHV
    cases hr : sxrest n bs with
    | none =>
      have hF : sxall n bs = [7] := by unfold sxall; rw [if_neg (fun e => e h), hr]
      rw [hF]
      rw [hr] at CT
      clear h HV3 hV3 hR hn2 hc hF hr hnx
      go_enter Tryz.func59, Tryz.ntmps59
      go_wp2_with fail
      refine CR.out.mono ?_
      rintro e w1 ⟨rfl, b1⟩
      obtain ⟨hst, hA, hb⟩ := six_stored w1 X hXl hXo
      go_upto_region 2 with fail
      clear hst
      obtain ⟨V, eV⟩ : ∃ V, V = (w1.alloc (.cells (Value.int .i64 0 :: Value.int .i64 0 :: Value.int .i64 0 :: Value.int .i64 0 :: Value.int .i64 0 :: Value.int .u8 0 :: Value.int .u8 0 :: Value.int .u8 0 :: Value.int .u8 0 :: Value.int .u8 0 :: Value.int .u8 0 :: Value.int .u8 0 :: Value.int .u8 0 :: Value.int .u8 0 :: Value.int .u8 0 :: Value.int .u8 0 :: Value.int .u8 0 :: Value.int .u8 0 :: Value.int .u8 0 :: Value.int .u8 0 :: Value.int .u8 0 :: Value.int .u8 0 :: Value.int .u8 0 :: Value.int .u8 0 :: Value.int .u8 0 :: Value.int .u8 0 :: Value.int .u8 0 :: Value.int .u8 0 :: Value.int .u8 0 :: Value.int .u8 0 :: Value.int .u8 0 :: Value.int .u8 0 :: Value.int .u8 0 :: Value.int .u8 0 :: Value.int .u8 0 :: Value.int .u8 0 :: Value.int .u8 0 :: [] : List Value).toArray 95)).setCells w1.heap.size 0 X := ⟨_, rfl⟩
      obtain ⟨hA2, hb2⟩ := six_world w1 X V eV hA hb
      have B1 := Lib.hid (below_both b1 hb2)
      rw [← eV]
      clear eV hA hb b1 hb2 hA2
      go_wp2_with fail
      refine (CT.out _ (HR.out.below B1.out)).mono ?_
      rintro e w2 ⟨v2, rfl, r2, b2⟩
      have B2 := Lib.hid (below_both B1.out b2)
      clear r2 b2
      go_wp2_with fail
      go_ret
      exact ⟨_, rfl, def_one w2 7, B2.out.alloc B2.out.size _⟩
    | some r =>
      have hF : sxall n bs = (walkF r.length r 9 (Tour.start ((nx : Nat) : Int)) []).1.defects := by unfold sxall; rw [if_neg (fun e => e h), hr, hnx]
      rw [hF]
      rw [hr] at CT
      have hrl := (sxrest_len hr).1
      have CG : Hid (∀ (A : Option Addr) (c : Nat) (w : World), r.length ≤ c → Row w A r.length r → Calls Tryz.prog 61 #[.int .i64 (nx : Nat), .slice A r.length c] w (GoIs w (walkF r.length r 9 (Tour.start ((nx : Nat) : Int)) []).1)) := fun A c w h1 h2 => by rw [(walkS_walkF r.length r 9 (Tour.start ((nx : Nat) : Int)) [] [] rfl).1]; exact rexgo_any (nx : Nat) A r.length c r w h1 (Nat.le_trans hrl (by decide)) h2
      obtain ⟨t, ht⟩ : ∃ t, t = (walkF r.length r 9 (Tour.start ((nx : Nat) : Int)) []).1 := ⟨_, rfl⟩
      rw [← ht] at CG ⊢
      unfold GoIs at CG
      obtain ⟨x0, x1, x2, x3, x4, hx⟩ := sx_told t
      rw [hx] at CG
      obtain ⟨D, hD⟩ : ∃ D, D = t.defects := ⟨_, rfl⟩
      rw [← hD] at CG ⊢
      clear h HV3 hV3 hR hn2 hc hF hr hnx ht hx hD hrl
      go_enter Tryz.func59, Tryz.ntmps59
      go_wp2_with fail
      refine CR.out.mono ?_
      rintro e w1 ⟨rfl, b1⟩
      obtain ⟨hst, hA, hb⟩ := six_stored w1 X hXl hXo
      go_upto_region 2 with fail
      clear hst
      obtain ⟨V, eV⟩ : ∃ V, V = (w1.alloc (.cells (Value.int .i64 0 :: Value.int .i64 0 :: Value.int .i64 0 :: Value.int .i64 0 :: Value.int .i64 0 :: Value.int .u8 0 :: Value.int .u8 0 :: Value.int .u8 0 :: Value.int .u8 0 :: Value.int .u8 0 :: Value.int .u8 0 :: Value.int .u8 0 :: Value.int .u8 0 :: Value.int .u8 0 :: Value.int .u8 0 :: Value.int .u8 0 :: Value.int .u8 0 :: Value.int .u8 0 :: Value.int .u8 0 :: Value.int .u8 0 :: Value.int .u8 0 :: Value.int .u8 0 :: Value.int .u8 0 :: Value.int .u8 0 :: Value.int .u8 0 :: Value.int .u8 0 :: Value.int .u8 0 :: Value.int .u8 0 :: Value.int .u8 0 :: Value.int .u8 0 :: Value.int .u8 0 :: Value.int .u8 0 :: Value.int .u8 0 :: Value.int .u8 0 :: Value.int .u8 0 :: Value.int .u8 0 :: Value.int .u8 0 :: [] : List Value).toArray 95)).setCells w1.heap.size 0 X := ⟨_, rfl⟩
      obtain ⟨hA2, hb2⟩ := six_world w1 X V eV hA hb
      have B1 := Lib.hid (below_both b1 hb2)
      have HA2 := Lib.hid hA2
      rw [← eV]
      clear eV hA hb b1 hb2 hA2
      obtain ⟨g, hg⟩ : ∃ g, g = w1.heap.size := ⟨_, rfl⟩
      rw [← hg] at HA2 ⊢
      clear hg
      go_wp2_with fail
      refine (CT.out _ (HR.out.below B1.out)).mono ?_
      rintro e w2 ⟨v2, rfl, ⟨A2, d2, rfl, hd2, hr2⟩, b2⟩
      have B2 := Lib.hid (below_both B1.out b2)
      have c3 := ((HA2.out.below b2).get 3).trans HHV.out
      have HR2 : Hid (Row w2 A2 r.length r) := hr2
      have HD2 : Hid (r.length ≤ d2) := hd2
      clear hd2 hr2 b2
      go_wp2_with fail
      refine (CG.out _ _ _ HD2.out HR2.out).mono ?_
      rintro e w3 ⟨v3, rfl, d3, b3⟩
      have D3 := Lib.hid d3
      have B3 := Lib.hid (below_both B2.out b3)
      clear d3 b3
      go_wp2_with fail
      go_ret
      exact ⟨_, rfl, D3.out.below ((Below.refl _ _).alloc (Nat.le_refl _) _), B3.out.alloc B3.out.size _⟩
  · obtain ⟨d, hd⟩ : ∃ d, d = sxdef n bs := ⟨_, rfl⟩
    have hF : sxall n bs = [d] := by unfold sxall; rw [if_pos h, hd]
    rw [hF]
    rw [← hd] at CR h
    have d0 : ((d : Int) != 0) = true := bne_iff_ne.2 (by omega)
    clear h HV3 hR hn2 hc hd hF
    go_enter Tryz.func59, Tryz.ntmps59
    go_wp2_with fail
    refine CR.out.mono ?_
    rintro e w1 ⟨rfl, b1⟩
    obtain ⟨hst, hA, hb⟩ := six_stored w1 X hXl hXo
    go_upto_region 2 with fail
    clear hst
    obtain ⟨V, eV⟩ : ∃ V, V = (w1.alloc (.cells (Value.int .i64 0 :: Value.int .i64 0 :: Value.int .i64 0 :: Value.int .i64 0 :: Value.int .i64 0 :: Value.int .u8 0 :: Value.int .u8 0 :: Value.int .u8 0 :: Value.int .u8 0 :: Value.int .u8 0 :: Value.int .u8 0 :: Value.int .u8 0 :: Value.int .u8 0 :: Value.int .u8 0 :: Value.int .u8 0 :: Value.int .u8 0 :: Value.int .u8 0 :: Value.int .u8 0 :: Value.int .u8 0 :: Value.int .u8 0 :: Value.int .u8 0 :: Value.int .u8 0 :: Value.int .u8 0 :: Value.int .u8 0 :: Value.int .u8 0 :: Value.int .u8 0 :: Value.int .u8 0 :: Value.int .u8 0 :: Value.int .u8 0 :: Value.int .u8 0 :: Value.int .u8 0 :: Value.int .u8 0 :: Value.int .u8 0 :: Value.int .u8 0 :: Value.int .u8 0 :: Value.int .u8 0 :: Value.int .u8 0 :: [] : List Value).toArray 95)).setCells w1.heap.size 0 X := ⟨_, rfl⟩
    obtain ⟨hA2, hb2⟩ := six_world w1 X V eV hA hb
    have B1 := Lib.hid (below_both b1 hb2)
    rw [← eV]
    clear eV hA hb b1 hb2 hA2
    go_wp2_with fail
    go_ret
    exact ⟨_, rfl, def_one V d, B1.out.alloc B1.out.size _⟩
theorem setb_add {n H f c x : Nat} (hn : n = H * 2 ^ (f + c)) (h64 : n < 18446744073709551616) (h : f + c ≤ 64) (hx : x < 2 ^ c) : setb n f c x = n + x * 2 ^ f := by
  have e : (2 : Nat) ^ 64 = 18446744073709551616 := by decide
  have hxf : x * 2 ^ f < 2 ^ (f + c) := by rw [Nat.add_comm, Nat.pow_add]; exact Nat.mul_lt_mul_of_pos_right hx (Nat.two_pow_pos f)
  have hor : n + x * 2 ^ f = n ||| x * 2 ^ f := by rw [hn, Nat.mul_comm H]; exact Nat.two_pow_add_eq_or_of_lt hxf H
  rw [hor]
  refine Nat.eq_of_testBit_eq fun j => ?_
  have hp : (2 : Nat) ^ (f + c) ≤ 2 ^ 64 := Nat.pow_le_pow_right (by decide) h
  rw [Nat.testBit_or]
  rcases Nat.lt_or_ge j 64 with hj | hj
  · rw [setb_bit n f c x j h hj]
    have hnb : n.testBit j = (decide (f + c ≤ j) && H.testBit (j - (f + c))) := by rw [hn, Nat.testBit_mul_two_pow]
    have hxb : (x * 2 ^ f).testBit j = (decide (f ≤ j) && x.testBit (j - f)) := by rw [Nat.testBit_mul_two_pow]
    by_cases h1 : f ≤ j
    · by_cases h2 : j < f + c
      · rw [if_pos ⟨h1, h2⟩, hnb, hxb, decide_eq_false (by omega), decide_eq_true h1]; simp
      · have hz : x.testBit (j - f) = false := Nat.testBit_lt_two_pow (Nat.lt_of_lt_of_le hx (Nat.pow_le_pow_right (by decide) (by omega)))
        rw [if_neg (fun q => h2 q.2), hxb, hz]; simp
    · rw [if_neg (fun q => h1 q.1), hxb, decide_eq_false h1]; simp
  · have hj2 : (2 : Nat) ^ 64 ≤ 2 ^ j := Nat.pow_le_pow_right (by decide) hj
    rw [Nat.testBit_lt_two_pow (Nat.lt_of_lt_of_le (by rw [e]; exact setb_lt n f c x h) hj2), Nat.testBit_lt_two_pow (Nat.lt_of_lt_of_le (by rw [e]; exact h64) hj2), Nat.testBit_lt_two_pow (Nat.lt_of_lt_of_le hxf (Nat.le_trans hp hj2))]
    rfl
/-- A header's first eight bytes. -/
def head8 (a0 a1 a2 a3 a4 : Nat) : List Nat := [96 + a0 / 16, a0 % 16 * 16 + a1 / 65536, a1 / 256 % 256, a1 % 256, a2 / 256, a2 % 256, a3, a4]
theorem sx_acc (f : SixV) (a0 a1 a2 a3 a4 : Nat) (e0 : f.k 0 = a0) (e1 : f.k 1 = a1) (e2 : f.k 2 = a2) (e3 : f.k 3 = a3) (e4 : f.k 4 = a4) (h : a0 ≤ 255 ∧ a1 ≤ 1048575 ∧ a2 ≤ 65535 ∧ a3 ≤ 255 ∧ a4 ≤ 255) :
    f.acc 5 = 6 * 2 ^ 60 + a0 * 2 ^ 52 + a1 * 2 ^ 32 + a2 * 2 ^ 16 + a3 * 2 ^ 8 + a4 := by
  obtain ⟨h0, h1, h2, h3, h4⟩ := h
  have b0 : f.acc 0 = 6 * 2 ^ 60 := by
    show setb 0 60 4 6 = _
    rw [setb_add (H := 0) (by decide) (by decide) (by decide) (by decide)]
  have b1 : f.acc 1 = 6 * 2 ^ 60 + a0 * 2 ^ 52 := by
    show setb (f.acc 0) 52 8 (f.k 0).toNat = _
    rw [b0, e0, Int.toNat_natCast, setb_add (H := 6) (by decide) (by decide) (by decide) (by simp only [Nat.reducePow]; omega)]
  have b2 : f.acc 2 = 6 * 2 ^ 60 + a0 * 2 ^ 52 + a1 * 2 ^ 32 := by
    show setb (f.acc 1) 32 20 (f.k 1).toNat = _
    rw [b1, e1, Int.toNat_natCast, setb_add (H := 6 * 2 ^ 8 + a0) (by simp only [Nat.reducePow, Nat.reduceAdd, Nat.reduceMul]; omega) (by simp only [Nat.reducePow, Nat.reduceMul]; omega) (by decide) (by simp only [Nat.reducePow]; omega)]
  have b3 : f.acc 3 = 6 * 2 ^ 60 + a0 * 2 ^ 52 + a1 * 2 ^ 32 + a2 * 2 ^ 16 := by
    show setb (f.acc 2) 16 16 (f.k 2).toNat = _
    rw [b2, e2, Int.toNat_natCast, setb_add (H := 6 * 2 ^ 28 + a0 * 2 ^ 20 + a1) (by simp only [Nat.reducePow, Nat.reduceAdd, Nat.reduceMul]; omega) (by simp only [Nat.reducePow, Nat.reduceMul]; omega) (by decide) (by simp only [Nat.reducePow]; omega)]
  have b4 : f.acc 4 = 6 * 2 ^ 60 + a0 * 2 ^ 52 + a1 * 2 ^ 32 + a2 * 2 ^ 16 + a3 * 2 ^ 8 := by
    show setb (f.acc 3) 8 8 (f.k 3).toNat = _
    rw [b3, e3, Int.toNat_natCast, setb_add (H := 6 * 2 ^ 44 + a0 * 2 ^ 36 + a1 * 2 ^ 16 + a2) (by simp only [Nat.reducePow, Nat.reduceAdd, Nat.reduceMul]; omega) (by simp only [Nat.reducePow, Nat.reduceMul]; omega) (by decide) (by simp only [Nat.reducePow]; omega)]
  show setb (f.acc 4) 0 8 (f.k 4).toNat = _
  rw [b4, e4, Int.toNat_natCast, setb_add (H := 6 * 2 ^ 52 + a0 * 2 ^ 44 + a1 * 2 ^ 24 + a2 * 2 ^ 8 + a3) (by simp only [Nat.reducePow, Nat.reduceAdd, Nat.reduceMul]; omega) (by simp only [Nat.reducePow, Nat.reduceMul]; omega) (by decide) (by simp only [Nat.reducePow]; omega), Nat.pow_zero, Nat.mul_one]
theorem sx_head (a0 a1 a2 a3 a4 : Nat) (h : a0 ≤ 255 ∧ a1 ≤ 1048575 ∧ a2 ≤ 65535 ∧ a3 ≤ 255 ∧ a4 ≤ 255) : pb (6 * 2 ^ 60 + a0 * 2 ^ 52 + a1 * 2 ^ 32 + a2 * 2 ^ 16 + a3 * 2 ^ 8 + a4) 8 = head8 a0 a1 a2 a3 a4 := by
  obtain ⟨h0, h1, h2, h3, h4⟩ := h
  obtain ⟨x, hx⟩ : ∃ x, x = 6 * 2 ^ 60 + a0 * 2 ^ 52 + a1 * 2 ^ 32 + a2 * 2 ^ 16 + a3 * 2 ^ 8 + a4 := ⟨_, rfl⟩
  rw [← hx]
  simp only [Nat.reducePow, Nat.reduceMul] at hx
  have e : pb x 8 = [x / 256 ^ 7 % 256, x / 256 ^ 6 % 256, x / 256 ^ 5 % 256, x / 256 ^ 4 % 256, x / 256 ^ 3 % 256, x / 256 ^ 2 % 256, x / 256 ^ 1 % 256, x / 256 ^ 0 % 256] := rfl
  rw [e]
  unfold head8
  simp only [Nat.reducePow]
  rw [show x / 72057594037927936 % 256 = 96 + a0 / 16 by omega, show x / 281474976710656 % 256 = a0 % 16 * 16 + a1 / 65536 by omega, show x / 1099511627776 % 256 = a1 / 256 % 256 by omega, show x / 4294967296 % 256 = a1 % 256 by omega,
    show x / 16777216 % 256 = a2 / 256 by omega, show x / 65536 % 256 = a2 % 256 by omega, show x / 256 % 256 = a3 by omega, show x / 1 % 256 = a4 by omega]
theorem six_w64 {x : Int} (h0 : -9223372036854775808 ≤ x) (h1 : x ≤ 9223372036854775807) : wrap64 x = x := by unfold wrap64; omega
theorem six_cells (a0 a1 a2 a3 a4 : Nat) (h : a0 ≤ 255 ∧ a1 ≤ 1048575 ∧ a2 ≤ 65535 ∧ a3 ≤ 255 ∧ a4 ≤ 255) :
    (#[Value.int .u8 (wrap64 (96 + wrap64 ((a0 : Int) / 16)) % 256), .int .u8 (wrap64 ((a0 : Int) % 16 * 16 + wrap64 ((a1 : Int) / 65536)) % 256), .int .u8 ((wrap64 ((a1 : Int) / 256)).tmod 256 % 256), .int .u8 ((a1 : Int) % 256), .int .u8 (wrap64 ((a2 : Int) / 256) % 256), .int .u8 ((a2 : Int) % 256), .int .u8 ((a3 : Int) % 256), .int .u8 ((a4 : Int) % 256)] : Array Value) = (bcells (head8 a0 a1 a2 a3 a4)).toArray := by
  obtain ⟨h0, h1, h2, h3, h4⟩ := h
  rw [six_w64 (x := (a0 : Int) / 16) (by omega) (by omega), six_w64 (x := 96 + (a0 : Int) / 16) (by omega) (by omega), six_w64 (x := (a1 : Int) / 65536) (by omega) (by omega), six_w64 (x := (a0 : Int) % 16 * 16 + (a1 : Int) / 65536) (by omega) (by omega), six_w64 (x := (a1 : Int) / 256) (by omega) (by omega), six_w64 (x := (a2 : Int) / 256) (by omega) (by omega), Int.tmod_eq_emod_of_nonneg (by omega)]
  rw [show (96 + (a0 : Int) / 16) % 256 = ((96 + a0 / 16 : Nat) : Int) by omega, show ((a0 : Int) % 16 * 16 + (a1 : Int) / 65536) % 256 = ((a0 % 16 * 16 + a1 / 65536 : Nat) : Int) by omega, show (a1 : Int) / 256 % 256 % 256 = ((a1 / 256 % 256 : Nat) : Int) by omega, show (a1 : Int) % 256 = ((a1 % 256 : Nat) : Int) by omega,
    show (a2 : Int) / 256 % 256 = ((a2 / 256 : Nat) : Int) by omega, show (a2 : Int) % 256 = ((a2 % 256 : Nat) : Int) by omega, show (a3 : Int) % 256 = ((a3 : Nat) : Int) by omega, show (a4 : Int) % 256 = ((a4 : Nat) : Int) by omega]
  rfl
theorem head8_byte (a0 a1 a2 a3 a4 : Nat) (h : a0 ≤ 255 ∧ a1 ≤ 1048575 ∧ a2 ≤ 65535 ∧ a3 ≤ 255 ∧ a4 ≤ 255) : ∀ x ∈ head8 a0 a1 a2 a3 a4, x < 256 := by
  intro x hx
  unfold head8 at hx
  simp at hx
  omega
end Go.Proofs.YtmchclpkjjmocaaGreat
