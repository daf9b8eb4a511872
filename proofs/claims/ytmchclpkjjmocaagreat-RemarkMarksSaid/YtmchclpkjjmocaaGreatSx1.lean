/-
  Contracts of sixhead's fields.
  The contract of sixhead's Read.
-/
import Derived.Test.YtmchclpkjjmocaaGreatFh1
import Derived.Test.YtmchclpkjjmocaaGreatOct1
import Derived.StillTailTactics
import Derived.Deep.RegionHeld3
namespace Go.Proofs.YtmchclpkjjmocaaGreat
open Go.RowKit
set_option linter.unusedVariables false

theorem tysix : RowTy 95 37 := ⟨⟨_, Tryz.underlying95, rfl⟩, by kernel_rfl⟩
theorem tyfield : RowTy 137 3 := ⟨⟨_, Tryz.underlying137, rfl⟩, by kernel_rfl⟩
theorem tyfields : RowTy 138 15 := ⟨⟨_, Tryz.underlying138, rfl⟩, by kernel_rfl⟩
/-- The numbers of a header, each with where it stands: the header's variable is block g. -/
def sxFields (g : Nat) : List Value :=
  [.pointer (some ⟨g, 0, none⟩), .int .i64 52, .int .i64 8, .pointer (some ⟨g, 1, none⟩), .int .i64 32, .int .i64 20, .pointer (some ⟨g, 2, none⟩), .int .i64 16, .int .i64 16, .pointer (some ⟨g, 3, none⟩), .int .i64 8, .int .i64 8, .pointer (some ⟨g, 4, none⟩), .int .i64 0, .int .i64 8]
def sxFieldsZ : List Value :=
  [.pointer none, .int .i64 0, .int .i64 0, .pointer none, .int .i64 0, .int .i64 0, .pointer none, .int .i64 0, .int .i64 0, .pointer none, .int .i64 0, .int .i64 0, .pointer none, .int .i64 0, .int .i64 0]
theorem sxFields_one (g : Nat) : ∀ v ∈ sxFields g, v.oneCell' = true := by
  unfold sxFields
  simp [Value.oneCell']
set_option maxRecDepth 10000 in
set_option maxHeartbeats 1600000 in
theorem sxfields_any (g : Nat) (w : World) : Calls Tryz.prog 87 #[.pointer (some ⟨g, 0, none⟩)] w fun e w' => e = .returned (.agg (sxFields g).toArray) ∧ Below w.heap.size w w' := by
  obtain ⟨V, eV⟩ : ∃ V, V = w.alloc (.cells #[.pointer none, .int .i64 0, .int .i64 0, .pointer none, .int .i64 0, .int .i64 0, .pointer none, .int .i64 0, .int .i64 0, .pointer none, .int .i64 0, .int .i64 0, .pointer none, .int .i64 0, .int .i64 0] 138) := ⟨_, rfl⟩
  have HA : Hid (ArrV 138 V w.heap.size sxFieldsZ) := by show ArrV _ _ _ _; rw [eV]; exact ArrV.new _ w sxFieldsZ
  have HB : Hid (Below w.heap.size w V) := by show Below _ _ _; rw [eV]; exact (Below.refl _ _).alloc (Nat.le_refl _) _
  obtain ⟨X, hX⟩ : ∃ X, X = sxFields g := ⟨_, rfl⟩
  have hXl : X.length = 15 := by rw [hX]; rfl
  have hone : ∀ v ∈ X, v.oneCell' = true := by rw [hX]; exact sxFields_one g
  have hlit : (#[.pointer (some ⟨g, 0, none⟩), .int .i64 52, .int .i64 8, .pointer (some ⟨g, 1, none⟩), .int .i64 32, .int .i64 20, .pointer (some ⟨g, 2, none⟩), .int .i64 16, .int .i64 16, .pointer (some ⟨g, 3, none⟩), .int .i64 8, .int .i64 8, .pointer (some ⟨g, 4, none⟩), .int .i64 0, .int .i64 8] : Array Value) = X.toArray := by rw [hX]; rfl
  rw [← hX]
  clear hX
  go_enter Tryz.func87, Tryz.ntmps87
  go_upto_region 1 with fail
  rw [← eV]
  clear eV
  obtain ⟨gf, hgf⟩ : ∃ gf, gf = w.heap.size := ⟨_, rfl⟩
  have HG : Hid (w.heap.size ≤ gf) := by show w.heap.size ≤ gf; rw [hgf]; exact Nat.le_refl _
  rw [← hgf] at HA ⊢
  clear hgf
  have HS := Lib.hid ((HA.out.drew).store X (by rw [hXl]; rfl))
  have HB2 : Hid (Below w.heap.size w (V.drew.setCells gf 0 X)) := setCells_below _ HG.out _ _ _ HB.out.drew
  have hA := HA.out.drew
  refine wp_region_still_tail 21 (by kernel_rfl) (by kernel_rfl) ?_
  simp only [List.take_succ_cons, List.take_zero, List.drop_succ_cons, List.drop_zero]
  repeat still_step
  refine wpStill_nil ?_
  change wpList _ _ _ _ _ V.drew
  go_wp2_with (first | refine wpList_store_v rfl 138 (.tmp 2) (.tmp 23) rfl _ rfl tyfields hA rfl X hXl hone rfl ?_ | fail)
  exact bodyPost_ret (v := .agg X.toArray) (res_cell Tryz.results87 rfl (HS.out.loadVar tyfields hXl)) rfl ⟨rfl, HB2.out⟩
theorem sx_idx (X : Array Value) (g : Nat) (h : X = (sxFields g).toArray) (w : World) : (Instr.index 138 (.agg X) (.int .i64 2)).run Tryz.prog w = .ok (.agg #[.pointer (some ⟨g, 2, none⟩), .int .i64 16, .int .i64 16]) w := by
  subst h
  simp [sxFields, Instr.index, run_underlying Tryz.underlying138, asIntOf, go_sem]
end Go.Proofs.YtmchclpkjjmocaaGreat

namespace Go.Proofs.YtmchclpkjjmocaaGreat
open Go.RowKit
set_option linter.unusedVariables false

/-- The numbers of a header by the number of its first eight bytes. -/
def sxN (x : Nat) : Nat → Nat
  | 0 => x / 2 ^ 52 % 2 ^ 8
  | 1 => x / 2 ^ 32 % 2 ^ 20
  | 2 => x / 2 ^ 16 % 2 ^ 16
  | 3 => x / 2 ^ 8 % 2 ^ 8
  | _ => x / 2 ^ 0 % 2 ^ 8
def sxPart (x j : Nat) : List Value := [.int .i64 ((if 0 < j then sxN x 0 else 0 : Nat) : Int), .int .i64 ((if 1 < j then sxN x 1 else 0 : Nat) : Int), .int .i64 ((if 2 < j then sxN x 2 else 0 : Nat) : Int), .int .i64 ((if 3 < j then sxN x 3 else 0 : Nat) : Int), .int .i64 ((if 4 < j then sxN x 4 else 0 : Nat) : Int)] ++ bcells (List.replicate 32 0)
def sxZ : List Value := [.int .i64 0, .int .i64 0, .int .i64 0, .int .i64 0, .int .i64 0] ++ bcells (List.replicate 32 0)
theorem sxPart_zero (x : Nat) : sxPart x 0 = sxZ := rfl
def sxNums (x : Nat) : List Value := [.int .i64 (sxN x 0 : Nat), .int .i64 (sxN x 1 : Nat), .int .i64 (sxN x 2 : Nat), .int .i64 (sxN x 3 : Nat), .int .i64 (sxN x 4 : Nat)]
/-- The fields of a header. -/
def sxF (bs : List Nat) : List Value := sxNums (be (bs.take 8)) ++ bcells ((bs.drop 8).take 16) ++ bcells ((bs.drop 24).take 16)
def sxdef (n : Nat) (bs : List Nat) : Nat := if n = 0 then 1 else if bs.getD 0 0 / 16 ≠ 6 then 2 else if n < 40 then 3 else 0
def sxval (n : Nat) (bs : List Nat) : List Value := if sxdef n bs = 0 then sxF bs else sxZ
def SxReadIs (n : Nat) (bs : List Nat) (w : World) (e : Ending) (w' : World) : Prop := e = .returned (.tuple #[.agg (sxval n bs).toArray, .int .i64 (sxdef n bs : Nat)]) ∧ Below w.heap.size w w'
theorem sxZ_one : sxZ.length = 37 ∧ ∀ v ∈ sxZ, v.oneCell' = true := ⟨rfl, by unfold sxZ; simp [Value.oneCell', bcells]⟩
set_option maxRecDepth 10000 in
set_option maxHeartbeats 3200000 in
theorem sxread_bad (A : Option Addr) (n c : Nat) (bs : List Nat) (w : World) (hn2 : n ≤ 140737488355328) (hR : Row w A n bs) (h : sxdef n bs ≠ 0) :
    Calls Tryz.prog 91 #[.slice A n c] w (SxReadIs n bs w) := by
  unfold SxReadIs sxval
  rw [if_neg h]
  obtain ⟨V, eV⟩ : ∃ V, V = w.alloc (.cells sxZ.toArray 95) := ⟨_, rfl⟩
  have HA : Hid (ArrV 95 V w.heap.size sxZ) := by show ArrV _ _ _ _; rw [eV]; exact ArrV.new _ w sxZ
  have HB : Hid (Below w.heap.size w V) := by show Below _ _ _; rw [eV]; exact (Below.refl _ _).alloc (Nat.le_refl _) _
  have HRV := Lib.hid (hR.below HB.out)
  have hx := hR.byte 0
  by_cases h0 : n = 0
  · have hF : sxdef n bs = 1 := by unfold sxdef; rw [if_pos h0]
    rw [hF]
    subst h0
    have HS := Lib.hid (HA.out.store sxZ rfl)
    have HB2 : Hid (Below w.heap.size w (V.setCells w.heap.size 0 sxZ)) := setCells_below _ (Nat.le_refl _) _ _ _ HB.out
    clear hF h hR hn2 hx
    go_enter Tryz.func91, Tryz.ntmps91
    go_upto_region 1 with fail
    show Code.wp _ _ _ _ (w.alloc (.cells sxZ.toArray 95))
    rw [← eV]
    clear eV
    go_wp2_with (first | refine wpList_store_v rfl 95 (.tmp 2) (.tmp 13) rfl _ rfl tysix HA.out sxZ_one.1 sxZ sxZ_one.1 sxZ_one.2 rfl ?_ | fail)
    exact bodyPost_ret (v := .tuple #[.agg sxZ.toArray, .int .i64 1]) (res_cell_tmp Tryz.results91 rfl (HS.out.loadVar tysix sxZ_one.1) rfl) rfl ⟨rfl, HB2.out⟩
  have nI : (0 : Int) < (n : Int) := by omega
  have n0b : ((n : Int) == 0) = false := beq_false_of_ne (by omega)
  obtain ⟨b, o, rfl, hb, hcell⟩ := HRV.out.addr (Nat.pos_of_ne_zero h0)
  have c0 := hcell 0 (Nat.pos_of_ne_zero h0)
  simp only [Nat.add_zero] at c0
  have HF0 : Hid (sxdef n bs = if bs.getD 0 0 / 16 ≠ 6 then 2 else if n < 40 then 3 else 0) := by show _ = _; unfold sxdef; rw [if_neg h0]
  rw [HF0.out] at h ⊢
  generalize bs.getD 0 0 = x at *
  obtain ⟨y, hy⟩ : ∃ y, y = x / 16 := ⟨_, rfl⟩
  have xy : (x : Int) / 16 = (y : Int) := by omega
  have y16 : y < 16 := by omega
  rw [← hy] at h ⊢
  have HS := Lib.hid (HA.out.store sxZ rfl)
  have HB2 : Hid (Below w.heap.size w (V.setCells w.heap.size 0 sxZ)) := setCells_below _ (Nat.le_refl _) _ _ _ HB.out
  by_cases h6 : y ≠ 6
  · rw [if_pos h6]
    have y6 : ((y : Int) != 6) = true := bne_iff_ne.2 (by omega)
    clear h HF0 hy h6 h0 hcell hb hx hR hn2
    go_enter Tryz.func91, Tryz.ntmps91
    go_upto_region 1 with fail
    show Code.wp _ _ _ _ (w.alloc (.cells sxZ.toArray 95))
    rw [← eV]
    clear eV
    go_wp2_with (first | refine wpList_store_v rfl 95 (.tmp 2) (.tmp 20) rfl _ rfl tysix HA.out sxZ_one.1 sxZ sxZ_one.1 sxZ_one.2 rfl ?_ | fail)
    exact bodyPost_ret (v := .tuple #[.agg sxZ.toArray, .int .i64 2]) (res_cell_tmp Tryz.results91 rfl (HS.out.loadVar tysix sxZ_one.1) rfl) rfl ⟨rfl, HB2.out⟩
  · have h6' : y = 6 := Decidable.of_not_not h6
    rw [if_neg h6] at h ⊢
    have h40 : n < 40 := by
      rcases Nat.lt_or_ge n 40 with h1 | h1
      · exact h1
      · rw [if_neg (by omega)] at h; exact absurd rfl h
    rw [if_pos h40]
    have y6 : ((y : Int) != 6) = false := by rw [h6']; rfl
    have n40 : (n : Int) < 40 := by omega
    clear h HF0 hy h6 h6' h0 h40 hcell hb hx hR hn2
    go_enter Tryz.func91, Tryz.ntmps91
    go_upto_region 1 with fail
    show Code.wp _ _ _ _ (w.alloc (.cells sxZ.toArray 95))
    rw [← eV]
    clear eV
    go_wp2_with (first | refine wpList_store_v rfl 95 (.tmp 2) (.tmp 25) rfl _ rfl tysix HA.out sxZ_one.1 sxZ sxZ_one.1 sxZ_one.2 rfl ?_ | fail)
    exact bodyPost_ret (v := .tuple #[.agg sxZ.toArray, .int .i64 3]) (res_cell_tmp Tryz.results91 rfl (HS.out.loadVar tysix sxZ_one.1) rfl) rfl ⟨rfl, HB2.out⟩
theorem sx_ix0 (g : Nat) (w : World) : (Instr.index 138 (.agg (sxFields g).toArray) (.int .i64 0)).run Tryz.prog w = .ok (.agg #[.pointer (some ⟨g, 0, none⟩), .int .i64 52, .int .i64 8]) w := by
  simp [sxFields, Instr.index, run_underlying Tryz.underlying138, asIntOf, go_sem]
theorem sx_ix1 (g : Nat) (w : World) : (Instr.index 138 (.agg (sxFields g).toArray) (.int .i64 1)).run Tryz.prog w = .ok (.agg #[.pointer (some ⟨g, 1, none⟩), .int .i64 32, .int .i64 20]) w := by
  simp [sxFields, Instr.index, run_underlying Tryz.underlying138, asIntOf, go_sem]
theorem sx_ix2 (g : Nat) (w : World) : (Instr.index 138 (.agg (sxFields g).toArray) (.int .i64 2)).run Tryz.prog w = .ok (.agg #[.pointer (some ⟨g, 2, none⟩), .int .i64 16, .int .i64 16]) w := by
  simp [sxFields, Instr.index, run_underlying Tryz.underlying138, asIntOf, go_sem]
theorem sx_ix3 (g : Nat) (w : World) : (Instr.index 138 (.agg (sxFields g).toArray) (.int .i64 3)).run Tryz.prog w = .ok (.agg #[.pointer (some ⟨g, 3, none⟩), .int .i64 8, .int .i64 8]) w := by
  simp [sxFields, Instr.index, run_underlying Tryz.underlying138, asIntOf, go_sem]
theorem sx_ix4 (g : Nat) (w : World) : (Instr.index 138 (.agg (sxFields g).toArray) (.int .i64 4)).run Tryz.prog w = .ok (.agg #[.pointer (some ⟨g, 4, none⟩), .int .i64 0, .int .i64 8]) w := by
  simp [sxFields, Instr.index, run_underlying Tryz.underlying138, asIntOf, go_sem]
theorem sxPart_set (x : Nat) : ∀ j, j < 5 → (sxPart x j).set j (.int .i64 ((sxN x j : Nat) : Int)) = sxPart x (j + 1)
  | 0, _ => rfl
  | 1, _ => rfl
  | 2, _ => rfl
  | 3, _ => rfl
  | 4, _ => rfl
theorem six_src (x : Nat) (l : List Nat) : (sxPart x 5).take 5 ++ bcells l ++ (sxPart x 5).drop (5 + 16) = sxNums x ++ bcells l ++ bcells (List.replicate 16 0) := rfl
theorem six_dst (x : Nat) (l m : List Nat) (hl : l.length = 16) : (sxNums x ++ bcells l ++ bcells (List.replicate 16 0)).take 21 ++ bcells m ++ (sxNums x ++ bcells l ++ bcells (List.replicate 16 0)).drop (21 + 16) = sxNums x ++ bcells l ++ bcells m := by
  have h21 : (sxNums x ++ bcells l).length = 21 := by rw [List.length_append, bcells_length, hl]; rfl
  have h37 : (sxNums x ++ bcells l ++ bcells (List.replicate 16 0)).length = 37 := by rw [List.length_append, h21, bcells_length]; rfl
  rw [List.take_left' h21, List.drop_of_length_le (by rw [h37]; exact Nat.le_refl _), List.append_nil]
theorem row_src {W : World} {b o n k : Nat} {bs : List Nat} (h : Row W (some ⟨b, o, none⟩) n bs) (hk : k + 16 ≤ n) : ∀ j v, (bcells ((bs.drop k).take 16))[j]? = some v → W.cell? ((⟨b, o + k, none⟩ : Addr).add j) = some v := fun j v hj => by
  obtain ⟨hj2, rfl⟩ := bcells_get hj
  have hp := h.part k 16 hk
  obtain ⟨b2, o2, e, _, hc⟩ := hp.addr (by decide)
  injection e with e
  injection e with e1 e2
  subst e1 e2
  rw [add_flat]
  exact hc j (by rw [List.length_take] at hj2; exact Nat.lt_of_lt_of_le hj2 (Nat.min_le_left _ _))
theorem part_len {n k : Nat} {bs : List Nat} (hl : bs.length = n) (h : k + 16 ≤ n) : ((bs.drop k).take 16).length = 16 := by rw [List.length_take, List.length_drop, hl]; omega
theorem six_all (x : Nat) {l m : List Nat} (hl : l.length = 16) (hm : m.length = 16) : (sxNums x ++ bcells l ++ bcells m).length = 37 ∧ ∀ v ∈ sxNums x ++ bcells l ++ bcells m, v.oneCell' = true := by
  refine ⟨by rw [List.length_append, List.length_append, bcells_length, bcells_length, hl, hm]; rfl, fun v hv => ?_⟩
  rcases List.mem_append.1 hv with h | h
  · rcases List.mem_append.1 h with h | h
    · unfold sxNums at h
      simp at h
      rcases h with rfl | rfl | rfl | rfl | rfl <;> rfl
    · exact bcells_one l v h
  · exact bcells_one m v h
theorem sx_caps {n c : Nat} (h40 : 40 ≤ n) (hc : n ≤ c) : ¬ c = 8 ∧ ¬ c = 24 ∧ (8 : Int) ≤ (c : Int) ∧ (24 : Int) ≤ (c : Int) ∧ (8 : Int) ≤ (n : Int) ∧ (24 : Int) ≤ (n : Int) ∧ 8 + 16 ≤ n ∧ 24 + 16 ≤ n ∧ Nat.min (n - 8) 16 = 16 ∧ Nat.min (n - 24) 16 = 16 := ⟨by omega, by omega, by omega, by omega, by omega, by omega, by omega, by omega, Nat.min_eq_right (by omega), Nat.min_eq_right (by omega)⟩
theorem sxN_le (x j : Nat) : sxN x j ≤ 1048575 := by
  unfold sxN
  split
  · have := Nat.mod_lt (x / 2 ^ 52) (show 0 < 2 ^ 8 by decide); omega
  · have := Nat.mod_lt (x / 2 ^ 32) (show 0 < 2 ^ 20 by decide); omega
  · have := Nat.mod_lt (x / 2 ^ 16) (show 0 < 2 ^ 16 by decide); omega
  · have := Nat.mod_lt (x / 2 ^ 8) (show 0 < 2 ^ 8 by decide); omega
  · have := Nat.mod_lt (x / 2 ^ 0) (show 0 < 2 ^ 8 by decide); omega
theorem sx_wrap {v : Nat} (h : v ≤ 1048575) : wrap64 (v : Int) = (v : Int) ∧ IntKind.i64.wrap (v : Int) = (v : Int) := ⟨by unfold wrap64; omega, IntWalk.i64_in _ (by omega)⟩
set_option maxRecDepth 10000 in
set_option maxHeartbeats 6400000 in
theorem sxread_ok (A : Option Addr) (n c : Nat) (bs : List Nat) (w : World) (hn2 : n ≤ 140737488355328) (hc : n ≤ c) (hR : Row w A n bs) (h : sxdef n bs = 0) :
    Calls Tryz.prog 91 #[.slice A n c] w (SxReadIs n bs w) := by
  unfold SxReadIs sxval
  rw [if_pos h, h]
  have h0 : n ≠ 0 := fun e => by unfold sxdef at h; rw [if_pos e] at h; cases h
  have h6 : bs.getD 0 0 / 16 = 6 := by
    unfold sxdef at h
    rw [if_neg h0] at h
    exact Decidable.of_not_not fun e => by rw [if_pos e] at h; cases h
  have h40 : 40 ≤ n := by
    unfold sxdef at h
    rw [if_neg h0, if_neg (fun e => e h6)] at h
    rcases Nat.lt_or_ge n 40 with h1 | h1
    · rw [if_pos h1] at h; cases h
    · exact h1
  obtain ⟨V1, eV1⟩ : ∃ V, V = w.alloc (.cells sxZ.toArray 95) := ⟨_, rfl⟩
  have HA2 : Hid (ArrV 95 V1 w.heap.size sxZ) := by show ArrV _ _ _ _; rw [eV1]; exact ArrV.new _ w sxZ
  have HB1 : Hid (Below w.heap.size w V1) := by show Below _ _ _; rw [eV1]; exact (Below.refl _ _).alloc (Nat.le_refl _) _
  obtain ⟨V2, eV2⟩ : ∃ V, V = V1.alloc (.cells sxZ.toArray 95) := ⟨_, rfl⟩
  have HA4 : Hid (ArrV 95 V2 V1.heap.size sxZ) := by show ArrV _ _ _ _; rw [eV2]; exact ArrV.new _ V1 sxZ
  have HB2 : Hid (Below V1.heap.size V1 V2) := by show Below _ _ _; rw [eV2]; exact (Below.refl _ _).alloc (Nat.le_refl _) _
  have HRV : Hid (Row V1 A n bs) := hR.below HB1.out
  obtain ⟨b, o, rfl, hb, hcell⟩ := HRV.out.addr (Nat.pos_of_ne_zero h0)
  have c0 := hcell 0 (Nat.pos_of_ne_zero h0)
  simp only [Nat.add_zero] at c0
  have HCW := Lib.hid (And.intro hb hcell)
  have hx := hR.byte 0
  obtain ⟨b0, hb0⟩ : ∃ b0, b0 = bs.getD 0 0 := ⟨_, rfl⟩
  rw [← hb0] at c0 h6 hx
  have xy : (b0 : Int) / 16 = 6 := by omega
  obtain ⟨x, hxx⟩ : ∃ x, x = be (bs.take 8) := ⟨_, rfl⟩
  have CG : Hid (∀ w, Row w (some ⟨b, o, none⟩) n bs → Calls Tryz.prog 34 #[.slice (some ⟨b, o, none⟩) n c, .int .i64 0, .int .i64 8] w fun e w' => e = .returned (.tuple #[.int .u64 (x : Nat), .int .i64 0]) ∧ w = w') := fun w hR => by
    have q := get_ok (some ⟨b, o, none⟩) n c 0 8 bs w (by omega) hc (by decide) (by decide) (by omega) hR
    rw [List.drop_zero, ← hxx] at q
    exact q
  have hx64 : x ≤ 18446744073709551615 := by rw [hxx]; exact be_lt8 _ (fun y hy => hR.2.1 y (List.mem_of_mem_take hy)) (by rw [List.length_take]; exact Nat.min_le_left _ _)
  have CB : Hid (∀ (f c : Nat), f ≤ 63 → f + c ≤ 64 → ∀ w, Calls Tryz.prog 88 #[.int .u64 (x : Nat), .int .i64 (f : Nat), .int .i64 (c : Nat)] w (Quiet (.int .u64 ((x / 2 ^ f % 2 ^ c : Nat) : Int)) w)) := fun f c h1 h3 w => bits_ok x f c w hx64 h1 h3
  have HXX := Lib.hid hxx
  have HN := Lib.hid (And.intro h40 (And.intro hc hn2))
  have nI : ¬ (n : Int) < 40 := by omega
  have n0 : (0 : Int) < (n : Int) := by omega
  have n0b : ((n : Int) == 0) = false := beq_false_of_ne (by omega)
  have HBL := Lib.hid hR.2.1
  have HLE := Lib.hid hR.1
  clear h h0 h6 h40 hb hcell hx hb0 hxx hx64 hR hn2 hc
  go_enter Tryz.func91, Tryz.ntmps91
  go_upto_region 1 with fail
  show Code.wp _ _ _ _ (w.alloc (.cells sxZ.toArray 95))
  rw [← eV1]
  clear eV1
  go_upto_region 8 with fail
  show Code.wp _ _ _ _ (V1.alloc (.cells sxZ.toArray 95))
  rw [← eV2]
  clear eV2
  obtain ⟨g4, hg4⟩ : ∃ g, g = V1.heap.size := ⟨_, rfl⟩
  have HG4 : Hid (V1.heap.size ≤ g4) := by show V1.heap.size ≤ g4; rw [hg4]; exact Nat.le_refl _
  rw [← hg4] at HA4 ⊢
  clear hg4 c0
  go_wp2_with fail
  refine (CG.out _ (HRV.out.below HB2.out)).mono ?_
  rintro e w' ⟨rfl, rfl⟩
  go_wp2_with fail
  refine (sxfields_any g4 V2).mono ?_
  rintro e w3 ⟨rfl, b3⟩
  have HA4 := Lib.hid (HA4.out.below b3)
  have HB3 := Lib.hid (below_both HB2.out b3)
  have ix0 := sx_ix0 g4
  have ix1 := sx_ix1 g4
  have ix2 := sx_ix2 g4
  have ix3 := sx_ix3 g4
  have ix4 := sx_ix4 g4
  obtain ⟨F, hF⟩ : ∃ F, F = (sxFields g4).toArray := ⟨_, rfl⟩
  rw [← hF] at ix0 ix1 ix2 ix3 ix4 ⊢
  clear hF b3 HB2
  go_wp2_with fail
  go_loopw [32] (fun i W => ∃ j : Nat, j ≤ 5 ∧ i = .int .i64 (j : Nat) ∧ ArrV 95 W g4 (sxPart x j) ∧ Below V1.heap.size V1 W) (fun i W => 5 - (intOf i).toNat)
  case atStart => exact ⟨0, Nat.zero_le _, rfl, by rw [sxPart_zero]; exact HA4.out, HB3.out⟩
  case round =>
    clear HA4 HB3
    obtain ⟨j, hj, rfl, hA, hW⟩ := hrel
    by_cases hlt : j < 5
    · rcases (show j = 0 ∨ j = 1 ∨ j = 2 ∨ j = 3 ∨ j = 4 by omega) with rfl | rfl | rfl | rfl | rfl
      · obtain ⟨v, hv⟩ : ∃ v, v = sxN x 0 := ⟨_, rfl⟩
        have C : Hid (∀ w, Calls Tryz.prog 88 #[.int .u64 (x : Nat), .int .i64 52, .int .i64 8] w fun e w' => e = .returned (.int .u64 (v : Nat)) ∧ ∃ q, w' = w.drewN q) := fun w => by
          have q := CB.out 52 8 (by decide) (by decide) w
          rw [hv]
          exact q
        obtain ⟨w1', w2'⟩ := sx_wrap (show v ≤ 1048575 by rw [hv]; exact sxN_le x 0)
        have HA := Lib.hid hA
        have HW := Lib.hid hW
        have HV := Lib.hid hv
        clear hA hW hv hj hlt CG CB
        go_upto_region 12 with fail
        obtain ⟨U, eU⟩ : ∃ U, U = wr.alloc (.cells #[.pointer (some ⟨g4, 0, none⟩), .int .i64 52, .int .i64 8] 137) := ⟨_, rfl⟩
        have A8 : ArrV 137 U wr.heap.size [.pointer (some ⟨g4, 0, none⟩), .int .i64 52, .int .i64 8] := by rw [eU]; exact ArrV.new _ wr _
        have AU : Hid (ArrV 95 U g4 (sxPart x 0)) := by show ArrV _ _ _ _; rw [eU]; exact HA.out.alloc _
        have BU : Hid (Below V1.heap.size V1 U) := by show Below _ _ _; rw [eU]; exact HW.out.alloc HW.out.size _
        rw [← eU]
        obtain ⟨g8, hg8⟩ : ∃ g, g = wr.heap.size := ⟨_, rfl⟩
        rw [← hg8] at A8 ⊢
        have d0 := A8.get 0
        have d1 := A8.get 1
        have d2 := A8.get 2
        simp at d0 d1 d2
        have s0 := AU.out.get 0
        have f0 := AU.out.frozen 0
        simp [sxPart] at s0
        have hne : g4 ≠ g8 := by have h := HA.out.lt; rw [hg8]; exact Nat.ne_of_lt h
        have hS2 : ∀ k, ((U.drewN k).setCell ⟨g4, 0, none⟩ (.int .i64 (v : Nat))).cell? ⟨g8, 0, none⟩ = some (.pointer (some ⟨g4, 0, none⟩)) ∧ ((U.drewN k).setCell ⟨g4, 0, none⟩ (.int .i64 (v : Nat))).cell? ⟨g8, 1, none⟩ = some (.int .i64 52) ∧ ((U.drewN k).setCell ⟨g4, 0, none⟩ (.int .i64 (v : Nat))).cell? ⟨g8, 2, none⟩ = some (.int .i64 8) := fun k => by
          have h : ArrV 137 ((U.drewN k).setCell ⟨g4, 0, none⟩ (.int .i64 (v : Nat))) g8 _ := ArrV.other (W := U.drewN k) A8 ⟨g4, 0, none⟩ (.int .i64 (v : Nat)) hne
          exact ⟨h.get 0, h.get 1, h.get 2⟩
        have HS2 := Lib.hid hS2
        clear eU hg8 HA HW A8 hne hS2
        go_region_held3 (fun w' => w'.cell? ⟨g8, 0, none⟩ = some (.pointer (some ⟨g4, 0, none⟩)) ∧ w'.cell? ⟨g8, 1, none⟩ = some (.int .i64 52) ∧ w'.cell? ⟨g8, 2, none⟩ = some (.int .i64 8))
          (first | exact ⟨d0, d1, d2⟩ | exact hTwo | exact HS2.out _ | go_keep)
          (first
            | (go_at_call 88; refine (C.out _).mono ?_; rintro e w' ⟨rfl, q, rfl⟩
               have hTwo : (U.drewN (1 + q)).cell? ⟨g8, 0, none⟩ = some (.pointer (some ⟨g4, 0, none⟩)) ∧ (U.drewN (1 + q)).cell? ⟨g8, 1, none⟩ = some (.int .i64 52) ∧ (U.drewN (1 + q)).cell? ⟨g8, 2, none⟩ = some (.int .i64 8) := ⟨d0, d1, d2⟩)
            | fail)
        have AN : Hid (ArrV 95 ((U.drewN (1 + q)).setCell ⟨g4, 0, none⟩ (.int .i64 (v : Nat))) g4 (sxPart x (0 + 1))) := by
          have h : ArrV 95 ((U.drewN (1 + q)).setCell ⟨g4, 0, none⟩ (.int .i64 (v : Nat))) g4 _ := (show ArrV 95 (U.drewN (1 + q)) g4 _ from AU.out).set 0 (.int .i64 (v : Nat))
          rw [HV.out, sxPart_set x 0 (by decide)] at h
          rw [HV.out]
          exact h
        have BN : Hid (Below V1.heap.size V1 ((U.drewN (1 + q)).setCell ⟨g4, 0, none⟩ (.int .i64 (v : Nat)))) := (below_drewN' BU.out (1 + q)).setCell (p := ⟨g4, 0, none⟩) HG4.out _
        clear d0 d1 d2 s0 f0 C w1' w2'
        go_wp2_with fail
        go_roundw
        case rel => exact ⟨0 + 1, by decide, by go_num, AN.out, BN.out⟩
        case measure => simp [intOf]
      · obtain ⟨v, hv⟩ : ∃ v, v = sxN x 1 := ⟨_, rfl⟩
        have C : Hid (∀ w, Calls Tryz.prog 88 #[.int .u64 (x : Nat), .int .i64 32, .int .i64 20] w fun e w' => e = .returned (.int .u64 (v : Nat)) ∧ ∃ q, w' = w.drewN q) := fun w => by
          have q := CB.out 32 20 (by decide) (by decide) w
          rw [hv]
          exact q
        obtain ⟨w1', w2'⟩ := sx_wrap (show v ≤ 1048575 by rw [hv]; exact sxN_le x 1)
        have HA := Lib.hid hA
        have HW := Lib.hid hW
        have HV := Lib.hid hv
        clear hA hW hv hj hlt CG CB
        go_upto_region 12 with fail
        obtain ⟨U, eU⟩ : ∃ U, U = wr.alloc (.cells #[.pointer (some ⟨g4, 1, none⟩), .int .i64 32, .int .i64 20] 137) := ⟨_, rfl⟩
        have A8 : ArrV 137 U wr.heap.size [.pointer (some ⟨g4, 1, none⟩), .int .i64 32, .int .i64 20] := by rw [eU]; exact ArrV.new _ wr _
        have AU : Hid (ArrV 95 U g4 (sxPart x 1)) := by show ArrV _ _ _ _; rw [eU]; exact HA.out.alloc _
        have BU : Hid (Below V1.heap.size V1 U) := by show Below _ _ _; rw [eU]; exact HW.out.alloc HW.out.size _
        rw [← eU]
        obtain ⟨g8, hg8⟩ : ∃ g, g = wr.heap.size := ⟨_, rfl⟩
        rw [← hg8] at A8 ⊢
        have d0 := A8.get 0
        have d1 := A8.get 1
        have d2 := A8.get 2
        simp at d0 d1 d2
        have s0 := AU.out.get 1
        have f0 := AU.out.frozen 1
        simp [sxPart] at s0
        have hne : g4 ≠ g8 := by have h := HA.out.lt; rw [hg8]; exact Nat.ne_of_lt h
        have hS2 : ∀ k, ((U.drewN k).setCell ⟨g4, 1, none⟩ (.int .i64 (v : Nat))).cell? ⟨g8, 0, none⟩ = some (.pointer (some ⟨g4, 1, none⟩)) ∧ ((U.drewN k).setCell ⟨g4, 1, none⟩ (.int .i64 (v : Nat))).cell? ⟨g8, 1, none⟩ = some (.int .i64 32) ∧ ((U.drewN k).setCell ⟨g4, 1, none⟩ (.int .i64 (v : Nat))).cell? ⟨g8, 2, none⟩ = some (.int .i64 20) := fun k => by
          have h : ArrV 137 ((U.drewN k).setCell ⟨g4, 1, none⟩ (.int .i64 (v : Nat))) g8 _ := ArrV.other (W := U.drewN k) A8 ⟨g4, 1, none⟩ (.int .i64 (v : Nat)) hne
          exact ⟨h.get 0, h.get 1, h.get 2⟩
        have HS2 := Lib.hid hS2
        clear eU hg8 HA HW A8 hne hS2
        go_region_held3 (fun w' => w'.cell? ⟨g8, 0, none⟩ = some (.pointer (some ⟨g4, 1, none⟩)) ∧ w'.cell? ⟨g8, 1, none⟩ = some (.int .i64 32) ∧ w'.cell? ⟨g8, 2, none⟩ = some (.int .i64 20))
          (first | exact ⟨d0, d1, d2⟩ | exact hTwo | exact HS2.out _ | go_keep)
          (first
            | (go_at_call 88; refine (C.out _).mono ?_; rintro e w' ⟨rfl, q, rfl⟩
               have hTwo : (U.drewN (1 + q)).cell? ⟨g8, 0, none⟩ = some (.pointer (some ⟨g4, 1, none⟩)) ∧ (U.drewN (1 + q)).cell? ⟨g8, 1, none⟩ = some (.int .i64 32) ∧ (U.drewN (1 + q)).cell? ⟨g8, 2, none⟩ = some (.int .i64 20) := ⟨d0, d1, d2⟩)
            | fail)
        have AN : Hid (ArrV 95 ((U.drewN (1 + q)).setCell ⟨g4, 1, none⟩ (.int .i64 (v : Nat))) g4 (sxPart x (1 + 1))) := by
          have h : ArrV 95 ((U.drewN (1 + q)).setCell ⟨g4, 1, none⟩ (.int .i64 (v : Nat))) g4 _ := (show ArrV 95 (U.drewN (1 + q)) g4 _ from AU.out).set 1 (.int .i64 (v : Nat))
          rw [HV.out, sxPart_set x 1 (by decide)] at h
          rw [HV.out]
          exact h
        have BN : Hid (Below V1.heap.size V1 ((U.drewN (1 + q)).setCell ⟨g4, 1, none⟩ (.int .i64 (v : Nat)))) := (below_drewN' BU.out (1 + q)).setCell (p := ⟨g4, 1, none⟩) HG4.out _
        clear d0 d1 d2 s0 f0 C w1' w2'
        go_wp2_with fail
        go_roundw
        case rel => exact ⟨1 + 1, by decide, by go_num, AN.out, BN.out⟩
        case measure => simp [intOf]
      · obtain ⟨v, hv⟩ : ∃ v, v = sxN x 2 := ⟨_, rfl⟩
        have C : Hid (∀ w, Calls Tryz.prog 88 #[.int .u64 (x : Nat), .int .i64 16, .int .i64 16] w fun e w' => e = .returned (.int .u64 (v : Nat)) ∧ ∃ q, w' = w.drewN q) := fun w => by
          have q := CB.out 16 16 (by decide) (by decide) w
          rw [hv]
          exact q
        obtain ⟨w1', w2'⟩ := sx_wrap (show v ≤ 1048575 by rw [hv]; exact sxN_le x 2)
        have HA := Lib.hid hA
        have HW := Lib.hid hW
        have HV := Lib.hid hv
        clear hA hW hv hj hlt CG CB
        go_upto_region 12 with fail
        obtain ⟨U, eU⟩ : ∃ U, U = wr.alloc (.cells #[.pointer (some ⟨g4, 2, none⟩), .int .i64 16, .int .i64 16] 137) := ⟨_, rfl⟩
        have A8 : ArrV 137 U wr.heap.size [.pointer (some ⟨g4, 2, none⟩), .int .i64 16, .int .i64 16] := by rw [eU]; exact ArrV.new _ wr _
        have AU : Hid (ArrV 95 U g4 (sxPart x 2)) := by show ArrV _ _ _ _; rw [eU]; exact HA.out.alloc _
        have BU : Hid (Below V1.heap.size V1 U) := by show Below _ _ _; rw [eU]; exact HW.out.alloc HW.out.size _
        rw [← eU]
        obtain ⟨g8, hg8⟩ : ∃ g, g = wr.heap.size := ⟨_, rfl⟩
        rw [← hg8] at A8 ⊢
        have d0 := A8.get 0
        have d1 := A8.get 1
        have d2 := A8.get 2
        simp at d0 d1 d2
        have s0 := AU.out.get 2
        have f0 := AU.out.frozen 2
        simp [sxPart] at s0
        have hne : g4 ≠ g8 := by have h := HA.out.lt; rw [hg8]; exact Nat.ne_of_lt h
        have hS2 : ∀ k, ((U.drewN k).setCell ⟨g4, 2, none⟩ (.int .i64 (v : Nat))).cell? ⟨g8, 0, none⟩ = some (.pointer (some ⟨g4, 2, none⟩)) ∧ ((U.drewN k).setCell ⟨g4, 2, none⟩ (.int .i64 (v : Nat))).cell? ⟨g8, 1, none⟩ = some (.int .i64 16) ∧ ((U.drewN k).setCell ⟨g4, 2, none⟩ (.int .i64 (v : Nat))).cell? ⟨g8, 2, none⟩ = some (.int .i64 16) := fun k => by
          have h : ArrV 137 ((U.drewN k).setCell ⟨g4, 2, none⟩ (.int .i64 (v : Nat))) g8 _ := ArrV.other (W := U.drewN k) A8 ⟨g4, 2, none⟩ (.int .i64 (v : Nat)) hne
          exact ⟨h.get 0, h.get 1, h.get 2⟩
        have HS2 := Lib.hid hS2
        clear eU hg8 HA HW A8 hne hS2
        go_region_held3 (fun w' => w'.cell? ⟨g8, 0, none⟩ = some (.pointer (some ⟨g4, 2, none⟩)) ∧ w'.cell? ⟨g8, 1, none⟩ = some (.int .i64 16) ∧ w'.cell? ⟨g8, 2, none⟩ = some (.int .i64 16))
          (first | exact ⟨d0, d1, d2⟩ | exact hTwo | exact HS2.out _ | go_keep)
          (first
            | (go_at_call 88; refine (C.out _).mono ?_; rintro e w' ⟨rfl, q, rfl⟩
               have hTwo : (U.drewN (1 + q)).cell? ⟨g8, 0, none⟩ = some (.pointer (some ⟨g4, 2, none⟩)) ∧ (U.drewN (1 + q)).cell? ⟨g8, 1, none⟩ = some (.int .i64 16) ∧ (U.drewN (1 + q)).cell? ⟨g8, 2, none⟩ = some (.int .i64 16) := ⟨d0, d1, d2⟩)
            | fail)
        have AN : Hid (ArrV 95 ((U.drewN (1 + q)).setCell ⟨g4, 2, none⟩ (.int .i64 (v : Nat))) g4 (sxPart x (2 + 1))) := by
          have h : ArrV 95 ((U.drewN (1 + q)).setCell ⟨g4, 2, none⟩ (.int .i64 (v : Nat))) g4 _ := (show ArrV 95 (U.drewN (1 + q)) g4 _ from AU.out).set 2 (.int .i64 (v : Nat))
          rw [HV.out, sxPart_set x 2 (by decide)] at h
          rw [HV.out]
          exact h
        have BN : Hid (Below V1.heap.size V1 ((U.drewN (1 + q)).setCell ⟨g4, 2, none⟩ (.int .i64 (v : Nat)))) := (below_drewN' BU.out (1 + q)).setCell (p := ⟨g4, 2, none⟩) HG4.out _
        clear d0 d1 d2 s0 f0 C w1' w2'
        go_wp2_with fail
        go_roundw
        case rel => exact ⟨2 + 1, by decide, by go_num, AN.out, BN.out⟩
        case measure => simp [intOf]
      · obtain ⟨v, hv⟩ : ∃ v, v = sxN x 3 := ⟨_, rfl⟩
        have C : Hid (∀ w, Calls Tryz.prog 88 #[.int .u64 (x : Nat), .int .i64 8, .int .i64 8] w fun e w' => e = .returned (.int .u64 (v : Nat)) ∧ ∃ q, w' = w.drewN q) := fun w => by
          have q := CB.out 8 8 (by decide) (by decide) w
          rw [hv]
          exact q
        obtain ⟨w1', w2'⟩ := sx_wrap (show v ≤ 1048575 by rw [hv]; exact sxN_le x 3)
        have HA := Lib.hid hA
        have HW := Lib.hid hW
        have HV := Lib.hid hv
        clear hA hW hv hj hlt CG CB
        go_upto_region 12 with fail
        obtain ⟨U, eU⟩ : ∃ U, U = wr.alloc (.cells #[.pointer (some ⟨g4, 3, none⟩), .int .i64 8, .int .i64 8] 137) := ⟨_, rfl⟩
        have A8 : ArrV 137 U wr.heap.size [.pointer (some ⟨g4, 3, none⟩), .int .i64 8, .int .i64 8] := by rw [eU]; exact ArrV.new _ wr _
        have AU : Hid (ArrV 95 U g4 (sxPart x 3)) := by show ArrV _ _ _ _; rw [eU]; exact HA.out.alloc _
        have BU : Hid (Below V1.heap.size V1 U) := by show Below _ _ _; rw [eU]; exact HW.out.alloc HW.out.size _
        rw [← eU]
        obtain ⟨g8, hg8⟩ : ∃ g, g = wr.heap.size := ⟨_, rfl⟩
        rw [← hg8] at A8 ⊢
        have d0 := A8.get 0
        have d1 := A8.get 1
        have d2 := A8.get 2
        simp at d0 d1 d2
        have s0 := AU.out.get 3
        have f0 := AU.out.frozen 3
        simp [sxPart] at s0
        have hne : g4 ≠ g8 := by have h := HA.out.lt; rw [hg8]; exact Nat.ne_of_lt h
        have hS2 : ∀ k, ((U.drewN k).setCell ⟨g4, 3, none⟩ (.int .i64 (v : Nat))).cell? ⟨g8, 0, none⟩ = some (.pointer (some ⟨g4, 3, none⟩)) ∧ ((U.drewN k).setCell ⟨g4, 3, none⟩ (.int .i64 (v : Nat))).cell? ⟨g8, 1, none⟩ = some (.int .i64 8) ∧ ((U.drewN k).setCell ⟨g4, 3, none⟩ (.int .i64 (v : Nat))).cell? ⟨g8, 2, none⟩ = some (.int .i64 8) := fun k => by
          have h : ArrV 137 ((U.drewN k).setCell ⟨g4, 3, none⟩ (.int .i64 (v : Nat))) g8 _ := ArrV.other (W := U.drewN k) A8 ⟨g4, 3, none⟩ (.int .i64 (v : Nat)) hne
          exact ⟨h.get 0, h.get 1, h.get 2⟩
        have HS2 := Lib.hid hS2
        clear eU hg8 HA HW A8 hne hS2
        go_region_held3 (fun w' => w'.cell? ⟨g8, 0, none⟩ = some (.pointer (some ⟨g4, 3, none⟩)) ∧ w'.cell? ⟨g8, 1, none⟩ = some (.int .i64 8) ∧ w'.cell? ⟨g8, 2, none⟩ = some (.int .i64 8))
          (first | exact ⟨d0, d1, d2⟩ | exact hTwo | exact HS2.out _ | go_keep)
          (first
            | (go_at_call 88; refine (C.out _).mono ?_; rintro e w' ⟨rfl, q, rfl⟩
               have hTwo : (U.drewN (1 + q)).cell? ⟨g8, 0, none⟩ = some (.pointer (some ⟨g4, 3, none⟩)) ∧ (U.drewN (1 + q)).cell? ⟨g8, 1, none⟩ = some (.int .i64 8) ∧ (U.drewN (1 + q)).cell? ⟨g8, 2, none⟩ = some (.int .i64 8) := ⟨d0, d1, d2⟩)
            | fail)
        have AN : Hid (ArrV 95 ((U.drewN (1 + q)).setCell ⟨g4, 3, none⟩ (.int .i64 (v : Nat))) g4 (sxPart x (3 + 1))) := by
          have h : ArrV 95 ((U.drewN (1 + q)).setCell ⟨g4, 3, none⟩ (.int .i64 (v : Nat))) g4 _ := (show ArrV 95 (U.drewN (1 + q)) g4 _ from AU.out).set 3 (.int .i64 (v : Nat))
          rw [HV.out, sxPart_set x 3 (by decide)] at h
          rw [HV.out]
          exact h
        have BN : Hid (Below V1.heap.size V1 ((U.drewN (1 + q)).setCell ⟨g4, 3, none⟩ (.int .i64 (v : Nat)))) := (below_drewN' BU.out (1 + q)).setCell (p := ⟨g4, 3, none⟩) HG4.out _
        clear d0 d1 d2 s0 f0 C w1' w2'
        go_wp2_with fail
        go_roundw
        case rel => exact ⟨3 + 1, by decide, by go_num, AN.out, BN.out⟩
        case measure => simp [intOf]
      · obtain ⟨v, hv⟩ : ∃ v, v = sxN x 4 := ⟨_, rfl⟩
        have C : Hid (∀ w, Calls Tryz.prog 88 #[.int .u64 (x : Nat), .int .i64 0, .int .i64 8] w fun e w' => e = .returned (.int .u64 (v : Nat)) ∧ ∃ q, w' = w.drewN q) := fun w => by
          have q := CB.out 0 8 (by decide) (by decide) w
          rw [hv]
          exact q
        obtain ⟨w1', w2'⟩ := sx_wrap (show v ≤ 1048575 by rw [hv]; exact sxN_le x 4)
        have HA := Lib.hid hA
        have HW := Lib.hid hW
        have HV := Lib.hid hv
        clear hA hW hv hj hlt CG CB
        go_upto_region 12 with fail
        obtain ⟨U, eU⟩ : ∃ U, U = wr.alloc (.cells #[.pointer (some ⟨g4, 4, none⟩), .int .i64 0, .int .i64 8] 137) := ⟨_, rfl⟩
        have A8 : ArrV 137 U wr.heap.size [.pointer (some ⟨g4, 4, none⟩), .int .i64 0, .int .i64 8] := by rw [eU]; exact ArrV.new _ wr _
        have AU : Hid (ArrV 95 U g4 (sxPart x 4)) := by show ArrV _ _ _ _; rw [eU]; exact HA.out.alloc _
        have BU : Hid (Below V1.heap.size V1 U) := by show Below _ _ _; rw [eU]; exact HW.out.alloc HW.out.size _
        rw [← eU]
        obtain ⟨g8, hg8⟩ : ∃ g, g = wr.heap.size := ⟨_, rfl⟩
        rw [← hg8] at A8 ⊢
        have d0 := A8.get 0
        have d1 := A8.get 1
        have d2 := A8.get 2
        simp at d0 d1 d2
        have s0 := AU.out.get 4
        have f0 := AU.out.frozen 4
        simp [sxPart] at s0
        have hne : g4 ≠ g8 := by have h := HA.out.lt; rw [hg8]; exact Nat.ne_of_lt h
        have hS2 : ∀ k, ((U.drewN k).setCell ⟨g4, 4, none⟩ (.int .i64 (v : Nat))).cell? ⟨g8, 0, none⟩ = some (.pointer (some ⟨g4, 4, none⟩)) ∧ ((U.drewN k).setCell ⟨g4, 4, none⟩ (.int .i64 (v : Nat))).cell? ⟨g8, 1, none⟩ = some (.int .i64 0) ∧ ((U.drewN k).setCell ⟨g4, 4, none⟩ (.int .i64 (v : Nat))).cell? ⟨g8, 2, none⟩ = some (.int .i64 8) := fun k => by
          have h : ArrV 137 ((U.drewN k).setCell ⟨g4, 4, none⟩ (.int .i64 (v : Nat))) g8 _ := ArrV.other (W := U.drewN k) A8 ⟨g4, 4, none⟩ (.int .i64 (v : Nat)) hne
          exact ⟨h.get 0, h.get 1, h.get 2⟩
        have HS2 := Lib.hid hS2
        clear eU hg8 HA HW A8 hne hS2
        go_region_held3 (fun w' => w'.cell? ⟨g8, 0, none⟩ = some (.pointer (some ⟨g4, 4, none⟩)) ∧ w'.cell? ⟨g8, 1, none⟩ = some (.int .i64 0) ∧ w'.cell? ⟨g8, 2, none⟩ = some (.int .i64 8))
          (first | exact ⟨d0, d1, d2⟩ | exact hTwo | exact HS2.out _ | go_keep)
          (first
            | (go_at_call 88; refine (C.out _).mono ?_; rintro e w' ⟨rfl, q, rfl⟩
               have hTwo : (U.drewN (1 + q)).cell? ⟨g8, 0, none⟩ = some (.pointer (some ⟨g4, 4, none⟩)) ∧ (U.drewN (1 + q)).cell? ⟨g8, 1, none⟩ = some (.int .i64 0) ∧ (U.drewN (1 + q)).cell? ⟨g8, 2, none⟩ = some (.int .i64 8) := ⟨d0, d1, d2⟩)
            | fail)
        have AN : Hid (ArrV 95 ((U.drewN (1 + q)).setCell ⟨g4, 4, none⟩ (.int .i64 (v : Nat))) g4 (sxPart x (4 + 1))) := by
          have h : ArrV 95 ((U.drewN (1 + q)).setCell ⟨g4, 4, none⟩ (.int .i64 (v : Nat))) g4 _ := (show ArrV 95 (U.drewN (1 + q)) g4 _ from AU.out).set 4 (.int .i64 (v : Nat))
          rw [HV.out, sxPart_set x 4 (by decide)] at h
          rw [HV.out]
          exact h
        have BN : Hid (Below V1.heap.size V1 ((U.drewN (1 + q)).setCell ⟨g4, 4, none⟩ (.int .i64 (v : Nat)))) := (below_drewN' BU.out (1 + q)).setCell (p := ⟨g4, 4, none⟩) HG4.out _
        clear d0 d1 d2 s0 f0 C w1' w2'
        go_wp2_with fail
        go_roundw
        case rel => exact ⟨4 + 1, by decide, by go_num, AN.out, BN.out⟩
        case measure => simp [intOf]
    · have hj5 : j = 5 := Nat.le_antisymm hj (Nat.le_of_not_lt hlt)
      subst hj5
      obtain ⟨k8, k24, i8, i24, m8, m24, q8, q24, r8, r24⟩ := sx_caps HN.out.1 HN.out.2.1
      have hR0 := HRV.out.below hW
      have hA0 := hA.drew
      obtain ⟨l1, hl1⟩ : ∃ l, l = (bs.drop 8).take 16 := ⟨_, rfl⟩
      obtain ⟨l2, hl2⟩ : ∃ l, l = (bs.drop 24).take 16 := ⟨_, rfl⟩
      have l1l : l1.length = 16 := by rw [hl1]; exact part_len HLE.out q8
      have l2l : l2.length = 16 := by rw [hl2]; exact part_len HLE.out q24
      obtain ⟨w4, hcp, hO, b4⟩ := copy_at Tryz.underlying22 u8one 95 wr.drew g4 5 16 16 (sxPart x 5) ⟨b, o + 8, none⟩ (n - 8) (c - 8) (bcells l1) hA0 (by rw [bcells_length, l1l]; exact r8.symm) (by rw [hl1]; exact row_src hR0 q8) (by rw [bcells_length, l1l]; show 5 + 16 ≤ 37; decide) (bcells_one _)
      rw [bcells_length, l1l, six_src] at hO
      have hb4 : Below V1.heap.size V1 w4 := (hW.drew).trans (b4.mono HG4.out)
      obtain ⟨w5, hcp2, hO2, b5⟩ := copy_at Tryz.underlying22 u8one 95 w4.drew g4 21 16 16 (sxNums x ++ bcells l1 ++ bcells (List.replicate 16 0)) ⟨b, o + 24, none⟩ (n - 24) (c - 24) (bcells l2) hO.drew (by rw [bcells_length, l2l]; exact r24.symm) (by rw [hl2]; exact row_src (HRV.out.below hb4.drew) q24) (by rw [bcells_length, l2l, List.length_append, List.length_append, bcells_length, l1l]; show 21 + 16 ≤ 5 + 16 + 16; decide) (bcells_one _)
      rw [bcells_length, l2l, six_dst x l1 l2 l1l] at hO2
      rw [bcells_length, l1l] at hcp
      rw [bcells_length, l2l] at hcp2
      have A5 := Lib.hid hO2
      have B5 : Hid (Below V1.heap.size V1 w5) := (hb4.drew).trans (b5.mono HG4.out)
      obtain ⟨X, hX⟩ : ∃ X, X = sxNums x ++ bcells l1 ++ bcells l2 := ⟨_, rfl⟩
      obtain ⟨xl, xo⟩ := six_all x l1l l2l
      rw [← hX] at A5 xl xo
      have HX : Hid (sxF bs = X) := by show _ = _; unfold sxF; rw [← HXX.out, ← hl1, ← hl2, hX]
      have HA2' := Lib.hid (HA2.out.below B5.out)
      have HS := Lib.hid (HA2'.out.store X (by rw [xl]; rfl))
      have HBE : Hid (Below w.heap.size w (w5.setCells w.heap.size 0 X)) := setCells_below _ (Nat.le_refl _) _ _ _ (below_both HB1.out B5.out)
      have s5 : ¬ (5 : Int) < 5 := by decide
      clear hA hW hj hlt hR0 hA0 hl1 hl2 l1l l2l hO b4 hb4 hO2 b5 hX q8 q24 r8 r24 CG CB ix0 ix1 ix2 ix3 ix4
      go_wp2_with fail
      go_region
      go_wp2_with fail
      go_region
      go_upto_region 16 with fail
      refine wp_region_lit ?_
      go_wp2_with (first | refine wpList_load_v rfl 95 (.tmp 4) rfl _ rfl tysix A5.out xl ?_ | refine wpList_store_v rfl 95 (.tmp 2) (.tmp 56) rfl _ rfl tysix HA2'.out sxZ_one.1 X xl xo rfl ?_ | fail)
      exact bodyPost_ret (v := .tuple #[.agg X.toArray, .int .i64 0]) (res_cell_tmp Tryz.results91 rfl (HS.out.loadVar tysix xl) rfl) rfl ⟨by rw [HX.out]; rfl, HBE.out⟩
end Go.Proofs.YtmchclpkjjmocaaGreat
