/-
  Contracts of prefix's size, fits, ones.
-/
import Derived.Test.YtaicmadeobglfaaDoorCol12
namespace Go.Proofs.YtaicmadeobglfaaDoor
open Go.RowKit
set_option linter.unusedVariables false

def psz (v : Int) : Int := if v = 4 then 32 else 128
theorem psize_any (v : Int) (w : World) : Calls Tryd.prog 12 #[.int .i64 v] w fun e w' => e = .returned (.int .i64 (psz v)) ∧ w = w' := by
  by_cases h : v = 4
  · subst h
    go_enter Tryd.func12, Tryd.ntmps12
    go_wp2_with fail
    go_ret
    exact ⟨rfl, rfl⟩
  · have hb : (v == 4) = false := by simpa using h
    have F : Hid (psz v = 128) := if_neg h
    clear h
    go_enter Tryd.func12, Tryd.ntmps12
    go_wp2_with fail
    go_ret
    exact ⟨by rw [F.out]; rfl, rfl⟩
/-- What is wrong with a version or a number of bits. -/
def pfits (v n : Int) : Int := if v ≠ 4 ∧ v ≠ 6 then 4 else if n < 0 ∨ psz v < n then 1 else 0
theorem pfits_any (v n : Int) (w : World) : Calls Tryd.prog 21 #[.int .i64 v, .int .i64 n] w fun e w' => e = .returned (.int .i64 (pfits v n)) ∧ w = w' := by
  have CS := Lib.hid (fun w => psize_any v w)
  by_cases h4 : v = 4
  · subst h4
    have e4 : psz 4 = 32 := rfl
    rw [e4] at CS
    by_cases h0 : n < 0
    · have F : Hid (pfits 4 n = 1) := by show _ = _; unfold pfits; rw [if_neg (by omega), if_pos (.inl h0)]
      go_enter Tryd.func21, Tryd.ntmps21
      go_wp2_with fail
      go_ret
      exact ⟨by rw [F.out]; rfl, rfl⟩
    · by_cases h1 : 32 < n
      · have h1' : psz 4 < n := h1
        have F : Hid (pfits 4 n = 1) := by show _ = _; unfold pfits; rw [if_neg (by omega), if_pos (.inr h1')]
        go_enter Tryd.func21, Tryd.ntmps21
        go_wp2_with fail
        refine (CS.out _).mono ?_
        rintro e w' ⟨rfl, rfl⟩
        go_wp2_with fail
        go_ret
        exact ⟨by rw [F.out]; rfl, rfl⟩
      · have F : Hid (pfits 4 n = 0) := by show _ = _; unfold pfits; rw [if_neg (by omega), if_neg (by rw [e4]; omega)]
        go_enter Tryd.func21, Tryd.ntmps21
        go_wp2_with fail
        refine (CS.out _).mono ?_
        rintro e w' ⟨rfl, rfl⟩
        go_wp2_with fail
        go_ret
        exact ⟨by rw [F.out]; rfl, rfl⟩
  · have hb4 : (v == 4) = false := by simpa using h4
    by_cases h6 : v = 6
    · subst h6
      have e6 : psz 6 = 128 := rfl
      rw [e6] at CS
      clear hb4 h4
      by_cases h0 : n < 0
      · have F : Hid (pfits 6 n = 1) := by show _ = _; unfold pfits; rw [if_neg (by omega), if_pos (.inl h0)]
        go_enter Tryd.func21, Tryd.ntmps21
        go_wp2_with fail
        go_ret
        exact ⟨by rw [F.out]; rfl, rfl⟩
      · by_cases h1 : 128 < n
        · have h1' : psz 6 < n := h1
          have F : Hid (pfits 6 n = 1) := by show _ = _; unfold pfits; rw [if_neg (by omega), if_pos (.inr h1')]
          go_enter Tryd.func21, Tryd.ntmps21
          go_wp2_with fail
          refine (CS.out _).mono ?_
          rintro e w' ⟨rfl, rfl⟩
          go_wp2_with fail
          go_ret
          exact ⟨by rw [F.out]; rfl, rfl⟩
        · have F : Hid (pfits 6 n = 0) := by show _ = _; unfold pfits; rw [if_neg (by omega), if_neg (by rw [e6]; omega)]
          go_enter Tryd.func21, Tryd.ntmps21
          go_wp2_with fail
          refine (CS.out _).mono ?_
          rintro e w' ⟨rfl, rfl⟩
          go_wp2_with fail
          go_ret
          exact ⟨by rw [F.out]; rfl, rfl⟩
    · have hb6 : (v == 6) = false := by simpa using h6
      have hc4 : (v != 4) = true := by simpa using h4
      have hc6 : (v != 6) = true := by simpa using h6
      have F : Hid (pfits v n = 4) := by show _ = _; unfold pfits; rw [if_pos ⟨h4, h6⟩]
      go_enter Tryd.func21, Tryd.ntmps21
      go_wp2_with fail
      go_ret
      exact ⟨by rw [F.out]; rfl, rfl⟩
/-- The first bits set, in the byte at place i. -/
def onb (n i : Nat) : Nat := 255 - 255 / 2 ^ min (n - 8 * i) 8
theorem onb_bits : ∀ m, m ≤ 8 → bits .xor .u8 (if IntKind.u8.signed = true then -1 else IntKind.u8.max) (255 / 2 ^ m) = ((255 - 255 / 2 ^ m : Nat) : Int) := by decide
theorem onb_val {n k : Nat} : bits .xor .u8 (if IntKind.u8.signed = true then -1 else IntKind.u8.max) (255 / 2 ^ (min (max ((n : Int) - 8 * (k : Int)) 0) 8).toNat) = ((onb n k : Nat) : Int) := by
  have e : (min (max ((n : Int) - 8 * (k : Int)) 0) 8).toNat = min (n - 8 * k) 8 := by omega
  rw [e]
  exact onb_bits _ (Nat.min_le_right _ _)
def onesB (n : Nat) : List Nat := (List.range 16).map (onb n)
theorem onesB_len (n : Nat) : (onesB n).length = 16 := by simp [onesB]
theorem onesB_get (n i : Nat) (h : i < 16) : (onesB n)[i]? = some (onb n i) := by
  unfold onesB
  rw [List.getElem?_map, List.getElem?_range h]
  rfl
/-- The first bytes laid, all else 0. -/
def pad16 (l : List Nat) (k : Nat) : List Nat := l.take k ++ List.replicate (16 - k) 0
theorem pad16_set {l : List Nat} {k x : Nat} (hd : l.length = 16) (hk : k < 16) (hx : l[k]? = some x) : (pad16 l k).set k x = pad16 l (k + 1) := by
  have e1 : (l.take k).length = k := by rw [List.length_take]; omega
  have e2 : l.take (k + 1) = l.take k ++ [x] := by
    rw [List.take_succ_eq_append_getElem (by omega)]
    rw [List.getElem?_eq_getElem (by omega)] at hx
    injection hx with hx
    rw [hx]
  unfold pad16
  rw [List.set_append_right (h := by omega), e1, Nat.sub_self, show 16 - k = (16 - (k + 1)) + 1 from by omega, List.replicate_succ, List.set_cons_zero, e2]
  simp
theorem pad16_all {l : List Nat} (hd : l.length = 16) : pad16 l 16 = l := by
  unfold pad16
  rw [List.take_of_length_le (by omega)]
  simp
theorem pad16_len {l : List Nat} {k : Nat} (hd : l.length = 16) (hk : k ≤ 16) : (pad16 l k).length = 16 := by
  unfold pad16
  rw [List.length_append, List.length_take, List.length_replicate]
  omega
theorem wrap_small {e : Nat} (h : e ≤ 1000) : wrap64 ((e : Int) + 1) = ((e + 1 : Nat) : Int) := wrap_inc h
theorem ones_wraps {n i : Nat} (hn : n ≤ 128) (hi : i < 16) : wrap64 (8 * (i : Int)) = 8 * (i : Int) ∧ wrap64 ((n : Int) - 8 * (i : Int)) = (n : Int) - 8 * (i : Int) := by
  refine ⟨?_, ?_⟩ <;> unfold wrap64 <;> omega

set_option maxRecDepth 10000 in
set_option maxHeartbeats 3200000 in
theorem pones_any (n : Nat) (w : World) (hn : n ≤ 128) : Calls Tryd.prog 20 #[.int .i64 n] w fun e w' => e = .returned (.agg (bcells (onesB n)).toArray) ∧ Below w.heap.size w w' := by
  have A0 : Hid (ArrV 22 ((w.alloc (.cells (bcells zero16).toArray 22)).alloc (.cells (bcells zero16).toArray 22)) w.heap.size (bcells zero16)) := (ArrV.new _ w _).alloc _
  have A1 : Hid (ArrV 22 ((w.alloc (.cells (bcells zero16).toArray 22)).alloc (.cells (bcells zero16).toArray 22)) (w.heap.size + 1) (bcells (pad16 (onesB n) 0))) := by
    have h := ArrV.new 22 (w.alloc (.cells (bcells zero16).toArray 22)) (bcells zero16)
    rw [World.size_alloc] at h
    exact h
  have B0 : Hid (Below w.heap.size w ((w.alloc (.cells (bcells zero16).toArray 22)).alloc (.cells (bcells zero16).toArray 22))) := ((Below.refl _ _).alloc (Nat.le_refl _) _).alloc (by simp) _
  have HN := Lib.hid hn
  clear hn
  go_enter Tryd.func20, Tryd.ntmps20
  go_wp2_with fail
  go_loopw [5] (fun i wr => ∃ k : Nat, k ≤ 16 ∧ i = .int .i64 k ∧ Hid (ArrV 22 wr w.heap.size (bcells zero16)) ∧ Hid (ArrV 22 wr (w.heap.size + 1) (bcells (pad16 (onesB n) k))) ∧ Hid (Below w.heap.size w wr)) (fun i _ => 16 - (intOf i).toNat)
  case atStart => exact ⟨0, by decide, rfl, A0.out, A1.out, B0.out⟩
  case round =>
    clear A0 A1 B0
    obtain ⟨k, hk, rfl, A0, A1, BB⟩ := hrel
    by_cases hlt : k < 16
    · have HS : Hid ((pad16 (onesB n) k).set k (onb n k) = pad16 (onesB n) (k + 1)) := pad16_set (onesB_len n) hlt (onesB_get n k hlt)
      have HL : Hid ((pad16 (onesB n) k).length = 16) := pad16_len (onesB_len n) hk
      obtain ⟨q1, q2⟩ := ones_wraps HN.out hlt
      have wk : wrap64 ((k : Int) + 1) = ((k + 1 : Nat) : Int) := wrap_inc (by omega)
      have c0 := bget A1.out k (by rw [HL.out]; exact hlt)
      have f0 := A1.out.frozen k
      generalize (pad16 (onesB n) k).getD k 0 = old at c0
      have A2 := Lib.hid (bset A1.out k (onb n k))
      rw [HS.out] at A2
      have A3 := Lib.hid (A0.out.other ⟨w.heap.size + 1, k, none⟩ (.int .u8 (onb n k : Nat)) (by simp))
      have B2 := Lib.hid (BB.out.setCell (p := ⟨w.heap.size + 1, k, none⟩) (by simp) (.int .u8 (onb n k : Nat)))
      go_wp2_with fail
      rw [onb_val]
      go_roundw
      case rel => exact ⟨k + 1, by omega, rfl, A3.out, A2.out, B2.out⟩
      case measure => simp [intOf]; omega
    · obtain rfl : k = 16 := by omega
      have HL : Hid ((bcells (onesB n)).length = 16) := by show _ = _; rw [bcells_length, onesB_len]
      rw [pad16_all (onesB_len n)] at A1
      go_upto_region 7 with fail
      refine wp_region_lit ?_
      go_wp2_with (first | refine wpList_load_v rfl 22 (.tmp 3) rfl _ rfl ty16 A1.out HL.out ?_ | refine wpList_store_v rfl 22 (.tmp 2) (.tmp 19) rfl _ rfl ty16 A0.out rfl (bcells (onesB n)) HL.out (bcells_one _) rfl ?_)
      exact bodyPost_ret (v := .agg (bcells (onesB n)).toArray) (res_cell Tryd.results20 rfl ((A0.out.store (bcells (onesB n)) (by rw [HL.out]; rfl)).loadVar ty16 HL.out)) rfl ⟨rfl, setCells_below _ (Nat.le_refl _) _ _ _ BB.out⟩

/-! keep -/
/-- An address of which all but the first bits are cleared. -/
def keepB (X : List Nat) (n : Nat) : List Nat := (List.range 16).map fun i => X.getD i 0 &&& onb n i
theorem keepB_len (X : List Nat) (n : Nat) : (keepB X n).length = 16 := by simp [keepB]
theorem keepB_get (X : List Nat) (n i : Nat) (h : i < 16) : (keepB X n)[i]? = some (X.getD i 0 &&& onb n i) := by
  unfold keepB
  rw [List.getElem?_map, List.getElem?_range h]
  rfl
/-- The first bytes cleared so, the others as they were. -/
def kmix (X : List Nat) (n k : Nat) : List Nat := (keepB X n).take k ++ X.drop k
theorem kmix_len {X : List Nat} {n k : Nat} (hX : X.length = 16) (hk : k ≤ 16) : (kmix X n k).length = 16 := by
  unfold kmix
  rw [List.length_append, List.length_take, keepB_len, List.length_drop, hX]
  omega
theorem kmix_at {X : List Nat} {n k : Nat} (hX : X.length = 16) (hk : k < 16) : (kmix X n k).getD k 0 = X.getD k 0 := by
  unfold kmix
  rw [List.getD_eq_getElem?_getD, List.getD_eq_getElem?_getD, List.getElem?_append_right (by rw [List.length_take, keepB_len]; omega), List.length_take, keepB_len, List.getElem?_drop, Nat.min_eq_left (by omega), Nat.sub_self, Nat.add_zero]
theorem kmix_set {X : List Nat} {n k : Nat} (hX : X.length = 16) (hk : k < 16) : (kmix X n k).set k (X.getD k 0 &&& onb n k) = kmix X n (k + 1) := by
  have e1 : ((keepB X n).take k).length = k := by rw [List.length_take, keepB_len]; omega
  have hk2 : k < (keepB X n).length := by rw [keepB_len]; exact hk
  have e2 : (keepB X n).take (k + 1) = (keepB X n).take k ++ [X.getD k 0 &&& onb n k] := by
    rw [List.take_succ_eq_append_getElem hk2]
    have h := keepB_get X n k hk
    rw [List.getElem?_eq_getElem hk2] at h
    injection h with h
    rw [h]
  have e3 : X.drop k = X.getD k 0 :: X.drop (k + 1) := by
    rw [List.drop_eq_getElem_cons (by omega), List.getD_eq_getElem?_getD, List.getElem?_eq_getElem (by omega)]
    rfl
  unfold kmix
  rw [List.set_append_right (h := by omega), e1, Nat.sub_self, e3, List.set_cons_zero, e2]
  simp
theorem onb_le (n i : Nat) : onb n i < 256 := Nat.lt_of_le_of_lt (Nat.sub_le _ _) (by decide)

set_option maxRecDepth 10000 in
set_option maxHeartbeats 3200000 in
theorem pkeep_any (X : List Nat) (n : Nat) (w : World) (hX : X.length = 16) (bX : ∀ x ∈ X, x < 256) (hn : n ≤ 128) : Calls Tryd.prog 13 #[.agg (bcells X).toArray, .int .i64 n] w fun e w' => e = .returned (.agg (bcells (keepB X n)).toArray) ∧ Below w.heap.size w w' := by
  have hs : (bcells X).length = 16 := by rw [bcells_length, hX]
  have A0 : Hid (ArrV 22 ((w.alloc (.cells (bcells X).toArray 22)).alloc (.cells (bcells zero16).toArray 22)) w.heap.size (bcells X)) := (ArrV.new _ w _).alloc _
  have A1 : Hid (ArrV 22 ((w.alloc (.cells (bcells X).toArray 22)).alloc (.cells (bcells zero16).toArray 22)) (w.heap.size + 1) (bcells zero16)) := by
    have h := ArrV.new 22 (w.alloc (.cells (bcells X).toArray 22)) (bcells zero16)
    rw [World.size_alloc] at h
    exact h
  have B0 : Hid (Below w.heap.size w ((w.alloc (.cells (bcells X).toArray 22)).alloc (.cells (bcells zero16).toArray 22))) := ((Below.refl _ _).alloc (Nat.le_refl _) _).alloc (by simp) _
  have C1 := Lib.hid (fun w => pones_any n w hn)
  have HX := Lib.hid (And.intro hX bX)
  clear hX bX hn
  go_enter Tryd.func13, Tryd.ntmps13
  go_wp2_with fail
  refine (C1.out _).mono ?_
  rintro e w1 ⟨rfl, b1⟩
  have h15 : w.heap.size + 1 < w1.heap.size := (A1.out.below b1).lt
  obtain ⟨hst, hA, hb⟩ := addr_stored w1 (onesB n) (onesB_len n)
  have hl16 : (bcells (onesB n)).length = 16 := by rw [bcells_length, onesB_len]
  have A0 := Lib.hid ((A0.out.below b1).below hb)
  have A1 := Lib.hid ((A1.out.below b1).below hb)
  have B0 := Lib.hid (below_both (below_both B0.out b1) hb)
  have A5 := Lib.hid hA
  clear b1 hA hb C1
  obtain ⟨b5, e5⟩ : ∃ b, b = w1.heap.size := ⟨_, rfl⟩
  go_upto_region 2 with fail
  clear hst
  rw [← e5] at A5 A0 A1 B0 h15 ⊢
  generalize (w1.alloc (.cells #[.int .u8 0, .int .u8 0, .int .u8 0, .int .u8 0, .int .u8 0, .int .u8 0, .int .u8 0, .int .u8 0, .int .u8 0, .int .u8 0, .int .u8 0, .int .u8 0, .int .u8 0, .int .u8 0, .int .u8 0, .int .u8 0] 22)).setCells b5 0 (bcells (onesB n)) = W1 at *
  clear e5
  go_wp2_with fail
  go_loopw [9] (fun i wr => ∃ k : Nat, k ≤ 16 ∧ i = .int .i64 k ∧ Hid (ArrV 22 wr w.heap.size (bcells (kmix X n k))) ∧ Hid (ArrV 22 wr (w.heap.size + 1) (bcells zero16)) ∧ Hid (ArrV 22 wr b5 (bcells (onesB n))) ∧ Hid (Below w.heap.size w wr)) (fun i _ => 16 - (intOf i).toNat)
  case atStart => exact ⟨0, by decide, rfl, A0.out, A1.out, A5.out, B0.out⟩
  case round =>
    clear A0 A1 A5 B0
    obtain ⟨k, hk, rfl, A0, A1, A5, BB⟩ := hrel
    by_cases hlt : k < 16
    · have wk : wrap64 ((k : Int) + 1) = ((k + 1 : Nat) : Int) := wrap_inc (by omega)
      have c0 := bget A0.out k (by rw [kmix_len HX.out.1 hk]; exact hlt)
      rw [kmix_at HX.out.1 hlt] at c0
      have c5 : wr.cell? ⟨b5, k, none⟩ = some (.int .u8 (onb n k : Nat)) := by
        rw [A5.out.get]
        have h := onesB_get n k hlt
        simp only [bcells, List.getElem?_map, h, Option.map_some]
      have hx := getD_byte HX.out.2 k
      have ho := onb_le n k
      have q := u8_and_nat (X.getD k 0) (onb n k) hx ho
      have f0 := A0.out.frozen k
      have A2 := Lib.hid (bset A0.out k (X.getD k 0 &&& onb n k))
      rw [kmix_set HX.out.1 hlt] at A2
      have A3 := Lib.hid (A1.out.other ⟨w.heap.size, k, none⟩ (.int .u8 (X.getD k 0 &&& onb n k : Nat)) (by simp))
      have A6 := Lib.hid (A5.out.other ⟨w.heap.size, k, none⟩ (.int .u8 (X.getD k 0 &&& onb n k : Nat)) (by simp; omega))
      have B2 := Lib.hid (BB.out.setCell (p := ⟨w.heap.size, k, none⟩) (Nat.le_refl _) (.int .u8 (X.getD k 0 &&& onb n k : Nat)))
      clear hx ho
      generalize X.getD k 0 &&& onb n k = z at *
      generalize X.getD k 0 = x at *
      generalize onb n k = o at *
      go_wp2_with fail
      go_region
      all_goals
        go_wp2_with fail
        go_roundw
        case rel => exact ⟨k + 1, by omega, rfl, A2.out.drew, A3.out.drew, A6.out.drew, B2.out.drew⟩
        case measure => simp [intOf]; omega
    · obtain rfl : k = 16 := by omega
      have HL : Hid ((bcells (keepB X n)).length = 16) := by show _ = _; rw [bcells_length, keepB_len]
      have HE : Hid (kmix X n 16 = keepB X n) := by
        show _ = _
        unfold kmix
        rw [List.take_of_length_le (by rw [keepB_len]; exact Nat.le_refl _), List.drop_eq_nil_of_le (by rw [HX.out.1]; exact Nat.le_refl _), List.append_nil]
      rw [HE.out] at A0
      go_upto_region 7 with fail
      refine wp_region_lit ?_
      go_wp2_with (first | refine wpList_load_v rfl 22 (.tmp 2) rfl _ rfl ty16 A0.out HL.out ?_ | refine wpList_store_v rfl 22 (.tmp 4) (.tmp 21) rfl _ rfl ty16 A1.out rfl (bcells (keepB X n)) HL.out (bcells_one _) rfl ?_)
      exact bodyPost_ret (v := .agg (bcells (keepB X n)).toArray) (res_cell Tryd.results13 rfl ((A1.out.store (bcells (keepB X n)) (by rw [HL.out]; rfl)).loadVar ty16 HL.out)) rfl ⟨rfl, setCells_below _ (by omega) _ _ _ BB.out⟩
end Go.Proofs.YtaicmadeobglfaaDoor
