/-
  The document's Of, Parse, Text.
-/
import Derived.Test.YtdpncnplbkmgoaaDoorBr12
namespace Go.Proofs.YtdpncnplbkmgoaaDoor
open Go.RowKit
set_option linter.unusedVariables false

set_option maxRecDepth 10000 in
set_option maxHeartbeats 1600000 in
theorem rof_any (n m : Nat) (A : Option Addr) (len cap : Nat) (l : List Nat) (w : World) (hn : n ≤ 65536) (hm : m = (n + 63) / 64) (hll : len ≤ 1048576) (hA : RowI w A len l) :
    Calls Tryd.prog 39 #[.int .i64 (n : Int), .slice A len cap] w (MadeU w (setAll m l)) := by
  have C1 : Hid (∀ w, Calls Tryd.prog 11 #[.int .i64 (n : Int)] w (MadeU w (setAll m []))) := fun w => by
    have h := rnew_any (n : Int) w (by omega) (by omega)
    rw [newN_nat hn, ← hm] at h
    exact h
  have hml : m ≤ 1048575 := by omega
  have CS := Lib.hid (fun (w : World) A d x k (hA : RowU w A m x) (hk : k ≤ 9223372036854775807) => rSet_any A m d x k w hk hml hA)
  have HL := Lib.hid hA.len
  have HA := Lib.hid hA
  clear hA hn hm
  go_enter Tryd.func39, Tryd.ntmps39
  go_wp2_with fail
  refine (C1.out _).mono ?_
  rintro e w1 ⟨v, rfl, ho, hb⟩
  have HO := Lib.hid ho
  have HB := Lib.hid hb
  clear ho hb
  go_wp2_with fail
  go_loopw [5, 6] (fun v i wr => ∃ k : Nat, k ≤ len ∧ i = .int .i64 (k : Int) ∧ OutU w.heap.size wr v (setAll m (l.take k)) ∧ Below w.heap.size w wr) (fun _ i _ => len - (intOf i).toNat)
  case atStart => exact ⟨0, Nat.zero_le _, rfl, HO.out, HB.out⟩
  case round =>
    clear HO HB
    obtain ⟨k, hk, rfl, ho, hb⟩ := hrel
    have HB := Lib.hid hb
    by_cases hlt : k < len
    · obtain ⟨A1, c1, rfl, _, _, hr⟩ := ho.out (setAll_word _ _)
      rw [setAll_length] at hr ⊢
      have HR := Lib.hid hr
      obtain ⟨b, o, rfl, hb1, hcs⟩ := HA.out.addr (by omega)
      have hc := (hb.cell (p := ⟨b, o + k, none⟩) hb1).trans (hcs k hlt)
      have hyb := HA.out.word k
      have hst : Hid (setAll m (l.take (k + 1)) = setB (setAll m (l.take k)) ((l.getD k 0 : Nat) : Int)) := by
        rw [take_succ_getD l k (by rw [HL.out]; exact hlt), setAll_snoc, setB_nat]
        exact rfl
      obtain ⟨y, hy⟩ : ∃ y, y = l.getD k 0 := ⟨_, rfl⟩
      rw [← hy] at hc hyb hst
      have HY := Lib.hid (show (y : Int) ≤ 9223372036854775807 by omega)
      clear ho hb hr hb1 hcs hy hyb
      go_wp2_with fail
      refine (CS.out _ _ _ _ _ HR.out HY.out).mono ?_
      rw [← hst.out]
      rintro e w2 ⟨v, rfl, ho2, hb2⟩
      have HO2 := Lib.hid (ho2.mono HB.out.size)
      have HB2 := Lib.hid (below_both HB.out hb2)
      clear ho2 hb2
      go_wp2_with fail
      go_roundw
      case rel => exact ⟨k + 1, hlt, by go_num, HO2.out, HB2.out⟩
      case measure => simp [intOf]; omega
    · obtain rfl : k = len := by omega
      rw [List.take_of_length_le (by rw [HL.out]; exact Nat.le_refl _)] at ho
      have HO := Lib.hid ho
      clear ho hb hlt hk
      go_wp2_with fail
      go_ret
      exact ⟨_, rfl, HO.out, HB.out⟩

/-- Which of the first k bytes are the digit 1. -/
def onesOf (s : ByteArray) (k : Nat) : List Nat := (List.range k).filter (oneAt s)
theorem onesOf_yes {s : ByteArray} {k : Nat} (h : oneAt s k = true) : onesOf s (k + 1) = onesOf s k ++ [k] := by
  unfold onesOf
  rw [List.range_succ, List.filter_append]
  simp [h]
theorem onesOf_no {s : ByteArray} {k : Nat} (h : oneAt s k = false) : onesOf s (k + 1) = onesOf s k := by
  unfold onesOf
  rw [List.range_succ, List.filter_append]
  simp [h]
theorem onesOf_length (s : ByteArray) (k : Nat) : (onesOf s k).length ≤ k := by
  unfold onesOf
  refine Nat.le_trans (List.length_filter_le _ _) ?_
  simp
theorem onesOf_lt (s : ByteArray) (k : Nat) : ∀ x ∈ onesOf s k, x < k := fun x hx => List.mem_range.1 (List.mem_filter.1 hx).1
theorem OutI.other {B g i : Nat} {w : World} {v x : Value} {xs : List Nat} (h : OutI B w v xs) (hg : g < B) : OutI B (w.setCell ⟨g, i, none⟩ x) v xs := by
  refine ⟨h.1, ?_⟩
  rcases h.2 with h2 | ⟨g', cap, cur, hv, hB, hh, r⟩
  · exact .inl h2
  · exact .inr ⟨g', cap, cur, hv, hB, (heap_setCell_other w _ _ _ (by show g' ≠ g; omega)).trans hh, r⟩

set_option maxRecDepth 10000 in
set_option maxHeartbeats 1600000 in
theorem rparse_ok (s : ByteArray) (w : World) (hs : s.size ≤ 65536) (hd : Bin s s.size) :
    Calls Tryd.prog 28 #[.string s] w fun e w' => ∃ v, e = .returned (.tuple #[v, .agg #[.int .i64 0, .int .i64 0]]) ∧ OutU w.heap.size w' v (rowOf s) ∧ Below w.heap.size w w' := by
  have hsi : (s.size : Int) ≤ 65536 := by omega
  have HD := Lib.hid hd
  have HS := Lib.hid hs
  clear hd hs
  have b0 := FB.new w
  have hsz : (w.alloc (.cells #[.int .i64 0, .int .i64 0] 39)).heap.size = w.heap.size + 1 := by simp
  have HF := Lib.hid b0
  have HB : Hid (Below w.heap.size w (w.alloc (.cells #[.int .i64 0, .int .i64 0] 39))) := (Below.refl _ w).alloc (Nat.le_refl _) _
  have HSZ := Lib.hid hsz
  clear b0 hsz
  go_enter Tryd.func28, Tryd.ntmps28
  go_wp2_with fail
  go_loopw [4, 5] (fun v i wr => ∃ k : Nat, k ≤ s.size ∧ i = .int .i64 (k : Int) ∧ OutI (w.heap.size + 1) wr v (onesOf s k) ∧ FB wr w.heap.size 0 0 ∧ Below w.heap.size w wr ∧ w.heap.size + 1 ≤ wr.heap.size) (fun _ i _ => s.size - (intOf i).toNat)
  case atStart => exact ⟨0, Nat.zero_le _, rfl, OutI.nil _ _, HF.out, HB.out, by simp⟩
  case round =>
    clear HF HB HSZ
    obtain ⟨k, hk, rfl, ho, hf, hb, hsz⟩ := hrel
    have HO := Lib.hid ho
    have HF := Lib.hid hf
    have HB := Lib.hid hb
    have HZ := Lib.hid hsz
    clear ho hf hb hsz
    by_cases hlt : k < s.size
    · have hll : Hid ((onesOf s k).length + 1 ≤ 1048576) := by have h1 := onesOf_length s k; have h2 := HS.out; exact (by omega : (onesOf s k).length + 1 ≤ 1048576)
      rcases byte_cases (s := s) (k := k) (fun j hj => HD.out j (by omega)) hlt with ⟨hb, hp⟩ | ⟨hb, hp⟩
      · have HS2 := Lib.hid (onesOf_no hp)
        clear hp
        go_wp2_with fail
        go_roundw
        case rel => exact ⟨k + 1, hlt, by go_num, by rw [HS2.out]; exact HO.out, HF.out, HB.out, HZ.out⟩
        case measure => simp [intOf]; omega
      · have HS2 := Lib.hid (onesOf_yes hp)
        clear hp
        go_wp2_with (at_builtin; refine wpList_appendI (by rfl) (.tmp 32) (.tmp 34) (by rfl) (news := [k]) _ 1 (by rfl) (by rfl) (by rfl) (by rfl) HO.out (Below.refl _ wr) HZ.out hll.out ?_; intro v' w' ho' hb')
        have HO2 := Lib.hid ho'
        have HF2 := Lib.hid (HF.out.below hb' (Nat.lt_succ_self _))
        have HB2 := Lib.hid (HB.out.trans (hb'.mono (Nat.le_succ _)))
        have HZ2 := Lib.hid (Nat.le_trans HZ.out hb'.size)
        clear ho' hb'
        go_roundw
        case rel => exact ⟨k + 1, hlt, by go_num, by rw [HS2.out]; exact HO2.out, HF2.out, HB2.out, HZ2.out⟩
        case measure => simp [intOf]; omega
    · obtain rfl : k = s.size := by omega
      have hll : (onesOf s s.size).length ≤ 1048576 := by have h1 := onesOf_length s s.size; omega
      obtain ⟨A1, c1, rfl, _, _, hr⟩ := HO.out.out (fun x hx => by have := onesOf_lt s _ x hx; omega)
      have C := Lib.hid (rof_any s.size _ A1 (onesOf s s.size).length c1 (onesOf s s.size) wr HS.out rfl hll hr)
      clear hr hlt hk hll
      go_wp2_with fail
      refine C.out.mono ?_
      rintro e w2 ⟨v, rfl, ho2, hb2⟩
      have hf2 := HF.out.below hb2 (Nat.lt_of_lt_of_le (Nat.lt_succ_self _) HZ.out)
      have ho3 := ho2.mono (B' := w.heap.size + 1) HZ.out
      obtain ⟨A2, c2, rfl, _, _, _⟩ := ho2.out (setAll_word _ _)
      have hc0 := hf2.c0
      have hc1 := hf2.c1
      have hf0 := hf2.f 0
      have hf1 := hf2.f 1
      have hr0 := (hf2.two 0 0).c0
      have hr1 := (hf2.two 0 0).c1
      have HO3 := Lib.hid (((ho3.other (i := 0) (x := .int .i64 0) (Nat.lt_succ_self _)).other (i := 1) (x := .int .i64 0) (Nat.lt_succ_self _)).mono (Nat.le_succ _))
      have HB3 := Lib.hid (((below_both HB.out hb2).setCell (p := ⟨w.heap.size, 0, none⟩) (Nat.le_refl _) (.int .i64 0)).setCell (p := ⟨w.heap.size, 1, none⟩) (Nat.le_refl _) (.int .i64 0))
      clear ho2 hb2 hf2 ho3
      go_wp2_with fail
      refine bodyPost_ret (v := .tuple #[.slice A2 (setAll ((s.size + 63) / 64) (onesOf s s.size)).length c2, .agg #[.int .i64 0, .int .i64 0]]) (by simp [results, Tryd.results28, go_sem, hr0, hr1]) rfl ⟨_, rfl, ?_, HB3.out⟩
      exact HO3.out
set_option maxRecDepth 10000 in
set_option maxHeartbeats 1600000 in
theorem rparse_bad (s : ByteArray) (i : Nat) (w : World) (hs : s.size ≤ 65536) (hi : i < s.size) (hd : Bin s i) (h0 : (sb s).getD i 0 ≠ 48) (h1 : (sb s).getD i 0 ≠ 49) :
    Calls Tryd.prog 28 #[.string s] w fun e w' => e = .returned (.tuple #[.slice none 0 0, .agg #[.int .i64 3, .int .i64 (i : Int)]]) ∧ Below w.heap.size w w' := by
  have hsi : (s.size : Int) ≤ 65536 := by omega
  have HD := Lib.hid hd
  have HS := Lib.hid hs
  have HX0 : Hid (¬ (s[i]'hi).toNat = 48) := by rw [sb_at s i hi]; exact h0
  have HX1 : Hid (¬ (s[i]'hi).toNat = 49) := by rw [sb_at s i hi]; exact h1
  clear hd hs h0 h1
  have HF := Lib.hid (FB.new w)
  have HB : Hid (Below w.heap.size w (w.alloc (.cells #[.int .i64 0, .int .i64 0] 39))) := (Below.refl _ w).alloc (Nat.le_refl _) _
  go_enter Tryd.func28, Tryd.ntmps28
  go_wp2_with fail
  go_loopw [4, 5] (fun v j wr => ∃ k : Nat, k ≤ i ∧ j = .int .i64 (k : Int) ∧ OutI (w.heap.size + 1) wr v (onesOf s k) ∧ FB wr w.heap.size 0 0 ∧ Below w.heap.size w wr ∧ w.heap.size + 1 ≤ wr.heap.size) (fun _ j _ => s.size - (intOf j).toNat)
  case atStart => exact ⟨0, Nat.zero_le _, rfl, OutI.nil _ _, HF.out, HB.out, by simp⟩
  case round =>
    clear HF HB
    obtain ⟨k, hk, rfl, ho, hf, hb, hsz⟩ := hrel
    have HO := Lib.hid ho
    have HF := Lib.hid hf
    have HB := Lib.hid hb
    have HZ := Lib.hid hsz
    clear ho hf hb hsz
    by_cases hlt : k < i
    · have hks : k < s.size := by omega
      have hll : Hid ((onesOf s k).length + 1 ≤ 1048576) := by have h1 := onesOf_length s k; have h2 := HS.out; exact (by omega : (onesOf s k).length + 1 ≤ 1048576)
      rcases byte_cases (s := s) (k := k) (fun j hj => HD.out j (by omega)) hks with ⟨hb, hp⟩ | ⟨hb, hp⟩
      · have HS2 := Lib.hid (onesOf_no hp)
        clear hp
        go_wp2_with fail
        go_roundw
        case rel => exact ⟨k + 1, hlt, by go_num, by rw [HS2.out]; exact HO.out, HF.out, HB.out, HZ.out⟩
        case measure => simp [intOf]; omega
      · have HS2 := Lib.hid (onesOf_yes hp)
        clear hp
        go_wp2_with (at_builtin; refine wpList_appendI (by rfl) (.tmp 32) (.tmp 34) (by rfl) (news := [k]) _ 1 (by rfl) (by rfl) (by rfl) (by rfl) HO.out (Below.refl _ wr) HZ.out hll.out ?_; intro v' w' ho' hb')
        have HO2 := Lib.hid ho'
        have HF2 := Lib.hid (HF.out.below hb' (Nat.lt_succ_self _))
        have HB2 := Lib.hid (HB.out.trans (hb'.mono (Nat.le_succ _)))
        have HZ2 := Lib.hid (Nat.le_trans HZ.out hb'.size)
        clear ho' hb'
        go_roundw
        case rel => exact ⟨k + 1, hlt, by go_num, by rw [HS2.out]; exact HO2.out, HF2.out, HB2.out, HZ2.out⟩
        case measure => simp [intOf]; omega
    · obtain rfl : k = i := by omega
      have hc0 := HF.out.c0
      have hc1 := HF.out.c1
      have hf0 := HF.out.f 0
      have hf1 := HF.out.f 1
      have hr0 := (HF.out.two 3 (k : Int)).c0
      have hr1 := (HF.out.two 3 (k : Int)).c1
      have HB3 := Lib.hid ((HB.out.setCell (p := ⟨w.heap.size, 0, none⟩) (Nat.le_refl _) (.int .i64 3)).setCell (p := ⟨w.heap.size, 1, none⟩) (Nat.le_refl _) (.int .i64 (k : Int)))
      have hx0 : (((s[k]'hi).toNat : Int) == 48) = false := by rw [beq_eq_false_iff_ne]; have := HX0.out; omega
      have hx1 : (((s[k]'hi).toNat : Int) == 49) = false := by rw [beq_eq_false_iff_ne]; have := HX1.out; omega
      have hy0 : (((s[k]'hi).toNat : Int) != 48) = true := by rw [bne, hx0]; rfl
      have hy1 : (((s[k]'hi).toNat : Int) != 49) = true := by rw [bne, hx1]; rfl
      clear hlt hk
      go_wp2_with fail
      exact bodyPost_ret (v := .tuple #[.slice none 0 0, .agg #[.int .i64 3, .int .i64 (k : Int)]]) (by simp [results, Tryd.results28, go_sem, hr0, hr1]) rfl ⟨rfl, HB3.out⟩
end Go.Proofs.YtdpncnplbkmgoaaDoor
