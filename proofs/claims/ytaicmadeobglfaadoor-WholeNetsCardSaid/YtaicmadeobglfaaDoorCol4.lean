/-
  The contract of colons' join: groups with colons between.
-/
import Derived.Test.YtaicmadeobglfaaDoorCol2
import Derived.Test.YtaicmadeobglfaaDoorCol3
import Derived.Test.YtaicmadeobglfaaDoorDot4
namespace Go.Proofs.YtaicmadeobglfaaDoor
open Go.RowKit
set_option linter.unusedVariables false

/-- A slice's groups. -/
def Row16 (w : World) (A : Option Addr) (gs : List Nat) : Prop := ∀ i, i < gs.length → ∃ b o, A = some ⟨b, o, none⟩ ∧ w.cell? ⟨b, o + i, none⟩ = some (.int .u16 (gs.getD i 0 : Nat))
theorem Row16.below {w w' : World} {A : Option Addr} {gs : List Nat} (h : Row16 w A gs) (hb : Below w.heap.size w w') : Row16 w' A gs := fun i hi => by
  obtain ⟨b, o, e, hc⟩ := h i hi
  exact ⟨b, o, e, (hb.cell (cell_lt hc)).trans hc⟩
/-- A row of texts, so many laid. -/
def RowT (W : World) (g : Nat) (ps : List ByteArray) (N : Nat) : Prop := W.heap[g]? = some (.cells (Lib.cellsOf ps N) 9 (0, 0))
theorem RowT.lt {W : World} {g N : Nat} {ps : List ByteArray} (h : RowT W g ps N) : g < W.heap.size := by
  rcases Nat.lt_or_ge g W.heap.size with hlt | hge
  · exact hlt
  · unfold RowT at h; rw [Array.getElem?_eq_none hge] at h; cases h
theorem RowT.below {W W' : World} {g N : Nat} {ps : List ByteArray} (h : RowT W g ps N) (hb : Below W.heap.size W W') : RowT W' g ps N := (hb.block g h.lt).trans h
theorem RowT.next {W : World} {g N : Nat} {ps : List ByteArray} (h : RowT W g ps N) (hk : ps.length < N) : W.cell? ⟨g, ps.length, none⟩ = some (.string ByteArray.empty) ∧ W.frozen? ⟨g, ps.length, none⟩ = false := by
  refine ⟨?_, frozen_of_row W g _ _ _ h⟩
  have h2 := Lib.cellsOf_next hk
  simp [World.cell?, RowT] at h ⊢
  simp [h, h2]
theorem RowT.put {W : World} {g N : Nat} {ps : List ByteArray} (h : RowT W g ps N) (x : ByteArray) (hk : ps.length < N) : RowT (W.setCell ⟨g, ps.length, none⟩ (.string x)) g (ps ++ [x]) N := by
  have h1 := heap_setCell_same W g ps.length _ _ (.string x) h
  unfold RowT
  rw [h1, Lib.cellsOf_set hk]
theorem RowT.cell {W : World} {g N : Nat} {ps : List ByteArray} (h : RowT W g ps N) (j : Nat) (x : ByteArray) (hx : ps[j]? = some x) : W.cell? ⟨g, j, none⟩ = some (.string x) := by
  have hj : j < ps.length := by
    rcases Nat.lt_or_ge j ps.length with hlt | hge
    · exact hlt
    · rw [List.getElem?_eq_none hge] at hx; cases hx
  have e : (Lib.cellsOf ps N)[j]? = some (.string x) := by
    unfold Lib.cellsOf
    rw [List.getElem?_toArray, List.getElem?_append_left (by simpa using hj), List.getElem?_map, hx]
    rfl
  simp [World.cell?, RowT] at h ⊢
  simp [h, e]

theorem row_start (w : World) (N : Nat) : RowT (w.alloc (.cells (madeCells #[.string ByteArray.empty] N) 9)) w.heap.size [] N := by
  unfold RowT
  rw [Lib.cellsOf_nil]
  exact heap_alloc_new w _
def gt (g : Nat) : ByteArray := ⟨(gtext g).toArray⟩
theorem gt_list (gs : List Nat) : (gs.map gt).map (·.data.toList) = gs.map gtext := by
  rw [List.map_map]
  exact List.map_congr_left fun x _ => by simp [gt]
def gstr (gs : List Nat) : ByteArray := ⟨(gsjoin gs).toArray⟩

set_option maxRecDepth 10000 in
set_option maxHeartbeats 1600000 in
theorem cjoin_any (A : Option Addr) (c : Nat) (gs : List Nat) (w : World) (hB : Bru w) (h8 : gs.length ≤ 8) (hg : ∀ x ∈ gs, x < 65536) (hR : Row16 w A gs) :
    Calls Tryd.prog 28 #[.slice A gs.length c] w fun e w' => e = .returned (.string (gstr gs)) ∧ Below w.heap.size w w' := by
  obtain ⟨N, hN⟩ : ∃ N, N = gs.length := ⟨_, rfl⟩
  rw [← hN] at h8 ⊢
  have hmk := run_make_row' (P := Tryd.prog) 68 9 (.string ByteArray.empty) 16 Tryd.underlying68 string_info rfl .i64 .i64 N (by omega) (by omega)
  have HT := Lib.hid hB
  have HN := Lib.hid hN
  have HG := Lib.hid hg
  have HR := Lib.hid hR
  clear hB hN hg hR
  go_enter Tryd.func28, Tryd.ntmps28
  go_wp2_with fail
  clear hmk
  go_loopw [11] (fun i wr => ∃ k : Nat, k ≤ N ∧ i = .int .i64 k ∧ Hid (RowT wr w.heap.size ((gs.take k).map gt) N) ∧ Hid (Below w.heap.size w wr)) (fun i _ => N - (intOf i).toNat)
  case atStart => exact ⟨0, Nat.zero_le _, rfl, row_start w N, (Below.refl _ _).alloc (Nat.le_refl _) _⟩
  case round =>
    obtain ⟨k, hk, rfl, HA, HB⟩ := hrel
    by_cases hlt : k < N
    · obtain ⟨b, o, rfl, hc0⟩ := HR.out k (by rw [← HN.out]; exact hlt)
      have hc := (HB.out.cell (cell_lt hc0)).trans hc0
      clear hc0
      have HX : Hid (gs.getD k 0 < 65536) := by
        show _ < _
        rw [List.getD_eq_getElem?_getD, List.getElem?_eq_getElem (by rw [← HN.out]; exact hlt)]
        exact HG.out _ (List.getElem_mem _)
      have HS : Hid (gs.take (k + 1) = gs.take k ++ [gs.getD k 0]) := by
        show _ = _
        rw [List.take_succ_eq_append_getElem (by rw [← HN.out]; exact hlt), List.getD_eq_getElem?_getD, List.getElem?_eq_getElem (by rw [← HN.out]; exact hlt)]
        rfl
      have HK : Hid (((gs.take k).map gt).length = k) := by show _ = _; rw [List.length_map, List.length_take, ← HN.out]; omega
      generalize gs.getD k 0 = x at *
      have q : IntKind.u64.wrap (x : Int) = (x : Int) := by have := HX.out; show (x : Int) % 18446744073709551616 = _; omega
      have CF := Lib.hid (fun w hB => format_any x w HX.out hB)
      have wk : wrap64 ((k : Int) + 1) = ((k + 1 : Nat) : Int) := wrap_inc (by omega)
      go_wp2_with fail
      refine (CF.out _ (HT.out.below HB.out)).mono ?_
      rintro e w1 ⟨rfl, hb1⟩
      have HA1 := Lib.hid (HA.out.below hb1)
      have hn := HA1.out.next (by rw [HK.out]; exact hlt)
      have HP := Lib.hid (HA1.out.put (gt x) (by rw [HK.out]; exact hlt))
      rw [HK.out] at hn HP
      obtain ⟨c0, f0⟩ := hn
      have HB1 := Lib.hid (below_both HB.out hb1)
      clear hb1
      go_wp2_with fail
      go_roundw
      case rel => exact ⟨k + 1, by omega, rfl, by rw [HS.out, List.map_append]; exact HP.out, HB1.out.setCell (Nat.le_refl _) _⟩
      case measure => simp [intOf]; omega
    · obtain rfl : k = N := by omega
      have CJ : Hid (Calls Tryd.prog 29 #[.slice (some ⟨w.heap.size, 0, none⟩) k k, .string ⟨#[58]⟩] wr fun e w' => e = .returned (.string (gstr gs)) ∧ Below wr.heap.size wr w') := by
        have e0 : gs.take k = gs := by rw [HN.out]; exact List.take_length
        have hA := HA.out
        rw [e0] at hA
        have hl : (gs.map gt).length = k := by rw [List.length_map, HN.out]
        have h := sjoin_any w.heap.size 0 k (gs.map gt) ⟨#[58]⟩ wr (fun j x hj => by rw [Nat.zero_add]; exact hA.cell j x hj) hA.lt (by omega) (by omega) (by
          rw [gt_list]
          have := gsjoin_len HG.out
          have hN2 := HN.out
          have h9 : (gsjoin gs).length ≤ 40 := by omega
          exact Nat.le_trans h9 (by decide))
        rw [hl, gt_list] at h
        exact h
      go_wp2_with fail
      refine CJ.out.mono ?_
      rintro e w1 ⟨rfl, hb1⟩
      have HB1 := Lib.hid (below_both HB.out hb1)
      clear hb1
      go_wp2_with fail
      go_ret
      exact ⟨rfl, HB1.out⟩
end Go.Proofs.YtaicmadeobglfaaDoor
