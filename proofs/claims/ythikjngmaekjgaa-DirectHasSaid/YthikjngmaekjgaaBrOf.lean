/-
  The document's Of: a row of so many bits in which some are set.
-/
import Derived.Test.YthikjngmaekjgaaBrBack
namespace Go.Proofs.Ythikjngmaekjgaa
open Go.RowKit
set_option linter.unusedVariables false

/-- A fault in its own block. -/
def FB (W : World) (g : Nat) (a b : Int) : Prop := W.heap[g]? = some (.cells #[.int .i64 a, .int .i64 b] 26 (0, 0))
theorem FB.new (w : World) : FB (w.alloc (.cells #[.int .i64 0, .int .i64 0] 26)) w.heap.size 0 0 := heap_alloc_new w _
theorem FB.below {B g : Nat} {w w' : World} {a b : Int} (h : FB w g a b) (hb : Below B w w') (hg : g < B) : FB w' g a b := (hb.block g hg).trans h
theorem FB.c0 {W : World} {g : Nat} {a b : Int} (h : FB W g a b) : W.cell? ⟨g, 0, none⟩ = some (.int .i64 a) := cell_of_row W _ _ _ _ _ h
theorem FB.c1 {W : World} {g : Nat} {a b : Int} (h : FB W g a b) : W.cell? ⟨g, 1, none⟩ = some (.int .i64 b) := cell_of_row W _ _ _ _ _ h
theorem FB.f {W : World} {g : Nat} {a b : Int} (h : FB W g a b) (i : Nat) : W.frozen? ⟨g, i, none⟩ = false := frozen_of_row W _ i _ _ h
theorem FB.two {W : World} {g : Nat} {a b : Int} (h : FB W g a b) (x y : Int) : FB ((W.setCell ⟨g, 0, none⟩ (.int .i64 x)).setCell ⟨g, 1, none⟩ (.int .i64 y)) g x y :=
  heap_setCell_same _ g 1 _ _ (.int .i64 y) (heap_setCell_same W g 0 _ _ (.int .i64 x) h)
theorem FB.mid {W : World} {g : Nat} {a b : Int} (h : FB W g a b) (x : Int) : (W.setCell ⟨g, 0, none⟩ (.int .i64 x)).frozen? ⟨g, 1, none⟩ = false ∧ ∃ v, (W.setCell ⟨g, 0, none⟩ (.int .i64 x)).cell? ⟨g, 1, none⟩ = some v :=
  ⟨frozen_of_row _ _ 1 _ _ (heap_setCell_same W g 0 _ _ (.int .i64 x) h), _, cell_of_row _ _ _ _ _ _ (heap_setCell_same W g 0 _ _ (.int .i64 x) h)⟩
theorem OutU.other {B g i : Nat} {w : World} {v x : Value} {xs : List Nat} (h : OutU B w v xs) (hg : g < B) : OutU B (w.setCell ⟨g, i, none⟩ x) v xs := by
  refine ⟨h.1, ?_⟩
  rcases h.2 with h2 | ⟨g', cap, cur, hv, hB, hh, r⟩
  · exact .inl h2
  · exact .inr ⟨g', cap, cur, hv, hB, (heap_setCell_other w _ _ _ (by show g' ≠ g; omega)).trans hh, r⟩

set_option maxRecDepth 10000 in
set_option maxHeartbeats 1600000 in
theorem rof_any (n m : Nat) (A : Option Addr) (len cap : Nat) (l : List Nat) (w : World) (hn : n ≤ 65536) (hm : m = (n + 63) / 64) (hll : len ≤ 1048576) (hA : RowI w A len l) :
    Calls Try.prog 18 #[.int .i64 (n : Int), .slice A len cap] w (MadeU w (setAll m l)) := by
  have C1 : Hid (∀ w, Calls Try.prog 22 #[.int .i64 (n : Int)] w (MadeU w (setAll m []))) := fun w => by
    have h := rnew_any (n : Int) w (by omega) (by omega)
    rw [newN_nat hn, ← hm] at h
    exact h
  have hml : m ≤ 1048575 := by omega
  have CS := Lib.hid (fun (w : World) A d x k (hA : RowU w A m x) (hk : k ≤ 9223372036854775807) => rSet_any A m d x k w hk hml hA)
  have HL := Lib.hid hA.len
  have HA := Lib.hid hA
  clear hA hn hm
  go_enter Try.func18, Try.ntmps18
  go_wp2_with fail
  refine (C1.out _).mono ?_
  rintro e w1 ⟨v, rfl, ho, hb⟩
  have HO := Lib.hid ho
  have HB := Lib.hid hb
  clear ho hb
  go_wp2_with fail
  go_loopw [5, 6] (fun v i wr => ∃ k : Nat, k ≤ len ∧ i = .int .i64 (k : Int) ∧ OutU w.heap.size wr v (setAll m (l.take k)) ∧ Below w.heap.size w wr) (fun _ i _ => len - (intOf i).toNat)
  case atStart => exact ⟨0, Nat.zero_le _, rfl, HO.out, HB.out⟩
  case round =>
    clear HO HB
    obtain ⟨k, hk, rfl, ho, hb⟩ := hrel
    have HB := Lib.hid hb
    by_cases hlt : k < len
    · obtain ⟨A1, c1, rfl, _, _, hr⟩ := ho.out (setAll_word _ _)
      rw [setAll_length] at hr ⊢
      have HR := Lib.hid hr
      obtain ⟨b, o, rfl, hb1, hcs⟩ := HA.out.addr (by omega)
      have hc := (hb.cell (p := ⟨b, o + k, none⟩) hb1).trans (hcs k hlt)
      have hyb := HA.out.word k
      have hst : Hid (setAll m (l.take (k + 1)) = setB (setAll m (l.take k)) ((l.getD k 0 : Nat) : Int)) := by
        rw [take_succ_getD l k (by rw [HL.out]; exact hlt), setAll_snoc, setB_nat]
        exact rfl
      obtain ⟨y, hy⟩ : ∃ y, y = l.getD k 0 := ⟨_, rfl⟩
      rw [← hy] at hc hyb hst
      have HY := Lib.hid (show (y : Int) ≤ 9223372036854775807 by omega)
      clear ho hb hr hb1 hcs hy hyb
      go_wp2_with fail
      refine (CS.out _ _ _ _ _ HR.out HY.out).mono ?_
      rw [← hst.out]
      rintro e w2 ⟨v, rfl, ho2, hb2⟩
      have HO2 := Lib.hid (ho2.mono HB.out.size)
      have HB2 := Lib.hid (below_both HB.out hb2)
      clear ho2 hb2
      go_wp2_with fail
      go_roundw
      case rel => exact ⟨k + 1, hlt, by go_num, HO2.out, HB2.out⟩
      case measure => simp [intOf]; omega
    · obtain rfl : k = len := by omega
      rw [List.take_of_length_le (by rw [HL.out]; exact Nat.le_refl _)] at ho
      have HO := Lib.hid ho
      clear ho hb hlt hk
      go_wp2_with fail
      go_ret
      exact ⟨_, rfl, HO.out, HB.out⟩

end Go.Proofs.Ythikjngmaekjgaa
