/-
  sorted; Union where a span may not be.
-/
import Derived.Test.YtcbhhfnnjfpmbaaSp9
import Derived.Shelf.SlSortCmp.NoneTotal
namespace Go.Proofs.Ytcbhhfnnjfpmbaa
open Go.RowKit Go.Shelf Go.Lib Go.Sort
set_option linter.unusedVariables false

theorem OutSp.shape {B : Nat} {w : World} {v : Value} {L : List Sp} (h : OutSp B w v L) : ∃ p c, v = .slice p L.length c := by
  rcases h.2 with ⟨hv, h0⟩ | ⟨g, cap, cur, hv, _⟩
  · exact ⟨none, 0, by rw [hv, h0]⟩
  · exact ⟨_, cap, hv⟩
theorem ssortf_any (B : Nat) (v : Value) (L : List Sp) (w : World) (h : OutSp B w v L) (hB : B ≤ w.heap.size) (hl : L.length < 4611686018427387904) :
    Calls Try.prog 32 #[v, .func (.func 18) #[] #[]] w fun e w' => e = .returned (.tuple #[]) ∧ ∃ S, SortedS L S ∧ OutSp B w' v S ∧ Below B w w' := by
  rcases Nat.eq_zero_or_pos L.length with h0 | h0
  · obtain ⟨p, c, hv⟩ := h.shape
    have e : L = [] := List.eq_nil_of_length_eq_zero h0
    subst e
    subst hv
    refine (show Calls Try.prog 32 #[.slice p 0 c, .func (.func 18) #[] #[]] w _ from AnyF.slices_SortFunc_none laysSortSpan p c (.func (.func 18) #[] #[]) w).mono ?_
    rintro e w' ⟨rfl, rfl⟩
    exact ⟨rfl, [], SortedS.nil, h, Below.refl _ _⟩
  · obtain ⟨g, c, rfl, hg1, hg2, hg3, hg4⟩ := h.block h0
    refine (ssortf_own B g c L.length L w h rfl hl).mono ?_
    rintro e w' ⟨rfl, S, hS, ho, hgr⟩
    exact ⟨rfl, S, hS, ho, (Below.refl B w).grown hgr hB (fun q hq => by have := Option.some.inj hq; omega)⟩

theorem ssortedFunc_all (Bn : Nat) (A : Option Addr) (n cap : Nat) (L : List Sp) (w : World) (hn : n ≤ 8796093022207) (hBn : Bn < w.heap.size) (hc : w.cell? ⟨Bn, 0, none⟩ = some (.slice A n cap)) (hA : SpRow w A n L) :
    Calls Try.prog 16 #[.func (.func 33) #[] #[.pointer (some ⟨Bn, 0, none⟩)], .func (.func 18) #[] #[]] w fun e w' => ∃ v S, e = .returned v ∧ SortedS L S ∧ OutSp w.heap.size w' v S ∧ Below w.heap.size w w' := by
  have C := Lib.hid (collect_any Bn A n cap L w hn hBn hc hA)
  have HL : Hid (L.length < 4611686018427387904) := by have := hA.len; exact (by omega : L.length < 4611686018427387904)
  clear hc hA hn
  go_enter Try.func16, Try.ntmps16
  go_wp2_with fail
  refine C.out.mono ?_
  rintro e w1 ⟨v, rfl, ho, hb⟩
  have CS := Lib.hid (ssortf_any w.heap.size v L w1 ho hb.size HL.out)
  have HB := Lib.hid hb
  clear ho hb
  go_wp2_with fail
  refine CS.out.mono ?_
  rintro e w2 ⟨rfl, S, hS, ho, hb⟩
  have B := Lib.hid (HB.out.trans hb)
  have HS := Lib.hid hS
  have HO := Lib.hid ho
  clear hS ho hb
  go_wp2_with fail
  go_ret
  exact ⟨_, _, rfl, HS.out, HO.out, B.out⟩
theorem ssorted_any (A : Option Addr) (n cap : Nat) (L : List Sp) (w : World) (hn : n ≤ 8796093022207) (hA : SpRow w A n L) :
    Calls Try.prog 13 #[.slice A n cap] w fun e w' => ∃ v S, e = .returned v ∧ SortedS L S ∧ OutSp w.heap.size w' v S ∧ Below w.heap.size w w' := by
  have CV := Lib.hid (values_any A n cap w)
  have C := Lib.hid (ssortedFunc_all w.heap.size A n cap L (w.alloc (.cells #[.slice A n cap] 23)) hn (by simp) (cell_of_row _ _ 0 _ _ _ (heap_alloc_new w _)) (hA.alloc _))
  have hs : (w.alloc (.cells #[.slice A n cap] 23)).heap.size = w.heap.size + 1 := by simp
  have HS := Lib.hid hs
  clear hn hA hs
  go_enter Try.func13, Try.ntmps13
  go_wp2_with fail
  refine CV.out.mono ?_
  rintro e w1 ⟨rfl, rfl⟩
  go_wp2_with fail
  refine C.out.mono ?_
  rintro e w2 ⟨v, S, rfl, hS, ho, hb⟩
  have h1 : w.heap.size ≤ (w.alloc (.cells #[.slice A n cap] 23)).heap.size := by rw [HS.out]; omega
  have HO := Lib.hid (ho.mono h1)
  have B : Hid (Below w.heap.size w w2) := ((Below.refl _ _).alloc (Nat.le_refl _) (.cells #[.slice A n cap] 23)).trans (hb.mono h1)
  have HP := Lib.hid hS
  clear ho hb hS
  go_wp2_with fail
  go_ret
  exact ⟨_, _, rfl, HP.out, HO.out, B.out⟩

set_option maxRecDepth 10000 in
theorem sunion_bad (A : Option Addr) (n cap : Nat) (L : List Sp) (w : World) (hn : n ≤ 8796093022207) (hA : SpRow w A n L) (hbad : chkAll L ≠ 0) :
    Calls Try.prog 6 #[.slice A n cap] w fun e w' => e = .returned (.tuple #[.slice none 0 0, .int .i64 (chkAll L)]) ∧ Below w.heap.size w w' := by
  have C := Lib.hid (scheckAll_any A n cap L w hn hA)
  have hb1 : (chkAll L != 0) = true := by rw [bne_iff_ne]; exact hbad
  obtain ⟨c, hc⟩ : ∃ c, c = chkAll L := ⟨_, rfl⟩
  rw [← hc] at C hb1 ⊢
  clear hc hbad hA
  go_enter Try.func6, Try.ntmps6
  go_wp2_with fail
  refine C.out.mono ?_
  rintro e w1 ⟨rfl, hb⟩
  have B := Lib.hid hb
  clear hb
  go_wp2_with fail
  go_ret2
  exact ⟨rfl, B.out⟩
end Go.Proofs.Ytcbhhfnnjfpmbaa
