/-
  The library's Cut as span uses it; the variables that are read.
-/
import Derived.Test.YtpalnlbdfmiadaaGreatDoorSpTxt
import Derived.Shelf.Strings.Cut
namespace Go.Proofs.YtpalnlbdfmiadaaGreatDoor
open Go.RowKit Go.Shelf
set_option linter.unusedVariables false
shelf_lay Lays.n145 Nm 145 at Tryz as lays145
def MaxL (w : World) : Prop := ∃ m, w.cell? ⟨0, 0, none⟩ = some (.int .i64 m)
theorem MaxL.below {w w' : World} (h : MaxL w) (hb : Below w.heap.size w w') : MaxL w' := by
  obtain ⟨m, hm⟩ := h
  exact ⟨m, (hb.cell (cell_lt hm)).trans hm⟩
/-- Both tables. -/
structure Tabs (w : World) : Prop where
  pow : Pow w
  max : MaxL w
theorem Tabs.below {w w' : World} (h : Tabs w) (hb : Below w.heap.size w w') : Tabs w' := ⟨h.pow.below hb, h.max.below hb⟩
theorem dash_any (s : ByteArray) (w : World) (hs : s.size < 4294967281) (hm : MaxL w) :
    Calls Tryz.prog 11 #[.string s, .string ⟨#[45]⟩] w fun e w' => e = .returned (.tuple #[.string ⟨(Lib.cut s.data.toList [45]).1.toArray⟩, .string ⟨(Lib.cut s.data.toList [45]).2.1.toArray⟩, .bool (Lib.cut s.data.toList [45]).2.2]) ∧ Below w.heap.size w w' := by
  obtain ⟨m, hm⟩ := hm
  refine (show Calls Tryz.prog 11 #[.string s, .string ⟨#[45]⟩] w _ from Any.strings_Cut lays145 s ⟨#[45]⟩ m w hs hm).mono ?_
  rintro e w' ⟨rfl, n, rfl⟩
  exact ⟨rfl, below_drewN' (Below.refl _ _) n⟩
theorem cut45_le (l : List UInt8) : (Lib.cut l [45]).1.length ≤ l.length := by
  unfold Lib.cut
  split
  · rw [List.length_take]; omega
  · exact Nat.le_refl _
end Go.Proofs.YtpalnlbdfmiadaaGreatDoor
