/-
  octet.Get and octet.Cut answer as the document's answer does, whatever the bytes, place and width.
-/
import Derived.Test.YtbnheffeojnjdaaOct7
namespace Go.Proofs.Ytbnheffeojnjdaa
open Go.RowKit
set_option linter.unusedVariables false

/-- A value that is a byte slice and reads as these bytes. -/
def ByteVal (w : World) (v : Value) (l : List Nat) : Prop := ∃ A c, v = .slice A l.length c ∧ l.length ≤ c ∧ Row w A l.length l
theorem ByteVal.below {w w' : World} {v : Value} {l : List Nat} (h : ByteVal w v l) (hb : Below w.heap.size w w') : ByteVal w' v l := by
  obtain ⟨A, c, h1, h2, h3⟩ := h
  exact ⟨A, c, h1, h2, h3.below hb⟩
theorem ByteVal.nil (w : World) : ByteVal w (.slice none 0 0) [] := ⟨none, 0, rfl, Nat.le_refl _, Row.nil w none⟩
/-- It answers a byte slice and an error. -/
def Two (w : World) (l : List Nat) (y : Int) (e : Ending) (w' : World) : Prop := ∃ v, e = .returned (.tuple #[v, .int .i64 y]) ∧ ByteVal w' v l ∧ Below w.heap.size w w'
theorem two_nil {w : World} {y : Int} : ∀ e w', (e = .returned (.tuple #[.slice none 0 0, .int .i64 y]) ∧ w = w') → Two w [] y e w' := by
  rintro e w' ⟨rfl, rfl⟩
  exact ⟨_, rfl, ByteVal.nil w, Below.refl _ _⟩
theorem two_own {w : World} {l : List Nat} (hl : ∀ x ∈ l, x < 256) : ∀ e w', (e = .returned (.tuple #[.slice (some ⟨w.heap.size, 0, none⟩) l.length l.length, .int .i64 0]) ∧ Own w' w.heap.size l ∧ Below w.heap.size w w') → Two w l 0 e w' := by
  rintro e w' ⟨rfl, ho, hb⟩
  exact ⟨_, rfl, ⟨_, _, rfl, Nat.le_refl _, ho.row hl⟩, hb⟩
theorem two_out {w : World} {l : List Nat} (hl : ∀ x ∈ l, x < 256) : ∀ e w', OutTo w l e w' → Two w l 0 e w' := by
  rintro e w' ⟨v, rfl, ho, hb⟩
  obtain ⟨A, c, rfl, h1, h2, h3⟩ := ho.out hl
  exact ⟨_, rfl, ⟨A, c, rfl, h1, h3⟩, hb⟩

theorem get_agree (A : Option Addr) (n cap : Nat) (a m : Int) (bs : List Nat) (hcap : n ≤ cap) (hreach : cap ≤ 140737488351232) (ha : a ≤ 9223372036854775807) :
    ∃ x y : Int, (∀ w, Row w A n bs → Calls Try.prog 14 #[.slice A n cap, .int .i64 a, .int .i64 m] w fun e w' => e = .returned (.tuple #[.int .u64 x, .int .i64 y]) ∧ w = w') ∧
      (∀ w, Row w A n bs → Calls Try.prog 15 #[.slice A n cap, .int .i64 a, .int .i64 m] w fun e w' => e = .returned (.tuple #[.int .u64 x, .int .i64 y]) ∧ w = w') := by
  by_cases h : m < 1 ∨ 8 < m ∨ a < 0
  · exact ⟨0, 1, fun w _ => get_range A n cap a m w h, fun w _ => rget_range A n cap a m w h⟩
  · have h1 : 1 ≤ m := by omega
    have h2 : m ≤ 8 := by omega
    have h3 : 0 ≤ a := by omega
    by_cases hs : n < a + m
    · exact ⟨0, 2, fun w _ => get_short A n cap a m w (by omega) h3 h1 h2 hs, fun w _ => rget_short A n cap a m w (by omega) h3 ha h1 h2 hs⟩
    · obtain ⟨a, rfl⟩ := Int.eq_ofNat_of_zero_le h3
      obtain ⟨m, rfl⟩ := Int.eq_ofNat_of_zero_le (show 0 ≤ m by omega)
      exact ⟨_, 0, fun w hR => get_ok A n cap a m bs w (by omega) hcap (by omega) (by omega) (by omega) hR, fun w hR => rget_ok A n cap a m bs w (by omega) hcap (by omega) (by omega) (by omega) hR⟩

theorem cut_agree (A : Option Addr) (n cap : Nat) (a m : Int) (bs : List Nat) (hby : ∀ x ∈ bs, x < 256) (hcap : n ≤ cap) (hreach : cap ≤ 140737488351232) :
    ∃ (l : List Nat) (y : Int), l.length ≤ 9223372036854775807 ∧ (∀ w, Row w A n bs → Calls Try.prog 16 #[.slice A n cap, .int .i64 a, .int .i64 m] w (Two w l y)) ∧
      (∀ w, Row w A n bs → Calls Try.prog 17 #[.slice A n cap, .int .i64 a, .int .i64 m] w (Two w l y)) := by
  by_cases h : a < 0 ∨ m < 0
  · exact ⟨[], 1, by simp, fun w _ => (cut_range A n cap a m w h).mono two_nil, fun w _ => (rcut_range A n cap a m w h).mono two_nil⟩
  · have h1 : 0 ≤ m := by omega
    have h3 : 0 ≤ a := by omega
    by_cases hs : n < a + m
    · exact ⟨[], 2, by simp, fun w _ => (cut_short A n cap a m w (by omega) h3 h1 hs).mono two_nil, fun w _ => (rcut_short A n cap a m w (by omega) h3 h1 hs).mono two_nil⟩
    · obtain ⟨a, rfl⟩ := Int.eq_ofNat_of_zero_le h3
      obtain ⟨m, rfl⟩ := Int.eq_ofNat_of_zero_le h1
      have hb2 : ∀ x ∈ (bs.drop a).take m, x < 256 := mem_take (mem_drop hby)
      exact ⟨(bs.drop a).take m, 0, by rw [List.length_take]; omega, fun w hR => (cut_ok A n cap a m bs w hcap hreach (by omega) hR).mono (two_own hb2), fun w hR => (rcut_ok A n cap a m bs w hcap hreach (by omega) hR).mono (two_out hb2)⟩

/-- SameBytes at two values that read as the same bytes. -/
theorem same_vals (v1 v2 : Value) (l : List Nat) (w : World) (hl : l.length ≤ 9223372036854775807) (h1 : ByteVal w v1 l) (h2 : ByteVal w v2 l) :
    Calls Try.prog 19 #[v1, v2] w fun e w' => e = .returned (.bool true) ∧ Below w.heap.size w w' := by
  obtain ⟨A, c, rfl, _, hA⟩ := h1
  obtain ⟨B, d, rfl, _, hB⟩ := h2
  exact same_yes A B l.length c d l w hl hA hB
end Go.Proofs.Ytbnheffeojnjdaa
