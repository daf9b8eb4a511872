/-
  octet.Get and octet.Cut answer as the document's answer does, whatever the bytes, place and width.
-/
import Derived.Test.YtmchclpkjjmocaaGreatOct7
namespace Go.Proofs.YtmchclpkjjmocaaGreat
open Go.RowKit
set_option linter.unusedVariables false

/-- A value that is a byte slice and reads as these bytes. -/
def ByteVal (w : World) (v : Value) (l : List Nat) : Prop := ∃ A c, v = .slice A l.length c ∧ l.length ≤ c ∧ Row w A l.length l
theorem ByteVal.below {w w' : World} {v : Value} {l : List Nat} (h : ByteVal w v l) (hb : Below w.heap.size w w') : ByteVal w' v l := by
  obtain ⟨A, c, h1, h2, h3⟩ := h
  exact ⟨A, c, h1, h2, h3.below hb⟩
theorem ByteVal.nil (w : World) : ByteVal w (.slice none 0 0) [] := ⟨none, 0, rfl, Nat.le_refl _, Row.nil w none⟩
/-- It answers a byte slice and an error. -/
def TwoTo (w : World) (l : List Nat) (y : Int) (e : Ending) (w' : World) : Prop := ∃ v, e = .returned (.tuple #[v, .int .i64 y]) ∧ ByteVal w' v l ∧ Below w.heap.size w w'
theorem two_nil {w : World} {y : Int} : ∀ e w', (e = .returned (.tuple #[.slice none 0 0, .int .i64 y]) ∧ w = w') → TwoTo w [] y e w' := by
  rintro e w' ⟨rfl, rfl⟩
  exact ⟨_, rfl, ByteVal.nil w, Below.refl _ _⟩
theorem two_own {w : World} {l : List Nat} (hl : ∀ x ∈ l, x < 256) : ∀ e w', (e = .returned (.tuple #[.slice (some ⟨w.heap.size, 0, none⟩) l.length l.length, .int .i64 0]) ∧ Own w' w.heap.size l ∧ Below w.heap.size w w') → TwoTo w l 0 e w' := by
  rintro e w' ⟨rfl, ho, hb⟩
  exact ⟨_, rfl, ⟨_, _, rfl, Nat.le_refl _, ho.row hl⟩, hb⟩
theorem two_out {w : World} {l : List Nat} (hl : ∀ x ∈ l, x < 256) : ∀ e w', OutTo w l e w' → TwoTo w l 0 e w' := by
  rintro e w' ⟨v, rfl, ho, hb⟩
  obtain ⟨A, c, rfl, h1, h2, h3⟩ := ho.out hl
  exact ⟨_, rfl, ⟨A, c, rfl, h1, h3⟩, hb⟩

theorem get_agree (A : Option Addr) (n cap : Nat) (a m : Int) (bs : List Nat) (hcap : n ≤ cap) (hreach : cap ≤ 140737488351232) (ha : a ≤ 9223372036854775807) :
    ∃ x y : Int, (∀ w, Row w A n bs → Calls Tryz.prog 34 #[.slice A n cap, .int .i64 a, .int .i64 m] w fun e w' => e = .returned (.tuple #[.int .u64 x, .int .i64 y]) ∧ w = w') ∧
      (∀ w, Row w A n bs → Calls Tryz.prog 63 #[.slice A n cap, .int .i64 a, .int .i64 m] w fun e w' => e = .returned (.tuple #[.int .u64 x, .int .i64 y]) ∧ w = w') := by
  by_cases h : m < 1 ∨ 8 < m ∨ a < 0
  · exact ⟨0, 1, fun w _ => get_range A n cap a m w h, fun w _ => rget_range A n cap a m w h⟩
  · have h1 : 1 ≤ m := by omega
    have h2 : m ≤ 8 := by omega
    have h3 : 0 ≤ a := by omega
    by_cases hs : n < a + m
    · exact ⟨0, 2, fun w _ => get_short A n cap a m w (by omega) h3 h1 h2 hs, fun w _ => rget_short A n cap a m w (by omega) h3 ha h1 h2 hs⟩
    · obtain ⟨a, rfl⟩ := Int.eq_ofNat_of_zero_le h3
      obtain ⟨m, rfl⟩ := Int.eq_ofNat_of_zero_le (show 0 ≤ m by omega)
      exact ⟨_, 0, fun w hR => get_ok A n cap a m bs w (by omega) hcap (by omega) (by omega) (by omega) hR, fun w hR => rget_ok A n cap a m bs w (by omega) hcap (by omega) (by omega) (by omega) hR⟩

/-- SameBytes at two values that read as the same bytes. -/
theorem same_vals (v1 v2 : Value) (l : List Nat) (w : World) (hl : l.length ≤ 9223372036854775807) (h1 : ByteVal w v1 l) (h2 : ByteVal w v2 l) :
    Calls Tryz.prog 8 #[v1, v2] w fun e w' => e = .returned (.bool true) ∧ Below w.heap.size w w' := by
  obtain ⟨A, c, rfl, _, hA⟩ := h1
  obtain ⟨B, d, rfl, _, hB⟩ := h2
  exact same_yes A B l.length c d l w hl hA hB
theorem join_val (g n cap c : Nat) (A : Option Addr) (bs : List Nat) (w : World) (hn : n ≤ 140737488355328) (hA : Row w A n bs) (hc : w.cell? ⟨g, 0, none⟩ = some (.slice A n cap)) :
    Calls Tryz.prog 4 #[.slice (some ⟨g, 0, none⟩) 1 c] w fun e w' => ∃ v, e = .returned v ∧ ByteVal w' v bs ∧ Below w.heap.size w w' :=
  (join_one g n cap c A bs w hn hA hc).mono fun e w' ⟨v, he, ho, hb⟩ => by
    obtain ⟨B, d, rfl, h1, _, h3⟩ := ho.out hA.2.1
    exact ⟨_, he, ⟨B, d, rfl, h1, h3⟩, hb⟩

end Go.Proofs.YtmchclpkjjmocaaGreat
