/-
  Contracts of octet.Put and of the document's fits.
-/
import Derived.Test.YtdeecobpglfgaaaDoorOct3
import Derived.Test.YtdeecobpglfgaaaDoorOct4
import Derived.Test.YtdeecobpglfgaaaDoorPlain3
namespace Go.Proofs.YtdeecobpglfgaaaDoor
open Go.RowKit
set_option linter.unusedVariables false

/-- What stands while Put writes: k bytes are there. -/
def PutInv (w : World) (bs : List Nat) (a : Nat) (l : List Nat) (k : Nat) (wr : World) : Prop := Own wr w.heap.size (splice bs a (l.take k)) ∧ Below w.heap.size w wr
/-- What Put answers: new memory. -/
def PutTo (w : World) (l : List Nat) (e : Ending) (w' : World) : Prop :=
  e = .returned (.tuple #[.slice (some ⟨w.heap.size, 0, none⟩) l.length l.length, .int .i64 0]) ∧ Own w' w.heap.size l ∧ Below w.heap.size w w'


theorem put_step {w wr : World} {bs l : List Nat} {a k m n x : Nat} (hinv : PutInv w bs a l k wr) (hlt : k < m) (HG : Hid (∀ k, k < m → l.getD k 0 = x / 256 ^ (m - 1 - k) % 256))
    (HLB : Hid (bs.length = n)) (HLL : Hid (l.length = m)) (h : a + m ≤ n) : PutInv w bs a l (k + 1) (wr.setCell ⟨w.heap.size, a + k, none⟩ (.int .u8 ((x : Int) / 2 ^ (8 * (m - 1 - k)) % 256))) := by
  have e1 := HG.out k hlt
  have e2 := HLB.out
  have e3 := HLL.out
  have e : ((x : Int) / 2 ^ (8 * (m - 1 - k)) % 256) = ((l.getD k 0 : Nat) : Int) := by rw [e1, pow256]; simp
  rw [e]
  refine ⟨?_, hinv.2.setCell (Nat.le_refl _) _⟩
  have := hinv.1.set (a + k) (l.getD k 0)
  rw [splice_take (by omega) (by omega)] at this
  exact this
theorem put_done {w wr : World} {bs l : List Nat} {a m n : Nat} (hinv : PutInv w bs a l m wr) (HLB : Hid (bs.length = n)) (HLL : Hid (l.length = m)) (h : a + m ≤ n) :
    PutTo w (splice bs a l) (.returned (.tuple #[.slice (some ⟨w.heap.size, 0, none⟩) n n, .int .i64 0])) wr := by
  have e2 := HLB.out
  have e3 := HLL.out
  refine ⟨by rw [splice_length (by omega), e2], ?_, hinv.2⟩
  have := hinv.1
  rw [List.take_of_length_le (by omega)] at this
  exact this

theorem fits_any (x m : Nat) (w : World) (hm : m ≤ 8) (hx : x ≤ 18446744073709551615) :
    Calls Tryd.prog 100 #[.int .u64 x, .int .i64 m] w fun e w' => e = .returned (.bool (decide (x < 256 ^ m))) ∧ w = w' := by
  go_enter Tryd.func100, Tryd.ntmps100
  go_wp2
  go_loop [0, 5] (fun v j => ∃ k : Nat, k ≤ m ∧ j = .int .i64 k ∧ v = .int .u64 ((x / 256 ^ k : Nat) : Int)) (fun _ j => m - (intOf j).toNat)
  case atStart => exact ⟨0, Nat.zero_le _, rfl, by simp⟩
  case round =>
    obtain ⟨k, hk, rfl, rfl⟩ := hrel
    have hle : x / 256 ^ k ≤ x := Nat.div_le_self _ _
    by_cases hlt : k < m
    · have hst : x / 256 ^ (k + 1) = x / 256 ^ k / 256 := by rw [Nat.pow_succ, Nat.div_div_eq_div_mul]
      have hst := Lib.hid hst
      generalize x / 256 ^ k = q at *
      go_wp2
      go_round
      case rel => exact ⟨k + 1, by omega, by go_num, by rw [hst.out]; go_num⟩
      case measure => simp [intOf]; omega
    · have hk' : k = m := by omega
      subst hk'
      have hz : x / 256 ^ k = 0 ↔ x < 256 ^ k := by rw [Nat.div_eq_zero_iff]; have : 0 < 256 ^ k := Nat.pow_pos (by decide); omega
      have hz := Lib.hid hz
      generalize x / 256 ^ k = q at *
      go_wp2
      go_ret
      refine ⟨?_, rfl⟩
      have hz := hz.out
      by_cases h : x < 256 ^ k
      · have hq := hz.2 h
        simp [h, hq]
      · have hq : ¬ q = 0 := fun hq => h (hz.1 hq)
        have hq' : ((q : Int) == 0) = false := by simp [hq]
        simp [h, hq']
end Go.Proofs.YtdeecobpglfgaaaDoor
