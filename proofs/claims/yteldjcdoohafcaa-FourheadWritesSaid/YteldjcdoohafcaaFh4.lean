/-
  The contract of fourhead's Seal at a header that Read tells.
-/
import Derived.Test.YteldjcdoohafcaaFh3
import Derived.Test.YteldjcdoohafcaaOne4
import Derived.Test.YteldjcdoohafcaaApp
namespace Go.Proofs.Yteldjcdoohafcaa
open Go.RowKit
set_option linter.unusedVariables false

/-- Bytes with their header's checksum in them. -/
def fhseal (bs : List Nat) (m : Nat) : List Nat := filled (bs.take m) 10 ++ bs.drop m
theorem own_out {B : Nat} {w : World} {g : Nat} {l : List Nat} (h : Own w g l) (hB : B ≤ g) (hl : l.length ≤ maxLen) : OutIs B w (.slice (some ⟨g, 0, none⟩) l.length l.length) l := by
  refine ⟨by simp [bcells_length], .inr ⟨g, l.length, (bcells l).toArray, rfl, hB, h, Nat.le_refl _, hl, by simp [bcells_length], ?_⟩⟩
  simp [List.take_of_length_le, bcells_length]
def SealIs (w : World) (l : List Nat) (e : Ending) (w' : World) : Prop := ∃ v, e = .returned (.tuple #[v, .int .i64 0]) ∧ OutIs w.heap.size w' v l ∧ Below w.heap.size w w'
set_option maxRecDepth 10000 in
set_option maxHeartbeats 3200000 in
theorem fhseal_ok (A : Option Addr) (n c : Nat) (bs : List Nat) (w : World) (hn2 : n ≤ 140737488355328) (hc : n ≤ c) (hR : Row w A n bs) (hd : fhdef n bs = 0) :
    Calls Try.prog 25 #[.slice A n c] w (SealIs w (fhseal bs (4 * (bs.getD 0 0 % 16)))) := by
  have C := Lib.hid (fhread_any A n c bs w hn2 hc hR)
  unfold ReadIs at C
  obtain ⟨X, hX⟩ : ∃ X, X = fhval n bs := ⟨_, rfl⟩
  have hXl : X.length = 17 := by rw [hX]; exact fhval_len n bs
  have hXo : ∀ v ∈ X, v.oneCell' = true := by rw [hX]; exact fhval_one n bs
  rw [← hX, hd] at C
  clear hX
  have hm0 : n ≠ 0 ∧ ¬ n < 20 ∧ ¬ bs.getD 0 0 % 16 < 5 ∧ ¬ n < 4 * (bs.getD 0 0 % 16) := by
    unfold fhdef at hd
    split at hd
    · cases hd
    split at hd
    · cases hd
    split at hd
    · cases hd
    split at hd
    · cases hd
    split at hd
    · cases hd
    exact ⟨by assumption, by assumption, by assumption, by assumption⟩
  have HSZ := Lib.hid (fun w hR => fhsize_any A n c bs w (by omega) hn2 hR)
  obtain ⟨b, o, rfl, _, _⟩ := hR.addr (by omega)
  obtain ⟨m, hm⟩ : ∃ m, 4 * (bs.getD 0 0 % 16) = m := ⟨_, rfl⟩
  rw [hm] at HSZ hm0 ⊢
  obtain ⟨k0, k1, k2, k3⟩ := hm0
  have m20 : 20 ≤ m := by omega
  have hmn : m ≤ n := by omega
  have HR := Lib.hid hR
  have HF : Hid (∀ w, Row w (some ⟨b, o, none⟩) n bs → Calls Try.prog 61 #[.slice (some ⟨b, o, none⟩) m c, .int .i64 10] w (OwnTo w (filled (bs.take m) 10))) := fun w h => by
    have hp := h.part 0 m (by omega)
    rw [List.drop_zero, Nat.add_zero] at hp
    exact ofill_own (some ⟨b, o, none⟩) m c 10 (bs.take m) w (by omega) (by omega) (by decide) (by omega) hp
  have hfl : Hid ((filled (bs.take m) 10).length = m) := by
    show _ = _
    rw [filled_length (by rw [List.length_take, hR.1]; omega), List.length_take, hR.1]
    omega
  have HS : Hid (fhseal bs m = filled (bs.take m) 10 ++ bs.drop m) := rfl
  have HT : Hid (∀ w, Row w (some ⟨b, o, none⟩) n bs → Row w (if c = m then some ⟨b, o, none⟩ else some ⟨b, o + m, none⟩) (n - m) (bs.drop m)) := fun w h => by
    split
    · have hnm : n = m := by omega
      subst hnm
      rw [Nat.sub_self, List.drop_of_length_le (by rw [h.1]; exact Nat.le_refl _)]
      exact Row.nil _ _
    · have hp := h.part m (n - m) (by omega)
      rw [List.take_of_length_le (by rw [List.length_drop, h.1]; exact Nat.le_refl _)] at hp
      exact hp
  generalize filled (bs.take m) 10 = F at *
  have mI : (m : Int) ≤ (n : Int) := by omega
  have mcI : (m : Int) ≤ (c : Int) := by omega
  have mc : m ≤ c := by omega
  have sI : ((n : Int) - (m : Int)).toNat = n - m := by omega
  have m0 : (0 : Int) ≤ (m : Int) := by omega
  have HN := Lib.hid (And.intro hn2 hmn)
  clear hm k0 k1 k2 k3 hd hR hn2 hc m20
  go_enter Try.func25, Try.ntmps25
  go_wp2_with fail
  refine C.out.mono ?_
  rintro e w1 ⟨rfl, b1⟩
  obtain ⟨hst, hA, hb⟩ := four_stored w1 X hXl hXo
  have B1 := Lib.hid (below_both b1 hb)
  clear b1 hA hb
  go_upto_region 2 with fail
  clear hst
  obtain ⟨W, eW⟩ : ∃ W, W = (w1.alloc (.cells #[.int .i64 0, .int .i64 0, .int .i64 0, .int .i64 0, .int .i64 0, .int .i64 0, .int .i64 0, .int .i64 0, .int .i64 0, .int .u8 0, .int .u8 0, .int .u8 0, .int .u8 0, .int .u8 0, .int .u8 0, .int .u8 0, .int .u8 0] 25)).setCells w1.heap.size 0 X := ⟨_, rfl⟩
  rw [← eW] at B1 ⊢
  clear eW
  have R1 := Lib.hid (HR.out.below B1.out)
  go_wp2_with fail
  refine (HSZ.out _ R1.out).mono ?_
  rintro e w' ⟨rfl, rfl⟩
  go_wp2_with fail
  refine (HF.out _ R1.out).mono ?_
  rintro e w2 ⟨g, hg, rfl, ho, b2⟩
  have O2 := Lib.hid (own_out (B := w.heap.size) ho (Nat.le_trans B1.out.size hg) (by rw [hfl.out]; have := HN.out; unfold maxLen; omega))
  have R2 := Lib.hid (R1.out.below b2)
  have B2 := Lib.hid (below_both B1.out b2)
  clear b2 ho hg
  rw [hfl.out] at O2 ⊢
  go_wp2_with fail
  refine (HSZ.out _ R2.out).mono ?_
  rintro e w' ⟨rfl, rfl⟩
  go_wp2_with (at_builtin; refine wpList_append_row_any (B := w.heap.size) (W := w) rfl (.tmp 23) (.tmp 27) rfl rfl rfl rfl O2.out (HT.out _ R2.out) B2.out B2.out.size (by rw [hfl.out]; have := HN.out; omega) ?_; intro v3 w3 ho3 hb3; rw [← HS.out] at ho3; have O3 := Lib.hid ho3; have B3 := Lib.hid hb3; clear ho3 hb3)
  all_goals
    go_ret2
    exact ⟨_, rfl, O3.out, B3.out⟩
end Go.Proofs.Yteldjcdoohafcaa
