/-
  The examples of layer 5 come out as they must, in whatever world that holds the table of powers of ten: the contract of weighbridgelaw05.live.
  The walk of the statement DottedSorts.
-/
import Derived.Test.YtdeoeikpooonlaaDoorDot4
import Derived.Deep.RegionHeld3
namespace Go.Proofs.YtdeoeikpooonlaaDoor
open Go.RowKit
set_option linter.unusedVariables false
attribute [local go_sem] eq4_run

theorem l5_one (w : World) : Calls Tryd.prog 95 #[.string ⟨#[49, 48, 46, 48, 46, 50, 48, 48, 46, 49]⟩] w fun e w' => e = .returned (.tuple #[.agg #[.int .u8 10, .int .u8 0, .int .u8 200, .int .u8 1], .int .i64 0]) ∧ Below w.heap.size w w' :=
  (parse_any ⟨#[49, 48, 46, 48, 46, 50, 48, 48, 46, 49]⟩ w (by decide)).mono fun e w' ⟨he, hb⟩ => ⟨he, hb⟩
theorem l5_big (w : World) : Calls Tryd.prog 95 #[.string ⟨#[49, 48, 46, 48, 46, 48, 46, 50, 53, 54]⟩] w fun e w' => e = .returned (.tuple #[.agg #[.int .u8 0, .int .u8 0, .int .u8 0, .int .u8 0], .int .i64 1]) ∧ Below w.heap.size w w' :=
  (parse_any ⟨#[49, 48, 46, 48, 46, 48, 46, 50, 53, 54]⟩ w (by decide)).mono fun e w' ⟨he, hb⟩ => ⟨he, hb⟩
theorem l5_form (w : World) : Calls Tryd.prog 95 #[.string ⟨#[49, 48, 46, 48, 46, 48, 48, 46, 49]⟩] w fun e w' => e = .returned (.tuple #[.agg #[.int .u8 0, .int .u8 0, .int .u8 0, .int .u8 0], .int .i64 3]) ∧ Below w.heap.size w w' :=
  (parse_any ⟨#[49, 48, 46, 48, 46, 48, 48, 46, 49]⟩ w (by decide)).mono fun e w' ⟨he, hb⟩ => ⟨he, hb⟩
theorem l5_few (w : World) : Calls Tryd.prog 95 #[.string ⟨#[51, 48, 48, 46, 48, 46, 48]⟩] w fun e w' => e = .returned (.tuple #[.agg #[.int .u8 0, .int .u8 0, .int .u8 0, .int .u8 0], .int .i64 3]) ∧ Below w.heap.size w w' :=
  (parse_any ⟨#[51, 48, 48, 46, 48, 46, 48]⟩ w (by decide)).mono fun e w' ⟨he, hb⟩ => ⟨he, hb⟩
theorem dec_10 : Lib.decDigits 10 = [49, 48] := by rw [dec_step (by decide), dec_small (by decide)]; rfl
theorem dec_200 : Lib.decDigits 200 = [50, 48, 48] := by rw [dec_step (by decide), dec_step (by decide), dec_small (by decide)]; rfl
theorem dec_255 : Lib.decDigits 255 = [50, 53, 53] := by rw [dec_step (by decide), dec_step (by decide), dec_small (by decide)]; rfl
theorem dstr_one : dstr 10 0 200 1 = ⟨#[49, 48, 46, 48, 46, 50, 48, 48, 46, 49]⟩ := by
  unfold dstr dtext
  rw [dec_10, dec_200, dec_small (by decide : 0 < 10), dec_small (by decide : 1 < 10)]
  rfl
theorem l5_print (w : World) (hT : Pow w) : Calls Tryd.prog 101 #[.agg #[.int .u8 10, .int .u8 0, .int .u8 200, .int .u8 1]] w fun e w' => e = .returned (.string ⟨#[49, 48, 46, 48, 46, 50, 48, 48, 46, 49]⟩) ∧ Below w.heap.size w w' :=
  (print_any 10 0 200 1 w (by decide) (by decide) (by decide) (by decide) hT).mono fun e w' ⟨he, hb⟩ => ⟨by rw [he, dstr_one], hb⟩
theorem l5_num (w : World) : Calls Tryd.prog 96 #[.agg #[.int .u8 10, .int .u8 0, .int .u8 200, .int .u8 1]] w fun e w' => e = .returned (.int .u32 167823361) ∧ Below w.heap.size w w' :=
  (dnum_any 10 0 200 1 w (by decide) (by decide) (by decide) (by decide)).mono fun e w' ⟨he, hb⟩ => ⟨he, hb⟩
/-- Two blocks hold four bytes each. -/
def Quads (W : World) (g h : Nat) : Prop :=
  W.cell? ⟨g, 0, none⟩ = some (.int .u8 10) ∧ W.cell? ⟨g, 1, none⟩ = some (.int .u8 0) ∧ W.cell? ⟨g, 2, none⟩ = some (.int .u8 200) ∧ W.cell? ⟨g, 3, none⟩ = some (.int .u8 1) ∧ W.cell? ⟨h, 0, none⟩ = some (.int .u8 1) ∧ W.cell? ⟨h, 1, none⟩ = some (.int .u8 3) ∧ W.cell? ⟨h, 2, none⟩ = some (.int .u8 0) ∧ W.cell? ⟨h, 3, none⟩ = some (.int .u8 0)
theorem Quads.below {W W' : World} {g h : Nat} (k : Quads W g h) (hb : Below W.heap.size W W') : Quads W' g h := by
  obtain ⟨a, b, c, d, e, f, i, j⟩ := k
  exact ⟨(hb.cell (cell_lt a)).trans a, (hb.cell (cell_lt b)).trans b, (hb.cell (cell_lt c)).trans c, (hb.cell (cell_lt d)).trans d, (hb.cell (cell_lt e)).trans e, (hb.cell (cell_lt f)).trans f, (hb.cell (cell_lt i)).trans i, (hb.cell (cell_lt j)).trans j⟩
theorem Quads.drew {W : World} {g h : Nat} (k : Quads W g h) : Quads W.drew g h := k

end Go.Proofs.YtdeoeikpooonlaaDoor

namespace Go.Proofs.YtdeoeikpooonlaaDoor
open Go.RowKit
set_option linter.unusedVariables false
attribute [local go_sem] eq4_run

theorem four_ints {zs : List Int} (h : zs.length = 4) : ∃ a b c d, zs = [a, b, c, d] := by
  match zs, h with
  | [a, b, c, d], _ => exact ⟨a, b, c, d, rfl⟩
theorem nat_byte {z : Int} (h : (Lit.int .u8 z).wf = true) : ∃ n : Nat, z = (n : Int) ∧ n ≤ 255 := by
  simp [Lit.wf, IntKind.min, IntKind.max, IntKind.signed, IntKind.bits] at h
  obtain ⟨n, rfl⟩ := Int.eq_ofNat_of_zero_le h.1
  exact ⟨n, rfl, by omega⟩
theorem four_bytes {zs : List Int} (h : zs.length = 4) (hz : ∀ z ∈ zs, (Lit.int .u8 z).wf = true) : ∃ a b c d : Nat, zs = [(a : Int), (b : Int), (c : Int), (d : Int)] ∧ a ≤ 255 ∧ b ≤ 255 ∧ c ≤ 255 ∧ d ≤ 255 := by
  obtain ⟨x, y, z, u, rfl⟩ := four_ints h
  obtain ⟨a, rfl, ha⟩ := nat_byte (hz x (by simp))
  obtain ⟨b, rfl, hb⟩ := nat_byte (hz y (by simp))
  obtain ⟨c, rfl, hc⟩ := nat_byte (hz z (by simp))
  obtain ⟨d, rfl, hd⟩ := nat_byte (hz u (by simp))
  exact ⟨a, b, c, d, rfl, ha, hb, hc, hd⟩
/-- The sort where the address is neither the first nor the last of all. -/
def dmid (a b : Nat) : ByteArray :=
  if a = 127 then ⟨#[108, 111, 111, 112]⟩
  else if dpriv a b = true then ⟨#[112, 114, 105, 118, 97, 116, 101]⟩
  else if a = 169 ∧ b = 254 then ⟨#[108, 105, 110, 107]⟩
  else if 224 ≤ a ∧ a ≤ 239 then ⟨#[103, 114, 111, 117, 112]⟩
  else if 240 ≤ a then ⟨#[107, 101, 112, 116]⟩
  else ⟨#[104, 111, 115, 116]⟩
theorem dsort_mid {a b c d : Nat} (h0 : ¬ (a = 0 ∧ b = 0 ∧ c = 0 ∧ d = 0)) (h1 : ¬ (a = 255 ∧ b = 255 ∧ c = 255 ∧ d = 255)) : dsort a b c d = dmid a b := by
  rw [dsort, if_neg h0, if_neg h1]
  rfl
theorem dmid_one (a b : Nat) : ∃ s : ByteArray, dmid a b = s ∧ (s.toList == [110, 111, 110, 101]) = false ∧ (s.toList == [97, 108, 108]) = false := by
  refine ⟨_, rfl, ?_⟩
  unfold dmid
  split
  · exact ⟨by rw [Lib.toList_data]; decide, by rw [Lib.toList_data]; decide⟩
  · split
    · exact ⟨by rw [Lib.toList_data]; decide, by rw [Lib.toList_data]; decide⟩
    · split
      · exact ⟨by rw [Lib.toList_data]; decide, by rw [Lib.toList_data]; decide⟩
      · split
        · exact ⟨by rw [Lib.toList_data]; decide, by rw [Lib.toList_data]; decide⟩
        · split <;> exact ⟨by rw [Lib.toList_data]; decide, by rw [Lib.toList_data]; decide⟩
theorem dnum_last {a b c d : Nat} (ha : a ≤ 255) (hb : b ≤ 255) (hc : c ≤ 255) (hd : d ≤ 255) : dnum a b c d = 4294967295 ↔ a = 255 ∧ b = 255 ∧ c = 255 ∧ d = 255 := by unfold dnum; omega

/-- Two blocks hold four bytes each. -/
def Both (W : World) (g h : Nat) (a b c d x y z u : Nat) : Prop := ArrAt W g [a, b, c, d] ∧ ArrAt W h [x, y, z, u]
def BothC (W : World) (g h : Nat) (a b c d x y z u : Int) : Prop :=
  W.cell? ⟨g, 0, none⟩ = some (.int .u8 a) ∧ W.cell? ⟨g, 1, none⟩ = some (.int .u8 b) ∧ W.cell? ⟨g, 2, none⟩ = some (.int .u8 c) ∧ W.cell? ⟨g, 3, none⟩ = some (.int .u8 d) ∧
  W.cell? ⟨h, 0, none⟩ = some (.int .u8 x) ∧ W.cell? ⟨h, 1, none⟩ = some (.int .u8 y) ∧ W.cell? ⟨h, 2, none⟩ = some (.int .u8 z) ∧ W.cell? ⟨h, 3, none⟩ = some (.int .u8 u)
theorem BothC.below {W W' : World} {g h : Nat} {a b c d x y z u : Int} (k : BothC W g h a b c d x y z u) (hb : Below W.heap.size W W') : BothC W' g h a b c d x y z u := by
  obtain ⟨k1, k2, k3, k4, k5, k6, k7, k8⟩ := k
  exact ⟨(hb.cell (cell_lt k1)).trans k1, (hb.cell (cell_lt k2)).trans k2, (hb.cell (cell_lt k3)).trans k3, (hb.cell (cell_lt k4)).trans k4, (hb.cell (cell_lt k5)).trans k5, (hb.cell (cell_lt k6)).trans k6, (hb.cell (cell_lt k7)).trans k7, (hb.cell (cell_lt k8)).trans k8⟩
theorem Both.cells {W : World} {g h a b c d x y z u : Nat} (k : Both W g h a b c d x y z u) : BothC W g h a b c d x y z u :=
  ⟨k.1.cell 0 (by simp), k.1.cell 1 (by simp), k.1.cell 2 (by simp), k.1.cell 3 (by simp), k.2.cell 0 (by simp), k.2.cell 1 (by simp), k.2.cell 2 (by simp), k.2.cell 3 (by simp)⟩

end Go.Proofs.YtdeoeikpooonlaaDoor
