/-
  The walk of ColonsMaps.
-/
import Derived.Test.YtdeecobpglfgaaaDoorLive6
import Derived.Test.YtdeecobpglfgaaaDoorDLift
import Derived.Test.YtdeecobpglfgaaaDoorWDSorts
namespace Go.Proofs.YtdeecobpglfgaaaDoor
open Go.RowKit
set_option linter.unusedVariables false
attribute [local go_sem] eq4_run

/-- What stands in the variables. -/
structure CM (w : World) (a b c d p q r s : Nat) (X : List Nat) (g5 g7 : Nat) (W : World) : Prop where
  x : ArrV 22 W w.heap.size (bcells [a, b, c, d])
  y : ArrV 22 W (w.heap.size + 1) (bcells [p, q, r, s])
  six : ArrV 37 W g5 (bcells X)
  z : ArrV 22 W g7 (bcells [a, b, c, d])
  lib : Six W
  bel : Below w.heap.size w W
theorem CM.below {w W W' : World} {a b c d p q r s g5 g7 : Nat} {X : List Nat} (h : CM w a b c d p q r s X g5 g7 W) (hb : Below W.heap.size W W') : CM w a b c d p q r s X g5 g7 W' := ⟨h.x.below hb, h.y.below hb, h.six.below hb, h.z.below hb, h.lib.below hb, below_both h.bel hb⟩
theorem CM.drew {w W : World} {a b c d p q r s g5 g7 : Nat} {X : List Nat} (h : CM w a b c d p q r s X g5 g7 W) : CM w a b c d p q r s X g5 g7 W.drew := ⟨h.x, h.y, h.six, h.z, ⟨h.lib.pow, h.lib.bru, h.lib.max⟩, h.bel.drew⟩
/-- The cells that the last region reads. -/
def CMC (w : World) (a b c d p q r s : Nat) (X : List Nat) (g5 g7 : Nat) (W : World) : Prop :=
  W.cell? ⟨w.heap.size, 0, none⟩ = some (.int .u8 a) ∧ W.cell? ⟨w.heap.size, 1, none⟩ = some (.int .u8 b) ∧ W.cell? ⟨w.heap.size, 2, none⟩ = some (.int .u8 c) ∧ W.cell? ⟨w.heap.size, 3, none⟩ = some (.int .u8 d) ∧
  W.cell? ⟨w.heap.size + 1, 0, none⟩ = some (.int .u8 p) ∧ W.cell? ⟨w.heap.size + 1, 1, none⟩ = some (.int .u8 q) ∧ W.cell? ⟨w.heap.size + 1, 2, none⟩ = some (.int .u8 r) ∧ W.cell? ⟨w.heap.size + 1, 3, none⟩ = some (.int .u8 s) ∧
  W.cell? ⟨g7, 0, none⟩ = some (.int .u8 a) ∧ W.cell? ⟨g7, 1, none⟩ = some (.int .u8 b) ∧ W.cell? ⟨g7, 2, none⟩ = some (.int .u8 c) ∧ W.cell? ⟨g7, 3, none⟩ = some (.int .u8 d) ∧
  W.rangeAt g5 0 (bcells X)
theorem CM.cells {w W : World} {a b c d p q r s g5 g7 : Nat} {X : List Nat} (h : CM w a b c d p q r s X g5 g7 W) : CMC w a b c d p q r s X g5 g7 W := by
  obtain ⟨x0, x1, x2, x3⟩ := cells4 h.x
  obtain ⟨y0, y1, y2, y3⟩ := cells4 h.y
  obtain ⟨z0, z1, z2, z3⟩ := cells4 h.z
  exact ⟨x0, x1, x2, x3, y0, y1, y2, y3, z0, z1, z2, z3, h.six.range⟩
theorem mapped_text {a b c d : Nat} (ha : a ≤ 255) (hb : b ≤ 255) (hc : c ≤ 255) (hd : d ≤ 255) {X : List Nat} (hM : Mapped a b c d X) (w : World) (hT : Six w) :
    Calls Tryd.prog 37 #[.string ((⟨#[58, 58, 102, 102, 102, 102, 58]⟩ : ByteArray) ++ dstr a b c d)] w fun e w' => e = .returned (.tuple #[.agg (bcells X).toArray, .int .i64 0]) ∧ Below w.heap.size w w' := by
  have hl := dtext_len ha hb hc hd
  have hs : ((⟨#[58, 58, 102, 102, 102, 102, 58]⟩ : ByteArray) ++ dstr a b c d).size < 4294967000 := by
    rw [ByteArray.size_append]
    have h1 : (dstr a b c d).size = (dtext a b c d).length := by simp [dstr, ByteArray.size]
    have h2 : (⟨#[58, 58, 102, 102, 102, 102, 58]⟩ : ByteArray).size = 7 := rfl
    omega
  refine (cparse_any _ w hs hT.bru hT.max).mono ?_
  rintro e w' ⟨rfl, hb'⟩
  have e1 : ((⟨#[58, 58, 102, 102, 102, 102, 58]⟩ : ByteArray) ++ dstr a b c d).data.toList = [58, 58, 102, 102, 102, 102, 58] ++ dtext a b c d := by
    rw [ByteArray.data_append, Array.toList_append]
    simp [dstr]
  rw [e1, colParse_mapped ha hb hc hd]
  refine ⟨?_, hb'⟩
  show Ending.returned (.tuple #[.agg (bcells (addrB [0, 0, 0, 0, 0, 65535, a * 256 + b, c * 256 + d])).toArray, .int .i64 0]) = _
  have e2 : addrB [0, 0, 0, 0, 0, 65535, a * 256 + b, c * 256 + d] = X := by
    rw [hM.is]
    have h1 := byte_back (x := a) (y := b) (by omega)
    have h2 := byte_back (x := c) (y := d) (by omega)
    simp only [addrB, List.flatMap_cons, List.flatMap_nil, List.cons_append, List.nil_append, h1.1, h1.2, h2.1, h2.2]
    rfl
  rw [e2]

set_option maxRecDepth 10000 in
set_option maxHeartbeats 6400000 in
theorem cmaps (a b c d p q r s : Nat) (w : World) (ha : a ≤ 255) (hb : b ≤ 255) (hc : c ≤ 255) (hd : d ≤ 255) (hp : p ≤ 255) (hq : q ≤ 255) (hr : r ≤ 255) (hs : s ≤ 255) (hT : Six w) :
    Calls Tryd.prog 9 #[.agg #[.int .u8 a, .int .u8 b, .int .u8 c, .int .u8 d], .agg #[.int .u8 p, .int .u8 q, .int .u8 r, .int .u8 s]] w fun e w' => e = .returned (.bool true) ∧ Below w.heap.size w w' := by
  have hM := mapped_of ha hb hc hd
  have hN := mapped_of hp hq hr hs
  have hxy : decide (mp ++ [a, b, c, d] = mp ++ [p, q, r, s]) = same4 a b c d p q r s := by
    rw [Bool.eq_iff_iff]
    simp [same4, mp, and_assoc]
    omega
  generalize mp ++ [a, b, c, d] = X at hM hxy
  generalize mp ++ [p, q, r, s] = Y at hN hxy
  have hqXX : ∀ w, (Op.equalIn 10000 37 (.agg (bcells X).toArray) (.agg (bcells X).toArray)).run Tryd.prog w = .ok true w := fun w => by
    have h := same_nat Tryd.underlying37 X X hM.len hM.len w
    rw [decide_eq_true rfl] at h
    exact h
  have hqXY : ∀ w, (Op.equalIn 10000 37 (.agg (bcells X).toArray) (.agg (bcells Y).toArray)).run Tryd.prog w = .ok (same4 a b c d p q r s) w := fun w => by
    have h := same_nat Tryd.underlying37 X Y hM.len hN.len w
    rw [hxy] at h
    exact h
  have hq4 : same4 a b c d a b c d = true := by simp [same4]
  have HM := Lib.hid hM
  have A0 : Hid (ArrV 22 ((w.alloc (.cells #[.int .u8 a, .int .u8 b, .int .u8 c, .int .u8 d] 22)).alloc (.cells #[.int .u8 p, .int .u8 q, .int .u8 r, .int .u8 s] 22)) w.heap.size (bcells [a, b, c, d])) := (ArrV.new _ w _).alloc _
  have A1 : Hid (ArrV 22 ((w.alloc (.cells #[.int .u8 a, .int .u8 b, .int .u8 c, .int .u8 d] 22)).alloc (.cells #[.int .u8 p, .int .u8 q, .int .u8 r, .int .u8 s] 22)) (w.heap.size + 1) (bcells [p, q, r, s])) := by
    have h := ArrV.new 22 (w.alloc (.cells #[.int .u8 a, .int .u8 b, .int .u8 c, .int .u8 d] 22)) (bcells [p, q, r, s])
    rw [World.size_alloc] at h
    exact h
  have B0 : Hid (Below w.heap.size w ((w.alloc (.cells #[.int .u8 a, .int .u8 b, .int .u8 c, .int .u8 d] 22)).alloc (.cells #[.int .u8 p, .int .u8 q, .int .u8 r, .int .u8 s] 22))) := below_pair w _ _
  have HT := Lib.hid (hT.below B0.out)
  have C1 : Hid (∀ w, Pow w → Calls Tryd.prog 16 #[.agg #[.int .u8 a, .int .u8 b, .int .u8 c, .int .u8 d]] w fun e w' => e = .returned (.string (dstr a b c d)) ∧ Below w.heap.size w w') := fun w hT => print_any a b c d w ha hb hc hd hT
  have C2 := Lib.hid (fun w hT => mapped_text ha hb hc hd hM w hT)
  have C3 := Lib.hid hM.unmap
  have C4 := Lib.hid hM.map
  have C5 := Lib.hid hN.map
  have r1 := fun w => run_string_add_sum (P := Tryd.prog) w (⟨#[58, 58, 102, 102, 102, 102, 58]⟩ : ByteArray) (dstr a b c d) (by
    have hl := dtext_len ha hb hc hd
    have h1 : (dstr a b c d).size = (dtext a b c d).length := by simp [dstr, ByteArray.size]
    have h2 : (⟨#[58, 58, 102, 102, 102, 102, 58]⟩ : ByteArray).size = 7 := rfl
    omega)
  have hs16 : (bcells X).length = 16 := by rw [bcells_length, hM.len]
  obtain ⟨x0, x1, x2, x3⟩ := cells4 A0.out
  clear ha hb hc hd hp hq hr hs hT hM hN hxy
  go_enter Tryd.func9, Tryd.ntmps9
  go_wp2_with fail
  refine (C1.out _ HT.out.pow).mono ?_
  rintro e w1 ⟨rfl, b1⟩
  have A0 := Lib.hid (A0.out.below b1)
  have A1 := Lib.hid (A1.out.below b1)
  have HT := Lib.hid (HT.out.below b1)
  have B0 := Lib.hid (below_both B0.out b1)
  clear b1 C1 x0 x1 x2 x3
  go_wp2_with fail
  refine (C2.out _ HT.out).mono ?_
  rintro e w3 ⟨rfl, b3⟩
  obtain ⟨hst, hA, hb⟩ := addr_stored w3 X HM.out.len
  have A0 := Lib.hid ((A0.out.below b3).below hb)
  have A1 := Lib.hid ((A1.out.below b3).below hb)
  have HT := Lib.hid ((HT.out.below b3).below hb)
  have B0 := Lib.hid (below_both (below_both B0.out b3) hb)
  have A4 := Lib.hid hA
  clear b3 C2 hA hb r1
  obtain ⟨g5, e5⟩ : ∃ b, b = w3.heap.size := ⟨_, rfl⟩
  go_upto_region 2 with fail
  clear hst
  rw [← e5] at A4 A0 A1 B0 HT ⊢
  generalize (w3.alloc (.cells #[.int .u8 0, .int .u8 0, .int .u8 0, .int .u8 0, .int .u8 0, .int .u8 0, .int .u8 0, .int .u8 0, .int .u8 0, .int .u8 0, .int .u8 0, .int .u8 0, .int .u8 0, .int .u8 0, .int .u8 0, .int .u8 0] 37)).setCells g5 0 (bcells X) = W4 at *
  clear e5
  refine wp_region_lit ?_
  go_wp2_with (refine wpList_load_v rfl 37 (.tmp 5) rfl _ rfl ty16 A4.out hs16 ?_)
  refine (C3.out _).mono ?_
  rintro e w5 ⟨rfl, b5⟩
  obtain ⟨g7, e7⟩ : ∃ b, b = w5.heap.size := ⟨_, rfl⟩
  have J : Hid (CM w a b c d p q r s X g5 g7 (w5.alloc (.cells #[.int .u8 a, .int .u8 b, .int .u8 c, .int .u8 d] 22))) := by
    rw [e7]
    have h := ((Below.refl w5.heap.size w5).alloc (Nat.le_refl _) (.cells #[.int .u8 a, .int .u8 b, .int .u8 c, .int .u8 d] 22))
    exact ⟨(A0.out.below b5).alloc _, (A1.out.below b5).alloc _, (A4.out.below b5).alloc _, ArrV.new _ w5 _, (HT.out.below b5).below h, below_both (below_both B0.out b5) h⟩
  clear b5 C3 A0 A1 A4 B0 HT
  go_upto_region 3 with fail
  rw [← e7]
  clear e7
  generalize w5.alloc (.cells #[.int .u8 a, .int .u8 b, .int .u8 c, .int .u8 d] 22) = W5 at *
  have J := Lib.hid J.out.drew
  have hload := J.out.cells
  have hu := Tryd.underlying37
  have hi : (Tryd.prog.info? 37).map (·.size) = some (bcells X).length := by rw [hs16]; exact ty16.size
  unfold CMC at hload
  go_region_held3 (fun w' => w'.cell? ⟨w.heap.size, 0, none⟩ = some (.int .u8 a) ∧ w'.cell? ⟨w.heap.size, 1, none⟩ = some (.int .u8 b) ∧ w'.cell? ⟨w.heap.size, 2, none⟩ = some (.int .u8 c) ∧ w'.cell? ⟨w.heap.size, 3, none⟩ = some (.int .u8 d) ∧
      w'.cell? ⟨w.heap.size + 1, 0, none⟩ = some (.int .u8 p) ∧ w'.cell? ⟨w.heap.size + 1, 1, none⟩ = some (.int .u8 q) ∧ w'.cell? ⟨w.heap.size + 1, 2, none⟩ = some (.int .u8 r) ∧ w'.cell? ⟨w.heap.size + 1, 3, none⟩ = some (.int .u8 s) ∧
      w'.cell? ⟨g7, 0, none⟩ = some (.int .u8 a) ∧ w'.cell? ⟨g7, 1, none⟩ = some (.int .u8 b) ∧ w'.cell? ⟨g7, 2, none⟩ = some (.int .u8 c) ∧ w'.cell? ⟨g7, 3, none⟩ = some (.int .u8 d) ∧ w'.rangeAt g5 0 (bcells X))
    (first | exact hload | exact hTwo | go_keep)
    (first
      | (go_at_call 28; refine (live6 _ J.out.lib).mono ?_; rintro e w' ⟨rfl, hb'⟩; have J := Lib.hid (J.out.below hb'); have hTwo := J.out.cells; unfold CMC at hTwo)
      | ((with_reducible refine (C4.out _).mono ?_); rintro e w' ⟨rfl, hb'⟩; have J := Lib.hid (J.out.below hb'); have hTwo := J.out.cells; unfold CMC at hTwo)
      | ((with_reducible refine (C5.out _).mono ?_); rintro e w' ⟨rfl, hb'⟩; have J := Lib.hid (J.out.below hb'); have hTwo := J.out.cells; unfold CMC at hTwo)
      | fail)
  all_goals
    have BB := Lib.hid J.out.bel
    clear hload hTwo
    go_wp2_with fail
    go_ret
    exact ⟨by simp, BB.out⟩
theorem walk_ColonsMaps (zs0 zs1 : List Int) (w : World) (hT : Six w) (hn0 : zs0.length = 4) (hz0 : ∀ z ∈ zs0, (Lit.int .u8 z).wf = true) (hn1 : zs1.length = 4) (hz1 : ∀ z ∈ zs1, (Lit.int .u8 z).wf = true) :
    Calls Tryd.prog 9 #[.agg (zs0.map (Value.int .u8)).toArray, .agg (zs1.map (Value.int .u8)).toArray] w fun e w' => e = .returned (.bool true) ∧ Below w.heap.size w w' := by
  obtain ⟨a, b, c, d, rfl, ha, hb, hc, hd⟩ := four_bytes hn0 hz0
  obtain ⟨p, q, r, s, rfl, hp, hq, hr, hs⟩ := four_bytes hn1 hz1
  exact cmaps a b c d p q r s w ha hb hc hd hp hq hr hs hT
end Go.Proofs.YtdeecobpglfgaaaDoor
