/-
  The walk of the statement ExtwalkWrites.
-/
import Derived.Test.YtlopmkmcjcijcaaREw5
import Derived.Test.YtlopmkmcjcijcaaEw10
namespace Go.Proofs.Ytlopmkmcjcijcaa
open Go.RowKit
set_option linter.unusedVariables false

/-- It answers bytes and a fault. -/
def WroteIs (L : List Nat) (x y : Nat) (w : World) (e : Ending) (w' : World) : Prop := ∃ v, e = .returned (.tuple #[v, .agg #[.int .i64 (x : Nat), .int .i64 (y : Nat)]]) ∧ ByteVal w' v L ∧ L.length ≤ 9223372036854775807 ∧ Below w.heap.size w w'
theorem exts_bytes {w : World} {v : Value} {M : List (Int × List Nat)} (h : ExtsIn w v M) : ∀ m ∈ M, ∀ x ∈ m.2, x < 256 := fun m hm => by
  obtain ⟨A, c, _, _, hc⟩ := h
  obtain ⟨i, hi, rfl⟩ := List.getElem_of_mem hm
  obtain ⟨_, b, o, bv, _, _, _, _, ⟨A2, c2, _, _, hr⟩⟩ := hc i _ (List.getElem?_eq_getElem hi)
  exact hr.2.1
theorem wrote {w0 : World} {v : Value} {M : List (Int × List Nat)} {proto : Int} {x y : Nat} {L : List Nat} (hM : ExtsIn w0 v M) (hr : exCheck M proto = (x, y)) (hL : L = if x = 0 then exBytes proto M else []) (w : World) : ∀ e w', WriteExt M proto w e w' → WroteIs L x y w e w' := by
  rintro e w' ⟨hb, h1, h2⟩
  rw [hr] at h1 h2
  by_cases hx : x = 0
  · subst hx
    rw [if_pos rfl] at hL
    obtain ⟨v2, rfl, ho⟩ := h2 rfl
    obtain ⟨e0, hp, _, hm⟩ := exCheck_ok (M := M) (proto := proto) (by rw [hr])
    have e0 : (0, y) = (0, 0) := hr.symm.trans e0
    injection e0 with _ e1
    obtain ⟨A, c, rfl, h3, h4, h5⟩ := ho.out (exBytes_byte ⟨hp.1, hp.2.1⟩ hm (exts_bytes hM))
    refine ⟨_, by rw [e1]; rfl, ⟨A, c, by rw [hL], by rw [hL]; exact h3, by rw [hL]; exact h5⟩, by rw [hL]; exact Nat.le_trans h3 (Nat.le_trans h4 (by unfold maxLen; decide)), hb⟩
  · rw [if_neg hx] at hL
    subst hL
    exact ⟨_, h1 hx, ByteVal.nil _, Nat.zero_le _, hb⟩
set_option maxRecDepth 10000 in
set_option maxHeartbeats 6400000 in
theorem walk_ExtwalkWrites (a0 : Option Addr) (len0 cap0 : Nat) (M0 : List (Int × List Nat)) (n1 : Int) (w : World) (hM0 : M0.length = len0) (HX0 : ExtsIn w (.slice a0 len0 cap0) M0) (hn0 : len0 ≤ 140737488351232) (hB0 : ∀ m ∈ M0, (-9223372036854775808 ≤ m.1 ∧ m.1 ≤ 9223372036854775807) ∧ m.2.length ≤ 140737488351232) (lo1 : -9223372036854775808 ≤ n1) (hi1 : n1 ≤ 9223372036854775807) :
    Calls Try.prog 4 #[.slice a0 len0 cap0, .int .i64 n1] w fun e w' => e = .returned (.bool true) ∧ Below w.heap.size w w' := by
  have hl : M0.length ≤ 140737488355328 := by rw [hM0]; omega
  obtain ⟨x, y, hr⟩ : ∃ x y, exCheck M0 n1 = (x, y) := ⟨_, _, rfl⟩
  obtain ⟨L, hL⟩ : ∃ L, L = if x = 0 then exBytes n1 M0 else [] := ⟨_, rfl⟩
  have CW : Hid (∀ W, Below w.heap.size w W → Calls Try.prog 27 #[.slice a0 len0 cap0, .int .i64 n1] W (WroteIs L x y W)) := fun W hW => (exwrite_any _ M0 n1 W (HX0.below hW) hl).mono (wrote HX0 hr hL W)
  have CR : Hid (∀ W, Below w.heap.size w W → Calls Try.prog 28 #[.slice a0 len0 cap0, .int .i64 n1] W (WroteIs L x y W)) := fun W hW => (rexwrite_any _ M0 n1 W (HX0.below hW) hl).mono (wrote HX0 hr hL W)
  unfold WroteIs at CW CR
  have xx : ((x : Int) == (x : Int)) = true := by simp
  have yy : ((y : Int) == (y : Int)) = true := by simp
  clear hr hL hM0 HX0 hn0 hB0 lo1 hi1 hl
  go_enter Try.func4, Try.ntmps4
  go_wp2_with fail
  refine (CW.out _ (Below.refl _ _)).mono ?_
  rintro e w1 ⟨v1, rfl, r1, hl1, b1⟩
  have HL := Lib.hid hl1
  go_upto_region 2 with fail
  obtain ⟨V1, e1⟩ : ∃ V, V = w1.alloc (.cells #[.int .i64 (x : Nat), .int .i64 (y : Nat)] 39) := ⟨_, rfl⟩
  have hA1 : ArrV 39 V1 w1.heap.size [.int .i64 (x : Nat), .int .i64 (y : Nat)] := by rw [e1]; exact ArrV.new _ w1 _
  have hb1 : Below w1.heap.size w1 V1 := by rw [e1]; exact (Below.refl _ _).alloc (Nat.le_refl _) _
  have R1 := Lib.hid (r1.below hb1)
  have B1 := Lib.hid (below_both b1 hb1)
  have A1 := Lib.hid hA1
  rw [← e1]
  obtain ⟨g1, hg1⟩ : ∃ g, g = w1.heap.size := ⟨_, rfl⟩
  rw [← hg1] at A1 ⊢
  clear e1 hA1 hb1 r1 b1 hl1 hg1
  go_wp2_with fail
  refine (CR.out _ B1.out).mono ?_
  rintro e w2 ⟨v2, rfl, r2, _, b2⟩
  go_upto_region 3 with fail
  obtain ⟨V2, e2⟩ : ∃ V, V = w2.alloc (.cells #[.int .i64 (x : Nat), .int .i64 (y : Nat)] 39) := ⟨_, rfl⟩
  have hA2 : ArrV 39 V2 w2.heap.size [.int .i64 (x : Nat), .int .i64 (y : Nat)] := by rw [e2]; exact ArrV.new _ w2 _
  have hb2 : Below w2.heap.size w2 V2 := by rw [e2]; exact (Below.refl _ _).alloc (Nat.le_refl _) _
  have hbb := below_both b2 hb2
  have R1 := Lib.hid (R1.out.below hbb)
  have A1 := Lib.hid (A1.out.below hbb)
  have R2 := Lib.hid (r2.below hb2)
  have B2 := Lib.hid (below_both B1.out hbb)
  have A2 := Lib.hid hA2
  rw [← e2]
  obtain ⟨g2, hg2⟩ : ∃ g, g = w2.heap.size := ⟨_, rfl⟩
  rw [← hg2] at A2 ⊢
  clear e2 hA2 hb2 hbb r2 b2 hg2 B1
  go_wp2_with fail
  refine (live11 _).mono ?_
  rintro e w3 ⟨rfl, b3⟩
  have R1 := Lib.hid (R1.out.below b3)
  have R2 := Lib.hid (R2.out.below b3)
  have A1 := Lib.hid (A1.out.below b3)
  have A2 := Lib.hid (A2.out.below b3)
  have B3 := Lib.hid (below_both B2.out b3)
  clear b3 B2
  go_wp2_with fail
  refine (same_vals _ _ L _ HL.out R1.out R2.out).mono ?_
  rintro e w4 ⟨rfl, b4⟩
  have a1 := A1.out.below b4
  have a2 := A2.out.below b4
  have c0 := a1.get 0
  have c1 := a1.get 1
  have d0 := a2.get 0
  have d1 := a2.get 1
  simp at c0 c1 d0 d1
  have B4 := Lib.hid (below_both B3.out b4)
  clear b4 B3 a1 a2 R1 R2 A1 A2
  go_wp2_with fail
  go_ret
  exact ⟨rfl, B4.out⟩
end Go.Proofs.Ytlopmkmcjcijcaa
