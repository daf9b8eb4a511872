/-
  Seal where Read refuses; the examples of layer 10 come out as they must: the contract of weighbridgelaw10.live.
-/
import Derived.Test.YtmchclpkjjmocaaGreatFh11
import Derived.Test.YtmchclpkjjmocaaGreatFh7
import Derived.Test.YtmchclpkjjmocaaGreatSames
import Derived.Test.YtmchclpkjjmocaaGreatFh4
namespace Go.Proofs.YtmchclpkjjmocaaGreat
open Go.RowKit
set_option linter.unusedVariables false

set_option maxRecDepth 10000 in
set_option maxHeartbeats 3200000 in
theorem fhseal_bad (A : Option Addr) (n c : Nat) (bs : List Nat) (w : World) (hn2 : n ≤ 140737488355328) (hc : n ≤ c) (hR : Row w A n bs) (hd : fhdef n bs ≠ 0) :
    Calls Tryz.prog 25 #[.slice A n c] w fun e w' => e = .returned (.tuple #[.slice none 0 0, .int .i64 3]) ∧ Below w.heap.size w w' := by
  have C := Lib.hid (fhread_any A n c bs w hn2 hc hR)
  unfold ReadIs at C
  obtain ⟨X, hX⟩ : ∃ X, X = fhval n bs := ⟨_, rfl⟩
  have hXl : X.length = 17 := by rw [hX]; exact fhval_len n bs
  have hXo : ∀ v ∈ X, v.oneCell' = true := by rw [hX]; exact fhval_one n bs
  rw [← hX] at C
  obtain ⟨d, hdd⟩ : ∃ d, d = fhdef n bs := ⟨_, rfl⟩
  rw [← hdd] at C hd
  have d0 : ((d : Int) != 0) = true := bne_iff_ne.2 (by omega)
  clear hX hdd hR hn2 hc hd
  go_enter Tryz.func25, Tryz.ntmps25
  go_wp2_with fail
  refine C.out.mono ?_
  rintro e w1 ⟨rfl, b1⟩
  obtain ⟨hst, hA, hb⟩ := four_stored w1 X hXl hXo
  have B1 := Lib.hid (below_both b1 hb)
  clear b1 hA hb
  go_upto_region 2 with fail
  clear hst
  obtain ⟨W, eW⟩ : ∃ W, W = (w1.alloc (.cells #[.int .i64 0, .int .i64 0, .int .i64 0, .int .i64 0, .int .i64 0, .int .i64 0, .int .i64 0, .int .i64 0, .int .i64 0, .int .u8 0, .int .u8 0, .int .u8 0, .int .u8 0, .int .u8 0, .int .u8 0, .int .u8 0, .int .u8 0] 63)).setCells w1.heap.size 0 X := ⟨_, rfl⟩
  rw [← eW] at B1 ⊢
  clear eW
  go_wp2_with fail
  go_ret2
  exact ⟨rfl, B1.out⟩
def H20 : List Nat := [69, 184, 0, 20, 0, 7, 32, 0, 64, 17, 0, 0, 10, 0, 0, 1, 10, 0, 0, 2]
def S20 : List Nat := [69, 184, 0, 20, 0, 7, 32, 0, 64, 17, 70, 24, 10, 0, 0, 1, 10, 0, 0, 2]
theorem seal_H20 : fhseal H20 20 = S20 := by decide
theorem def_H20 : fhdef 20 H20 = 0 := by decide
theorem def_S20 : fhdef 20 S20 = 0 := by decide
def F20 : FourV := ⟨5, 184, 20, 7, 1, 0, 64, 17, 17944, [10, 0, 0, 1], [10, 0, 0, 2]⟩
theorem cells_F20 : fhf S20 = F20.cells := by rfl
theorem bytes_F20 : F20.bytes [] = S20 := by decide
theorem all_H20 : fhall 20 H20 = [9] := by decide
theorem all_S20 : fhall 20 S20 = [] := by decide
def Y24 : List Nat := 70 :: S20.drop 1 ++ [1, 7, 2, 0]
theorem opts_Y24 : fhopts 24 Y24 = some [(1, []), (7, [])] := by decide
theorem fits_F20 : F20.fits := fun k hk => by
  unfold FourV.okAt
  match k, hk with
  | 0, _ => decide
  | 1, _ => decide
  | 2, _ => decide
  | 3, _ => decide
  | 4, _ => decide
  | 5, _ => decide
  | 6, _ => decide
  | 7, _ => decide
  | 8, _ => decide
theorem l10_seal (A : Option Addr) (w : World) (h : Row w A 20 H20) : Calls Tryz.prog 25 #[.slice A 20 20] w fun e w' =>
    ∃ g c, e = .returned (.tuple #[.slice (some ⟨g, 0, none⟩) 20 c, .int .i64 0]) ∧ 20 ≤ c ∧ Row w' (some ⟨g, 0, none⟩) 20 S20 ∧ Below w.heap.size w w' := by
  refine (fhseal_ok A 20 20 H20 w (by decide) (by decide) h def_H20).mono ?_
  rintro e w' ⟨v, rfl, ho, hb⟩
  have e : fhseal H20 (4 * (H20.getD 0 0 % 16)) = S20 := seal_H20
  rw [e] at ho
  obtain ⟨g, c, rfl, _, h1, h2⟩ := ho.block (by decide)
  obtain ⟨A2, c2, e2, h3, h4, h5⟩ := ho.out (by decide)
  cases e2
  exact ⟨g, c, rfl, h1, h5, hb⟩
theorem l10_read (A : Option Addr) (c : Nat) (w : World) (hc : 20 ≤ c) (h : Row w A 20 S20) : Calls Tryz.prog 37 #[.slice A 20 c] w fun e w' => e = .returned (.tuple #[.agg F20.cells.toArray, .int .i64 0]) ∧ Below w.heap.size w w' := by
  refine (fhread_any A 20 c S20 w (by decide) hc h).mono ?_
  rintro e w' ⟨he, hb⟩
  have e1 : fhval 20 S20 = F20.cells := by unfold fhval; rw [if_pos def_S20]; exact cells_F20
  rw [def_S20, e1] at he
  exact ⟨he, hb⟩
theorem l10_short (g c : Nat) (w : World) (hc : 20 ≤ c) (h : Row w (some ⟨g, 0, none⟩) 20 S20) : Calls Tryz.prog 37 #[.slice (some ⟨g, 0, none⟩) 19 c] w fun e w' => e = .returned (.tuple #[.agg fhz.toArray, .int .i64 3]) ∧ Below w.heap.size w w' := by
  have hp := h.part 0 19 (by decide)
  refine (fhread_any (some ⟨g, 0, none⟩) 19 c ((S20.drop 0).take 19) w (by decide) (by omega) hp).mono ?_
  rintro e w' ⟨he, hb⟩
  exact ⟨he, hb⟩
theorem l10_write (w : World) : Calls Tryz.prog 68 #[.agg F20.cells.toArray, .slice none 0 0] w fun e w' =>
    ∃ A c, e = .returned (.tuple #[.slice A 20 c, .int .i64 0]) ∧ ByteVal w' (.slice A 20 c) S20 ∧ Below w.heap.size w w' := by
  refine (fhwrite_any F20 none 0 0 [] w rfl rfl (by decide) (by decide) (by decide) (Row.nil w none)).mono ?_
  rintro e w' ⟨hb, _, _, h⟩
  obtain ⟨v, rfl, ho⟩ := h fits_F20 (by decide)
  rw [bytes_F20] at ho
  obtain ⟨A, c, rfl, h1, _, h3⟩ := ho.out (by decide)
  exact ⟨A, c, rfl, ⟨A, c, rfl, h1, h3⟩, hb⟩
theorem l10_one (A : Option Addr) (w : World) (h : Row w A 20 H20) : Calls Tryz.prog 89 #[.slice A 20 20] w fun e w' =>
    ∃ b o c, e = .returned (.slice (some ⟨b, o, none⟩) 1 c) ∧ b < w'.heap.size ∧ w'.cell? ⟨b, o, none⟩ = some (.int .i64 9) ∧ Below w.heap.size w w' := by
  refine (fhall_any A 20 20 H20 w (by decide) (by decide) h).mono ?_
  rw [all_H20]
  rintro e w' ⟨v, rfl, ⟨A2, c, rfl, h1, h2⟩, hb⟩
  obtain ⟨b, o, rfl, hlt, hc⟩ := h2 0 9 rfl
  exact ⟨b, o, c, rfl, hlt, hc, hb⟩
theorem l10_none (A : Option Addr) (c : Nat) (w : World) (hc : 20 ≤ c) (h : Row w A 20 S20) : Calls Tryz.prog 89 #[.slice A 20 c] w fun e w' =>
    ∃ A2 c2, e = .returned (.slice A2 0 c2) ∧ Below w.heap.size w w' := by
  refine (fhall_any A 20 c S20 w hc (by decide) h).mono ?_
  rw [all_S20]
  rintro e w' ⟨v, rfl, ⟨A2, c, rfl, h1, h2⟩, hb⟩
  exact ⟨A2, c, rfl, hb⟩
theorem l10_nil (w : World) : Calls Tryz.prog 25 #[.slice none 0 0] w fun e w' => e = .returned (.tuple #[.slice none 0 0, .int .i64 3]) ∧ Below w.heap.size w w' :=
  fhseal_bad none 0 0 [] w (by decide) (Nat.le_refl _) (Row.nil w none) (by decide)
theorem l10_opts (A : Option Addr) (c : Nat) (w : World) (hc : 24 ≤ c) (h : Row w A 24 Y24) : Calls Tryz.prog 103 #[.slice A 24 c] w fun e w' =>
    ∃ b o c2, e = .returned (.tuple #[.slice (some ⟨b, o, none⟩) 2 c2, .bool true]) ∧ b < w'.heap.size ∧ w'.cell? ⟨b, o + 2, none⟩ = some (.int .i64 7) ∧ Below w.heap.size w w' := by
  refine (fhoptions_any A 24 c Y24 w hc (by decide) h).mono ?_
  rw [opts_Y24]
  rintro e w' ⟨hb, v, rfl, hE⟩
  obtain ⟨A2, c2, rfl, h1, h2⟩ := hE.read
  obtain ⟨b, o, bv, rfl, hlt, hc, _, _⟩ := h2 1 (7, []) rfl
  exact ⟨b, o, c2, rfl, hlt, hc, hb⟩
theorem cell_keep {w w' : World} {b o : Nat} {v : Value} (h : b < w.heap.size ∧ w.cell? ⟨b, o, none⟩ = some v) (hb : Below w.heap.size w w') : b < w'.heap.size ∧ w'.cell? ⟨b, o, none⟩ = some v :=
  ⟨Nat.lt_of_lt_of_le h.1 hb.size, (hb.cell (p := ⟨b, o, none⟩) h.1).trans h.2⟩
theorem len_Y24 : Y24.length = 24 := rfl
theorem eq4_dst (w : World) : (Op.equalIn 10000 61 (.agg #[.int .u8 10, .int .u8 0, .int .u8 0, .int .u8 2]) (.agg #[.int .u8 10, .int .u8 0, .int .u8 0, .int .u8 2])).run Tryz.prog w = .ok true w := by
  have k := key_a4 0 (a := 10) (b := 0) (c := 0) (e := 2) (by decide) (by decide) (by decide) (by decide)
  obtain ⟨r, hr, hi⟩ := run_equalIn_deep (P := Tryz.prog) 9990 10 61 (by kernel_rfl) w 2 2 (.agg #[.int .u8 10, .int .u8 0, .int .u8 0, .int .u8 2]) (.agg #[.int .u8 10, .int .u8 0, .int .u8 0, .int .u8 2]) _ _ (by kernel_rfl) (by kernel_rfl) k k
  rw [hi.2 rfl] at hr
  exact hr
end Go.Proofs.YtmchclpkjjmocaaGreat
