/-
  packet: Parse, All, Point, Key, Name.
  packet: Point, Key, Name.
  packet: Key.
  What must be of packets, whatever is asked (live of layer 14).
-/
import Derived.Test.YtmchclpkjjmocaaGreatPk7
import Derived.Test.YtmchclpkjjmocaaGreatRFh4
namespace Go.Proofs.YtmchclpkjjmocaaGreat
open Go.RowKit
set_option linter.unusedVariables false
set_option maxRecDepth 8000

def pkHead (n : Nat) (bs : List Nat) : List Value := if pkDefs n bs = [] then hdCells (pkRec bs) (pkRec bs).has ((pkRec bs).ports bs).1 ((pkRec bs).ports bs).2.1 else hdCells RZ false 0 0
def pkKey (n : Nat) (bs : List Nat) : List Value := if pkDefs n bs = [] then kyCells (pkRec bs) (pkRec bs).has ((pkRec bs).ports bs).1 ((pkRec bs).ports bs).2.1 else kyCells RZ false 0 0
def pkPoint (n : Nat) (bs : List Nat) : Value := if pkDefs n bs = [] then .tuple #[.int .i64 ((pkRec bs).field / 4 : Nat), .int .i64 ((pkRec bs).field % 4 : Nat), .bool true] else .tuple #[.int .i64 0, .int .i64 0, .bool false]
theorem trCells_head (r : PkRec) (has : Bool) (x y : Nat) (pv : Value) : trCells r has x y pv = hdCells r has x y ++ [.int .u8 (r.field : Nat), pv] := by
  unfold trCells hdCells trTail hdTail
  simp
theorem trZ_head : trZ = hdCells RZ false 0 0 ++ [.int .u8 0, .slice none 0 0] := rfl
theorem pkCells_head (A : Option Addr) (c n : Nat) (bs : List Nat) : ∃ f pv, pkCells A c n bs = pkHead n bs ++ [.int .u8 (f : Nat), pv] ∧ (pkDefs n bs = [] → f = (pkRec bs).field) := by
  unfold pkCells pkHead
  split
  · exact ⟨_, _, trCells_head _ _ _ _ _, fun _ => rfl⟩
  · exact ⟨0, .slice none 0 0, trZ_head, fun h => absurd h (by assumption)⟩
theorem pkHead_all {n : Nat} {bs : List Nat} (hl : bs.length = n) (hb : ∀ x ∈ bs, x < 256) : (pkHead n bs).length = 40 ∧ ∀ v ∈ pkHead n bs, v.oneCell' = true := by
  unfold pkHead
  split
  · exact hdCells_all (pkRec_ok hl hb (pkHeads_nil (by assumption)))
  · exact hdCells_all rz_ok
theorem pkKey_all {n : Nat} {bs : List Nat} (hl : bs.length = n) (hb : ∀ x ∈ bs, x < 256) : (pkKey n bs).length = 38 ∧ ∀ v ∈ pkKey n bs, v.oneCell' = true := by
  unfold pkKey
  split
  · exact kyCells_all (pkRec_ok hl hb (pkHeads_nil (by assumption)))
  · exact kyCells_all rz_ok
theorem part_front {H T : List Value} : ∀ (j : Nat) v, H[j]? = some v → (H ++ T)[0 + j]? = some v := fun j v hv => by
  rw [Nat.zero_add, List.getElem?_append_left (List.getElem?_eq_some_iff.1 hv).1]
  exact hv
theorem hd_lit : (#[.int .i64 0, .int .u8 0, .int .u8 0, .int .u8 0, .int .u8 0, .int .u8 0, .int .u8 0, .int .u8 0, .int .u8 0, .int .u8 0, .int .u8 0, .int .u8 0, .int .u8 0, .int .u8 0, .int .u8 0, .int .u8 0, .int .u8 0, .int .u8 0, .int .u8 0, .int .u8 0, .int .u8 0, .int .u8 0, .int .u8 0, .int .u8 0, .int .u8 0, .int .u8 0, .int .u8 0, .int .u8 0, .int .u8 0, .int .u8 0, .int .u8 0, .int .u8 0, .int .u8 0, .int .i64 0, .int .i64 0, .int .i64 0, .int .i64 0, .bool false, .int .i64 0, .int .i64 0] : Array Value) = (hdCells RZ false 0 0).toArray := rfl
theorem ky_lit : (#[.int .i64 0, .int .u8 0, .int .u8 0, .int .u8 0, .int .u8 0, .int .u8 0, .int .u8 0, .int .u8 0, .int .u8 0, .int .u8 0, .int .u8 0, .int .u8 0, .int .u8 0, .int .u8 0, .int .u8 0, .int .u8 0, .int .u8 0, .int .u8 0, .int .u8 0, .int .u8 0, .int .u8 0, .int .u8 0, .int .u8 0, .int .u8 0, .int .u8 0, .int .u8 0, .int .u8 0, .int .u8 0, .int .u8 0, .int .u8 0, .int .u8 0, .int .u8 0, .int .u8 0, .int .i64 0, .int .i64 0, .bool false, .int .i64 0, .int .i64 0] : Array Value) = (kyCells RZ false 0 0).toArray := rfl
/-- A variable that is laid, and what is stored in it. -/
theorem ArrV.laid (t : TypeId) (W : World) (Z X : List Value) (h : X.length = Z.length) : ArrV t ((W.alloc (.cells Z.toArray t)).setCells W.heap.size 0 X) W.heap.size X ∧ Below W.heap.size W ((W.alloc (.cells Z.toArray t)).setCells W.heap.size 0 X) :=
  ⟨(ArrV.new t W Z).store X h, setCells_below _ (Nat.le_refl _) _ _ _ ((Below.refl _ _).alloc (Nat.le_refl _) _)⟩
set_option maxHeartbeats 3200000 in
theorem pkparse_any (A : Option Addr) (n c : Nat) (bs : List Nat) (w : World) (hn2 : n ≤ 140737488351232) (hc : n ≤ c) (hR : Row w A n bs) :
    Calls Tryz.prog 12 #[.slice A n c] w fun e w' => e = .returned (.tuple #[.agg (pkHead n bs).toArray, .int .i64 (pkTold n bs : Nat)]) ∧ Below w.heap.size w w' := by
  obtain ⟨Z, hZ⟩ : ∃ Z, Z = trZ := ⟨_, rfl⟩
  obtain ⟨hZl, hZo⟩ := trZ_all
  have hlit := tr_lit
  have hlit2 := hd_lit
  obtain ⟨Y, hY⟩ : ∃ Y, Y = hdCells RZ false 0 0 := ⟨_, rfl⟩
  have hYl : Y.length = 40 := by rw [hY]; rfl
  rw [← hY] at hlit2
  rw [← hZ] at hZl hZo hlit
  obtain ⟨Xl, Xo⟩ := pkCells_all (A := A) (c := c) hR.1
  obtain ⟨Hl, Ho⟩ := pkHead_all hR.1 hR.2.1
  have CV : Hid (∀ W, Below w.heap.size w W → Calls Tryz.prog 23 #[.slice A n c] W fun e w' => e = .returned (.tuple #[.agg (pkCells A c n bs).toArray, .int .i64 (pkTold n bs : Nat)]) ∧ Below W.heap.size W w') := fun W h => pksound_any A n c bs W hn2 hc (hR.below h)
  obtain ⟨f, pv, hXe, _⟩ := pkCells_head A c n bs
  obtain ⟨X, hX⟩ : ∃ X, X = pkCells A c n bs := ⟨_, rfl⟩
  obtain ⟨H, hH⟩ : ∃ H, H = pkHead n bs := ⟨_, rfl⟩
  obtain ⟨d, hd⟩ : ∃ d, d = pkTold n bs := ⟨_, rfl⟩
  rw [← hX, ← hd] at CV
  rw [← hX] at Xl Xo
  rw [← hX, ← hH] at hXe
  rw [← hH] at Hl Ho ⊢
  rw [← hd] at ⊢
  obtain ⟨V, e0⟩ : ∃ V, V = w.alloc (.cells Y.toArray 37) := ⟨_, rfl⟩
  have HA : Hid (ArrV 37 V w.heap.size Y) := by show ArrV _ _ _ _; rw [e0]; exact ArrV.new _ w Y
  have HB : Hid (Below w.heap.size w V) := by show Below _ _ _; rw [e0]; exact (Below.refl _ _).alloc (Nat.le_refl _) _
  obtain ⟨g2, hg2⟩ : ∃ g, g = w.heap.size := ⟨_, rfl⟩
  have HG2 := Lib.hid hg2
  rw [← hg2] at HA
  have HP : Hid (∀ (j : Nat) v, H[j]? = some v → X[0 + j]? = some v) := by rw [hXe]; exact part_front
  clear hX hH hd hR hn2 hc hZ hY hg2 hXe
  go_enter Tryz.func12, Tryz.ntmps12
  go_upto_region 1 with fail
  rw [← e0, ← HG2.out]
  clear e0 hlit2
  go_wp2_with fail
  refine (CV.out _ HB.out).mono ?_
  rintro e w1 ⟨rfl, b1⟩
  have A1 := Lib.hid (HA.out.below b1)
  have B1 := Lib.hid (below_both HB.out b1)
  clear b1
  go_upto_region 2 with (first | refine wpList_store_v rfl 52 (.tmp 4) (.tmp 9) rfl _ rfl tytr (ArrV.new _ _ Z) hZl X Xl Xo rfl ?_ | fail)
  obtain ⟨V4, e4⟩ : ∃ V, V = (w1.alloc (.cells Z.toArray 52)).setCells w1.heap.size 0 X := ⟨_, rfl⟩
  obtain ⟨x4, hb4⟩ := ArrV.laid 52 w1 Z X (by rw [Xl, hZl])
  rw [← e4] at x4 hb4
  have X4 := Lib.hid x4
  rw [← e4]
  obtain ⟨g4, hg4⟩ : ∃ g, g = w1.heap.size := ⟨_, rfl⟩
  have A4 := Lib.hid (A1.out.below hb4)
  have B4 := Lib.hid (below_both B1.out hb4)
  rw [← hg4] at X4 ⊢
  clear e4 hb4 x4 A1 B1 hg4
  go_wp2_with (first | refine wpList_load_part rfl 37 (.tmp 11) rfl _ 0 rfl tyhead X4.out HP.out Hl ?_ | refine wpList_store_v rfl 37 (.tmp 2) (.tmp 12) rfl _ rfl tyhead A4.out hYl H Hl Ho rfl ?_ | fail)
  have HS := A4.out.store H (by rw [Hl, hYl])
  exact bodyPost_ret (v := .tuple #[.agg H.toArray, .int .i64 (d : Nat)]) (res_cell_tmp Tryz.results12 rfl (HS.loadVar tyhead Hl) rfl) rfl ⟨rfl, setCells_below g2 (by rw [HG2.out]; exact Nat.le_refl _) _ _ _ B4.out⟩
end Go.Proofs.YtmchclpkjjmocaaGreat

namespace Go.Proofs.YtmchclpkjjmocaaGreat
open Go.RowKit
set_option linter.unusedVariables false
set_option maxRecDepth 8000

theorem pkTold_zero {n : Nat} {bs : List Nat} : pkTold n bs = 0 ↔ pkDefs n bs = [] := by
  constructor
  · intro h
    cases hD : pkDefs n bs with
    | nil => rfl
    | cons d l =>
      have h1 := (pkDefs_asc n bs).2 d (by rw [hD]; exact List.mem_cons_self)
      unfold pkTold at h
      rw [hD] at h
      change d = 0 at h
      omega
  · exact pkTold_nil
set_option maxHeartbeats 3200000 in
theorem pkpoint_any (A : Option Addr) (n c : Nat) (bs : List Nat) (w : World) (hn2 : n ≤ 140737488351232) (hc : n ≤ c) (hR : Row w A n bs) :
    Calls Tryz.prog 21 #[.slice A n c] w fun e w' => e = .returned (pkPoint n bs) ∧ Below w.heap.size w w' := by
  obtain ⟨Z, hZ⟩ : ∃ Z, Z = trZ := ⟨_, rfl⟩
  obtain ⟨hZl, hZo⟩ := trZ_all
  have hlit := tr_lit
  rw [← hZ] at hZl hZo hlit
  obtain ⟨Xl, Xo⟩ := pkCells_all (A := A) (c := c) hR.1
  have CV : Hid (∀ W, Row W A n bs → Calls Tryz.prog 23 #[.slice A n c] W fun e w' => e = .returned (.tuple #[.agg (pkCells A c n bs).toArray, .int .i64 (pkTold n bs : Nat)]) ∧ Below W.heap.size W w') := fun W h => pksound_any A n c bs W hn2 hc h
  obtain ⟨f, pv, hXe, hf⟩ := pkCells_head A c n bs
  obtain ⟨Hl, _⟩ := pkHead_all hR.1 hR.2.1
  have h40 : (pkCells A c n bs)[40]? = some (.int .u8 (f : Nat)) := by
    rw [hXe, List.getElem?_append_right (by omega), Hl]
    rfl
  have hfld : pkDefs n bs = [] → f ≤ 255 := fun h => by rw [hf h]; exact (pkRec_ok hR.1 hR.2.1 (pkHeads_nil h)).field
  have HR := Lib.hid hR
  have hres : (pkTold n bs = 0 → pkPoint n bs = .tuple #[.int .i64 (f / 4 : Nat), .int .i64 (f % 4 : Nat), .bool true] ∧ f ≤ 255) ∧ (pkTold n bs ≠ 0 → pkPoint n bs = .tuple #[.int .i64 0, .int .i64 0, .bool false]) := by
    constructor
    · intro h
      have hD := pkTold_zero.1 h
      refine ⟨?_, hfld hD⟩
      unfold pkPoint
      rw [if_pos hD, hf hD]
    · intro h
      unfold pkPoint
      rw [if_neg (fun g => h (pkTold_zero.2 g))]
  obtain ⟨X, hX⟩ : ∃ X, X = pkCells A c n bs := ⟨_, rfl⟩
  obtain ⟨d, hd⟩ : ∃ d, d = pkTold n bs := ⟨_, rfl⟩
  rw [← hX, ← hd] at CV
  rw [← hX] at Xl Xo h40
  rw [← hd] at hres
  have H40 := Lib.hid h40
  obtain ⟨r0, r1⟩ := hres
  clear hX hd hR hn2 hc hZ hXe hf Hl hfld h40
  by_cases hd0 : d = 0
  · obtain ⟨hr, hfl⟩ := r0 hd0
    rw [hr]
    subst hd0
    have CS := Lib.hid (fun w => ptsplit_any f w hfl)
    clear r0 r1 hr hfl
    go_enter Tryz.func21, Tryz.ntmps21
    go_wp2_with fail
    refine (CV.out _ HR.out).mono ?_
    rintro e w1 ⟨rfl, b1⟩
    have B1 := Lib.hid b1
    clear b1
    go_upto_region 2 with (first | refine wpList_store_v rfl 52 (.tmp 5) (.tmp 12) rfl _ rfl tytr (ArrV.new _ _ Z) hZl X Xl Xo rfl ?_ | fail)
    obtain ⟨V4, e4⟩ : ∃ V, V = (w1.alloc (.cells Z.toArray 52)).setCells w1.heap.size 0 X := ⟨_, rfl⟩
    obtain ⟨x4, hb4⟩ := ArrV.laid 52 w1 Z X (by rw [Xl, hZl])
    rw [← e4] at x4 hb4
    have c40 := (x4.get 40).trans H40.out
    rw [← e4]
    obtain ⟨g4, hg4⟩ : ∃ g, g = w1.heap.size := ⟨_, rfl⟩
    have B4 := Lib.hid (below_both B1.out hb4)
    rw [← hg4] at c40 ⊢
    clear e4 hb4 x4 B1 hg4
    go_wp2_with fail
    refine (CS.out _).mono ?_
    rintro e w' ⟨rfl, rfl⟩
    go_wp2_with fail
    go_ret3
    exact ⟨rfl, B4.out⟩
  · rw [r1 hd0]
    have db : ((d : Int) != 0) = true := bne_iff_ne.2 (by omega)
    clear r0 r1 hd0
    go_enter Tryz.func21, Tryz.ntmps21
    go_wp2_with fail
    refine (CV.out _ HR.out).mono ?_
    rintro e w1 ⟨rfl, b1⟩
    have B1 := Lib.hid b1
    clear b1
    go_upto_region 2 with (first | refine wpList_store_v rfl 52 (.tmp 5) (.tmp 12) rfl _ rfl tytr (ArrV.new _ _ Z) hZl X Xl Xo rfl ?_ | fail)
    obtain ⟨V4, e4⟩ : ∃ V, V = (w1.alloc (.cells Z.toArray 52)).setCells w1.heap.size 0 X := ⟨_, rfl⟩
    obtain ⟨x4, hb4⟩ := ArrV.laid 52 w1 Z X (by rw [Xl, hZl])
    rw [← e4] at x4 hb4
    rw [← e4]
    have B4 := Lib.hid (below_both B1.out hb4)
    clear e4 hb4 x4 B1
    go_wp2_with fail
    go_ret3
    exact ⟨rfl, B4.out⟩
/-- The names of what is wrong. -/
def pkNames : List ByteArray := [⟨#[115, 111, 117, 110, 100]⟩, ⟨#[101, 109, 112, 116, 121]⟩, ⟨#[118, 101, 114, 115, 105, 111, 110]⟩, ⟨#[115, 104, 111, 114, 116]⟩, ⟨#[105, 104, 108]⟩, ⟨#[104, 101, 97, 100]⟩, ⟨#[116, 111, 116, 97, 108]⟩, ⟨#[99, 117, 116]⟩, ⟨#[111, 112, 116, 105, 111, 110]⟩, ⟨#[115, 117, 109]⟩, ⟨#[101, 120, 116]⟩, ⟨#[104, 111, 112]⟩, ⟨#[109, 97, 110, 121]⟩, ⟨#[116, 119, 105, 99, 101]⟩, ⟨#[101, 110, 100]⟩, ⟨#[112, 111, 114, 116, 115]⟩, ⟨#[100, 97, 116, 97]⟩]
def pkName (d : Int) : ByteArray := if 0 ≤ d ∧ d < 17 then pkNames.getD d.toNat ⟨#[]⟩ else ⟨#[]⟩
theorem pknames_lit : (#[.string ⟨#[115, 111, 117, 110, 100]⟩, .string ⟨#[101, 109, 112, 116, 121]⟩, .string ⟨#[118, 101, 114, 115, 105, 111, 110]⟩, .string ⟨#[115, 104, 111, 114, 116]⟩, .string ⟨#[105, 104, 108]⟩, .string ⟨#[104, 101, 97, 100]⟩, .string ⟨#[116, 111, 116, 97, 108]⟩, .string ⟨#[99, 117, 116]⟩, .string ⟨#[111, 112, 116, 105, 111, 110]⟩, .string ⟨#[115, 117, 109]⟩, .string ⟨#[101, 120, 116]⟩, .string ⟨#[104, 111, 112]⟩, .string ⟨#[109, 97, 110, 121]⟩, .string ⟨#[116, 119, 105, 99, 101]⟩, .string ⟨#[101, 110, 100]⟩, .string ⟨#[112, 111, 114, 116, 115]⟩, .string ⟨#[100, 97, 116, 97]⟩] : Array Value) = (pkNames.map Value.string).toArray := rfl
theorem pkNames_at {i : Nat} (h : i < 17) : (pkNames.map Value.string)[i]? = some (.string (pkNames.getD i ⟨#[]⟩)) := by
  rw [List.getElem?_map, List.getD_eq_getElem?_getD, List.getElem?_eq_getElem (by exact h)]
  rfl
end Go.Proofs.YtmchclpkjjmocaaGreat

namespace Go.Proofs.YtmchclpkjjmocaaGreat
open Go.RowKit
set_option linter.unusedVariables false
set_option maxRecDepth 8000

theorem sixteenV {l : List Value} (h : l.length = 16) : ∃ s0 s1 s2 s3 s4 s5 s6 s7 s8 s9 s10 s11 s12 s13 s14 s15, l = [s0, s1, s2, s3, s4, s5, s6, s7, s8, s9, s10, s11, s12, s13, s14, s15] := by
  match l, h with
  | [s0, s1, s2, s3, s4, s5, s6, s7, s8, s9, s10, s11, s12, s13, s14, s15], _ => exact ⟨s0, s1, s2, s3, s4, s5, s6, s7, s8, s9, s10, s11, s12, s13, s14, s15, rfl⟩
end Go.Proofs.YtmchclpkjjmocaaGreat

namespace Go.Proofs.YtmchclpkjjmocaaGreat
open Go.RowKit
set_option linter.unusedVariables false

def B31 : List Nat := [69, 184, 0, 30, 0, 7, 0, 0, 64, 17, 0, 0, 10, 0, 0, 1, 10, 0, 0, 2, 0, 53, 4, 1, 0, 10, 0, 0, 1, 2, 255]
def S31 : List Nat := fhseal B31 20
theorem b31_byte : ∀ x ∈ B31, x < 256 := by decide
theorem s31_byte : ∀ x ∈ S31, x < 256 := by decide +kernel
theorem s31_len : S31.length = 31 := by decide +kernel
theorem b31_def : fhdef 31 B31 = 0 := by decide +kernel
theorem b31_bad : pkDefs 31 B31 = [9] := by decide +kernel
theorem s31_good : pkDefs 31 S31 = [] := by decide +kernel
theorem s31_head : pkHead 31 S31 = [.int .i64 4, .int .u8 10, .int .u8 0, .int .u8 0, .int .u8 1, .int .u8 0, .int .u8 0, .int .u8 0, .int .u8 0, .int .u8 0, .int .u8 0, .int .u8 0, .int .u8 0, .int .u8 0, .int .u8 0, .int .u8 0, .int .u8 0, .int .u8 10, .int .u8 0, .int .u8 0, .int .u8 2, .int .u8 0, .int .u8 0, .int .u8 0, .int .u8 0, .int .u8 0, .int .u8 0, .int .u8 0, .int .u8 0, .int .u8 0, .int .u8 0, .int .u8 0, .int .u8 0, .int .i64 17, .int .i64 30, .int .i64 20, .int .i64 0, .bool true, .int .i64 53, .int .i64 1025] := by
  unfold pkHead
  rw [if_pos s31_good]
  kernel_rfl
theorem s31_key : pkKey 31 S31 = [.int .i64 4, .int .u8 10, .int .u8 0, .int .u8 0, .int .u8 1, .int .u8 0, .int .u8 0, .int .u8 0, .int .u8 0, .int .u8 0, .int .u8 0, .int .u8 0, .int .u8 0, .int .u8 0, .int .u8 0, .int .u8 0, .int .u8 0, .int .u8 10, .int .u8 0, .int .u8 0, .int .u8 2, .int .u8 0, .int .u8 0, .int .u8 0, .int .u8 0, .int .u8 0, .int .u8 0, .int .u8 0, .int .u8 0, .int .u8 0, .int .u8 0, .int .u8 0, .int .u8 0, .int .i64 17, .int .i64 46, .bool true, .int .i64 53, .int .i64 1025] := by
  unfold pkKey
  rw [if_pos s31_good]
  kernel_rfl
theorem s31_field : (pkRec S31).field = 184 := by decide +kernel
theorem s31_point : pkPoint 31 S31 = .tuple #[.int .i64 46, .int .i64 0, .bool true] := by
  unfold pkPoint
  rw [if_pos s31_good, s31_field]
  rfl
theorem s31_ok : (pkRec S31).Ok ((pkRec S31).ports S31).1 ((pkRec S31).ports S31).2.1 := pkRec_ok s31_len s31_byte (pkHeads_nil s31_good)
theorem b16_all : pkDefs 1 [16] = [2] := by decide +kernel
theorem b31_lit : (#[.int .u8 69, .int .u8 184, .int .u8 0, .int .u8 30, .int .u8 0, .int .u8 7, .int .u8 0, .int .u8 0, .int .u8 64, .int .u8 17, .int .u8 0, .int .u8 0, .int .u8 10, .int .u8 0, .int .u8 0, .int .u8 1, .int .u8 10, .int .u8 0, .int .u8 0, .int .u8 2, .int .u8 0, .int .u8 53, .int .u8 4, .int .u8 1, .int .u8 0, .int .u8 10, .int .u8 0, .int .u8 0, .int .u8 1, .int .u8 2, .int .u8 255] : Array Value) = (bcells B31).toArray := rfl
theorem name_sum : pkName 9 = ⟨#[115, 117, 109]⟩ := rfl
theorem name_no : pkName 99 = ⟨#[]⟩ := rfl
end Go.Proofs.YtmchclpkjjmocaaGreat
