/-
  packet: Parse, All, Point, Key, Name.
  packet: Point, Key, Name.
  packet: Key.
  What must be of packets, whatever is asked (live of layer 14).
-/
import Derived.Test.YtcjaidpmfjnhpaaPk7
import Derived.Test.YtcjaidpmfjnhpaaRFh4
namespace Go.Proofs.Ytcjaidpmfjnhpaa
open Go.RowKit
set_option linter.unusedVariables false
set_option maxRecDepth 8000

def pkHead (n : Nat) (bs : List Nat) : List Value := if pkDefs n bs = [] then hdCells (pkRec bs) (pkRec bs).has ((pkRec bs).ports bs).1 ((pkRec bs).ports bs).2.1 else hdCells RZ false 0 0
def pkKey (n : Nat) (bs : List Nat) : List Value := if pkDefs n bs = [] then kyCells (pkRec bs) (pkRec bs).has ((pkRec bs).ports bs).1 ((pkRec bs).ports bs).2.1 else kyCells RZ false 0 0
def pkPoint (n : Nat) (bs : List Nat) : Value := if pkDefs n bs = [] then .tuple #[.int .i64 ((pkRec bs).field / 4 : Nat), .int .i64 ((pkRec bs).field % 4 : Nat), .bool true] else .tuple #[.int .i64 0, .int .i64 0, .bool false]
theorem trCells_head (r : PkRec) (has : Bool) (x y : Nat) (pv : Value) : trCells r has x y pv = hdCells r has x y ++ [.int .u8 (r.field : Nat), pv] := by
  unfold trCells hdCells trTail hdTail
  simp
theorem trZ_head : trZ = hdCells RZ false 0 0 ++ [.int .u8 0, .slice none 0 0] := rfl
theorem pkCells_head (A : Option Addr) (c n : Nat) (bs : List Nat) : ∃ f pv, pkCells A c n bs = pkHead n bs ++ [.int .u8 (f : Nat), pv] ∧ (pkDefs n bs = [] → f = (pkRec bs).field) := by
  unfold pkCells pkHead
  split
  · exact ⟨_, _, trCells_head _ _ _ _ _, fun _ => rfl⟩
  · exact ⟨0, .slice none 0 0, trZ_head, fun h => absurd h (by assumption)⟩
theorem pkHead_all {n : Nat} {bs : List Nat} (hl : bs.length = n) (hb : ∀ x ∈ bs, x < 256) : (pkHead n bs).length = 40 ∧ ∀ v ∈ pkHead n bs, v.oneCell' = true := by
  unfold pkHead
  split
  · exact hdCells_all (pkRec_ok hl hb (pkHeads_nil (by assumption)))
  · exact hdCells_all rz_ok
theorem pkKey_all {n : Nat} {bs : List Nat} (hl : bs.length = n) (hb : ∀ x ∈ bs, x < 256) : (pkKey n bs).length = 38 ∧ ∀ v ∈ pkKey n bs, v.oneCell' = true := by
  unfold pkKey
  split
  · exact kyCells_all (pkRec_ok hl hb (pkHeads_nil (by assumption)))
  · exact kyCells_all rz_ok
theorem part_front {H T : List Value} : ∀ (j : Nat) v, H[j]? = some v → (H ++ T)[0 + j]? = some v := fun j v hv => by
  rw [Nat.zero_add, List.getElem?_append_left (List.getElem?_eq_some_iff.1 hv).1]
  exact hv
theorem hd_lit : (#[.int .i64 0, .int .u8 0, .int .u8 0, .int .u8 0, .int .u8 0, .int .u8 0, .int .u8 0, .int .u8 0, .int .u8 0, .int .u8 0, .int .u8 0, .int .u8 0, .int .u8 0, .int .u8 0, .int .u8 0, .int .u8 0, .int .u8 0, .int .u8 0, .int .u8 0, .int .u8 0, .int .u8 0, .int .u8 0, .int .u8 0, .int .u8 0, .int .u8 0, .int .u8 0, .int .u8 0, .int .u8 0, .int .u8 0, .int .u8 0, .int .u8 0, .int .u8 0, .int .u8 0, .int .i64 0, .int .i64 0, .int .i64 0, .int .i64 0, .bool false, .int .i64 0, .int .i64 0] : Array Value) = (hdCells RZ false 0 0).toArray := rfl
theorem ky_lit : (#[.int .i64 0, .int .u8 0, .int .u8 0, .int .u8 0, .int .u8 0, .int .u8 0, .int .u8 0, .int .u8 0, .int .u8 0, .int .u8 0, .int .u8 0, .int .u8 0, .int .u8 0, .int .u8 0, .int .u8 0, .int .u8 0, .int .u8 0, .int .u8 0, .int .u8 0, .int .u8 0, .int .u8 0, .int .u8 0, .int .u8 0, .int .u8 0, .int .u8 0, .int .u8 0, .int .u8 0, .int .u8 0, .int .u8 0, .int .u8 0, .int .u8 0, .int .u8 0, .int .u8 0, .int .i64 0, .int .i64 0, .bool false, .int .i64 0, .int .i64 0] : Array Value) = (kyCells RZ false 0 0).toArray := rfl
/-- A variable that is laid, and what is stored in it. -/
theorem ArrV.laid (t : TypeId) (W : World) (Z X : List Value) (h : X.length = Z.length) : ArrV t ((W.alloc (.cells Z.toArray t)).setCells W.heap.size 0 X) W.heap.size X ∧ Below W.heap.size W ((W.alloc (.cells Z.toArray t)).setCells W.heap.size 0 X) :=
  ⟨(ArrV.new t W Z).store X h, setCells_below _ (Nat.le_refl _) _ _ _ ((Below.refl _ _).alloc (Nat.le_refl _) _)⟩
set_option maxHeartbeats 3200000 in
theorem pkparse_any (A : Option Addr) (n c : Nat) (bs : List Nat) (w : World) (hn2 : n ≤ 140737488351232) (hc : n ≤ c) (hR : Row w A n bs) :
    Calls Try.prog 5 #[.slice A n c] w fun e w' => e = .returned (.tuple #[.agg (pkHead n bs).toArray, .int .i64 (pkTold n bs : Nat)]) ∧ Below w.heap.size w w' := by
  obtain ⟨Z, hZ⟩ : ∃ Z, Z = trZ := ⟨_, rfl⟩
  obtain ⟨hZl, hZo⟩ := trZ_all
  have hlit := tr_lit
  have hlit2 := hd_lit
  obtain ⟨Y, hY⟩ : ∃ Y, Y = hdCells RZ false 0 0 := ⟨_, rfl⟩
  have hYl : Y.length = 40 := by rw [hY]; rfl
  rw [← hY] at hlit2
  rw [← hZ] at hZl hZo hlit
  obtain ⟨Xl, Xo⟩ := pkCells_all (A := A) (c := c) hR.1
  obtain ⟨Hl, Ho⟩ := pkHead_all hR.1 hR.2.1
  have CV : Hid (∀ W, Below w.heap.size w W → Calls Try.prog 23 #[.slice A n c] W fun e w' => e = .returned (.tuple #[.agg (pkCells A c n bs).toArray, .int .i64 (pkTold n bs : Nat)]) ∧ Below W.heap.size W w') := fun W h => pksound_any A n c bs W hn2 hc (hR.below h)
  obtain ⟨f, pv, hXe, _⟩ := pkCells_head A c n bs
  obtain ⟨X, hX⟩ : ∃ X, X = pkCells A c n bs := ⟨_, rfl⟩
  obtain ⟨H, hH⟩ : ∃ H, H = pkHead n bs := ⟨_, rfl⟩
  obtain ⟨d, hd⟩ : ∃ d, d = pkTold n bs := ⟨_, rfl⟩
  rw [← hX, ← hd] at CV
  rw [← hX] at Xl Xo
  rw [← hX, ← hH] at hXe
  rw [← hH] at Hl Ho ⊢
  rw [← hd] at ⊢
  obtain ⟨V, e0⟩ : ∃ V, V = w.alloc (.cells Y.toArray 25) := ⟨_, rfl⟩
  have HA : Hid (ArrV 25 V w.heap.size Y) := by show ArrV _ _ _ _; rw [e0]; exact ArrV.new _ w Y
  have HB : Hid (Below w.heap.size w V) := by show Below _ _ _; rw [e0]; exact (Below.refl _ _).alloc (Nat.le_refl _) _
  obtain ⟨g2, hg2⟩ : ∃ g, g = w.heap.size := ⟨_, rfl⟩
  have HG2 := Lib.hid hg2
  rw [← hg2] at HA
  have HP : Hid (∀ (j : Nat) v, H[j]? = some v → X[0 + j]? = some v) := by rw [hXe]; exact part_front
  clear hX hH hd hR hn2 hc hZ hY hg2 hXe
  go_enter Try.func5, Try.ntmps5
  go_upto_region 1 with fail
  rw [← e0, ← HG2.out]
  clear e0 hlit2
  go_wp2_with fail
  refine (CV.out _ HB.out).mono ?_
  rintro e w1 ⟨rfl, b1⟩
  have A1 := Lib.hid (HA.out.below b1)
  have B1 := Lib.hid (below_both HB.out b1)
  clear b1
  go_upto_region 2 with (first | refine wpList_store_v rfl 57 (.tmp 4) (.tmp 9) rfl _ rfl tytr (ArrV.new _ _ Z) hZl X Xl Xo rfl ?_ | fail)
  obtain ⟨V4, e4⟩ : ∃ V, V = (w1.alloc (.cells Z.toArray 57)).setCells w1.heap.size 0 X := ⟨_, rfl⟩
  obtain ⟨x4, hb4⟩ := ArrV.laid 57 w1 Z X (by rw [Xl, hZl])
  rw [← e4] at x4 hb4
  have X4 := Lib.hid x4
  rw [← e4]
  obtain ⟨g4, hg4⟩ : ∃ g, g = w1.heap.size := ⟨_, rfl⟩
  have A4 := Lib.hid (A1.out.below hb4)
  have B4 := Lib.hid (below_both B1.out hb4)
  rw [← hg4] at X4 ⊢
  clear e4 hb4 x4 A1 B1 hg4
  go_wp2_with (first | refine wpList_load_part rfl 25 (.tmp 11) rfl _ 0 rfl tyhead X4.out HP.out Hl ?_ | refine wpList_store_v rfl 25 (.tmp 2) (.tmp 12) rfl _ rfl tyhead A4.out hYl H Hl Ho rfl ?_ | fail)
  have HS := A4.out.store H (by rw [Hl, hYl])
  exact bodyPost_ret (v := .tuple #[.agg H.toArray, .int .i64 (d : Nat)]) (res_cell_tmp Try.results5 rfl (HS.loadVar tyhead Hl) rfl) rfl ⟨rfl, setCells_below g2 (by rw [HG2.out]; exact Nat.le_refl _) _ _ _ B4.out⟩
set_option maxHeartbeats 3200000 in
theorem pkall_any (A : Option Addr) (n c : Nat) (bs : List Nat) (w : World) (hn2 : n ≤ 140737488351232) (hc : n ≤ c) (hR : Row w A n bs) :
    Calls Try.prog 13 #[.slice A n c] w fun e w' => ∃ A9 c9, e = .returned (.slice A9 (pkDefs n bs).length c9) ∧ Below w.heap.size w w' ∧ DefRead w' (.slice A9 (pkDefs n bs).length c9) (pkDefs n bs) := by
  obtain ⟨Z, hZ⟩ : ∃ Z, Z = trZ := ⟨_, rfl⟩
  obtain ⟨hZl, hZo⟩ := trZ_all
  have hlit := tr_lit
  rw [← hZ] at hZl hZo hlit
  obtain ⟨Xl, Xo⟩ := pkCells_all (A := A) (c := c) hR.1
  have CV : Hid (∀ W, Row W A n bs → Calls Try.prog 28 #[.slice A n c] W fun e w' => ∃ A9 c9, e = .returned (.tuple #[.agg (pkCells A c n bs).toArray, .slice A9 (pkDefs n bs).length c9]) ∧ Below W.heap.size W w' ∧ DefRead w' (.slice A9 (pkDefs n bs).length c9) (pkDefs n bs)) := fun W h => (pkview_one A n c bs W hn2 hc h).mono fun e w' h => by
    obtain ⟨A9, c9, rfl, hb, h1, h2⟩ := h
    refine ⟨A9, c9, rfl, hb, ?_⟩
    by_cases hD : pkDefs n bs = []
    · rw [hD]
      exact ⟨A9, c9, rfl, Nat.zero_le _, fun i z hz => by cases hz⟩
    · exact h1 hD
  have HR := Lib.hid hR
  obtain ⟨X, hX⟩ : ∃ X, X = pkCells A c n bs := ⟨_, rfl⟩
  obtain ⟨D, hD⟩ : ∃ D, D = pkDefs n bs := ⟨_, rfl⟩
  rw [← hX, ← hD] at CV
  rw [← hX] at Xl Xo
  rw [← hD]
  clear hX hD hR hn2 hc hZ
  go_enter Try.func13, Try.ntmps13
  go_wp2_with fail
  refine (CV.out _ HR.out).mono ?_
  rintro e w1 ⟨A9, c9, rfl, b1, d1⟩
  have D1 := Lib.hid d1
  have B1 := Lib.hid b1
  clear b1 d1
  go_upto_region 2 with (first | refine wpList_store_v rfl 57 (.tmp 3) (.tmp 8) rfl _ rfl tytr (ArrV.new _ _ Z) hZl X Xl Xo rfl ?_ | fail)
  obtain ⟨V4, e4⟩ : ∃ V, V = (w1.alloc (.cells Z.toArray 57)).setCells w1.heap.size 0 X := ⟨_, rfl⟩
  obtain ⟨x4, hb4⟩ := ArrV.laid 57 w1 Z X (by rw [Xl, hZl])
  rw [← e4] at x4 hb4
  rw [← e4]
  have D4 := Lib.hid (D1.out.below hb4)
  have B4 := Lib.hid (below_both B1.out hb4)
  clear e4 hb4 x4 D1 B1
  go_wp2_with fail
  go_ret
  exact ⟨_, _, rfl, B4.out, D4.out⟩
end Go.Proofs.Ytcjaidpmfjnhpaa

namespace Go.Proofs.Ytcjaidpmfjnhpaa
open Go.RowKit
set_option linter.unusedVariables false
set_option maxRecDepth 8000

theorem pkTold_zero {n : Nat} {bs : List Nat} : pkTold n bs = 0 ↔ pkDefs n bs = [] := by
  constructor
  · intro h
    cases hD : pkDefs n bs with
    | nil => rfl
    | cons d l =>
      have h1 := (pkDefs_asc n bs).2 d (by rw [hD]; exact List.mem_cons_self)
      unfold pkTold at h
      rw [hD] at h
      change d = 0 at h
      omega
  · exact pkTold_nil
set_option maxHeartbeats 3200000 in
theorem pkpoint_any (A : Option Addr) (n c : Nat) (bs : List Nat) (w : World) (hn2 : n ≤ 140737488351232) (hc : n ≤ c) (hR : Row w A n bs) :
    Calls Try.prog 7 #[.slice A n c] w fun e w' => e = .returned (pkPoint n bs) ∧ Below w.heap.size w w' := by
  obtain ⟨Z, hZ⟩ : ∃ Z, Z = trZ := ⟨_, rfl⟩
  obtain ⟨hZl, hZo⟩ := trZ_all
  have hlit := tr_lit
  rw [← hZ] at hZl hZo hlit
  obtain ⟨Xl, Xo⟩ := pkCells_all (A := A) (c := c) hR.1
  have CV : Hid (∀ W, Row W A n bs → Calls Try.prog 23 #[.slice A n c] W fun e w' => e = .returned (.tuple #[.agg (pkCells A c n bs).toArray, .int .i64 (pkTold n bs : Nat)]) ∧ Below W.heap.size W w') := fun W h => pksound_any A n c bs W hn2 hc h
  obtain ⟨f, pv, hXe, hf⟩ := pkCells_head A c n bs
  obtain ⟨Hl, _⟩ := pkHead_all hR.1 hR.2.1
  have h40 : (pkCells A c n bs)[40]? = some (.int .u8 (f : Nat)) := by
    rw [hXe, List.getElem?_append_right (by omega), Hl]
    rfl
  have hfld : pkDefs n bs = [] → f ≤ 255 := fun h => by rw [hf h]; exact (pkRec_ok hR.1 hR.2.1 (pkHeads_nil h)).field
  have HR := Lib.hid hR
  have hres : (pkTold n bs = 0 → pkPoint n bs = .tuple #[.int .i64 (f / 4 : Nat), .int .i64 (f % 4 : Nat), .bool true] ∧ f ≤ 255) ∧ (pkTold n bs ≠ 0 → pkPoint n bs = .tuple #[.int .i64 0, .int .i64 0, .bool false]) := by
    constructor
    · intro h
      have hD := pkTold_zero.1 h
      refine ⟨?_, hfld hD⟩
      unfold pkPoint
      rw [if_pos hD, hf hD]
    · intro h
      unfold pkPoint
      rw [if_neg (fun g => h (pkTold_zero.2 g))]
  obtain ⟨X, hX⟩ : ∃ X, X = pkCells A c n bs := ⟨_, rfl⟩
  obtain ⟨d, hd⟩ : ∃ d, d = pkTold n bs := ⟨_, rfl⟩
  rw [← hX, ← hd] at CV
  rw [← hX] at Xl Xo h40
  rw [← hd] at hres
  have H40 := Lib.hid h40
  obtain ⟨r0, r1⟩ := hres
  clear hX hd hR hn2 hc hZ hXe hf Hl hfld h40
  by_cases hd0 : d = 0
  · obtain ⟨hr, hfl⟩ := r0 hd0
    rw [hr]
    subst hd0
    have CS := Lib.hid (fun w => ptsplit_any f w hfl)
    clear r0 r1 hr hfl
    go_enter Try.func7, Try.ntmps7
    go_wp2_with fail
    refine (CV.out _ HR.out).mono ?_
    rintro e w1 ⟨rfl, b1⟩
    have B1 := Lib.hid b1
    clear b1
    go_upto_region 2 with (first | refine wpList_store_v rfl 57 (.tmp 5) (.tmp 12) rfl _ rfl tytr (ArrV.new _ _ Z) hZl X Xl Xo rfl ?_ | fail)
    obtain ⟨V4, e4⟩ : ∃ V, V = (w1.alloc (.cells Z.toArray 57)).setCells w1.heap.size 0 X := ⟨_, rfl⟩
    obtain ⟨x4, hb4⟩ := ArrV.laid 57 w1 Z X (by rw [Xl, hZl])
    rw [← e4] at x4 hb4
    have c40 := (x4.get 40).trans H40.out
    rw [← e4]
    obtain ⟨g4, hg4⟩ : ∃ g, g = w1.heap.size := ⟨_, rfl⟩
    have B4 := Lib.hid (below_both B1.out hb4)
    rw [← hg4] at c40 ⊢
    clear e4 hb4 x4 B1 hg4
    go_wp2_with fail
    refine (CS.out _).mono ?_
    rintro e w' ⟨rfl, rfl⟩
    go_wp2_with fail
    go_ret3
    exact ⟨rfl, B4.out⟩
  · rw [r1 hd0]
    have db : ((d : Int) != 0) = true := bne_iff_ne.2 (by omega)
    clear r0 r1 hd0
    go_enter Try.func7, Try.ntmps7
    go_wp2_with fail
    refine (CV.out _ HR.out).mono ?_
    rintro e w1 ⟨rfl, b1⟩
    have B1 := Lib.hid b1
    clear b1
    go_upto_region 2 with (first | refine wpList_store_v rfl 57 (.tmp 5) (.tmp 12) rfl _ rfl tytr (ArrV.new _ _ Z) hZl X Xl Xo rfl ?_ | fail)
    obtain ⟨V4, e4⟩ : ∃ V, V = (w1.alloc (.cells Z.toArray 57)).setCells w1.heap.size 0 X := ⟨_, rfl⟩
    obtain ⟨x4, hb4⟩ := ArrV.laid 57 w1 Z X (by rw [Xl, hZl])
    rw [← e4] at x4 hb4
    rw [← e4]
    have B4 := Lib.hid (below_both B1.out hb4)
    clear e4 hb4 x4 B1
    go_wp2_with fail
    go_ret3
    exact ⟨rfl, B4.out⟩
/-- The names of what is wrong. -/
def pkNames : List ByteArray := [⟨#[115, 111, 117, 110, 100]⟩, ⟨#[101, 109, 112, 116, 121]⟩, ⟨#[118, 101, 114, 115, 105, 111, 110]⟩, ⟨#[115, 104, 111, 114, 116]⟩, ⟨#[105, 104, 108]⟩, ⟨#[104, 101, 97, 100]⟩, ⟨#[116, 111, 116, 97, 108]⟩, ⟨#[99, 117, 116]⟩, ⟨#[111, 112, 116, 105, 111, 110]⟩, ⟨#[115, 117, 109]⟩, ⟨#[101, 120, 116]⟩, ⟨#[104, 111, 112]⟩, ⟨#[109, 97, 110, 121]⟩, ⟨#[116, 119, 105, 99, 101]⟩, ⟨#[101, 110, 100]⟩, ⟨#[112, 111, 114, 116, 115]⟩, ⟨#[100, 97, 116, 97]⟩]
def pkName (d : Int) : ByteArray := if 0 ≤ d ∧ d < 17 then pkNames.getD d.toNat ⟨#[]⟩ else ⟨#[]⟩
theorem pknames_lit : (#[.string ⟨#[115, 111, 117, 110, 100]⟩, .string ⟨#[101, 109, 112, 116, 121]⟩, .string ⟨#[118, 101, 114, 115, 105, 111, 110]⟩, .string ⟨#[115, 104, 111, 114, 116]⟩, .string ⟨#[105, 104, 108]⟩, .string ⟨#[104, 101, 97, 100]⟩, .string ⟨#[116, 111, 116, 97, 108]⟩, .string ⟨#[99, 117, 116]⟩, .string ⟨#[111, 112, 116, 105, 111, 110]⟩, .string ⟨#[115, 117, 109]⟩, .string ⟨#[101, 120, 116]⟩, .string ⟨#[104, 111, 112]⟩, .string ⟨#[109, 97, 110, 121]⟩, .string ⟨#[116, 119, 105, 99, 101]⟩, .string ⟨#[101, 110, 100]⟩, .string ⟨#[112, 111, 114, 116, 115]⟩, .string ⟨#[100, 97, 116, 97]⟩] : Array Value) = (pkNames.map Value.string).toArray := rfl
theorem pkNames_at {i : Nat} (h : i < 17) : (pkNames.map Value.string)[i]? = some (.string (pkNames.getD i ⟨#[]⟩)) := by
  rw [List.getElem?_map, List.getD_eq_getElem?_getD, List.getElem?_eq_getElem (by exact h)]
  rfl
theorem pkname_any (d : Int) (w : World) (h1 : -9223372036854775808 ≤ d) (h2 : d ≤ 9223372036854775807) :
    Calls Try.prog 15 #[.int .i64 d] w fun e w' => e = .returned (.string (pkName d)) ∧ Below w.heap.size w w' := by
  have HN : Hid (∀ i, i < 17 → (pkNames.map Value.string)[i]? = some (.string (pkNames.getD i ⟨#[]⟩))) := fun i hi => pkNames_at hi
  by_cases hneg : d < 0
  · have hr : pkName d = ⟨#[]⟩ := by unfold pkName; rw [if_neg (by omega)]
    rw [hr]
    clear hr
    go_enter Try.func15, Try.ntmps15
    go_upto_region 2 with fail
    rw [pknames_lit]
    have B4 : Hid (Below w.heap.size w (w.alloc (.cells (pkNames.map Value.string).toArray 66))) := (Below.refl _ _).alloc (Nat.le_refl _) _
    obtain ⟨V4, e4⟩ : ∃ V, V = w.alloc (.cells (pkNames.map Value.string).toArray 66) := ⟨_, rfl⟩
    rw [← e4] at B4 ⊢
    clear e4
    go_wp2_with fail
    go_ret
    exact ⟨rfl, B4.out⟩
  by_cases hbig : 17 ≤ d
  · have hr : pkName d = ⟨#[]⟩ := by unfold pkName; rw [if_neg (by omega)]
    rw [hr]
    have hn2 : 0 ≤ d := by omega
    clear hr hneg
    go_enter Try.func15, Try.ntmps15
    go_upto_region 2 with fail
    rw [pknames_lit]
    have B4 : Hid (Below w.heap.size w (w.alloc (.cells (pkNames.map Value.string).toArray 66))) := (Below.refl _ _).alloc (Nat.le_refl _) _
    obtain ⟨V4, e4⟩ : ∃ V, V = w.alloc (.cells (pkNames.map Value.string).toArray 66) := ⟨_, rfl⟩
    rw [← e4] at B4 ⊢
    clear e4
    go_wp2_with fail
    go_ret
    exact ⟨rfl, B4.out⟩
  obtain ⟨i, rfl⟩ : ∃ i : Nat, d = (i : Nat) := ⟨d.toNat, by omega⟩
  have hi : i < 17 := by omega
  have hr : pkName (i : Int) = pkNames.getD i ⟨#[]⟩ := by
    unfold pkName
    rw [if_pos (by omega), Int.toNat_natCast]
  rw [hr]
  have hcell := HN.out i hi
  obtain ⟨s, hs⟩ : ∃ s, s = pkNames.getD i ⟨#[]⟩ := ⟨_, rfl⟩
  rw [← hs] at hcell ⊢
  have HC := Lib.hid hcell
  have i0 : 0 ≤ (i : Int) := by omega
  have i1 : (i : Int) < 17 := by omega
  clear hr hneg hbig hs hcell hi h1 h2 HN
  go_enter Try.func15, Try.ntmps15
  go_upto_region 2 with fail
  rw [pknames_lit]
  have B4 : Hid (Below w.heap.size w (w.alloc (.cells (pkNames.map Value.string).toArray 66))) := (Below.refl _ _).alloc (Nat.le_refl _) _
  have x4 := ArrV.new 66 w (pkNames.map Value.string)
  obtain ⟨V4, e4⟩ : ∃ V, V = w.alloc (.cells (pkNames.map Value.string).toArray 66) := ⟨_, rfl⟩
  rw [← e4] at B4 x4 ⊢
  have c4 := (x4.get i).trans HC.out
  clear e4 x4
  go_wp2_with fail
  go_ret
  exact ⟨rfl, B4.out⟩
end Go.Proofs.Ytcjaidpmfjnhpaa

namespace Go.Proofs.Ytcjaidpmfjnhpaa
open Go.RowKit
set_option linter.unusedVariables false
set_option maxRecDepth 8000

theorem sixteenV {l : List Value} (h : l.length = 16) : ∃ s0 s1 s2 s3 s4 s5 s6 s7 s8 s9 s10 s11 s12 s13 s14 s15, l = [s0, s1, s2, s3, s4, s5, s6, s7, s8, s9, s10, s11, s12, s13, s14, s15] := by
  match l, h with
  | [s0, s1, s2, s3, s4, s5, s6, s7, s8, s9, s10, s11, s12, s13, s14, s15], _ => exact ⟨s0, s1, s2, s3, s4, s5, s6, s7, s8, s9, s10, s11, s12, s13, s14, s15, rfl⟩
set_option maxHeartbeats 3200000 in
theorem pkkey_any (A : Option Addr) (n c : Nat) (bs : List Nat) (w : World) (hn2 : n ≤ 140737488351232) (hc : n ≤ c) (hR : Row w A n bs) :
    Calls Try.prog 9 #[.slice A n c] w fun e w' => e = .returned (.tuple #[.agg (pkKey n bs).toArray, .int .i64 (pkTold n bs : Nat)]) ∧ Below w.heap.size w w' := by
  obtain ⟨Z, hZ⟩ : ∃ Z, Z = trZ := ⟨_, rfl⟩
  obtain ⟨hZl, hZo⟩ := trZ_all
  have hlit := tr_lit
  have hlit2 := ky_lit
  obtain ⟨Y, hY⟩ : ∃ Y, Y = kyCells RZ false 0 0 := ⟨_, rfl⟩
  have hYl : Y.length = 38 := by rw [hY]; rfl
  have hYo : ∀ v ∈ Y, v.oneCell' = true := by rw [hY]; exact (kyCells_all rz_ok).2
  rw [← hY] at hlit2
  rw [← hZ] at hZl hZo hlit
  obtain ⟨Xl, Xo⟩ := pkCells_all (A := A) (c := c) hR.1
  obtain ⟨Kl, Ko⟩ := pkKey_all hR.1 hR.2.1
  have CV : Hid (∀ W, Below w.heap.size w W → Calls Try.prog 23 #[.slice A n c] W fun e w' => e = .returned (.tuple #[.agg (pkCells A c n bs).toArray, .int .i64 (pkTold n bs : Nat)]) ∧ Below W.heap.size W w') := fun W h => pksound_any A n c bs W hn2 hc (hR.below h)
  obtain ⟨V, e0⟩ : ∃ V, V = w.alloc (.cells Y.toArray 32) := ⟨_, rfl⟩
  have HA : Hid (ArrV 32 V w.heap.size Y) := by show ArrV _ _ _ _; rw [e0]; exact ArrV.new _ w Y
  have HB : Hid (Below w.heap.size w V) := by show Below _ _ _; rw [e0]; exact (Below.refl _ _).alloc (Nat.le_refl _) _
  obtain ⟨g2, hg2⟩ : ∃ g, g = w.heap.size := ⟨_, rfl⟩
  have HG2 := Lib.hid hg2
  rw [← hg2] at HA
  by_cases hD : pkDefs n bs = []
  · have ht : pkTold n bs = 0 := pkTold_nil hD
    have hok := pkRec_ok hR.1 hR.2.1 (pkHeads_nil hD)
    have hKe : pkKey n bs = kyCells (pkRec bs) (pkRec bs).has ((pkRec bs).ports bs).1 ((pkRec bs).ports bs).2.1 := by unfold pkKey; rw [if_pos hD]
    have hXe : pkCells A c n bs = trCells (pkRec bs) (pkRec bs).has ((pkRec bs).ports bs).1 ((pkRec bs).ports bs).2.1 (pkPv A c (pkRec bs)) := by unfold pkCells; rw [if_pos hD]
    rw [ht] at CV ⊢
    rw [hKe] at Kl Ko ⊢
    rw [hXe] at CV Xl Xo
    have hfl := hok.field
    have hbs : (bcells (pkRec bs).src).length = 16 := by rw [bcells_length, hok.sl]
    have hbd : (bcells (pkRec bs).dst).length = 16 := by rw [bcells_length, hok.dl]
    have HSO := Lib.hid (And.intro (bcells_one (pkRec bs).src) (bcells_one (pkRec bs).dst))
    obtain ⟨r, hr⟩ : ∃ r, r = pkRec bs := ⟨_, rfl⟩
    obtain ⟨x, hx⟩ : ∃ x, x = ((pkRec bs).ports bs).1 := ⟨_, rfl⟩
    obtain ⟨y, hy⟩ : ∃ y, y = ((pkRec bs).ports bs).2.1 := ⟨_, rfl⟩
    rw [← hx, ← hy] at CV Xl Xo Kl Ko ⊢
    rw [← hr] at CV Xl Xo Kl Ko hfl hbs hbd HSO ⊢
    have CS := Lib.hid (fun w => ptsplit_any r.field w hfl)
    obtain ⟨S, hS⟩ : ∃ S, S = bcells r.src := ⟨_, rfl⟩
    obtain ⟨T, hT⟩ : ∃ T, T = bcells r.dst := ⟨_, rfl⟩
    obtain ⟨pv, hpv⟩ : ∃ pv, pv = pkPv A c r := ⟨_, rfl⟩
    obtain ⟨X, hX⟩ : ∃ X, X = trCells r r.has x y (pkPv A c r) := ⟨_, rfl⟩
    obtain ⟨K, hK⟩ : ∃ K, K = kyCells r r.has x y := ⟨_, rfl⟩
    have HXE : Hid (X = .int .i64 (r.v : Nat) :: (S ++ (T ++ trTail r r.has x y pv))) := by show _ = _; rw [hX, hS, hT, hpv]; rfl
    have HKE : Hid (K = .int .i64 (r.v : Nat) :: (S ++ (T ++ kyTail r r.has x y))) := by show _ = _; rw [hK, hS, hT]; rfl
    rw [← hX] at CV Xl Xo
    rw [← hK] at Kl Ko ⊢
    rw [← hS] at hbs HSO
    rw [← hT] at hbd HSO
    clear hS hT hX hK hpv hr hx hy hXe hKe ht hD hok hR hn2 hc hZ hY hg2 hfl
    go_enter Try.func9, Try.ntmps9
    go_upto_region 1 with fail
    rw [← e0, ← HG2.out]
    clear e0 hlit2
    go_wp2_with fail
    refine (CV.out _ HB.out).mono ?_
    rintro e w1 ⟨rfl, b1⟩
    have A1 := Lib.hid (HA.out.below b1)
    have B1 := Lib.hid (below_both HB.out b1)
    clear b1
    go_upto_region 2 with (first | refine wpList_store_v rfl 57 (.tmp 4) (.tmp 11) rfl _ rfl tytr (ArrV.new _ _ Z) hZl X Xl Xo rfl ?_ | fail)
    obtain ⟨V4, e4⟩ : ∃ V, V = (w1.alloc (.cells Z.toArray 57)).setCells w1.heap.size 0 X := ⟨_, rfl⟩
    obtain ⟨x4, hb4⟩ := ArrV.laid 57 w1 Z X (by rw [Xl, hZl])
    rw [← e4] at x4 hb4
    rw [← e4]
    have X4 := Lib.hid x4
    obtain ⟨g4, hg4⟩ : ∃ g, g = w1.heap.size := ⟨_, rfl⟩
    have A4 := Lib.hid (A1.out.below hb4)
    have B4 := Lib.hid (below_both B1.out hb4)
    rw [← hg4] at X4 ⊢
    have hx4 := X4.out
    rw [HXE.out] at hx4
    have q0 := hx4.get 0
    have q33 := (hx4.get 33).trans (three_at hbs hbd 0)
    have q37 := (hx4.get 37).trans (three_at hbs hbd 4)
    have q38 := (hx4.get 38).trans (three_at hbs hbd 5)
    have q39 := (hx4.get 39).trans (three_at hbs hbd 6)
    have q40 := (hx4.get 40).trans (three_at hbs hbd 7)
    simp only [trTail, List.getElem?_cons_zero, List.getElem?_cons_succ] at q0 q33 q37 q38 q39 q40
    clear e4 hb4 x4 A1 B1 hg4 hx4
    go_wp2_with fail
    refine (CS.out _).mono ?_
    rintro e w' ⟨rfl, rfl⟩
    have HP1 : Hid (∀ (j : Nat) v, S[j]? = some v → X[1 + j]? = some v) := fun j v hv => by
      rw [HXE.out, Nat.add_comm, List.getElem?_cons_succ, List.getElem?_append_left (List.getElem?_eq_some_iff.1 hv).1]
      exact hv
    have HP2 : Hid (∀ (j : Nat) v, T[j]? = some v → X[17 + j]? = some v) := fun j v hv => by
      rw [HXE.out, show 17 + j = (16 + j) + 1 by omega, List.getElem?_cons_succ, List.getElem?_append_right (by omega), hbs, Nat.add_sub_cancel_left, List.getElem?_append_left (List.getElem?_eq_some_iff.1 hv).1]
      exact hv
    obtain ⟨SA, hSA⟩ : ∃ l, l = S := ⟨_, rfl⟩
    obtain ⟨TA, hTA⟩ : ∃ l, l = T := ⟨_, rfl⟩
    obtain ⟨s0, s1, s2, s3, s4, s5, s6, s7, s8, s9, s10, s11, s12, s13, s14, s15, hS⟩ := sixteenV hbs
    obtain ⟨t0, t1, t2, t3, t4, t5, t6, t7, t8, t9, t10, t11, t12, t13, t14, t15, hT⟩ := sixteenV hbd
    have hlitK : (#[.int .i64 (r.v : Nat), s0, s1, s2, s3, s4, s5, s6, s7, s8, s9, s10, s11, s12, s13, s14, s15, t0, t1, t2, t3, t4, t5, t6, t7, t8, t9, t10, t11, t12, t13, t14, t15, .int .i64 r.proto, .int .i64 ((r.field : Int) / 4), .bool r.has, .int .i64 (x : Nat), .int .i64 (y : Nat)] : Array Value) = K.toArray := by rw [HKE.out, hS, hT]; rfl
    subst hS
    subst hT
    clear hSA hTA HSO
    go_upto_region 5 with fail
    clear q40
    go_wp2_with (first | refine wpList_load_part rfl 23 (.tmp 27) rfl _ 1 rfl ty16 X4.out HP1.out hbs ?_ | refine wpList_load_part rfl 23 (.tmp 30) rfl _ 17 rfl ty16 X4.out HP2.out hbd ?_ | refine wpList_store_v rfl 32 (.tmp 2) (.tmp 45) rfl _ rfl pktykey A4.out hYl K Kl Ko rfl ?_ | fail)
    have HS := A4.out.store K (by rw [Kl, hYl])
    exact bodyPost_ret (v := .tuple #[.agg K.toArray, .int .i64 (0 : Nat)]) (res_cell_tmp Try.results9 rfl (HS.loadVar pktykey Kl) rfl) rfl ⟨rfl, setCells_below g2 (by rw [HG2.out]; exact Nat.le_refl _) _ _ _ B4.out⟩
  · have hne : pkTold n bs ≠ 0 := fun h => hD (pkTold_zero.1 h)
    have hKe : pkKey n bs = Y := by unfold pkKey; rw [if_neg hD, hY]
    rw [hKe]
    obtain ⟨X, hX⟩ : ∃ X, X = pkCells A c n bs := ⟨_, rfl⟩
    obtain ⟨d, hd⟩ : ∃ d, d = pkTold n bs := ⟨_, rfl⟩
    rw [← hX, ← hd] at CV
    rw [← hX] at Xl Xo
    rw [← hd] at hne ⊢
    have db : ((d : Int) != 0) = true := bne_iff_ne.2 (by omega)
    clear hX hd hKe Kl Ko hD hne hR hn2 hc hZ hY hg2
    go_enter Try.func9, Try.ntmps9
    go_upto_region 1 with fail
    rw [← e0, ← HG2.out]
    clear e0
    go_wp2_with fail
    refine (CV.out _ HB.out).mono ?_
    rintro e w1 ⟨rfl, b1⟩
    have A1 := Lib.hid (HA.out.below b1)
    have B1 := Lib.hid (below_both HB.out b1)
    clear b1
    go_upto_region 2 with (first | refine wpList_store_v rfl 57 (.tmp 4) (.tmp 11) rfl _ rfl tytr (ArrV.new _ _ Z) hZl X Xl Xo rfl ?_ | fail)
    obtain ⟨V4, e4⟩ : ∃ V, V = (w1.alloc (.cells Z.toArray 57)).setCells w1.heap.size 0 X := ⟨_, rfl⟩
    obtain ⟨x4, hb4⟩ := ArrV.laid 57 w1 Z X (by rw [Xl, hZl])
    rw [← e4] at x4 hb4
    rw [← e4]
    have A4 := Lib.hid (A1.out.below hb4)
    have B4 := Lib.hid (below_both B1.out hb4)
    clear e4 hb4 x4 A1 B1
    go_wp2_with (first | refine wpList_store_v rfl 32 (.tmp 2) (.tmp 15) rfl _ rfl pktykey A4.out hYl Y hYl hYo rfl ?_ | fail)
    have HS := A4.out.store Y rfl
    exact bodyPost_ret (v := .tuple #[.agg Y.toArray, .int .i64 (d : Nat)]) (res_cell_tmp Try.results9 rfl (HS.loadVar pktykey hYl) rfl) rfl ⟨rfl, setCells_below g2 (by rw [HG2.out]; exact Nat.le_refl _) _ _ _ B4.out⟩
end Go.Proofs.Ytcjaidpmfjnhpaa

namespace Go.Proofs.Ytcjaidpmfjnhpaa
open Go.RowKit
set_option linter.unusedVariables false

def B31 : List Nat := [69, 184, 0, 30, 0, 7, 0, 0, 64, 17, 0, 0, 10, 0, 0, 1, 10, 0, 0, 2, 0, 53, 4, 1, 0, 10, 0, 0, 1, 2, 255]
def S31 : List Nat := fhseal B31 20
theorem b31_byte : ∀ x ∈ B31, x < 256 := by decide
theorem s31_byte : ∀ x ∈ S31, x < 256 := by decide +kernel
theorem s31_len : S31.length = 31 := by decide +kernel
theorem b31_def : fhdef 31 B31 = 0 := by decide +kernel
theorem b31_bad : pkDefs 31 B31 = [9] := by decide +kernel
theorem s31_good : pkDefs 31 S31 = [] := by decide +kernel
theorem s31_head : pkHead 31 S31 = [.int .i64 4, .int .u8 10, .int .u8 0, .int .u8 0, .int .u8 1, .int .u8 0, .int .u8 0, .int .u8 0, .int .u8 0, .int .u8 0, .int .u8 0, .int .u8 0, .int .u8 0, .int .u8 0, .int .u8 0, .int .u8 0, .int .u8 0, .int .u8 10, .int .u8 0, .int .u8 0, .int .u8 2, .int .u8 0, .int .u8 0, .int .u8 0, .int .u8 0, .int .u8 0, .int .u8 0, .int .u8 0, .int .u8 0, .int .u8 0, .int .u8 0, .int .u8 0, .int .u8 0, .int .i64 17, .int .i64 30, .int .i64 20, .int .i64 0, .bool true, .int .i64 53, .int .i64 1025] := by
  unfold pkHead
  rw [if_pos s31_good]
  kernel_rfl
theorem s31_key : pkKey 31 S31 = [.int .i64 4, .int .u8 10, .int .u8 0, .int .u8 0, .int .u8 1, .int .u8 0, .int .u8 0, .int .u8 0, .int .u8 0, .int .u8 0, .int .u8 0, .int .u8 0, .int .u8 0, .int .u8 0, .int .u8 0, .int .u8 0, .int .u8 0, .int .u8 10, .int .u8 0, .int .u8 0, .int .u8 2, .int .u8 0, .int .u8 0, .int .u8 0, .int .u8 0, .int .u8 0, .int .u8 0, .int .u8 0, .int .u8 0, .int .u8 0, .int .u8 0, .int .u8 0, .int .u8 0, .int .i64 17, .int .i64 46, .bool true, .int .i64 53, .int .i64 1025] := by
  unfold pkKey
  rw [if_pos s31_good]
  kernel_rfl
theorem s31_field : (pkRec S31).field = 184 := by decide +kernel
theorem s31_point : pkPoint 31 S31 = .tuple #[.int .i64 46, .int .i64 0, .bool true] := by
  unfold pkPoint
  rw [if_pos s31_good, s31_field]
  rfl
theorem s31_ok : (pkRec S31).Ok ((pkRec S31).ports S31).1 ((pkRec S31).ports S31).2.1 := pkRec_ok s31_len s31_byte (pkHeads_nil s31_good)
theorem b16_all : pkDefs 1 [16] = [2] := by decide +kernel
theorem b31_lit : (#[.int .u8 69, .int .u8 184, .int .u8 0, .int .u8 30, .int .u8 0, .int .u8 7, .int .u8 0, .int .u8 0, .int .u8 64, .int .u8 17, .int .u8 0, .int .u8 0, .int .u8 10, .int .u8 0, .int .u8 0, .int .u8 1, .int .u8 10, .int .u8 0, .int .u8 0, .int .u8 2, .int .u8 0, .int .u8 53, .int .u8 4, .int .u8 1, .int .u8 0, .int .u8 10, .int .u8 0, .int .u8 0, .int .u8 1, .int .u8 2, .int .u8 255] : Array Value) = (bcells B31).toArray := rfl
theorem name_sum : pkName 9 = ⟨#[115, 117, 109]⟩ := rfl
theorem name_no : pkName 99 = ⟨#[]⟩ := rfl
set_option maxRecDepth 10000 in
set_option maxHeartbeats 6400000 in
theorem live14 (w : World) : Calls Try.prog 11 #[] w fun e w' => e = .returned (.bool true) ∧ Below w.heap.size w w' := by
  have C1 : Hid (∀ (b c : Nat) (W : World), 31 ≤ c → Row W (some ⟨b, 0, none⟩) 31 B31 → Calls Try.prog 5 #[.slice (some ⟨b, 0, none⟩) 31 c] W fun e w' => e = .returned (.tuple #[.agg (pkHead 31 B31).toArray, .int .i64 9]) ∧ Below W.heap.size W w') := fun b c W hc h => by
    have h2 := pkparse_any _ 31 c B31 W (by decide) hc h
    rw [show pkTold 31 B31 = 9 by unfold pkTold; rw [b31_bad]; rfl] at h2
    exact h2
  have C2 : Hid (∀ (b c : Nat) (W : World), 31 ≤ c → Row W (some ⟨b, 0, none⟩) 31 B31 → Calls Try.prog 27 #[.slice (some ⟨b, 0, none⟩) 31 c] W fun e w' => ∃ A5 c5, e = .returned (.tuple #[.slice A5 31 c5, .int .i64 0]) ∧ 31 ≤ c5 ∧ Row w' A5 31 S31 ∧ Below W.heap.size W w') := fun b c W hc h => by
    refine (rfhseal_ok _ 31 c B31 W (by decide) hc h b31_def).mono ?_
    rintro e w' ⟨v, rfl, ho, hb⟩
    obtain ⟨A5, c5, rfl, h1, _, h3⟩ := ho.out s31_byte
    rw [show (fhseal B31 (4 * (B31.getD 0 0 % 16))).length = 31 from s31_len] at h1 h3 ⊢
    exact ⟨A5, c5, rfl, h1, h3, hb⟩
  have C3 : Hid (∀ (A : Option Addr) (c : Nat) (W : World), 31 ≤ c → Row W A 31 S31 → Calls Try.prog 5 #[.slice A 31 c] W fun e w' => e = .returned (.tuple #[.agg (pkHead 31 S31).toArray, .int .i64 0]) ∧ Below W.heap.size W w') := fun A c W hc h => by
    have h2 := pkparse_any A 31 c S31 W (by decide) hc h
    rw [pkTold_nil s31_good] at h2
    exact h2
  have C4 : Hid (∀ (A : Option Addr) (c : Nat) (W : World), 31 ≤ c → Row W A 31 S31 → Calls Try.prog 7 #[.slice A 31 c] W fun e w' => e = .returned (.tuple #[.int .i64 46, .int .i64 0, .bool true]) ∧ Below W.heap.size W w') := fun A c W hc h => by
    have h2 := pkpoint_any A 31 c S31 W (by decide) hc h
    rw [s31_point] at h2
    exact h2
  have C5 : Hid (∀ (A : Option Addr) (c : Nat) (W : World), 31 ≤ c → Row W A 31 S31 → Calls Try.prog 9 #[.slice A 31 c] W fun e w' => e = .returned (.tuple #[.agg (pkKey 31 S31).toArray, .int .i64 0]) ∧ Below W.heap.size W w') := fun A c W hc h => by
    have h2 := pkkey_any A 31 c S31 W (by decide) hc h
    rw [pkTold_nil s31_good] at h2
    exact h2
  have C6 : Hid (∀ (b : Nat) (W : World), Row W (some ⟨b, 0, none⟩) 1 [16] → Calls Try.prog 13 #[.slice (some ⟨b, 0, none⟩) 1 1] W fun e w' => ∃ b2 o2 c2, e = .returned (.slice (some ⟨b2, o2, none⟩) 1 c2) ∧ w'.cell? ⟨b2, o2, none⟩ = some (.int .i64 2) ∧ b2 < w'.heap.size ∧ Below W.heap.size W w') := fun b W h => by
    refine (pkall_any _ 1 1 [16] W (by decide) (by decide) h).mono ?_
    rintro e w' ⟨A9, c9, rfl, hb, hd⟩
    rw [b16_all] at hd ⊢
    obtain ⟨A8, c8, e8, _, h5⟩ := hd
    cases e8
    obtain ⟨b2, o2, ea, hlt, h1⟩ := h5 0 2 rfl
    rw [Nat.add_zero] at h1
    exact ⟨b2, o2, c9, by rw [ea]; rfl, h1, hlt, hb⟩
  have C7 : Hid (∀ W : World, Calls Try.prog 15 #[.int .i64 9] W fun e w' => e = .returned (.string ⟨#[115, 117, 109]⟩) ∧ Below W.heap.size W w') := fun W => pkname_any 9 W (by decide) (by decide)
  have C8 : Hid (∀ W : World, Calls Try.prog 15 #[.int .i64 99] W fun e w' => e = .returned (.string ⟨#[]⟩) ∧ Below W.heap.size W w') := fun W => pkname_any 99 W (by decide) (by decide)
  have hlitB := b31_lit
  have hlitZ := hd_lit
  have hlitY := ky_lit
  obtain ⟨Bc, hBc⟩ : ∃ B, B = bcells B31 := ⟨_, rfl⟩
  obtain ⟨Z, hZ⟩ : ∃ Z, Z = hdCells RZ false 0 0 := ⟨_, rfl⟩
  obtain ⟨Y, hY⟩ : ∃ Y, Y = kyCells RZ false 0 0 := ⟨_, rfl⟩
  have hZl : Z.length = 40 := by rw [hZ]; rfl
  have hYl : Y.length = 38 := by rw [hY]; rfl
  obtain ⟨Hl, Ho⟩ := pkHead_all (n := 31) (bs := S31) s31_len s31_byte
  obtain ⟨Il, Io⟩ := pkHead_all (n := 31) (bs := B31) rfl b31_byte
  obtain ⟨Kl, Ko⟩ := pkKey_all (n := 31) (bs := S31) s31_len s31_byte
  have hsame : ∀ w : World, (Op.equalIn 10000 25 (.agg (pkHead 31 S31).toArray) (.agg (pkHead 31 S31).toArray)).run Try.prog w = .ok true w := fun w => by
    unfold pkHead
    rw [if_pos s31_good]
    exact head_same s31_ok w
  have hlitH : (#[.int .i64 4, .int .u8 10, .int .u8 0, .int .u8 0, .int .u8 1, .int .u8 0, .int .u8 0, .int .u8 0, .int .u8 0, .int .u8 0, .int .u8 0, .int .u8 0, .int .u8 0, .int .u8 0, .int .u8 0, .int .u8 0, .int .u8 0, .int .u8 10, .int .u8 0, .int .u8 0, .int .u8 2, .int .u8 0, .int .u8 0, .int .u8 0, .int .u8 0, .int .u8 0, .int .u8 0, .int .u8 0, .int .u8 0, .int .u8 0, .int .u8 0, .int .u8 0, .int .u8 0, .int .i64 17, .int .i64 30, .int .i64 20, .int .i64 0, .bool true, .int .i64 53, .int .i64 1025] : Array Value) = (pkHead 31 S31).toArray := by rw [s31_head]
  have HKY := Lib.hid s31_key
  obtain ⟨H, hH⟩ : ∃ H, H = pkHead 31 S31 := ⟨_, rfl⟩
  obtain ⟨I, hI⟩ : ∃ H, H = pkHead 31 B31 := ⟨_, rfl⟩
  obtain ⟨K, hK⟩ : ∃ H, H = pkKey 31 S31 := ⟨_, rfl⟩
  rw [← hH] at C3 Hl Ho hsame hlitH
  rw [← hI] at C1 Il Io
  rw [← hK] at C5 Kl Ko HKY
  rw [← hBc] at hlitB
  rw [← hZ] at hlitZ
  rw [← hY] at hlitY
  have HB := Lib.hid hBc
  have HSame := Lib.hid hsame
  have HLH := Lib.hid hlitH
  clear hBc hZ hY hH hI hK hsame hlitH
  go_enter Try.func11, Try.ntmps11
  go_upto_region 2 with fail
  clear hlitB
  obtain ⟨V, eV⟩ : ∃ V, V = w.alloc (.cells Bc.toArray 5) := ⟨_, rfl⟩
  have hR : Row V (some ⟨w.heap.size, 0, none⟩) 31 B31 := by
    rw [eV, HB.out]
    exact (Own.new w B31).row b31_byte
  have hb1 : Below w.heap.size w V := by rw [eV]; exact (Below.refl _ _).alloc (Nat.le_refl _) _
  rw [← eV]
  have R1 := Lib.hid hR
  have B1 := Lib.hid hb1
  obtain ⟨g1, hg1⟩ : ∃ g, g = w.heap.size := ⟨_, rfl⟩
  rw [← hg1] at R1 ⊢
  clear eV hR hb1 hg1 HB
  go_wp2_with fail
  refine (C1.out _ _ _ (by decide) R1.out).mono ?_
  rintro e w2 ⟨rfl, b2⟩
  go_upto_region 3 with (first | refine wpList_store_v rfl 25 (.tmp 2) (.tmp 18) rfl _ rfl tyhead (ArrV.new _ _ Z) hZl I Il Io rfl ?_ | fail)
  obtain ⟨V2, e2⟩ : ∃ V, V = (w2.alloc (.cells Z.toArray 25)).setCells w2.heap.size 0 I := ⟨_, rfl⟩
  obtain ⟨x2, hb2⟩ := ArrV.laid 25 w2 Z I (by rw [Il, hZl])
  rw [← e2] at hb2 ⊢
  have B2 := Lib.hid (below_both B1.out (below_both b2 hb2))
  have R2 := Lib.hid (R1.out.below (below_both b2 hb2))
  clear e2 x2 hb2 b2 B1 R1
  go_wp2_with fail
  refine (C2.out _ _ _ (by decide) R2.out).mono ?_
  rintro e w3 ⟨A5, c5, rfl, hc5, r5, b3⟩
  have B3 := Lib.hid (below_both B2.out b3)
  have R5 := Lib.hid r5
  have HC := Lib.hid hc5
  clear b3 r5 hc5 B2 R2
  go_wp2_with fail
  refine (C3.out _ _ _ HC.out R5.out).mono ?_
  rintro e w4 ⟨rfl, b4⟩
  go_upto_region 5 with (first | refine wpList_store_v rfl 25 (.tmp 6) (.tmp 28) rfl _ rfl tyhead (ArrV.new _ _ Z) hZl H Hl Ho rfl ?_ | fail)
  obtain ⟨V4, e4⟩ : ∃ V, V = (w4.alloc (.cells Z.toArray 25)).setCells w4.heap.size 0 H := ⟨_, rfl⟩
  obtain ⟨x4, hb4⟩ := ArrV.laid 25 w4 Z H (by rw [Hl, hZl])
  rw [← e4] at x4 hb4 ⊢
  have X4 := Lib.hid x4
  have B4 := Lib.hid (below_both B3.out (below_both b4 hb4))
  have R4 := Lib.hid (R5.out.below (below_both b4 hb4))
  obtain ⟨g4, hg4⟩ : ∃ g, g = w4.heap.size := ⟨_, rfl⟩
  rw [← hg4] at X4 ⊢
  clear e4 x4 hb4 b4 B3 R5 hg4
  go_wp2_with fail
  refine (C4.out _ _ _ HC.out R4.out).mono ?_
  rintro e w5 ⟨rfl, b5⟩
  have B5 := Lib.hid (below_both B4.out b5)
  have R5 := Lib.hid (R4.out.below b5)
  have X5 := Lib.hid (X4.out.below b5)
  clear b5 B4 R4 X4
  go_wp2_with fail
  refine (C5.out _ _ _ HC.out R5.out).mono ?_
  rintro e w6 ⟨rfl, b6⟩
  go_upto_region 7 with (first | refine wpList_store_v rfl 32 (.tmp 11) (.tmp 39) rfl _ rfl pktykey (ArrV.new _ _ Y) hYl K Kl Ko rfl ?_ | fail)
  obtain ⟨V6, e6⟩ : ∃ V, V = (w6.alloc (.cells Y.toArray 32)).setCells w6.heap.size 0 K := ⟨_, rfl⟩
  obtain ⟨x6, hb6⟩ := ArrV.laid 32 w6 Y K (by rw [Kl, hYl])
  rw [← e6] at x6 hb6 ⊢
  have K6 := Lib.hid x6
  have B6 := Lib.hid (below_both B5.out (below_both b6 hb6))
  have X6 := Lib.hid (X5.out.below (below_both b6 hb6))
  obtain ⟨g6, hg6⟩ : ∃ g, g = w6.heap.size := ⟨_, rfl⟩
  rw [← hg6] at K6 ⊢
  clear e6 x6 hb6 b6 B5 R5 X5 hg6
  go_wp2_with fail
  refine (C6.out _ _ (by
    have h := (Own.new V6 [16]).row (by decide)
    exact h)).mono ?_
  rintro e w7 ⟨b2, o2, c2, rfl, cc, hlt, b7⟩
  have b7 : Below V6.heap.size V6 w7 := below_al b7
  have B7 := Lib.hid (below_both B6.out b7)
  have X7 := Lib.hid (X6.out.below b7)
  have K7 := Lib.hid (K6.out.below b7)
  have CC := Lib.hid cc
  clear b7 hlt B6 X6 K6 cc
  have k34 : w7.cell? ⟨g6, 34, none⟩ = some (.int .i64 46) := (K7.out.get 34).trans (by rw [HKY.out]; rfl)
  have k37 : w7.cell? ⟨g6, 37, none⟩ = some (.int .i64 1025) := (K7.out.get 37).trans (by rw [HKY.out]; rfl)
  have cc := CC.out
  have hsame := HSame.out
  have hlitH := HLH.out
  clear hlitZ hlitY
  go_wp2_with (first | refine wpList_load_vg (by rfl) 25 (.tmp 6) rfl _ rfl tyhead X7.out Hl ?_ | fail)
  refine (C7.out _).mono ?_
  rintro e w8 ⟨rfl, b8⟩
  have B8 := Lib.hid (below_both B7.out b8)
  clear b8 B7 X7 K7 k34 k37 cc CC
  go_wp2_with fail
  refine (C8.out _).mono ?_
  rintro e w9 ⟨rfl, b9⟩
  have B9 := Lib.hid (below_both B8.out b9)
  clear b9 B8
  go_wp2_with fail
  go_ret
  exact ⟨rfl, B9.out⟩
end Go.Proofs.Ytcjaidpmfjnhpaa
