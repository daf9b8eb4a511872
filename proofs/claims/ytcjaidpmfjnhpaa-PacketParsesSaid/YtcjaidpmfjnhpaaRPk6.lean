/-
  The document's parts of layer 14, where the headers are wrong.
  The document's whole told by one record and all its defects; All, Parse, Point, Key, Name of layer 14, where whole does what it should.
  The document's Point and Key of layer 14, where its Parse does what it should.
  The document's whole of layer 14: a packet's record with its ports, or all that is wrong, where parts does what it should.
  The document's parts and whole of layer 14 put together, and All, Parse, Point, Key.
-/
import Derived.Test.YtcjaidpmfjnhpaaRPk0
import Derived.Test.YtcjaidpmfjnhpaaRFh3
import Derived.Test.YtcjaidpmfjnhpaaRSx2
import Derived.Test.YtcjaidpmfjnhpaaPk11
import Derived.Test.YtcjaidpmfjnhpaaPtS
import Derived.Test.YtcjaidpmfjnhpaaPo4
import Derived.Test.YtcjaidpmfjnhpaaRPk5
import Derived.Test.YtcjaidpmfjnhpaaRPk7
namespace Go.Proofs.Ytcjaidpmfjnhpaa
open Go.RowKit
set_option linter.unusedVariables false
set_option maxRecDepth 8000

set_option maxHeartbeats 6400000 in
theorem rparts_bad (A : Option Addr) (n c : Nat) (bs : List Nat) (w : World) (hn2 : n ≤ 140737488351232) (hc : n ≤ c) (hR : Row w A n bs) (r : PkRec) (pv : Value) (hbad : pkHeads n bs ≠ []) :
    Calls Try.prog 39 #[.slice A n c] w (PrIs (pkHeads n bs) r pv w) := by
  obtain ⟨Z, hZ⟩ : ∃ Z, Z = hdCells RZ false 0 0 := ⟨_, rfl⟩
  obtain ⟨hZl, hZo⟩ := hdCells_all rz_ok
  have hlit := hd_lit
  obtain ⟨V, e0⟩ : ∃ V, V = w.alloc (.cells Z.toArray 25) := ⟨_, rfl⟩
  suffices h : Calls Try.prog 39 #[.slice A n c] w fun e w' => Below w.heap.size w w' ∧ ∃ v, e = .returned (.tuple #[.agg Z.toArray, .slice none 0 0, v]) ∧ DefRead w' v (pkHeads n bs) from
    h.mono fun e w' h => ⟨h.1, fun _ => by rw [← hZ]; exact h.2, fun g => absurd g hbad⟩
  rw [← hZ] at hZl hZo hlit
  have HA : Hid (ArrV 25 V w.heap.size Z) := by show ArrV _ _ _ _; rw [e0]; exact ArrV.new _ w Z
  have HB : Hid (Below w.heap.size w V) := by show Below _ _ _; rw [e0]; exact (Below.refl _ _).alloc (Nat.le_refl _) _
  obtain ⟨g2, hg2⟩ : ∃ g, g = w.heap.size := ⟨_, rfl⟩
  have HG2 := Lib.hid hg2
  rw [← hg2] at HA
  by_cases h0 : n = 0
  · have hD : pkHeads n bs = [1] := by unfold pkHeads; rw [if_pos h0]
    rw [hD]
    subst h0
    clear hD hbad hR hn2 hc hZ hg2
    go_enter Try.func39, Try.ntmps39
    go_upto_region 1 with fail
    rw [← e0, ← HG2.out]
    clear e0
    go_upto_region 2 with fail
    have A6 := Lib.hid (HA.out.alloc (.cells #[.int .i64 (1 : Nat)] 26))
    have hnew : (V.alloc (.cells #[.int .i64 (1 : Nat)] 26)).heap[V.heap.size]? = some (.cells #[.int .i64 (1 : Nat)] 26 (0, 0)) := heap_alloc_new _ _
    have hne2 : V.heap.size ≠ g2 := Nat.ne_of_gt HA.out.lt
    have HN : Hid (DefRead ((V.alloc (.cells #[.int .i64 (1 : Nat)] 26)).setCells g2 0 Z) (.slice (some ⟨V.heap.size, 0, none⟩) 1 1) [1]) := def_at (t := 26) ((heap_setCells_far hne2 _ _ _).trans hnew)
    clear hnew hne2
    go_wp2_with (first | refine wpList_store_v rfl 25 (.tmp 2) (.tmp 19) rfl _ rfl tyhead A6.out hZl Z hZl hZo rfl ?_ | fail)
    have HS := A6.out.store Z rfl
    exact bodyPost_ret (v := .tuple #[.agg Z.toArray, .slice none 0 0, .slice (some ⟨V.heap.size, 0, none⟩) 1 1]) (res_cell_two Try.results39 rfl (HS.loadVar tyhead hZl) rfl rfl) rfl ⟨setCells_below g2 (by rw [HG2.out]; exact Nat.le_refl _) _ _ _ (HB.out.alloc HB.out.size _), _, rfl, HN.out⟩
  have hx := hR.byte 0
  have hR2 := hR
  obtain ⟨b, o, rfl, hb, hcell⟩ := hR2.addr (by omega)
  have c0 := (HB.out.cell (p := ⟨b, o, none⟩) hb).trans (hcell 0 (by omega))
  have HR := Lib.hid (hR.below HB.out)
  obtain ⟨x, hxx⟩ : ∃ x, x = bs.getD 0 0 := ⟨_, rfl⟩
  obtain ⟨v, hv⟩ : ∃ v, v = x / 16 := ⟨_, rfl⟩
  have hDD : pkHeads n bs = if v = 4 then fhall n bs else if v = 6 then sxall n bs else [2] := by unfold pkHeads; rw [if_neg h0, hv, hxx]
  rw [← hxx] at c0 hx
  have e16 : (x : Int) / 16 = (v : Int) := by omega
  have v16 : (v : Int) % 256 = (v : Int) := by omega
  have n0 : (0 : Int) < (n : Int) := by omega
  have n0b : ((n : Int) == 0) = false := beq_false_of_ne (by omega)
  by_cases h4 : v = 4
  · have CA := Lib.hid (fun w (hR : Row w (some ⟨b, o, none⟩) n bs) => rfhall_any (some ⟨b, o, none⟩) n c bs w hc (by omega) hR)
    unfold AllIs at CA
    rw [if_pos h4] at hDD
    rw [← hDD] at CA
    obtain ⟨D, hD⟩ : ∃ D, D = pkHeads n bs := ⟨_, rfl⟩
    rw [← hD] at CA hbad ⊢
    have CH1 : Hid (∀ W, Row W (some ⟨b, o, none⟩) n bs → Calls Try.prog 54 #[.slice (some ⟨b, o, none⟩) n c] W fun e w' => ∃ A9 c9, e = .returned (.slice A9 D.length c9) ∧ DefRead w' (.slice A9 D.length c9) D ∧ Below W.heap.size W w') := fun W hW => (CA.out W hW).mono fun e w' h => by
      obtain ⟨v, rfl, hd, hb⟩ := h
      obtain ⟨A9, c9, rfl, h4, h5⟩ := hd
      exact ⟨A9, c9, rfl, ⟨A9, c9, rfl, h4, h5⟩, hb⟩
    have hl0 : 0 < D.length := List.length_pos_iff.2 hbad
    obtain ⟨q, hq⟩ : ∃ q, q = D.length := ⟨_, rfl⟩
    rw [← hq] at CH1 hl0
    have qI : (0 : Int) < (q : Int) := by omega
    have v4 : ((v : Int) == 4) = true := by rw [h4]; rfl
    clear hD hDD hq hl0 h4 h0 hx hxx hv hcell hb hR hR2 hn2 hc hZ hg2 hbad CA
    go_enter Try.func39, Try.ntmps39
    go_upto_region 1 with fail
    rw [← e0, ← HG2.out]
    clear e0
    go_wp2_with fail
    refine (CH1.out _ HR.out).mono ?_
    rintro e w1 ⟨A9, c9, rfl, d1, b1⟩
    have A4 := Lib.hid (HA.out.below b1)
    have B4 := Lib.hid (below_both HB.out b1)
    have D4 := Lib.hid d1
    clear d1 b1 HA HB c0
    go_wp2_with (first | refine wpList_store_v rfl 25 (.tmp 2) (.tmp 31) rfl _ rfl tyhead A4.out hZl Z hZl hZo rfl ?_ | fail)
    have HS := A4.out.store Z rfl
    exact bodyPost_ret (v := .tuple #[.agg Z.toArray, .slice none 0 0, .slice A9 q c9]) (res_cell_two Try.results39 rfl (HS.loadVar tyhead hZl) rfl rfl) rfl ⟨setCells_below g2 (by rw [HG2.out]; exact Nat.le_refl _) _ _ _ B4.out, _, rfl, D4.out.again A4.out⟩
  rw [if_neg h4] at hDD
  have v4 : ((v : Int) == 4) = false := beq_false_of_ne (by omega)
  by_cases h6 : v = 6
  · have CA := Lib.hid (fun w (hR : Row w (some ⟨b, o, none⟩) n bs) => rsxall_any (some ⟨b, o, none⟩) n c bs w (by omega) hc hR)
    unfold SxAllIs at CA
    rw [if_pos h6] at hDD
    rw [← hDD] at CA
    obtain ⟨D, hD⟩ : ∃ D, D = pkHeads n bs := ⟨_, rfl⟩
    rw [← hD] at CA hbad ⊢
    have CH1 : Hid (∀ W, Row W (some ⟨b, o, none⟩) n bs → Calls Try.prog 55 #[.slice (some ⟨b, o, none⟩) n c] W fun e w' => ∃ A9 c9, e = .returned (.slice A9 D.length c9) ∧ DefRead w' (.slice A9 D.length c9) D ∧ Below W.heap.size W w') := fun W hW => (CA.out W hW).mono fun e w' h => by
      obtain ⟨v, rfl, hd, hb⟩ := h
      obtain ⟨A9, c9, rfl, h4, h5⟩ := hd
      exact ⟨A9, c9, rfl, ⟨A9, c9, rfl, h4, h5⟩, hb⟩
    have hl0 : 0 < D.length := List.length_pos_iff.2 hbad
    obtain ⟨q, hq⟩ : ∃ q, q = D.length := ⟨_, rfl⟩
    rw [← hq] at CH1 hl0
    have qI : (0 : Int) < (q : Int) := by omega
    have v6 : ((v : Int) == 6) = true := by rw [h6]; rfl
    clear hD hDD hq hl0 h4 h6 h0 hx hxx hv hcell hb hR hR2 hn2 hc hZ hg2 hbad CA
    go_enter Try.func39, Try.ntmps39
    go_upto_region 1 with fail
    rw [← e0, ← HG2.out]
    clear e0
    go_wp2_with fail
    refine (CH1.out _ HR.out).mono ?_
    rintro e w1 ⟨A9, c9, rfl, d1, b1⟩
    have A4 := Lib.hid (HA.out.below b1)
    have B4 := Lib.hid (below_both HB.out b1)
    have D4 := Lib.hid d1
    clear d1 b1 HA HB c0
    go_wp2_with (first | refine wpList_store_v rfl 25 (.tmp 2) (.tmp 90) rfl _ rfl tyhead A4.out hZl Z hZl hZo rfl ?_ | fail)
    have HS := A4.out.store Z rfl
    exact bodyPost_ret (v := .tuple #[.agg Z.toArray, .slice none 0 0, .slice A9 q c9]) (res_cell_two Try.results39 rfl (HS.loadVar tyhead hZl) rfl rfl) rfl ⟨setCells_below g2 (by rw [HG2.out]; exact Nat.le_refl _) _ _ _ B4.out, _, rfl, D4.out.again A4.out⟩
  rw [if_neg h6] at hDD
  have v6 : ((v : Int) == 6) = false := beq_false_of_ne (by omega)
  rw [hDD]
  clear hDD h4 h6 h0 hx hxx hv hcell hb hR hR2 hn2 hc hZ hg2 hbad
  go_enter Try.func39, Try.ntmps39
  go_upto_region 1 with fail
  rw [← e0, ← HG2.out]
  clear e0
  go_upto_region 26 with fail
  have A6 := Lib.hid (HA.out.alloc (.cells #[.int .i64 (2 : Nat)] 26))
  have hnew : (V.alloc (.cells #[.int .i64 (2 : Nat)] 26)).heap[V.heap.size]? = some (.cells #[.int .i64 (2 : Nat)] 26 (0, 0)) := heap_alloc_new _ _
  have hne2 : V.heap.size ≠ g2 := Nat.ne_of_gt HA.out.lt
  have HN : Hid (DefRead ((V.alloc (.cells #[.int .i64 (2 : Nat)] 26)).setCells g2 0 Z) (.slice (some ⟨V.heap.size, 0, none⟩) 1 1) [2]) := def_at (t := 26) ((heap_setCells_far hne2 _ _ _).trans hnew)
  clear hnew hne2
  go_wp2_with (first | refine wpList_store_v rfl 25 (.tmp 2) (.tmp 130) rfl _ rfl tyhead A6.out hZl Z hZl hZo rfl ?_ | fail)
  have HS := A6.out.store Z rfl
  exact bodyPost_ret (v := .tuple #[.agg Z.toArray, .slice none 0 0, .slice (some ⟨V.heap.size, 0, none⟩) 1 1]) (res_cell_two Try.results39 rfl (HS.loadVar tyhead hZl) rfl rfl) rfl ⟨setCells_below g2 (by rw [HG2.out]; exact Nat.le_refl _) _ _ _ (HB.out.alloc HB.out.size _), _, rfl, HN.out⟩
end Go.Proofs.Ytcjaidpmfjnhpaa

namespace Go.Proofs.Ytcjaidpmfjnhpaa
open Go.RowKit
set_option linter.unusedVariables false
set_option maxRecDepth 8000

/-- What the document's whole tells of a packet. -/
def WhIs (n : Nat) (bs : List Nat) (w : World) (e : Ending) (w' : World) : Prop := ∃ A9 c9, e = .returned (.tuple #[.agg (pkHead n bs).toArray, .slice A9 (pkDefs n bs).length c9]) ∧ Below w.heap.size w w' ∧ DefRead w' (.slice A9 (pkDefs n bs).length c9) (pkDefs n bs)
theorem pkHead_bad {n : Nat} {bs : List Nat} (h : pkDefs n bs ≠ []) : pkHead n bs = hdCells RZ false 0 0 := by unfold pkHead; rw [if_neg h]
theorem rpkall_of (A : Option Addr) (n c : Nat) (bs : List Nat) (w : World) (hR : Row w A n bs) (CW : ∀ W, Row W A n bs → Calls Try.prog 24 #[.slice A n c] W (WhIs n bs W)) :
    Calls Try.prog 14 #[.slice A n c] w fun e w' => ∃ A9 c9, e = .returned (.slice A9 (pkDefs n bs).length c9) ∧ Below w.heap.size w w' ∧ DefRead w' (.slice A9 (pkDefs n bs).length c9) (pkDefs n bs) := by
  obtain ⟨Z, hZ⟩ : ∃ Z, Z = hdCells RZ false 0 0 := ⟨_, rfl⟩
  obtain ⟨hZl, hZo⟩ := hdCells_all rz_ok
  have hlit := hd_lit
  rw [← hZ] at hZl hZo hlit
  obtain ⟨Xl, Xo⟩ := pkHead_all hR.1 hR.2.1
  have CV : Hid (∀ W, Row W A n bs → Calls Try.prog 24 #[.slice A n c] W fun e w' => ∃ A9 c9, e = .returned (.tuple #[.agg (pkHead n bs).toArray, .slice A9 (pkDefs n bs).length c9]) ∧ Below W.heap.size W w' ∧ DefRead w' (.slice A9 (pkDefs n bs).length c9) (pkDefs n bs)) := CW
  have HR := Lib.hid hR
  obtain ⟨X, hX⟩ : ∃ X, X = pkHead n bs := ⟨_, rfl⟩
  obtain ⟨D, hD⟩ : ∃ D, D = pkDefs n bs := ⟨_, rfl⟩
  rw [← hX, ← hD] at CV
  rw [← hX] at Xl Xo
  rw [← hD]
  clear hX hD hR hZ CW
  go_enter Try.func14, Try.ntmps14
  go_wp2_with fail
  refine (CV.out _ HR.out).mono ?_
  rintro e w1 ⟨A9, c9, rfl, b1, d1⟩
  have D1 := Lib.hid d1
  have B1 := Lib.hid b1
  clear b1 d1
  go_upto_region 2 with (first | refine wpList_store_v rfl 25 (.tmp 3) (.tmp 8) rfl _ rfl tyhead (ArrV.new _ _ Z) hZl X Xl Xo rfl ?_ | fail)
  obtain ⟨V4, e4⟩ : ∃ V, V = (w1.alloc (.cells Z.toArray 25)).setCells w1.heap.size 0 X := ⟨_, rfl⟩
  obtain ⟨x4, hb4⟩ := ArrV.laid 25 w1 Z X (by rw [Xl, hZl])
  rw [← e4] at x4 hb4
  rw [← e4]
  have D4 := Lib.hid (D1.out.below hb4)
  have B4 := Lib.hid (below_both B1.out hb4)
  clear e4 hb4 x4 D1 B1
  go_wp2_with fail
  go_ret
  exact ⟨_, _, rfl, B4.out, D4.out⟩
end Go.Proofs.Ytcjaidpmfjnhpaa

namespace Go.Proofs.Ytcjaidpmfjnhpaa
open Go.RowKit
set_option linter.unusedVariables false
set_option maxRecDepth 8000

set_option maxHeartbeats 3200000 in
theorem rpkparse_of (A : Option Addr) (n c : Nat) (bs : List Nat) (w : World) (hR : Row w A n bs) (CW : ∀ W, Row W A n bs → Calls Try.prog 24 #[.slice A n c] W (WhIs n bs W)) :
    Calls Try.prog 6 #[.slice A n c] w fun e w' => e = .returned (.tuple #[.agg (pkHead n bs).toArray, .int .i64 (pkTold n bs : Nat)]) ∧ Below w.heap.size w w' := by
  obtain ⟨Z, hZ⟩ : ∃ Z, Z = hdCells RZ false 0 0 := ⟨_, rfl⟩
  obtain ⟨hZl, hZo⟩ := hdCells_all rz_ok
  have hlit := hd_lit
  obtain ⟨V, e0⟩ : ∃ V, V = w.alloc (.cells Z.toArray 25) := ⟨_, rfl⟩
  obtain ⟨Xl, Xo⟩ := pkHead_all hR.1 hR.2.1
  have CV : Hid (∀ W, Below w.heap.size w W → Calls Try.prog 24 #[.slice A n c] W fun e w' => ∃ A9 c9, e = .returned (.tuple #[.agg (pkHead n bs).toArray, .slice A9 (pkDefs n bs).length c9]) ∧ Below W.heap.size W w' ∧ DefRead w' (.slice A9 (pkDefs n bs).length c9) (pkDefs n bs)) := fun W h => CW W (hR.below h)
  have hT : pkDefs n bs ≠ [] → pkHead n bs = hdCells RZ false 0 0 := pkHead_bad
  have hT0 : pkDefs n bs = [] → pkTold n bs = 0 := pkTold_nil
  have hTd : ∀ d l, pkDefs n bs = d :: l → pkTold n bs = d := fun d l h => by unfold pkTold; rw [h]; rfl
  obtain ⟨X, hX⟩ : ∃ X, X = pkHead n bs := ⟨_, rfl⟩
  obtain ⟨D, hDD⟩ : ∃ D, D = pkDefs n bs := ⟨_, rfl⟩
  obtain ⟨d, hd⟩ : ∃ d, d = pkTold n bs := ⟨_, rfl⟩
  rw [← hX] at CV Xl Xo hT ⊢
  rw [← hDD] at CV hT hT0 hTd
  rw [← hd] at hT0 hTd ⊢
  rw [← hZ] at hZl hZo hlit hT
  have HA : Hid (ArrV 25 V w.heap.size Z) := by show ArrV _ _ _ _; rw [e0]; exact ArrV.new _ w Z
  have HB : Hid (Below w.heap.size w V) := by show Below _ _ _; rw [e0]; exact (Below.refl _ _).alloc (Nat.le_refl _) _
  obtain ⟨g2, hg2⟩ : ∃ g, g = w.heap.size := ⟨_, rfl⟩
  have HG2 := Lib.hid hg2
  rw [← hg2] at HA
  clear hX hDD hd hR hZ hg2 CW
  by_cases hD : D = []
  · subst hD
    have hd0 := hT0 rfl
    subst hd0
    clear hT hT0 hTd
    have CW : Hid (∀ W, Below w.heap.size w W → Calls Try.prog 24 #[.slice A n c] W fun e w' => ∃ A9 c9, e = .returned (.tuple #[.agg X.toArray, .slice A9 0 c9]) ∧ Below W.heap.size W w') := fun W h => (CV.out W h).mono fun e w' h => by
      obtain ⟨A9, c9, rfl, hb, _⟩ := h
      exact ⟨A9, c9, rfl, hb⟩
    go_enter Try.func6, Try.ntmps6
    go_upto_region 1 with fail
    rw [← e0, ← HG2.out]
    clear e0
    go_wp2_with fail
    refine (CW.out _ HB.out).mono ?_
    rintro e w1 ⟨A9, c9, rfl, b1⟩
    have A1 := Lib.hid (HA.out.below b1)
    have B1 := Lib.hid (below_both HB.out b1)
    clear b1
    go_upto_region 2 with (first | refine wpList_store_v rfl 25 (.tmp 4) (.tmp 9) rfl _ rfl tyhead (ArrV.new _ _ Z) hZl X Xl Xo rfl ?_ | fail)
    obtain ⟨V4, e4⟩ : ∃ V, V = (w1.alloc (.cells Z.toArray 25)).setCells w1.heap.size 0 X := ⟨_, rfl⟩
    have hb4 : Below w1.heap.size w1 V4 := by rw [e4]; exact setCells_below _ (Nat.le_refl _) _ _ _ ((Below.refl _ _).alloc (Nat.le_refl _) _)
    have X4 : Hid (ArrV 25 V4 w1.heap.size X) := by
      show ArrV _ _ _ _
      rw [e4]
      exact (ArrV.new _ w1 Z).store X (by rw [Xl, hZl])
    rw [← e4]
    obtain ⟨g4, hg4⟩ : ∃ g, g = w1.heap.size := ⟨_, rfl⟩
    have A4 := Lib.hid (A1.out.below hb4)
    have B4 := Lib.hid (below_both B1.out hb4)
    rw [← hg4] at X4 ⊢
    clear e4 hb4 A1 B1 hg4
    go_wp2_with (first | refine wpList_load_v rfl 25 (.tmp 4) rfl _ rfl tyhead X4.out Xl ?_ | refine wpList_store_v rfl 25 (.tmp 2) (.tmp 18) rfl _ rfl tyhead A4.out hZl X Xl Xo rfl ?_ | fail)
    have HS := A4.out.store X (by rw [Xl, hZl])
    exact bodyPost_ret (v := .tuple #[.agg X.toArray, .int .i64 (0 : Nat)]) (res_cell_tmp Try.results6 rfl (HS.loadVar tyhead Xl) rfl) rfl ⟨rfl, setCells_below g2 (by rw [HG2.out]; exact Nat.le_refl _) _ _ _ B4.out⟩
  · obtain ⟨d', l, rfl⟩ := List.exists_cons_of_ne_nil hD
    have hdd := hTd _ _ rfl
    subst hdd
    have hXZ := hT hD
    subst hXZ
    obtain ⟨q, hq⟩ : ∃ q, q = (d :: l).length := ⟨_, rfl⟩
    have hl0 : 0 < q := by rw [hq]; simp
    have CV : Hid (∀ W, Below w.heap.size w W → Calls Try.prog 24 #[.slice A n c] W fun e w' => ∃ b o c9, e = .returned (.tuple #[.agg X.toArray, .slice (some ⟨b, o, none⟩) q c9]) ∧ Below W.heap.size W w' ∧ w'.cell? ⟨b, o, none⟩ = some (.int .i64 (d : Nat)) ∧ b < w'.heap.size) := fun W h => (CV.out W h).mono fun e w' h => by
      obtain ⟨A9, c9, rfl, hb, h2⟩ := h
      obtain ⟨A8, c8, e8, _, h5⟩ := h2
      cases e8
      obtain ⟨b, o, ea, hlt, h1⟩ := h5 0 d rfl
      rw [Nat.add_zero] at h1
      rw [← hq]
      exact ⟨b, o, c9, by rw [ea], hb, h1, hlt⟩
    have qI : (0 : Int) < (q : Int) := by omega
    clear hT hT0 hTd hD hq hl0
    go_enter Try.func6, Try.ntmps6
    go_upto_region 1 with fail
    rw [← e0, ← HG2.out]
    clear e0
    go_wp2_with fail
    refine (CV.out _ HB.out).mono ?_
    rintro e w1 ⟨b, o, c9, rfl, b1, c0, hlt⟩
    have A1 := Lib.hid (HA.out.below b1)
    have B1 := Lib.hid (below_both HB.out b1)
    have C0 := Lib.hid (And.intro c0 hlt)
    clear b1 c0 hlt
    go_upto_region 2 with (first | refine wpList_store_v rfl 25 (.tmp 4) (.tmp 9) rfl _ rfl tyhead (ArrV.new _ _ X) hZl X Xl Xo rfl ?_ | fail)
    obtain ⟨V4, e4⟩ : ∃ V, V = (w1.alloc (.cells X.toArray 25)).setCells w1.heap.size 0 X := ⟨_, rfl⟩
    have hb4 : Below w1.heap.size w1 V4 := by rw [e4]; exact setCells_below _ (Nat.le_refl _) _ _ _ ((Below.refl _ _).alloc (Nat.le_refl _) _)
    have hA4 := A1.out.below hb4
    have A4 := Lib.hid hA4
    have B4 := Lib.hid (below_both B1.out hb4)
    have c1 : V4.cell? ⟨b, o, none⟩ = some (.int .i64 (d : Nat)) := (hb4.cell (p := ⟨b, o, none⟩) C0.out.2).trans C0.out.1
    have c2 : (V4.drew.setCells g2 0 X).cell? ⟨b, o, none⟩ = some (.int .i64 (d : Nat)) := by
      have h1 : DefRead V4 (.slice (some ⟨b, o, none⟩) 1 1) [d] := ⟨_, 1, rfl, Nat.le_refl _, fun i z hz => by
        have hi : i = 0 := by
          have := (List.getElem?_eq_some_iff.1 hz).1
          simp at this
          exact this
        subst hi
        simp at hz
        subst hz
        exact ⟨b, o, rfl, Nat.lt_of_lt_of_le C0.out.2 hb4.size, c1⟩⟩
      obtain ⟨A8, c8, e8, _, h5⟩ := (show DefRead V4.drew _ _ from h1).again hA4.drew
      cases e8
      obtain ⟨b', o', ea, _, h1⟩ := h5 0 d rfl
      cases ea
      rw [Nat.add_zero] at h1
      exact h1
    have hst := hA4.drew.stAll X rfl Xo
    rw [← e4]
    clear e4 hb4 A1 B1 hA4 C0
    go_upto_region 3 with fail
    go_region
    go_wp2_with fail
    have HS := A4.out.drew.store X rfl
    exact bodyPost_ret (v := .tuple #[.agg X.toArray, .int .i64 (d : Nat)]) (res_cell_tmp Try.results6 rfl (HS.loadVar tyhead Xl) rfl) rfl ⟨rfl, setCells_below g2 (by rw [HG2.out]; exact Nat.le_refl _) _ _ _ B4.out.drew⟩
end Go.Proofs.Ytcjaidpmfjnhpaa

namespace Go.Proofs.Ytcjaidpmfjnhpaa
open Go.RowKit
set_option linter.unusedVariables false
set_option maxRecDepth 8000

theorem rpkname_any (d : Int) (w : World) (h1 : -9223372036854775808 ≤ d) (h2 : d ≤ 9223372036854775807) :
    Calls Try.prog 16 #[.int .i64 d] w fun e w' => e = .returned (.string (pkName d)) ∧ Below w.heap.size w w' := by
  have HN : Hid (∀ i, i < 17 → (pkNames.map Value.string)[i]? = some (.string (pkNames.getD i ⟨#[]⟩))) := fun i hi => pkNames_at hi
  by_cases hneg : d < 0
  · have hr : pkName d = ⟨#[]⟩ := by unfold pkName; rw [if_neg (by omega)]
    rw [hr]
    clear hr
    go_enter Try.func16, Try.ntmps16
    go_upto_region 2 with fail
    rw [pknames_lit]
    have B4 : Hid (Below w.heap.size w (w.alloc (.cells (pkNames.map Value.string).toArray 9))) := (Below.refl _ _).alloc (Nat.le_refl _) _
    obtain ⟨V4, e4⟩ : ∃ V, V = w.alloc (.cells (pkNames.map Value.string).toArray 9) := ⟨_, rfl⟩
    rw [← e4] at B4 ⊢
    clear e4
    go_wp2_with fail
    go_ret
    exact ⟨rfl, B4.out⟩
  by_cases hbig : 16 < d
  · have hr : pkName d = ⟨#[]⟩ := by unfold pkName; rw [if_neg (by omega)]
    rw [hr]
    have hn2 : 0 ≤ d := by omega
    clear hr hneg
    go_enter Try.func16, Try.ntmps16
    go_upto_region 2 with fail
    rw [pknames_lit]
    have B4 : Hid (Below w.heap.size w (w.alloc (.cells (pkNames.map Value.string).toArray 9))) := (Below.refl _ _).alloc (Nat.le_refl _) _
    obtain ⟨V4, e4⟩ : ∃ V, V = w.alloc (.cells (pkNames.map Value.string).toArray 9) := ⟨_, rfl⟩
    rw [← e4] at B4 ⊢
    clear e4
    go_wp2_with fail
    go_ret
    exact ⟨rfl, B4.out⟩
  obtain ⟨i, rfl⟩ : ∃ i : Nat, d = (i : Nat) := ⟨d.toNat, by omega⟩
  have hi : i < 17 := by omega
  have hr : pkName (i : Int) = pkNames.getD i ⟨#[]⟩ := by
    unfold pkName
    rw [if_pos (by omega), Int.toNat_natCast]
  rw [hr]
  have hcell := HN.out i hi
  obtain ⟨s, hs⟩ : ∃ s, s = pkNames.getD i ⟨#[]⟩ := ⟨_, rfl⟩
  rw [← hs] at hcell ⊢
  have HC := Lib.hid hcell
  have i0 : 0 ≤ (i : Int) := by omega
  have i1 : (i : Int) < 17 := by omega
  have i2 : ¬ (16 : Int) < (i : Int) := by omega
  clear hr hneg hbig hs hcell hi h1 h2 HN
  go_enter Try.func16, Try.ntmps16
  go_upto_region 2 with fail
  rw [pknames_lit]
  have B4 : Hid (Below w.heap.size w (w.alloc (.cells (pkNames.map Value.string).toArray 9))) := (Below.refl _ _).alloc (Nat.le_refl _) _
  have x4 := ArrV.new 9 w (pkNames.map Value.string)
  obtain ⟨V4, e4⟩ : ∃ V, V = w.alloc (.cells (pkNames.map Value.string).toArray 9) := ⟨_, rfl⟩
  rw [← e4] at B4 x4 ⊢
  have c4 := (x4.get i).trans HC.out
  clear e4 x4
  go_wp2_with fail
  go_ret
  exact ⟨rfl, B4.out⟩
end Go.Proofs.Ytcjaidpmfjnhpaa

namespace Go.Proofs.Ytcjaidpmfjnhpaa
open Go.RowKit
set_option linter.unusedVariables false
set_option maxRecDepth 8000

/-- The class of a header of version 6, of its first two bytes. -/
theorem six_class {bs : List Nat} (hl : 8 ≤ bs.length) (hb : ∀ x ∈ bs, x < 256) : sxN (be (bs.take 8)) 0 = bs.getD 0 0 % 16 * 16 + bs.getD 1 0 / 16 := by
  match bs, hl, hb with
  | a :: b :: l, hl, hb =>
    have ha := hb a (by simp)
    have hbb := hb b (by simp)
    have hy := be_lt (l.take 6) (fun x hx => hb x (by simp [List.mem_of_mem_take hx]))
    have e6 : (l.take 6).length = 6 := by rw [List.length_take]; simp at hl; omega
    show be (a :: b :: l.take 6) / 2 ^ 52 % 2 ^ 8 = a % 16 * 16 + b / 16
    rw [be_cons, be_cons, List.length_cons, e6]
    rw [e6] at hy
    generalize be (l.take 6) = y at *
    omega
/-- A packet without a defect: its version, and the byte of its code point by its first two bytes. -/
theorem pk_class {n : Nat} {bs : List Nat} (hl : bs.length = n) (hb : ∀ x ∈ bs, x < 256) (h : pkDefs n bs = []) :
    20 ≤ n ∧ (((pkRec bs).v = 4 ∧ (pkRec bs).field = bs.getD 1 0) ∨ ((pkRec bs).v = 6 ∧ (pkRec bs).field = bs.getD 0 0 % 16 * 16 + bs.getD 1 0 / 16)) := by
  have hh := pkHeads_nil h
  obtain ⟨_, h1, h2, h3, _⟩ := pk_good hl hb hh
  have h20 : 20 ≤ n := by omega
  refine ⟨h20, ?_⟩
  unfold pkRec
  split
  · exact .inl ⟨rfl, rfl⟩
  · exact .inr ⟨rfl, six_class (by omega) hb⟩
theorem rpt_ints {x y u v f : Nat} (hx : x < 256) (hy : y < 256) (hu : u = x % 16) (hv : v = y / 16) (hf : f = u * 16 + v) :
    IntKind.i64.wrap (x : Int) = (x : Int) ∧ IntKind.i64.wrap (y : Int) = (y : Int) ∧ wrap64 (x : Int) = (x : Int) ∧ wrap64 (y : Int) = (y : Int) ∧ (x : Int).tmod 16 = (u : Int) ∧ (x : Int) % 16 = (u : Int) ∧ (y : Int).tdiv 16 = (v : Int) ∧ (y : Int) / 16 = (v : Int) ∧ IntKind.i64.wrap ((u : Int) * 16) = (u : Int) * 16 ∧ IntKind.i64.wrap ((u : Int) * 16 + (v : Int)) = (f : Int) ∧ (f : Int) % 256 = (f : Int) ∧ (y : Int) % 256 = (y : Int) ∧ IntKind.i64.wrap (u : Int) = (u : Int) ∧ IntKind.i64.wrap (v : Int) = (v : Int) := by
  subst hu hv hf
  refine ⟨IntWalk.i64_in _ (by omega), IntWalk.i64_in _ (by omega), by unfold wrap64; omega, by unfold wrap64; omega, ?_, by omega, ?_, by omega, IntWalk.i64_in _ (by omega), ?_, by omega, by omega, IntWalk.i64_in _ (by omega), IntWalk.i64_in _ (by omega)⟩
  · rw [Int.tmod_eq_emod_of_nonneg (by omega)]; omega
  · rw [Int.tdiv_eq_ediv_of_nonneg (by omega)]; omega
  · rw [IntWalk.i64_in _ (by omega)]; omega
set_option maxHeartbeats 3200000 in
theorem rpkpoint_of (A : Option Addr) (n c : Nat) (bs : List Nat) (w : World) (hR : Row w A n bs) (CP : ∀ W, Row W A n bs → Calls Try.prog 6 #[.slice A n c] W fun e w' => e = .returned (.tuple #[.agg (pkHead n bs).toArray, .int .i64 (pkTold n bs : Nat)]) ∧ Below W.heap.size W w') :
    Calls Try.prog 8 #[.slice A n c] w fun e w' => e = .returned (pkPoint n bs) ∧ Below w.heap.size w w' := by
  obtain ⟨Z, hZ⟩ : ∃ Z, Z = hdCells RZ false 0 0 := ⟨_, rfl⟩
  obtain ⟨hZl, hZo⟩ := hdCells_all rz_ok
  have hlit := hd_lit
  rw [← hZ] at hZl hZo hlit
  obtain ⟨Xl, Xo⟩ := pkHead_all hR.1 hR.2.1
  have CV := Lib.hid CP
  have HR := Lib.hid hR
  by_cases hD : pkDefs n bs = []
  · obtain ⟨h20, hcl⟩ := pk_class hR.1 hR.2.1 hD
    have hfl := (pkRec_ok hR.1 hR.2.1 (pkHeads_nil hD)).field
    have ht : pkTold n bs = 0 := pkTold_nil hD
    have hr : pkPoint n bs = .tuple #[.int .i64 ((pkRec bs).field / 4 : Nat), .int .i64 ((pkRec bs).field % 4 : Nat), .bool true] := by unfold pkPoint; rw [if_pos hD]
    have hX0 : (pkHead n bs)[0]? = some (.int .i64 ((pkRec bs).v : Nat)) := by unfold pkHead; rw [if_pos hD]; rfl
    have hx := hR.byte 0
    have hy := hR.byte 1
    obtain ⟨b, o, rfl, hb, hcell⟩ := hR.addr (by omega)
    have c0 := hcell 0 (by omega)
    have c1 := hcell 1 (by omega)
    simp only [Nat.add_zero] at c0
    rw [hr]
    rw [ht] at CV
    obtain ⟨X, hX⟩ : ∃ X, X = pkHead n bs := ⟨_, rfl⟩
    obtain ⟨f, hf⟩ : ∃ f, f = (pkRec bs).field := ⟨_, rfl⟩
    obtain ⟨v, hv⟩ : ∃ v, v = (pkRec bs).v := ⟨_, rfl⟩
    obtain ⟨x, hxx⟩ : ∃ x, x = bs.getD 0 0 := ⟨_, rfl⟩
    obtain ⟨y, hyy⟩ : ∃ y, y = bs.getD 1 0 := ⟨_, rfl⟩
    rw [← hX] at CV Xl Xo hX0
    rw [← hv] at hX0 hcl
    rw [← hf] at hcl hfl ⊢
    rw [← hxx] at hx c0 hcl
    rw [← hyy] at hy c1 hcl
    have CS := Lib.hid (fun w => rptsplit_any f w hfl)
    have n0 : (0 : Int) < (n : Int) := by omega
    have n1 : (1 : Int) < (n : Int) := by omega
    have HX0 := Lib.hid hX0
    have C01 := Lib.hid (And.intro c0 c1)
    have HB := Lib.hid hb
    clear hX hf hv hxx hyy hr ht hD h20 hX0 hcell hZ CP c0 c1 hb hR
    rcases hcl with ⟨rfl, hfy⟩ | ⟨rfl, hff⟩
    · subst hfy
      obtain ⟨_, i2, _, i4, _, _, _, _, _, _, _, i12, _⟩ := rpt_ints (x := x) (y := f) hx hy rfl rfl rfl
      clear hx hy hfl
      go_enter Try.func8, Try.ntmps8
      go_wp2_with fail
      refine (CV.out _ HR.out).mono ?_
      rintro e w1 ⟨rfl, b1⟩
      have B1 := Lib.hid b1
      clear b1
      go_upto_region 2 with (first | refine wpList_store_v rfl 25 (.tmp 5) (.tmp 13) rfl _ rfl tyhead (ArrV.new _ _ Z) hZl X Xl Xo rfl ?_ | fail)
      obtain ⟨V4, e4⟩ : ∃ V, V = (w1.alloc (.cells Z.toArray 25)).setCells w1.heap.size 0 X := ⟨_, rfl⟩
      obtain ⟨x4, hb4⟩ := ArrV.laid 25 w1 Z X (by rw [Xl, hZl])
      rw [← e4] at x4 hb4
      have q0 := (x4.get 0).trans HX0.out
      rw [← e4]
      obtain ⟨g4, hg4⟩ : ∃ g, g = w1.heap.size := ⟨_, rfl⟩
      have b4 := below_both B1.out hb4
      have c0 := (b4.cell (p := ⟨b, o, none⟩) HB.out).trans C01.out.1
      have c1 := (b4.cell (p := ⟨b, o + 1, none⟩) HB.out).trans C01.out.2
      have B4 := Lib.hid b4
      rw [← hg4] at q0 ⊢
      clear e4 hb4 x4 B1 hg4 b4
      go_wp2_with fail
      refine (CS.out _).mono ?_
      rintro e w' ⟨rfl, rfl⟩
      go_wp2_with fail
      go_ret3
      exact ⟨rfl, B4.out⟩
    · obtain ⟨u, hu⟩ : ∃ u, u = x % 16 := ⟨_, rfl⟩
      obtain ⟨v, hv⟩ : ∃ v, v = y / 16 := ⟨_, rfl⟩
      rw [← hu, ← hv] at hff
      obtain ⟨i1, i2, i3, i4, i5, i6, i7, i8, i9, i10, i11, i12, i13, i14⟩ := rpt_ints hx hy hu hv hff
      clear hx hy hfl hu hv hff
      go_enter Try.func8, Try.ntmps8
      go_wp2_with fail
      refine (CV.out _ HR.out).mono ?_
      rintro e w1 ⟨rfl, b1⟩
      have B1 := Lib.hid b1
      clear b1
      go_upto_region 2 with (first | refine wpList_store_v rfl 25 (.tmp 5) (.tmp 13) rfl _ rfl tyhead (ArrV.new _ _ Z) hZl X Xl Xo rfl ?_ | fail)
      obtain ⟨V4, e4⟩ : ∃ V, V = (w1.alloc (.cells Z.toArray 25)).setCells w1.heap.size 0 X := ⟨_, rfl⟩
      obtain ⟨x4, hb4⟩ := ArrV.laid 25 w1 Z X (by rw [Xl, hZl])
      rw [← e4] at x4 hb4
      have q0 := (x4.get 0).trans HX0.out
      rw [← e4]
      obtain ⟨g4, hg4⟩ : ∃ g, g = w1.heap.size := ⟨_, rfl⟩
      have b4 := below_both B1.out hb4
      have c0 := (b4.cell (p := ⟨b, o, none⟩) HB.out).trans C01.out.1
      have c1 := (b4.cell (p := ⟨b, o + 1, none⟩) HB.out).trans C01.out.2
      have B4 := Lib.hid b4
      rw [← hg4] at q0 ⊢
      clear e4 hb4 x4 B1 hg4 b4
      go_upto_region 6 with fail
      go_quiet (fail)
      go_wp2_with fail
      refine (CS.out _).mono ?_
      rintro e w' ⟨rfl, rfl⟩
      go_wp2_with fail
      go_ret3
      exact ⟨rfl, below_drewN' B4.out _⟩
  · have hne : pkTold n bs ≠ 0 := fun h => hD (pkTold_zero.1 h)
    have hr : pkPoint n bs = .tuple #[.int .i64 0, .int .i64 0, .bool false] := by unfold pkPoint; rw [if_neg hD]
    rw [hr]
    obtain ⟨X, hX⟩ : ∃ X, X = pkHead n bs := ⟨_, rfl⟩
    obtain ⟨d, hd⟩ : ∃ d, d = pkTold n bs := ⟨_, rfl⟩
    rw [← hX, ← hd] at CV
    rw [← hX] at Xl Xo
    rw [← hd] at hne
    have db : ((d : Int) != 0) = true := bne_iff_ne.2 (by omega)
    clear hX hd hr hD hne hZ CP hR
    go_enter Try.func8, Try.ntmps8
    go_wp2_with fail
    refine (CV.out _ HR.out).mono ?_
    rintro e w1 ⟨rfl, b1⟩
    have B1 := Lib.hid b1
    clear b1
    go_upto_region 2 with (first | refine wpList_store_v rfl 25 (.tmp 5) (.tmp 13) rfl _ rfl tyhead (ArrV.new _ _ Z) hZl X Xl Xo rfl ?_ | fail)
    obtain ⟨V4, e4⟩ : ∃ V, V = (w1.alloc (.cells Z.toArray 25)).setCells w1.heap.size 0 X := ⟨_, rfl⟩
    obtain ⟨x4, hb4⟩ := ArrV.laid 25 w1 Z X (by rw [Xl, hZl])
    rw [← e4] at x4 hb4
    rw [← e4]
    have B4 := Lib.hid (below_both B1.out hb4)
    clear e4 hb4 x4 B1
    go_wp2_with fail
    go_ret3
    exact ⟨rfl, B4.out⟩
end Go.Proofs.Ytcjaidpmfjnhpaa

namespace Go.Proofs.Ytcjaidpmfjnhpaa
open Go.RowKit
set_option linter.unusedVariables false
set_option maxRecDepth 8000

set_option maxHeartbeats 3200000 in
theorem rpkkey_of (A : Option Addr) (n c : Nat) (bs : List Nat) (w : World) (hR : Row w A n bs) (CP : ∀ W, Row W A n bs → Calls Try.prog 6 #[.slice A n c] W fun e w' => e = .returned (.tuple #[.agg (pkHead n bs).toArray, .int .i64 (pkTold n bs : Nat)]) ∧ Below W.heap.size W w') (CP2 : ∀ W, Row W A n bs → Calls Try.prog 8 #[.slice A n c] W fun e w' => e = .returned (pkPoint n bs) ∧ Below W.heap.size W w') :
    Calls Try.prog 10 #[.slice A n c] w fun e w' => e = .returned (.tuple #[.agg (pkKey n bs).toArray, .int .i64 (pkTold n bs : Nat)]) ∧ Below w.heap.size w w' := by
  obtain ⟨Z, hZ⟩ : ∃ Z, Z = hdCells RZ false 0 0 := ⟨_, rfl⟩
  obtain ⟨hZl, hZo⟩ := hdCells_all rz_ok
  have hlit := hd_lit
  have hlit2 := ky_lit
  obtain ⟨Y, hY⟩ : ∃ Y, Y = kyCells RZ false 0 0 := ⟨_, rfl⟩
  have hYl : Y.length = 38 := by rw [hY]; rfl
  have hYo : ∀ v ∈ Y, v.oneCell' = true := by rw [hY]; exact (kyCells_all rz_ok).2
  rw [← hY] at hlit2
  rw [← hZ] at hZl hZo hlit
  obtain ⟨Xl, Xo⟩ := pkHead_all hR.1 hR.2.1
  obtain ⟨Kl, Ko⟩ := pkKey_all hR.1 hR.2.1
  have CV : Hid (∀ W, Below w.heap.size w W → Calls Try.prog 6 #[.slice A n c] W fun e w' => e = .returned (.tuple #[.agg (pkHead n bs).toArray, .int .i64 (pkTold n bs : Nat)]) ∧ Below W.heap.size W w') := fun W h => CP W (hR.below h)
  obtain ⟨V, e0⟩ : ∃ V, V = w.alloc (.cells Y.toArray 32) := ⟨_, rfl⟩
  have HA : Hid (ArrV 32 V w.heap.size Y) := by show ArrV _ _ _ _; rw [e0]; exact ArrV.new _ w Y
  have HB : Hid (Below w.heap.size w V) := by show Below _ _ _; rw [e0]; exact (Below.refl _ _).alloc (Nat.le_refl _) _
  obtain ⟨g2, hg2⟩ : ∃ g, g = w.heap.size := ⟨_, rfl⟩
  have HG2 := Lib.hid hg2
  rw [← hg2] at HA
  by_cases hD : pkDefs n bs = []
  · have ht : pkTold n bs = 0 := pkTold_nil hD
    have hok := pkRec_ok hR.1 hR.2.1 (pkHeads_nil hD)
    have hKe : pkKey n bs = kyCells (pkRec bs) (pkRec bs).has ((pkRec bs).ports bs).1 ((pkRec bs).ports bs).2.1 := by unfold pkKey; rw [if_pos hD]
    have hXe : pkHead n bs = hdCells (pkRec bs) (pkRec bs).has ((pkRec bs).ports bs).1 ((pkRec bs).ports bs).2.1 := by unfold pkHead; rw [if_pos hD]
    rw [ht] at CV ⊢
    have hPe : pkPoint n bs = .tuple #[.int .i64 ((pkRec bs).field / 4 : Nat), .int .i64 ((pkRec bs).field % 4 : Nat), .bool true] := by unfold pkPoint; rw [if_pos hD]
    have CS : Hid (∀ W, Below w.heap.size w W → Calls Try.prog 8 #[.slice A n c] W fun e w' => e = .returned (.tuple #[.int .i64 ((pkRec bs).field / 4 : Nat), .int .i64 ((pkRec bs).field % 4 : Nat), .bool true]) ∧ Below W.heap.size W w') := fun W h => hPe ▸ CP2 W (hR.below h)
    rw [hKe] at Kl Ko ⊢
    rw [hXe] at CV Xl Xo
    have hfl := hok.field
    have hbs : (bcells (pkRec bs).src).length = 16 := by rw [bcells_length, hok.sl]
    have hbd : (bcells (pkRec bs).dst).length = 16 := by rw [bcells_length, hok.dl]
    have HSO := Lib.hid (And.intro (bcells_one (pkRec bs).src) (bcells_one (pkRec bs).dst))
    obtain ⟨r, hr⟩ : ∃ r, r = pkRec bs := ⟨_, rfl⟩
    obtain ⟨x, hx⟩ : ∃ x, x = ((pkRec bs).ports bs).1 := ⟨_, rfl⟩
    obtain ⟨y, hy⟩ : ∃ y, y = ((pkRec bs).ports bs).2.1 := ⟨_, rfl⟩
    rw [← hx, ← hy] at CV Xl Xo Kl Ko ⊢
    rw [← hr] at CV CS Xl Xo Kl Ko hfl hbs hbd HSO ⊢
    obtain ⟨S, hS⟩ : ∃ S, S = bcells r.src := ⟨_, rfl⟩
    obtain ⟨T, hT⟩ : ∃ T, T = bcells r.dst := ⟨_, rfl⟩
    obtain ⟨X, hX⟩ : ∃ X, X = hdCells r r.has x y := ⟨_, rfl⟩
    obtain ⟨K, hK⟩ : ∃ K, K = kyCells r r.has x y := ⟨_, rfl⟩
    have HXE : Hid (X = .int .i64 (r.v : Nat) :: (S ++ (T ++ hdTail r r.has x y))) := by show _ = _; rw [hX, hS, hT]; rfl
    have HKE : Hid (K = .int .i64 (r.v : Nat) :: (S ++ (T ++ kyTail r r.has x y))) := by show _ = _; rw [hK, hS, hT]; rfl
    rw [← hX] at CV Xl Xo
    rw [← hK] at Kl Ko ⊢
    rw [← hS] at hbs HSO
    rw [← hT] at hbd HSO
    obtain ⟨p1, hp1⟩ : ∃ p, p = r.field / 4 := ⟨_, rfl⟩
    obtain ⟨p2, hp2⟩ : ∃ p, p = r.field % 4 := ⟨_, rfl⟩
    rw [← hp1, ← hp2] at CS
    have HP14 := Lib.hid hp1
    clear hS hT hX hK hr hx hy hXe hKe hPe ht hD hok hR hZ hY hg2 hfl CP CP2 hp1 hp2
    go_enter Try.func10, Try.ntmps10
    go_upto_region 1 with fail
    rw [← e0, ← HG2.out]
    clear e0 hlit2
    go_wp2_with fail
    refine (CV.out _ HB.out).mono ?_
    rintro e w1 ⟨rfl, b1⟩
    have A1 := Lib.hid (HA.out.below b1)
    have B1 := Lib.hid (below_both HB.out b1)
    clear b1
    go_upto_region 2 with (first | refine wpList_store_v rfl 25 (.tmp 4) (.tmp 12) rfl _ rfl tyhead (ArrV.new _ _ Z) hZl X Xl Xo rfl ?_ | fail)
    obtain ⟨V4, e4⟩ : ∃ V, V = (w1.alloc (.cells Z.toArray 25)).setCells w1.heap.size 0 X := ⟨_, rfl⟩
    obtain ⟨x4, hb4⟩ := ArrV.laid 25 w1 Z X (by rw [Xl, hZl])
    rw [← e4] at x4 hb4
    rw [← e4]
    have X4 := Lib.hid x4
    obtain ⟨g4, hg4⟩ : ∃ g, g = w1.heap.size := ⟨_, rfl⟩
    have A4 := Lib.hid (A1.out.below hb4)
    have B4 := Lib.hid (below_both B1.out hb4)
    rw [← hg4] at X4 ⊢
    have hx4 := X4.out
    rw [HXE.out] at hx4
    have q0 := hx4.get 0
    have q33 := (hx4.get 33).trans (three_at hbs hbd 0)
    have q37 := (hx4.get 37).trans (three_at hbs hbd 4)
    have q38 := (hx4.get 38).trans (three_at hbs hbd 5)
    have q39 := (hx4.get 39).trans (three_at hbs hbd 6)
    simp only [hdTail, List.getElem?_cons_zero, List.getElem?_cons_succ] at q0 q33 q37 q38 q39
    clear e4 hb4 x4 A1 B1 hg4 hx4
    go_wp2_with fail
    refine (CS.out _ B4.out).mono ?_
    rintro e w5 ⟨rfl, b5⟩
    have q0 := (b5.cell (p := ⟨g4, 0, none⟩) X4.out.lt).trans q0
    have q33 := (b5.cell (p := ⟨g4, 33, none⟩) X4.out.lt).trans q33
    have q37 := (b5.cell (p := ⟨g4, 37, none⟩) X4.out.lt).trans q37
    have q38 := (b5.cell (p := ⟨g4, 38, none⟩) X4.out.lt).trans q38
    have q39 := (b5.cell (p := ⟨g4, 39, none⟩) X4.out.lt).trans q39
    have X4 := Lib.hid (X4.out.below b5)
    have A4 := Lib.hid (A4.out.below b5)
    have B4 := Lib.hid (below_both B4.out b5)
    clear b5
    have HP1 : Hid (∀ (j : Nat) v, S[j]? = some v → X[1 + j]? = some v) := fun j v hv => by
      rw [HXE.out, Nat.add_comm, List.getElem?_cons_succ, List.getElem?_append_left (List.getElem?_eq_some_iff.1 hv).1]
      exact hv
    have HP2 : Hid (∀ (j : Nat) v, T[j]? = some v → X[17 + j]? = some v) := fun j v hv => by
      rw [HXE.out, show 17 + j = (16 + j) + 1 by omega, List.getElem?_cons_succ, List.getElem?_append_right (by omega), hbs, Nat.add_sub_cancel_left, List.getElem?_append_left (List.getElem?_eq_some_iff.1 hv).1]
      exact hv
    obtain ⟨SA, hSA⟩ : ∃ l, l = S := ⟨_, rfl⟩
    obtain ⟨TA, hTA⟩ : ∃ l, l = T := ⟨_, rfl⟩
    obtain ⟨s0, s1, s2, s3, s4, s5, s6, s7, s8, s9, s10, s11, s12, s13, s14, s15, hS⟩ := sixteenV hbs
    obtain ⟨t0, t1, t2, t3, t4, t5, t6, t7, t8, t9, t10, t11, t12, t13, t14, t15, hT⟩ := sixteenV hbd
    have hlitK : (#[.int .i64 (r.v : Nat), s0, s1, s2, s3, s4, s5, s6, s7, s8, s9, s10, s11, s12, s13, s14, s15, t0, t1, t2, t3, t4, t5, t6, t7, t8, t9, t10, t11, t12, t13, t14, t15, .int .i64 r.proto, .int .i64 (p1 : Nat), .bool r.has, .int .i64 (x : Nat), .int .i64 (y : Nat)] : Array Value) = K.toArray := by rw [HKE.out, hS, hT, HP14.out]; rfl
    subst hS
    subst hT
    clear hSA hTA HSO
    go_upto_region 5 with fail
    go_wp2_with (first | refine wpList_load_part rfl 23 (.tmp 26) rfl _ 1 rfl ty16 X4.out HP1.out hbs ?_ | refine wpList_load_part rfl 23 (.tmp 28) rfl _ 17 rfl ty16 X4.out HP2.out hbd ?_ | refine wpList_store_v rfl 32 (.tmp 2) (.tmp 39) rfl _ rfl pktykey A4.out hYl K Kl Ko rfl ?_ | fail)
    have HS := A4.out.store K (by rw [Kl, hYl])
    exact bodyPost_ret (v := .tuple #[.agg K.toArray, .int .i64 (0 : Nat)]) (res_cell_tmp Try.results10 rfl (HS.loadVar pktykey Kl) rfl) rfl ⟨rfl, setCells_below g2 (by rw [HG2.out]; exact Nat.le_refl _) _ _ _ B4.out⟩
  · have hne : pkTold n bs ≠ 0 := fun h => hD (pkTold_zero.1 h)
    have hKe : pkKey n bs = Y := by unfold pkKey; rw [if_neg hD, hY]
    rw [hKe]
    obtain ⟨X, hX⟩ : ∃ X, X = pkHead n bs := ⟨_, rfl⟩
    obtain ⟨d, hd⟩ : ∃ d, d = pkTold n bs := ⟨_, rfl⟩
    rw [← hX, ← hd] at CV
    rw [← hX] at Xl Xo
    rw [← hd] at hne ⊢
    have db : ((d : Int) != 0) = true := bne_iff_ne.2 (by omega)
    clear hX hd hKe Kl Ko hD hne hR hZ hY hg2 CP CP2
    go_enter Try.func10, Try.ntmps10
    go_upto_region 1 with fail
    rw [← e0, ← HG2.out]
    clear e0
    go_wp2_with fail
    refine (CV.out _ HB.out).mono ?_
    rintro e w1 ⟨rfl, b1⟩
    have A1 := Lib.hid (HA.out.below b1)
    have B1 := Lib.hid (below_both HB.out b1)
    clear b1
    go_upto_region 2 with (first | refine wpList_store_v rfl 25 (.tmp 4) (.tmp 12) rfl _ rfl tyhead (ArrV.new _ _ Z) hZl X Xl Xo rfl ?_ | fail)
    obtain ⟨V4, e4⟩ : ∃ V, V = (w1.alloc (.cells Z.toArray 25)).setCells w1.heap.size 0 X := ⟨_, rfl⟩
    obtain ⟨x4, hb4⟩ := ArrV.laid 25 w1 Z X (by rw [Xl, hZl])
    rw [← e4] at x4 hb4
    rw [← e4]
    have A4 := Lib.hid (A1.out.below hb4)
    have B4 := Lib.hid (below_both B1.out hb4)
    clear e4 hb4 x4 A1 B1
    go_wp2_with (first | refine wpList_store_v rfl 32 (.tmp 2) (.tmp 16) rfl _ rfl pktykey A4.out hYl Y hYl hYo rfl ?_ | fail)
    have HS := A4.out.store Y rfl
    exact bodyPost_ret (v := .tuple #[.agg Y.toArray, .int .i64 (d : Nat)]) (res_cell_tmp Try.results10 rfl (HS.loadVar pktykey hYl) rfl) rfl ⟨rfl, setCells_below g2 (by rw [HG2.out]; exact Nat.le_refl _) _ _ _ B4.out⟩
end Go.Proofs.Ytcjaidpmfjnhpaa

namespace Go.Proofs.Ytcjaidpmfjnhpaa
open Go.RowKit
set_option linter.unusedVariables false
set_option maxRecDepth 8000

set_option maxHeartbeats 6400000 in
theorem rwhole_of (b : Value) (D : List Nat) (r : PkRec) (P : Option Addr) (m pc : Nat) (hm2 : m ≤ 140737488355328) (L : List Nat) {x y d : Nat} (hok : r.Ok x y) (hr : (if r.has = true then poRead r.proto m L (decide (r.frag = 1)) else (0, 0, 0)) = (x, y, d)) (w : World) (hR : Row w P m L)
    (CH : ∀ W, Below w.heap.size w W → Calls Try.prog 39 #[b] W (PrIs D r (.slice P m pc) W)) :
    Calls Try.prog 24 #[b] w (WrIs (if D ≠ [] then D else if d ≠ 0 then [d] else []) r x y w) := by
  obtain ⟨Z, hZ⟩ : ∃ Z, Z = hdCells RZ false 0 0 := ⟨_, rfl⟩
  obtain ⟨hZl, hZo⟩ := hdCells_all rz_ok
  have hlit := hd_lit
  obtain ⟨V, e0⟩ : ∃ V, V = w.alloc (.cells Z.toArray 25) := ⟨_, rfl⟩
  have CH := Lib.hid CH
  unfold PrIs at CH
  unfold WrIs
  rw [← hZ] at CH hZl hZo hlit ⊢
  have HA : Hid (ArrV 25 V w.heap.size Z) := by show ArrV _ _ _ _; rw [e0]; exact ArrV.new _ w Z
  have HB : Hid (Below w.heap.size w V) := by show Below _ _ _; rw [e0]; exact (Below.refl _ _).alloc (Nat.le_refl _) _
  obtain ⟨g2, hg2⟩ : ∃ g, g = w.heap.size := ⟨_, rfl⟩
  have HG2 := Lib.hid hg2
  rw [← hg2] at HA
  by_cases hD : D = []
  · have CH1 : Hid (∀ W, Below w.heap.size w W → Calls Try.prog 39 #[b] W fun e w' => e = .returned (.tuple #[.agg (hdCells r false 0 0).toArray, .slice P m pc, .slice none 0 0]) ∧ Below W.heap.size W w') := fun W hW => (CH.out W hW).mono fun e w' h => ⟨h.2.2 hD, h.1⟩
    rw [if_neg (fun h => h hD)]
    have hbs : (bcells r.src).length = 16 := by rw [bcells_length, hok.sl]
    have hbd : (bcells r.dst).length = 16 := by rw [bcells_length, hok.dl]
    have hX0 : hdCells r false 0 0 = .int .i64 (r.v : Nat) :: (bcells r.src ++ (bcells r.dst ++ hdTail r false 0 0)) := rfl
    obtain ⟨Xl, Xo⟩ := hdCells_all (has := false) hok.zero
    have h33 : (hdCells r false 0 0)[33]? = some (.int .i64 r.proto) := three_at hbs hbd 0
    have h36 : (hdCells r false 0 0)[36]? = some (.int .i64 (r.frag : Nat)) := three_at hbs hbd 3
    have h37 : (hdCells r false 0 0)[37]? = some (.bool false) := three_at hbs hbd 4
    have h38 : (hdCells r false 0 0)[38]? = some (.int .i64 0) := three_at hbs hbd 5
    have h39 : (hdCells r false 0 0)[39]? = some (.int .i64 0) := three_at hbs hbd 6
    have hset : (((hdCells r false 0 0).set 37 (.bool true)).set 38 (.int .i64 (x : Nat))).set 39 (.int .i64 (y : Nat)) = hdCells r true x y := by
      unfold hdCells
      rw [show 37 = 33 + 4 from rfl, three_set hbs hbd, show 38 = 33 + 5 from rfl, three_set hbs hbd, show 39 = 33 + 6 from rfl, three_set hbs hbd]
      rfl
    obtain ⟨p, hp⟩ : ∃ p, p = r.proto := ⟨_, rfl⟩
    obtain ⟨f, hf⟩ : ∃ f, f = r.frag := ⟨_, rfl⟩
    have CL := Lib.hid (rpoleast_any p)
    have hhas : r.has = true ↔ ¬ f = 2 ∧ ¬ poLeast p = 0 := by rw [hf, hp]; exact pkhas_iff r
    have hnot : ¬ (¬ f = 2 ∧ ¬ poLeast p = 0) → x = 0 ∧ y = 0 ∧ d = 0 ∧ hdCells r r.has x y = hdCells r false 0 0 := fun h => by
      have hh : r.has = false := by
        cases g : r.has
        · rfl
        · exact absurd (hhas.1 g) h
      rw [hh] at hr
      injection hr with h1 h2
      injection h2 with h2 h3
      subst h1 h2 h3
      rw [hh]
      exact ⟨rfl, rfl, rfl, rfl⟩
    obtain ⟨l, hl⟩ : ∃ l, l = poLeast p := ⟨_, rfl⟩
    rw [← hl] at CL hnot hhas
    obtain ⟨X, hX⟩ : ∃ X, X = hdCells r false 0 0 := ⟨_, rfl⟩
    rw [← hX] at CH1 Xl Xo h33 h36 h37 h38 h39 hset hnot
    rw [← hp] at h33
    rw [← hf] at h36
    have HX33 := Lib.hid h33
    have HX36 := Lib.hid h36
    have HR := Lib.hid hR
    by_cases f2 : f = 2
    · obtain ⟨rfl, rfl, rfl, he⟩ := hnot (fun h => h.1 f2)
      rw [he, if_neg (fun h => h rfl)]
      subst f2
      clear hnot hhas he hset h33 h36 h37 h38 h39 hX hX0 hp hf hl hr hok hD CH CL hZ hg2 hR hbs hbd
      go_enter Try.func24, Try.ntmps24
      go_upto_region 1 with fail
      rw [← e0, ← HG2.out]
      clear e0
      go_wp2_with fail
      refine (CH1.out _ HB.out).mono ?_
      rintro e w1 ⟨rfl, b1⟩
      have HA1 := Lib.hid (HA.out.below b1)
      have B1 := Lib.hid (below_both HB.out b1)
      clear b1
      go_upto_region 2 with (first | refine wpList_store_v rfl 25 (.tmp 4) (.tmp 13) rfl _ rfl tyhead (ArrV.new _ _ Z) hZl X Xl Xo rfl ?_ | fail)
      obtain ⟨V4, e4⟩ : ∃ V, V = (w1.alloc (.cells Z.toArray 25)).setCells w1.heap.size 0 X := ⟨_, rfl⟩
      obtain ⟨x4, hb4⟩ := ArrV.laid 25 w1 Z X (by rw [Xl, hZl])
      rw [← e4] at x4 hb4
      rw [← e4]
      have X4 := Lib.hid x4
      have q36 := (x4.get 36).trans HX36.out
      obtain ⟨g4, hg4⟩ : ∃ g, g = w1.heap.size := ⟨_, rfl⟩
      have A4 := Lib.hid (HA1.out.below hb4)
      have B4 := Lib.hid (below_both B1.out hb4)
      rw [← hg4] at X4 q36 ⊢
      clear e4 hb4 x4 HA1 B1 hg4
      go_wp2_with (first | refine wpList_load_v rfl 25 (.tmp 4) rfl _ rfl tyhead X4.out Xl ?_ | refine wpList_store_v rfl 25 (.tmp 2) (.tmp 30) rfl _ rfl tyhead A4.out hZl X Xl Xo rfl ?_ | fail)
      have HS := A4.out.store X (by rw [Xl, hZl])
      exact bodyPost_ret (v := .tuple #[.agg X.toArray, .slice none 0 0]) (res_cell_tmp Try.results24 rfl (HS.loadVar tyhead Xl) rfl) rfl ⟨setCells_below g2 (by rw [HG2.out]; exact Nat.le_refl _) _ _ _ B4.out, fun h => absurd rfl h, fun _ => rfl⟩
    have fb : ((f : Int) == 2) = false := beq_false_of_ne (by omega)
    by_cases l0 : l = 0
    · obtain ⟨rfl, rfl, rfl, he⟩ := hnot (fun h => h.2 l0)
      rw [he, if_neg (fun h => h rfl)]
      subst l0
      clear hnot hhas he hset h33 h36 h37 h38 h39 hX hX0 hp hf hl hr hok hD CH f2 hZ hg2 hR hbs hbd
      go_enter Try.func24, Try.ntmps24
      go_upto_region 1 with fail
      rw [← e0, ← HG2.out]
      clear e0
      go_wp2_with fail
      refine (CH1.out _ HB.out).mono ?_
      rintro e w1 ⟨rfl, b1⟩
      have HA1 := Lib.hid (HA.out.below b1)
      have B1 := Lib.hid (below_both HB.out b1)
      clear b1
      go_upto_region 2 with (first | refine wpList_store_v rfl 25 (.tmp 4) (.tmp 13) rfl _ rfl tyhead (ArrV.new _ _ Z) hZl X Xl Xo rfl ?_ | fail)
      obtain ⟨V4, e4⟩ : ∃ V, V = (w1.alloc (.cells Z.toArray 25)).setCells w1.heap.size 0 X := ⟨_, rfl⟩
      obtain ⟨x4, hb4⟩ := ArrV.laid 25 w1 Z X (by rw [Xl, hZl])
      rw [← e4] at x4 hb4
      rw [← e4]
      have X4 := Lib.hid x4
      have q36 := (x4.get 36).trans HX36.out
      have q33 := (x4.get 33).trans HX33.out
      obtain ⟨g4, hg4⟩ : ∃ g, g = w1.heap.size := ⟨_, rfl⟩
      have A4 := Lib.hid (HA1.out.below hb4)
      have B4 := Lib.hid (below_both B1.out hb4)
      rw [← hg4] at X4 q36 q33 ⊢
      clear e4 hb4 x4 HA1 B1 hg4
      go_wp2_with fail
      refine (CL.out _).mono ?_
      rintro e w' ⟨rfl, rfl⟩
      go_wp2_with (first | refine wpList_load_v rfl 25 (.tmp 4) rfl _ rfl tyhead X4.out Xl ?_ | refine wpList_store_v rfl 25 (.tmp 2) (.tmp 30) rfl _ rfl tyhead A4.out hZl X Xl Xo rfl ?_ | fail)
      have HS := A4.out.store X (by rw [Xl, hZl])
      exact bodyPost_ret (v := .tuple #[.agg X.toArray, .slice none 0 0]) (res_cell_tmp Try.results24 rfl (HS.loadVar tyhead Xl) rfl) rfl ⟨setCells_below g2 (by rw [HG2.out]; exact Nat.le_refl _) _ _ _ B4.out, fun h => absurd rfl h, fun _ => rfl⟩
    have lb : ((l : Int) == 0) = false := beq_false_of_ne (by omega)
    have hh : r.has = true := hhas.2 ⟨f2, l0⟩
    rw [hh, if_pos rfl] at hr
    have CR := Lib.hid (fun w (hR : Row w P m L) => rporead_any r.proto P m pc L (decide (r.frag = 1)) w hm2 hR)
    rw [hr, ← hp, ← hf] at CR
    unfold PoReadIs Quiet at CR
    simp only at CR
    obtain ⟨q1, hq1⟩ : ∃ b : Bool, b = decide (f = 1) := ⟨_, rfl⟩
    have hq2 : ((f : Int) == 1) = q1 := by
      rw [hq1]
      by_cases h : f = 1
      · subst h; rfl
      · rw [decide_eq_false h]; exact beq_false_of_ne (by omega)
    rw [← hq1] at CR
    obtain ⟨Yl, Yo⟩ := hdCells_all (has := r.has) hok
    rw [hh] at Yl Yo ⊢
    obtain ⟨Y, hY⟩ : ∃ Y, Y = hdCells r true x y := ⟨_, rfl⟩
    rw [← hY] at hset Yl Yo ⊢
    have HSET := Lib.hid hset
    have H37 := Lib.hid (And.intro h37 (And.intro h38 h39))
    by_cases hd0 : d = 0
    · subst hd0
      rw [if_neg (fun h => h rfl)]
      clear hnot hhas hset h33 h36 h37 h38 h39 hX hX0 hp hf hl hr hok hD CH f2 l0 hZ hg2 hR hbs hbd hh hq1 hY
      go_enter Try.func24, Try.ntmps24
      go_upto_region 1 with fail
      rw [← e0, ← HG2.out]
      clear e0
      go_wp2_with fail
      refine (CH1.out _ HB.out).mono ?_
      rintro e w1 ⟨rfl, b1⟩
      have HA1 := Lib.hid (HA.out.below b1)
      have B1 := Lib.hid (below_both HB.out b1)
      clear b1
      go_upto_region 2 with (first | refine wpList_store_v rfl 25 (.tmp 4) (.tmp 13) rfl _ rfl tyhead (ArrV.new _ _ Z) hZl X Xl Xo rfl ?_ | fail)
      obtain ⟨V4, e4⟩ : ∃ V, V = (w1.alloc (.cells Z.toArray 25)).setCells w1.heap.size 0 X := ⟨_, rfl⟩
      obtain ⟨x4, hb4⟩ := ArrV.laid 25 w1 Z X (by rw [Xl, hZl])
      rw [← e4] at x4 hb4
      rw [← e4]
      have q36 := (x4.get 36).trans HX36.out
      have q33 := (x4.get 33).trans HX33.out
      obtain ⟨g4, hg4⟩ : ∃ g, g = w1.heap.size := ⟨_, rfl⟩
      have HG4 : Hid (w.heap.size ≤ g4 ∧ g4 ≠ g2) := by
        refine ⟨by rw [hg4]; exact B1.out.size, ?_⟩
        have := HA1.out.lt
        rw [hg4]
        exact Nat.ne_of_gt this
      have A4 := Lib.hid (HA1.out.below hb4)
      have B4 := Lib.hid (below_both B1.out hb4)
      rw [← hg4] at x4 q36 q33 ⊢
      have X4 := Lib.hid x4
      clear e4 hb4 HA1 B1 hg4 x4
      go_wp2_with fail
      refine (CL.out _).mono ?_
      rintro e w' ⟨rfl, rfl⟩
      go_wp2_with fail
      refine (CR.out _ (HR.out.below B4.out)).mono ?_
      rintro e w' ⟨rfl, nq, rfl⟩
      obtain ⟨U, eU⟩ : ∃ U, U = V4.drewN nq := ⟨_, rfl⟩
      have hU : ArrV 25 U g4 X := by rw [eU]; exact X4.out
      have hA : ArrV 25 U g2 Z := by rw [eU]; exact A4.out
      have hBU : Below w.heap.size w U := by rw [eU]; exact below_drewN' B4.out nq
      rw [← eU]
      have h1 := hU.set 37 (.bool true)
      have h2 := h1.set 38 (.int .i64 (x : Nat))
      have h3 := h2.set 39 (.int .i64 (y : Nat))
      rw [HSET.out] at h3
      have a1 := (hU.get 37).trans H37.out.1
      have f1 := hU.frozen 37
      have a2 : (U.setCell ⟨g4, 37, none⟩ (.bool true)).cell? ⟨g4, 38, none⟩ = some (.int .i64 0) := by
        rw [h1.get 38, List.getElem?_set_ne (by decide)]
        exact H37.out.2.1
      have f2 := h1.frozen 38
      have a3 : ((U.setCell ⟨g4, 37, none⟩ (.bool true)).setCell ⟨g4, 38, none⟩ (.int .i64 (x : Nat))).cell? ⟨g4, 39, none⟩ = some (.int .i64 0) := by
        rw [h2.get 39, List.getElem?_set_ne (by decide), List.getElem?_set_ne (by decide)]
        exact H37.out.2.2
      have f3 := h2.frozen 39
      have A5 := ((hA.other ⟨g4, 37, none⟩ (.bool true) HG4.out.2).other ⟨g4, 38, none⟩ (.int .i64 (x : Nat)) HG4.out.2).other ⟨g4, 39, none⟩ (.int .i64 (y : Nat)) HG4.out.2
      have B5 := ((hBU.setCell (p := ⟨g4, 37, none⟩) HG4.out.1 (.bool true)).setCell (p := ⟨g4, 38, none⟩) HG4.out.1 (.int .i64 (x : Nat))).setCell (p := ⟨g4, 39, none⟩) HG4.out.1 (.int .i64 (y : Nat))
      obtain ⟨U5, e5⟩ : ∃ W, W = ((U.setCell ⟨g4, 37, none⟩ (.bool true)).setCell ⟨g4, 38, none⟩ (.int .i64 (x : Nat))).setCell ⟨g4, 39, none⟩ (.int .i64 (y : Nat)) := ⟨_, rfl⟩
      rw [← e5] at A5 B5 h3
      have A5 := Lib.hid A5
      have B5 := Lib.hid B5
      have Y5 := Lib.hid h3
      clear eU hA hBU h1 h2 h3 hU q33 q36
      go_upto_region 10 with fail
      rw [← e5]
      clear e5 a1 a2 a3 f1 f2 f3
      go_wp2_with (first | refine wpList_load_v rfl 25 (.tmp 4) rfl _ rfl tyhead Y5.out Yl ?_ | refine wpList_store_v rfl 25 (.tmp 2) (.tmp 52) rfl _ rfl tyhead A5.out hZl Y Yl Yo rfl ?_ | fail)
      have HS := A5.out.store Y (by rw [Yl, hZl])
      exact bodyPost_ret (v := .tuple #[.agg Y.toArray, .slice none 0 0]) (res_cell_tmp Try.results24 rfl (HS.loadVar tyhead Yl) rfl) rfl ⟨setCells_below g2 (by rw [HG2.out]; exact Nat.le_refl _) _ _ _ B5.out, fun h => absurd rfl h, fun _ => rfl⟩
    · have db : ((d : Int) != 0) = true := bne_iff_ne.2 (by omega)
      rw [if_pos hd0]
      clear hd0 hnot hhas hset h33 h36 h37 h38 h39 hX hX0 hp hf hl hr hok hD CH f2 l0 hZ hg2 hR hbs hbd hh hq1 hY
      go_enter Try.func24, Try.ntmps24
      go_upto_region 1 with fail
      rw [← e0, ← HG2.out]
      clear e0
      go_wp2_with fail
      refine (CH1.out _ HB.out).mono ?_
      rintro e w1 ⟨rfl, b1⟩
      have HA1 := Lib.hid (HA.out.below b1)
      have B1 := Lib.hid (below_both HB.out b1)
      clear b1
      go_upto_region 2 with (first | refine wpList_store_v rfl 25 (.tmp 4) (.tmp 13) rfl _ rfl tyhead (ArrV.new _ _ Z) hZl X Xl Xo rfl ?_ | fail)
      obtain ⟨V4, e4⟩ : ∃ V, V = (w1.alloc (.cells Z.toArray 25)).setCells w1.heap.size 0 X := ⟨_, rfl⟩
      obtain ⟨x4, hb4⟩ := ArrV.laid 25 w1 Z X (by rw [Xl, hZl])
      rw [← e4] at x4 hb4
      rw [← e4]
      have q36 := (x4.get 36).trans HX36.out
      have q33 := (x4.get 33).trans HX33.out
      obtain ⟨g4, hg4⟩ : ∃ g, g = w1.heap.size := ⟨_, rfl⟩
      have A4 := Lib.hid (HA1.out.below hb4)
      have B4 := Lib.hid (below_both B1.out hb4)
      rw [← hg4] at q36 q33 ⊢
      clear e4 hb4 HA1 B1 hg4 x4
      go_wp2_with fail
      refine (CL.out _).mono ?_
      rintro e w' ⟨rfl, rfl⟩
      go_wp2_with fail
      refine (CR.out _ (HR.out.below B4.out)).mono ?_
      rintro e w' ⟨rfl, nq, rfl⟩
      obtain ⟨U, eU⟩ : ∃ U, U = V4.drewN nq := ⟨_, rfl⟩
      have hA : ArrV 25 U g2 Z := by rw [eU]; exact A4.out
      have hBU : Below w.heap.size w U := by rw [eU]; exact below_drewN' B4.out nq
      rw [← eU]
      have A5 := Lib.hid hA
      have B5 := Lib.hid hBU
      clear eU hA hBU q33 q36
      go_upto_region 8 with fail
      have A6 := Lib.hid (A5.out.alloc (.cells #[.int .i64 (d : Nat)] 26))
      have hnew : (U.alloc (.cells #[.int .i64 (d : Nat)] 26)).heap[U.heap.size]? = some (.cells #[.int .i64 (d : Nat)] 26 (0, 0)) := heap_alloc_new _ _
      have hne2 : U.heap.size ≠ g2 := Nat.ne_of_gt A5.out.lt
      have HN : Hid (DefRead ((U.alloc (.cells #[.int .i64 (d : Nat)] 26)).setCells g2 0 Z) (.slice (some ⟨U.heap.size, 0, none⟩) 1 1) [d]) := def_at (t := 26) ((heap_setCells_far hne2 _ _ _).trans hnew)
      clear hnew hne2
      go_wp2_with (first | refine wpList_store_v rfl 25 (.tmp 2) (.tmp 44) rfl _ rfl tyhead A6.out hZl Z hZl hZo rfl ?_ | fail)
      have HS := A6.out.store Z rfl
      exact bodyPost_ret (v := .tuple #[.agg Z.toArray, .slice (some ⟨U.heap.size, 0, none⟩) 1 1]) (res_cell_tmp Try.results24 rfl (HS.loadVar tyhead hZl) rfl) rfl ⟨setCells_below g2 (by rw [HG2.out]; exact Nat.le_refl _) _ _ _ (B5.out.alloc B5.out.size _), fun _ => ⟨_, rfl, HN.out⟩, fun h => by cases h⟩
  · rw [if_pos hD]
    have CH1 : Hid (∀ W, Below w.heap.size w W → Calls Try.prog 39 #[b] W fun e w' => ∃ A c, e = .returned (.tuple #[.agg Z.toArray, .slice none 0 0, .slice A D.length c]) ∧ DefRead w' (.slice A D.length c) D ∧ Below W.heap.size W w') := fun W hW => (CH.out W hW).mono fun e w' h => by
      obtain ⟨h1, h2, _⟩ := h
      obtain ⟨v, rfl, hd⟩ := h2 hD
      obtain ⟨A, c, rfl, h4, h5⟩ := hd
      exact ⟨A, c, rfl, ⟨A, c, rfl, h4, h5⟩, h1⟩
    have hl0 : 0 < D.length := List.length_pos_iff.2 hD
    obtain ⟨q, hq⟩ : ∃ q, q = D.length := ⟨_, rfl⟩
    rw [← hq] at CH1 hl0
    have qI : (0 : Int) < (q : Int) := by omega
    have HND := Lib.hid hD
    clear hg2 hD hr hok hm2 hl0 CH hq hR hZ
    go_enter Try.func24, Try.ntmps24
    go_upto_region 1 with fail
    rw [← e0, ← HG2.out]
    clear e0
    go_wp2_with fail
    refine (CH1.out _ HB.out).mono ?_
    rintro e w1 ⟨A, c, rfl, d1, b1⟩
    have HA1 := Lib.hid (HA.out.below b1)
    have B1 := Lib.hid (below_both HB.out b1)
    have D1 := Lib.hid d1
    clear d1 b1
    go_upto_region 2 with (first | refine wpList_store_v rfl 25 (.tmp 4) (.tmp 13) rfl _ rfl tyhead (ArrV.new _ _ Z) hZl Z hZl hZo rfl ?_ | fail)
    obtain ⟨V4, e4⟩ : ∃ V, V = (w1.alloc (.cells Z.toArray 25)).setCells w1.heap.size 0 Z := ⟨_, rfl⟩
    obtain ⟨x4, hb4⟩ := ArrV.laid 25 w1 Z Z rfl
    rw [← e4] at x4 hb4
    rw [← e4]
    have A4 := Lib.hid (HA1.out.below hb4)
    have B4 := Lib.hid (below_both B1.out hb4)
    have D4 := Lib.hid (D1.out.below hb4)
    clear e4 hb4 x4 HA1 B1 D1
    go_wp2_with (first | refine wpList_store_v rfl 25 (.tmp 2) (.tmp 19) rfl _ rfl tyhead A4.out hZl Z hZl hZo rfl ?_ | fail)
    have HS := A4.out.store Z rfl
    exact bodyPost_ret (v := .tuple #[.agg Z.toArray, .slice A q c]) (res_cell_tmp Try.results24 rfl (HS.loadVar tyhead hZl) rfl) rfl ⟨setCells_below g2 (by rw [HG2.out]; exact Nat.le_refl _) _ _ _ B4.out, fun _ => ⟨_, rfl, D4.out.again A4.out⟩, fun h => absurd h HND.out⟩
end Go.Proofs.Ytcjaidpmfjnhpaa

namespace Go.Proofs.Ytcjaidpmfjnhpaa
open Go.RowKit
set_option linter.unusedVariables false

theorem rparts_from (A : Option Addr) (n c : Nat) (bs : List Nat) (w : World) (hn2 : n ≤ 140737488351232) (hc : n ≤ c) (hR : Row w A n bs)
    (H6 : bs.getD 0 0 / 16 = 6 → sxall n bs = [] → Calls Try.prog 39 #[.slice A n c] w fun e w' => Below w.heap.size w w' ∧ e = .returned (.tuple #[.agg (hdCells (pk6 bs) false 0 0).toArray, pkPv A c (pk6 bs), .slice none 0 0])) :
    Calls Try.prog 39 #[.slice A n c] w (PrIs (pkHeads n bs) (pkRec bs) (pkPv A c (pkRec bs)) w) := by
  by_cases hh : pkHeads n bs = []
  · have hh2 := hh
    unfold pkHeads at hh2
    split at hh2
    · cases hh2
    · split at hh2
      · rename_i h0 h4
        have e : pkRec bs = pk4 bs := by unfold pkRec; rw [if_pos h4]
        rw [hh, e]
        exact (rparts_four A n c bs w hn2 hc hR hh2).mono fun e w' h => ⟨h.1, fun g => absurd rfl g, fun _ => h.2⟩
      · split at hh2
        · rename_i h0 h4 h6
          have e : pkRec bs = pk6 bs := by unfold pkRec; rw [if_neg h4]
          rw [hh, e]
          exact (H6 h6 hh2).mono fun e w' h => ⟨h.1, fun g => absurd rfl g, fun _ => h.2⟩
        · cases hh2
  · exact rparts_bad A n c bs w hn2 hc hR _ _ hh
theorem rwhole_from (A : Option Addr) (n c : Nat) (bs : List Nat) (w : World) (hn2 : n ≤ 140737488351232) (hc : n ≤ c) (hR : Row w A n bs)
    (HP : ∀ W, Row W A n bs → Calls Try.prog 39 #[.slice A n c] W (PrIs (pkHeads n bs) (pkRec bs) (pkPv A c (pkRec bs)) W)) :
    Calls Try.prog 24 #[.slice A n c] w (WhIs n bs w) := by
  have key : ∀ (x y : Nat), Calls Try.prog 24 #[.slice A n c] w (WrIs (pkDefs n bs) (pkRec bs) ((pkRec bs).ports bs).1 ((pkRec bs).ports bs).2.1 w) → Calls Try.prog 24 #[.slice A n c] w (WhIs n bs w) := fun x y h => h.mono fun e w' h => by
    obtain ⟨hb, h1, h2⟩ := h
    by_cases hD : pkDefs n bs = []
    · refine ⟨none, 0, ?_, hb, ?_⟩
      · rw [h2 hD]
        unfold pkHead
        rw [if_pos hD, hD]
        rfl
      · rw [hD]
        exact ⟨none, 0, rfl, Nat.le_refl _, fun i x h => by cases h⟩
    · obtain ⟨v, rfl, hd⟩ := h1 hD
      obtain ⟨A9, c9, rfl, h4, h5⟩ := hd
      exact ⟨A9, c9, by unfold pkHead; rw [if_neg hD], hb, A9, c9, rfl, h4, h5⟩
  refine key 0 0 ?_
  by_cases hh : pkHeads n bs = []
  · obtain ⟨_, g20, gas, gsn, _, _⟩ := pk_good hR.1 hR.2.1 hh
    have hrow : Row w (if c = (pkRec bs).at_ then A else A.map (·.add (pkRec bs).at_)) ((pkRec bs).size - (pkRec bs).at_) ((pkRec bs).pay bs) := by
      obtain ⟨b, o, rfl, _⟩ := hR.addr (by omega)
      by_cases hca : c = (pkRec bs).at_
      · rw [if_pos hca]
        have h0 : (pkRec bs).size - (pkRec bs).at_ = 0 := by omega
        have h1 : (pkRec bs).pay bs = [] := by unfold PkRec.pay; rw [h0, List.take_zero]
        rw [h0, h1]
        exact Row.nil _ _
      · rw [if_neg hca]
        have h := hR.part (pkRec bs).at_ ((pkRec bs).size - (pkRec bs).at_) (by omega)
        unfold PkRec.pay
        simpa [Addr.add, show (pkRec bs).at_ ≠ 0 by omega] using h
    have hok := pkRec_ok hR.1 hR.2.1 hh
    exact rwhole_of (.slice A n c) (pkHeads n bs) (pkRec bs) _ _ (c - (pkRec bs).at_) (by omega) _ hok (d := ((pkRec bs).ports bs).2.2) rfl w hrow (fun W h => HP W (hR.below h))
  · have hv := rwhole_of (.slice A n c) (pkHeads n bs) RZ none 0 0 (by decide) [] (x := 0) (y := 0) (d := 0) rz_ok rfl w (Row.nil _ _) (fun W h => (HP W (hR.below h)).mono fun e w' h => ⟨h.1, h.2.1, fun g => absurd g hh⟩)
    have e : pkDefs n bs = pkHeads n bs := by unfold pkDefs; rw [if_pos hh]
    rw [if_pos hh] at hv
    rw [e]
    exact hv.mono fun e w' h => ⟨h.1, h.2.1, fun g => absurd g hh⟩
theorem rpkparts_any (A : Option Addr) (n c : Nat) (bs : List Nat) (w : World) (hn2 : n ≤ 140737488351232) (hc : n ≤ c) (hR : Row w A n bs) :
    Calls Try.prog 39 #[.slice A n c] w (PrIs (pkHeads n bs) (pkRec bs) (pkPv A c (pkRec bs)) w) :=
  rparts_from A n c bs w hn2 hc hR fun h6 hg => rparts_six A n c bs w hn2 hc hR h6 hg
theorem rpkwhole_any (A : Option Addr) (n c : Nat) (bs : List Nat) (w : World) (hn2 : n ≤ 140737488351232) (hc : n ≤ c) (hR : Row w A n bs) :
    Calls Try.prog 24 #[.slice A n c] w (WhIs n bs w) :=
  rwhole_from A n c bs w hn2 hc hR fun W h => rpkparts_any A n c bs W hn2 hc h
theorem rpkall_any (A : Option Addr) (n c : Nat) (bs : List Nat) (w : World) (hn2 : n ≤ 140737488351232) (hc : n ≤ c) (hR : Row w A n bs) :
    Calls Try.prog 14 #[.slice A n c] w fun e w' => ∃ A9 c9, e = .returned (.slice A9 (pkDefs n bs).length c9) ∧ Below w.heap.size w w' ∧ DefRead w' (.slice A9 (pkDefs n bs).length c9) (pkDefs n bs) :=
  rpkall_of A n c bs w hR fun W h => rpkwhole_any A n c bs W hn2 hc h
theorem rpkparse_any (A : Option Addr) (n c : Nat) (bs : List Nat) (w : World) (hn2 : n ≤ 140737488351232) (hc : n ≤ c) (hR : Row w A n bs) :
    Calls Try.prog 6 #[.slice A n c] w fun e w' => e = .returned (.tuple #[.agg (pkHead n bs).toArray, .int .i64 (pkTold n bs : Nat)]) ∧ Below w.heap.size w w' :=
  rpkparse_of A n c bs w hR fun W h => rpkwhole_any A n c bs W hn2 hc h
theorem rpkpoint_any (A : Option Addr) (n c : Nat) (bs : List Nat) (w : World) (hn2 : n ≤ 140737488351232) (hc : n ≤ c) (hR : Row w A n bs) :
    Calls Try.prog 8 #[.slice A n c] w fun e w' => e = .returned (pkPoint n bs) ∧ Below w.heap.size w w' :=
  rpkpoint_of A n c bs w hR fun W h => rpkparse_any A n c bs W hn2 hc h
theorem rpkkey_any (A : Option Addr) (n c : Nat) (bs : List Nat) (w : World) (hn2 : n ≤ 140737488351232) (hc : n ≤ c) (hR : Row w A n bs) :
    Calls Try.prog 10 #[.slice A n c] w fun e w' => e = .returned (.tuple #[.agg (pkKey n bs).toArray, .int .i64 (pkTold n bs : Nat)]) ∧ Below w.heap.size w w' :=
  rpkkey_of A n c bs w hR (fun W h => rpkparse_any A n c bs W hn2 hc h) fun W h => rpkpoint_any A n c bs W hn2 hc h
end Go.Proofs.Ytcjaidpmfjnhpaa
