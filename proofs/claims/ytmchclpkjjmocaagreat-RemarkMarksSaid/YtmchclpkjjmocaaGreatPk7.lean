/-
  packet: headers, and view of any bytes.
  packet: sound, Parse, All.
  packet: the record and the key as cells; equality of two that are the same.
  Plain facts of packets: what is behind a packet's end is nothing to it, and what is cut off has a defect.
-/
import Derived.Test.YtmchclpkjjmocaaGreatPk5
import Derived.Test.YtmchclpkjjmocaaGreatPtS
import Derived.Test.YtmchclpkjjmocaaGreatSxEq
import Derived.Test.YtmchclpkjjmocaaGreatFh14
namespace Go.Proofs.YtmchclpkjjmocaaGreat
open Go.RowKit
set_option linter.unusedVariables false
set_option maxRecDepth 8000

theorem pkPv_one (A : Option Addr) (c : Nat) (r : PkRec) : (pkPv A c r).oneCell' = true := rfl
theorem HeadsIs.one {D : List Nat} {r : PkRec} {has : Bool} {x y : Nat} {pv : Value} {w : World} {e : Ending} {w' : World} (h : HeadsIs D r has x y pv w e w') (hl : D = [] → r.src.length = 16 ∧ r.dst.length = 16) (hpv : pv.oneCell' = true) :
    ∃ X v, e = .returned (.tuple #[.agg X.toArray, v]) ∧ X.length = 42 ∧ (∀ u ∈ X, u.oneCell' = true) ∧ Below w.heap.size w w' ∧ (D ≠ [] → X = trZ ∧ DefRead w' v D) ∧ (D = [] → X = trCells r has x y pv ∧ v = .slice none 0 0) := by
  obtain ⟨hb, h1, h2⟩ := h
  by_cases hD : D = []
  · obtain ⟨hs, hd⟩ := hl hD
    obtain ⟨a1, a2⟩ := trCells_all hs hd (has := has) (x := x) (y := y) hpv
    exact ⟨_, _, h2 hD, a1, a2, hb, fun g => absurd hD g, fun _ => ⟨rfl, rfl⟩⟩
  · obtain ⟨v, e1, d1⟩ := h1 hD
    exact ⟨_, v, e1, trZ_all.1, trZ_all.2, hb, fun _ => ⟨rfl, d1⟩, fun g => absurd g hD⟩
theorem pk4_lens {bs : List Nat} (h : 20 ≤ bs.length) : (pk4 bs).src.length = 16 ∧ (pk4 bs).dst.length = 16 := by
  constructor
  · show ((bs.drop 12).take 4 ++ List.replicate 12 0).length = 16
    simp
    omega
  · show ((bs.drop 16).take 4 ++ List.replicate 12 0).length = 16
    simp
    omega
theorem pk6_lens {bs : List Nat} (h : 40 ≤ bs.length) : (pk6 bs).src.length = 16 ∧ (pk6 bs).dst.length = 16 := by
  constructor
  · show ((bs.drop 8).take 16).length = 16
    simp
    omega
  · show ((bs.drop 24).take 16).length = 16
    simp
    omega
theorem pkRec_lens {n : Nat} {bs : List Nat} (hl : bs.length = n) (h : pkHeads n bs = []) : (pkRec bs).src.length = 16 ∧ (pkRec bs).dst.length = 16 := by
  unfold pkHeads at h
  split at h
  · cases h
  · split at h
    · rename_i h4
      have e : pkRec bs = pk4 bs := by unfold pkRec; rw [if_pos h4]
      rw [e]
      exact pk4_lens (by have := (fhall_nil h).2.1; omega)
    · split at h
      · rename_i h4 h6
        have e : pkRec bs = pk6 bs := by unfold pkRec; rw [if_neg h4]
        rw [e]
        exact pk6_lens (by have := (sxall_nil hl h).2.1; omega)
      · cases h
set_option maxHeartbeats 3200000 in
theorem pkheads_any (A : Option Addr) (n c : Nat) (bs : List Nat) (w : World) (hn2 : n ≤ 140737488351232) (hc : n ≤ c) (hR : Row w A n bs) :
    Calls Tryz.prog 50 #[.slice A n c] w (HeadsIs (pkHeads n bs) (pkRec bs) false 0 0 (pkPv A c (pkRec bs)) w) := by
  obtain ⟨Z, hZ⟩ : ∃ Z, Z = trZ := ⟨_, rfl⟩
  obtain ⟨hZl, hZo⟩ := trZ_all
  have hlit := tr_lit
  obtain ⟨V, e0⟩ : ∃ V, V = w.alloc (.cells Z.toArray 52) := ⟨_, rfl⟩
  have CF : Hid (∀ W, Below w.heap.size w W → Calls Tryz.prog 71 #[.slice A n c] W fun e w' => ∃ X v, e = .returned (.tuple #[.agg X.toArray, v]) ∧ X.length = 42 ∧ (∀ u ∈ X, u.oneCell' = true) ∧ Below W.heap.size W w' ∧ (fhall n bs ≠ [] → X = trZ ∧ DefRead w' v (fhall n bs)) ∧ (fhall n bs = [] → X = trCells (pk4 bs) false 0 0 (pkPv A c (pk4 bs)) ∧ v = .slice none 0 0)) := fun W h => (pkfour_any A n c bs W (by omega) hc (hR.below h)).mono fun e w' h => h.one (fun g => pk4_lens (by have := (fhall_nil g).2.1; rw [hR.1]; exact this)) (pkPv_one _ _ _)
  have CS : Hid (∀ W, Below w.heap.size w W → Calls Tryz.prog 72 #[.slice A n c] W fun e w' => ∃ X v, e = .returned (.tuple #[.agg X.toArray, v]) ∧ X.length = 42 ∧ (∀ u ∈ X, u.oneCell' = true) ∧ Below W.heap.size W w' ∧ (sxall n bs ≠ [] → X = trZ ∧ DefRead w' v (sxall n bs)) ∧ (sxall n bs = [] → X = trCells (pk6 bs) false 0 0 (pkPv A c (pk6 bs)) ∧ v = .slice none 0 0)) := fun W h => (pksix_any A n c bs W hn2 hc (hR.below h)).mono fun e w' h => h.one (fun g => pk6_lens (by have := (sxall_nil hR.1 g).2.1; rw [hR.1]; omega)) (pkPv_one _ _ _)
  unfold HeadsIs
  rw [← hZ] at CF CS hZl hZo hlit ⊢
  have HA : Hid (ArrV 52 V w.heap.size Z) := by show ArrV _ _ _ _; rw [e0]; exact ArrV.new _ w Z
  have HB : Hid (Below w.heap.size w V) := by show Below _ _ _; rw [e0]; exact (Below.refl _ _).alloc (Nat.le_refl _) _
  obtain ⟨g2, hg2⟩ : ∃ g, g = w.heap.size := ⟨_, rfl⟩
  have HG2 := Lib.hid hg2
  rw [← hg2] at HA
  by_cases n0 : n = 0
  · subst n0
    have hp : pkHeads 0 bs = [1] := by unfold pkHeads; rw [if_pos rfl]
    rw [hp]
    clear CF CS hR hp hn2 hc hZ hg2
    go_enter Tryz.func50, Tryz.ntmps50
    go_upto_region 1 with fail
    rw [← e0, ← HG2.out]
    clear e0
    go_upto_region 2 with fail
    have A6 := Lib.hid (HA.out.alloc (.cells #[.int .i64 (1 : Nat)] 24))
    have hnew : (V.alloc (.cells #[.int .i64 (1 : Nat)] 24)).heap[V.heap.size]? = some (.cells #[.int .i64 (1 : Nat)] 24 (0, 0)) := heap_alloc_new _ _
    have hne2 : V.heap.size ≠ g2 := Nat.ne_of_gt HA.out.lt
    have HN : Hid (DefRead ((V.alloc (.cells #[.int .i64 (1 : Nat)] 24)).setCells g2 0 Z) (.slice (some ⟨V.heap.size, 0, none⟩) 1 1) [1]) := def_at (t := 24) ((heap_setCells_far hne2 _ _ _).trans hnew)
    clear hnew hne2
    go_wp2_with (first | refine wpList_store_v rfl 52 (.tmp 2) (.tmp 7) rfl _ rfl tytr A6.out hZl Z hZl hZo rfl ?_ | fail)
    have HS := A6.out.store Z rfl
    exact bodyPost_ret (v := .tuple #[.agg Z.toArray, .slice (some ⟨V.heap.size, 0, none⟩) 1 1]) (res_cell_tmp Tryz.results50 rfl (HS.loadVar tytr hZl) rfl) rfl ⟨setCells_below g2 (by rw [HG2.out]; exact Nat.le_refl _) _ _ _ (HB.out.alloc HB.out.size _), _, rfl, HN.out⟩
  have HR := Lib.hid (hR.below HB.out)
  have hx := hR.byte 0
  obtain ⟨x, hxx⟩ : ∃ x, x = bs.getD 0 0 := ⟨_, rfl⟩
  obtain ⟨b, o, hA, hbs, hcell⟩ := HR.out.addr (by omega)
  subst hA
  have c0 := hcell 0 (by omega)
  rw [Nat.add_zero, ← hxx] at c0
  have hp : pkHeads n bs = if x / 16 = 4 then fhall n bs else if x / 16 = 6 then sxall n bs else [2] := by unfold pkHeads; rw [if_neg n0, hxx]
  have hr : pkRec bs = if x / 16 = 4 then pk4 bs else pk6 bs := by unfold pkRec; rw [hxx]
  have nI : (0 : Int) < (n : Int) := by omega
  have n0b : ((n : Int) == 0) = false := by simp; omega
  rw [← hxx] at hx
  obtain ⟨v, hv⟩ : ∃ v, v = x / 16 := ⟨_, rfl⟩
  have e16 : (x : Int) / 16 = (v : Int) := by omega
  rw [← hv] at hp hr
  clear hR hcell hbs hn2 hc hxx hx hv n0 hg2
  by_cases v4 : v = 4
  · subst v4
    rw [if_pos rfl] at hp hr
    rw [hp, hr]
    clear hp hr CS hZ
    go_enter Tryz.func50, Tryz.ntmps50
    go_upto_region 1 with fail
    rw [← e0, ← HG2.out]
    clear e0
    go_wp2_with fail
    refine (CF.out _ HB.out).mono ?_
    rintro e w1 ⟨X, v, rfl, hXl, hXo, b1, d1, d2⟩
    have A4 := Lib.hid (HA.out.below b1)
    have B4 := Lib.hid (below_both HB.out b1)
    have D1 := Lib.hid d1
    have D2 := Lib.hid d2
    clear d1 d2 b1 c0
    go_wp2_with (first | refine wpList_store_v rfl 52 (.tmp 2) (.tmp 17) rfl _ rfl tytr A4.out hZl X hXl hXo rfl ?_ | fail)
    have HS := A4.out.store X (by rw [hXl, hZl])
    refine bodyPost_ret (v := .tuple #[.agg X.toArray, v]) (res_cell_tmp Tryz.results50 rfl (HS.loadVar tytr hXl) rfl) rfl ⟨setCells_below g2 (by rw [HG2.out]; exact Nat.le_refl _) _ _ _ B4.out, fun h => ?_, fun h => ?_⟩
    · obtain ⟨rfl, h2⟩ := D1.out h
      exact ⟨v, rfl, h2.again A4.out⟩
    · obtain ⟨rfl, rfl⟩ := D2.out h
      rfl
  by_cases v6 : v = 6
  · subst v6
    rw [if_neg (by decide)] at hr
    rw [if_neg (by decide), if_pos rfl] at hp
    rw [hp, hr]
    clear hp hr CF hZ v4
    go_enter Tryz.func50, Tryz.ntmps50
    go_upto_region 1 with fail
    rw [← e0, ← HG2.out]
    clear e0
    go_wp2_with fail
    refine (CS.out _ HB.out).mono ?_
    rintro e w1 ⟨X, v, rfl, hXl, hXo, b1, d1, d2⟩
    have A4 := Lib.hid (HA.out.below b1)
    have B4 := Lib.hid (below_both HB.out b1)
    have D1 := Lib.hid d1
    have D2 := Lib.hid d2
    clear d1 d2 b1 c0
    go_wp2_with (first | refine wpList_store_v rfl 52 (.tmp 2) (.tmp 23) rfl _ rfl tytr A4.out hZl X hXl hXo rfl ?_ | fail)
    have HS := A4.out.store X (by rw [hXl, hZl])
    refine bodyPost_ret (v := .tuple #[.agg X.toArray, v]) (res_cell_tmp Tryz.results50 rfl (HS.loadVar tytr hXl) rfl) rfl ⟨setCells_below g2 (by rw [HG2.out]; exact Nat.le_refl _) _ _ _ B4.out, fun h => ?_, fun h => ?_⟩
    · obtain ⟨rfl, h2⟩ := D1.out h
      exact ⟨v, rfl, h2.again A4.out⟩
    · obtain ⟨rfl, rfl⟩ := D2.out h
      rfl
  rw [if_neg v4, if_neg v6] at hp
  rw [hp]
  have b4 : ((v : Int) == 4) = false := by simp; omega
  have b6 : ((v : Int) == 6) = false := by simp; omega
  clear hp hr CF CS hZ v4 v6
  go_enter Tryz.func50, Tryz.ntmps50
  go_upto_region 1 with fail
  rw [← e0, ← HG2.out]
  clear e0
  go_upto_region 8 with fail
  have A6 := Lib.hid (HA.out.alloc (.cells #[.int .i64 (2 : Nat)] 24))
  have hnew : (V.alloc (.cells #[.int .i64 (2 : Nat)] 24)).heap[V.heap.size]? = some (.cells #[.int .i64 (2 : Nat)] 24 (0, 0)) := heap_alloc_new _ _
  have hne2 : V.heap.size ≠ g2 := Nat.ne_of_gt HA.out.lt
  have HN : Hid (DefRead ((V.alloc (.cells #[.int .i64 (2 : Nat)] 24)).setCells g2 0 Z) (.slice (some ⟨V.heap.size, 0, none⟩) 1 1) [2]) := def_at (t := 24) ((heap_setCells_far hne2 _ _ _).trans hnew)
  clear hnew hne2 c0
  go_wp2_with (first | refine wpList_store_v rfl 52 (.tmp 2) (.tmp 25) rfl _ rfl tytr A6.out hZl Z hZl hZo rfl ?_ | fail)
  have HS := A6.out.store Z rfl
  exact bodyPost_ret (v := .tuple #[.agg Z.toArray, .slice (some ⟨V.heap.size, 0, none⟩) 1 1]) (res_cell_tmp Tryz.results50 rfl (HS.loadVar tytr hZl) rfl) rfl ⟨setCells_below g2 (by rw [HG2.out]; exact Nat.le_refl _) _ _ _ (HB.out.alloc HB.out.size _), _, rfl, HN.out⟩
def PkZ : PkRec := ⟨4, List.replicate 16 0, List.replicate 16 0, 0, 0, 0, 0, 0⟩
/-- All that is wrong, or the record with its ports. -/
theorem pkview_any (A : Option Addr) (n c : Nat) (bs : List Nat) (w : World) (hn2 : n ≤ 140737488351232) (hc : n ≤ c) (hR : Row w A n bs) :
    Calls Tryz.prog 33 #[.slice A n c] w (HeadsIs (pkDefs n bs) (pkRec bs) (pkRec bs).has ((pkRec bs).ports bs).1 ((pkRec bs).ports bs).2.1 (pkPv A c (pkRec bs)) w) := by
  by_cases hh : pkHeads n bs = []
  · obtain ⟨hs, hd⟩ := pkRec_lens hR.1 hh
    obtain ⟨_, g20, gas, gsn, _, _⟩ := pk_good hR.1 hR.2.1 hh
    have hrow : Row w (if c = (pkRec bs).at_ then A else A.map (·.add (pkRec bs).at_)) ((pkRec bs).size - (pkRec bs).at_) ((pkRec bs).pay bs) := by
      obtain ⟨b, o, rfl, _⟩ := hR.addr (by omega)
      by_cases hca : c = (pkRec bs).at_
      · rw [if_pos hca]
        have h0 : (pkRec bs).size - (pkRec bs).at_ = 0 := by omega
        have h1 : (pkRec bs).pay bs = [] := by unfold PkRec.pay; rw [h0, List.take_zero]
        rw [h0, h1]
        exact Row.nil _ _
      · rw [if_neg hca]
        have h := hR.part (pkRec bs).at_ ((pkRec bs).size - (pkRec bs).at_) (by omega)
        unfold PkRec.pay
        simpa [Addr.add, show (pkRec bs).at_ ≠ 0 by omega] using h
    have hv := view_of (.slice A n c) (pkHeads n bs) (pkRec bs) hs hd _ _ (c - (pkRec bs).at_) (by omega) (by omega) _ (x := ((pkRec bs).ports bs).1) (y := ((pkRec bs).ports bs).2.1) (d := ((pkRec bs).ports bs).2.2) rfl w hrow (fun W h => pkheads_any A n c bs W hn2 hc (hR.below h))
    have e : pkDefs n bs = if pkHeads n bs ≠ [] then pkHeads n bs else if ((pkRec bs).ports bs).2.2 ≠ 0 then [((pkRec bs).ports bs).2.2] else [] := rfl
    rw [e]
    exact hv
  · have hv := view_of (.slice A n c) (pkHeads n bs) PkZ rfl rfl none 0 0 (Nat.le_refl _) (by decide) [] (x := 0) (y := 0) (d := 0) rfl w (Row.nil _ _) (fun W h => (pkheads_any A n c bs W hn2 hc (hR.below h)).mono fun e w' h => ⟨h.1, h.2.1, fun g => absurd g hh⟩)
    have e : pkDefs n bs = pkHeads n bs := by unfold pkDefs; rw [if_pos hh]
    rw [if_pos hh] at hv
    rw [e]
    exact hv.mono fun e w' h => ⟨h.1, h.2.1, fun g => absurd g hh⟩
end Go.Proofs.YtmchclpkjjmocaaGreat

namespace Go.Proofs.YtmchclpkjjmocaaGreat
open Go.RowKit
set_option linter.unusedVariables false
set_option maxRecDepth 8000

def pkTold (n : Nat) (bs : List Nat) : Nat := (pkDefs n bs).headD 0
/-- The record as it is told, in the cells of its type; the payload behind it. -/
def pkCells (A : Option Addr) (c n : Nat) (bs : List Nat) : List Value := if pkDefs n bs = [] then trCells (pkRec bs) (pkRec bs).has ((pkRec bs).ports bs).1 ((pkRec bs).ports bs).2.1 (pkPv A c (pkRec bs)) else trZ
theorem pkHeads_nil {n : Nat} {bs : List Nat} (h : pkDefs n bs = []) : pkHeads n bs = [] := by
  unfold pkDefs at h
  split at h
  · exact h
  · exact Decidable.of_not_not (by assumption)
theorem pkCells_all {A : Option Addr} {c n : Nat} {bs : List Nat} (hl : bs.length = n) : (pkCells A c n bs).length = 42 ∧ ∀ v ∈ pkCells A c n bs, v.oneCell' = true := by
  unfold pkCells
  split
  · obtain ⟨hs, hd⟩ := pkRec_lens hl (pkHeads_nil (by assumption))
    exact trCells_all hs hd (pkPv_one _ _ _)
  · exact trZ_all
/-- A part of a list. -/
theorem part_of {cs : List Value} {o n : Nat} : ∀ (j : Nat) v, ((cs.drop o).take n)[j]? = some v → cs[o + j]? = some v := fun j v hv => by
  have hj : j < n := by
    have := (List.getElem?_eq_some_iff.1 hv).1
    simp at this
    omega
  rwa [List.getElem?_take_of_lt hj, List.getElem?_drop] at hv
theorem pkview_one (A : Option Addr) (n c : Nat) (bs : List Nat) (w : World) (hn2 : n ≤ 140737488351232) (hc : n ≤ c) (hR : Row w A n bs) :
    Calls Tryz.prog 33 #[.slice A n c] w fun e w' => ∃ A9 c9, e = .returned (.tuple #[.agg (pkCells A c n bs).toArray, .slice A9 (pkDefs n bs).length c9]) ∧ Below w.heap.size w w' ∧ (pkDefs n bs ≠ [] → DefRead w' (.slice A9 (pkDefs n bs).length c9) (pkDefs n bs)) ∧ (pkDefs n bs = [] → A9 = none ∧ c9 = 0) :=
  (pkview_any A n c bs w hn2 hc hR).mono fun e w' h => by
    obtain ⟨hb, h1, h2⟩ := h
    by_cases hD : pkDefs n bs = []
    · refine ⟨none, 0, ?_, hb, fun g => absurd hD g, fun _ => ⟨rfl, rfl⟩⟩
      rw [h2 hD]
      unfold pkCells
      rw [if_pos hD, hD]
      rfl
    · obtain ⟨v, rfl, hd⟩ := h1 hD
      obtain ⟨A9, c9, rfl, h4, h5⟩ := hd
      refine ⟨A9, c9, ?_, hb, fun _ => ⟨A9, c9, rfl, h4, h5⟩, fun g => absurd g hD⟩
      unfold pkCells
      rw [if_neg hD]
theorem pkTold_nil {n : Nat} {bs : List Nat} (h : pkDefs n bs = []) : pkTold n bs = 0 := by unfold pkTold; rw [h]; rfl
set_option maxHeartbeats 3200000 in
theorem pksound_any (A : Option Addr) (n c : Nat) (bs : List Nat) (w : World) (hn2 : n ≤ 140737488351232) (hc : n ≤ c) (hR : Row w A n bs) :
    Calls Tryz.prog 23 #[.slice A n c] w fun e w' => e = .returned (.tuple #[.agg (pkCells A c n bs).toArray, .int .i64 (pkTold n bs : Nat)]) ∧ Below w.heap.size w w' := by
  obtain ⟨Z, hZ⟩ : ∃ Z, Z = trZ := ⟨_, rfl⟩
  obtain ⟨hZl, hZo⟩ := trZ_all
  have hlit := tr_lit
  obtain ⟨V, e0⟩ : ∃ V, V = w.alloc (.cells Z.toArray 52) := ⟨_, rfl⟩
  obtain ⟨Xl, Xo⟩ := pkCells_all (A := A) (c := c) hR.1
  have CV : Hid (∀ W, Below w.heap.size w W → Calls Tryz.prog 33 #[.slice A n c] W fun e w' => ∃ A9 c9, e = .returned (.tuple #[.agg (pkCells A c n bs).toArray, .slice A9 (pkDefs n bs).length c9]) ∧ Below W.heap.size W w' ∧ (pkDefs n bs ≠ [] → DefRead w' (.slice A9 (pkDefs n bs).length c9) (pkDefs n bs)) ∧ (pkDefs n bs = [] → A9 = none ∧ c9 = 0)) := fun W h => pkview_one A n c bs W hn2 hc (hR.below h)
  have hT : pkDefs n bs ≠ [] → pkCells A c n bs = trZ := fun h => by unfold pkCells; rw [if_neg h]
  have hT0 : pkDefs n bs = [] → pkTold n bs = 0 := pkTold_nil
  have hTd : ∀ d l, pkDefs n bs = d :: l → pkTold n bs = d := fun d l h => by unfold pkTold; rw [h]; rfl
  obtain ⟨X, hX⟩ : ∃ X, X = pkCells A c n bs := ⟨_, rfl⟩
  obtain ⟨D, hDD⟩ : ∃ D, D = pkDefs n bs := ⟨_, rfl⟩
  obtain ⟨d, hd⟩ : ∃ d, d = pkTold n bs := ⟨_, rfl⟩
  rw [← hX] at CV Xl Xo hT ⊢
  rw [← hDD] at CV hT hT0 hTd
  rw [← hd] at hT0 hTd ⊢
  rw [← hZ] at hZl hZo hlit hT
  have HA : Hid (ArrV 52 V w.heap.size Z) := by show ArrV _ _ _ _; rw [e0]; exact ArrV.new _ w Z
  have HB : Hid (Below w.heap.size w V) := by show Below _ _ _; rw [e0]; exact (Below.refl _ _).alloc (Nat.le_refl _) _
  obtain ⟨g2, hg2⟩ : ∃ g, g = w.heap.size := ⟨_, rfl⟩
  have HG2 := Lib.hid hg2
  rw [← hg2] at HA
  clear hX hDD hd hR hn2 hc hZ hg2
  by_cases hD : D = []
  · subst hD
    have hd0 := hT0 rfl
    subst hd0
    clear hT hT0 hTd
    have CW : Hid (∀ W, Below w.heap.size w W → Calls Tryz.prog 33 #[.slice A n c] W fun e w' => e = .returned (.tuple #[.agg X.toArray, .slice none 0 0]) ∧ Below W.heap.size W w') := fun W h => (CV.out W h).mono fun e w' h => by
      obtain ⟨A9, c9, rfl, hb, _, h2⟩ := h
      obtain ⟨rfl, rfl⟩ := h2 rfl
      exact ⟨rfl, hb⟩
    go_enter Tryz.func23, Tryz.ntmps23
    go_upto_region 1 with fail
    rw [← e0, ← HG2.out]
    clear e0
    go_wp2_with fail
    refine (CW.out _ HB.out).mono ?_
    rintro e w1 ⟨rfl, b1⟩
    have A1 := Lib.hid (HA.out.below b1)
    have B1 := Lib.hid (below_both HB.out b1)
    clear b1
    go_upto_region 2 with (first | refine wpList_store_v rfl 52 (.tmp 4) (.tmp 9) rfl _ rfl tytr (ArrV.new _ _ Z) hZl X Xl Xo rfl ?_ | fail)
    obtain ⟨V4, e4⟩ : ∃ V, V = (w1.alloc (.cells Z.toArray 52)).setCells w1.heap.size 0 X := ⟨_, rfl⟩
    have hb4 : Below w1.heap.size w1 V4 := by rw [e4]; exact setCells_below _ (Nat.le_refl _) _ _ _ ((Below.refl _ _).alloc (Nat.le_refl _) _)
    have X4 : Hid (ArrV 52 V4 w1.heap.size X) := by
      show ArrV _ _ _ _
      rw [e4]
      exact (ArrV.new _ w1 Z).store X (by rw [Xl, hZl])
    rw [← e4]
    obtain ⟨g4, hg4⟩ : ∃ g, g = w1.heap.size := ⟨_, rfl⟩
    have A4 := Lib.hid (A1.out.below hb4)
    have B4 := Lib.hid (below_both B1.out hb4)
    rw [← hg4] at X4 ⊢
    clear e4 hb4 A1 B1 hg4
    go_wp2_with (first | refine wpList_load_v rfl 52 (.tmp 4) rfl _ rfl tytr X4.out Xl ?_ | refine wpList_store_v rfl 52 (.tmp 2) (.tmp 18) rfl _ rfl tytr A4.out hZl X Xl Xo rfl ?_ | fail)
    have HS := A4.out.store X (by rw [Xl, hZl])
    exact bodyPost_ret (v := .tuple #[.agg X.toArray, .int .i64 (0 : Nat)]) (res_cell_tmp Tryz.results23 rfl (HS.loadVar tytr Xl) rfl) rfl ⟨rfl, setCells_below g2 (by rw [HG2.out]; exact Nat.le_refl _) _ _ _ B4.out⟩
  · obtain ⟨d', l, rfl⟩ := List.exists_cons_of_ne_nil hD
    have hdd := hTd _ _ rfl
    subst hdd
    have hXZ := hT hD
    subst hXZ
    obtain ⟨q, hq⟩ : ∃ q, q = (d :: l).length := ⟨_, rfl⟩
    have hl0 : 0 < q := by rw [hq]; simp
    have CV : Hid (∀ W, Below w.heap.size w W → Calls Tryz.prog 33 #[.slice A n c] W fun e w' => ∃ b o c9, e = .returned (.tuple #[.agg X.toArray, .slice (some ⟨b, o, none⟩) q c9]) ∧ Below W.heap.size W w' ∧ w'.cell? ⟨b, o, none⟩ = some (.int .i64 (d : Nat)) ∧ b < w'.heap.size) := fun W h => (CV.out W h).mono fun e w' h => by
      obtain ⟨A9, c9, rfl, hb, h2, _⟩ := h
      obtain ⟨A8, c8, e8, _, h5⟩ := h2 hD
      cases e8
      obtain ⟨b, o, ea, hlt, h1⟩ := h5 0 d rfl
      rw [Nat.add_zero] at h1
      rw [← hq]
      exact ⟨b, o, c9, by rw [ea], hb, h1, hlt⟩
    have qI : (0 : Int) < (q : Int) := by omega
    clear hT hT0 hTd hD hq hl0
    go_enter Tryz.func23, Tryz.ntmps23
    go_upto_region 1 with fail
    rw [← e0, ← HG2.out]
    clear e0
    go_wp2_with fail
    refine (CV.out _ HB.out).mono ?_
    rintro e w1 ⟨b, o, c9, rfl, b1, c0, hlt⟩
    have A1 := Lib.hid (HA.out.below b1)
    have B1 := Lib.hid (below_both HB.out b1)
    have C0 := Lib.hid (And.intro c0 hlt)
    clear b1 c0 hlt
    go_upto_region 2 with (first | refine wpList_store_v rfl 52 (.tmp 4) (.tmp 9) rfl _ rfl tytr (ArrV.new _ _ X) hZl X Xl Xo rfl ?_ | fail)
    obtain ⟨V4, e4⟩ : ∃ V, V = (w1.alloc (.cells X.toArray 52)).setCells w1.heap.size 0 X := ⟨_, rfl⟩
    have hb4 : Below w1.heap.size w1 V4 := by rw [e4]; exact setCells_below _ (Nat.le_refl _) _ _ _ ((Below.refl _ _).alloc (Nat.le_refl _) _)
    have hA4 := A1.out.below hb4
    have A4 := Lib.hid hA4
    have B4 := Lib.hid (below_both B1.out hb4)
    have c1 : V4.cell? ⟨b, o, none⟩ = some (.int .i64 (d : Nat)) := (hb4.cell (p := ⟨b, o, none⟩) C0.out.2).trans C0.out.1
    have c2 : (V4.drew.setCells g2 0 X).cell? ⟨b, o, none⟩ = some (.int .i64 (d : Nat)) := by
      have h1 : DefRead V4 (.slice (some ⟨b, o, none⟩) 1 1) [d] := ⟨_, 1, rfl, Nat.le_refl _, fun i z hz => by
        have hi : i = 0 := by
          have := (List.getElem?_eq_some_iff.1 hz).1
          simp at this
          exact this
        subst hi
        simp at hz
        subst hz
        exact ⟨b, o, rfl, Nat.lt_of_lt_of_le C0.out.2 hb4.size, c1⟩⟩
      obtain ⟨A8, c8, e8, _, h5⟩ := (show DefRead V4.drew _ _ from h1).again hA4.drew
      cases e8
      obtain ⟨b', o', ea, _, h1⟩ := h5 0 d rfl
      cases ea
      rw [Nat.add_zero] at h1
      exact h1
    have hst := hA4.drew.stAll X rfl Xo
    rw [← e4]
    clear e4 hb4 A1 B1 hA4 C0
    go_upto_region 3 with fail
    go_region
    go_wp2_with fail
    have HS := A4.out.drew.store X rfl
    exact bodyPost_ret (v := .tuple #[.agg X.toArray, .int .i64 (d : Nat)]) (res_cell_tmp Tryz.results23 rfl (HS.loadVar tytr Xl) rfl) rfl ⟨rfl, setCells_below g2 (by rw [HG2.out]; exact Nat.le_refl _) _ _ _ B4.out.drew⟩
end Go.Proofs.YtmchclpkjjmocaaGreat

namespace Go.Proofs.YtmchclpkjjmocaaGreat
open Go.RowKit
set_option linter.unusedVariables false

def hdTail (r : PkRec) (has : Bool) (x y : Nat) : List Value := [.int .i64 r.proto, .int .i64 (r.size : Nat), .int .i64 (r.at_ : Nat), .int .i64 (r.frag : Nat), .bool has, .int .i64 (x : Nat), .int .i64 (y : Nat)]
def hdCells (r : PkRec) (has : Bool) (x y : Nat) : List Value := .int .i64 (r.v : Nat) :: (bcells r.src ++ (bcells r.dst ++ hdTail r has x y))
def kyTail (r : PkRec) (has : Bool) (x y : Nat) : List Value := [.int .i64 r.proto, .int .i64 (r.field / 4 : Nat), .bool has, .int .i64 (x : Nat), .int .i64 (y : Nat)]
def kyCells (r : PkRec) (has : Bool) (x y : Nat) : List Value := .int .i64 (r.v : Nat) :: (bcells r.src ++ (bcells r.dst ++ kyTail r has x y))
/-- What all records keep to. -/
structure PkRec.Ok (r : PkRec) (x y : Nat) : Prop where
  sl : r.src.length = 16
  dl : r.dst.length = 16
  sb : ∀ u ∈ r.src, u < 256
  db : ∀ u ∈ r.dst, u < 256
  v : r.v ≤ 9
  proto : 0 ≤ r.proto ∧ r.proto ≤ 255
  size : r.size ≤ 100000
  at_ : r.at_ ≤ 100000
  frag : r.frag ≤ 2
  field : r.field ≤ 255
  x : x ≤ 65535
  y : y ≤ 65535
theorem hdCells_all {r : PkRec} {has : Bool} {x y : Nat} (h : r.Ok x y) : (hdCells r has x y).length = 40 ∧ ∀ v ∈ hdCells r has x y, v.oneCell' = true := by
  refine ⟨by simp [hdCells, hdTail, bcells_length, h.sl, h.dl], fun v hv => ?_⟩
  unfold hdCells at hv
  rcases List.mem_cons.1 hv with rfl | hv
  · rfl
  rcases List.mem_append.1 hv with hv | hv
  · exact bcells_one _ v hv
  rcases List.mem_append.1 hv with hv | hv
  · exact bcells_one _ v hv
  · unfold hdTail at hv
    simp at hv
    rcases hv with rfl | rfl | rfl | rfl | rfl | rfl | rfl <;> rfl
theorem kyCells_all {r : PkRec} {has : Bool} {x y : Nat} (h : r.Ok x y) : (kyCells r has x y).length = 38 ∧ ∀ v ∈ kyCells r has x y, v.oneCell' = true := by
  refine ⟨by simp [kyCells, kyTail, bcells_length, h.sl, h.dl], fun v hv => ?_⟩
  unfold kyCells at hv
  rcases List.mem_cons.1 hv with rfl | hv
  · rfl
  rcases List.mem_append.1 hv with hv | hv
  · exact bcells_one _ v hv
  rcases List.mem_append.1 hv with hv | hv
  · exact bcells_one _ v hv
  · unfold kyTail at hv
    simp at hv
    rcases hv with rfl | rfl | rfl | rfl | rfl <;> rfl
theorem cells_bool : Tryz.prog.cellsOf 4 = 1 := by kernel_rfl
theorem cells_head : Tryz.prog.cellsOf 37 = 40 := by kernel_rfl
theorem tyhead : RowTy 37 40 := ⟨⟨_, Tryz.underlying37, rfl⟩, by kernel_rfl⟩
theorem key_bool (d : Nat) (b : Bool) : Tryz.prog.keyLits (d + 1) 4 [.bool b] = some [.bool b] := by
  unfold Program.keyLits
  rw [Tryz.underlying4]
theorem key_nat (d : Nat) {k : Nat} (h : k ≤ 9223372036854775807) : Tryz.prog.keyLits (d + 1) 3 [.int .i64 (k : Nat)] = some [.int .i64 (k : Nat)] := key_int d ⟨by omega, by omega⟩
set_option maxRecDepth 10000 in
theorem key_head {r : PkRec} {has : Bool} {x y : Nat} (h : r.Ok x y) : ∃ ls, Tryz.prog.keyLits 4 37 (hdCells r has x y) = some ls := by
  obtain ⟨l1, k5⟩ := key_a16 1 h.sl h.sb
  obtain ⟨l2, k6⟩ := key_a16 1 h.dl h.db
  have k0 := key_nat 2 (k := r.v) (by have := h.v; omega)
  have k1 := key_int 2 (k := r.proto) (by have := h.proto; omega)
  have k2 := key_nat 2 (k := r.size) (by have := h.size; omega)
  have k3 := key_nat 2 (k := r.at_) (by have := h.at_; omega)
  have k4 := key_nat 2 (k := r.frag) (by have := h.frag; omega)
  have k7 := key_bool 2 has
  have k8 := key_nat 2 (k := x) (by have := h.x; omega)
  have k9 := key_nat 2 (k := y) (by have := h.y; omega)
  have hLl : (bcells r.src).length = 16 := by rw [bcells_length, h.sl]
  have hMl : (bcells r.dst).length = 16 := by rw [bcells_length, h.dl]
  refine ⟨[.int .i64 (r.v : Nat)] ++ l1 ++ l2 ++ [.int .i64 r.proto, .int .i64 (r.size : Nat), .int .i64 (r.at_ : Nat), .int .i64 (r.frag : Nat), .bool has, .int .i64 (x : Nat), .int .i64 (y : Nat)], ?_⟩
  unfold hdCells hdTail
  obtain ⟨L, hL⟩ : ∃ L, L = bcells r.src := ⟨_, rfl⟩
  obtain ⟨M, hM⟩ : ∃ M, M = bcells r.dst := ⟨_, rfl⟩
  rw [← hL] at k5 hLl ⊢
  rw [← hM] at k6 hMl ⊢
  obtain ⟨T, hT⟩ : ∃ T : List Value, T = [.int .i64 r.proto, .int .i64 (r.size : Nat), .int .i64 (r.at_ : Nat), .int .i64 (r.frag : Nat), .bool has, .int .i64 (x : Nat), .int .i64 (y : Nat)] := ⟨_, rfl⟩
  have d5 : List.take 16 (L ++ (M ++ T)) = L := List.take_left' hLl
  have d6 : List.drop 16 (L ++ (M ++ T)) = M ++ T := List.drop_left' hLl
  have d7 : List.take 16 (M ++ T) = M := List.take_left' hMl
  have d8 : List.drop 16 (M ++ T) = T := List.drop_left' hMl
  have dj : ∀ j, List.drop (32 + j) (L ++ (M ++ T)) = List.drop j T := fun j => by
    rw [show 32 + j = 16 + (16 + j) by omega, ← List.drop_drop, d6, ← List.drop_drop, d8]
  have e32 : List.drop 32 (L ++ (M ++ T)) = List.drop 0 T := dj 0
  have e33 : List.drop 33 (L ++ (M ++ T)) = List.drop 1 T := dj 1
  have e34 : List.drop 34 (L ++ (M ++ T)) = List.drop 2 T := dj 2
  have e35 : List.drop 35 (L ++ (M ++ T)) = List.drop 3 T := dj 3
  have e36 : List.drop 36 (L ++ (M ++ T)) = List.drop 4 T := dj 4
  have e37 : List.drop 37 (L ++ (M ++ T)) = List.drop 5 T := dj 5
  have e38 : List.drop 38 (L ++ (M ++ T)) = List.drop 6 T := dj 6
  rw [hT] at d5 d6 d7 d8 e32 e33 e34 e35 e36 e37 e38
  unfold Program.keyLits
  rw [Tryz.underlying37]
  simp [cells_head, cells_a16, cells_int, cells_bool, k0, k1, k2, k3, k4, k5, k6, k7, k8, k9, hLl, hMl, d5, d6, d7, e32, e33, e34, e35, e36, e37, e38]
/-- A record is equal to itself. -/
theorem head_same {r : PkRec} {has : Bool} {x y : Nat} (h : r.Ok x y) (w : World) :
    (Op.equalIn 10000 37 (.agg (hdCells r has x y).toArray) (.agg (hdCells r has x y).toArray)).run Tryz.prog w = .ok true w := by
  obtain ⟨ls, hl⟩ := key_head h (has := has)
  have hf : (Value.agg (hdCells r has x y).toArray).formed Tryz.prog 37 = true := by simp [Value.formed, Tryz.underlying37, cells_head, (hdCells_all h (has := has)).1]
  obtain ⟨r2, hr, hi⟩ := run_equalIn_deep (P := Tryz.prog) 9990 10 37 (by kernel_rfl) w 4 4 (.agg (hdCells r has x y).toArray) (.agg (hdCells r has x y).toArray) ls ls hf hf (by simpa [Value.cells] using hl) (by simpa [Value.cells] using hl)
  rw [hi.2 rfl] at hr
  exact hr
/-- The zero record. -/
def RZ : PkRec := ⟨0, List.replicate 16 0, List.replicate 16 0, 0, 0, 0, 0, 0⟩
theorem rz_ok : RZ.Ok 0 0 := ⟨rfl, rfl, by decide, by decide, by decide, by decide, by decide, by decide, by decide, by decide, by decide, by decide⟩
end Go.Proofs.YtmchclpkjjmocaaGreat

namespace Go.Proofs.YtmchclpkjjmocaaGreat
set_option linter.unusedVariables false

theorem pk_getD {bs cs : List Nat} {s : Nat} (ht : cs.take s = bs.take s) {k : Nat} (hk : k < s) : cs.getD k 0 = bs.getD k 0 := by
  rw [← getD_take (l := cs) hk, ht, getD_take hk]
theorem pk_part {bs cs : List Nat} {s : Nat} (ht : cs.take s = bs.take s) {a b : Nat} (hk : a + b ≤ s) : (cs.drop a).take b = (bs.drop a).take b := by
  have h : ∀ l : List Nat, (l.drop a).take b = ((l.take s).drop a).take b := fun l => by
    rw [List.drop_take, List.take_take, Nat.min_eq_left (by omega)]
  rw [h cs, h bs, ht]
theorem pk_front {bs cs : List Nat} {s : Nat} (ht : cs.take s = bs.take s) {m : Nat} (hk : m ≤ s) : cs.take m = bs.take m := by
  have h := pk_part ht (a := 0) (b := m) (by omega)
  rwa [List.drop_zero, List.drop_zero] at h
theorem pk_word {bs cs : List Nat} {s : Nat} (ht : cs.take s = bs.take s) {k : Nat} (hk : k + 2 ≤ s) : fhw cs k = fhw bs k := by
  unfold fhw
  rw [pk_getD ht (by omega : k < s), pk_getD ht (by omega : k + 1 < s)]
theorem pk_four_more {n n' s : Nat} {bs cs : List Nat} (h : fhall n bs = []) (hs : s = fhw bs 2) (ht : cs.take s = bs.take s) (hn : s ≤ n') : fhall n' cs = [] ∧ pk4 cs = pk4 bs := by
  obtain ⟨d0, h20, m20, hmt, htn⟩ := fhall_nil h
  rw [← hs] at hmt htn
  obtain ⟨z0, z1, z2, z3, z4⟩ := fhdef_zero d0
  have g0 := pk_getD ht (by omega : 0 < s)
  have w2 := pk_word ht (k := 2) (by omega)
  have w6 := pk_word ht (k := 6) (by omega)
  have d1 : fhdef n' cs = 0 := by
    unfold fhdef
    rw [g0, if_neg (by omega), if_neg (by omega), if_neg (by omega), if_neg (by omega), if_neg (by omega)]
  have ho : fhopts n' cs = fhopts n bs := by
    unfold fhopts
    rw [if_pos d0, if_pos d1, g0, pk_part ht (by omega)]
  constructor
  · unfold fhall at h ⊢
    rw [if_pos d0] at h
    rw [if_pos d1, ho, g0, pk_front ht hmt]
    unfold fhbad at h ⊢
    rw [w2, w6]
    rw [decide_eq_false (by omega : ¬ n < fhw bs 2)] at h
    rw [decide_eq_false (by omega : ¬ n' < fhw bs 2)]
    exact h
  · unfold pk4
    rw [g0, pk_getD ht (by omega : 1 < s), pk_getD ht (by omega : 6 < s), pk_getD ht (by omega : 9 < s), w2, w6, pk_part ht (by omega : 12 + 4 ≤ s), pk_part ht (by omega : 16 + 4 ≤ s)]
theorem pk_six_more {n n' s : Nat} {bs cs : List Nat} (hl : bs.length = n) (h : sxall n bs = []) (hs : s = 40 + sxPay bs) (ht : cs.take s = bs.take s) (hn : s ≤ n') : sxall n' cs = [] ∧ pk6 cs = pk6 bs := by
  obtain ⟨d0, h40, hrest, hrl, hdf⟩ := sxall_nil hl h
  have g0 := pk_getD ht (by omega : 0 < s)
  have t8 : cs.take 8 = bs.take 8 := pk_front ht (by omega)
  have pp : sxPay cs = sxPay bs := by unfold sxPay; rw [t8]
  have nn : sxNext cs = sxNext bs := by unfold sxNext; rw [t8]
  have rr : pkRest cs = pkRest bs := by unfold pkRest; rw [pp, pk_part ht (by omega)]
  have tt : pkTour cs = pkTour bs := by unfold pkTour; rw [rr, nn]
  have d1 : sxdef n' cs = 0 := by
    unfold sxdef at d0 ⊢
    rw [g0]
    split at d0
    · cases d0
    split at d0
    · cases d0
    split at d0
    · cases d0
    rw [if_neg (by omega), if_neg (by assumption), if_neg (by omega)]
  constructor
  · have hr : sxrest n' cs = some (pkRest cs) := by
      unfold sxrest
      rw [if_pos ⟨d1, by omega⟩]
      rfl
    unfold sxall
    rw [if_neg (fun e => e d1), hr]
    show (pkTour cs).defects = []
    rw [tt, hdf]
  · unfold pk6
    rw [pp, tt, t8, pk_part ht (by omega : 8 + 16 ≤ s), pk_part ht (by omega : 24 + 16 ≤ s)]
/-- What is behind a packet's end is nothing to it. -/
theorem pk_more {n n' s : Nat} {bs cs : List Nat} (hl : bs.length = n) (hb : ∀ x ∈ bs, x < 256) (h : pkDefs n bs = []) (hs : s = (pkRec bs).size) (ht : cs.take s = bs.take s) (hn : s ≤ n') : pkDefs n' cs = [] ∧ pkRec cs = pkRec bs ∧ (pkRec cs).ports cs = (pkRec bs).ports bs := by
  have hh : pkHeads n bs = [] := by
    unfold pkDefs at h
    split at h
    · exact h
    · exact Decidable.of_not_not (by assumption)
  obtain ⟨_, hat, has, hsn, _, _⟩ := pk_good hl hb hh
  rw [← hs] at has hsn
  have h2 : pkHeads n' cs = [] ∧ pkRec cs = pkRec bs := by
    have hh2 := hh
    unfold pkHeads at hh
    have g0 := pk_getD ht (by omega : 0 < s)
    split at hh
    · cases hh
    · split at hh
      · rename_i h4
        have e : pkRec bs = pk4 bs := by unfold pkRec; rw [if_pos h4]
        rw [e] at hs
        obtain ⟨a1, a2⟩ := pk_four_more hh hs ht hn
        unfold pkHeads pkRec
        rw [g0, if_neg (by omega), if_pos h4, if_pos h4, if_pos h4]
        exact ⟨a1, a2⟩
      · split at hh
        · rename_i h4 h6
          have e : pkRec bs = pk6 bs := by unfold pkRec; rw [if_neg h4]
          rw [e] at hs
          obtain ⟨a1, a2⟩ := pk_six_more hl hh hs ht hn
          unfold pkHeads pkRec
          rw [g0, if_neg (by omega), if_neg h4, if_neg h4, if_neg h4, if_pos h6]
          exact ⟨a1, a2⟩
        · cases hh
  obtain ⟨hh2, hr⟩ := h2
  have hp : (pkRec cs).ports cs = (pkRec bs).ports bs := by
    unfold PkRec.ports PkRec.pay
    rw [hr, ← hs, pk_part ht (by omega)]
  refine ⟨?_, hr, hp⟩
  unfold pkDefs at h ⊢
  rw [if_neg (fun e => e hh)] at h
  rw [if_neg (fun e => e hh2), hp]
  exact h
/-- Cut off ahead of its end it has a defect ahead of those of its options. -/
theorem pk_cut {n m : Nat} {bs : List Nat} (hl : bs.length = n) (hb : ∀ x ∈ bs, x < 256) (h : pkDefs n bs = []) (hm : m < (pkRec bs).size) : ∃ d l, pkDefs m (bs.take m) = d :: l ∧ 1 ≤ d ∧ d < 8 := by
  have hh : pkHeads n bs = [] := by
    unfold pkDefs at h
    split at h
    · exact h
    · exact Decidable.of_not_not (by assumption)
  suffices hs : ∃ d l, pkHeads m (bs.take m) = d :: l ∧ 1 ≤ d ∧ d < 8 by
    obtain ⟨d, l, e, h1⟩ := hs
    refine ⟨d, l, ?_, h1⟩
    unfold pkDefs
    rw [e, if_pos (by simp)]
  by_cases m0 : m = 0
  · refine ⟨1, [], ?_, by decide, by decide⟩
    unfold pkHeads
    rw [if_pos m0]
  have ht : (bs.take m).take m = bs.take m := by rw [List.take_take, Nat.min_self]
  have g0 : (bs.take m).getD 0 0 = bs.getD 0 0 := getD_take (by omega)
  unfold pkHeads at hh ⊢
  rw [if_neg m0, g0]
  split at hh
  · cases hh
  split at hh
  · rename_i h4
    have e : pkRec bs = pk4 bs := by unfold pkRec; rw [if_pos h4]
    rw [e] at hm
    have hm : m < fhw bs 2 := hm
    obtain ⟨d0, h20, m20, hmt, htn⟩ := fhall_nil hh
    rw [if_pos h4]
    unfold fhall
    by_cases hd : fhdef m (bs.take m) = 0
    · rw [if_pos hd, g0]
      obtain ⟨z0, z1, z2, z3, z4⟩ := fhdef_zero hd
      have w2 := pk_word (bs := bs) (cs := bs.take m) (s := m) ht (k := 2) (by omega)
      unfold fhbad
      rw [w2, decide_eq_false (by omega : ¬ fhw bs 2 < 4 * (bs.getD 0 0 % 16)), decide_eq_true hm]
      exact ⟨7, _, rfl, by decide, by decide⟩
    · rw [if_neg hd]
      refine ⟨_, [], rfl, by omega, ?_⟩
      unfold fhdef
      split
      · decide
      split
      · decide
      split
      · decide
      split
      · decide
      split <;> decide
  · split at hh
    · rename_i h4 h6
      have e : pkRec bs = pk6 bs := by unfold pkRec; rw [if_neg h4]
      rw [e] at hm
      have hm : m < 40 + sxPay bs := hm
      rw [if_neg h4, if_pos h6]
      unfold sxall
      by_cases hd : sxdef m (bs.take m) = 0
      · rw [if_neg (fun e => e hd)]
        have h40 : 40 ≤ m := by
          unfold sxdef at hd
          split at hd
          · cases hd
          split at hd
          · cases hd
          split at hd
          · cases hd
          omega
        have pp : sxPay (bs.take m) = sxPay bs := by unfold sxPay; rw [pk_front ht (by omega : 8 ≤ m)]
        have hr : sxrest m (bs.take m) = none := by
          unfold sxrest
          rw [pp, if_neg (fun e => by omega)]
        rw [hr]
        exact ⟨7, [], rfl, by decide, by decide⟩
      · rw [if_pos hd]
        refine ⟨_, [], rfl, by omega, ?_⟩
        unfold sxdef
        split
        · decide
        split
        · decide
        split <;> decide
    · cases hh
theorem exFrag_le (hd : List Nat) : exFrag hd ≤ 2 := by
  unfold exFrag
  split
  · decide
  · split <;> decide
theorem pass_frag {t : Tour} {k : Nat} {hd : List Nat} {b : Nat} (h : t.frag ≤ 2) : (t.pass k hd b).frag ≤ 2 := by
  unfold Tour.pass Tour.mid
  (repeat' split) <;> first | exact h | exact exFrag_le _
theorem walkF_frag {n : Nat} {bs : List Nat} : ∀ (f : Nat) (t : Tour) (M : List (Nat × List Nat)), t.frag ≤ 2 → (walkF n bs f t M).1.frag ≤ 2
  | 0, t, M, h => h
  | f + 1, t, M, h => by
    rw [walkF]
    split
    · exact h
    · split
      · exact h
      · split
        · exact h
        · rename_i m _
          have hp := pass_frag (k := t.proto.toNat) (hd := (bs.drop t.at_).take m) (b := n - t.at_ - m) h
          split
          · exact hp
          · exact walkF_frag f _ _ hp
theorem poRead_ports {p : Int} {n : Nat} {bs : List Nat} {f : Bool} (hb : ∀ k, bs.getD k 0 < 256) : (poRead p n bs f).1 ≤ 65535 ∧ (poRead p n bs f).2.1 ≤ 65535 := by
  unfold poRead
  have h0 := fhw_lt hb 0
  have h2 := fhw_lt hb 2
  split
  · exact ⟨by decide, by decide⟩
  · split
    · exact ⟨by decide, by decide⟩
    · split
      · exact ⟨by decide, by decide⟩
      · exact ⟨by show fhw bs 0 ≤ 65535; omega, by show fhw bs 2 ≤ 65535; omega⟩
theorem pkRec_ok {n : Nat} {bs : List Nat} (hl : bs.length = n) (hb : ∀ x ∈ bs, x < 256) (hh : pkHeads n bs = []) : (pkRec bs).Ok ((pkRec bs).ports bs).1 ((pkRec bs).ports bs).2.1 := by
  obtain ⟨hv, g20, gas, gsn, gp1, gp2⟩ := pk_good hl hb hh
  obtain ⟨hs, hd⟩ := pkRec_lens hl hh
  have hP : ((pkRec bs).ports bs).1 ≤ 65535 ∧ ((pkRec bs).ports bs).2.1 ≤ 65535 := by
    unfold PkRec.ports
    split
    · refine poRead_ports (fun k => getD_byte (fun x hx => ?_) k)
      unfold PkRec.pay at hx
      exact hb x (List.mem_of_mem_drop (List.mem_of_mem_take hx))
    · exact ⟨by decide, by decide⟩
  have hrest : (∀ u ∈ (pkRec bs).src, u < 256) ∧ (∀ u ∈ (pkRec bs).dst, u < 256) ∧ (pkRec bs).size ≤ 100000 ∧ (pkRec bs).frag ≤ 2 ∧ (pkRec bs).field ≤ 255 := by
    unfold pkHeads at hh
    split at hh
    · cases hh
    · split at hh
      · rename_i h4
        have e : pkRec bs = pk4 bs := by unfold pkRec; rw [if_pos h4]
        rw [e]
        have z : ∀ (k : Nat), ∀ u ∈ (bs.drop k).take 4 ++ List.replicate 12 0, u < 256 := fun k u hu => by
          rcases List.mem_append.1 hu with h | h
          · exact hb u (List.mem_of_mem_drop (List.mem_of_mem_take h))
          · rw [List.eq_of_mem_replicate h]; decide
        refine ⟨z 12, z 16, ?_, ?_, ?_⟩
        · show fhw bs 2 ≤ 100000
          have := fhw_lt (fun k => getD_byte hb k) 2
          omega
        · show (if fhw bs 6 % 8192 ≠ 0 then 2 else if bs.getD 6 0 / 32 % 2 = 1 then 1 else 0) ≤ 2
          split
          · decide
          · split <;> decide
        · show bs.getD 1 0 ≤ 255
          have := getD_byte hb 1
          omega
      · split at hh
        · rename_i h4 h6
          have e : pkRec bs = pk6 bs := by unfold pkRec; rw [if_neg h4]
          rw [e]
          have z : ∀ (k : Nat), ∀ u ∈ (bs.drop k).take 16, u < 256 := fun k u hu => hb u (List.mem_of_mem_drop (List.mem_of_mem_take hu))
          refine ⟨z 8, z 24, ?_, walkF_frag _ _ _ (Nat.zero_le 2), ?_⟩
          · show 40 + sxPay bs ≤ 100000
            have : sxPay bs < 65536 := by unfold sxPay sxN; exact Nat.mod_lt _ (by decide)
            omega
          · show sxN (be (bs.take 8)) 0 ≤ 255
            have : sxN (be (bs.take 8)) 0 < 256 := by unfold sxN; exact Nat.mod_lt _ (by decide)
            omega
        · cases hh
  exact ⟨hs, hd, hrest.1, hrest.2.1, by omega, ⟨gp1, gp2⟩, hrest.2.2.1, by have := hrest.2.2.1; omega, hrest.2.2.2.1, hrest.2.2.2.2, hP.1, hP.2⟩
end Go.Proofs.YtmchclpkjjmocaaGreat
