/-
  direct's New: the faults, and the table that it makes.
-/
import Derived.Test.YthikjngmaekjgaaDr0
import Derived.Deep.RegionHeld3
namespace Go.Proofs.Ythikjngmaekjgaa
open Go.RowKit
set_option linter.unusedVariables false

theorem brset_val (v : Value) (xs : List Nat) (k : Nat) (w : World) (h : ValU w v xs) (hl : xs.length ≤ 1048576) (hk : (k : Int) ≤ 9223372036854775807) :
    Calls Try.prog 16 #[v, .int .i64 (k : Int)] w (MadeU w (setB xs (k : Int))) := by
  obtain ⟨A, c, rfl, _, hR⟩ := h
  exact brSet_any A xs.length c xs k w hk hl hR
theorem getD_two {a b : List Nat} {k : Nat} {m : Nat} (ha : a.length ≤ m) (hb : b.length ≤ m) : (([a, b] : List (List Nat)).getD k []).length ≤ m := by
  match k with
  | 0 => exact ha
  | 1 => exact hb
  | k + 2 => simp
theorem getD_three {a b c : List Nat} {k : Nat} {m : Nat} (ha : a.length ≤ m) (hb : b.length ≤ m) (hc : c.length ≤ m) : (([a, b, c] : List (List Nat)).getD k []).length ≤ m := by
  match k with
  | 0 => exact ha
  | 1 => exact hb
  | 2 => exact hc
  | k + 3 => simp
theorem ValU.words {w : World} {v : Value} {xs : List Nat} (h : ValU w v xs) : ∀ x ∈ xs, x < 18446744073709551616 := by
  obtain ⟨_, _, _, _, hR⟩ := h
  exact hR.2.1
theorem new_cells (w : World) (cs : List Value) (t : TypeId) (i : Nat) : (w.alloc (.cells cs.toArray t)).cell? ⟨w.heap.size, i, none⟩ = cs[i]? := by
  rw [cell_of_row _ w.heap.size i cs.toArray t (0, 0) (heap_alloc_new w _)]
  simp
theorem rowsAt_vals (w : World) (vs : List Value) (xss : List (List Nat)) (hl : vs.length = xss.length) (h : ∀ i, i < xss.length → ValU w (vs.getD i undef) (xss.getD i [])) : RowsAt (w.alloc (.cells vs.toArray 32)) (some ⟨w.heap.size, 0, none⟩) xss := by
  intro i hi
  obtain ⟨A, c, hv, _, hR⟩ := h i hi
  refine ⟨w.heap.size, 0, A, c, rfl, by simp, ?_, hR.alloc _⟩
  rw [Nat.zero_add, new_cells, List.getElem?_eq_getElem (by omega), ← hv, List.getD_eq_getElem?_getD, List.getElem?_eq_getElem (by omega)]
  rfl
theorem bror_two (v0 v1 : Value) (a b : List Nat) (w : World) (h0 : ValU w v0 a) (h1 : ValU w v1 b) (ha : a.length ≤ 1000) (hb : b.length ≤ 1000) :
    Calls Try.prog 15 #[.slice (some ⟨w.heap.size, 0, none⟩) 2 2] (w.alloc (.cells #[v0, v1] 32)) (MadeU (w.alloc (.cells #[v0, v1] 32)) (orRow [a, b])) :=
  bror_any _ 2 2 [a, b] _ (rowsAt_vals w [v0, v1] [a, b] rfl (fun i hi => by
    match i, hi with
    | 0, _ => exact h0
    | 1, _ => exact h1)) rfl (by omega) (fun k => getD_two ha hb) (words_of (fun r hr => by
      simp only [List.mem_cons, List.not_mem_nil, or_false] at hr
      rcases hr with rfl | rfl
      · exact h0.words
      · exact h1.words))
theorem bror_three (v0 v1 v2 : Value) (a b c : List Nat) (w : World) (h0 : ValU w v0 a) (h1 : ValU w v1 b) (h2 : ValU w v2 c) (ha : a.length ≤ 1000) (hb : b.length ≤ 1000) (hc : c.length ≤ 1000) :
    Calls Try.prog 15 #[.slice (some ⟨w.heap.size, 0, none⟩) 3 3] (w.alloc (.cells #[v0, v1, v2] 32)) (MadeU (w.alloc (.cells #[v0, v1, v2] 32)) (orRow [a, b, c])) :=
  bror_any _ 3 3 [a, b, c] _ (rowsAt_vals w [v0, v1, v2] [a, b, c] rfl (fun i hi => by
    match i, hi with
    | 0, _ => exact h0
    | 1, _ => exact h1
    | 2, _ => exact h2)) rfl (by omega) (fun k => getD_three ha hb hc) (words_of (fun r hr => by
      simp only [List.mem_cons, List.not_mem_nil, or_false] at hr
      rcases hr with rfl | rfl | rfl
      · exact h0.words
      · exact h1.words
      · exact h2.words))
theorem ValU.shape {w : World} {v : Value} {xs : List Nat} (h : ValU w v xs) : ∃ A z c, v = .slice A z c := by
  obtain ⟨A, c, h1, _⟩ := h
  exact ⟨A, _, c, h1⟩
theorem MadeU.vals {w w' : World} {xs : List Nat} {e : Ending} (h : MadeU w xs e w') (hx : ∀ x ∈ xs, x < 18446744073709551616) : ∃ v, e = .returned v ∧ ValU w' v xs ∧ Below w.heap.size w w' := by
  obtain ⟨v, h1, h2, h3⟩ := h
  exact ⟨v, h1, h2.val hx, h3⟩

/-- All required values are from -1 to most. -/
def Fit21 (l : List Int) (most : Int) (k : Nat) : Prop := ∀ i, i < k → -1 ≤ l.getD i 0 ∧ l.getD i 0 ≤ most

theorem FB.lt {W : World} {g : Nat} {a b : Int} (h : FB W g a b) : g < W.heap.size := cell_lt (p := ⟨g, 0, none⟩) h.c0

set_option maxRecDepth 10000 in
theorem dnew_range (A : Option Addr) (n cap : Nat) (most : Int) (w : World) (h : most < 0 ∨ 65535 < most) :
    Calls Try.prog 5 #[.slice A n cap, .int .i64 most] w fun e w' => e = .returned (.tuple #[.pointer none, .agg #[.int .i64 1, .int .i64 0]]) ∧ Below w.heap.size w w' := by
  have HF := Lib.hid (FB.new w)
  have hc0 := HF.out.c0
  have hc1 := HF.out.c1
  have hf0 := HF.out.f 0
  have hf1 := HF.out.f 1
  have hr0 := (HF.out.two 1 0).c0
  have hr1 := (HF.out.two 1 0).c1
  by_cases h1 : most < 0
  · clear h
    go_enter Try.func5, Try.ntmps5
    go_wp2_with fail
    exact bodyPost_ret (v := .tuple #[.pointer none, .agg #[.int .i64 1, .int .i64 0]]) (by simp [results, Try.results5, go_sem, hr0, hr1]) rfl ⟨rfl, (Below.refl _ _).alloc (Nat.le_refl _) _⟩
  · have h2 : 65535 < most := by omega
    clear h
    go_enter Try.func5, Try.ntmps5
    go_wp2_with fail
    exact bodyPost_ret (v := .tuple #[.pointer none, .agg #[.int .i64 1, .int .i64 0]]) (by simp [results, Try.results5, go_sem, hr0, hr1]) rfl ⟨rfl, (Below.refl _ _).alloc (Nat.le_refl _) _⟩

set_option maxRecDepth 10000 in
theorem dnew_many (A : Option Addr) (n cap : Nat) (most : Int) (w : World) (h1 : 0 ≤ most) (h2 : most ≤ 65535) (hn : 256 < n) (hnl : (n : Int) ≤ 9223372036854775807) :
    Calls Try.prog 5 #[.slice A n cap, .int .i64 most] w fun e w' => e = .returned (.tuple #[.pointer none, .agg #[.int .i64 7, .int .i64 256]]) ∧ Below w.heap.size w w' := by
  have HF := Lib.hid (FB.new w)
  have hc0 := HF.out.c0
  have hc1 := HF.out.c1
  have hf0 := HF.out.f 0
  have hf1 := HF.out.f 1
  have hr0 := (HF.out.two 7 256).c0
  have hr1 := (HF.out.two 7 256).c1
  have hni : 256 < (n : Int) := by omega
  clear hn
  go_enter Try.func5, Try.ntmps5
  go_wp2_with fail
  exact bodyPost_ret (v := .tuple #[.pointer none, .agg #[.int .i64 7, .int .i64 256]]) (by simp [results, Try.results5, go_sem, hr0, hr1]) rfl ⟨rfl, (Below.refl _ _).alloc (Nat.le_refl _) _⟩

set_option maxRecDepth 10000 in
set_option maxHeartbeats 800000 in
theorem dnew_bad (A : Option Addr) (n cap : Nat) (most : Int) (l : List Int) (i : Nat) (w : World) (h1 : 0 ≤ most) (h2 : most ≤ 65535) (hn : n ≤ 256) (hA : RowZ w A n l) (hi : i < n) (hfit : Fit21 l most i) (hbad : l.getD i 0 < -1 ∨ most < l.getD i 0) :
    Calls Try.prog 5 #[.slice A n cap, .int .i64 most] w fun e w' => e = .returned (.tuple #[.pointer none, .agg #[.int .i64 1, .int .i64 (i : Int)]]) ∧ Below w.heap.size w w' := by
  have hni : (n : Int) ≤ 256 := by omega
  have HF := Lib.hid (FB.new w)
  have HA := Lib.hid hA
  have HFit := Lib.hid hfit
  have HBad := Lib.hid hbad
  clear hA hfit hbad
  go_enter Try.func5, Try.ntmps5
  go_wp2_with fail
  go_loop [24] (fun j => ∃ k : Nat, k ≤ i ∧ j = .int .i64 (k : Int)) (fun j => n - (intOf j).toNat)
  case atStart => exact ⟨0, Nat.zero_le _, rfl⟩
  case round =>
    obtain ⟨k, hk, rfl⟩ := hrel
    have hkn : k < n := by omega
    obtain ⟨b, o, rfl, hb, hc⟩ := HA.out.addr (by omega)
    have hck := (World.cell?_alloc_lt w (.cells #[.int .i64 0, .int .i64 0] 26) ⟨b, o + k, none⟩ hb).trans (hc k hkn)
    by_cases hlt : k < i
    · have hx := HFit.out k hlt
      obtain ⟨x, hxe⟩ : ∃ x, x = l.getD k 0 := ⟨_, rfl⟩
      rw [← hxe] at hx hck
      obtain ⟨x1, x2⟩ := hx
      clear hxe hc hb
      go_wp2_with fail
      go_round
      case rel => exact ⟨k + 1, hlt, by go_num⟩
      case measure => simp [intOf]; omega
    · obtain rfl : k = i := by omega
      obtain ⟨x, hxe⟩ : ∃ x, x = l.getD k 0 := ⟨_, rfl⟩
      have hx := HBad.out
      rw [← hxe] at hx hck
      have hc0 := HF.out.c0
      have hc1 := HF.out.c1
      have hf0 := HF.out.f 0
      have hf1 := HF.out.f 1
      have hr0 := (HF.out.two 1 (k : Int)).c0
      have hr1 := (HF.out.two 1 (k : Int)).c1
      clear hxe hc hb hlt hk
      by_cases hx1 : x < -1
      · clear hx
        go_wp2_with fail
        exact bodyPost_ret (v := .tuple #[.pointer none, .agg #[.int .i64 1, .int .i64 (k : Int)]]) (by simp [results, Try.results5, go_sem, hr0, hr1]) rfl ⟨rfl, (Below.refl _ _).alloc (Nat.le_refl _) _⟩
      · have hx2 : most < x := by omega
        clear hx
        go_wp2_with fail
        exact bodyPost_ret (v := .tuple #[.pointer none, .agg #[.int .i64 1, .int .i64 (k : Int)]]) (by simp [results, Try.results5, go_sem, hr0, hr1]) rfl ⟨rfl, (Below.refl _ _).alloc (Nat.le_refl _) _⟩
end Go.Proofs.Ythikjngmaekjgaa
