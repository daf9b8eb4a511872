/-
  The document's Check, Find and Free of direct.
-/
import Derived.Test.YthikjngmaekjgaaDr3
namespace Go.Proofs.Ythikjngmaekjgaa
open Go.RowKit
set_option linter.unusedVariables false

set_option maxRecDepth 10000 in
theorem rdcheck_range (A : Option Addr) (n cap : Nat) (most : Int) (w : World) (h : most < 0 ∨ 65535 < most) :
    Calls Try.prog 6 #[.slice A n cap, .int .i64 most] w fun e w' => e = .returned (.agg #[.int .i64 1, .int .i64 0]) ∧ Below w.heap.size w w' := by
  have HF := Lib.hid (FB.new w)
  have hc0 := HF.out.c0
  have hc1 := HF.out.c1
  have hf0 := HF.out.f 0
  have hf1 := HF.out.f 1
  have hr0 := (HF.out.two 1 0).c0
  have hr1 := (HF.out.two 1 0).c1
  by_cases h1 : most < 0
  · clear h
    go_enter Try.func6, Try.ntmps6
    go_wp2_with fail
    exact bodyPost_ret (v := .agg #[.int .i64 1, .int .i64 0]) (by simp [results, Try.results6, go_sem, hr0, hr1]) rfl ⟨rfl, (Below.refl _ _).alloc (Nat.le_refl _) _⟩
  · have h2 : 65535 < most := by omega
    clear h
    go_enter Try.func6, Try.ntmps6
    go_wp2_with fail
    exact bodyPost_ret (v := .agg #[.int .i64 1, .int .i64 0]) (by simp [results, Try.results6, go_sem, hr0, hr1]) rfl ⟨rfl, (Below.refl _ _).alloc (Nat.le_refl _) _⟩

set_option maxRecDepth 10000 in
theorem rdcheck_many (A : Option Addr) (n cap : Nat) (most : Int) (w : World) (h1 : 0 ≤ most) (h2 : most ≤ 65535) (hn : 256 < n) (hnl : (n : Int) ≤ 9223372036854775807) :
    Calls Try.prog 6 #[.slice A n cap, .int .i64 most] w fun e w' => e = .returned (.agg #[.int .i64 7, .int .i64 256]) ∧ Below w.heap.size w w' := by
  have HF := Lib.hid (FB.new w)
  have hc0 := HF.out.c0
  have hc1 := HF.out.c1
  have hf0 := HF.out.f 0
  have hf1 := HF.out.f 1
  have hr0 := (HF.out.two 7 256).c0
  have hr1 := (HF.out.two 7 256).c1
  have hni : 256 < (n : Int) := by omega
  clear hn
  go_enter Try.func6, Try.ntmps6
  go_wp2_with fail
  exact bodyPost_ret (v := .agg #[.int .i64 7, .int .i64 256]) (by simp [results, Try.results6, go_sem, hr0, hr1]) rfl ⟨rfl, (Below.refl _ _).alloc (Nat.le_refl _) _⟩

set_option maxRecDepth 10000 in
set_option maxHeartbeats 800000 in
theorem rdcheck_bad (A : Option Addr) (n cap : Nat) (most : Int) (l : List Int) (i : Nat) (w : World) (h1 : 0 ≤ most) (h2 : most ≤ 65535) (hn : n ≤ 256) (hA : RowZ w A n l) (hi : i < n) (hfit : Fit21 l most i) (hbad : l.getD i 0 < -1 ∨ most < l.getD i 0) :
    Calls Try.prog 6 #[.slice A n cap, .int .i64 most] w fun e w' => e = .returned (.agg #[.int .i64 1, .int .i64 (i : Int)]) ∧ Below w.heap.size w w' := by
  have hni : (n : Int) ≤ 256 := by omega
  have HF := Lib.hid (FB.new w)
  have HA := Lib.hid hA
  have HFit := Lib.hid hfit
  have HBad := Lib.hid hbad
  clear hA hfit hbad
  go_enter Try.func6, Try.ntmps6
  go_wp2_with fail
  go_loop [5] (fun j => ∃ k : Nat, k ≤ i ∧ j = .int .i64 (k : Int)) (fun j => n - (intOf j).toNat)
  case atStart => exact ⟨0, Nat.zero_le _, rfl⟩
  case round =>
    obtain ⟨k, hk, rfl⟩ := hrel
    have hkn : k < n := by omega
    obtain ⟨b, o, rfl, hb, hc⟩ := HA.out.addr (by omega)
    have hck := (World.cell?_alloc_lt w (.cells #[.int .i64 0, .int .i64 0] 26) ⟨b, o + k, none⟩ hb).trans (hc k hkn)
    by_cases hlt : k < i
    · have hx := HFit.out k hlt
      obtain ⟨x, hxe⟩ : ∃ x, x = l.getD k 0 := ⟨_, rfl⟩
      rw [← hxe] at hx hck
      obtain ⟨x1, x2⟩ := hx
      clear hxe hc hb
      go_wp2_with fail
      go_round
      case rel => exact ⟨k + 1, hlt, by go_num⟩
      case measure => simp [intOf]; omega
    · obtain rfl : k = i := by omega
      obtain ⟨x, hxe⟩ : ∃ x, x = l.getD k 0 := ⟨_, rfl⟩
      have hx := HBad.out
      rw [← hxe] at hx hck
      have hc0 := HF.out.c0
      have hc1 := HF.out.c1
      have hf0 := HF.out.f 0
      have hf1 := HF.out.f 1
      have hr0 := (HF.out.two 1 (k : Int)).c0
      have hr1 := (HF.out.two 1 (k : Int)).c1
      clear hxe hc hb hlt hk
      by_cases hx1 : x < -1
      · clear hx
        go_wp2_with fail
        exact bodyPost_ret (v := .agg #[.int .i64 1, .int .i64 (k : Int)]) (by simp [results, Try.results6, go_sem, hr0, hr1]) rfl ⟨rfl, (Below.refl _ _).alloc (Nat.le_refl _) _⟩
      · have hx2 : most < x := by omega
        clear hx
        go_wp2_with fail
        exact bodyPost_ret (v := .agg #[.int .i64 1, .int .i64 (k : Int)]) (by simp [results, Try.results6, go_sem, hr0, hr1]) rfl ⟨rfl, (Below.refl _ _).alloc (Nat.le_refl _) _⟩

set_option maxRecDepth 10000 in
set_option maxHeartbeats 800000 in
theorem rdcheck_ok (A : Option Addr) (n cap : Nat) (most : Int) (l : List Int) (w : World) (h1 : 0 ≤ most) (h2 : most ≤ 65535) (hn : n ≤ 256) (hA : RowZ w A n l) (hfit : Fit21 l most n) :
    Calls Try.prog 6 #[.slice A n cap, .int .i64 most] w fun e w' => e = .returned (.agg #[.int .i64 0, .int .i64 0]) ∧ Below w.heap.size w w' := by
  have hni : (n : Int) ≤ 256 := by omega
  have HF := Lib.hid (FB.new w)
  have HA := Lib.hid hA
  have HFit := Lib.hid hfit
  clear hA hfit
  go_enter Try.func6, Try.ntmps6
  go_wp2_with fail
  go_loop [5] (fun j => ∃ k : Nat, k ≤ n ∧ j = .int .i64 (k : Int)) (fun j => n - (intOf j).toNat)
  case atStart => exact ⟨0, Nat.zero_le _, rfl⟩
  case round =>
    obtain ⟨k, hk, rfl⟩ := hrel
    by_cases hlt : k < n
    · obtain ⟨b, o, rfl, hb, hc⟩ := HA.out.addr (by omega)
      have hck := (World.cell?_alloc_lt w (.cells #[.int .i64 0, .int .i64 0] 26) ⟨b, o + k, none⟩ hb).trans (hc k hlt)
      have hx := HFit.out k hlt
      obtain ⟨x, hxe⟩ : ∃ x, x = l.getD k 0 := ⟨_, rfl⟩
      rw [← hxe] at hx hck
      obtain ⟨x1, x2⟩ := hx
      clear hxe hc hb
      go_wp2_with fail
      go_round
      case rel => exact ⟨k + 1, hlt, by go_num⟩
      case measure => simp [intOf]; omega
    · obtain rfl : k = n := by omega
      have hc0 := HF.out.c0
      have hc1 := HF.out.c1
      have hf0 := HF.out.f 0
      have hf1 := HF.out.f 1
      have hr0 := (HF.out.two 0 0).c0
      have hr1 := (HF.out.two 0 0).c1
      clear hlt hk
      go_wp2_with fail
      exact bodyPost_ret (v := .agg #[.int .i64 0, .int .i64 0]) (by simp [results, Try.results6, go_sem, hr0, hr1]) rfl ⟨rfl, (Below.refl _ _).alloc (Nat.le_refl _) _⟩

/-- The first k that a number has. -/
def findL (l : List Int) (most : Nat) (x : Int) (k : Nat) : List Nat := (List.range k).filter (findP l most x)
theorem findL_yes {l : List Int} {most : Nat} {x : Int} {k : Nat} (h : findP l most x k = true) : findL l most x (k + 1) = findL l most x k ++ [k] := by
  unfold findL
  rw [List.range_succ, List.filter_append]
  simp [h]
theorem findL_no {l : List Int} {most : Nat} {x : Int} {k : Nat} (h : findP l most x k = false) : findL l most x (k + 1) = findL l most x k := by
  unfold findL
  rw [List.range_succ, List.filter_append]
  simp [h]
theorem findL_length (l : List Int) (most : Nat) (x : Int) (k : Nat) : (findL l most x k).length ≤ k := by
  unfold findL
  refine Nat.le_trans (List.length_filter_le _ _) ?_
  simp
theorem findL_lt (l : List Int) (most : Nat) (x : Int) (k : Nat) : ∀ y ∈ findL l most x k, y < k := fun y hy => List.mem_range.1 (List.mem_filter.1 hy).1

set_option maxRecDepth 10000 in
set_option maxHeartbeats 1600000 in
theorem rdfind_any (A : Option Addr) (n cap m most : Nat) (l : List Int) (x : Int) (w : World) (hx1 : -9223372036854775808 ≤ x) (hx2 : x ≤ 9223372036854775807) (hmost : (most : Int) ≤ 65535) (hn : n ≤ 256) (hm : m = (n + 63) / 64) (hA : RowZ w A n l) :
    Calls Try.prog 10 #[.slice A n cap, .int .i64 (most : Int), .int .i64 x] w fun e w' => ∃ v, e = .returned v ∧ ValU w' v (findR l m most n x) ∧ Below w.heap.size w w' := by
  have hni : (n : Int) ≤ 256 := by omega
  have CO := Lib.hid (fun (w : World) A len cap l (hll : len ≤ 1048576) (hA : RowI w A len l) => rof_any n m A len cap l w (by omega) hm hll hA)
  have HA := Lib.hid hA
  have HL := Lib.hid hA.len
  clear hA hm
  go_enter Try.func10, Try.ntmps10
  go_wp2_with fail
  go_loopw [7, 8] (fun v i wr => ∃ k : Nat, k ≤ n ∧ i = .int .i64 (k : Int) ∧ OutI w.heap.size wr v (findL l most x k) ∧ Below w.heap.size w wr) (fun _ i _ => n - (intOf i).toNat)
  case atStart => exact ⟨0, Nat.zero_le _, rfl, OutI.nil _ _, Below.refl _ _⟩
  case round =>
    obtain ⟨k, hk, rfl, ho, hb⟩ := hrel
    have HO := Lib.hid ho
    have HB := Lib.hid hb
    clear ho hb
    by_cases hlt : k < n
    · obtain ⟨b, o, rfl, hb1, hc⟩ := HA.out.addr (by omega)
      have hck := (HB.out.cell (p := ⟨b, o + k, none⟩) hb1).trans (hc k hlt)
      have HP : Hid (findP l most x k = ((decide (0 ≤ x) && decide (x ≤ (most : Int))) && (decide (l.getD k 0 = -1) || decide (l.getD k 0 = x)))) := rfl
      have hll : Hid ((findL l most x k).length + 1 ≤ 1048576) := by have h1 := findL_length l most x k; exact (by omega : (findL l most x k).length + 1 ≤ 1048576)
      obtain ⟨y, hy⟩ : ∃ y, y = l.getD k 0 := ⟨_, rfl⟩
      rw [← hy] at hck HP
      clear hc hb1 hy
      by_cases hr : 0 ≤ x ∧ x ≤ (most : Int)
      · obtain ⟨r1, r2⟩ := hr
        by_cases e1 : y = -1
        · have hp := HP.out
          rw [decide_eq_true r1, decide_eq_true r2, decide_eq_true e1] at hp
          have HS := Lib.hid (findL_yes hp)
          subst e1
          clear HP hp
          go_wp2_with (at_builtin; refine wpList_appendI (by rfl) (.tmp 37) (.tmp 39) (by rfl) (news := [k]) _ 1 (by rfl) (by rfl) (by rfl) (by rfl) HO.out HB.out HB.out.size hll.out ?_; intro v' w' ho' hb')
          go_roundw
          case rel => exact ⟨k + 1, by omega, by go_num, by rw [HS.out]; exact ho', hb'⟩
          case measure => simp [intOf]; omega
        · have hb1 : (y == -1) = false := by rw [beq_eq_false_iff_ne]; exact e1
          by_cases e2 : y = x
          · have hp := HP.out
            rw [decide_eq_true r1, decide_eq_true r2, decide_eq_true e2, Bool.or_true] at hp
            have HS := Lib.hid (findL_yes hp)
            have hb2 : (y == x) = true := by rw [beq_iff_eq]; exact e2
            clear HP hp e1 e2
            go_wp2_with (at_builtin; refine wpList_appendI (by rfl) (.tmp 37) (.tmp 39) (by rfl) (news := [k]) _ 1 (by rfl) (by rfl) (by rfl) (by rfl) HO.out HB.out HB.out.size hll.out ?_; intro v' w' ho' hb')
            go_roundw
            case rel => exact ⟨k + 1, by omega, by go_num, by rw [HS.out]; exact ho', hb'⟩
            case measure => simp [intOf]; omega
          · have hp := HP.out
            rw [decide_eq_false e1, decide_eq_false e2, Bool.or_false, Bool.and_false] at hp
            have HS := Lib.hid (findL_no hp)
            have hb2 : (y == x) = false := by rw [beq_eq_false_iff_ne]; exact e2
            clear HP hp e1 e2
            go_wp2_with fail
            go_roundw
            case rel => exact ⟨k + 1, by omega, by go_num, by rw [HS.out]; exact HO.out, HB.out⟩
            case measure => simp [intOf]; omega
      · have hp := HP.out
        have HS : Hid (findL l most x (k + 1) = findL l most x k) := by
          refine findL_no ?_
          rw [hp]
          by_cases r1 : 0 ≤ x
          · rw [show decide (x ≤ (most : Int)) = false from decide_eq_false (by omega)]; simp
          · rw [decide_eq_false r1]; rfl
        clear HP hp
        by_cases r1 : 0 ≤ x
        · have r2 : (most : Int) < x := by omega
          clear hr
          go_wp2_with fail
          go_roundw
          case rel => exact ⟨k + 1, by omega, by go_num, by rw [HS.out]; exact HO.out, HB.out⟩
          case measure => simp [intOf]; omega
        · have r2 : x < 0 := by omega
          clear hr r1
          go_wp2_with fail
          go_roundw
          case rel => exact ⟨k + 1, by omega, by go_num, by rw [HS.out]; exact HO.out, HB.out⟩
          case measure => simp [intOf]; omega
    · obtain rfl : k = n := by omega
      have hll : (findL l most x k).length ≤ 1048576 := by have h1 := findL_length l most x k; omega
      obtain ⟨A1, c1, rfl, _, _, hr⟩ := HO.out.out (fun y hy => by have := findL_lt l most x _ y hy; omega)
      have C := Lib.hid (CO.out wr A1 (findL l most x k).length c1 (findL l most x k) hll hr)
      clear hr hlt hk hll
      go_wp2_with fail
      refine C.out.mono ?_
      rintro e w2 hmade
      obtain ⟨v, rfl, hv, hb2⟩ := hmade.vals (setAll_word _ _)
      have HV := Lib.hid hv
      have HB2 := Lib.hid (below_both HB.out hb2)
      clear hmade hv hb2
      go_wp2_with fail
      go_ret
      exact ⟨_, rfl, HV.out, HB2.out⟩

/-- How many of the first k numbers are not in l. -/
def freeTo (l : List Int) (k : Nat) : Nat := ((List.range k).filter fun j : Nat => !(seen l l.length (j : Int))).length
theorem freeTo_succ (l : List Int) (k : Nat) : freeTo l (k + 1) = freeTo l k + (if seen l l.length (k : Int) then 0 else 1) := by
  unfold freeTo
  rw [List.range_succ, List.filter_append, List.length_append]
  cases h : seen l l.length (k : Int) <;> simp [h]
theorem freeTo_le (l : List Int) (k : Nat) : freeTo l k ≤ k := by
  unfold freeTo
  refine Nat.le_trans (List.length_filter_le _ _) ?_
  simp

set_option maxRecDepth 10000 in
set_option maxHeartbeats 1600000 in
theorem rdfree_any (A : Option Addr) (n cap most : Nat) (l : List Int) (w : World) (hmost : (most : Int) ≤ 65535) (hn : n ≤ 256) (hA : RowZ w A n l) :
    Calls Try.prog 13 #[.slice A n cap, .int .i64 (most : Int)] w fun e w' => e = .returned (.int .i64 (freeN l most : Int)) ∧ Below w.heap.size w w' := by
  have hni : (n : Int) ≤ 256 := by omega
  have HA := Lib.hid hA
  have HL := Lib.hid hA.len
  clear hA
  go_enter Try.func13, Try.ntmps13
  go_wp2_with fail
  go_loop [5, 6] (fun v i => ∃ k : Nat, k ≤ most + 1 ∧ i = .int .i64 (k : Int) ∧ v = .int .i64 (freeTo l k : Int)) (fun _ i => most + 1 - (intOf i).toNat)
  case atStart => exact ⟨0, Nat.zero_le _, rfl, rfl⟩
  case round =>
    obtain ⟨k, hk, rfl, rfl⟩ := hrel
    have hfl : (freeTo l k : Int) ≤ 65536 := by have := freeTo_le l k; omega
    have HFS := Lib.hid (freeTo_succ l k)
    have HFN : Hid (k = most + 1 → freeTo l k = freeN l most) := fun e => by rw [e]; rfl
    obtain ⟨f, hf⟩ : ∃ f, f = freeTo l k := ⟨_, rfl⟩
    rw [← hf] at hfl HFS HFN ⊢
    clear hf
    by_cases hlt : k ≤ most
    · go_wp2_with fail
      go_loop [7, 8] (fun b i => ∃ j : Nat, j ≤ n ∧ i = .int .i64 (j : Int) ∧ b = .bool (!(seen l j (k : Int)))) (fun _ i => n - (intOf i).toNat)
      case atStart => exact ⟨0, Nat.zero_le _, rfl, by simp [seen]⟩
      case round =>
        obtain ⟨j, hj, rfl, rfl⟩ := hrel
        by_cases hjn : j < n
        · obtain ⟨b, o, rfl, hb1, hc⟩ := HA.out.addr (by omega)
          have hck := hc j hjn
          have HS := Lib.hid (seen_succ (l := l) (k := j) (by rw [HL.out]; exact hjn) (k : Int))
          obtain ⟨y, hy⟩ : ∃ y, y = l.getD j 0 := ⟨_, rfl⟩
          rw [← hy] at hck HS
          clear hc hb1 hy
          cases hs : seen l j (k : Int) with
          | true =>
            rw [hs] at HS
            go_wp2_with fail
            go_round
            case rel => exact ⟨j + 1, hjn, by go_num, by rw [HS.out]; rfl⟩
            case measure => simp [intOf]; omega
          | false =>
            rw [hs] at HS
            by_cases e : y = (k : Int)
            · have hne : (y != (k : Int)) = false := by rw [bne_eq_false_iff_eq]; exact e
              have HS2 : Hid (seen l (j + 1) (k : Int) = true) := by rw [HS.out, decide_eq_true e]; exact (rfl : (false || true) = true)
              clear HS e
              go_wp2_with fail
              go_round
              case rel => exact ⟨j + 1, hjn, by go_num, by rw [HS2.out]; rfl⟩
              case measure => simp [intOf]; omega
            · have hne : (y != (k : Int)) = true := by rw [bne_iff_ne]; exact e
              have HS2 : Hid (seen l (j + 1) (k : Int) = false) := by rw [HS.out, decide_eq_false e]; exact (rfl : (false || false) = false)
              clear HS e
              go_wp2_with fail
              go_round
              case rel => exact ⟨j + 1, hjn, by go_num, by rw [HS2.out]; rfl⟩
              case measure => simp [intOf]; omega
        · obtain rfl : j = n := by omega
          rw [HL.out] at HFS
          cases hs : seen l j (k : Int) with
          | true =>
            have HF2 := Lib.hid HFS.out
            rw [hs, if_pos rfl] at HF2
            clear HFS hs hjn hj
            go_wp2_with fail
            go_round
            case rel => exact ⟨k + 1, by omega, by go_num, by rw [HF2.out]; rfl⟩
            case measure => simp [intOf]; omega
          | false =>
            have HF2 := Lib.hid HFS.out
            rw [hs, if_neg (by simp)] at HF2
            clear HFS hs hjn hj
            go_wp2_with fail
            go_round
            case rel => exact ⟨k + 1, by omega, by go_num, by rw [HF2.out]; go_num⟩
            case measure => simp [intOf]; omega
    · rw [HFN.out (by omega)]
      have hlt2 : (most : Int) < (k : Int) := by omega
      clear hlt
      go_wp2_with fail
      go_ret
      exact ⟨rfl, Below.refl _ _⟩
end Go.Proofs.Ythikjngmaekjgaa
