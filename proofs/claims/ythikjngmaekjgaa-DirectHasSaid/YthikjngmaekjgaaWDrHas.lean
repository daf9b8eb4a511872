/-
  The walk of DirectHas.
-/
import Derived.Test.YthikjngmaekjgaaLive21
import Derived.Test.YthikjngmaekjgaaDrLift
namespace Go.Proofs.Ythikjngmaekjgaa
open Go.RowKit
set_option linter.unusedVariables false

/-- The required value that a number of 16 bits becomes. -/
def wishZ (z : Int) : Int := if -1 < z.tmod 256 then z.tmod 256 else -1
def wishL (zs : List Int) (k : Nat) : List Int := (zs.take k).map wishZ
theorem tmod_bounds (z : Int) : -256 < z.tmod 256 ∧ z.tmod 256 < 256 := by
  have h1 := Int.tmod_lt_of_pos z (b := 256) (by decide)
  have h2 := Int.lt_tmod_of_pos z (b := 256) (by decide)
  omega
theorem wishZ_bounds (z : Int) : -1 ≤ wishZ z ∧ wishZ z ≤ 255 := by
  have := tmod_bounds z
  unfold wishZ
  split <;> omega
theorem wishL_length {zs : List Int} {k : Nat} (h : k ≤ zs.length) : (wishL zs k).length = k := by
  unfold wishL
  rw [List.length_map, List.length_take]
  omega
theorem wishL_succ {zs : List Int} {k : Nat} (h : k < zs.length) : wishL zs (k + 1) = wishL zs k ++ [wishZ (zs.getD k 0)] := by
  unfold wishL
  rw [take_succ_int zs k h, List.map_append]
  rfl
theorem wishL_bounds (zs : List Int) (k : Nat) : ∀ x ∈ wishL zs k, -1 ≤ x ∧ x ≤ 255 := by
  intro x hx
  obtain ⟨z, _, rfl⟩ := List.mem_map.1 hx
  exact wishZ_bounds z
theorem fit_of_mem {l : List Int} {most : Int} (h : ∀ x ∈ l, -1 ≤ x ∧ x ≤ most) : Fit21 l most l.length := by
  intro i hi
  rw [List.getD_eq_getElem?_getD, List.getElem?_eq_getElem hi]
  exact h _ (List.getElem_mem hi)
theorem brhas_val (v : Value) (xs : List Nat) (i : Nat) (t : Bool) (w : World) (h : ValU w v xs) (hi : (i : Int) ≤ 9223372036854775807) (ht : tb xs i = t) :
    Calls Try.prog 14 #[v, .int .i64 (i : Int)] w fun e w' => e = .returned (.bool t) ∧ w = w' := by
  obtain ⟨A, c, rfl, _, hR⟩ := h
  have e : hasB xs (i : Int) = t := by
    unfold hasB
    rw [if_neg (by omega)]
    exact ht
  rw [← e]
  exact brhas_any A xs.length c xs i w hi hR
theorem below_of_cell {W : World} {p : Addr} {v : Value} (h : W.cell? p = some v) : Below W.heap.size W W := Below.refl _ _
/-- What a required value says of a number. -/
theorem tb_findR {l : List Int} {i : Nat} (hi : i < l.length) (hl : l.length ≤ 256) {x : Int} (h1 : 0 ≤ x) (h2 : x ≤ 255) : tb (findR l ((l.length + 63) / 64) 255 l.length x) i = (decide (l.getD i 0 = -1) || decide (l.getD i 0 = x)) := by
  unfold findR
  rw [tb_mkRow (by omega), decide_eq_true hi]
  unfold findP isAt
  rw [decide_eq_true h1, show decide (x ≤ ((255 : Nat) : Int)) = true from decide_eq_true (by omega)]
  simp

set_option maxRecDepth 10000 in
set_option maxHeartbeats 3200000 in
theorem wdh_walk (A : Option Addr) (n cap : Nat) (zs : List Int) (n0 n1 k : Nat) (w : World) (hA : RowS w A n zs) (hc : n ≤ 70368744175616) (b0 : n0 ≤ 255) (b1 : n1 ≤ 255) (hk : k ≤ 255) :
    Calls Try.prog 4 #[.slice A n cap, .agg #[.int .u8 (n0 : Int), .int .u8 (n1 : Int)], .int .u8 (k : Int)] w fun e w' => e = .returned (.bool true) ∧ Below w.heap.size w w' := by
  have hni : (n : Int) ≤ 70368744175616 := by omega
  have b0i : (n0 : Int) ≤ 255 := by omega
  have b1i : (n1 : Int) ≤ 255 := by omega
  have hki : (k : Int) ≤ 255 := by omega
  have HA := Lib.hid hA
  have HL := Lib.hid hA.len
  clear hA hc
  go_enter Try.func4, Try.ntmps4
  go_wp2_with fail
  have hsz : (w.alloc (.cells #[.int .u8 (n0 : Int), .int .u8 (n1 : Int)] 39)).heap.size = w.heap.size + 1 := by simp
  have HX0 : Hid ((w.alloc (.cells #[.int .u8 (n0 : Int), .int .u8 (n1 : Int)] 39)).cell? ⟨w.heap.size, 0, none⟩ = some (.int .u8 (n0 : Int))) := new_cells w [.int .u8 (n0 : Int), .int .u8 (n1 : Int)] _ 0
  have HX1 : Hid ((w.alloc (.cells #[.int .u8 (n0 : Int), .int .u8 (n1 : Int)] 39)).cell? ⟨w.heap.size, 1, none⟩ = some (.int .u8 (n1 : Int))) := new_cells w [.int .u8 (n0 : Int), .int .u8 (n1 : Int)] _ 1
  have HB : Hid (Below w.heap.size w (w.alloc (.cells #[.int .u8 (n0 : Int), .int .u8 (n1 : Int)] 39))) := (Below.refl _ _).alloc (Nat.le_refl _) _
  have HS : Hid (w.heap.size + 1 ≤ (w.alloc (.cells #[.int .u8 (n0 : Int), .int .u8 (n1 : Int)] 39)).heap.size) := by rw [hsz]; exact Nat.le_refl _
  clear hsz
  go_loopw [7, 8] (fun v i wr => ∃ j : Nat, j ≤ n ∧ j ≤ 100 ∧ i = .int .i64 (j : Int) ∧ OutZ (w.heap.size + 1) wr v (wishL zs j) ∧ wr.cell? ⟨w.heap.size, 0, none⟩ = some (.int .u8 (n0 : Int)) ∧ wr.cell? ⟨w.heap.size, 1, none⟩ = some (.int .u8 (n1 : Int)) ∧ Below w.heap.size w wr ∧ w.heap.size + 1 ≤ wr.heap.size) (fun _ i _ => n - (intOf i).toNat)
  case atStart => exact ⟨0, Nat.zero_le _, Nat.zero_le _, rfl, OutZ.nil _ _, HX0.out, HX1.out, HB.out, HS.out⟩
  case round =>
    clear HX0 HX1 HB HS
    obtain ⟨j, hj, hj1, rfl, ho, hx0, hx1, hb, hs⟩ := hrel
    have HO := Lib.hid ho
    have HX0 := Lib.hid hx0
    have HX1 := Lib.hid hx1
    have HB := Lib.hid hb
    have HS := Lib.hid hs
    have hj1i : (j : Int) ≤ 100 := by omega
    clear ho hx0 hx1 hb hs hj1
    by_cases hlt : j < n ∧ j < 100
    · obtain ⟨hlt, hlt2⟩ := hlt
      have hlt2i : (j : Int) < 100 := by omega
      obtain ⟨b, o, rfl, hb1, hc⟩ := HA.out.addr (by omega)
      have hck := (HB.out.cell (p := ⟨b, o + j, none⟩) hb1).trans (hc j hlt)
      have hst := wishL_succ (zs := zs) (k := j) (by rw [HL.out]; exact hlt)
      have hll : Hid ((wishL zs j).length + 1 ≤ 1048576) := by rw [wishL_length (by rw [HL.out]; omega)]; exact (by omega : j + 1 ≤ 1048576)
      obtain ⟨z1, z2⟩ := HA.out.word j
      obtain ⟨z, hz⟩ : ∃ z, z = zs.getD j 0 := ⟨_, rfl⟩
      rw [← hz] at hst hck z1 z2
      obtain ⟨t1, t2⟩ := tmod_bounds z
      have hww : wishZ z = if -1 < z.tmod 256 then z.tmod 256 else -1 := rfl
      rw [hww] at hst
      obtain ⟨t, ht⟩ : ∃ t, t = z.tmod 256 := ⟨_, rfl⟩
      have ht' := ht.symm
      rw [← ht] at hst t1 t2
      have HSt := Lib.hid hst
      clear hst hz hc hb1 hww ht hlt2
      go_wp2_with (at_builtin; refine wpList_appendZ (by rfl) (.tmp 24) (.tmp 32) (by rfl) (news := [if -1 < t then t else -1]) _ 1 (by rfl) (by rfl) (by rfl) (by rfl) HO.out (Below.refl _ wr) HS.out hll.out ?_; intro v' w' ho' hb')
      have HO2 := Lib.hid ho'
      have HY0 := Lib.hid ((hb'.cell (p := ⟨w.heap.size, 0, none⟩) (Nat.lt_succ_self _)).trans HX0.out)
      have HY1 := Lib.hid ((hb'.cell (p := ⟨w.heap.size, 1, none⟩) (Nat.lt_succ_self _)).trans HX1.out)
      have HB2 := Lib.hid (HB.out.trans (hb'.mono (Nat.le_succ _)))
      have HS2 := Lib.hid (Nat.le_trans HS.out hb'.size)
      clear ho' hb'
      go_roundw
      case rel => exact ⟨j + 1, hlt, by omega, by go_num, by rw [HSt.out]; exact HO2.out, HY0.out, HY1.out, HB2.out, HS2.out⟩
      case measure => simp [intOf]; omega
    · have hLl := wishL_length (zs := zs) (k := j) (by rw [HL.out]; exact hj)
      have hLb := wishL_bounds zs j
      obtain ⟨A1, c1, rfl, _, _, hr⟩ := HO.out.out (fun x hx => by have := hLb x hx; omega)
      obtain ⟨L, hLe⟩ : ∃ L, L = wishL zs j := ⟨_, rfl⟩
      rw [← hLe] at hLl hLb hr ⊢
      have hfit := fit_of_mem hLb
      rw [hLl] at hr hfit ⊢
      have R := Lib.hid hr
      have B := HB
      have HT := Lib.hid (fun (w : World) (tb : Nat) (h : IsTab w tb L 255) (x : Int) (h1 : 0 ≤ x) (h2 : x ≤ 255) => tab_find x h (by omega) (by decide) (by omega) (by omega))
      have CN := Lib.hid (tab_new A1 j c1 255 L wr (by decide) (by omega) hr hfit)
      have HLL := Lib.hid hLl
      have HLB := Lib.hid hLb
      clear hr hfit hLl hLb hLe HO HB HS
      have hcond : (j : Int) < (n : Int) ∧ ¬ (j : Int) < 100 ∨ ¬ (j : Int) < (n : Int) := by omega
      clear hlt
      rcases hcond with ⟨hcn, hce⟩ | hce
      · go_wp2_with fail
        refine CN.out.mono ?_
        rintro e w1 ⟨tq, rfl, t1, hb⟩
        have B := Lib.hid (below_both B.out hb)
        have R := Lib.hid (R.out.below hb)
        have X0 := Lib.hid (cell_next HX0.out hb)
        have X1 := Lib.hid (cell_next HX1.out hb)
        have T := Lib.hid t1
        clear hb t1 HX0 HX1 CN hcn hce
        have hd := (Below.refl w1.heap.size w1).alloc (Nat.le_refl _) (.cells #[.int .i64 0, .int .i64 0] 26)
        have B := Lib.hid (below_both B.out hd)
        have R := Lib.hid (R.out.below hd)
        have X0 := Lib.hid (cell_next X0.out hd)
        have X1 := Lib.hid (cell_next X1.out hd)
        have T := Lib.hid (T.out.next hd)
        have F := Lib.hid (FB.laid21 w1 0 0)
        clear hd
        have f0 := F.out.c0
        have f1 := F.out.c1
        rcases Nat.eq_zero_or_pos j with h0 | h0
        · subst h0
          go_wp2_with fail
          refine (live21 _).mono ?_
          rintro e w3 ⟨rfl, hb⟩
          have B := Lib.hid (below_both B.out hb)
          clear hb
          go_wp2_with fail
          go_ret
          exact ⟨rfl, B.out⟩
        · obtain ⟨i, hi⟩ : ∃ i, i = k % j := ⟨_, rfl⟩
          have hij : i < j := by rw [hi]; exact Nat.mod_lt _ h0
          have hm1 : (k : Int) % (j : Int) = (i : Int) := by rw [hi]; exact (Int.natCast_emod k j).symm
          have hm2 : (k : Int).tmod (j : Int) = (i : Int) := by rw [Int.tmod_eq_emod_of_nonneg (by omega)]; exact hm1
          have hj0 : (0 : Int) < (j : Int) := by omega
          have hj00 : ((j : Int) == 0) = false := by rw [beq_eq_false_iff_ne]; omega
          have hiji : (i : Int) < (j : Int) := by omega
          clear hi h0
          go_wp2_with fail
          clear f0 f1 hm1 hm2 hj00
          have hiL : i < L.length := by rw [HLL.out]; exact hij
          have hLB := HLB.out (L.getD i 0) (by rw [List.getD_eq_getElem?_getD, List.getElem?_eq_getElem hiL]; exact List.getElem_mem hiL)
          have hL256 : L.length ≤ 256 := by rw [HLL.out]; omega
          have ht0 := tb_findR hiL hL256 (x := (n0 : Int)) (by omega) b0i
          have ht1 := tb_findR hiL hL256 (x := (n1 : Int)) (by omega) b1i
          have HTy : Hid (L.getD i 0 ≠ -1 → tb (findR L ((L.length + 63) / 64) 255 L.length (L.getD i 0)) i = true) := fun hne => by
            rw [tb_findR hiL hL256 (by omega) (by omega)]
            simp
          have HC0 := Lib.hid (fun (w : World) (h : IsTab w tq L 255) => HT.out w tq h (n0 : Int) (by omega) b0i)
          have HC1 := Lib.hid (fun (w : World) (h : IsTab w tq L 255) => HT.out w tq h (n1 : Int) (by omega) b1i)
          have HCy : Hid (L.getD i 0 ≠ -1 → ∀ (w : World) (h : IsTab w tq L 255), Calls Try.prog 9 #[.pointer (some ⟨tq, 0, none⟩), .int .i64 (L.getD i 0)] w fun e w' => ∃ v, e = .returned v ∧ ValU w' v (findR L ((L.length + 63) / 64) 255 L.length (L.getD i 0)) ∧ Below w.heap.size w w') := fun hne w h => HT.out w tq h _ (by omega) (by omega)
          have HRc : Hid (∃ b o, A1 = some ⟨b, o, none⟩ ∧ (w1.alloc (.cells #[.int .i64 0, .int .i64 0] 26)).cell? ⟨b, o + i, none⟩ = some (.int .i64 (L.getD i 0))) := by
            obtain ⟨b, o, h1, _, h2⟩ := R.out.addr (by omega)
            exact ⟨b, o, h1, h2 i hij⟩
          obtain ⟨y, hy⟩ : ∃ y, y = L.getD i 0 := ⟨_, rfl⟩
          obtain ⟨Q0, hQ0⟩ : ∃ Q, Q = findR L ((L.length + 63) / 64) 255 L.length (n0 : Int) := ⟨_, rfl⟩
          obtain ⟨Q1, hQ1⟩ : ∃ Q, Q = findR L ((L.length + 63) / 64) 255 L.length (n1 : Int) := ⟨_, rfl⟩
          rw [← hy] at ht0 ht1 HTy HCy HRc hLB
          obtain ⟨Qy, hQy⟩ : ∃ Q, Q = findR L ((L.length + 63) / 64) 255 L.length y := ⟨_, rfl⟩
          rw [← hQy] at HTy HCy
          rw [← hQ0] at ht0 HC0
          rw [← hQ1] at ht1 HC1
          obtain ⟨bb, oo, rfl, hyc⟩ := HRc.out
          have HYc := Lib.hid hyc
          have hi9 : (i : Int) ≤ 9223372036854775807 := by omega
          obtain ⟨p0, hp0⟩ : ∃ p, p = (decide (y = -1) || decide (y = (n0 : Int))) := ⟨_, rfl⟩
          obtain ⟨p1, hp1⟩ : ∃ p, p = (decide (y = -1) || decide (y = (n1 : Int))) := ⟨_, rfl⟩
          rw [← hp0] at ht0
          rw [← hp1] at ht1
          have HP0 := Lib.hid hp0
          have HP1 := Lib.hid hp1
          have HLB := Lib.hid hLB
          clear hp0 hp1 hLB
          clear hy hQ0 hQ1 hQy HT HLL HLB hiL hL256 HRc R hyc
          have T := Lib.hid (T.out.next (w' := (w1.alloc (.cells #[.int .i64 0, .int .i64 0] 26)).drew) (Below.refl _ _).drew)
          have X0d := Lib.hid (cell_next X0.out (W' := (w1.alloc (.cells #[.int .i64 0, .int .i64 0] 26)).drew) (Below.refl _ _).drew)
          have X1d := Lib.hid (cell_next X1.out (W' := (w1.alloc (.cells #[.int .i64 0, .int .i64 0] 26)).drew) (Below.refl _ _).drew)
          have B := Lib.hid B.out.drew
          have HD := Lib.hid (fun (w' : World) (hb : Below (w1.alloc (.cells #[.int .i64 0, .int .i64 0] 26)).drew.heap.size (w1.alloc (.cells #[.int .i64 0, .int .i64 0] 26)).drew w') => And.intro (cell_next X0d.out hb) (And.intro (cell_next X1d.out hb) (cell_next (W := (w1.alloc (.cells #[.int .i64 0, .int .i64 0] 26)).drew) HYc.out hb)))
          have D : Hid (Below (w1.alloc (.cells #[.int .i64 0, .int .i64 0] 26)).drew.heap.size (w1.alloc (.cells #[.int .i64 0, .int .i64 0] 26)).drew (w1.alloc (.cells #[.int .i64 0, .int .i64 0] 26)).drew) := Below.refl _ _
          have hS : (w1.alloc (.cells #[.int .i64 0, .int .i64 0] 26)).drew.cell? ⟨w.heap.size, 0, none⟩ = some (.int .u8 (n0 : Int)) ∧ (w1.alloc (.cells #[.int .i64 0, .int .i64 0] 26)).drew.cell? ⟨w.heap.size, 1, none⟩ = some (.int .u8 (n1 : Int)) := And.intro X0d.out X1d.out
          have hw0 : IntKind.i64.wrap (n0 : Int) = (n0 : Int) := by rw [IntKind.wrap_i64]; omega
          have hw1 : IntKind.i64.wrap (n1 : Int) = (n1 : Int) := by rw [IntKind.wrap_i64]; omega
          clear X0 X1
          go_region_held3 (fun w' => w'.cell? ⟨w.heap.size, 0, none⟩ = some (.int .u8 (n0 : Int)) ∧ w'.cell? ⟨w.heap.size, 1, none⟩ = some (.int .u8 (n1 : Int)))
            (first | exact hS | go_keep)
            (first
              | (go_at_call 9; with_reducible refine (HC0.out _ T.out).mono ?_; rintro e w' ⟨v0, rfl, hv0, hb⟩; have T := Lib.hid (T.out.next hb); have D := Lib.hid (below_both D.out hb); (try (have V1 := Lib.hid (V1.out.below hb))); have V0 := Lib.hid hv0; have hS : _ ∧ _ := And.intro (HD.out _ D.out).1 (HD.out _ D.out).2.1; clear hb hv0)
              | (go_at_call 9; with_reducible refine (HC1.out _ T.out).mono ?_; rintro e w' ⟨v1, rfl, hv1, hb⟩; have T := Lib.hid (T.out.next hb); have D := Lib.hid (below_both D.out hb); (try (have V0 := Lib.hid (V0.out.below hb))); have V1 := Lib.hid hv1; have hS : _ ∧ _ := And.intro (HD.out _ D.out).1 (HD.out _ D.out).2.1; clear hb hv1)
              | (go_at_call 14; with_reducible refine (brhas_val _ _ _ _ _ V0.out hi9 ht0).mono ?_; rintro e w' ⟨rfl, rfl⟩)
              | (go_at_call 14; with_reducible refine (brhas_val _ _ _ _ _ V1.out hi9 ht1).mono ?_; rintro e w' ⟨rfl, rfl⟩)
              | fail)
          all_goals
            have hyc := (HD.out _ D.out).2.2
            have B := Lib.hid (below_both B.out D.out)
            have Z0 := Lib.hid (HD.out _ D.out).1
            have Z1 := Lib.hid (HD.out _ D.out).2.1
            have Zy := Lib.hid hyc
            clear hS V0 V1 HD D ht0 ht1 HC0 HC1
            by_cases hy1 : y = -1
            · have hb1 : (y == -1) = true := by rw [beq_iff_eq]; exact hy1
              have e0 : p0 = true := by rw [HP0.out, decide_eq_true hy1]; rfl
              have e1 : p1 = true := by rw [HP1.out, decide_eq_true hy1]; rfl
              subst e0 e1
              clear hy1 hw0 hw1
              go_wp2_with fail
              clear hyc hb1
              refine (live21 _).mono ?_
              rintro e w3 ⟨rfl, hb⟩
              have B := Lib.hid (below_both B.out hb)
              clear hb
              go_wp2_with fail
              go_ret
              exact ⟨rfl, B.out⟩
            · have hb1 : (y == -1) = false := by rw [beq_eq_false_iff_ne]; exact hy1
              have e0 : (y == (n0 : Int)) = p0 := by rw [HP0.out, decide_eq_false hy1, Bool.false_or]; rfl
              have e1 : (y == (n1 : Int)) = p1 := by rw [HP1.out, decide_eq_false hy1, Bool.false_or]; rfl
              have HCy := Lib.hid (HCy.out hy1)
              have hty := HTy.out hy1
              clear hy1
              go_wp2_with fail
              clear hyc hb1
              have T := Lib.hid (T.out.next (Below.refl _ _).drew)
              have Z0 := Lib.hid (cell_next Z0.out (Below.refl _ _).drew)
              have Z1 := Lib.hid (cell_next Z1.out (Below.refl _ _).drew)
              have Zy := Lib.hid (cell_next Zy.out (Below.refl _ _).drew)
              have B := Lib.hid B.out.drew
              have D := Lib.hid (below_of_cell Zy.out)
              have HD := Lib.hid (fun (w' : World) hb => And.intro (cell_next (W' := w') Z0.out hb) (And.intro (cell_next (W' := w') Z1.out hb) (cell_next (W' := w') Zy.out hb)))
              have hS := HD.out _ D.out
              clear Z0 Z1 Zy
              go_region_held3 (fun w' => w'.cell? ⟨w.heap.size, 0, none⟩ = some (.int .u8 (n0 : Int)) ∧ w'.cell? ⟨w.heap.size, 1, none⟩ = some (.int .u8 (n1 : Int)) ∧ w'.cell? ⟨bb, oo + i, none⟩ = some (.int .i64 y))
                (first | exact hS | go_keep)
                (first
                  | (go_at_call 7; refine (live21 _).mono ?_; rintro e w' ⟨rfl, hb⟩; have T := Lib.hid (T.out.next hb); have D := Lib.hid (below_both D.out hb); have hS := HD.out _ D.out; clear hb)
                  | (go_at_call 9; with_reducible refine (HCy.out _ T.out).mono ?_; rintro e w' ⟨vy, rfl, hvy, hb⟩; have T := Lib.hid (T.out.next hb); have D := Lib.hid (below_both D.out hb); have hS := HD.out _ D.out; have Vy := Lib.hid hvy; clear hb hvy)
                  | (go_at_call 14; with_reducible refine (brhas_val _ _ _ _ _ Vy.out hi9 hty).mono ?_; rintro e w' ⟨rfl, rfl⟩)
                  | fail)
              all_goals
                go_wp2_with fail
                go_ret
                exact ⟨by simp, below_both B.out D.out⟩
      · go_wp2_with fail
        refine CN.out.mono ?_
        rintro e w1 ⟨tq, rfl, t1, hb⟩
        have B := Lib.hid (below_both B.out hb)
        have R := Lib.hid (R.out.below hb)
        have X0 := Lib.hid (cell_next HX0.out hb)
        have X1 := Lib.hid (cell_next HX1.out hb)
        have T := Lib.hid t1
        clear hb t1 HX0 HX1 CN hce
        have hd := (Below.refl w1.heap.size w1).alloc (Nat.le_refl _) (.cells #[.int .i64 0, .int .i64 0] 26)
        have B := Lib.hid (below_both B.out hd)
        have R := Lib.hid (R.out.below hd)
        have X0 := Lib.hid (cell_next X0.out hd)
        have X1 := Lib.hid (cell_next X1.out hd)
        have T := Lib.hid (T.out.next hd)
        have F := Lib.hid (FB.laid21 w1 0 0)
        clear hd
        have f0 := F.out.c0
        have f1 := F.out.c1
        rcases Nat.eq_zero_or_pos j with h0 | h0
        · subst h0
          go_wp2_with fail
          refine (live21 _).mono ?_
          rintro e w3 ⟨rfl, hb⟩
          have B := Lib.hid (below_both B.out hb)
          clear hb
          go_wp2_with fail
          go_ret
          exact ⟨rfl, B.out⟩
        · obtain ⟨i, hi⟩ : ∃ i, i = k % j := ⟨_, rfl⟩
          have hij : i < j := by rw [hi]; exact Nat.mod_lt _ h0
          have hm1 : (k : Int) % (j : Int) = (i : Int) := by rw [hi]; exact (Int.natCast_emod k j).symm
          have hm2 : (k : Int).tmod (j : Int) = (i : Int) := by rw [Int.tmod_eq_emod_of_nonneg (by omega)]; exact hm1
          have hj0 : (0 : Int) < (j : Int) := by omega
          have hj00 : ((j : Int) == 0) = false := by rw [beq_eq_false_iff_ne]; omega
          have hiji : (i : Int) < (j : Int) := by omega
          clear hi h0
          go_wp2_with fail
          clear f0 f1 hm1 hm2 hj00
          have hiL : i < L.length := by rw [HLL.out]; exact hij
          have hLB := HLB.out (L.getD i 0) (by rw [List.getD_eq_getElem?_getD, List.getElem?_eq_getElem hiL]; exact List.getElem_mem hiL)
          have hL256 : L.length ≤ 256 := by rw [HLL.out]; omega
          have ht0 := tb_findR hiL hL256 (x := (n0 : Int)) (by omega) b0i
          have ht1 := tb_findR hiL hL256 (x := (n1 : Int)) (by omega) b1i
          have HTy : Hid (L.getD i 0 ≠ -1 → tb (findR L ((L.length + 63) / 64) 255 L.length (L.getD i 0)) i = true) := fun hne => by
            rw [tb_findR hiL hL256 (by omega) (by omega)]
            simp
          have HC0 := Lib.hid (fun (w : World) (h : IsTab w tq L 255) => HT.out w tq h (n0 : Int) (by omega) b0i)
          have HC1 := Lib.hid (fun (w : World) (h : IsTab w tq L 255) => HT.out w tq h (n1 : Int) (by omega) b1i)
          have HCy : Hid (L.getD i 0 ≠ -1 → ∀ (w : World) (h : IsTab w tq L 255), Calls Try.prog 9 #[.pointer (some ⟨tq, 0, none⟩), .int .i64 (L.getD i 0)] w fun e w' => ∃ v, e = .returned v ∧ ValU w' v (findR L ((L.length + 63) / 64) 255 L.length (L.getD i 0)) ∧ Below w.heap.size w w') := fun hne w h => HT.out w tq h _ (by omega) (by omega)
          have HRc : Hid (∃ b o, A1 = some ⟨b, o, none⟩ ∧ (w1.alloc (.cells #[.int .i64 0, .int .i64 0] 26)).cell? ⟨b, o + i, none⟩ = some (.int .i64 (L.getD i 0))) := by
            obtain ⟨b, o, h1, _, h2⟩ := R.out.addr (by omega)
            exact ⟨b, o, h1, h2 i hij⟩
          obtain ⟨y, hy⟩ : ∃ y, y = L.getD i 0 := ⟨_, rfl⟩
          obtain ⟨Q0, hQ0⟩ : ∃ Q, Q = findR L ((L.length + 63) / 64) 255 L.length (n0 : Int) := ⟨_, rfl⟩
          obtain ⟨Q1, hQ1⟩ : ∃ Q, Q = findR L ((L.length + 63) / 64) 255 L.length (n1 : Int) := ⟨_, rfl⟩
          rw [← hy] at ht0 ht1 HTy HCy HRc hLB
          obtain ⟨Qy, hQy⟩ : ∃ Q, Q = findR L ((L.length + 63) / 64) 255 L.length y := ⟨_, rfl⟩
          rw [← hQy] at HTy HCy
          rw [← hQ0] at ht0 HC0
          rw [← hQ1] at ht1 HC1
          obtain ⟨bb, oo, rfl, hyc⟩ := HRc.out
          have HYc := Lib.hid hyc
          have hi9 : (i : Int) ≤ 9223372036854775807 := by omega
          obtain ⟨p0, hp0⟩ : ∃ p, p = (decide (y = -1) || decide (y = (n0 : Int))) := ⟨_, rfl⟩
          obtain ⟨p1, hp1⟩ : ∃ p, p = (decide (y = -1) || decide (y = (n1 : Int))) := ⟨_, rfl⟩
          rw [← hp0] at ht0
          rw [← hp1] at ht1
          have HP0 := Lib.hid hp0
          have HP1 := Lib.hid hp1
          have HLB := Lib.hid hLB
          clear hp0 hp1 hLB
          clear hy hQ0 hQ1 hQy HT HLL HLB hiL hL256 HRc R hyc
          have T := Lib.hid (T.out.next (w' := (w1.alloc (.cells #[.int .i64 0, .int .i64 0] 26)).drew) (Below.refl _ _).drew)
          have X0d := Lib.hid (cell_next X0.out (W' := (w1.alloc (.cells #[.int .i64 0, .int .i64 0] 26)).drew) (Below.refl _ _).drew)
          have X1d := Lib.hid (cell_next X1.out (W' := (w1.alloc (.cells #[.int .i64 0, .int .i64 0] 26)).drew) (Below.refl _ _).drew)
          have B := Lib.hid B.out.drew
          have HD := Lib.hid (fun (w' : World) (hb : Below (w1.alloc (.cells #[.int .i64 0, .int .i64 0] 26)).drew.heap.size (w1.alloc (.cells #[.int .i64 0, .int .i64 0] 26)).drew w') => And.intro (cell_next X0d.out hb) (And.intro (cell_next X1d.out hb) (cell_next (W := (w1.alloc (.cells #[.int .i64 0, .int .i64 0] 26)).drew) HYc.out hb)))
          have D : Hid (Below (w1.alloc (.cells #[.int .i64 0, .int .i64 0] 26)).drew.heap.size (w1.alloc (.cells #[.int .i64 0, .int .i64 0] 26)).drew (w1.alloc (.cells #[.int .i64 0, .int .i64 0] 26)).drew) := Below.refl _ _
          have hS : (w1.alloc (.cells #[.int .i64 0, .int .i64 0] 26)).drew.cell? ⟨w.heap.size, 0, none⟩ = some (.int .u8 (n0 : Int)) ∧ (w1.alloc (.cells #[.int .i64 0, .int .i64 0] 26)).drew.cell? ⟨w.heap.size, 1, none⟩ = some (.int .u8 (n1 : Int)) := And.intro X0d.out X1d.out
          have hw0 : IntKind.i64.wrap (n0 : Int) = (n0 : Int) := by rw [IntKind.wrap_i64]; omega
          have hw1 : IntKind.i64.wrap (n1 : Int) = (n1 : Int) := by rw [IntKind.wrap_i64]; omega
          clear X0 X1
          go_region_held3 (fun w' => w'.cell? ⟨w.heap.size, 0, none⟩ = some (.int .u8 (n0 : Int)) ∧ w'.cell? ⟨w.heap.size, 1, none⟩ = some (.int .u8 (n1 : Int)))
            (first | exact hS | go_keep)
            (first
              | (go_at_call 9; with_reducible refine (HC0.out _ T.out).mono ?_; rintro e w' ⟨v0, rfl, hv0, hb⟩; have T := Lib.hid (T.out.next hb); have D := Lib.hid (below_both D.out hb); (try (have V1 := Lib.hid (V1.out.below hb))); have V0 := Lib.hid hv0; have hS : _ ∧ _ := And.intro (HD.out _ D.out).1 (HD.out _ D.out).2.1; clear hb hv0)
              | (go_at_call 9; with_reducible refine (HC1.out _ T.out).mono ?_; rintro e w' ⟨v1, rfl, hv1, hb⟩; have T := Lib.hid (T.out.next hb); have D := Lib.hid (below_both D.out hb); (try (have V0 := Lib.hid (V0.out.below hb))); have V1 := Lib.hid hv1; have hS : _ ∧ _ := And.intro (HD.out _ D.out).1 (HD.out _ D.out).2.1; clear hb hv1)
              | (go_at_call 14; with_reducible refine (brhas_val _ _ _ _ _ V0.out hi9 ht0).mono ?_; rintro e w' ⟨rfl, rfl⟩)
              | (go_at_call 14; with_reducible refine (brhas_val _ _ _ _ _ V1.out hi9 ht1).mono ?_; rintro e w' ⟨rfl, rfl⟩)
              | fail)
          all_goals
            have hyc := (HD.out _ D.out).2.2
            have B := Lib.hid (below_both B.out D.out)
            have Z0 := Lib.hid (HD.out _ D.out).1
            have Z1 := Lib.hid (HD.out _ D.out).2.1
            have Zy := Lib.hid hyc
            clear hS V0 V1 HD D ht0 ht1 HC0 HC1
            by_cases hy1 : y = -1
            · have hb1 : (y == -1) = true := by rw [beq_iff_eq]; exact hy1
              have e0 : p0 = true := by rw [HP0.out, decide_eq_true hy1]; rfl
              have e1 : p1 = true := by rw [HP1.out, decide_eq_true hy1]; rfl
              subst e0 e1
              clear hy1 hw0 hw1
              go_wp2_with fail
              clear hyc hb1
              refine (live21 _).mono ?_
              rintro e w3 ⟨rfl, hb⟩
              have B := Lib.hid (below_both B.out hb)
              clear hb
              go_wp2_with fail
              go_ret
              exact ⟨rfl, B.out⟩
            · have hb1 : (y == -1) = false := by rw [beq_eq_false_iff_ne]; exact hy1
              have e0 : (y == (n0 : Int)) = p0 := by rw [HP0.out, decide_eq_false hy1, Bool.false_or]; rfl
              have e1 : (y == (n1 : Int)) = p1 := by rw [HP1.out, decide_eq_false hy1, Bool.false_or]; rfl
              have HCy := Lib.hid (HCy.out hy1)
              have hty := HTy.out hy1
              clear hy1
              go_wp2_with fail
              clear hyc hb1
              have T := Lib.hid (T.out.next (Below.refl _ _).drew)
              have Z0 := Lib.hid (cell_next Z0.out (Below.refl _ _).drew)
              have Z1 := Lib.hid (cell_next Z1.out (Below.refl _ _).drew)
              have Zy := Lib.hid (cell_next Zy.out (Below.refl _ _).drew)
              have B := Lib.hid B.out.drew
              have D := Lib.hid (below_of_cell Zy.out)
              have HD := Lib.hid (fun (w' : World) hb => And.intro (cell_next (W' := w') Z0.out hb) (And.intro (cell_next (W' := w') Z1.out hb) (cell_next (W' := w') Zy.out hb)))
              have hS := HD.out _ D.out
              clear Z0 Z1 Zy
              go_region_held3 (fun w' => w'.cell? ⟨w.heap.size, 0, none⟩ = some (.int .u8 (n0 : Int)) ∧ w'.cell? ⟨w.heap.size, 1, none⟩ = some (.int .u8 (n1 : Int)) ∧ w'.cell? ⟨bb, oo + i, none⟩ = some (.int .i64 y))
                (first | exact hS | go_keep)
                (first
                  | (go_at_call 7; refine (live21 _).mono ?_; rintro e w' ⟨rfl, hb⟩; have T := Lib.hid (T.out.next hb); have D := Lib.hid (below_both D.out hb); have hS := HD.out _ D.out; clear hb)
                  | (go_at_call 9; with_reducible refine (HCy.out _ T.out).mono ?_; rintro e w' ⟨vy, rfl, hvy, hb⟩; have T := Lib.hid (T.out.next hb); have D := Lib.hid (below_both D.out hb); have hS := HD.out _ D.out; have Vy := Lib.hid hvy; clear hb hvy)
                  | (go_at_call 14; with_reducible refine (brhas_val _ _ _ _ _ Vy.out hi9 hty).mono ?_; rintro e w' ⟨rfl, rfl⟩)
                  | fail)
              all_goals
                go_wp2_with fail
                go_ret
                exact ⟨by simp, below_both B.out D.out⟩

theorem walk_DirectHas (A : Option Addr) (n cap : Nat) (zs ns : List Int) (k : Nat) (w : World) (hA : RowS w A n zs) (hn : n ≤ cap) (hc : cap ≤ 70368744175616) (hns : ns.length = 2) (hz : ∀ z ∈ ns, (Lit.int .u8 z).wf = true) (hk : k ≤ 255) :
    Calls Try.prog 4 #[.slice A n cap, .agg (ns.map (Value.int .u8)).toArray, .int .u8 (k : Int)] w fun e w' => e = .returned (.bool true) ∧ Below w.heap.size w w' := by
  match ns, hns with
  | [a, b], _ =>
    have ha := wf_u8 (hz a (by simp))
    have hb := wf_u8 (hz b (by simp))
    obtain ⟨n0, rfl⟩ := Int.eq_ofNat_of_zero_le ha.1
    obtain ⟨n1, rfl⟩ := Int.eq_ofNat_of_zero_le hb.1
    exact wdh_walk A n cap zs n0 n1 k w hA (by omega) (by omega) (by omega) hk
end Go.Proofs.Ythikjngmaekjgaa
