/-
  The walk of the statement ExtwalkBack.
-/
import Derived.Test.YtlopmkmcjcijcaaEwC
import Derived.Test.YtlopmkmcjcijcaaEw10
import Derived.Test.YtlopmkmcjcijcaaWXWrites
import Derived.Test.YtlopmkmcjcijcaaSames
import Derived.Test.YtlopmkmcjcijcaaApp
import Derived.Deep.CutBlock
import Derived.Deep.CutRange
namespace Go.Proofs.Ytlopmkmcjcijcaa
open Go.RowKit
set_option linter.unusedVariables false

set_option maxRecDepth 10000 in
set_option maxHeartbeats 6400000 in
theorem first11_any (v : Value) (M : List (Int × List Nat)) (p : Int) (w : World) (hM : ExtsIn w v M) (hl : M.length ≤ 140737488355328) :
    Calls Try.prog 30 #[v, .int .i64 p] w fun e w' => e = .returned (.int .i64 (exNext p M)) ∧ w = w' := by
  obtain ⟨A, c, rfl, hc, hcell⟩ := hM
  cases M with
  | nil =>
    clear hcell hc hl
    go_enter Try.func30, Try.ntmps30
    go_wp2_with fail
    go_ret
    exact ⟨rfl, rfl⟩
  | cons m r =>
    obtain ⟨k, b0⟩ := m
    obtain ⟨_, b, o, bv, rfl, hb, cc1, cc2, _⟩ := hcell 0 (k, b0) rfl
    simp only [Nat.zero_mul, Nat.add_zero] at cc1 cc2
    obtain ⟨N, hN⟩ : ∃ N, N = ((k, b0) :: r).length := ⟨_, rfl⟩
    have n0 : (0 : Int) < (N : Int) := by rw [hN, List.length_cons]; omega
    rw [← hN] at hl ⊢
    clear hN hcell hc cc2 hb
    go_enter Try.func30, Try.ntmps30
    go_wp2_with fail
    go_ret
    exact ⟨rfl, rfl⟩
def NoneLater (M : List (Int × List Nat)) (j : Nat) : Prop := ∀ i x, i < j → M[i]? = some x → exLater x = false
theorem none_next {M : List (Int × List Nat)} {j : Nat} {m : Int × List Nat} (h : NoneLater M j) (hm : M[j]? = some m) (h2 : exLater m = false) : NoneLater M (j + 1) := fun i x hi hx => by
  rcases Nat.lt_succ_iff_lt_or_eq.1 hi with h1 | h1
  · exact h i x h1 hx
  · subst h1
    rw [hm] at hx
    injection hx with hx
    rw [← hx]; exact h2
theorem exLen_next : ∀ {M : List (Int × List Nat)} {j : Nat} {m : Int × List Nat}, M[j]? = some m → exLen (M.take (j + 1)) = exLen (M.take j) + (m.2.length + 2)
  | [], j, m, h => by simp at h
  | x :: r, 0, m, h => by
    simp at h
    subst h
    simp [exLen]
  | x :: r, j + 1, m, h => by
    show x.2.length + 2 + exLen (r.take (j + 1)) = x.2.length + 2 + exLen (r.take j) + (m.2.length + 2)
    rw [exLen_next (M := r) (by simpa using h)]
    omega
theorem size_ints {s n z : Nat} (hs : s ≤ 16384) (hn : n + 2 ≤ 2048) (hz : z = s + (n + 2)) : wrap64 ((n : Int) + 2) = (n : Int) + 2 ∧ wrap64 ((s : Int) + ((n : Int) + 2)) = (z : Int) := by
  refine ⟨by unfold wrap64; omega, by unfold wrap64; omega⟩
theorem body_ints {n : Nat} (h : 6 ≤ n) : ¬ (n : Int) < 6 ∧ (0 : Int) < (n : Int) ∧ (1 : Int) < (n : Int) := ⟨by omega, by omega, by omega⟩
theorem back_ints {k z l c : Nat} (h : k < z) (hk : k ≤ l) (hc : l ≤ c) (hl : l ≤ 16384) : (k : Int) < (z : Int) ∧ ¬ (l : Int) < (k : Int) ∧ (k : Int) ≤ (c : Int) ∧ (0 : Int) ≤ (k : Int) := ⟨by omega, by omega, by omega, by omega⟩
theorem eight_int (p : Nat) : 8 ≤ p ↔ (8 : Int) ≤ (p : Int) := by omega
theorem exLen_take {M : List (Int × List Nat)} : ∀ (j : Nat), exLen (M.take j) ≤ exLen M := by
  induction M with
  | nil => intro j; simp
  | cons m r ih =>
    intro j
    cases j with
    | zero => exact Nat.zero_le _
    | succ j => show m.2.length + 2 + exLen (r.take j) ≤ m.2.length + 2 + exLen r; have := ih j; omega
theorem cut_take {M : List (Int × List Nat)} {u : Nat} (hu : u ≤ M.length) (h : exCut M = M.take u) : (exCut M).length = u := by rw [h, List.length_take]; omega
set_option maxRecDepth 10000 in
set_option maxHeartbeats 6400000 in
theorem walk_ExtwalkBack (a0 : Option Addr) (len0 cap0 : Nat) (M0 : List (Int × List Nat)) (n1 : Int) (a2 : Option Addr) (len2 cap2 : Nat) (bs2 : List Nat) (w : World) (hM0 : M0.length = len0) (HX0 : ExtsIn w (.slice a0 len0 cap0) M0) (hn0 : len0 ≤ 140737488351232) (hB0 : ∀ m ∈ M0, (-9223372036854775808 ≤ m.1 ∧ m.1 ≤ 9223372036854775807) ∧ m.2.length ≤ 140737488351232) (lo1 : -9223372036854775808 ≤ n1) (hi1 : n1 ≤ 9223372036854775807) (R2 : Row w a2 len2 bs2) (hl2 : len2 ≤ cap2) (hc2 : cap2 ≤ 140737488351232) :
    Calls Try.prog 5 #[.slice a0 len0 cap0, .int .i64 n1, .slice a2 len2 cap2] w fun e w' => e = .returned (.bool true) ∧ Below w.heap.size w w' := by
  have hl : M0.length ≤ 140737488355328 := by rw [hM0]; omega
  obtain ⟨x, y, hr⟩ : ∃ x y, exCheck M0 n1 = (x, y) := ⟨_, _, rfl⟩
  obtain ⟨L, hL⟩ : ∃ L, L = if x = 0 then exBytes n1 M0 else [] := ⟨_, rfl⟩
  have CW : Hid (∀ W, Below w.heap.size w W → Calls Try.prog 27 #[.slice a0 len0 cap0, .int .i64 n1] W (WroteIs L x y W)) := fun W hW => (exwrite_any _ M0 n1 W (HX0.below hW) hl).mono (wrote HX0 hr hL W)
  unfold WroteIs at CW
  have HX := Lib.hid HX0
  have HR2 := Lib.hid R2
  by_cases hx : x = 0
  · by_cases hbig : 1000 < len2
    · have hI : (1000 : Int) < (len2 : Int) := by omega
      subst hx
      clear hr hL hM0 HX0 hn0 hB0 lo1 hi1 hl hbig R2 hl2 hc2
      go_enter Try.func5, Try.ntmps5
      go_wp2_with fail
      refine (CW.out _ (Below.refl _ _)).mono ?_
      rintro e w1 ⟨v1, rfl, r1, hl1, b1⟩
      go_upto_region 2 with fail
      obtain ⟨V1, e1⟩ : ∃ V, V = w1.alloc (.cells #[.int .i64 0, .int .i64 (y : Nat)] 39) := ⟨_, rfl⟩
      have hA1 : ArrV 39 V1 w1.heap.size [.int .i64 0, .int .i64 (y : Nat)] := by rw [e1]; exact ArrV.new _ w1 _
      have hb1 : Below w1.heap.size w1 V1 := by rw [e1]; exact (Below.refl _ _).alloc (Nat.le_refl _) _
      have R1 := Lib.hid (r1.below hb1)
      have B1 := Lib.hid (below_both b1 hb1)
      have c0 := hA1.get 0
      simp at c0
      rw [← e1]
      obtain ⟨g1, hg1⟩ : ∃ g, g = w1.heap.size := ⟨_, rfl⟩
      rw [← hg1] at c0 ⊢
      clear e1 hA1 hb1 r1 b1 hl1 hg1
      go_wp2_with fail
      refine (live11 _).mono ?_
      rintro e w3 ⟨rfl, b3⟩
      have B3 := Lib.hid (below_both B1.out b3)
      go_wp2_with fail
      go_ret
      exact ⟨rfl, B3.out⟩
    · have hI : ¬ (1000 : Int) < (len2 : Int) := by omega
      have HL2 : Hid (len2 ≤ 1000) := Nat.le_of_not_lt hbig
      subst hx
      obtain ⟨hy, hW⟩ := written_of hr
      subst hy
      have HW := Lib.hid hW
      have HB := Lib.hid (exts_bytes HX0)
      rw [if_pos rfl] at hL
      have HLE := Lib.hid hL
      have hLl : L.length = exLen M0 := by rw [hL]; exact exBytes_len n1 M0
      have HLL := Lib.hid hLl
      have CF : Hid (∀ W, Below w.heap.size w W → Calls Try.prog 30 #[.slice a0 len0 cap0, .int .i64 n1] W fun e w' => e = .returned (.int .i64 (exNext n1 M0)) ∧ W = w') := fun W hW => first11_any _ M0 n1 W (HX0.below hW) hl
      obtain ⟨tt, ht1, ht2, ht3, ht4, ht5, ht6⟩ := walk_whole hW HB.out bs2 (n := (L ++ bs2).length) (by rw [hL])
      have hFl : (L ++ bs2).length ≤ 17384 := by rw [List.length_append, hLl, R2.1]; have := hW.len; omega
      have HBY : Hid (∀ z ∈ L ++ bs2, z < 256) := fun z hz => by
        rcases List.mem_append.1 hz with h | h
        · rw [hL] at h
          exact exBytes_byte ⟨hW.p0, hW.p1⟩ (fun m hm => ⟨(hW.each m hm).1, (hW.each m hm).2.2.2⟩) HB.out z h
        · exact R2.2.1 z h
      rw [← hL] at ht1 ht6
      have CL : Hid (∀ (A : Option Addr) (c : Nat) (W : World), (L ++ bs2).length ≤ c → Row W A (L ++ bs2).length (L ++ bs2) → Calls Try.prog 25 #[.int .i64 (exNext n1 M0), .slice A (L ++ bs2).length c] W fun e w' => ∃ v, e = .returned v ∧ ExtRead w' v ((exCut M0).map exNat) ∧ Below W.heap.size W w') := fun A c W h1 h2 => by
        have h := exlist_any (exNext n1 M0) A (L ++ bs2).length c (L ++ bs2) W h1 (by omega) h2 (by rw [ht6, List.length_map]; have := (exCut_len M0).1; have := hW.l8; omega) (fun m hm => by
          rw [ht6] at hm
          obtain ⟨m0, h0, rfl⟩ := List.mem_map.1 hm
          have hin : m0 ∈ M0 := exCut_mem h0
          have := (hW.each m0 hin).2.1
          show m0.2.length ≤ _
          omega)
        rw [ht6] at h
        refine h.mono ?_
        rintro e w' ⟨v, rfl, hE, hb⟩
        exact ⟨v, rfl, hE.read, hb⟩
      have CG : Hid (∀ (A : Option Addr) (c : Nat) (W : World), (L ++ bs2).length ≤ c → Row W A (L ++ bs2).length (L ++ bs2) → Calls Try.prog 16 #[.int .i64 (exNext n1 M0), .slice A (L ++ bs2).length c] W (GoIs W tt)) := fun A c W h1 h2 => by
        have h := exgo_tour (exNext n1 M0) A (L ++ bs2).length c (L ++ bs2) W h1 (by omega) h2
        rw [ht1] at h
        exact h
      unfold GoIs at CG
      have CP : Hid (∀ (q : Nat), q < exLen (exCut M0) → ∀ (A : Option Addr) (c : Nat) (W : World), q ≤ c → Row W A q (L.take q) → Calls Try.prog 16 #[.int .i64 (exNext n1 M0), .slice A q c] W fun e w' => ∃ b o c', e = .returned (.tuple #[.agg #[.int .i64 0, .int .i64 0, .int .i64 0, .int .i64 0, .int .i64 0], .slice (some ⟨b, o, none⟩) 1 c']) ∧ (b < w'.heap.size ∧ w'.cell? ⟨b, o, none⟩ = some (.int .i64 10)) ∧ Below W.heap.size W w') := fun q hq A c W h1 h2 => by
        rw [hL] at h2
        exact go_part hW HB.out hq A c W h1 h2
      have HTT := Lib.hid (And.intro ht2 (And.intro ht3 (And.intro ht4 ht5)))
      have hlenN : len0 ≤ 8 := by rw [← hM0]; exact hW.l8
      have hN8 : (len0 : Int) ≤ 8 := by omega
      have HN8 := Lib.hid hlenN
      have HN := Lib.hid hM0
      have HQ1 : Hid (([] : List Nat).length + L.length ≤ 140737488355328) := by show 0 + L.length ≤ _; rw [hLl]; have := hW.len; omega
      have HQ2 : Hid (L.length + len2 ≤ 140737488355328) := by show _ ≤ _; rw [hLl]; have := hW.len; omega
      obtain ⟨K, hK⟩ : ∃ K, K = exNext n1 M0 := ⟨_, rfl⟩
      rw [← hK] at CF CL CG CP
      obtain ⟨FN, hFN⟩ : ∃ FN, FN = (L ++ bs2).length := ⟨_, rfl⟩
      rw [← hFN] at CL CG
      have HNN := Lib.hid hFN
      clear hr hL hM0 HX0 hn0 hB0 lo1 hi1 hl hbig R2 hl2 hc2 hW hLl ht1 ht2 ht3 ht4 ht5 ht6 hFl hlenN hK hFN
      go_enter Try.func5, Try.ntmps5
      go_wp2_with fail
      refine (CW.out _ (Below.refl _ _)).mono ?_
      rintro e w1 ⟨v1, rfl, r1, hl1, b1⟩
      go_upto_region 2 with fail
      obtain ⟨V1, e1⟩ : ∃ V, V = w1.alloc (.cells #[.int .i64 0, .int .i64 0] 39) := ⟨_, rfl⟩
      have hA1 : ArrV 39 V1 w1.heap.size [.int .i64 0, .int .i64 0] := by rw [e1]; exact ArrV.new _ w1 _
      have hb1 : Below w1.heap.size w1 V1 := by rw [e1]; exact (Below.refl _ _).alloc (Nat.le_refl _) _
      have R1 := Lib.hid (r1.below hb1)
      have B1 := Lib.hid (below_both b1 hb1)
      have c0 := hA1.get 0
      simp at c0
      rw [← e1]
      obtain ⟨g1, hg1⟩ : ∃ g, g = w1.heap.size := ⟨_, rfl⟩
      rw [← hg1] at c0 ⊢
      obtain ⟨AL, cL, rfl, hcL, hrL⟩ := R1.out
      have HRL := Lib.hid hrL
      have HCL := Lib.hid hcL
      clear e1 hA1 hb1 r1 b1 hl1 hg1 hcL hrL R1
      have HNL0 : Hid (NoneLater M0 0) := fun i z hi => absurd hi (Nat.not_lt_zero _)
      go_upto_block 0 with fail
      go_cut [9, 10] from 11 to 85 (fun up sz wx => wx = V1 ∧ ∃ u z : Nat, up = .int .i64 (u : Nat) ∧ sz = .int .i64 (z : Nat) ∧ u ≤ len0 ∧ z = exLen (exCut M0) ∧ exCut M0 = M0.take u)
      case first =>
        go_wp2_with fail
        go_loopw [9, 10, 11] (fun up sz i W => ∃ j z : Nat, up = .int .i64 (len0 : Nat) ∧ j ≤ len0 ∧ i = .int .i64 (j : Nat) ∧ sz = .int .i64 (z : Nat) ∧ z = exLen (M0.take j) ∧ W = V1 ∧ NoneLater M0 j) (fun up sz i W => len0 - (intOf i).toNat)
        case atStart => exact ⟨0, 0, rfl, Nat.zero_le _, rfl, rfl, rfl, rfl, HNL0.out⟩
        case round =>
          obtain ⟨j, z, rfl, hj, rfl, rfl, hz, rfl, hno⟩ := hrel
          have HNO := Lib.hid hno
          have HZ := Lib.hid hz
          by_cases hlt : j < len0
          · obtain ⟨⟨k, bd⟩, hm⟩ : ∃ m, M0[j]? = some m := ⟨_, List.getElem?_eq_getElem (by rw [HN.out]; exact hlt)⟩
            obtain ⟨A2, c2, e2, _, hcell⟩ := HX.out.below B1.out
            rw [HN.out] at e2
            cases e2
            obtain ⟨_, b, o, bv, rfl, hb, cc1, cc2, ⟨A3, c3, rfl, hc3, hrow⟩⟩ := hcell j (k, bd) hm
            obtain ⟨hek, hb2, hb6, _⟩ := HW.out.each (k, bd) (List.mem_of_getElem? hm)
            simp only [] at cc1 cc2 hek hb2 hb6 hrow hc3
            obtain ⟨b3, o3, rfl, _, hbc⟩ := hrow.addr (Nat.lt_of_lt_of_le (by decide) hb6)
            have d0 := hbc 0 (Nat.lt_of_lt_of_le (by decide) hb6)
            have d1 := hbc 1 (Nat.lt_of_lt_of_le (by decide) hb6)
            simp only [Nat.add_zero] at d0
            have hxl : exLater (k, bd) = decide (k = 44 ∧ (0 < bd.getD 0 0 ∨ 8 ≤ bd.getD 1 0)) := rfl
            obtain ⟨p0, hp0⟩ : ∃ p, p = bd.getD 0 0 := ⟨_, rfl⟩
            obtain ⟨p1, hp1⟩ : ∃ p, p = bd.getD 1 0 := ⟨_, rfl⟩
            rw [← hp0] at d0 hxl
            rw [← hp1] at d1 hxl
            obtain ⟨n, hn⟩ : ∃ n, n = bd.length := ⟨_, rfl⟩
            have hzn := exLen_next hm
            simp only [] at hzn
            rw [← hn] at cc2 hb2 hb6 hzn
            rw [← hz] at hzn
            obtain ⟨z2, hz2⟩ : ∃ z2, z2 = z + (n + 2) := ⟨_, rfl⟩
            rw [← hz2] at hzn
            have hz16 : z ≤ 16384 := by rw [hz]; exact Nat.le_trans (exLen_take j) HW.out.len
            obtain ⟨w1', w2'⟩ := size_ints hz16 hb2 hz2
            obtain ⟨j8, jw, j0, j01⟩ := w_ints HN8.out hj
            have jI : (j : Int) < (len0 : Int) := Int.ofNat_lt.2 hlt
            obtain ⟨n6, n0, n1'⟩ := body_ints hb6
            have HM := Lib.hid hm
            have HLT := Lib.hid (And.intro hlt (idx_meas hlt))
            have HZN := Lib.hid hzn
            have HXL := Lib.hid hxl
            clear hm hek hb2 hb6 hrow hc3 hbc hcell hp0 hp1 hn hzn hz hz2 hz16 hlt hj hb hxl hno
            go_upto_region 12 with fail
            rw [w2']
            clear w1' w2'
            by_cases k4 : k = 44
            · subst k4
              by_cases h0 : 0 < p0
              · have q0 : (0 : Int) < (p0 : Int) := Int.natCast_pos.2 h0
                have HC : Hid (exCut M0 = M0.take (j + 1)) := exCut_at HM.out (by rw [HXL.out]; exact decide_eq_true ⟨rfl, .inl h0⟩) HNO.out
                clear h0
                go_wp2_with fail
                go_meet
                case rel => exact ⟨rfl, j + 1, z2, by go_num, rfl, HLT.out.1, by rw [HC.out, HZN.out], HC.out⟩
              · have q0 : ¬ (0 : Int) < (p0 : Int) := fun e => h0 (Int.natCast_pos.1 e)
                by_cases h1 : 8 ≤ p1
                · have q1 : (8 : Int) ≤ (p1 : Int) := (eight_int p1).1 h1
                  have HC : Hid (exCut M0 = M0.take (j + 1)) := exCut_at HM.out (by rw [HXL.out]; exact decide_eq_true ⟨rfl, .inr h1⟩) HNO.out
                  clear h0 h1
                  go_wp2_with fail
                  go_meet
                  case rel => exact ⟨rfl, j + 1, z2, by go_num, rfl, HLT.out.1, by rw [HC.out, HZN.out], HC.out⟩
                · have q1 : ¬ (8 : Int) ≤ (p1 : Int) := fun e => h1 ((eight_int p1).2 e)
                  have HNX : Hid (NoneLater M0 (j + 1)) := none_next HNO.out HM.out (by rw [HXL.out]; exact decide_eq_false (fun h => by rcases h.2 with h | h; exact h0 h; exact h1 h))
                  clear h0 h1
                  go_wp2_with fail
                  go_roundw
                  case rel => exact ⟨j + 1, z2, by trivial, HLT.out.1, by go_num, by trivial, HZN.out.symm, by trivial, HNX.out⟩
                  case measure => simp [intOf]; exact HLT.out.2
            · have b4 : (k == 44) = false := beq_false_of_ne k4
              have HNX : Hid (NoneLater M0 (j + 1)) := none_next HNO.out HM.out (by rw [HXL.out]; exact decide_eq_false (fun h => k4 h.1))
              clear k4
              go_wp2_with fail
              go_roundw
              case rel => exact ⟨j + 1, z2, by trivial, HLT.out.1, by go_num, by trivial, HZN.out.symm, by trivial, HNX.out⟩
              case measure => simp [intOf]; exact HLT.out.2
          · have hjN : j = len0 := Nat.le_antisymm hj (Nat.le_of_not_lt hlt)
            subst hjN
            have HC : Hid (exCut M0 = M0.take j) := by
              show _ = _
              rw [List.take_of_length_le (by rw [HN.out]; exact Nat.le_refl _)]
              exact exCut_all fun m hmem => by
                obtain ⟨i, hi, rfl⟩ := List.getElem_of_mem hmem
                exact HNO.out i _ (by rw [← HN.out]; exact hi) (List.getElem?_eq_getElem hi)
            have jN : ¬ (j : Int) < (j : Int) := Int.lt_irrefl _
            clear hlt hj hno hz
            go_wp2_with fail
            go_meet
            case rel => exact ⟨by trivial, j, z, by trivial, by trivial, Nat.le_refl _, by rw [HC.out, HZ.out], HC.out⟩
      case rest =>
        obtain ⟨hwc, u, z, rfl, rfl, hu, hz, hcut⟩ := hcut
        rw [hwc]
        clear hwc
        obtain ⟨a1t, a2t, a3t, a4t⟩ := HTT.out
        have hun : (exCut M0).length = u := cut_take (by rw [HN.out]; exact hu) hcut
        rw [← hz] at CP a1t
        rw [hun] at a2t a4t
        have hzL : z ≤ L.length := by rw [HLL.out, hz]; exact (exCut_len M0).2
        have hLS : L.length ≤ 16384 := by rw [HLL.out]; exact HW.out.len
        have CE : Hid (∀ (W : World) (v : Value), Below V1.heap.size V1 W → ExtRead W v ((exCut M0).map exNat) → Calls Try.prog 24 #[v, .slice a0 u cap0] W fun e w' => e = .returned (.bool true) ∧ Below W.heap.size W w') := fun W v hW hv => by
          have hin := (HX.out.below B1.out).below hW
          rw [← HN.out] at hin
          have h2 := exts_read hin (fun m hm => (exKind_byte (HW.out.each m hm).1).1) u (by rw [HN.out]; exact hu)
          rw [← hcut] at h2
          refine sameexts _ _ _ W (by rw [List.length_map, hun]; have := HN8.out; omega) (fun m hm => ?_) hv h2
          obtain ⟨m0, h0, rfl⟩ := List.mem_map.1 hm
          have := (HW.out.each m0 (exCut_mem h0)).2.1
          show m0.2.length ≤ _
          omega
        obtain ⟨hcu, hcu2⟩ : (u : Int) ≤ (cap0 : Int) ∧ (0 : Int) ≤ (u : Int) := by
          obtain ⟨A2, c2, e2, hc', _⟩ := HX.out
          cases e2
          rw [HN.out] at hc'
          omega
        have HZ := Lib.hid (And.intro hzL hLS)
        have HU := Lib.hid hu
        have zs : (z : Int) ≤ 16384 := by omega
        clear hz hcut hun hzL hLS hu
        by_cases hlg : tt.lng = true
        · have hd : tt.defects = [14] := by rw [nodef_defects a3t, if_pos hlg]
          have ht : tt.told = [.int .i64 0, .int .i64 0, .int .i64 0, .int .i64 0, .int .i64 0] := by
            unfold Tour.told
            rw [if_neg (by rw [hd]; simp)]
            rfl
          rw [hd, ht] at CG
          clear hd ht a1t a2t a3t a4t hlg CP
          go_wp2_with fail
          refine (CF.out _ B1.out).mono ?_
          rintro e w' ⟨rfl, rfl⟩
          have O0 : Hid (OutIs V1.heap.size (V1.alloc (.cells #[] 5)) (.slice (some ⟨V1.heap.size, 0, none⟩) 0 0) []) := OutIs.laid V1 [] V1.heap.size (Nat.le_refl _) (by decide)
          have Q5 : Hid (Below V1.heap.size V1 (V1.alloc (.cells #[] 5))) := (Below.refl _ _).alloc (Nat.le_refl _) _
          have RA := Lib.hid (HRL.out.below Q5.out)
          go_upto_region 15 with fail
          refine wp_region_lit ?_
          go_wp2_with (first
            | (at_builtin; refine wpList_append_row_any (B := V1.heap.size) (W := V1) rfl (.tmp 90) (.tmp 91) rfl rfl rfl rfl O0.out RA.out Q5.out Q5.out.size HQ1.out ?_; intro v6 w6 ho6 hb6; rw [List.nil_append] at ho6; have O6 := Lib.hid ho6; have Q6 := Lib.hid hb6; have RB := Lib.hid ((HR2.out.below (B1.out)).below hb6); have Z6 : Hid (V1.heap.size ≤ w6.heap.size) := hb6.size; clear ho6 hb6)
            | (at_builtin; refine wpList_append_row_any (B := V1.heap.size) (W := V1) rfl (.tmp 92) (.tmp 93) rfl rfl rfl rfl O6.out RB.out Q6.out Z6.out HQ2.out ?_; intro v7 w7 ho7 hb7; obtain ⟨A7, c7, rfl, h1, h2, h3⟩ := ho7.out HBY.out; rw [← HNN.out] at h1 h3 ⊢; have H7 := Lib.hid h1; have R7 := Lib.hid h3; have B7 := Lib.hid hb7; clear ho7 hb7 h1 h2 h3)
            | fail)
          refine (CL.out _ _ _ H7.out R7.out).mono ?_
          rintro e w8 ⟨v8, rfl, e8, b8⟩
          have Q8 := Lib.hid (below_both B7.out b8)
          have E8 := Lib.hid e8
          clear e8 b8 B7 R7 H7 RB Q6 Z6 O6 RA Q5 O0 CF CL
          go_wp2_with fail
          refine (CE.out _ _ Q8.out E8.out).mono ?_
          rintro e w9 ⟨rfl, b9⟩
          have Q9 := Lib.hid (below_both Q8.out b9)
          clear b9 Q8 E8 CE
          have O0 : Hid (OutIs w9.heap.size (w9.alloc (.cells #[] 5)) (.slice (some ⟨w9.heap.size, 0, none⟩) 0 0) []) := OutIs.laid w9 [] w9.heap.size (Nat.le_refl _) (by decide)
          have Q5 : Hid (Below w9.heap.size w9 (w9.alloc (.cells #[] 5))) := (Below.refl _ _).alloc (Nat.le_refl _) _
          have RA := Lib.hid ((HRL.out.below Q9.out).below Q5.out)
          go_upto_region 18 with fail
          refine wp_region_lit ?_
          go_wp2_with (first
            | (at_builtin; refine wpList_append_row_any (B := w9.heap.size) (W := w9) rfl (.tmp 104) (.tmp 105) rfl rfl rfl rfl O0.out RA.out Q5.out Q5.out.size HQ1.out ?_; intro v6 w6 ho6 hb6; rw [List.nil_append] at ho6; have O6 := Lib.hid ho6; have Q6 := Lib.hid hb6; have RB := Lib.hid ((HR2.out.below (below_both B1.out Q9.out)).below hb6); have Z6 : Hid (w9.heap.size ≤ w6.heap.size) := hb6.size; clear ho6 hb6)
            | (at_builtin; refine wpList_append_row_any (B := w9.heap.size) (W := w9) rfl (.tmp 106) (.tmp 107) rfl rfl rfl rfl O6.out RB.out Q6.out Z6.out HQ2.out ?_; intro v7 w7 ho7 hb7; obtain ⟨A7, c7, rfl, h1, h2, h3⟩ := ho7.out HBY.out; rw [← HNN.out] at h1 h3 ⊢; have H7 := Lib.hid h1; have R7 := Lib.hid h3; have B7 := Lib.hid hb7; clear ho7 hb7 h1 h2 h3)
            | fail)
          refine (CG.out _ _ _ H7.out R7.out).mono ?_
          rintro e w10 ⟨v10, rfl, d10, b10⟩
          go_upto_region 19 with fail
          obtain ⟨V2, eV⟩ : ∃ V, V = w10.alloc (.cells #[.int .i64 0, .int .i64 0, .int .i64 0, .int .i64 0, .int .i64 0] 24) := ⟨_, rfl⟩
          have hA : ArrV 24 V2 w10.heap.size [.int .i64 0, .int .i64 0, .int .i64 0, .int .i64 0, .int .i64 0] := by rw [eV]; exact ArrV.new _ w10 _
          have hb : Below w10.heap.size w10 V2 := by rw [eV]; exact (Below.refl _ _).alloc (Nat.le_refl _) _
          have A2 := Lib.hid hA
          have Q2 := Lib.hid (below_both Q9.out (below_both B7.out (below_both b10 hb)))
          have D2 := Lib.hid (d10.below hb)
          rw [← eV]
          obtain ⟨g2, hg2⟩ : ∃ g, g = w10.heap.size := ⟨_, rfl⟩
          rw [← hg2] at A2 ⊢
          clear eV hA hb d10 b10 hg2 B7 R7 H7 RB Q6 Z6 O6 RA Q5 O0 Q9 CG
          obtain ⟨b14, o14, c14, rfl, hlt14, c14v⟩ := one_defect D2.out
          clear hlt14
          go_wp2_with fail
          refine (live11 _).mono ?_
          rintro e w12 ⟨rfl, b12⟩
          have x0 := (D2.out.below b12)
          obtain ⟨b15, o15, c15, e15, _, y14⟩ := one_defect x0
          cases e15
          have A3 := Lib.hid (A2.out.below b12)
          have B3 := Lib.hid (below_both B1.out (below_both Q2.out b12))
          clear c14v x0 b12 A2 Q2 D2
          go_wp2_with (first | refine wpList_load_vg (by rfl) 24 (.tmp 14) rfl _ rfl tywalk A3.out rfl ?_ | fail)
          go_ret
          exact ⟨rfl, B3.out⟩
        · have hd : tt.defects = [] := by rw [nodef_defects a3t, if_neg hlg]
          obtain ⟨pr, hpr⟩ : ∃ p, p = tt.proto := ⟨_, rfl⟩
          obtain ⟨fr, hfr⟩ : ∃ p, p = tt.frag := ⟨_, rfl⟩
          obtain ⟨of, hof⟩ : ∃ p, p = tt.off := ⟨_, rfl⟩
          have ht : tt.told = [.int .i64 pr, .int .i64 (z : Nat), .int .i64 (fr : Nat), .int .i64 (of : Nat), .int .i64 (u : Nat)] := by
            unfold Tour.told
            rw [if_pos hd, hpr, hfr, hof, ← a1t, ← a2t]
            rfl
          rw [hd, ht] at CG
          rw [← hpr] at a4t
          have HPR : Hid (pr = exNext n1 (M0.drop u)) := a4t
          clear hd ht a1t a2t a3t a4t hlg hpr hfr hof
          go_wp2_with fail
          refine (CF.out _ B1.out).mono ?_
          rintro e w' ⟨rfl, rfl⟩
          have O0 : Hid (OutIs V1.heap.size (V1.alloc (.cells #[] 5)) (.slice (some ⟨V1.heap.size, 0, none⟩) 0 0) []) := OutIs.laid V1 [] V1.heap.size (Nat.le_refl _) (by decide)
          have Q5 : Hid (Below V1.heap.size V1 (V1.alloc (.cells #[] 5))) := (Below.refl _ _).alloc (Nat.le_refl _) _
          have RA := Lib.hid (HRL.out.below Q5.out)
          go_upto_region 15 with fail
          refine wp_region_lit ?_
          go_wp2_with (first
            | (at_builtin; refine wpList_append_row_any (B := V1.heap.size) (W := V1) rfl (.tmp 90) (.tmp 91) rfl rfl rfl rfl O0.out RA.out Q5.out Q5.out.size HQ1.out ?_; intro v6 w6 ho6 hb6; rw [List.nil_append] at ho6; have O6 := Lib.hid ho6; have Q6 := Lib.hid hb6; have RB := Lib.hid ((HR2.out.below (B1.out)).below hb6); have Z6 : Hid (V1.heap.size ≤ w6.heap.size) := hb6.size; clear ho6 hb6)
            | (at_builtin; refine wpList_append_row_any (B := V1.heap.size) (W := V1) rfl (.tmp 92) (.tmp 93) rfl rfl rfl rfl O6.out RB.out Q6.out Z6.out HQ2.out ?_; intro v7 w7 ho7 hb7; obtain ⟨A7, c7, rfl, h1, h2, h3⟩ := ho7.out HBY.out; rw [← HNN.out] at h1 h3 ⊢; have H7 := Lib.hid h1; have R7 := Lib.hid h3; have B7 := Lib.hid hb7; clear ho7 hb7 h1 h2 h3)
            | fail)
          refine (CL.out _ _ _ H7.out R7.out).mono ?_
          rintro e w8 ⟨v8, rfl, e8, b8⟩
          have Q8 := Lib.hid (below_both B7.out b8)
          have E8 := Lib.hid e8
          clear e8 b8 B7 R7 H7 RB Q6 Z6 O6 RA Q5 O0 CF CL
          go_wp2_with fail
          refine (CE.out _ _ Q8.out E8.out).mono ?_
          rintro e w9 ⟨rfl, b9⟩
          have Q9 := Lib.hid (below_both Q8.out b9)
          clear b9 Q8 E8 CE
          have O0 : Hid (OutIs w9.heap.size (w9.alloc (.cells #[] 5)) (.slice (some ⟨w9.heap.size, 0, none⟩) 0 0) []) := OutIs.laid w9 [] w9.heap.size (Nat.le_refl _) (by decide)
          have Q5 : Hid (Below w9.heap.size w9 (w9.alloc (.cells #[] 5))) := (Below.refl _ _).alloc (Nat.le_refl _) _
          have RA := Lib.hid ((HRL.out.below Q9.out).below Q5.out)
          go_upto_region 18 with fail
          refine wp_region_lit ?_
          go_wp2_with (first
            | (at_builtin; refine wpList_append_row_any (B := w9.heap.size) (W := w9) rfl (.tmp 104) (.tmp 105) rfl rfl rfl rfl O0.out RA.out Q5.out Q5.out.size HQ1.out ?_; intro v6 w6 ho6 hb6; rw [List.nil_append] at ho6; have O6 := Lib.hid ho6; have Q6 := Lib.hid hb6; have RB := Lib.hid ((HR2.out.below (below_both B1.out Q9.out)).below hb6); have Z6 : Hid (w9.heap.size ≤ w6.heap.size) := hb6.size; clear ho6 hb6)
            | (at_builtin; refine wpList_append_row_any (B := w9.heap.size) (W := w9) rfl (.tmp 106) (.tmp 107) rfl rfl rfl rfl O6.out RB.out Q6.out Z6.out HQ2.out ?_; intro v7 w7 ho7 hb7; obtain ⟨A7, c7, rfl, h1, h2, h3⟩ := ho7.out HBY.out; rw [← HNN.out] at h1 h3 ⊢; have H7 := Lib.hid h1; have R7 := Lib.hid h3; have B7 := Lib.hid hb7; clear ho7 hb7 h1 h2 h3)
            | fail)
          refine (CG.out _ _ _ H7.out R7.out).mono ?_
          rintro e w10 ⟨v10, rfl, d10, b10⟩
          go_upto_region 19 with fail
          obtain ⟨V2, eV⟩ : ∃ V, V = w10.alloc (.cells #[.int .i64 pr, .int .i64 (z : Nat), .int .i64 (fr : Nat), .int .i64 (of : Nat), .int .i64 (u : Nat)] 24) := ⟨_, rfl⟩
          have hA : ArrV 24 V2 w10.heap.size [.int .i64 pr, .int .i64 (z : Nat), .int .i64 (fr : Nat), .int .i64 (of : Nat), .int .i64 (u : Nat)] := by rw [eV]; exact ArrV.new _ w10 _
          have hb : Below w10.heap.size w10 V2 := by rw [eV]; exact (Below.refl _ _).alloc (Nat.le_refl _) _
          have A2 := Lib.hid hA
          have Q2 := Lib.hid (below_both Q9.out (below_both B7.out (below_both b10 hb)))
          have D2 := Lib.hid (d10.below hb)
          rw [← eV]
          obtain ⟨g2, hg2⟩ : ∃ g, g = w10.heap.size := ⟨_, rfl⟩
          rw [← hg2] at A2 ⊢
          clear eV hA hb d10 b10 hg2 B7 R7 H7 RB Q6 Z6 O6 RA Q5 O0 Q9 CG
          obtain ⟨A14, c14, rfl, _, _⟩ := D2.out
          rw [List.length_nil]
          clear D2
          by_cases hul : u = len0
          · have hp1 : pr = n1 := by rw [HPR.out, List.drop_of_length_le (by rw [HN.out, hul]; exact Nat.le_refl _)]; rfl
            subst hp1
            subst hul
            have zc1 := A2.out.get 1
            have zc4 := A2.out.get 4
            have zc0 := A2.out.get 0
            simp at zc0 zc1 zc4
            go_upto_region 23 with fail
            clear zc0 zc1 zc4
            have B2 := Lib.hid (below_both B1.out Q2.out)
            go_wp2_with fail
            go_loopw [16] (fun i W => ∃ k : Nat, k ≤ z ∧ i = .int .i64 (k : Nat) ∧ Below V2.heap.size V2 W) (fun i _ => z - (intOf i).toNat)
            case atStart => exact ⟨0, Nat.zero_le _, rfl, Below.refl _ _⟩
            case round =>
              obtain ⟨k, hk, rfl, hW⟩ := hrel
              have HWb := Lib.hid hW
              by_cases hlt : k < z
              · have hLk : k ≤ L.length := Nat.le_trans (Nat.le_of_lt hlt) HZ.out.1
                obtain ⟨b4, o4, rfl, _, _⟩ := HRL.out.addr (Nat.lt_of_lt_of_le (Nat.lt_of_le_of_lt (Nat.zero_le k) hlt) HZ.out.1)
                have HP : Hid (Row wr (some ⟨b4, o4, none⟩) k (L.take k)) := by
                  have hp := ((HRL.out.below Q2.out).below hW).part 0 k (by rw [Nat.zero_add]; exact hLk)
                  rw [List.drop_zero, Nat.add_zero] at hp
                  exact hp
                obtain ⟨k1, k2, k3, k4⟩ := back_ints hlt hLk HCL.out HZ.out.2
                have HK := Lib.hid (And.intro hlt (idx_meas2 hlt))
                have HLK := Lib.hid (Nat.le_trans hLk HCL.out)
                clear hlt hLk hk hW
                go_wp2_with fail
                refine (CP.out k HK.out.1 _ _ _ HLK.out HP.out).mono ?_
                rintro e w14 ⟨b5, o5, c5, rfl, ⟨h5, d5⟩, b14⟩
                go_upto_region 29 with fail
                obtain ⟨V3, eV⟩ : ∃ V, V = w14.alloc (.cells #[.int .i64 0, .int .i64 0, .int .i64 0, .int .i64 0, .int .i64 0] 24) := ⟨_, rfl⟩
                have hb : Below w14.heap.size w14 V3 := by rw [eV]; exact (Below.refl _ _).alloc (Nat.le_refl _) _
                have d6 := (hb.cell (p := ⟨b5, o5, none⟩) h5).trans d5
                have B3 := Lib.hid (below_both HWb.out (below_both b14 hb))
                rw [← eV]
                clear eV hb d5 h5 b14 HP
                go_wp2_with fail
                go_roundw
                case rel => exact ⟨k + 1, HK.out.1, by go_num, B3.out⟩
                case measure => have := HK.out.2; simpa [intOf] using this
              · have hkI : ¬ (k : Int) < (z : Int) := fun h => hlt (Int.ofNat_lt.1 h)
                clear hlt hk hW
                go_wp2_with fail
                refine (live11 _).mono ?_
                rintro e w15 ⟨rfl, b15⟩
                have B3 := Lib.hid (below_both B2.out (below_both HWb.out b15))
                go_wp2_with fail
                go_ret
                exact ⟨rfl, B3.out⟩
          · have hun : ((u : Int) == (len0 : Int)) = false := beq_false_of_ne (fun h => hul (Int.ofNat_inj.1 h))
            clear hul
            have zc1 := A2.out.get 1
            have zc4 := A2.out.get 4
            have zc0 := A2.out.get 0
            simp at zc0 zc1 zc4
            go_upto_region 23 with fail
            clear zc0 zc1 zc4
            have B2 := Lib.hid (below_both B1.out Q2.out)
            go_wp2_with fail
            go_loopw [16] (fun i W => ∃ k : Nat, k ≤ z ∧ i = .int .i64 (k : Nat) ∧ Below V2.heap.size V2 W) (fun i _ => z - (intOf i).toNat)
            case atStart => exact ⟨0, Nat.zero_le _, rfl, Below.refl _ _⟩
            case round =>
              obtain ⟨k, hk, rfl, hW⟩ := hrel
              have HWb := Lib.hid hW
              by_cases hlt : k < z
              · have hLk : k ≤ L.length := Nat.le_trans (Nat.le_of_lt hlt) HZ.out.1
                obtain ⟨b4, o4, rfl, _, _⟩ := HRL.out.addr (Nat.lt_of_lt_of_le (Nat.lt_of_le_of_lt (Nat.zero_le k) hlt) HZ.out.1)
                have HP : Hid (Row wr (some ⟨b4, o4, none⟩) k (L.take k)) := by
                  have hp := ((HRL.out.below Q2.out).below hW).part 0 k (by rw [Nat.zero_add]; exact hLk)
                  rw [List.drop_zero, Nat.add_zero] at hp
                  exact hp
                obtain ⟨k1, k2, k3, k4⟩ := back_ints hlt hLk HCL.out HZ.out.2
                have HK := Lib.hid (And.intro hlt (idx_meas2 hlt))
                have HLK := Lib.hid (Nat.le_trans hLk HCL.out)
                clear hlt hLk hk hW
                go_wp2_with fail
                refine (CP.out k HK.out.1 _ _ _ HLK.out HP.out).mono ?_
                rintro e w14 ⟨b5, o5, c5, rfl, ⟨h5, d5⟩, b14⟩
                go_upto_region 29 with fail
                obtain ⟨V3, eV⟩ : ∃ V, V = w14.alloc (.cells #[.int .i64 0, .int .i64 0, .int .i64 0, .int .i64 0, .int .i64 0] 24) := ⟨_, rfl⟩
                have hb : Below w14.heap.size w14 V3 := by rw [eV]; exact (Below.refl _ _).alloc (Nat.le_refl _) _
                have d6 := (hb.cell (p := ⟨b5, o5, none⟩) h5).trans d5
                have B3 := Lib.hid (below_both HWb.out (below_both b14 hb))
                rw [← eV]
                clear eV hb d5 h5 b14 HP
                go_wp2_with fail
                go_roundw
                case rel => exact ⟨k + 1, HK.out.1, by go_num, B3.out⟩
                case measure => have := HK.out.2; simpa [intOf] using this
              · have hkI : ¬ (k : Int) < (z : Int) := fun h => hlt (Int.ofNat_lt.1 h)
                clear hlt hk hW
                go_wp2_with fail
                refine (live11 _).mono ?_
                rintro e w15 ⟨rfl, b15⟩
                have B3 := Lib.hid (below_both B2.out (below_both HWb.out b15))
                go_wp2_with fail
                go_ret
                exact ⟨rfl, B3.out⟩
  · have x0 : ((x : Int) != 0) = true := bne_iff_ne.2 (by omega)
    clear hr hL hM0 HX0 hn0 hB0 lo1 hi1 hl hx R2 hl2 hc2
    go_enter Try.func5, Try.ntmps5
    go_wp2_with fail
    refine (CW.out _ (Below.refl _ _)).mono ?_
    rintro e w1 ⟨v1, rfl, r1, hl1, b1⟩
    go_upto_region 2 with fail
    obtain ⟨V1, e1⟩ : ∃ V, V = w1.alloc (.cells #[.int .i64 (x : Nat), .int .i64 (y : Nat)] 39) := ⟨_, rfl⟩
    have hA1 : ArrV 39 V1 w1.heap.size [.int .i64 (x : Nat), .int .i64 (y : Nat)] := by rw [e1]; exact ArrV.new _ w1 _
    have hb1 : Below w1.heap.size w1 V1 := by rw [e1]; exact (Below.refl _ _).alloc (Nat.le_refl _) _
    have R1 := Lib.hid (r1.below hb1)
    have B1 := Lib.hid (below_both b1 hb1)
    have c0 := hA1.get 0
    simp at c0
    rw [← e1]
    obtain ⟨g1, hg1⟩ : ∃ g, g = w1.heap.size := ⟨_, rfl⟩
    rw [← hg1] at c0 ⊢
    clear e1 hA1 hb1 r1 b1 hl1 hg1
    go_wp2_with fail
    refine (live11 _).mono ?_
    rintro e w3 ⟨rfl, b3⟩
    have B3 := Lib.hid (below_both B1.out b3)
    go_wp2_with fail
    go_ret
    exact ⟨rfl, B3.out⟩
end Go.Proofs.Ytlopmkmcjcijcaa
