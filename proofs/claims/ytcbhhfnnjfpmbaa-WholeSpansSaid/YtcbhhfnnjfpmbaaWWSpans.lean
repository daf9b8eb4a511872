/-
  The walk of the statement WholeSpans.
-/
import Derived.Test.YtcbhhfnnjfpmbaaSpPcH
import Derived.Test.YtcbhhfnnjfpmbaaWhP
import Derived.Test.YtcbhhfnnjfpmbaaPar
namespace Go.Proofs.Ytcbhhfnnjfpmbaa
open Go.RowKit Go.Shelf
set_option linter.unusedVariables false

theorem allocspan (W : World) : (Instr.alloc 27 true (.tuple #[])).run Try.prog W = .ok (.pointer (some ⟨W.heap.size, 0, none⟩)) (W.alloc (.cells [Value.int .i64 0, Value.int .i64 0].toArray 27)) := by
  simp [go_sem]
/-- The end of a piece. -/
theorem piece_two (st : List Int) (j : Nat) : pieceAt st j = (st.getD j 0, if j + 1 < st.length then st.getD (j + 1) 0 - 1 else 65535) := rfl

set_option maxRecDepth 10000 in
set_option maxHeartbeats 6400000 in
theorem wws_walk (A : Option Addr) (m cap : Nat) (P : List Sp) (w : World) (hR : RowP w A m P) (hm : m ≤ 35184372087808) :
    Calls Try.prog 3 #[.slice A m cap] w fun e w' => e = .returned (.bool true) ∧ Below w.heap.size w w' := by
  have R := Lib.hid hR
  have HPL := Lib.hid hR.1
  have HPB := Lib.hid hR.2.1
  have hmi : (m : Int) ≤ 35184372087808 := by omega
  clear hR hm
  go_enter Try.func3, Try.ntmps3
  go_upto_block 0 with fail
  go_cut [3] from 5 to 57 (fun vo wx => ∃ k : Nat, k ≤ m ∧ k ≤ 20 ∧ OutSp w.heap.size wx vo (spsTo P k) ∧ Below w.heap.size w wx)
  case first =>
    go_wp2_with fail
    go_loopw [3, 5] (fun vo i wr => ∃ k : Nat, k ≤ m ∧ k ≤ 20 ∧ i = .int .i64 (k : Int) ∧ OutSp w.heap.size wr vo (spsTo P k) ∧ Below w.heap.size w wr) (fun _ i _ => m - (intOf i).toNat)
    case atStart => exact ⟨0, Nat.zero_le _, Nat.zero_le _, rfl, OutSp.nil _ _, Below.refl _ _⟩
    case round =>
      obtain ⟨k, hk, hk4, rfl, ho, hb⟩ := hrel
      have HO := Lib.hid ho
      have B := Lib.hid hb
      have hk4i : (k : Int) ≤ 20 := by omega
      clear ho hb
      by_cases hlt : k < m ∧ k < 20
      · obtain ⟨hlt, hlt4⟩ := hlt
        obtain ⟨b, o, rfl, hb1, hc⟩ := R.out.addr (by omega)
        have hc0 := (B.out.cell (p := ⟨b, o + k * 2, none⟩) hb1).trans (hc k hlt).1
        have hc1 := (B.out.cell (p := ⟨b, o + k * 2 + 1, none⟩) hb1).trans (hc k hlt).2
        have hst := spsTo_step (P := P) (k := k) (by rw [HPL.out]; exact hlt)
        have hpb := HPB.out _ (sp_getD_mem (L := P) (i := k) (by rw [HPL.out]; exact hlt))
        have hle := spsTo_length (P := P) (k := k) (by rw [HPL.out]; exact hk)
        have HC := Lib.hid (fun (W : World) (h : Below w.heap.size w W) => And.intro ((h.cell (p := ⟨b, o + k * 2, none⟩) hb1).trans (hc k hlt).1) ((h.cell (p := ⟨b, o + k * 2 + 1, none⟩) hb1).trans (hc k hlt).2))
        obtain ⟨p, hp⟩ : ∃ p, p = P.getD k (0, 0) := ⟨_, rfl⟩
        rw [← hp] at hc0 hc1 hst hpb HC
        obtain ⟨p1, p2⟩ := p
        have HC : Hid (∀ W : World, Below w.heap.size w W → W.cell? ⟨b, o + k * 2, none⟩ = some (.int .u16 p1) ∧ W.cell? ⟨b, o + k * 2 + 1, none⟩ = some (.int .u16 p2)) := HC.out
        have hc0 : wr.cell? ⟨b, o + k * 2, none⟩ = some (.int .u16 p1) := hc0
        have hc1 : wr.cell? ⟨b, o + k * 2 + 1, none⟩ = some (.int .u16 p2) := hc1
        obtain ⟨⟨g1, g2⟩, g3, g4⟩ := hpb
        have HST := Lib.hid (show spsTo P (k + 1) = spsTo P k ++ [(min p1 p2, max p1 p2)] from hst)
        have HLE := Lib.hid (show (spsTo P k).length + 1 ≤ 8796093022207 by omega)
        have c1 := u16_conv (a := min p1 p2) (by omega)
        have c2 := u16_conv (a := max p1 p2) (by omega)
        obtain ⟨c1a, c1b⟩ := c1
        obtain ⟨c2a, c2b⟩ := c2
        have hlt4i : (k : Int) < 20 := by omega
        have u := self_wrap (k := k) (by omega)
        have hki : (k : Int) < (m : Int) := by omega
        clear hp hc hb1 hst hle g1 g2 g3 g4
        go_wp2_with fail
        have hc0 : wr.drew.cell? ⟨b, o + k * 2, none⟩ = some (.int .u16 p1) := hc0
        have hc1 : wr.drew.cell? ⟨b, o + k * 2 + 1, none⟩ = some (.int .u16 p2) := hc1
        have hS := And.intro hc0 hc1
        clear hc0 hc1
        go_region_held3 (fun w' => w'.cell? ⟨b, o + k * 2, none⟩ = some (.int .u16 p1) ∧ w'.cell? ⟨b, o + k * 2 + 1, none⟩ = some (.int .u16 p2))
          (first | exact hS | go_keep)
          (first
            | (rw [if_pos (by rfl)]; refine oper_appendSp_drew (.tmp 30) (.tmp 56) (by rfl) (L := spsTo P k) (p := min p1 p2) (q := max p1 p2) (by rfl) (by rfl) HO.out B.out B.out.size HLE.out ?_; intro v' w' ho' hb'; have HO9 := Lib.hid ho'; have HB9 := Lib.hid hb'; have hS := HC.out _ hb'; clear ho' hb')
            | fail)
        all_goals
          go_wp2_with fail
          go_roundw
          case rel => exact ⟨k + 1, hlt, hlt4, by go_num, by rw [HST.out]; exact HO9.out, HB9.out⟩
          case measure => simp [intOf]; omega
      · rcases (by omega : ¬ k < m ∨ (k < m ∧ k = 20)) with hex | ⟨hex, rfl⟩
        · have hex2 : ¬ (k : Int) < (m : Int) := by omega
          clear hlt hex
          go_wp2_with fail
          go_meet
          exact ⟨k, hk, hk4, HO.out, B.out⟩
        · have hex2 : (20 : Int) < (m : Int) := by omega
          clear hlt hex
          go_wp2_with fail
          go_meet
          exact ⟨20, hk, hk4, HO.out, B.out⟩
  case rest =>
    obtain ⟨k, hk, hk4, ho, hb⟩ := hcut
    have hLok := spsTo_ok HPB.out k
    have hLl := spsTo_length (P := P) (k := k) (by rw [HPL.out]; exact hk)
    obtain ⟨L, hL⟩ : ∃ L, L = spsTo P k := ⟨_, rfl⟩
    rw [← hL] at ho hLok hLl
    have HOK := Lib.hid hLok
    obtain ⟨AL, cL, hu, hRL⟩ := ho.row hLok
    rw [hLl] at hu hRL
    have HRL := Lib.hid hRL
    have HLL := Lib.hid hLl
    have HK4 := Lib.hid hk4
    have C6 := Lib.hid (sstarts_ok AL k cL L wc (by omega) hRL hLok)
    have B1 := Lib.hid hb
    subst hu
    clear hLok hLl hL hRL ho hb hk4 hk R HPL HPB
    go_wp2_with fail
    refine C6.out.mono ?_
    rintro e w1 ⟨v7, st, rfl, h7, ho, hb⟩
    have H7 := Lib.hid h7
    have V7 := Lib.hid (ho.val fun z hz => by have := h7.bounds HOK.out z hz; omega)
    have B2 := Lib.hid (below_both B1.out hb)
    have RL := Lib.hid (HRL.out.below hb)
    obtain ⟨A7, c7, hv7, _, hR7⟩ := V7.out
    obtain ⟨q7, hq7⟩ : ∃ q, q = st.length := ⟨_, rfl⟩
    rw [← hq7] at hv7 hR7
    have R7 := Lib.hid hR7
    have HQ7 := Lib.hid hq7
    have HP7 : Hid (0 < q7) := by have := h7.pos; show 0 < q7; omega
    have HQ64 : Hid (q7 ≤ 65536) := by
      have h1 := starts_len H7.out HOK.out
      show q7 ≤ 65536
      omega
    subst hv7
    clear ho hb h7 hq7 hR7 C6 B1 V7 HRL
    go_upto_block 2 with fail
    go_cut [4] from 8 to 117 (fun vp wx => OutSp w1.heap.size wx vp (laidTo st L q7) ∧ Below w1.heap.size w1 wx)
    case first =>
      go_wp2_with fail
      go_loopw [4, 8] (fun vp i wr => ∃ j : Nat, j ≤ q7 ∧ i = .int .i64 (j : Int) ∧ OutSp w1.heap.size wr vp (laidTo st L j) ∧ Below w1.heap.size w1 wr) (fun _ i _ => q7 - (intOf i).toNat)
      case atStart => exact ⟨0, Nat.zero_le _, rfl, OutSp.nil _ _, Below.refl _ _⟩
      case round =>
        obtain ⟨j, hj, rfl, ho, hb⟩ := hrel
        have HO := Lib.hid ho
        have D := Lib.hid hb
        clear ho hb
        by_cases hjl : j < q7
        · have HJL := Lib.hid hjl
          have hjli : (j : Int) < (q7 : Int) := Int.ofNat_lt.2 hjl
          have hq64 : (q7 : Int) ≤ 65536 := by have := HQ64.out; omega
          obtain ⟨b7, o7, rfl, hb7, hc7⟩ := R7.out.addr (by omega)
          have HB7 := Lib.hid hb7
          have HC7 := Lib.hid (hc7 j hjl)
          obtain ⟨p1, hp1⟩ : ∃ p, p = st.getD j 0 := ⟨_, rfl⟩
          rw [← hp1] at HC7
          have HP1 := Lib.hid hp1
          have huj := cnt_wrap9 (c := j) (by omega)
          have u := self_wrap (k := j) (by omega)
          clear hp1 hj
          by_cases hj1 : j + 1 < q7
          · have hj1i : (j : Int) + 1 < (q7 : Int) := by omega
            have HC8 := Lib.hid (hc7 (j + 1) hj1)
            obtain ⟨p3, hp3⟩ : ∃ p, p = st.getD (j + 1) 0 := ⟨_, rfl⟩
            rw [← hp3] at HC8
            obtain ⟨p2, hp2⟩ : ∃ p, p = p3 - 1 := ⟨_, rfl⟩
            have HPT : Hid (pieceAt st j = (p1, p2)) := by
              show _ = _
              rw [piece_two, ← HP1.out, ← hp3, ← HQ7.out, if_pos hj1, hp2]
            have hb3 := H7.out.bounds HOK.out p3 (by rw [hp3]; exact getD_mem (by rw [← HQ7.out]; exact hj1))
            have hw3 : IntKind.i64.wrap (p3 - 1) = p2 := by rw [IntKind.wrap_i64, hp2]; omega
            have hc8 : wr.cell? ⟨b7, o7 + (j + 1), none⟩ = some (.int .i64 p3) := (D.out.cell (p := ⟨b7, o7 + (j + 1), none⟩) HB7.out).trans HC8.out
            clear hp3 hp2 hb3 hj1 hjl hb7 hc7
            go_upto_block 4 with fail
            go_wp2_with fail
            go_loopw [4, 10] (fun vp2 v w3 => ∃ i : Nat, i ≤ k ∧ v = .int .i64 (i : Int) ∧ OutSp w1.heap.size w3 vp2 (laidTo st L j ++ laid1 (p1, p2) L i) ∧ Below w1.heap.size w1 w3) (fun _ v _ => k - (intOf v).toNat)
            case atStart => exact ⟨0, Nat.zero_le _, rfl, by rw [laid1_zero, List.append_nil]; exact HO.out, D.out⟩
            case round =>
              clear HO D
              obtain ⟨i, hi, rfl, ho, hb⟩ := hrel
              have HO := Lib.hid ho
              have D := Lib.hid hb
              clear ho hb
              by_cases hil : i < k
              · have HIL := Lib.hid hil
                have hili : (i : Int) < (k : Int) := Int.ofNat_lt.2 hil
                have hk20 : (k : Int) ≤ 20 := by have := HK4.out; omega
                obtain ⟨bL, oL, rfl, hbL, hcL⟩ := RL.out.addr (by omega)
                have HBL := Lib.hid hbL
                have HC0 := Lib.hid (hcL i hil).1
                have HC1 := Lib.hid (hcL i hil).2
                have hst := laid1_step (p := (p1, p2)) (L := L) (k := i) (by rw [HLL.out]; exact hil)
                have hmt := meet_piece H7.out HOK.out (i := j) (by rw [← HQ7.out]; exact HJL.out) (sp_getD_mem (L := L) (i := i) (by rw [HLL.out]; exact hil))
                rw [HPT.out] at hmt
                obtain ⟨u0, hu⟩ : ∃ u, u = L.getD i (0, 0) := ⟨_, rfl⟩
                rw [← hu] at hst hmt HC0 HC1
                obtain ⟨u1, u2⟩ := u0
                have CM := Lib.hid (fun w => smeet_any u1 u2 p1 p2 w)
                rw [hmt] at CM
                have HC0 : Hid (w1.cell? ⟨bL, oL + i * 2, none⟩ = some (.int .i64 u1)) := HC0
                have HC1 : Hid (w1.cell? ⟨bL, oL + i * 2 + 1, none⟩ = some (.int .i64 u2)) := HC1
                have HUI := Lib.hid (self_wrap (k := i) (by omega))
                have HLN : Hid ((laidTo st L j ++ laid1 (p1, p2) L i).length + 1 ≤ 8796093022207) := by
                  show _ ≤ _
                  have h1 := laidTo_len st L j
                  have h2 := laid1_len (p1, p2) L i
                  have h3 := HLL.out
                  have h4 := HK4.out
                  have h5 := HQ64.out
                  have h6 := HJL.out
                  have h7 : j * L.length ≤ 65536 * 20 := Nat.mul_le_mul (by omega) (by omega)
                  rw [List.length_append]
                  omega
                cases hh : hasS (u1, u2) p1
                · rw [hh, if_neg (by simp)] at hst
                  rw [hh, if_neg (by simp)] at CM
                  have CM : Hid (∀ w, Calls Try.prog 5 #[.agg #[.int .i64 u1, .int .i64 u2], .agg #[.int .i64 p1, .int .i64 p2]] w fun e w' => e = .returned (.tuple #[.agg #[.int .i64 0, .int .i64 0], .bool false]) ∧ Below w.heap.size w w') := CM.out
                  have HST := Lib.hid hst
                  clear hst hmt hh hu hbL hcL hil hi
                  go_upto_region 16 with fail
                  obtain ⟨wr2, rfl⟩ : ∃ W, W = wr := ⟨_, rfl⟩
                  refine wp_region_par (w := wr2) [.quiet (.slice (some ⟨bL, oL, none⟩) k cL), .quiet (.int .i64 (i : Int)), .quiet (.pointer (some ⟨bL, oL + i * 2, none⟩)), .quiet (.agg #[.int .i64 u1, .int .i64 u2]), .quiet (.slice (some ⟨b7, o7, none⟩) q7 c7), .quiet (.int .i64 (j : Int)), .quiet (.pointer (some ⟨b7, o7 + j, none⟩)), .quiet (.int .i64 p1), .quiet (.int .i64 p2), .quiet (.agg #[.int .i64 p1, .int .i64 p2]), .quiet (.tuple #[.agg #[.int .i64 0, .int .i64 0], .bool false]), .quiet (.tuple #[.agg #[.int .i64 0, .int .i64 0], .bool false]), .quiet (.agg #[.int .i64 0, .int .i64 0]), .quiet (.bool false), .alloc 27 [.int .i64 0, .int .i64 0] (some (15, [.int .i64 0, .int .i64 0])), .store 14, .quiet (.bool false)] [] (by kernel_rfl) (by kernel_rfl) (KV.nil wr2).drew (fun b => ?_) ?_
                  · refine pWalk_quiet rfl (fun E W hw' => quietAt_run rfl) ?_
                    simp only [Act.put, List.setIfInBounds_toArray, List.set_cons_zero, List.set_cons_succ]
                    refine pWalk_quiet rfl (fun E W hw' => quietAt_run rfl) ?_
                    simp only [Act.put, List.setIfInBounds_toArray, List.set_cons_zero, List.set_cons_succ]
                    refine pWalk_quiet rfl (fun E W hw' => quietAt_run (by simp [go_sem, hili])) ?_
                    simp only [Act.put, List.setIfInBounds_toArray, List.set_cons_zero, List.set_cons_succ]
                    refine pWalk_quiet rfl (fun E W hw' => quietAt_pair rfl rfl tyspan ((hw'.bel.cell (p := ⟨bL, oL + i * 2, none⟩) (Nat.lt_of_lt_of_le HBL.out D.out.size)).trans ((D.out.cell (p := ⟨bL, oL + i * 2, none⟩) HBL.out).trans HC0.out)) ((hw'.bel.cell (p := ⟨bL, oL + i * 2 + 1, none⟩) (Nat.lt_of_lt_of_le HBL.out D.out.size)).trans ((D.out.cell (p := ⟨bL, oL + i * 2 + 1, none⟩) HBL.out).trans HC1.out))) ?_
                    simp only [Act.put, List.setIfInBounds_toArray, List.set_cons_zero, List.set_cons_succ]
                    refine pWalk_quiet rfl (fun E W hw' => quietAt_run rfl) ?_
                    simp only [Act.put, List.setIfInBounds_toArray, List.set_cons_zero, List.set_cons_succ]
                    refine pWalk_quiet rfl (fun E W hw' => quietAt_run rfl) ?_
                    simp only [Act.put, List.setIfInBounds_toArray, List.set_cons_zero, List.set_cons_succ]
                    refine pWalk_quiet rfl (fun E W hw' => quietAt_run (by simp [go_sem, hjli])) ?_
                    simp only [Act.put, List.setIfInBounds_toArray, List.set_cons_zero, List.set_cons_succ]
                    refine pWalk_quiet rfl (fun E W hw' => quietAt_at rfl rfl one_int ((hw'.bel.cell (p := ⟨b7, o7 + j, none⟩) (Nat.lt_of_lt_of_le HB7.out D.out.size)).trans ((D.out.cell (p := ⟨b7, o7 + j, none⟩) HB7.out).trans HC7.out))) ?_
                    simp only [Act.put, List.setIfInBounds_toArray, List.set_cons_zero, List.set_cons_succ]
                    refine pWalk_quiet rfl (fun E W hw' => quietAt_run rfl) ?_
                    simp only [Act.put, List.setIfInBounds_toArray, List.set_cons_zero, List.set_cons_succ]
                    refine pWalk_quiet rfl (fun E W hw' => quietAt_run (by simp [go_sem])) ?_
                    simp only [Act.put, List.setIfInBounds_toArray, List.set_cons_zero, List.set_cons_succ]
                    refine pWalk_quiet rfl (fun E W hw' => quietAt_call (f := 5) (args := #[.agg #[.int .i64 u1, .int .i64 u2], .agg #[.int .i64 p1, .int .i64 p2]]) (by simp [go_sem]) ((CM.out W).mono fun e w'' h => ⟨h.1, hw'.below h.2⟩)) ?_
                    simp only [Act.put, List.setIfInBounds_toArray, List.set_cons_zero, List.set_cons_succ]
                    refine pWalk_quiet rfl (fun E W hw' => quietAt_run rfl) ?_
                    simp only [Act.put, List.setIfInBounds_toArray, List.set_cons_zero, List.set_cons_succ]
                    refine pWalk_quiet rfl (fun E W hw' => quietAt_run (by simp [go_sem])) ?_
                    simp only [Act.put, List.setIfInBounds_toArray, List.set_cons_zero, List.set_cons_succ]
                    refine pWalk_quiet rfl (fun E W hw' => quietAt_run (by simp [go_sem])) ?_
                    simp only [Act.put, List.setIfInBounds_toArray, List.set_cons_zero, List.set_cons_succ]
                    refine pWalk_var rfl rfl allocspan ?_
                    simp only [Act.put, List.setIfInBounds_toArray, List.set_cons_zero, List.set_cons_succ]
                    refine pWalk_put rfl rfl rfl rfl rfl tyspan rfl rfl (by simp [Value.oneCell']) ?_
                    simp only [Act.put]
                    refine pWalk_quiet rfl (fun E W hw' => quietAt_run rfl) ?_
                    trivial
                  intro b κ E w4 hK hB
                  obtain ⟨l2, g2⟩ := hB.at_ 14 _ _ _ rfl rfl
                  obtain ⟨g9, e9⟩ : ∃ x, x = b 14 := ⟨_, rfl⟩
                  have K4 : Hid (KV wr2 [(27, g9, [.int .i64 0, .int .i64 0])] w4) := by
                    rw [e9]
                    refine hK.pick [κ 14] (by simp) rfl ?_
                    intro q hq
                    simp at hq
                    rcases hq with rfl
                    exact g2
                  clear l2 g2 hK hB
                  simp only [List.length_cons, List.length_nil, lexAct, pval, List.getElem?_cons_zero, List.getElem?_cons_succ, Option.bind_some, Act.put, List.setIfInBounds_toArray, List.set_cons_zero, List.set_cons_succ]
                  rw [← e9]
                  clear e9
                  have u8 := HUI.out
                  go_wp2_with fail
                  go_roundw
                  case rel => exact ⟨i + 1, HIL.out, by go_num, by rw [HST.out, List.append_nil]; exact HO.out.below K4.out.bel, below_both D.out K4.out.bel⟩
                  case measure => have := HIL.out; simp [intOf]; omega
                · rw [hh, if_pos rfl] at hst
                  rw [hh, if_pos rfl] at CM
                  have CM : Hid (∀ w, Calls Try.prog 5 #[.agg #[.int .i64 u1, .int .i64 u2], .agg #[.int .i64 p1, .int .i64 p2]] w fun e w' => e = .returned (.tuple #[.agg #[.int .i64 p1, .int .i64 p2], .bool true]) ∧ Below w.heap.size w w') := CM.out
                  have HST := Lib.hid hst
                  clear hst hmt hh hu hbL hcL hil hi
                  go_upto_region 16 with fail
                  obtain ⟨wr2, rfl⟩ : ∃ W, W = wr := ⟨_, rfl⟩
                  refine wp_region_par (w := wr2) [.quiet (.slice (some ⟨bL, oL, none⟩) k cL), .quiet (.int .i64 (i : Int)), .quiet (.pointer (some ⟨bL, oL + i * 2, none⟩)), .quiet (.agg #[.int .i64 u1, .int .i64 u2]), .quiet (.slice (some ⟨b7, o7, none⟩) q7 c7), .quiet (.int .i64 (j : Int)), .quiet (.pointer (some ⟨b7, o7 + j, none⟩)), .quiet (.int .i64 p1), .quiet (.int .i64 p2), .quiet (.agg #[.int .i64 p1, .int .i64 p2]), .quiet (.tuple #[.agg #[.int .i64 p1, .int .i64 p2], .bool true]), .quiet (.tuple #[.agg #[.int .i64 p1, .int .i64 p2], .bool true]), .quiet (.agg #[.int .i64 p1, .int .i64 p2]), .quiet (.bool true), .alloc 27 [.int .i64 0, .int .i64 0] (some (15, [.int .i64 p1, .int .i64 p2])), .store 14, .quiet (.bool true)] [] (by kernel_rfl) (by kernel_rfl) (KV.nil wr2).drew (fun b => ?_) ?_
                  · refine pWalk_quiet rfl (fun E W hw' => quietAt_run rfl) ?_
                    simp only [Act.put, List.setIfInBounds_toArray, List.set_cons_zero, List.set_cons_succ]
                    refine pWalk_quiet rfl (fun E W hw' => quietAt_run rfl) ?_
                    simp only [Act.put, List.setIfInBounds_toArray, List.set_cons_zero, List.set_cons_succ]
                    refine pWalk_quiet rfl (fun E W hw' => quietAt_run (by simp [go_sem, hili])) ?_
                    simp only [Act.put, List.setIfInBounds_toArray, List.set_cons_zero, List.set_cons_succ]
                    refine pWalk_quiet rfl (fun E W hw' => quietAt_pair rfl rfl tyspan ((hw'.bel.cell (p := ⟨bL, oL + i * 2, none⟩) (Nat.lt_of_lt_of_le HBL.out D.out.size)).trans ((D.out.cell (p := ⟨bL, oL + i * 2, none⟩) HBL.out).trans HC0.out)) ((hw'.bel.cell (p := ⟨bL, oL + i * 2 + 1, none⟩) (Nat.lt_of_lt_of_le HBL.out D.out.size)).trans ((D.out.cell (p := ⟨bL, oL + i * 2 + 1, none⟩) HBL.out).trans HC1.out))) ?_
                    simp only [Act.put, List.setIfInBounds_toArray, List.set_cons_zero, List.set_cons_succ]
                    refine pWalk_quiet rfl (fun E W hw' => quietAt_run rfl) ?_
                    simp only [Act.put, List.setIfInBounds_toArray, List.set_cons_zero, List.set_cons_succ]
                    refine pWalk_quiet rfl (fun E W hw' => quietAt_run rfl) ?_
                    simp only [Act.put, List.setIfInBounds_toArray, List.set_cons_zero, List.set_cons_succ]
                    refine pWalk_quiet rfl (fun E W hw' => quietAt_run (by simp [go_sem, hjli])) ?_
                    simp only [Act.put, List.setIfInBounds_toArray, List.set_cons_zero, List.set_cons_succ]
                    refine pWalk_quiet rfl (fun E W hw' => quietAt_at rfl rfl one_int ((hw'.bel.cell (p := ⟨b7, o7 + j, none⟩) (Nat.lt_of_lt_of_le HB7.out D.out.size)).trans ((D.out.cell (p := ⟨b7, o7 + j, none⟩) HB7.out).trans HC7.out))) ?_
                    simp only [Act.put, List.setIfInBounds_toArray, List.set_cons_zero, List.set_cons_succ]
                    refine pWalk_quiet rfl (fun E W hw' => quietAt_run rfl) ?_
                    simp only [Act.put, List.setIfInBounds_toArray, List.set_cons_zero, List.set_cons_succ]
                    refine pWalk_quiet rfl (fun E W hw' => quietAt_run (by simp [go_sem])) ?_
                    simp only [Act.put, List.setIfInBounds_toArray, List.set_cons_zero, List.set_cons_succ]
                    refine pWalk_quiet rfl (fun E W hw' => quietAt_call (f := 5) (args := #[.agg #[.int .i64 u1, .int .i64 u2], .agg #[.int .i64 p1, .int .i64 p2]]) (by simp [go_sem]) ((CM.out W).mono fun e w'' h => ⟨h.1, hw'.below h.2⟩)) ?_
                    simp only [Act.put, List.setIfInBounds_toArray, List.set_cons_zero, List.set_cons_succ]
                    refine pWalk_quiet rfl (fun E W hw' => quietAt_run rfl) ?_
                    simp only [Act.put, List.setIfInBounds_toArray, List.set_cons_zero, List.set_cons_succ]
                    refine pWalk_quiet rfl (fun E W hw' => quietAt_run (by simp [go_sem])) ?_
                    simp only [Act.put, List.setIfInBounds_toArray, List.set_cons_zero, List.set_cons_succ]
                    refine pWalk_quiet rfl (fun E W hw' => quietAt_run (by simp [go_sem])) ?_
                    simp only [Act.put, List.setIfInBounds_toArray, List.set_cons_zero, List.set_cons_succ]
                    refine pWalk_var rfl rfl allocspan ?_
                    simp only [Act.put, List.setIfInBounds_toArray, List.set_cons_zero, List.set_cons_succ]
                    refine pWalk_put rfl rfl rfl rfl rfl tyspan rfl rfl (by simp [Value.oneCell']) ?_
                    simp only [Act.put]
                    refine pWalk_quiet rfl (fun E W hw' => quietAt_run rfl) ?_
                    trivial
                  intro b κ E w4 hK hB
                  obtain ⟨l2, g2⟩ := hB.at_ 14 _ _ _ rfl rfl
                  obtain ⟨g9, e9⟩ : ∃ x, x = b 14 := ⟨_, rfl⟩
                  have K4 : Hid (KV wr2 [(27, g9, [.int .i64 p1, .int .i64 p2])] w4) := by
                    rw [e9]
                    refine hK.pick [κ 14] (by simp) rfl ?_
                    intro q hq
                    simp at hq
                    rcases hq with rfl
                    exact g2
                  clear l2 g2 hK hB
                  simp only [List.length_cons, List.length_nil, lexAct, pval, List.getElem?_cons_zero, List.getElem?_cons_succ, Option.bind_some, Act.put, List.setIfInBounds_toArray, List.set_cons_zero, List.set_cons_succ]
                  rw [← e9]
                  clear e9
                  have u8 := HUI.out
                  go_upto_region 18 with fail
                  refine wp_quiet_kv (C := KV wr2 [(27, g9, [.int .i64 p1, .int .i64 p2])]) (by kernel_rfl) (by kernel_rfl) K4.out.drew ?_
                  repeat (first
                    | go_big_quiet_skip
                    | (go_big_quiet_want; apply Exists.intro; refine ⟨fun w' hw' => (by first | exact quietAt_cell (j := 0) rfl rfl one_int (hw'.at 0 rfl) rfl | exact quietAt_cell (j := 1) rfl rfl one_int (hw'.at 0 rfl) rfl | exact quietAt_at rfl rfl one_int ((hw'.bel.cell (p := ⟨b7, o7 + j, none⟩) (Nat.lt_of_lt_of_le HB7.out D.out.size)).trans ((D.out.cell (p := ⟨b7, o7 + j, none⟩) HB7.out).trans HC7.out)) | fail), ?_⟩; simp only [Act.put, List.setIfInBounds_toArray, List.set_cons_zero, List.set_cons_succ]; go_big_quiet_on)
                    | (go_big_quiet_want; go_big_quiet_op; go_big_quiet_on)
                    | (go_big_quiet_want; go_big_quiet_op; apply Exists.intro; refine ⟨fun w' hw' => rfl, ?_⟩; go_big_quiet_on))
                  refine wpQuiet_nil ?_
                  intro w5 hw5
                  have K5 := Lib.hid hw5
                  have s0 := (K5.out.at 0 rfl).get 0
                  have s1 := (K5.out.at 0 rfl).get 1
                  simp at s0 s1
                  have HO5 := Lib.hid (HO.out.below K5.out.bel)
                  have D5 := Lib.hid (below_both D.out K5.out.bel)
                  have u9 := HUI.out
                  clear hw5 K4 HO D
                  go_wp2_with (at_builtin; refine wpList_appendSp (by rfl) (.tmp 114) (.tmp 116) (by rfl) (L := laidTo st L j ++ laid1 (p1, p2) L i) (p := p1) (q := p2) (by rfl) (by rfl) (by exact HO5.out) (by exact D5.out) (by exact D5.out.size) (by exact HLN.out) ?_; intro v6 w6 ho6 hb6)
                  have HO6 := Lib.hid ho6
                  have D6 := Lib.hid hb6
                  clear ho6 hb6
                  go_roundw
                  case rel => exact ⟨i + 1, HIL.out, by go_num, by rw [HST.out, ← List.append_assoc]; exact HO6.out, D6.out⟩
                  case measure => have := HIL.out; simp [intOf]; omega
              · obtain rfl : i = k := by omega
                have hilx : ¬ (i : Int) < (i : Int) := Int.lt_irrefl _
                have ho2 := HO.out
                rw [show laidTo st L j ++ laid1 (p1, p2) L i = laidTo st L (j + 1) from by
                  show _ = laidTo st L j ++ laid1 (pieceAt st j) L L.length
                  rw [HPT.out, HLL.out]] at ho2
                have HO2 := Lib.hid ho2
                clear ho2
                clear hil
                go_wp2_with fail
                go_roundw
                case rel => exact ⟨j + 1, HJL.out, by go_num, HO2.out, D.out⟩
                case measure => have := HJL.out; simp [intOf]; omega
          · have hj1i : ¬ (j : Int) + 1 < (q7 : Int) := by omega
            obtain ⟨p2, hp2⟩ : ∃ p : Int, p = 65535 := ⟨_, rfl⟩
            have HPT : Hid (pieceAt st j = (p1, p2)) := by
              show _ = _
              rw [piece_two, ← HP1.out, ← HQ7.out, if_neg hj1, hp2]
            clear hj1 hjl hb7 hc7
            go_upto_block 4 with fail
            rw [← hp2]
            clear hp2
            go_wp2_with fail
            go_loopw [4, 10] (fun vp2 v w3 => ∃ i : Nat, i ≤ k ∧ v = .int .i64 (i : Int) ∧ OutSp w1.heap.size w3 vp2 (laidTo st L j ++ laid1 (p1, p2) L i) ∧ Below w1.heap.size w1 w3) (fun _ v _ => k - (intOf v).toNat)
            case atStart => exact ⟨0, Nat.zero_le _, rfl, by rw [laid1_zero, List.append_nil]; exact HO.out, D.out⟩
            case round =>
              clear HO D
              obtain ⟨i, hi, rfl, ho, hb⟩ := hrel
              have HO := Lib.hid ho
              have D := Lib.hid hb
              clear ho hb
              by_cases hil : i < k
              · have HIL := Lib.hid hil
                have hili : (i : Int) < (k : Int) := Int.ofNat_lt.2 hil
                have hk20 : (k : Int) ≤ 20 := by have := HK4.out; omega
                obtain ⟨bL, oL, rfl, hbL, hcL⟩ := RL.out.addr (by omega)
                have HBL := Lib.hid hbL
                have HC0 := Lib.hid (hcL i hil).1
                have HC1 := Lib.hid (hcL i hil).2
                have hst := laid1_step (p := (p1, p2)) (L := L) (k := i) (by rw [HLL.out]; exact hil)
                have hmt := meet_piece H7.out HOK.out (i := j) (by rw [← HQ7.out]; exact HJL.out) (sp_getD_mem (L := L) (i := i) (by rw [HLL.out]; exact hil))
                rw [HPT.out] at hmt
                obtain ⟨u0, hu⟩ : ∃ u, u = L.getD i (0, 0) := ⟨_, rfl⟩
                rw [← hu] at hst hmt HC0 HC1
                obtain ⟨u1, u2⟩ := u0
                have CM := Lib.hid (fun w => smeet_any u1 u2 p1 p2 w)
                rw [hmt] at CM
                have HC0 : Hid (w1.cell? ⟨bL, oL + i * 2, none⟩ = some (.int .i64 u1)) := HC0
                have HC1 : Hid (w1.cell? ⟨bL, oL + i * 2 + 1, none⟩ = some (.int .i64 u2)) := HC1
                have HUI := Lib.hid (self_wrap (k := i) (by omega))
                have HLN : Hid ((laidTo st L j ++ laid1 (p1, p2) L i).length + 1 ≤ 8796093022207) := by
                  show _ ≤ _
                  have h1 := laidTo_len st L j
                  have h2 := laid1_len (p1, p2) L i
                  have h3 := HLL.out
                  have h4 := HK4.out
                  have h5 := HQ64.out
                  have h6 := HJL.out
                  have h7 : j * L.length ≤ 65536 * 20 := Nat.mul_le_mul (by omega) (by omega)
                  rw [List.length_append]
                  omega
                cases hh : hasS (u1, u2) p1
                · rw [hh, if_neg (by simp)] at hst
                  rw [hh, if_neg (by simp)] at CM
                  have CM : Hid (∀ w, Calls Try.prog 5 #[.agg #[.int .i64 u1, .int .i64 u2], .agg #[.int .i64 p1, .int .i64 p2]] w fun e w' => e = .returned (.tuple #[.agg #[.int .i64 0, .int .i64 0], .bool false]) ∧ Below w.heap.size w w') := CM.out
                  have HST := Lib.hid hst
                  clear hst hmt hh hu hbL hcL hil hi
                  go_upto_region 16 with fail
                  obtain ⟨wr2, rfl⟩ : ∃ W, W = wr := ⟨_, rfl⟩
                  refine wp_region_par (w := wr2) [.quiet (.slice (some ⟨bL, oL, none⟩) k cL), .quiet (.int .i64 (i : Int)), .quiet (.pointer (some ⟨bL, oL + i * 2, none⟩)), .quiet (.agg #[.int .i64 u1, .int .i64 u2]), .quiet (.slice (some ⟨b7, o7, none⟩) q7 c7), .quiet (.int .i64 (j : Int)), .quiet (.pointer (some ⟨b7, o7 + j, none⟩)), .quiet (.int .i64 p1), .quiet (.int .i64 p2), .quiet (.agg #[.int .i64 p1, .int .i64 p2]), .quiet (.tuple #[.agg #[.int .i64 0, .int .i64 0], .bool false]), .quiet (.tuple #[.agg #[.int .i64 0, .int .i64 0], .bool false]), .quiet (.agg #[.int .i64 0, .int .i64 0]), .quiet (.bool false), .alloc 27 [.int .i64 0, .int .i64 0] (some (15, [.int .i64 0, .int .i64 0])), .store 14, .quiet (.bool false)] [] (by kernel_rfl) (by kernel_rfl) (KV.nil wr2).drew (fun b => ?_) ?_
                  · refine pWalk_quiet rfl (fun E W hw' => quietAt_run rfl) ?_
                    simp only [Act.put, List.setIfInBounds_toArray, List.set_cons_zero, List.set_cons_succ]
                    refine pWalk_quiet rfl (fun E W hw' => quietAt_run rfl) ?_
                    simp only [Act.put, List.setIfInBounds_toArray, List.set_cons_zero, List.set_cons_succ]
                    refine pWalk_quiet rfl (fun E W hw' => quietAt_run (by simp [go_sem, hili])) ?_
                    simp only [Act.put, List.setIfInBounds_toArray, List.set_cons_zero, List.set_cons_succ]
                    refine pWalk_quiet rfl (fun E W hw' => quietAt_pair rfl rfl tyspan ((hw'.bel.cell (p := ⟨bL, oL + i * 2, none⟩) (Nat.lt_of_lt_of_le HBL.out D.out.size)).trans ((D.out.cell (p := ⟨bL, oL + i * 2, none⟩) HBL.out).trans HC0.out)) ((hw'.bel.cell (p := ⟨bL, oL + i * 2 + 1, none⟩) (Nat.lt_of_lt_of_le HBL.out D.out.size)).trans ((D.out.cell (p := ⟨bL, oL + i * 2 + 1, none⟩) HBL.out).trans HC1.out))) ?_
                    simp only [Act.put, List.setIfInBounds_toArray, List.set_cons_zero, List.set_cons_succ]
                    refine pWalk_quiet rfl (fun E W hw' => quietAt_run rfl) ?_
                    simp only [Act.put, List.setIfInBounds_toArray, List.set_cons_zero, List.set_cons_succ]
                    refine pWalk_quiet rfl (fun E W hw' => quietAt_run rfl) ?_
                    simp only [Act.put, List.setIfInBounds_toArray, List.set_cons_zero, List.set_cons_succ]
                    refine pWalk_quiet rfl (fun E W hw' => quietAt_run (by simp [go_sem, hjli])) ?_
                    simp only [Act.put, List.setIfInBounds_toArray, List.set_cons_zero, List.set_cons_succ]
                    refine pWalk_quiet rfl (fun E W hw' => quietAt_at rfl rfl one_int ((hw'.bel.cell (p := ⟨b7, o7 + j, none⟩) (Nat.lt_of_lt_of_le HB7.out D.out.size)).trans ((D.out.cell (p := ⟨b7, o7 + j, none⟩) HB7.out).trans HC7.out))) ?_
                    simp only [Act.put, List.setIfInBounds_toArray, List.set_cons_zero, List.set_cons_succ]
                    refine pWalk_quiet rfl (fun E W hw' => quietAt_run rfl) ?_
                    simp only [Act.put, List.setIfInBounds_toArray, List.set_cons_zero, List.set_cons_succ]
                    refine pWalk_quiet rfl (fun E W hw' => quietAt_run (by simp [go_sem])) ?_
                    simp only [Act.put, List.setIfInBounds_toArray, List.set_cons_zero, List.set_cons_succ]
                    refine pWalk_quiet rfl (fun E W hw' => quietAt_call (f := 5) (args := #[.agg #[.int .i64 u1, .int .i64 u2], .agg #[.int .i64 p1, .int .i64 p2]]) (by simp [go_sem]) ((CM.out W).mono fun e w'' h => ⟨h.1, hw'.below h.2⟩)) ?_
                    simp only [Act.put, List.setIfInBounds_toArray, List.set_cons_zero, List.set_cons_succ]
                    refine pWalk_quiet rfl (fun E W hw' => quietAt_run rfl) ?_
                    simp only [Act.put, List.setIfInBounds_toArray, List.set_cons_zero, List.set_cons_succ]
                    refine pWalk_quiet rfl (fun E W hw' => quietAt_run (by simp [go_sem])) ?_
                    simp only [Act.put, List.setIfInBounds_toArray, List.set_cons_zero, List.set_cons_succ]
                    refine pWalk_quiet rfl (fun E W hw' => quietAt_run (by simp [go_sem])) ?_
                    simp only [Act.put, List.setIfInBounds_toArray, List.set_cons_zero, List.set_cons_succ]
                    refine pWalk_var rfl rfl allocspan ?_
                    simp only [Act.put, List.setIfInBounds_toArray, List.set_cons_zero, List.set_cons_succ]
                    refine pWalk_put rfl rfl rfl rfl rfl tyspan rfl rfl (by simp [Value.oneCell']) ?_
                    simp only [Act.put]
                    refine pWalk_quiet rfl (fun E W hw' => quietAt_run rfl) ?_
                    trivial
                  intro b κ E w4 hK hB
                  obtain ⟨l2, g2⟩ := hB.at_ 14 _ _ _ rfl rfl
                  obtain ⟨g9, e9⟩ : ∃ x, x = b 14 := ⟨_, rfl⟩
                  have K4 : Hid (KV wr2 [(27, g9, [.int .i64 0, .int .i64 0])] w4) := by
                    rw [e9]
                    refine hK.pick [κ 14] (by simp) rfl ?_
                    intro q hq
                    simp at hq
                    rcases hq with rfl
                    exact g2
                  clear l2 g2 hK hB
                  simp only [List.length_cons, List.length_nil, lexAct, pval, List.getElem?_cons_zero, List.getElem?_cons_succ, Option.bind_some, Act.put, List.setIfInBounds_toArray, List.set_cons_zero, List.set_cons_succ]
                  rw [← e9]
                  clear e9
                  have u8 := HUI.out
                  go_wp2_with fail
                  go_roundw
                  case rel => exact ⟨i + 1, HIL.out, by go_num, by rw [HST.out, List.append_nil]; exact HO.out.below K4.out.bel, below_both D.out K4.out.bel⟩
                  case measure => have := HIL.out; simp [intOf]; omega
                · rw [hh, if_pos rfl] at hst
                  rw [hh, if_pos rfl] at CM
                  have CM : Hid (∀ w, Calls Try.prog 5 #[.agg #[.int .i64 u1, .int .i64 u2], .agg #[.int .i64 p1, .int .i64 p2]] w fun e w' => e = .returned (.tuple #[.agg #[.int .i64 p1, .int .i64 p2], .bool true]) ∧ Below w.heap.size w w') := CM.out
                  have HST := Lib.hid hst
                  clear hst hmt hh hu hbL hcL hil hi
                  go_upto_region 16 with fail
                  obtain ⟨wr2, rfl⟩ : ∃ W, W = wr := ⟨_, rfl⟩
                  refine wp_region_par (w := wr2) [.quiet (.slice (some ⟨bL, oL, none⟩) k cL), .quiet (.int .i64 (i : Int)), .quiet (.pointer (some ⟨bL, oL + i * 2, none⟩)), .quiet (.agg #[.int .i64 u1, .int .i64 u2]), .quiet (.slice (some ⟨b7, o7, none⟩) q7 c7), .quiet (.int .i64 (j : Int)), .quiet (.pointer (some ⟨b7, o7 + j, none⟩)), .quiet (.int .i64 p1), .quiet (.int .i64 p2), .quiet (.agg #[.int .i64 p1, .int .i64 p2]), .quiet (.tuple #[.agg #[.int .i64 p1, .int .i64 p2], .bool true]), .quiet (.tuple #[.agg #[.int .i64 p1, .int .i64 p2], .bool true]), .quiet (.agg #[.int .i64 p1, .int .i64 p2]), .quiet (.bool true), .alloc 27 [.int .i64 0, .int .i64 0] (some (15, [.int .i64 p1, .int .i64 p2])), .store 14, .quiet (.bool true)] [] (by kernel_rfl) (by kernel_rfl) (KV.nil wr2).drew (fun b => ?_) ?_
                  · refine pWalk_quiet rfl (fun E W hw' => quietAt_run rfl) ?_
                    simp only [Act.put, List.setIfInBounds_toArray, List.set_cons_zero, List.set_cons_succ]
                    refine pWalk_quiet rfl (fun E W hw' => quietAt_run rfl) ?_
                    simp only [Act.put, List.setIfInBounds_toArray, List.set_cons_zero, List.set_cons_succ]
                    refine pWalk_quiet rfl (fun E W hw' => quietAt_run (by simp [go_sem, hili])) ?_
                    simp only [Act.put, List.setIfInBounds_toArray, List.set_cons_zero, List.set_cons_succ]
                    refine pWalk_quiet rfl (fun E W hw' => quietAt_pair rfl rfl tyspan ((hw'.bel.cell (p := ⟨bL, oL + i * 2, none⟩) (Nat.lt_of_lt_of_le HBL.out D.out.size)).trans ((D.out.cell (p := ⟨bL, oL + i * 2, none⟩) HBL.out).trans HC0.out)) ((hw'.bel.cell (p := ⟨bL, oL + i * 2 + 1, none⟩) (Nat.lt_of_lt_of_le HBL.out D.out.size)).trans ((D.out.cell (p := ⟨bL, oL + i * 2 + 1, none⟩) HBL.out).trans HC1.out))) ?_
                    simp only [Act.put, List.setIfInBounds_toArray, List.set_cons_zero, List.set_cons_succ]
                    refine pWalk_quiet rfl (fun E W hw' => quietAt_run rfl) ?_
                    simp only [Act.put, List.setIfInBounds_toArray, List.set_cons_zero, List.set_cons_succ]
                    refine pWalk_quiet rfl (fun E W hw' => quietAt_run rfl) ?_
                    simp only [Act.put, List.setIfInBounds_toArray, List.set_cons_zero, List.set_cons_succ]
                    refine pWalk_quiet rfl (fun E W hw' => quietAt_run (by simp [go_sem, hjli])) ?_
                    simp only [Act.put, List.setIfInBounds_toArray, List.set_cons_zero, List.set_cons_succ]
                    refine pWalk_quiet rfl (fun E W hw' => quietAt_at rfl rfl one_int ((hw'.bel.cell (p := ⟨b7, o7 + j, none⟩) (Nat.lt_of_lt_of_le HB7.out D.out.size)).trans ((D.out.cell (p := ⟨b7, o7 + j, none⟩) HB7.out).trans HC7.out))) ?_
                    simp only [Act.put, List.setIfInBounds_toArray, List.set_cons_zero, List.set_cons_succ]
                    refine pWalk_quiet rfl (fun E W hw' => quietAt_run rfl) ?_
                    simp only [Act.put, List.setIfInBounds_toArray, List.set_cons_zero, List.set_cons_succ]
                    refine pWalk_quiet rfl (fun E W hw' => quietAt_run (by simp [go_sem])) ?_
                    simp only [Act.put, List.setIfInBounds_toArray, List.set_cons_zero, List.set_cons_succ]
                    refine pWalk_quiet rfl (fun E W hw' => quietAt_call (f := 5) (args := #[.agg #[.int .i64 u1, .int .i64 u2], .agg #[.int .i64 p1, .int .i64 p2]]) (by simp [go_sem]) ((CM.out W).mono fun e w'' h => ⟨h.1, hw'.below h.2⟩)) ?_
                    simp only [Act.put, List.setIfInBounds_toArray, List.set_cons_zero, List.set_cons_succ]
                    refine pWalk_quiet rfl (fun E W hw' => quietAt_run rfl) ?_
                    simp only [Act.put, List.setIfInBounds_toArray, List.set_cons_zero, List.set_cons_succ]
                    refine pWalk_quiet rfl (fun E W hw' => quietAt_run (by simp [go_sem])) ?_
                    simp only [Act.put, List.setIfInBounds_toArray, List.set_cons_zero, List.set_cons_succ]
                    refine pWalk_quiet rfl (fun E W hw' => quietAt_run (by simp [go_sem])) ?_
                    simp only [Act.put, List.setIfInBounds_toArray, List.set_cons_zero, List.set_cons_succ]
                    refine pWalk_var rfl rfl allocspan ?_
                    simp only [Act.put, List.setIfInBounds_toArray, List.set_cons_zero, List.set_cons_succ]
                    refine pWalk_put rfl rfl rfl rfl rfl tyspan rfl rfl (by simp [Value.oneCell']) ?_
                    simp only [Act.put]
                    refine pWalk_quiet rfl (fun E W hw' => quietAt_run rfl) ?_
                    trivial
                  intro b κ E w4 hK hB
                  obtain ⟨l2, g2⟩ := hB.at_ 14 _ _ _ rfl rfl
                  obtain ⟨g9, e9⟩ : ∃ x, x = b 14 := ⟨_, rfl⟩
                  have K4 : Hid (KV wr2 [(27, g9, [.int .i64 p1, .int .i64 p2])] w4) := by
                    rw [e9]
                    refine hK.pick [κ 14] (by simp) rfl ?_
                    intro q hq
                    simp at hq
                    rcases hq with rfl
                    exact g2
                  clear l2 g2 hK hB
                  simp only [List.length_cons, List.length_nil, lexAct, pval, List.getElem?_cons_zero, List.getElem?_cons_succ, Option.bind_some, Act.put, List.setIfInBounds_toArray, List.set_cons_zero, List.set_cons_succ]
                  rw [← e9]
                  clear e9
                  have u8 := HUI.out
                  go_upto_region 18 with fail
                  refine wp_quiet_kv (C := KV wr2 [(27, g9, [.int .i64 p1, .int .i64 p2])]) (by kernel_rfl) (by kernel_rfl) K4.out.drew ?_
                  repeat (first
                    | go_big_quiet_skip
                    | (go_big_quiet_want; apply Exists.intro; refine ⟨fun w' hw' => (by first | exact quietAt_cell (j := 0) rfl rfl one_int (hw'.at 0 rfl) rfl | exact quietAt_cell (j := 1) rfl rfl one_int (hw'.at 0 rfl) rfl | exact quietAt_at rfl rfl one_int ((hw'.bel.cell (p := ⟨b7, o7 + j, none⟩) (Nat.lt_of_lt_of_le HB7.out D.out.size)).trans ((D.out.cell (p := ⟨b7, o7 + j, none⟩) HB7.out).trans HC7.out)) | fail), ?_⟩; simp only [Act.put, List.setIfInBounds_toArray, List.set_cons_zero, List.set_cons_succ]; go_big_quiet_on)
                    | (go_big_quiet_want; go_big_quiet_op; go_big_quiet_on)
                    | (go_big_quiet_want; go_big_quiet_op; apply Exists.intro; refine ⟨fun w' hw' => rfl, ?_⟩; go_big_quiet_on))
                  refine wpQuiet_nil ?_
                  intro w5 hw5
                  have K5 := Lib.hid hw5
                  have s0 := (K5.out.at 0 rfl).get 0
                  have s1 := (K5.out.at 0 rfl).get 1
                  simp at s0 s1
                  have HO5 := Lib.hid (HO.out.below K5.out.bel)
                  have D5 := Lib.hid (below_both D.out K5.out.bel)
                  have u9 := HUI.out
                  clear hw5 K4 HO D
                  go_wp2_with (at_builtin; refine wpList_appendSp (by rfl) (.tmp 114) (.tmp 116) (by rfl) (L := laidTo st L j ++ laid1 (p1, p2) L i) (p := p1) (q := p2) (by rfl) (by rfl) (by exact HO5.out) (by exact D5.out) (by exact D5.out.size) (by exact HLN.out) ?_; intro v6 w6 ho6 hb6)
                  have HO6 := Lib.hid ho6
                  have D6 := Lib.hid hb6
                  clear ho6 hb6
                  go_roundw
                  case rel => exact ⟨i + 1, HIL.out, by go_num, by rw [HST.out, ← List.append_assoc]; exact HO6.out, D6.out⟩
                  case measure => have := HIL.out; simp [intOf]; omega
              · obtain rfl : i = k := by omega
                have hilx : ¬ (i : Int) < (i : Int) := Int.lt_irrefl _
                have ho2 := HO.out
                rw [show laidTo st L j ++ laid1 (p1, p2) L i = laidTo st L (j + 1) from by
                  show _ = laidTo st L j ++ laid1 (pieceAt st j) L L.length
                  rw [HPT.out, HLL.out]] at ho2
                have HO2 := Lib.hid ho2
                clear ho2
                clear hil
                go_wp2_with fail
                go_roundw
                case rel => exact ⟨j + 1, HJL.out, by go_num, HO2.out, D.out⟩
                case measure => have := HJL.out; simp [intOf]; omega
        · obtain rfl : j = q7 := by omega
          have hjlx : ¬ (j : Int) < (j : Int) := Int.lt_irrefl _
          clear hjl
          go_wp2_with fail
          go_meet
          exact ⟨HO.out, D.out⟩
    case rest =>
      obtain ⟨hp, hb⟩ := hcut
      obtain ⟨LT, hLT⟩ : ∃ l, l = laidTo st L q7 := ⟨_, rfl⟩
      have hTok : ∀ s ∈ LT, OkS s := by rw [hLT, HQ7.out]; exact laidTo_ok H7.out HOK.out
      have hTmem : ∀ n, mem LT n ↔ mem L n := fun n => by rw [hLT, HQ7.out]; exact laidTo_mem H7.out HOK.out n
      have hTlen : LT.length ≤ 8796093022206 := by
        rw [hLT]
        have h1 := laidTo_len st L q7
        have h3 := HLL.out
        have h4 := HK4.out
        have h5 := HQ64.out
        have h7 : q7 * L.length ≤ 65536 * 20 := Nat.mul_le_mul (by omega) (by omega)
        omega
      rw [← hLT] at hp
      obtain ⟨AT, cT, hu, hRT⟩ := hp.row hTok
      have C1 := Lib.hid (sunion_ok AL k cL L wc (by have := HK4.out; omega) (RL.out.below hb) HOK.out)
      have RT := Lib.hid hRT
      have B3 := Lib.hid (below_both B2.out hb)
      have hne : ((q7 : Int) == 0) = false := by rw [beq_eq_false_iff_ne]; have := HP7.out; omega
      have HTOK := Lib.hid hTok
      have HTMEM := Lib.hid hTmem
      have HTLEN := Lib.hid hTlen
      subst hu
      clear hp hb hLT hTok hTmem hTlen hRT R7 RL
      go_wp2_with fail
      refine C1.out.mono ?_
      rintro e w3 ⟨v9, S1, rfl, hs1, ho1, hb1⟩
      have HS1 := Lib.hid hs1
      obtain ⟨hN1, hU1, hM1⟩ := uni_ok hs1 HOK.out
      obtain ⟨U, hU⟩ : ∃ U, U = uni S1 := ⟨_, rfl⟩
      rw [← hU] at ho1 hN1 hU1 hM1
      have HU := Lib.hid hU
      have HUOK := Lib.hid hU1
      have HUN := Lib.hid hN1
      have HUM := Lib.hid hM1
      have hUlen : U.length ≤ 20 := by
        have h1 := fold_len S1 []
        have h2 := hs1.perm.length_eq
        have h3 := HLL.out
        have h4 := HK4.out
        simp only [List.length_nil] at h1
        rw [hU]
        show (List.foldl mstep [] S1).length ≤ 20
        omega
      obtain ⟨A9, c9, hu9, hR9⟩ := ho1.row hU1
      obtain ⟨q9, hq9⟩ : ∃ q, q = U.length := ⟨_, rfl⟩
      rw [← hq9] at hu9 hR9 hUlen
      have HQ9 := Lib.hid hq9
      have HQL := Lib.hid hUlen
      have C2 := Lib.hid (sunion_ok AT LT.length cT LT w3 HTLEN.out (RT.out.below hb1) HTOK.out)
      have R9 := Lib.hid hR9
      have B4 := Lib.hid (below_both B3.out hb1)
      subst hu9
      clear hs1 ho1 hb1 hN1 hU1 hM1 hU hUlen hR9 hq9 C1 B3 RT
      go_wp2_with fail
      refine C2.out.mono ?_
      rintro e w4 ⟨v15, S2, rfl, hs2, ho2, hb2⟩
      have e2 := (uni_same HS1.out hs2 HOK.out HTOK.out HTMEM.out).trans HU.out.symm
      rw [e2] at ho2
      obtain ⟨A15, c15, hu15, hR15⟩ := ho2.row HUOK.out
      rw [← HQ9.out] at hu15 hR15
      have R9 := Lib.hid (R9.out.below hb2)
      have C3 := Lib.hid (sunion_ok A9 q9 c9 U w4 (by have := HQL.out; omega) R9.out HUOK.out)
      have R15 := Lib.hid hR15
      have B5 := Lib.hid (below_both B4.out hb2)
      subst hu15
      clear hs2 ho2 hb2 e2 hR15 C2 B4
      go_wp2_with fail
      refine C3.out.mono ?_
      rintro e w5 ⟨v17, S3, rfl, hs3, ho3, hb3⟩
      have e3 := (uni_same HS1.out hs3 HOK.out HUOK.out HUM.out).trans HU.out.symm
      rw [e3] at ho3
      obtain ⟨A17, c17, hu17, hR17⟩ := ho3.row HUOK.out
      rw [← HQ9.out] at hu17 hR17
      have R9 := Lib.hid (R9.out.below hb3)
      have R15 := Lib.hid (R15.out.below hb3)
      have R17 := Lib.hid hR17
      have B6 := Lib.hid (below_both B5.out hb3)
      have hq20 : (q9 : Int) ≤ 20 := by have := HQL.out; omega
      subst hu17
      clear hs3 ho3 hb3 e3 hR17 C3 B5
      go_wp2_with fail
      go_loopw [19] (fun v w6 => ∃ i : Nat, i ≤ q9 ∧ v = .int .i64 (i : Int) ∧ Below w5.heap.size w5 w6) (fun v _ => q9 - (intOf v).toNat)
      case atStart => exact ⟨0, Nat.zero_le _, rfl, Below.refl _ _⟩
      case round =>
        obtain ⟨i, hi, rfl, hd⟩ := hrel
        have D := Lib.hid hd
        clear hd
        by_cases hil : i < q9
        · have HIL := Lib.hid hil
          have hili : (i : Int) < (q9 : Int) := Int.ofNat_lt.2 hil
          obtain ⟨b1, o1, rfl, hb1, h1⟩ := R9.out.addr (by omega)
          obtain ⟨b2, o2, rfl, hb2, h2⟩ := R15.out.addr (by omega)
          obtain ⟨b3, o3, rfl, hb3, h3⟩ := R17.out.addr (by omega)
          have a0 := (D.out.cell (p := ⟨b1, o1 + i * 2, none⟩) hb1).trans (h1 i hil).1
          have a1 := (D.out.cell (p := ⟨b1, o1 + i * 2 + 1, none⟩) hb1).trans (h1 i hil).2
          have d0 := (D.out.cell (p := ⟨b2, o2 + i * 2, none⟩) hb2).trans (h2 i hil).1
          have d1 := (D.out.cell (p := ⟨b2, o2 + i * 2 + 1, none⟩) hb2).trans (h2 i hil).2
          have e0 := (D.out.cell (p := ⟨b3, o3 + i * 2, none⟩) hb3).trans (h3 i hil).1
          have e1 := (D.out.cell (p := ⟨b3, o3 + i * 2 + 1, none⟩) hb3).trans (h3 i hil).2
          obtain ⟨x1, hx1⟩ : ∃ x, x = (U.getD i (0, 0)).1 := ⟨_, rfl⟩
          obtain ⟨x2, hx2⟩ : ∃ x, x = (U.getD i (0, 0)).2 := ⟨_, rfl⟩
          rw [← hx1] at a0 d0 e0
          rw [← hx2] at a1 d1 e1
          have u := self_wrap (k := i) (by omega)
          rcases Nat.eq_zero_or_pos i with hi0 | hi0
          · have hpos : ¬ (0 : Int) < (i : Int) := by omega
            have hposb : decide ((0 : Int) < (i : Int)) = false := decide_eq_false hpos
            have hposn : decide (0 < i) = false := decide_eq_false (by omega)
            clear hi hil hb1 hb2 hb3 h1 h2 h3 hx1 hx2 hi0
            go_wp2_with fail
            go_quiet (fail)
            go_wp2_with fail
            go_roundw
            case rel => exact ⟨i + 1, HIL.out, by go_num, below_drewN' D.out _⟩
            case measure => have := HIL.out; simp [intOf]; omega
          · obtain ⟨t, rfl⟩ : ∃ t, i = t + 1 := ⟨i - 1, by omega⟩
            have hnx := norm_next HUN.out (i := t) (by rw [← HQ9.out]; exact hil)
            rw [← hx1] at hnx
            have f1 := (D.out.cell (p := ⟨b1, o1 + t * 2 + 1, none⟩) hb1).trans (h1 t (by omega)).2
            have hok := HUOK.out _ (sp_getD_mem (L := U) (i := t) (by rw [← HQ9.out]; omega))
            obtain ⟨y2, hy2⟩ : ∃ y, y = (U.getD t (0, 0)).2 := ⟨_, rfl⟩
            unfold OkS at hok
            rw [← hy2] at hnx f1 hok
            have hy3 : IntKind.i64.wrap (y2 + 1) = y2 + 1 := by rw [IntKind.wrap_i64]; omega
            have hnot : ¬ x1 ≤ y2 + 1 := by omega
            obtain ⟨i, hie⟩ : ∃ i, i = t + 1 := ⟨_, rfl⟩
            rw [← hie] at a0 a1 d0 d1 e0 e1 hili u HIL ⊢
            have hpos : (0 : Int) < (i : Int) := by omega
            have hposb : decide ((0 : Int) < (i : Int)) = true := decide_eq_true hpos
            have hposn : decide (0 < i) = true := decide_eq_true (by omega)
            have hti : (t : Int) < (q9 : Int) := by omega
            have hw1 : IntKind.i64.wrap ((i : Int) - 1) = (t : Int) := by rw [IntKind.wrap_i64]; omega
            have hi20 : (i : Int) ≤ 20 := by omega
            clear hi hil hb1 hb2 hb3 h1 h2 h3 hx1 hx2 hi0 hnx hok hy2 hie
            go_wp2_with fail
            go_quiet (fail)
            go_wp2_with fail
            go_roundw
            case rel => exact ⟨i + 1, HIL.out, by go_num, below_drewN' D.out _⟩
            case measure => have := HIL.out; simp [intOf]; omega
        · obtain rfl : i = q9 := by omega
          have hilx : ¬ (i : Int) < (i : Int) := Int.lt_irrefl _
          clear hil
          go_wp2_with fail
          go_ret
          exact ⟨rfl, below_both B6.out D.out⟩
theorem walk_WholeSpans (A : Option Addr) (len cap : Nat) (L : List (Int × Int)) (w : World) (hR : RowQ .u16 w A len L) (hb : len * 4 ≤ 140737488351232) :
    Calls Try.prog 3 #[.slice A len cap] w fun e w' => e = .returned (.bool true) ∧ Below w.heap.size w w' :=
  wws_walk A len cap L w (rowP_of hR) (by omega)
end Go.Proofs.Ytcbhhfnnjfpmbaa
