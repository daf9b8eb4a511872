/-
  Contracts of the document's Number and Parse of layer 5.
-/
import Derived.Test.YtdeecobpglfgaaaDoorRCut
namespace Go.Proofs.YtdeecobpglfgaaaDoor
open Go.RowKit
set_option linter.unusedVariables false

set_option maxHeartbeats 800000 in
theorem rnumber_any (s : ByteArray) (w : World) : Calls Tryd.prog 63 #[.string s, .int .i64 3] w (RNumIs s w) := by
  by_cases h0 : s.size < 1
  · have F := Lib.hid (rnum_no (w := w) (s := s) (by simp only [numOk, size_list]; rw [decide_eq_false (by omega)]; rfl))
    go_enter Tryd.func63, Tryd.ntmps63
    go_wp2_with fail
    go_ret
    exact F.out
  by_cases h3 : 3 < s.size
  · have F := Lib.hid (rnum_no (w := w) (s := s) (by simp only [numOk, size_list]; rw [decide_eq_false (show ¬ s.size ≤ 3 by omega), Bool.and_false]; rfl))
    go_enter Tryd.func63, Tryd.ntmps63
    go_wp2_with fail
    go_ret
    exact F.out
  have hp : 0 < s.size := by omega
  have hd0 := head_zero s hp
  by_cases hz : 1 < s.size ∧ s[0].toNat = 48
  · obtain ⟨hz1, hz2⟩ := hz
    have F := Lib.hid (rnum_no (w := w) (s := s) (by
      simp only [numOk, size_list]
      rw [decide_eq_false (show ¬ s.size ≤ 1 by omega), hd0.2 hz2]
      simp))
    have q : ((s[0].toNat : Int) == 48) = true := by simp; omega
    clear hd0 hz2
    go_enter Tryd.func63, Tryd.ntmps63
    go_wp2_with fail
    go_ret
    exact F.out
  have ho : Hid (numOk s.data.toList = allDig s.data.toList) := numOk_of s hp (by omega) (by
    by_cases h1 : s.size ≤ 1
    · exact .inl h1
    · exact .inr fun e => hz ⟨by omega, hd0.1 e⟩)
  have HZ := Lib.hid hz
  clear hd0 hz
  have hs3 : s.size ≤ 3 := by omega
  clear h0 h3
  go_enter Tryd.func63, Tryd.ntmps63
  by_cases h1 : 1 < s.size
  all_goals
    (try (have q : ((s[0].toNat : Int) == 48) = false := by have := HZ.out; simp; omega))
    go_wp2_with fail
    go_loop [5, 6] (fun n i => ∃ k v : Nat, k ≤ s.size ∧ i = .int .i64 k ∧ n = .int .i64 v ∧ Hid (v = numv (s.data.toList.take k)) ∧ Hid (allDig (s.data.toList.take k) = true)) (fun _ i => s.size - (intOf i).toNat)
    case atStart => exact ⟨0, 0, Nat.zero_le _, rfl, rfl, rfl, rfl⟩
    case round =>
      obtain ⟨k, v, hk, rfl, rfl, HV, HA⟩ := hrel
      have hv : v ≤ 999 := by
        have := numv_lt _ HA.out
        rw [← HV.out, List.length_take, size_list] at this
        have h2 : 10 ^ min k s.size ≤ 10 ^ 3 := Nat.pow_le_pow_right (by decide) (by omega)
        omega
      by_cases hlt : k < s.size
      · have T := Lib.hid (take_byte s k hlt)
        have NA := Lib.hid (not_all s k hlt)
        obtain ⟨c, hc⟩ : ∃ c, s[k].toNat = c := ⟨_, rfl⟩
        by_cases hd : 48 ≤ c ∧ c ≤ 57
        · obtain ⟨hd1, hd2⟩ := hd
          have ND : Hid (isDig s[k] = true) := by
            show isDig s[k] = true
            unfold isDig
            rw [hc]
            simp
            omega
          have HC := Lib.hid hc
          go_wp2_with fail
          go_round
          case rel =>
            refine ⟨k + 1, 10 * v + (c - 48), by omega, by go_num, by go_num, ?_, ?_⟩
            · show _ = numv (s.data.toList.take (k + 1))
              rw [T.out, numv_snoc, HC.out, HV.out]
            · show allDig (s.data.toList.take (k + 1)) = true
              rw [T.out, allDig_snoc, HA.out, ND.out]
              rfl
          case measure => simp [intOf]; omega
        · have F := Lib.hid (rnum_no (w := w) (by rw [ho.out]; exact NA.out (by rw [hc]; exact hd)))
          by_cases hd1 : c < 48
          · clear hd
            go_wp2_with fail
            go_ret
            exact F.out
          · have hd2 : 57 < c := by omega
            have hd3 : 48 ≤ c := by omega
            clear hd hd1
            go_wp2_with fail
            go_ret
            exact F.out
      · obtain rfl : k = s.size := by omega
        have e : s.data.toList.take s.size = s.data.toList := by rw [← size_list]; exact List.take_length
        have F := Lib.hid (rnum_yes (w := w) (s := s) (n := v) (by rw [ho.out, ← e]; exact HA.out) (by rw [HV.out, e]))
        clear e
        go_wp2_with fail
        go_ret
        exact F.out

theorem dparse_far {l p : List UInt8} (h4 : (cutL 46 l).length = 4) (hok : ∀ p ∈ cutL 46 l, numOk p = true) (hp : p ∈ cutL 46 l) (h : 255 < numv p) : dparse l = ((0, 0, 0, 0), 1) := by
  unfold dparse
  split
  · rename_i a b c d he
    rw [he] at hok hp
    have h1 := hok a (by simp)
    have h2 := hok b (by simp)
    have h3 := hok c (by simp)
    have h5 := hok d (by simp)
    rw [h1, h2, h3, h5]
    simp only [Bool.and_self, if_true]
    rw [if_neg]
    rintro ⟨k1, k2, k3, k4⟩
    simp only [List.mem_cons, List.not_mem_nil, or_false] at hp
    rcases hp with rfl | rfl | rfl | rfl <;> omega
  · rename_i hne
    match hl : cutL 46 l, h4 with
    | [p, q, r, s], _ => exact absurd hl (hne p q r s)
theorem pst_low {vs : List Nat} {k : Nat} {bs : List Nat} (hk : k < vs.length) (h4 : vs.length = 4) (h : pst vs k = (0, bs)) (hv : vs.getD k 0 ≤ 255) : pst vs (k + 1) = (0, bs.set k (vs.getD k 0)) := pst_more hk h4 h hv

/-- The second loop's world. -/
structure RParseInv (w W0 : World) (s : ByteArray) (ps : List ByteArray) (gp k : Nat) (bs : List Nat) (W : World) : Prop where
  arr : ArrAt W W0.heap.size bs
  res : ArrAt W w.heap.size [0, 0, 0, 0]
  st : pst ((cutL 46 s.data.toList).map numv) k = (0, bs)
  txt : ∀ (j : Nat) x, ps[j]? = some x → W.cell? ⟨gp, j, none⟩ = some (.string x)
  bel : Below w.heap.size w W
theorem RParseInv.put {w W0 W : World} {s : ByteArray} {ps : List ByteArray} {gp k n : Nat} {bs : List Nat} (h : RParseInv w W0 s ps gp k bs W) (hw : w.heap.size < W0.heap.size) (hg : gp < W0.heap.size)
    (hst : pst ((cutL 46 s.data.toList).map numv) (k + 1) = (0, bs.set k n)) : RParseInv w W0 s ps gp (k + 1) (bs.set k n) (W.setCell ⟨W0.heap.size, k, none⟩ (.int .u8 (n : Nat))) := by
  refine ⟨h.arr.set k n, h.res.other _ _ (by simp; omega), hst, fun j x hj => ?_, h.bel.setCell (by simp; omega) _⟩
  rw [cell_other _ _ _ _ (by simp; omega)]
  exact h.txt j x hj

set_option maxRecDepth 10000 in
set_option maxHeartbeats 3200000 in
theorem rparse_any (s : ByteArray) (w : World) (hs : s.size ≤ 1099511627776) : Calls Tryd.prog 25 #[.string s] w (ParseIs s w) := by
  have CS := Lib.hid (fun w => rcut_any s 46 w hs)
  have e46 : (46 : UInt8).toNat = 46 := rfl
  rw [e46] at CS
  clear e46
  go_enter Tryd.func25, Tryd.ntmps25
  go_wp2_with fail
  refine (CS.out _).mono ?_
  rintro e w1 ⟨v, ps, h1, rfl, h2, h3⟩
  have A0 : ArrAt w1 w.heap.size [0, 0, 0, 0] := ArrAt.below (W := w.alloc _) (heap_alloc_new w _) h3
  have hb : Below w.heap.size w w1 := below_al h3
  have hlen : ps.length = (cutL 46 s.data.toList).length := by rw [← h1, List.length_map]
  have hpos : 0 < ps.length := by
    have := cutL_one 46 s.data.toList
    omega
  obtain ⟨gp, cp, rfl, hgp, htx⟩ := h2.out hpos
  have r0 := A0.cell 0 (by decide)
  have r1 := A0.cell 1 (by decide)
  have r2 := A0.cell 2 (by decide)
  have r3 := A0.cell 3 (by decide)
  have f0 := A0.frozen
  simp at r0 r1 r2 r3
  by_cases hc : (cutL 46 s.data.toList).length = 4
  · have hp4 : ps.length = 4 := by omega
    have hgp1 : gp < w1.heap.size := by
      obtain ⟨x, hx⟩ : ∃ x, ps[0]? = some x := ⟨_, List.getElem?_eq_getElem hpos⟩
      exact cell_lt (htx 0 x hx)
    have HA := Lib.hid A0
    have HB := Lib.hid hb
    have HX := Lib.hid htx
    have HPS := Lib.hid h1
    have HC := Lib.hid hc
    have hp4' := Lib.hid hp4
    have hw1 : w.heap.size < w1.heap.size := A0.lt
    clear A0 hb htx h1 h2 h3 hlen hpos hc r0 r1 r2 r3 f0
    rw [hp4]
    clear hp4
    go_wp2_with fail
    have HA := Lib.hid (HA.out.alloc (.cells #[.int .u8 0, .int .u8 0, .int .u8 0, .int .u8 0] 22))
    have HX : Hid (∀ (j : Nat) x, ps[j]? = some x → (w1.alloc (.cells #[.int .u8 0, .int .u8 0, .int .u8 0, .int .u8 0] 22)).cell? ⟨gp, j, none⟩ = some (.string x)) := fun j x hj => (World.cell?_alloc_lt w1 _ _ hgp1).trans (HX.out j x hj)
    have HN : Hid (ArrAt (w1.alloc (.cells #[.int .u8 0, .int .u8 0, .int .u8 0, .int .u8 0] 22)) w1.heap.size [0, 0, 0, 0]) := heap_alloc_new w1 _
    have HB := Lib.hid (HB.out.alloc HB.out.size (.cells #[.int .u8 0, .int .u8 0, .int .u8 0, .int .u8 0] 22))
    generalize hW : w1.alloc (.cells #[.int .u8 0, .int .u8 0, .int .u8 0, .int .u8 0] 22) = W at *
    clear hW
    go_loop [6] (fun i => ∃ k : Nat, k ≤ 4 ∧ i = .int .i64 k ∧ Hid (∀ j x, j < k → ps[j]? = some x → numOk x.data.toList = true)) (fun i => 4 - (intOf i).toNat)
    case atStart => exact ⟨0, by decide, rfl, fun j x h => absurd h (by omega)⟩
    case round =>
      obtain ⟨k, hk, rfl, HK⟩ := hrel
      by_cases hlt : k < 4
      · obtain ⟨x, hx⟩ : ∃ x, ps[k]? = some x := ⟨_, List.getElem?_eq_getElem (by rw [hp4'.out]; exact hlt)⟩
        have hcell := HX.out k x hx
        by_cases hok : numOk x.data.toList = true
        · obtain ⟨n, hn⟩ : ∃ n, n = numv x.data.toList := ⟨_, rfl⟩
          have CN : Hid (∀ w, Calls Tryd.prog 63 #[.string x, .int .i64 3] w fun e w' => e = .returned (.int .i64 n) ∧ w = w') := by
            intro w
            refine (rnumber_any x w).mono ?_
            rintro e w' ⟨rfl, rfl⟩
            rw [hok, if_pos rfl, hn]
            exact ⟨rfl, rfl⟩
          have HK2 := Lib.hid (oks_next HK.out hx hok)
          clear hn hok hx
          go_wp2_with fail
          refine (CN.out _).mono ?_
          rintro e w' ⟨rfl, rfl⟩
          go_wp2_with fail
          go_round
          case rel => exact ⟨k + 1, by omega, by go_num, HK2.out⟩
          case measure => simp [intOf]; omega
        · have hno : numOk x.data.toList = false := by rw [← Bool.not_eq_true]; exact hok
          have hmem : x.data.toList ∈ cutL 46 s.data.toList := by
            rw [← HPS.out]
            exact List.mem_map_of_mem (List.mem_of_getElem? hx)
          have F := Lib.hid (fun (w' : World) (hb : Below w.heap.size w w') => parse_form (dparse_bad HC.out hmem hno) hb)
          have CN : Hid (∀ w, Calls Tryd.prog 63 #[.string x, .int .i64 3] w fun e w' => e = .returned (.int .i64 (-1)) ∧ w = w') := by
            intro w
            refine (rnumber_any x w).mono ?_
            rintro e w' ⟨rfl, rfl⟩
            rw [hno]
            exact ⟨rfl, rfl⟩
          have r0 := HA.out.cell 0 (by decide)
          have r1 := HA.out.cell 1 (by decide)
          have r2 := HA.out.cell 2 (by decide)
          have r3 := HA.out.cell 3 (by decide)
          have f0 := HA.out.frozen
          simp at r0 r1 r2 r3
          clear hok hno hmem hx
          go_wp2_with fail
          refine (CN.out _).mono ?_
          rintro e w' ⟨rfl, rfl⟩
          go_wp2_with fail
          exact bodyPost_ret (v := nullv 3) (by simp [nullv, results, Tryd.results25, go_sem, r0, r1, r2, r3]) rfl (F.out _ ((((HB.out.setCell (Nat.le_refl _) _).setCell (Nat.le_refl _) _).setCell (Nat.le_refl _) _).setCell (Nat.le_refl _) _))
      · obtain rfl : k = 4 := by omega
        have hall : Hid (∀ p ∈ cutL 46 s.data.toList, numOk p = true) := by
          intro p hp
          rw [← HPS.out] at hp
          obtain ⟨q, hq, rfl⟩ := List.mem_map.1 hp
          obtain ⟨j, hj, rfl⟩ := List.getElem_of_mem hq
          exact HK.out j _ (by have := hp4'.out; omega) (List.getElem?_eq_getElem hj)
        have HI : Hid (RParseInv w w1 s ps gp 0 [0, 0, 0, 0] W) := ⟨HN.out, HA.out, pst_zero _, HX.out, HB.out⟩
        clear HK HN HA HX HB
        go_wp2_with fail
        go_loopw [7] (fun i wr => ∃ (k : Nat) (bs : List Nat), k ≤ 4 ∧ i = .int .i64 k ∧ RParseInv w w1 s ps gp k bs wr) (fun i _ => 4 - (intOf i).toNat)
        case atStart => exact ⟨0, _, by decide, rfl, HI.out⟩
        case round =>
          obtain ⟨k, bs, hk, rfl, HI0⟩ := hrel
          have HI := Lib.hid HI0
          clear HI0
          have hv4 : Hid (((cutL 46 s.data.toList).map numv).length = 4) := by rw [List.length_map]; exact HC.out
          have hbs : Hid (bs.length = 4) := pst_len (by rw [hv4.out]; exact hk) hv4.out HI.out.st
          have r0 := HI.out.res.cell 0 (by decide)
          have r1 := HI.out.res.cell 1 (by decide)
          have r2 := HI.out.res.cell 2 (by decide)
          have r3 := HI.out.res.cell 3 (by decide)
          have f0 := HI.out.res.frozen
          have f1 := HI.out.arr.frozen
          have HB := Lib.hid HI.out.bel
          simp at r0 r1 r2 r3
          by_cases hlt : k < 4
          · obtain ⟨x, hx⟩ : ∃ x, ps[k]? = some x := ⟨_, List.getElem?_eq_getElem (by rw [hp4'.out]; exact hlt)⟩
            have hcell := HI.out.txt k x hx
            have hmem : x.data.toList ∈ cutL 46 s.data.toList := by
              rw [← HPS.out]
              exact List.mem_map_of_mem (List.mem_of_getElem? hx)
            have hok := hall.out _ hmem
            obtain ⟨n, hn⟩ : ∃ n, n = numv x.data.toList := ⟨_, rfl⟩
            have hn9 : n ≤ 999 := by rw [hn]; exact numv_three _ hok
            have hval : Hid (((cutL 46 s.data.toList).map numv).getD k 0 = n) := by
              show _ = _
              rw [← HPS.out, List.getD_eq_getElem?_getD, List.getElem?_map, List.getElem?_map, hx, hn]
              rfl
            have CN : Hid (∀ w, Calls Tryd.prog 63 #[.string x, .int .i64 3] w fun e w' => e = .returned (.int .i64 n) ∧ w = w') := by
              intro w
              refine (rnumber_any x w).mono ?_
              rintro e w' ⟨rfl, rfl⟩
              rw [hok, if_pos rfl, hn]
              exact ⟨rfl, rfl⟩
            have c0 := HI.out.arr.cell k (by have := hbs.out; omega)
            rcases Nat.lt_or_ge 255 n with big | small
            · have F : Hid (dval s.data.toList = nullv 1) := by
                show dval s.data.toList = nullv 1
                unfold dval
                rw [dparse_far HC.out hall.out hmem (by rw [← hn]; exact big)]
                rfl
              clear hn hok hmem hx
              go_wp2_with fail
              refine (CN.out _).mono ?_
              rintro e w' ⟨rfl, rfl⟩
              go_wp2_with fail
              exact bodyPost_ret (v := nullv 1) (by simp [nullv, results, Tryd.results25, go_sem, r0, r1, r2, r3]) rfl ⟨by rw [F.out], (((HB.out.setCell (Nat.le_refl _) _).setCell (Nat.le_refl _) _).setCell (Nat.le_refl _) _).setCell (Nat.le_refl _) _⟩
            · have HS : Hid (pst ((cutL 46 s.data.toList).map numv) (k + 1) = (0, bs.set k n)) := by
                have := pst_more (by rw [hv4.out]; exact hlt) hv4.out HI.out.st (by rw [hval.out]; exact small)
                rw [hval.out] at this
                exact this
              clear hn hok hmem hx
              go_wp2_with fail
              refine (CN.out _).mono ?_
              rintro e w' ⟨rfl, rfl⟩
              go_wp2_with fail
              go_roundw
              case rel => exact ⟨k + 1, bs.set k n, by omega, by go_num, HI.out.put hw1 hgp1 HS.out⟩
              case measure => simp [intOf]; omega
          · obtain rfl : k = 4 := by omega
            obtain ⟨x, y, z, u, rfl⟩ := four bs hbs.out
            have a0 := HI.out.arr.cell 0 (by simp)
            have a1 := HI.out.arr.cell 1 (by simp)
            have a2 := HI.out.arr.cell 2 (by simp)
            have a3 := HI.out.arr.cell 3 (by simp)
            simp at a0 a1 a2 a3
            have HE : Hid (dparse s.data.toList = ((x, y, z, u), 0)) := dparse_end HC.out hall.out HI.out.st
            clear HI
            go_wp2_with fail
            refine bodyPost_ret (v := .tuple #[.agg #[.int .u8 x, .int .u8 y, .int .u8 z, .int .u8 u], .int .i64 0]) (by simp [results, Tryd.results25, go_sem, r0, r1, r2, r3]) rfl ⟨?_, (((HB.out.setCell (Nat.le_refl _) _).setCell (Nat.le_refl _) _).setCell (Nat.le_refl _) _).setCell (Nat.le_refl _) _⟩
            unfold dval
            rw [HE.out]
            rfl
  · have F := Lib.hid (parse_form (dparse_count hc) ((((hb.setCell (p := ⟨w.heap.size, 0, none⟩) (Nat.le_refl _) (.int .u8 0)).setCell (p := ⟨w.heap.size, 1, none⟩) (Nat.le_refl _) (.int .u8 0)).setCell (p := ⟨w.heap.size, 2, none⟩) (Nat.le_refl _) (.int .u8 0)).setCell (p := ⟨w.heap.size, 3, none⟩) (Nat.le_refl _) (.int .u8 0)))
    have hne : ((ps.length : Int) == 4) = false := by simp; omega
    clear h1 h2 h3 A0 hb hlen hpos hc htx hgp
    go_wp2_with fail
    exact bodyPost_ret (v := nullv 3) (by simp [nullv, results, Tryd.results25, go_sem, r0, r1, r2, r3]) rfl F.out
end Go.Proofs.YtdeecobpglfgaaaDoor
