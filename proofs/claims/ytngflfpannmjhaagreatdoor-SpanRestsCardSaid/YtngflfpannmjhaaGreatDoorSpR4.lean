/-
  The document's Union.
-/
import Derived.Test.YtngflfpannmjhaaGreatDoorSpR3
import Derived.StillTailTactics
import Derived.BigQuiet
namespace Go.Proofs.YtngflfpannmjhaaGreatDoor
open Go.RowKit Go.Lib Go.Sort
set_option linter.unusedVariables false

theorem unionTo_len (st : List Int) (p : Int → Bool) (k : Nat) : (unionTo st p k).length ≤ k := by
  have h1 := fold_len (((pieces st).take k).filter fun s => p s.1) []
  have h2 := List.length_filter_le (fun s : Sp => p s.1) ((pieces st).take k)
  have h3 : ((pieces st).take k).length ≤ k := by rw [List.length_take]; omega
  show (List.foldl mstep [] _).length ≤ k
  simp only [List.length_nil] at h1
  omega
theorem sub_wrap {x : Int} (h0 : 0 ≤ x) (h : x ≤ 65535) : IntKind.i64.wrap (x - 1) = x - 1 := by rw [IntKind.wrap_i64]; omega

set_option maxRecDepth 10000 in
theorem runion_bad (A : Option Addr) (n cap : Nat) (L : List Sp) (w : World) (hn : n ≤ 8796093022206) (hA : SpRow w A n L) (hbad : chkAll L ≠ 0) :
    Calls Tryz.prog 7 #[.slice A n cap] w fun e w' => e = .returned (.tuple #[.slice none 0 0, .int .i64 (chkAll L)]) ∧ Below w.heap.size w w' := by
  have C := Lib.hid (rstarts_bad A n cap L w hn hA hbad)
  have hb1 : (chkAll L != 0) = true := by rw [bne_iff_ne]; exact hbad
  obtain ⟨c, hc⟩ : ∃ c, c = chkAll L := ⟨_, rfl⟩
  rw [← hc] at C hb1 ⊢
  clear hc hbad hA
  go_enter Tryz.func7, Tryz.ntmps7
  go_wp2_with fail
  refine C.out.mono ?_
  rintro e w1 ⟨rfl, hb⟩
  have B := Lib.hid hb
  clear hb
  go_wp2_with fail
  go_ret2
  exact ⟨rfl, B.out⟩

set_option maxRecDepth 10000 in
set_option maxHeartbeats 6400000 in
theorem runion_ok (A : Option Addr) (n cap : Nat) (L : List Sp) (w : World) (hn : n ≤ 8796093022206) (hA : SpRow w A n L) (hok : ∀ s ∈ L, OkS s) :
    Calls Tryz.prog 7 #[.slice A n cap] w fun e w' => ∃ v st, e = .returned (.tuple #[v, .int .i64 0]) ∧ Starts st L ∧ OutSp w.heap.size w' v (unionOf st (wthn L)) ∧ Below w.heap.size w w' := by
  have C := Lib.hid (rstarts_ok A n cap L w hn hA hok)
  have CW0 := Lib.hid (fun (W : World) (x : Int) (hb : Below w.heap.size w W) => rwithin_any A n cap L x W hn (hA.below hb))
  have HOK := Lib.hid hok
  clear hA hok hn
  go_enter Tryz.func7, Tryz.ntmps7
  go_wp2_with fail
  refine C.out.mono ?_
  rintro e w1 ⟨v, st, rfl, hS, hv, hb⟩
  have S := Lib.hid hS
  have CW := Lib.hid (fun (W : World) (x : Int) (hb2 : Below w1.heap.size w1 W) => CW0.out W x (below_both hb hb2))
  have B0 := Lib.hid hb
  have hlen := up_len st hS.up (hS.bounds HOK.out)
  have hbd := Lib.hid (hS.bounds HOK.out)
  obtain ⟨A2, c2, rfl, _, hR⟩ := hv
  have R := Lib.hid hR
  have hB1 := hb.size
  clear hS hb hR C CW0
  obtain ⟨m, hm⟩ : ∃ m, m = st.length := ⟨_, rfl⟩
  rw [← hm] at R hlen ⊢
  have HM := Lib.hid hm
  clear hm
  have hmi : (m : Int) ≤ 65536 := by omega
  go_wp2_with fail
  go_loopw [6, 7] (fun vo i wr => ∃ k : Nat, k ≤ m ∧ i = .int .i64 (k : Int) ∧ OutSp w1.heap.size wr vo (unionTo st (wthn L) k) ∧ Below w1.heap.size w1 wr) (fun _ i _ => m - (intOf i).toNat)
  case atStart => exact ⟨0, Nat.zero_le _, rfl, OutSp.nil _ _, Below.refl _ _⟩
  case round =>
    obtain ⟨k, hk, rfl, ho, hb⟩ := hrel
    have HO := Lib.hid ho
    have B := Lib.hid hb
    clear ho hb
    by_cases hlt : k < m
    · obtain ⟨b, o, rfl, hb1, hc⟩ := R.out.addr (by omega)
      have hks : k < st.length := by rw [← HM.out]; exact hlt
      have hstep := unionTo_step (p := wthn L) hks
      have hah := unionTo_ahead S.out HOK.out (wthn L) hks
      have hpo := piece_ok S.out HOK.out hks
      have hul := unionTo_len st (wthn L) k
      have hpd : pieceAt st k = (st.getD k 0, if k + 1 < st.length then st.getD (k + 1) 0 - 1 else 65535) := rfl
      rw [← HM.out] at hpd
      have hc0 := (B.out.cell (p := ⟨b, o + k, none⟩) hb1).trans (hc k hlt)
      have hw1 := add_one_wrap (x := (k : Int)) (by omega) (by omega)
      have u := k_wrap hlt (by omega)
      by_cases hl : k + 1 < m
      · have hc1 := (B.out.cell (p := ⟨b, o + (k + 1), none⟩) hb1).trans (hc (k + 1) hl)
        have hbn := hbd.out _ (getD_mem (by rw [← HM.out]; exact hl) : st.getD (k + 1) 0 ∈ st)
        rw [if_pos hl] at hpd
        obtain ⟨P, hP⟩ : ∃ P, P = pieceAt st k := ⟨_, rfl⟩
        rw [← hP] at hstep hah hpo hpd
        obtain ⟨a, h⟩ := P
        obtain ⟨a', ha'⟩ : ∃ a', a' = st.getD k 0 := ⟨_, rfl⟩
        obtain ⟨z, hz⟩ : ∃ z, z = st.getD (k + 1) 0 := ⟨_, rfl⟩
        rw [← ha'] at hc0 hpd
        rw [← hz] at hc1 hbn hpd
        obtain ⟨rfl, rfl⟩ : a = a' ∧ h = z - 1 := by injection hpd with h1 h2; exact ⟨h1, h2⟩
        have hw2 := sub_wrap hbn.1 hbn.2
        have hli : (k : Int) + 1 < (m : Int) := by omega
        clear hpd ha' hz hP hc hb1
        have hc2 : (wr.alloc (.cells #[.int .i64 a, .int .i64 65535] 34)).cell? ⟨b, o + (k + 1), none⟩ = some (.int .i64 z) := (World.cell?_alloc_lt wr _ ⟨b, o + (k + 1), none⟩ (cell_lt hc1)).trans hc1
        have hsa := (SB.new wr a 65535)
        have hfa := hsa.f 1
        have hca := hsa.c1
        have hd : Below wr.heap.size wr (wr.alloc (.cells #[.int .i64 a, .int .i64 (z - 1)] 34)) := (Below.refl _ _).alloc (Nat.le_refl _) _
        have SX : SB (wr.alloc (.cells #[.int .i64 a, .int .i64 (z - 1)] 34)) wr.heap.size a (z - 1) := SB.new wr a (z - 1)
        have hs0 := SX.c0
        have hs1 := SX.c1
        have O2 := Lib.hid (HO.out.below hd)
        have B2 := Lib.hid (below_both B.out hd)
        have S2 := Lib.hid SX
        have hab := Lib.hid (show a ≤ z - 1 by unfold OkS at hpo; dsimp only at hpo; omega)
        have haw := Lib.hid (show 0 ≤ a ∧ a ≤ 65535 by unfold OkS at hpo; dsimp only at hpo; omega)
        have CA := Lib.hid (CW.out _ a B2.out)
        have hstep : unionTo st (wthn L) (k + 1) = if wthn L a = true then mstep (unionTo st (wthn L) k) (a, z - 1) else unionTo st (wthn L) k := hstep
        obtain ⟨U, hU⟩ : ∃ U, U = unionTo st (wthn L) k := ⟨_, rfl⟩
        rw [← hU] at O2 hstep hah hul
        have HAH := Lib.hid hah
        have HUL := Lib.hid hul
        clear hd SX hU hah hul HO hpo
        cases hp : wthn L a
        · rw [hp] at CA hstep
          have HST := Lib.hid (show unionTo st (wthn L) (k + 1) = U from hstep)
          clear hp hstep HAH
          go_wp2_with fail
          refine CA.out.mono ?_
          rintro e w3 ⟨rfl, hb⟩
          have O3 := Lib.hid (O2.out.below hb)
          have B3 := Lib.hid (below_both B2.out hb)
          clear hb hs0 hs1
          go_wp2_with fail
          go_roundw
          case rel => exact ⟨k + 1, hlt, by go_num, by rw [HST.out]; exact O3.out, B3.out⟩
          case measure => simp [intOf]; omega
        · rw [hp] at CA hstep
          have HST := Lib.hid (show unionTo st (wthn L) (k + 1) = mstep U (a, z - 1) from hstep)
          clear hp hstep
          go_wp2_with fail
          refine CA.out.mono ?_
          rintro e w3 ⟨rfl, hb⟩
          have O3 := Lib.hid (O2.out.below hb)
          have B3 := Lib.hid (below_both B2.out hb)
          have S3 := Lib.hid (S2.out.next hb)
          have hs0 := S3.out.c0
          have hs1 := S3.out.c1
          have HBZ := Lib.hid B3.out.size
          clear hb O2 B2 S2 CA
          generalize wr.heap.size = g0 at hs0 hs1 S3 ⊢
          rcases last_cases U with rfl | ⟨I, t, rfl⟩
          · obtain ⟨p, c, hv⟩ := O3.out.shape
            subst hv
            have O3 : Hid (OutSp w1.heap.size w3 (.slice p 0 c) []) := O3
            have HST2 := Lib.hid (show [(a, z - 1)] = unionTo st (wthn L) (k + 1) by rw [HST.out, mstep_nil])
            clear HST
            go_wp2_with fail
            go_quiet (fail)
            generalize hq : Value.slice p 0 c = q at O3 ⊢
            clear hq
            go_wp2_with (at_builtin; refine wpList_appendSp (by rfl) (.tmp 69) (.tmp 71) (by rfl) (L := []) (p := a) (q := z - 1) (by rfl) (by rfl) (by exact O3.out) (below_drewN' B3.out _) HBZ.out (by simp) ?_; intro v' w' ho' hb')
            go_roundw
            case rel => exact ⟨k + 1, hlt, by go_num, by rw [← HST2.out]; exact ho', hb'⟩
            case measure => simp [intOf]; omega
          · obtain ⟨g, c, hv, hg, hgc, _, hgl⟩ := O3.out.block (by simp)
            obtain ⟨j, hj⟩ : ∃ j, j = I.length := ⟨_, rfl⟩
            have hml : (I ++ [t]).length = j + 1 := by simp [hj]
            rw [hml] at hv hgc
            subst hv
            have hgt : (I ++ [t]).getD j (0, 0) = t := by rw [hj]; simp
            have hcm := O3.out.cells hml j (by omega)
            rw [hgt] at hcm
            have hta := HAH.out t (by simp)
            obtain ⟨t1, t2⟩ := t
            have ht1 : w3.cell? ⟨g, j * 2 + 1, none⟩ = some (.int .i64 t2) := hcm.2
            have hfr := O3.out.frozen hml (j * 2 + 1)
            have htb : 0 ≤ t2 ∧ t2 ≤ 65535 ∧ t2 < a := by
              have := hta.1
              have h2 := hta.2
              unfold OkS at this
              dsimp only at this h2
              omega
            have hjk : j + 1 ≤ k := by have := HUL.out; rw [hml] at this; exact this
            have hji : (j : Int) + 1 ≤ 65536 := by omega
            have hpos : (0 : Int) < (j : Int) + 1 := by omega
            have hjlt : (j : Int) < (j : Int) + 1 := by omega
            have hwr1 := sub_one_wrap (k := j) (by omega)
            have hwr2 := add_one_wrap htb.1 htb.2.1
            have hwr3 := self_wrap (k := j) (by omega)
            have HG := Lib.hid hg
            have HJ : Hid (I.length + 1 = j + 1 ∧ (I ++ [(t1, t2)]).length + 1 ≤ 8796093022207) := ⟨by omega, by rw [hml]; omega⟩
            have HT : Hid (t2 < a) := htb.2.2
            by_cases hja : t2 + 1 = a
            · have HST2 := Lib.hid (show I ++ [(t1, z - 1)] = unionTo st (wthn L) (k + 1) by
                rw [HST.out, mstep_join (s := (a, z - 1)) (t := (t1, t2)) (by show a ≤ t2 + 1; omega)]
                have := hab.out
                rw [show max ((t1, t2) : Sp).2 ((a, z - 1) : Sp).2 = z - 1 from by show max t2 (z - 1) = z - 1; omega])
              have hjb : (t2 + 1 == a) = true := by rw [beq_iff_eq]; exact hja
              clear HST hja hgt hcm hml hgl hgc htb hg hj hta HAH
              go_wp2_with fail
              go_quiet (fail)
              have ht1 : (w3.drewN nq).cell? ⟨g, j * 2 + 1, none⟩ = some (.int .i64 t2) := ht1
              have hs1 : (w3.drewN nq).cell? ⟨g0, 1, none⟩ = some (.int .i64 (z - 1)) := hs1
              have hfr : (w3.drewN nq).frozen? ⟨g, j * 2 + 1, none⟩ = false := hfr
              have O4 : Hid (OutSp w1.heap.size (w3.drewN nq) (.slice (some ⟨g, 0, none⟩) (j + 1) c) (I ++ [(t1, t2)])) := O3.out
              have B4 : Hid (Below w1.heap.size w1 (w3.drewN nq)) := below_drewN' B3.out _
              generalize w3.drewN nq = Y at ht1 hs1 hfr O4 B4 ⊢
              have hm : I.length = j := by have := HJ.out.1; omega
              have hset := O4.out.setHi HJ.out.1 (z - 1)
              rw [hm] at hset
              have HS2 : Hid (OutSp w1.heap.size (Y.setCell ⟨g, j * 2 + 1, none⟩ (.int .i64 (z - 1))) (.slice (some ⟨g, 0, none⟩) (j + 1) c) (I ++ [(t1, z - 1)])) := hset
              have HB3 := Lib.hid (B4.out.setCell (p := ⟨g, j * 2 + 1, none⟩) HG.out (.int .i64 (z - 1)))
              clear hset hm hs0 O3 B3
              go_wp2_with fail
              go_roundw
              case rel => exact ⟨k + 1, hlt, by go_num, by rw [← HST2.out]; exact HS2.out, HB3.out⟩
              case measure => simp [intOf]; omega
            · have HST2 := Lib.hid (show I ++ [(t1, t2)] ++ [(a, z - 1)] = unionTo st (wthn L) (k + 1) by rw [HST.out]; exact (mstep_more (s := (a, z - 1)) (t := (t1, t2)) (by show ¬ a ≤ t2 + 1; omega)).symm)
              have hjb : (t2 + 1 == a) = false := by rw [beq_eq_false_iff_ne]; exact hja
              clear HST hja hgt hcm hml hgl hgc htb hg hj hta HAH
              go_wp2_with fail
              go_quiet (fail)
              generalize hq : Value.slice (some ⟨g, 0, none⟩) (j + 1) c = q at O3 ⊢
              clear hq hwr1 hwr2 hwr3 ht1 hfr hpos hji hjk hjlt hjb
              go_wp2_with (at_builtin; refine wpList_appendSp (by rfl) (.tmp 69) (.tmp 71) (by rfl) (L := I ++ [(t1, t2)]) (p := a) (q := z - 1) (by rfl) (by rfl) (by exact O3.out) (below_drewN' B3.out _) HBZ.out HJ.out.2 ?_; intro v' w' ho' hb')
              go_roundw
              case rel => exact ⟨k + 1, hlt, by go_num, by rw [← HST2.out]; exact ho', hb'⟩
              case measure => simp [intOf]; omega
      · rw [if_neg hl] at hpd
        obtain ⟨P, hP⟩ : ∃ P, P = pieceAt st k := ⟨_, rfl⟩
        rw [← hP] at hstep hah hpo hpd
        obtain ⟨a, h⟩ := P
        obtain ⟨a', ha'⟩ : ∃ a', a' = st.getD k 0 := ⟨_, rfl⟩
        rw [← ha'] at hc0 hpd
        obtain ⟨rfl, rfl⟩ : a = a' ∧ h = 65535 := by injection hpd with h1 h2; exact ⟨h1, h2⟩
        have hli : ¬ (k : Int) + 1 < (m : Int) := by omega
        clear hpd ha' hP hc hb1
        have hd : Below wr.heap.size wr (wr.alloc (.cells #[.int .i64 a, .int .i64 65535] 34)) := (Below.refl _ _).alloc (Nat.le_refl _) _
        have SX : SB (wr.alloc (.cells #[.int .i64 a, .int .i64 65535] 34)) wr.heap.size a (65535) := SB.new wr a 65535
        have hs0 := SX.c0
        have hs1 := SX.c1
        have O2 := Lib.hid (HO.out.below hd)
        have B2 := Lib.hid (below_both B.out hd)
        have S2 := Lib.hid SX
        have hab := Lib.hid (show a ≤ 65535 by unfold OkS at hpo; dsimp only at hpo; omega)
        have haw := Lib.hid (show 0 ≤ a ∧ a ≤ 65535 by unfold OkS at hpo; dsimp only at hpo; omega)
        have CA := Lib.hid (CW.out _ a B2.out)
        have hstep : unionTo st (wthn L) (k + 1) = if wthn L a = true then mstep (unionTo st (wthn L) k) (a, 65535) else unionTo st (wthn L) k := hstep
        obtain ⟨U, hU⟩ : ∃ U, U = unionTo st (wthn L) k := ⟨_, rfl⟩
        rw [← hU] at O2 hstep hah hul
        have HAH := Lib.hid hah
        have HUL := Lib.hid hul
        clear hd SX hU hah hul HO hpo
        cases hp : wthn L a
        · rw [hp] at CA hstep
          have HST := Lib.hid (show unionTo st (wthn L) (k + 1) = U from hstep)
          clear hp hstep HAH
          go_wp2_with fail
          refine CA.out.mono ?_
          rintro e w3 ⟨rfl, hb⟩
          have O3 := Lib.hid (O2.out.below hb)
          have B3 := Lib.hid (below_both B2.out hb)
          clear hb hs0 hs1
          go_wp2_with fail
          go_roundw
          case rel => exact ⟨k + 1, hlt, by go_num, by rw [HST.out]; exact O3.out, B3.out⟩
          case measure => simp [intOf]; omega
        · rw [hp] at CA hstep
          have HST := Lib.hid (show unionTo st (wthn L) (k + 1) = mstep U (a, 65535) from hstep)
          clear hp hstep
          go_wp2_with fail
          refine CA.out.mono ?_
          rintro e w3 ⟨rfl, hb⟩
          have O3 := Lib.hid (O2.out.below hb)
          have B3 := Lib.hid (below_both B2.out hb)
          have S3 := Lib.hid (S2.out.next hb)
          have hs0 := S3.out.c0
          have hs1 := S3.out.c1
          have HBZ := Lib.hid B3.out.size
          clear hb O2 B2 S2 CA
          generalize wr.heap.size = g0 at hs0 hs1 S3 ⊢
          rcases last_cases U with rfl | ⟨I, t, rfl⟩
          · obtain ⟨p, c, hv⟩ := O3.out.shape
            subst hv
            have O3 : Hid (OutSp w1.heap.size w3 (.slice p 0 c) []) := O3
            have HST2 := Lib.hid (show [(a, 65535)] = unionTo st (wthn L) (k + 1) by rw [HST.out, mstep_nil])
            clear HST
            go_wp2_with fail
            go_quiet (fail)
            generalize hq : Value.slice p 0 c = q at O3 ⊢
            clear hq
            go_wp2_with (at_builtin; refine wpList_appendSp (by rfl) (.tmp 69) (.tmp 71) (by rfl) (L := []) (p := a) (q := 65535) (by rfl) (by rfl) (by exact O3.out) (below_drewN' B3.out _) HBZ.out (by simp) ?_; intro v' w' ho' hb')
            go_roundw
            case rel => exact ⟨k + 1, hlt, by go_num, by rw [← HST2.out]; exact ho', hb'⟩
            case measure => simp [intOf]; omega
          · obtain ⟨g, c, hv, hg, hgc, _, hgl⟩ := O3.out.block (by simp)
            obtain ⟨j, hj⟩ : ∃ j, j = I.length := ⟨_, rfl⟩
            have hml : (I ++ [t]).length = j + 1 := by simp [hj]
            rw [hml] at hv hgc
            subst hv
            have hgt : (I ++ [t]).getD j (0, 0) = t := by rw [hj]; simp
            have hcm := O3.out.cells hml j (by omega)
            rw [hgt] at hcm
            have hta := HAH.out t (by simp)
            obtain ⟨t1, t2⟩ := t
            have ht1 : w3.cell? ⟨g, j * 2 + 1, none⟩ = some (.int .i64 t2) := hcm.2
            have hfr := O3.out.frozen hml (j * 2 + 1)
            have htb : 0 ≤ t2 ∧ t2 ≤ 65535 ∧ t2 < a := by
              have := hta.1
              have h2 := hta.2
              unfold OkS at this
              dsimp only at this h2
              omega
            have hjk : j + 1 ≤ k := by have := HUL.out; rw [hml] at this; exact this
            have hji : (j : Int) + 1 ≤ 65536 := by omega
            have hpos : (0 : Int) < (j : Int) + 1 := by omega
            have hjlt : (j : Int) < (j : Int) + 1 := by omega
            have hwr1 := sub_one_wrap (k := j) (by omega)
            have hwr2 := add_one_wrap htb.1 htb.2.1
            have hwr3 := self_wrap (k := j) (by omega)
            have HG := Lib.hid hg
            have HJ : Hid (I.length + 1 = j + 1 ∧ (I ++ [(t1, t2)]).length + 1 ≤ 8796093022207) := ⟨by omega, by rw [hml]; omega⟩
            have HT : Hid (t2 < a) := htb.2.2
            by_cases hja : t2 + 1 = a
            · have HST2 := Lib.hid (show I ++ [(t1, 65535)] = unionTo st (wthn L) (k + 1) by
                rw [HST.out, mstep_join (s := (a, 65535)) (t := (t1, t2)) (by show a ≤ t2 + 1; omega)]
                have := hab.out
                rw [show max ((t1, t2) : Sp).2 ((a, 65535) : Sp).2 = 65535 from by show max t2 (65535) = 65535; omega])
              have hjb : (t2 + 1 == a) = true := by rw [beq_iff_eq]; exact hja
              clear HST hja hgt hcm hml hgl hgc htb hg hj hta HAH
              go_wp2_with fail
              go_quiet (fail)
              have ht1 : (w3.drewN nq).cell? ⟨g, j * 2 + 1, none⟩ = some (.int .i64 t2) := ht1
              have hs1 : (w3.drewN nq).cell? ⟨g0, 1, none⟩ = some (.int .i64 (65535)) := hs1
              have hfr : (w3.drewN nq).frozen? ⟨g, j * 2 + 1, none⟩ = false := hfr
              have O4 : Hid (OutSp w1.heap.size (w3.drewN nq) (.slice (some ⟨g, 0, none⟩) (j + 1) c) (I ++ [(t1, t2)])) := O3.out
              have B4 : Hid (Below w1.heap.size w1 (w3.drewN nq)) := below_drewN' B3.out _
              generalize w3.drewN nq = Y at ht1 hs1 hfr O4 B4 ⊢
              have hm : I.length = j := by have := HJ.out.1; omega
              have hset := O4.out.setHi HJ.out.1 (65535)
              rw [hm] at hset
              have HS2 : Hid (OutSp w1.heap.size (Y.setCell ⟨g, j * 2 + 1, none⟩ (.int .i64 (65535))) (.slice (some ⟨g, 0, none⟩) (j + 1) c) (I ++ [(t1, 65535)])) := hset
              have HB3 := Lib.hid (B4.out.setCell (p := ⟨g, j * 2 + 1, none⟩) HG.out (.int .i64 (65535)))
              clear hset hm hs0 O3 B3
              go_wp2_with fail
              go_roundw
              case rel => exact ⟨k + 1, hlt, by go_num, by rw [← HST2.out]; exact HS2.out, HB3.out⟩
              case measure => simp [intOf]; omega
            · have HST2 := Lib.hid (show I ++ [(t1, t2)] ++ [(a, 65535)] = unionTo st (wthn L) (k + 1) by rw [HST.out]; exact (mstep_more (s := (a, 65535)) (t := (t1, t2)) (by show ¬ a ≤ t2 + 1; omega)).symm)
              have hjb : (t2 + 1 == a) = false := by rw [beq_eq_false_iff_ne]; exact hja
              clear HST hja hgt hcm hml hgl hgc htb hg hj hta HAH
              go_wp2_with fail
              go_quiet (fail)
              generalize hq : Value.slice (some ⟨g, 0, none⟩) (j + 1) c = q at O3 ⊢
              clear hq hwr1 hwr2 hwr3 ht1 hfr hpos hji hjk hjlt hjb
              go_wp2_with (at_builtin; refine wpList_appendSp (by rfl) (.tmp 69) (.tmp 71) (by rfl) (L := I ++ [(t1, t2)]) (p := a) (q := 65535) (by rfl) (by rfl) (by exact O3.out) (below_drewN' B3.out _) HBZ.out HJ.out.2 ?_; intro v' w' ho' hb')
              go_roundw
              case rel => exact ⟨k + 1, hlt, by go_num, by rw [← HST2.out]; exact ho', hb'⟩
              case measure => simp [intOf]; omega
    · obtain rfl : k = m := by omega
      have hO := HO.out
      rw [HM.out, unionTo_all] at hO
      have HO3 := Lib.hid hO
      have B3 := Lib.hid (below_both B0.out B.out)
      clear hO HO B hlt hk
      go_wp2_with fail
      go_ret2
      exact ⟨_, st, rfl, S.out, HO3.out.mono hB1, B3.out⟩
end Go.Proofs.YtngflfpannmjhaaGreatDoor
