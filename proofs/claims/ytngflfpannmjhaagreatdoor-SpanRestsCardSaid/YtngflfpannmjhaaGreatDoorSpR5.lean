/-
  The document's Rest.
-/
import Derived.Test.YtngflfpannmjhaaGreatDoorSpR4
import Derived.Test.YtngflfpannmjhaaGreatDoorSp15
namespace Go.Proofs.YtngflfpannmjhaaGreatDoor
open Go.RowKit Go.Lib Go.Sort
set_option linter.unusedVariables false

/-- The first pieces of which p holds. -/
def freeTo (st : List Int) (p : Int → Bool) (k : Nat) : List Sp := ((pieces st).take k).filter fun s => p s.1
theorem freeTo_step {st : List Int} {p : Int → Bool} {k : Nat} (h : k < st.length) : freeTo st p (k + 1) = if p (pieceAt st k).1 then freeTo st p k ++ [pieceAt st k] else freeTo st p k := by
  unfold freeTo
  rw [take_succ_sp _ k (by rw [pieces_length]; exact h), pieces_getD h, List.filter_append]
  cases hp : p (pieceAt st k).1 <;> simp [hp]
theorem freeTo_len (st : List Int) (p : Int → Bool) (k : Nat) : (freeTo st p k).length ≤ k := by
  unfold freeTo
  have h2 := List.length_filter_le (fun s : Sp => p s.1) ((pieces st).take k)
  have h3 : ((pieces st).take k).length ≤ k := by rw [List.length_take]; omega
  omega
theorem freeTo_ok {st : List Int} {L : List Sp} (h : Starts st L) (hL : ∀ s ∈ L, OkS s) (p : Int → Bool) (k : Nat) : ∀ s ∈ freeTo st p k, OkS s := by
  intro s hs
  obtain ⟨i, _, hi, rfl⟩ := mem_take_pieces (List.mem_filter.1 hs).1
  exact piece_ok h hL hi
theorem free_mem {st : List Int} {L : List Sp} (h : Starts st L) (hL : ∀ s ∈ L, OkS s) (n : Int) : mem (freeTo st (fun x => !wthn L x) st.length) n ↔ (0 ≤ n ∧ n ≤ 65535 ∧ ¬ mem L n) := by
  have e : freeTo st (fun x => !wthn L x) st.length = (pieces st).filter fun s => (fun x => !wthn L x) s.1 := by
    unfold freeTo
    rw [← pieces_length st, List.take_length]
  rw [e, ← (unionOf_uni h hL (fun x => !wthn L x)).mem n]
  refine unionOf_mem h hL (q := fun n => ¬ mem L n) (fun i hi n hn => ?_) n
  have h1 := piece_mem h hL hi hn
  have h2 := wthn_mem hL (pieceAt st i).1
  rw [h1, ← h2]
  simp
/-- What the program leaves and what the document leaves are one list. -/
theorem rest_same {st st' : List Int} {L S : List Sp} (h : Starts st L) (hL : ∀ s ∈ L, OkS s) (hS : SortedS L S) (h' : Starts st' (freeTo st (fun x => !wthn L x) st.length)) :
    restFrom 0 (uni S) = unionOf st' (wthn (freeTo st (fun x => !wthn L x) st.length)) := by
  have hSok : ∀ s ∈ S, OkS s := fun s hs => hL s (hS.perm.mem_iff.1 hs)
  have hu := uni_uni (S := S) (fun s hs => by have := hSok s hs; unfold OkS at this; omega) hS.up
  have hUok : ∀ s ∈ uni S, OkS s := fold_ok S [] (by simp) hSok
  obtain ⟨r1, r2, _⟩ := rest_is (uni S) 0 hu.norm hUok (fun s hs => by have := hUok s hs; unfold OkS at this; omega) (by omega) (Int.le_refl _)
  have hF := freeTo_ok h hL (fun x => !wthn L x) st.length
  refine norm_unique r1 (unionOf_uni h' hF _).norm fun n => ?_
  have e : mem (uni S) n ↔ mem L n := by rw [hu.mem]; exact ⟨fun ⟨s, hs, hi⟩ => ⟨s, hS.perm.mem_iff.1 hs, hi⟩, fun ⟨s, hs, hi⟩ => ⟨s, hS.perm.mem_iff.2 hs, hi⟩⟩
  rw [r2, e, unionOf_mem h' hF (q := fun n => mem (freeTo st (fun x => !wthn L x) st.length) n) (fun i hi n hn => by rw [wthn_mem hF]; exact (piece_mem h' hF hi hn).symm), free_mem h hL]
  constructor
  · rintro ⟨a, b, c⟩
    exact ⟨a, b, a, b, c⟩
  · rintro ⟨a, b, _, _, c⟩
    exact ⟨a, b, c⟩

set_option maxRecDepth 10000 in
theorem rrest_bad (A : Option Addr) (n cap : Nat) (L : List Sp) (w : World) (hn : n ≤ 8796093022206) (hA : SpRow w A n L) (hbad : chkAll L ≠ 0) :
    Calls Tryz.prog 19 #[.slice A n cap] w fun e w' => e = .returned (.tuple #[.slice none 0 0, .int .i64 (chkAll L)]) ∧ Below w.heap.size w w' := by
  have C := Lib.hid (rstarts_bad A n cap L w hn hA hbad)
  have hb1 : (chkAll L != 0) = true := by rw [bne_iff_ne]; exact hbad
  obtain ⟨c, hc⟩ : ∃ c, c = chkAll L := ⟨_, rfl⟩
  rw [← hc] at C hb1 ⊢
  clear hc hbad hA
  go_enter Tryz.func19, Tryz.ntmps19
  go_wp2_with fail
  refine C.out.mono ?_
  rintro e w1 ⟨rfl, hb⟩
  have B := Lib.hid hb
  clear hb
  go_wp2_with fail
  go_ret2
  exact ⟨rfl, B.out⟩

set_option maxRecDepth 10000 in
set_option maxHeartbeats 6400000 in
theorem rrest_ok (A : Option Addr) (n cap : Nat) (L : List Sp) (w : World) (hn : n ≤ 8796093022206) (hA : SpRow w A n L) (hok : ∀ s ∈ L, OkS s) :
    Calls Tryz.prog 19 #[.slice A n cap] w fun e w' => ∃ v st st', e = .returned (.tuple #[v, .int .i64 0]) ∧ Starts st L ∧ Starts st' (freeTo st (fun x => !wthn L x) st.length) ∧ OutSp w.heap.size w' v (unionOf st' (wthn (freeTo st (fun x => !wthn L x) st.length))) ∧ Below w.heap.size w w' := by
  have C := Lib.hid (rstarts_ok A n cap L w hn hA hok)
  have CW0 := Lib.hid (fun (W : World) (x : Int) (hb : Below w.heap.size w W) => rwithin_any A n cap L x W hn (hA.below hb))
  have HOK := Lib.hid hok
  clear hA hok hn
  go_enter Tryz.func19, Tryz.ntmps19
  go_wp2_with fail
  refine C.out.mono ?_
  rintro e w1 ⟨v, st, rfl, hS, hv, hb⟩
  have S := Lib.hid hS
  have CW := Lib.hid (fun (W : World) (x : Int) (hb2 : Below w1.heap.size w1 W) => CW0.out W x (below_both hb hb2))
  have B0 := Lib.hid hb
  have hlen := up_len st hS.up (hS.bounds HOK.out)
  have hbd := Lib.hid (hS.bounds HOK.out)
  obtain ⟨A2, c2, rfl, _, hR⟩ := hv
  have R := Lib.hid hR
  have hB1 := hb.size
  clear hS hb hR C CW0
  obtain ⟨m, hm⟩ : ∃ m, m = st.length := ⟨_, rfl⟩
  rw [← hm] at R hlen ⊢
  have HM := Lib.hid hm
  clear hm
  have hmi : (m : Int) ≤ 65536 := by omega
  have HLN := Lib.hid hlen
  go_wp2_with fail
  go_loopw [6, 7] (fun vo i wr => ∃ k : Nat, k ≤ m ∧ i = .int .i64 (k : Int) ∧ OutSp w1.heap.size wr vo (freeTo st (fun x => !wthn L x) k) ∧ Below w1.heap.size w1 wr) (fun _ i _ => m - (intOf i).toNat)
  case atStart => exact ⟨0, Nat.zero_le _, rfl, OutSp.nil _ _, Below.refl _ _⟩
  case round =>
    obtain ⟨k, hk, rfl, ho, hb⟩ := hrel
    have HO := Lib.hid ho
    have B := Lib.hid hb
    clear ho hb
    by_cases hlt : k < m
    · obtain ⟨b, o, rfl, hb1, hc⟩ := R.out.addr (by omega)
      have hks : k < st.length := by rw [← HM.out]; exact hlt
      have hstep := freeTo_step (p := fun x => !wthn L x) hks
      have hul := freeTo_len st (fun x => !wthn L x) k
      have hpd : pieceAt st k = (st.getD k 0, if k + 1 < st.length then st.getD (k + 1) 0 - 1 else 65535) := rfl
      rw [← HM.out] at hpd
      have hc0 := (B.out.cell (p := ⟨b, o + k, none⟩) hb1).trans (hc k hlt)
      have hw1 := add_one_wrap (x := (k : Int)) (by omega) (by omega)
      have u := k_wrap hlt (by omega)
      by_cases hl : k + 1 < m
      · have hc1 := (B.out.cell (p := ⟨b, o + (k + 1), none⟩) hb1).trans (hc (k + 1) hl)
        have hbn := hbd.out _ (getD_mem (by rw [← HM.out]; exact hl) : st.getD (k + 1) 0 ∈ st)
        rw [if_pos hl] at hpd
        obtain ⟨P, hP⟩ : ∃ P, P = pieceAt st k := ⟨_, rfl⟩
        rw [← hP] at hstep hpd
        obtain ⟨a, h⟩ := P
        obtain ⟨a', ha'⟩ : ∃ a', a' = st.getD k 0 := ⟨_, rfl⟩
        obtain ⟨z, hz⟩ : ∃ z, z = st.getD (k + 1) 0 := ⟨_, rfl⟩
        rw [← ha'] at hc0 hpd
        rw [← hz] at hc1 hbn hpd
        obtain ⟨rfl, rfl⟩ : a = a' ∧ h = z - 1 := by injection hpd with h1 h2; exact ⟨h1, h2⟩
        have hw2 := sub_wrap hbn.1 hbn.2
        have hli : (k : Int) + 1 < (m : Int) := by omega
        have hc2 : (wr.alloc (.cells #[.int .i64 a, .int .i64 65535] 34)).cell? ⟨b, o + (k + 1), none⟩ = some (.int .i64 z) := (World.cell?_alloc_lt wr _ ⟨b, o + (k + 1), none⟩ (cell_lt hc1)).trans hc1
        have hsa := (SB.new wr a 65535)
        have hfa := hsa.f 1
        have hca := hsa.c1
        clear hpd ha' hz hP hc hb1
        have hd : Below wr.heap.size wr (wr.alloc (.cells #[.int .i64 a, .int .i64 (z - 1)] 34)) := (Below.refl _ _).alloc (Nat.le_refl _) _
        have SX : SB (wr.alloc (.cells #[.int .i64 a, .int .i64 (z - 1)] 34)) wr.heap.size a (z - 1) := SB.new wr a (z - 1)
        have hs0 := SX.c0
        have hs1 := SX.c1
        have O2 := Lib.hid (HO.out.below hd)
        have B2 := Lib.hid (below_both B.out hd)
        have S2 := Lib.hid SX
        have CA := Lib.hid (CW.out _ a B2.out)
        have hstep : freeTo st (fun x => !wthn L x) (k + 1) = if (!wthn L a) = true then freeTo st (fun x => !wthn L x) k ++ [(a, z - 1)] else freeTo st (fun x => !wthn L x) k := hstep
        obtain ⟨U, hU⟩ : ∃ U, U = freeTo st (fun x => !wthn L x) k := ⟨_, rfl⟩
        rw [← hU] at O2 hstep hul
        have HUL := Lib.hid (show U.length + 1 ≤ 8796093022207 by omega)
        clear hd SX hU hul HO
        cases hp : wthn L a
        · rw [hp] at CA hstep
          have HST := Lib.hid (show freeTo st (fun x => !wthn L x) (k + 1) = U ++ [(a, z - 1)] from hstep)
          clear hp hstep
          go_wp2_with fail
          refine CA.out.mono ?_
          rintro e w3 ⟨rfl, hb⟩
          have O3 := Lib.hid (O2.out.below hb)
          have B3 := Lib.hid (below_both B2.out hb)
          have S3 := Lib.hid (S2.out.next hb)
          have hs0 := S3.out.c0
          have hs1 := S3.out.c1
          have HBZ := Lib.hid B3.out.size
          clear hb O2 B2 S2 CA
          generalize wr.heap.size = g0 at hs0 hs1 S3 ⊢
          go_wp2_with (at_builtin; refine wpList_appendSp (by rfl) (.tmp 45) (.tmp 47) (by rfl) (L := U) (p := a) (q := z - 1) (by rfl) (by rfl) O3.out B3.out HBZ.out HUL.out ?_; intro v' w' ho' hb')
          go_roundw
          case rel => exact ⟨k + 1, hlt, by go_num, by rw [HST.out]; exact ho', hb'⟩
          case measure => simp [intOf]; omega
        · rw [hp] at CA hstep
          have HST := Lib.hid (show freeTo st (fun x => !wthn L x) (k + 1) = U from hstep)
          clear hp hstep
          go_wp2_with fail
          refine CA.out.mono ?_
          rintro e w3 ⟨rfl, hb⟩
          have O3 := Lib.hid (O2.out.below hb)
          have B3 := Lib.hid (below_both B2.out hb)
          clear hb hs0 hs1
          go_wp2_with fail
          go_roundw
          case rel => exact ⟨k + 1, hlt, by go_num, by rw [HST.out]; exact O3.out, B3.out⟩
          case measure => simp [intOf]; omega
      · rw [if_neg hl] at hpd
        obtain ⟨P, hP⟩ : ∃ P, P = pieceAt st k := ⟨_, rfl⟩
        rw [← hP] at hstep hpd
        obtain ⟨a, h⟩ := P
        obtain ⟨a', ha'⟩ : ∃ a', a' = st.getD k 0 := ⟨_, rfl⟩
        rw [← ha'] at hc0 hpd
        obtain ⟨rfl, rfl⟩ : a = a' ∧ h = 65535 := by injection hpd with h1 h2; exact ⟨h1, h2⟩
        have hli : ¬ (k : Int) + 1 < (m : Int) := by omega
        clear hpd ha' hP hc hb1
        have hd : Below wr.heap.size wr (wr.alloc (.cells #[.int .i64 a, .int .i64 65535] 34)) := (Below.refl _ _).alloc (Nat.le_refl _) _
        have SX : SB (wr.alloc (.cells #[.int .i64 a, .int .i64 65535] 34)) wr.heap.size a (65535) := SB.new wr a (65535)
        have hs0 := SX.c0
        have hs1 := SX.c1
        have O2 := Lib.hid (HO.out.below hd)
        have B2 := Lib.hid (below_both B.out hd)
        have S2 := Lib.hid SX
        have CA := Lib.hid (CW.out _ a B2.out)
        have hstep : freeTo st (fun x => !wthn L x) (k + 1) = if (!wthn L a) = true then freeTo st (fun x => !wthn L x) k ++ [(a, 65535)] else freeTo st (fun x => !wthn L x) k := hstep
        obtain ⟨U, hU⟩ : ∃ U, U = freeTo st (fun x => !wthn L x) k := ⟨_, rfl⟩
        rw [← hU] at O2 hstep hul
        have HUL := Lib.hid (show U.length + 1 ≤ 8796093022207 by omega)
        clear hd SX hU hul HO
        cases hp : wthn L a
        · rw [hp] at CA hstep
          have HST := Lib.hid (show freeTo st (fun x => !wthn L x) (k + 1) = U ++ [(a, 65535)] from hstep)
          clear hp hstep
          go_wp2_with fail
          refine CA.out.mono ?_
          rintro e w3 ⟨rfl, hb⟩
          have O3 := Lib.hid (O2.out.below hb)
          have B3 := Lib.hid (below_both B2.out hb)
          have S3 := Lib.hid (S2.out.next hb)
          have hs0 := S3.out.c0
          have hs1 := S3.out.c1
          have HBZ := Lib.hid B3.out.size
          clear hb O2 B2 S2 CA
          generalize wr.heap.size = g0 at hs0 hs1 S3 ⊢
          go_wp2_with (at_builtin; refine wpList_appendSp (by rfl) (.tmp 45) (.tmp 47) (by rfl) (L := U) (p := a) (q := 65535) (by rfl) (by rfl) O3.out B3.out HBZ.out HUL.out ?_; intro v' w' ho' hb')
          go_roundw
          case rel => exact ⟨k + 1, hlt, by go_num, by rw [HST.out]; exact ho', hb'⟩
          case measure => simp [intOf]; omega
        · rw [hp] at CA hstep
          have HST := Lib.hid (show freeTo st (fun x => !wthn L x) (k + 1) = U from hstep)
          clear hp hstep
          go_wp2_with fail
          refine CA.out.mono ?_
          rintro e w3 ⟨rfl, hb⟩
          have O3 := Lib.hid (O2.out.below hb)
          have B3 := Lib.hid (below_both B2.out hb)
          clear hb hs0 hs1
          go_wp2_with fail
          go_roundw
          case rel => exact ⟨k + 1, hlt, by go_num, by rw [HST.out]; exact O3.out, B3.out⟩
          case measure => simp [intOf]; omega
    · obtain rfl : k = m := by omega
      have hO := HO.out
      have hF := freeTo_ok S.out HOK.out (fun x => !wthn L x) k
      have hfl := freeTo_len st (fun x => !wthn L x) k
      obtain ⟨A3, c3, rfl, hR3⟩ := hO.row hF
      have CU := Lib.hid (runion_ok A3 _ c3 _ wr (by have := HLN.out; omega) hR3 hF)
      have B3 := Lib.hid (below_both B0.out B.out)
      obtain ⟨F, hFe⟩ : ∃ F, F = freeTo st (fun x => !wthn L x) k := ⟨_, rfl⟩
      have HF : Hid (F = freeTo st (fun x => !wthn L x) st.length) := by show F = _; rw [← HM.out]; exact hFe
      rw [← hFe] at CU ⊢
      generalize F.length = q at CU ⊢
      clear hO HO B hlt hk hF hfl hR3 hFe
      go_wp2_with fail
      refine CU.out.mono ?_
      rintro e w3 ⟨v3, st', rfl, h3, ho, hb⟩
      have H3 := Lib.hid h3
      have O4 := Lib.hid (ho.mono B3.out.size)
      have B4 := Lib.hid (below_both B3.out hb)
      rw [HF.out] at H3 O4
      clear h3 ho hb CU
      go_wp2_with fail
      go_ret2
      exact ⟨_, st, st', rfl, S.out, H3.out, O4.out, B4.out⟩
end Go.Proofs.YtngflfpannmjhaaGreatDoor
