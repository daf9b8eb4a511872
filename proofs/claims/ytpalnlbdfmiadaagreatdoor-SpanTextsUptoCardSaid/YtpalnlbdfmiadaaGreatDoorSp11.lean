/-
  Union where all spans may be.
-/
import Derived.Test.YtpalnlbdfmiadaaGreatDoorSp10
import Derived.StillTailTactics
import Derived.BigQuiet
namespace Go.Proofs.YtpalnlbdfmiadaaGreatDoor
open Go.RowKit Go.Shelf Go.Lib Go.Sort
set_option linter.unusedVariables false

theorem mstep_ok {out : List Sp} {s : Sp} (h : ∀ t ∈ out, OkS t) (hs : OkS s) : ∀ t ∈ mstep out s, OkS t := by
  rcases last_cases out with rfl | ⟨I, t, rfl⟩
  · intro u hu
    rw [mstep_nil, List.mem_singleton] at hu
    rw [hu]; exact hs
  · have ht := h t (by simp)
    intro u hu
    by_cases hj : s.1 ≤ t.2 + 1
    · rw [mstep_join hj, List.mem_append, List.mem_singleton] at hu
      rcases hu with hu | rfl
      · exact h u (by simp [hu])
      · unfold OkS at *
        dsimp only
        omega
    · rw [mstep_more hj, List.mem_append, List.mem_singleton] at hu
      rcases hu with hu | rfl
      · exact h u hu
      · exact hs
theorem fold_ok : ∀ (S out : List Sp), (∀ t ∈ out, OkS t) → (∀ s ∈ S, OkS s) → ∀ t ∈ S.foldl mstep out, OkS t
  | [], _, h, _ => h
  | s :: S, out, h, hS => fold_ok S _ (mstep_ok h (hS s (by simp))) fun t ht => hS t (List.mem_cons_of_mem _ ht)
theorem mstep_len (out : List Sp) (s : Sp) : (mstep out s).length ≤ out.length + 1 := by
  rcases last_cases out with rfl | ⟨I, t, rfl⟩
  · simp [mstep_nil]
  · by_cases hj : s.1 ≤ t.2 + 1
    · rw [mstep_join hj]; simp
    · rw [mstep_more hj]; simp
theorem fold_len : ∀ (S out : List Sp), (S.foldl mstep out).length ≤ out.length + S.length
  | [], out => by simp
  | s :: S, out => by
    have h1 := fold_len S (mstep out s)
    have h2 := mstep_len out s
    simp only [List.foldl_cons, List.length_cons]
    omega
def uniTo (S : List Sp) (k : Nat) : List Sp := (S.take k).foldl mstep []
theorem uniTo_len (S : List Sp) (k : Nat) : (uniTo S k).length ≤ k := by
  have := fold_len (S.take k) []
  have h2 : (S.take k).length ≤ k := by rw [List.length_take]; omega
  show ((S.take k).foldl mstep []).length ≤ k
  simp only [List.length_nil] at this
  omega
theorem uniTo_ok {S : List Sp} (h : ∀ s ∈ S, OkS s) (k : Nat) : ∀ t ∈ uniTo S k, OkS t := fold_ok _ _ (by simp) fun s hs => h s (List.mem_of_mem_take hs)
theorem uniTo_step {S : List Sp} {k : Nat} (h : k < S.length) : uniTo S (k + 1) = mstep (uniTo S k) (S.getD k (0, 0)) := by
  unfold uniTo
  rw [take_succ_sp S k h, List.foldl_append]
  rfl
theorem uniTo_all (S : List Sp) : uniTo S S.length = uni S := by
  unfold uniTo uni
  rw [List.take_length]
theorem OutSp.row {B : Nat} {w : World} {v : Value} {L : List Sp} (h : OutSp B w v L) (hb : ∀ s ∈ L, OkS s) : ∃ A c, v = .slice A L.length c ∧ SpRow w A L.length L := by
  obtain ⟨A, c, h1, _, h3⟩ := h.val (fun s hs => by have := hb s hs; unfold OkS at this; unfold I64; omega)
  exact ⟨A, c, h1, h3⟩
theorem sub_one_wrap {k : Nat} (h : (k : Int) ≤ 8796093022207) : IntKind.i64.wrap ((k : Int) + 1 - 1) = (k : Int) := by rw [IntKind.wrap_i64]; omega
theorem self_wrap {k : Nat} (h : (k : Int) ≤ 8796093022207) : IntKind.i64.wrap (k : Int) = (k : Int) := by rw [IntKind.wrap_i64]; omega
theorem add_one_wrap {x : Int} (h0 : 0 ≤ x) (h : x ≤ 65535) : IntKind.i64.wrap (x + 1) = x + 1 := by rw [IntKind.wrap_i64]; omega

set_option maxRecDepth 10000 in
set_option maxHeartbeats 3200000 in
theorem sunion_ok (A : Option Addr) (n cap : Nat) (L : List Sp) (w : World) (hn : n ≤ 8796093022206) (hA : SpRow w A n L) (hok : ∀ s ∈ L, OkS s) :
    Calls Tryz.prog 18 #[.slice A n cap] w fun e w' => ∃ v S, e = .returned (.tuple #[v, .int .i64 0]) ∧ SortedS L S ∧ OutSp w.heap.size w' v (uni S) ∧ Below w.heap.size w w' := by
  have hz : chkAll L = 0 := chkAll_ok fun s hs => chkS_ok.2 (hok s hs)
  have C := Lib.hid (scheckAll_any A n cap L w (by omega) hA)
  rw [hz] at C
  have CS := Lib.hid (fun w1 (hb : Below w.heap.size w w1) => ssorted_any A n cap L w1 (by omega) (hA.below hb))
  have HN : Hid (n ≤ 8796093022206 ∧ L.length = n) := ⟨hn, hA.len⟩
  have HOK := Lib.hid hok
  clear hz hA hok hn
  go_enter Tryz.func18, Tryz.ntmps18
  go_wp2_with fail
  refine C.out.mono ?_
  rintro e w1 ⟨rfl, hb⟩
  have B := Lib.hid hb
  clear hb C
  go_wp2_with fail
  refine (CS.out w1 B.out).mono ?_
  rintro e w2 ⟨v, S, rfl, hS, ho, hb⟩
  have hSok : ∀ s ∈ S, OkS s := fun s hs => HOK.out s (hS.perm.mem_iff.1 hs)
  obtain ⟨A2, c2, rfl, hrow⟩ := ho.row hSok
  have hSl : S.length = n := by rw [hS.perm.length_eq]; exact HN.out.2
  have HSL := Lib.hid hSl
  have HS := Lib.hid hS
  have HSK := Lib.hid hSok
  rw [hSl] at hrow ⊢
  have HR := Lib.hid hrow
  have B1 := Lib.hid (below_both B.out hb)
  clear hb hS ho hrow hSl hSok B CS
  have hB1 := B1.out.size
  have hni : (n : Int) ≤ 8796093022206 := by have := HN.out.1; omega
  go_wp2_with fail
  go_loopw [5, 17] (fun vo i wr => ∃ k : Nat, k ≤ n ∧ i = .int .i64 (k : Int) ∧ OutSp w2.heap.size wr vo (uniTo S k) ∧ Below w2.heap.size w2 wr) (fun _ i _ => n - (intOf i).toNat)
  case atStart => exact ⟨0, Nat.zero_le _, rfl, OutSp.nil _ _, Below.refl _ _⟩
  case round =>
    obtain ⟨k, hk, rfl, ho, hb⟩ := hrel
    have HO := Lib.hid ho
    have B := Lib.hid hb
    clear ho hb
    by_cases hlt : k < n
    · obtain ⟨b, o, rfl, hb1, hc⟩ := HR.out.addr (by omega)
      have hc0 := (B.out.cell (p := ⟨b, o + k * 2, none⟩) hb1).trans (hc k hlt).1
      have hc1 := (B.out.cell (p := ⟨b, o + k * 2 + 1, none⟩) hb1).trans (hc k hlt).2
      have hstep := uniTo_step (S := S) (k := k) (by rw [HSL.out]; exact hlt)
      have hlen := uniTo_len S k
      have hsok := HSK.out _ (sp_getD_mem (L := S) (i := k) (by rw [HSL.out]; exact hlt))
      have hin := uniTo_ok HSK.out k
      obtain ⟨x, hxe⟩ : ∃ x, x = S.getD k (0, 0) := ⟨_, rfl⟩
      rw [← hxe] at hc0 hc1 hstep hsok
      obtain ⟨x1, x2⟩ := x
      have hc0 : wr.cell? ⟨b, o + k * 2, none⟩ = some (.int .i64 x1) := hc0
      have hc1 : wr.cell? ⟨b, o + k * 2 + 1, none⟩ = some (.int .i64 x2) := hc1
      obtain ⟨out, hout⟩ : ∃ out, out = uniTo S k := ⟨_, rfl⟩
      rw [← hout] at HO hstep hlen hin
      have hst := SB.new wr x1 x2
      have HB2 := Lib.hid (B.out.alloc B.out.size (.cells #[.int .i64 x1, .int .i64 x2] 23))
      have HO2 := Lib.hid (HO.out.alloc (.cells #[.int .i64 x1, .int .i64 x2] 23))
      have hs0 := hst.c0
      have hs1 := hst.c1
      have HBS := Lib.hid B.out.size
      have HST := Lib.hid hstep
      rcases last_cases out with rfl | ⟨I, t, rfl⟩
      · obtain ⟨p, c, hv⟩ := HO2.out.shape
        subst hv
        have HO2 : Hid (OutSp w2.heap.size (wr.alloc (.cells #[.int .i64 x1, .int .i64 x2] 23)) (.slice p 0 c) []) := HO2
        have HST2 := Lib.hid (show [(x1, x2)] = uniTo S (k + 1) by rw [HST.out, mstep_nil])
        clear HST hstep hc hb1 hxe hout hin hsok hlen HO
        go_wp2_with fail
        clear hc0 hc1
        have HBZ : Hid (w2.heap.size ≤ (wr.alloc (.cells #[.int .i64 x1, .int .i64 x2] 23)).heap.size) := by have := HBS.out; show _ ≤ _; simp; omega
        generalize wr.alloc (.cells #[.int .i64 x1, .int .i64 x2] 23) = X at HO2 HB2 HBZ hs0 hs1 ⊢
        generalize wr.heap.size = g0 at hs0 hs1 ⊢
        generalize hq : Value.slice p 0 c = q at HO2 ⊢
        go_quiet (fail)
        go_wp2_with (at_builtin; refine wpList_appendSp (by rfl) (.tmp 51) (.tmp 53) (by rfl) (L := []) (p := x1) (q := x2) (by rfl) (by rfl) (by exact HO2.out) (below_drewN' HB2.out _) HBZ.out (by simp) ?_; intro v' w' ho' hb')
        go_roundw
        case rel => exact ⟨k + 1, hlt, by go_num, by rw [← HST2.out]; exact ho', hb'⟩
        case measure => simp [intOf]; omega
      · obtain ⟨g, c, hv, hg, hgc, _, hgl⟩ := HO2.out.block (by simp)
        obtain ⟨m, hm⟩ : ∃ m, m = I.length := ⟨_, rfl⟩
        have hml : (I ++ [t]).length = m + 1 := by simp [hm]
        rw [hml] at hv hgc
        subst hv
        have hgt : (I ++ [t]).getD m (0, 0) = t := by rw [hm]; simp
        have hcm := HO2.out.cells hml m (by omega)
        rw [hgt] at hcm
        obtain ⟨t1, t2⟩ := t
        have ht0 : (wr.alloc (.cells #[.int .i64 x1, .int .i64 x2] 23)).cell? ⟨g, m * 2, none⟩ = some (.int .i64 t1) := hcm.1
        have ht1 : (wr.alloc (.cells #[.int .i64 x1, .int .i64 x2] 23)).cell? ⟨g, m * 2 + 1, none⟩ = some (.int .i64 t2) := hcm.2
        have hfr := HO2.out.frozen hml (m * 2 + 1)
        have htok := hin (t1, t2) (by simp)
        have htb : 0 ≤ t2 ∧ t2 ≤ 65535 := by unfold OkS at htok; dsimp only at htok; omega
        have hxb : 0 ≤ x2 ∧ x2 ≤ 65535 := by unfold OkS at hsok; dsimp only at hsok; omega
        have hmk : m + 1 ≤ n := by rw [hml] at hlen; omega
        have hmi : (m : Int) + 1 ≤ 8796093022206 := by omega
        have hpos : (0 : Int) < (m : Int) + 1 := by omega
        have hwr1 := sub_one_wrap (k := m) (by omega)
        have hwr2 := add_one_wrap htb.1 htb.2
        have HBZ : Hid (w2.heap.size ≤ (wr.alloc (.cells #[.int .i64 x1, .int .i64 x2] 23)).heap.size) := by have := HBS.out; show _ ≤ _; simp; omega
        have HG := Lib.hid hg
        have HM : Hid (I.length + 1 = m + 1 ∧ (I ++ [(t1, t2)]).length + 1 ≤ 8796093022207) := ⟨by omega, by rw [hml]; omega⟩
        by_cases hj : x1 ≤ t2 + 1
        · have HST2 := Lib.hid (show I ++ [(t1, max t2 x2)] = uniTo S (k + 1) by rw [HST.out]; exact (mstep_join (s := (x1, x2)) (t := (t1, t2)) hj).symm)
          clear HST hstep hc hb1 hxe hout hin hsok hlen HO htok hgt hcm hml hgl hgc hxb hg hm
          go_wp2_with fail
          clear hc0 hc1
          generalize wr.alloc (.cells #[.int .i64 x1, .int .i64 x2] 23) = X at HO2 HB2 HBZ hs0 hs1 ht0 ht1 hfr ⊢
          generalize wr.heap.size = g0 at hs0 hs1 ⊢
          go_quiet (fail)
          have ht1 : (X.drewN nq).cell? ⟨g, m * 2 + 1, none⟩ = some (.int .i64 t2) := ht1
          have hs1 : (X.drewN nq).cell? ⟨g0, 1, none⟩ = some (.int .i64 x2) := hs1
          have hfr : (X.drewN nq).frozen? ⟨g, m * 2 + 1, none⟩ = false := hfr
          have HO2 : Hid (OutSp w2.heap.size (X.drewN nq) (.slice (some ⟨g, 0, none⟩) (m + 1) c) (I ++ [(t1, t2)])) := HO2.out
          have HB2 : Hid (Below w2.heap.size w2 (X.drewN nq)) := below_drewN' HB2.out _
          generalize X.drewN nq = Y at ht1 hs1 hfr HO2 HB2 ⊢
          clear ht0 hs0 HBZ
          have hwr3 := self_wrap (k := m) (by omega)
          have hmlt : (m : Int) < (m : Int) + 1 := by omega
          go_wp2_with fail
          refine wp_region_still_tail 14 (by kernel_rfl) (by kernel_rfl) ?_
          simp only [List.take_succ_cons, List.take_zero, List.drop_succ_cons, List.drop_zero]
          repeat still_step
          refine wpStill_nil ?_
          change wpList _ _ _ _ _ Y.drew
          have hf2 : (Y.drew).frozen? ⟨g, m * 2 + 1, none⟩ = false := hfr
          have hc2 : (Y.drew).cell? ⟨g, m * 2 + 1, none⟩ = some (.int .i64 t2) := ht1
          have hm : I.length = m := by have := HM.out.1; omega
          have hset := HO2.out.setHi HM.out.1 (max t2 x2)
          rw [hm] at hset
          have HS2 : Hid (OutSp w2.heap.size (Y.setCell ⟨g, m * 2 + 1, none⟩ (.int .i64 (max t2 x2))).drew (.slice (some ⟨g, 0, none⟩) (m + 1) c) (I ++ [(t1, max t2 x2)])) := hset
          have HB3 := Lib.hid (HB2.out.setCell (p := ⟨g, m * 2 + 1, none⟩) HG.out (.int .i64 (max t2 x2))).drew
          clear ht1 hs1 hfr hset hm hmlt hwr3 hwr1 hwr2
          go_wp2_with fail
          go_roundw
          case rel => exact ⟨k + 1, hlt, by go_num, by rw [← HST2.out]; exact HS2.out, HB3.out⟩
          case measure => simp [intOf]; omega
        · have HST2 := Lib.hid (show I ++ [(t1, t2)] ++ [(x1, x2)] = uniTo S (k + 1) by rw [HST.out]; exact (mstep_more (s := (x1, x2)) (t := (t1, t2)) hj).symm)
          have hj2 : t2 + 1 < x1 := by omega
          clear HST hstep hc hb1 hxe hout hin hsok hlen HO htok hgt hcm hml hgl hgc hxb hg hj hm
          go_wp2_with fail
          clear hc0 hc1
          generalize wr.alloc (.cells #[.int .i64 x1, .int .i64 x2] 23) = X at HO2 HB2 HBZ hs0 hs1 ht0 ht1 hfr ⊢
          generalize wr.heap.size = g0 at hs0 hs1 ⊢
          go_quiet (fail)
          generalize hq : Value.slice (some ⟨g, 0, none⟩) (m + 1) c = q at HO2 ⊢
          clear hq hwr1 hwr2 ht0 ht1 hfr hpos hmi htb hmk
          go_wp2_with (at_builtin; refine wpList_appendSp (by rfl) (.tmp 51) (.tmp 53) (by rfl) (L := I ++ [(t1, t2)]) (p := x1) (q := x2) (by rfl) (by rfl) (by exact HO2.out) (below_drewN' HB2.out _) HBZ.out HM.out.2 ?_; intro v' w' ho' hb')
          go_roundw
          case rel => exact ⟨k + 1, hlt, by go_num, by rw [← HST2.out]; exact ho', hb'⟩
          case measure => simp [intOf]; omega
    · obtain rfl : k = n := by omega
      have hO := HO.out
      rw [← HSL.out, uniTo_all] at hO
      have HO3 := Lib.hid hO
      have B3 := Lib.hid (B1.out.trans (B.out.mono hB1))
      clear hO HO B hlt hk
      go_wp2_with fail
      go_ret2
      exact ⟨_, S, rfl, HS.out, HO3.out.mono hB1, B3.out⟩
end Go.Proofs.YtpalnlbdfmiadaaGreatDoor
