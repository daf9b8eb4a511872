/-
  Rest.
-/
import Derived.Test.YtngflfpannmjhaaGreatDoorSp11
namespace Go.Proofs.YtngflfpannmjhaaGreatDoor
open Go.RowKit Go.Lib Go.Sort
set_option linter.unusedVariables false

theorem OutSp.far {B g i : Nat} {w : World} {v x : Value} {L : List Sp} (h : OutSp B w v L) (hg : v.ownBlock ≠ some g) : OutSp B (w.setCell ⟨g, i, none⟩ x) v L := by
  refine ⟨h.1, ?_⟩
  rcases h.2 with h2 | ⟨g', cap, cur, hv, hB, hh, r⟩
  · exact .inl h2
  · exact .inr ⟨g', cap, cur, hv, hB, (heap_setCell_other w _ _ _ (by
      show g' ≠ g
      intro e
      subst e
      subst hv
      exact hg rfl)).trans hh, r⟩
/-- 'append(out, s)' with the words on where the new slice lies. -/
theorem wpList_appendSp_at {ops : Array Oper} {rest : List Oper} {o : Oper} {a : Act} {Q : Exit → Act → World → Prop} (hgd : o.guard = none) (s x : Operand)
    (ho : o.op = .call { callee := .builtin .append, args := #[s, x], argTypes := #[22, 22] })
    {B : Nat} {wr : World} {v : Value} {L : List Sp} {p q : Int} (hs : a.eval s = v) (hx : a.eval x = .slice (some ⟨wr.heap.size, 0, none⟩) 1 1)
    (hown : OutSp B wr v L) (hB : B ≤ wr.heap.size) (hlen : L.length + 1 ≤ 8796093022207)
    (h : ∀ v' w', OutSp B w' v' (L ++ [(p, q)]) → wr.grownBy w' v.ownBlock → (v'.ownBlock = v.ownBlock ∨ v'.ownBlock = some (wr.heap.size + 1)) → wpList Tryz.prog ops Q rest (a.put o.dst v') w') : wpList Tryz.prog ops Q (o :: rest) a (wr.alloc (.cells #[.int .i64 p, .int .i64 q] 34)) := by
  obtain ⟨i0, h1, h2, h3, h4⟩ := info_parts span_info
  have hown' : (wr.alloc (.cells #[.int .i64 p, .int .i64 q] 34)).ownsRow B 34 2 v L.length (scells L) := World.ownsRow.alloc hown _
  refine wpList_append_own_at (P := Tryz.prog) (wr.alloc (.cells #[.int .i64 p, .int .i64 q] 34)) hgd s x 22 ho B 34 i0 _ 2 16 Tryz.underlying22 h1 h2 h3 h4 rfl (by decide) v L.length (scells L) hs hown'
    ⟨wr.heap.size, 0, none⟩ 1 1 [.int .i64 p, .int .i64 q] hx rfl (fun j u hj => by
      rw [add_flat, cell_of_row _ wr.heap.size (0 + j) _ _ _ (heap_alloc_new wr _), Nat.zero_add, ← Array.getElem?_toList]
      exact hj) (scells_one [(p, q)]) (by unfold maxLen; omega) (by omega) (by simp; omega) ?_
  intro v' w' ho' hg _ hat
  refine h v' w' ?_ ((World.grownBy_alloc wr _ _).trans hg) (by simpa using hat)
  unfold OutSp
  rw [List.length_append, scells_append]
  exact ho'

/-- What is left, and where the next begins: both boxed. -/
structure BoxS (B gO gN : Nat) (w : World) (L : List Sp) (v : Value) (x : Int) : Prop where
  box : w.heap[gO]? = some (.cells #[v] 22 (0, 0))
  nxt : w.heap[gN]? = some (.cells #[.int .i64 x] 3 (0, 0))
  own : OutSp B w v L
  apart : v.ownBlock ≠ some gO
  apartN : v.ownBlock ≠ some gN
  low : B ≤ gO
  lowN : B ≤ gN
  ne : gO ≠ gN
theorem BoxS.cell {B gO gN : Nat} {w : World} {L : List Sp} {v : Value} {x : Int} (h : BoxS B gO gN w L v x) : w.cell? ⟨gO, 0, none⟩ = some v := cell_of_row w _ _ _ _ _ h.box
theorem BoxS.frozen {B gO gN : Nat} {w : World} {L : List Sp} {v : Value} {x : Int} (h : BoxS B gO gN w L v x) : w.frozen? ⟨gO, 0, none⟩ = false := frozen_of_row w _ 0 _ _ h.box
theorem BoxS.cellN {B gO gN : Nat} {w : World} {L : List Sp} {v : Value} {x : Int} (h : BoxS B gO gN w L v x) : w.cell? ⟨gN, 0, none⟩ = some (.int .i64 x) := cell_of_row w _ _ _ _ _ h.nxt
theorem BoxS.frozenN {B gO gN : Nat} {w : World} {L : List Sp} {v : Value} {x : Int} (h : BoxS B gO gN w L v x) : w.frozen? ⟨gN, 0, none⟩ = false := frozen_of_row w _ 0 _ _ h.nxt
theorem BoxS.lt {B gO gN : Nat} {w : World} {L : List Sp} {v : Value} {x : Int} (h : BoxS B gO gN w L v x) : gO < w.heap.size := cell_lt (p := ⟨gO, 0, none⟩) h.cell
theorem BoxS.ltN {B gO gN : Nat} {w : World} {L : List Sp} {v : Value} {x : Int} (h : BoxS B gO gN w L v x) : gN < w.heap.size := cell_lt (p := ⟨gN, 0, none⟩) h.cellN
theorem BoxS.below {B gO gN : Nat} {w w' : World} {L : List Sp} {v : Value} {x : Int} (h : BoxS B gO gN w L v x) (hb : Below w.heap.size w w') : BoxS B gO gN w' L v x :=
  ⟨(hb.block gO h.lt).trans h.box, (hb.block gN h.ltN).trans h.nxt, h.own.below hb, h.apart, h.apartN, h.low, h.lowN, h.ne⟩
theorem BoxS.put {B gO gN : Nat} {w : World} {L : List Sp} {v : Value} {x : Int} (h : BoxS B gO gN w L v x) (y : Int) : BoxS B gO gN (w.setCell ⟨gN, 0, none⟩ (.int .i64 y)) L v y :=
  ⟨(heap_setCell_other w _ _ _ h.ne).trans h.box, heap_setCell_same w gN 0 _ _ _ h.nxt, h.own.far h.apartN, h.apart, h.apartN, h.low, h.lowN, h.ne⟩

set_option maxRecDepth 10000 in
theorem leave_yes (B gO gN : Nat) (e x : Int) (L : List Sp) (v : Value) (w : World) (h : BoxS B gO gN w L v x) (hx : x < e) (he0 : 0 ≤ e) (he : e ≤ 65536) (hl : L.length + 1 ≤ 8796093022207) :
    Calls Tryz.prog 40 #[.int .i64 e, .pointer (some ⟨gN, 0, none⟩), .pointer (some ⟨gO, 0, none⟩)] w fun r w' => r = .returned (.tuple #[]) ∧ (∃ v', BoxS B gO gN w' (L ++ [(x, e - 1)]) v' x) ∧ Below B w w' ∧ KeptBut w w' gO v := by
  have hc := h.cell
  have hf := h.frozen
  have hn := h.cellN
  have H := Lib.hid h
  have HL := Lib.hid hl
  have hw1 : IntKind.i64.wrap (e - 1) = e - 1 := by rw [IntKind.wrap_i64]; omega
  have hw2 : wrap64 (e - 1) = e - 1 := by unfold wrap64; omega
  clear h hl he0 he
  go_enter Tryz.func40, Tryz.ntmps40
  go_wp2_with (first
    | (at_builtin; refine wpList_appendSp_at (by rfl) (.tmp 7) (.tmp 12) (by rfl) (p := x) (q := e - 1) (by rfl) (by rfl) H.out.own (Nat.le_trans H.out.low (Nat.le_of_lt H.out.lt)) HL.out ?_
       intro v' w1 ho hg hat
       obtain ⟨g2, c2, hv2, hg2, _⟩ := ho.block (by simp)
       rw [show (L ++ [(x, e - 1)]).length = L.length + 1 from by simp] at hv2
       subst hv2
       have HG : Hid (w1.heap[gO]? = some (.cells #[v] 22 (0, 0))) := (hg.block gO H.out.lt (fun e => H.out.apart e.symm)).trans H.out.box
       have HN : Hid (w1.heap[gN]? = some (.cells #[.int .i64 x] 3 (0, 0))) := (hg.block gN H.out.ltN (fun e => H.out.apartN e.symm)).trans H.out.nxt
       have hc1 : w1.cell? ⟨gO, 0, none⟩ = some v := cell_of_row w1 _ _ _ _ _ HG.out
       have hf1 : w1.frozen? ⟨gO, 0, none⟩ = false := frozen_of_row w1 _ 0 _ _ HG.out
       have HO := Lib.hid ho
       have HA : Hid ((Value.slice (some ⟨g2, 0, none⟩) (L.length + 1) c2).ownBlock ≠ some gO) := by
         rcases hat with e | e
         · show _ ≠ _; rw [e]; exact H.out.apart
         · show _ ≠ _; rw [e]; intro e2; injection e2 with e2; have := H.out.lt; omega
       have HA2 : Hid ((Value.slice (some ⟨g2, 0, none⟩) (L.length + 1) c2).ownBlock ≠ some gN) := by
         rcases hat with e | e
         · show _ ≠ _; rw [e]; exact H.out.apartN
         · show _ ≠ _; rw [e]; intro e2; injection e2 with e2; have := H.out.ltN; omega
       have HB : Hid (Below B w w1) := (Below.refl B w).grown hg (Nat.le_trans H.out.low (Nat.le_of_lt H.out.lt)) (fun k hk => (World.ownsRow.lt H.out.own k hk).1)
       have HK : Hid (∀ k, k < w.heap.size → v.ownBlock ≠ some k → w1.heap[k]? = w.heap[k]?) := fun k hk hne => hg.block k hk (fun e => hne e.symm)
       clear hat ho hg hc hf hn hg2)
    | fail)
  go_end0
  refine ⟨rfl, ⟨_, heap_setCell_same w1 gO 0 _ _ _ HG.out, (heap_setCell_other w1 ⟨gO, 0, none⟩ gN _ (Ne.symm H.out.ne)).trans HN.out, HO.out.far HA.out, HA.out, HA2.out, H.out.low, H.out.lowN, H.out.ne⟩, HB.out.setCell (p := ⟨gO, 0, none⟩) H.out.low _, fun k hk hkg hne => (heap_setCell_other w1 ⟨gO, 0, none⟩ k _ hkg).trans (HK.out k hk hne)⟩
theorem leave_no (B gO gN : Nat) (e x : Int) (L : List Sp) (v : Value) (w : World) (h : BoxS B gO gN w L v x) (hx : e ≤ x) :
    Calls Tryz.prog 40 #[.int .i64 e, .pointer (some ⟨gN, 0, none⟩), .pointer (some ⟨gO, 0, none⟩)] w fun r w' => r = .returned (.tuple #[]) ∧ w = w' := by
  have hn := h.cellN
  clear h
  go_enter Tryz.func40, Tryz.ntmps40
  go_wp2_with fail
  go_end0
  exact ⟨rfl, rfl⟩
theorem leave_any (B gO gN : Nat) (e x : Int) (L : List Sp) (v : Value) (w : World) (h : BoxS B gO gN w L v x) (he0 : 0 ≤ e) (he : e ≤ 65536) (hl : L.length + 1 ≤ 8796093022207) :
    Calls Tryz.prog 40 #[.int .i64 e, .pointer (some ⟨gN, 0, none⟩), .pointer (some ⟨gO, 0, none⟩)] w fun r w' => r = .returned (.tuple #[]) ∧ (∃ v', BoxS B gO gN w' (L ++ if x < e then [(x, e - 1)] else []) v' x) ∧ Below B w w' ∧ KeptBut w w' gO v := by
  by_cases hx : x < e
  · rw [if_pos hx]
    exact leave_yes B gO gN e x L v w h hx he0 he hl
  · rw [if_neg hx, List.append_nil]
    refine (leave_no B gO gN e x L v w h (by omega)).mono ?_
    rintro r w' ⟨rfl, rfl⟩
    exact ⟨rfl, ⟨v, h⟩, Below.refl _ _, fun k _ _ _ => rfl⟩

set_option maxRecDepth 10000 in
theorem srest_bad (A : Option Addr) (n cap : Nat) (L : List Sp) (w : World) (hn : n ≤ 8796093022207) (hA : SpRow w A n L) (hbad : chkAll L ≠ 0) :
    Calls Tryz.prog 18 #[.slice A n cap] w fun e w' => e = .returned (.tuple #[.slice none 0 0, .int .i64 (chkAll L)]) ∧ Below w.heap.size w w' := by
  have C := Lib.hid (sunion_bad A n cap L w hn hA hbad)
  have hb1 : (chkAll L != 0) = true := by rw [bne_iff_ne]; exact hbad
  obtain ⟨c, hc⟩ : ∃ c, c = chkAll L := ⟨_, rfl⟩
  rw [← hc] at C hb1 ⊢
  clear hc hbad hA
  go_enter Tryz.func18, Tryz.ntmps18
  go_wp2_with fail
  refine C.out.mono ?_
  rintro e w1 ⟨rfl, hb⟩
  have B := Lib.hid hb
  clear hb
  go_wp2_with fail
  go_ret2
  exact ⟨rfl, B.out⟩
theorem drop_succ_sp (L : List Sp) (k : Nat) (h : k < L.length) : L.drop k = L.getD k (0, 0) :: L.drop (k + 1) := by
  rw [List.drop_eq_getElem_cons h, List.getD_eq_getElem?_getD, List.getElem?_eq_getElem h]
  rfl

set_option maxRecDepth 10000 in
set_option maxHeartbeats 3200000 in
theorem srest_ok (A : Option Addr) (n cap : Nat) (L : List Sp) (w : World) (hn : n ≤ 8796093022205) (hA : SpRow w A n L) (hok : ∀ s ∈ L, OkS s) :
    Calls Tryz.prog 18 #[.slice A n cap] w fun e w' => ∃ v S, e = .returned (.tuple #[v, .int .i64 0]) ∧ SortedS L S ∧ OutSp w.heap.size w' v (restFrom 0 (uni S)) ∧ Below w.heap.size w w' := by
  have C := Lib.hid (sunion_ok A n cap L w (by omega) hA hok)
  have HL := Lib.hid hA.len
  have HN := Lib.hid hn
  have HOK := Lib.hid hok
  clear hA hok hn
  go_enter Tryz.func18, Tryz.ntmps18
  go_wp2_with fail
  refine C.out.mono ?_
  rintro e w1 ⟨v1, S, rfl, hS, ho, hb⟩
  have HS := Lib.hid hS
  have hUok : ∀ s ∈ uni S, OkS s := fold_ok S [] (by simp) fun s hs => HOK.out s (hS.perm.mem_iff.1 hs)
  obtain ⟨U, hU⟩ : ∃ U, U = uni S := ⟨_, rfl⟩
  have hml : (uni S).length ≤ n := by
    rw [← uniTo_all]
    have := uniTo_len S S.length
    have h2 := hS.perm.length_eq
    have := HL.out
    omega
  rw [← hU] at ho hUok hml
  obtain ⟨A1, c1, rfl, hR⟩ := ho.row hUok
  obtain ⟨m, hm⟩ : ∃ m, m = U.length := ⟨_, rfl⟩
  rw [← hm] at hR hml ⊢
  have HM := Lib.hid hm
  have HU := Lib.hid hU
  have R := Lib.hid hR
  have HUK := Lib.hid hUok
  have B0 := Lib.hid hb
  have hmb : m ≤ 8796093022205 := by have := HN.out; omega
  have HMB := Lib.hid hmb
  have hmi : (m : Int) ≤ 8796093022205 := by omega
  have hs1 : (w1.alloc (.cells #[.slice none 0 0] 22)).heap.size = w1.heap.size + 1 := by simp
  have hx : BoxS w1.heap.size w1.heap.size (w1.heap.size + 1) ((w1.alloc (.cells #[.slice none 0 0] 22)).alloc (.cells #[.int .i64 0] 3)) [] (.slice none 0 0) 0 := by
    have h2 := heap_alloc_new (w1.alloc (.cells #[.slice none 0 0] 22)) (.cells #[.int .i64 0] 3)
    rw [hs1] at h2
    have h1 := heap_alloc_new w1 (.cells #[.slice none 0 0] 22)
    have h3 := (((Below.refl (w1.alloc (.cells #[.slice none 0 0] 22)).heap.size (w1.alloc (.cells #[.slice none 0 0] 22))).alloc (Nat.le_refl _) (.cells #[.int .i64 0] 3)).block w1.heap.size (by rw [hs1]; omega)).trans h1
    exact ⟨h3, h2, OutSp.nil _ _, (by intro e; cases e), (by intro e; cases e), Nat.le_refl _, by omega, by omega⟩
  have X := Lib.hid hx
  have B1 : Hid (Below w1.heap.size w1 ((w1.alloc (.cells #[.slice none 0 0] 22)).alloc (.cells #[.int .i64 0] 3))) := ((Below.refl _ _).alloc (Nat.le_refl _) _).alloc (by rw [hs1]; omega) _
  clear hS ho hUok hml hR hm hU hb hx hs1 C hmb
  go_wp2_with fail
  obtain ⟨gO, hgO⟩ : ∃ g, g = w1.heap.size := ⟨_, rfl⟩
  obtain ⟨gN, hgN⟩ : ∃ g, g = w1.heap.size + 1 := ⟨_, rfl⟩
  have X : Hid (BoxS w1.heap.size gO gN ((w1.alloc (.cells #[.slice none 0 0] 22)).alloc (.cells #[.int .i64 0] 3)) [] (.slice none 0 0) 0) := by rw [hgO, hgN]; exact X.out
  rw [← hgN, ← hgO]
  clear hgO hgN
  go_loopw [22] (fun i wr => ∃ (k : Nat) (O : List Sp) (v : Value) (x : Int), k ≤ m ∧ i = .int .i64 (k : Int) ∧ BoxS w1.heap.size gO gN wr O v x ∧ Hid (O ++ restFrom x (U.drop k) = restFrom 0 U) ∧ O.length ≤ k ∧ (0 ≤ x ∧ x ≤ 65536) ∧ Below w1.heap.size w1 wr) (fun i _ => m - (intOf i).toNat)
  case atStart => exact ⟨0, [], _, 0, Nat.zero_le _, rfl, X.out, rfl, Nat.le_refl _, by omega, B1.out⟩
  case round =>
    clear X B1
    obtain ⟨k, O, v, x, hk, rfl, hx, HF, hO, ⟨hx0, hx1⟩, hb⟩ := hrel
    have X := Lib.hid hx
    have B := Lib.hid hb
    have HO := Lib.hid (show O.length + 1 ≤ 8796093022207 by have := HMB.out; omega)
    clear hx hb
    by_cases hlt : k < m
    · obtain ⟨b, o, rfl, hb1, hc⟩ := R.out.addr (by omega)
      have hc0 := (B.out.cell (p := ⟨b, o + k * 2, none⟩) hb1).trans (hc k hlt).1
      have hc1 := (B.out.cell (p := ⟨b, o + k * 2 + 1, none⟩) hb1).trans (hc k hlt).2
      have hkU : k < U.length := by rw [← HM.out]; exact hlt
      have hsok := HUK.out _ (sp_getD_mem hkU)
      have hst := HF.out
      rw [drop_succ_sp U k hkU] at hst
      obtain ⟨s, hs⟩ : ∃ s, s = U.getD k (0, 0) := ⟨_, rfl⟩
      rw [← hs] at hc0 hc1 hsok hst
      obtain ⟨s1, s2⟩ := s
      have hc0 : wr.cell? ⟨b, o + k * 2, none⟩ = some (.int .i64 s1) := hc0
      have hc1 : wr.cell? ⟨b, o + k * 2 + 1, none⟩ = some (.int .i64 s2) := hc1
      have hsb : (0 ≤ s1 ∧ s1 ≤ 65535) ∧ 0 ≤ s2 ∧ s2 ≤ 65535 := by unfold OkS at hsok; dsimp only at hsok; omega
      obtain ⟨⟨q1, q2⟩, q3, q4⟩ := hsb
      have HST : Hid ((O ++ if x < s1 then [(x, s1 - 1)] else []) ++ restFrom (s2 + 1) (U.drop (k + 1)) = restFrom 0 U) := by
        show _ = _
        rw [← hst, List.append_assoc]
        rfl
      have HOL : Hid ((O ++ if x < s1 then [(x, s1 - 1)] else []).length ≤ k + 1) := by
        show _ ≤ _
        rw [List.length_append]
        have : (if x < s1 then [(x, s1 - 1)] else []).length ≤ 1 := by split <;> simp
        omega
      have hw1 := add_one_wrap q3 q4
      have hw2 : wrap64 (s2 + 1) = s2 + 1 := by unfold wrap64; omega
      have hd := (Below.refl wr.heap.size wr).alloc (Nat.le_refl _) (.cells #[.int .i64 s1, .int .i64 s2] 34)
      have X2 := Lib.hid (X.out.below hd)
      have B2 := Lib.hid (below_both B.out hd)
      have T := Lib.hid (SB.new wr s1 s2)
      have t0 := T.out.c0
      have hgs : wr.heap.size ≠ gO := by have := X.out.lt; omega
      have hvs : v.ownBlock ≠ some wr.heap.size := fun e => by have := (World.ownsRow.lt X.out.own _ e).2; omega
      have hvl : wr.heap.size < (wr.alloc (.cells #[.int .i64 s1, .int .i64 s2] 34)).heap.size := by simp
      have HW := Lib.hid (And.intro hvl (And.intro hgs hvs))
      have hgn : wr.heap.size ≠ gN := by have := X.out.ltN; omega
      clear hs hc hb1 hsok hst hd hgs hvs hvl HF hO hgn X B
      go_wp2_with fail
      refine (leave_any w1.heap.size gO gN s1 x O v _ X2.out (by omega) (by omega) HO.out).mono ?_
      rintro r w2 ⟨rfl, ⟨v2, hx2⟩, hb2, hk2⟩
      have T2 : Hid (SB w2 wr.heap.size s1 s2) := (hk2 _ HW.out.1 HW.out.2.1 HW.out.2.2).trans T.out
      have B3 := Lib.hid (B2.out.trans hb2)
      have X3 := Lib.hid hx2
      have X4 := Lib.hid (hx2.put (s2 + 1))
      have B4 := Lib.hid (B3.out.setCell (p := ⟨gN, 0, none⟩) hx2.lowN (.int .i64 (s2 + 1)))
      have t1 := T2.out.c1
      have n0 := hx2.cellN
      have nf := hx2.frozenN
      clear hx2 hb2 hk2 t0 X2 B2 T HW hc0 hc1
      go_wp2_with fail
      go_roundw
      case rel => exact ⟨k + 1, _, v2, s2 + 1, hlt, by go_num, X4.out, HST.out, HOL.out, by omega, B4.out⟩
      case measure => simp [intOf]; omega
    · obtain rfl : k = m := by omega
      have hst := HF.out
      rw [List.drop_of_length_le (by rw [HM.out]; exact Nat.le_refl _)] at hst
      have HE : Hid ((O ++ if x < 65536 then [(x, 65536 - 1)] else []) = restFrom 0 U) := by
        show _ = _
        rw [← hst]
        rfl
      have C := Lib.hid (leave_any w1.heap.size gO gN 65536 x O v wr X.out (by omega) (by omega) HO.out)
      rw [HE.out] at C
      clear hst HF hlt hk hO HE X
      go_wp2_with fail
      refine C.out.mono ?_
      rintro r w2 ⟨rfl, ⟨v2, hx2⟩, hb2, hk2⟩
      have B3 := Lib.hid (below_both B0.out (B.out.trans hb2))
      have HX := Lib.hid (hx2.own.mono B0.out.size)
      have n0 := hx2.cell
      rw [HU.out] at HX
      clear hx2 hb2 hk2 C B
      go_wp2_with fail
      go_ret2
      exact ⟨_, S, rfl, HS.out, HX.out, B3.out⟩
end Go.Proofs.YtngflfpannmjhaaGreatDoor
