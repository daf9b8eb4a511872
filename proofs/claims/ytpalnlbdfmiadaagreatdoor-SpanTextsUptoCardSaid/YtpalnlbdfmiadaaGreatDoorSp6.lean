/-
  The library's sort, compaction and comparison, by the shelf's contracts.
  checkAll; what the library's compaction leaves of a sorted list; Starts.
  Starts: its closure, and the whole.
  Sort and Compact over a slice of the call's own; Starts.
-/
import Derived.Test.YtpalnlbdfmiadaaGreatDoorBase
import Derived.Shelf.Lay
import Derived.Shelf.Sort.Plain
import Derived.Shelf.Slices.CompactI
import Derived.Shelf.SlSortCmp.WholeK
import Derived.Shelf.SlicesG.Cmp
import Derived.Shelf.Small.Bits
import Derived.Ground.NamesProg
import Derived.Ground.Names2Prog
import Derived.Ground.SlsfProg
import Derived.Ground.SlgcProg
import Derived.Sort.OwnSortedInts
import Derived.Test.YtpalnlbdfmiadaaGreatDoorSp2
import Derived.Maps.AppendAt
namespace Go.Proofs.YtpalnlbdfmiadaaGreatDoor
open Go.Shelf Go.RowKit Go.Lib Go.Sort
set_option linter.unusedVariables false
shelf_lay Lays.n189 Nm 189 at Tryz as lays189
shelf_lay Lays2.n20 Nm2 20 at Tryz as laysCompact
shelf_lay_g SlLaysF0.n6 Slsf 6 at Tryz 65 as laysSortSpan
shelf_lay_g SlLaysC2.n5 Slgc 5 at Tryz 47 as laysCmpInt
end Go.Proofs.YtpalnlbdfmiadaaGreatDoor

namespace Go.Proofs.YtpalnlbdfmiadaaGreatDoor
open Go.RowKit Go.Lib Go.Sort
set_option linter.unusedVariables false

/-- What is wrong with the first span that may not be. -/
def chkAll : List Sp → Int
  | [] => 0
  | s :: L => if chkS s = 0 then chkAll L else chkS s
theorem chkAll_ok : ∀ {L : List Sp}, (∀ s ∈ L, chkS s = 0) → chkAll L = 0
  | [], _ => rfl
  | s :: L, h => by
    unfold chkAll
    rw [if_pos (h s (by simp))]
    exact chkAll_ok fun t ht => h t (List.mem_cons_of_mem _ ht)
theorem chkAll_first : ∀ {L : List Sp} {k : Nat}, (∀ i, i < k → chkS (L.getD i (0, 0)) = 0) → k < L.length → chkS (L.getD k (0, 0)) ≠ 0 → chkAll L = chkS (L.getD k (0, 0))
  | [], k, _, h, _ => absurd h (Nat.not_lt_zero _)
  | s :: L, 0, _, _, h => by
    unfold chkAll
    exact if_neg h
  | s :: L, k + 1, h, hk, hb => by
    unfold chkAll
    rw [if_pos (show chkS s = 0 from h 0 (Nat.succ_pos _))]
    exact chkAll_first (L := L) (fun i hi => h (i + 1) (by omega)) (by simpa using hk) hb
theorem chkAll_zero {L : List Sp} : chkAll L = 0 ↔ ∀ s ∈ L, chkS s = 0 := by
  induction L with
  | nil => simp [chkAll]
  | cons s L ih =>
    unfold chkAll
    by_cases h : chkS s = 0
    · rw [if_pos h, ih]
      simp [h]
    · rw [if_neg h]
      simp [h]
theorem all_of_getD {L : List Sp} {p : Sp → Prop} (h : ∀ i, i < L.length → p (L.getD i (0, 0))) : ∀ s ∈ L, p s := by
  intro s hs
  obtain ⟨i, hi, rfl⟩ := List.getElem_of_mem hs
  have := h i hi
  rw [List.getD_eq_getElem?_getD, List.getElem?_eq_getElem hi] at this
  exact this

set_option maxRecDepth 10000 in
set_option maxHeartbeats 800000 in
theorem scheckAll_any (A : Option Addr) (n cap : Nat) (L : List Sp) (w : World) (hn : n ≤ 8796093022207) (hA : SpRow w A n L) :
    Calls Tryz.prog 29 #[.slice A n cap] w fun e w' => e = .returned (.int .i64 (chkAll L)) ∧ Below w.heap.size w w' := by
  have hni : (n : Int) ≤ 8796093022207 := by omega
  have HA := Lib.hid hA
  have HL := Lib.hid hA.len
  have CK := Lib.hid (fun w a b => scheck_any a b w)
  clear hA hn
  go_enter Tryz.func29, Tryz.ntmps29
  go_wp2_with fail
  go_loopw [8] (fun i wr => ∃ k : Nat, k ≤ n ∧ i = .int .i64 (k : Int) ∧ Hid (∀ i, i < k → chkS (L.getD i (0, 0)) = 0) ∧ Below w.heap.size w wr) (fun i _ => n - (intOf i).toNat)
  case atStart => exact ⟨0, Nat.zero_le _, rfl, fun i hi => absurd hi (Nat.not_lt_zero _), Below.refl _ _⟩
  case round =>
    obtain ⟨k, hk, rfl, HK, hb⟩ := hrel
    have B := Lib.hid hb
    clear hb
    by_cases hlt : k < n
    · obtain ⟨b, o, rfl, hb1, hc⟩ := HA.out.addr (by omega)
      have hc0 := (B.out.cell (p := ⟨b, o + k * 2, none⟩) hb1).trans (hc k hlt).1
      have hc1 := (B.out.cell (p := ⟨b, o + k * 2 + 1, none⟩) hb1).trans (hc k hlt).2
      have HB2 : Hid (chkS (L.getD k (0, 0)) ≠ 0 → chkAll L = chkS (L.getD k (0, 0))) := fun h => chkAll_first HK.out (by rw [HL.out]; exact hlt) h
      have HK2 : Hid (chkS (L.getD k (0, 0)) = 0 → ∀ i, i < k + 1 → chkS (L.getD i (0, 0)) = 0) := fun h i hi => by
        rcases Nat.lt_or_ge i k with h1 | h1
        · exact HK.out i h1
        · obtain rfl : i = k := by omega
          exact h
      have CX := Lib.hid (fun w => CK.out w (L.getD k (0, 0)).1 (L.getD k (0, 0)).2)
      obtain ⟨x, hx⟩ : ∃ x, x = L.getD k (0, 0) := ⟨_, rfl⟩
      rw [← hx] at hc0 hc1 HB2 HK2 CX
      obtain ⟨x1, x2⟩ := x
      have hc0 : wr.cell? ⟨b, o + k * 2, none⟩ = some (.int .i64 x1) := hc0
      have hc1 : wr.cell? ⟨b, o + k * 2 + 1, none⟩ = some (.int .i64 x2) := hc1
      have CX : Hid (∀ w, Calls Tryz.prog 9 #[.agg #[.int .i64 x1, .int .i64 x2]] w fun e w' => e = .returned (.int .i64 (chkS (x1, x2))) ∧ Below w.heap.size w w') := CX.out
      obtain ⟨c, hcq⟩ : ∃ c, c = chkS (x1, x2) := ⟨_, rfl⟩
      rw [← hcq] at HB2 HK2 CX
      clear hx hc hb1 HK hcq
      go_wp2_with fail
      have B := Lib.hid (B.out.alloc B.out.size (.cells #[.int .i64 x1, .int .i64 x2] 23))
      refine (CX.out _).mono ?_
      rintro e w1 ⟨rfl, hb⟩
      have B := Lib.hid (below_both B.out hb)
      clear hb hc0 hc1
      by_cases h0 : c = 0
      · have HK3 := Lib.hid (HK2.out h0)
        have hb1 : (c != 0) = false := by rw [bne_eq_false_iff_eq]; exact h0
        clear h0 HB2 HK2
        go_wp2_with fail
        go_roundw
        case rel => exact ⟨k + 1, hlt, by go_num, HK3.out, B.out⟩
        case measure => simp [intOf]; omega
      · have hb1 : (c != 0) = true := by rw [bne_iff_ne]; exact h0
        have HE := Lib.hid (HB2.out h0)
        clear h0 HB2 HK2
        go_wp2_with fail
        go_ret
        exact ⟨by rw [HE.out]; rfl, B.out⟩
    · obtain rfl : k = n := by omega
      have e : chkAll L = 0 := chkAll_ok (all_of_getD fun i hi => HK.out i (by rw [← HL.out]; exact hi))
      have HE := Lib.hid e
      clear hlt hk HK e
      go_wp2_with fail
      go_ret
      exact ⟨by rw [HE.out]; rfl, B.out⟩

/-! ### compaction of a sorted list -/
theorem arr_getD (zs : List Int) (j : Nat) : zs.toArray[j]! = zs.getD j 0 := by
  rw [List.getD_eq_getElem?_getD]
  simp [getElem!_def]
  cases zs[j]? <;> rfl
theorem compactUpTo_sorted (zs : List Int) (hs : zs.Pairwise (· ≤ ·)) : ∀ m, m ≤ zs.length → (compactUpTo zs.toArray m).Pairwise (· < ·) ∧ ∀ x, x ∈ compactUpTo zs.toArray m ↔ ∃ j, j < m ∧ zs.getD j 0 = x := by
  have hle : ∀ i j, i ≤ j → j < zs.length → zs.getD i 0 ≤ zs.getD j 0 := fun i j hij hj => by
    rcases Nat.lt_or_ge i j with h | h
    · rw [List.getD_eq_getElem?_getD, List.getD_eq_getElem?_getD, List.getElem?_eq_getElem (by omega), List.getElem?_eq_getElem hj]
      exact List.pairwise_iff_getElem.1 hs i j (by omega) hj h
    · have : i = j := by omega
      subst this; exact Int.le_refl _
  intro m
  induction m with
  | zero => intro _; exact ⟨by simp [compactUpTo], fun x => by simp [compactUpTo]⟩
  | succ m ih =>
    intro hm
    obtain ⟨h1, h2⟩ := ih (by omega)
    rw [compactUpTo_succ]
    by_cases hk : keeps zs.toArray m = true
    · rw [if_pos hk, arr_getD]
      have hlt : ∀ x ∈ compactUpTo zs.toArray m, x < zs.getD m 0 := fun x hx => by
        obtain ⟨j, hj, rfl⟩ := (h2 x).1 hx
        have hm0 : m ≠ 0 := by omega
        have hne : zs.getD m 0 ≠ zs.getD (m - 1) 0 := by
          unfold keeps at hk
          have := of_decide_eq_true hk
          rw [arr_getD, arr_getD] at this
          exact this.resolve_left hm0
        have a1 := hle j (m - 1) (by omega) (by omega)
        have a2 := hle (m - 1) m (by omega) (by omega)
        omega
      refine ⟨List.pairwise_append.2 ⟨h1, List.pairwise_singleton _ _, fun a ha b hb => by rw [List.mem_singleton.1 hb]; exact hlt a ha⟩, fun x => ?_⟩
      rw [List.mem_append, h2 x, List.mem_singleton]
      constructor
      · rintro (⟨j, hj, e⟩ | e)
        · exact ⟨j, by omega, e⟩
        · exact ⟨m, by omega, e.symm⟩
      · rintro ⟨j, hj, e⟩
        rcases Nat.lt_or_ge j m with h | h
        · exact .inl ⟨j, h, e⟩
        · have : j = m := by omega
          subst this; exact .inr e.symm
    · rw [if_neg hk, List.append_nil]
      refine ⟨h1, fun x => ?_⟩
      rw [h2 x]
      have hm1 : ¬ (m = 0 ∨ zs.getD m 0 ≠ zs.getD (m - 1) 0) := fun h => hk (by unfold keeps; rw [arr_getD, arr_getD]; exact decide_eq_true h)
      constructor
      · rintro ⟨j, hj, e⟩
        exact ⟨j, by omega, e⟩
      · rintro ⟨j, hj, e⟩
        rcases Nat.lt_or_ge j m with h | h
        · exact ⟨j, h, e⟩
        · have hjm : j = m := by omega
          subst hjm
          refine ⟨j - 1, by omega, ?_⟩
          have : zs.getD j 0 = zs.getD (j - 1) 0 := Classical.byContradiction fun hne => hm1 (.inr hne)
          rw [← this]; exact e
def sortI (zs : List Int) : List Int := zs.mergeSort fun x y => decide (x ≤ y)
theorem sortI_perm (zs : List Int) : (sortI zs).Perm zs := List.mergeSort_perm _ _
theorem sortI_sorted (zs : List Int) : (sortI zs).Pairwise (· ≤ ·) := by
  have h := List.pairwise_mergeSort (le := fun x y : Int => decide (x ≤ y)) (by intro a b c; simp; omega) (by intro a b; simp; omega) zs
  exact h.imp fun h => by simpa using h
theorem starts_of (L : List Sp) {M : List Int} (h : M.Perm (marks L)) : Starts (compact (sortI M)) L := by
  obtain ⟨h1, h2⟩ := compactUpTo_sorted (sortI M) (sortI_sorted M) _ (Nat.le_refl _)
  refine ⟨h1, fun x => ?_⟩
  show x ∈ compactUpTo (sortI M).toArray (sortI M).length ↔ _
  rw [h2 x, ← h.mem_iff, ← (sortI_perm M).mem_iff]
  constructor
  · rintro ⟨j, hj, rfl⟩
    exact getD_mem hj
  · exact mem_getD
end Go.Proofs.YtpalnlbdfmiadaaGreatDoor

namespace Go.Proofs.YtpalnlbdfmiadaaGreatDoor
open Go.RowKit Go.Lib Go.Sort
set_option linter.unusedVariables false

/-- A slice's variable, boxed: it holds a slice of ints that the call appends to, in another block. -/
structure BoxZ (B g : Nat) (w : World) (L : List Int) (v : Value) : Prop where
  box : w.heap[g]? = some (.cells #[v] 47 (0, 0))
  own : OutZ B w v L
  apart : v.ownBlock ≠ some g
  low : B ≤ g
theorem BoxZ.cell {B g : Nat} {w : World} {L : List Int} {v : Value} (h : BoxZ B g w L v) : w.cell? ⟨g, 0, none⟩ = some v := cell_of_row w _ _ _ _ _ h.box
theorem BoxZ.frozen {B g : Nat} {w : World} {L : List Int} {v : Value} (h : BoxZ B g w L v) : w.frozen? ⟨g, 0, none⟩ = false := frozen_of_row w _ 0 _ _ h.box
theorem BoxZ.lt {B g : Nat} {w : World} {L : List Int} {v : Value} (h : BoxZ B g w L v) : g < w.heap.size := cell_lt (p := ⟨g, 0, none⟩) h.cell
theorem BoxZ.below {B g : Nat} {w w' : World} {L : List Int} {v : Value} (h : BoxZ B g w L v) (hb : Below w.heap.size w w') : BoxZ B g w' L v := ⟨(hb.block g h.lt).trans h.box, h.own.below hb, h.apart, h.low⟩
theorem OutZ.far {B g i : Nat} {w : World} {v x : Value} {xs : List Int} (h : OutZ B w v xs) (hg : v.ownBlock ≠ some g) : OutZ B (w.setCell ⟨g, i, none⟩ x) v xs := by
  refine ⟨h.1, ?_⟩
  rcases h.2 with h2 | ⟨g', cap, cur, hv, hB, hh, r⟩
  · exact .inl h2
  · exact .inr ⟨g', cap, cur, hv, hB, (heap_setCell_other w _ _ _ (by
      show g' ≠ g
      intro e
      subst e
      subst hv
      exact hg rfl)).trans hh, r⟩
/-- 'append(out, x ..)' with the words on where the new slice lies. -/
theorem wpList_appendZ_at {ops : Array Oper} {rest : List Oper} {o : Oper} {a : Act} {Q : Exit → Act → World → Prop} (hgd : o.guard = none) (s x : Operand)
    (ho : o.op = .call { callee := .builtin .append, args := #[s, x], argTypes := #[47, 47] })
    {B : Nat} {wr : World} {v : Value} {xs news : List Int} (cs : Array Value) (m : Nat) (hs : a.eval s = v) (hx : a.eval x = .slice (some ⟨wr.heap.size, 0, none⟩) m m)
    (hcs : cs.toList = cellsZ news) (hm : news.length = m) (hown : OutZ B wr v xs) (hB : B ≤ wr.heap.size) (hlen : xs.length + m ≤ 17592186044416)
    (h : ∀ v' w', OutZ B w' v' (xs ++ news) → wr.grownBy w' v.ownBlock → (v'.ownBlock = v.ownBlock ∨ v'.ownBlock = some (wr.heap.size + 1)) → wpList Tryz.prog ops Q rest (a.put o.dst v') w') : wpList Tryz.prog ops Q (o :: rest) a (wr.alloc (.cells cs 3)) := by
  obtain ⟨i0, h1, h2, h3, h4⟩ := i64_partsZ
  have hown' : (wr.alloc (.cells cs 3)).ownsRow B 3 1 v xs.length (cellsZ xs) := World.ownsRow.alloc hown _
  refine wpList_append_own_at (P := Tryz.prog) (wr.alloc (.cells cs 3)) hgd s x 47 ho B 3 i0 (.int .i64 0) 1 8 Tryz.underlying47 h1 h2 h3 h4 rfl (by decide) v xs.length (cellsZ xs) hs hown'
    ⟨wr.heap.size, 0, none⟩ m m (cellsZ news) hx (by rw [cellsZ_length, hm, Nat.mul_one]) (fun j u hj => by
      rw [add_flat, cell_of_row _ wr.heap.size (0 + j) cs _ _ (heap_alloc_new wr _), Nat.zero_add, ← Array.getElem?_toList, hcs]
      exact hj) (cellsZ_one news) (by unfold maxLen; omega) (by omega) (by simp; omega) ?_
  intro v' w' ho hg _ hat
  refine h v' w' ?_ ((World.grownBy_alloc wr _ _).trans hg) (by simpa using hat)
  unfold OutZ
  rw [List.length_append, hm]
  simpa [cellsZ] using ho

/-- All blocks but two are as they were. -/
def KeptBut (w w' : World) (g : Nat) (v : Value) : Prop := ∀ k, k < w.heap.size → k ≠ g → v.ownBlock ≠ some k → w'.heap[k]? = w.heap[k]?
set_option maxRecDepth 10000 in
theorem mark_yes (B g : Nat) (n : Int) (L : List Int) (v : Value) (w : World) (h : BoxZ B g w L v) (h0 : 0 ≤ n) (h1 : n ≤ 65535) (hl : L.length + 1 ≤ 17592186044416) :
    Calls Tryz.prog 31 #[.int .i64 n, .pointer (some ⟨g, 0, none⟩)] w fun e w' => e = .returned (.tuple #[]) ∧ (∃ v', BoxZ B g w' (L ++ [n]) v') ∧ Below B w w' ∧ KeptBut w w' g v := by
  have C := Lib.hid (fun w => port_yes n w h0 h1)
  have hc := h.cell
  have hf := h.frozen
  have H := Lib.hid h
  clear h
  go_enter Tryz.func31, Tryz.ntmps31
  go_wp2_with (first
    | (go_at_call 24; refine (C.out _).mono ?_; rintro e w' ⟨rfl, rfl⟩)
    | (at_builtin; refine wpList_appendZ_at (by rfl) (.tmp 5) (.tmp 7) (by rfl) (news := [n]) _ 1 (by rfl) (by rfl) (by rfl) (by rfl) H.out.own (Nat.le_trans H.out.low (Nat.le_of_lt H.out.lt)) hl ?_
       intro v' w1 ho hg hat
       obtain ⟨g2, c2, hv2, hg2⟩ := ho.block (by simp)
       rw [show (L ++ [n]).length = L.length + 1 from by simp] at hv2
       subst hv2
       have HG : Hid (w1.heap[g]? = some (.cells #[v] 47 (0, 0))) := (hg.block g H.out.lt (fun e => H.out.apart e.symm)).trans H.out.box
       have hc1 : w1.cell? ⟨g, 0, none⟩ = some v := cell_of_row w1 _ _ _ _ _ HG.out
       have hf1 : w1.frozen? ⟨g, 0, none⟩ = false := frozen_of_row w1 _ 0 _ _ HG.out
       have HO := Lib.hid ho
       have HA : Hid ((Value.slice (some ⟨g2, 0, none⟩) (L.length + 1) c2).ownBlock ≠ some g) := by
         rcases hat with e | e
         · show _ ≠ _; rw [e]; exact H.out.apart
         · show _ ≠ _; rw [e]; intro e2; injection e2 with e2; have := H.out.lt; omega
       have HB : Hid (Below B w w1) := (Below.refl B w).grown hg (Nat.le_trans H.out.low (Nat.le_of_lt H.out.lt)) (fun k hk => (World.ownsRow.lt H.out.own k hk).1)
       have HK : Hid (∀ k, k < w.heap.size → v.ownBlock ≠ some k → w1.heap[k]? = w.heap[k]?) := fun k hk hne => hg.block k hk (fun e => hne e.symm)
       clear hat ho hg hc hf hg2)
    | fail)
  go_end0
  refine ⟨rfl, ⟨_, ?_, HO.out.far HA.out, HA.out, H.out.low⟩, HB.out.setCell (p := ⟨g, 0, none⟩) H.out.low _, fun k hk hkg hne => (heap_setCell_other w1 ⟨g, 0, none⟩ k _ hkg).trans (HK.out k hk hne)⟩
  exact heap_setCell_same w1 g 0 _ _ _ HG.out
theorem mark_no (g : Nat) (n : Int) (w : World) (h : ¬ (0 ≤ n ∧ n ≤ 65535)) :
    Calls Tryz.prog 31 #[.int .i64 n, .pointer (some ⟨g, 0, none⟩)] w fun e w' => e = .returned (.tuple #[]) ∧ w = w' := by
  have C := Lib.hid (fun w => port_no n w h)
  go_enter Tryz.func31, Tryz.ntmps31
  go_wp2_with (first | (go_at_call 24; refine (C.out _).mono ?_; rintro e w' ⟨rfl, rfl⟩) | fail)
  go_end0
  exact ⟨rfl, rfl⟩
/-- A mark, whatever the number. -/
theorem mark_any (B g : Nat) (n : Int) (L : List Int) (v : Value) (w : World) (h : BoxZ B g w L v) (hl : L.length + 1 ≤ 17592186044416) :
    Calls Tryz.prog 31 #[.int .i64 n, .pointer (some ⟨g, 0, none⟩)] w fun e w' => e = .returned (.tuple #[]) ∧ (∃ v', BoxZ B g w' (L ++ if 0 ≤ n ∧ n ≤ 65535 then [n] else []) v') ∧ Below B w w' ∧ KeptBut w w' g v := by
  by_cases hp : 0 ≤ n ∧ n ≤ 65535
  · rw [if_pos hp]
    exact mark_yes B g n L v w h hp.1 hp.2 hl
  · rw [if_neg hp, List.append_nil]
    refine (mark_no g n w hp).mono ?_
    rintro e w' ⟨rfl, rfl⟩
    exact ⟨rfl, ⟨v, h⟩, Below.refl _ _, fun k _ _ _ => rfl⟩

/-- The marks of the first k spans. -/
def marksTo (L : List Sp) (k : Nat) : List Int := marks (L.take k)
theorem marks_step {L : List Sp} (s : Sp) (hs : OkS s) : (marks L ++ if 0 ≤ s.1 ∧ s.1 ≤ 65535 then [s.1] else []) ++ (if 0 ≤ s.2 + 1 ∧ s.2 + 1 ≤ 65535 then [s.2 + 1] else []) = marks (L ++ [s]) := by
  unfold OkS at hs
  unfold marks
  rw [if_pos (by omega), List.flatMap_append]
  by_cases h : s.2 + 1 ≤ 65535
  · rw [if_pos ⟨by omega, h⟩]; simp [h]
  · rw [if_neg (fun h2 => h h2.2)]; simp [h]
theorem take_succ_sp (L : List Sp) (k : Nat) (h : k < L.length) : L.take (k + 1) = L.take k ++ [L.getD k (0, 0)] := by
  rw [List.getD_eq_getElem?_getD, List.getElem?_eq_getElem h]
  exact List.take_succ_eq_append_getElem h
theorem marks_length (L : List Sp) : (marks L).length ≤ 1 + 2 * L.length := by
  induction L with
  | nil => simp [marks]
  | cons s L ih =>
    unfold marks at *
    rw [List.flatMap_cons, List.length_cons, List.length_append]
    rw [List.length_cons] at ih
    have : (if s.2 + 1 ≤ 65535 then [s.1, s.2 + 1] else [s.1]).length ≤ 2 := by split <;> simp
    rw [List.length_cons]
    omega
theorem marks_i64 {L : List Sp} (h : ∀ s ∈ L, OkS s) : ∀ x ∈ marks L, -9223372036854775808 ≤ x ∧ x ≤ 9223372036854775807 := by
  intro x hx
  rcases mem_marks.1 hx with rfl | ⟨s, hs, hx⟩
  · omega
  · have := h s hs
    unfold OkS at this
    omega
end Go.Proofs.YtpalnlbdfmiadaaGreatDoor

namespace Go.Proofs.YtpalnlbdfmiadaaGreatDoor
open Go.RowKit Go.Lib Go.Sort
set_option linter.unusedVariables false

theorem cellsZ_map (xs : List Int) : cellsZ xs = xs.map (Value.int .i64) := rfl
theorem OutZ.block2 {B : Nat} {w : World} {v : Value} {xs : List Int} (h : OutZ B w v xs) (h0 : 0 < xs.length) : ∃ g c, v = .slice (some ⟨g, 0, none⟩) xs.length c ∧ B ≤ g ∧ xs.length ≤ c ∧ c ≤ maxLen ∧ g < w.heap.size := by
  obtain ⟨g, c, rfl, h1, h2, h3⟩ := h.block h0
  exact ⟨g, c, rfl, h1, h2, h3, (World.ownsRow.lt h g rfl).2⟩
theorem OutZ.len {B g n c : Nat} {w : World} {xs : List Int} (h : OutZ B w (.slice (some ⟨g, 0, none⟩) n c) xs) : xs.length = n := by
  rcases h.2 with ⟨h2, _⟩ | ⟨g', cap, cur, hv, _⟩
  · cases h2
  · injection hv with _ h2
    exact h2.symm
theorem ssort_own (B g c n : Nat) (xs : List Int) (w : World) (h : OutZ B w (.slice (some ⟨g, 0, none⟩) n c) xs) (hn : xs.length = n) (hl : n < 4611686018427387904) :
    Calls Tryz.prog 32 #[.slice (some ⟨g, 0, none⟩) n c] w fun e w' => e = .returned (.tuple #[]) ∧ OutZ B w' (.slice (some ⟨g, 0, none⟩) n c) (sortI xs) ∧ w.grownBy w' (some g) := by
  subst hn
  obtain ⟨h1, h2 | ⟨g', cap, cur, hv, hB, hh, h4, h5, hs, ht⟩⟩ := h
  · cases h2.1
  · injection hv with e1 e2 e3
    injection e1 with e1
    injection e1 with e1 _
    subst e1 e3
    have hlt : g < w.heap.size := by
      rcases Nat.lt_or_ge g w.heap.size with hlt | hge
      · exact hlt
      · rw [Array.getElem?_eq_none hge] at hh; cases hh
    rw [Nat.mul_one] at ht
    refine (show Calls Tryz.prog 32 #[.slice (some ⟨g, 0, none⟩) xs.length c] w _ from Any.slices_Sort_int lays189 g 0 c xs w (holds_of_blockI hh ht) hlt hl).mono ?_
    rintro e w' ⟨rfl, m, os, rfl⟩
    have hlen : (sortI xs).length = xs.length := (sortI_perm xs).length_eq
    refine ⟨rfl, ?_, grownBy_sortedI _⟩
    have h := ownsRow_sortedI (w := w) (base := B) (g := g) (cap := c) (n := m) (os := os) (ss := xs) (ts := sortI xs) hlen hB hh h4 h5 hs
    unfold OutZ
    rw [hlen]
    exact h
theorem heap_putI {w : World} {g n : Nat} {cur : Array Value} {e : TypeId} {fr : Nat × Nat} (d : Array Int) (hb : w.heap[g]? = some (.cells cur e fr)) :
    (putRow (Value.int .i64) (Sort.ahead w n) g 0 d).heap[g]? = some (.cells (putCells (Value.int .i64) 0 d cur) e fr) := by
  simp [putRow, mapBlock, Sort.ahead, Array.getElem?_modify, hb, onCells]
theorem grownBy_putI {w : World} {g n : Nat} (d : Array Int) : w.grownBy (putRow (Value.int .i64) (Sort.ahead w n) g 0 d) (some g) := by
  refine ⟨rfl, rfl, rfl, by simp, fun k hk hne => ?_⟩
  have : g ≠ k := fun e => hne (by rw [e])
  simp [putRow, mapBlock, Sort.ahead, Array.getElem?_modify, this]
theorem compact_le (xs : List Int) : (compact xs).length ≤ xs.length := by
  unfold compact compactUpTo
  rw [List.length_map]
  refine Nat.le_trans (List.length_filter_le _ _) ?_
  simp
theorem scompact_own (B g c n : Nat) (xs : List Int) (w : World) (h : OutZ B w (.slice (some ⟨g, 0, none⟩) n c) xs) (hn : xs.length = n) (hl : n ≤ 9223372036854775807) :
    Calls Tryz.prog 33 #[.slice (some ⟨g, 0, none⟩) n c] w fun e w' => e = .returned (.slice (some ⟨g, 0, none⟩) (compact xs).length c) ∧ OutZ B w' (.slice (some ⟨g, 0, none⟩) (compact xs).length c) (compact xs) ∧ w.grownBy w' (some g) := by
  subst hn
  obtain ⟨h1, h2 | ⟨g', cap, cur, hv, hB, hh, h4, h5, hs, ht⟩⟩ := h
  · cases h2.1
  · injection hv with e1 e2 e3
    injection e1 with e1
    injection e1 with e1 _
    subst e1 e3
    rw [Nat.mul_one] at ht hs
    refine (show Calls Tryz.prog 33 #[.slice (some ⟨g, 0, none⟩) xs.length c] w _ from Any.slices_Compact_int laysCompact g 0 c xs w (holds_of_blockI hh ht) hl h4).mono ?_
    rintro e w' ⟨rfl, m, rfl⟩
    refine ⟨rfl, ⟨by simp [cellsZ_length], .inr ⟨g, c, _, rfl, hB, heap_putI _ hh, Nat.le_trans (compact_le xs) h4, h5, by simp [putCells, hs], ?_⟩⟩, grownBy_putI _⟩
    have hll := compact_le xs
    have htk := take_putCellsI cur (compact xs ++ List.replicate (xs.length - (compact xs).length) 0) (by simp; omega)
    rw [Nat.mul_one]
    have e2 : (compact xs ++ List.replicate (xs.length - (compact xs).length) 0).length = xs.length := by simp; omega
    rw [e2] at htk
    have e3 : (putCells (Value.int .i64) 0 (compact xs ++ List.replicate (xs.length - (compact xs).length) 0).toArray cur).toList.take (compact xs).length = ((putCells (Value.int .i64) 0 (compact xs ++ List.replicate (xs.length - (compact xs).length) 0).toArray cur).toList.take xs.length).take (compact xs).length := by
      rw [List.take_take, Nat.min_eq_left hll]
    rw [e3, htk, List.map_append, List.take_append_of_le_length (by simp)]
    rw [List.take_of_length_le (by simp), cellsZ_map]

set_option maxRecDepth 10000 in
theorem sstarts_bad (A : Option Addr) (n cap : Nat) (L : List Sp) (w : World) (hn : n ≤ 8796093022207) (hA : SpRow w A n L) (hbad : chkAll L ≠ 0) :
    Calls Tryz.prog 19 #[.slice A n cap] w fun e w' => e = .returned (.tuple #[.slice none 0 0, .int .i64 (chkAll L)]) ∧ Below w.heap.size w w' := by
  have C := Lib.hid (scheckAll_any A n cap L w hn hA)
  have hb1 : (chkAll L != 0) = true := by rw [bne_iff_ne]; exact hbad
  obtain ⟨c, hc⟩ : ∃ c, c = chkAll L := ⟨_, rfl⟩
  rw [← hc] at C hb1 ⊢
  clear hc hbad hA
  go_enter Tryz.func19, Tryz.ntmps19
  go_wp2_with fail
  refine C.out.mono ?_
  rintro e w1 ⟨rfl, hb⟩
  have B := Lib.hid hb
  clear hb
  go_wp2_with fail
  go_ret2
  exact ⟨rfl, B.out⟩

set_option maxRecDepth 10000 in
set_option maxHeartbeats 1600000 in
theorem sstarts_ok (A : Option Addr) (n cap : Nat) (L : List Sp) (w : World) (hn : n ≤ 8796093021952) (hA : SpRow w A n L) (hok : ∀ s ∈ L, OkS s) :
    Calls Tryz.prog 19 #[.slice A n cap] w fun e w' => ∃ v st, e = .returned (.tuple #[v, .int .i64 0]) ∧ Starts st L ∧ OutZ w.heap.size w' v st ∧ Below w.heap.size w w' := by
  have hz : chkAll L = 0 := chkAll_ok fun s hs => chkS_ok.2 (hok s hs)
  have C := Lib.hid (scheckAll_any A n cap L w (by omega) hA)
  rw [hz] at C
  have HA := Lib.hid hA
  have HL := Lib.hid hA.len
  have HOK := Lib.hid hok
  have hni : (n : Int) ≤ 8796093021952 := by omega
  have HN := Lib.hid hn
  clear hz hA hok hn
  go_enter Tryz.func19, Tryz.ntmps19
  go_wp2_with fail
  refine C.out.mono ?_
  rintro e w1 ⟨rfl, hb⟩
  have B := Lib.hid hb
  clear hb C
  go_wp2_with fail
  have hs1 : (w1.alloc (.cells #[.int .i64 0] 3)).heap.size = w1.heap.size + 1 := by simp
  have hbx : BoxZ w.heap.size (w1.heap.size + 1) ((w1.alloc (.cells #[.int .i64 0] 3)).alloc (.cells #[.slice (some ⟨w1.heap.size, 0, none⟩) 1 1] 47)) (marksTo L 0) (.slice (some ⟨w1.heap.size, 0, none⟩) 1 1) := by
    have hbox := heap_alloc_new (w1.alloc (.cells #[.int .i64 0] 3)) (.cells #[.slice (some ⟨w1.heap.size, 0, none⟩) 1 1] 47)
    rw [hs1] at hbox
    refine ⟨hbox, ((OwnZ.new w1 [0]).outv B.out.size (by simp [maxLen])).alloc _, ?_, by have := B.out.size; omega⟩
    intro e
    have e2 : w1.heap.size = w1.heap.size + 1 := Option.some.inj e
    omega
  have HX := Lib.hid hbx
  have HB : Hid (Below w.heap.size w ((w1.alloc (.cells #[.int .i64 0] 3)).alloc (.cells #[.slice (some ⟨w1.heap.size, 0, none⟩) 1 1] 47))) := (B.out.alloc B.out.size _).alloc (by rw [hs1]; have := B.out.size; omega) _
  clear hbx hs1
  obtain ⟨g, hg⟩ : ∃ g, g = w1.heap.size + 1 := ⟨_, rfl⟩
  rw [← hg] at HX ⊢
  clear hg B
  go_loopw [18] (fun i wr => ∃ k : Nat, k ≤ n ∧ i = .int .i64 (k : Int) ∧ (∃ v, BoxZ w.heap.size g wr (marksTo L k) v) ∧ Below w.heap.size w wr) (fun i _ => n - (intOf i).toNat)
  case atStart => exact ⟨0, Nat.zero_le _, rfl, ⟨_, HX.out⟩, HB.out⟩
  case round =>
    clear HX HB
    obtain ⟨k, hk, rfl, ⟨v, hx⟩, hb⟩ := hrel
    have HX := Lib.hid hx
    have B := Lib.hid hb
    clear hx hb
    by_cases hlt : k < n
    · obtain ⟨b, o, rfl, hb1, hc⟩ := HA.out.addr (by omega)
      have hc0 := (B.out.cell (p := ⟨b, o + k * 2, none⟩) hb1).trans (hc k hlt).1
      have hc1 := (B.out.cell (p := ⟨b, o + k * 2 + 1, none⟩) hb1).trans (hc k hlt).2
      have hkl : k < L.length := by rw [HL.out]; exact hlt
      have hsok := HOK.out _ (sp_getD_mem hkl)
      have hst := marks_step (L := L.take k) _ hsok
      rw [← take_succ_sp L k hkl] at hst
      have hml := marks_length (L.take k)
      have hml2 : (L.take k).length = k := by rw [List.length_take]; omega
      have HM1 : Hid ((marksTo L k).length + 1 ≤ 17592186044416) := by have := HN.out; show (marks (L.take k)).length + 1 ≤ _; omega
      have HM2 : Hid ((marksTo L k ++ if 0 ≤ (L.getD k (0, 0)).1 ∧ (L.getD k (0, 0)).1 ≤ 65535 then [(L.getD k (0, 0)).1] else []).length + 1 ≤ 17592186044416) := by
        have := HN.out
        show (marks (L.take k) ++ _).length + 1 ≤ _
        rw [List.length_append]
        have : (if 0 ≤ (L.getD k (0, 0)).1 ∧ (L.getD k (0, 0)).1 ≤ 65535 then [(L.getD k (0, 0)).1] else []).length ≤ 1 := by split <;> simp
        omega
      obtain ⟨x, hxe⟩ : ∃ x, x = L.getD k (0, 0) := ⟨_, rfl⟩
      rw [← hxe] at hc0 hc1 hst HM2 hsok
      obtain ⟨x1, x2⟩ := x
      have hc0 : wr.cell? ⟨b, o + k * 2, none⟩ = some (.int .i64 x1) := hc0
      have hc1 : wr.cell? ⟨b, o + k * 2 + 1, none⟩ = some (.int .i64 x2) := hc1
      have HST : Hid ((marksTo L k ++ if 0 ≤ x1 ∧ x1 ≤ 65535 then [x1] else []) ++ (if 0 ≤ x2 + 1 ∧ x2 + 1 ≤ 65535 then [x2 + 1] else []) = marksTo L (k + 1)) := hst
      have hx2a : -1 ≤ x2 ∧ x2 ≤ 65535 := by unfold OkS at hsok; dsimp only at hsok; omega
      obtain ⟨hx2l, hx2h⟩ := hx2a
      clear hxe hc hb1 hst hml hml2 hsok
      go_wp2_with fail
      have HX2 := Lib.hid (HX.out.below ((Below.refl _ _).alloc (Nat.le_refl _) (.cells #[.int .i64 x1, .int .i64 x2] 23)))
      have S := Lib.hid (SB.new wr x1 x2)
      have B := Lib.hid (B.out.alloc B.out.size (.cells #[.int .i64 x1, .int .i64 x2] 23))
      clear hc0 hc1
      have hgs : wr.heap.size ≠ g := by have := HX.out.lt; omega
      have hvs : v.ownBlock ≠ some wr.heap.size := fun e => by have := (World.ownsRow.lt HX.out.own _ e).2; omega
      have hvl : wr.heap.size < (wr.alloc (.cells #[.int .i64 x1, .int .i64 x2] 23)).heap.size := by simp
      refine (mark_any w.heap.size g x1 _ v _ HX2.out HM1.out).mono ?_
      rintro e w2 ⟨rfl, ⟨v2, hx2⟩, hb2, hk2⟩
      have S2 : Hid (SB w2 wr.heap.size x1 x2) := (hk2 _ hvl hgs hvs).trans S.out
      have HX3 := Lib.hid hx2
      have B := Lib.hid (B.out.trans hb2)
      have s0 := S2.out.c0
      have s1 := S2.out.c1
      have hw : wrap64 (x2 + 1) = x2 + 1 := by unfold wrap64; omega
      clear hx2 hb2 hk2 hgs hvs hvl HX2 S
      go_wp2_with fail
      refine (mark_any w.heap.size g (x2 + 1) _ v2 _ HX3.out HM2.out).mono ?_
      rintro e w3 ⟨rfl, ⟨v3, hx3⟩, hb3, _⟩
      rw [HST.out] at hx3
      have HX4 := Lib.hid hx3
      have B := Lib.hid (B.out.trans hb3)
      clear hx3 hb3 s0 s1 hw
      go_wp2_with fail
      go_roundw
      case rel => exact ⟨k + 1, hlt, by go_num, ⟨_, HX4.out⟩, B.out⟩
      case measure => simp [intOf]; omega
    · obtain rfl : k = n := by omega
      have hml : marksTo L k = marks L := by show marks (L.take k) = marks L; rw [List.take_of_length_le (by rw [HL.out]; exact Nat.le_refl _)]
      rw [hml] at HX
      have hmn := marks_length L
      have hN := HN.out
      have hLl := HL.out
      obtain ⟨gv, cv, rfl, hBv, hcv, hcm, hgl⟩ := HX.out.own.block2 (by simp [marks])
      obtain ⟨m, hm⟩ : ∃ m, m = (marks L).length := ⟨_, rfl⟩
      rw [← hm] at HX hcv
      have hmb : m ≤ 17592186044416 := by omega
      have HP := Lib.hid (starts_of L (List.Perm.refl (marks L)))
      have hap : gv ≠ g := fun e => HX.out.apart (by rw [e]; rfl)
      have CS := Lib.hid (ssort_own w.heap.size gv cv m (marks L) wr HX.out.own hm.symm (by omega))
      have hc0 := HX.out.cell
      clear hml hmn hm hlt hk
      go_wp2_with fail
      refine CS.out.mono ?_
      rintro e w2 ⟨rfl, ho2, hg2⟩
      have hbx2 : w2.heap[g]? = some (.cells #[.slice (some ⟨gv, 0, none⟩) m cv] 47 (0, 0)) := (hg2.block g HX.out.lt (fun e => hap (Option.some.inj e).symm)).trans HX.out.box
      have hc2 : w2.cell? ⟨g, 0, none⟩ = some (.slice (some ⟨gv, 0, none⟩) m cv) := cell_of_row w2 _ _ _ _ _ hbx2
      have HO2 := Lib.hid ho2
      have B := Lib.hid (B.out.grown hg2 B.out.size (fun q hq => by have := Option.some.inj hq; omega))
      have CC := Lib.hid (scompact_own w.heap.size gv cv m (sortI (marks L)) w2 ho2 (by
        have := (sortI_perm (marks L)).length_eq
        have h3 := ho2.len
        omega) (by omega))
      clear hc0 hbx2 ho2 hg2 CS
      go_wp2_with fail
      refine CC.out.mono ?_
      rintro e w3 ⟨rfl, ho3, hg3⟩
      have HO3 := Lib.hid ho3
      have B := Lib.hid (B.out.grown hg3 B.out.size (fun q hq => by have := Option.some.inj hq; omega))
      clear ho3 hg3 hc2
      go_wp2_with fail
      go_ret2
      exact ⟨_, _, rfl, HP.out, HO3.out, B.out⟩
end Go.Proofs.YtpalnlbdfmiadaaGreatDoor
