/-
  The contract of colons' Parse, at a text of less than 2^32 bytes.
-/
import Derived.Test.YtaicmadeobglfaaDoorCol9
namespace Go.Proofs.YtaicmadeobglfaaDoor
open Go.RowKit
set_option linter.unusedVariables false

theorem ArrV.stCells {t : TypeId} {W : World} {g : Nat} {cs : List Value} (h : ArrV t W g cs) (vs : List Value) (hl : vs.length = cs.length) (h1 : ∀ v ∈ vs, v.oneCell' = true) :
    (storeCells ⟨g, 0, none⟩ vs).run Tryd.prog W = .ok () (W.setCells g 0 vs) := by
  have h2 := run_storeCells_cells (P := Tryd.prog) g 0 vs 0 W (fun j hj => by have := (h.there j (by omega)).1; simpa using this) (fun j hj => by have := (h.there j (by omega)).2; simpa using this) h1
  simpa using h2
theorem hcells_one (gs : List Nat) : ∀ v ∈ hcells gs, v.oneCell' = true := by
  intro v hv
  simp only [hcells, List.mem_map] at hv
  obtain ⟨x, _, rfl⟩ := hv
  rfl
/-- All eight groups of a row. -/
def pad8 (gs : List Nat) : List Nat := gs ++ List.replicate (8 - gs.length) 0
theorem pad8_len {gs : List Nat} (h : gs.length ≤ 8) : (pad8 gs).length = 8 := by
  unfold pad8
  rw [List.length_append, List.length_replicate]
  omega
theorem rcells_get {W : World} {g : Nat} {gs : List Nat} {n : Nat} (h : ArrV 73 W g (rcells gs n)) (h8 : gs.length ≤ 8) : W.cell? ⟨g, 8, none⟩ = some (.int .i64 n) := by
  rw [h.get]
  unfold rcells
  rw [List.getElem?_append_right (by rw [hcells_length]; have := pad8_len h8; unfold pad8 at this; omega), hcells_length]
  have := pad8_len h8
  unfold pad8 at this
  rw [this]
  rfl
theorem rcells_front {W : World} {g : Nat} {gs : List Nat} {n : Nat} (h : ArrV 73 W g (rcells gs n)) : W.rangeAt g 0 (hcells (pad8 gs)) := fun j v hv => by
  rw [Nat.zero_add, h.get]
  unfold rcells
  have hj : j < (hcells (pad8 gs)).length := by
    rcases Nat.lt_or_ge j (hcells (pad8 gs)).length with hlt | hge
    · exact hlt
    · rw [List.getElem?_eq_none hge] at hv; cases hv
  show (hcells (pad8 gs) ++ _)[j]? = _
  rw [List.getElem?_append_left hj]
  exact hv
theorem wpList_load_front {ops : Array Oper} {rest : List Oper} {op : Oper} {a : Act} {w : World} {Q : Exit → Act → World → Prop} (hgd : op.guard = none) (x : Operand) (ho : op.op = .load 60 x)
    (g : Nat) (hx : a.eval x = .pointer (some ⟨g, 0, none⟩)) {gs : List Nat} {n : Nat} (h : ArrV 73 w g (rcells gs n)) (h8 : gs.length ≤ 8) (hk : wpList Tryd.prog ops Q rest (a.put op.dst (.agg (hcells (pad8 gs)).toArray)) w) : wpList Tryd.prog ops Q (op :: rest) a w := by
  obtain ⟨d, hd, hr⟩ := ty8.desc
  exact wpList_load_mid hgd 60 x ho g 0 hx (hcells (pad8 gs)) d (rcells_front h) hd hr (by rw [hcells_length, pad8_len h8]; exact ty8.size) hk
theorem spread_len (l : List UInt8) : (spreadT l).length ≤ l.length + 10 := by
  unfold spreadT
  split
  · have hd := dparse_le (l.drop (colAt l))
    have h1 := gsjoin_len (gs := [(dparse (l.drop (colAt l))).1.1 * 256 + (dparse (l.drop (colAt l))).1.2.1, (dparse (l.drop (colAt l))).1.2.2.1 * 256 + (dparse (l.drop (colAt l))).1.2.2.2]) (fun g hg => by simp at hg; omega)
    rw [List.length_append, List.length_take]
    simp at h1
    omega
  · omega
theorem readT_ok {l : List UInt8} (h : readOk l = true) : (readT l).length ≤ 8 ∧ ∀ g ∈ readT l, g < 65536 := by
  unfold readOk at h
  unfold readT
  by_cases e : l = []
  · rw [if_pos e]; simp
  · rw [if_neg e]
    rw [decide_eq_false e, Bool.false_or, Bool.and_eq_true] at h
    refine ⟨by rw [List.length_map]; simpa using h.1, fun g hg => ?_⟩
    obtain ⟨p, hp, rfl⟩ := List.mem_map.1 hg
    have h4 := List.all_eq_true.1 h.2 p hp
    simp only [grpOk, Bool.and_eq_true, decide_eq_true_eq] at h4
    have h5 := hexnum_lt p
    have h6 : 16 ^ p.length ≤ 16 ^ 4 := Nat.pow_le_pow_right (by decide) h4.1.2
    omega
/-- What Parse answers. -/
def cval : Option (List Nat) → Value
  | some gs => .tuple #[.agg (bcells (addrB gs)).toArray, .int .i64 0]
  | none => .tuple #[.agg (bcells zero16).toArray, .int .i64 3]
def CParseIs (l : List UInt8) (w : World) (e : Ending) (w' : World) : Prop := e = .returned (cval (colParse l)) ∧ Below w.heap.size w w'
theorem cparse_no {l : List UInt8} {w w' : World} (h : (readOk (Lib.cut (spreadT l) [58, 58]).1 && readOk (Lib.cut (spreadT l) [58, 58]).2.1 && ((Lib.cut (spreadT l) [58, 58]).2.2 == decide ((readT (Lib.cut (spreadT l) [58, 58]).1).length + (readT (Lib.cut (spreadT l) [58, 58]).2.1).length < 8))) = false) (hb : Below w.heap.size w w') :
    CParseIs l w (.returned (cval none)) w' := by
  refine ⟨?_, hb⟩
  unfold colParse
  simp only [h]
  rfl
theorem cparse_yes {l : List UInt8} {w w' : World} {F B : List Nat} (h : (readOk (Lib.cut (spreadT l) [58, 58]).1 && readOk (Lib.cut (spreadT l) [58, 58]).2.1 && ((Lib.cut (spreadT l) [58, 58]).2.2 == decide ((readT (Lib.cut (spreadT l) [58, 58]).1).length + (readT (Lib.cut (spreadT l) [58, 58]).2.1).length < 8))) = true)
    (hF : F = readT (Lib.cut (spreadT l) [58, 58]).1) (hB : B = readT (Lib.cut (spreadT l) [58, 58]).2.1) (hb : Below w.heap.size w w') : CParseIs l w (.returned (cval (some (F ++ List.replicate (8 - F.length - B.length) 0 ++ B)))) w' := by
  refine ⟨?_, hb⟩
  unfold colParse
  simp only [h, hF, hB]
  rfl
theorem cut_gap (t : List UInt8) (h : (Lib.cut t [58, 58]).2.2 = false) : readT (Lib.cut t [58, 58]).2.1 = [] := by
  unfold Lib.cut at h ⊢
  split at h
  · cases h
  · rename_i hn
    rw [if_neg hn]
    rfl
theorem miss_wraps {a b : Nat} (ha : a ≤ 8) (hb : b ≤ 8) : wrap64 (8 - (a : Int)) = 8 - (a : Int) ∧ wrap64 (8 - (a : Int) - (b : Int)) = 8 - (a : Int) - (b : Int) := by
  refine ⟨?_, ?_⟩ <;> unfold wrap64 <;> omega
/-- The variable that a row is stored in. -/
def ZR : Array Value := #[.int .u16 0, .int .u16 0, .int .u16 0, .int .u16 0, .int .u16 0, .int .u16 0, .int .u16 0, .int .u16 0, .int .i64 0]
theorem row_stored (W : World) (gs : List Nat) (n : Nat) (h8 : gs.length ≤ 8) :
    (storeCells ⟨W.heap.size, 0, none⟩ (rcells gs n)).run Tryd.prog (W.alloc (.cells #[.int .u16 0, .int .u16 0, .int .u16 0, .int .u16 0, .int .u16 0, .int .u16 0, .int .u16 0, .int .u16 0, .int .i64 0] 73)) =
      .ok () ((W.alloc (.cells #[.int .u16 0, .int .u16 0, .int .u16 0, .int .u16 0, .int .u16 0, .int .u16 0, .int .u16 0, .int .u16 0, .int .i64 0] 73)).setCells W.heap.size 0 (rcells gs n)) ∧
    ArrV 73 ((W.alloc (.cells #[.int .u16 0, .int .u16 0, .int .u16 0, .int .u16 0, .int .u16 0, .int .u16 0, .int .u16 0, .int .u16 0, .int .i64 0] 73)).setCells W.heap.size 0 (rcells gs n)) W.heap.size (rcells gs n) ∧
    Below W.heap.size W ((W.alloc (.cells #[.int .u16 0, .int .u16 0, .int .u16 0, .int .u16 0, .int .u16 0, .int .u16 0, .int .u16 0, .int .u16 0, .int .i64 0] 73)).setCells W.heap.size 0 (rcells gs n)) := by
  have h : ArrV 73 (W.alloc (.cells #[.int .u16 0, .int .u16 0, .int .u16 0, .int .u16 0, .int .u16 0, .int .u16 0, .int .u16 0, .int .u16 0, .int .i64 0] 73)) W.heap.size (rcells [] 0) := ArrV.new _ W _
  have hl := rcells_len (gs := gs) n h8
  exact ⟨h.stCells _ (by rw [hl]; rfl) (rcells_one _ _), h.store _ (by rw [hl]; rfl), setCells_below _ (Nat.le_refl _) _ _ _ ((Below.refl _ _).alloc (Nat.le_refl _) _)⟩
theorem groups_stored (W : World) (gs : List Nat) (h8 : gs.length = 8) :
    (storeCells ⟨W.heap.size, 0, none⟩ (hcells gs)).run Tryd.prog (W.alloc (.cells #[.int .u16 0, .int .u16 0, .int .u16 0, .int .u16 0, .int .u16 0, .int .u16 0, .int .u16 0, .int .u16 0] 60)) =
      .ok () ((W.alloc (.cells #[.int .u16 0, .int .u16 0, .int .u16 0, .int .u16 0, .int .u16 0, .int .u16 0, .int .u16 0, .int .u16 0] 60)).setCells W.heap.size 0 (hcells gs)) ∧
    ArrV 60 ((W.alloc (.cells #[.int .u16 0, .int .u16 0, .int .u16 0, .int .u16 0, .int .u16 0, .int .u16 0, .int .u16 0, .int .u16 0] 60)).setCells W.heap.size 0 (hcells gs)) W.heap.size (hcells gs) ∧
    Below W.heap.size W ((W.alloc (.cells #[.int .u16 0, .int .u16 0, .int .u16 0, .int .u16 0, .int .u16 0, .int .u16 0, .int .u16 0, .int .u16 0] 60)).setCells W.heap.size 0 (hcells gs)) := by
  have h : ArrV 60 (W.alloc (.cells #[.int .u16 0, .int .u16 0, .int .u16 0, .int .u16 0, .int .u16 0, .int .u16 0, .int .u16 0, .int .u16 0] 60)) W.heap.size (hcells (List.replicate 8 0)) := ArrV.new _ W _
  have hl := hcells_length gs
  exact ⟨h.stCells _ (by rw [hl, h8]; rfl) (hcells_one _), h.store _ (by rw [hl, h8]; rfl), setCells_below _ (Nat.le_refl _) _ _ _ ((Below.refl _ _).alloc (Nat.le_refl _) _)⟩

set_option maxRecDepth 10000 in
set_option maxHeartbeats 6400000 in
theorem cparse_any (s : ByteArray) (w : World) (hs : s.size < 4294967000) (hB : Bru w) (hm : MaxL w) : Calls Tryd.prog 24 #[.string s] w (CParseIs s.data.toList w) := by
  have A0 : Hid (ArrV 22 (w.alloc (.cells (bcells zero16).toArray 22)) w.heap.size (bcells zero16)) := ArrV.new _ w _
  have B0 : Hid (Below w.heap.size w (w.alloc (.cells (bcells zero16).toArray 22))) := (Below.refl _ _).alloc (Nat.le_refl _) _
  have C1 := Lib.hid (fun w hB => spread_any s w (by omega) hB)
  have hl := spread_len s.data.toList
  rw [size_list] at hl
  have hT : (⟨(spreadT s.data.toList).toArray⟩ : ByteArray).size < 4294967281 := by
    have : (⟨(spreadT s.data.toList).toArray⟩ : ByteArray).size = (spreadT s.data.toList).length := by simp [ByteArray.size]
    omega
  have C2 : Hid (∀ w, MaxL w → Calls Tryd.prog 14 #[.string ⟨(spreadT s.data.toList).toArray⟩, .string ⟨#[58, 58]⟩] w fun e w' => e = .returned (.tuple #[.string ⟨(Lib.cut (spreadT s.data.toList) [58, 58]).1.toArray⟩, .string ⟨(Lib.cut (spreadT s.data.toList) [58, 58]).2.1.toArray⟩, .bool (Lib.cut (spreadT s.data.toList) [58, 58]).2.2]) ∧ Below w.heap.size w w') := fun w hm => cut_any ⟨(spreadT s.data.toList).toArray⟩ w hT hm
  have hT2 : ∀ l : List UInt8, l.length ≤ (spreadT s.data.toList).length → (⟨l.toArray⟩ : ByteArray).size ≤ 140737488355328 := by
    intro l h
    have : (⟨l.toArray⟩ : ByteArray).size = l.length := by simp [ByteArray.size]
    omega
  have hc1 : (Lib.cut (spreadT s.data.toList) [58, 58]).1.length ≤ (spreadT s.data.toList).length := by
    unfold Lib.cut
    split
    · rw [List.length_take]; exact Nat.min_le_right _ _
    · exact Nat.le_refl _
  have hc2 : (Lib.cut (spreadT s.data.toList) [58, 58]).2.1.length ≤ (spreadT s.data.toList).length := by
    unfold Lib.cut
    split
    · rw [List.length_drop]; exact Nat.sub_le _ _
    · exact Nat.zero_le _
  have C3 : Hid (∀ w, Calls Tryd.prog 34 #[.string ⟨(Lib.cut (spreadT s.data.toList) [58, 58]).1.toArray⟩] w (ReadIs (Lib.cut (spreadT s.data.toList) [58, 58]).1 w)) := (fun w => read_any ⟨(Lib.cut (spreadT s.data.toList) [58, 58]).1.toArray⟩ w (hT2 _ hc1))
  have C4 : Hid (∀ w, Calls Tryd.prog 34 #[.string ⟨(Lib.cut (spreadT s.data.toList) [58, 58]).2.1.toArray⟩] w (ReadIs (Lib.cut (spreadT s.data.toList) [58, 58]).2.1 w)) := (fun w => read_any ⟨(Lib.cut (spreadT s.data.toList) [58, 58]).2.1.toArray⟩ w (hT2 _ hc2))
  have FN := Lib.hid (fun w' => cparse_no (l := s.data.toList) (w := w) (w' := w'))
  have FY := Lib.hid (fun w' F B => cparse_yes (l := s.data.toList) (w := w) (w' := w') (F := F) (B := B))
  have HGAP := Lib.hid (cut_gap (spreadT s.data.toList))
  have HT := Lib.hid hB
  have HM := Lib.hid hm
  clear hs hB hm hl hT hT2 hc1 hc2
  go_enter Tryd.func24, Tryd.ntmps24
  go_wp2_with fail
  refine (C1.out _ (HT.out.below B0.out)).mono ?_
  rintro e w1 ⟨rfl, b1⟩
  have HM := Lib.hid ((HM.out.below B0.out).below b1)
  have A0 := Lib.hid (A0.out.below b1)
  have B0 := Lib.hid (below_both B0.out b1)
  clear b1 C1
  go_wp2_with fail
  refine (C2.out _ HM.out).mono ?_
  generalize spreadT s.data.toList = t at *
  generalize (Lib.cut t [58, 58]).1 = p at *
  generalize (Lib.cut t [58, 58]).2.1 = q at *
  generalize (Lib.cut t [58, 58]).2.2 = gap at *
  rintro e w2 ⟨rfl, b2⟩
  have A0 := Lib.hid (A0.out.below b2)
  have B0 := Lib.hid (below_both B0.out b2)
  clear b2 C2 HT HM
  go_wp2_with fail
  refine (C3.out _).mono ?_
  rintro e w3 ⟨rfl, b3⟩
  have A0 := Lib.hid (A0.out.below b3)
  have A0b : Hid (w.heap.size < w3.heap.size) := A0.out.lt
  have B0 := Lib.hid (below_both B0.out b3)
  clear b3 C3
  cases h1 : readOk p
  · have F := Lib.hid (fun w' hb => FN.out w' (by rw [h1]; rfl) hb)
    obtain ⟨hst, hA, hb⟩ := row_stored w3 [] 0 (by decide)
    have hl9 := rcells_len (gs := []) 0 (by decide)
    have A0 := Lib.hid (A0.out.below hb)
    have B0 := Lib.hid (below_both B0.out hb)
    clear hA hb FY FN C4 HGAP
    unfold rval
    rw [if_neg (by decide)]
    go_upto_region 4 with fail
    refine wp_region_lit ?_
    go_wp2_with (refine wpList_store_v rfl 22 (.tmp 2) (.tmp 26) rfl _ rfl ty16 A0.out rfl (bcells zero16) rfl (bcells_one _) rfl ?_)
    exact bodyPost_ret (v := cval none) (res_cell_tmp Tryd.results24 rfl ((A0.out.store (bcells zero16) rfl).loadVar ty16 rfl) rfl) rfl (F.out _ (setCells_below _ (Nat.le_refl _) _ _ _ B0.out))
  · have HG1 := Lib.hid (readT_ok h1)
    rw [if_pos rfl]
    obtain ⟨hst, hA, hb⟩ := row_stored w3 (readT p) (readT p).length HG1.out.1
    have hl9 := rcells_len (readT p).length HG1.out.1
    have A0 := Lib.hid (A0.out.below hb)
    have B0 := Lib.hid (below_both B0.out hb)
    have A7 := Lib.hid hA
    have H1 := Lib.hid h1
    have hb7 : w.heap.size < w3.heap.size := by
      have := A0.out.lt
      have h2 := B0.out.size
      have h3 := hb.size
      have h4 := A0b.out
      exact h4
    clear hA hb h1 A0b
    obtain ⟨b7, e7⟩ : ∃ b, b = w3.heap.size := ⟨_, rfl⟩
    unfold rval
    go_upto_region 5 with fail
    clear hst
    rw [← e7] at A7 A0 B0 hb7 ⊢
    generalize (w3.alloc (.cells #[.int .u16 0, .int .u16 0, .int .u16 0, .int .u16 0, .int .u16 0, .int .u16 0, .int .u16 0, .int .u16 0, .int .i64 0] 73)).setCells b7 0 (rcells (readT p) (readT p).length) = W4 at *
    clear e7
    refine wp_region_lit ?_
    go_wp2_with fail
    refine (C4.out _).mono ?_
    rintro e w5 ⟨rfl, b5⟩
    have A0 := Lib.hid (A0.out.below b5)
    have A7 := Lib.hid (A7.out.below b5)
    have B0 := Lib.hid (below_both B0.out b5)
    clear b5 C4
    cases h2 : readOk q
    · have F := Lib.hid (fun w' hb => FN.out w' (by rw [h2, Bool.and_false]; rfl) hb)
      obtain ⟨hst, hA, hb⟩ := row_stored w5 [] 0 (by decide)
      have hl9 := rcells_len (gs := []) 0 (by decide)
      have A0 := Lib.hid (A0.out.below hb)
      have B0 := Lib.hid (below_both B0.out hb)
      clear hA hb FY FN HGAP A7
      unfold rval
      rw [if_neg (by decide)]
      go_upto_region 7 with fail
      refine wp_region_lit ?_
      go_wp2_with (refine wpList_store_v rfl 22 (.tmp 2) (.tmp 34) rfl _ rfl ty16 A0.out rfl (bcells zero16) rfl (bcells_one _) rfl ?_)
      exact bodyPost_ret (v := cval none) (res_cell_tmp Tryd.results24 rfl ((A0.out.store (bcells zero16) rfl).loadVar ty16 rfl) rfl) rfl (F.out _ (setCells_below _ (Nat.le_refl _) _ _ _ B0.out))
    · have HG2 := Lib.hid (readT_ok h2)
      rw [if_pos rfl]
      obtain ⟨hst, hA, hb⟩ := row_stored w5 (readT q) (readT q).length HG2.out.1
      have hl9' := rcells_len (readT q).length HG2.out.1
      have h79 : b7 < w5.heap.size := A7.out.lt
      have A0 := Lib.hid (A0.out.below hb)
      have A7 := Lib.hid (A7.out.below hb)
      have B0 := Lib.hid (below_both B0.out hb)
      have A9 := Lib.hid hA
      have H2 := Lib.hid h2
      clear hA hb h2
      obtain ⟨b9, e9⟩ : ∃ b, b = w5.heap.size := ⟨_, rfl⟩
      unfold rval
      go_upto_region 8 with fail
      clear hst
      rw [← e9] at A7 A0 B0 A9 h79 ⊢
      generalize (w5.alloc (.cells #[.int .u16 0, .int .u16 0, .int .u16 0, .int .u16 0, .int .u16 0, .int .u16 0, .int .u16 0, .int .u16 0, .int .i64 0] 73)).setCells b9 0 (rcells (readT q) (readT q).length) = W6 at *
      clear e9
      have FN := Lib.hid (fun w' (h : (gap == decide ((readT p).length + (readT q).length < 8)) = false) hb => FN.out w' (by rw [H1.out, H2.out, h]; rfl) hb)
      have FY := Lib.hid (fun w' (h : (gap == decide ((readT p).length + (readT q).length < 8)) = true) hb => FY.out w' (readT p) (readT q) (by rw [H1.out, H2.out, h]; rfl) rfl rfl hb)
      clear H1 H2
      generalize readT p = F1 at *
      generalize readT q = F2 at *
      have c7 := rcells_get A7.out HG1.out.1
      have c9 := rcells_get A9.out HG2.out.1
      obtain ⟨n1, e1⟩ : ∃ n, n = F1.length := ⟨_, rfl⟩
      obtain ⟨n2, e2⟩ : ∃ n, n = F2.length := ⟨_, rfl⟩
      rw [← e1] at c7 FN FY A7 hl9
      rw [← e2] at c9 FN FY A9 hl9'
      have hn1 : n1 ≤ 8 := by rw [e1]; exact HG1.out.1
      have hn2 : n2 ≤ 8 := by rw [e2]; exact HG2.out.1
      obtain ⟨p1, p2⟩ := miss_wraps hn1 hn2
      have E1 := Lib.hid e1
      have E2 := Lib.hid e2
      have HN1 := Lib.hid hn1
      have HN2 := Lib.hid hn2
      by_cases hok : (gap == decide (n1 + n2 < 8)) = true
      · have F := Lib.hid (fun w' hb => FY.out w' hok hb)
        have hgap : Hid (n1 + n2 ≤ 8) := by
          show _ ≤ _
          by_cases hlt : n1 + n2 < 8
          · omega
          · rw [decide_eq_false hlt] at hok
            have hg : gap = false := by simpa using hok
            have := HGAP.out hg
            rw [e2, this] at hlt ⊢
            simp at hlt ⊢
            omega
        clear FN FY HGAP
        by_cases hlt : n1 + n2 < 8
        · rw [decide_eq_true hlt] at hok
          obtain rfl : gap = true := by simpa using hok
          have hmi : (n2 : Int) < 8 - (n1 : Int) := by omega
          have hmd : decide ((n2 : Int) < 8 - (n1 : Int)) = true := decide_eq_true hmi
          clear hlt e1 e2
          go_upto_region 11 with fail
          refine wp_region_lit ?_
          obtain ⟨hst, hA, hb⟩ := groups_stored W6 (pad8 F1) (pad8_len HG1.out.1)
          have hp8 := pad8_len HG1.out.1
          have hl8 : (hcells (pad8 F1)).length = 8 := by rw [hcells_length, hp8]
          have h911 : b9 < W6.heap.size := A9.out.lt
          have A0' := Lib.hid (A0.out.below hb)
          have A9' := Lib.hid (A9.out.below hb)
          have B0' := Lib.hid (below_both B0.out hb)
          have A11 := Lib.hid hA
          clear hA hb
          go_wp2_with (refine wpList_load_front rfl (.tmp 46) rfl _ rfl A7.out HG1.out.1 ?_)
          clear hst
          obtain ⟨b11, e11⟩ : ∃ b, b = W6.heap.size := ⟨_, rfl⟩
          rw [← e11] at A11 A0' A9' B0' h911 ⊢
          generalize (W6.alloc (.cells #[.int .u16 0, .int .u16 0, .int .u16 0, .int .u16 0, .int .u16 0, .int .u16 0, .int .u16 0, .int .u16 0] 60)).setCells b11 0 (hcells (pad8 F1)) = W7 at *
          clear e11 A0 A7 A9 B0 c7 c9
          have c9 := rcells_get A9'.out HG2.out.1
          obtain ⟨m, hm⟩ : ∃ m, m = 8 - n2 := ⟨_, rfl⟩
          have hm8 : m ≤ 8 := by omega
          have hmn : n2 = 8 - m := by omega
          have q1 : IntKind.i64.wrap (8 - (n2 : Int)) = (m : Int) := by rw [show (8 - (n2 : Int)) = (m : Int) by omega]; exact IntWalk.i64_in _ ⟨by omega, by omega⟩
          have hmI : (m : Int) ≤ 8 := by omega
          have hnI : (n2 : Int) ≤ 8 := by omega
          have HX : Hid ((pad8 F1).take m ++ F2 = F1 ++ List.replicate (8 - n1 - n2) 0 ++ F2) := by
            show _ = _
            congr 1
            have h1 := hgap.out
            unfold pad8
            rw [List.take_append, ← E1.out, List.take_of_length_le (by rw [← E1.out]; omega), List.take_replicate]
            congr 2
            omega
          have HXL : Hid ((F1 ++ List.replicate (8 - n1 - n2) 0 ++ F2).length = 8) := by
            have h1 := hgap.out
            show _ = _
            rw [List.length_append, List.length_append, List.length_replicate, ← E1.out, ← E2.out]
            omega
          have HXG : Hid (∀ g ∈ F1 ++ List.replicate (8 - n1 - n2) 0 ++ F2, g < 65536) := by
            show ∀ g ∈ _, _
            intro g hg
            simp only [List.mem_append, List.mem_replicate] at hg
            rcases hg with (hg | hg) | hg
            · exact HG1.out.2 g hg
            · rw [hg.2]; decide
            · exact HG2.out.2 g hg
          generalize F1 ++ List.replicate (8 - n1 - n2) 0 ++ F2 = G at *
          have CA := Lib.hid (fun w => address_any G w HXL.out HXG.out)
          have hsrc : ∀ j v, (hcells F2)[j]? = some v → W7.drew.cell? ((⟨b9, 0, none⟩ : Addr).add j) = some v := by
            intro j v hv
            rw [add_flat, Nat.zero_add]
            have h1 := rcells_front A9'.out.drew j v (by
              have hj : j < (hcells F2).length := by
                rcases Nat.lt_or_ge j (hcells F2).length with hlt | hge
                · exact hlt
                · rw [List.getElem?_eq_none hge] at hv; cases hv
              unfold pad8 hcells at *
              rw [List.map_append, List.getElem?_append_left hj]
              exact hv)
            rw [Nat.zero_add] at h1
            exact h1
          have hF2 : (hcells F2).length = n2 := by rw [hcells_length, ← E2.out]
          obtain ⟨dst, hdst, w8, hcp, hO, b8⟩ : ∃ dst : Nat, dst = (if m = 8 then 0 else m) ∧ ∃ w8, Sem.run Tryd.prog (Builtin.copy_ #[65, 65] 3 #[.slice (some ⟨b11, dst, none⟩) (8 - m) (8 - m), .slice (some ⟨b9, 0, none⟩) n2 8]) W7.drew = .ok (.int .i64 (n2 : Nat)) w8 ∧ ArrV 60 w8 b11 (hcells G) ∧ Below b11 W7.drew w8 := by
            refine ⟨_, rfl, ?_⟩
            obtain ⟨w8, hcp, hO, b8⟩ := copy_at Tryd.underlying65 u16one 60 W7.drew b11 (if m = 8 then 0 else m) (8 - m) (8 - m) (hcells (pad8 F1)) ⟨b9, 0, none⟩ n2 8 (hcells F2) A11.out.drew (by rw [hF2, ← hmn]; exact (Nat.min_self _).symm) hsrc (by rw [hF2, hl8]; split <;> omega) (hcells_one _)
            rw [hF2] at hcp hO
            refine ⟨w8, hcp, ?_, b8⟩
            have e : (hcells (pad8 F1)).take (if m = 8 then 0 else m) ++ hcells F2 ++ (hcells (pad8 F1)).drop ((if m = 8 then 0 else m) + n2) = hcells G := by
              rw [← HX.out]
              by_cases h8 : m = 8
              · have hF : F2 = [] := List.eq_nil_of_length_eq_zero (by rw [← E2.out]; omega)
                have hn0 : n2 = 0 := by omega
                have e9 : (pad8 F1).take 8 = pad8 F1 := List.take_of_length_le (by rw [hp8]; exact Nat.le_refl _)
                rw [if_pos h8, hF, hn0, h8, e9]
                simp [hcells]
              · rw [if_neg h8, List.drop_eq_nil_of_le (by rw [hl8]; omega), List.append_nil]
                simp [hcells, List.map_take]
            rw [e] at hO
            exact hO
          have A0 := Lib.hid ((A0'.out.drew.belowB b8 (by omega)))
          have B0 := Lib.hid (B0'.out.drew.trans (b8.mono (by omega)))
          have A11 := Lib.hid hO
          have HL8 : Hid ((hcells G).length = 8) := by show _ = _; rw [hcells_length, HXL.out]
          have HAL : Hid ((bcells (addrB G)).length = 16) := by show _ = _; rw [bcells_length, addrB_len, HXL.out]
          clear hO b8 A0' A9' B0' hsrc hF2 hl8 hp8 hn1 hn2 hmd hmi hok p1 p2
          rcases Nat.lt_or_ge m 8 with hm9 | hm9
          · rw [if_neg (by omega)] at hdst
            subst hdst
            have hne8 : ¬ (8 = dst) := by omega
            clear hm hmn hm8 hm9
            go_wp2_with fail
            go_region
            go_upto_region 13 with fail
            refine wp_region_lit ?_
            go_wp2_with (refine wpList_load_v rfl 60 (.tmp 11) rfl _ rfl ty8 A11.out HL8.out ?_)
            refine (CA.out _).mono ?_
            rintro e w9 ⟨rfl, b9'⟩
            have A0 := Lib.hid (A0.out.below b9')
            have B0 := Lib.hid (below_both B0.out b9')
            clear b9'
            go_wp2_with (refine wpList_store_v rfl 22 (.tmp 2) (.tmp 58) rfl _ rfl ty16 A0.out rfl (bcells (addrB G)) HAL.out (bcells_one _) rfl ?_)
            exact bodyPost_ret (v := cval (some G)) (res_cell_tmp Tryd.results24 rfl ((A0.out.store (bcells (addrB G)) (by rw [HAL.out]; rfl)).loadVar ty16 HAL.out) rfl) rfl (F.out _ (setCells_below _ (Nat.le_refl _) _ _ _ B0.out))
          · obtain rfl : m = 8 := by omega
            rw [if_pos rfl] at hdst
            subst hdst
            obtain rfl : n2 = 0 := by omega
            clear hm hmn hm8 hm9
            go_wp2_with fail
            go_region
            go_upto_region 13 with fail
            refine wp_region_lit ?_
            go_wp2_with (refine wpList_load_v rfl 60 (.tmp 11) rfl _ rfl ty8 A11.out HL8.out ?_)
            refine (CA.out _).mono ?_
            rintro e w9 ⟨rfl, b9'⟩
            have A0 := Lib.hid (A0.out.below b9')
            have B0 := Lib.hid (below_both B0.out b9')
            clear b9'
            go_wp2_with (refine wpList_store_v rfl 22 (.tmp 2) (.tmp 58) rfl _ rfl ty16 A0.out rfl (bcells (addrB G)) HAL.out (bcells_one _) rfl ?_)
            exact bodyPost_ret (v := cval (some G)) (res_cell_tmp Tryd.results24 rfl ((A0.out.store (bcells (addrB G)) (by rw [HAL.out]; rfl)).loadVar ty16 HAL.out) rfl) rfl (F.out _ (setCells_below _ (Nat.le_refl _) _ _ _ B0.out))
        · rw [decide_eq_false hlt] at hok
          obtain rfl : gap = false := by simpa using hok
          have hmi : ¬ ((n2 : Int) < 8 - (n1 : Int)) := by omega
          have hmd : decide ((n2 : Int) < 8 - (n1 : Int)) = false := decide_eq_false hmi
          clear hlt e1 e2
          go_upto_region 11 with fail
          refine wp_region_lit ?_
          obtain ⟨hst, hA, hb⟩ := groups_stored W6 (pad8 F1) (pad8_len HG1.out.1)
          have hp8 := pad8_len HG1.out.1
          have hl8 : (hcells (pad8 F1)).length = 8 := by rw [hcells_length, hp8]
          have h911 : b9 < W6.heap.size := A9.out.lt
          have A0' := Lib.hid (A0.out.below hb)
          have A9' := Lib.hid (A9.out.below hb)
          have B0' := Lib.hid (below_both B0.out hb)
          have A11 := Lib.hid hA
          clear hA hb
          go_wp2_with (refine wpList_load_front rfl (.tmp 46) rfl _ rfl A7.out HG1.out.1 ?_)
          clear hst
          obtain ⟨b11, e11⟩ : ∃ b, b = W6.heap.size := ⟨_, rfl⟩
          rw [← e11] at A11 A0' A9' B0' h911 ⊢
          generalize (W6.alloc (.cells #[.int .u16 0, .int .u16 0, .int .u16 0, .int .u16 0, .int .u16 0, .int .u16 0, .int .u16 0, .int .u16 0] 60)).setCells b11 0 (hcells (pad8 F1)) = W7 at *
          clear e11 A0 A7 A9 B0 c7 c9
          have c9 := rcells_get A9'.out HG2.out.1
          obtain ⟨m, hm⟩ : ∃ m, m = 8 - n2 := ⟨_, rfl⟩
          have hm8 : m ≤ 8 := by omega
          have hmn : n2 = 8 - m := by omega
          have q1 : IntKind.i64.wrap (8 - (n2 : Int)) = (m : Int) := by rw [show (8 - (n2 : Int)) = (m : Int) by omega]; exact IntWalk.i64_in _ ⟨by omega, by omega⟩
          have hmI : (m : Int) ≤ 8 := by omega
          have hnI : (n2 : Int) ≤ 8 := by omega
          have HX : Hid ((pad8 F1).take m ++ F2 = F1 ++ List.replicate (8 - n1 - n2) 0 ++ F2) := by
            show _ = _
            congr 1
            have h1 := hgap.out
            unfold pad8
            rw [List.take_append, ← E1.out, List.take_of_length_le (by rw [← E1.out]; omega), List.take_replicate]
            congr 2
            omega
          have HXL : Hid ((F1 ++ List.replicate (8 - n1 - n2) 0 ++ F2).length = 8) := by
            have h1 := hgap.out
            show _ = _
            rw [List.length_append, List.length_append, List.length_replicate, ← E1.out, ← E2.out]
            omega
          have HXG : Hid (∀ g ∈ F1 ++ List.replicate (8 - n1 - n2) 0 ++ F2, g < 65536) := by
            show ∀ g ∈ _, _
            intro g hg
            simp only [List.mem_append, List.mem_replicate] at hg
            rcases hg with (hg | hg) | hg
            · exact HG1.out.2 g hg
            · rw [hg.2]; decide
            · exact HG2.out.2 g hg
          generalize F1 ++ List.replicate (8 - n1 - n2) 0 ++ F2 = G at *
          have CA := Lib.hid (fun w => address_any G w HXL.out HXG.out)
          have hsrc : ∀ j v, (hcells F2)[j]? = some v → W7.drew.cell? ((⟨b9, 0, none⟩ : Addr).add j) = some v := by
            intro j v hv
            rw [add_flat, Nat.zero_add]
            have h1 := rcells_front A9'.out.drew j v (by
              have hj : j < (hcells F2).length := by
                rcases Nat.lt_or_ge j (hcells F2).length with hlt | hge
                · exact hlt
                · rw [List.getElem?_eq_none hge] at hv; cases hv
              unfold pad8 hcells at *
              rw [List.map_append, List.getElem?_append_left hj]
              exact hv)
            rw [Nat.zero_add] at h1
            exact h1
          have hF2 : (hcells F2).length = n2 := by rw [hcells_length, ← E2.out]
          obtain ⟨dst, hdst, w8, hcp, hO, b8⟩ : ∃ dst : Nat, dst = (if m = 8 then 0 else m) ∧ ∃ w8, Sem.run Tryd.prog (Builtin.copy_ #[65, 65] 3 #[.slice (some ⟨b11, dst, none⟩) (8 - m) (8 - m), .slice (some ⟨b9, 0, none⟩) n2 8]) W7.drew = .ok (.int .i64 (n2 : Nat)) w8 ∧ ArrV 60 w8 b11 (hcells G) ∧ Below b11 W7.drew w8 := by
            refine ⟨_, rfl, ?_⟩
            obtain ⟨w8, hcp, hO, b8⟩ := copy_at Tryd.underlying65 u16one 60 W7.drew b11 (if m = 8 then 0 else m) (8 - m) (8 - m) (hcells (pad8 F1)) ⟨b9, 0, none⟩ n2 8 (hcells F2) A11.out.drew (by rw [hF2, ← hmn]; exact (Nat.min_self _).symm) hsrc (by rw [hF2, hl8]; split <;> omega) (hcells_one _)
            rw [hF2] at hcp hO
            refine ⟨w8, hcp, ?_, b8⟩
            have e : (hcells (pad8 F1)).take (if m = 8 then 0 else m) ++ hcells F2 ++ (hcells (pad8 F1)).drop ((if m = 8 then 0 else m) + n2) = hcells G := by
              rw [← HX.out]
              by_cases h8 : m = 8
              · have hF : F2 = [] := List.eq_nil_of_length_eq_zero (by rw [← E2.out]; omega)
                have hn0 : n2 = 0 := by omega
                have e9 : (pad8 F1).take 8 = pad8 F1 := List.take_of_length_le (by rw [hp8]; exact Nat.le_refl _)
                rw [if_pos h8, hF, hn0, h8, e9]
                simp [hcells]
              · rw [if_neg h8, List.drop_eq_nil_of_le (by rw [hl8]; omega), List.append_nil]
                simp [hcells, List.map_take]
            rw [e] at hO
            exact hO
          have A0 := Lib.hid ((A0'.out.drew.belowB b8 (by omega)))
          have B0 := Lib.hid (B0'.out.drew.trans (b8.mono (by omega)))
          have A11 := Lib.hid hO
          have HL8 : Hid ((hcells G).length = 8) := by show _ = _; rw [hcells_length, HXL.out]
          have HAL : Hid ((bcells (addrB G)).length = 16) := by show _ = _; rw [bcells_length, addrB_len, HXL.out]
          clear hO b8 A0' A9' B0' hsrc hF2 hl8 hp8 hn1 hn2 hmd hmi hok p1 p2
          rcases Nat.lt_or_ge m 8 with hm9 | hm9
          · rw [if_neg (by omega)] at hdst
            subst hdst
            have hne8 : ¬ (8 = dst) := by omega
            clear hm hmn hm8 hm9
            go_wp2_with fail
            go_region
            go_upto_region 13 with fail
            refine wp_region_lit ?_
            go_wp2_with (refine wpList_load_v rfl 60 (.tmp 11) rfl _ rfl ty8 A11.out HL8.out ?_)
            refine (CA.out _).mono ?_
            rintro e w9 ⟨rfl, b9'⟩
            have A0 := Lib.hid (A0.out.below b9')
            have B0 := Lib.hid (below_both B0.out b9')
            clear b9'
            go_wp2_with (refine wpList_store_v rfl 22 (.tmp 2) (.tmp 58) rfl _ rfl ty16 A0.out rfl (bcells (addrB G)) HAL.out (bcells_one _) rfl ?_)
            exact bodyPost_ret (v := cval (some G)) (res_cell_tmp Tryd.results24 rfl ((A0.out.store (bcells (addrB G)) (by rw [HAL.out]; rfl)).loadVar ty16 HAL.out) rfl) rfl (F.out _ (setCells_below _ (Nat.le_refl _) _ _ _ B0.out))
          · obtain rfl : m = 8 := by omega
            rw [if_pos rfl] at hdst
            subst hdst
            obtain rfl : n2 = 0 := by omega
            clear hm hmn hm8 hm9
            go_wp2_with fail
            go_region
            go_upto_region 13 with fail
            refine wp_region_lit ?_
            go_wp2_with (refine wpList_load_v rfl 60 (.tmp 11) rfl _ rfl ty8 A11.out HL8.out ?_)
            refine (CA.out _).mono ?_
            rintro e w9 ⟨rfl, b9'⟩
            have A0 := Lib.hid (A0.out.below b9')
            have B0 := Lib.hid (below_both B0.out b9')
            clear b9'
            go_wp2_with (refine wpList_store_v rfl 22 (.tmp 2) (.tmp 58) rfl _ rfl ty16 A0.out rfl (bcells (addrB G)) HAL.out (bcells_one _) rfl ?_)
            exact bodyPost_ret (v := cval (some G)) (res_cell_tmp Tryd.results24 rfl ((A0.out.store (bcells (addrB G)) (by rw [HAL.out]; rfl)).loadVar ty16 HAL.out) rfl) rfl (F.out _ (setCells_below _ (Nat.le_refl _) _ _ _ B0.out))
      · have F := Lib.hid (fun w' hb => FN.out w' (by rw [← Bool.not_eq_true]; exact hok) hb)
        clear FN FY HGAP A7 A9 HG1 HG2
        by_cases hlt : n1 + n2 < 8
        · rw [decide_eq_true hlt] at hok
          obtain rfl : gap = false := by simpa using hok
          have hmi : (n2 : Int) < 8 - (n1 : Int) := by omega
          have hmd : decide ((n2 : Int) < 8 - (n1 : Int)) = true := decide_eq_true hmi
          clear hok hlt hn1 hn2 e1 e2
          go_upto_region 10 with fail
          refine wp_region_lit ?_
          go_wp2_with (refine wpList_store_v rfl 22 (.tmp 2) (.tmp 45) rfl _ rfl ty16 A0.out rfl (bcells zero16) rfl (bcells_one _) rfl ?_)
          exact bodyPost_ret (v := cval none) (res_cell_tmp Tryd.results24 rfl ((A0.out.store (bcells zero16) rfl).loadVar ty16 rfl) rfl) rfl (F.out _ (setCells_below _ (Nat.le_refl _) _ _ _ B0.out))
        · rw [decide_eq_false hlt] at hok
          obtain rfl : gap = true := by simpa using hok
          have hmi : ¬ ((n2 : Int) < 8 - (n1 : Int)) := by omega
          have hmd : decide ((n2 : Int) < 8 - (n1 : Int)) = false := decide_eq_false hmi
          clear hok hlt hn1 hn2 e1 e2
          go_upto_region 10 with fail
          refine wp_region_lit ?_
          go_wp2_with (refine wpList_store_v rfl 22 (.tmp 2) (.tmp 45) rfl _ rfl ty16 A0.out rfl (bcells zero16) rfl (bcells_one _) rfl ?_)
          exact bodyPost_ret (v := cval none) (res_cell_tmp Tryd.results24 rfl ((A0.out.store (bcells zero16) rfl).loadVar ty16 rfl) rfl) rfl (F.out _ (setCells_below _ (Nat.le_refl _) _ _ _ B0.out))
end Go.Proofs.YtaicmadeobglfaaDoor
