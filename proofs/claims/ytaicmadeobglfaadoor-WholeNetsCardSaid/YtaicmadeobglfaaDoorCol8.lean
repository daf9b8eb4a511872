/-
  The contracts of colons' address and read.
-/
import Derived.Test.YtaicmadeobglfaaDoorCol7
import Derived.Test.YtaicmadeobglfaaDoorDec
namespace Go.Proofs.YtaicmadeobglfaaDoor
open Go.RowKit
set_option linter.unusedVariables false

/-- Groups as sixteen bytes. -/
def addrB (gs : List Nat) : List Nat := gs.flatMap fun g => [g / 256, g % 256]
theorem addrB_len (gs : List Nat) : (addrB gs).length = 2 * gs.length := by
  induction gs with
  | nil => rfl
  | cons g gs ih =>
    have : addrB (g :: gs) = [g / 256, g % 256] ++ addrB gs := by simp [addrB]
    rw [this, List.length_append, ih]
    simp
    omega
theorem addrB_snoc (gs : List Nat) (x : Nat) : addrB (gs ++ [x]) = addrB gs ++ [x / 256, x % 256] := by simp [addrB]
/-- The first groups laid, all else 0. -/
def padB (gs : List Nat) (k : Nat) : List Nat := addrB (gs.take k) ++ List.replicate (16 - 2 * k) 0
theorem padB_len {gs : List Nat} {k : Nat} (hl : gs.length = 8) (hk : k ≤ 8) : (padB gs k).length = 16 := by
  unfold padB
  rw [List.length_append, addrB_len, List.length_take, List.length_replicate]
  omega
theorem padB_next {gs : List Nat} {k : Nat} (hl : gs.length = 8) (hk : k < 8) : ((padB gs k).set (2 * k) (gs.getD k 0 / 256)).set (2 * k + 1) (gs.getD k 0 % 256) = padB gs (k + 1) := by
  have e1 : (addrB (gs.take k)).length = 2 * k := by rw [addrB_len, List.length_take]; omega
  have e2 : gs.take (k + 1) = gs.take k ++ [gs.getD k 0] := by
    rw [List.take_succ_eq_append_getElem (by omega), List.getD_eq_getElem?_getD, List.getElem?_eq_getElem (by omega)]
    rfl
  unfold padB
  rw [e2, addrB_snoc, List.set_append_right (h := by omega), e1, Nat.sub_self, show 16 - 2 * k = (16 - 2 * (k + 1)) + 1 + 1 from by omega, List.replicate_succ, List.set_cons_zero, List.replicate_succ, List.set_append_right (h := by omega), e1, Nat.add_sub_cancel_left, List.set_cons_succ, List.set_cons_zero]
  simp
theorem idx8 (gs : List Nat) (hl : gs.length = 8) (k : Nat) (hk : k < 8) (w : World) : (Instr.index 60 (.agg (hcells gs).toArray) (.int .i64 (k : Int))).run Tryd.prog w = .ok (.int .u16 ((gs.getD k 0 : Nat) : Int)) w := by
  match gs, hl with
  | [a, b, c, d, e, f, g, h], _ =>
    match k, hk with
    | 0, _ => simp [hcells, Instr.index, run_underlying Tryd.underlying60, asIntOf, go_sem]
    | 1, _ => simp [hcells, Instr.index, run_underlying Tryd.underlying60, asIntOf, go_sem]
    | 2, _ => simp [hcells, Instr.index, run_underlying Tryd.underlying60, asIntOf, go_sem]
    | 3, _ => simp [hcells, Instr.index, run_underlying Tryd.underlying60, asIntOf, go_sem]
    | 4, _ => simp [hcells, Instr.index, run_underlying Tryd.underlying60, asIntOf, go_sem]
    | 5, _ => simp [hcells, Instr.index, run_underlying Tryd.underlying60, asIntOf, go_sem]
    | 6, _ => simp [hcells, Instr.index, run_underlying Tryd.underlying60, asIntOf, go_sem]
    | 7, _ => simp [hcells, Instr.index, run_underlying Tryd.underlying60, asIntOf, go_sem]
theorem bset {t : TypeId} {W : World} {g : Nat} {bs : List Nat} (h : ArrV t W g (bcells bs)) (i x : Nat) : ArrV t (W.setCell ⟨g, i, none⟩ (.int .u8 (x : Nat))) g (bcells (bs.set i x)) := by
  have := h.set i (.int .u8 (x : Nat))
  unfold bcells at this ⊢
  rw [List.map_set]
  exact this
theorem bget {t : TypeId} {W : World} {g : Nat} {bs : List Nat} (h : ArrV t W g (bcells bs)) (i : Nat) (hi : i < bs.length) : W.cell? ⟨g, i, none⟩ = some (.int .u8 (bs.getD i 0 : Nat)) := by
  rw [h.get]
  simp [bcells, hi]
theorem adr_bytes {x : Nat} (hx : x < 65536) : IntKind.u8.wrap ((x : Int) / 256) = ((x / 256 : Nat) : Int) ∧ IntKind.u8.wrap (x : Int) = ((x % 256 : Nat) : Int) := by
  constructor
  · show ((x : Int) / 256) % 256 = _; omega
  · show (x : Int) % 256 = _; omega

set_option maxRecDepth 10000 in
set_option maxHeartbeats 1600000 in
theorem address_any (gs : List Nat) (w : World) (hl : gs.length = 8) (hg : ∀ x ∈ gs, x < 65536) :
    Calls Tryd.prog 35 #[.agg (hcells gs).toArray] w fun e w' => e = .returned (.agg (bcells (addrB gs)).toArray) ∧ Below w.heap.size w w' := by
  have hs : (hcells gs).length = 8 := by rw [hcells_length, hl]
  have HL := Lib.hid hl
  have HG := Lib.hid hg
  have A0 : Hid (ArrV 60 (((w.alloc (.cells (hcells gs).toArray 60)).alloc (.cells (bcells zero16).toArray 22)).alloc (.cells (bcells zero16).toArray 22)) w.heap.size (hcells gs)) := ((ArrV.new _ w _).alloc _).alloc _
  have A1 : Hid (ArrV 22 (((w.alloc (.cells (hcells gs).toArray 60)).alloc (.cells (bcells zero16).toArray 22)).alloc (.cells (bcells zero16).toArray 22)) (w.heap.size + 1) (bcells zero16)) := by
    have h := (ArrV.new 22 (w.alloc (.cells (hcells gs).toArray 60)) (bcells zero16)).alloc (.cells (bcells zero16).toArray 22)
    rw [World.size_alloc] at h
    exact h
  have A2 : Hid (ArrV 22 (((w.alloc (.cells (hcells gs).toArray 60)).alloc (.cells (bcells zero16).toArray 22)).alloc (.cells (bcells zero16).toArray 22)) (w.heap.size + 1 + 1) (bcells (padB gs 0))) := by
    have h := ArrV.new 22 ((w.alloc (.cells (hcells gs).toArray 60)).alloc (.cells (bcells zero16).toArray 22)) (bcells zero16)
    rw [World.size_alloc, World.size_alloc] at h
    exact h
  have B0 : Hid (Below w.heap.size w (((w.alloc (.cells (hcells gs).toArray 60)).alloc (.cells (bcells zero16).toArray 22)).alloc (.cells (bcells zero16).toArray 22))) := (((Below.refl _ _).alloc (Nat.le_refl _) _).alloc (by simp) _).alloc (by simp; omega) _
  clear hl hg
  go_enter Tryd.func35, Tryd.ntmps35
  go_upto_region 2 with fail
  refine wp_region_lit ?_
  go_wp2_with (refine wpList_load_v rfl 60 (.tmp 1) rfl _ rfl ty8 A0.out hs ?_)
  go_loopw [7] (fun i wr => ∃ k : Nat, k ≤ 8 ∧ i = .int .i64 k ∧ Hid (ArrV 22 wr (w.heap.size + 1) (bcells zero16)) ∧ Hid (ArrV 22 wr (w.heap.size + 1 + 1) (bcells (padB gs k))) ∧ Hid (Below w.heap.size w wr)) (fun i _ => 8 - (intOf i).toNat)
  case atStart => exact ⟨0, by decide, rfl, A1.out, A2.out, B0.out⟩
  case round =>
    clear A0 A1 A2 B0
    obtain ⟨k, hk, rfl, A1, A2, BB⟩ := hrel
    by_cases hlt : k < 8
    · have hix := idx8 gs HL.out k hlt
      have HP : Hid (((padB gs k).set (2 * k) (gs.getD k 0 / 256)).set (2 * k + 1) (gs.getD k 0 % 256) = padB gs (k + 1)) := padB_next HL.out hlt
      have HX : Hid (gs.getD k 0 < 65536) := by
        show _ < _
        rw [List.getD_eq_getElem?_getD, List.getElem?_eq_getElem (by rw [HL.out]; exact hlt)]
        exact HG.out _ (List.getElem_mem _)
      have HPL : Hid ((padB gs k).length = 16) := padB_len HL.out hk
      generalize gs.getD k 0 = x at *
      have hm2 : 2 * k ≤ 14 := by omega
      obtain ⟨q3, q4⟩ := adr_bytes HX.out
      obtain ⟨y, hy⟩ : ∃ y, y = x / 256 := ⟨_, rfl⟩
      obtain ⟨z, hz⟩ : ∃ z, z = x % 256 := ⟨_, rfl⟩
      rw [← hy] at q3 HP
      rw [← hz] at q4 HP
      have c0 := bget A2.out (2 * k) (by rw [HPL.out]; omega)
      have c1 := bget A2.out (2 * k + 1) (by rw [HPL.out]; omega)
      have f0 := A2.out.frozen
      have A3 := Lib.hid (bset (bset A2.out (2 * k) y) (2 * k + 1) z)
      rw [HP.out] at A3
      have A4 := Lib.hid ((A1.out.other ⟨w.heap.size + 1 + 1, 2 * k, none⟩ (.int .u8 (y : Nat)) (by simp)).other ⟨w.heap.size + 1 + 1, 2 * k + 1, none⟩ (.int .u8 (z : Nat)) (by simp))
      have B4 := Lib.hid ((BB.out.setCell (p := ⟨w.heap.size + 1 + 1, 2 * k, none⟩) (by simp; omega) (.int .u8 (y : Nat))).setCell (p := ⟨w.heap.size + 1 + 1, 2 * k + 1, none⟩) (by simp; omega) (.int .u8 (z : Nat)))
      have wk : wrap64 ((k : Int) + 1) = ((k + 1 : Nat) : Int) := wrap_inc (by omega)
      clear hm2 hy hz
      go_wp2_with fail
      go_roundw
      case rel => exact ⟨k + 1, by omega, rfl, A4.out, A3.out, B4.out⟩
      case measure => simp [intOf]; omega
    · obtain rfl : k = 8 := by omega
      have HE : Hid (padB gs 8 = addrB gs) := by
        show _ = _
        unfold padB
        rw [List.take_of_length_le (by rw [HL.out]; exact Nat.le_refl _)]
        simp
      have HN : Hid ((bcells (addrB gs)).length = 16) := by show _ = _; rw [bcells_length, addrB_len, HL.out]
      rw [HE.out] at A2
      go_upto_region 7 with fail
      refine wp_region_lit ?_
      go_wp2_with (first | refine wpList_load_v rfl 22 (.tmp 3) rfl _ rfl ty16 A2.out HN.out ?_ | refine wpList_store_v rfl 22 (.tmp 2) (.tmp 24) rfl _ rfl ty16 A1.out rfl (bcells (addrB gs)) HN.out (bcells_one _) rfl ?_)
      exact bodyPost_ret (v := .agg (bcells (addrB gs)).toArray) (res_cell Tryd.results35 rfl ((A1.out.store (bcells (addrB gs)) (by rw [HN.out]; rfl)).loadVar ty16 HN.out)) rfl ⟨rfl, setCells_below _ (by omega) _ _ _ BB.out⟩

/-! read -/
/-- A row: the first groups, how many there are. -/
def rcells (gs : List Nat) (n : Nat) : List Value := hcells (gs ++ List.replicate (8 - gs.length) 0) ++ [.int .i64 n]
theorem rcells_len {gs : List Nat} (n : Nat) (h : gs.length ≤ 8) : (rcells gs n).length = 9 := by
  unfold rcells
  rw [List.length_append, hcells_length, List.length_append, List.length_replicate]
  simp
  omega
theorem rcells_one (gs : List Nat) (n : Nat) : ∀ v ∈ rcells gs n, v.oneCell' = true := by
  intro v hv
  simp only [rcells, hcells, List.mem_append, List.mem_map, List.mem_singleton] at hv
  rcases hv with ⟨x, _, rfl⟩ | rfl <;> rfl
theorem rcells_next {gs : List Nat} (n x : Nat) (h : gs.length < 8) : (rcells gs n).set gs.length (.int .u16 (x : Nat)) = rcells (gs ++ [x]) n := by
  unfold rcells
  rw [List.set_append_left (h := by rw [hcells_length, List.length_append, List.length_replicate]; omega)]
  have e : (hcells (gs ++ List.replicate (8 - gs.length) 0)).set gs.length (.int .u16 (x : Nat)) = hcells (gs ++ [x] ++ List.replicate (8 - (gs ++ [x]).length) 0) := by
    rw [show 8 - gs.length = (8 - (gs ++ [x]).length) + 1 from by simp; omega, List.replicate_succ]
    simp [hcells]
  rw [e]
theorem rcells_at {gs : List Nat} (n : Nat) (h : gs.length < 8) : (rcells gs n)[gs.length]? = some (.int .u16 0) := by
  unfold rcells
  rw [List.getElem?_append_left (by rw [hcells_length, List.length_append, List.length_replicate]; omega)]
  have e : 8 - gs.length = (8 - (gs.length + 1)) + 1 := by omega
  rw [e, List.replicate_succ]
  simp [hcells]
/-- What read answers. -/
def rval (gs : List Nat) (ok : Bool) : Value := .tuple #[.agg (rcells gs gs.length).toArray, .bool ok]
def ReadIs (l : List UInt8) (w : World) (e : Ending) (w' : World) : Prop := e = .returned (rval (if readOk l then readT l else []) (readOk l)) ∧ Below w.heap.size w w'
theorem read_bad {l : List UInt8} {w w' : World} (h : readOk l = false) (hb : Below w.heap.size w w') : ReadIs l w (.returned (rval [] false)) w' := by
  refine ⟨?_, hb⟩
  rw [h]
  rfl
theorem read_good {l : List UInt8} {w w' : World} {gs : List Nat} (h : readOk l = true) (hg : gs = readT l) (hb : Below w.heap.size w w') : ReadIs l w (.returned (rval gs true)) w' := by
  refine ⟨?_, hb⟩
  rw [h, hg]
  rfl
theorem read_not {l p : List UInt8} (hne : l ≠ []) (hp : p ∈ cutL 58 l) (h : grpOk p = false) : readOk l = false := by
  unfold readOk
  rw [decide_eq_false hne, Bool.false_or]
  have : (cutL 58 l).all grpOk = false := by
    rw [← Bool.not_eq_true]
    intro e
    have h2 := List.all_eq_true.1 e p hp
    rw [h] at h2
    cases h2
  rw [this, Bool.and_false]
theorem str_nil {s : ByteArray} (h : s.size = 0) : s = ⟨#[]⟩ := by
  obtain ⟨⟨l⟩⟩ := s
  cases l with
  | nil => rfl
  | cons _ _ => simp [ByteArray.size] at h

set_option maxRecDepth 10000 in
set_option maxHeartbeats 3200000 in
theorem read_any (s : ByteArray) (w : World) (hs : s.size ≤ 140737488355328) : Calls Tryd.prog 34 #[.string s] w (ReadIs s.data.toList w) := by
  have A0 : Hid (ArrV 73 (w.alloc (.cells (rcells [] 0).toArray 73)) w.heap.size (rcells [] 0)) := ArrV.new _ w _
  have B0 : Hid (Below w.heap.size w (w.alloc (.cells (rcells [] 0).toArray 73))) := (Below.refl _ _).alloc (Nat.le_refl _) _
  by_cases h0 : s.size = 0
  · obtain rfl := str_nil h0
    have F := Lib.hid (fun w' hb => read_good (l := (⟨#[]⟩ : ByteArray).data.toList) (w := w) (w' := w') (gs := []) rfl rfl hb)
    clear h0
    go_enter Tryd.func34, Tryd.ntmps34
    go_upto_region 2 with fail
    refine wp_region_lit ?_
    go_wp2_with (refine wpList_store_v rfl 73 (.tmp 2) (.tmp 11) rfl _ rfl tyrow A0.out rfl (rcells [] 0) rfl (rcells_one _ _) rfl ?_)
    exact bodyPost_ret (v := rval [] true) (res_cell_tmp Tryd.results34 rfl ((A0.out.store (rcells [] 0) rfl).loadVar tyrow rfl) rfl) rfl (F.out _ (setCells_below _ (Nat.le_refl _) _ _ _ B0.out))
  have hemp : s.toList.isEmpty = false := by
    rw [Lib.toList_data]
    cases hl : s.data.toList with
    | nil => rw [← size_list, hl] at h0; exact absurd rfl h0
    | cons x l => rfl
  have hne : s.data.toList ≠ [] := by
    intro e
    rw [← size_list, e] at h0
    exact h0 rfl
  have CS := Lib.hid (fun w => splitN_one s 58 9 w hs (by decide) (by decide))
  have HNE := Lib.hid hne
  clear h0 hne hs
  go_enter Tryd.func34, Tryd.ntmps34
  go_wp2_with fail
  refine (CS.out _).mono ?_
  rintro e w1 ⟨ps, N, h1, h2, rfl, h3, b1⟩
  have A0 := Lib.hid (A0.out.below b1)
  have B0 := Lib.hid (below_both B0.out b1)
  have hsz : (w.alloc (.cells (rcells [] 0).toArray 73)).heap.size = w.heap.size + 1 := by simp
  have h3' := Lib.hid h3
  have hlen : ps.length = min (cutL 58 s.data.toList).length 9 := by
    have e := congrArg List.length h1
    rw [List.length_map, cutK_length] at e
    exact e
  clear b1 CS h3
  by_cases hc : (cutL 58 s.data.toList).length ≤ 8
  · have hps : ps.map (·.data.toList) = cutL 58 s.data.toList := by rw [h1]; exact cutK_all 58 _ 8 (by omega)
    have hp8 : ps.length ≤ 8 := by omega
    have HT : Hid (∀ (j : Nat) x, ps[j]? = some x → w1.cell? ⟨w.heap.size + 1, j, none⟩ = some (.string x)) := fun j x hx => by have := h3'.out j x hx; rw [World.size_alloc] at this; exact this
    have h0b : w.heap.size + 1 < w1.heap.size := by
      have h1 : 0 < ps.length := by have := cutL_one 58 s.data.toList; rw [← hps, List.length_map] at this; omega
      exact cell_lt (HT.out 0 ps[0] (List.getElem?_eq_getElem h1))
    have HPS := Lib.hid hps
    have HC := Lib.hid hc
    clear h1 h2 hlen hps hc h3' hsz
    have A1 : Hid (ArrV 73 (w1.alloc (.cells #[.int .u16 0, .int .u16 0, .int .u16 0, .int .u16 0, .int .u16 0, .int .u16 0, .int .u16 0, .int .u16 0, .int .i64 (ps.length : Nat)] 73)) w1.heap.size (rcells [] ps.length)) := ArrV.new _ w1 _
    have A0 := Lib.hid (A0.out.alloc (.cells #[.int .u16 0, .int .u16 0, .int .u16 0, .int .u16 0, .int .u16 0, .int .u16 0, .int .u16 0, .int .u16 0, .int .i64 (ps.length : Nat)] 73))
    have B0 := Lib.hid (B0.out.alloc B0.out.size (.cells #[.int .u16 0, .int .u16 0, .int .u16 0, .int .u16 0, .int .u16 0, .int .u16 0, .int .u16 0, .int .u16 0, .int .i64 (ps.length : Nat)] 73))
    have HT := Lib.hid (fun (j : Nat) x (hx : ps[j]? = some x) => (World.cell?_alloc_lt w1 (.cells #[.int .u16 0, .int .u16 0, .int .u16 0, .int .u16 0, .int .u16 0, .int .u16 0, .int .u16 0, .int .u16 0, .int .i64 (ps.length : Nat)] 73) ⟨w.heap.size + 1, j, none⟩ (cell_lt (HT.out j x hx))).trans (HT.out j x hx))
    have hp8i : ¬ ((ps.length : Int) > 8) := by omega
    go_wp2_with fail
    obtain ⟨b, hb⟩ : ∃ b, b = w1.heap.size := ⟨_, rfl⟩
    have hwb : w.heap.size + 1 < b := by rw [hb]; exact h0b
    rw [← hb] at A1 ⊢
    generalize (w1.alloc (.cells #[.int .u16 0, .int .u16 0, .int .u16 0, .int .u16 0, .int .u16 0, .int .u16 0, .int .u16 0, .int .u16 0, .int .i64 (ps.length : Nat)] 73)) = W0 at *
    clear hb h0b
    obtain ⟨n, hn⟩ : ∃ n, n = ps.length := ⟨_, rfl⟩
    rw [← hn] at hp8 A1 ⊢
    have HN := Lib.hid hn
    clear hn hp8i
    go_loopw [23] (fun i wr => ∃ k : Nat, k ≤ n ∧ i = .int .i64 k ∧ Hid (ArrV 73 wr b (rcells ((ps.take k).map fun x => hexnum x.data.toList) n)) ∧ Hid (ArrV 73 wr w.heap.size (rcells [] 0)) ∧
      Hid (∀ (j : Nat) x, ps[j]? = some x → wr.cell? ⟨w.heap.size + 1, j, none⟩ = some (.string x)) ∧ Hid (∀ x ∈ ps.take k, grpOk x.data.toList = true) ∧ Hid (Below w.heap.size w wr)) (fun i _ => n - (intOf i).toNat)
    case atStart => exact ⟨0, Nat.zero_le _, rfl, A1.out, A0.out, HT.out, fun x hx => by simp at hx, B0.out⟩
    case round =>
      clear A0 A1 B0 HT
      obtain ⟨k, hk, rfl, A1, A0, HT, HO, BB⟩ := hrel
      by_cases hlt : k < n
      · obtain ⟨x, hx⟩ : ∃ x, ps[k]? = some x := ⟨_, List.getElem?_eq_getElem (by rw [← HN.out]; exact hlt)⟩
        have hcell := HT.out k x hx
        have HS : Hid (ps.take (k + 1) = ps.take k ++ [x]) := by
          show _ = _
          have hk2 : k < ps.length := by rw [← HN.out]; exact hlt
          rw [List.take_succ_eq_append_getElem hk2]
          rw [List.getElem?_eq_getElem hk2] at hx
          injection hx with hx
          rw [hx]
        have HK : Hid (((ps.take k).map fun x => hexnum x.data.toList).length = k) := by show _ = _; rw [List.length_map, List.length_take, ← HN.out]; omega
        have HM : Hid (x.data.toList ∈ cutL 58 s.data.toList) := by
          show _ ∈ _
          rw [← HPS.out]
          exact List.mem_map_of_mem (List.mem_of_getElem? hx)
        have CG := Lib.hid (fun w => group_any x w)
        have wk : wrap64 ((k : Int) + 1) = ((k + 1 : Nat) : Int) := wrap_inc (by omega)
        have hk8 : k < 8 := by omega
        clear hx
        cases hok : grpOk x.data.toList
        · have F := Lib.hid (fun w' hb => read_bad (l := s.data.toList) (w := w) (w' := w') (read_not HNE.out HM.out hok) hb)
          have HOK := Lib.hid hok
          clear hok
          go_wp2_with fail
          refine (CG.out _).mono ?_
          rintro e w' ⟨rfl, rfl⟩
          rw [HOK.out]
          go_upto_region 12 with fail
          refine wp_region_lit ?_
          go_wp2_with (refine wpList_store_v rfl 73 (.tmp 2) (.tmp 36) rfl _ rfl tyrow A0.out rfl (rcells [] 0) rfl (rcells_one _ _) rfl ?_)
          exact bodyPost_ret (v := rval [] false) (res_cell_tmp Tryd.results34 rfl ((A0.out.store (rcells [] 0) rfl).loadVar tyrow rfl) rfl) rfl (F.out _ (setCells_below _ (Nat.le_refl _) _ _ _ BB.out))
        · have HOK := Lib.hid hok
          have CG2 : Hid (∀ w, Calls Tryd.prog 50 #[.string x] w fun e w' => e = .returned (.tuple #[.int .u16 (hexnum x.data.toList), .bool true]) ∧ w = w') := Lib.hid (fun w => (CG.out w).mono (by rintro e w' ⟨rfl, rfl⟩; rw [hok]; exact ⟨rfl, rfl⟩))
          have HO2 : Hid (∀ y ∈ ps.take (k + 1), grpOk y.data.toList = true) := by
            show ∀ y ∈ _, _
            rw [HS.out]
            intro y hy
            rcases List.mem_append.1 hy with h | h
            · exact HO.out y h
            · simp at h; rw [h]; exact hok
          have HE : Hid (rcells (((ps.take k).map fun x => hexnum x.data.toList) ++ [hexnum x.data.toList]) n = rcells ((ps.take (k + 1)).map fun x => hexnum x.data.toList) n) := by
            show _ = _
            rw [HS.out, List.map_append]
            rfl
          have A2 := A1.out.set k (.int .u16 (hexnum x.data.toList : Nat))
          have hat := rcells_at (gs := (ps.take k).map fun x => hexnum x.data.toList) n (by rw [HK.out]; exact hk8)
          have hnx := rcells_next (gs := (ps.take k).map fun x => hexnum x.data.toList) n (hexnum x.data.toList) (by rw [HK.out]; exact hk8)
          rw [HK.out] at hat hnx
          rw [hnx, HE.out] at A2
          have c0 := A1.out.get k
          rw [hat] at c0
          have f0 := A1.out.frozen k
          have A3 := Lib.hid A2
          have A4 := Lib.hid (A0.out.other ⟨b, k, none⟩ (.int .u16 (hexnum x.data.toList : Nat)) (by simp; omega))
          have HT2 := Lib.hid (fun (j : Nat) y (hy : ps[j]? = some y) => (cell_other wr ⟨b, k, none⟩ ⟨w.heap.size + 1, j, none⟩ (.int .u16 (hexnum x.data.toList : Nat)) (by simp; omega)).trans (HT.out j y hy))
          have B3 := Lib.hid (BB.out.setCell (p := ⟨b, k, none⟩) (by simp; omega) (.int .u16 (hexnum x.data.toList : Nat)))
          clear hok A2 hat hnx CG HE
          generalize hexnum x.data.toList = z at *
          go_wp2_with fail
          refine (CG2.out _).mono ?_
          rintro e w' ⟨rfl, rfl⟩
          go_wp2_with fail
          go_roundw
          case rel => exact ⟨k + 1, by omega, rfl, A3.out, A4.out, HT2.out, HO2.out, B3.out⟩
          case measure => simp [intOf]; omega
      · obtain rfl : k = n := by omega
        have HA : Hid (ps.take k = ps) := by show _ = _; rw [HN.out]; exact List.take_length
        rw [HA.out] at A1 HO
        have HG : Hid ((ps.map fun x => hexnum x.data.toList) = readT s.data.toList) := by
          show _ = _
          unfold readT
          rw [if_neg HNE.out, ← HPS.out, List.map_map]
          rfl
        have HL : Hid ((ps.map fun x => hexnum x.data.toList).length = k) := by show _ = _; rw [List.length_map, HN.out]
        have HR : Hid (readOk s.data.toList = true) := by
          show _ = _
          unfold readOk
          rw [decide_eq_true HC.out, ← HPS.out, List.all_map]
          have : (ps.all (grpOk ∘ fun x => x.data.toList)) = true := List.all_eq_true.2 fun x hx => HO.out x hx
          rw [this]
          simp
        generalize (ps.map fun x => hexnum x.data.toList) = gs at *
        have hr9 := rcells_len (gs := gs) k (by rw [HL.out]; exact hp8)
        have hr1 := rcells_one gs k
        have F := Lib.hid (fun w' hb => read_good (l := s.data.toList) (w := w) (w' := w') (gs := gs) HR.out HG.out hb)
        go_upto_region 15 with fail
        refine wp_region_lit ?_
        go_wp2_with (first | refine wpList_load_v rfl 73 (.tmp 5) rfl _ rfl tyrow A1.out hr9 ?_ | refine wpList_store_v rfl 73 (.tmp 2) (.tmp 42) rfl _ rfl tyrow A0.out rfl (rcells gs k) hr9 hr1 rfl ?_)
        refine bodyPost_ret (v := .tuple #[.agg (rcells gs k).toArray, .bool true]) (res_cell_tmp Tryd.results34 rfl ((A0.out.store (rcells gs k) (by rw [hr9]; rfl)).loadVar tyrow hr9) rfl) rfl ?_
        have h := F.out _ (setCells_below w.heap.size (Nat.le_refl _) (rcells gs k) 0 wr BB.out)
        unfold rval at h
        rw [HL.out] at h
        exact h
  · have F := Lib.hid (fun w' hb => read_bad (l := s.data.toList) (w := w) (w' := w') (by unfold readOk; rw [decide_eq_false hc, decide_eq_false HNE.out]; rfl) hb)
    have hgt : (ps.length : Int) > 8 := by omega
    clear h1 h2 hlen hc h3' hsz
    go_upto_region 5 with fail
    refine wp_region_lit ?_
    go_wp2_with (refine wpList_store_v rfl 73 (.tmp 2) (.tmp 17) rfl _ rfl tyrow A0.out rfl (rcells [] 0) rfl (rcells_one _ _) rfl ?_)
    exact bodyPost_ret (v := rval [] false) (res_cell_tmp Tryd.results34 rfl ((A0.out.store (rcells [] 0) rfl).loadVar tyrow rfl) rfl) rfl (F.out _ (setCells_below _ (Nat.le_refl _) _ _ _ B0.out))
end Go.Proofs.YtaicmadeobglfaaDoor
