/-
  build: plans as cells; padded, numbers.
  build: numbers; a part of a variable loaded where the world stands still.
  build: four.
  build: six.
  build: headers, Check, Build, Size.
  build: Check, Size, Build.
-/
import Derived.Test.YtmchclpkjjmocaaGreatOwn
import Derived.Test.YtmchclpkjjmocaaGreatArrV
import Derived.Test.YtmchclpkjjmocaaGreatEw5
import Derived.Test.YtmchclpkjjmocaaGreatFh4
import Derived.Test.YtmchclpkjjmocaaGreatApp
import Derived.Test.YtmchclpkjjmocaaGreatRegCall
import Derived.Test.YtmchclpkjjmocaaGreatFh11
import Derived.Test.YtmchclpkjjmocaaGreatFh14
import Derived.Laws.Cover3
import Derived.StillTailTactics
import Derived.Test.YtmchclpkjjmocaaGreatSxEq
import Derived.Test.YtmchclpkjjmocaaGreatEwC
import Derived.Test.YtmchclpkjjmocaaGreatSx7
import Derived.BigQuiet
import Derived.Test.YtmchclpkjjmocaaGreatPtS
import Derived.Test.YtmchclpkjjmocaaGreatPo8
namespace Go.Proofs.YtmchclpkjjmocaaGreat
open Go.RowKit
set_option linter.unusedVariables false
set_option maxRecDepth 8000

structure PlanV where
  v : Int
  src : List Nat
  dst : List Nat
  dscp : Int
  ecn : Int
  ttl : Int
  id : Int
  off : Int
  more : Bool
  ov : Value
  os : List Nat
  ev : Value
  M : List (Int × List Nat)
  proto : Int
  pv : Value
  ps : List Nat
  tv : Value
  ts : List Nat
def PlanV.tail (p : PlanV) : List Value := [.int .i64 p.dscp, .int .i64 p.ecn, .int .i64 p.ttl, .int .i64 p.id, .int .i64 p.off, .bool p.more, p.ov, p.ev, .int .i64 p.proto, p.pv, p.tv]
def PlanV.cells (p : PlanV) : List Value := .int .i64 p.v :: (bcells p.src ++ (bcells p.dst ++ p.tail))
def Big (k : Int) : Prop := -9223372036854775808 ≤ k ∧ k ≤ 9223372036854775807
/-- What every plan that comes in keeps to. -/
structure PlanV.Ok (p : PlanV) : Prop where
  sl : p.src.length = 16
  dl : p.dst.length = 16
  sb : ∀ x ∈ p.src, x < 256
  db : ∀ x ∈ p.dst, x < 256
  one : p.ov.oneCell' = true ∧ p.ev.oneCell' = true ∧ p.pv.oneCell' = true ∧ p.tv.oneCell' = true
  v : Big p.v
  dscp : Big p.dscp
  ecn : Big p.ecn
  ttl : Big p.ttl
  id : Big p.id
  off : Big p.off
  proto : Big p.proto
  ol : p.os.length ≤ 140737488351232
  pl : p.ps.length ≤ 140737488351232
  tl : p.ts.length ≤ 140737488351232
  ml : p.M.length ≤ 140737488351232
/-- Its slices, in a world. -/
structure PlanV.In (p : PlanV) (w : World) : Prop where
  io : ByteVal w p.ov p.os
  ie : ExtsIn w p.ev p.M
  ip : ByteVal w p.pv p.ps
  it : ByteVal w p.tv p.ts
theorem PlanV.In.below {p : PlanV} {w w' : World} (h : p.In w) (hb : Below w.heap.size w w') : p.In w' := ⟨h.io.below hb, h.ie.below hb, h.ip.below hb, h.it.below hb⟩
theorem PlanV.cells_all {p : PlanV} (h : p.Ok) : p.cells.length = 44 ∧ ∀ v ∈ p.cells, v.oneCell' = true := by
  refine ⟨by simp [PlanV.cells, PlanV.tail, bcells_length, h.sl, h.dl], fun v hv => ?_⟩
  unfold PlanV.cells at hv
  rcases List.mem_cons.1 hv with rfl | hv
  · rfl
  rcases List.mem_append.1 hv with hv | hv
  · exact bcells_one _ v hv
  rcases List.mem_append.1 hv with hv | hv
  · exact bcells_one _ v hv
  · unfold PlanV.tail at hv
    obtain ⟨a, b, c, d⟩ := h.one
    simp at hv
    rcases hv with rfl | rfl | rfl | rfl | rfl | rfl | rfl | rfl | rfl | rfl | rfl
    all_goals first | rfl | assumption
theorem typlan : RowTy 49 44 := ⟨⟨_, Tryz.underlying49, rfl⟩, by kernel_rfl⟩
theorem plan_at {a : Value} {S D T : List Value} (hS : S.length = 16) (hD : D.length = 16) (j : Nat) : (a :: (S ++ (D ++ T)))[33 + j]? = T[j]? := by
  rw [show 33 + j = (16 + (16 + j)) + 1 by omega, List.getElem?_cons_succ, List.getElem?_append_right (by omega), hS, Nat.add_sub_cancel_left, List.getElem?_append_right (by omega), hD, Nat.add_sub_cancel_left]
/-- A plan's cells, told one by one. -/
theorem plan_cells {p : PlanV} (h : p.Ok) {t : TypeId} {W : World} {g : Nat} (hA : ArrV t W g p.cells) :
    W.cell? ⟨g, 0, none⟩ = some (.int .i64 p.v) ∧ W.cell? ⟨g, 33, none⟩ = some (.int .i64 p.dscp) ∧ W.cell? ⟨g, 34, none⟩ = some (.int .i64 p.ecn) ∧ W.cell? ⟨g, 35, none⟩ = some (.int .i64 p.ttl) ∧ W.cell? ⟨g, 36, none⟩ = some (.int .i64 p.id) ∧ W.cell? ⟨g, 37, none⟩ = some (.int .i64 p.off) ∧ W.cell? ⟨g, 38, none⟩ = some (.bool p.more) ∧
    W.cell? ⟨g, 39, none⟩ = some p.ov ∧ W.cell? ⟨g, 40, none⟩ = some p.ev ∧ W.cell? ⟨g, 41, none⟩ = some (.int .i64 p.proto) ∧ W.cell? ⟨g, 42, none⟩ = some p.pv ∧ W.cell? ⟨g, 43, none⟩ = some p.tv := by
  have hs : (bcells p.src).length = 16 := by rw [bcells_length, h.sl]
  have hd : (bcells p.dst).length = 16 := by rw [bcells_length, h.dl]
  have k : ∀ j, W.cell? ⟨g, 33 + j, none⟩ = p.tail[j]? := fun j => (hA.get (33 + j)).trans (plan_at hs hd j)
  exact ⟨hA.get 0, k 0, k 1, k 2, k 3, k 4, k 5, k 6, k 7, k 8, k 9, k 10⟩
def bdPad (os : List Nat) : List Nat := os ++ List.replicate ((os.length + 3) / 4 * 4 - os.length) 0
theorem bdPad_len (os : List Nat) : (bdPad os).length = (os.length + 3) / 4 * 4 := by
  unfold bdPad
  rw [List.length_append, List.length_replicate]
  omega
theorem bdPad_byte {os : List Nat} (h : ∀ x ∈ os, x < 256) : ∀ x ∈ bdPad os, x < 256 := fun x hx => by
  unfold bdPad at hx
  rcases List.mem_append.1 hx with hx | hx
  · exact h x hx
  · rw [List.eq_of_mem_replicate hx]; decide
set_option maxHeartbeats 1600000 in
/-- Options with zeros behind them. -/
theorem padded_any (v : Value) (os : List Nat) (w : World) (hl : os.length ≤ 140737488351232) (hv : ByteVal w v os) :
    Calls Tryz.prog 67 #[v] w fun e w' => ∃ g, w.heap.size ≤ g ∧ e = .returned (.slice (some ⟨g, 0, none⟩) (bdPad os).length (bdPad os).length) ∧ Own w' g (bdPad os) ∧ Below w.heap.size w w' := by
  obtain ⟨A, c, rfl, hc, hR⟩ := hv
  have hlen := bdPad_len os
  obtain ⟨m, hm⟩ : ∃ m, m = (bdPad os).length := ⟨_, rfl⟩
  obtain ⟨n, hn⟩ : ∃ n, n = os.length := ⟨_, rfl⟩
  rw [← hm, ← hn] at hlen
  rw [← hn] at hl hc hR
  rw [← hn, ← hm]
  have hmk := make_bytes m (by omega) w
  have o0 := Own.new w (List.replicate m 0)
  obtain ⟨V, eV⟩ : ∃ V, V = w.alloc (.cells (bcells (List.replicate m 0)).toArray 5) := ⟨_, rfl⟩
  rw [← eV] at hmk o0
  have hbV : Below w.heap.size w V := by rw [eV]; exact (Below.refl _ _).alloc (Nat.le_refl _) _
  have hRV := hR.below hbV
  have hcp : ∃ w2, Sem.run Tryz.prog (Builtin.copy_ #[22, 22] 3 #[.slice (some ⟨w.heap.size, 0, none⟩) m m, .slice A n c]) V = .ok (.int .i64 (n : Nat)) w2 ∧ ArrV 5 w2 w.heap.size (bcells (bdPad os)) ∧ Below w.heap.size V w2 := by
    rcases Nat.eq_zero_or_pos n with h0 | h0
    · subst h0
      have e1 : os = [] := List.eq_nil_of_length_eq_zero hn.symm
      have e2 : m = 0 := by omega
      subst e2
      subst e1
      exact ⟨V, run_copy_none V _ _ _ 5 _ _ _ _ _ _ Tryz.underlying22 u8_size (by show min 0 0 = 0; omega), o0, Below.refl _ _⟩
    · obtain ⟨b, o, rfl, hbs, hcell⟩ := hRV.addr h0
      obtain ⟨w2, h1, h2, h3⟩ := copy_at Tryz.underlying22 u8_size 5 V w.heap.size 0 m m (bcells (List.replicate m 0)) ⟨b, o, none⟩ n c (bcells os) (show ArrV _ _ _ _ from o0) (by rw [bcells_length, hn]; show _ = min _ _; omega) (fun j u hu => by
        have hj : j < os.length := by
          have := (List.getElem?_eq_some_iff.1 hu).1
          rwa [bcells_length] at this
        have hx : (bcells os)[j]? = some (.int .u8 (os.getD j 0 : Nat)) := by
          unfold bcells
          rw [List.getElem?_map, List.getElem?_eq_getElem hj, List.getD_eq_getElem?_getD, List.getElem?_eq_getElem hj]
          rfl
        rw [hx] at hu
        cases hu
        have h5 := hcell j (by omega)
        rcases Nat.eq_zero_or_pos j with hj0 | hj0
        · subst hj0
          simpa [Addr.add] using h5
        · simpa [Addr.add, show j ≠ 0 by omega] using h5) (by rw [bcells_length, bcells_length, List.length_replicate]; omega) (bcells_one os)
      rw [bcells_length, ← hn] at h1
      refine ⟨w2, h1, ?_, h3⟩
      have e : (bcells (List.replicate m 0)).take 0 ++ bcells os ++ (bcells (List.replicate m 0)).drop (0 + (bcells os).length) = bcells (bdPad os) := by
        unfold bdPad bcells
        rw [List.take_zero, List.nil_append, List.length_map, Nat.zero_add, List.map_append, ← List.map_drop, List.drop_replicate, ← hn, ← hlen]
      rw [e] at h2
      exact h2
  obtain ⟨w2, h1, h2, h3⟩ := hcp
  have HO := Lib.hid h2
  have HB := Lib.hid (hbV.trans h3)
  have i1 : wrap64 ((n : Int) + 3) = (n : Int) + 3 := by unfold wrap64; omega
  have i2 : wrap64 (((n : Int) + 3).tdiv 4) = ((n : Int) + 3) / 4 := by rw [Int.tdiv_eq_ediv_of_nonneg (by omega)]; unfold wrap64; omega
  have i4 : wrap64 (((n : Int) + 3) / 4) = ((n : Int) + 3) / 4 := by unfold wrap64; omega
  have i3 : wrap64 (((n : Int) + 3) / 4 * 4) = (m : Int) := by unfold wrap64; omega
  have i5 : wrap64 (4 * (((n : Int) + 3) / 4)) = (m : Int) := by unfold wrap64; omega
  clear h2 h3 hbV hRV o0 hR hc hl hm hn hlen eV
  go_enter Tryz.func67, Tryz.ntmps67
  go_wp2_with fail
  go_ret
  exact ⟨_, Nat.le_refl _, rfl, HO.out, HB.out⟩
end Go.Proofs.YtmchclpkjjmocaaGreat

namespace Go.Proofs.YtmchclpkjjmocaaGreat
open Go.RowKit
set_option linter.unusedVariables false
set_option maxRecDepth 8000

/-- The load of a part of a variable, where the world stands still. -/
theorem wpStill_load_part {ops : Array Oper} {rest : List Oper} {o : Oper} {a : Act} {w : World} {Q : Act → Prop} (hgd : o.guard = none) (t : TypeId) (x : Operand) (ho : o.op = .load t x)
    (g off : Nat) (hx : a.eval x = .pointer (some ⟨g, off, none⟩)) {n : Nat} {cs vs : List Value} {t' : TypeId} (ht : RowTy t n) (h : ArrV t' w g cs) (hv : ∀ (j : Nat) v, vs[j]? = some v → cs[off + j]? = some v) (hl : vs.length = n) (hk : wpStill Tryz.prog ops w Q rest (a.put o.dst (.agg vs.toArray))) : wpStill Tryz.prog ops w Q (o :: rest) a := by
  obtain ⟨d, hd, hr⟩ := ht.desc
  have hload : (Instr.loadAt t (.pointer (some ⟨g, off, none⟩))).run Tryz.prog w = .ok (.agg vs.toArray) w := run_loadAt_mid w g off t vs d (fun j v hj => (h.get (off + j)).trans (hv j v hj)) hd hr (by rw [hl]; exact ht.size)
  refine wpStill_step fun K hK => ?_
  rw [if_pos (by simp [Region.wanted, hgd])]
  unfold Oper.still execOp
  simp only [ho, hx, Sem.run_bind, Sem.run_pure, hload, Result.andThen_ok, Oper.stillUpon_value]
  exact hK _ hk
def bdNums (p : PlanV) : List Value := [.int .i64 p.ttl, .int .i64 255, .int .i64 p.proto, .int .i64 255, .int .i64 p.id, .int .i64 65535, .int .i64 p.off, .int .i64 8191]
theorem bdtynums : RowTy 85 8 := ⟨⟨_, Tryz.underlying85, rfl⟩, by kernel_rfl⟩
set_option maxHeartbeats 1600000 in
theorem bdnumbers_any (p : PlanV) (hp : p.Ok) (w : World) :
    Calls Tryz.prog 46 #[.agg p.cells.toArray] w fun e w' => e = .returned (.agg (bdNums p).toArray) ∧ Below w.heap.size w w' := by
  obtain ⟨Xl, Xo⟩ := PlanV.cells_all hp
  obtain ⟨V, eV⟩ : ∃ V, V = w.alloc (.cells p.cells.toArray 49) := ⟨_, rfl⟩
  have hA : ArrV 49 V w.heap.size p.cells := by rw [eV]; exact ArrV.new _ w _
  have hB : Below w.heap.size w V := by rw [eV]; exact (Below.refl _ _).alloc (Nat.le_refl _) _
  obtain ⟨N, hN⟩ : ∃ N, N = bdNums p := ⟨_, rfl⟩
  have hlit : (#[.int .i64 p.ttl, .int .i64 255, .int .i64 p.proto, .int .i64 255, .int .i64 p.id, .int .i64 65535, .int .i64 p.off, .int .i64 8191] : Array Value) = N.toArray := by rw [hN]; rfl
  have hNl : N.length = 8 := by rw [hN]; rfl
  have hNo : ∀ v ∈ N, v.oneCell' = true := by rw [hN]; unfold bdNums; simp [Value.oneCell']
  rw [← hN]
  obtain ⟨X, hX⟩ : ∃ X, X = p.cells := ⟨_, rfl⟩
  have HPC : Hid (∀ W, ArrV 49 W w.heap.size X → W.cell? ⟨w.heap.size, 35, none⟩ = some (.int .i64 p.ttl) ∧ W.cell? ⟨w.heap.size, 36, none⟩ = some (.int .i64 p.id) ∧ W.cell? ⟨w.heap.size, 37, none⟩ = some (.int .i64 p.off) ∧ W.cell? ⟨w.heap.size, 41, none⟩ = some (.int .i64 p.proto)) := fun W h => by
    rw [hX] at h
    obtain ⟨_, _, _, a, b, c, _, _, _, d, _, _⟩ := plan_cells hp h
    exact ⟨a, b, c, d⟩
  rw [← hX] at hA Xl Xo eV ⊢
  have HA := Lib.hid hA
  have HB := Lib.hid hB
  obtain ⟨Z, hZ⟩ : ∃ Z : List Value, Z = [.int .i64 0, .int .i64 0, .int .i64 0, .int .i64 0, .int .i64 0, .int .i64 0, .int .i64 0, .int .i64 0] := ⟨_, rfl⟩
  have hZl : Z.length = 8 := by rw [hZ]; rfl
  obtain ⟨V2, eV2⟩ : ∃ V2, V2 = V.alloc (.cells #[.int .i64 0, .int .i64 0, .int .i64 0, .int .i64 0, .int .i64 0, .int .i64 0, .int .i64 0, .int .i64 0] 85) := ⟨_, rfl⟩
  have hA2 : ArrV 85 V2 V.heap.size Z := by rw [eV2, hZ]; exact ArrV.new _ V _
  have hX2 := hA.below (show Below V.heap.size V V2 by rw [eV2]; exact (Below.refl _ _).alloc (Nat.le_refl _) _)
  have hB2 : Below w.heap.size w V2 := by rw [eV2]; exact hB.alloc hB.size _
  obtain ⟨c35, c36, c37, c41⟩ := HPC.out V2 hX2
  have A2 := Lib.hid hA2
  have B2 := Lib.hid hB2
  have hsz : V.heap.size = w.heap.size + 1 := by rw [eV]; simp
  have HG : Hid (w.heap.size ≤ w.heap.size + 1) := Nat.le_succ _
  rw [hsz] at A2
  clear hA hB hA2 hX2 hB2 hX hN hZ HPC hsz
  go_enter Tryz.func46, Tryz.ntmps46
  go_upto_region 1 with fail
  rw [← eV]
  clear eV
  rw [← eV2]
  clear eV2
  obtain ⟨g2, hg2⟩ : ∃ g, g = w.heap.size + 1 := ⟨_, rfl⟩
  rw [← hg2] at A2 HG ⊢
  obtain ⟨g1, hg1⟩ : ∃ g, g = w.heap.size := ⟨_, rfl⟩
  rw [← hg1] at c35 c36 c37 c41 HG ⊢
  have HG1 := Lib.hid hg1
  clear hg2 hg1
  go_wp2_with (first | refine wpList_store_v rfl 85 (.tmp 2) (.tmp 15) rfl _ rfl bdtynums A2.out hZl N hNl hNo rfl ?_ | fail)
  have HS := A2.out.store N (by rw [hNl, hZl])
  exact bodyPost_ret (v := .agg N.toArray) (res_cell Tryz.results46 rfl (HS.loadVar bdtynums hNl)) rfl ⟨rfl, setCells_below g2 (by rw [← HG1.out]; exact HG.out) _ _ _ B2.out⟩
end Go.Proofs.YtmchclpkjjmocaaGreat

namespace Go.Proofs.YtmchclpkjjmocaaGreat
open Go.RowKit
set_option linter.unusedVariables false
set_option maxRecDepth 8000

/-- The header of a plan of version 4. -/
def bdF (p : PlanV) (field : Nat) : FourV :=
  ⟨((5 + (bdPad p.os).length / 4 : Nat) : Int), (field : Nat), ((20 + (bdPad p.os).length + p.ps.length : Nat) : Int), p.id, if p.more then 1 else 0, p.off, p.ttl, p.proto, 0, p.src.take 4, p.dst.take 4⟩
def bdFourErr (p : PlanV) : Nat := if p.M.length > 0 then 10 else if p.os.length > 40 then 18 else if p.ps.length > 65535 - (20 + (bdPad p.os).length) then 18 else 0
def bdFour (p : PlanV) (field : Nat) : List Nat := fhseal ((bdF p field).bytes (bdPad p.os)) (20 + (bdPad p.os).length)
structure PlanV.Nums (p : PlanV) : Prop where
  ttl : 0 ≤ p.ttl ∧ p.ttl ≤ 255
  proto : 0 ≤ p.proto ∧ p.proto ≤ 255
  id : 0 ≤ p.id ∧ p.id ≤ 65535
  off : 0 ≤ p.off ∧ p.off ≤ 8191
theorem bdF_fits {p : PlanV} {field : Nat} (hn : p.Nums) (hf : field ≤ 255) (ho : p.os.length ≤ 40) (hp : p.ps.length ≤ 65535 - (20 + (bdPad p.os).length)) : (bdF p field).fits := by
  have hl := bdPad_len p.os
  obtain ⟨a, b, c, d⟩ := hn
  intro k hk
  unfold FourV.okAt
  match k, hk with
  | 0, _ => show (5 : Int) ≤ ((5 + (bdPad p.os).length / 4 : Nat) : Int) ∧ ((5 + (bdPad p.os).length / 4 : Nat) : Int) ≤ 15; omega
  | 1, _ => show (0 : Int) ≤ ((field : Nat) : Int) ∧ ((field : Nat) : Int) ≤ 255; omega
  | 2, _ => show (0 : Int) ≤ ((20 + (bdPad p.os).length + p.ps.length : Nat) : Int) ∧ ((20 + (bdPad p.os).length + p.ps.length : Nat) : Int) ≤ 65535; omega
  | 3, _ => exact c
  | 4, _ => show (0 : Int) ≤ (if p.more then 1 else 0) ∧ (if p.more then (1 : Int) else 0) ≤ 7; split <;> omega
  | 5, _ => exact d
  | 6, _ => exact a
  | 7, _ => exact b
  | 8, _ => show (0 : Int) ≤ 0 ∧ (0 : Int) ≤ 65535; omega
theorem bdF_bytes {p : PlanV} {field : Nat} (hok : p.Ok) (hby : ∀ x ∈ p.os, x < 256) (hn : p.Nums) (hf : field ≤ 255) (ho : p.os.length ≤ 40) (hp : p.ps.length ≤ 65535 - (20 + (bdPad p.os).length)) :
    ((bdF p field).bytes (bdPad p.os)).length = 20 + (bdPad p.os).length ∧ (∀ x ∈ (bdF p field).bytes (bdPad p.os), x < 256) ∧ ((bdF p field).bytes (bdPad p.os)).getD 0 0 = 64 + (5 + (bdPad p.os).length / 4) ∧ fhdef (20 + (bdPad p.os).length) ((bdF p field).bytes (bdPad p.os)) = 0 ∧ 4 * (((bdF p field).bytes (bdPad p.os)).getD 0 0 % 16) = 20 + (bdPad p.os).length := by
  have hl := bdPad_len p.os
  obtain ⟨⟨a, a'⟩, ⟨b, b'⟩, ⟨c, c'⟩, ⟨d, d'⟩⟩ := hn
  have h0 : ((bdF p field).bytes (bdPad p.os)).getD 0 0 = 64 + (5 + (bdPad p.os).length / 4) := by
    show 64 + (((5 + (bdPad p.os).length / 4 : Nat) : Int)).toNat = _
    rw [Int.toNat_natCast]
  have hlen : ((bdF p field).bytes (bdPad p.os)).length = 20 + (bdPad p.os).length := by
    unfold FourV.bytes head12 bdF
    simp [hok.sl, hok.dl]
    omega
  refine ⟨hlen, ?_, h0, ?_, by rw [h0]; omega⟩
  · intro x hx
    unfold FourV.bytes at hx
    rcases List.mem_append.1 hx with hx | hx
    · rcases List.mem_append.1 hx with hx | hx
      · rcases List.mem_append.1 hx with hx | hx
        · have e : (if p.more then (1 : Int) else 0).toNat ≤ 1 := by split <;> decide
          unfold head12 bdF at hx
          simp only [Int.toNat_natCast] at hx
          simp only [List.mem_cons, List.not_mem_nil, or_false] at hx
          generalize (if p.more then (1 : Int) else 0).toNat = m at *
          rcases hx with rfl | rfl | rfl | rfl | rfl | rfl | rfl | rfl | rfl | rfl | rfl | rfl <;> omega
        · exact hok.sb x (List.mem_of_mem_take hx)
      · exact hok.db x (List.mem_of_mem_take hx)
    · exact bdPad_byte hby x hx
  · unfold fhdef
    rw [h0, if_neg (by omega), if_neg (by omega), if_neg (by omega), if_neg (by omega), if_neg (by omega)]
theorem bd_quo {m : Nat} (hm : m ≤ 60) : wrap64 (Int.tdiv (m : Int) 4) = ((m / 4 : Nat) : Int) ∧ IntKind.i64.wrap (Int.tdiv (m : Int) 4) = ((m / 4 : Nat) : Int) := by
  rw [Int.tdiv_eq_ediv_of_nonneg (by omega)]
  constructor
  · unfold wrap64; omega
  · rw [IntKind.wrap_i64]; omega
set_option maxHeartbeats 6400000 in
theorem bdfour_any (p : PlanV) (field : Nat) (hok : p.Ok) (hn : p.Nums) (hf : field ≤ 255) (w : World) (hin : p.In w) :
    Calls Tryz.prog 47 #[.agg p.cells.toArray, .int .i64 (field : Nat)] w fun e w' => ∃ v, e = .returned (.tuple #[v, .int .i64 (bdFourErr p : Nat)]) ∧ OutIs w.heap.size w' v (if bdFourErr p = 0 then bdFour p field else []) ∧ Below w.heap.size w w' := by
  obtain ⟨Xl, Xo⟩ := PlanV.cells_all hok
  obtain ⟨V, eV⟩ : ∃ V, V = w.alloc (.cells p.cells.toArray 49) := ⟨_, rfl⟩
  have hA : ArrV 49 V w.heap.size p.cells := by rw [eV]; exact ArrV.new _ w _
  have hB : Below w.heap.size w V := by rw [eV]; exact (Below.refl _ _).alloc (Nat.le_refl _) _
  obtain ⟨g2, hg2⟩ : ∃ g, g = w.heap.size := ⟨_, rfl⟩
  obtain ⟨⟨oA, oc, hov, hoc, oR⟩, ⟨eA, ec, hev, hec, _⟩, ⟨pA, pc, hpv, hpc, pR⟩, _⟩ := hin
  obtain ⟨_, _, _, c35, c36, c37, c38, c39, c40, c41, c42, _⟩ := plan_cells hok hA
  rw [hov] at c39
  rw [hev] at c40
  rw [hpv] at c42
  rw [← hg2] at c35 c36 c37 c38 c39 c40 c41 c42 hA
  have hos := hok.ol
  have hps := hok.pl
  have CP : Hid (∀ W, Below w.heap.size w W → Calls Tryz.prog 67 #[.slice oA p.os.length oc] W fun e w' => ∃ g, W.heap.size ≤ g ∧ e = .returned (.slice (some ⟨g, 0, none⟩) (bdPad p.os).length (bdPad p.os).length) ∧ Own w' g (bdPad p.os) ∧ Below W.heap.size W w') := fun W h => padded_any _ p.os W hos ⟨oA, oc, rfl, hoc, oR.below h⟩
  have HA := Lib.hid hA
  have HB := Lib.hid hB
  have HG2 := Lib.hid hg2
  by_cases hM : p.M.length > 0
  · have he : bdFourErr p = 10 := by unfold bdFourErr; rw [if_pos hM]
    rw [he, if_neg (by decide)]
    obtain ⟨q, hq⟩ : ∃ q, q = p.M.length := ⟨_, rfl⟩
    rw [← hq] at c40 hM
    have qI : (0 : Int) < (q : Int) := by omega
    obtain ⟨X, hX⟩ : ∃ X, X = p.cells := ⟨_, rfl⟩
    rw [← hX] at Xl Xo HA eV ⊢
    clear hX he hq hM CP hos hps oR pR hoc hec hpc hok hn hf hA hB hg2
    go_enter Tryz.func47, Tryz.ntmps47
    go_upto_region 1 with fail
    rw [← eV, ← HG2.out]
    clear eV
    go_wp2_with fail
    go_ret2
    exact ⟨_, rfl, OutIs.nil _ _, HB.out⟩
  have hM0 : p.M.length = 0 := by omega
  rw [hM0] at c40
  by_cases hO : p.os.length > 40
  · have he : bdFourErr p = 18 := by unfold bdFourErr; rw [if_neg hM, if_pos hO]
    rw [he, if_neg (by decide)]
    obtain ⟨q, hq⟩ : ∃ q, q = p.os.length := ⟨_, rfl⟩
    rw [← hq] at c39 hO
    have qI : (40 : Int) < (q : Int) := by omega
    obtain ⟨X, hX⟩ : ∃ X, X = p.cells := ⟨_, rfl⟩
    rw [← hX] at Xl Xo HA eV ⊢
    clear hX he hq hM CP hos hps oR pR hoc hec hpc hok hn hf hA hB hg2 hM0 hO
    go_enter Tryz.func47, Tryz.ntmps47
    go_upto_region 1 with fail
    rw [← eV, ← HG2.out]
    clear eV
    go_wp2_with fail
    go_ret2
    exact ⟨_, rfl, OutIs.nil _ _, HB.out⟩
  have hpl := bdPad_len p.os
  have HPC : Hid (∀ W, Below V.heap.size V W → ArrV 49 W g2 p.cells) := fun W h => HA.out.below h
  by_cases hP : p.ps.length > 65535 - (20 + (bdPad p.os).length)
  · have he : bdFourErr p = 18 := by unfold bdFourErr; rw [if_neg hM, if_neg hO, if_pos hP]
    rw [he, if_neg (by decide)]
    obtain ⟨q, hq⟩ : ∃ q, q = p.os.length := ⟨_, rfl⟩
    obtain ⟨m, hm⟩ : ∃ m, m = (bdPad p.os).length := ⟨_, rfl⟩
    obtain ⟨n, hnn⟩ : ∃ n, n = p.ps.length := ⟨_, rfl⟩
    rw [← hq] at c39 hO CP hpl
    rw [← hm] at CP hP hpl
    rw [← hnn] at c42 hP hps
    have hq40 : (q : Int) ≤ 40 := by omega
    have hc42 : Hid (∀ W, Below V.heap.size V W → W.cell? ⟨g2, 42, none⟩ = some (.slice pA n pc)) := fun W h => (h.cell (p := ⟨g2, 42, none⟩) HA.out.lt).trans c42
    have i1 : wrap64 (20 + (m : Int)) = 20 + (m : Int) := by unfold wrap64; omega
    have i2 : wrap64 (65535 - (20 + (m : Int))) = 65535 - (20 + (m : Int)) := by unfold wrap64; omega
    have i3 : (65535 - (20 + (m : Int))) < (n : Int) := by omega
    obtain ⟨X, hX⟩ : ∃ X, X = p.cells := ⟨_, rfl⟩
    rw [← hX] at Xl Xo HA eV ⊢
    clear hX he hq hnn hM hos hps oR pR hoc hec hpc hok hn hf hA hB hg2 hM0 hO hm hpl hP HPC c42
    go_enter Tryz.func47, Tryz.ntmps47
    go_upto_region 1 with fail
    rw [← eV, ← HG2.out]
    clear eV
    go_wp2_with fail
    refine (CP.out _ HB.out).mono ?_
    rintro e w1 ⟨g, hg, rfl, ho, b1⟩
    have c42 := hc42.out _ b1
    have B1 := Lib.hid (below_both HB.out b1)
    clear ho b1 hg hc42 c35 c36 c37 c38 c39 c40 c41
    go_wp2_with fail
    go_ret2
    exact ⟨_, rfl, OutIs.nil _ _, B1.out⟩
  · have he : bdFourErr p = 0 := by unfold bdFourErr; rw [if_neg hM, if_neg hO, if_neg hP]
    rw [he, if_pos rfl]
    have hob : ∀ x ∈ p.os, x < 256 := oR.2.1
    obtain ⟨f1, f2, f3, f4, f5⟩ := bdF_bytes (field := field) hok hob hn hf (by omega) (by omega)
    have ffit := bdF_fits hn hf (by omega) (by omega)
    obtain ⟨m, hm⟩ : ∃ m, m = (bdPad p.os).length := ⟨_, rfl⟩
    have CW : Hid (∀ (g : Nat) (W : World), Own W g (bdPad p.os) → Calls Tryz.prog 68 #[.agg (bdF p field).cells.toArray, .slice (some ⟨g, 0, none⟩) m m] W fun e w' => ∃ A c, e = .returned (.tuple #[.slice A (20 + m) c, .int .i64 0]) ∧ 20 + m ≤ c ∧ Row w' A (20 + m) ((bdF p field).bytes (bdPad p.os)) ∧ Below W.heap.size W w') := fun g W h => by
      have hr := h.row (bdPad_byte hob)
      rw [← hm] at hr
      refine (fhwrite_any (bdF p field) (some ⟨g, 0, none⟩) m m (bdPad p.os) W (by show (p.src.take 4).length = 4; rw [List.length_take, hok.sl]; rfl) (by show (p.dst.take 4).length = 4; rw [List.length_take, hok.dl]; rfl) (fun x hx => hok.sb x (List.mem_of_mem_take hx)) (fun x hx => hok.db x (List.mem_of_mem_take hx)) (by omega) hr).mono ?_
      rintro e w' ⟨hb, _, _, h3⟩
      obtain ⟨v, rfl, ho⟩ := h3 ffit (by show (m : Int) = 4 * ((5 + (bdPad p.os).length / 4 : Nat) : Int) - 20; omega)
      obtain ⟨A, c, rfl, h1, _, h4⟩ := ho.out f2
      rw [f1, ← hm] at h1 h4 ⊢
      exact ⟨A, c, rfl, h1, h4, hb⟩
    have CS : Hid (∀ (A : Option Addr) (c : Nat) (W : World), 20 + m ≤ c → Row W A (20 + m) ((bdF p field).bytes (bdPad p.os)) → Calls Tryz.prog 25 #[.slice A (20 + m) c] W (SealIs W (bdFour p field))) := fun A c W hc hr => by
      have h := fhseal_ok A (20 + m) c _ W (by omega) hc hr (by rw [hm]; exact f4)
      rw [f5] at h
      exact h
    unfold SealIs at CS
    obtain ⟨q, hq⟩ : ∃ q, q = p.os.length := ⟨_, rfl⟩
    obtain ⟨n, hnn⟩ : ∃ n, n = p.ps.length := ⟨_, rfl⟩
    obtain ⟨sz, hsz⟩ : ∃ sz, sz = 20 + m := ⟨_, rfl⟩
    obtain ⟨ih, hih⟩ : ∃ ih, ih = 5 + (bdPad p.os).length / 4 := ⟨_, rfl⟩
    obtain ⟨tot, htot⟩ : ∃ tot, tot = 20 + (bdPad p.os).length + p.ps.length := ⟨_, rfl⟩
    have i1 : wrap64 (20 + (m : Int)) = (sz : Int) := by unfold wrap64; omega
    have i2 : wrap64 (65535 - (sz : Int)) = 65535 - (sz : Int) := by unfold wrap64; omega
    have i3 : ¬ ((65535 - (sz : Int)) < (n : Int)) := by omega
    have i4 : Int.tdiv (sz : Int) 4 = (ih : Int) := by rw [Int.tdiv_eq_ediv_of_nonneg (by omega)]; omega
    have i5 : IntKind.i64.wrap (ih : Int) = (ih : Int) := by rw [IntKind.wrap_i64]; omega
    have i6 : IntKind.i64.wrap ((sz : Int) + (n : Int)) = (tot : Int) := by rw [IntKind.wrap_i64]; omega
    have j5 : wrap64 (ih : Int) = (ih : Int) := by unfold wrap64; omega
    have j6 : wrap64 ((sz : Int) + (n : Int)) = (tot : Int) := by unfold wrap64; omega
    have j4 : IntKind.i64.wrap (Int.tdiv (sz : Int) 4) = (ih : Int) := by rw [i4, i5]
    have k4 : wrap64 (Int.tdiv (sz : Int) 4) = (ih : Int) := by rw [i4, j5]
    have hq40 : (q : Int) ≤ 40 := by omega
    have HF : Hid ((bdF p field).cells = [.int .i64 (ih : Nat), .int .i64 (field : Nat), .int .i64 (tot : Nat), .int .i64 p.id, .int .i64 (if p.more then 1 else 0), .int .i64 p.off, .int .i64 p.ttl, .int .i64 p.proto, .int .i64 0] ++ bcells (p.src.take 4) ++ bcells (p.dst.take 4)) := by show _ = _; rw [hih, htot]; rfl
    have hbs : (bcells p.src).length = 16 := by rw [bcells_length, hok.sl]
    have hbd : (bcells p.dst).length = 16 := by rw [bcells_length, hok.dl]
    obtain ⟨s0, s1, s2, s3, hS⟩ : ∃ a b c d, bcells (p.src.take 4) = [a, b, c, d] := by
      obtain ⟨a, b, c, d, e, f, g, i, j, k, l', m', n', o', p', q', h⟩ := sixteen hok.sl
      rw [h]
      exact ⟨_, _, _, _, rfl⟩
    obtain ⟨t0, t1, t2, t3, hT⟩ : ∃ a b c d, bcells (p.dst.take 4) = [a, b, c, d] := by
      obtain ⟨a, b, c, d, e, f, g, i, j, k, l', m', n', o', p', q', h⟩ := sixteen hok.dl
      rw [h]
      exact ⟨_, _, _, _, rfl⟩
    have hPS : ∀ (j : Nat) v, [s0, s1, s2, s3][j]? = some v → p.cells[1 + j]? = some v := fun j v hv => by
      rw [← hS] at hv
      have e : bcells (p.src.take 4) = (bcells p.src).take 4 := by unfold bcells; rw [List.map_take]
      rw [e] at hv
      have hj : j < 4 := by
        have := (List.getElem?_eq_some_iff.1 hv).1
        simp at this
        omega
      rw [List.getElem?_take_of_lt hj] at hv
      unfold PlanV.cells
      rw [Nat.add_comm, List.getElem?_cons_succ, List.getElem?_append_left (by omega)]
      exact hv
    have hPD : ∀ (j : Nat) v, [t0, t1, t2, t3][j]? = some v → p.cells[17 + j]? = some v := fun j v hv => by
      rw [← hT] at hv
      have e : bcells (p.dst.take 4) = (bcells p.dst).take 4 := by unfold bcells; rw [List.map_take]
      rw [e] at hv
      have hj : j < 4 := by
        have := (List.getElem?_eq_some_iff.1 hv).1
        simp at this
        omega
      rw [List.getElem?_take_of_lt hj] at hv
      unfold PlanV.cells
      rw [show 17 + j = (16 + j) + 1 by omega, List.getElem?_cons_succ, List.getElem?_append_right (by omega), hbs, Nat.add_sub_cancel_left, List.getElem?_append_left (by omega)]
      exact hv
    have hat : ∀ (o c : Nat) (w : World), (Instr.arrayAt 61 (.slice (some ⟨g2, o, none⟩) 4 c)).run Tryz.prog w = .ok (.pointer (some ⟨g2, o, none⟩)) w := fun o c w => run_arrayAt w 61 _ 4 _ 4 c Tryz.underlying61 (Nat.le_refl _)
    have hCC : Hid (∀ W, Below V.heap.size V W → ArrV 49 W g2 p.cells ∧ W.cell? ⟨g2, 35, none⟩ = some (.int .i64 p.ttl) ∧ W.cell? ⟨g2, 36, none⟩ = some (.int .i64 p.id) ∧ W.cell? ⟨g2, 37, none⟩ = some (.int .i64 p.off) ∧ W.cell? ⟨g2, 38, none⟩ = some (.bool p.more) ∧ W.cell? ⟨g2, 41, none⟩ = some (.int .i64 p.proto) ∧ W.cell? ⟨g2, 42, none⟩ = some (.slice pA p.ps.length pc)) := fun W h => by
      have c : ∀ (k : Nat) v, V.cell? ⟨g2, k, none⟩ = some v → W.cell? ⟨g2, k, none⟩ = some v := fun k v hv => (h.cell (p := ⟨g2, k, none⟩) HA.out.lt).trans hv
      exact ⟨HA.out.below h, c _ _ c35, c _ _ c36, c _ _ c37, c _ _ c38, c _ _ c41, c _ _ c42⟩
    rw [← hnn] at hCC
    rw [← hq] at c39 CP
    rw [← hm] at CP
    rw [← hsz] at CW CS
    obtain ⟨PB, hPB⟩ : ∃ l, l = bdPad p.os := ⟨_, rfl⟩
    obtain ⟨HB1, hHB1⟩ : ∃ l, l = (bdF p field).bytes (bdPad p.os) := ⟨_, rfl⟩
    obtain ⟨OUT, hOUT⟩ : ∃ l, l = bdFour p field := ⟨_, rfl⟩
    rw [← hHB1, ← hPB] at CW
    rw [← hHB1, ← hOUT] at CS
    rw [← hPB] at CP
    rw [← hOUT]
    obtain ⟨FC, hFC⟩ : ∃ l, l = (bdF p field).cells := ⟨_, rfl⟩
    rw [← hFC] at CW HF
    rw [hS, hT] at HF
    have HAT := Lib.hid hat
    have HPS := Lib.hid hPS
    have HPD := Lib.hid hPD
    obtain ⟨X, hX⟩ : ∃ X, X = p.cells := ⟨_, rfl⟩
    rw [← hX] at Xl Xo HA eV hCC HPS HPD ⊢
    have i7 : ∀ b : Bool, ((if b then (1 : Int) else 0) : Int) = if b then 1 else 0 := fun _ => rfl
    cases hmore : p.more
    all_goals
      rw [hmore] at hCC HF c38
      have hlit := HF.out
      simp only [List.cons_append, List.nil_append, Bool.false_eq_true, if_false, if_true] at hlit
      have HLIT := Lib.hid hlit
      clear hlit hPB hHB1 hOUT hFC hX he hob f1 f2 f3 f4 f5 ffit hm hq hnn hsz hih htot HF hbs hbd hS hT hPS hPD hat i7 hM hos hps oR pR hoc hec hpc hok hn hf hA hB hg2 hM0 hO hpl hP HPC c35 c36 c37 c38 c41 c42
      go_enter Tryz.func47, Tryz.ntmps47
      go_upto_region 1 with fail
      rw [← eV, ← HG2.out]
      clear eV
      go_wp2_with fail
      refine (CP.out _ HB.out).mono ?_
      rintro e w1 ⟨g, hg, rfl, ho, b1⟩
      obtain ⟨X1, d35, d36, d37, d38, d41, d42⟩ := hCC.out _ b1
      have B1 := Lib.hid (below_both HB.out b1)
      have O1 := Lib.hid ho
      have X1 := Lib.hid X1
      clear ho b1 hg hCC c39 c40 CP
      go_upto_region 12 with fail
      clear d38 i2 i3
      have HJ := Lib.hid (And.intro i1 (And.intro k4 j6))
      clear i1 k4 j4 j6 i4 i5 i6 j5
      have hat := HAT.out
      have hlitF := congrArg List.toArray HLIT.out.symm
      refine wp_region_still_call 27 _ (by kernel_rfl) (by kernel_rfl) rfl ?_
      simp only [List.take_succ_cons, List.take_zero]
      iterate 20 still_step
      refine wpStill_load_part rfl 61 (.tmp 53) rfl _ 1 rfl ty4 X1.out.drew HPS.out rfl ?_
      iterate 3 still_step
      refine wpStill_load_part rfl 61 (.tmp 57) rfl _ 17 rfl ty4 X1.out.drew HPD.out rfl ?_
      repeat still_step
      refine wpStill_nil ?_
      go_wp2_with fail
      rw [HJ.out.1, HJ.out.2.1, HJ.out.2.2, hlitF]
      refine (CW.out _ _ (show Own w1.drew _ _ from O1.out)).mono ?_
      rintro e w3 ⟨A3, c3, rfl, hc3, r3, b3⟩
      have b3 : Below w1.heap.size w1 w3 := (Below.refl w1.heap.size w1).drew.trans b3
      have R3 := Lib.hid r3
      have C3 := Lib.hid hc3
      have B3 := Lib.hid (below_both B1.out b3)
      clear b3 r3 hc3 d35 d36 d37 d41 d42 X1 O1 hlitF hat
      go_wp2_with fail
      simp only [onlyN, List.drop_succ_cons, List.drop_zero]
      repeat still_step
      refine wpStill_nil ?_
      simp only [Exit.then]
      go_wp2_with fail
      refine (CS.out _ _ _ C3.out R3.out).mono ?_
      rintro e w4 ⟨v, rfl, ho, hb⟩
      have HO := Lib.hid ho
      have B4 := Lib.hid (below_both B3.out hb)
      clear ho hb
      go_wp2_with fail
      go_ret2
      exact ⟨_, rfl, HO.out.mono B3.out.size, B4.out⟩
end Go.Proofs.YtmchclpkjjmocaaGreat

namespace Go.Proofs.YtmchclpkjjmocaaGreat
open Go.RowKit
set_option linter.unusedVariables false
set_option maxRecDepth 8000

def bdS (p : PlanV) (field : Nat) : SixV :=
  ⟨fun j => match j with | 0 => (field : Nat) | 1 => 0 | 2 => (((exBytes p.proto p.M).length + p.ps.length : Nat) : Int) | 3 => exNext p.proto p.M | _ => p.ttl, p.src, p.dst⟩
def bdSixBad (p : PlanV) : Prop := 0 < p.os.length ∨ p.id ≠ 0 ∨ p.off ≠ 0 ∨ p.more = true
instance (p : PlanV) : Decidable (bdSixBad p) := by unfold bdSixBad; exact inferInstance
def bdSixErr (p : PlanV) : Nat := if bdSixBad p then 10 else if (exCheck p.M p.proto).1 ≠ 0 then (exCheck p.M p.proto).1 else if p.ps.length > 65535 - (exBytes p.proto p.M).length then 18 else 0
def bdSix (p : PlanV) (field : Nat) : List Nat := (bdS p field).bytes ++ exBytes p.proto p.M
theorem bd_exlen {p : PlanV} (h : (exCheck p.M p.proto).1 = 0) : (exBytes p.proto p.M).length ≤ 16384 := by
  obtain ⟨_, hw⟩ := written_of (M := p.M) (p := p.proto) (exCheck_ok h).1
  rw [exBytes_len]
  exact hw.len
theorem bdS_fits {p : PlanV} {field : Nat} (hn : p.Nums) (hf : field ≤ 255) (hc : (exCheck p.M p.proto).1 = 0) (hp : p.ps.length ≤ 65535 - (exBytes p.proto p.M).length) : (bdS p field).fitsTo 5 = true := by
  have hl := bd_exlen hc
  obtain ⟨_, ⟨h1, h2, _⟩, _, hm⟩ := exCheck_ok hc
  have hx := exNext_byte (proto := p.proto) (M := p.M) ⟨h1, h2⟩ (fun m hh => (hm m hh).1)
  obtain ⟨a, b⟩ := hn.ttl
  have e : (bdS p field).fitsTo 5 = (((((true && decide (0 ≤ ((field : Nat) : Int) ∧ ((field : Nat) : Int) < 2 ^ 8)) && decide ((0 : Int) ≤ 0 ∧ (0 : Int) < 2 ^ 20)) && decide (0 ≤ (((exBytes p.proto p.M).length + p.ps.length : Nat) : Int) ∧ (((exBytes p.proto p.M).length + p.ps.length : Nat) : Int) < 2 ^ 16)) && decide (0 ≤ exNext p.proto p.M ∧ exNext p.proto p.M < 2 ^ 8)) && decide (0 ≤ p.ttl ∧ p.ttl < 2 ^ 8)) := rfl
  rw [e, decide_eq_true (by omega), decide_eq_true (by omega), decide_eq_true (by omega), decide_eq_true (by omega), decide_eq_true (by omega)]
  rfl
theorem bdS_big {p : PlanV} {field : Nat} (hok : p.Ok) (hf : field ≤ 255) (hc : (exCheck p.M p.proto).1 = 0) : ∀ j, -9223372036854775808 ≤ (bdS p field).k j ∧ (bdS p field).k j ≤ 9223372036854775807 := by
  have hl := bd_exlen hc
  have hpl := hok.pl
  obtain ⟨_, ⟨h1, h2, _⟩, _, hm⟩ := exCheck_ok hc
  have hx := exNext_byte (proto := p.proto) (M := p.M) ⟨h1, h2⟩ (fun m hh => (hm m hh).1)
  intro j
  match j with
  | 0 => show -9223372036854775808 ≤ ((field : Nat) : Int) ∧ ((field : Nat) : Int) ≤ _; omega
  | 1 => show (-9223372036854775808 : Int) ≤ 0 ∧ (0 : Int) ≤ _; omega
  | 2 => show -9223372036854775808 ≤ (((exBytes p.proto p.M).length + p.ps.length : Nat) : Int) ∧ (((exBytes p.proto p.M).length + p.ps.length : Nat) : Int) ≤ _; omega
  | 3 => show -9223372036854775808 ≤ exNext p.proto p.M ∧ exNext p.proto p.M ≤ _; omega
  | j + 4 => exact hok.ttl
theorem bdS_len {p : PlanV} {field : Nat} (hok : p.Ok) : (bdS p field).bytes.length = 40 ∧ ∀ x ∈ (bdS p field).bytes, x < 256 := by
  constructor
  · unfold SixV.bytes
    rw [List.length_append, List.length_append, pb_length]
    show 8 + p.src.length + p.dst.length = 40
    rw [hok.sl, hok.dl]
  · intro x hx
    unfold SixV.bytes at hx
    rcases List.mem_append.1 hx with h | h
    · rcases List.mem_append.1 h with h | h
      · exact pb_byte _ _ x h
      · exact hok.sb x h
    · exact hok.db x h
theorem bd_sixteen {l : List Value} (h : l.length = 16) : ∃ s0 s1 s2 s3 s4 s5 s6 s7 s8 s9 s10 s11 s12 s13 s14 s15, l = [s0, s1, s2, s3, s4, s5, s6, s7, s8, s9, s10, s11, s12, s13, s14, s15] := by
  match l, h with
  | [s0, s1, s2, s3, s4, s5, s6, s7, s8, s9, s10, s11, s12, s13, s14, s15], _ => exact ⟨s0, s1, s2, s3, s4, s5, s6, s7, s8, s9, s10, s11, s12, s13, s14, s15, rfl⟩
set_option maxHeartbeats 6400000 in
theorem bdsix_any (p : PlanV) (field : Nat) (hok : p.Ok) (hn : p.Nums) (hf : field ≤ 255) (w : World) (hin : p.In w) :
    Calls Tryz.prog 48 #[.agg p.cells.toArray, .int .i64 (field : Nat)] w fun e w' => ∃ v, e = .returned (.tuple #[v, .int .i64 (bdSixErr p : Nat)]) ∧ OutIs w.heap.size w' v (if bdSixErr p = 0 then bdSix p field else []) ∧ Below w.heap.size w w' := by
  obtain ⟨Xl, Xo⟩ := PlanV.cells_all hok
  obtain ⟨V, eV⟩ : ∃ V, V = w.alloc (.cells p.cells.toArray 49) := ⟨_, rfl⟩
  have hA : ArrV 49 V w.heap.size p.cells := by rw [eV]; exact ArrV.new _ w _
  have hB : Below w.heap.size w V := by rw [eV]; exact (Below.refl _ _).alloc (Nat.le_refl _) _
  obtain ⟨g2, hg2⟩ : ∃ g, g = w.heap.size := ⟨_, rfl⟩
  have hie := hin.ie
  obtain ⟨⟨oA, oc, hov, hoc, oR⟩, _, ⟨pA, pc, hpv, hpc, pR⟩, _⟩ := hin
  obtain ⟨_, _, _, c35, c36, c37, c38, c39, c40, c41, c42, _⟩ := plan_cells hok hA
  rw [hov] at c39
  rw [hpv] at c42
  rw [← hg2] at c35 c36 c37 c38 c39 c40 c41 c42 hA
  have hps := hok.pl
  have CX : Hid (∀ W, Below w.heap.size w W → Calls Tryz.prog 69 #[p.ev, .int .i64 p.proto] W (WriteExt p.M p.proto W)) := fun W h => exwrite_any p.ev p.M p.proto W (hie.below h) (by have := hok.ml; omega)
  unfold WriteExt at CX
  have HA := Lib.hid hA
  have HB := Lib.hid hB
  have HG2 := Lib.hid hg2
  by_cases hO : 0 < p.os.length
  · have he : bdSixErr p = 10 := by unfold bdSixErr; rw [if_pos (.inl hO)]
    rw [he, if_neg (by decide)]
    obtain ⟨q, hq⟩ : ∃ q, q = p.os.length := ⟨_, rfl⟩
    rw [← hq] at c39 hO
    have qI : (0 : Int) < (q : Int) := by omega
    clear hq hO
    obtain ⟨X, hX⟩ : ∃ X, X = p.cells := ⟨_, rfl⟩
    rw [← hX] at Xl Xo HA eV ⊢
    clear hX he CX hps oR pR hoc hpc hok hn hf hA hB hg2 hie
    go_enter Tryz.func48, Tryz.ntmps48
    go_upto_region 1 with fail
    rw [← eV, ← HG2.out]
    clear eV
    go_wp2_with fail
    go_ret2
    exact ⟨_, rfl, OutIs.nil _ _, HB.out⟩
  have hO0 : p.os.length = 0 := by omega
  rw [hO0] at c39
  by_cases hid : p.id ≠ 0
  · have he : bdSixErr p = 10 := by unfold bdSixErr; rw [if_pos (.inr (.inl hid))]
    rw [he, if_neg (by decide)]
    have qb : (p.id != 0) = true := bne_iff_ne.2 hid
    clear hid hO hO0
    obtain ⟨X, hX⟩ : ∃ X, X = p.cells := ⟨_, rfl⟩
    rw [← hX] at Xl Xo HA eV ⊢
    clear hX he CX hps oR pR hoc hpc hok hn hf hA hB hg2 hie
    go_enter Tryz.func48, Tryz.ntmps48
    go_upto_region 1 with fail
    rw [← eV, ← HG2.out]
    clear eV
    go_wp2_with fail
    go_ret2
    exact ⟨_, rfl, OutIs.nil _ _, HB.out⟩
  have hid0 : p.id = 0 := Decidable.of_not_not hid
  rw [hid0] at c36
  by_cases hoff : p.off ≠ 0
  · have he : bdSixErr p = 10 := by unfold bdSixErr; rw [if_pos (.inr (.inr (.inl hoff)))]
    rw [he, if_neg (by decide)]
    have qb : (p.off != 0) = true := bne_iff_ne.2 hoff
    clear hid hid0 hoff hO hO0
    obtain ⟨X, hX⟩ : ∃ X, X = p.cells := ⟨_, rfl⟩
    rw [← hX] at Xl Xo HA eV ⊢
    clear hX he CX hps oR pR hoc hpc hok hn hf hA hB hg2 hie
    go_enter Tryz.func48, Tryz.ntmps48
    go_upto_region 1 with fail
    rw [← eV, ← HG2.out]
    clear eV
    go_wp2_with fail
    go_ret2
    exact ⟨_, rfl, OutIs.nil _ _, HB.out⟩
  have hoff0 : p.off = 0 := Decidable.of_not_not hoff
  rw [hoff0] at c37
  by_cases hmore : p.more = true
  · have he : bdSixErr p = 10 := by unfold bdSixErr; rw [if_pos (.inr (.inr (.inr hmore)))]
    rw [he, if_neg (by decide)]
    rw [hmore] at c38
    clear hid hid0 hoff hoff0 hmore hO hO0
    obtain ⟨X, hX⟩ : ∃ X, X = p.cells := ⟨_, rfl⟩
    rw [← hX] at Xl Xo HA eV ⊢
    clear hX he CX hps oR pR hoc hpc hok hn hf hA hB hg2 hie
    go_enter Tryz.func48, Tryz.ntmps48
    go_upto_region 1 with fail
    rw [← eV, ← HG2.out]
    clear eV
    go_wp2_with fail
    go_ret2
    exact ⟨_, rfl, OutIs.nil _ _, HB.out⟩
  have hm0 : p.more = false := by cases h : p.more; rfl; exact absurd h hmore
  rw [hm0] at c38
  have hbad : ¬ bdSixBad p := fun h => by
    rcases h with h | h | h | h
    · exact hO h
    · exact hid h
    · exact hoff h
    · exact hmore h
  have hlitZ : (#[.int .i64 0, .int .i64 0] : Array Value) = ([.int .i64 0, .int .i64 0] : List Value).toArray := rfl
  have hC : ∀ W, Below V.heap.size V W → ArrV 49 W g2 p.cells ∧ W.cell? ⟨g2, 35, none⟩ = some (.int .i64 p.ttl) ∧ W.cell? ⟨g2, 40, none⟩ = some p.ev ∧ W.cell? ⟨g2, 41, none⟩ = some (.int .i64 p.proto) ∧ W.cell? ⟨g2, 42, none⟩ = some (.slice pA p.ps.length pc) := fun W h => by
    have c : ∀ (k : Nat) v, V.cell? ⟨g2, k, none⟩ = some v → W.cell? ⟨g2, k, none⟩ = some v := fun k v hv => (h.cell (p := ⟨g2, k, none⟩) HA.out.lt).trans hv
    exact ⟨HA.out.below h, c _ _ c35, c _ _ c40, c _ _ c41, c _ _ c42⟩
  clear hO hO0 hid hid0 hoff hoff0 hmore hm0 oR hoc
  by_cases hE : (exCheck p.M p.proto).1 ≠ 0
  · have he : bdSixErr p = (exCheck p.M p.proto).1 := by unfold bdSixErr; rw [if_neg hbad, if_pos hE]
    rw [he, if_neg hE]
    obtain ⟨⟨en, ei⟩, hee⟩ : ∃ r, r = exCheck p.M p.proto := ⟨_, rfl⟩
    rw [← hee] at CX hE ⊢
    have hE : en ≠ 0 := hE
    have CX : Hid (∀ W, Below w.heap.size w W → Calls Tryz.prog 69 #[p.ev, .int .i64 p.proto] W fun e w' => e = .returned (.tuple #[.slice none 0 0, .agg #[.int .i64 (en : Nat), .int .i64 (ei : Nat)]]) ∧ Below W.heap.size W w') := fun W h => (CX.out W h).mono fun e w' h => ⟨h.2.1 hE, h.1⟩
    have eb : ((en : Int) != 0) = true := bne_iff_ne.2 (by omega)
    obtain ⟨X, hX⟩ : ∃ X, X = p.cells := ⟨_, rfl⟩
    rw [← hX] at Xl Xo HA eV ⊢
    clear hX he hee hE hbad hC hps pR hpc hok hn hf hA hB hg2 hie c35 c42
    go_enter Tryz.func48, Tryz.ntmps48
    go_upto_region 1 with fail
    rw [← eV, ← HG2.out]
    clear eV
    go_wp2_with fail
    refine (CX.out _ HB.out).mono ?_
    rintro e w1 ⟨rfl, b1⟩
    have B1 := Lib.hid (below_both HB.out b1)
    clear b1 c36 c37 c38 c39 c40 c41 hlitZ
    go_upto_region 5 with fail
    go_quiet (fail)
    go_wp2_with fail
    go_ret2
    exact ⟨_, rfl, OutIs.nil _ _, by show Below _ _ _; first | exact below_drewN' (B1.out.alloc B1.out.size _) _ | exact (B1.out.alloc B1.out.size _).drew⟩
  have hE0 : (exCheck p.M p.proto).1 = 0 := Decidable.of_not_not hE
  have hxl := bd_exlen hE0
  have hby : ∀ x ∈ exBytes p.proto p.M, x < 256 := by
    obtain ⟨_, ⟨h1, h2, _⟩, _, hm⟩ := exCheck_ok hE0
    refine exBytes_byte ⟨h1, h2⟩ hm fun m hh x hx => ?_
    obtain ⟨A, c, e, _, h⟩ := hie
    obtain ⟨i, hi⟩ := List.getElem?_of_mem hh
    obtain ⟨_, _, _, bv, _, _, _, _, hv⟩ := h i m hi
    obtain ⟨A2, c2, _, _, hr⟩ := hv
    exact hr.2.1 x hx
  have CX : Hid (∀ W, Below w.heap.size w W → Calls Tryz.prog 69 #[p.ev, .int .i64 p.proto] W fun e w' => ∃ A c, e = .returned (.tuple #[.slice A (exBytes p.proto p.M).length c, .agg #[.int .i64 0, .int .i64 0]]) ∧ Row w' A (exBytes p.proto p.M).length (exBytes p.proto p.M) ∧ Below W.heap.size W w') := fun W h => (CX.out W h).mono fun e w' h => by
    obtain ⟨v, e1, ho⟩ := h.2.2 hE0
    obtain ⟨A, c, rfl, _, _, hr⟩ := ho.out hby
    exact ⟨A, c, e1, hr, h.1⟩
  obtain ⟨xl, hxe⟩ : ∃ xl, xl = (exBytes p.proto p.M).length := ⟨_, rfl⟩
  by_cases hP : p.ps.length > 65535 - (exBytes p.proto p.M).length
  · have he : bdSixErr p = 18 := by unfold bdSixErr; rw [if_neg hbad, if_neg hE, if_pos hP]
    rw [he, if_neg (by decide)]
    obtain ⟨n, hnn⟩ : ∃ n, n = p.ps.length := ⟨_, rfl⟩
    rw [← hxe] at CX hP hxl
    rw [← hnn] at hP hps hC
    have i2 : wrap64 (65535 - (xl : Int)) = 65535 - (xl : Int) := by unfold wrap64; omega
    have i3 : (65535 - (xl : Int)) < (n : Int) := by omega
    have HC := Lib.hid hC
    obtain ⟨X, hX⟩ : ∃ X, X = p.cells := ⟨_, rfl⟩
    rw [← hX] at Xl Xo HA eV HC ⊢
    clear hX he hE hE0 hbad hC hps pR hpc hok hn hf hA hB hg2 hie c35 c42 hP hxl hxe hnn hby
    go_enter Tryz.func48, Tryz.ntmps48
    go_upto_region 1 with fail
    rw [← eV, ← HG2.out]
    clear eV
    go_wp2_with fail
    refine (CX.out _ HB.out).mono ?_
    rintro e w1 ⟨A1, cc1, rfl, _, b1⟩
    have B1 := Lib.hid (below_both HB.out b1)
    obtain ⟨_, _, _, _, d42⟩ := HC.out (w1.alloc (.cells #[.int .i64 0, .int .i64 0] 108)) (b1.alloc b1.size _)
    clear b1 c36 c37 c38 c39 c40 c41 hlitZ HC
    go_wp2_with fail
    go_ret2
    exact ⟨_, rfl, OutIs.nil _ _, B1.out.alloc B1.out.size _⟩
  · have he : bdSixErr p = 0 := by unfold bdSixErr; rw [if_neg hbad, if_neg hE, if_neg hP]
    rw [he, if_pos rfl]
    have hfit := bdS_fits hn hf hE0 (by omega)
    have hbig := bdS_big (field := field) hok hf hE0
    obtain ⟨hbl, hbb⟩ := bdS_len (field := field) hok
    have CW : Hid (∀ W, Calls Tryz.prog 70 #[.agg (bdS p field).cells.toArray] W fun e w' => ∃ v, e = .returned (.tuple #[v, .int .i64 0]) ∧ OutIs W.heap.size w' v (bdS p field).bytes ∧ Below W.heap.size W w') := fun W => by
      refine (sxwrite_own (bdS p field) W hok.sl hok.dl hok.sb hok.db hbig).mono ?_
      rintro e w' ⟨v, rfl, _, hb, ho⟩
      have ho := ho hfit
      simp only [hfit, if_true] at ho ⊢
      exact ⟨v, rfl, ho, hb⟩
    obtain ⟨n, hnn⟩ : ∃ n, n = p.ps.length := ⟨_, rfl⟩
    obtain ⟨nx, hnx⟩ : ∃ nx, nx = exNext p.proto p.M := ⟨_, rfl⟩
    obtain ⟨tot, htot⟩ : ∃ tot, tot = (exBytes p.proto p.M).length + p.ps.length := ⟨_, rfl⟩
    have HNX : Hid ((p.M = [] → nx = p.proto) ∧ (∀ m r, p.M = m :: r → nx = m.1)) := ⟨fun h => by rw [hnx, h]; rfl, fun m r h => by rw [hnx, h]; obtain ⟨k, b⟩ := m; rfl⟩
    have HF : Hid ((bdS p field).cells = [.int .i64 (field : Nat), .int .i64 0, .int .i64 (tot : Nat), .int .i64 nx, .int .i64 p.ttl] ++ bcells p.src ++ bcells p.dst) := by show _ = _; rw [hnx, htot]; rfl
    have hbs : (bcells p.src).length = 16 := by rw [bcells_length, hok.sl]
    have hbd : (bcells p.dst).length = 16 := by rw [bcells_length, hok.dl]
    have hPS : ∀ (j : Nat) v, (bcells p.src)[j]? = some v → p.cells[1 + j]? = some v := fun j v hv => by
      unfold PlanV.cells
      rw [Nat.add_comm, List.getElem?_cons_succ, List.getElem?_append_left (List.getElem?_eq_some_iff.1 hv).1]
      exact hv
    have hPD : ∀ (j : Nat) v, (bcells p.dst)[j]? = some v → p.cells[17 + j]? = some v := fun j v hv => by
      unfold PlanV.cells
      rw [show 17 + j = (16 + j) + 1 by omega, List.getElem?_cons_succ, List.getElem?_append_right (by omega), hbs, Nat.add_sub_cancel_left, List.getElem?_append_left (List.getElem?_eq_some_iff.1 hv).1]
      exact hv
    have HQ : Hid ((bdS p field).bytes.length + xl ≤ 140737488355328) := by show _ ≤ _; rw [hbl]; omega
    obtain ⟨aM, cM, hev, _, hcellM⟩ := hie
    have HKIND : Hid (∀ m r, p.M = m :: r → ∃ b o, aM = some ⟨b, o, none⟩ ∧ ∀ W, Below w.heap.size w W → W.cell? ⟨b, o, none⟩ = some (.int .i64 m.1)) := fun m r h => by
      obtain ⟨_, b, o, bv, ea, hlt, k1, _, _⟩ := hcellM 0 m (by rw [h]; rfl)
      rw [Nat.zero_mul, Nat.add_zero] at k1
      exact ⟨b, o, ea, fun W hW => (hW.cell (p := ⟨b, o, none⟩) hlt).trans k1⟩
    have HSX : Hid (bdSix p field = (bdS p field).bytes ++ exBytes p.proto p.M) := rfl
    obtain ⟨OUT, hOUT⟩ : ∃ l, l = bdSix p field := ⟨_, rfl⟩
    rw [← hOUT] at HSX ⊢
    obtain ⟨HD, hHD⟩ : ∃ l, l = (bdS p field).bytes := ⟨_, rfl⟩
    obtain ⟨EB, hEB⟩ : ∃ l, l = exBytes p.proto p.M := ⟨_, rfl⟩
    obtain ⟨FC, hFC⟩ : ∃ l, l = (bdS p field).cells := ⟨_, rfl⟩
    rw [← hxe] at CX hP hxl htot
    rw [← hEB] at CX HSX
    rw [← hHD] at CW HSX HQ
    rw [← hFC] at CW HF
    rw [← hnn] at hP hps hC htot
    obtain ⟨SS, hSS⟩ : ∃ l, l = bcells p.src := ⟨_, rfl⟩
    obtain ⟨TT, hTT⟩ : ∃ l, l = bcells p.dst := ⟨_, rfl⟩
    rw [← hSS] at HF hbs hPS
    rw [← hTT] at HF hbd hPD
    have i2 : wrap64 (65535 - (xl : Int)) = 65535 - (xl : Int) := by unfold wrap64; omega
    have i3 : ¬ ((65535 - (xl : Int)) < (n : Int)) := by omega
    have i4 : wrap64 ((xl : Int) + (n : Int)) = (xl : Int) + (n : Int) := by unfold wrap64; omega
    have HTOT : Hid ((xl : Int) + (n : Int) = (tot : Int)) := by show _ = _; omega
    rw [hev] at CX c40 hC
    have HC := Lib.hid hC
    have HPS := Lib.hid hPS
    have HPD := Lib.hid hPD
    obtain ⟨X, hX⟩ : ∃ X, X = p.cells := ⟨_, rfl⟩
    rw [← hX] at Xl Xo HA eV HC HPS HPD ⊢
    obtain ⟨s0, s1, s2, s3, s4, s5, s6, s7, s8, s9, s10, s11, s12, s13, s14, s15, hS16⟩ := bd_sixteen hbs
    obtain ⟨t0, t1, t2, t3, t4, t5, t6, t7, t8, t9, t10, t11, t12, t13, t14, t15, hT16⟩ := bd_sixteen hbd
    subst hS16 hT16
    have HLIT : Hid ((#[.int .i64 (field : Nat), .int .i64 0, .int .i64 (tot : Nat), .int .i64 nx, .int .i64 p.ttl, s0, s1, s2, s3, s4, s5, s6, s7, s8, s9, s10, s11, s12, s13, s14, s15, t0, t1, t2, t3, t4, t5, t6, t7, t8, t9, t10, t11, t12, t13, t14, t15] : Array Value) = FC.toArray) := by show _ = _; rw [HF.out]; rfl
    clear HF hX he hE hE0 hbad hC hps pR hpc hok hn hf hA hB hg2 c35 c42 hP hxl hxe hnn hby hfit hbig hbl hbb hnx htot hPS hPD hOUT hHD hEB hFC hSS hTT hcellM hev
    cases hMM : p.M with
    | nil =>
      have hnx0 := HNX.out.1 hMM
      rw [hMM] at CX c40 HC
      subst hnx0
      have z0 : ¬ ((([] : List (Int × List Nat)).length : Int) > 0) := by simp
      simp only [List.length_nil] at CX c40 HC
      clear HKIND HNX hMM z0
      go_enter Tryz.func48, Tryz.ntmps48
      go_upto_region 1 with fail
      rw [← eV, ← HG2.out]
      clear eV
      go_wp2_with fail
      refine (CX.out _ HB.out).mono ?_
      rintro e w1 ⟨A1, cc1, rfl, r1, b1⟩
      obtain ⟨W2, eW2⟩ : ∃ W, W = w1.alloc (.cells #[.int .i64 0, .int .i64 0] 108) := ⟨_, rfl⟩
      have hb2 : Below w1.heap.size w1 W2 := by rw [eW2]; exact (Below.refl _ _).alloc (Nat.le_refl _) _
      have R2 := Lib.hid (r1.below hb2)
      have B2 := Lib.hid (below_both (below_both HB.out b1) hb2)
      obtain ⟨X2, d35, d40, d41, d42⟩ := HC.out W2 (below_both b1 hb2)
      have X2 := Lib.hid X2
      clear b1 hb2 r1 c36 c37 c38 c39 c40 c41 hlitZ HC
      go_upto_region 4 with fail
      rw [← eW2]
      have f0 : W2.cell? ⟨w1.heap.size, 0, none⟩ = some (.int .i64 0) := by rw [eW2]; exact (ArrV.new 108 w1 [.int .i64 0, .int .i64 0]).get 0
      obtain ⟨g7, hg7⟩ : ∃ g, g = w1.heap.size := ⟨_, rfl⟩
      rw [← hg7] at f0 ⊢
      clear eW2 hg7
      go_upto_region 11 with fail
      clear i2 i3 f0
      have hlitF := HLIT.out
      go_wp2_with (first | refine wpList_load_part rfl 35 (.tmp 71) rfl _ 1 rfl ty16 X2.out HPS.out hbs ?_ | refine wpList_load_part rfl 35 (.tmp 73) rfl _ 17 rfl ty16 X2.out HPD.out hbd ?_ | fail)
      rw [HTOT.out, hlitF]
      refine (CW.out _).mono ?_
      rintro e w3 ⟨v, rfl, ho, b3⟩
      have O3 := Lib.hid ho
      have R3 := Lib.hid (R2.out.below b3)
      have B3 := Lib.hid (below_both B2.out b3)
      have Z3 : Hid (Below W2.heap.size w3 w3) := Below.refl _ _
      have Y3 : Hid (W2.heap.size ≤ w3.heap.size) := b3.size
      clear ho b3 hlitF d35 d40 d41 d42 X2
      go_wp2_with (first
        | (at_builtin; refine wpList_append_row_any (B := W2.heap.size) (W := w3) rfl (.tmp 79) (.tmp 80) rfl rfl rfl rfl O3.out R3.out Z3.out Y3.out HQ.out ?_; intro v6 w6 ho6 hb6; rw [← HSX.out] at ho6; have O6 := Lib.hid ho6; have Q6 := Lib.hid hb6; clear ho6 hb6)
        | fail)
      go_ret2
      exact ⟨_, rfl, O6.out.mono B2.out.size, B3.out.trans (Q6.out.mono B2.out.size)⟩
    | cons m r =>
      have hnx0 := HNX.out.2 m r hMM
      obtain ⟨mb, mo, ea, hkc⟩ := HKIND.out m r hMM
      have HKC := Lib.hid hkc
      subst ea
      rw [hMM] at CX c40 HC
      obtain ⟨mm, hmm⟩ : ∃ mm, mm = (m :: r).length := ⟨_, rfl⟩
      have hmp : 0 < mm := by rw [hmm]; simp
      have hmI : (0 : Int) < (mm : Int) := by omega
      rw [← hmm] at CX c40 HC
      obtain ⟨m1, hm1⟩ : ∃ z, z = m.1 := ⟨_, rfl⟩
      rw [← hm1] at hnx0 HKC
      subst hnx0
      clear HKIND HNX hMM hmm hmp hm1 hkc
      go_enter Tryz.func48, Tryz.ntmps48
      go_upto_region 1 with fail
      rw [← eV, ← HG2.out]
      clear eV
      go_wp2_with fail
      refine (CX.out _ HB.out).mono ?_
      rintro e w1 ⟨A1, cc1, rfl, r1, b1⟩
      obtain ⟨W2, eW2⟩ : ∃ W, W = w1.alloc (.cells #[.int .i64 0, .int .i64 0] 108) := ⟨_, rfl⟩
      have hb2 : Below w1.heap.size w1 W2 := by rw [eW2]; exact (Below.refl _ _).alloc (Nat.le_refl _) _
      have R2 := Lib.hid (r1.below hb2)
      have B2 := Lib.hid (below_both (below_both HB.out b1) hb2)
      obtain ⟨X2, d35, d40, d41, d42⟩ := HC.out W2 (below_both b1 hb2)
      have X2 := Lib.hid X2
      have dk := HKC.out W2 B2.out
      clear b1 hb2 r1 c36 c37 c38 c39 c40 c41 hlitZ HC
      go_upto_region 4 with fail
      rw [← eW2]
      have f0 : W2.cell? ⟨w1.heap.size, 0, none⟩ = some (.int .i64 0) := by rw [eW2]; exact (ArrV.new 108 w1 [.int .i64 0, .int .i64 0]).get 0
      obtain ⟨g7, hg7⟩ : ∃ g, g = w1.heap.size := ⟨_, rfl⟩
      rw [← hg7] at f0 ⊢
      clear eW2 hg7
      go_upto_region 11 with fail
      clear i2 i3 f0
      have hlitF := HLIT.out
      go_wp2_with (first | refine wpList_load_part rfl 35 (.tmp 71) rfl _ 1 rfl ty16 X2.out HPS.out hbs ?_ | refine wpList_load_part rfl 35 (.tmp 73) rfl _ 17 rfl ty16 X2.out HPD.out hbd ?_ | fail)
      rw [HTOT.out, hlitF]
      refine (CW.out _).mono ?_
      rintro e w3 ⟨v, rfl, ho, b3⟩
      have O3 := Lib.hid ho
      have R3 := Lib.hid (R2.out.below b3)
      have B3 := Lib.hid (below_both B2.out b3)
      have Z3 : Hid (Below W2.heap.size w3 w3) := Below.refl _ _
      have Y3 : Hid (W2.heap.size ≤ w3.heap.size) := b3.size
      clear ho b3 hlitF d35 d40 d41 d42 X2 dk
      go_wp2_with (first
        | (at_builtin; refine wpList_append_row_any (B := W2.heap.size) (W := w3) rfl (.tmp 79) (.tmp 80) rfl rfl rfl rfl O3.out R3.out Z3.out Y3.out HQ.out ?_; intro v6 w6 ho6 hb6; rw [← HSX.out] at ho6; have O6 := Lib.hid ho6; have Q6 := Lib.hid hb6; clear ho6 hb6)
        | fail)
      go_ret2
      exact ⟨_, rfl, O6.out.mono B2.out.size, B3.out.trans (Q6.out.mono B2.out.size)⟩
end Go.Proofs.YtmchclpkjjmocaaGreat

namespace Go.Proofs.YtmchclpkjjmocaaGreat
open Go.RowKit
set_option linter.unusedVariables false
set_option maxRecDepth 8000

def numsOk (p : PlanV) : Prop := (0 ≤ p.ttl ∧ p.ttl ≤ 255) ∧ (0 ≤ p.proto ∧ p.proto ≤ 255) ∧ (0 ≤ p.id ∧ p.id ≤ 65535) ∧ (0 ≤ p.off ∧ p.off ≤ 8191)
instance (p : PlanV) : Decidable (numsOk p) := by unfold numsOk; exact inferInstance
def plField (p : PlanV) : Nat := (4 * p.dscp + p.ecn).toNat
def plErr (p : PlanV) : Nat :=
  if p.v ≠ 4 ∧ p.v ≠ 6 then 4 else if ¬ (0 ≤ p.dscp ∧ p.dscp < 64) then 14 else if ¬ (0 ≤ p.ecn ∧ p.ecn < 4) then 1 else if ¬ numsOk p then 1 else if p.v = 4 then bdFourErr p else bdSixErr p
def plHead (p : PlanV) : List Nat := if plErr p = 0 then (if p.v = 4 then bdFour p (plField p) else bdSix p (plField p)) else []
theorem tynumb : RowTy 84 2 := ⟨⟨_, Tryz.underlying84, rfl⟩, by kernel_rfl⟩
def bdVal (p : PlanV) (k : Nat) : Int := [p.ttl, p.proto, p.id, p.off].getD k 0
def bdHigh (k : Nat) : Int := [255, 255, 65535, 8191].getD k 0
theorem idx4n (p : PlanV) (k : Nat) (hk : k < 4) (w : World) : (Instr.index 85 (.agg (bdNums p).toArray) (.int .i64 (k : Int))).run Tryz.prog w = .ok (.agg #[.int .i64 (bdVal p k), .int .i64 (bdHigh k)]) w := by
  unfold bdNums bdVal bdHigh
  match k, hk with
  | 0, _ => simp [Instr.index, run_underlying Tryz.underlying85, asIntOf, go_sem]
  | 1, _ => simp [Instr.index, run_underlying Tryz.underlying85, asIntOf, go_sem]
  | 2, _ => simp [Instr.index, run_underlying Tryz.underlying85, asIntOf, go_sem]
  | 3, _ => simp [Instr.index, run_underlying Tryz.underlying85, asIntOf, go_sem]
def bdIn (p : PlanV) (k : Nat) : Prop := 0 ≤ bdVal p k ∧ bdVal p k ≤ bdHigh k
theorem bdIn_all {p : PlanV} : (∀ k, k < 4 → bdIn p k) ↔ numsOk p := by
  constructor
  · intro h
    exact ⟨h 0 (by decide), h 1 (by decide), h 2 (by decide), h 3 (by decide)⟩
  · rintro ⟨a, b, c, d⟩ k hk
    match k, hk with
    | 0, _ => exact a
    | 1, _ => exact b
    | 2, _ => exact c
    | 3, _ => exact d
set_option maxHeartbeats 6400000 in
theorem bdheaders_any (p : PlanV) (hok : p.Ok) (w : World) (hin : p.In w) :
    Calls Tryz.prog 30 #[.agg p.cells.toArray] w fun e w' => ∃ v, e = .returned (.tuple #[v, .int .i64 (plErr p : Nat)]) ∧ OutIs w.heap.size w' v (plHead p) ∧ Below w.heap.size w w' := by
  obtain ⟨Xl, Xo⟩ := PlanV.cells_all hok
  obtain ⟨V, eV⟩ : ∃ V, V = w.alloc (.cells p.cells.toArray 49) := ⟨_, rfl⟩
  have hA : ArrV 49 V w.heap.size p.cells := by rw [eV]; exact ArrV.new _ w _
  have hB : Below w.heap.size w V := by rw [eV]; exact (Below.refl _ _).alloc (Nat.le_refl _) _
  obtain ⟨g2, hg2⟩ : ∃ g, g = w.heap.size := ⟨_, rfl⟩
  obtain ⟨c0, c33, c34, _⟩ := plan_cells hok hA
  rw [← hg2] at c0 c33 c34 hA
  have CJ := Lib.hid (fun w => ptjoin_any p.dscp p.ecn w)
  unfold ptJoin at CJ
  have HA := Lib.hid hA
  have HB := Lib.hid hB
  have HG2 := Lib.hid hg2
  have HOUT : Hid (plErr p ≠ 0 → plHead p = []) := fun h => by unfold plHead; rw [if_neg h]
  have HE : Hid (plErr p = if p.v ≠ 4 ∧ p.v ≠ 6 then 4 else if ¬ (0 ≤ p.dscp ∧ p.dscp < 64) then 14 else if ¬ (0 ≤ p.ecn ∧ p.ecn < 4) then 1 else if ¬ numsOk p then 1 else if p.v = 4 then bdFourErr p else bdSixErr p) := rfl
  by_cases hv : p.v ≠ 4 ∧ p.v ≠ 6
  · have he : plErr p = 4 := by rw [HE.out, if_pos hv]
    rw [HOUT.out (by rw [he]; decide), he]
    have b4 : (p.v != 4) = true := bne_iff_ne.2 hv.1
    have b6 : (p.v != 6) = true := bne_iff_ne.2 hv.2
    obtain ⟨X, hX⟩ : ∃ X, X = p.cells := ⟨_, rfl⟩
    rw [← hX] at Xl Xo HA eV ⊢
    clear hX he hv HE HOUT CJ hok hin hA hB hg2
    go_enter Tryz.func30, Tryz.ntmps30
    go_upto_region 1 with fail
    rw [← eV, ← HG2.out]
    clear eV
    go_wp2_with fail
    go_ret2
    exact ⟨_, rfl, OutIs.nil _ _, HB.out⟩
  have hv46 : p.v = 4 ∨ p.v = 6 := by
    by_cases h4 : p.v = 4
    · exact .inl h4
    · exact .inr (Decidable.of_not_not fun h6 => hv ⟨h4, h6⟩)
  have HV : Hid (∀ (K : Prop), ((p.v != 4) = false → K) → ((p.v != 4) = true → (p.v != 6) = false → K) → K) := fun K k1 k2 => by
    rcases hv46 with h | h
    · exact k1 (by rw [h]; rfl)
    · exact k2 (by rw [h]; rfl) (by rw [h]; rfl)
  by_cases hd : ¬ (0 ≤ p.dscp ∧ p.dscp < 64)
  · rw [if_neg hd] at CJ
    have he : plErr p = 14 := by rw [HE.out, if_neg hv, if_pos hd]
    rw [HOUT.out (by rw [he]; decide), he]
    obtain ⟨X, hX⟩ : ∃ X, X = p.cells := ⟨_, rfl⟩
    rw [← hX] at Xl Xo HA eV ⊢
    clear hX he hv HE HOUT hd hok hin hA hB hg2 hv46
    refine HV.out _ (fun b4 => ?_) (fun b4 b6 => ?_)
    all_goals
      clear HV
      go_enter Tryz.func30, Tryz.ntmps30
      go_upto_region 1 with fail
      rw [← eV, ← HG2.out]
      clear eV
      go_wp2_with fail
      refine (CJ.out _).mono ?_
      rintro e w' ⟨rfl, rfl⟩
      go_wp2_with fail
      go_ret2
      exact ⟨_, rfl, OutIs.nil _ _, HB.out⟩
  have hd := Decidable.of_not_not hd
  rw [if_pos hd] at CJ
  by_cases hc : ¬ (0 ≤ p.ecn ∧ p.ecn < 4)
  · rw [if_neg hc] at CJ
    have he : plErr p = 1 := by rw [HE.out, if_neg hv, if_neg (fun h => h hd), if_pos hc]
    rw [HOUT.out (by rw [he]; decide), he]
    obtain ⟨X, hX⟩ : ∃ X, X = p.cells := ⟨_, rfl⟩
    rw [← hX] at Xl Xo HA eV ⊢
    clear hX he hv HE HOUT hd hc hok hin hA hB hg2 hv46
    refine HV.out _ (fun b4 => ?_) (fun b4 b6 => ?_)
    all_goals
      clear HV
      go_enter Tryz.func30, Tryz.ntmps30
      go_upto_region 1 with fail
      rw [← eV, ← HG2.out]
      clear eV
      go_wp2_with fail
      refine (CJ.out _).mono ?_
      rintro e w' ⟨rfl, rfl⟩
      go_wp2_with fail
      go_ret2
      exact ⟨_, rfl, OutIs.nil _ _, HB.out⟩
  have hc := Decidable.of_not_not hc
  rw [if_pos hc] at CJ
  obtain ⟨fd, hfd⟩ : ∃ fd, fd = plField p := ⟨_, rfl⟩
  have hfi : 4 * p.dscp + p.ecn = (fd : Int) := by
    rw [hfd]
    unfold plField
    omega
  have hf255 : fd ≤ 255 := by omega
  rw [hfi] at CJ
  have CN : Hid (∀ w, Calls Tryz.prog 46 #[.agg p.cells.toArray] w fun e w' => e = .returned (.agg (bdNums p).toArray) ∧ Below w.heap.size w w') := fun w => bdnumbers_any p hok w
  have HIX := Lib.hid (fun k hk => idx4n p k hk)
  have HIN := Lib.hid (bdIn_all (p := p))
  have HE2 : Hid (plErr p = if ¬ numsOk p then 1 else if p.v = 4 then bdFourErr p else bdSixErr p) := by
    show _ = _
    rw [HE.out, if_neg hv, if_neg (fun h => h hd), if_neg (fun h => h hc)]
  have C4 : Hid (numsOk p → ∀ W, Below w.heap.size w W → Calls Tryz.prog 47 #[.agg p.cells.toArray, .int .i64 (fd : Nat)] W fun e w' => ∃ v, e = .returned (.tuple #[v, .int .i64 (bdFourErr p : Nat)]) ∧ OutIs W.heap.size w' v (if bdFourErr p = 0 then bdFour p fd else []) ∧ Below W.heap.size W w') := fun h W hW => bdfour_any p fd hok ⟨h.1, h.2.1, h.2.2.1, h.2.2.2⟩ hf255 W (hin.below hW)
  have C6 : Hid (numsOk p → ∀ W, Below w.heap.size w W → Calls Tryz.prog 48 #[.agg p.cells.toArray, .int .i64 (fd : Nat)] W fun e w' => ∃ v, e = .returned (.tuple #[v, .int .i64 (bdSixErr p : Nat)]) ∧ OutIs W.heap.size w' v (if bdSixErr p = 0 then bdSix p fd else []) ∧ Below W.heap.size W w') := fun h W hW => bdsix_any p fd hok ⟨h.1, h.2.1, h.2.2.1, h.2.2.2⟩ hf255 W (hin.below hW)
  have HH : Hid (plHead p = if plErr p = 0 then (if p.v = 4 then bdFour p fd else bdSix p fd) else []) := by show _ = _; rw [hfd]; rfl
  have w64 : wrap64 (fd : Int) = (fd : Int) := by unfold wrap64; omega
  obtain ⟨N, hN⟩ : ∃ N, N = bdNums p := ⟨_, rfl⟩
  obtain ⟨X, hX⟩ : ∃ X, X = p.cells := ⟨_, rfl⟩
  rw [← hN] at HIX
  rw [← hX, ← hN] at CN
  rw [← hX] at C4 C6 Xl Xo HA eV ⊢
  have CEL : Hid (∀ W, ArrV 49 W g2 X → W.cell? ⟨g2, 0, none⟩ = some (.int .i64 p.v)) := fun W h => by
    rw [hX] at h
    exact h.get 0
  have HV46 := Lib.hid hv46
  clear hX hN hfi hf255 hfd hv hd hc HE hok hin hA hB hg2 hv46
  refine HV.out _ (fun b4 => ?_) (fun b4 b6 => ?_)
  all_goals
    clear HV
    go_enter Tryz.func30, Tryz.ntmps30
    go_upto_region 1 with fail
    rw [← eV, ← HG2.out]
    clear eV
    go_wp2_with fail
    refine (CJ.out _).mono ?_
    rintro e w' ⟨rfl, rfl⟩
    go_upto_region 6 with fail
    go_wp2_with (first | refine wpList_load_v rfl 49 (.tmp 1) rfl _ rfl typlan HA.out Xl ?_ | fail)
    refine (CN.out _).mono ?_
    rintro e w1 ⟨rfl, hb1⟩
    have A1 := Lib.hid (HA.out.below hb1)
    have B1 := Lib.hid (below_both HB.out hb1)
    clear hb1 c0 c33 c34
    go_wp2_with fail
    go_loopw [29] (fun i W => ∃ k : Nat, k ≤ 4 ∧ i = .int .i64 k ∧ (∀ j, j < k → bdIn p j) ∧ ArrV 49 W g2 X ∧ Below w.heap.size w W) (fun i W => 4 - (intOf i).toNat)
    case atStart => exact ⟨0, Nat.zero_le _, rfl, fun j h => absurd h (by omega), A1.out, B1.out⟩
    case round =>
      clear A1 B1 b4
      try clear b6
      obtain ⟨k, hk, rfl, hok, hA, hB⟩ := hrel
      have HOK := Lib.hid hok
      have HA := Lib.hid hA
      have HB := Lib.hid hB
      clear hok hA hB
      by_cases hlt : k < 4
      · have hix := HIX.out k hlt
        obtain ⟨x, hx⟩ : ∃ x, x = bdVal p k := ⟨_, rfl⟩
        obtain ⟨hi, hhi⟩ : ∃ hi, hi = bdHigh k := ⟨_, rfl⟩
        rw [← hx, ← hhi] at hix
        have HK : Hid (bdIn p k ↔ 0 ≤ x ∧ x ≤ hi) := by rw [hx, hhi]; exact Iff.rfl
        have kI : (k : Int) < 4 := by omega
        clear hx hhi
        go_upto_region 9 with fail
        obtain ⟨W3, eW3⟩ : ∃ W3, W3 = wr.alloc (.cells #[.int .i64 x, .int .i64 hi] 84) := ⟨_, rfl⟩
        have hA3 : ArrV 84 W3 wr.heap.size [.int .i64 x, .int .i64 hi] := by rw [eW3]; exact ArrV.new _ wr _
        have hB3 : Below wr.heap.size wr W3 := by rw [eW3]; exact (Below.refl _ _).alloc (Nat.le_refl _) _
        have d0 := hA3.get 0
        have d1 := hA3.get 1
        simp at d0 d1
        have HA3 := Lib.hid (HA.out.below hB3)
        have HB3 := Lib.hid (below_both HB.out hB3)
        rw [← eW3]
        clear eW3 hA3 hB3
        by_cases h1 : x < 0
        · have hno : ¬ numsOk p := fun h => by have h9 := HK.out.1 (HIN.out.2 h k hlt); omega
          have he : plErr p = 1 := by rw [HE2.out, if_pos hno]
          have HEQ : Hid (plErr p = 1 ∧ plHead p = []) := ⟨he, HOUT.out (by rw [he]; decide)⟩
          clear hno he
          go_wp2_with fail
          go_ret2
          exact ⟨_, by rw [HEQ.out.1]; rfl, by rw [HEQ.out.2]; exact OutIs.nil _ _, HB3.out⟩
        · by_cases h2 : hi < x
          · have hno : ¬ numsOk p := fun h => by have h9 := HK.out.1 (HIN.out.2 h k hlt); omega
            have he : plErr p = 1 := by rw [HE2.out, if_pos hno]
            have HEQ : Hid (plErr p = 1 ∧ plHead p = []) := ⟨he, HOUT.out (by rw [he]; decide)⟩
            clear hno he
            go_wp2_with fail
            go_ret2
            exact ⟨_, by rw [HEQ.out.1]; rfl, by rw [HEQ.out.2]; exact OutIs.nil _ _, HB3.out⟩
          · have HO : Hid (∀ j, j < k + 1 → bdIn p j) := fun j hj => by
              by_cases hjk : j = k
              · rw [hjk]; exact HK.out.2 ⟨by omega, by omega⟩
              · exact HOK.out j (by omega)
            go_wp2_with fail
            go_roundw
            case rel => exact ⟨k + 1, by omega, by go_num, HO.out, HA3.out, HB3.out⟩
            case measure => simp [intOf]; omega
      · have hk4 : k = 4 := by omega
        subst hk4
        have hnn : numsOk p := HIN.out.1 HOK.out
        have C4 := Lib.hid (C4.out hnn)
        have C6 := Lib.hid (C6.out hnn)
        have he : plErr p = if p.v = 4 then bdFourErr p else bdSixErr p := by rw [HE2.out, if_neg (fun h => h hnn)]
        have c0 := CEL.out _ HA.out
        clear hlt hk
        rcases HV46.out with h4 | h6
        · have hH := HH.out
          rw [he, if_pos h4] at hH
          rw [if_pos h4] at hH
          have HEQ : Hid (plErr p = bdFourErr p ∧ plHead p = if bdFourErr p = 0 then bdFour p fd else []) := ⟨by rw [he, if_pos h4], hH⟩
          rw [h4] at c0
          clear HE2 HH HOUT HIX HIN HOK he hnn hH CEL h4
          go_upto_region 13 with fail
          go_wp2_with (first | refine wpList_load_v rfl 49 (.tmp 1) rfl _ rfl typlan HA.out Xl ?_ | fail)
          refine (C4.out _ HB.out).mono ?_
          rintro e w4 ⟨v, rfl, ho, hb⟩
          have HO := Lib.hid ho
          have B4 := Lib.hid (below_both HB.out hb)
          clear ho hb
          go_wp2_with fail
          go_ret2
          exact ⟨_, by rw [HEQ.out.1]; rfl, by rw [HEQ.out.2]; exact HO.out.mono HB.out.size, B4.out⟩
        · have hn4 : ¬ p.v = 4 := by rw [h6]; decide
          have hH := HH.out
          rw [he, if_neg hn4] at hH
          rw [if_neg hn4] at hH
          have HEQ : Hid (plErr p = bdSixErr p ∧ plHead p = if bdSixErr p = 0 then bdSix p fd else []) := ⟨by rw [he, if_neg hn4], hH⟩
          rw [h6] at c0
          clear HE2 HH HOUT HIX HIN HOK he hnn hH CEL h6 hn4
          go_upto_region 14 with fail
          go_wp2_with (first | refine wpList_load_v rfl 49 (.tmp 1) rfl _ rfl typlan HA.out Xl ?_ | fail)
          refine (C6.out _ HB.out).mono ?_
          rintro e w4 ⟨v, rfl, ho, hb⟩
          have HO := Lib.hid ho
          have B4 := Lib.hid (below_both HB.out hb)
          clear ho hb
          go_wp2_with fail
          go_ret2
          exact ⟨_, by rw [HEQ.out.1]; rfl, by rw [HEQ.out.2]; exact HO.out.mono HB.out.size, B4.out⟩
end Go.Proofs.YtmchclpkjjmocaaGreat

namespace Go.Proofs.YtmchclpkjjmocaaGreat
open Go.RowKit
set_option linter.unusedVariables false
set_option maxRecDepth 8000

theorem plHead_byte {p : PlanV} (hok : p.Ok) {w : World} (hin : p.In w) : (plHead p).length ≤ 16424 ∧ (plErr p = 0 → 20 ≤ (plHead p).length) ∧ ∀ x ∈ plHead p, x < 256 := by
  have hob : ∀ x ∈ p.os, x < 256 := by
    obtain ⟨A, c, _, _, hR⟩ := hin.io
    exact hR.2.1
  by_cases he : plErr p = 0
  · have hH : plHead p = if p.v = 4 then bdFour p (plField p) else bdSix p (plField p) := by unfold plHead; rw [if_pos he]
    have he2 := he
    unfold plErr at he2
    split at he2
    · cases he2
    split at he2
    · cases he2
    split at he2
    · cases he2
    split at he2
    · cases he2
    rename_i hv hd hc hn
    have hd := Decidable.of_not_not hd
    have hc := Decidable.of_not_not hc
    have hn := Decidable.of_not_not hn
    have hf : plField p ≤ 255 := by unfold plField; omega
    split at he2
    · rename_i h4
      rw [if_pos h4] at hH
      unfold bdFourErr at he2
      split at he2
      · cases he2
      split at he2
      · cases he2
      split at he2
      · cases he2
      obtain ⟨f1, f2, _, _, _⟩ := bdF_bytes (field := plField p) hok hob ⟨hn.1, hn.2.1, hn.2.2.1, hn.2.2.2⟩ hf (by omega) (by omega)
      have hpl := bdPad_len p.os
      have hlen : (bdFour p (plField p)).length = 20 + (bdPad p.os).length := by
        unfold bdFour
        exact fhseal_length _ _ _ f1 (by omega) (Nat.le_refl _)
      rw [hH]
      exact ⟨by rw [hlen]; omega, fun _ => by rw [hlen]; omega, fhseal_byte _ f2⟩
    · rename_i h4
      rw [if_neg h4] at hH
      unfold bdSixErr at he2
      split at he2
      · cases he2
      split at he2
      · rename_i g1 g2
        exact absurd he2 g2
      rename_i g1 g2
      have hE0 := Decidable.of_not_not g2
      obtain ⟨hbl, hbb⟩ := bdS_len (field := plField p) hok
      have hxl := bd_exlen hE0
      rw [hH]
      unfold bdSix
      refine ⟨by rw [List.length_append, hbl]; omega, fun _ => by rw [List.length_append, hbl]; omega, fun x hx => ?_⟩
      rcases List.mem_append.1 hx with h | h
      · exact hbb x h
      · obtain ⟨_, ⟨h1, h2, _⟩, _, hm⟩ := exCheck_ok hE0
        refine exBytes_byte ⟨h1, h2⟩ hm (fun m hh x hx => ?_) x h
        obtain ⟨A, c, e, _, h3⟩ := hin.ie
        obtain ⟨i, hi⟩ := List.getElem?_of_mem hh
        obtain ⟨_, _, _, bv, _, _, _, _, hv⟩ := h3 i m hi
        obtain ⟨A2, c2, _, _, hr⟩ := hv
        exact hr.2.1 x hx
  · have hH : plHead p = [] := by unfold plHead; rw [if_neg he]
    rw [hH]
    exact ⟨Nat.zero_le _, fun h => absurd h he, fun x hx => by cases hx⟩
def plSize (p : PlanV) : Nat := if plErr p = 0 then (plHead p).length + p.ps.length else 0
def plPacket (p : PlanV) : List Nat := if plErr p = 0 then plHead p ++ p.ps ++ p.ts else []
theorem plan_setup (p : PlanV) (hok : p.Ok) (w : World) : ∃ V, V = w.alloc (.cells p.cells.toArray 49) ∧ ArrV 49 V w.heap.size p.cells ∧ Below w.heap.size w V :=
  ⟨_, rfl, ArrV.new _ w _, (Below.refl _ _).alloc (Nat.le_refl _) _⟩
set_option maxHeartbeats 3200000 in
theorem bdbuild_any (p : PlanV) (hok : p.Ok) (w : World) (hin : p.In w) (hpt : p.ps.length + p.ts.length ≤ 140737488300000) :
    Calls Tryz.prog 20 #[.agg p.cells.toArray] w fun e w' => ∃ v, e = .returned (.tuple #[v, .int .i64 (plErr p : Nat)]) ∧ OutIs w.heap.size w' v (plPacket p) ∧ Below w.heap.size w w' := by
  obtain ⟨Xl, Xo⟩ := PlanV.cells_all hok
  obtain ⟨V, eV, hA, hB⟩ := plan_setup p hok w
  obtain ⟨hl1, hl2, hby⟩ := plHead_byte hok hin
  have CH : Hid (∀ W, Below w.heap.size w W → Calls Tryz.prog 30 #[.agg p.cells.toArray] W fun e w' => ∃ A c, e = .returned (.tuple #[.slice A (plHead p).length c, .int .i64 (plErr p : Nat)]) ∧ (plHead p).length ≤ c ∧ Row w' A (plHead p).length (plHead p) ∧ Below W.heap.size W w') := fun W h => (bdheaders_any p hok W (hin.below h)).mono fun e w' h => by
    obtain ⟨v, rfl, ho, hb⟩ := h
    obtain ⟨A, c, rfl, h1, _, h3⟩ := ho.out hby
    exact ⟨A, c, rfl, h1, h3, hb⟩
  obtain ⟨pA, pc, hpv, hpc, pR⟩ := hin.ip
  obtain ⟨tA, tc, htv, htc, tR⟩ := hin.it
  have HP : Hid (∀ W, ArrV 49 W w.heap.size p.cells → W.cell? ⟨w.heap.size, 42, none⟩ = some (.slice pA p.ps.length pc) ∧ W.cell? ⟨w.heap.size, 43, none⟩ = some (.slice tA p.ts.length tc)) := fun W h => by
    obtain ⟨_, _, _, _, _, _, _, _, _, _, c, d⟩ := plan_cells hok h
    rw [← hpv, ← htv]
    exact ⟨c, d⟩
  have HPT := Lib.hid (And.intro hpc htc)
  have PR : Hid (∀ W, Below w.heap.size w W → Row W pA p.ps.length p.ps ∧ Row W tA p.ts.length p.ts) := fun W h => ⟨pR.below h, tR.below h⟩
  have HA := Lib.hid hA
  have HB := Lib.hid hB
  have HS : Hid (plPacket p = if plErr p = 0 then plHead p ++ p.ps ++ p.ts else []) := rfl
  obtain ⟨d, hd⟩ : ∃ d, d = plErr p := ⟨_, rfl⟩
  rw [← hd] at CH HS hl2 ⊢
  obtain ⟨OUT, hOUT⟩ : ∃ d, d = plPacket p := ⟨_, rfl⟩
  rw [← hOUT] at HS ⊢
  obtain ⟨HD, hHD⟩ : ∃ m, m = plHead p := ⟨_, rfl⟩
  rw [← hHD] at CH HS hl1 hl2
  obtain ⟨m, hm⟩ : ∃ m, m = HD.length := ⟨_, rfl⟩
  obtain ⟨n, hn⟩ : ∃ n, n = p.ps.length := ⟨_, rfl⟩
  obtain ⟨k, hk⟩ : ∃ k, k = p.ts.length := ⟨_, rfl⟩
  rw [← hm] at CH hl1 hl2
  rw [← hn] at HP HPT PR hpt
  rw [← hk] at HP HPT PR hpt
  obtain ⟨ps, hps⟩ : ∃ l, l = p.ps := ⟨_, rfl⟩
  obtain ⟨ts, hts⟩ : ∃ l, l = p.ts := ⟨_, rfl⟩
  rw [← hps] at PR HS hn
  rw [← hts] at PR HS hk
  obtain ⟨X, hX⟩ : ∃ X, X = p.cells := ⟨_, rfl⟩
  rw [← hX] at Xl Xo HA eV CH HP ⊢
  by_cases hd0 : d = 0
  · subst hd0
    have hO : OUT = HD ++ ps ++ ts := by rw [HS.out, if_pos rfl]
    have hll : (HD ++ ps ++ ts).length = m + n + k := by rw [List.length_append, List.length_append, ← hm, ← hn, ← hk]
    have h20 := hl2 rfl
    have CC : Hid (∀ (W W2 : World) (g2 : Nat) (A : Option Addr) (c : Nat), Below W.heap.size W W2 → m ≤ c → Row W A m HD → Row W pA n ps → Row W tA k ts → W2.cell? ⟨g2, 0, none⟩ = some (.slice A m c) → W2.cell? ⟨g2, 1, none⟩ = some (.slice pA n pc) → W2.cell? ⟨g2, 2, none⟩ = some (.slice tA k tc) →
        Calls Tryz.prog 31 #[.slice (some ⟨g2, 0, none⟩) 3 3] W2 fun e w' => ∃ v, e = .returned v ∧ OutIs W.heap.size w' v OUT ∧ Below W.heap.size W w') := fun W W2 g2 A c hb hmc r0 r1 r2 h0 h1 h2 => by
      have q0 := r0.below hb
      have q1 := r1.below hb
      have q2 := r2.below hb
      have hfl : flat [⟨A, m, c, HD⟩, ⟨pA, n, pc, ps⟩, ⟨tA, k, tc, ts⟩] = OUT := by rw [hO]; simp [flat]
      refine (concat_any g2 3 [⟨A, m, c, HD⟩, ⟨pA, n, pc, ps⟩, ⟨tA, k, tc, ts⟩] W2 (by show (3 : Nat) ≤ 1000; decide) (by rw [hfl, hO, hll]; omega) (by rw [hfl, hO, hll]; omega) (pieces_three h0 h1 h2 q0 q1 q2 (by show m ≤ _; omega) (by show n ≤ _; omega) (by show k ≤ _; omega)) 3 rfl).mono ?_
      rintro e w' ⟨v, rfl, ho', hb'⟩
      rw [hfl] at ho'
      exact ⟨v, rfl, ho'.mono hb.size, hb.trans (hb'.mono hb.size)⟩
    clear hX hd hm hn hok hin hA hB hpv hpc pR tR htv htc hl1 hl2 hby hpt hps hts hk hOUT hHD hO hll h20 HS
    go_enter Tryz.func20, Tryz.ntmps20
    go_upto_region 1 with fail
    rw [← eV]
    clear eV
    go_wp2_with (first | refine wpList_load_v rfl 49 (.tmp 1) rfl _ rfl typlan HA.out Xl ?_ | fail)
    refine (CH.out _ HB.out).mono ?_
    rintro e w1 ⟨A, c, rfl, hmc, r1, hb⟩
    obtain ⟨c42, c43⟩ := HP.out _ (HA.out.below hb)
    have B1 := Lib.hid (below_both HB.out hb)
    have R1 := Lib.hid r1
    have HMC := Lib.hid hmc
    clear hb HP r1 hmc
    go_wp2_with fail
    refine (CC.out w1 _ _ _ _ (by exact ((Below.refl _ _).alloc (Nat.le_refl _) _)) HMC.out R1.out (PR.out _ B1.out).1 (PR.out _ B1.out).2 (by exact new_at _ _ _ _ _ _ (by simp) rfl) (by exact new_at _ _ _ _ _ _ (by simp) rfl) (by exact new_at _ _ _ _ _ _ (by simp) rfl)).mono ?_
    rintro e w2 ⟨v, rfl, ho, hb⟩
    have HO := Lib.hid ho
    have B2 := Lib.hid (below_both B1.out hb)
    clear ho hb
    go_wp2_with fail
    go_ret2
    exact ⟨_, rfl, HO.out.mono B1.out.size, B2.out⟩
  · have hO : OUT = [] := by rw [HS.out, if_neg hd0]
    rw [hO]
    have db : ((d : Int) != 0) = true := bne_iff_ne.2 (by omega)
    clear hX hd hm hn hok hin hA hB hpv hpc pR tR htv htc hl1 hl2 hby hpt hps hts hk hOUT hHD hO HS hd0 HP
    go_enter Tryz.func20, Tryz.ntmps20
    go_upto_region 1 with fail
    rw [← eV]
    clear eV
    go_wp2_with (first | refine wpList_load_v rfl 49 (.tmp 1) rfl _ rfl typlan HA.out Xl ?_ | fail)
    refine (CH.out _ HB.out).mono ?_
    rintro e w1 ⟨A, c, rfl, hmc, r1, hb⟩
    have B1 := Lib.hid (below_both HB.out hb)
    clear hb r1 hmc
    go_wp2_with fail
    go_ret2
    exact ⟨_, rfl, OutIs.nil _ _, B1.out⟩
end Go.Proofs.YtmchclpkjjmocaaGreat
