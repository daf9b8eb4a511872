/-
  build: plans as cells; padded, numbers.
  build: numbers; a part of a variable loaded where the world stands still.
  build: four.
-/
import Derived.Test.YtjpaicdbnadoeaaOwn
import Derived.Test.YtjpaicdbnadoeaaArrV
import Derived.Test.YtjpaicdbnadoeaaEw5
import Derived.Test.YtjpaicdbnadoeaaFh4
import Derived.Test.YtjpaicdbnadoeaaApp
import Derived.Test.YtjpaicdbnadoeaaRegCall
import Derived.Test.YtjpaicdbnadoeaaFh11
import Derived.Test.YtjpaicdbnadoeaaFh14
import Derived.Laws.Cover3
import Derived.StillTailTactics
import Derived.Test.YtjpaicdbnadoeaaSxEq
namespace Go.Proofs.Ytjpaicdbnadoeaa
open Go.RowKit
set_option linter.unusedVariables false
set_option maxRecDepth 8000

structure PlanV where
  v : Int
  src : List Nat
  dst : List Nat
  dscp : Int
  ecn : Int
  ttl : Int
  id : Int
  off : Int
  more : Bool
  ov : Value
  os : List Nat
  ev : Value
  M : List (Int × List Nat)
  proto : Int
  pv : Value
  ps : List Nat
  tv : Value
  ts : List Nat
def PlanV.tail (p : PlanV) : List Value := [.int .i64 p.dscp, .int .i64 p.ecn, .int .i64 p.ttl, .int .i64 p.id, .int .i64 p.off, .bool p.more, p.ov, p.ev, .int .i64 p.proto, p.pv, p.tv]
def PlanV.cells (p : PlanV) : List Value := .int .i64 p.v :: (bcells p.src ++ (bcells p.dst ++ p.tail))
def Big (k : Int) : Prop := -9223372036854775808 ≤ k ∧ k ≤ 9223372036854775807
/-- What every plan that comes in keeps to. -/
structure PlanV.Ok (p : PlanV) : Prop where
  sl : p.src.length = 16
  dl : p.dst.length = 16
  sb : ∀ x ∈ p.src, x < 256
  db : ∀ x ∈ p.dst, x < 256
  one : p.ov.oneCell' = true ∧ p.ev.oneCell' = true ∧ p.pv.oneCell' = true ∧ p.tv.oneCell' = true
  v : Big p.v
  dscp : Big p.dscp
  ecn : Big p.ecn
  ttl : Big p.ttl
  id : Big p.id
  off : Big p.off
  proto : Big p.proto
  ol : p.os.length ≤ 140737488351232
  pl : p.ps.length ≤ 140737488351232
  tl : p.ts.length ≤ 140737488351232
  ml : p.M.length ≤ 140737488351232
/-- Its slices, in a world. -/
structure PlanV.In (p : PlanV) (w : World) : Prop where
  io : ByteVal w p.ov p.os
  ie : ExtsIn w p.ev p.M
  ip : ByteVal w p.pv p.ps
  it : ByteVal w p.tv p.ts
theorem PlanV.In.below {p : PlanV} {w w' : World} (h : p.In w) (hb : Below w.heap.size w w') : p.In w' := ⟨h.io.below hb, h.ie.below hb, h.ip.below hb, h.it.below hb⟩
theorem PlanV.cells_all {p : PlanV} (h : p.Ok) : p.cells.length = 44 ∧ ∀ v ∈ p.cells, v.oneCell' = true := by
  refine ⟨by simp [PlanV.cells, PlanV.tail, bcells_length, h.sl, h.dl], fun v hv => ?_⟩
  unfold PlanV.cells at hv
  rcases List.mem_cons.1 hv with rfl | hv
  · rfl
  rcases List.mem_append.1 hv with hv | hv
  · exact bcells_one _ v hv
  rcases List.mem_append.1 hv with hv | hv
  · exact bcells_one _ v hv
  · unfold PlanV.tail at hv
    obtain ⟨a, b, c, d⟩ := h.one
    simp at hv
    rcases hv with rfl | rfl | rfl | rfl | rfl | rfl | rfl | rfl | rfl | rfl | rfl
    all_goals first | rfl | assumption
theorem typlan : RowTy 60 44 := ⟨⟨_, Try.underlying60, rfl⟩, by kernel_rfl⟩
theorem plan_at {a : Value} {S D T : List Value} (hS : S.length = 16) (hD : D.length = 16) (j : Nat) : (a :: (S ++ (D ++ T)))[33 + j]? = T[j]? := by
  rw [show 33 + j = (16 + (16 + j)) + 1 by omega, List.getElem?_cons_succ, List.getElem?_append_right (by omega), hS, Nat.add_sub_cancel_left, List.getElem?_append_right (by omega), hD, Nat.add_sub_cancel_left]
/-- A plan's cells, told one by one. -/
theorem plan_cells {p : PlanV} (h : p.Ok) {t : TypeId} {W : World} {g : Nat} (hA : ArrV t W g p.cells) :
    W.cell? ⟨g, 0, none⟩ = some (.int .i64 p.v) ∧ W.cell? ⟨g, 33, none⟩ = some (.int .i64 p.dscp) ∧ W.cell? ⟨g, 34, none⟩ = some (.int .i64 p.ecn) ∧ W.cell? ⟨g, 35, none⟩ = some (.int .i64 p.ttl) ∧ W.cell? ⟨g, 36, none⟩ = some (.int .i64 p.id) ∧ W.cell? ⟨g, 37, none⟩ = some (.int .i64 p.off) ∧ W.cell? ⟨g, 38, none⟩ = some (.bool p.more) ∧
    W.cell? ⟨g, 39, none⟩ = some p.ov ∧ W.cell? ⟨g, 40, none⟩ = some p.ev ∧ W.cell? ⟨g, 41, none⟩ = some (.int .i64 p.proto) ∧ W.cell? ⟨g, 42, none⟩ = some p.pv ∧ W.cell? ⟨g, 43, none⟩ = some p.tv := by
  have hs : (bcells p.src).length = 16 := by rw [bcells_length, h.sl]
  have hd : (bcells p.dst).length = 16 := by rw [bcells_length, h.dl]
  have k : ∀ j, W.cell? ⟨g, 33 + j, none⟩ = p.tail[j]? := fun j => (hA.get (33 + j)).trans (plan_at hs hd j)
  exact ⟨hA.get 0, k 0, k 1, k 2, k 3, k 4, k 5, k 6, k 7, k 8, k 9, k 10⟩
def bdPad (os : List Nat) : List Nat := os ++ List.replicate ((os.length + 3) / 4 * 4 - os.length) 0
theorem bdPad_len (os : List Nat) : (bdPad os).length = (os.length + 3) / 4 * 4 := by
  unfold bdPad
  rw [List.length_append, List.length_replicate]
  omega
theorem bdPad_byte {os : List Nat} (h : ∀ x ∈ os, x < 256) : ∀ x ∈ bdPad os, x < 256 := fun x hx => by
  unfold bdPad at hx
  rcases List.mem_append.1 hx with hx | hx
  · exact h x hx
  · rw [List.eq_of_mem_replicate hx]; decide
set_option maxHeartbeats 1600000 in
/-- Options with zeros behind them. -/
theorem padded_any (v : Value) (os : List Nat) (w : World) (hl : os.length ≤ 140737488351232) (hv : ByteVal w v os) :
    Calls Try.prog 116 #[v] w fun e w' => ∃ g, w.heap.size ≤ g ∧ e = .returned (.slice (some ⟨g, 0, none⟩) (bdPad os).length (bdPad os).length) ∧ Own w' g (bdPad os) ∧ Below w.heap.size w w' := by
  obtain ⟨A, c, rfl, hc, hR⟩ := hv
  have hlen := bdPad_len os
  obtain ⟨m, hm⟩ : ∃ m, m = (bdPad os).length := ⟨_, rfl⟩
  obtain ⟨n, hn⟩ : ∃ n, n = os.length := ⟨_, rfl⟩
  rw [← hm, ← hn] at hlen
  rw [← hn] at hl hc hR
  rw [← hn, ← hm]
  have hmk := make_bytes m (by omega) w
  have o0 := Own.new w (List.replicate m 0)
  obtain ⟨V, eV⟩ : ∃ V, V = w.alloc (.cells (bcells (List.replicate m 0)).toArray 5) := ⟨_, rfl⟩
  rw [← eV] at hmk o0
  have hbV : Below w.heap.size w V := by rw [eV]; exact (Below.refl _ _).alloc (Nat.le_refl _) _
  have hRV := hR.below hbV
  have hcp : ∃ w2, Sem.run Try.prog (Builtin.copy_ #[22, 22] 3 #[.slice (some ⟨w.heap.size, 0, none⟩) m m, .slice A n c]) V = .ok (.int .i64 (n : Nat)) w2 ∧ ArrV 5 w2 w.heap.size (bcells (bdPad os)) ∧ Below w.heap.size V w2 := by
    rcases Nat.eq_zero_or_pos n with h0 | h0
    · subst h0
      have e1 : os = [] := List.eq_nil_of_length_eq_zero hn.symm
      have e2 : m = 0 := by omega
      subst e2
      subst e1
      exact ⟨V, run_copy_none V _ _ _ 5 _ _ _ _ _ _ Try.underlying22 u8_size (by show min 0 0 = 0; omega), o0, Below.refl _ _⟩
    · obtain ⟨b, o, rfl, hbs, hcell⟩ := hRV.addr h0
      obtain ⟨w2, h1, h2, h3⟩ := copy_at Try.underlying22 u8_size 5 V w.heap.size 0 m m (bcells (List.replicate m 0)) ⟨b, o, none⟩ n c (bcells os) (show ArrV _ _ _ _ from o0) (by rw [bcells_length, hn]; show _ = min _ _; omega) (fun j u hu => by
        have hj : j < os.length := by
          have := (List.getElem?_eq_some_iff.1 hu).1
          rwa [bcells_length] at this
        have hx : (bcells os)[j]? = some (.int .u8 (os.getD j 0 : Nat)) := by
          unfold bcells
          rw [List.getElem?_map, List.getElem?_eq_getElem hj, List.getD_eq_getElem?_getD, List.getElem?_eq_getElem hj]
          rfl
        rw [hx] at hu
        cases hu
        have h5 := hcell j (by omega)
        rcases Nat.eq_zero_or_pos j with hj0 | hj0
        · subst hj0
          simpa [Addr.add] using h5
        · simpa [Addr.add, show j ≠ 0 by omega] using h5) (by rw [bcells_length, bcells_length, List.length_replicate]; omega) (bcells_one os)
      rw [bcells_length, ← hn] at h1
      refine ⟨w2, h1, ?_, h3⟩
      have e : (bcells (List.replicate m 0)).take 0 ++ bcells os ++ (bcells (List.replicate m 0)).drop (0 + (bcells os).length) = bcells (bdPad os) := by
        unfold bdPad bcells
        rw [List.take_zero, List.nil_append, List.length_map, Nat.zero_add, List.map_append, ← List.map_drop, List.drop_replicate, ← hn, ← hlen]
      rw [e] at h2
      exact h2
  obtain ⟨w2, h1, h2, h3⟩ := hcp
  have HO := Lib.hid h2
  have HB := Lib.hid (hbV.trans h3)
  have i1 : wrap64 ((n : Int) + 3) = (n : Int) + 3 := by unfold wrap64; omega
  have i2 : wrap64 (((n : Int) + 3).tdiv 4) = ((n : Int) + 3) / 4 := by rw [Int.tdiv_eq_ediv_of_nonneg (by omega)]; unfold wrap64; omega
  have i4 : wrap64 (((n : Int) + 3) / 4) = ((n : Int) + 3) / 4 := by unfold wrap64; omega
  have i3 : wrap64 (((n : Int) + 3) / 4 * 4) = (m : Int) := by unfold wrap64; omega
  have i5 : wrap64 (4 * (((n : Int) + 3) / 4)) = (m : Int) := by unfold wrap64; omega
  clear h2 h3 hbV hRV o0 hR hc hl hm hn hlen eV
  go_enter Try.func116, Try.ntmps116
  go_wp2_with fail
  go_ret
  exact ⟨_, Nat.le_refl _, rfl, HO.out, HB.out⟩
end Go.Proofs.Ytjpaicdbnadoeaa

namespace Go.Proofs.Ytjpaicdbnadoeaa
open Go.RowKit
set_option linter.unusedVariables false
set_option maxRecDepth 8000

/-- The load of a part of a variable, where the world stands still. -/
theorem wpStill_load_part {ops : Array Oper} {rest : List Oper} {o : Oper} {a : Act} {w : World} {Q : Act → Prop} (hgd : o.guard = none) (t : TypeId) (x : Operand) (ho : o.op = .load t x)
    (g off : Nat) (hx : a.eval x = .pointer (some ⟨g, off, none⟩)) {n : Nat} {cs vs : List Value} {t' : TypeId} (ht : RowTy t n) (h : ArrV t' w g cs) (hv : ∀ (j : Nat) v, vs[j]? = some v → cs[off + j]? = some v) (hl : vs.length = n) (hk : wpStill Try.prog ops w Q rest (a.put o.dst (.agg vs.toArray))) : wpStill Try.prog ops w Q (o :: rest) a := by
  obtain ⟨d, hd, hr⟩ := ht.desc
  have hload : (Instr.loadAt t (.pointer (some ⟨g, off, none⟩))).run Try.prog w = .ok (.agg vs.toArray) w := run_loadAt_mid w g off t vs d (fun j v hj => (h.get (off + j)).trans (hv j v hj)) hd hr (by rw [hl]; exact ht.size)
  refine wpStill_step fun K hK => ?_
  rw [if_pos (by simp [Region.wanted, hgd])]
  unfold Oper.still execOp
  simp only [ho, hx, Sem.run_bind, Sem.run_pure, hload, Result.andThen_ok, Oper.stillUpon_value]
  exact hK _ hk
def bdNums (p : PlanV) : List Value := [.int .i64 p.ttl, .int .i64 255, .int .i64 p.proto, .int .i64 255, .int .i64 p.id, .int .i64 65535, .int .i64 p.off, .int .i64 8191]
theorem bdtynums : RowTy 139 8 := ⟨⟨_, Try.underlying139, rfl⟩, by kernel_rfl⟩
set_option maxHeartbeats 1600000 in
theorem bdnumbers_any (p : PlanV) (hp : p.Ok) (w : World) :
    Calls Try.prog 92 #[.agg p.cells.toArray] w fun e w' => e = .returned (.agg (bdNums p).toArray) ∧ Below w.heap.size w w' := by
  obtain ⟨Xl, Xo⟩ := PlanV.cells_all hp
  obtain ⟨V, eV⟩ : ∃ V, V = w.alloc (.cells p.cells.toArray 60) := ⟨_, rfl⟩
  have hA : ArrV 60 V w.heap.size p.cells := by rw [eV]; exact ArrV.new _ w _
  have hB : Below w.heap.size w V := by rw [eV]; exact (Below.refl _ _).alloc (Nat.le_refl _) _
  obtain ⟨N, hN⟩ : ∃ N, N = bdNums p := ⟨_, rfl⟩
  have hlit : (#[.int .i64 p.ttl, .int .i64 255, .int .i64 p.proto, .int .i64 255, .int .i64 p.id, .int .i64 65535, .int .i64 p.off, .int .i64 8191] : Array Value) = N.toArray := by rw [hN]; rfl
  have hNl : N.length = 8 := by rw [hN]; rfl
  have hNo : ∀ v ∈ N, v.oneCell' = true := by rw [hN]; unfold bdNums; simp [Value.oneCell']
  rw [← hN]
  obtain ⟨X, hX⟩ : ∃ X, X = p.cells := ⟨_, rfl⟩
  have HPC : Hid (∀ W, ArrV 60 W w.heap.size X → W.cell? ⟨w.heap.size, 35, none⟩ = some (.int .i64 p.ttl) ∧ W.cell? ⟨w.heap.size, 36, none⟩ = some (.int .i64 p.id) ∧ W.cell? ⟨w.heap.size, 37, none⟩ = some (.int .i64 p.off) ∧ W.cell? ⟨w.heap.size, 41, none⟩ = some (.int .i64 p.proto)) := fun W h => by
    rw [hX] at h
    obtain ⟨_, _, _, a, b, c, _, _, _, d, _, _⟩ := plan_cells hp h
    exact ⟨a, b, c, d⟩
  rw [← hX] at hA Xl Xo eV ⊢
  have HA := Lib.hid hA
  have HB := Lib.hid hB
  obtain ⟨Z, hZ⟩ : ∃ Z : List Value, Z = [.int .i64 0, .int .i64 0, .int .i64 0, .int .i64 0, .int .i64 0, .int .i64 0, .int .i64 0, .int .i64 0] := ⟨_, rfl⟩
  have hZl : Z.length = 8 := by rw [hZ]; rfl
  obtain ⟨V2, eV2⟩ : ∃ V2, V2 = V.alloc (.cells #[.int .i64 0, .int .i64 0, .int .i64 0, .int .i64 0, .int .i64 0, .int .i64 0, .int .i64 0, .int .i64 0] 139) := ⟨_, rfl⟩
  have hA2 : ArrV 139 V2 V.heap.size Z := by rw [eV2, hZ]; exact ArrV.new _ V _
  have hX2 := hA.below (show Below V.heap.size V V2 by rw [eV2]; exact (Below.refl _ _).alloc (Nat.le_refl _) _)
  have hB2 : Below w.heap.size w V2 := by rw [eV2]; exact hB.alloc hB.size _
  obtain ⟨c35, c36, c37, c41⟩ := HPC.out V2 hX2
  have A2 := Lib.hid hA2
  have B2 := Lib.hid hB2
  have hsz : V.heap.size = w.heap.size + 1 := by rw [eV]; simp
  have HG : Hid (w.heap.size ≤ w.heap.size + 1) := Nat.le_succ _
  rw [hsz] at A2
  clear hA hB hA2 hX2 hB2 hX hN hZ HPC hsz
  go_enter Try.func92, Try.ntmps92
  go_upto_region 1 with fail
  rw [← eV]
  clear eV
  rw [← eV2]
  clear eV2
  obtain ⟨g2, hg2⟩ : ∃ g, g = w.heap.size + 1 := ⟨_, rfl⟩
  rw [← hg2] at A2 HG ⊢
  obtain ⟨g1, hg1⟩ : ∃ g, g = w.heap.size := ⟨_, rfl⟩
  rw [← hg1] at c35 c36 c37 c41 HG ⊢
  have HG1 := Lib.hid hg1
  clear hg2 hg1
  go_wp2_with (first | refine wpList_store_v rfl 139 (.tmp 2) (.tmp 15) rfl _ rfl bdtynums A2.out hZl N hNl hNo rfl ?_ | fail)
  have HS := A2.out.store N (by rw [hNl, hZl])
  exact bodyPost_ret (v := .agg N.toArray) (res_cell Try.results92 rfl (HS.loadVar bdtynums hNl)) rfl ⟨rfl, setCells_below g2 (by rw [← HG1.out]; exact HG.out) _ _ _ B2.out⟩
end Go.Proofs.Ytjpaicdbnadoeaa

namespace Go.Proofs.Ytjpaicdbnadoeaa
open Go.RowKit
set_option linter.unusedVariables false
set_option maxRecDepth 8000

/-- The header of a plan of version 4. -/
def bdF (p : PlanV) (field : Nat) : FourV :=
  ⟨((5 + (bdPad p.os).length / 4 : Nat) : Int), (field : Nat), ((20 + (bdPad p.os).length + p.ps.length : Nat) : Int), p.id, if p.more then 1 else 0, p.off, p.ttl, p.proto, 0, p.src.take 4, p.dst.take 4⟩
def bdFourErr (p : PlanV) : Nat := if p.M.length > 0 then 10 else if p.os.length > 40 then 18 else if p.ps.length > 65535 - (20 + (bdPad p.os).length) then 18 else 0
def bdFour (p : PlanV) (field : Nat) : List Nat := fhseal ((bdF p field).bytes (bdPad p.os)) (20 + (bdPad p.os).length)
structure PlanV.Nums (p : PlanV) : Prop where
  ttl : 0 ≤ p.ttl ∧ p.ttl ≤ 255
  proto : 0 ≤ p.proto ∧ p.proto ≤ 255
  id : 0 ≤ p.id ∧ p.id ≤ 65535
  off : 0 ≤ p.off ∧ p.off ≤ 8191
theorem bdF_fits {p : PlanV} {field : Nat} (hn : p.Nums) (hf : field ≤ 255) (ho : p.os.length ≤ 40) (hp : p.ps.length ≤ 65535 - (20 + (bdPad p.os).length)) : (bdF p field).fits := by
  have hl := bdPad_len p.os
  obtain ⟨a, b, c, d⟩ := hn
  intro k hk
  unfold FourV.okAt
  match k, hk with
  | 0, _ => show (5 : Int) ≤ ((5 + (bdPad p.os).length / 4 : Nat) : Int) ∧ ((5 + (bdPad p.os).length / 4 : Nat) : Int) ≤ 15; omega
  | 1, _ => show (0 : Int) ≤ ((field : Nat) : Int) ∧ ((field : Nat) : Int) ≤ 255; omega
  | 2, _ => show (0 : Int) ≤ ((20 + (bdPad p.os).length + p.ps.length : Nat) : Int) ∧ ((20 + (bdPad p.os).length + p.ps.length : Nat) : Int) ≤ 65535; omega
  | 3, _ => exact c
  | 4, _ => show (0 : Int) ≤ (if p.more then 1 else 0) ∧ (if p.more then (1 : Int) else 0) ≤ 7; split <;> omega
  | 5, _ => exact d
  | 6, _ => exact a
  | 7, _ => exact b
  | 8, _ => show (0 : Int) ≤ 0 ∧ (0 : Int) ≤ 65535; omega
theorem bdF_bytes {p : PlanV} {field : Nat} (hok : p.Ok) (hby : ∀ x ∈ p.os, x < 256) (hn : p.Nums) (hf : field ≤ 255) (ho : p.os.length ≤ 40) (hp : p.ps.length ≤ 65535 - (20 + (bdPad p.os).length)) :
    ((bdF p field).bytes (bdPad p.os)).length = 20 + (bdPad p.os).length ∧ (∀ x ∈ (bdF p field).bytes (bdPad p.os), x < 256) ∧ ((bdF p field).bytes (bdPad p.os)).getD 0 0 = 64 + (5 + (bdPad p.os).length / 4) ∧ fhdef (20 + (bdPad p.os).length) ((bdF p field).bytes (bdPad p.os)) = 0 ∧ 4 * (((bdF p field).bytes (bdPad p.os)).getD 0 0 % 16) = 20 + (bdPad p.os).length := by
  have hl := bdPad_len p.os
  obtain ⟨⟨a, a'⟩, ⟨b, b'⟩, ⟨c, c'⟩, ⟨d, d'⟩⟩ := hn
  have h0 : ((bdF p field).bytes (bdPad p.os)).getD 0 0 = 64 + (5 + (bdPad p.os).length / 4) := by
    show 64 + (((5 + (bdPad p.os).length / 4 : Nat) : Int)).toNat = _
    rw [Int.toNat_natCast]
  have hlen : ((bdF p field).bytes (bdPad p.os)).length = 20 + (bdPad p.os).length := by
    unfold FourV.bytes head12 bdF
    simp [hok.sl, hok.dl]
    omega
  refine ⟨hlen, ?_, h0, ?_, by rw [h0]; omega⟩
  · intro x hx
    unfold FourV.bytes at hx
    rcases List.mem_append.1 hx with hx | hx
    · rcases List.mem_append.1 hx with hx | hx
      · rcases List.mem_append.1 hx with hx | hx
        · have e : (if p.more then (1 : Int) else 0).toNat ≤ 1 := by split <;> decide
          unfold head12 bdF at hx
          simp only [Int.toNat_natCast] at hx
          simp only [List.mem_cons, List.not_mem_nil, or_false] at hx
          generalize (if p.more then (1 : Int) else 0).toNat = m at *
          rcases hx with rfl | rfl | rfl | rfl | rfl | rfl | rfl | rfl | rfl | rfl | rfl | rfl <;> omega
        · exact hok.sb x (List.mem_of_mem_take hx)
      · exact hok.db x (List.mem_of_mem_take hx)
    · exact bdPad_byte hby x hx
  · unfold fhdef
    rw [h0, if_neg (by omega), if_neg (by omega), if_neg (by omega), if_neg (by omega), if_neg (by omega)]
theorem bd_quo {m : Nat} (hm : m ≤ 60) : wrap64 (Int.tdiv (m : Int) 4) = ((m / 4 : Nat) : Int) ∧ IntKind.i64.wrap (Int.tdiv (m : Int) 4) = ((m / 4 : Nat) : Int) := by
  rw [Int.tdiv_eq_ediv_of_nonneg (by omega)]
  constructor
  · unfold wrap64; omega
  · rw [IntKind.wrap_i64]; omega
set_option maxHeartbeats 6400000 in
theorem bdfour_any (p : PlanV) (field : Nat) (hok : p.Ok) (hn : p.Nums) (hf : field ≤ 255) (w : World) (hin : p.In w) :
    Calls Try.prog 93 #[.agg p.cells.toArray, .int .i64 (field : Nat)] w fun e w' => ∃ v, e = .returned (.tuple #[v, .int .i64 (bdFourErr p : Nat)]) ∧ OutIs w.heap.size w' v (if bdFourErr p = 0 then bdFour p field else []) ∧ Below w.heap.size w w' := by
  obtain ⟨Xl, Xo⟩ := PlanV.cells_all hok
  obtain ⟨V, eV⟩ : ∃ V, V = w.alloc (.cells p.cells.toArray 60) := ⟨_, rfl⟩
  have hA : ArrV 60 V w.heap.size p.cells := by rw [eV]; exact ArrV.new _ w _
  have hB : Below w.heap.size w V := by rw [eV]; exact (Below.refl _ _).alloc (Nat.le_refl _) _
  obtain ⟨g2, hg2⟩ : ∃ g, g = w.heap.size := ⟨_, rfl⟩
  obtain ⟨⟨oA, oc, hov, hoc, oR⟩, ⟨eA, ec, hev, hec, _⟩, ⟨pA, pc, hpv, hpc, pR⟩, _⟩ := hin
  obtain ⟨_, _, _, c35, c36, c37, c38, c39, c40, c41, c42, _⟩ := plan_cells hok hA
  rw [hov] at c39
  rw [hev] at c40
  rw [hpv] at c42
  rw [← hg2] at c35 c36 c37 c38 c39 c40 c41 c42 hA
  have hos := hok.ol
  have hps := hok.pl
  have CP : Hid (∀ W, Below w.heap.size w W → Calls Try.prog 116 #[.slice oA p.os.length oc] W fun e w' => ∃ g, W.heap.size ≤ g ∧ e = .returned (.slice (some ⟨g, 0, none⟩) (bdPad p.os).length (bdPad p.os).length) ∧ Own w' g (bdPad p.os) ∧ Below W.heap.size W w') := fun W h => padded_any _ p.os W hos ⟨oA, oc, rfl, hoc, oR.below h⟩
  have HA := Lib.hid hA
  have HB := Lib.hid hB
  have HG2 := Lib.hid hg2
  by_cases hM : p.M.length > 0
  · have he : bdFourErr p = 10 := by unfold bdFourErr; rw [if_pos hM]
    rw [he, if_neg (by decide)]
    obtain ⟨q, hq⟩ : ∃ q, q = p.M.length := ⟨_, rfl⟩
    rw [← hq] at c40 hM
    have qI : (0 : Int) < (q : Int) := by omega
    obtain ⟨X, hX⟩ : ∃ X, X = p.cells := ⟨_, rfl⟩
    rw [← hX] at Xl Xo HA eV ⊢
    clear hX he hq hM CP hos hps oR pR hoc hec hpc hok hn hf hA hB hg2
    go_enter Try.func93, Try.ntmps93
    go_upto_region 1 with fail
    rw [← eV, ← HG2.out]
    clear eV
    go_wp2_with fail
    go_ret2
    exact ⟨_, rfl, OutIs.nil _ _, HB.out⟩
  have hM0 : p.M.length = 0 := by omega
  rw [hM0] at c40
  by_cases hO : p.os.length > 40
  · have he : bdFourErr p = 18 := by unfold bdFourErr; rw [if_neg hM, if_pos hO]
    rw [he, if_neg (by decide)]
    obtain ⟨q, hq⟩ : ∃ q, q = p.os.length := ⟨_, rfl⟩
    rw [← hq] at c39 hO
    have qI : (40 : Int) < (q : Int) := by omega
    obtain ⟨X, hX⟩ : ∃ X, X = p.cells := ⟨_, rfl⟩
    rw [← hX] at Xl Xo HA eV ⊢
    clear hX he hq hM CP hos hps oR pR hoc hec hpc hok hn hf hA hB hg2 hM0 hO
    go_enter Try.func93, Try.ntmps93
    go_upto_region 1 with fail
    rw [← eV, ← HG2.out]
    clear eV
    go_wp2_with fail
    go_ret2
    exact ⟨_, rfl, OutIs.nil _ _, HB.out⟩
  have hpl := bdPad_len p.os
  have HPC : Hid (∀ W, Below V.heap.size V W → ArrV 60 W g2 p.cells) := fun W h => HA.out.below h
  by_cases hP : p.ps.length > 65535 - (20 + (bdPad p.os).length)
  · have he : bdFourErr p = 18 := by unfold bdFourErr; rw [if_neg hM, if_neg hO, if_pos hP]
    rw [he, if_neg (by decide)]
    obtain ⟨q, hq⟩ : ∃ q, q = p.os.length := ⟨_, rfl⟩
    obtain ⟨m, hm⟩ : ∃ m, m = (bdPad p.os).length := ⟨_, rfl⟩
    obtain ⟨n, hnn⟩ : ∃ n, n = p.ps.length := ⟨_, rfl⟩
    rw [← hq] at c39 hO CP hpl
    rw [← hm] at CP hP hpl
    rw [← hnn] at c42 hP hps
    have hq40 : (q : Int) ≤ 40 := by omega
    have hc42 : Hid (∀ W, Below V.heap.size V W → W.cell? ⟨g2, 42, none⟩ = some (.slice pA n pc)) := fun W h => (h.cell (p := ⟨g2, 42, none⟩) HA.out.lt).trans c42
    have i1 : wrap64 (20 + (m : Int)) = 20 + (m : Int) := by unfold wrap64; omega
    have i2 : wrap64 (65535 - (20 + (m : Int))) = 65535 - (20 + (m : Int)) := by unfold wrap64; omega
    have i3 : (65535 - (20 + (m : Int))) < (n : Int) := by omega
    obtain ⟨X, hX⟩ : ∃ X, X = p.cells := ⟨_, rfl⟩
    rw [← hX] at Xl Xo HA eV ⊢
    clear hX he hq hnn hM hos hps oR pR hoc hec hpc hok hn hf hA hB hg2 hM0 hO hm hpl hP HPC c42
    go_enter Try.func93, Try.ntmps93
    go_upto_region 1 with fail
    rw [← eV, ← HG2.out]
    clear eV
    go_wp2_with fail
    refine (CP.out _ HB.out).mono ?_
    rintro e w1 ⟨g, hg, rfl, ho, b1⟩
    have c42 := hc42.out _ b1
    have B1 := Lib.hid (below_both HB.out b1)
    clear ho b1 hg hc42 c35 c36 c37 c38 c39 c40 c41
    go_wp2_with fail
    go_ret2
    exact ⟨_, rfl, OutIs.nil _ _, B1.out⟩
  · have he : bdFourErr p = 0 := by unfold bdFourErr; rw [if_neg hM, if_neg hO, if_neg hP]
    rw [he, if_pos rfl]
    have hob : ∀ x ∈ p.os, x < 256 := oR.2.1
    obtain ⟨f1, f2, f3, f4, f5⟩ := bdF_bytes (field := field) hok hob hn hf (by omega) (by omega)
    have ffit := bdF_fits hn hf (by omega) (by omega)
    obtain ⟨m, hm⟩ : ∃ m, m = (bdPad p.os).length := ⟨_, rfl⟩
    have CW : Hid (∀ (g : Nat) (W : World), Own W g (bdPad p.os) → Calls Try.prog 27 #[.agg (bdF p field).cells.toArray, .slice (some ⟨g, 0, none⟩) m m] W fun e w' => ∃ A c, e = .returned (.tuple #[.slice A (20 + m) c, .int .i64 0]) ∧ 20 + m ≤ c ∧ Row w' A (20 + m) ((bdF p field).bytes (bdPad p.os)) ∧ Below W.heap.size W w') := fun g W h => by
      have hr := h.row (bdPad_byte hob)
      rw [← hm] at hr
      refine (fhwrite_any (bdF p field) (some ⟨g, 0, none⟩) m m (bdPad p.os) W (by show (p.src.take 4).length = 4; rw [List.length_take, hok.sl]; rfl) (by show (p.dst.take 4).length = 4; rw [List.length_take, hok.dl]; rfl) (fun x hx => hok.sb x (List.mem_of_mem_take hx)) (fun x hx => hok.db x (List.mem_of_mem_take hx)) (by omega) hr).mono ?_
      rintro e w' ⟨hb, _, _, h3⟩
      obtain ⟨v, rfl, ho⟩ := h3 ffit (by show (m : Int) = 4 * ((5 + (bdPad p.os).length / 4 : Nat) : Int) - 20; omega)
      obtain ⟨A, c, rfl, h1, _, h4⟩ := ho.out f2
      rw [f1, ← hm] at h1 h4 ⊢
      exact ⟨A, c, rfl, h1, h4, hb⟩
    have CS : Hid (∀ (A : Option Addr) (c : Nat) (W : World), 20 + m ≤ c → Row W A (20 + m) ((bdF p field).bytes (bdPad p.os)) → Calls Try.prog 28 #[.slice A (20 + m) c] W (SealIs W (bdFour p field))) := fun A c W hc hr => by
      have h := fhseal_ok A (20 + m) c _ W (by omega) hc hr (by rw [hm]; exact f4)
      rw [f5] at h
      exact h
    unfold SealIs at CS
    obtain ⟨q, hq⟩ : ∃ q, q = p.os.length := ⟨_, rfl⟩
    obtain ⟨n, hnn⟩ : ∃ n, n = p.ps.length := ⟨_, rfl⟩
    obtain ⟨sz, hsz⟩ : ∃ sz, sz = 20 + m := ⟨_, rfl⟩
    obtain ⟨ih, hih⟩ : ∃ ih, ih = 5 + (bdPad p.os).length / 4 := ⟨_, rfl⟩
    obtain ⟨tot, htot⟩ : ∃ tot, tot = 20 + (bdPad p.os).length + p.ps.length := ⟨_, rfl⟩
    have i1 : wrap64 (20 + (m : Int)) = (sz : Int) := by unfold wrap64; omega
    have i2 : wrap64 (65535 - (sz : Int)) = 65535 - (sz : Int) := by unfold wrap64; omega
    have i3 : ¬ ((65535 - (sz : Int)) < (n : Int)) := by omega
    have i4 : Int.tdiv (sz : Int) 4 = (ih : Int) := by rw [Int.tdiv_eq_ediv_of_nonneg (by omega)]; omega
    have i5 : IntKind.i64.wrap (ih : Int) = (ih : Int) := by rw [IntKind.wrap_i64]; omega
    have i6 : IntKind.i64.wrap ((sz : Int) + (n : Int)) = (tot : Int) := by rw [IntKind.wrap_i64]; omega
    have j5 : wrap64 (ih : Int) = (ih : Int) := by unfold wrap64; omega
    have j6 : wrap64 ((sz : Int) + (n : Int)) = (tot : Int) := by unfold wrap64; omega
    have j4 : IntKind.i64.wrap (Int.tdiv (sz : Int) 4) = (ih : Int) := by rw [i4, i5]
    have k4 : wrap64 (Int.tdiv (sz : Int) 4) = (ih : Int) := by rw [i4, j5]
    have hq40 : (q : Int) ≤ 40 := by omega
    have HF : Hid ((bdF p field).cells = [.int .i64 (ih : Nat), .int .i64 (field : Nat), .int .i64 (tot : Nat), .int .i64 p.id, .int .i64 (if p.more then 1 else 0), .int .i64 p.off, .int .i64 p.ttl, .int .i64 p.proto, .int .i64 0] ++ bcells (p.src.take 4) ++ bcells (p.dst.take 4)) := by show _ = _; rw [hih, htot]; rfl
    have hbs : (bcells p.src).length = 16 := by rw [bcells_length, hok.sl]
    have hbd : (bcells p.dst).length = 16 := by rw [bcells_length, hok.dl]
    obtain ⟨s0, s1, s2, s3, hS⟩ : ∃ a b c d, bcells (p.src.take 4) = [a, b, c, d] := by
      obtain ⟨a, b, c, d, e, f, g, i, j, k, l', m', n', o', p', q', h⟩ := sixteen hok.sl
      rw [h]
      exact ⟨_, _, _, _, rfl⟩
    obtain ⟨t0, t1, t2, t3, hT⟩ : ∃ a b c d, bcells (p.dst.take 4) = [a, b, c, d] := by
      obtain ⟨a, b, c, d, e, f, g, i, j, k, l', m', n', o', p', q', h⟩ := sixteen hok.dl
      rw [h]
      exact ⟨_, _, _, _, rfl⟩
    have hPS : ∀ (j : Nat) v, [s0, s1, s2, s3][j]? = some v → p.cells[1 + j]? = some v := fun j v hv => by
      rw [← hS] at hv
      have e : bcells (p.src.take 4) = (bcells p.src).take 4 := by unfold bcells; rw [List.map_take]
      rw [e] at hv
      have hj : j < 4 := by
        have := (List.getElem?_eq_some_iff.1 hv).1
        simp at this
        omega
      rw [List.getElem?_take_of_lt hj] at hv
      unfold PlanV.cells
      rw [Nat.add_comm, List.getElem?_cons_succ, List.getElem?_append_left (by omega)]
      exact hv
    have hPD : ∀ (j : Nat) v, [t0, t1, t2, t3][j]? = some v → p.cells[17 + j]? = some v := fun j v hv => by
      rw [← hT] at hv
      have e : bcells (p.dst.take 4) = (bcells p.dst).take 4 := by unfold bcells; rw [List.map_take]
      rw [e] at hv
      have hj : j < 4 := by
        have := (List.getElem?_eq_some_iff.1 hv).1
        simp at this
        omega
      rw [List.getElem?_take_of_lt hj] at hv
      unfold PlanV.cells
      rw [show 17 + j = (16 + j) + 1 by omega, List.getElem?_cons_succ, List.getElem?_append_right (by omega), hbs, Nat.add_sub_cancel_left, List.getElem?_append_left (by omega)]
      exact hv
    have hat : ∀ (o c : Nat) (w : World), (Instr.arrayAt 44 (.slice (some ⟨g2, o, none⟩) 4 c)).run Try.prog w = .ok (.pointer (some ⟨g2, o, none⟩)) w := fun o c w => run_arrayAt w 44 _ 4 _ 4 c Try.underlying44 (Nat.le_refl _)
    have hCC : Hid (∀ W, Below V.heap.size V W → ArrV 60 W g2 p.cells ∧ W.cell? ⟨g2, 35, none⟩ = some (.int .i64 p.ttl) ∧ W.cell? ⟨g2, 36, none⟩ = some (.int .i64 p.id) ∧ W.cell? ⟨g2, 37, none⟩ = some (.int .i64 p.off) ∧ W.cell? ⟨g2, 38, none⟩ = some (.bool p.more) ∧ W.cell? ⟨g2, 41, none⟩ = some (.int .i64 p.proto) ∧ W.cell? ⟨g2, 42, none⟩ = some (.slice pA p.ps.length pc)) := fun W h => by
      have c : ∀ (k : Nat) v, V.cell? ⟨g2, k, none⟩ = some v → W.cell? ⟨g2, k, none⟩ = some v := fun k v hv => (h.cell (p := ⟨g2, k, none⟩) HA.out.lt).trans hv
      exact ⟨HA.out.below h, c _ _ c35, c _ _ c36, c _ _ c37, c _ _ c38, c _ _ c41, c _ _ c42⟩
    rw [← hnn] at hCC
    rw [← hq] at c39 CP
    rw [← hm] at CP
    rw [← hsz] at CW CS
    obtain ⟨PB, hPB⟩ : ∃ l, l = bdPad p.os := ⟨_, rfl⟩
    obtain ⟨HB1, hHB1⟩ : ∃ l, l = (bdF p field).bytes (bdPad p.os) := ⟨_, rfl⟩
    obtain ⟨OUT, hOUT⟩ : ∃ l, l = bdFour p field := ⟨_, rfl⟩
    rw [← hHB1, ← hPB] at CW
    rw [← hHB1, ← hOUT] at CS
    rw [← hPB] at CP
    rw [← hOUT]
    obtain ⟨FC, hFC⟩ : ∃ l, l = (bdF p field).cells := ⟨_, rfl⟩
    rw [← hFC] at CW HF
    rw [hS, hT] at HF
    have HAT := Lib.hid hat
    have HPS := Lib.hid hPS
    have HPD := Lib.hid hPD
    obtain ⟨X, hX⟩ : ∃ X, X = p.cells := ⟨_, rfl⟩
    rw [← hX] at Xl Xo HA eV hCC HPS HPD ⊢
    have i7 : ∀ b : Bool, ((if b then (1 : Int) else 0) : Int) = if b then 1 else 0 := fun _ => rfl
    cases hmore : p.more
    all_goals
      rw [hmore] at hCC HF c38
      have hlit := HF.out
      simp only [List.cons_append, List.nil_append, Bool.false_eq_true, if_false, if_true] at hlit
      have HLIT := Lib.hid hlit
      clear hlit hPB hHB1 hOUT hFC hX he hob f1 f2 f3 f4 f5 ffit hm hq hnn hsz hih htot HF hbs hbd hS hT hPS hPD hat i7 hM hos hps oR pR hoc hec hpc hok hn hf hA hB hg2 hM0 hO hpl hP HPC c35 c36 c37 c38 c41 c42
      go_enter Try.func93, Try.ntmps93
      go_upto_region 1 with fail
      rw [← eV, ← HG2.out]
      clear eV
      go_wp2_with fail
      refine (CP.out _ HB.out).mono ?_
      rintro e w1 ⟨g, hg, rfl, ho, b1⟩
      obtain ⟨X1, d35, d36, d37, d38, d41, d42⟩ := hCC.out _ b1
      have B1 := Lib.hid (below_both HB.out b1)
      have O1 := Lib.hid ho
      have X1 := Lib.hid X1
      clear ho b1 hg hCC c39 c40 CP
      go_upto_region 12 with fail
      clear d38 i2 i3
      have HJ := Lib.hid (And.intro i1 (And.intro k4 j6))
      clear i1 k4 j4 j6 i4 i5 i6 j5
      have hat := HAT.out
      have hlitF := congrArg List.toArray HLIT.out.symm
      refine wp_region_still_call 27 _ (by kernel_rfl) (by kernel_rfl) rfl ?_
      simp only [List.take_succ_cons, List.take_zero]
      iterate 20 still_step
      refine wpStill_load_part rfl 44 (.tmp 53) rfl _ 1 rfl ty4 X1.out.drew HPS.out rfl ?_
      iterate 3 still_step
      refine wpStill_load_part rfl 44 (.tmp 57) rfl _ 17 rfl ty4 X1.out.drew HPD.out rfl ?_
      repeat still_step
      refine wpStill_nil ?_
      go_wp2_with fail
      rw [HJ.out.1, HJ.out.2.1, HJ.out.2.2, hlitF]
      refine (CW.out _ _ (show Own w1.drew _ _ from O1.out)).mono ?_
      rintro e w3 ⟨A3, c3, rfl, hc3, r3, b3⟩
      have b3 : Below w1.heap.size w1 w3 := (Below.refl w1.heap.size w1).drew.trans b3
      have R3 := Lib.hid r3
      have C3 := Lib.hid hc3
      have B3 := Lib.hid (below_both B1.out b3)
      clear b3 r3 hc3 d35 d36 d37 d41 d42 X1 O1 hlitF hat
      go_wp2_with fail
      simp only [onlyN, List.drop_succ_cons, List.drop_zero]
      repeat still_step
      refine wpStill_nil ?_
      simp only [Exit.then]
      go_wp2_with fail
      refine (CS.out _ _ _ C3.out R3.out).mono ?_
      rintro e w4 ⟨v, rfl, ho, hb⟩
      have HO := Lib.hid ho
      have B4 := Lib.hid (below_both B3.out hb)
      clear ho hb
      go_wp2_with fail
      go_ret2
      exact ⟨_, rfl, HO.out.mono B3.out.size, B4.out⟩
end Go.Proofs.Ytjpaicdbnadoeaa
