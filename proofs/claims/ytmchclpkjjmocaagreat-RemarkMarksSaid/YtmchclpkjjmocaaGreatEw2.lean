/-
  The contract of a walk's step over one extension header.
-/
import Derived.Test.YtmchclpkjjmocaaGreatEw1
import Derived.Test.YtmchclpkjjmocaaGreatRFh2
import Derived.Deep.RegionLaw
import Derived.Deep.CutRange
namespace Go.Proofs.YtmchclpkjjmocaaGreat
open Go.RowKit
set_option linter.unusedVariables false

/-- How far a walk has come. -/
structure Tour where
  proto : Int
  at_ : Nat
  frag : Nat
  off : Nat
  count : Nat
  fr : Bool
  ext : Bool
  hop : Bool
  many : Bool
  twice : Bool
  lng : Bool
def Tour.cells (t : Tour) (pv : Value) : List Value :=
  [.int .i64 t.proto, .int .i64 (t.at_ : Nat), .int .i64 (t.frag : Nat), .int .i64 (t.off : Nat), .int .i64 (t.count : Nat), pv, .bool t.fr,
    .bool false, .bool false, .bool false, .bool false, .bool false, .bool false, .bool false, .bool false, .bool false, .bool false, .bool t.ext, .bool t.hop, .bool t.many, .bool t.twice, .bool t.lng]
def Tour.mid (t : Tour) (k : Nat) (hd : List Nat) (behind : Nat) : Tour :=
  if k = 0 ∧ 0 < t.count then { t with hop := true } else if k = 44 ∧ t.fr = true then { t with twice := true }
  else if k = 44 then { t with fr := true, off := exOff hd, frag := exFrag hd, lng := decide (65535 < 8 * exOff hd + behind) } else t
def Tour.pass (t : Tour) (k : Nat) (hd : List Nat) (behind : Nat) : Tour :=
  { t.mid k hd behind with proto := ((hd.getD 0 0 : Nat) : Int), at_ := t.at_ + hd.length, count := t.count + 1 }
/-- A body that is a part of what came in. -/
def BodyIn (W0 : World) (bv : Value) (l : List Nat) : Prop := ∃ A c, bv = .slice A l.length c ∧ l.length ≤ c ∧ Row W0 A l.length l ∧ ∀ ad, A = some ad → ad.block < W0.heap.size
/-- The headers that were passed, in memory of the call's own, their bodies parts of what came in. -/
def Pass (B : Nat) (W0 w : World) (v : Value) (M : List (Nat × List Nat)) : Prop :=
  ∃ L : List (Nat × Value), L.length = M.length ∧ w.ownsRow B 112 2 v M.length (ecells L) ∧ ∀ (i : Nat) (p : Nat × Value) (m : Nat × List Nat), L[i]? = some p → M[i]? = some m → p.1 = m.1 ∧ BodyIn W0 p.2 m.2
theorem Pass.nil (B : Nat) (W0 w : World) : Pass B W0 w (.slice none 0 0) [] := ⟨[], rfl, World.ownsRow_nil _ _ _ _, fun i p m h => by simp at h⟩
theorem Pass.below {B : Nat} {W0 w w' : World} {v : Value} {M : List (Nat × List Nat)} (h : Pass B W0 w v M) (hb : Below w.heap.size w w') : Pass B W0 w' v M := by
  obtain ⟨L, h1, h2, h3⟩ := h
  exact ⟨L, h1, ownsRow_below h2 hb, h3⟩
theorem Pass.other {B : Nat} {W0 w : World} {v : Value} {M : List (Nat × List Nat)} (h : Pass B W0 w v M) (p : Addr) (u : Value) (hp : p.block < B) : Pass B W0 (w.setCell p u) v M := by
  obtain ⟨L, h1, h2, h3⟩ := h
  refine ⟨L, h1, ⟨h2.1, ?_⟩, h3⟩
  rcases h2.2 with h2 | ⟨g, cap, cur, hv, hg, hh, r⟩
  · exact .inl h2
  · exact .inr ⟨g, cap, cur, hv, hg, (heap_setCell_other w p g u (by omega)).trans hh, r⟩
theorem Pass.slice {B : Nat} {W0 w : World} {v : Value} {M : List (Nat × List Nat)} (h : Pass B W0 w v M) : ∃ A c, v = .slice A M.length c ∧ M.length ≤ c ∧ c ≤ maxLen := by
  obtain ⟨L, _, h2, _⟩ := h
  rcases h2.2 with ⟨rfl, h0⟩ | ⟨g, cap, cur, rfl, _, _, h4, h5, _⟩
  · rw [h0]; exact ⟨none, 0, rfl, Nat.le_refl _, Nat.zero_le _⟩
  · exact ⟨_, cap, rfl, h4, h5⟩
/-- 'append(passed, api.Ext{..})' as a step of a region that draws its order: the new element lies in block g. -/
theorem step_append_pass {ops : Array Oper} {o : Oper} {a : Act} {K : Act → World → Prop} {Q : Exit → Act → World → Prop} {E : Prop} (hgd : o.guard = none) (s x : Operand)
    (ho : o.op = .call { callee := .builtin .append, args := #[s, x], argTypes := #[47, 47] })
    {B g : Nat} {W W0 w1 : World} {v bv : Value} {M : List (Nat × List Nat)} {k : Nat} {l : List Nat} (hs : a.eval s = v) (hx : a.eval x = .slice (some ⟨g, 0, none⟩) 1 1)
    (hg : w1.heap[g]? = some (.cells #[.int .i64 (k : Nat), bv] 112 (0, 0))) (hE : Pass B W0 w1 v M) (hbody : BodyIn W0 bv l) (hb : Below B W w1) (hB : B ≤ w1.heap.size) (hlen : M.length ≤ 1000000)
    (h : ∀ v' w', Pass B W0 w' v' (M ++ [(k, l)]) → Below B W w' → Below B w1 w' → K (a.put o.dst v') w') : if Region.wanted o (yielded ops a.tmps) = true then Oper.wp Tryz.prog o a w1 K Q else E := by
  have hw : Region.wanted o (yielded ops a.tmps) = true := by simp [Region.wanted, hgd]
  rw [if_pos hw]
  obtain ⟨i0, h1, h2, h3, h4⟩ := info_parts ext_info
  obtain ⟨L, l1, l2, l3⟩ := hE
  have hone : bv.oneCell' = true := by obtain ⟨A, c, e, _⟩ := hbody; rw [e]; rfl
  obtain ⟨v', w', hr, ho', hgr, _, hat⟩ := run_append_own_at (P := Tryz.prog) w1 B 47 o.type 112 i0 _ 2 32 Tryz.underlying47 h1 h2 h3 h4 rfl (by decide) v M.length (ecells L) l2
    ⟨g, 0, none⟩ 1 1 [.int .i64 (k : Nat), bv] rfl (fun j u hj => by
      rw [add_flat, cell_of_row _ g (0 + j) _ _ _ hg, Nat.zero_add, ← Array.getElem?_toList]
      exact hj) (ext_one k hone) (by unfold maxLen; omega) (by omega) hB
  have hK := h v' w' ⟨L ++ [(k, bv)], by simp [l1], by rw [ecells_snoc]; simpa using ho', fun i p m hp hm => by
    by_cases hi : i < M.length
    · rw [List.getElem?_append_left (by omega)] at hp
      rw [List.getElem?_append_left hi] at hm
      exact l3 i p m hp hm
    · have hi2 : i = M.length := by
        have h9 : i < (M ++ [(k, l)]).length := by
          rcases Nat.lt_or_ge i (M ++ [(k, l)]).length with h | h
          · exact h
          · rw [List.getElem?_eq_none h] at hm; cases hm
        simp at h9
        omega
      subst hi2
      rw [← l1, List.getElem?_append_right (Nat.le_refl _), Nat.sub_self] at hp
      rw [List.getElem?_append_right (Nat.le_refl _), Nat.sub_self] at hm
      simp at hp hm
      subst hp hm
      exact ⟨rfl, hbody⟩⟩ (hb.grown hgr hB (fun k hk => (World.ownsRow.lt l2 k hk).1)) ((Below.refl _ _).grown hgr hB (fun k hk => (World.ownsRow.lt l2 k hk).1))
  unfold Oper.wp execOp
  simp only [ho, resolve, invoke, builtin, Sem.run_bind, Sem.run_pure, Result.andThen_ok, List.map_toArray, List.map_cons, List.map_nil, hs, hx, hr]
  exact hK
/-- Where a walk stands: its variable is block g. -/
structure TourSt (B g : Nat) (Wb W0 : World) (t : Tour) (M : List (Nat × List Nat)) (w : World) : Prop where
  box : ∃ pv, ArrV 152 w g (t.cells pv) ∧ Pass B Wb w pv M
  below : Below W0.heap.size W0 w
  gB : g < B
  g0 : W0.heap.size ≤ g
  Bw : B ≤ w.heap.size
  wb : Below Wb.heap.size Wb W0
theorem TourSt.keep {B g : Nat} {Wb W0 w w' : World} {t : Tour} {M : List (Nat × List Nat)} (h : TourSt B g Wb W0 t M w) (hb : Below w.heap.size w w') : TourSt B g Wb W0 t M w' := by
  obtain ⟨pv, hA, hP⟩ := h.box
  exact ⟨⟨pv, hA.below hb, hP.below hb⟩, below_both h.below hb, h.gB, h.g0, Nat.le_trans h.Bw hb.size, h.wb⟩
theorem TourSt.store {B g : Nat} {Wb W0 w : World} {t t' : Tour} {M : List (Nat × List Nat)} {pv : Value} (hA : ArrV 152 w g (t.cells pv)) (hP : Pass B Wb w pv M) (h : TourSt B g Wb W0 t M w) (i : Nat) (v : Value) (e : (t.cells pv).set i v = t'.cells pv) :
    ArrV 152 (w.setCell ⟨g, i, none⟩ v) g (t'.cells pv) ∧ Pass B Wb (w.setCell ⟨g, i, none⟩ v) pv M ∧ TourSt B g Wb W0 t' M (w.setCell ⟨g, i, none⟩ v) := by
  have h1 := hA.set i v
  rw [e] at h1
  have h2 := hP.other ⟨g, i, none⟩ v h.gB
  exact ⟨h1, h2, ⟨pv, h1, h2⟩, h.below.setCell (p := ⟨g, i, none⟩) h.g0 v, h.gB, h.g0, by simpa using h.Bw, h.wb⟩
theorem w64_big {x : Int} (h0 : 0 ≤ x) (h1 : x ≤ 140737488355328) : wrap64 x = x := by
  have h := IntWalk.i64_in x ⟨Int.le_trans (by decide) h0, Int.le_trans h1 (by decide)⟩
  rw [IntKind.wrap_i64] at h
  unfold wrap64
  exact h
theorem w64_bigger {x : Int} (h0 : 0 ≤ x) (h1 : x ≤ 150000000000000) : wrap64 x = x := by
  have h := IntWalk.i64_in x ⟨Int.le_trans (by decide) h0, Int.le_trans h1 (by decide)⟩
  rw [IntKind.wrap_i64] at h
  unfold wrap64
  exact h
theorem tour_add {a b : Nat} (h : a + b ≤ 140737488355328) : wrap64 ((a : Int) + (b : Int)) = ((a + b : Nat) : Int) := by
  rw [Int.natCast_add]
  exact w64_big (Int.add_nonneg (Int.natCast_nonneg a) (Int.natCast_nonneg b)) (by rw [← Int.natCast_add]; exact Int.ofNat_le.2 h)
theorem byte_wraps {x : Nat} (h : x < 256) : wrap64 (x : Int) = (x : Int) ∧ IntKind.i64.wrap (x : Int) = (x : Int) := ⟨w64_in (by omega) (by omega), IntWalk.i64_in _ (by omega)⟩
theorem tour_one {a : Nat} (h : a ≤ 1000) : wrap64 ((a : Int) + 1) = ((a + 1 : Nat) : Int) := by unfold wrap64; omega
theorem frag_ints {q behind : Nat} (hq : q < 8192) (hb : behind ≤ 140737488355328) : IntKind.i64.wrap (8 * (q : Int)) = ((8 * q : Nat) : Int) ∧ IntKind.i64.wrap (((8 * q : Nat) : Int) + (behind : Int)) = ((8 * q + behind : Nat) : Int) ∧ wrap64 (8 * (q : Int)) = ((8 * q : Nat) : Int) ∧
    ∃ z, decide (65535 < wrap64 (8 * (q : Int) + (behind : Int))) = z ∧ decide (65535 < 8 * q + behind) = z ∧ decide (65535 < 8 * q + behind) = z := by
  have h1 : ((8 * q : Nat) : Int) = 8 * (q : Int) := by omega
  have h2 : ((8 * q + behind : Nat) : Int) = ((8 * q : Nat) : Int) + (behind : Int) := by omega
  have hb2 : (behind : Int) ≤ 140737488355328 := by omega
  have hb0 : (0 : Int) ≤ (behind : Int) := by omega
  have hq2 : (q : Int) < 8192 := by omega
  have hq0 : (0 : Int) ≤ (q : Int) := by omega
  clear hb
  have hw : wrap64 (8 * (q : Int) + (behind : Int)) = ((8 * q + behind : Nat) : Int) := by rw [h2, h1]; exact w64_bigger (by omega) (by omega)
  rw [hw]
  refine ⟨?_, ?_, ?_, _, rfl, ?_, ?_⟩
  · rw [h1]; exact IntWalk.i64_in _ (by omega)
  · rw [h2, h1]; exact IntWalk.i64_in _ (by omega)
  · rw [h1]; exact w64_in (by omega) (by omega)
  · rw [decide_eq_decide]; omega
  · rw [decide_eq_decide]; omega
theorem pass_done {B g : Nat} {Wb W0 W : World} {t t1 : Tour} {M : List (Nat × List Nat)} {k behind m x : Nat} {hd : List Nat} {pv : Value} (h : TourSt B g Wb W0 t1 M W) (hA : ArrV 152 W g (t1.cells pv)) (hP : Pass B Wb W pv M) (h1 : t.mid k hd behind = t1) (hx : x = hd.getD 0 0) (hm : hd.length = m) :
    TourSt B g Wb W0 (t.pass k hd behind) M (((W.setCell ⟨g, 0, none⟩ (.int .i64 (x : Nat))).setCell ⟨g, 1, none⟩ (.int .i64 ((t.at_ + m : Nat) : Int))).setCell ⟨g, 4, none⟩ (.int .i64 ((t.count + 1 : Nat) : Int))) := by
  have e : (((t1.cells pv).set 0 (.int .i64 (x : Nat))).set 1 (.int .i64 ((t.at_ + m : Nat) : Int))).set 4 (.int .i64 ((t.count + 1 : Nat) : Int)) = (t.pass k hd behind).cells pv := by
    unfold Tour.pass
    rw [h1, hx, ← hm]
    rfl
  have ha := ((hA.set 0 (.int .i64 (x : Nat))).set 1 (.int .i64 ((t.at_ + m : Nat) : Int))).set 4 (.int .i64 ((t.count + 1 : Nat) : Int))
  rw [e] at ha
  exact ⟨⟨pv, ha, ((hP.other _ _ h.gB).other _ _ h.gB).other _ _ h.gB⟩, ((h.below.setCell (p := ⟨g, 0, none⟩) h.g0 _).setCell (p := ⟨g, 1, none⟩) h.g0 _).setCell (p := ⟨g, 4, none⟩) h.g0 _, h.gB, h.g0, by simpa using h.Bw, h.wb⟩
set_option maxRecDepth 10000 in
set_option maxHeartbeats 6400000 in

theorem expass_any (B g : Nat) (Wb W0 : World) (t : Tour) (M : List (Nat × List Nat)) (k m c behind : Nat) (A : Option Addr) (hd : List Nat) (w : World) (hT : TourSt B g Wb W0 t M w) (hk : t.proto = (k : Nat)) (hm : 8 ≤ m) (hmc : m ≤ c) (hR : Row Wb A m hd)
    (hcnt : t.count ≤ 8) (hM : M.length ≤ 1000) (hat : t.at_ + m ≤ 140737488355328) (hbh : behind ≤ 140737488355328) (hc2 : m ≤ 140737488355328) :
    Calls Tryz.prog 110 #[.pointer (some ⟨g, 0, none⟩), .slice A m c, .int .i64 (behind : Nat)] w fun e w' => (∃ r, e = .returned r) ∧ TourSt B g Wb W0 (t.pass k hd behind) (M ++ [(k, hd.drop 2)]) w' := by
  have HN := Lib.hid (And.intro hcnt (And.intro hM (And.intro hat hbh)))
  have e1 : Hid (wrap64 ((t.at_ : Int) + (m : Int)) = ((t.at_ + m : Nat) : Int)) := tour_add hat
  have hm47 := hc2
  have HPC0 := fun h4 => Lib.hid (fun w hR => expiece_any A m c hd w h4 hm47 hmc hR)
  clear hat hbh hc2 hm47
  obtain ⟨b, o, rfl, hbw, hcellw⟩ := hR.addr (by omega)
  have hb : b < W0.heap.size := Nat.lt_of_lt_of_le hbw hT.wb.size
  have hcell : ∀ i, i < m → W0.cell? ⟨b, o + i, none⟩ = some (.int .u8 (hd.getD i 0 : Nat)) := fun i hi => (hT.wb.cell (p := ⟨b, o + i, none⟩) hbw).trans (hcellw i hi)
  have HPC := HPC0 (by omega)
  clear HPC0
  have h0 := hcell 0 (by omega)
  simp only [Nat.add_zero] at h0
  have HBD : Hid (BodyIn Wb (.slice (some ⟨b, o + 2, none⟩) (m - 2) (c - 2)) (hd.drop 2)) := by
    have hl := hR.1
    have hp := hR.part 2 (m - 2) (by omega)
    rw [List.take_of_length_le (by rw [List.length_drop, hl]; exact Nat.le_refl _)] at hp
    have e : (hd.drop 2).length = m - 2 := by rw [List.length_drop, hl]
    exact ⟨_, c - 2, by rw [e], by rw [e]; omega, by rw [e]; exact hp, fun ad ha => by cases ha; exact hbw⟩
  unfold Quiet at HPC
  have HR := Lib.hid (hR.below hT.wb)
  have HTS := Lib.hid hT
  have cI : (2 : Int) ≤ (c : Int) := by omega
  have mI : (2 : Int) ≤ (m : Int) := by omega
  have m0 : (0 : Int) < (m : Int) := by omega
  have ne2 : ¬ c = 2 := by omega
  have hx0 : Hid (hd.length = m) := hR.1
  have e2 : Hid (wrap64 ((t.count : Int) + 1) = ((t.count + 1 : Nat) : Int)) := tour_one (by omega)
  have hx : hd.getD 0 0 < 256 := hR.byte 0
  have hM2 : Hid (M.length ≤ 1000000) := by show M.length ≤ _; omega
  obtain ⟨x, hxx⟩ : ∃ x, x = hd.getD 0 0 := ⟨_, rfl⟩
  rw [← hxx] at h0 hx
  obtain ⟨wx, wx2⟩ := byte_wraps hx
  have HB0 := Lib.hid (And.intro hb h0)
  have HX := Lib.hid hxx
  clear hxx hx hb h0 hcell hbw hcellw hR hcnt hM hmc hm hT
  obtain ⟨pv, hA, hP⟩ := HTS.out.box
  have hA0 := hA
  have HP := Lib.hid hP
  by_cases hh : k = 0 ∧ 0 < t.count
  · have EM : t.mid k hd behind = { t with hop := true } := by unfold Tour.mid; rw [if_pos hh]
    obtain ⟨U, eU⟩ : ∃ U, U = w.setCell ⟨g, 18, none⟩ (.bool true) := ⟨_, rfl⟩
    obtain ⟨t1, et⟩ : ∃ t1, t1 = { t with hop := true } := ⟨_, rfl⟩
    have ET : Hid (t1.proto = (k : Nat) ∧ t1.at_ = t.at_ ∧ t1.count = t.count ∧ t.mid k hd behind = t1) := ⟨by rw [et]; exact hk, by rw [et], by rw [et], by rw [et]; exact EM⟩
    have T1 : Hid (TourSt B g Wb W0 t1 M U) := by show TourSt _ _ _ _ _ _ _; rw [et, eU]; exact (TourSt.store hA0 hP HTS.out 18 (.bool true) rfl).2.2
    have AU : Hid (ArrV 152 U g (t1.cells pv)) := by show ArrV _ _ _ _; rw [et, eU]; exact (TourSt.store hA0 hP HTS.out 18 (.bool true) rfl).1
    have PU : Hid (Pass B Wb U pv M) := by show Pass _ _ _ _ _; rw [eU]; exact (TourSt.store (t' := { t with hop := true }) hA0 hP HTS.out 18 (.bool true) rfl).2.1
    have HU := Lib.hid eU
    have c0 := hA0.get 0
    have c4 := hA0.get 4
    have c6 := hA0.get 6
    simp only [Tour.cells, List.getElem?_cons_zero, List.getElem?_cons_succ, hk] at c0 c4 c6
    have f18 := hA0.frozen 18
    have c18 := hA0.get 18
    simp only [Tour.cells, List.getElem?_cons_zero, List.getElem?_cons_succ] at c18
    have k00 : ((k : Int) == 0) = true := by rw [hh.1]; rfl
    have n0 : 0 < t.count := hh.2
    have n0I : (0 : Int) < (t.count : Int) := by omega
    clear EM eU et hP hA hA0 hh hk
    go_enter Tryz.func110, Tryz.ntmps110
    go_upto_region 8 with fail
    rw [← HU.out]
    go_cut [] from 78 to 94 (fun wx => TourSt B g Wb W0 t1 (M ++ [(k, hd.drop 2)]) wx)
    case first =>
      have c0 := AU.out.get 0
      have c5 := AU.out.get 5
      have f5 := AU.out.frozen 5
      simp only [Tour.cells, List.getElem?_cons_zero, List.getElem?_cons_succ, ET.out.1] at c0 c5
      have BU := Lib.hid T1.out.Bw
      have c0a : ∀ ob, (U.alloc ob).cell? ⟨g, 0, none⟩ = some (.int .i64 (k : Nat)) := fun ob => (World.cell?_alloc_lt U ob ⟨g, 0, none⟩ AU.out.lt).trans c0
      have c5a : ∀ ob, (U.alloc ob).cell? ⟨g, 5, none⟩ = some pv := fun ob => (World.cell?_alloc_lt U ob ⟨g, 5, none⟩ AU.out.lt).trans c5
      go_region_law (first
        | (refine step_append_pass (B := B) (W := U) (W0 := Wb) (k := k) (l := hd.drop 2) (by rfl) (.tmp 82) (.tmp 91) (by rfl) (by rfl) (by rfl) (by exact heap_alloc_new _ _) (by exact PU.out.below (((Below.refl _ _).drew).alloc (Nat.le_refl _) _)) HBD.out (by exact ((Below.refl _ _).drew).alloc BU.out _) (by simp; exact Nat.le_succ_of_le BU.out) hM2.out ?_
           intro v' w' ho' hb' hb1'
           obtain ⟨A9, c9, rfl, _, _⟩ := ho'.slice
           have A' := AU.out.belowB hb' HTS.out.gB
           have c5 := A'.get 5
           have f5 := A'.frozen 5
           simp only [Tour.cells, List.getElem?_cons_zero, List.getElem?_cons_succ] at c5
           have O9 := Lib.hid ho'
           have B9 := Lib.hid hb'
           have A9' := Lib.hid A'
           clear ho' hb' hb1' A')
        | fail)
      all_goals
        go_wp2_with fail
        go_meet
        case rel =>
          have hB0 := Nat.le_trans HTS.out.g0 (Nat.le_of_lt HTS.out.gB)
          have hp9 := O9.out.other ⟨g, 5, none⟩ (.slice A9 (M.length + 1) c9) HTS.out.gB
          rw [show (M ++ [(k, hd.drop 2)]).length = M.length + 1 by simp] at hp9
          exact ⟨⟨_, A9'.out.set 5 _, hp9⟩, (T1.out.below.trans (B9.out.mono hB0)).setCell (p := ⟨g, 5, none⟩) HTS.out.g0 _, HTS.out.gB, HTS.out.g0, by simp; exact Nat.le_trans BU.out B9.out.size, HTS.out.wb⟩
    case rest =>
      obtain ⟨pv2, a2, p2⟩ := hcut.box
      have T2 := Lib.hid hcut
      have A2 := Lib.hid a2
      have P2 := Lib.hid p2
      have h0 := (hcut.below.cell (p := ⟨b, o, none⟩) HB0.out.1).trans HB0.out.2
      have f0 := a2.frozen 0
      have f1 := a2.frozen 1
      have f4 := a2.frozen 4
      have c0 := a2.get 0
      have c1 := a2.get 1
      have c4 := a2.get 4
      simp only [Tour.cells, List.getElem?_cons_zero, List.getElem?_cons_succ, ET.out.1, ET.out.2.1, ET.out.2.2.1] at c0 c1 c4
      have e1 := e1.out
      have e2 := e2.out
      have hbg : ¬ b = g := by have h1 := HB0.out.1; have h2 := HTS.out.g0; omega
      clear hcut a2 p2
      go_wp2_with fail
      go_end0
      exact ⟨⟨_, rfl⟩, pass_done T2.out A2.out P2.out ET.out.2.2.2 HX.out hx0.out⟩
  by_cases hw : k = 44 ∧ t.fr = true
  · have EM : t.mid k hd behind = { t with twice := true } := by unfold Tour.mid; rw [if_neg hh, if_pos hw]
    obtain ⟨U, eU⟩ : ∃ U, U = w.setCell ⟨g, 20, none⟩ (.bool true) := ⟨_, rfl⟩
    obtain ⟨t1, et⟩ : ∃ t1, t1 = { t with twice := true } := ⟨_, rfl⟩
    have ET : Hid (t1.proto = (k : Nat) ∧ t1.at_ = t.at_ ∧ t1.count = t.count ∧ t.mid k hd behind = t1) := ⟨by rw [et]; exact hk, by rw [et], by rw [et], by rw [et]; exact EM⟩
    have T1 : Hid (TourSt B g Wb W0 t1 M U) := by show TourSt _ _ _ _ _ _ _; rw [et, eU]; exact (TourSt.store hA0 hP HTS.out 20 (.bool true) rfl).2.2
    have AU : Hid (ArrV 152 U g (t1.cells pv)) := by show ArrV _ _ _ _; rw [et, eU]; exact (TourSt.store hA0 hP HTS.out 20 (.bool true) rfl).1
    have PU : Hid (Pass B Wb U pv M) := by show Pass _ _ _ _ _; rw [eU]; exact (TourSt.store (t' := { t with twice := true }) hA0 hP HTS.out 20 (.bool true) rfl).2.1
    have HU := Lib.hid eU
    have c0 := hA0.get 0
    have c4 := hA0.get 4
    have c6 := hA0.get 6
    simp only [Tour.cells, List.getElem?_cons_zero, List.getElem?_cons_succ, hk] at c0 c4 c6
    have f20 := hA0.frozen 20
    have c20 := hA0.get 20
    simp only [Tour.cells, List.getElem?_cons_zero, List.getElem?_cons_succ] at c20
    rw [hw.2] at c6
    have k00 : ((k : Int) == 0) = false := beq_false_of_ne (by omega)
    have k44 : ((k : Int) == 44) = true := by rw [hw.1]; rfl
    clear EM eU et hP hA hA0 hh hw hk
    go_enter Tryz.func110, Tryz.ntmps110
    go_upto_region 8 with fail
    rw [← HU.out]
    go_cut [] from 78 to 94 (fun wx => TourSt B g Wb W0 t1 (M ++ [(k, hd.drop 2)]) wx)
    case first =>
      have c0 := AU.out.get 0
      have c5 := AU.out.get 5
      have f5 := AU.out.frozen 5
      simp only [Tour.cells, List.getElem?_cons_zero, List.getElem?_cons_succ, ET.out.1] at c0 c5
      have BU := Lib.hid T1.out.Bw
      have c0a : ∀ ob, (U.alloc ob).cell? ⟨g, 0, none⟩ = some (.int .i64 (k : Nat)) := fun ob => (World.cell?_alloc_lt U ob ⟨g, 0, none⟩ AU.out.lt).trans c0
      have c5a : ∀ ob, (U.alloc ob).cell? ⟨g, 5, none⟩ = some pv := fun ob => (World.cell?_alloc_lt U ob ⟨g, 5, none⟩ AU.out.lt).trans c5
      go_region_law (first
        | (refine step_append_pass (B := B) (W := U) (W0 := Wb) (k := k) (l := hd.drop 2) (by rfl) (.tmp 82) (.tmp 91) (by rfl) (by rfl) (by rfl) (by exact heap_alloc_new _ _) (by exact PU.out.below (((Below.refl _ _).drew).alloc (Nat.le_refl _) _)) HBD.out (by exact ((Below.refl _ _).drew).alloc BU.out _) (by simp; exact Nat.le_succ_of_le BU.out) hM2.out ?_
           intro v' w' ho' hb' hb1'
           obtain ⟨A9, c9, rfl, _, _⟩ := ho'.slice
           have A' := AU.out.belowB hb' HTS.out.gB
           have c5 := A'.get 5
           have f5 := A'.frozen 5
           simp only [Tour.cells, List.getElem?_cons_zero, List.getElem?_cons_succ] at c5
           have O9 := Lib.hid ho'
           have B9 := Lib.hid hb'
           have A9' := Lib.hid A'
           clear ho' hb' hb1' A')
        | fail)
      all_goals
        go_wp2_with fail
        go_meet
        case rel =>
          have hB0 := Nat.le_trans HTS.out.g0 (Nat.le_of_lt HTS.out.gB)
          have hp9 := O9.out.other ⟨g, 5, none⟩ (.slice A9 (M.length + 1) c9) HTS.out.gB
          rw [show (M ++ [(k, hd.drop 2)]).length = M.length + 1 by simp] at hp9
          exact ⟨⟨_, A9'.out.set 5 _, hp9⟩, (T1.out.below.trans (B9.out.mono hB0)).setCell (p := ⟨g, 5, none⟩) HTS.out.g0 _, HTS.out.gB, HTS.out.g0, by simp; exact Nat.le_trans BU.out B9.out.size, HTS.out.wb⟩
    case rest =>
      obtain ⟨pv2, a2, p2⟩ := hcut.box
      have T2 := Lib.hid hcut
      have A2 := Lib.hid a2
      have P2 := Lib.hid p2
      have h0 := (hcut.below.cell (p := ⟨b, o, none⟩) HB0.out.1).trans HB0.out.2
      have f0 := a2.frozen 0
      have f1 := a2.frozen 1
      have f4 := a2.frozen 4
      have c0 := a2.get 0
      have c1 := a2.get 1
      have c4 := a2.get 4
      simp only [Tour.cells, List.getElem?_cons_zero, List.getElem?_cons_succ, ET.out.1, ET.out.2.1, ET.out.2.2.1] at c0 c1 c4
      have e1 := e1.out
      have e2 := e2.out
      have hbg : ¬ b = g := by have h1 := HB0.out.1; have h2 := HTS.out.g0; omega
      clear hcut a2 p2
      go_wp2_with fail
      go_end0
      exact ⟨⟨_, rfl⟩, pass_done T2.out A2.out P2.out ET.out.2.2.2 HX.out hx0.out⟩
  by_cases hq : k = 44
  · have hfr : t.fr = false := by
      cases hf : t.fr with
      | false => rfl
      | true => exact absurd ⟨hq, hf⟩ hw
    have EM : t.mid k hd behind = { t with fr := true, off := exOff hd, frag := exFrag hd, lng := decide (65535 < 8 * exOff hd + behind) } := by unfold Tour.mid; rw [if_neg hh, if_neg hw, if_pos hq]
    obtain ⟨aA, aP, aT⟩ := TourSt.store (t' := { t with fr := true }) hA0 hP HTS.out 6 (.bool true) rfl
    have f6 := hA0.frozen 6
    have c0 := hA0.get 0
    have c4 := hA0.get 4
    have c6 := hA0.get 6
    simp only [Tour.cells, List.getElem?_cons_zero, List.getElem?_cons_succ, hk] at c0 c4 c6
    rw [hfr] at c6
    have k00 : ((k : Int) == 0) = false := beq_false_of_ne (by omega)
    have k44 : ((k : Int) == 44) = true := by rw [hq]; rfl
    obtain ⟨U1, eU1⟩ : ∃ U, U = w.setCell ⟨g, 6, none⟩ (.bool true) := ⟨_, rfl⟩
    rw [← eU1] at aA aP aT
    have HU1 := Lib.hid eU1
    have AA := Lib.hid aA
    have AP := Lib.hid aP
    have AT := Lib.hid aT
    have HEM := Lib.hid EM
    have HK := Lib.hid hk
    have hoff : exOff hd < 8192 := by have h := fhw_lt HR.out.byte 2; unfold exOff; omega
    obtain ⟨q, hqq⟩ : ∃ q, q = exOff hd := ⟨_, rfl⟩
    obtain ⟨y, hyy⟩ : ∃ y, y = exFrag hd := ⟨_, rfl⟩
    rw [← hqq] at hoff HPC HEM
    rw [← hyy] at HPC HEM
    obtain ⟨i8, i9, i10, z, hz1, hz2, hz3⟩ := frag_ints hoff HN.out.2.2.2
    clear aA aP aT eU1 EM hP hA hA0 hh hw hk hfr hq hqq hyy hoff
    go_enter Tryz.func110, Tryz.ntmps110
    go_upto_region 6 with fail
    rw [← HU1.out]
    clear c0 c4 c6 f6
    go_wp2_with fail
    refine (HPC.out _ (HR.out.below AT.out.below)).mono ?_
    rintro e w' ⟨rfl, n1, rfl⟩
    have AT := Lib.hid (AT.out.keep (below_drewN' (Below.refl _ _) n1))
    have AA : Hid (ArrV 152 (U1.drewN n1) g (Tour.cells { t with fr := true } pv)) := AA.out
    have AP := Lib.hid (AP.out.below (below_drewN' (Below.refl _ _) n1))
    obtain ⟨U2, eU2⟩ : ∃ U, U = U1.drewN n1 := ⟨_, rfl⟩
    rw [← eU2] at AT AA AP ⊢
    clear eU2
    have f2 := AA.out.frozen 2
    have f3 := AA.out.frozen 3
    have c2 := AA.out.get 2
    have c3 := AA.out.get 3
    simp only [Tour.cells, List.getElem?_cons_zero, List.getElem?_cons_succ] at c2 c3
    obtain ⟨aA, aP, aT⟩ := TourSt.store (t' := { t with fr := true, off := q }) AA.out AP.out AT.out 3 (.int .i64 (q : Nat)) rfl
    obtain ⟨bA, bP, bT⟩ := TourSt.store (t' := { t with fr := true, off := q, frag := y }) aA aP aT 2 (.int .i64 (y : Nat)) rfl
    obtain ⟨U3, eU3⟩ : ∃ U, U = (U2.setCell ⟨g, 3, none⟩ (.int .i64 (q : Nat))).setCell ⟨g, 2, none⟩ (.int .i64 (y : Nat)) := ⟨_, rfl⟩
    rw [← eU3] at bA bP bT
    have HU3 := Lib.hid eU3
    have BA := Lib.hid bA
    have BP := Lib.hid bP
    have BT := Lib.hid bT
    clear aA aP aT bA bP bT eU3
    go_upto_region 7 with fail
    rw [← HU3.out]
    clear f2 f3 c2 c3 AA AP AT
    have c3 := BA.out.get 3
    have c21 := BA.out.get 21
    have f21 := BA.out.frozen 21
    simp only [Tour.cells, List.getElem?_cons_zero, List.getElem?_cons_succ] at c3 c21
    refine wp_region_still_tail 13 (by kernel_rfl) (by kernel_rfl) ?_
    simp only [List.take_succ_cons, List.take_zero, List.drop_succ_cons, List.drop_zero]
    repeat still_step
    refine wpStill_nil ?_
    change wpList _ _ _ _ _ U3.drew
    have DA : ArrV 152 U3.drew g (Tour.cells { t with fr := true, off := q, frag := y } pv) := BA.out
    have DP : Pass B Wb U3.drew pv M := BP.out.below (Below.refl _ _).drew
    have DT : TourSt B g Wb W0 { t with fr := true, off := q, frag := y } M U3.drew := BT.out.keep (Below.refl _ _).drew
    obtain ⟨U4, eU4⟩ : ∃ U, U = U3.drew := ⟨_, rfl⟩
    have c21 : U3.drew.cell? ⟨g, 21, none⟩ = some (.bool t.lng) := c21
    have f21 : U3.drew.frozen? ⟨g, 21, none⟩ = false := f21
    rw [← eU4] at DA DP DT c21 f21 ⊢
    obtain ⟨eA, eP, eT⟩ := TourSt.store (t' := { t with fr := true, off := q, frag := y, lng := z }) DA DP DT 21 (.bool z) rfl
    obtain ⟨U, eU⟩ : ∃ U, U = U4.setCell ⟨g, 21, none⟩ (.bool z) := ⟨_, rfl⟩
    rw [← eU] at eA eP eT
    obtain ⟨t1, et⟩ : ∃ t1 : Tour, t1 = { t with fr := true, off := q, frag := y, lng := z } := ⟨_, rfl⟩
    rw [hz3] at HEM
    rw [← et] at eA eT HEM
    have ET : Hid (t1.proto = (k : Nat) ∧ t1.at_ = t.at_ ∧ t1.count = t.count ∧ t.mid k hd behind = t1) := ⟨by rw [et]; exact HK.out, by rw [et], by rw [et], HEM.out⟩
    have T1 := Lib.hid eT
    have AU := Lib.hid eA
    have PU := Lib.hid eP
    have HU := Lib.hid eU
    clear c3 eA eP eT eU et eU4 DA DP DT BA BP BT i8 i9 i10
    go_upto_region 8 with fail
    rw [hz1, ← HU.out]
    go_cut [] from 78 to 94 (fun wx => TourSt B g Wb W0 t1 (M ++ [(k, hd.drop 2)]) wx)
    case first =>
      have c0 := AU.out.get 0
      have c5 := AU.out.get 5
      have f5 := AU.out.frozen 5
      simp only [Tour.cells, List.getElem?_cons_zero, List.getElem?_cons_succ, ET.out.1] at c0 c5
      have BU := Lib.hid T1.out.Bw
      have c0a : ∀ ob, (U.alloc ob).cell? ⟨g, 0, none⟩ = some (.int .i64 (k : Nat)) := fun ob => (World.cell?_alloc_lt U ob ⟨g, 0, none⟩ AU.out.lt).trans c0
      have c5a : ∀ ob, (U.alloc ob).cell? ⟨g, 5, none⟩ = some pv := fun ob => (World.cell?_alloc_lt U ob ⟨g, 5, none⟩ AU.out.lt).trans c5
      go_region_law (first
        | (refine step_append_pass (B := B) (W := U) (W0 := Wb) (k := k) (l := hd.drop 2) (by rfl) (.tmp 82) (.tmp 91) (by rfl) (by rfl) (by rfl) (by exact heap_alloc_new _ _) (by exact PU.out.below (((Below.refl _ _).drew).alloc (Nat.le_refl _) _)) HBD.out (by exact ((Below.refl _ _).drew).alloc BU.out _) (by simp; exact Nat.le_succ_of_le BU.out) hM2.out ?_
           intro v' w' ho' hb' hb1'
           obtain ⟨A9, c9, rfl, _, _⟩ := ho'.slice
           have A' := AU.out.belowB hb' HTS.out.gB
           have c5 := A'.get 5
           have f5 := A'.frozen 5
           simp only [Tour.cells, List.getElem?_cons_zero, List.getElem?_cons_succ] at c5
           have O9 := Lib.hid ho'
           have B9 := Lib.hid hb'
           have A9' := Lib.hid A'
           clear ho' hb' hb1' A')
        | fail)
      all_goals
        go_wp2_with fail
        go_meet
        case rel =>
          have hB0 := Nat.le_trans HTS.out.g0 (Nat.le_of_lt HTS.out.gB)
          have hp9 := O9.out.other ⟨g, 5, none⟩ (.slice A9 (M.length + 1) c9) HTS.out.gB
          rw [show (M ++ [(k, hd.drop 2)]).length = M.length + 1 by simp] at hp9
          exact ⟨⟨_, A9'.out.set 5 _, hp9⟩, (T1.out.below.trans (B9.out.mono hB0)).setCell (p := ⟨g, 5, none⟩) HTS.out.g0 _, HTS.out.gB, HTS.out.g0, by simp; exact Nat.le_trans BU.out B9.out.size, HTS.out.wb⟩
    case rest =>
      obtain ⟨pv2, a2, p2⟩ := hcut.box
      have T2 := Lib.hid hcut
      have A2 := Lib.hid a2
      have P2 := Lib.hid p2
      have h0 := (hcut.below.cell (p := ⟨b, o, none⟩) HB0.out.1).trans HB0.out.2
      have f0 := a2.frozen 0
      have f1 := a2.frozen 1
      have f4 := a2.frozen 4
      have c0 := a2.get 0
      have c1 := a2.get 1
      have c4 := a2.get 4
      simp only [Tour.cells, List.getElem?_cons_zero, List.getElem?_cons_succ, ET.out.1, ET.out.2.1, ET.out.2.2.1] at c0 c1 c4
      have e1 := e1.out
      have e2 := e2.out
      have hbg : ¬ b = g := by have h1 := HB0.out.1; have h2 := HTS.out.g0; omega
      clear hcut a2 p2
      go_wp2_with fail
      go_end0
      exact ⟨⟨_, rfl⟩, pass_done T2.out A2.out P2.out ET.out.2.2.2 HX.out hx0.out⟩
  by_cases hk0 : k = 0
  · have EM : t.mid k hd behind = t := by unfold Tour.mid; rw [if_neg hh, if_neg hw, if_neg hq]
    obtain ⟨U, eU⟩ : ∃ U, U = w := ⟨_, rfl⟩
    obtain ⟨t1, et⟩ : ∃ t1, t1 = t := ⟨_, rfl⟩
    have ET : Hid (t1.proto = (k : Nat) ∧ t1.at_ = t.at_ ∧ t1.count = t.count ∧ t.mid k hd behind = t1) := ⟨by rw [et]; exact hk, by rw [et], by rw [et], by rw [et]; exact EM⟩
    have T1 : Hid (TourSt B g Wb W0 t1 M U) := by show TourSt _ _ _ _ _ _ _; rw [et, eU]; exact HTS.out
    have AU : Hid (ArrV 152 U g (t1.cells pv)) := by show ArrV _ _ _ _; rw [et, eU]; exact hA0
    have PU : Hid (Pass B Wb U pv M) := by show Pass _ _ _ _ _; rw [eU]; exact hP
    have HU := Lib.hid eU
    have c0 := hA0.get 0
    have c4 := hA0.get 4
    have c6 := hA0.get 6
    simp only [Tour.cells, List.getElem?_cons_zero, List.getElem?_cons_succ, hk] at c0 c4 c6
    have n0 : t.count = 0 := by omega
    rw [n0] at c4
    have k44 : ((k : Int) == 44) = false := beq_false_of_ne (by omega)
    have k00 : ((k : Int) == 0) = true := by rw [hk0]; rfl
    clear EM eU et hP hA hA0 hh hw hq hk n0 hk0
    go_enter Tryz.func110, Tryz.ntmps110
    go_upto_region 8 with fail
    rw [← HU.out]
    go_cut [] from 78 to 94 (fun wx => TourSt B g Wb W0 t1 (M ++ [(k, hd.drop 2)]) wx)
    case first =>
      have c0 := AU.out.get 0
      have c5 := AU.out.get 5
      have f5 := AU.out.frozen 5
      simp only [Tour.cells, List.getElem?_cons_zero, List.getElem?_cons_succ, ET.out.1] at c0 c5
      have BU := Lib.hid T1.out.Bw
      have c0a : ∀ ob, (U.alloc ob).cell? ⟨g, 0, none⟩ = some (.int .i64 (k : Nat)) := fun ob => (World.cell?_alloc_lt U ob ⟨g, 0, none⟩ AU.out.lt).trans c0
      have c5a : ∀ ob, (U.alloc ob).cell? ⟨g, 5, none⟩ = some pv := fun ob => (World.cell?_alloc_lt U ob ⟨g, 5, none⟩ AU.out.lt).trans c5
      go_region_law (first
        | (refine step_append_pass (B := B) (W := U) (W0 := Wb) (k := k) (l := hd.drop 2) (by rfl) (.tmp 82) (.tmp 91) (by rfl) (by rfl) (by rfl) (by exact heap_alloc_new _ _) (by exact PU.out.below (((Below.refl _ _).drew).alloc (Nat.le_refl _) _)) HBD.out (by exact ((Below.refl _ _).drew).alloc BU.out _) (by simp; exact Nat.le_succ_of_le BU.out) hM2.out ?_
           intro v' w' ho' hb' hb1'
           obtain ⟨A9, c9, rfl, _, _⟩ := ho'.slice
           have A' := AU.out.belowB hb' HTS.out.gB
           have c5 := A'.get 5
           have f5 := A'.frozen 5
           simp only [Tour.cells, List.getElem?_cons_zero, List.getElem?_cons_succ] at c5
           have O9 := Lib.hid ho'
           have B9 := Lib.hid hb'
           have A9' := Lib.hid A'
           clear ho' hb' hb1' A')
        | fail)
      all_goals
        go_wp2_with fail
        go_meet
        case rel =>
          have hB0 := Nat.le_trans HTS.out.g0 (Nat.le_of_lt HTS.out.gB)
          have hp9 := O9.out.other ⟨g, 5, none⟩ (.slice A9 (M.length + 1) c9) HTS.out.gB
          rw [show (M ++ [(k, hd.drop 2)]).length = M.length + 1 by simp] at hp9
          exact ⟨⟨_, A9'.out.set 5 _, hp9⟩, (T1.out.below.trans (B9.out.mono hB0)).setCell (p := ⟨g, 5, none⟩) HTS.out.g0 _, HTS.out.gB, HTS.out.g0, by simp; exact Nat.le_trans BU.out B9.out.size, HTS.out.wb⟩
    case rest =>
      obtain ⟨pv2, a2, p2⟩ := hcut.box
      have T2 := Lib.hid hcut
      have A2 := Lib.hid a2
      have P2 := Lib.hid p2
      have h0 := (hcut.below.cell (p := ⟨b, o, none⟩) HB0.out.1).trans HB0.out.2
      have f0 := a2.frozen 0
      have f1 := a2.frozen 1
      have f4 := a2.frozen 4
      have c0 := a2.get 0
      have c1 := a2.get 1
      have c4 := a2.get 4
      simp only [Tour.cells, List.getElem?_cons_zero, List.getElem?_cons_succ, ET.out.1, ET.out.2.1, ET.out.2.2.1] at c0 c1 c4
      have e1 := e1.out
      have e2 := e2.out
      have hbg : ¬ b = g := by have h1 := HB0.out.1; have h2 := HTS.out.g0; omega
      clear hcut a2 p2
      go_wp2_with fail
      go_end0
      exact ⟨⟨_, rfl⟩, pass_done T2.out A2.out P2.out ET.out.2.2.2 HX.out hx0.out⟩
  · have EM : t.mid k hd behind = t := by unfold Tour.mid; rw [if_neg hh, if_neg hw, if_neg hq]
    obtain ⟨U, eU⟩ : ∃ U, U = w := ⟨_, rfl⟩
    obtain ⟨t1, et⟩ : ∃ t1, t1 = t := ⟨_, rfl⟩
    have ET : Hid (t1.proto = (k : Nat) ∧ t1.at_ = t.at_ ∧ t1.count = t.count ∧ t.mid k hd behind = t1) := ⟨by rw [et]; exact hk, by rw [et], by rw [et], by rw [et]; exact EM⟩
    have T1 : Hid (TourSt B g Wb W0 t1 M U) := by show TourSt _ _ _ _ _ _ _; rw [et, eU]; exact HTS.out
    have AU : Hid (ArrV 152 U g (t1.cells pv)) := by show ArrV _ _ _ _; rw [et, eU]; exact hA0
    have PU : Hid (Pass B Wb U pv M) := by show Pass _ _ _ _ _; rw [eU]; exact hP
    have HU := Lib.hid eU
    have c0 := hA0.get 0
    have c4 := hA0.get 4
    have c6 := hA0.get 6
    simp only [Tour.cells, List.getElem?_cons_zero, List.getElem?_cons_succ, hk] at c0 c4 c6
    have k44 : ((k : Int) == 44) = false := beq_false_of_ne (by omega)
    have k00 : ((k : Int) == 0) = false := beq_false_of_ne (by omega)
    clear EM eU et hP hA hA0 hh hw hq hk hk0
    go_enter Tryz.func110, Tryz.ntmps110
    go_upto_region 8 with fail
    rw [← HU.out]
    go_cut [] from 78 to 94 (fun wx => TourSt B g Wb W0 t1 (M ++ [(k, hd.drop 2)]) wx)
    case first =>
      have c0 := AU.out.get 0
      have c5 := AU.out.get 5
      have f5 := AU.out.frozen 5
      simp only [Tour.cells, List.getElem?_cons_zero, List.getElem?_cons_succ, ET.out.1] at c0 c5
      have BU := Lib.hid T1.out.Bw
      have c0a : ∀ ob, (U.alloc ob).cell? ⟨g, 0, none⟩ = some (.int .i64 (k : Nat)) := fun ob => (World.cell?_alloc_lt U ob ⟨g, 0, none⟩ AU.out.lt).trans c0
      have c5a : ∀ ob, (U.alloc ob).cell? ⟨g, 5, none⟩ = some pv := fun ob => (World.cell?_alloc_lt U ob ⟨g, 5, none⟩ AU.out.lt).trans c5
      go_region_law (first
        | (refine step_append_pass (B := B) (W := U) (W0 := Wb) (k := k) (l := hd.drop 2) (by rfl) (.tmp 82) (.tmp 91) (by rfl) (by rfl) (by rfl) (by exact heap_alloc_new _ _) (by exact PU.out.below (((Below.refl _ _).drew).alloc (Nat.le_refl _) _)) HBD.out (by exact ((Below.refl _ _).drew).alloc BU.out _) (by simp; exact Nat.le_succ_of_le BU.out) hM2.out ?_
           intro v' w' ho' hb' hb1'
           obtain ⟨A9, c9, rfl, _, _⟩ := ho'.slice
           have A' := AU.out.belowB hb' HTS.out.gB
           have c5 := A'.get 5
           have f5 := A'.frozen 5
           simp only [Tour.cells, List.getElem?_cons_zero, List.getElem?_cons_succ] at c5
           have O9 := Lib.hid ho'
           have B9 := Lib.hid hb'
           have A9' := Lib.hid A'
           clear ho' hb' hb1' A')
        | fail)
      all_goals
        go_wp2_with fail
        go_meet
        case rel =>
          have hB0 := Nat.le_trans HTS.out.g0 (Nat.le_of_lt HTS.out.gB)
          have hp9 := O9.out.other ⟨g, 5, none⟩ (.slice A9 (M.length + 1) c9) HTS.out.gB
          rw [show (M ++ [(k, hd.drop 2)]).length = M.length + 1 by simp] at hp9
          exact ⟨⟨_, A9'.out.set 5 _, hp9⟩, (T1.out.below.trans (B9.out.mono hB0)).setCell (p := ⟨g, 5, none⟩) HTS.out.g0 _, HTS.out.gB, HTS.out.g0, by simp; exact Nat.le_trans BU.out B9.out.size, HTS.out.wb⟩
    case rest =>
      obtain ⟨pv2, a2, p2⟩ := hcut.box
      have T2 := Lib.hid hcut
      have A2 := Lib.hid a2
      have P2 := Lib.hid p2
      have h0 := (hcut.below.cell (p := ⟨b, o, none⟩) HB0.out.1).trans HB0.out.2
      have f0 := a2.frozen 0
      have f1 := a2.frozen 1
      have f4 := a2.frozen 4
      have c0 := a2.get 0
      have c1 := a2.get 1
      have c4 := a2.get 4
      simp only [Tour.cells, List.getElem?_cons_zero, List.getElem?_cons_succ, ET.out.1, ET.out.2.1, ET.out.2.2.1] at c0 c1 c4
      have e1 := e1.out
      have e2 := e2.out
      have hbg : ¬ b = g := by have h1 := HB0.out.1; have h2 := HTS.out.g0; omega
      clear hcut a2 p2
      go_wp2_with fail
      go_end0
      exact ⟨⟨_, rfl⟩, pass_done T2.out A2.out P2.out ET.out.2.2.2 HX.out hx0.out⟩
end Go.Proofs.YtmchclpkjjmocaaGreat
