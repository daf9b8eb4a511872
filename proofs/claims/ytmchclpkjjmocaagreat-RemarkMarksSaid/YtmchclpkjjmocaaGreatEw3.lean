/-
  The contract of extwalk's walk.
-/
import Derived.Test.YtmchclpkjjmocaaGreatEw2
import Derived.Deep.LoopGhost
import Derived.StillTailTactics
namespace Go.Proofs.YtmchclpkjjmocaaGreat
open Go.RowKit
set_option linter.unusedVariables false

def Tour.start (k : Int) : Tour := ⟨k, 0, 0, 0, 0, false, false, false, false, false, false⟩
def tourZ : List Value := Tour.cells ⟨0, 0, 0, 0, 0, false, false, false, false, false, false⟩ (.slice none 0 0)
/-- The walk over n bytes: f headers more at most. -/
def walkF (n : Nat) (bs : List Nat) : Nat → Tour → List (Nat × List Nat) → Tour × List (Nat × List Nat)
  | 0, t, M => (t, M)
  | f + 1, t, M =>
    if exKind t.proto = false then (t, M) else if t.count = 8 then ({ t with many := true }, M)
    else match exSize t.proto (n - t.at_) (bs.getD (t.at_ + 1) 0) with
      | none => ({ t with ext := true }, M)
      | some m =>
        if (t.pass t.proto.toNat ((bs.drop t.at_).take m) (n - t.at_ - m)).frag = 2 then (t.pass t.proto.toNat ((bs.drop t.at_).take m) (n - t.at_ - m), M ++ [(t.proto.toNat, ((bs.drop t.at_).take m).drop 2)])
        else walkF n bs f (t.pass t.proto.toNat ((bs.drop t.at_).take m) (n - t.at_ - m)) (M ++ [(t.proto.toNat, ((bs.drop t.at_).take m).drop 2)])
theorem tytour : RowTy 152 22 := ⟨⟨_, Tryz.underlying152, rfl⟩, by kernel_rfl⟩
theorem tour_ok {B : Nat} {W0 w : World} {pv : Value} {M : List (Nat × List Nat)} (t : Tour) (h : Pass B W0 w pv M) : (t.cells pv).length = 22 ∧ ∀ v ∈ t.cells pv, v.oneCell' = true := by
  refine ⟨rfl, ?_⟩
  have hp : pv.oneCell' = true := by obtain ⟨A, c, e, _⟩ := h.slice; rw [e]; rfl
  unfold Tour.cells
  simp [Value.oneCell']
  simpa [Value.oneCell'] using hp
theorem Pass.exts {B : Nat} {W0 w : World} {v : Value} {M : List (Nat × List Nat)} (h : Pass B W0 w v M) (hb : Below W0.heap.size W0 w) (hB : W0.heap.size ≤ B) : Exts B w v M := by
  obtain ⟨L, h1, h2, h3⟩ := h
  refine ⟨L, h1, h2, fun i p m hp hm => ?_⟩
  obtain ⟨e, A, c, ea, hc, hr, hlt⟩ := h3 i p m hp hm
  refine ⟨e, A, c, ea, hc, hr.below hb, fun ad ha => ⟨fun e3 => ?_, Nat.lt_of_lt_of_le (hlt ad ha) hb.size⟩⟩
  have h9 := (World.ownsRow.lt h2 _ e3).1
  have h8 := hlt ad ha
  omega
/-- What walk answers. -/
def WalkIs (w : World) (r : Tour × List (Nat × List Nat)) (e : Ending) (w' : World) : Prop := ∃ pv, e = .returned (.agg (r.1.cells pv).toArray) ∧ Exts w.heap.size w' pv r.2 ∧ Below w.heap.size w w'
theorem exKind_nat {q : Int} (h : exKind q = true) : q = ((q.toNat : Nat) : Int) := by
  unfold exKind at h
  have := of_decide_eq_true h
  omega
theorem tour_stored (W : World) (X : List Value) (hX : X.length = 22) (hX1 : ∀ v ∈ X, v.oneCell' = true) :
    ArrV 152 ((W.alloc (.cells #[.int .i64 0, .int .i64 0, .int .i64 0, .int .i64 0, .int .i64 0, .slice none 0 0, .bool false, .bool false, .bool false, .bool false, .bool false, .bool false, .bool false, .bool false, .bool false, .bool false, .bool false, .bool false, .bool false, .bool false, .bool false, .bool false] 152)).setCells W.heap.size 0 X) W.heap.size X ∧ Below W.heap.size W ((W.alloc (.cells #[.int .i64 0, .int .i64 0, .int .i64 0, .int .i64 0, .int .i64 0, .slice none 0 0, .bool false, .bool false, .bool false, .bool false, .bool false, .bool false, .bool false, .bool false, .bool false, .bool false, .bool false, .bool false, .bool false, .bool false, .bool false, .bool false] 152)).setCells W.heap.size 0 X) := by
  have h : ArrV 152 (W.alloc (.cells #[.int .i64 0, .int .i64 0, .int .i64 0, .int .i64 0, .int .i64 0, .slice none 0 0, .bool false, .bool false, .bool false, .bool false, .bool false, .bool false, .bool false, .bool false, .bool false, .bool false, .bool false, .bool false, .bool false, .bool false, .bool false, .bool false] 152)) W.heap.size tourZ := ArrV.new _ W tourZ
  exact ⟨h.store _ (by rw [hX]; rfl), setCells_below _ (Nat.le_refl _) _ _ _ ((Below.refl _ _).alloc (Nat.le_refl _) _)⟩
theorem setCells_heap {g k : Nat} (hne : g ≠ k) : ∀ (vs : List Value) (o : Nat) (W : World), (W.setCells g o vs).heap[k]? = W.heap[k]?
  | [], _, _ => rfl
  | v :: r, o, W => by rw [World.setCells, setCells_heap hne r (o + 1), heap_setCell_other W _ k v (by show k ≠ g; omega)]
theorem pass_setCells {B : Nat} {Wb w : World} {v : Value} {M : List (Nat × List Nat)} {g : Nat} (h : Pass B Wb w v M) (hg : g < B) (vs : List Value) : Pass B Wb (w.setCells g 0 vs) v M := by
  obtain ⟨L, h1, h2, h3⟩ := h
  refine ⟨L, h1, ⟨h2.1, ?_⟩, h3⟩
  rcases h2.2 with h2 | ⟨g2, cap, cur, hv, hg2, hh, r⟩
  · exact .inl h2
  · exact .inr ⟨g2, cap, cur, hv, hg2, (setCells_heap (by omega) vs 0 w).trans hh, r⟩
theorem walk_done {B g : Nat} {w V1 U : World} {t : Tour} {M : List (Nat × List Nat)} {pv : Value} {R : Tour × List (Nat × List Nat)} (h : TourSt B g w V1 t M U) (hp : Pass B w U pv M) (hg4 : w.heap.size < V1.heap.size) (hR : R = (t, M)) :
    ∀ X : List Value, WalkIs w R (.returned (.agg (t.cells pv).toArray)) (U.setCells w.heap.size 0 X) := fun X => by
  rw [hR]
  have hgB : w.heap.size < B := Nat.lt_of_lt_of_le hg4 (Nat.le_trans h.g0 (Nat.le_of_lt h.gB))
  have hP2 := pass_setCells hp hgB X
  have hb2 : Below w.heap.size w (U.setCells w.heap.size 0 X) := setCells_below _ (Nat.le_refl _) _ _ _ (below_both h.wb h.below)
  exact ⟨pv, rfl, (hP2.exts hb2 (Nat.le_of_lt hgB)).mono (Nat.le_of_lt hgB), hb2⟩
theorem tour_start {w V1 V2 : World} (k : Int) (h : ArrV 152 V2 V1.heap.size ((Tour.start k).cells (.slice none 0 0))) (hb : Below V1.heap.size V1 V2) (hw : Below w.heap.size w V1) : TourSt V2.heap.size V1.heap.size w V1 (Tour.start k) [] V2 :=
  ⟨⟨_, h, Pass.nil _ _ _⟩, hb, h.lt, Nat.le_refl _, Nat.le_refl _, hw⟩
theorem walkF_end {n f : Nat} {bs : List Nat} {t : Tour} {M : List (Nat × List Nat)} (h : exKind t.proto = false) : walkF n bs (f + 1) t M = (t, M) := by rw [walkF, if_pos h]
theorem walkF_many {n f : Nat} {bs : List Nat} {t : Tour} {M : List (Nat × List Nat)} (h : exKind t.proto = true) (h8 : t.count = 8) : walkF n bs (f + 1) t M = ({ t with many := true }, M) := by rw [walkF, if_neg (by rw [h]; simp), if_pos h8]
theorem walkF_ext {n f : Nat} {bs : List Nat} {t : Tour} {M : List (Nat × List Nat)} (h : exKind t.proto = true) (h8 : ¬ t.count = 8) (hs : exSize t.proto (n - t.at_) (bs.getD (t.at_ + 1) 0) = none) : walkF n bs (f + 1) t M = ({ t with ext := true }, M) := by
  rw [walkF, if_neg (by rw [h]; simp), if_neg h8, hs]
theorem walkF_pass {n f m : Nat} {bs : List Nat} {t : Tour} {M : List (Nat × List Nat)} (h : exKind t.proto = true) (h8 : ¬ t.count = 8) (hs : exSize t.proto (n - t.at_) (bs.getD (t.at_ + 1) 0) = some m) :
    walkF n bs (f + 1) t M = if (t.pass t.proto.toNat ((bs.drop t.at_).take m) (n - t.at_ - m)).frag = 2 then (t.pass t.proto.toNat ((bs.drop t.at_).take m) (n - t.at_ - m), M ++ [(t.proto.toNat, ((bs.drop t.at_).take m).drop 2)])
      else walkF n bs f (t.pass t.proto.toNat ((bs.drop t.at_).take m) (n - t.at_ - m)) (M ++ [(t.proto.toNat, ((bs.drop t.at_).take m).drop 2)]) := by
  rw [walkF, if_neg (by rw [h]; simp), if_neg h8, hs]
theorem tail_zero {n c p : Nat} (h1 : n ≤ c) (h2 : c = p) : n - p = 0 := by omega
theorem cnt_eight {a : Nat} (h : ¬ a = 8) : ((a : Int) == 8) = false := beq_false_of_ne (by omega)
theorem frag_two {a : Nat} (h : ¬ a = 2) : ((a : Int) == 2) = false := beq_false_of_ne (by omega)
theorem walk_fuel {cnt f : Nat} (h : cnt + f = 9) (h8 : cnt ≤ 8) : ∃ f2, f = f2 + 1 := ⟨f - 1, by omega⟩
theorem getD_drop {bs : List Nat} {p i : Nat} : (bs.drop p).getD i 0 = bs.getD (p + i) 0 := by rw [List.getD_eq_getElem?_getD, List.getD_eq_getElem?_getD, List.getElem?_drop]
theorem row_tail {W : World} {A : Option Addr} {n : Nat} {bs : List Nat} (h : Row W A n bs) (p : Nat) (hp : p ≤ n) (A' : Option Addr) (hA : n - p = 0 ∨ A' = A.map (fun x => x.add p)) : Row W A' (n - p) (bs.drop p) := by
  rcases Nat.eq_zero_or_pos (n - p) with h0 | h0
  · rw [h0, List.drop_of_length_le (by rw [h.1]; omega)]
    exact Row.nil _ _
  · obtain ⟨b, o, rfl, _⟩ := h.addr (by omega)
    rcases hA with hA | rfl
    · omega
    · rw [Option.map_some, add_flat]
      have hp2 := h.part p (n - p) (by omega)
      rw [List.take_of_length_le (by rw [List.length_drop, h.1]; exact Nat.le_refl _)] at hp2
      exact hp2
theorem walk_more {p n m c cnt f z : Nat} (hp : p ≤ n) (hm : 8 ≤ m) (hmn : m ≤ n - p) (hc : n ≤ c) (hn : n ≤ 140737488351232) (hcnt : cnt ≤ 8) (h8 : ¬ cnt = 8) (hf : cnt + f = 9) (hz : z = p + m) :
    (p : Int) ≤ (c : Int) ∧ (p : Int) ≤ (z : Int) ∧ (z : Int) ≤ (c : Int) ∧ ¬ c = p ∧ IntKind.i64.wrap ((p : Int) + (m : Int)) = (z : Int) ∧ IntKind.i64.wrap ((n : Int) - (p : Int)) = ((n - p : Nat) : Int) ∧ IntKind.i64.wrap (((n - p : Nat) : Int) - (m : Int)) = ((n - p - m : Nat) : Int) ∧
      z - p = m ∧ 0 < n ∧ m ≤ c - p ∧ p + m ≤ n ∧ p + m ≤ 140737488355328 ∧ n - p - m ≤ 140737488355328 ∧ m ≤ 140737488355328 ∧ cnt + 1 ≤ 8 ∧ ∃ f2, f = f2 + 1 ∧ cnt + 1 + f2 = 9 := by
  subst hz
  refine ⟨by omega, by omega, by omega, by omega, ?_, ?_, ?_, by omega, by omega, by omega, by omega, by omega, by omega, by omega, by omega, f - 1, by omega, by omega⟩
  · rw [← Int.natCast_add]
    exact IntWalk.i64_in _ ⟨by omega, by omega⟩
  · rw [show (n : Int) - (p : Int) = ((n - p : Nat) : Int) by omega]
    exact IntWalk.i64_in _ ⟨by omega, by omega⟩
  · rw [show ((n - p : Nat) : Int) - (m : Int) = ((n - p - m : Nat) : Int) by omega]
    exact IntWalk.i64_in _ ⟨by omega, by omega⟩
theorem pass_count (t : Tour) (k : Nat) (hd : List Nat) (b : Nat) : (t.pass k hd b).count = t.count + 1 ∧ (t.pass k hd b).at_ = t.at_ + hd.length := ⟨rfl, rfl⟩
set_option maxRecDepth 10000 in
set_option maxHeartbeats 6400000 in
theorem exwalk_any (k : Int) (A : Option Addr) (n c : Nat) (bs : List Nat) (w : World) (hc : n ≤ c) (hc2 : n ≤ 140737488351232) (hR : Row w A n bs) :
    Calls Tryz.prog 106 #[.int .i64 k, .slice A n c] w (WalkIs w (walkF n bs 9 (Tour.start k) [])) := by
  obtain ⟨R, hRR⟩ : ∃ R, R = walkF n bs 9 (Tour.start k) [] := ⟨_, rfl⟩
  rw [← hRR]
  have HRR := Lib.hid hRR.symm
  obtain ⟨Z, hZ⟩ : ∃ Z, Z = tourZ := ⟨_, rfl⟩
  have HZ := Lib.hid hZ
  obtain ⟨V1, e1⟩ : ∃ V, V = w.alloc (.cells #[.int .i64 0, .int .i64 0, .int .i64 0, .int .i64 0, .int .i64 0, .slice none 0 0, .bool false, .bool false, .bool false, .bool false, .bool false, .bool false, .bool false, .bool false, .bool false, .bool false, .bool false, .bool false, .bool false, .bool false, .bool false, .bool false] 152) := ⟨_, rfl⟩
  have HA4 : Hid (ArrV 152 V1 w.heap.size Z) := by show ArrV _ _ _ _; rw [e1, hZ]; exact ArrV.new _ w tourZ
  have HB1 : Hid (Below w.heap.size w V1) := by show Below _ _ _; rw [e1]; exact (Below.refl _ _).alloc (Nat.le_refl _) _
  obtain ⟨V1b, e2⟩ : ∃ V, V = V1.alloc (.cells #[.int .i64 0, .int .i64 0, .int .i64 0, .int .i64 0, .int .i64 0, .slice none 0 0, .bool false, .bool false, .bool false, .bool false, .bool false, .bool false, .bool false, .bool false, .bool false, .bool false, .bool false, .bool false, .bool false, .bool false, .bool false, .bool false] 152) := ⟨_, rfl⟩
  have HA5 : Hid (ArrV 152 V1b V1.heap.size Z) := by show ArrV _ _ _ _; rw [e2, hZ]; exact ArrV.new _ V1 tourZ
  obtain ⟨X0, hX0⟩ : ∃ X, X = (Tour.start k).cells (.slice none 0 0) := ⟨_, rfl⟩
  have hX0l : X0.length = 22 := by rw [hX0]; rfl
  have hX0o : ∀ v ∈ X0, v.oneCell' = true := by rw [hX0]; exact (tour_ok (B := 0) (W0 := w) (w := w) _ (Pass.nil _ _ _)).2
  have HT0 : Hid (TourSt (V1b.setCells V1.heap.size 0 X0).heap.size V1.heap.size w V1 (Tour.start k) [] (V1b.setCells V1.heap.size 0 X0)) := tour_start k (by rw [← hX0]; exact HA5.out.store X0 (by rw [hX0l, HZ.out]; rfl)) (by rw [e2]; exact setCells_below _ (Nat.le_refl _) _ _ _ ((Below.refl _ _).alloc (Nat.le_refl _) _)) HB1.out
  have hlit2 : (#[.int .i64 k, .int .i64 0, .int .i64 0, .int .i64 0, .int .i64 0, .slice none 0 0, .bool false, .bool false, .bool false, .bool false, .bool false, .bool false, .bool false, .bool false, .bool false, .bool false, .bool false, .bool false, .bool false, .bool false, .bool false, .bool false] : Array Value) = X0.toArray := by rw [hX0]; rfl
  have hs1 : X0.set 1 (.int .i64 0) = X0 := by rw [hX0]; rfl
  have hs2 : X0.set 2 (.int .i64 0) = X0 := by rw [hX0]; rfl
  have hs3 : X0.set 3 (.int .i64 0) = X0 := by rw [hX0]; rfl
  have hs4 : X0.set 4 (.int .i64 0) = X0 := by rw [hX0]; rfl
  have HLIT := Lib.hid hlit2
  have HE1 := Lib.hid e1
  have HE2 := Lib.hid e2
  have HR := Lib.hid hR
  have HC := Lib.hid (And.intro hc hc2)
  have hZl : Z.length = 22 := by rw [hZ]; rfl
  clear hRR hZ hX0 e1 e2 hR hc hc2
  go_enter Tryz.func106, Tryz.ntmps106
  go_wp2_with fail
  rw [← HE1.out]
  go_step3
  clear hlit2
  have hlit2 : (#[.int .i64 k, .int .i64 0, .int .i64 0, .int .i64 0, .int .i64 0, .slice none 0 0, .bool false, .bool false, .bool false, .bool false, .bool false, .bool false, .bool false, .bool false, .bool false, .bool false, .bool false, .bool false, .bool false, .bool false, .bool false, .bool false] : Array Value) = X0.toArray := HLIT.out
  go_wp2_with (refine wpList_store_v rfl 152 (.tmp 5) (.tmp 10) rfl _ rfl tytour (show ArrV 152 (V1.alloc (.cells #[.int .i64 0, .int .i64 0, .int .i64 0, .int .i64 0, .int .i64 0, .slice none 0 0, .bool false, .bool false, .bool false, .bool false, .bool false, .bool false, .bool false, .bool false, .bool false, .bool false, .bool false, .bool false, .bool false, .bool false, .bool false, .bool false] 152)) V1.heap.size Z by rw [← HE2.out]; exact HA5.out) hZl X0 hX0l hX0o rfl ?_)
  clear hlit2 hs1 hs2 hs3 hs4
  rw [← HE2.out]
  obtain ⟨V2, e2⟩ : ∃ V, V = V1b.setCells V1.heap.size 0 X0 := ⟨_, rfl⟩
  rw [← e2] at HT0 ⊢
  clear e2
  generalize V2.heap.size = B at *
  obtain ⟨g5, hg5⟩ : ∃ g, g = V1.heap.size := ⟨_, rfl⟩
  rw [← hg5] at HT0 ⊢
  clear hg5 hX0l hX0o
  dsimp only [Act.put]
  go_step3
  go_wp2_with fail
  go_loopg [] 9 (fun f wr => ∃ t M, TourSt B g5 w V1 t M wr ∧ t.count + f = 9 ∧ t.count ≤ 8 ∧ t.at_ ≤ n ∧ M.length = t.count ∧ walkF n bs f t M = R)
  case atStart => exact ⟨Tour.start k, [], HT0.out, rfl, Nat.zero_le _, Nat.zero_le _, rfl, HRR.out⟩
  case round =>
    obtain ⟨t, M, hT, hf, h8, hat, hM, hR⟩ := hrel
    obtain ⟨f2, rfl⟩ := walk_fuel hf h8
    have HT := Lib.hid hT
    have HF := Lib.hid (And.intro hf (And.intro h8 (And.intro hat hM)))
    have HRW : Hid (Row wr A n bs) := (HR.out.below hT.wb).below hT.below
    obtain ⟨pv, hA, hP⟩ := hT.box
    have HA := Lib.hid hA
    have HP := Lib.hid hP
    have c0 := hA.get 0
    have c1 := hA.get 1
    have c4 := hA.get 4
    simp only [Tour.cells, List.getElem?_cons_zero, List.getElem?_cons_succ] at c0 c1 c4
    cases hk : exKind t.proto with
    | false =>
      have HW : Hid (R = (t, M)) := by show R = _; rw [← hR]; exact walkF_end hk
      have HI := Lib.hid (exis_any t.proto)
      rw [hk] at HI
      have T1 := HT
      obtain ⟨U, eU⟩ : ∃ U, U = wr := ⟨_, rfl⟩
      obtain ⟨t1, et⟩ : ∃ t1, t1 = t := ⟨_, rfl⟩
      rw [← eU, ← et] at T1
      rw [← et] at HW
      have HU := Lib.hid eU
      clear hf h8 hat hM hR hT hA hP hk et eU
      go_wp2_with fail
      refine (HI.out _).mono ?_
      rintro e w' ⟨rfl, rfl⟩
      clear c0 c1 c4 HF HRW HA HP HT HI
      go_upto_region 10 with fail
      rw [← HU.out]
      clear HU
      obtain ⟨pv, a, p⟩ := T1.out.box
      have A5 := Lib.hid a
      have A4 := Lib.hid (HA4.out.below T1.out.below)
      have HX := Lib.hid (tour_ok t1 p)
      have PE := Lib.hid (walk_done T1.out p HA4.out.lt HW.out)
      obtain ⟨X, eX⟩ : ∃ X, X = t1.cells pv := ⟨_, rfl⟩
      rw [← eX] at A5 HX PE
      clear a p eX
      refine wp_region_lit ?_
      go_wp2_with (first | refine wpList_load_v rfl 152 (.tmp 5) rfl _ rfl tytour A5.out HX.out.1 ?_ | refine wpList_store_v rfl 152 (.tmp 4) (.tmp 62) rfl _ rfl tytour A4.out (by rw [HZ.out]; rfl) X HX.out.1 HX.out.2 rfl ?_ | fail)
      try rw [Exit.noGoto_ret]
      exact bodyPost_ret (v := .agg X.toArray) (res_cell Tryz.results106 rfl ((A4.out.store X (by rw [HX.out.1, HZ.out]; rfl)).loadVar tytour HX.out.1)) rfl (PE.out X)
    | true =>
      have hkn := exKind_nat hk
      have HI := Lib.hid (exis_any t.proto)
      rw [hk] at HI
      obtain ⟨p, hp⟩ : ∃ p, p = t.at_ := ⟨_, rfl⟩
      obtain ⟨sz, hsz⟩ : ∃ sz, sz = exSize t.proto (n - t.at_) (bs.getD (t.at_ + 1) 0) := ⟨_, rfl⟩
      have hpn : p ≤ n := by rw [hp]; exact hat
      have hpc : p ≤ c := Nat.le_trans hpn HC.out.1
      have CSZ : Hid (∀ (W : World) (A' : Option Addr) (l' d' : Nat), l' = n - p → d' = c - p → Below wr.heap.size wr W → (n - p = 0 ∨ A' = A.map (fun x => x.add p)) → Calls Tryz.prog 109 #[.int .i64 t.proto, .slice A' l' d'] W (SizeIs sz W)) := fun W A' l' d' hl hd hW hA => by
        have h := exsize_any t.proto A' (n - p) (c - p) (bs.drop p) W (Nat.le_trans (Nat.sub_le _ _) (Nat.le_trans HC.out.2 (by decide))) (Nat.sub_le_sub_right HC.out.1 p) (row_tail (HRW.out.below hW) p hpn A' hA)
        rw [getD_drop, hp, ← hsz] at h
        rw [hl, hd, hp]
        exact h
      have pI : (p : Int) ≤ (c : Int) := Int.ofNat_le.2 hpc
      have pI2 : (p : Int) ≤ (n : Int) := Int.ofNat_le.2 hpn
      have p0 : (0 : Int) ≤ (p : Int) := Int.natCast_nonneg p
      have HP1 := Lib.hid hp
      have HSZ := Lib.hid hsz
      have HKN := Lib.hid hkn
      have HK := Lib.hid hk
      have HPN := Lib.hid (And.intro hpn hpc)
      have HRR2 := Lib.hid hR
      rw [← hp] at c1
      clear hp hsz hkn hpn hpc hf hat hM hR hT hA hP hk
      by_cases hcnt : t.count = 8
      · have hcb : ((t.count : Int) == 8) = true := by rw [hcnt]; rfl
        have HW : Hid (R = ({ t with many := true }, M)) := by show R = _; rw [← HRR2.out]; exact walkF_many HK.out hcnt
        by_cases hcp : c = p
        · have hz : n - p = 0 := tail_zero HC.out.1 hcp
          subst hcp
          go_wp2_with fail
          refine (HI.out _).mono ?_
          rintro e w' ⟨rfl, rfl⟩
          go_upto_region 3 with fail
          go_quiet ((go_at_call 109; exact quiet_quiet (CSZ.out _ _ _ _ (by first | rfl | exact hz.symm) (by first | rfl | exact (Nat.sub_self _).symm) (below_drewN' (Below.refl _ _) _) (.inl hz))))
          obtain ⟨w3, ew3⟩ : ∃ w3, w3 = wr.drewN nq := ⟨_, rfl⟩
          have T3 : Hid (TourSt B g5 w V1 t M w3) := by show TourSt _ _ _ _ _ _ _; rw [ew3]; exact HT.out.keep (below_drewN' (Below.refl _ _) nq)
          rw [← ew3]
          clear ew3 c0 c1 c4
          obtain ⟨pv3, a3, p3⟩ := T3.out.box
          have c4 := a3.get 4
          have cc := a3.get 19
          have ff := a3.frozen 19
          simp only [Tour.cells, List.getElem?_cons_zero, List.getElem?_cons_succ] at c4 cc
          obtain ⟨t1, et⟩ : ∃ t1 : Tour, t1 = { t with many := true } := ⟨_, rfl⟩
          obtain ⟨U, eU⟩ : ∃ U, U = w3.setCell ⟨g5, 19, none⟩ (.bool true) := ⟨_, rfl⟩
          have T1 : Hid (TourSt B g5 w V1 t1 M U) := by show TourSt _ _ _ _ _ _ _; rw [et, eU]; exact (TourSt.store (t' := { t with many := true }) a3 p3 T3.out 19 (.bool true) rfl).2.2
          rw [← et] at HW
          have HU := Lib.hid eU
          clear a3 p3 et eU T3 CSZ HI HT HA HP HRW
          go_upto_region 10 with fail
          rw [← HU.out]
          clear HU
          obtain ⟨pv, a, p⟩ := T1.out.box
          have A5 := Lib.hid a
          have A4 := Lib.hid (HA4.out.below T1.out.below)
          have HX := Lib.hid (tour_ok t1 p)
          have PE := Lib.hid (walk_done T1.out p HA4.out.lt HW.out)
          obtain ⟨X, eX⟩ : ∃ X, X = t1.cells pv := ⟨_, rfl⟩
          rw [← eX] at A5 HX PE
          clear a p eX
          refine wp_region_lit ?_
          go_wp2_with (first | refine wpList_load_v rfl 152 (.tmp 5) rfl _ rfl tytour A5.out HX.out.1 ?_ | refine wpList_store_v rfl 152 (.tmp 4) (.tmp 62) rfl _ rfl tytour A4.out (by rw [HZ.out]; rfl) X HX.out.1 HX.out.2 rfl ?_ | fail)
          try rw [Exit.noGoto_ret]
          exact bodyPost_ret (v := .agg X.toArray) (res_cell Tryz.results106 rfl ((A4.out.store X (by rw [HX.out.1, HZ.out]; rfl)).loadVar tytour HX.out.1)) rfl (PE.out X)
        · clear hcnt
          go_wp2_with fail
          refine (HI.out _).mono ?_
          rintro e w' ⟨rfl, rfl⟩
          go_upto_region 3 with fail
          go_quiet ((go_at_call 109; exact quiet_quiet (CSZ.out _ _ _ _ rfl rfl (below_drewN' (Below.refl _ _) _) (.inr rfl))))
          obtain ⟨w3, ew3⟩ : ∃ w3, w3 = wr.drewN nq := ⟨_, rfl⟩
          have T3 : Hid (TourSt B g5 w V1 t M w3) := by show TourSt _ _ _ _ _ _ _; rw [ew3]; exact HT.out.keep (below_drewN' (Below.refl _ _) nq)
          rw [← ew3]
          clear ew3 c0 c1 c4
          obtain ⟨pv3, a3, p3⟩ := T3.out.box
          have c4 := a3.get 4
          have cc := a3.get 19
          have ff := a3.frozen 19
          simp only [Tour.cells, List.getElem?_cons_zero, List.getElem?_cons_succ] at c4 cc
          obtain ⟨t1, et⟩ : ∃ t1 : Tour, t1 = { t with many := true } := ⟨_, rfl⟩
          obtain ⟨U, eU⟩ : ∃ U, U = w3.setCell ⟨g5, 19, none⟩ (.bool true) := ⟨_, rfl⟩
          have T1 : Hid (TourSt B g5 w V1 t1 M U) := by show TourSt _ _ _ _ _ _ _; rw [et, eU]; exact (TourSt.store (t' := { t with many := true }) a3 p3 T3.out 19 (.bool true) rfl).2.2
          rw [← et] at HW
          have HU := Lib.hid eU
          clear a3 p3 et eU T3 CSZ HI HT HA HP HRW
          go_upto_region 10 with fail
          rw [← HU.out]
          clear HU
          obtain ⟨pv, a, p⟩ := T1.out.box
          have A5 := Lib.hid a
          have A4 := Lib.hid (HA4.out.below T1.out.below)
          have HX := Lib.hid (tour_ok t1 p)
          have PE := Lib.hid (walk_done T1.out p HA4.out.lt HW.out)
          obtain ⟨X, eX⟩ : ∃ X, X = t1.cells pv := ⟨_, rfl⟩
          rw [← eX] at A5 HX PE
          clear a p eX
          refine wp_region_lit ?_
          go_wp2_with (first | refine wpList_load_v rfl 152 (.tmp 5) rfl _ rfl tytour A5.out HX.out.1 ?_ | refine wpList_store_v rfl 152 (.tmp 4) (.tmp 62) rfl _ rfl tytour A4.out (by rw [HZ.out]; rfl) X HX.out.1 HX.out.2 rfl ?_ | fail)
          try rw [Exit.noGoto_ret]
          exact bodyPost_ret (v := .agg X.toArray) (res_cell Tryz.results106 rfl ((A4.out.store X (by rw [HX.out.1, HZ.out]; rfl)).loadVar tytour HX.out.1)) rfl (PE.out X)
      have hcb : ((t.count : Int) == 8) = false := cnt_eight hcnt
      have HN8 := Lib.hid hcnt
      clear hcnt
      cases hsz : sz with
      | none =>
        have HW : Hid (R = ({ t with ext := true }, M)) := by show R = _; rw [← HRR2.out]; exact walkF_ext HK.out HN8.out (by rw [← HSZ.out, hsz])
        rw [hsz] at CSZ
        clear hsz HSZ
        by_cases hcp : c = p
        · have hz : n - p = 0 := tail_zero HC.out.1 hcp
          subst hcp
          go_wp2_with fail
          refine (HI.out _).mono ?_
          rintro e w' ⟨rfl, rfl⟩
          go_upto_region 3 with fail
          go_quiet ((go_at_call 109; exact quiet_quiet (CSZ.out _ _ _ _ (by first | rfl | exact hz.symm) (by first | rfl | exact (Nat.sub_self _).symm) (below_drewN' (Below.refl _ _) _) (.inl hz))))
          obtain ⟨w3, ew3⟩ : ∃ w3, w3 = wr.drewN nq := ⟨_, rfl⟩
          have T3 : Hid (TourSt B g5 w V1 t M w3) := by show TourSt _ _ _ _ _ _ _; rw [ew3]; exact HT.out.keep (below_drewN' (Below.refl _ _) nq)
          rw [← ew3]
          clear ew3 c0 c1 c4
          obtain ⟨pv3, a3, p3⟩ := T3.out.box
          have c4 := a3.get 4
          have cc := a3.get 17
          have ff := a3.frozen 17
          simp only [Tour.cells, List.getElem?_cons_zero, List.getElem?_cons_succ] at c4 cc
          obtain ⟨t1, et⟩ : ∃ t1 : Tour, t1 = { t with ext := true } := ⟨_, rfl⟩
          obtain ⟨U, eU⟩ : ∃ U, U = w3.setCell ⟨g5, 17, none⟩ (.bool true) := ⟨_, rfl⟩
          have T1 : Hid (TourSt B g5 w V1 t1 M U) := by show TourSt _ _ _ _ _ _ _; rw [et, eU]; exact (TourSt.store (t' := { t with ext := true }) a3 p3 T3.out 17 (.bool true) rfl).2.2
          rw [← et] at HW
          have HU := Lib.hid eU
          clear a3 p3 et eU T3 CSZ HI HT HA HP HRW
          go_upto_region 10 with fail
          rw [← HU.out]
          clear HU
          obtain ⟨pv, a, p⟩ := T1.out.box
          have A5 := Lib.hid a
          have A4 := Lib.hid (HA4.out.below T1.out.below)
          have HX := Lib.hid (tour_ok t1 p)
          have PE := Lib.hid (walk_done T1.out p HA4.out.lt HW.out)
          obtain ⟨X, eX⟩ : ∃ X, X = t1.cells pv := ⟨_, rfl⟩
          rw [← eX] at A5 HX PE
          clear a p eX
          refine wp_region_lit ?_
          go_wp2_with (first | refine wpList_load_v rfl 152 (.tmp 5) rfl _ rfl tytour A5.out HX.out.1 ?_ | refine wpList_store_v rfl 152 (.tmp 4) (.tmp 62) rfl _ rfl tytour A4.out (by rw [HZ.out]; rfl) X HX.out.1 HX.out.2 rfl ?_ | fail)
          try rw [Exit.noGoto_ret]
          exact bodyPost_ret (v := .agg X.toArray) (res_cell Tryz.results106 rfl ((A4.out.store X (by rw [HX.out.1, HZ.out]; rfl)).loadVar tytour HX.out.1)) rfl (PE.out X)
        · skip
          go_wp2_with fail
          refine (HI.out _).mono ?_
          rintro e w' ⟨rfl, rfl⟩
          go_upto_region 3 with fail
          go_quiet ((go_at_call 109; exact quiet_quiet (CSZ.out _ _ _ _ rfl rfl (below_drewN' (Below.refl _ _) _) (.inr rfl))))
          obtain ⟨w3, ew3⟩ : ∃ w3, w3 = wr.drewN nq := ⟨_, rfl⟩
          have T3 : Hid (TourSt B g5 w V1 t M w3) := by show TourSt _ _ _ _ _ _ _; rw [ew3]; exact HT.out.keep (below_drewN' (Below.refl _ _) nq)
          rw [← ew3]
          clear ew3 c0 c1 c4
          obtain ⟨pv3, a3, p3⟩ := T3.out.box
          have c4 := a3.get 4
          have cc := a3.get 17
          have ff := a3.frozen 17
          simp only [Tour.cells, List.getElem?_cons_zero, List.getElem?_cons_succ] at c4 cc
          obtain ⟨t1, et⟩ : ∃ t1 : Tour, t1 = { t with ext := true } := ⟨_, rfl⟩
          obtain ⟨U, eU⟩ : ∃ U, U = w3.setCell ⟨g5, 17, none⟩ (.bool true) := ⟨_, rfl⟩
          have T1 : Hid (TourSt B g5 w V1 t1 M U) := by show TourSt _ _ _ _ _ _ _; rw [et, eU]; exact (TourSt.store (t' := { t with ext := true }) a3 p3 T3.out 17 (.bool true) rfl).2.2
          rw [← et] at HW
          have HU := Lib.hid eU
          clear a3 p3 et eU T3 CSZ HI HT HA HP HRW
          go_upto_region 10 with fail
          rw [← HU.out]
          clear HU
          obtain ⟨pv, a, p⟩ := T1.out.box
          have A5 := Lib.hid a
          have A4 := Lib.hid (HA4.out.below T1.out.below)
          have HX := Lib.hid (tour_ok t1 p)
          have PE := Lib.hid (walk_done T1.out p HA4.out.lt HW.out)
          obtain ⟨X, eX⟩ : ∃ X, X = t1.cells pv := ⟨_, rfl⟩
          rw [← eX] at A5 HX PE
          clear a p eX
          refine wp_region_lit ?_
          go_wp2_with (first | refine wpList_load_v rfl 152 (.tmp 5) rfl _ rfl tytour A5.out HX.out.1 ?_ | refine wpList_store_v rfl 152 (.tmp 4) (.tmp 62) rfl _ rfl tytour A4.out (by rw [HZ.out]; rfl) X HX.out.1 HX.out.2 rfl ?_ | fail)
          try rw [Exit.noGoto_ret]
          exact bodyPost_ret (v := .agg X.toArray) (res_cell Tryz.results106 rfl ((A4.out.store X (by rw [HX.out.1, HZ.out]; rfl)).loadVar tytour HX.out.1)) rfl (PE.out X)
      | some m =>
        have hs := exSize_some (HSZ.out.symm.trans hsz)
        have hm8 := hs.2.1
        have hmn := hs.2.2.1
        clear hs
        rw [← HP1.out] at hmn
        obtain ⟨z, hz⟩ : ∃ z, z = p + m := ⟨_, rfl⟩
        obtain ⟨r1, r2, r3, r4, r5, r6, r7, r8, r9, r10, r11, r12, r13, r14, r15, f3, r16, r17⟩ := walk_more HPN.out.1 hm8 hmn HC.out.1 HC.out.2 HF.out.2.1 HN8.out HF.out.1 hz
        obtain rfl : f3 = f2 := (Nat.succ.inj r16).symm
        obtain ⟨b, o, rfl, _, _⟩ := HRW.out.addr r9
        obtain ⟨hd, hhd⟩ : ∃ hd, hd = (bs.drop p).take m := ⟨_, rfl⟩
        have hhl : hd.length = m := by rw [hhd]; exact (HR.out.part p m r11).1
        obtain ⟨t2, ht2⟩ : ∃ t2, t2 = t.pass t.proto.toNat hd (n - p - m) := ⟨_, rfl⟩
        obtain ⟨M2, hM2⟩ : ∃ M2, M2 = M ++ [(t.proto.toNat, hd.drop 2)] := ⟨_, rfl⟩
        have CP : Hid (∀ W, TourSt B g5 w V1 t M W → Calls Tryz.prog 110 #[.pointer (some ⟨g5, 0, none⟩), .slice (some ⟨b, o + p, none⟩) m (c - p), .int .i64 ((n - p - m : Nat) : Int)] W fun e w' => (∃ r, e = .returned r) ∧ TourSt B g5 w V1 t2 M2 w') := fun W hW => by
          rw [ht2, hM2]
          exact expass_any B g5 w V1 t M t.proto.toNat m (c - p) (n - p - m) (some ⟨b, o + p, none⟩) hd W hW HKN.out hm8 r10 (by rw [hhd]; exact HR.out.part p m r11) HF.out.2.1 (by rw [HF.out.2.2.2]; exact Nat.le_trans HF.out.2.1 (by decide)) (by rw [← HP1.out]; exact r12) r13 r14
        have HW2 : Hid ((if t2.frag = 2 then (t2, M2) else walkF n bs f3 t2 M2) = R) := by
          show _ = R
          rw [← HRR2.out, walkF_pass HK.out HN8.out (HSZ.out.symm.trans hsz), ht2, hM2, hhd, HP1.out]
        have HT2 : Hid (t2.count = t.count + 1 ∧ t2.at_ = p + m ∧ M2.length = t2.count) := by
          refine ⟨by rw [ht2]; rfl, by rw [ht2, HP1.out, ← hhl]; rfl, ?_⟩
          rw [ht2, hM2, List.length_append, HF.out.2.2.2]
          rfl
        have HNX := Lib.hid (And.intro r15 (And.intro r17 r11))
        rw [hsz] at CSZ
        clear hsz HSZ hm8 hmn r9 r10 r11 r12 r13 r14 r15 r16 r17 hhd hhl ht2 hM2 hz
        go_wp2_with fail
        refine (HI.out _).mono ?_
        rintro e w' ⟨rfl, rfl⟩
        go_upto_region 3 with fail
        go_quiet ((go_at_call 109; exact quiet_quiet (CSZ.out _ _ _ _ rfl rfl (below_drewN' (Below.refl _ _) _) (.inr (by rw [Option.map_some, add_flat])))))
        obtain ⟨w3, ew3⟩ : ∃ w3, w3 = wr.drewN nq := ⟨_, rfl⟩
        have T3 : Hid (TourSt B g5 w V1 t M w3) := by show TourSt _ _ _ _ _ _ _; rw [ew3]; exact HT.out.keep (below_drewN' (Below.refl _ _) nq)
        rw [← ew3]
        clear ew3 c0 c1 c4
        obtain ⟨pv3, a3, p3⟩ := T3.out.box
        have c1 := a3.get 1
        have c4 := a3.get 4
        simp only [Tour.cells, List.getElem?_cons_zero, List.getElem?_cons_succ] at c1 c4
        rw [← HP1.out] at c1
        clear a3 p3
        go_upto_region 8 with fail
        refine wp_region_still_tail 18 (by kernel_rfl) (by kernel_rfl) ?_
        simp only [List.take_succ_cons, List.take_zero, List.drop_succ_cons, List.drop_zero]
        repeat still_step
        refine wpStill_nil ?_
        change wpList _ _ _ _ _ w3.drew
        obtain ⟨w4, ew4⟩ : ∃ w4, w4 = w3.drew := ⟨_, rfl⟩
        have T4 : Hid (TourSt B g5 w V1 t M w4) := by show TourSt _ _ _ _ _ _ _; rw [ew4]; exact T3.out.keep (Below.refl _ _).drew
        rw [← ew4]
        clear ew4 c1 c4 T3
        go_wp2_with fail
        refine (CP.out _ T4.out).mono ?_
        rintro e w5 ⟨⟨r, rfl⟩, hT5⟩
        have T5 := Lib.hid hT5
        obtain ⟨pv5, a5, p5⟩ := hT5.box
        have c2 := a5.get 2
        simp only [Tour.cells, List.getElem?_cons_zero, List.getElem?_cons_succ] at c2
        clear hT5 a5 p5 T4 HT HA HP HRW CSZ HI r1 r2 r3 r4 r5 r6 r7 r8
        by_cases hfr : t2.frag = 2
        · have hfb : ((t2.frag : Int) == 2) = true := by rw [hfr]; rfl
          have HW : Hid (R = (t2, M2)) := by show R = _; rw [← HW2.out, if_pos hfr]
          clear hfr
          obtain ⟨t1, et⟩ : ∃ t1 : Tour, t1 = t2 := ⟨_, rfl⟩
          obtain ⟨M1, em⟩ : ∃ M1, M1 = M2 := ⟨_, rfl⟩
          obtain ⟨U, eU⟩ : ∃ U, U = w5 := ⟨_, rfl⟩
          have T1 := T5
          rw [← et, ← em, ← eU] at T1
          rw [← et, ← em] at HW
          have HU := Lib.hid eU
          clear et em eU T5
          go_upto_region 10 with fail
          rw [← HU.out]
          clear HU
          obtain ⟨pv, a, p⟩ := T1.out.box
          have A5 := Lib.hid a
          have A4 := Lib.hid (HA4.out.below T1.out.below)
          have HX := Lib.hid (tour_ok t1 p)
          have PE := Lib.hid (walk_done T1.out p HA4.out.lt HW.out)
          obtain ⟨X, eX⟩ : ∃ X, X = t1.cells pv := ⟨_, rfl⟩
          rw [← eX] at A5 HX PE
          clear a p eX
          refine wp_region_lit ?_
          go_wp2_with (first | refine wpList_load_v rfl 152 (.tmp 5) rfl _ rfl tytour A5.out HX.out.1 ?_ | refine wpList_store_v rfl 152 (.tmp 4) (.tmp 62) rfl _ rfl tytour A4.out (by rw [HZ.out]; rfl) X HX.out.1 HX.out.2 rfl ?_ | fail)
          try rw [Exit.noGoto_ret]
          exact bodyPost_ret (v := .agg X.toArray) (res_cell Tryz.results106 rfl ((A4.out.store X (by rw [HX.out.1, HZ.out]; rfl)).loadVar tytour HX.out.1)) rfl (PE.out X)
        · have hfb : ((t2.frag : Int) == 2) = false := frag_two hfr
          have HW3 : Hid (walkF n bs f3 t2 M2 = R) := by show _ = R; rw [← HW2.out, if_neg hfr]
          clear hfr
          go_wp2_with fail
          go_roundg f3
          case measure => exact Nat.lt_succ_self _
          case rel => exact ⟨t2, M2, T5.out, by rw [HT2.out.1]; exact HNX.out.2.1, by rw [HT2.out.1]; exact HNX.out.1, by rw [HT2.out.2.1]; exact HNX.out.2.2, HT2.out.2.2, HW3.out⟩
