/-
  The document's Options of layer 10.
-/
import Derived.Test.YtmchclpkjjmocaaGreatRFh1
import Derived.Test.YtmchclpkjjmocaaGreatFh7
import Derived.Test.YtmchclpkjjmocaaGreatJoin
import Derived.Test.YtmchclpkjjmocaaGreatFh14
import Derived.Deep.RegionHeld3
namespace Go.Proofs.YtmchclpkjjmocaaGreat
open Go.RowKit
set_option linter.unusedVariables false

/-- 'append(out, api.Ext{..})' as a step of a region that draws its order: the new element lies in block g. -/
theorem step_append_ext {ops : Array Oper} {o : Oper} {a : Act} {K : Act → World → Prop} {Q : Exit → Act → World → Prop} {E : Prop} (hgd : o.guard = none) (s x : Operand)
    (ho : o.op = .call { callee := .builtin .append, args := #[s, x], argTypes := #[47, 47] })
    {B g : Nat} {W w1 : World} {v bv : Value} {M : List (Nat × List Nat)} {k : Nat} {l : List Nat} (hs : a.eval s = v) (hx : a.eval x = .slice (some ⟨g, 0, none⟩) 1 1)
    (hg : w1.heap[g]? = some (.cells #[.int .i64 (k : Nat), bv] 112 (0, 0))) (hE : Exts B w1 v M) (hbody : BodyAt w1 v.ownBlock bv l) (hone : bv.oneCell' = true) (hb : Below B W w1) (hB : B ≤ w1.heap.size) (hlen : M.length ≤ 1000000)
    (h : ∀ v' w', Exts B w' v' (M ++ [(k, l)]) → Below B W w' → K (a.put o.dst v') w') : if Region.wanted o (yielded ops a.tmps) = true then Oper.wp Tryz.prog o a w1 K Q else E := by
  have hw : Region.wanted o (yielded ops a.tmps) = true := by simp [Region.wanted, hgd]
  rw [if_pos hw]
  obtain ⟨i0, h1, h2, h3, h4⟩ := info_parts ext_info
  obtain ⟨L, l1, l2, l3⟩ := hE
  obtain ⟨v', w', hr, ho', hgr, _, hat⟩ := run_append_own_at (P := Tryz.prog) w1 B 47 o.type 112 i0 _ 2 32 Tryz.underlying47 h1 h2 h3 h4 rfl (by decide) v M.length (ecells L) l2
    ⟨g, 0, none⟩ 1 1 [.int .i64 (k : Nat), bv] rfl (fun j u hj => by
      rw [add_flat, cell_of_row _ g (0 + j) _ _ _ hg, Nat.zero_add, ← Array.getElem?_toList]
      exact hj) (ext_one k hone) (by unfold maxLen; omega) (by omega) hB
  have hsz := hgr.size
  have hK := h v' w' ⟨L ++ [(k, bv)], by simp [l1], by rw [ecells_snoc]; simpa using ho', fun i p m hp hm => by
    by_cases hi : i < M.length
    · rw [List.getElem?_append_left (by omega)] at hp
      rw [List.getElem?_append_left hi] at hm
      exact ⟨(l3 i p m hp hm).1, (l3 i p m hp hm).2.grown hgr hsz hat⟩
    · have hi2 : i = M.length := by
        have h9 : i < (M ++ [(k, l)]).length := by
          rcases Nat.lt_or_ge i (M ++ [(k, l)]).length with h | h
          · exact h
          · rw [List.getElem?_eq_none h] at hm; cases hm
        simp at h9
        omega
      subst hi2
      rw [← l1, List.getElem?_append_right (Nat.le_refl _), Nat.sub_self] at hp
      rw [List.getElem?_append_right (Nat.le_refl _), Nat.sub_self] at hm
      simp at hp hm
      subst hp hm
      exact ⟨rfl, hbody.grown hgr hsz hat⟩⟩ (hb.grown hgr hB (fun k hk => (World.ownsRow.lt l2 k hk).1))
  unfold Oper.wp execOp
  simp only [ho, resolve, invoke, builtin, Sem.run_bind, Sem.run_pure, Result.andThen_ok, List.map_toArray, List.map_cons, List.map_nil, hs, hx, hr]
  exact hK
theorem BodyAt.ofOut {B : Nat} {w : World} {v : Value} {l : List Nat} {g : Option Nat} (h : OutIs B w v l) (hb : ∀ x ∈ l, x < 256) (hg : ∀ k, g = some k → k < B) : BodyAt w g v l := by
  obtain ⟨A, c, e, h1, h2, h3⟩ := h.out hb
  refine ⟨A, c, e, h1, h3, fun ad ha => ?_⟩
  rcases h.2 with ⟨hv, h0⟩ | ⟨g2, cap, cur, hv, hB, hh, _⟩
  · rw [hv] at e
    injection e with e1 e2 e3
    rw [← e1] at ha
    cases ha
  · rw [hv] at e
    injection e with e1 e2 e3
    rw [← e1] at ha
    cases ha
    refine ⟨fun e => ?_, ?_⟩
    · have := hg _ e
      simp at this
      omega
    · rcases Nat.lt_or_ge g2 w.heap.size with hlt | hge
      · exact hlt
      · rw [Array.getElem?_eq_none hge] at hh; cases hh
theorem Exts.mono {B B' : Nat} {w : World} {v : Value} {M : List (Nat × List Nat)} (h : Exts B w v M) (hB : B' ≤ B) : Exts B' w v M := by
  obtain ⟨L, h1, h2, h3⟩ := h
  refine ⟨L, h1, ⟨h2.1, ?_⟩, h3⟩
  rcases h2.2 with h2 | ⟨g, cap, cur, hv, hg, r⟩
  · exact .inl h2
  · exact .inr ⟨g, cap, cur, hv, Nat.le_trans hB hg, r⟩
theorem take_drop_at {bs : List Nat} {k q i : Nat} (hi : i < q) : ((bs.drop k).take q).getD i 0 = bs.getD (k + i) 0 := by
  rw [List.getD_eq_getElem?_getD, List.getD_eq_getElem?_getD, List.getElem?_take, if_pos hi, List.getElem?_drop]
/-- Where the loop stands: the options so far, and the place. -/
def ROptsInv (w W : World) (m : Nat) (bs : List Nat) (r : Option (List (Nat × List Nat))) (out at' : Value) (V : World) : Prop :=
  ∃ (L : List (Nat × List Nat)) (k f : Nat), Exts W.heap.size V out L ∧ at' = .int .i64 (k : Nat) ∧ 20 ≤ k ∧ k ≤ m ∧ Below W.heap.size W V ∧ m - k ≤ f ∧ L.length + (m - k) ≤ 60 ∧ r = (optsF f ((bs.drop k).take (m - k))).map fun M => L ++ M
theorem ropts_none {bs : List Nat} {k m f : Nat} {L : List (Nat × List Nat)} (hk : k < m) (hm : m ≤ bs.length) (hf : m - k ≤ f) (h0 : bs.getD k 0 ≠ 0) (h1 : bs.getD k 0 ≠ 1) (h : k + 1 = m ∨ bs.getD (k + 1) 0 < 2 ∨ m < k + bs.getD (k + 1) 0) :
    (optsF f ((bs.drop k).take (m - k))).map (fun M => L ++ M) = none := by
  obtain ⟨f2, rfl⟩ : ∃ f2, f = f2 + 1 := ⟨f - 1, by omega⟩
  have hl : ((bs.drop k).take (m - k)).length = m - k := by rw [List.length_take, List.length_drop]; omega
  have e0 : ((bs.drop k).take (m - k)).getD 0 0 = bs.getD k 0 := take_drop_at (by omega)
  rw [optsF, if_neg (by rw [hl, e0]; omega)]
  have : optOne ((bs.drop k).take (m - k)) = none := by
    unfold optOne
    rw [hl, e0, if_neg h1]
    by_cases h2 : m - k < 2
    · rw [if_pos h2]
    · have e1 : ((bs.drop k).take (m - k)).getD 1 0 = bs.getD (k + 1) 0 := take_drop_at (by omega)
      rw [if_neg h2, e1, if_pos (by omega)]
  rw [this]
  rfl
theorem ropts_end {bs : List Nat} {k m f : Nat} {L : List (Nat × List Nat)} (h : k = m ∨ (k < m ∧ m ≤ bs.length ∧ m - k ≤ f ∧ bs.getD k 0 = 0)) : (optsF f ((bs.drop k).take (m - k))).map (fun M => L ++ M) = some L := by
  rcases h with rfl | ⟨h1, h2, h3, h4⟩
  · rw [Nat.sub_self, List.take_zero, optsF_nil]
    simp
  · obtain ⟨f2, rfl⟩ : ∃ f2, f = f2 + 1 := ⟨f - 1, by omega⟩
    have e0 : ((bs.drop k).take (m - k)).getD 0 0 = bs.getD k 0 := take_drop_at (by omega)
    rw [optsF, if_pos (.inr (by rw [e0, h4]))]
    simp
theorem ropts_one {bs : List Nat} {k m f : Nat} {L : List (Nat × List Nat)} (hk : k < m) (hm : m ≤ bs.length) (hf : m - k ≤ f) (h1 : bs.getD k 0 = 1) :
    ∃ f2, m - (k + 1) ≤ f2 ∧ (optsF f ((bs.drop k).take (m - k))).map (fun M => L ++ M) = (optsF f2 ((bs.drop (k + 1)).take (m - (k + 1)))).map fun M => (L ++ [(1, [])]) ++ M := by
  obtain ⟨f2, rfl⟩ : ∃ f2, f = f2 + 1 := ⟨f - 1, by omega⟩
  refine ⟨f2, by omega, ?_⟩
  have hl : ((bs.drop k).take (m - k)).length = m - k := by rw [List.length_take, List.length_drop]; omega
  have e0 : ((bs.drop k).take (m - k)).getD 0 0 = bs.getD k 0 := take_drop_at (by omega)
  have e2 : ((bs.drop k).take (m - k)).drop 1 = (bs.drop (k + 1)).take (m - (k + 1)) := by rw [List.drop_take, List.drop_drop]; congr 1
  rw [optsF, if_neg (by rw [hl, e0]; omega)]
  have : optOne ((bs.drop k).take (m - k)) = some (1, 1, []) := by
    unfold optOne
    rw [e0, if_pos h1]
  rw [this]
  show (((optsF f2 (((bs.drop k).take (m - k)).drop 1)).map fun M => (1, []) :: M).map fun M => L ++ M) = _
  rw [e2, Option.map_map]
  congr 1
  funext M
  simp
theorem ropts_more {bs : List Nat} {k m f : Nat} {L : List (Nat × List Nat)} (hk : k + 1 < m) (hm : m ≤ bs.length) (hf : m - k ≤ f) (h0 : bs.getD k 0 ≠ 0) (h1 : bs.getD k 0 ≠ 1) (h2 : 2 ≤ bs.getD (k + 1) 0) (h3 : k + bs.getD (k + 1) 0 ≤ m) :
    ∃ f2, m - (k + bs.getD (k + 1) 0) ≤ f2 ∧ (optsF f ((bs.drop k).take (m - k))).map (fun M => L ++ M) = (optsF f2 ((bs.drop (k + bs.getD (k + 1) 0)).take (m - (k + bs.getD (k + 1) 0)))).map fun M => (L ++ [(bs.getD k 0, (bs.drop (k + 2)).take (bs.getD (k + 1) 0 - 2))]) ++ M := by
  obtain ⟨f2, rfl⟩ : ∃ f2, f = f2 + 1 := ⟨f - 1, by omega⟩
  refine ⟨f2, by omega, ?_⟩
  have hl : ((bs.drop k).take (m - k)).length = m - k := by rw [List.length_take, List.length_drop]; omega
  have e0 : ((bs.drop k).take (m - k)).getD 0 0 = bs.getD k 0 := take_drop_at (by omega)
  have e1 : ((bs.drop k).take (m - k)).getD 1 0 = bs.getD (k + 1) 0 := take_drop_at (by omega)
  generalize bs.getD (k + 1) 0 = y at *
  have e2 : ((bs.drop k).take (m - k)).drop y = (bs.drop (k + y)).take (m - (k + y)) := by rw [List.drop_take, List.drop_drop]; congr 1; omega
  have e3 : (((bs.drop k).take (m - k)).drop 2).take (y - 2) = (bs.drop (k + 2)).take (y - 2) := by rw [List.drop_take, List.drop_drop, List.take_take]; congr 1; omega
  rw [optsF, if_neg (by rw [hl, e0]; omega)]
  have : optOne ((bs.drop k).take (m - k)) = some (bs.getD k 0, y, (bs.drop (k + 2)).take (y - 2)) := by
    unfold optOne
    rw [hl, e0, e1, e3, if_neg h1, if_neg (by omega), if_neg (by omega)]
  rw [this]
  show (((optsF f2 (((bs.drop k).take (m - k)).drop y)).map fun M => (bs.getD k 0, (bs.drop (k + 2)).take (y - 2)) :: M).map fun M => L ++ M) = _
  rw [e2, Option.map_map]
  congr 1
  funext M
  simp
theorem w64_in {x : Int} (h0 : 0 ≤ x) (h1 : x ≤ 1000000) : wrap64 x = x := by unfold wrap64; omega
theorem ropt_eq {z p c q : Nat} (h : z - p = q) (s1 : (p : Int) ≤ (z : Int)) (s2 : (z : Int) ≤ (c : Int)) (hcc : c = p) : q = 0 ∧ z = p := by omega
theorem ropt_next {k m x1 p z f len : Nat} (h : 20 ≤ k ∧ k ≤ m ∧ m - k ≤ f ∧ len + (m - k) ≤ 60) (hb : k < m ∧ ¬ (k + 1 = m ∨ x1 < 2 ∨ m < k + x1)) (hpz : p = k + 2 ∧ z = k + x1) : 20 ≤ z ∧ z ≤ m ∧ len + 1 + (m - z) ≤ 60 ∧ m - z < m - k := by omega
theorem ropt_ints {k x1 y m c p z : Nat} (hm : m = 4 * y) (hm60 : m ≤ 60) (hmc : m ≤ c) (hx : 2 ≤ x1) (hk : k + x1 ≤ m) (hp : p = k + 2) (hz : z = k + x1) :
    IntKind.i64.wrap ((k : Int) + 2) = (p : Int) ∧ IntKind.i64.wrap ((k : Int) + (x1 : Int)) = (z : Int) ∧ wrap64 ((k : Int) + (x1 : Int)) = (z : Int) ∧ ¬ (x1 : Int) < 2 ∧ (2 : Int) ≤ (x1 : Int) ∧ ¬ 4 * (y : Int) < (z : Int) ∧ (z : Int) ≤ 4 * (y : Int) ∧ (p : Int) ≤ (z : Int) ∧ (z : Int) ≤ (c : Int) ∧ (p : Int) ≤ (c : Int) := by
  subst hp hz
  refine ⟨?_, ?_, ?_, by omega, by omega, by omega, by omega, by omega, by omega, by omega⟩
  · rw [IntWalk.i64_in _ (by omega)]; omega
  · rw [IntWalk.i64_in _ (by omega)]; omega
  · rw [w64_in (by omega) (by omega)]; omega
set_option maxRecDepth 10000 in
set_option maxHeartbeats 6400000 in
theorem rfhoptions_any (A : Option Addr) (n c : Nat) (bs : List Nat) (w : World) (hc : n ≤ c) (hc2 : n ≤ 140737488355328) (hR : Row w A n bs) :
    Calls Tryz.prog 77 #[.slice A n c] w (OptsIs w (fhopts n bs)) := by
  have C := Lib.hid (rfhread_any A n c bs w (by omega) hc hR)
  unfold ReadIs at C
  obtain ⟨X, hX⟩ : ∃ X, X = fhval n bs := ⟨_, rfl⟩
  have hXl : X.length = 17 := by rw [hX]; exact fhval_len n bs
  have hXo : ∀ v ∈ X, v.oneCell' = true := by rw [hX]; exact fhval_one n bs
  rw [← hX] at C
  by_cases h0 : fhdef n bs ≠ 0
  · have hF : fhopts n bs = none := by unfold fhopts; rw [if_neg h0]
    rw [hF]
    obtain ⟨d, hdd⟩ : ∃ d, d = fhdef n bs := ⟨_, rfl⟩
    rw [← hdd] at C h0
    have d0 : ((d : Int) != 0) = true := by simp; omega
    clear hdd hR hc2 hc h0 hF hX
    go_enter Tryz.func77, Tryz.ntmps77
    go_wp2_with fail
    refine C.out.mono ?_
    rintro e w1 ⟨rfl, b1⟩
    obtain ⟨hst, hA, hb⟩ := four_stored w1 X hXl hXo
    have B1 := Lib.hid (below_both b1 hb)
    clear b1 hA hb
    go_upto_region 2 with fail
    clear hst
    obtain ⟨W, eW⟩ : ∃ W, W = (w1.alloc (.cells #[.int .i64 0, .int .i64 0, .int .i64 0, .int .i64 0, .int .i64 0, .int .i64 0, .int .i64 0, .int .i64 0, .int .i64 0, .int .u8 0, .int .u8 0, .int .u8 0, .int .u8 0, .int .u8 0, .int .u8 0, .int .u8 0, .int .u8 0] 63)).setCells w1.heap.size 0 X := ⟨_, rfl⟩
    rw [← eW] at B1 ⊢
    clear eW
    go_wp2_with fail
    go_ret2
    exact ⟨B1.out, rfl⟩
  have h0 : fhdef n bs = 0 := Decidable.of_not_not h0
  rw [h0] at C
  obtain ⟨_, _, k1, k2, k3⟩ := fhdef_zero h0
  have hF : fhopts n bs = optsF 60 ((bs.drop 20).take (4 * (bs.getD 0 0 % 16) - 20)) := by unfold fhopts; rw [if_pos h0]
  rw [hF]
  obtain ⟨y, hy⟩ : ∃ y, y = bs.getD 0 0 % 16 := ⟨_, rfl⟩
  have X0 : Hid (X[0]? = some (.int .i64 (y : Nat))) := by
    show X[0]? = _
    rw [hX, hy]
    unfold fhval
    rw [if_pos h0]
    rfl
  obtain ⟨b, o, rfl, _, _⟩ := hR.addr (by omega)
  rw [← hy] at k2 k3 ⊢
  have y15 : y ≤ 15 := by omega
  obtain ⟨m, hm⟩ : ∃ m, m = 4 * y := ⟨_, rfl⟩
  rw [← hm] at k3 ⊢
  obtain ⟨r, hr⟩ : ∃ r, r = optsF 60 ((bs.drop 20).take (m - 20)) := ⟨_, rfl⟩
  rw [← hr]
  have hbl := hR.1
  have HB0 := Lib.hid (And.intro hbl hR.2.1)
  have hR0 : Hid (∀ k, bs.getD k 0 < 256) := hR.byte
  have HR := Lib.hid hR
  have HC := Lib.hid (And.intro hc hc2)
  have HM := Lib.hid (And.intro hm (And.intro (show m ≤ n by omega) (And.intro (show 20 ≤ m by omega) (show m ≤ 60 by omega))))
  have HR0 := Lib.hid hr
  have y15I : (y : Int) ≤ 15 := by omega
  clear hm k1 k2 k3 h0 hR hc hc2 hF hr hy y15 hX hbl
  go_enter Tryz.func77, Tryz.ntmps77
  go_wp2_with fail
  refine C.out.mono ?_
  rintro e w1 ⟨rfl, b1⟩
  obtain ⟨hst, hA, hb⟩ := four_stored w1 X hXl hXo
  have B1 := Lib.hid (below_both b1 hb)
  have A1 := Lib.hid hA
  clear b1 hA hb
  go_upto_region 2 with fail
  clear hst
  obtain ⟨W, eW⟩ : ∃ W, W = (w1.alloc (.cells #[.int .i64 0, .int .i64 0, .int .i64 0, .int .i64 0, .int .i64 0, .int .i64 0, .int .i64 0, .int .i64 0, .int .i64 0, .int .u8 0, .int .u8 0, .int .u8 0, .int .u8 0, .int .u8 0, .int .u8 0, .int .u8 0, .int .u8 0] 63)).setCells w1.heap.size 0 X := ⟨_, rfl⟩
  rw [← eW] at B1 A1 ⊢
  clear eW
  generalize w1.heap.size = gf at *
  go_wp2_with fail
  have HS : Hid (ROptsInv w W m bs r (.slice none 0 0) (.int .i64 20) W) := ⟨[], 20, 60, Exts.nil _ _, rfl, Nat.le_refl _, HM.out.2.2.1, Below.refl _ _, by have := HM.out; omega, by have := HM.out; simp; omega, by rw [HR0.out]; simp⟩
  go_loopw [6, 7] (fun out at' V => ROptsInv w W m bs r out at' V) (fun out at' V => m - (intOf at').toNat)
  case atStart => exact HS.out
  case round =>
    clear HS
    obtain ⟨L, k, f, hE, rfl, h1, h2, hW, h3, h4, hr⟩ := hrel
    have HE := Lib.hid hE
    have HW := Lib.hid hW
    have BW := Lib.hid (below_both B1.out hW)
    have x0 := (A1.out.below hW).get 0
    rw [X0.out] at x0
    have HK := Lib.hid (And.intro h1 (And.intro h2 (And.intro h3 h4)))
    by_cases hz : k = m
    · have e : r = some L := by rw [hr]; exact ropts_end (.inl hz)
      subst e
      have kI : ¬ (k : Int) < 4 * (y : Int) := by have := HM.out; omega
      have kI2 : 4 * (y : Int) ≤ (k : Int) := by have := HM.out; omega
      clear hr h1 h2 h3 h4 hE hW hz
      go_wp2_with fail
      go_ret2
      exact ⟨BW.out, _, rfl, HE.out.mono B1.out.size⟩
    · have hkm : k < m := by omega
      obtain ⟨b2, o2, e2, hb2, hcell⟩ := (HR.out.below BW.out).addr (by have := HM.out; omega)
      cases e2
      have c0 := hcell k (by have := HM.out; omega)
      have kI : (k : Int) < 4 * (y : Int) := by have := HM.out; omega
      have kn : (k : Int) < (n : Int) := by have := HM.out; omega
      by_cases hx : bs.getD k 0 = 0
      · have e : r = some L := by rw [hr]; exact ropts_end (.inr ⟨hkm, by have := HM.out; have := HB0.out; omega, h3, hx⟩)
        rw [hx] at c0
        subst e
        clear hr h1 h2 h3 h4 hE hW hx hb2 hz hkm hcell
        go_wp2_with fail
        go_ret2
        exact ⟨BW.out, _, rfl, HE.out.mono B1.out.size⟩
      · by_cases hx1 : bs.getD k 0 = 1
        · obtain ⟨f2, hf2, e⟩ := ropts_one (L := L) hkm (by have := HM.out; have := HB0.out; omega) h3 hx1
          have HR2 := Lib.hid (And.intro hf2 (hr.trans e))
          rw [hx1] at c0
          have hl6 : Hid (L.length ≤ 1000000) := by show L.length ≤ 1000000; have := HK.out; omega
          have HKM := Lib.hid hkm
          clear hr h1 h2 h3 h4 hE hW hx hx1 hb2 hz hkm hcell e hf2
          go_wp2_with (at_builtin; refine wpList_append_ext (B := W.heap.size) (W := W) (wr := wr) (k := 1) rfl (.tmp 32) (.tmp 34) rfl rfl rfl HE.out (BodyAt.nil _ _) rfl HW.out HW.out.size hl6.out ?_; intro v6 w6 ho6 hb6; have O6 := Lib.hid ho6; have B6 := Lib.hid hb6; clear ho6 hb6)
          all_goals
            go_roundw
            case rel => exact ⟨L ++ [(1, [])], k + 1, f2, O6.out, by go_num, by have := HK.out; omega, by have := HKM.out; omega, B6.out, HR2.out.1, by have := HK.out; have := HKM.out; simp; omega, HR2.out.2⟩
            case measure => have := HK.out; have := HKM.out; simp [intOf]; omega
        · have xb := hR0.out k
          have xb1 := hR0.out (k + 1)
          by_cases hbad : k + 1 = m ∨ bs.getD (k + 1) 0 < 2 ∨ m < k + bs.getD (k + 1) 0
          · have e : r = none := by rw [hr]; exact ropts_none hkm (by have := HM.out; have := HB0.out; omega) h3 hx hx1 hbad
            subst e
            have x0b : ((bs.getD k 0 : Nat) : Int) ≠ 0 := by omega
            have x0c : (((bs.getD k 0 : Nat) : Int) != 0) = true := bne_iff_ne.2 x0b
            have x1b : (((bs.getD k 0 : Nat) : Int) == 1) = false := beq_false_of_ne (by omega)
            have i1 : IntKind.i64.wrap ((k : Int) + 1) = (k : Int) + 1 := IntWalk.i64_in _ (by have := HM.out; omega)
            have i2 : IntKind.i64.wrap (4 * (y : Int)) = 4 * (y : Int) := IntWalk.i64_in _ (by have := HM.out; omega)
            by_cases e1 : k + 1 = m
            · have q1 : ((k : Int) + 1 == 4 * (y : Int)) = true := by rw [beq_iff_eq]; have := HM.out; omega
              generalize bs.getD k 0 = x at *
              clear hr h1 h2 h3 h4 hE hW hx hx1 hb2 hz hkm hcell hbad e1
              go_upto_region 10 with fail
              go_quiet (fail)
              go_wp2_with fail
              go_ret2
              exact ⟨below_drewN' BW.out _, rfl⟩
            · have q1 : ((k : Int) + 1 == 4 * (y : Int)) = false := by rw [beq_eq_false_iff_ne]; have := HM.out; omega
              have c1 := hcell (k + 1) (by have := HM.out; omega)
              have j0 : (0 : Int) ≤ (k : Int) + 1 := by omega
              have j1 : (k : Int) + 1 < (n : Int) := by have := HM.out; omega
              have j2 : ((k : Int) + 1).toNat = k + 1 := by omega
              have hk60 : k ≤ 60 := by have := HM.out; omega
              generalize bs.getD k 0 = x at *
              generalize bs.getD (k + 1) 0 = x1 at *
              have i3 : IntKind.i64.wrap (x1 : Int) = (x1 : Int) := IntWalk.i64_in _ (by omega)
              have i4 : IntKind.i64.wrap ((k : Int) + (x1 : Int)) = (k : Int) + (x1 : Int) := IntWalk.i64_in _ (by omega)
              by_cases e2 : x1 < 2
              · have q2 : (x1 : Int) < 2 := by omega
                clear hr h1 h2 h3 h4 hE hW hx hx1 hb2 hz hkm hcell hbad e1 e2 hk60
                go_upto_region 10 with fail
                go_quiet (fail)
                go_wp2_with fail
                go_ret2
                exact ⟨below_drewN' BW.out _, rfl⟩
              · have q2 : ¬ (x1 : Int) < 2 := by omega
                have q2b : (2 : Int) ≤ (x1 : Int) := by omega
                have q3 : 4 * (y : Int) < (k : Int) + (x1 : Int) := by have := HM.out; omega
                clear hr h1 h2 h3 h4 hE hW hx hx1 hb2 hz hkm hcell hbad e1 e2 hk60
                go_upto_region 10 with fail
                go_quiet (fail)
                go_wp2_with fail
                go_ret2
                exact ⟨below_drewN' BW.out _, rfl⟩
          · obtain ⟨f2, hf2, e⟩ := ropts_more (L := L) (bs := bs) (k := k) (m := m) (f := f) (by omega) (by have := HM.out; have := HB0.out; omega) h3 hx hx1 (by omega) (by omega)
            have HR2 := Lib.hid (And.intro hf2 (hr.trans e))
            have x0b : ((bs.getD k 0 : Nat) : Int) ≠ 0 := by omega
            have x0c : (((bs.getD k 0 : Nat) : Int) != 0) = true := bne_iff_ne.2 x0b
            have x1b : (((bs.getD k 0 : Nat) : Int) == 1) = false := beq_false_of_ne (by omega)
            have i1 : IntKind.i64.wrap ((k : Int) + 1) = (k : Int) + 1 := IntWalk.i64_in _ (by have := HM.out; omega)
            have i2 : IntKind.i64.wrap (4 * (y : Int)) = 4 * (y : Int) := IntWalk.i64_in _ (by have := HM.out; omega)
            have q1 : ((k : Int) + 1 == 4 * (y : Int)) = false := by rw [beq_eq_false_iff_ne]; have := HM.out; omega
            have c1 := hcell (k + 1) (by have := HM.out; omega)
            have HCW0 : b < W.heap.size ∧ W.cell? ⟨b, o + k, none⟩ = some (.int .u8 (bs.getD k 0 : Nat)) ∧ W.cell? ⟨b, o + (k + 1), none⟩ = some (.int .u8 (bs.getD (k + 1) 0 : Nat)) := by
              obtain ⟨b3, o3, e3, hb3, hcell3⟩ := (HR.out.below B1.out).addr (by have := HM.out; omega)
              cases e3
              exact ⟨hb3, hcell3 k (by have := HM.out; omega), hcell3 (k + 1) (by have := HM.out; omega)⟩
            have j0 : (0 : Int) ≤ (k : Int) + 1 := by omega
            have j1 : (k : Int) + 1 < (n : Int) := by have := HM.out; omega
            have j2 : ((k : Int) + 1).toNat = k + 1 := by omega
            have hk60 : k ≤ 60 := by have := HM.out; omega
            obtain ⟨l, hl⟩ : ∃ l, l = (bs.drop (k + 2)).take (bs.getD (k + 1) 0 - 2) := ⟨_, rfl⟩
            have hll : l.length = bs.getD (k + 1) 0 - 2 := by rw [hl, List.length_take, List.length_drop]; have := HM.out; have := HB0.out; omega
            have hl60 : Hid (l.length ≤ 140737488355328) := by show l.length ≤ _; exact Nat.le_trans (show l.length ≤ 255 by omega) (by decide)
            have hx2 : 2 ≤ bs.getD (k + 1) 0 := by omega
            have hk2 : k + bs.getD (k + 1) 0 ≤ m := by omega
            have hlb : Hid (∀ x ∈ l, x < 256) := fun x hx => by rw [hl] at hx; exact HB0.out.2 x (List.mem_of_mem_drop (List.mem_of_mem_take hx))
            have HP : Hid (∀ A', (l.length = 0 ∨ A' = some ⟨b, o + (k + 2), none⟩) → Row wr A' l.length l) := fun A' h => by
              rcases h with h | h
              · have h0 : l = [] := List.eq_nil_of_length_eq_zero h
                rw [h0]
                exact Row.nil _ _
              · rw [h, hll, hl]
                exact (HR.out.below BW.out).part (k + 2) _ (by have := HM.out; omega)
            rw [← hl] at HR2
            generalize bs.getD k 0 = x at *
            generalize bs.getD (k + 1) 0 = x1 at *
            have i3 : IntKind.i64.wrap (x1 : Int) = (x1 : Int) := IntWalk.i64_in _ (by omega)
            have i3b : IntKind.i64.wrap (x : Int) = (x : Int) := IntWalk.i64_in _ (by omega)
            obtain ⟨p, hp⟩ : ∃ p, p = k + 2 := ⟨_, rfl⟩
            obtain ⟨z, hz2⟩ : ∃ z, z = k + x1 := ⟨_, rfl⟩
            have HPZ := Lib.hid (And.intro hp hz2)
            rw [← hp] at HP
            rw [← hz2] at HR2
            obtain ⟨i1b, i4, i4b, q2, q2b, q3, q3b, s1, s2, s7⟩ := ropt_ints HM.out.1 HM.out.2.2.2 (Nat.le_trans HM.out.2.1 HC.out.1) hx2 hk2 hp hz2
            have HQ : Hid (z - p = l.length) := by show _ = _; rw [hll, hp, hz2]; exact Nat.add_sub_add_left _ _ _
            have hbw := Lib.hid hb2
            have HCW : Hid (b < W.heap.size ∧ W.cell? ⟨b, o + k, none⟩ = some (.int .u8 (x : Nat)) ∧ W.cell? ⟨b, o + (k + 1), none⟩ = some (.int .u8 (x1 : Nat))) := HCW0
            have CJ : Hid (∀ (W2 : World) (g : Nat) (A' : Option Addr) (c' c2 q : Nat), q = l.length → Below wr.heap.size wr W2 → W2.cell? ⟨g, 0, none⟩ = some (.slice A' q c') → (l.length = 0 ∨ A' = some ⟨b, o + p, none⟩) →
                Calls Tryz.prog 4 #[.slice (some ⟨g, 0, none⟩) 1 c2] W2 fun e w' => ∃ A2 c2, e = .returned (.slice A2 l.length c2) ∧ BodyAt w' u6.ownBlock (.slice A2 l.length c2) l ∧ Below wr.heap.size wr w') := fun W2 g A' c' c2 q hq hb hc hA => by
              subst hq
              refine (join_one g l.length c' c2 A' l W2 hl60.out ((HP.out A' hA).below hb) hc).mono ?_
              rintro e w' ⟨v, rfl, ho, hb'⟩
              obtain ⟨A2, c2, e2, _⟩ := ho.out hlb.out
              rw [e2] at ho ⊢
              refine ⟨A2, c2, rfl, BodyAt.ofOut ho hlb.out fun k hk => ?_, hb.trans (hb'.mono hb.size)⟩
              have h1 := (HE.out.lt k hk).2
              exact Nat.lt_of_lt_of_le h1 hb.size
            have hl6 : Hid (L.length ≤ 1000000) := by show L.length ≤ 1000000; have := HK.out; omega
            have RN := Lib.hid (ropt_next HK.out ⟨hkm, hbad⟩ HPZ.out)
            clear hr h1 h2 h3 h4 hE hW hx hx1 hb2 hz hkm hcell hbad e hf2 hk60 hl hll HP hp hz2 hx2 hk2
            go_upto_region 10 with fail
            go_quiet (fail)
            obtain ⟨w3, ew3⟩ : ∃ w3, w3 = wr.drewN nq := ⟨_, rfl⟩
            have B3 : Hid (Below wr.heap.size wr w3) := by show Below _ _ _; rw [ew3]; exact below_drewN' (Below.refl _ _) _
            have hc0 : w3.cell? ⟨b, o + k, none⟩ = some (.int .u8 (x : Nat)) := by rw [ew3]; exact c0
            have hc1 : w3.cell? ⟨b, o + (k + 1), none⟩ = some (.int .u8 (x1 : Nat)) := by rw [ew3]; exact c1
            have HC0 := Lib.hid c0
            have HC1 := Lib.hid c1
            have HT : Hid (w3.cell? ⟨b, o + k, none⟩ = some (.int .u8 (x : Nat)) ∧ w3.cell? ⟨b, o + (k + 1), none⟩ = some (.int .u8 (x1 : Nat))) := ⟨hc0, hc1⟩
            rw [← ew3]
            clear ew3 x0 c0 c1 q1 q2 q3 kI x0b x0c x1b i2 q3b
            by_cases hcc : c = p
            · have hl0 : Hid (l.length = 0) := (ropt_eq HQ.out s1 s2 hcc).1
              obtain rfl : z = p := (ropt_eq HQ.out s1 s2 hcc).2
              obtain rfl : c = z := hcc
              go_upto_region 12 with fail
              go_region_held3 (fun w' => w'.cell? ⟨b, o + k, none⟩ = some (.int .u8 (x : Nat)) ∧ w'.cell? ⟨b, o + (k + 1), none⟩ = some (.int .u8 (x1 : Nat)))
                (first | exact ⟨hc0, hc1⟩ | exact hTwo | go_keep)
                (first
                  | (go_at_call 4; refine (CJ.out _ _ _ _ _ _ hl0.out.symm (by exact (B3.out.alloc (by exact B3.out.size) _).drew) (by exact new_cell _ _ _ _ rfl) (.inl hl0.out)).mono ?_; rintro e w' ⟨A2, c2, rfl, hbd, hbl⟩
                     have hTwo : w'.cell? ⟨b, o + k, none⟩ = some (.int .u8 (x : Nat)) ∧ w'.cell? ⟨b, o + (k + 1), none⟩ = some (.int .u8 (x1 : Nat)) := ⟨(hbl.cell (p := ⟨b, o + k, none⟩) hbw.out).trans HC0.out, (hbl.cell (p := ⟨b, o + (k + 1), none⟩) hbw.out).trans HC1.out⟩
                     have HBD := Lib.hid hbd
                     have HBL := Lib.hid hbl
                     clear hbd hbl)
                  | (refine step_append_ext (B := W.heap.size) (W := W) (k := x) (l := l) (by rfl) (.tmp 66) (.tmp 87) (by rfl) (by rfl) (by rfl) (by exact heap_alloc_new _ _) (by exact HE.out.below (HBL.out.alloc HBL.out.size _)) (by exact HBD.out.below ((Below.refl _ _).alloc (Nat.le_refl _) _)) (by rfl) (by exact (below_both HW.out HBL.out).alloc (below_both HW.out HBL.out).size _) (by simp; exact Nat.le_succ_of_le (below_both HW.out HBL.out).size) hl6.out ?_; intro v' w'' ho' hb'
                     have hTwo : w''.cell? ⟨b, o + k, none⟩ = some (.int .u8 (x : Nat)) ∧ w''.cell? ⟨b, o + (k + 1), none⟩ = some (.int .u8 (x1 : Nat)) := ⟨(hb'.cell (p := ⟨b, o + k, none⟩) HCW.out.1).trans HCW.out.2.1, (hb'.cell (p := ⟨b, o + (k + 1), none⟩) HCW.out.1).trans HCW.out.2.2⟩)
                  | fail)
              all_goals
                go_wp2_with fail
                go_roundw
                case rel => exact ⟨L ++ [(x, l)], _, f2, ho', by go_num, RN.out.1, RN.out.2.1, hb', HR2.out.1, by rw [List.length_append]; exact RN.out.2.2.1, HR2.out.2⟩
                case measure => simp only [intOf, Int.toNat_natCast]; exact RN.out.2.2.2
            · go_upto_region 12 with fail
              go_region_held3 (fun w' => w'.cell? ⟨b, o + k, none⟩ = some (.int .u8 (x : Nat)) ∧ w'.cell? ⟨b, o + (k + 1), none⟩ = some (.int .u8 (x1 : Nat)))
                (first | exact ⟨hc0, hc1⟩ | exact hTwo | go_keep)
                (first
                  | (go_at_call 4; refine (CJ.out _ _ _ _ _ _ HQ.out (by exact (B3.out.alloc (by exact B3.out.size) _).drew) (by exact new_cell _ _ _ _ rfl) (.inr rfl)).mono ?_; rintro e w' ⟨A2, c2, rfl, hbd, hbl⟩
                     have hTwo : w'.cell? ⟨b, o + k, none⟩ = some (.int .u8 (x : Nat)) ∧ w'.cell? ⟨b, o + (k + 1), none⟩ = some (.int .u8 (x1 : Nat)) := ⟨(hbl.cell (p := ⟨b, o + k, none⟩) hbw.out).trans HC0.out, (hbl.cell (p := ⟨b, o + (k + 1), none⟩) hbw.out).trans HC1.out⟩
                     have HBD := Lib.hid hbd
                     have HBL := Lib.hid hbl
                     clear hbd hbl)
                  | (refine step_append_ext (B := W.heap.size) (W := W) (k := x) (l := l) (by rfl) (.tmp 66) (.tmp 87) (by rfl) (by rfl) (by rfl) (by exact heap_alloc_new _ _) (by exact HE.out.below (HBL.out.alloc HBL.out.size _)) (by exact HBD.out.below ((Below.refl _ _).alloc (Nat.le_refl _) _)) (by rfl) (by exact (below_both HW.out HBL.out).alloc (below_both HW.out HBL.out).size _) (by simp; exact Nat.le_succ_of_le (below_both HW.out HBL.out).size) hl6.out ?_; intro v' w'' ho' hb'
                     have hTwo : w''.cell? ⟨b, o + k, none⟩ = some (.int .u8 (x : Nat)) ∧ w''.cell? ⟨b, o + (k + 1), none⟩ = some (.int .u8 (x1 : Nat)) := ⟨(hb'.cell (p := ⟨b, o + k, none⟩) HCW.out.1).trans HCW.out.2.1, (hb'.cell (p := ⟨b, o + (k + 1), none⟩) HCW.out.1).trans HCW.out.2.2⟩)
                  | fail)
              all_goals
                go_wp2_with fail
                go_roundw
                case rel => exact ⟨L ++ [(x, l)], _, f2, ho', by go_num, RN.out.1, RN.out.2.1, hb', HR2.out.1, by rw [List.length_append]; exact RN.out.2.2.1, HR2.out.2⟩
                case measure => simp only [intOf, Int.toNat_natCast]; exact RN.out.2.2.2
end Go.Proofs.YtmchclpkjjmocaaGreat
