/-
  The document's Options of layer 10.
-/
import Derived.Test.YtlopmkmcjcijcaaRFh1
import Derived.Test.YtlopmkmcjcijcaaFh7
import Derived.Test.YtlopmkmcjcijcaaJoin
import Derived.Test.YtlopmkmcjcijcaaFh14
import Derived.Deep.RegionHeld3
namespace Go.Proofs.Ytlopmkmcjcijcaa
open Go.RowKit
set_option linter.unusedVariables false

/-- 'append(out, api.Ext{..})' as a step of a region that draws its order: the new element lies in block g. -/
theorem step_append_ext {ops : Array Oper} {o : Oper} {a : Act} {K : Act → World → Prop} {Q : Exit → Act → World → Prop} {E : Prop} (hgd : o.guard = none) (s x : Operand)
    (ho : o.op = .call { callee := .builtin .append, args := #[s, x], argTypes := #[34, 34] })
    {B g : Nat} {W w1 : World} {v bv : Value} {M : List (Nat × List Nat)} {k : Nat} {l : List Nat} (hs : a.eval s = v) (hx : a.eval x = .slice (some ⟨g, 0, none⟩) 1 1)
    (hg : w1.heap[g]? = some (.cells #[.int .i64 (k : Nat), bv] 45 (0, 0))) (hE : Exts B w1 v M) (hbody : BodyAt w1 v.ownBlock bv l) (hone : bv.oneCell' = true) (hb : Below B W w1) (hB : B ≤ w1.heap.size) (hlen : M.length ≤ 1000000)
    (h : ∀ v' w', Exts B w' v' (M ++ [(k, l)]) → Below B W w' → K (a.put o.dst v') w') : if Region.wanted o (yielded ops a.tmps) = true then Oper.wp Try.prog o a w1 K Q else E := by
  have hw : Region.wanted o (yielded ops a.tmps) = true := by simp [Region.wanted, hgd]
  rw [if_pos hw]
  obtain ⟨i0, h1, h2, h3, h4⟩ := info_parts ext_info
  obtain ⟨L, l1, l2, l3⟩ := hE
  obtain ⟨v', w', hr, ho', hgr, _, hat⟩ := run_append_own_at (P := Try.prog) w1 B 34 o.type 45 i0 _ 2 32 Try.underlying34 h1 h2 h3 h4 rfl (by decide) v M.length (ecells L) l2
    ⟨g, 0, none⟩ 1 1 [.int .i64 (k : Nat), bv] rfl (fun j u hj => by
      rw [add_flat, cell_of_row _ g (0 + j) _ _ _ hg, Nat.zero_add, ← Array.getElem?_toList]
      exact hj) (ext_one k hone) (by unfold maxLen; omega) (by omega) hB
  have hsz := hgr.size
  have hK := h v' w' ⟨L ++ [(k, bv)], by simp [l1], by rw [ecells_snoc]; simpa using ho', fun i p m hp hm => by
    by_cases hi : i < M.length
    · rw [List.getElem?_append_left (by omega)] at hp
      rw [List.getElem?_append_left hi] at hm
      exact ⟨(l3 i p m hp hm).1, (l3 i p m hp hm).2.grown hgr hsz hat⟩
    · have hi2 : i = M.length := by
        have h9 : i < (M ++ [(k, l)]).length := by
          rcases Nat.lt_or_ge i (M ++ [(k, l)]).length with h | h
          · exact h
          · rw [List.getElem?_eq_none h] at hm; cases hm
        simp at h9
        omega
      subst hi2
      rw [← l1, List.getElem?_append_right (Nat.le_refl _), Nat.sub_self] at hp
      rw [List.getElem?_append_right (Nat.le_refl _), Nat.sub_self] at hm
      simp at hp hm
      subst hp hm
      exact ⟨rfl, hbody.grown hgr hsz hat⟩⟩ (hb.grown hgr hB (fun k hk => (World.ownsRow.lt l2 k hk).1))
  unfold Oper.wp execOp
  simp only [ho, resolve, invoke, builtin, Sem.run_bind, Sem.run_pure, Result.andThen_ok, List.map_toArray, List.map_cons, List.map_nil, hs, hx, hr]
  exact hK
theorem BodyAt.ofOut {B : Nat} {w : World} {v : Value} {l : List Nat} {g : Option Nat} (h : OutIs B w v l) (hb : ∀ x ∈ l, x < 256) (hg : ∀ k, g = some k → k < B) : BodyAt w g v l := by
  obtain ⟨A, c, e, h1, h2, h3⟩ := h.out hb
  refine ⟨A, c, e, h1, h3, fun ad ha => ?_⟩
  rcases h.2 with ⟨hv, h0⟩ | ⟨g2, cap, cur, hv, hB, hh, _⟩
  · rw [hv] at e
    injection e with e1 e2 e3
    rw [← e1] at ha
    cases ha
  · rw [hv] at e
    injection e with e1 e2 e3
    rw [← e1] at ha
    cases ha
    refine ⟨fun e => ?_, ?_⟩
    · have := hg _ e
      simp at this
      omega
    · rcases Nat.lt_or_ge g2 w.heap.size with hlt | hge
      · exact hlt
      · rw [Array.getElem?_eq_none hge] at hh; cases hh
theorem Exts.mono {B B' : Nat} {w : World} {v : Value} {M : List (Nat × List Nat)} (h : Exts B w v M) (hB : B' ≤ B) : Exts B' w v M := by
  obtain ⟨L, h1, h2, h3⟩ := h
  refine ⟨L, h1, ⟨h2.1, ?_⟩, h3⟩
  rcases h2.2 with h2 | ⟨g, cap, cur, hv, hg, r⟩
  · exact .inl h2
  · exact .inr ⟨g, cap, cur, hv, Nat.le_trans hB hg, r⟩
theorem take_drop_at {bs : List Nat} {k q i : Nat} (hi : i < q) : ((bs.drop k).take q).getD i 0 = bs.getD (k + i) 0 := by
  rw [List.getD_eq_getElem?_getD, List.getD_eq_getElem?_getD, List.getElem?_take, if_pos hi, List.getElem?_drop]
/-- Where the loop stands: the options so far, and the place. -/
def ROptsInv (w W : World) (m : Nat) (bs : List Nat) (r : Option (List (Nat × List Nat))) (out at' : Value) (V : World) : Prop :=
  ∃ (L : List (Nat × List Nat)) (k f : Nat), Exts W.heap.size V out L ∧ at' = .int .i64 (k : Nat) ∧ 20 ≤ k ∧ k ≤ m ∧ Below W.heap.size W V ∧ m - k ≤ f ∧ L.length + (m - k) ≤ 60 ∧ r = (optsF f ((bs.drop k).take (m - k))).map fun M => L ++ M
theorem ropts_none {bs : List Nat} {k m f : Nat} {L : List (Nat × List Nat)} (hk : k < m) (hm : m ≤ bs.length) (hf : m - k ≤ f) (h0 : bs.getD k 0 ≠ 0) (h1 : bs.getD k 0 ≠ 1) (h : k + 1 = m ∨ bs.getD (k + 1) 0 < 2 ∨ m < k + bs.getD (k + 1) 0) :
    (optsF f ((bs.drop k).take (m - k))).map (fun M => L ++ M) = none := by
  obtain ⟨f2, rfl⟩ : ∃ f2, f = f2 + 1 := ⟨f - 1, by omega⟩
  have hl : ((bs.drop k).take (m - k)).length = m - k := by rw [List.length_take, List.length_drop]; omega
  have e0 : ((bs.drop k).take (m - k)).getD 0 0 = bs.getD k 0 := take_drop_at (by omega)
  rw [optsF, if_neg (by rw [hl, e0]; omega)]
  have : optOne ((bs.drop k).take (m - k)) = none := by
    unfold optOne
    rw [hl, e0, if_neg h1]
    by_cases h2 : m - k < 2
    · rw [if_pos h2]
    · have e1 : ((bs.drop k).take (m - k)).getD 1 0 = bs.getD (k + 1) 0 := take_drop_at (by omega)
      rw [if_neg h2, e1, if_pos (by omega)]
  rw [this]
  rfl
theorem ropts_end {bs : List Nat} {k m f : Nat} {L : List (Nat × List Nat)} (h : k = m ∨ (k < m ∧ m ≤ bs.length ∧ m - k ≤ f ∧ bs.getD k 0 = 0)) : (optsF f ((bs.drop k).take (m - k))).map (fun M => L ++ M) = some L := by
  rcases h with rfl | ⟨h1, h2, h3, h4⟩
  · rw [Nat.sub_self, List.take_zero, optsF_nil]
    simp
  · obtain ⟨f2, rfl⟩ : ∃ f2, f = f2 + 1 := ⟨f - 1, by omega⟩
    have e0 : ((bs.drop k).take (m - k)).getD 0 0 = bs.getD k 0 := take_drop_at (by omega)
    rw [optsF, if_pos (.inr (by rw [e0, h4]))]
    simp
theorem ropts_one {bs : List Nat} {k m f : Nat} {L : List (Nat × List Nat)} (hk : k < m) (hm : m ≤ bs.length) (hf : m - k ≤ f) (h1 : bs.getD k 0 = 1) :
    ∃ f2, m - (k + 1) ≤ f2 ∧ (optsF f ((bs.drop k).take (m - k))).map (fun M => L ++ M) = (optsF f2 ((bs.drop (k + 1)).take (m - (k + 1)))).map fun M => (L ++ [(1, [])]) ++ M := by
  obtain ⟨f2, rfl⟩ : ∃ f2, f = f2 + 1 := ⟨f - 1, by omega⟩
  refine ⟨f2, by omega, ?_⟩
  have hl : ((bs.drop k).take (m - k)).length = m - k := by rw [List.length_take, List.length_drop]; omega
  have e0 : ((bs.drop k).take (m - k)).getD 0 0 = bs.getD k 0 := take_drop_at (by omega)
  have e2 : ((bs.drop k).take (m - k)).drop 1 = (bs.drop (k + 1)).take (m - (k + 1)) := by rw [List.drop_take, List.drop_drop]; congr 1
  rw [optsF, if_neg (by rw [hl, e0]; omega)]
  have : optOne ((bs.drop k).take (m - k)) = some (1, 1, []) := by
    unfold optOne
    rw [e0, if_pos h1]
  rw [this]
  show (((optsF f2 (((bs.drop k).take (m - k)).drop 1)).map fun M => (1, []) :: M).map fun M => L ++ M) = _
  rw [e2, Option.map_map]
  congr 1
  funext M
  simp
theorem ropts_more {bs : List Nat} {k m f : Nat} {L : List (Nat × List Nat)} (hk : k + 1 < m) (hm : m ≤ bs.length) (hf : m - k ≤ f) (h0 : bs.getD k 0 ≠ 0) (h1 : bs.getD k 0 ≠ 1) (h2 : 2 ≤ bs.getD (k + 1) 0) (h3 : k + bs.getD (k + 1) 0 ≤ m) :
    ∃ f2, m - (k + bs.getD (k + 1) 0) ≤ f2 ∧ (optsF f ((bs.drop k).take (m - k))).map (fun M => L ++ M) = (optsF f2 ((bs.drop (k + bs.getD (k + 1) 0)).take (m - (k + bs.getD (k + 1) 0)))).map fun M => (L ++ [(bs.getD k 0, (bs.drop (k + 2)).take (bs.getD (k + 1) 0 - 2))]) ++ M := by
  obtain ⟨f2, rfl⟩ : ∃ f2, f = f2 + 1 := ⟨f - 1, by omega⟩
  refine ⟨f2, by omega, ?_⟩
  have hl : ((bs.drop k).take (m - k)).length = m - k := by rw [List.length_take, List.length_drop]; omega
  have e0 : ((bs.drop k).take (m - k)).getD 0 0 = bs.getD k 0 := take_drop_at (by omega)
  have e1 : ((bs.drop k).take (m - k)).getD 1 0 = bs.getD (k + 1) 0 := take_drop_at (by omega)
  generalize bs.getD (k + 1) 0 = y at *
  have e2 : ((bs.drop k).take (m - k)).drop y = (bs.drop (k + y)).take (m - (k + y)) := by rw [List.drop_take, List.drop_drop]; congr 1; omega
  have e3 : (((bs.drop k).take (m - k)).drop 2).take (y - 2) = (bs.drop (k + 2)).take (y - 2) := by rw [List.drop_take, List.drop_drop, List.take_take]; congr 1; omega
  rw [optsF, if_neg (by rw [hl, e0]; omega)]
  have : optOne ((bs.drop k).take (m - k)) = some (bs.getD k 0, y, (bs.drop (k + 2)).take (y - 2)) := by
    unfold optOne
    rw [hl, e0, e1, e3, if_neg h1, if_neg (by omega), if_neg (by omega)]
  rw [this]
  show (((optsF f2 (((bs.drop k).take (m - k)).drop y)).map fun M => (bs.getD k 0, (bs.drop (k + 2)).take (y - 2)) :: M).map fun M => L ++ M) = _
  rw [e2, Option.map_map]
  congr 1
  funext M
  simp
theorem w64_in {x : Int} (h0 : 0 ≤ x) (h1 : x ≤ 1000000) : wrap64 x = x := by unfold wrap64; omega
theorem ropt_eq {z p c q : Nat} (h : z - p = q) (s1 : (p : Int) ≤ (z : Int)) (s2 : (z : Int) ≤ (c : Int)) (hcc : c = p) : q = 0 ∧ z = p := by omega
theorem ropt_next {k m x1 p z f len : Nat} (h : 20 ≤ k ∧ k ≤ m ∧ m - k ≤ f ∧ len + (m - k) ≤ 60) (hb : k < m ∧ ¬ (k + 1 = m ∨ x1 < 2 ∨ m < k + x1)) (hpz : p = k + 2 ∧ z = k + x1) : 20 ≤ z ∧ z ≤ m ∧ len + 1 + (m - z) ≤ 60 ∧ m - z < m - k := by omega
theorem ropt_ints {k x1 y m c p z : Nat} (hm : m = 4 * y) (hm60 : m ≤ 60) (hmc : m ≤ c) (hx : 2 ≤ x1) (hk : k + x1 ≤ m) (hp : p = k + 2) (hz : z = k + x1) :
    IntKind.i64.wrap ((k : Int) + 2) = (p : Int) ∧ IntKind.i64.wrap ((k : Int) + (x1 : Int)) = (z : Int) ∧ wrap64 ((k : Int) + (x1 : Int)) = (z : Int) ∧ ¬ (x1 : Int) < 2 ∧ (2 : Int) ≤ (x1 : Int) ∧ ¬ 4 * (y : Int) < (z : Int) ∧ (z : Int) ≤ 4 * (y : Int) ∧ (p : Int) ≤ (z : Int) ∧ (z : Int) ≤ (c : Int) ∧ (p : Int) ≤ (c : Int) := by
  subst hp hz
  refine ⟨?_, ?_, ?_, by omega, by omega, by omega, by omega, by omega, by omega, by omega⟩
  · rw [IntWalk.i64_in _ (by omega)]; omega
  · rw [IntWalk.i64_in _ (by omega)]; omega
  · rw [w64_in (by omega) (by omega)]; omega
end Go.Proofs.Ytlopmkmcjcijcaa
