/-
  A region that draws its order: what comes ahead of operation m leaves the world alone, m does what it does, and what comes behind it leaves alone the world that m left. Of whatever program. And the load of a whole variable ahead of m.
-/
import Derived.Test.YtmchclpkjjmocaaGreatRegAlloc
import Derived.Test.YtmchclpkjjmocaaGreatArrV
namespace Go.Proofs.YtmchclpkjjmocaaGreat
set_option linter.unusedVariables false
section
variable {P : Program} {ops : Array Oper} {md : Region.Mode}

/-- All that is behind operation n waits for n or for one behind it. -/
def behindB (ops : Array Oper) (n : Nat) : Bool := (List.range ops.size).all fun t => decide (t ≤ n) || (List.range t).any fun s => decide (n ≤ s) && Region.waitsFor .any ops t s
theorem late_of {n : Nat} (hs : Region.sinkB .any ops n = true) (hb : behindB ops n = true) (hn : n < ops.size) : Late .any ops n := by
  intro listed inv i hin hun t ht hr
  obtain ⟨_, ot, hot, hall⟩ := mem_ready.1 hr
  by_cases htn : t = n
  · subst htn
    have key : ∀ (d i : Nat), t - i = d → i < t → listed.getD i true = false → False := by
      intro d
      induction d using Nat.strongRecOn with
      | _ d ih =>
        intro i hd hi hun
        obtain ⟨j, hj, hj2⟩ := List.any_eq_true.1 (List.all_eq_true.1 hs i (List.mem_range.2 hi))
        simp only [Bool.and_eq_true, decide_eq_true_eq] at hj2
        obtain ⟨oj, hoj, e, he, hbd, hon⟩ := Region.waitsFor_spec hj2.2
        have hjt : j ≤ t := by have := List.mem_range.1 hj; omega
        have hlist : listed.getD j false = true ∨ j = t → False := fun h => by
          have h2 : listed.getD e.on false = true := by
            rcases h with h | h
            · exact inv.closed j oj hoj h e he hbd
            · subst h
              obtain rfl : oj = ot := Option.some.inj (hoj.symm.trans hot)
              exact hall e he hbd
          rw [hon, getD_both hun] at h2
          cases h2
        by_cases hjt' : j = t
        · exact hlist (.inr hjt')
        · cases hl : listed.getD j false with
          | true => exact hlist (.inl hl)
          | false => exact ih (t - j) (by omega) j rfl (by omega) (getD_in (by rw [inv.size]; omega) hl)
    exact key _ i rfl hin hun
  · have h1 := List.all_eq_true.1 hb t (List.mem_range.2 (Array.getElem?_eq_some_iff.1 hot).1)
    simp only [Bool.or_eq_true, decide_eq_true_eq] at h1
    rcases h1 with h1 | h1
    · omega
    · obtain ⟨s, hs1, hs2⟩ := List.any_eq_true.1 h1
      simp only [Bool.and_eq_true, decide_eq_true_eq] at hs2
      obtain ⟨oj, hoj, e, he, hbd, hon⟩ := Region.waitsFor_spec hs2.2
      obtain rfl : oj = ot := Option.some.inj (hoj.symm.trans hot)
      have h2 := hall e he hbd
      have hst : s < ops.size := by have h3 := List.mem_range.1 hs1; have h4 := (Array.getElem?_eq_some_iff.1 hot).1; omega
      rw [hon, getD_both (inv.tail s hs2.1 hst)] at h2
      cases h2
def OneW (P : Program) (ops : Array Oper) (w0 : World) (i : Nat) (o : Oper) (v : Value) (a : Act) : Prop := YieldsAt P ops w0 o v a
theorem steady_one (w0 : World) : Steady ops (OneW P ops w0) := fun i o v a a' he hw h => h.of_same he hw
theorem any_of_head1 {n g : Nat} {w0 : World} {L : Array Bool → Act → Prop} {Q' : Exit → Act → World → Prop} (hL : ∀ listed a, L listed a → wpAny P md ops Q' g listed a w0) :
    ∀ (f : Nat) (listed : Array Bool) (a : Act), headB md ops (OneW P ops w0) n L f listed a → wpAny P md ops Q' (f + g) listed a w0 := by
  intro f
  induction f with
  | zero => intro listed a h; rw [Nat.zero_add]; exact hL _ _ h
  | succ f ih =>
    intro listed a h
    rw [show f + 1 + g = (f + g) + 1 by omega]
    refine ⟨fun h0 => absurd h0 h.1, fun i hi => ?_⟩
    obtain ⟨hun, o, ho, _⟩ := mem_ready.1 hi
    obtain ⟨v, hy, hK⟩ := (h.2 i hi).2 o ho
    have h1 := ih _ _ hK
    have hy' : YieldsAt P ops w0 o v a := hy
    exact wpOp_of_stOp (K := fun a' => a' = a.put o.dst v) (fun a' e => by subst e; exact h1) (hy'.stOp ho rfl)
theorem walk_one {w0 : World} {Q : Act → Prop} : ∀ (l : List Oper) (k : Nat) (a : Act), wpStill P ops w0 Q l a → walkB (OneW P ops w0) Q k l a
  | [], _, _, h => h
  | o :: l, k, a, h => by
    obtain ⟨v, hy, hr⟩ := yields_of_still h
    exact ⟨v, hy, walk_one l (k + 1) _ hr⟩
/-- No way out but the common one. -/
def onlyN (N : Act → World → Prop) : Exit → Act → World → Prop
  | .normal, a, w => N a w
  | _, _, _ => False
theorem wp_onlyN {o : Oper} {a : Act} {w : World} {K K' N : Act → World → Prop} {Q : Exit → Act → World → Prop} (h : o.wp P a w K (onlyN N)) (hK : ∀ a w, K a w → K' a w) : o.wp P a w K' Q := by
  have h2 := Oper.wp_mono hK h
  unfold Oper.wp at h2 ⊢
  generalize (execOp a.eval o).run P w = r at *
  cases r with
  | ok n w' =>
    cases n <;> simp only [Oper.upon] at h2 ⊢ <;> try exact h2
    case enter f args =>
      refine h2.mono fun e w'' he => ?_
      cases e with
      | returned v => exact he
      | panicked chain => exact he.elim
      | outgrown => obtain ⟨_, _, hf⟩ := he; exact hf.elim
  | halt x w' =>
    cases x <;> simp only [Oper.upon] at h2 ⊢ <;> first | exact h2.elim | exact h2
/-- What is asked of such a region, as a Bool. -/
def callB (ops : Array Oper) (n : Nat) : Bool :=
  Region.noSelect ops && decide (n < ops.size) && Region.sinkB .any ops n && behindB ops n &&
    lexHd .any ops (fun k listed => decide (Region.ready .any ops listed = [k]) && Region.lexFrom .any ops (ops.size - (n + 1)) (k + 1) (listed.setIfInBounds k true)) n 0 (Array.replicate ops.size false)
theorem wp_region_still_call {id : Nat} {Q : Exit → Act → World → Prop} {a : Act} {w : World} {l : List Oper} (m : Nat) (om : Oper) (hm : P.follows .mixedOrders = true) (hB : callB l.toArray m = true) (hom : l[m]? = some om)
    (h : wpStill P l.toArray { w with drawn := w.drawn + 1 } (fun aF => wpList P l.toArray (onlyN fun a2 w2 => wpStill P l.toArray w2 (fun a3 => Q .normal a3 w2) (l.drop (m + 1)) a2) [om] aF { w with drawn := w.drawn + 1 }) (l.take m) a) :
    (Code.region id l.toArray true).wp P Q a w := by
  simp only [callB, Bool.and_eq_true, decide_eq_true_eq] at hB
  obtain ⟨⟨⟨⟨hsel, hn⟩, hs⟩, hbh⟩, hlex⟩ := hB
  have hn' : m < l.length := by simpa using hn
  have htl : (l.take m).length = m := by simp; omega
  have inv0 : HeadInv .any l.toArray m (Array.replicate l.toArray.size false) :=
    ⟨by simp, fun j oj _ hl => (by rw [getD_replicate_false] at hl; cases hl), fun t _ ht => getD_in (by simpa using ht) (getD_replicate_false _ _)⟩
  have H := headB_lex (md := .any) (base := fun k listed => decide (Region.ready .any l.toArray listed = [k]) && Region.lexFrom .any l.toArray (l.toArray.size - (m + 1)) (k + 1) (listed.setIfInBounds k true))
    (steady_one { w with drawn := w.drawn + 1 }) (fun listed h j hj => by
      simp only [Bool.and_eq_true, decide_eq_true_eq] at h
      rw [h.1] at hj
      have : j = m := by simpa using hj
      omega) hsel (late_of hs hbh hn) (l.take m) 0 _ a (fun j hj => by
    have hj' : j < m := by rw [htl] at hj; exact hj
    simp [hj']) (by simpa using htl) inv0 (fun i hi => absurd hi (Nat.not_lt_zero _)) (by rw [htl]; exact hlex) (by omega) (walk_one (l.take m) 0 a h)
  refine wp_region_any hm ?_
  have hsz : l.toArray.size = l.length := by simp
  have hdl : (l.drop (m + 1)).length = l.toArray.size - (m + 1) := by simp
  have key := any_of_head1 (P := P) (md := .any) (Q' := Q) (g := (l.toArray.size - (m + 1)) + 1) (fun listed a' hL => by
    obtain ⟨⟨hb, _, _⟩, hw⟩ := hL
    simp only [Bool.and_eq_true, decide_eq_true_eq] at hb
    obtain ⟨hr, hlf⟩ := hb
    refine ⟨fun h0 => (by rw [hr] at h0; cases h0), fun i hi => ?_⟩
    rw [hr] at hi
    obtain rfl : i = m := by simpa using hi
    have ho : l.toArray[i]? = some om := by simpa using hom
    have hrest : ∀ (a2 : Act) (w2 : World), wpStill P l.toArray w2 (fun a3 => Q .normal a3 w2) (l.drop (i + 1)) a2 → wpAny P .any l.toArray Q (l.toArray.size - (i + 1)) (listed.setIfInBounds i true) a2 w2 := fun a2 w2 h2 => by
      have h3 := wpAnyS_lex (md := .any) hsel (l.drop (i + 1)) (i + 1) (listed.setIfInBounds i true) a2 (fun j => by simp [List.getElem?_drop]) (by rw [hdl]; exact hlf) h2
      rw [hdl] at h3
      exact wpAny_of_still (fun _ h => h) _ _ _ h3
    unfold wpOp
    simp only [ho]
    unfold wpList at hw
    split at hw
    · rename_i hwt
      rw [if_pos hwt]
      rcases hw with hw | ⟨_, _, _, hw⟩
      · exact .inl (wp_onlyN hw hrest)
      · exact hw.elim
    · rename_i hwt
      rw [if_neg hwt]
      exact hrest _ _ hw) _ _ _ H
  rw [htl, show m + (l.toArray.size - (m + 1) + 1) = l.toArray.size by omega] at key
  exact key
end
/-- The load of a whole variable, where the world stands still. -/
theorem wpStill_load_v {ops : Array Oper} {rest : List Oper} {o : Oper} {a : Act} {w : World} {Q : Act → Prop} (hgd : o.guard = none) (t : TypeId) (x : Operand) (ho : o.op = .load t x)
    (g : Nat) (hx : a.eval x = .pointer (some ⟨g, 0, none⟩)) {n : Nat} {cs : List Value} (ht : RowTy t n) (h : ArrV t w g cs) (hl : cs.length = n) (hk : wpStill Tryz.prog ops w Q rest (a.put o.dst (.agg cs.toArray))) : wpStill Tryz.prog ops w Q (o :: rest) a := by
  refine wpStill_step fun K hK => ?_
  rw [if_pos (by simp [Region.wanted, hgd])]
  unfold Oper.still execOp
  simp only [ho, hx, Sem.run_bind, Sem.run_pure, h.loadAt ht hl, Result.andThen_ok, Oper.stillUpon_value]
  exact hK _ hk
end Go.Proofs.YtmchclpkjjmocaaGreat
