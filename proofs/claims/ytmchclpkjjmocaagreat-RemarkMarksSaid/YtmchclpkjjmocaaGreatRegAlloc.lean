/-
  A region that draws its order, of whose operations all leave the world alone but one that makes a block (nobody waits for it but what comes last): one walk in the order of the text serves all orders. Of whatever program.
-/
import Derived.Test.YtmchclpkjjmocaaGreatBase
import Derived.StillTailTactics
namespace Go.Proofs.YtmchclpkjjmocaaGreat
set_option linter.unusedVariables false
section
variable {P : Program} {ops : Array Oper} {md : Region.Mode}

/-- What an operation yields hangs on what it looks at alone. -/
def Steady (ops : Array Oper) (Y : Nat → Oper → Value → Act → Prop) : Prop :=
  ∀ i o v a a', execOp (Act.eval a') o = execOp a.eval o → Region.wanted o (yielded ops a'.tmps) = Region.wanted o (yielded ops a.tmps) → Y i o v a → Y i o v a'
def oneB (ops : Array Oper) (Y : Nat → Oper → Value → Act → Prop) (i : Nat) (K : Act → Prop) (a : Act) : Prop := ∀ o, ops[i]? = some o → ∃ v, Y i o v a ∧ K (a.put o.dst v)
/-- Whatever order is picked, all come before operation n. -/
def headB (md : Region.Mode) (ops : Array Oper) (Y : Nat → Oper → Value → Act → Prop) (n : Nat) (L : Array Bool → Act → Prop) : Nat → Array Bool → Act → Prop
  | 0, listed, a => L listed a
  | f + 1, listed, a => Region.ready md ops listed ≠ [] ∧ ∀ i ∈ Region.ready md ops listed, i < n ∧ oneB ops Y i (headB md ops Y n L f (listed.setIfInBounds i true)) a
/-- While one of the first n has not come up, nothing from n on may. -/
def Late (md : Region.Mode) (ops : Array Oper) (n : Nat) : Prop := ∀ listed, HeadInv md ops n listed → ∀ i, i < n → listed.getD i true = false → ∀ t, n ≤ t → t ∉ Region.ready md ops listed
theorem headB_first {Y : Nat → Oper → Value → Act → Prop} (hY : Steady ops Y) {n i : Nat} {oi : Oper} {v : Value} {L : Array Bool → Act → Prop} (hi : ops[i]? = some oi) (hsel : Region.noSelect ops = true)
    (hwt : Late md ops n) (hin : i < n) (hdone : ∀ listed a, L listed a → ∀ j ∈ Region.ready md ops listed, n ≤ j) (f : Nat) :
    ∀ (listed : Array Bool) (a : Act), HeadInv md ops n listed →
      (∀ j oj, ops[j]? = some oj → j ≠ i → listed.getD j true = false → (∀ e ∈ oj.after, Region.binds md e = true → e.on ≠ i) → oi.apart ops oj = true) →
      i ∈ Region.ready md ops listed → Y i oi v a → headB md ops Y n L f (listed.setIfInBounds i true) (a.put oi.dst v) → headB md ops Y n L (f + 1) listed a := by
  induction f with
  | zero =>
    intro listed a inv hfree hr hy H
    have hun := (mem_ready.1 hr).1
    refine ⟨List.ne_nil_of_mem hr, fun j hj => ?_⟩
    by_cases hji : j = i
    · subst hji
      exact ⟨hin, fun o ho => by obtain rfl : oi = o := Option.some.inj (hi.symm.trans ho); exact ⟨v, hy, H⟩⟩
    · have h1 : n ≤ j := hdone _ _ H j (ready_mono hj hji)
      exact absurd hj (hwt _ inv i hin hun j h1)
  | succ f ih =>
    intro listed a inv hfree hr hy H
    have hun := (mem_ready.1 hr).1
    refine ⟨List.ne_nil_of_mem hr, fun j hj => ?_⟩
    have hjn : j < n := Nat.lt_of_not_le fun h => absurd hj (hwt _ inv i hin hun j h)
    refine ⟨hjn, fun oj hoj => ?_⟩
    by_cases hji : j = i
    · subst hji
      obtain rfl : oi = oj := Option.some.inj (hi.symm.trans hoj)
      exact ⟨v, hy, H⟩
    · obtain ⟨u, hyu, hK⟩ := (H.2 j (ready_mono hj hji)).2 oj hoj
      obtain ⟨hjun, o', ho', hall⟩ := mem_ready.1 hj
      obtain rfl : oj = o' := Option.some.inj (hoj.symm.trans ho')
      have hnot : ∀ e ∈ oj.after, Region.binds md e = true → e.on ≠ i := fun e he hb heq => by
        have h1 := hall e he hb
        rw [heq, getD_both hun] at h1
        cases h1
      obtain ⟨h1, h2, h3⟩ := Oper.apart_spec (hfree j oj hoj hji hjun hnot)
      refine ⟨u, hY j oj u _ _ (execOp_put oj (fun cs b => Region.noSelect_spec hsel j oj cs b hoj) a oi.dst v h1).symm (wanted_put oj a oi.dst v h1).symm hyu, ih _ _ (inv.set hj hjn) (fun k ok hk hki hu hno => hfree k ok hk hki ?_ hno) (ready_mono hr (Ne.symm hji))
        (hY i oi v _ _ (execOp_put oi (fun cs b => Region.noSelect_spec hsel i oi cs b hi) a oj.dst u h3) (wanted_put oi a oj.dst u h3) hy) ?_⟩
      · by_cases hjk : j = k
        · rw [← hjk]; exact hjun
        · rw [getD_set_ne true hjk] at hu; exact hu
      · rw [Array.setIfInBounds_comm _ _ hji, ← Act.put_comm a v u h2]
        exact hK
/-- The walk in the order of the text. -/
def walkB (Y : Nat → Oper → Value → Act → Prop) (Q : Act → Prop) : Nat → List Oper → Act → Prop
  | _, [], a => Q a
  | k, o :: r, a => ∃ v, Y k o v a ∧ walkB Y Q (k + 1) r (a.put o.dst v)
/-- The first operations may come up in the order of the text, each free of those that have not; what holds behind them. -/
def lexHd (md : Region.Mode) (ops : Array Oper) (base : Nat → Array Bool → Bool) : Nat → Nat → Array Bool → Bool
  | 0, k, listed => base k listed
  | f + 1, k, listed => (Region.ready md ops listed).contains k && Region.free md ops listed k && lexHd md ops base f (k + 1) (listed.setIfInBounds k true)
theorem headB_lex {Y : Nat → Oper → Value → Act → Prop} (hY : Steady ops Y) {n : Nat} {base : Nat → Array Bool → Bool} {Q : Act → Prop} (hbase : ∀ listed, base n listed = true → ∀ j ∈ Region.ready md ops listed, n ≤ j) (hsel : Region.noSelect ops = true) (hwt : Late md ops n) :
    ∀ (l : List Oper) (k : Nat) (listed : Array Bool) (a : Act), (∀ j, j < l.length → l[j]? = ops[k + j]?) → k + l.length = n → HeadInv md ops n listed → (∀ i, i < k → listed.getD i false = true) →
    lexHd md ops base l.length k listed = true → n ≤ ops.size → walkB Y Q k l a → headB md ops Y n (fun listed' a' => (base n listed' = true ∧ (∀ i, i < n → listed'.getD i false = true) ∧ HeadInv md ops n listed') ∧ Q a') l.length listed a := by
  intro l
  induction l with
  | nil =>
    intro k listed a _ hk inv hb hB _ h
    obtain rfl : k = n := by simpa using hk
    exact ⟨⟨hB, hb, inv⟩, h⟩
  | cons o l ih =>
    intro k listed a hl hk inv hb hB hn h
    have h0 : ops[k]? = some o := by simpa using (hl 0 (by simp)).symm
    simp only [List.length_cons, lexHd, Bool.and_eq_true] at hB
    obtain ⟨⟨hr, hf⟩, hB'⟩ := hB
    have hkn : k < n := by simp only [List.length_cons] at hk; omega
    have hr' : k ∈ Region.ready md ops listed := by simpa using hr
    obtain ⟨v, hy, hK⟩ := h
    refine headB_first hY h0 hsel hwt hkn (fun listed' a' hL => hbase listed' hL.1.1) l.length listed a inv (Region.free_spec h0 hf) hr' hy
      (ih (k + 1) _ _ (fun j hj => by have := hl (j + 1) (by simp; omega); simpa [Nat.add_assoc, Nat.add_comm 1 j] using this) (by simp only [List.length_cons] at hk; omega) (inv.set hr' hkn) (fun i hi => ?_) hB' hn hK)
    by_cases hik : i = k
    · subst hik
      have hsz : i < listed.size := by rw [inv.size]; omega
      simp [hsz]
    · exact getD_set_true (hb i (by omega))
/-- What stands still in two worlds, and operation m that leads from one to the other. -/
def Two2 (P : Program) (ops : Array Oper) (m : Nat) (w0 w1 : World) (i : Nat) (o : Oper) (v : Value) (a : Act) : Prop :=
  if i = m then Region.wanted o (yielded ops a.tmps) = true ∧ (execOp a.eval o).run P w0 = .ok (.value v) w1 else YieldsAt P ops w0 o v a ∧ YieldsAt P ops w1 o v a
theorem steady_two (m : Nat) (w0 w1 : World) : Steady ops (Two2 P ops m w0 w1) := fun i o v a a' he hw h => by
  unfold Two2 at *
  split at h
  · rw [if_pos ‹_›, he, hw]; exact h
  · rw [if_neg ‹_›]; exact ⟨h.1.of_same he hw, h.2.of_same he hw⟩
theorem any_of_headB {n g m : Nat} {w0 w1 : World} {L : Array Bool → Act → Prop} {Q' : Exit → Act → World → Prop} (hm : m < ops.size)
    (hL : ∀ listed a, L listed a → wpAny P md ops Q' g listed a (if listed.getD m false then w1 else w0)) :
    ∀ (f : Nat) (listed : Array Bool) (a : Act), listed.size = ops.size → headB md ops (Two2 P ops m w0 w1) n L f listed a → wpAny P md ops Q' (f + g) listed a (if listed.getD m false then w1 else w0) := by
  intro f
  induction f with
  | zero => intro listed a _ h; rw [Nat.zero_add]; exact hL _ _ h
  | succ f ih =>
    intro listed a hsz h
    rw [show f + 1 + g = (f + g) + 1 by omega]
    refine ⟨fun h0 => absurd h0 h.1, fun i hi => ?_⟩
    obtain ⟨hun, o, ho, _⟩ := mem_ready.1 hi
    obtain ⟨v, hy, hK⟩ := (h.2 i hi).2 o ho
    have h1 := ih _ _ (by simpa using hsz) hK
    unfold Two2 at hy
    by_cases him : i = m
    · subst him
      have e0 : listed.getD i false = false := getD_both hun
      have hlt : i < listed.size := by omega
      have e1 : (listed.setIfInBounds i true).getD i false = true := by simp [hlt]
      rw [e0]
      rw [e1] at h1
      rw [if_pos rfl] at hy
      unfold wpOp
      simp only [ho, hy.1, if_true]
      refine .inl ?_
      unfold Oper.wp
      simp only [Bool.false_eq_true, if_false, hy.2]
      exact h1
    · rw [if_neg him] at hy
      have e1 : (listed.setIfInBounds i true).getD m false = listed.getD m false := getD_set_ne false him
      rw [e1] at h1
      cases hw : listed.getD m false with
      | true =>
        rw [hw] at h1
        exact wpOp_of_stOp (K := fun a' => a' = a.put o.dst v) (fun a' e => by subst e; exact h1) (hy.2.stOp ho rfl)
      | false =>
        rw [hw] at h1
        exact wpOp_of_stOp (K := fun a' => a' = a.put o.dst v) (fun a' e => by subst e; exact h1) (hy.1.stOp ho rfl)
/-- Each has a place of its own for what it yields. -/
def ownDst (N : Nat) : List Oper → Bool
  | [] => true
  | o :: r => (match o.dst with | none => false | some d => decide (d < N) && r.all fun o' => match o'.dst with | none => true | some d' => decide (d' ≠ d)) && ownDst N r
theorem still_keeps {w : World} {aF : Act} {d : Tmp} : ∀ (l : List Oper) (a : Act), (l.all fun o' => match o'.dst with | none => true | some d' => decide (d' ≠ d)) = true → wpStill P ops w (fun a' => a' = aF) l a → aF.tmps[d]? = a.tmps[d]?
  | [], a, _, h => by
    have e : a = aF := h
    rw [e]
  | o :: l, a, hd, h => by
    simp only [List.all_cons, Bool.and_eq_true] at hd
    have hput : ∀ v, (a.put o.dst v).tmps[d]? = a.tmps[d]? := fun v => by
      cases ho : o.dst with
      | none => rfl
      | some d' =>
        have h1 := hd.1
        rw [ho] at h1
        have h2 : d' ≠ d := of_decide_eq_true h1
        show (a.tmps.setIfInBounds d' v)[d]? = _
        exact Array.getElem?_setIfInBounds_ne h2
    have hst : stOp P #[o] w 0 (wpStill P ops w (fun a' => a' = aF) l) a ∨ True := .inr trivial
    have h' : if Region.wanted o (yielded ops a.tmps) then o.still P a w (wpStill P ops w (fun a' => a' = aF) l) else wpStill P ops w (fun a' => a' = aF) l (a.put o.dst undef) := h
    split at h'
    · unfold Oper.still at h'
      generalize (execOp a.eval o).run P w = r at h'
      cases r with
      | ok n w' =>
        cases n <;> simp only [Oper.stillUpon] at h'
        case value u => rw [still_keeps l _ hd.2 h'.2, hput]
        case skip => rw [still_keeps l _ hd.2 h'.2, hput]
        case enter f args => obtain ⟨_, u, _, h2⟩ := h'; rw [still_keeps l _ hd.2 h2, hput]
      | halt x w' => simp only [Oper.stillUpon] at h'
    · rw [still_keeps l _ hd.2 h', hput]
theorem yields_of_still {w : World} {Q : Act → Prop} {o : Oper} {l : List Oper} {a : Act} (h : wpStill P ops w Q (o :: l) a) : ∃ v, YieldsAt P ops w o v a ∧ wpStill P ops w Q l (a.put o.dst v) := by
  have h' : if Region.wanted o (yielded ops a.tmps) then o.still P a w (wpStill P ops w Q l) else wpStill P ops w Q l (a.put o.dst undef) := h
  by_cases hw : Region.wanted o (yielded ops a.tmps) = true
  · rw [if_pos hw] at h'
    unfold Oper.still at h'
    generalize hr : (execOp a.eval o).run P w = r at h'
    cases r with
    | ok n w' =>
      cases n <;> simp only [Oper.stillUpon] at h'
      case value u => obtain ⟨rfl, h2⟩ := h'; exact ⟨u, .inl ⟨hw, .inl hr⟩, h2⟩
      case skip => obtain ⟨rfl, h2⟩ := h'; exact ⟨undef, .inl ⟨hw, .inr (.inl ⟨hr, rfl⟩)⟩, h2⟩
      case enter f args => obtain ⟨rfl, v, hc, h2⟩ := h'; exact ⟨v, .inl ⟨hw, .inr (.inr ⟨f, args, hr, hc⟩)⟩, h2⟩
    | halt x w' => simp only [Oper.stillUpon] at h'
  · rw [if_neg hw] at h'
    exact ⟨undef, .inr ⟨by simpa using hw, rfl⟩, h'⟩
theorem walkB_two {m : Nat} {w0 w1 : World} {aF : Act} {Q : Act → Prop} : ∀ (l : List Oper) (k : Nat) (a : Act), k + l.length = m → ownDst a.tmps.size l = true → wpStill P ops w0 (fun a' => a' = aF) l a → wpStill P ops w1 (fun a' => a' = aF) l a →
    ∀ om : Oper, (∃ v, Two2 P ops m w0 w1 m om v aF ∧ Q (aF.put om.dst v)) → walkB (Two2 P ops m w0 w1) Q k (l ++ [om]) a
  | [], k, a, hk, _, h0, _, om, hom => by
    obtain rfl : k = m := by simpa using hk
    obtain rfl : a = aF := h0
    exact hom
  | o :: l, k, a, hk, hd, h0, h1, om, hom => by
    simp only [List.length_cons] at hk
    obtain ⟨v0, y0, r0⟩ := yields_of_still h0
    obtain ⟨v1, y1, r1⟩ := yields_of_still h1
    unfold ownDst at hd
    cases ho : o.dst with
    | none => rw [ho] at hd; simp at hd
    | some d =>
      rw [ho] at hd
      simp only [Bool.and_eq_true, decide_eq_true_eq] at hd
      obtain ⟨⟨hdN, hda⟩, hdr⟩ := hd
      have e0 := still_keeps (d := d) l _ hda r0
      have e1 := still_keeps (d := d) l _ hda r1
      rw [ho] at e0 e1
      have g0 : (a.put (some d) v0).tmps[d]? = some v0 := by show (a.tmps.setIfInBounds d v0)[d]? = _; simp [hdN]
      have g1 : (a.put (some d) v1).tmps[d]? = some v1 := by show (a.tmps.setIfInBounds d v1)[d]? = _; simp [hdN]
      have ev : v0 = v1 := Option.some.inj ((g0.symm.trans e0.symm).trans (e1.trans g1))
      subst ev
      refine ⟨v0, ?_, walkB_two l (k + 1) _ (by omega) ?_ r0 r1 om hom⟩
      · unfold Two2
        rw [if_neg (by omega)]
        exact ⟨y0, y1⟩
      · have es : (a.put o.dst v0).tmps.size = a.tmps.size := by rw [ho]; show (a.tmps.setIfInBounds d v0).size = _; simp
        rw [es]
        exact hdr
/-- What is asked of such a region, as a Bool. -/
def allocB (ops : Array Oper) (n : Nat) : Bool :=
  Region.noSelect ops && decide (n < ops.size) && Region.sinkB .any ops n && Region.chainB .any ops n && lexHd .any ops (fun k listed => Region.seqB .any ops (ops.size - n) k listed) n 0 (Array.replicate ops.size false)
/-- A region of which operation m makes a block, all ahead of it stand still, and what is behind it comes in one order. -/
theorem wp_region_still_alloc {id : Nat} {Q : Exit → Act → World → Prop} {a aF : Act} {w w1 : World} {l : List Oper} (m : Nat) (om : Oper) {v : Value} (hm : P.follows .mixedOrders = true) (hB : allocB l.toArray (m + 1) = true)
    (hom : l[m]? = some om) (hd : ownDst a.tmps.size (l.take m) = true)
    (h0 : wpStill P l.toArray { w with drawn := w.drawn + 1 } (fun a' => a' = aF) (l.take m) a) (h1 : wpStill P l.toArray w1 (fun a' => a' = aF) (l.take m) a)
    (hw : Region.wanted om (yielded l.toArray aF.tmps) = true) (hal : (execOp aF.eval om).run P { w with drawn := w.drawn + 1 } = .ok (.value v) w1)
    (h : wpList P l.toArray Q (l.drop (m + 1)) (aF.put om.dst v) w1) : (Code.region id l.toArray true).wp P Q a w := by
  simp only [allocB, Bool.and_eq_true, decide_eq_true_eq] at hB
  obtain ⟨⟨⟨⟨hsel, hn⟩, hs⟩, hc⟩, hlex⟩ := hB
  have hn' : m + 1 < l.length := by simpa using hn
  have hml : (l.take m).length = m := by simp; omega
  have htl : (l.take (m + 1)).length = m + 1 := by simp; omega
  have htk : l.take (m + 1) = l.take m ++ [om] := by
    obtain ⟨hlt, he⟩ := List.getElem?_eq_some_iff.1 hom
    rw [List.take_succ_eq_append_getElem hlt, he]
  have inv0 : HeadInv .any l.toArray (m + 1) (Array.replicate l.toArray.size false) :=
    ⟨by simp, fun j oj _ hl => (by rw [getD_replicate_false] at hl; cases hl), fun t _ ht => getD_in (by simpa using ht) (getD_replicate_false _ _)⟩
  have hwalk : walkB (Two2 P l.toArray m { w with drawn := w.drawn + 1 } w1) (fun a' => a' = aF.put om.dst v) 0 (l.take (m + 1)) a := by
    rw [htk]
    refine walkB_two (l.take m) 0 a (by omega) hd h0 h1 om ⟨v, ?_, rfl⟩
    unfold Two2
    rw [if_pos rfl]
    exact ⟨hw, hal⟩
  have H := headB_lex (md := .any) (base := fun k listed => Region.seqB .any l.toArray (l.toArray.size - (m + 1)) k listed) (steady_two m { w with drawn := w.drawn + 1 } w1) (fun listed h => seqB_ready h) hsel (fun listed inv i hin hun t ht => tail_waits hs hc hn inv _ i rfl hin hun t ht) (l.take (m + 1)) 0 _ a (fun j hj => by
    have hj' : j < m + 1 := by rw [htl] at hj; exact hj
    simp [hj']) (by simpa using htl) inv0 (fun i hi => absurd hi (Nat.not_lt_zero _)) (by rw [htl]; exact hlex) (by omega) hwalk
  refine wp_region_any hm ?_
  have hdl : (l.drop (m + 1)).length = l.toArray.size - (m + 1) := by simp
  have key := any_of_headB (P := P) (md := .any) (Q' := Q) (g := l.toArray.size - (m + 1)) (m := m) (w0 := { w with drawn := w.drawn + 1 }) (w1 := w1) (by omega) (fun listed a' hL => by
    obtain ⟨⟨hq, hb, _⟩, rfl⟩ := hL
    rw [hb m (by omega)]
    have := wpAny_of_seq (md := .any) (Q' := Q) (l.drop (m + 1)) (m + 1) listed _ w1 (fun j => by simp [List.getElem?_drop]) (by rw [hdl]; exact hq) h
    rw [hdl] at this
    exact this) _ _ _ (by simp) H
  rw [htl, show m + 1 + (l.toArray.size - (m + 1)) = l.toArray.size by omega, getD_replicate_false] at key
  exact key
end
end Go.Proofs.YtmchclpkjjmocaaGreat
