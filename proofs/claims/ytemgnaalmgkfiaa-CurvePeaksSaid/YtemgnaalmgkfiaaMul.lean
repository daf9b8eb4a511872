/-
  A region that draws its order and stores into several variables that none of its operations reads: a class of worlds for each set of stores that have been done; one walk in the order of the text serves every order. Also in a round. Of whatever program.
-/
import Derived.Test.YtemgnaalmgkfiaaPut
import Derived.Test.YtemgnaalmgkfiaaFree
namespace Go.Proofs.Ytemgnaalmgkfiaa
open Go.RowKit
set_option linter.unusedVariables false
section
variable {P : Program}
def mulOb (P : Program) (C : (Nat → Bool) → World → Prop) (ops : Array Oper) (i : Nat) (o : Oper) (a : Act) : Option Value → Prop
  | some v => (Region.wanted o (yielded ops a.tmps) = true ∧ ∀ S W, C S W → o.quietAt P a (C S) W v) ∨ (Region.wanted o (yielded ops a.tmps) = false ∧ v = undef)
  | none => Region.wanted o (yielded ops a.tmps) = true ∧ ∀ S W, S i = false → C S W → ∃ W', (execOp a.eval o).run P W = .ok .skip W' ∧ C (fun k => S k || decide (k = i)) W'
def mulWalk (P : Program) (C : (Nat → Bool) → World → Prop) (ops : Array Oper) : Nat → List Oper → List (Option Value) → Act → Prop
  | i, o :: l, k :: ks, a => mulOb P C ops i o a k ∧ mulWalk P C ops (i + 1) l ks (a.put o.dst (k.getD undef))
  | _, _, _, _ => True
theorem mulWalk_at {C : (Nat → Bool) → World → Prop} {ops : Array Oper} {l : List Oper} {ks : List (Option Value)} {a0 : Act} (hl : ks.length ≤ l.length) (h : mulWalk P C ops 0 l ks a0) :
    ∀ i, i ≤ ks.length → mulWalk P C ops i (l.drop i) (ks.drop i) (lexAct l (ks.map toK) (fun _ => 0) a0 i)
  | 0, _ => h
  | i + 1, hi => by
    have hlt : i < l.length := Nat.lt_of_lt_of_le hi hl
    have h1 := mulWalk_at hl h i (Nat.le_of_lt hi)
    rw [List.drop_eq_getElem_cons hlt, List.drop_eq_getElem_cons (by omega : i < ks.length)] at h1
    have h2 := h1.2
    have e : lexAct l (ks.map toK) (fun _ => 0) a0 (i + 1) = (lexAct l (ks.map toK) (fun _ => 0) a0 i).put l[i].dst ((ks[i]'(by omega)).getD undef) := by
      show (lexAct l (ks.map toK) (fun _ => 0) a0 i).put ((l[i]?).bind (·.dst)) (pval (ks.map toK) (fun _ => 0) i) = _
      rw [pval_toK ks i _ (List.getElem?_eq_getElem (by omega)), List.getElem?_eq_getElem hlt]
      rfl
    rw [e]
    exact h2
theorem mulWalk_ob {C : (Nat → Bool) → World → Prop} {ops : Array Oper} {l : List Oper} {ks : List (Option Value)} {a0 : Act} (hl : ks.length ≤ l.length) (h : mulWalk P C ops 0 l ks a0) {i : Nat} {o : Oper} {k : Option Value} (ho : l[i]? = some o) (hk : ks[i]? = some k) :
    mulOb P C ops i o (lexAct l (ks.map toK) (fun _ => 0) a0 i) k := by
  have hlt := lt_of_some ho
  have hltk := lt_of_some hk
  have h1 := mulWalk_at hl h i (Nat.le_of_lt hltk)
  rw [List.drop_eq_getElem_cons hlt, List.drop_eq_getElem_cons hltk] at h1
  have e1 : l[i] = o := by rw [List.getElem?_eq_getElem hlt] at ho; injection ho
  have e2 : ks[i] = k := by rw [List.getElem?_eq_getElem hltk] at hk; injection hk
  rw [e1, e2] at h1
  exact h1.1

def mulB (l : List Oper) (ks : List (Option Value)) : Bool :=
  Region.noSelect l.toArray && (ks.length == l.length) &&
  (List.range ks.length).all (fun i => match l[i]?, ks[i]? with
    | some o, some k =>
      (o.after.all fun e => !Region.binds .any e || decide (e.on < i)) &&
      ((o.looksAt l.toArray).all fun d => (List.range l.length).all fun j => ((l[j]?).bind (·.dst)) != some d || o.after.any fun e => e.on == j && Region.binds .any e) &&
      (match o.dst with | none => true | some d => (List.range l.length).all fun j => j == i || ((l[j]?).bind (·.dst)) != some d) 
    | _, _ => false)
structure MulOk (l : List Oper) (ks : List (Option Value)) : Prop where
  sel : Region.noSelect l.toArray = true
  len : ks.length = l.length
  back : ∀ (i : Nat) o, i < ks.length → l[i]? = some o → ∀ e ∈ o.after, Region.binds .any e = true → e.on < i
  looks : ∀ (i : Nat) o, i < ks.length → l[i]? = some o → ∀ d ∈ o.looksAt l.toArray, ∀ (j : Nat) o', l[j]? = some o' → o'.dst = some d → ∃ e ∈ o.after, e.on = j ∧ Region.binds .any e = true
  own : OwnDst l ks.length
theorem mulB_spec {l : List Oper} {ks : List (Option Value)} (h : mulB l ks = true) : MulOk l ks := by
  unfold mulB at h
  rw [Bool.and_eq_true, Bool.and_eq_true, beq_iff_eq, List.all_eq_true] at h
  obtain ⟨⟨h1, h2⟩, h3⟩ := h
  have key : ∀ (i : Nat) o k, l[i]? = some o → ks[i]? = some k → _ := fun i o k ho hk => by
    have h6 := h3 i (List.mem_range.2 (lt_of_some hk))
    simp only [ho, hk, Bool.and_eq_true] at h6
    exact h6
  have kOf : ∀ (i : Nat), i < ks.length → ∃ k, ks[i]? = some k := fun i hi => ⟨_, List.getElem?_eq_getElem hi⟩
  have oOf : ∀ (i : Nat) k, ks[i]? = some k → ∃ o, l[i]? = some o := fun i k hk => ⟨_, List.getElem?_eq_getElem (by rw [← h2]; exact lt_of_some hk)⟩
  refine ⟨h1, h2, fun i o him ho e he hbd => ?_, fun i o him ho d hd j o' hj hjd => ?_, fun i j o o' d him hi hj hid hjd => ?_⟩
  · obtain ⟨k, hk⟩ := kOf i him
    have h6 := (key i o k ho hk).1.1
    rw [Array.all_eq_true_iff_forall_mem] at h6
    simpa [hbd] using h6 e he
  · obtain ⟨k, hk⟩ := kOf i him
    have h6 := (key i o k ho hk).1.2
    rw [List.all_eq_true] at h6
    have h7 := h6 d hd
    rw [List.all_eq_true] at h7
    have h8 := h7 j (List.mem_range.2 (lt_of_some hj))
    rw [hj] at h8
    simp only [Option.bind_some, hjd, bne_self_eq_false, Bool.false_or, Array.any_eq_true', Bool.and_eq_true, beq_iff_eq] at h8
    exact h8
  · obtain ⟨k, hk⟩ := kOf i him
    have h6 := (key i o k hi hk).2
    rw [hid] at h6
    simp only [List.all_eq_true] at h6
    have h7 := h6 j (List.mem_range.2 (lt_of_some hj))
    rw [hj] at h7
    simp only [Option.bind_some, hjd, bne_self_eq_false, Bool.or_false, beq_iff_eq] at h7
    exact h7.symm
theorem mul_any2 {Q : Exit → Act → World → Prop} {C : (Nat → Bool) → World → Prop} {l : List Oper} {ks : List (Option Value)} {a0 : Act} (hok : MulOk l ks) (hC0 : ∀ S S' W, (∀ k : Nat, ks[k]? = some none → S k = S' k) → C S W → C S' W) (h : mulWalk P C l.toArray 0 l ks a0)
    (hend : ∀ S W, (∀ k : Nat, ks[k]? = some none → S k = true) → C S W → Q .normal (lexAct l (ks.map toK) (fun _ => 0) a0 ks.length) W) :
    ∀ (fuel : Nat) (listed : Array Bool) (a : Act) (W : World), HeadInv .any l.toArray ks.length listed → unl (fun k => listed.getD k false) ks.length = fuel →
      Slots l (ks.map toK) a0 (fun k => listed.getD k false) (fun _ => 0) a → C (fun k => listed.getD k false) W → wpAny P .any l.toArray Q fuel listed a W := by
  have hlen : ks.length ≤ l.length := Nat.le_of_eq hok.len
  intro fuel
  induction fuel with
  | zero =>
    intro listed a W hinv hf hS hC
    have hall := unl_none _ hf
    have hL := Slots.lex (ks := ks.map toK) (a0 := a0) (b := fun _ => 0) hok.own hlen ks.length (Nat.le_refl _)
    have ea : a = lexAct l (ks.map toK) (fun _ => 0) a0 ks.length := by
      have e1 : a.defers = (lexAct l (ks.map toK) (fun _ => 0) a0 ks.length).defers := hS.defers.trans hL.defers.symm
      have e2 : a.tmps = (lexAct l (ks.map toK) (fun _ => 0) a0 ks.length).tmps := by
        apply Array.ext_getElem?
        intro d
        exact hS.same hL d fun j o hj hjd => by
          have hlt : j < ks.length := by rw [hok.len]; exact lt_of_some hj
          rw [hall j hlt]
          simp [hlt]
      cases a
      cases hx : lexAct l (ks.map toK) (fun _ => 0) a0 ks.length
      rw [hx] at e1 e2
      simp only at e1 e2
      rw [e1, e2]
    rw [ea]
    refine ⟨?_, hend _ W (fun k hk => hall k (lt_of_some hk)) hC⟩
    rw [List.eq_nil_iff_forall_not_mem]
    intro j hj
    obtain ⟨h0, o, ho, _⟩ := mem_ready.1 hj
    have h1 := hall j (by rw [hok.len]; exact lt_of_some (by simpa using ho))
    rw [getD_both h0] at h1
    cases h1
  | succ fuel ih =>
    intro listed a W hinv hf hS hC
    have hsz : listed.size = l.length := by rw [hinv.size]; simp
    refine ⟨fun hr => ?_, fun i hi => ?_⟩
    · -- something may come up
      have hex : ∃ i, i < ks.length ∧ listed.getD i false = false := by
        apply Classical.byContradiction
        intro hno
        have hall : ∀ k, k < ks.length → listed.getD k false = true := fun k hk => by
          cases hl : listed.getD k false with
          | true => rfl
          | false => exact absurd ⟨k, hk, hl⟩ hno
        have : ∀ n, n ≤ ks.length → unl (fun k => listed.getD k false) n = 0 := fun n => by
          induction n with
          | zero => intro _; rfl
          | succ n ihn => intro hn; rw [unl, ihn (by omega), hall n (by omega)]; rfl
        rw [this _ (Nat.le_refl _)] at hf
        cases hf
      obtain ⟨i0, hi0, hl0⟩ := hex
      have hstep : ∀ k, k < ks.length → listed.getD k false = false → ∃ i, i ∈ Region.ready .any l.toArray listed := by
        intro k
        induction k using Nat.strongRecOn with
        | ind k ihk =>
          intro hk hl
          have hkl : k < l.length := Nat.lt_of_lt_of_le hk hlen
          have hkt : listed.getD k true = false := getD_in (by rw [hsz]; exact hkl) hl
          by_cases hrd : ∀ e ∈ l[k].after, Region.binds .any e = true → listed.getD e.on false = true
          · exact ⟨k, mem_ready.2 ⟨hkt, l[k], by simp [List.getElem?_eq_getElem hkl], hrd⟩⟩
          · have : ∃ e ∈ l[k].after, Region.binds .any e = true ∧ listed.getD e.on false = false := by
              apply Classical.byContradiction
              intro hno
              refine hrd fun e he hbe => ?_
              cases hl2 : listed.getD e.on false with
              | true => rfl
              | false => exact absurd ⟨e, he, hbe, hl2⟩ hno
            obtain ⟨e, he, hbe, hl2⟩ := this
            have h1 := hok.back k l[k] hk (List.getElem?_eq_getElem hkl) e he hbe
            exact ihk e.on h1 (Nat.lt_trans h1 hk) hl2
      obtain ⟨i1, hr1⟩ := hstep i0 hi0 hl0
      rw [hr] at hr1
      cases hr1
    · obtain ⟨h0, o, ho', hall⟩ := mem_ready.1 hi
      have ho : l[i]? = some o := by simpa using ho'
      have hlt : i < l.length := lt_of_some ho
      have him : i < ks.length := by rw [hok.len]; exact hlt
      have hinv' := hinv.set hi him
      have hlt2 : i < listed.size := by rw [hsz]; exact hlt
      have hSi : listed.getD i false = false := by simp [hlt2] at h0 ⊢; exact h0
      have hSet : ∀ k, (listed.setIfInBounds i true).getD k false = (listed.getD k false || decide (k = i)) := fun k => by
        by_cases e : k = i
        · subst e
          simp [hlt2]
        · rw [getD_set_ne false (Ne.symm e)]; simp [e]
      have hun : unl (fun k => (listed.setIfInBounds i true).getD k false) ks.length = fuel := by
        have := unl_set (S := fun k => listed.getD k false) (S' := fun k => (listed.setIfInBounds i true).getD k false) hSet hSi ks.length him
        omega
      obtain ⟨k, hk⟩ : ∃ k, ks[i]? = some k := ⟨_, List.getElem?_eq_getElem him⟩
      have hlooks : ∀ d ∈ o.looksAt l.toArray, a.tmps[d]? = (lexAct l (ks.map toK) (fun _ => 0) a0 i).tmps[d]? := fun d hd =>
        hS.same (Slots.lex hok.own hlen i (Nat.le_of_lt him)) d fun j o' hj hjd => by
          obtain ⟨e, he, e1, e2⟩ := hok.looks i o him ho d hd j o' hj hjd
          have h1 := hall e he e2
          have h2 := hok.back i o him ho e he e2
          rw [e1] at h1 h2
          rw [h1]
          simp [h2]
      have hexec : execOp a.eval o = execOp (lexAct l (ks.map toK) (fun _ => 0) a0 i).eval o :=
        execOp_congr o (fun cs bb => Region.noSelect_spec hok.sel i o cs bb ho') fun x hx => by
          cases x with
          | tmp t =>
            have h1 := hlooks t (List.mem_append_left _ (List.mem_filterMap.2 ⟨.tmp t, by simpa using hx, rfl⟩))
            show a.tmps.getD t undef = (lexAct l (ks.map toK) (fun _ => 0) a0 i).tmps.getD t undef
            rw [Array.getD_eq_getD_getElem?, Array.getD_eq_getD_getElem?, h1]
          | _ => rfl
      have hwant : Region.wanted o (yielded l.toArray a.tmps) = Region.wanted o (yielded l.toArray (lexAct l (ks.map toK) (fun _ => 0) a0 i).tmps) := by
        unfold Region.wanted
        cases hg : o.guard with
        | none => rfl
        | some gw =>
          obtain ⟨g, want⟩ := gw
          have hy : yielded l.toArray a.tmps g = yielded l.toArray (lexAct l (ks.map toK) (fun _ => 0) a0 i).tmps g := by
            unfold yielded
            cases ht : (l.toArray[g]?).bind (·.dst) with
            | none => rfl
            | some d =>
              have h1 := hlooks d (by unfold Oper.looksAt; rw [hg]; exact List.mem_append_right _ (by simp only [ht]; exact List.mem_singleton.2 rfl))
              simp only [Option.bind_some, h1]
          simp only [hy]
      unfold wpOp
      rw [ho']
      have hS' := hS.put hok.own him ho (S' := fun k => (listed.setIfInBounds i true).getD k false) hSet hSi
      rw [pval_toK ks i k hk] at hS'
      have hob := mulWalk_ob hlen h ho hk
      cases k with
      | some v =>
        have hsame : ∀ k : Nat, ks[k]? = some none → (fun k => listed.getD k false) k = (fun k => (listed.setIfInBounds i true).getD k false) k := fun k hk2 => by
          have hne : k ≠ i := fun e => by subst e; rw [hk] at hk2; cases hk2
          show listed.getD k false = (listed.setIfInBounds i true).getD k false
          rw [hSet]
          simp [hne]
        rcases hob with ⟨h1, h2⟩ | ⟨h1, h2⟩
        · rw [← hwant] at h1
          simp only [h1, if_true]
          refine .inl (Oper.wp_of_quiet (C := C (fun k => listed.getD k false)) (K := fun a' => a' = a.put o.dst v) hC (fun a' W' hC' ha' => ?_) ⟨v, fun W' hW' => ?_, rfl⟩)
          · subst ha'
            exact ih _ _ _ hinv' hun hS' (hC0 _ _ _ hsame hC')
          · have h4 := h2 _ W' hW'
            unfold Oper.quietAt at h4 ⊢
            rw [hexec]
            exact h4
        · rw [← hwant] at h1
          simp only [h1, Bool.false_eq_true, if_false]
          subst h2
          exact ih _ _ _ hinv' hun hS' (hC0 _ _ _ hsame hC)
      | none =>
        obtain ⟨h1, h2⟩ := hob
        rw [← hwant] at h1
        simp only [h1, if_true]
        refine .inl ?_
        obtain ⟨W', hrun, hC1⟩ := h2 _ W hSi hC
        rw [← hexec] at hrun
        unfold Oper.wp
        rw [hrun]
        show wpAny P .any l.toArray Q fuel _ (a.put o.dst undef) _
        exact ih _ _ _ hinv' hun hS' (hC0 _ _ _ (fun k _ => by show _ = (listed.setIfInBounds i true).getD k false; rw [hSet]) hC1)
theorem mul_region {Q : Exit → Act → World → Prop} {a0 : Act} {W0 : World} {l : List Oper} {C : (Nat → Bool) → World → Prop} (ks : List (Option Value)) (hB : mulB l ks = true) (hC0 : ∀ S S' W, (∀ k : Nat, ks[k]? = some none → S k = S' k) → C S W → C S' W) (hC : C (fun _ => false) W0.drew)
    (h : mulWalk P C l.toArray 0 l ks a0) (hend : ∀ S W, (∀ k : Nat, ks[k]? = some none → S k = true) → C S W → Q .normal (lexAct l (ks.map toK) (fun _ => 0) a0 ks.length) W) : wpAny P .any l.toArray Q l.toArray.size (Array.replicate l.toArray.size false) a0 { W0 with drawn := W0.drawn + 1 } := by
  have hok := mulB_spec hB
  have H := mul_any2 (Q := Q) hok hC0 h hend (unl (fun k => (Array.replicate l.toArray.size false).getD k false) ks.length) (Array.replicate l.toArray.size false) a0 W0.drew (inv_start l _) rfl ?_ ?_
  · rw [unl_start] at H
    rw [hok.len] at H
    simpa using H
  · exact ⟨rfl, rfl, fun i o d _ _ hf _ => (by rw [getD_replicate_false] at hf; cases hf), fun d _ => rfl⟩
  · exact hC0 _ _ _ (fun k _ => by rw [getD_replicate_false]) hC
theorem wp_region_mul {id : Nat} {Q : Exit → Act → World → Prop} {a0 : Act} {W0 : World} {l : List Oper} {C : (Nat → Bool) → World → Prop} (ks : List (Option Value)) (hm : P.follows .mixedOrders = true) (hB : mulB l ks = true) (hC0 : ∀ S S' W, (∀ k : Nat, ks[k]? = some none → S k = S' k) → C S W → C S' W) (hC : C (fun _ => false) W0.drew)
    (h : mulWalk P C l.toArray 0 l ks a0) (hend : ∀ S W, (∀ k : Nat, ks[k]? = some none → S k = true) → C S W → Q .normal (lexAct l (ks.map toK) (fun _ => 0) a0 ks.length) W) : (Code.region id l.toArray true).wp P Q a0 W0 := wp_region_any hm (mul_region ks hB hC0 hC h hend)
def noDefer (o : Oper) : Bool := match o.op with
  | .defer _ => false
  | _ => true
theorem wpIn_round_mul {id n rr : Nat} {Q : Exit → Act → World → Prop} {a0 : Act} {W0 : World} {l : List Oper} {C : (Nat → Bool) → World → Prop} (ks : List (Option Value)) (hQ : ¬ LetsOut Q) (hd : l.all noDefer = true) (hm : P.follows .mixedOrders = true) (hB : mulB l ks = true) (hC0 : ∀ S S' W, (∀ k : Nat, ks[k]? = some none → S k = S' k) → C S W → C S' W) (hC : C (fun _ => false) W0.drew)
    (h : mulWalk P C l.toArray 0 l ks a0) (hend : ∀ S W, (∀ k : Nat, ks[k]? = some none → S k = true) → C S W → Q .normal (lexAct l (ks.map toK) (fun _ => 0) a0 ks.length) W) : (Code.region id l.toArray true).wpIn (Fence.wide.inRound rr) n P Q a0 W0 :=
  wpIn_region_any hm (wpAny_round hQ (fun i o ho c hc => by
    have h1 := List.all_eq_true.1 hd o (List.mem_of_getElem? (by simpa using ho))
    unfold noDefer at h1
    rw [hc] at h1
    cases h1) _ _ _ _ (mul_region ks hB hC0 hC h hend))
theorem mulWalk_quiet {C : (Nat → Bool) → World → Prop} {ops : Array Oper} {i : Nat} {o : Oper} {l : List Oper} {ks : List (Option Value)} {a : Act} {v : Value} (hw : Region.wanted o (yielded ops a.tmps) = true) (h0 : ∀ S W, C S W → o.quietAt P a (C S) W v)
    (h : mulWalk P C ops (i + 1) l ks (a.put o.dst v)) : mulWalk P C ops i (o :: l) (some v :: ks) a := ⟨.inl ⟨hw, h0⟩, h⟩
theorem mulWalk_put {C : (Nat → Bool) → World → Prop} {ops : Array Oper} {i : Nat} {o : Oper} {l : List Oper} {ks : List (Option Value)} {a : Act} (hw : Region.wanted o (yielded ops a.tmps) = true) (h0 : ∀ S W, S i = false → C S W → ∃ W', (execOp a.eval o).run P W = .ok .skip W' ∧ C (fun k => S k || decide (k = i)) W')
    (h : mulWalk P C ops (i + 1) l ks (a.put o.dst undef)) : mulWalk P C ops i (o :: l) (none :: ks) a := ⟨⟨hw, h0⟩, h⟩
end
end Go.Proofs.Ytemgnaalmgkfiaa
