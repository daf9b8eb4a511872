/-
  A region that draws its order, whose operations read and call quietly but for one, which turns a world of one class into a world of another (a store into a variable that the region itself loads): one walk in the order of the text serves every order. Of whatever program.
-/
import Derived.Test.YtdeehkhdmohalaaPar
namespace Go.Proofs.Ytdeehkhdmohalaa
open Go.RowKit
set_option linter.unusedVariables false
section
variable {P : Program}

/-- 'some v': it yields v; 'none': the one that stores. -/
def toK : Option Value → PKind
  | some v => .quiet v
  | none => .store 0
/-- What is asked of one operation, in the act that the order of the text has there: anc tells those that have come up when the store does. -/
def putOb (P : Program) (C0 C1 : World → Prop) (anc : List Nat) (ops : Array Oper) (i : Nat) (o : Oper) (a : Act) : Option Value → Prop
  | some v => (Region.wanted o (yielded ops a.tmps) = true ∧ (∀ W, C0 W → o.quietAt P a C0 W v) ∧ (anc.contains i = false → ∀ W, C1 W → o.quietAt P a C1 W v)) ∨ (Region.wanted o (yielded ops a.tmps) = false ∧ v = undef)
  | none => Region.wanted o (yielded ops a.tmps) = true ∧ ∀ W, C0 W → ∃ W', (execOp a.eval o).run P W = .ok .skip W' ∧ C1 W'
def putWalk (P : Program) (C0 C1 : World → Prop) (anc : List Nat) (ops : Array Oper) : Nat → List Oper → List (Option Value) → Act → Prop
  | i, o :: l, k :: ks, a => putOb P C0 C1 anc ops i o a k ∧ putWalk P C0 C1 anc ops (i + 1) l ks (a.put o.dst (k.getD undef))
  | _, _, _, _ => True
theorem pval_toK (ks : List (Option Value)) (i : Nat) (k : Option Value) (h : ks[i]? = some k) : pval (ks.map toK) (fun _ => 0) i = k.getD undef := by
  unfold pval
  rw [List.getElem?_map, h]
  cases k <;> rfl
theorem putWalk_at {C0 C1 : World → Prop} {anc : List Nat} {ops : Array Oper} {l : List Oper} {ks : List (Option Value)} {a0 : Act} (hl : ks.length ≤ l.length) (h : putWalk P C0 C1 anc ops 0 l ks a0) :
    ∀ i, i ≤ ks.length → putWalk P C0 C1 anc ops i (l.drop i) (ks.drop i) (lexAct l (ks.map toK) (fun _ => 0) a0 i)
  | 0, _ => h
  | i + 1, hi => by
    have hlt : i < l.length := Nat.lt_of_lt_of_le hi hl
    have h1 := putWalk_at hl h i (Nat.le_of_lt hi)
    rw [List.drop_eq_getElem_cons hlt, List.drop_eq_getElem_cons (by omega : i < ks.length)] at h1
    have h2 := h1.2
    have e : lexAct l (ks.map toK) (fun _ => 0) a0 (i + 1) = (lexAct l (ks.map toK) (fun _ => 0) a0 i).put l[i].dst ((ks[i]'(by omega)).getD undef) := by
      show (lexAct l (ks.map toK) (fun _ => 0) a0 i).put ((l[i]?).bind (·.dst)) (pval (ks.map toK) (fun _ => 0) i) = _
      rw [pval_toK ks i _ (List.getElem?_eq_getElem (by omega)), List.getElem?_eq_getElem hlt]
      rfl
    rw [e]
    exact h2
theorem putWalk_ob {C0 C1 : World → Prop} {anc : List Nat} {ops : Array Oper} {l : List Oper} {ks : List (Option Value)} {a0 : Act} (hl : ks.length ≤ l.length) (h : putWalk P C0 C1 anc ops 0 l ks a0) {i : Nat} {o : Oper} {k : Option Value} (ho : l[i]? = some o) (hk : ks[i]? = some k) :
    putOb P C0 C1 anc ops i o (lexAct l (ks.map toK) (fun _ => 0) a0 i) k := by
  have hlt := lt_of_some ho
  have hltk := lt_of_some hk
  have h1 := putWalk_at hl h i (Nat.le_of_lt hltk)
  rw [List.drop_eq_getElem_cons hlt, List.drop_eq_getElem_cons hltk] at h1
  have e1 : l[i] = o := by rw [List.getElem?_eq_getElem hlt] at ho; injection ho
  have e2 : ks[i] = k := by rw [List.getElem?_eq_getElem hltk] at hk; injection hk
  rw [e1, e2] at h1
  exact h1.1

/-- What a program can check. -/
def putB (l : List Oper) (ks : List (Option Value)) (p : Nat) (anc : List Nat) : Bool :=
  Region.noSelect l.toArray && (ks.length == l.length) &&
  (List.range ks.length).all (fun i => match l[i]?, ks[i]? with
    | some o, some k =>
      (o.after.all fun e => !Region.binds .any e || decide (e.on < i)) &&
      ((o.looksAt l.toArray).all fun d => (List.range l.length).all fun j => ((l[j]?).bind (·.dst)) != some d || o.after.any fun e => e.on == j && Region.binds .any e) &&
      (match o.dst with | none => true | some d => (List.range l.length).all fun j => j == i || ((l[j]?).bind (·.dst)) != some d) &&
      (match k with | some _ => !(i == p) | none => i == p)
    | _, _ => false) &&
  decide (p < ks.length) &&
  (List.range p).all fun i => !anc.contains i || (List.range (p + 1)).any fun j => decide (i < j) && (j == p || anc.contains j) && Region.waitsFor .any l.toArray j i
structure PutOk (l : List Oper) (ks : List (Option Value)) (p : Nat) (anc : List Nat) : Prop where
  sel : Region.noSelect l.toArray = true
  len : ks.length = l.length
  back : ∀ (i : Nat) o, i < ks.length → l[i]? = some o → ∀ e ∈ o.after, Region.binds .any e = true → e.on < i
  looks : ∀ (i : Nat) o, i < ks.length → l[i]? = some o → ∀ d ∈ o.looksAt l.toArray, ∀ (j : Nat) o', l[j]? = some o' → o'.dst = some d → ∃ e ∈ o.after, e.on = j ∧ Region.binds .any e = true
  own : OwnDst l ks.length
  kind : ∀ (i : Nat) k, ks[i]? = some k → (k = none ↔ i = p)
  plt : p < ks.length
  anc : ∀ i, i < p → anc.contains i = true → ∃ j, i < j ∧ j ≤ p ∧ (j = p ∨ anc.contains j = true) ∧ Region.waitsFor .any l.toArray j i = true
theorem putB_spec {l : List Oper} {ks : List (Option Value)} {p : Nat} {anc : List Nat} (h : putB l ks p anc = true) : PutOk l ks p anc := by
  unfold putB at h
  rw [Bool.and_eq_true, Bool.and_eq_true, Bool.and_eq_true, Bool.and_eq_true, beq_iff_eq, decide_eq_true_eq, List.all_eq_true, List.all_eq_true] at h
  obtain ⟨⟨⟨⟨h1, h2⟩, h3⟩, h4⟩, h5⟩ := h
  have key : ∀ (i : Nat) o k, l[i]? = some o → ks[i]? = some k → _ := fun i o k ho hk => by
    have h6 := h3 i (List.mem_range.2 (lt_of_some hk))
    simp only [ho, hk, Bool.and_eq_true] at h6
    exact h6
  have kOf : ∀ (i : Nat), i < ks.length → ∃ k, ks[i]? = some k := fun i hi => ⟨_, List.getElem?_eq_getElem hi⟩
  have oOf : ∀ (i : Nat) k, ks[i]? = some k → ∃ o, l[i]? = some o := fun i k hk => ⟨_, List.getElem?_eq_getElem (by rw [← h2]; exact lt_of_some hk)⟩
  refine ⟨h1, h2, fun i o him ho e he hbd => ?_, fun i o him ho d hd j o' hj hjd => ?_, fun i j o o' d him hi hj hid hjd => ?_, fun i k hk => ?_, h4, fun i hip hai => ?_⟩
  · obtain ⟨k, hk⟩ := kOf i him
    have h6 := (key i o k ho hk).1.1.1
    rw [Array.all_eq_true_iff_forall_mem] at h6
    simpa [hbd] using h6 e he
  · obtain ⟨k, hk⟩ := kOf i him
    have h6 := (key i o k ho hk).1.1.2
    rw [List.all_eq_true] at h6
    have h7 := h6 d hd
    rw [List.all_eq_true] at h7
    have h8 := h7 j (List.mem_range.2 (lt_of_some hj))
    rw [hj] at h8
    simp only [Option.bind_some, hjd, bne_self_eq_false, Bool.false_or, Array.any_eq_true', Bool.and_eq_true, beq_iff_eq] at h8
    exact h8
  · obtain ⟨k, hk⟩ := kOf i him
    have h6 := (key i o k hi hk).1.2
    rw [hid] at h6
    simp only [List.all_eq_true] at h6
    have h7 := h6 j (List.mem_range.2 (lt_of_some hj))
    rw [hj] at h7
    simp only [Option.bind_some, hjd, bne_self_eq_false, Bool.or_false, beq_iff_eq] at h7
    exact h7.symm
  · obtain ⟨o, ho⟩ := oOf i k hk
    have h6 := (key i o k ho hk).2
    cases k with
    | none => simp at h6; exact ⟨fun _ => h6, fun _ => rfl⟩
    | some v => simp at h6; exact ⟨fun h => (by cases h), fun h => absurd h h6⟩
  · have h6 := h5 i (List.mem_range.2 hip)
    rw [hai] at h6
    simp only [Bool.not_true, Bool.false_or, List.any_eq_true, List.mem_range, Bool.and_eq_true, Bool.or_eq_true, decide_eq_true_eq, beq_iff_eq] at h6
    obtain ⟨j, hj, ⟨h7, h8⟩, h9⟩ := h6
    exact ⟨j, h7, by omega, h8, h9⟩
theorem waits_listed {l : List Oper} {m : Nat} {listed : Array Bool} (inv : HeadInv .any l.toArray m listed) {j i : Nat} (hw : Region.waitsFor .any l.toArray j i = true) (hj : listed.getD j false = true) : listed.getD i false = true := by
  unfold Region.waitsFor at hw
  cases ho : l.toArray[j]? with
  | none => rw [ho] at hw; cases hw
  | some o =>
    rw [ho] at hw
    simp only [Array.any_eq_true', Bool.and_eq_true, beq_iff_eq] at hw
    obtain ⟨e, he, h1, h2⟩ := hw
    have := inv.closed j o ho hj e he h1
    rw [h2] at this
    exact this
/-- When the store has come up, so have those that it waits for. -/
theorem anc_listed {l : List Oper} {ks : List (Option Value)} {p : Nat} {anc : List Nat} (hok : PutOk l ks p anc) {m : Nat} {listed : Array Bool} (inv : HeadInv .any l.toArray m listed) (hp : listed.getD p false = true) :
    ∀ d i, p - i = d → i < p → anc.contains i = true → listed.getD i false = true := by
  intro d
  induction d using Nat.strongRecOn with
  | ind d ih =>
    intro i hd hip hai
    obtain ⟨j, h1, h2, h3, h4⟩ := hok.anc i hip hai
    have hj : listed.getD j false = true := by
      by_cases e : j = p
      · rw [e]; exact hp
      · exact ih (p - j) (by omega) j rfl (by omega) (h3.resolve_left e)
    exact waits_listed inv h4 hj
theorem put_any {Q : Exit → Act → World → Prop} {C0 C1 : World → Prop} {l : List Oper} {ks : List (Option Value)} {p : Nat} {anc : List Nat} {a0 : Act} (hok : PutOk l ks p anc) (hanc : ∀ i, anc.contains i = true → i < p) (h : putWalk P C0 C1 anc l.toArray 0 l ks a0)
    (hend : ∀ W, C1 W → Q .normal (lexAct l (ks.map toK) (fun _ => 0) a0 ks.length) W) :
    ∀ (fuel : Nat) (listed : Array Bool) (a : Act) (W : World), HeadInv .any l.toArray ks.length listed → unl (fun k => listed.getD k false) ks.length = fuel →
      Slots l (ks.map toK) a0 (fun k => listed.getD k false) (fun _ => 0) a → (if listed.getD p false = true then C1 W else C0 W) → wpAny P .any l.toArray Q fuel listed a W := by
  have hlen : ks.length ≤ l.length := Nat.le_of_eq hok.len
  intro fuel
  induction fuel with
  | zero =>
    intro listed a W hinv hf hS hC
    have hall := unl_none _ hf
    have hL := Slots.lex (ks := ks.map toK) (a0 := a0) (b := fun _ => 0) hok.own hlen ks.length (Nat.le_refl _)
    have ea : a = lexAct l (ks.map toK) (fun _ => 0) a0 ks.length := by
      have e1 : a.defers = (lexAct l (ks.map toK) (fun _ => 0) a0 ks.length).defers := hS.defers.trans hL.defers.symm
      have e2 : a.tmps = (lexAct l (ks.map toK) (fun _ => 0) a0 ks.length).tmps := by
        apply Array.ext_getElem?
        intro d
        exact hS.same hL d fun j o hj hjd => by
          have hlt : j < ks.length := by rw [hok.len]; exact lt_of_some hj
          rw [hall j hlt]
          simp [hlt]
      cases a
      cases hx : lexAct l (ks.map toK) (fun _ => 0) a0 ks.length
      rw [hx] at e1 e2
      simp only at e1 e2
      rw [e1, e2]
    rw [hall p hok.plt, if_pos rfl] at hC
    rw [ea]
    refine ⟨?_, hend W hC⟩
    rw [List.eq_nil_iff_forall_not_mem]
    intro j hj
    obtain ⟨h0, o, ho, _⟩ := mem_ready.1 hj
    have h1 := hall j (by rw [hok.len]; exact lt_of_some (by simpa using ho))
    rw [getD_both h0] at h1
    cases h1
  | succ fuel ih =>
    intro listed a W hinv hf hS hC
    have hsz : listed.size = l.length := by rw [hinv.size]; simp
    refine ⟨fun hr => ?_, fun i hi => ?_⟩
    · -- something may come up
      have hex : ∃ i, i < ks.length ∧ listed.getD i false = false := by
        apply Classical.byContradiction
        intro hno
        have hall : ∀ k, k < ks.length → listed.getD k false = true := fun k hk => by
          cases hl : listed.getD k false with
          | true => rfl
          | false => exact absurd ⟨k, hk, hl⟩ hno
        have : ∀ n, n ≤ ks.length → unl (fun k => listed.getD k false) n = 0 := fun n => by
          induction n with
          | zero => intro _; rfl
          | succ n ihn => intro hn; rw [unl, ihn (by omega), hall n (by omega)]; rfl
        rw [this _ (Nat.le_refl _)] at hf
        cases hf
      obtain ⟨i0, hi0, hl0⟩ := hex
      have hstep : ∀ k, k < ks.length → listed.getD k false = false → ∃ i, i ∈ Region.ready .any l.toArray listed := by
        intro k
        induction k using Nat.strongRecOn with
        | ind k ihk =>
          intro hk hl
          have hkl : k < l.length := Nat.lt_of_lt_of_le hk hlen
          have hkt : listed.getD k true = false := getD_in (by rw [hsz]; exact hkl) hl
          by_cases hrd : ∀ e ∈ l[k].after, Region.binds .any e = true → listed.getD e.on false = true
          · exact ⟨k, mem_ready.2 ⟨hkt, l[k], by simp [List.getElem?_eq_getElem hkl], hrd⟩⟩
          · have : ∃ e ∈ l[k].after, Region.binds .any e = true ∧ listed.getD e.on false = false := by
              apply Classical.byContradiction
              intro hno
              refine hrd fun e he hbe => ?_
              cases hl2 : listed.getD e.on false with
              | true => rfl
              | false => exact absurd ⟨e, he, hbe, hl2⟩ hno
            obtain ⟨e, he, hbe, hl2⟩ := this
            have h1 := hok.back k l[k] hk (List.getElem?_eq_getElem hkl) e he hbe
            exact ihk e.on h1 (Nat.lt_trans h1 hk) hl2
      obtain ⟨i1, hr1⟩ := hstep i0 hi0 hl0
      rw [hr] at hr1
      cases hr1
    · obtain ⟨h0, o, ho', hall⟩ := mem_ready.1 hi
      have ho : l[i]? = some o := by simpa using ho'
      have hlt : i < l.length := lt_of_some ho
      have him : i < ks.length := by rw [hok.len]; exact hlt
      have hinv' := hinv.set hi him
      have hlt2 : i < listed.size := by rw [hsz]; exact hlt
      have hSi : listed.getD i false = false := by simp [hlt2] at h0 ⊢; exact h0
      have hSet : ∀ k, (listed.setIfInBounds i true).getD k false = (listed.getD k false || decide (k = i)) := fun k => by
        by_cases e : k = i
        · subst e
          simp [hlt2]
        · rw [getD_set_ne false (Ne.symm e)]; simp [e]
      have hun : unl (fun k => (listed.setIfInBounds i true).getD k false) ks.length = fuel := by
        have := unl_set (S := fun k => listed.getD k false) (S' := fun k => (listed.setIfInBounds i true).getD k false) hSet hSi ks.length him
        omega
      obtain ⟨k, hk⟩ : ∃ k, ks[i]? = some k := ⟨_, List.getElem?_eq_getElem him⟩
      have hlooks : ∀ d ∈ o.looksAt l.toArray, a.tmps[d]? = (lexAct l (ks.map toK) (fun _ => 0) a0 i).tmps[d]? := fun d hd =>
        hS.same (Slots.lex hok.own hlen i (Nat.le_of_lt him)) d fun j o' hj hjd => by
          obtain ⟨e, he, e1, e2⟩ := hok.looks i o him ho d hd j o' hj hjd
          have h1 := hall e he e2
          have h2 := hok.back i o him ho e he e2
          rw [e1] at h1 h2
          rw [h1]
          simp [h2]
      have hexec : execOp a.eval o = execOp (lexAct l (ks.map toK) (fun _ => 0) a0 i).eval o :=
        execOp_congr o (fun cs bb => Region.noSelect_spec hok.sel i o cs bb ho') fun x hx => by
          cases x with
          | tmp t =>
            have h1 := hlooks t (List.mem_append_left _ (List.mem_filterMap.2 ⟨.tmp t, by simpa using hx, rfl⟩))
            show a.tmps.getD t undef = (lexAct l (ks.map toK) (fun _ => 0) a0 i).tmps.getD t undef
            rw [Array.getD_eq_getD_getElem?, Array.getD_eq_getD_getElem?, h1]
          | _ => rfl
      have hwant : Region.wanted o (yielded l.toArray a.tmps) = Region.wanted o (yielded l.toArray (lexAct l (ks.map toK) (fun _ => 0) a0 i).tmps) := by
        unfold Region.wanted
        cases hg : o.guard with
        | none => rfl
        | some gw =>
          obtain ⟨g, want⟩ := gw
          have hy : yielded l.toArray a.tmps g = yielded l.toArray (lexAct l (ks.map toK) (fun _ => 0) a0 i).tmps g := by
            unfold yielded
            cases ht : (l.toArray[g]?).bind (·.dst) with
            | none => rfl
            | some d =>
              have h1 := hlooks d (by unfold Oper.looksAt; rw [hg]; exact List.mem_append_right _ (by simp only [ht]; exact List.mem_singleton.2 rfl))
              simp only [Option.bind_some, h1]
          simp only [hy]
      unfold wpOp
      rw [ho']
      have hS' := hS.put hok.own him ho (S' := fun k => (listed.setIfInBounds i true).getD k false) hSet hSi
      rw [pval_toK ks i k hk] at hS'
      have hob := putWalk_ob hlen h ho hk
      cases k with
      | some v =>
        have hne : i ≠ p := fun e => by have := (hok.kind i _ hk).2 e; cases this
        have hpp : (listed.setIfInBounds i true).getD p false = listed.getD p false := by
          rw [hSet]
          simp [Ne.symm hne]
        rcases hob with ⟨h1, h2, h3⟩ | ⟨h1, h2⟩
        · rw [← hwant] at h1
          simp only [h1, if_true]
          cases hp : listed.getD p false with
          | false =>
            rw [hp, if_neg (by simp)] at hC
            refine .inl (Oper.wp_of_quiet (C := C0) (K := fun a' => a' = a.put o.dst v) hC (fun a' W' hC' ha' => ?_) ⟨v, fun W' hW' => ?_, rfl⟩)
            · subst ha'
              exact ih _ _ _ hinv' hun hS' (by rw [hpp, hp, if_neg (by simp)]; exact hC')
            · have h4 := h2 W' hW'
              unfold Oper.quietAt at h4 ⊢
              rw [hexec]
              exact h4
          | true =>
            rw [hp, if_pos rfl] at hC
            have hna : anc.contains i = false := by
              cases hc : anc.contains i with
              | false => rfl
              | true =>
                have := anc_listed hok hinv hp _ i rfl (hanc i hc) hc
                rw [hSi] at this
                cases this
            refine .inl (Oper.wp_of_quiet (C := C1) (K := fun a' => a' = a.put o.dst v) hC (fun a' W' hC' ha' => ?_) ⟨v, fun W' hW' => ?_, rfl⟩)
            · subst ha'
              exact ih _ _ _ hinv' hun hS' (by rw [hpp, hp, if_pos rfl]; exact hC')
            · have h4 := h3 hna W' hW'
              unfold Oper.quietAt at h4 ⊢
              rw [hexec]
              exact h4
        · rw [← hwant] at h1
          simp only [h1, Bool.false_eq_true, if_false]
          subst h2
          exact ih _ _ _ hinv' hun hS' (by rw [hpp]; exact hC)
      | none =>
        have he : i = p := (hok.kind i _ hk).1 rfl
        rw [← he, hSi, if_neg (by simp)] at hC
        obtain ⟨h1, h2⟩ := hob
        rw [← hwant] at h1
        simp only [h1, if_true]
        refine .inl ?_
        obtain ⟨W', hrun, hC1⟩ := h2 W hC
        rw [← hexec] at hrun
        unfold Oper.wp
        rw [hrun]
        show wpAny P .any l.toArray Q fuel _ (a.put o.dst undef) _
        exact ih _ _ _ hinv' hun hS' (by rw [← he, hSet]; simp; exact hC1)
/-- **The rule.** -/
theorem wp_region_put {id : Nat} {Q : Exit → Act → World → Prop} {a0 : Act} {W0 : World} {l : List Oper} {C0 C1 : World → Prop} (ks : List (Option Value)) (p : Nat) (anc : List Nat) (hm : P.follows .mixedOrders = true) (hB : (putB l ks p anc && anc.all fun i => decide (i < p)) = true) (hC : C0 W0.drew)
    (h : putWalk P C0 C1 anc l.toArray 0 l ks a0) (hend : ∀ W, C1 W → Q .normal (lexAct l (ks.map toK) (fun _ => 0) a0 ks.length) W) : (Code.region id l.toArray true).wp P Q a0 W0 := by
  refine wp_region_any hm ?_
  rw [Bool.and_eq_true] at hB
  have hok := putB_spec hB.1
  have hanc : ∀ i, anc.contains i = true → i < p := fun i hi => by
    have := (List.all_eq_true.1 hB.2) i (by simpa using hi)
    simpa using this
  have H := put_any (Q := Q) hok hanc h hend (unl (fun k => (Array.replicate l.toArray.size false).getD k false) ks.length) (Array.replicate l.toArray.size false) a0 W0.drew (inv_start l _) rfl ?_ ?_
  · rw [unl_start] at H
    rw [hok.len] at H
    simpa using H
  · exact ⟨rfl, rfl, fun i o d _ _ hf _ => (by rw [getD_replicate_false] at hf; cases hf), fun d _ => rfl⟩
  · rw [if_neg (by rw [getD_replicate_false]; simp)]
    exact hC
theorem putWalk_quiet {C0 C1 : World → Prop} {anc : List Nat} {ops : Array Oper} {i : Nat} {o : Oper} {l : List Oper} {ks : List (Option Value)} {a : Act} {v : Value} (hw : Region.wanted o (yielded ops a.tmps) = true) (h0 : ∀ W, C0 W → o.quietAt P a C0 W v) (h1 : anc.contains i = false → ∀ W, C1 W → o.quietAt P a C1 W v)
    (h : putWalk P C0 C1 anc ops (i + 1) l ks (a.put o.dst v)) : putWalk P C0 C1 anc ops i (o :: l) (some v :: ks) a := ⟨.inl ⟨hw, h0, h1⟩, h⟩
theorem putWalk_skip {C0 C1 : World → Prop} {anc : List Nat} {ops : Array Oper} {i : Nat} {o : Oper} {l : List Oper} {ks : List (Option Value)} {a : Act} (hw : Region.wanted o (yielded ops a.tmps) = false)
    (h : putWalk P C0 C1 anc ops (i + 1) l ks (a.put o.dst undef)) : putWalk P C0 C1 anc ops i (o :: l) (some undef :: ks) a := ⟨.inr ⟨hw, rfl⟩, h⟩
theorem putWalk_put {C0 C1 : World → Prop} {anc : List Nat} {ops : Array Oper} {i : Nat} {o : Oper} {l : List Oper} {ks : List (Option Value)} {a : Act} (hw : Region.wanted o (yielded ops a.tmps) = true) (h0 : ∀ W, C0 W → ∃ W', (execOp a.eval o).run P W = .ok .skip W' ∧ C1 W')
    (h : putWalk P C0 C1 anc ops (i + 1) l ks (a.put o.dst undef)) : putWalk P C0 C1 anc ops i (o :: l) (none :: ks) a := ⟨⟨hw, h0⟩, h⟩
end

/-- The store of a whole variable of the class. -/
theorem put_store {o : Oper} {a : Act} {w : World} {L : List (TypeId × Nat × List Value)} (i : Nat) {t : TypeId} {g n : Nat} {x y : Operand} {z vs : List Value} (hi : L[i]? = some (t, g, z)) (ho : o.op = .store t x y) (hx : a.eval x = .pointer (some ⟨g, 0, none⟩)) (hy : a.eval y = .agg vs.toArray) (ht : RowTy t n) (hz : z.length = n) (hv : vs.length = n) (h1 : ∀ v ∈ vs, v.oneCell' = true) :
    ∀ W, KV w L W → ∃ W', (execOp a.eval o).run Try.prog W = .ok .skip W' ∧ KV w (L.set i (t, g, vs)) W' := fun W hW => by
  refine ⟨W.setCells g 0 vs, ?_, hW.store i hi vs (by rw [hv, hz])⟩
  have hst := (hW.at i hi).storeAt ht hz vs hv h1
  unfold execOp
  simp only [ho, hx, hy, Sem.run_bind, hst, Result.andThen_ok, Sem.run_pure]
end Go.Proofs.Ytdeehkhdmohalaa
