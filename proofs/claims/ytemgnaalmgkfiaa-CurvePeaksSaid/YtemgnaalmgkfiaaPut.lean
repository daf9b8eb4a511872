/-
  A region that draws its order and makes variables of its own beside what reads and calls (each variable stored once, whole): an invariant over what has come up serves every order. Of whatever program.
  A region that draws its order, whose operations read and call quietly but for one, which turns a world of one class into a world of another (a store into a variable that the region itself loads): one walk in the order of the text serves every order. Of whatever program.
-/
import Derived.Test.YtemgnaalmgkfiaaKv
import Derived.StillTail
import Derived.Deep.RegionLaw
namespace Go.Proofs.Ytemgnaalmgkfiaa
open Go.RowKit
set_option linter.unusedVariables false
section
variable {P : Program}

/-- What an operation is: it yields v in each world of the class; or it makes a variable of cells z, which operation s stores (or none does); or it stores into the variable of operation j. -/
inductive PKind where
  | quiet (v : Value)
  | alloc (t : TypeId) (z : List Value) (st : Option (Nat × List Value))
  | store (j : Nat)
def pval (ks : List PKind) (b : Nat → Nat) (i : Nat) : Value := match ks[i]? with
  | some (.quiet v) => v
  | some (.alloc _ _ _) => .pointer (some ⟨b i, 0, none⟩)
  | _ => undef
def lexAct (l : List Oper) (ks : List PKind) (b : Nat → Nat) (a0 : Act) : Nat → Act
  | 0 => a0
  | i + 1 => (lexAct l ks b a0 i).put ((l[i]?).bind (·.dst)) (pval ks b i)
structure Slots (l : List Oper) (ks : List PKind) (a0 : Act) (S : Nat → Bool) (b : Nat → Nat) (a : Act) : Prop where
  defers : a.defers = a0.defers
  size : a.tmps.size = a0.tmps.size
  on : ∀ i o d, l[i]? = some o → o.dst = some d → S i = true → d < a0.tmps.size → a.tmps[d]? = some (pval ks b i)
  off : ∀ d, (∀ i o, l[i]? = some o → o.dst = some d → S i = false) → a.tmps[d]? = a0.tmps[d]?
/-- No two operations have one slot. -/
def OwnDst (l : List Oper) (m : Nat) : Prop := ∀ (i j : Nat) (o o' : Oper) (d : Tmp), i < m → l[i]? = some o → l[j]? = some o' → o.dst = some d → o'.dst = some d → i = j
theorem Slots.put {l : List Oper} {ks : List PKind} {a0 a : Act} {S : Nat → Bool} {b : Nat → Nat} (h : Slots l ks a0 S b a) {m : Nat} (hd : OwnDst l m) {i : Nat} {o : Oper} (him : i < m) (hi : l[i]? = some o) {S' : Nat → Bool} (hS : ∀ k, S' k = (S k || decide (k = i))) (hSi : S i = false) :
    Slots l ks a0 S' b (a.put o.dst (pval ks b i)) := by
  cases hod : o.dst with
  | none =>
    refine ⟨h.defers, h.size, fun j o' d hj hjd hSj hds => ?_, fun d hall => ?_⟩
    · refine h.on j o' d hj hjd ?_ hds
      rw [hS] at hSj
      by_cases e : j = i
      · subst e; rw [hi] at hj; injection hj with hj; subst hj; rw [hod] at hjd; cases hjd
      · simpa [e] using hSj
    · refine h.off d fun j o' hj hjd => ?_
      have := hall j o' hj hjd
      rw [hS] at this
      simp at this
      exact this.1
  | some d0 =>
    refine ⟨h.defers, by simp [Act.put, h.size], fun j o' d hj hjd hSj hds => ?_, fun d hall => ?_⟩
    · by_cases e : j = i
      · subst e
        rw [hi] at hj; injection hj with hj; subst hj
        rw [hod] at hjd; injection hjd with hjd; subst hjd
        show (a.tmps.setIfInBounds d0 _)[d0]? = _
        rw [Array.getElem?_setIfInBounds_self_of_lt (by rw [h.size]; exact hds)]
      · have hne : d0 ≠ d := fun e2 => e (hd i j o o' d him hi hj (by rw [hod, e2]) hjd).symm
        show (a.tmps.setIfInBounds d0 _)[d]? = _
        rw [Array.getElem?_setIfInBounds_ne hne]
        refine h.on j o' d hj hjd ?_ hds
        rw [hS] at hSj
        simpa [e] using hSj
    · have hne : d0 ≠ d := fun e2 => by
        have := hall i o hi (by rw [hod, e2])
        rw [hS] at this
        simp at this
      show (a.tmps.setIfInBounds d0 _)[d]? = _
      rw [Array.getElem?_setIfInBounds_ne hne]
      refine h.off d fun j o' hj hjd => ?_
      have := hall j o' hj hjd
      rw [hS] at this
      simp at this
      exact this.1
theorem Slots.lex {l : List Oper} {ks : List PKind} {a0 : Act} {b : Nat → Nat} {m : Nat} (hd : OwnDst l m) (hml : m ≤ l.length) : ∀ i, i ≤ m → Slots l ks a0 (fun k => decide (k < i)) b (lexAct l ks b a0 i)
  | 0, _ => ⟨rfl, rfl, fun i o d _ _ hS => by simp at hS, fun d _ => rfl⟩
  | i + 1, h => by
    have hlt : i < l.length := Nat.lt_of_lt_of_le h hml
    have hi : l[i]? = some l[i] := List.getElem?_eq_getElem hlt
    have h1 := (Slots.lex (ks := ks) (a0 := a0) (b := b) hd hml i (Nat.le_of_lt h)).put hd h hi (S' := fun k => decide (k < i + 1)) (fun k => by
      by_cases e : k = i
      · subst e; simp
      · have : decide (k < i + 1) = decide (k < i) := by congr 1; apply propext; omega
        simp [this, e]) (by simp)
    show Slots l ks a0 _ b ((lexAct l ks b a0 i).put ((l[i]?).bind (·.dst)) (pval ks b i))
    rw [hi]
    exact h1
theorem Slots.same {l : List Oper} {ks : List PKind} {a0 a a' : Act} {S S' : Nat → Bool} {b : Nat → Nat} (h : Slots l ks a0 S b a) (h' : Slots l ks a0 S' b a') (d : Nat) (hs : ∀ j o, l[j]? = some o → o.dst = some d → S j = S' j) : a.tmps[d]? = a'.tmps[d]? := by
  by_cases hex : ∃ j o, l[j]? = some o ∧ o.dst = some d ∧ S j = true
  · obtain ⟨j, o, hj, hjd, hSj⟩ := hex
    rcases Nat.lt_or_ge d a0.tmps.size with hlt | hge
    · rw [h.on j o d hj hjd hSj hlt, h'.on j o d hj hjd ((hs j o hj hjd).symm.trans hSj) hlt]
    · rw [Array.getElem?_eq_none (by rw [h.size]; exact hge), Array.getElem?_eq_none (by rw [h'.size]; exact hge)]
  · have h1 : ∀ i o, l[i]? = some o → o.dst = some d → S i = false := fun i o hi hd => by
      cases hS : S i with
      | false => rfl
      | true => exact absurd ⟨i, o, hi, hd, hS⟩ hex
    rw [h.off d h1, h'.off d fun i o hi hd => (hs i o hi hd).symm.trans (h1 i o hi hd)]
theorem Slots.blocks {l : List Oper} {ks : List PKind} {a0 a : Act} {S : Nat → Bool} {b b' : Nat → Nat} (h : Slots l ks a0 S b a) (hb : ∀ j, S j = true → b j = b' j) : Slots l ks a0 S b' a :=
  ⟨h.defers, h.size, fun i o d hi hd hS hlt => by
    rw [h.on i o d hi hd hS hlt]
    unfold pval
    rw [hb i hS], h.off⟩
def pcont (S : Nat → Bool) (z : List Value) : Option (Nat × List Value) → List Value
  | none => z
  | some (s, vs) => cond (S s) vs z
structure Blks (ks : List PKind) (L : List (TypeId × Nat × List Value)) (m : Nat) (S : Nat → Bool) (b κ : Nat → Nat) : Prop where
  at_ : ∀ i t z st, ks[i]? = some (.alloc t z st) → S i = true → m ≤ κ i ∧ L[κ i]? = some (t, b i, pcont S z st)
  wait : ∀ s j : Nat, ks[s]? = some (.store j) → S s = true → S j = true
  inj : ∀ i j t z st t' z' st', ks[i]? = some (.alloc t z st) → ks[j]? = some (.alloc t' z' st') → S i = true → S j = true → i ≠ j → κ i ≠ κ j
/-- What is asked of one operation, in the act that the order of the text has there. -/
def pOb (P : Program) (w : World) (Lb : List (TypeId × Nat × List Value)) (ops : Array Oper) (ks : List PKind) (b : Nat → Nat) (o : Oper) (a : Act) : PKind → Prop
  | .quiet v => (Region.wanted o (yielded ops a.tmps) = true ∧ ∀ E W, KV w (Lb ++ E) W → o.quietAt P a (KV w (Lb ++ E)) W v) ∨ (Region.wanted o (yielded ops a.tmps) = false ∧ v = undef)
  | .alloc t z st => Region.wanted o (yielded ops a.tmps) = true ∧ ∀ W, (execOp a.eval o).run P W = .ok (.value (.pointer (some ⟨W.heap.size, 0, none⟩))) (W.alloc (.cells z.toArray t))
  | .store j => Region.wanted o (yielded ops a.tmps) = true ∧ ∀ t z s vs, ks[j]? = some (.alloc t z (some (s, vs))) → ∀ W, ArrV t W (b j) z → vs.length = z.length ∧ (execOp a.eval o).run P W = .ok .skip (W.setCells (b j) 0 vs)
def pWalk (P : Program) (w : World) (Lb : List (TypeId × Nat × List Value)) (ops : Array Oper) (ks0 : List PKind) (b : Nat → Nat) : Nat → List Oper → List PKind → Act → Prop
  | i, o :: l, k :: ks, a => pOb P w Lb ops ks0 b o a k ∧ pWalk P w Lb ops ks0 b (i + 1) l ks (a.put o.dst (match k with | .quiet v => v | .alloc _ _ _ => .pointer (some ⟨b i, 0, none⟩) | .store _ => undef))
  | _, _, _, _ => True
theorem pWalk_at {w : World} {Lb : List (TypeId × Nat × List Value)} {ops : Array Oper} {l : List Oper} {ks : List PKind} {b : Nat → Nat} {a0 : Act} (hl : ks.length ≤ l.length) (h : pWalk P w Lb ops ks b 0 l ks a0) :
    ∀ i, i ≤ ks.length → pWalk P w Lb ops ks b i (l.drop i) (ks.drop i) (lexAct l ks b a0 i)
  | 0, _ => h
  | i + 1, hi => by
    have hlt : i < l.length := Nat.lt_of_lt_of_le hi hl
    have h1 := pWalk_at hl h i (Nat.le_of_lt hi)
    rw [List.drop_eq_getElem_cons hlt, List.drop_eq_getElem_cons (by omega : i < ks.length)] at h1
    have h2 := h1.2
    have e : lexAct l ks b a0 (i + 1) = (lexAct l ks b a0 i).put l[i].dst (match ks[i]'(by omega) with | .quiet v => v | .alloc _ _ _ => .pointer (some ⟨b i, 0, none⟩) | .store _ => undef) := by
      show (lexAct l ks b a0 i).put ((l[i]?).bind (·.dst)) (pval ks b i) = _
      have e2 : pval ks b i = (match ks[i]'(by omega) with | .quiet v => v | .alloc _ _ _ => .pointer (some ⟨b i, 0, none⟩) | .store _ => undef) := by
        unfold pval
        rw [List.getElem?_eq_getElem (by omega : i < ks.length)]
        cases ks[i]'(by omega) <;> rfl
      rw [List.getElem?_eq_getElem hlt, e2]
      rfl
    rw [e]
    exact h2
theorem pWalk_ob {w : World} {Lb : List (TypeId × Nat × List Value)} {ops : Array Oper} {l : List Oper} {ks : List PKind} {b : Nat → Nat} {a0 : Act} (hl : ks.length ≤ l.length) (h : pWalk P w Lb ops ks b 0 l ks a0) {i : Nat} {o : Oper} {k : PKind} (ho : l[i]? = some o) (hk : ks[i]? = some k) : pOb P w Lb ops ks b o (lexAct l ks b a0 i) k := by
  have hlt : i < l.length := by
    rcases Nat.lt_or_ge i l.length with h | h
    · exact h
    · rw [List.getElem?_eq_none h] at ho; cases ho
  have hltk : i < ks.length := by
    rcases Nat.lt_or_ge i ks.length with h | h
    · exact h
    · rw [List.getElem?_eq_none h] at hk; cases hk
  have h1 := pWalk_at hl h i (Nat.le_of_lt hltk)
  rw [List.drop_eq_getElem_cons hlt, List.drop_eq_getElem_cons (by omega : i < ks.length)] at h1
  have e1 : l[i] = o := by rw [List.getElem?_eq_getElem hlt] at ho; injection ho
  have e2 : ks[i]'(by omega) = k := by rw [List.getElem?_eq_getElem (by omega : i < ks.length)] at hk; injection hk
  rw [e1, e2] at h1
  exact h1.1

/-- What a program can check: no select; each edge goes back; what an operation looks at it waits for; slots are apart; the stores and their variables. -/
def parB (l : List Oper) (ks : List PKind) : Bool :=
  Region.noSelect l.toArray && decide (ks.length ≤ l.length) &&
  (List.range ks.length).all fun i => match l[i]?, ks[i]? with
    | some o, some k =>
      (o.after.all fun e => !Region.binds .any e || decide (e.on < i)) &&
      ((o.looksAt l.toArray).all fun d => (List.range l.length).all fun j => ((l[j]?).bind (·.dst)) != some d || o.after.any fun e => e.on == j && Region.binds .any e) &&
      (match o.dst with | none => true | some d => (List.range l.length).all fun j => j == i || ((l[j]?).bind (·.dst)) != some d) &&
      (match k with
        | .quiet _ => true
        | .alloc _ _ none => true
        | .alloc _ _ (some (s, _)) => match ks[s]? with | some (.store j) => j == i | _ => false
        | .store j => (match ks[j]? with | some (.alloc _ _ (some (s, _))) => s == i | _ => false) && o.after.any fun e => e.on == j && Region.binds .any e)
    | _, _ => false
end

def unl (S : Nat → Bool) : Nat → Nat
  | 0 => 0
  | n + 1 => unl S n + if S n then 0 else 1
theorem unl_far {S S' : Nat → Bool} {i : Nat} (hS : ∀ k, S' k = (S k || decide (k = i))) : ∀ n, n ≤ i → unl S' n = unl S n
  | 0, _ => rfl
  | n + 1, h => by
    have e : S' n = S n := by rw [hS]; simp [show ¬ n = i from by omega]
    rw [unl, unl, unl_far hS n (by omega), e]
theorem unl_set {S S' : Nat → Bool} {i : Nat} (hS : ∀ k, S' k = (S k || decide (k = i))) (hSi : S i = false) : ∀ n, i < n → unl S' n + 1 = unl S n
  | 0, h => absurd h (by omega)
  | n + 1, h => by
    by_cases e : i = n
    · subst e
      rw [unl, unl, unl_far hS i (Nat.le_refl _), hS, hSi]
      simp
    · have e2 : S' n = S n := by rw [hS]; simp [show ¬ n = i from fun h => e h.symm]
      have := unl_set hS hSi n (by omega)
      rw [unl, unl, e2]
      omega
theorem unl_none {S : Nat → Bool} : ∀ n, unl S n = 0 → ∀ k, k < n → S k = true
  | 0, _, k, hk => absurd hk (by omega)
  | n + 1, h, k, hk => by
    rw [unl] at h
    by_cases e : k = n
    · subst e
      cases hS : S k with
      | true => rfl
      | false => rw [hS] at h; simp at h
    · exact unl_none n (by omega) k (by omega)
structure ParOk (l : List Oper) (ks : List PKind) : Prop where
  sel : Region.noSelect l.toArray = true
  len : ks.length ≤ l.length
  back : ∀ (i : Nat) o, i < ks.length → l[i]? = some o → ∀ e ∈ o.after, Region.binds .any e = true → e.on < i
  looks : ∀ (i : Nat) o, i < ks.length → l[i]? = some o → ∀ d ∈ o.looksAt l.toArray, ∀ (j : Nat) o', l[j]? = some o' → o'.dst = some d → ∃ e ∈ o.after, e.on = j ∧ Region.binds .any e = true
  own : OwnDst l ks.length
  stored : ∀ (i s : Nat) t z vs, ks[i]? = some (.alloc t z (some (s, vs))) → ks[s]? = some (.store i)
  store : ∀ (i j : Nat) o, l[i]? = some o → ks[i]? = some (.store j) → (∃ t z vs, ks[j]? = some (.alloc t z (some (i, vs)))) ∧ ∃ e ∈ o.after, e.on = j ∧ Region.binds .any e = true
theorem lt_of_some {α : Type} {l : List α} {i : Nat} {x : α} (h : l[i]? = some x) : i < l.length := by
  rcases Nat.lt_or_ge i l.length with h' | h'
  · exact h'
  · rw [List.getElem?_eq_none h'] at h; cases h
theorem parB_spec {l : List Oper} {ks : List PKind} (h : parB l ks = true) : ParOk l ks := by
  unfold parB at h
  rw [Bool.and_eq_true, Bool.and_eq_true, decide_eq_true_eq, List.all_eq_true] at h
  obtain ⟨⟨h1, h2⟩, h3⟩ := h
  have key : ∀ (i : Nat) o k, l[i]? = some o → ks[i]? = some k → _ := fun i o k ho hk => by
    have h4 := h3 i (List.mem_range.2 (lt_of_some hk))
    simp only [ho, hk, Bool.and_eq_true] at h4
    exact h4
  have kOf : ∀ (i : Nat), i < ks.length → ∃ k, ks[i]? = some k := fun i hi => ⟨_, List.getElem?_eq_getElem hi⟩
  have oOf : ∀ (i : Nat) k, ks[i]? = some k → ∃ o, l[i]? = some o := fun i k hk => ⟨_, List.getElem?_eq_getElem (Nat.lt_of_lt_of_le (lt_of_some hk) h2)⟩
  refine ⟨h1, h2, fun i o him ho e he hbd => ?_, fun i o him ho d hd j o' hj hjd => ?_, fun i j o o' d him hi hj hid hjd => ?_, fun i s t z vs hk => ?_, fun i j o ho hk => ?_⟩
  · obtain ⟨k, hk⟩ := kOf i him
    have h5 := (key i o k ho hk).1.1.1
    rw [Array.all_eq_true_iff_forall_mem] at h5
    simpa [hbd] using h5 e he
  · obtain ⟨k, hk⟩ := kOf i him
    have h5 := (key i o k ho hk).1.1.2
    rw [List.all_eq_true] at h5
    have h6 := h5 d hd
    rw [List.all_eq_true] at h6
    have h7 := h6 j (List.mem_range.2 (lt_of_some hj))
    rw [hj] at h7
    simp only [Option.bind_some, hjd, bne_self_eq_false, Bool.false_or, Array.any_eq_true', Bool.and_eq_true, beq_iff_eq] at h7
    exact h7
  · obtain ⟨k, hk⟩ := kOf i him
    have h5 := (key i o k hi hk).1.2
    rw [hid] at h5
    simp only [List.all_eq_true] at h5
    have h6 := h5 j (List.mem_range.2 (lt_of_some hj))
    rw [hj] at h6
    simp only [Option.bind_some, hjd, bne_self_eq_false, Bool.or_false, beq_iff_eq] at h6
    exact h6.symm
  · obtain ⟨o, ho⟩ := oOf i _ hk
    have h5 := (key i o _ ho hk).2
    simp only at h5
    split at h5
    · rename_i j hj
      rw [hj]
      simp only [beq_iff_eq] at h5
      rw [h5]
    · cases h5
  · have h5 := (key i o _ ho hk).2
    simp only [Bool.and_eq_true] at h5
    obtain ⟨h6, h7⟩ := h5
    simp only [Array.any_eq_true', Bool.and_eq_true, beq_iff_eq] at h7
    refine ⟨?_, h7⟩
    split at h6
    · rename_i t z s vs hj
      simp only [beq_iff_eq] at h6
      subst h6
      exact ⟨t, z, vs, hj⟩
    · cases h6

section
variable {P : Program}
theorem par_any {Q : Exit → Act → World → Prop} {w : World} {Lb : List (TypeId × Nat × List Value)} {l : List Oper} {ks : List PKind} {a0 : Act} {g : Nat} (hok : ParOk l ks) (h : ∀ b, pWalk P w Lb l.toArray ks b 0 l ks a0)
    (hlate : ∀ listed, HeadInv .any l.toArray ks.length listed → ∀ i, i < ks.length → listed.getD i true = false → ∀ t, ks.length ≤ t → t ∉ Region.ready .any l.toArray listed)
    (hend : ∀ listed b κ E W, HeadInv .any l.toArray ks.length listed → (∀ k, k < ks.length → listed.getD k false = true) → KV w (Lb ++ E) W → Blks ks (Lb ++ E) Lb.length (fun _ => true) b κ → wpAny P .any l.toArray Q g listed (lexAct l ks b a0 ks.length) W) :
    ∀ (fuel : Nat) (listed : Array Bool) (a : Act) (W : World), HeadInv .any l.toArray ks.length listed → unl (fun k => listed.getD k false) ks.length = fuel →
      (∃ b E κ, KV w (Lb ++ E) W ∧ Slots l ks a0 (fun k => listed.getD k false) b a ∧ Blks ks (Lb ++ E) Lb.length (fun k => listed.getD k false) b κ) → wpAny P .any l.toArray Q (fuel + g) listed a W := by
  intro fuel
  induction fuel with
  | zero =>
    rintro listed a W hinv hf ⟨b, E, κ, hK, hS, hB⟩
    have hall := unl_none _ hf
    rw [Nat.zero_add]
    have hL := Slots.lex (ks := ks) (a0 := a0) (b := b) hok.own hok.len ks.length (Nat.le_refl _)
    have ea : a = lexAct l ks b a0 ks.length := by
      have e1 : a.defers = (lexAct l ks b a0 ks.length).defers := hS.defers.trans hL.defers.symm
      have e2 : a.tmps = (lexAct l ks b a0 ks.length).tmps := by
        apply Array.ext_getElem?
        intro d
        exact hS.same hL d fun j o hj hjd => by
          rcases Nat.lt_or_ge j ks.length with hlt | hge
          · rw [hall j hlt]
            simp [hlt]
          · have h1 := hinv.tail j hge (by simpa using lt_of_some hj)
            show listed.getD j false = decide (j < ks.length)
            rw [getD_both h1]
            simp [Nat.not_lt.2 hge]
      cases a
      cases hx : lexAct l ks b a0 ks.length
      rw [hx] at e1 e2
      simp only at e1 e2
      rw [e1, e2]
    rw [ea]
    refine hend listed b κ E W hinv hall hK ⟨fun i t z st hi _ => ?_, fun s j hs _ => rfl, fun i j t z st t' z' st' hi hj _ _ hne => ?_⟩
    · have h1 := hB.at_ i t z st hi (hall i (lt_of_some hi))
      refine ⟨h1.1, ?_⟩
      rw [h1.2]
      cases st with
      | none => rfl
      | some sv =>
        obtain ⟨s, vs⟩ := sv
        have hs := lt_of_some (hok.stored i s t z vs hi)
        simp only [pcont]
        rw [hall s hs]
    · exact hB.inj i j t z st t' z' st' hi hj (hall i (lt_of_some hi)) (hall j (lt_of_some hj)) hne
  | succ fuel ih =>
    intro listed a W hinv hf hI
    have hsz : listed.size = l.length := by rw [hinv.size]; simp
    have hmin : ∃ i, i < ks.length ∧ listed.getD i true = false ∧ i ∈ Region.ready .any l.toArray listed := by
      have hex : ∃ i, i < ks.length ∧ listed.getD i false = false := by
        apply Classical.byContradiction
        intro hno
        have hall : ∀ k, k < ks.length → listed.getD k false = true := fun k hk => by
          cases hl : listed.getD k false with
          | true => rfl
          | false => exact absurd ⟨k, hk, hl⟩ hno
        have : ∀ n, n ≤ ks.length → unl (fun k => listed.getD k false) n = 0 := fun n => by
          induction n with
          | zero => intro _; rfl
          | succ n ihn => intro hn; rw [unl, ihn (by omega), hall n (by omega)]; rfl
        rw [this _ (Nat.le_refl _)] at hf
        cases hf
      obtain ⟨i0, hi0, hl0⟩ := hex
      have hstep : ∀ k, k < ks.length → listed.getD k false = false → ∃ i, i < ks.length ∧ listed.getD i true = false ∧ i ∈ Region.ready .any l.toArray listed := by
        intro k
        induction k using Nat.strongRecOn with
        | ind k ihk =>
          intro hk hl
          have hkl : k < l.length := Nat.lt_of_lt_of_le hk hok.len
          have hkt : listed.getD k true = false := getD_in (by rw [hsz]; exact hkl) hl
          by_cases hrd : ∀ e ∈ l[k].after, Region.binds .any e = true → listed.getD e.on false = true
          · exact ⟨k, hk, hkt, mem_ready.2 ⟨hkt, l[k], by simp [List.getElem?_eq_getElem hkl], hrd⟩⟩
          · have : ∃ e ∈ l[k].after, Region.binds .any e = true ∧ listed.getD e.on false = false := by
              apply Classical.byContradiction
              intro hno
              refine hrd fun e he hbe => ?_
              cases hl2 : listed.getD e.on false with
              | true => rfl
              | false => exact absurd ⟨e, he, hbe, hl2⟩ hno
            obtain ⟨e, he, hbe, hl2⟩ := this
            have h1 := hok.back k l[k] hk (List.getElem?_eq_getElem hkl) e he hbe
            exact ihk e.on h1 (Nat.lt_trans h1 hk) hl2
      exact hstep i0 hi0 hl0
    obtain ⟨i1, hi1, hu1, hr1⟩ := hmin
    rw [show fuel + 1 + g = (fuel + g) + 1 by omega]
    refine ⟨fun hr => (by rw [hr] at hr1; cases hr1), fun i hi => ?_⟩
    · have him : i < ks.length := Nat.lt_of_not_le fun hge => hlate listed hinv i1 hi1 hu1 i hge hi
      have hinv' := hinv.set hi him
      obtain ⟨h0, o, ho', hall⟩ := mem_ready.1 hi
      have ho : l[i]? = some o := by simpa using ho'
      have hlt : i < l.length := lt_of_some ho
      have hlt2 : i < listed.size := by rw [hsz]; exact hlt
      have hSi : listed.getD i false = false := by simp [hlt2] at h0 ⊢; exact h0
      obtain ⟨b, E, κ, hK, hS, hB⟩ := hI
      have hSet : ∀ k, (listed.setIfInBounds i true).getD k false = (listed.getD k false || decide (k = i)) := fun k => by
        by_cases e : k = i
        · subst e
          simp [hlt2]
        · rw [getD_set_ne false (Ne.symm e)]; simp [e]
      have hun : unl (fun k => (listed.setIfInBounds i true).getD k false) ks.length = fuel := by
        have := unl_set (S := fun k => listed.getD k false) (S' := fun k => (listed.setIfInBounds i true).getD k false) hSet hSi ks.length him
        omega
      obtain ⟨k, hk⟩ : ∃ k, ks[i]? = some k := ⟨_, List.getElem?_eq_getElem him⟩
      have hlooks : ∀ b', (∀ j, listed.getD j false = true → b j = b' j) → ∀ d ∈ o.looksAt l.toArray, a.tmps[d]? = (lexAct l ks b' a0 i).tmps[d]? := fun b' hb' d hd =>
        (hS.blocks hb').same (Slots.lex hok.own hok.len i (Nat.le_of_lt him)) d fun j o' hj hjd => by
          obtain ⟨e, he, e1, e2⟩ := hok.looks i o him ho d hd j o' hj hjd
          have h1 := hall e he e2
          have h2 := hok.back i o him ho e he e2
          rw [e1] at h1 h2
          rw [h1]
          simp [h2]
      have hexec : ∀ b', (∀ j, listed.getD j false = true → b j = b' j) → execOp a.eval o = execOp (lexAct l ks b' a0 i).eval o := fun b' hb' =>
        execOp_congr o (fun cs bb => Region.noSelect_spec hok.sel i o cs bb ho') fun x hx => by
          cases x with
          | tmp t =>
            have h1 := hlooks b' hb' t (List.mem_append_left _ (List.mem_filterMap.2 ⟨.tmp t, by simpa using hx, rfl⟩))
            show a.tmps.getD t undef = (lexAct l ks b' a0 i).tmps.getD t undef
            rw [Array.getD_eq_getD_getElem?, Array.getD_eq_getD_getElem?, h1]
          | _ => rfl
      have hwant : ∀ b', (∀ j, listed.getD j false = true → b j = b' j) → Region.wanted o (yielded l.toArray a.tmps) = Region.wanted o (yielded l.toArray (lexAct l ks b' a0 i).tmps) := fun b' hb' => by
        unfold Region.wanted
        cases hg : o.guard with
        | none => rfl
        | some gw =>
          obtain ⟨g, want⟩ := gw
          have hy : yielded l.toArray a.tmps g = yielded l.toArray (lexAct l ks b' a0 i).tmps g := by
            unfold yielded
            cases ht : (l.toArray[g]?).bind (·.dst) with
            | none => rfl
            | some d =>
              have h1 := hlooks b' hb' d (by unfold Oper.looksAt; rw [hg]; exact List.mem_append_right _ (by simp only [ht]; exact List.mem_singleton.2 rfl))
              simp only [Option.bind_some, h1]
          simp only [hy]
      unfold wpOp
      rw [ho']
      have hb0 : ∀ j, listed.getD j false = true → b j = b j := fun _ _ => rfl
      cases k with
      | quiet v =>
        have hv : pval ks b i = v := by unfold pval; rw [hk]
        have hS' := hS.put hok.own him ho (S' := fun k => (listed.setIfInBounds i true).getD k false) hSet hSi
        rw [hv] at hS'
        have hsk : ∀ s, (∃ j, ks[s]? = some (.store j)) → (listed.setIfInBounds i true).getD s false = listed.getD s false := fun s ⟨j, hs⟩ => by
          rw [hSet]
          have : s ≠ i := fun e => by rw [e, hk] at hs; cases hs
          simp [this]
        have hal : ∀ j t z st, ks[j]? = some (.alloc t z st) → (listed.setIfInBounds i true).getD j false = listed.getD j false := fun j t z st hs => by
          rw [hSet]
          have : j ≠ i := fun e => by rw [e, hk] at hs; cases hs
          simp [this]
        have hB' : Blks ks (Lb ++ E) Lb.length (fun k => (listed.setIfInBounds i true).getD k false) b κ := by
          refine ⟨fun j t z st hj hSj => ?_, fun s j hs hSs => ?_, fun j j' t z st t' z' st' hj hj' h1 h2 hne => ?_⟩
          · have h1 := hB.at_ j t z st hj ((hal j t z st hj).symm.trans hSj)
            refine ⟨h1.1, ?_⟩
            rw [h1.2]
            cases st with
            | none => rfl
            | some sv =>
              obtain ⟨s, vs⟩ := sv
              simp only [pcont]
              rw [hsk s ⟨j, hok.stored j s t z vs hj⟩]
          · have h1 := hB.wait s j hs ((hsk s ⟨j, hs⟩).symm.trans hSs)
            show (listed.setIfInBounds i true).getD j false = true
            rw [hSet, h1]
            rfl
          · exact hB.inj j j' t z st t' z' st' hj hj' ((hal j t z st hj).symm.trans h1) ((hal j' t' z' st' hj').symm.trans h2) hne
        rcases pWalk_ob hok.len (h b) ho hk with ⟨h1, h2⟩ | ⟨h1, h2⟩
        · rw [← hwant b hb0] at h1
          simp only [h1, if_true]
          refine .inl (Oper.wp_of_quiet (C := KV w (Lb ++ E)) (K := fun a' => a' = a.put o.dst v) hK (fun a' W' hC' ha' => ?_) ⟨v, fun W' hW' => ?_, rfl⟩)
          · subst ha'
            exact ih _ _ _ hinv' hun ⟨b, E, κ, hC', hS', hB'⟩
          · have h3 := h2 E W' hW'
            unfold Oper.quietAt at h3 ⊢
            rw [hexec b hb0]
            exact h3
        · rw [← hwant b hb0] at h1
          simp only [h1, Bool.false_eq_true, if_false]
          subst h2
          exact ih _ _ _ hinv' hun ⟨b, E, κ, hK, hS', hB'⟩
      | alloc t z st =>
        obtain ⟨b', hb'⟩ : ∃ b' : Nat → Nat, b' = fun k => if k = i then W.heap.size else b k := ⟨_, rfl⟩
        have hbb : ∀ j, listed.getD j false = true → b j = b' j := fun j hj => by
          have : j ≠ i := fun e => by rw [e, hSi] at hj; cases hj
          rw [hb']; simp [this]
        have hbi : b' i = W.heap.size := by rw [hb']; simp
        have hv : pval ks b' i = .pointer (some ⟨W.heap.size, 0, none⟩) := by unfold pval; rw [hk, ← hbi]
        have hS' := (hS.blocks hbb).put hok.own him ho (S' := fun k => (listed.setIfInBounds i true).getD k false) hSet hSi
        rw [hv] at hS'
        obtain ⟨h1, h2⟩ := pWalk_ob hok.len (h b') ho hk
        rw [← hwant b' hbb] at h1
        rw [← hexec b' hbb] at h2
        simp only [h1, if_true]
        refine .inl ?_
        unfold Oper.wp
        rw [h2 W]
        show wpAny P .any l.toArray Q (fuel + g) _ (a.put o.dst _) _
        have hK' := hK.new t z
        rw [List.append_assoc] at hK'
        refine ih _ _ _ hinv' hun ⟨b', E ++ [(t, W.heap.size, z)], fun k => if k = i then (Lb ++ E).length else κ k, hK', hS', ?_⟩
        have hsk : ∀ s, (∃ j, ks[s]? = some (.store j)) → (listed.setIfInBounds i true).getD s false = listed.getD s false := fun s ⟨j, hs⟩ => by
          rw [hSet]
          have : s ≠ i := fun e => by rw [e, hk] at hs; cases hs
          simp [this]
        have hold : ∀ j t z st, ks[j]? = some (.alloc t z st) → j ≠ i → (listed.setIfInBounds i true).getD j false = true → Lb.length ≤ κ j ∧ (Lb ++ E)[κ j]? = some (t, b j, pcont (fun k => (listed.setIfInBounds i true).getD k false) z st) ∧ κ j < (Lb ++ E).length ∧ listed.getD j false = true := fun j t z st hj hne hSj => by
          have hSj' : listed.getD j false = true := by rw [hSet] at hSj; simpa [hne] using hSj
          have h3 := hB.at_ j t z st hj hSj'
          refine ⟨h3.1, ?_, lt_of_some h3.2, hSj'⟩
          rw [h3.2]
          cases st with
          | none => rfl
          | some sv =>
            obtain ⟨s, vs⟩ := sv
            simp only [pcont]
            rw [hsk s ⟨j, hok.stored j s t z vs hj⟩]
        rw [← List.append_assoc]
        refine ⟨fun j t' z' st' hj hSj => ?_, fun s j hs hSs => ?_, fun j j' t1 z1 st1 t2 z2 st2 hj hj' g1 g2 hne => ?_⟩
        · by_cases e : j = i
          · subst e
            rw [hk] at hj
            injection hj with hj
            injection hj with e1 e2 e3
            subst e1 e2 e3
            simp only [if_true]
            refine ⟨by rw [List.length_append]; omega, ?_⟩
            rw [List.getElem?_append_right (Nat.le_refl _), Nat.sub_self, hbi]
            show some (t, W.heap.size, z) = _
            cases st with
            | none => rfl
            | some sv =>
              obtain ⟨s, vs⟩ := sv
              simp only [pcont]
              have hs := hok.stored j s t z vs hk
              rw [hsk s ⟨j, hs⟩]
              cases hSs : listed.getD s false with
              | false => rfl
              | true => have := hB.wait s j hs hSs; rw [hSi] at this; cases this
          · obtain ⟨g1, g2, g3, g4⟩ := hold j t' z' st' hj e hSj
            simp only [e, if_false]
            refine ⟨g1, ?_⟩
            rw [List.getElem?_append_left g3, g2, hbb j g4]
        · have h1 := hB.wait s j hs ((hsk s ⟨j, hs⟩).symm.trans hSs)
          show (listed.setIfInBounds i true).getD j false = true
          rw [hSet, h1]
          rfl
        · by_cases e : j = i
          · have e' : j' ≠ i := fun e2 => hne (e.trans e2.symm)
            obtain ⟨_, _, g3, _⟩ := hold j' t2 z2 st2 hj' e' g2
            simp only [e, e', if_true, if_false]
            omega
          · by_cases e' : j' = i
            · obtain ⟨_, _, g3, _⟩ := hold j t1 z1 st1 hj e g1
              simp only [e, e', if_true, if_false]
              omega
            · simp only [e, e', if_false]
              exact hB.inj j j' t1 z1 st1 t2 z2 st2 hj hj' (hold j t1 z1 st1 hj e g1).2.2.2 (hold j' t2 z2 st2 hj' e' g2).2.2.2 hne
      | store j =>
        obtain ⟨⟨t, z, vs, hj⟩, e0, he0, e1, e2⟩ := hok.store i j o ho hk
        have hSj : listed.getD j false = true := by have := hall e0 he0 e2; rw [e1] at this; exact this
        have hv : pval ks b i = undef := by unfold pval; rw [hk]
        have hS' := hS.put hok.own him ho (S' := fun k => (listed.setIfInBounds i true).getD k false) hSet hSi
        rw [hv] at hS'
        obtain ⟨h1, h2⟩ := pWalk_ob hok.len (h b) ho hk
        rw [← hwant b hb0] at h1
        simp only [h1, if_true]
        refine .inl ?_
        have h3 := hB.at_ j t z (some (i, vs)) hj hSj
        have h3' : (Lb ++ E)[κ j]? = some (t, b j, z) := by
          rw [h3.2]
          simp only [pcont]
          rw [hSi]
          rfl
        obtain ⟨hlen, hrun⟩ := h2 t z i vs hj W (hK.at _ h3')
        rw [← hexec b hb0] at hrun
        unfold Oper.wp
        rw [hrun]
        show wpAny P .any l.toArray Q (fuel + g) _ (a.put o.dst undef) _
        have hK' := hK.store (κ j) h3' vs hlen
        have eset : (Lb ++ E).set (κ j) (t, b j, vs) = Lb ++ E.set (κ j - Lb.length) (t, b j, vs) := List.set_append_right _ _ h3.1
        have hal : ∀ j t z st, ks[j]? = some (.alloc t z st) → (listed.setIfInBounds i true).getD j false = listed.getD j false := fun j t z st hs => by
          rw [hSet]
          have : j ≠ i := fun e => by rw [e, hk] at hs; cases hs
          simp [this]
        refine ih _ _ _ hinv' hun ⟨b, E.set (κ j - Lb.length) (t, b j, vs), κ, by rw [← eset]; exact hK', hS', ?_⟩
        rw [← eset]
        refine ⟨fun k t' z' st' hkk hSk => ?_, fun s k hs hSs => ?_, fun k k' t1 z1 st1 t2 z2 st2 hkk hkk' g1 g2 hne => ?_⟩
        · by_cases e : k = j
          · subst e
            rw [hj] at hkk
            injection hkk with hkk
            injection hkk with e1 e2 e3
            subst e1 e2 e3
            refine ⟨h3.1, ?_⟩
            rw [List.getElem?_set_self (lt_of_some h3')]
            simp only [pcont]
            rw [hSet]
            simp
          · have h4 := hB.at_ k t' z' st' hkk ((hal k t' z' st' hkk).symm.trans hSk)
            refine ⟨h4.1, ?_⟩
            have hne2 : κ j ≠ κ k := hB.inj j k t z _ t' z' st' hj hkk hSj ((hal k t' z' st' hkk).symm.trans hSk) (Ne.symm e)
            rw [List.getElem?_set_ne hne2, h4.2]
            cases st' with
            | none => rfl
            | some sv =>
              obtain ⟨s, vs'⟩ := sv
              simp only [pcont]
              have hs := hok.stored k s t' z' vs' hkk
              have : s ≠ i := fun e5 => by
                rw [e5, hk] at hs
                injection hs with hs
                injection hs with hs
                exact e hs.symm
              rw [hSet]
              simp [this]
        · show (listed.setIfInBounds i true).getD k false = true
          by_cases e : s = i
          · subst e
            rw [hk] at hs
            injection hs with hs
            injection hs with hs
            subst hs
            rw [hSet, hSj]
            rfl
          · have hSs' : listed.getD s false = true := by
              have h6 : (listed.setIfInBounds i true).getD s false = true := hSs
              rw [hSet] at h6
              simpa [e] using h6
            have h5 := hB.wait s k hs hSs'
            rw [hSet, h5]
            rfl
        · exact hB.inj k k' t1 z1 st1 t2 z2 st2 hkk hkk' ((hal k t1 z1 st1 hkk).symm.trans g1) ((hal k' t2 z2 st2 hkk').symm.trans g2) hne
theorem par_start {w W0 : World} {Lb : List (TypeId × Nat × List Value)} {l : List Oper} {ks : List PKind} {a0 : Act} (hC : KV w Lb W0) (n : Nat) :
    ∃ b E κ, KV w (Lb ++ E) W0 ∧ Slots l ks a0 (fun k => (Array.replicate n false).getD k false) b a0 ∧ Blks ks (Lb ++ E) Lb.length (fun k => (Array.replicate n false).getD k false) b κ := by
  refine ⟨fun _ => 0, [], fun _ => 0, by rw [List.append_nil]; exact hC, ⟨rfl, rfl, fun i o d hi _ hS => ?_, fun d _ => rfl⟩, ⟨fun i t z st hi hS => ?_, fun s j hs hS => ?_, fun i j t z st t' z' st' hi hj hS => ?_⟩⟩
  all_goals
    exfalso
    have hS' := hS
    simp only [getD_replicate_false] at hS'
    cases hS'
theorem unl_start (n m : Nat) : unl (fun k => (Array.replicate n false).getD k false) m = m := by
  induction m with
  | zero => rfl
  | succ m ih => rw [unl, ih, getD_replicate_false]; rfl
theorem inv_start (l : List Oper) (m : Nat) : HeadInv .any l.toArray m (Array.replicate l.toArray.size false) :=
  ⟨by simp, fun j oj _ hl => (by rw [getD_replicate_false] at hl; cases hl), fun t _ ht => getD_in (by simpa using ht) (getD_replicate_false _ _)⟩
/-- **ONE WALK IN THE ORDER OF THE TEXT SERVES EVERY ORDER**, also where the region makes variables and stores each once. -/
theorem wp_region_par {id : Nat} {Q : Exit → Act → World → Prop} {a0 : Act} {w W0 : World} {l : List Oper} (ks : List PKind) (Lb : List (TypeId × Nat × List Value)) (hm : P.follows .mixedOrders = true) (hB : (parB l ks && ks.length == l.length) = true) (hC : KV w Lb W0.drew)
    (h : ∀ b, pWalk P w Lb l.toArray ks b 0 l ks a0)
    (hend : ∀ b κ E W, KV w (Lb ++ E) W → Blks ks (Lb ++ E) Lb.length (fun _ => true) b κ → Q .normal (lexAct l ks b a0 ks.length) W) : (Code.region id l.toArray true).wp P Q a0 W0 := by
  refine wp_region_any hm ?_
  rw [Bool.and_eq_true, beq_iff_eq] at hB
  have hok := parB_spec hB.1
  have hlen := hB.2
  have H := par_any (g := 0) (Q := Q) hok h (fun listed hinv i hi hu t ht hr => by
    obtain ⟨_, o, ho, _⟩ := mem_ready.1 hr
    have := lt_of_some (l := l) (by simpa using ho)
    omega) (fun listed b κ E W hinv hall hK hBl => (by
      refine ⟨?_, hend b κ E W hK hBl⟩
      rw [List.eq_nil_iff_forall_not_mem]
      intro j hj
      obtain ⟨h0, o, ho, _⟩ := mem_ready.1 hj
      have h1 := hall j (by rw [hlen]; exact lt_of_some (by simpa using ho))
      rw [getD_both h0] at h1
      cases h1)) ks.length (Array.replicate l.toArray.size false) a0 W0.drew (inv_start l _) (unl_start _ _) (par_start hC _)
  rw [Nat.add_zero, hlen] at H
  simpa using H
def tailB (l : List Oper) (m : Nat) : Bool := decide (m < l.length) && Region.sinkB .any l.toArray m && Region.chainB .any l.toArray m && Region.seqB .any l.toArray (l.length - m) m (Array.replicate m true ++ Array.replicate (l.length - m) false)
theorem par_tail_any {Q : Exit → Act → World → Prop} {a0 : Act} {w W0 : World} {l : List Oper} (ks : List PKind) (Lb : List (TypeId × Nat × List Value)) (hB : (parB l ks && tailB l ks.length) = true) (hC : KV w Lb W0.drew)
    (h : ∀ b, pWalk P w Lb l.toArray ks b 0 l ks a0)
    (hend : ∀ b κ E W, KV w (Lb ++ E) W → Blks ks (Lb ++ E) Lb.length (fun _ => true) b κ → wpList P l.toArray Q (l.drop ks.length) (lexAct l ks b a0 ks.length) W) : wpAny P .any l.toArray Q l.toArray.size (Array.replicate l.toArray.size false) a0 { W0 with drawn := W0.drawn + 1 } := by
  rw [Bool.and_eq_true] at hB
  have hok := parB_spec hB.1
  have hT := hB.2
  simp only [tailB, Bool.and_eq_true, decide_eq_true_eq] at hT
  obtain ⟨⟨⟨hn, hs⟩, hc⟩, hq⟩ := hT
  have H := par_any (g := l.length - ks.length) (Q := Q) hok h (fun listed hinv i hi hu t ht => tail_waits hs hc (by simpa using hn) hinv _ i rfl hi hu t ht) (fun listed b κ E W hinv hall hK hBl => by
    have el : listed = Array.replicate ks.length true ++ Array.replicate (l.length - ks.length) false := by
      have hsz : listed.size = l.length := by rw [hinv.size]; simp
      apply Array.ext
      · simp [hsz]; omega
      · intro i h1 h2
        rcases Nat.lt_or_ge i ks.length with hlt | hge
        · have := hall i hlt
          simp [h1] at this
          rw [this, Array.getElem_append_left (by simpa using hlt)]
          simp
        · have := hinv.tail i hge (by rw [hinv.size] at h1; exact h1)
          simp [h1] at this
          rw [this, Array.getElem_append_right (by simpa using hge)]
          simp
    have h1 := wpAny_of_seq (P := P) (md := .any) (ops := l.toArray) (Q' := Q) (l.drop ks.length) ks.length listed (lexAct l ks b a0 ks.length) W (fun j => by simp) (by rw [el]; simpa using hq) (hend b κ E W hK hBl)
    simpa using h1) ks.length (Array.replicate l.toArray.size false) a0 W0.drew (inv_start l _) (unl_start _ _) (par_start hC _)
  rw [show ks.length + (l.length - ks.length) = l.toArray.size by simp; omega] at H
  exact H
/-- The same, the last operations coming behind all others, one by one. -/
theorem wp_region_par_tail {id : Nat} {Q : Exit → Act → World → Prop} {a0 : Act} {w W0 : World} {l : List Oper} (ks : List PKind) (Lb : List (TypeId × Nat × List Value)) (hm : P.follows .mixedOrders = true) (hB : (parB l ks && tailB l ks.length) = true) (hC : KV w Lb W0.drew)
    (h : ∀ b, pWalk P w Lb l.toArray ks b 0 l ks a0)
    (hend : ∀ b κ E W, KV w (Lb ++ E) W → Blks ks (Lb ++ E) Lb.length (fun _ => true) b κ → wpList P l.toArray Q (l.drop ks.length) (lexAct l ks b a0 ks.length) W) : (Code.region id l.toArray true).wp P Q a0 W0 := by
  exact wp_region_any hm (par_tail_any ks Lb hB hC h hend)
end
/-- A list of variables read off a longer one. -/
theorem KV.pick {w W : World} {L L' : List (TypeId × Nat × List Value)} (h : KV w L W) (f : List Nat) (hf : f.Pairwise (· ≠ ·)) (hlen : L'.length = f.length) (hL : ∀ q ∈ L'.zip f, L[q.2]? = some q.1) : KV w L' W := by
  have key : ∀ (i : Nat) p, L'[i]? = some p → ∃ x, f[i]? = some x ∧ L[x]? = some p := fun i p hp => by
    have hi := lt_of_some hp
    have hx : f[i]? = some (f[i]'(by omega)) := List.getElem?_eq_getElem (by omega)
    refine ⟨_, hx, ?_⟩
    have hz : (L'.zip f)[i]? = some (p, f[i]'(by omega)) := by rw [List.getElem?_zip_eq_some]; exact ⟨hp, hx⟩
    exact hL _ (List.mem_of_getElem? hz)
  refine ⟨fun i p hp => ?_, fun i p hp => ?_, fun i j p q hp hq hij => ?_, h.bel⟩
  · obtain ⟨x, _, hx⟩ := key i p hp; exact h.arr x p hx
  · obtain ⟨x, _, hx⟩ := key i p hp; exact h.own x p hx
  · obtain ⟨x, hx, hx2⟩ := key i p hp
    obtain ⟨y, hy, hy2⟩ := key j q hq
    refine h.apart x y p q hx2 hy2 ?_
    rw [List.pairwise_iff_getElem] at hf
    have hix := lt_of_some hx
    have hjy := lt_of_some hy
    rw [List.getElem?_eq_getElem hix] at hx
    rw [List.getElem?_eq_getElem hjy] at hy
    injection hx with hx
    injection hy with hy
    rcases Nat.lt_or_gt_of_ne hij with hlt | hgt
    · rw [← hx, ← hy]; exact hf i j hix hjy hlt
    · rw [← hx, ← hy]; exact Ne.symm (hf j i hjy hix hgt)
section
variable {P : Program} {w : World} {Lb : List (TypeId × Nat × List Value)} {ops : Array Oper} {ks0 ks : List PKind} {b : Nat → Nat} {i : Nat} {o : Oper} {l : List Oper} {a : Act}
theorem pWalk_quiet {v : Value} (hw : Region.wanted o (yielded ops a.tmps) = true) (hq : ∀ E W, KV w (Lb ++ E) W → o.quietAt P a (KV w (Lb ++ E)) W v) (h : pWalk P w Lb ops ks0 b (i + 1) l ks (a.put o.dst v)) : pWalk P w Lb ops ks0 b i (o :: l) (.quiet v :: ks) a := ⟨.inl ⟨hw, hq⟩, h⟩
theorem pWalk_skip (hw : Region.wanted o (yielded ops a.tmps) = false) (h : pWalk P w Lb ops ks0 b (i + 1) l ks (a.put o.dst undef)) : pWalk P w Lb ops ks0 b i (o :: l) (.quiet undef :: ks) a := ⟨.inr ⟨hw, rfl⟩, h⟩
theorem pWalk_alloc {t : TypeId} {z : List Value} {st : Option (Nat × List Value)} (hw : Region.wanted o (yielded ops a.tmps) = true) (hq : ∀ W, (execOp a.eval o).run P W = .ok (.value (.pointer (some ⟨W.heap.size, 0, none⟩))) (W.alloc (.cells z.toArray t))) (h : pWalk P w Lb ops ks0 b (i + 1) l ks (a.put o.dst (.pointer (some ⟨b i, 0, none⟩)))) : pWalk P w Lb ops ks0 b i (o :: l) (.alloc t z st :: ks) a := ⟨⟨hw, hq⟩, h⟩
theorem pWalk_var {t : TypeId} {z : List Value} {st : Option (Nat × List Value)} (hw : Region.wanted o (yielded ops a.tmps) = true) (ho : o.op = .alloc t) (hz : ∀ W, (Instr.alloc t true (.tuple #[])).run P W = .ok (.pointer (some ⟨W.heap.size, 0, none⟩)) (W.alloc (.cells z.toArray t)))
    (h : pWalk P w Lb ops ks0 b (i + 1) l ks (a.put o.dst (.pointer (some ⟨b i, 0, none⟩)))) : pWalk P w Lb ops ks0 b i (o :: l) (.alloc t z st :: ks) a :=
  pWalk_alloc hw (fun W => by
    unfold execOp
    simp only [ho, Sem.run_bind, hz, Result.andThen_ok, Sem.run_pure]) h
theorem pWalk_store {j : Nat} (hw : Region.wanted o (yielded ops a.tmps) = true) (hq : ∀ t z s vs, ks0[j]? = some (.alloc t z (some (s, vs))) → ∀ W, ArrV t W (b j) z → vs.length = z.length ∧ (execOp a.eval o).run P W = .ok .skip (W.setCells (b j) 0 vs)) (h : pWalk P w Lb ops ks0 b (i + 1) l ks (a.put o.dst undef)) : pWalk P w Lb ops ks0 b i (o :: l) (.store j :: ks) a := ⟨⟨hw, hq⟩, h⟩
end
section
variable {w : World} {Lb : List (TypeId × Nat × List Value)} {ops : Array Oper} {ks0 ks : List PKind} {b : Nat → Nat} {i : Nat} {o : Oper} {l : List Oper} {a : Act}
theorem pWalk_put {j n s : Nat} {t : TypeId} {x y : Operand} {z vs : List Value} (hk : ks0[j]? = some (.alloc t z (some (s, vs)))) (hw : Region.wanted o (yielded ops a.tmps) = true) (ho : o.op = .store t x y) (hx : a.eval x = .pointer (some ⟨b j, 0, none⟩)) (hy : a.eval y = .agg vs.toArray) (ht : RowTy t n) (hz : z.length = n) (hv : vs.length = n) (h1 : ∀ v ∈ vs, v.oneCell' = true)
    (h : pWalk Try.prog w Lb ops ks0 b (i + 1) l ks (a.put o.dst undef)) : pWalk Try.prog w Lb ops ks0 b i (o :: l) (.store j :: ks) a :=
  pWalk_store hw (fun t' z' s' vs' hk' W hA => by
    rw [hk] at hk'
    injection hk' with hk'
    injection hk' with e1 e2 e3
    injection e3 with e3
    injection e3 with e3 e4
    subst e1 e2 e4
    refine ⟨by rw [hv, hz], ?_⟩
    have hst := hA.storeAt ht hz vs hv h1
    unfold execOp
    simp only [ho, hx, hy, Sem.run_bind, hst, Result.andThen_ok, Sem.run_pure]) h
end
/-- The load and the store of a whole variable, as laws of a region's step. -/
theorem step_load_v {ops : Array Oper} {o : Oper} {a : Act} {W : World} {K : Act → World → Prop} {Q : Exit → Act → World → Prop} {E : Prop} (hgd : o.guard = none) (t : TypeId) (x : Operand) (ho : o.op = .load t x) (g : Nat) (hx : a.eval x = .pointer (some ⟨g, 0, none⟩)) {n : Nat} {cs : List Value} (ht : RowTy t n) (h : ArrV t W g cs) (hl : cs.length = n)
    (hk : K (a.put o.dst (.agg cs.toArray)) W) : if Region.wanted o (yielded ops a.tmps) = true then Oper.wp Try.prog o a W K Q else E := by
  rw [if_pos (by simp [Region.wanted, hgd])]
  obtain ⟨d, hd, hr⟩ := ht.desc
  exact wp_load_mid t x ho g 0 hx cs d h.range hd hr (by rw [hl]; exact ht.size) hk
theorem step_store_v {ops : Array Oper} {o : Oper} {a : Act} {W : World} {K : Act → World → Prop} {Q : Exit → Act → World → Prop} {E : Prop} (hgd : o.guard = none) (t : TypeId) (x y : Operand) (ho : o.op = .store t x y) (g : Nat) (hx : a.eval x = .pointer (some ⟨g, 0, none⟩)) {n : Nat} {cs : List Value} (ht : RowTy t n) (h : ArrV t W g cs) (hl : cs.length = n) (vs : List Value) (hv : vs.length = n) (h1 : ∀ v ∈ vs, v.oneCell' = true) (hy : a.eval y = .agg vs.toArray)
    (hk : K (a.put o.dst undef) (W.setCells g 0 vs)) : if Region.wanted o (yielded ops a.tmps) = true then Oper.wp Try.prog o a W K Q else E := by
  rw [if_pos (by simp [Region.wanted, hgd])]
  exact wp_store_mid t x y ho g 0 vs.toArray hx hy (by rw [List.size_toArray, hv, ← hl]; exact h.there) (by rw [List.size_toArray, hv]; exact ht.size) (all_oneCell_toArray h1) hk
/-- All orders, step by step: what may come up now; the load, the store, and what is plain. -/
theorem wpAny_node {P : Program} {md : Region.Mode} {ops : Array Oper} {Q : Exit → Act → World → Prop} {fuel : Nat} {listed : Array Bool} {a : Act} {w : World} (r : List Nat) (hr : Region.ready md ops listed = r) (hne : r.isEmpty = false) (h : ∀ i ∈ r, wpOp P ops Q i (wpAny P md ops Q fuel (listed.setIfInBounds i true)) a w) : wpAny P md ops Q (fuel + 1) listed a w :=
  ⟨fun h0 => (by rw [hr] at h0; rw [h0] at hne; cases hne), fun i hi => h i (hr ▸ hi)⟩
theorem wpAny_leaf {P : Program} {md : Region.Mode} {ops : Array Oper} {Q : Exit → Act → World → Prop} {listed : Array Bool} {a : Act} {w : World} (hr : Region.ready md ops listed = []) (h : Q .normal a w) : wpAny P md ops Q 0 listed a w := ⟨hr, h⟩
theorem wpOp_step {P : Program} {ops : Array Oper} {Q : Exit → Act → World → Prop} {i : Nat} {K : Act → World → Prop} {a : Act} {w : World} {o : Oper} (ho : ops[i]? = some o) (h : if Region.wanted o (yielded ops a.tmps) = true then Oper.wp P o a w K Q else False) : wpOp P ops Q i K a w := by
  unfold wpOp
  rw [ho]
  by_cases hw : Region.wanted o (yielded ops a.tmps) = true
  · rw [if_pos hw] at h
    simp only [hw, if_true]
    exact .inl h
  · rw [if_neg hw] at h; exact h.elim
theorem step_val {P : Program} {ops : Array Oper} {o : Oper} {a : Act} {W : World} {K : Act → World → Prop} {Q : Exit → Act → World → Prop} {E : Prop} {v : Value} (hgd : o.guard = none) (hr : (execOp a.eval o).run P W = .ok (.value v) W) (hk : K (a.put o.dst v) W) : if Region.wanted o (yielded ops a.tmps) = true then Oper.wp P o a W K Q else E := by
  rw [if_pos (by simp [Region.wanted, hgd])]
  unfold Oper.wp
  rw [hr]
  exact hk
theorem quietAt_run {P : Program} {C : World → Prop} {o : Oper} {a : Act} {W : World} {v : Value} (hr : (execOp a.eval o).run P W = .ok (.value v) W) : Oper.quietAt P o a C W v := by
  unfold Oper.quietAt
  rw [hr]
  exact ⟨rfl, rfl⟩
theorem quietAt_call {P : Program} {C : World → Prop} {o : Oper} {a : Act} {W : World} {f : FuncId} {args : Array Value} {v : Value} (hr : (execOp a.eval o).run P W = .ok (.enter f args) W) (h : Calls P f args W fun e w'' => e = .returned v ∧ C w'') : Oper.quietAt P o a C W v := by
  unfold Oper.quietAt
  rw [hr]
  exact ⟨rfl, h⟩
end Go.Proofs.Ytemgnaalmgkfiaa

namespace Go.Proofs.Ytemgnaalmgkfiaa
open Go.RowKit
set_option linter.unusedVariables false
section
variable {P : Program}

/-- 'some v': it yields v; 'none': the one that stores. -/
def toK : Option Value → PKind
  | some v => .quiet v
  | none => .store 0
/-- What is asked of one operation, in the act that the order of the text has there: anc tells those that have come up when the store does. -/
def putOb (P : Program) (C0 C1 : World → Prop) (anc : List Nat) (ops : Array Oper) (i : Nat) (o : Oper) (a : Act) : Option Value → Prop
  | some v => (Region.wanted o (yielded ops a.tmps) = true ∧ (∀ W, C0 W → o.quietAt P a C0 W v) ∧ (anc.contains i = false → ∀ W, C1 W → o.quietAt P a C1 W v)) ∨ (Region.wanted o (yielded ops a.tmps) = false ∧ v = undef)
  | none => Region.wanted o (yielded ops a.tmps) = true ∧ ∀ W, C0 W → ∃ W', (execOp a.eval o).run P W = .ok .skip W' ∧ C1 W'
def putWalk (P : Program) (C0 C1 : World → Prop) (anc : List Nat) (ops : Array Oper) : Nat → List Oper → List (Option Value) → Act → Prop
  | i, o :: l, k :: ks, a => putOb P C0 C1 anc ops i o a k ∧ putWalk P C0 C1 anc ops (i + 1) l ks (a.put o.dst (k.getD undef))
  | _, _, _, _ => True
theorem pval_toK (ks : List (Option Value)) (i : Nat) (k : Option Value) (h : ks[i]? = some k) : pval (ks.map toK) (fun _ => 0) i = k.getD undef := by
  unfold pval
  rw [List.getElem?_map, h]
  cases k <;> rfl
theorem putWalk_at {C0 C1 : World → Prop} {anc : List Nat} {ops : Array Oper} {l : List Oper} {ks : List (Option Value)} {a0 : Act} (hl : ks.length ≤ l.length) (h : putWalk P C0 C1 anc ops 0 l ks a0) :
    ∀ i, i ≤ ks.length → putWalk P C0 C1 anc ops i (l.drop i) (ks.drop i) (lexAct l (ks.map toK) (fun _ => 0) a0 i)
  | 0, _ => h
  | i + 1, hi => by
    have hlt : i < l.length := Nat.lt_of_lt_of_le hi hl
    have h1 := putWalk_at hl h i (Nat.le_of_lt hi)
    rw [List.drop_eq_getElem_cons hlt, List.drop_eq_getElem_cons (by omega : i < ks.length)] at h1
    have h2 := h1.2
    have e : lexAct l (ks.map toK) (fun _ => 0) a0 (i + 1) = (lexAct l (ks.map toK) (fun _ => 0) a0 i).put l[i].dst ((ks[i]'(by omega)).getD undef) := by
      show (lexAct l (ks.map toK) (fun _ => 0) a0 i).put ((l[i]?).bind (·.dst)) (pval (ks.map toK) (fun _ => 0) i) = _
      rw [pval_toK ks i _ (List.getElem?_eq_getElem (by omega)), List.getElem?_eq_getElem hlt]
      rfl
    rw [e]
    exact h2
theorem putWalk_ob {C0 C1 : World → Prop} {anc : List Nat} {ops : Array Oper} {l : List Oper} {ks : List (Option Value)} {a0 : Act} (hl : ks.length ≤ l.length) (h : putWalk P C0 C1 anc ops 0 l ks a0) {i : Nat} {o : Oper} {k : Option Value} (ho : l[i]? = some o) (hk : ks[i]? = some k) :
    putOb P C0 C1 anc ops i o (lexAct l (ks.map toK) (fun _ => 0) a0 i) k := by
  have hlt := lt_of_some ho
  have hltk := lt_of_some hk
  have h1 := putWalk_at hl h i (Nat.le_of_lt hltk)
  rw [List.drop_eq_getElem_cons hlt, List.drop_eq_getElem_cons hltk] at h1
  have e1 : l[i] = o := by rw [List.getElem?_eq_getElem hlt] at ho; injection ho
  have e2 : ks[i] = k := by rw [List.getElem?_eq_getElem hltk] at hk; injection hk
  rw [e1, e2] at h1
  exact h1.1

/-- What a program can check. -/
def putB (l : List Oper) (ks : List (Option Value)) (p : Nat) (anc : List Nat) : Bool :=
  Region.noSelect l.toArray && (ks.length == l.length) &&
  (List.range ks.length).all (fun i => match l[i]?, ks[i]? with
    | some o, some k =>
      (o.after.all fun e => !Region.binds .any e || decide (e.on < i)) &&
      ((o.looksAt l.toArray).all fun d => (List.range l.length).all fun j => ((l[j]?).bind (·.dst)) != some d || o.after.any fun e => e.on == j && Region.binds .any e) &&
      (match o.dst with | none => true | some d => (List.range l.length).all fun j => j == i || ((l[j]?).bind (·.dst)) != some d) &&
      (match k with | some _ => !(i == p) | none => i == p)
    | _, _ => false) &&
  decide (p < ks.length) &&
  (List.range p).all fun i => !anc.contains i || (List.range (p + 1)).any fun j => decide (i < j) && (j == p || anc.contains j) && Region.waitsFor .any l.toArray j i
structure PutOk (l : List Oper) (ks : List (Option Value)) (p : Nat) (anc : List Nat) : Prop where
  sel : Region.noSelect l.toArray = true
  len : ks.length = l.length
  back : ∀ (i : Nat) o, i < ks.length → l[i]? = some o → ∀ e ∈ o.after, Region.binds .any e = true → e.on < i
  looks : ∀ (i : Nat) o, i < ks.length → l[i]? = some o → ∀ d ∈ o.looksAt l.toArray, ∀ (j : Nat) o', l[j]? = some o' → o'.dst = some d → ∃ e ∈ o.after, e.on = j ∧ Region.binds .any e = true
  own : OwnDst l ks.length
  kind : ∀ (i : Nat) k, ks[i]? = some k → (k = none ↔ i = p)
  plt : p < ks.length
  anc : ∀ i, i < p → anc.contains i = true → ∃ j, i < j ∧ j ≤ p ∧ (j = p ∨ anc.contains j = true) ∧ Region.waitsFor .any l.toArray j i = true
theorem putB_spec {l : List Oper} {ks : List (Option Value)} {p : Nat} {anc : List Nat} (h : putB l ks p anc = true) : PutOk l ks p anc := by
  unfold putB at h
  rw [Bool.and_eq_true, Bool.and_eq_true, Bool.and_eq_true, Bool.and_eq_true, beq_iff_eq, decide_eq_true_eq, List.all_eq_true, List.all_eq_true] at h
  obtain ⟨⟨⟨⟨h1, h2⟩, h3⟩, h4⟩, h5⟩ := h
  have key : ∀ (i : Nat) o k, l[i]? = some o → ks[i]? = some k → _ := fun i o k ho hk => by
    have h6 := h3 i (List.mem_range.2 (lt_of_some hk))
    simp only [ho, hk, Bool.and_eq_true] at h6
    exact h6
  have kOf : ∀ (i : Nat), i < ks.length → ∃ k, ks[i]? = some k := fun i hi => ⟨_, List.getElem?_eq_getElem hi⟩
  have oOf : ∀ (i : Nat) k, ks[i]? = some k → ∃ o, l[i]? = some o := fun i k hk => ⟨_, List.getElem?_eq_getElem (by rw [← h2]; exact lt_of_some hk)⟩
  refine ⟨h1, h2, fun i o him ho e he hbd => ?_, fun i o him ho d hd j o' hj hjd => ?_, fun i j o o' d him hi hj hid hjd => ?_, fun i k hk => ?_, h4, fun i hip hai => ?_⟩
  · obtain ⟨k, hk⟩ := kOf i him
    have h6 := (key i o k ho hk).1.1.1
    rw [Array.all_eq_true_iff_forall_mem] at h6
    simpa [hbd] using h6 e he
  · obtain ⟨k, hk⟩ := kOf i him
    have h6 := (key i o k ho hk).1.1.2
    rw [List.all_eq_true] at h6
    have h7 := h6 d hd
    rw [List.all_eq_true] at h7
    have h8 := h7 j (List.mem_range.2 (lt_of_some hj))
    rw [hj] at h8
    simp only [Option.bind_some, hjd, bne_self_eq_false, Bool.false_or, Array.any_eq_true', Bool.and_eq_true, beq_iff_eq] at h8
    exact h8
  · obtain ⟨k, hk⟩ := kOf i him
    have h6 := (key i o k hi hk).1.2
    rw [hid] at h6
    simp only [List.all_eq_true] at h6
    have h7 := h6 j (List.mem_range.2 (lt_of_some hj))
    rw [hj] at h7
    simp only [Option.bind_some, hjd, bne_self_eq_false, Bool.or_false, beq_iff_eq] at h7
    exact h7.symm
  · obtain ⟨o, ho⟩ := oOf i k hk
    have h6 := (key i o k ho hk).2
    cases k with
    | none => simp at h6; exact ⟨fun _ => h6, fun _ => rfl⟩
    | some v => simp at h6; exact ⟨fun h => (by cases h), fun h => absurd h h6⟩
  · have h6 := h5 i (List.mem_range.2 hip)
    rw [hai] at h6
    simp only [Bool.not_true, Bool.false_or, List.any_eq_true, List.mem_range, Bool.and_eq_true, Bool.or_eq_true, decide_eq_true_eq, beq_iff_eq] at h6
    obtain ⟨j, hj, ⟨h7, h8⟩, h9⟩ := h6
    exact ⟨j, h7, by omega, h8, h9⟩
theorem waits_listed {l : List Oper} {m : Nat} {listed : Array Bool} (inv : HeadInv .any l.toArray m listed) {j i : Nat} (hw : Region.waitsFor .any l.toArray j i = true) (hj : listed.getD j false = true) : listed.getD i false = true := by
  unfold Region.waitsFor at hw
  cases ho : l.toArray[j]? with
  | none => rw [ho] at hw; cases hw
  | some o =>
    rw [ho] at hw
    simp only [Array.any_eq_true', Bool.and_eq_true, beq_iff_eq] at hw
    obtain ⟨e, he, h1, h2⟩ := hw
    have := inv.closed j o ho hj e he h1
    rw [h2] at this
    exact this
/-- When the store has come up, so have those that it waits for. -/
theorem anc_listed {l : List Oper} {ks : List (Option Value)} {p : Nat} {anc : List Nat} (hok : PutOk l ks p anc) {m : Nat} {listed : Array Bool} (inv : HeadInv .any l.toArray m listed) (hp : listed.getD p false = true) :
    ∀ d i, p - i = d → i < p → anc.contains i = true → listed.getD i false = true := by
  intro d
  induction d using Nat.strongRecOn with
  | ind d ih =>
    intro i hd hip hai
    obtain ⟨j, h1, h2, h3, h4⟩ := hok.anc i hip hai
    have hj : listed.getD j false = true := by
      by_cases e : j = p
      · rw [e]; exact hp
      · exact ih (p - j) (by omega) j rfl (by omega) (h3.resolve_left e)
    exact waits_listed inv h4 hj
theorem put_any {Q : Exit → Act → World → Prop} {C0 C1 : World → Prop} {l : List Oper} {ks : List (Option Value)} {p : Nat} {anc : List Nat} {a0 : Act} (hok : PutOk l ks p anc) (hanc : ∀ i, anc.contains i = true → i < p) (h : putWalk P C0 C1 anc l.toArray 0 l ks a0)
    (hend : ∀ W, C1 W → Q .normal (lexAct l (ks.map toK) (fun _ => 0) a0 ks.length) W) :
    ∀ (fuel : Nat) (listed : Array Bool) (a : Act) (W : World), HeadInv .any l.toArray ks.length listed → unl (fun k => listed.getD k false) ks.length = fuel →
      Slots l (ks.map toK) a0 (fun k => listed.getD k false) (fun _ => 0) a → (if listed.getD p false = true then C1 W else C0 W) → wpAny P .any l.toArray Q fuel listed a W := by
  have hlen : ks.length ≤ l.length := Nat.le_of_eq hok.len
  intro fuel
  induction fuel with
  | zero =>
    intro listed a W hinv hf hS hC
    have hall := unl_none _ hf
    have hL := Slots.lex (ks := ks.map toK) (a0 := a0) (b := fun _ => 0) hok.own hlen ks.length (Nat.le_refl _)
    have ea : a = lexAct l (ks.map toK) (fun _ => 0) a0 ks.length := by
      have e1 : a.defers = (lexAct l (ks.map toK) (fun _ => 0) a0 ks.length).defers := hS.defers.trans hL.defers.symm
      have e2 : a.tmps = (lexAct l (ks.map toK) (fun _ => 0) a0 ks.length).tmps := by
        apply Array.ext_getElem?
        intro d
        exact hS.same hL d fun j o hj hjd => by
          have hlt : j < ks.length := by rw [hok.len]; exact lt_of_some hj
          rw [hall j hlt]
          simp [hlt]
      cases a
      cases hx : lexAct l (ks.map toK) (fun _ => 0) a0 ks.length
      rw [hx] at e1 e2
      simp only at e1 e2
      rw [e1, e2]
    rw [hall p hok.plt, if_pos rfl] at hC
    rw [ea]
    refine ⟨?_, hend W hC⟩
    rw [List.eq_nil_iff_forall_not_mem]
    intro j hj
    obtain ⟨h0, o, ho, _⟩ := mem_ready.1 hj
    have h1 := hall j (by rw [hok.len]; exact lt_of_some (by simpa using ho))
    rw [getD_both h0] at h1
    cases h1
  | succ fuel ih =>
    intro listed a W hinv hf hS hC
    have hsz : listed.size = l.length := by rw [hinv.size]; simp
    refine ⟨fun hr => ?_, fun i hi => ?_⟩
    · -- something may come up
      have hex : ∃ i, i < ks.length ∧ listed.getD i false = false := by
        apply Classical.byContradiction
        intro hno
        have hall : ∀ k, k < ks.length → listed.getD k false = true := fun k hk => by
          cases hl : listed.getD k false with
          | true => rfl
          | false => exact absurd ⟨k, hk, hl⟩ hno
        have : ∀ n, n ≤ ks.length → unl (fun k => listed.getD k false) n = 0 := fun n => by
          induction n with
          | zero => intro _; rfl
          | succ n ihn => intro hn; rw [unl, ihn (by omega), hall n (by omega)]; rfl
        rw [this _ (Nat.le_refl _)] at hf
        cases hf
      obtain ⟨i0, hi0, hl0⟩ := hex
      have hstep : ∀ k, k < ks.length → listed.getD k false = false → ∃ i, i ∈ Region.ready .any l.toArray listed := by
        intro k
        induction k using Nat.strongRecOn with
        | ind k ihk =>
          intro hk hl
          have hkl : k < l.length := Nat.lt_of_lt_of_le hk hlen
          have hkt : listed.getD k true = false := getD_in (by rw [hsz]; exact hkl) hl
          by_cases hrd : ∀ e ∈ l[k].after, Region.binds .any e = true → listed.getD e.on false = true
          · exact ⟨k, mem_ready.2 ⟨hkt, l[k], by simp [List.getElem?_eq_getElem hkl], hrd⟩⟩
          · have : ∃ e ∈ l[k].after, Region.binds .any e = true ∧ listed.getD e.on false = false := by
              apply Classical.byContradiction
              intro hno
              refine hrd fun e he hbe => ?_
              cases hl2 : listed.getD e.on false with
              | true => rfl
              | false => exact absurd ⟨e, he, hbe, hl2⟩ hno
            obtain ⟨e, he, hbe, hl2⟩ := this
            have h1 := hok.back k l[k] hk (List.getElem?_eq_getElem hkl) e he hbe
            exact ihk e.on h1 (Nat.lt_trans h1 hk) hl2
      obtain ⟨i1, hr1⟩ := hstep i0 hi0 hl0
      rw [hr] at hr1
      cases hr1
    · obtain ⟨h0, o, ho', hall⟩ := mem_ready.1 hi
      have ho : l[i]? = some o := by simpa using ho'
      have hlt : i < l.length := lt_of_some ho
      have him : i < ks.length := by rw [hok.len]; exact hlt
      have hinv' := hinv.set hi him
      have hlt2 : i < listed.size := by rw [hsz]; exact hlt
      have hSi : listed.getD i false = false := by simp [hlt2] at h0 ⊢; exact h0
      have hSet : ∀ k, (listed.setIfInBounds i true).getD k false = (listed.getD k false || decide (k = i)) := fun k => by
        by_cases e : k = i
        · subst e
          simp [hlt2]
        · rw [getD_set_ne false (Ne.symm e)]; simp [e]
      have hun : unl (fun k => (listed.setIfInBounds i true).getD k false) ks.length = fuel := by
        have := unl_set (S := fun k => listed.getD k false) (S' := fun k => (listed.setIfInBounds i true).getD k false) hSet hSi ks.length him
        omega
      obtain ⟨k, hk⟩ : ∃ k, ks[i]? = some k := ⟨_, List.getElem?_eq_getElem him⟩
      have hlooks : ∀ d ∈ o.looksAt l.toArray, a.tmps[d]? = (lexAct l (ks.map toK) (fun _ => 0) a0 i).tmps[d]? := fun d hd =>
        hS.same (Slots.lex hok.own hlen i (Nat.le_of_lt him)) d fun j o' hj hjd => by
          obtain ⟨e, he, e1, e2⟩ := hok.looks i o him ho d hd j o' hj hjd
          have h1 := hall e he e2
          have h2 := hok.back i o him ho e he e2
          rw [e1] at h1 h2
          rw [h1]
          simp [h2]
      have hexec : execOp a.eval o = execOp (lexAct l (ks.map toK) (fun _ => 0) a0 i).eval o :=
        execOp_congr o (fun cs bb => Region.noSelect_spec hok.sel i o cs bb ho') fun x hx => by
          cases x with
          | tmp t =>
            have h1 := hlooks t (List.mem_append_left _ (List.mem_filterMap.2 ⟨.tmp t, by simpa using hx, rfl⟩))
            show a.tmps.getD t undef = (lexAct l (ks.map toK) (fun _ => 0) a0 i).tmps.getD t undef
            rw [Array.getD_eq_getD_getElem?, Array.getD_eq_getD_getElem?, h1]
          | _ => rfl
      have hwant : Region.wanted o (yielded l.toArray a.tmps) = Region.wanted o (yielded l.toArray (lexAct l (ks.map toK) (fun _ => 0) a0 i).tmps) := by
        unfold Region.wanted
        cases hg : o.guard with
        | none => rfl
        | some gw =>
          obtain ⟨g, want⟩ := gw
          have hy : yielded l.toArray a.tmps g = yielded l.toArray (lexAct l (ks.map toK) (fun _ => 0) a0 i).tmps g := by
            unfold yielded
            cases ht : (l.toArray[g]?).bind (·.dst) with
            | none => rfl
            | some d =>
              have h1 := hlooks d (by unfold Oper.looksAt; rw [hg]; exact List.mem_append_right _ (by simp only [ht]; exact List.mem_singleton.2 rfl))
              simp only [Option.bind_some, h1]
          simp only [hy]
      unfold wpOp
      rw [ho']
      have hS' := hS.put hok.own him ho (S' := fun k => (listed.setIfInBounds i true).getD k false) hSet hSi
      rw [pval_toK ks i k hk] at hS'
      have hob := putWalk_ob hlen h ho hk
      cases k with
      | some v =>
        have hne : i ≠ p := fun e => by have := (hok.kind i _ hk).2 e; cases this
        have hpp : (listed.setIfInBounds i true).getD p false = listed.getD p false := by
          rw [hSet]
          simp [Ne.symm hne]
        rcases hob with ⟨h1, h2, h3⟩ | ⟨h1, h2⟩
        · rw [← hwant] at h1
          simp only [h1, if_true]
          cases hp : listed.getD p false with
          | false =>
            rw [hp, if_neg (by simp)] at hC
            refine .inl (Oper.wp_of_quiet (C := C0) (K := fun a' => a' = a.put o.dst v) hC (fun a' W' hC' ha' => ?_) ⟨v, fun W' hW' => ?_, rfl⟩)
            · subst ha'
              exact ih _ _ _ hinv' hun hS' (by rw [hpp, hp, if_neg (by simp)]; exact hC')
            · have h4 := h2 W' hW'
              unfold Oper.quietAt at h4 ⊢
              rw [hexec]
              exact h4
          | true =>
            rw [hp, if_pos rfl] at hC
            have hna : anc.contains i = false := by
              cases hc : anc.contains i with
              | false => rfl
              | true =>
                have := anc_listed hok hinv hp _ i rfl (hanc i hc) hc
                rw [hSi] at this
                cases this
            refine .inl (Oper.wp_of_quiet (C := C1) (K := fun a' => a' = a.put o.dst v) hC (fun a' W' hC' ha' => ?_) ⟨v, fun W' hW' => ?_, rfl⟩)
            · subst ha'
              exact ih _ _ _ hinv' hun hS' (by rw [hpp, hp, if_pos rfl]; exact hC')
            · have h4 := h3 hna W' hW'
              unfold Oper.quietAt at h4 ⊢
              rw [hexec]
              exact h4
        · rw [← hwant] at h1
          simp only [h1, Bool.false_eq_true, if_false]
          subst h2
          exact ih _ _ _ hinv' hun hS' (by rw [hpp]; exact hC)
      | none =>
        have he : i = p := (hok.kind i _ hk).1 rfl
        rw [← he, hSi, if_neg (by simp)] at hC
        obtain ⟨h1, h2⟩ := hob
        rw [← hwant] at h1
        simp only [h1, if_true]
        refine .inl ?_
        obtain ⟨W', hrun, hC1⟩ := h2 W hC
        rw [← hexec] at hrun
        unfold Oper.wp
        rw [hrun]
        show wpAny P .any l.toArray Q fuel _ (a.put o.dst undef) _
        exact ih _ _ _ hinv' hun hS' (by rw [← he, hSet]; simp; exact hC1)
/-- **The rule.** -/
theorem wp_region_put {id : Nat} {Q : Exit → Act → World → Prop} {a0 : Act} {W0 : World} {l : List Oper} {C0 C1 : World → Prop} (ks : List (Option Value)) (p : Nat) (anc : List Nat) (hm : P.follows .mixedOrders = true) (hB : (putB l ks p anc && anc.all fun i => decide (i < p)) = true) (hC : C0 W0.drew)
    (h : putWalk P C0 C1 anc l.toArray 0 l ks a0) (hend : ∀ W, C1 W → Q .normal (lexAct l (ks.map toK) (fun _ => 0) a0 ks.length) W) : (Code.region id l.toArray true).wp P Q a0 W0 := by
  refine wp_region_any hm ?_
  rw [Bool.and_eq_true] at hB
  have hok := putB_spec hB.1
  have hanc : ∀ i, anc.contains i = true → i < p := fun i hi => by
    have := (List.all_eq_true.1 hB.2) i (by simpa using hi)
    simpa using this
  have H := put_any (Q := Q) hok hanc h hend (unl (fun k => (Array.replicate l.toArray.size false).getD k false) ks.length) (Array.replicate l.toArray.size false) a0 W0.drew (inv_start l _) rfl ?_ ?_
  · rw [unl_start] at H
    rw [hok.len] at H
    simpa using H
  · exact ⟨rfl, rfl, fun i o d _ _ hf _ => (by rw [getD_replicate_false] at hf; cases hf), fun d _ => rfl⟩
  · rw [if_neg (by rw [getD_replicate_false]; simp)]
    exact hC
theorem putWalk_quiet {C0 C1 : World → Prop} {anc : List Nat} {ops : Array Oper} {i : Nat} {o : Oper} {l : List Oper} {ks : List (Option Value)} {a : Act} {v : Value} (hw : Region.wanted o (yielded ops a.tmps) = true) (h0 : ∀ W, C0 W → o.quietAt P a C0 W v) (h1 : anc.contains i = false → ∀ W, C1 W → o.quietAt P a C1 W v)
    (h : putWalk P C0 C1 anc ops (i + 1) l ks (a.put o.dst v)) : putWalk P C0 C1 anc ops i (o :: l) (some v :: ks) a := ⟨.inl ⟨hw, h0, h1⟩, h⟩
theorem putWalk_skip {C0 C1 : World → Prop} {anc : List Nat} {ops : Array Oper} {i : Nat} {o : Oper} {l : List Oper} {ks : List (Option Value)} {a : Act} (hw : Region.wanted o (yielded ops a.tmps) = false)
    (h : putWalk P C0 C1 anc ops (i + 1) l ks (a.put o.dst undef)) : putWalk P C0 C1 anc ops i (o :: l) (some undef :: ks) a := ⟨.inr ⟨hw, rfl⟩, h⟩
theorem putWalk_put {C0 C1 : World → Prop} {anc : List Nat} {ops : Array Oper} {i : Nat} {o : Oper} {l : List Oper} {ks : List (Option Value)} {a : Act} (hw : Region.wanted o (yielded ops a.tmps) = true) (h0 : ∀ W, C0 W → ∃ W', (execOp a.eval o).run P W = .ok .skip W' ∧ C1 W')
    (h : putWalk P C0 C1 anc ops (i + 1) l ks (a.put o.dst undef)) : putWalk P C0 C1 anc ops i (o :: l) (none :: ks) a := ⟨⟨hw, h0⟩, h⟩
end

/-- The store of a whole variable of the class. -/
theorem put_store {o : Oper} {a : Act} {w : World} {L : List (TypeId × Nat × List Value)} (i : Nat) {t : TypeId} {g n : Nat} {x y : Operand} {z vs : List Value} (hi : L[i]? = some (t, g, z)) (ho : o.op = .store t x y) (hx : a.eval x = .pointer (some ⟨g, 0, none⟩)) (hy : a.eval y = .agg vs.toArray) (ht : RowTy t n) (hz : z.length = n) (hv : vs.length = n) (h1 : ∀ v ∈ vs, v.oneCell' = true) :
    ∀ W, KV w L W → ∃ W', (execOp a.eval o).run Try.prog W = .ok .skip W' ∧ KV w (L.set i (t, g, vs)) W' := fun W hW => by
  refine ⟨W.setCells g 0 vs, ?_, hW.store i hi vs (by rw [hv, hz])⟩
  have hst := (hW.at i hi).storeAt ht hz vs hv h1
  unfold execOp
  simp only [ho, hx, hy, Sem.run_bind, hst, Result.andThen_ok, Sem.run_pure]
end Go.Proofs.Ytemgnaalmgkfiaa
