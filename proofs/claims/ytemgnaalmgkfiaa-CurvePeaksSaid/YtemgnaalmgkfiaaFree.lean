/-
  A range over a function whose iterator writes variables of its own between two rounds; a region that draws its order, in a round. Of whatever program.
-/
import Derived.RangeFuncNested
import Derived.RangeFuncBound
import Derived.RangeFuncCalls
import Derived.RangeFuncLeaves
import Derived.RangeFuncBox
import Derived.RangeFuncWrites
import Derived.OrdersIn
import Derived.Orders
namespace Go.Proofs.Ytemgnaalmgkfiaa
open Go.RowKit
set_option linter.unusedVariables false

section
variable {P : Program} {F : Fence} {n : Nat}
/-- What an iterator does for whatever caller: the caller's invariants speak of what lay when the iteration began, the iterator turns nothing of that. -/
def SeqFree {α : Type} (F : Fence) (n : Nat) (P : Program) (g : Nat) (lb : Array Value) (encs : α → Array Value) (Kp : World → World → Prop) (S Sp : List α → Prop) (N : Nat) (w : World) : Prop :=
  ∀ (l : Nat) (J Jx : List α → World → Prop) (W : World), Below w.heap.size w W → w.heap.size ≤ W.heap.size → (∀ s A B, J s A → Below W.heap.size A B → J s B) → (∀ s A B, Jx s A → Below W.heap.size A B → Jx s B) →
    (∀ pre x W1, J pre W1 → pre.length < N → YieldAt F (n - 1) P l (encs x) W1 fun e W' =>
      (e = .returned (.bool true) ∧ J (pre ++ [x]) W' ∧ Kp W1 W') ∨ (e = .returned (.bool false) ∧ Jx (pre ++ [x]) W')) →
    J [] W →
    CallsIn F n P g (#[.func (.yield l) #[] #[]] ++ lb) W fun e W' => (∃ v, e = .returned v) ∧ ((∃ xs, S xs ∧ J xs W') ∨ (∃ pre, Sp pre ∧ Jx pre W'))

theorem below_put {B : Nat} {W : World} {l : Nat} {o o' : Obj} (hl : W.heap[l]? = some o) (hB : B ≤ l) : Below B W (W.putObj l o') :=
  (Below.refl B W).grown (grownBy_putObj' W l o') (by have := (Array.getElem?_eq_some_iff.1 hl).1; omega) (fun k e => by cases e; exact hB)

/-- The loop's law. -/
theorem rangeFree {α : Type} {g : Operand} {ps : Array Tmp} {assign body : Code} {Q : Exit → Act → World → Prop} {a : Act} {w : World}
    (hro : F.round = none) (h1 : 1 ≤ n) {gf : Nat} {lb : Array Value} (hg : a.eval g = .func (.func gf) #[] lb) (hFg : F.fn gf) (eg : ∀ args w, (callFunc gf args).run P w = .ok (.enter gf args) w)
    {encs : α → Array Value} {Kp : World → World → Prop} {S Sp : List α → Prop} {N : Nat} (hseq : SeqFree F (n - 1) P gf lb encs Kp S Sp N w)
    (hKt : ∀ {A B C : World}, Kp A B → Kp B C → Kp A C) (hKb : ∀ (W : World) (l : Nat) (o o' : Obj), w.heap.size ≤ l → W.heap[l]? = some o → o.isCells = false → Kp W (W.putObj l o')) (hps : ∀ x, (encs x).size = ps.size)
    (I : List α → World → Prop) (Ix : Code → List α → World → Prop) (hI : ∀ s A B, I s A → Below w.heap.size A B → I s B) (hIx : ∀ c s A B, Ix c s A → Below w.heap.size A B → Ix c s B) (h0 : I [] w) (a₁ : α → World → Act) (u : α → World → World) (hu : ∀ x W, Below W.heap.size W (u x W)) (hKu : ∀ x W, Kp W (u x W))
    (hassign : ∀ (l : Nat) (x : α) (W : World) (K : Act → World → Prop), K (a₁ x W) (u x W) →
      assign.wpIn (F.inRound l) (n - 1 - 1) P (Exit.then K (fun _ _ _ => False)) { tmps := (ps.zip (encs x)).foldl (fun t (p, v) => t.setIfInBounds p v) a.tmps, defers := [] } W)
    (hbody : ∀ (l : Nat) (pre : List α) (x : α) (V W : World), I pre W → w.heap.size + 2 ≤ V.heap.size → W.heap.size = (u x V).heap.size → (∀ k, k ≠ w.heap.size + 1 → W.heap[k]? = (u x V).heap[k]?) → pre.length < N → body.wpIn (F.inRound l) (n - 1 - 1) P (ownPostG w.heap.size Kp I Ix (pre ++ [x]) W) (a₁ x V) W)
    (hdone : ∀ (D : Nat) (xs : List α) (W : World), w.heap.size ≤ D → S xs → I xs W → W.heap[D]? = some (.deferred (some [])) → Q .normal { a with defers := { target := .collected D, args := #[] } :: a.defers } W)
    (hstop : ∀ (D : Nat) (c : Code) (pre : List α) (W : World), w.heap.size ≤ D → Sp pre → Ix c pre W → W.heap[D]? = some (.deferred (some [])) → c.wpIn F n P Q { a with defers := { target := .collected D, args := #[] } :: a.defers } W) :
    (Code.rangeFunc g ps assign body).wpIn F n P Q a w := by
  refine wpIn_rangeFunc ?_
  intro fn hfn
  rw [hro]
  obtain ⟨rc, hrc⟩ : ∃ rc : LoopState → Option Code → Loop, rc = fun st pe => { state := st, pending := pe, fn, tmps := a.tmps, params := ps, assign, body, defers := w.heap.size } := ⟨_, rfl⟩
  obtain ⟨V, hV⟩ : ∃ V, V = (w.alloc (.deferred (some []))).alloc (.loop (rc .ready none)) := ⟨_, rfl⟩
  have vs : V.heap.size = w.heap.size + 2 := by rw [hV]; simp
  have vb : Below w.heap.size w V := by rw [hV]; exact ((Below.refl _ w).alloc (Nat.le_refl _) _).alloc (by simp) _
  have vl : V.heap[w.heap.size + 1]? = some (.loop (rc .ready none)) := by
    rw [hV]; have := World.alloc_heap_new (w.alloc (.deferred (some []))) (.loop (rc .ready none)); rwa [World.size_alloc] at this
  have vd : V.heap[w.heap.size]? = some (.deferred (some [])) := by
    rw [hV]; exact (Below.heap_alloc _ _ _ (by simp)).trans (World.alloc_heap_new w _)
  have keep : ∀ {A B : World}, Below V.heap.size A B → Below w.heap.size A B ∧ (∀ o, A.heap[w.heap.size + 1]? = some o → B.heap[w.heap.size + 1]? = some o) ∧ ∀ o, A.heap[w.heap.size]? = some o → B.heap[w.heap.size]? = some o := fun {A B} h =>
    ⟨h.mono (by omega), fun o ho => (h.block _ (by omega)).trans ho, fun o ho => (h.block _ (by omega)).trans ho⟩
  have ready : ∀ (W3 : World) (j : Option Code), W3.heap[w.heap.size + 1]? = some (.loop { rc .ready none with state := .busy }) →
      (Instr.endRound (w.heap.size + 1) j).run P W3 = .ok (.bool j.isNone) (W3.putObj (w.heap.size + 1) (.loop (rc (if j.isNone then .ready else .done) j))) := fun W3 j h => by
    have := run_endRound (P := P) j h
    rw [hrc] at this ⊢
    exact this
  refine ⟨w.heap.size + 1, [{ target := .collected w.heap.size, args := #[] }], V, { target := .fn (.func gf) lb, args := #[.func (.yield (w.heap.size + 1)) #[] #[]] }, V, gf,
    #[.func (.yield (w.heap.size + 1)) #[] #[]] ++ lb, V, ?_, ?_, ?_, ?_, fun _ => h1, ?_⟩
  · rw [hV, hrc]; exact run_enterLoop_outer _ _ _ _ _
  · simp only [resolve, hg]
    simp [go_sem]
  · intro f' hf'; simp [Target.leads] at hf'; subst hf'; exact hFg
  · simp [invoke, go_sem, eg]
  refine (hseq (w.heap.size + 1)
    (fun pre W => I pre W ∧ W.heap[w.heap.size + 1]? = some (.loop (rc .ready none)) ∧ W.heap[w.heap.size]? = some (.deferred (some [])))
    (fun pre W => ∃ c, Ix c pre W ∧ W.heap[w.heap.size + 1]? = some (.loop (rc .done (some c))) ∧ W.heap[w.heap.size]? = some (.deferred (some [])))
    V vb (by omega)
    (fun s A B hs hb => ⟨hI s A B hs.1 (keep hb).1, (keep hb).2.1 _ hs.2.1, (keep hb).2.2 _ hs.2.2⟩)
    (fun s A B hs hb => by
      obtain ⟨c, hc, hl, hk⟩ := hs
      exact ⟨c, hIx c s A B hc (keep hb).1, (keep hb).2.1 _ hl, (keep hb).2.2 _ hk⟩)
    ?_ ⟨hI _ _ _ h0 vb, vl, vd⟩).mono ?_
  · rintro pre x W ⟨hi, hl, hk⟩ hlen
    have hlt : w.heap.size + 1 < W.heap.size := (Array.getElem?_eq_some_iff.1 hl).1
    have hy := run_yield (P := P) (args := encs x) hl (by rw [hrc]; exact hps x)
    rw [hrc] at hy
    have hub := hu x W
    have ql : (u x W).heap[w.heap.size + 1]? = some (.loop (rc .ready none)) := (hub.block _ hlt).trans hl
    have qd : (u x W).heap[w.heap.size]? = some (.deferred (some [])) := (hub.block _ (by omega)).trans hk
    have qlt : w.heap.size + 1 < (u x W).heap.size := Nat.lt_of_lt_of_le hlt hub.size
    refine ⟨fn, _, assign, body, hy, roundIn_of_wpIn hfn (hassign _ x W _ ⟨_, run_beginRound ql (by rw [hrc]), ?_⟩)⟩
    obtain ⟨U, hU⟩ : ∃ U, U = (u x W).putObj (w.heap.size + 1) (.loop { rc .ready none with state := .busy }) := ⟨_, rfl⟩
    have ul : U.heap[w.heap.size + 1]? = some (.loop { rc .ready none with state := .busy }) := by rw [hU]; exact World.putObj_heap_same qlt
    have ud : U.heap[w.heap.size]? = some (.deferred (some [])) := by rw [hU]; exact (World.putObj_heap_other (by omega)).trans qd
    have uk : Kp W U := by rw [hU]; exact hKt (hKu x W) (hKb _ _ _ _ (by omega) ql rfl)
    have ui : I pre U := by rw [hU]; exact hI _ _ _ (hI _ _ _ hi (hub.mono (by omega))) (below_put ql (by omega))
    have us : U.heap.size = (u x W).heap.size := by rw [hU]; simp
    have uo : ∀ k, k ≠ w.heap.size + 1 → U.heap[k]? = (u x W).heap[k]? := fun k hne => by rw [hU]; exact World.putObj_heap_other hne
    rw [← hU]
    refine wpIn_mono (hbody _ pre x W U ui (by omega) us uo hlen) ?_
    rintro e a3 W3 hp
    have back : KeepsFrom w.heap.size U W3 → W3.heap[w.heap.size + 1]? = some (.loop { rc .ready none with state := .busy }) ∧ W3.heap[w.heap.size]? = some (.deferred (some [])) := fun h => ⟨h.same _ _ (by omega) ul rfl, h.same _ _ (Nat.le_refl _) ud rfl⟩
    have out : ∀ j : Option Code, W3.heap[w.heap.size + 1]? = some (.loop { rc .ready none with state := .busy }) → W3.heap[w.heap.size]? = some (.deferred (some [])) →
        (W3.putObj (w.heap.size + 1) (.loop (rc (if j.isNone then .ready else .done) j))).heap[w.heap.size + 1]? = some (.loop (rc (if j.isNone then .ready else .done) j)) ∧ (W3.putObj (w.heap.size + 1) (.loop (rc (if j.isNone then .ready else .done) j))).heap[w.heap.size]? = some (.deferred (some [])) := fun j h h' =>
      ⟨World.putObj_heap_same (Array.getElem?_eq_some_iff.1 h).1, (World.putObj_heap_other (by omega)).trans h'⟩
    cases e with
    | normal =>
      obtain ⟨k3, p3, i3⟩ := hp
      obtain ⟨l3, d3⟩ := back k3
      exact ⟨_, _, ready W3 none l3, .inl ⟨rfl, ⟨hI _ _ _ i3 (below_put l3 (by omega)), (out none l3 d3).1, (out none l3 d3).2⟩, hKt (hKt uk p3) (hKb _ _ _ _ (by omega) l3 rfl)⟩⟩
    | ret =>
      obtain ⟨k3, i3⟩ := hp
      obtain ⟨l3, d3⟩ := back k3
      exact ⟨_, _, ready W3 (some .ret) l3, .inr ⟨rfl, .ret, hIx _ _ _ _ i3 (below_put l3 (by omega)), (out (some .ret) l3 d3).1, (out (some .ret) l3 d3).2⟩⟩
    | exit id =>
      obtain ⟨k3, i3⟩ := hp
      obtain ⟨l3, d3⟩ := back k3
      exact ⟨_, _, ready W3 (some (.exit id)) l3, .inr ⟨rfl, .exit id, hIx _ _ _ _ i3 (below_put l3 (by omega)), (out (some (.exit id)) l3 d3).1, (out (some (.exit id)) l3 d3).2⟩⟩
    | goto t =>
      obtain ⟨k3, i3⟩ := hp
      obtain ⟨l3, d3⟩ := back k3
      exact ⟨_, _, ready W3 (some (.goto t)) l3, .inr ⟨rfl, .goto t, hIx _ _ _ _ i3 (below_put l3 (by omega)), (out (some (.goto t)) l3 d3).1, (out (some (.goto t)) l3 d3).2⟩⟩
    | panic ch => exact hp.elim
    | outgrown => exact hp.elim
  · rintro e W2 ⟨⟨v, rfl⟩, (⟨xs, hS, hi, hl, hk⟩ | ⟨pre, hSp, c, hi, hl, hk⟩)⟩
    · exact ⟨none, _, by have := run_endLoop (P := P) hl (by rw [hrc]; simp); rw [hrc] at this; exact this, hdone _ xs _ (Nat.le_refl _) hS (hI _ _ _ hi (below_put hl (by omega))) ((World.putObj_heap_other (by omega)).trans hk)⟩
    · exact ⟨some c, _, by have := run_endLoop (P := P) hl (by rw [hrc]; simp); rw [hrc] at this; exact this, hstop _ c pre _ (Nat.le_refl _) hSp (hIx _ _ _ _ hi (below_put hl (by omega))) ((World.putObj_heap_other (by omega)).trans hk)⟩

/-! A region in a round. -/
theorem about_wide (f : FuncId) (l : Nat) : (Fence.wide.inRound l).fn f := trivial
theorem upon_round {o : Oper} {a : Act} {l : Nat} {K K' : Act → World → Prop} {Q : Exit → Act → World → Prop} (hK : ∀ a w, K a w → K' a w) {r : Result Next} (h : o.upon P a K Q r) : o.uponIn (Fence.wide.inRound l) n P a K' Q r := by
  cases r with
  | ok x w' =>
    cases x <;> simp only [Oper.upon, Oper.uponIn] at h ⊢
    case value v => exact hK _ _ h
    case skip => exact hK _ _ h
    case defer d => exact hK _ _ h
    case enter f args =>
      refine ⟨fun e => by simp [Fence.wide] at e, CallsIn.inRound l (callsIn_wide.2 (h.mono ?_))⟩
      intro e w'' he
      cases e with
      | returned v => exact hK _ _ he
      | panicked ch => exact he
      | outgrown => exact he
    case row row args => exact ⟨fun e => by simp [Fence.wide] at e, fun c cs _ => let ⟨v, w2, r, s⟩ := h c cs; ⟨v, w2, hK _ _ r, stepsIn_wide.2 s⟩⟩
    all_goals exact h.elim
  | halt x w' => cases x <;> simp only [Oper.upon, Oper.uponIn] at h ⊢ <;> exact h
theorem wpAny_round {ops : Array Oper} {Q : Exit → Act → World → Prop} {md : Region.Mode} {l : Nat} (hQ : ¬ LetsOut Q) (hd : ∀ (i : Nat) o, ops[i]? = some o → ∀ c, o.op ≠ .defer c) :
    ∀ (fuel : Nat) (listed : Array Bool) (a : Act) (w : World), wpAny P md ops Q fuel listed a w → wpAnyIn (Fence.wide.inRound l) n P md ops Q fuel listed a w
  | 0, _, _, _, h => h
  | fuel + 1, listed, a, w, h => by
    refine ⟨h.1, fun i hi => ?_⟩
    have h2 := h.2 i hi
    unfold wpOp at h2
    unfold wpOpIn
    cases ho : ops[i]? with
    | none =>
      rw [ho] at h2
      exact wpAny_round hQ hd fuel _ a w h2
    | some o =>
      rw [ho] at h2
      dsimp only at h2 ⊢
      by_cases hw : Region.wanted o (yielded ops a.tmps) = true
      · rw [if_pos hw] at h2 ⊢
        rcases h2 with h2 | ⟨_, h2⟩
        · refine ⟨fun f _ => trivial, ?_⟩
          rw [Fence.inRound_round, Oper.semAt_eq _ _ _ (hd i o ho)]
          exact upon_round (fun a w => wpAny_round hQ hd fuel _ a w) h2
        · exact absurd h2 hQ
      · rw [if_neg hw] at h2 ⊢
        exact ⟨fun f _ => trivial, wpAny_round hQ hd fuel _ _ w h2⟩
end
end Go.Proofs.Ytemgnaalmgkfiaa
