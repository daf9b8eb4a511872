/-
  ratchet's Longest.
-/
import Derived.Test.YtmondjnkjkeaaaaRRRRRt2
namespace Go.Proofs.YtmondjnkjkeaaaaRRRR
open Go.RowKit Go.Shelf
set_option linter.unusedVariables false
attribute [local go_sem] Oper.semAt_some

/-- The longest so far, where it ends, and the time before. -/
def lgStep (xs : List Nat) (st : Nat × Int × Nat) (x : Nat) : Nat × Int × Nat :=
  if x = 1 ∨ (1 < x ∧ st.1 < (rtMax xs (x + 1) + 18446744073709551616 - st.2.2) % 18446744073709551616) then ((rtMax xs (x + 1) + 18446744073709551616 - st.2.2) % 18446744073709551616, (x : Int), rtMax xs (x + 1)) else (st.1, st.2.1, rtMax xs (x + 1))
def lgOf (xs : List Nat) (l : List Nat) : Nat × Int × Nat := l.foldl (lgStep xs) (0, -1, 0)
theorem lgOf_add (xs l : List Nat) (x : Nat) : lgOf xs (l ++ [x]) = lgStep xs (lgOf xs l) x := by simp [lgOf]
theorem lgStep_yes {xs : List Nat} {a d y : Nat} {b : Int} {c x : Nat} (hy : y = rtMax xs (x + 1)) (hd : d = (y + 18446744073709551616 - c) % 18446744073709551616) (h : x = 1 ∨ (1 < x ∧ a < d)) : lgStep xs (a, b, c) x = (d, (x : Int), y) := by
  subst hy hd
  unfold lgStep
  rw [if_pos h]
theorem lgStep_no {xs : List Nat} {a d y : Nat} {b : Int} {c x : Nat} (hy : y = rtMax xs (x + 1)) (hd : d = (y + 18446744073709551616 - c) % 18446744073709551616) (h : ¬ (x = 1 ∨ (1 < x ∧ a < d))) : lgStep xs (a, b, c) x = (a, b, y) := by
  subst hy hd
  unfold lgStep
  rw [if_neg h]
theorem lg_wrap {y c d : Nat} (hy : y < 18446744073709551616) (hc : c < 18446744073709551616) (hd : d = (y + 18446744073709551616 - c) % 18446744073709551616) : IntKind.u64.wrap ((y : Int) - (c : Int)) = (d : Int) := by
  rw [IntKind.wrap_u64]; omega
theorem lgOf_word {xs : List Nat} (h : ∀ k, rtMax xs k < 18446744073709551616) (l : List Nat) : (lgOf xs l).1 < 18446744073709551616 ∧ (lgOf xs l).2.2 < 18446744073709551616 := by
  suffices ∀ (l : List Nat) (st : Nat × Int × Nat), st.1 < 18446744073709551616 → st.2.2 < 18446744073709551616 → (l.foldl (lgStep xs) st).1 < 18446744073709551616 ∧ (l.foldl (lgStep xs) st).2.2 < 18446744073709551616 from this l _ (by decide) (by decide)
  intro l
  induction l with
  | nil => exact fun st h1 h2 => ⟨h1, h2⟩
  | cons x l ih =>
    intro st h1 h2
    refine ih _ ?_ ?_
    · unfold lgStep
      split
      · exact Nat.mod_lt _ (by decide)
      · exact h1
    · unfold lgStep
      split
      · exact h _
      · exact h _

set_option maxRecDepth 100000 in
set_option maxHeartbeats 2000000 in
theorem rtlong_any (A : Option Addr) (n cap : Nat) (xs : List Nat) (w : World) (hn : (n : Int) ≤ 17592186043904) (hA : RowU w A n xs) (p : Nat) (q : Int) (hpq : p = (lgOf xs (List.range n)).1 ∧ q = (lgOf xs (List.range n)).2.1) :
    Calls Try.prog 9 #[.slice A n cap] w fun e w' => e = .returned (.tuple #[.int .u64 (p : Nat), .int .i64 q]) ∧ Below w.heap.size w w' := by
  have hlen := hA.len
  refine (callsIn_wide (n := 5)).1 ?_
  refine callsIn_of_wp_marks Try.func9 rfl trivial ?_ rfl
  simp only [Try.ntmps9, List.size_toArray, List.length_cons, List.length_nil, Nat.reduceAdd, Nat.reduceSub, Array.replicate_succ, Array.replicate_zero, List.push_toArray, List.append_toArray, List.nil_append, List.cons_append]
  have HPQ := Lib.hid hpq
  clear hpq
  gi_wp2_with (refine ⟨trivial, ?_⟩; gi_at_call 17; refine (great_in _ _ _ _).mono ?_; rintro e w' ⟨rfl, rfl⟩)
  have e2 : w.heap.size + 1 + 1 = w.heap.size + 2 := rfl
  have bA := Boxed.new w 22 (.int .u64 0)
  have bB := Boxed.new (w.alloc (.cells #[.int .u64 0] 22)) 22 (.int .u64 0)
  have bC := Boxed.new ((w.alloc (.cells #[.int .u64 0] 22)).alloc (.cells #[.int .u64 0] 22)) 3 (.int .i64 (-1))
  have bN := Boxed.new (((w.alloc (.cells #[.int .u64 0] 22)).alloc (.cells #[.int .u64 0] 22)).alloc (.cells #[.int .i64 (-1)] 3)) 27 (.slice A n cap)
  rw [World.size_alloc] at bB
  rw [World.size_alloc, World.size_alloc] at bC
  rw [World.size_alloc, World.size_alloc, World.size_alloc] at bN
  have bA2 := ((bA.alloc (.cells #[.int .u64 0] 22)).alloc (.cells #[.int .i64 (-1)] 3)).alloc (.cells #[.slice A n cap] 27)
  have bB2 := (bB.alloc (.cells #[.int .i64 (-1)] 3)).alloc (.cells #[.slice A n cap] 27)
  have bC2 := bC.alloc (.cells #[.slice A n cap] 27)
  have hB0 : Below w.heap.size w ((((w.alloc (.cells #[.int .u64 0] 22)).alloc (.cells #[.int .u64 0] 22)).alloc (.cells #[.int .i64 (-1)] 3)).alloc (.cells #[.slice A n cap] 27)) := ((((Below.refl _ w).alloc (Nat.le_refl _) _).alloc (by simp) _).alloc (by simp; omega) _).alloc (by simp; omega) _
  have hsz : ((((w.alloc (.cells #[.int .u64 0] 22)).alloc (.cells #[.int .u64 0] 22)).alloc (.cells #[.int .i64 (-1)] 3)).alloc (.cells #[.slice A n cap] 27)).heap.size = w.heap.size + 4 := by simp
  have hA2 := hA.below hB0
  have hAlt : ∀ b o, A = some ⟨b, o, none⟩ → 0 < n → b < w.heap.size := fun b o e h0 => by
    obtain ⟨b', o', e', hb', _⟩ := hA.addr h0
    rw [e] at e'
    injection e' with e'
    injection e' with e1 e2
    omega
  have HW := Lib.hid (rtMax_word hA.word)
  refine wpIn_rangeFunc_ownF rfl (by omega) (gf := 19) (lb := #[.pointer (some ⟨w.heap.size + 3, 0, none⟩)]) rfl trivial (enters_of Try.func19 (by kernel_rfl) rfl)
    (great_stops (w.heap.size + 3) w.heap.size A n cap xs hn _ (by simp) (by simp; omega) bN.cell hA2 hAlt) KBt.trans
    (fun W l o o' hl h hc hw => ⟨belowK_b (w := (((w.alloc (.cells #[.int .u64 0] 22)).alloc (.cells #[.int .u64 0] 22)).alloc (.cells #[.int .i64 (-1)] 3)).alloc (.cells #[.slice A n cap] 27)) (by omega) W l o o' hl h hc hw, World.putObj_heap_other (by omega)⟩) (Below.refl _ _) (fun _ => rfl)
    (fun pre W => Boxed W w.heap.size 22 (.int .u64 ((lgOf xs (ixs pre)).1 : Nat)) ∧ Boxed W (w.heap.size + 1) 22 (.int .u64 ((lgOf xs (ixs pre)).2.2 : Nat)) ∧ Boxed W (w.heap.size + 2) 3 (.int .i64 (lgOf xs (ixs pre)).2.1) ∧ Boxed W (w.heap.size + 3) 27 (.slice A n cap) ∧ Below w.heap.size w W)
    (fun _ _ _ => False)
    (OwnFrom.and (Own.from (boxed_own w.heap.size 22 (fun pre : List (Fin n) => .int .u64 ((lgOf xs (ixs pre)).1 : Nat))) _) (OwnFrom.and (Own.from (boxed_own (w.heap.size + 1) 22 (fun pre : List (Fin n) => .int .u64 ((lgOf xs (ixs pre)).2.2 : Nat))) _) (OwnFrom.and (Own.from (boxed_own (w.heap.size + 2) 3 (fun pre : List (Fin n) => .int .i64 (lgOf xs (ixs pre)).2.1)) _) (OwnFrom.and (Own.from (boxed_own (w.heap.size + 3) 27 (fun _ => .slice A n cap)) _) (ownFrom_below (Nat.le_refl _) (by simp; omega))))))
    (fun _ _ _ _ _ hs _ _ => hs)
    ⟨bA2, bB2, bC2, bN, hB0⟩
    (fun x => { tmps := #[.slice A n cap, undef, .int .u64 0, .int .i64 0, .pointer (some ⟨w.heap.size, 0, none⟩), .pointer (some ⟨w.heap.size + 1, 0, none⟩), .pointer (some ⟨w.heap.size + 2, 0, none⟩), .int .i64 ((x.val : Nat) : Int), .int .u64 ((rtMax xs (x.val + 1) : Nat) : Int), .slice A n cap, .func (.func 19) #[] #[.pointer (some ⟨w.heap.size + 3, 0, none⟩)], .int .i64 ((x.val : Nat) : Int), .int .u64 ((rtMax xs (x.val + 1) : Nat) : Int), undef, undef, undef, undef, undef, undef, undef, undef, undef, undef, undef, undef, undef, undef, undef, undef, undef, undef, undef, undef], defers := [] }) ?assign ?body ?done ?stop
  case assign =>
    intro l x W K hK
    unfold rtEnc
    gi_wp2
    exact hK
  case body =>
    rintro l pre x W ⟨hv1, hv2, hv3, hbx, hB⟩ hlt
    have HE0 := lgOf_add xs (ixs pre) x.val
    rw [← ixs_add] at HE0
    obtain ⟨hw1, hw2⟩ := lgOf_word HW.out (ixs pre)
    obtain ⟨y, hy⟩ : ∃ y, y = rtMax xs (x.val + 1) := ⟨_, rfl⟩
    have hwy := HW.out (x.val + 1)
    obtain ⟨st, hst⟩ : ∃ st, st = lgOf xs (ixs pre) := ⟨_, rfl⟩
    rw [← hst] at hv1 hv2 hv3 hw1 hw2 HE0
    obtain ⟨a, b, c⟩ := st
    dsimp only at hv1 hv2 hv3 hw1 hw2
    rw [← hy] at hwy ⊢
    obtain ⟨d, hd⟩ : ∃ d, d = (y + 18446744073709551616 - c) % 18446744073709551616 := ⟨_, rfl⟩
    have hwd := lg_wrap hwy hw2 hd
    obtain ⟨x, hx1⟩ := x
    dsimp only at hy HE0 ⊢
    have hc1 := hv1.cell
    have hc2 := hv2.cell
    have hc3 := hv3.cell
    have hf1 := hv1.frozen
    have hf2 := hv2.frozen
    have hf3 := hv3.frozen
    clear hA hA2 hAlt bA bB bC bN bA2 bB2 bC2 hB0 hw1 hw2 hwy hst e2
    have HV1 := Lib.hid hv1
    have HV2 := Lib.hid hv2
    have HV3 := Lib.hid hv3
    by_cases h : x = 1 ∨ (1 < x ∧ a < d)
    · rw [lgStep_yes hy hd h] at HE0
      have HE := Lib.hid HE0
      clear HE0
      have key : ∀ W1, W1 = (((W.setCell ⟨w.heap.size, 0, none⟩ (.int .u64 (d : Nat))).setCell ⟨w.heap.size + 2, 0, none⟩ (.int .i64 (x : Int))).setCell ⟨w.heap.size + 1, 0, none⟩ (.int .u64 (y : Nat))) → KeepsOthers W W1 ∧ KBt w.heap.size (w.heap.size + 3) W W1 ∧ Boxed W1 w.heap.size 22 (.int .u64 (d : Nat)) ∧ Boxed W1 (w.heap.size + 1) 22 (.int .u64 (y : Nat)) ∧ Boxed W1 (w.heap.size + 2) 3 (.int .i64 (x : Int)) ∧ Boxed W1 (w.heap.size + 3) 27 (.slice A n cap) ∧ Below w.heap.size w W1 := by
        rintro W1 rfl
        have g1 := HV1.out.set (.int .u64 (d : Nat))
        have g2 := HV2.out.kept (grownBy_setCell' W w.heap.size (.int .u64 (d : Nat))) (by simp)
        have g3 := HV3.out.kept (grownBy_setCell' W w.heap.size (.int .u64 (d : Nat))) (by simp)
        have g4 := hbx.kept (grownBy_setCell' W w.heap.size (.int .u64 (d : Nat))) (by simp)
        have g5 := g1.kept (grownBy_setCell' _ (w.heap.size + 2) (.int .i64 (x : Int))) (by simp)
        have g6 := g2.kept (grownBy_setCell' _ (w.heap.size + 2) (.int .i64 (x : Int))) (by simp)
        have g7 := g3.set (.int .i64 (x : Int))
        have g8 := g4.kept (grownBy_setCell' _ (w.heap.size + 2) (.int .i64 (x : Int))) (by simp)
        have g9 := g5.kept (grownBy_setCell' _ (w.heap.size + 1) (.int .u64 (y : Nat))) (by simp)
        have g10 := g6.set (.int .u64 (y : Nat))
        have g11 := g7.kept (grownBy_setCell' _ (w.heap.size + 1) (.int .u64 (y : Nat))) (by simp)
        have g12 := g8.kept (grownBy_setCell' _ (w.heap.size + 1) (.int .u64 (y : Nat))) (by simp)
        have hb : Below w.heap.size W (((W.setCell ⟨w.heap.size, 0, none⟩ (.int .u64 (d : Nat))).setCell ⟨w.heap.size + 2, 0, none⟩ (.int .i64 (x : Int))).setCell ⟨w.heap.size + 1, 0, none⟩ (.int .u64 (y : Nat))) := (((Below.refl w.heap.size W).setCell (p := ⟨w.heap.size, 0, none⟩) (Nat.le_refl _) _).setCell (p := ⟨w.heap.size + 2, 0, none⟩) (by show _ ≤ w.heap.size + 2; omega) _).setCell (p := ⟨w.heap.size + 1, 0, none⟩) (by show _ ≤ w.heap.size + 1; omega) _
        exact ⟨((KeepsOthers.setCell _ _ _).trans (KeepsOthers.setCell _ _ _)).trans (KeepsOthers.setCell _ _ _), ⟨hb, by rw [g12, hbx]⟩, g9, g10, g11, g12, hB.trans hb⟩
      have KEY := Lib.hid (key _ rfl)
      clear key hd hy
      by_cases h1 : x = 1
      · subst h1
        clear h
        gi_wp2
        refine ⟨KEY.out.1, KEY.out.2.1, ?_⟩
        dsimp only
        rw [HE.out]
        exact KEY.out.2.2
      · have h1i : ((x : Int) == 1) = false := by rw [beq_eq_false_iff_ne]; omega
        have h2i : (1 : Int) < (x : Int) := by omega
        have h3i : (a : Int) < (d : Int) := by omega
        clear h h1
        gi_wp2
        refine ⟨KEY.out.1, KEY.out.2.1, ?_⟩
        dsimp only
        rw [HE.out]
        exact KEY.out.2.2
    · rw [lgStep_no hy hd h] at HE0
      have HE := Lib.hid HE0
      clear HE0
      have key : ∀ W1, W1 = (W.setCell ⟨w.heap.size + 1, 0, none⟩ (.int .u64 (y : Nat))) → KeepsOthers W W1 ∧ KBt w.heap.size (w.heap.size + 3) W W1 ∧ Boxed W1 w.heap.size 22 (.int .u64 (a : Nat)) ∧ Boxed W1 (w.heap.size + 1) 22 (.int .u64 (y : Nat)) ∧ Boxed W1 (w.heap.size + 2) 3 (.int .i64 b) ∧ Boxed W1 (w.heap.size + 3) 27 (.slice A n cap) ∧ Below w.heap.size w W1 := by
        rintro W1 rfl
        have g9 := HV1.out.kept (grownBy_setCell' W (w.heap.size + 1) (.int .u64 (y : Nat))) (by simp)
        have g10 := HV2.out.set (.int .u64 (y : Nat))
        have g11 := HV3.out.kept (grownBy_setCell' W (w.heap.size + 1) (.int .u64 (y : Nat))) (by simp)
        have g12 := hbx.kept (grownBy_setCell' W (w.heap.size + 1) (.int .u64 (y : Nat))) (by simp)
        have hb : Below w.heap.size W (W.setCell ⟨w.heap.size + 1, 0, none⟩ (.int .u64 (y : Nat))) := (Below.refl w.heap.size W).setCell (p := ⟨w.heap.size + 1, 0, none⟩) (by show _ ≤ w.heap.size + 1; omega) _
        exact ⟨KeepsOthers.setCell _ _ _, ⟨hb, by rw [g12, hbx]⟩, g9, g10, g11, g12, hB.trans hb⟩
      have KEY := Lib.hid (key _ rfl)
      clear key hd hy
      have h1 : ¬ x = 1 := fun e => h (.inl e)
      have h1i : ((x : Int) == 1) = false := by rw [beq_eq_false_iff_ne]; omega
      by_cases h2 : 1 < x
      · have h2i : (1 : Int) < (x : Int) := by omega
        have h3 : ¬ a < d := fun e => h (.inr ⟨h2, e⟩)
        have h3i : ¬ (a : Int) < (d : Int) := by omega
        clear h h1 h2 h3
        gi_wp2
        refine ⟨KEY.out.1, KEY.out.2.1, ?_⟩
        dsimp only
        rw [HE.out]
        exact KEY.out.2.2
      · have h2i : ¬ (1 : Int) < (x : Int) := by omega
        clear h h1 h2
        gi_wp2
        refine ⟨KEY.out.1, KEY.out.2.1, ?_⟩
        dsimp only
        rw [HE.out]
        exact KEY.out.2.2
  case done =>
    rintro D ys W hD hys ⟨hv1, hv2, hv3, _, hB⟩ hK
    rw [hys, ← HPQ.out.1] at hv1
    rw [hys, ← HPQ.out.2] at hv3
    have hc := hv1.cell
    have hc3 := hv3.cell
    have hfo : Try.prog.follows Departure.mixedOrders = true := by kernel_rfl
    gi_wp2
    gi_region_o
    all_goals
      try simp only [Act.put, Act.eval, List.getElem_toArray, List.getElem_cons_zero, List.getElem_cons_succ, List.setIfInBounds_toArray, List.set_cons_zero, List.set_cons_succ]
      first | go_at_K | skip
      first | gi_wp2 | skip
      have hK' : W.drew.heap[D]? = some (.deferred (some [])) := hK
      refine ⟨by simp, .inl ⟨_, _, rfl, run_takeDeferred hK', ?_⟩⟩
      refine ⟨.tuple #[.int .u64 (p : Nat), .int .i64 q], by simp [results, Try.f9, go_sem], rfl, hB.drew.trans (belowK_b (w := w) (Nat.le_refl _) W.drew D _ _ (by simp at hD; omega) hK' rfl rfl)⟩
  case stop =>
    rintro D c pre W hD _ h _
    exact h.elim
end Go.Proofs.YtmondjnkjkeaaaaRRRR
