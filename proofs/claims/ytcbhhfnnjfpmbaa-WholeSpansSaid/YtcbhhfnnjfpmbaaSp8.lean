/-
  slices.AppendSeq, Collect at spans.
-/
import Derived.Test.YtcbhhfnnjfpmbaaSp7
namespace Go.Proofs.Ytcbhhfnnjfpmbaa
open Go.RowKit Go.Shelf Go.Lib Go.Sort
set_option linter.unusedVariables false
attribute [local go_sem] Oper.semAt_some

theorem span_ne : 23 ≠ 27 := by decide
/-- Between two rounds. -/
def AppI (w : World) (pre : List Sp) (W : World) : Prop := (∃ v, Boxed W w.heap.size 23 v ∧ W.ownsRow w.heap.size 27 2 v pre.length (scells pre) ∧ True) ∧ Below w.heap.size w W
def AppA (w : World) (F : Value) (x : Sp) (a' : Act) (W : World) : Prop := ∃ Bx, w.heap.size < Bx ∧ SB W Bx x.1 x.2 ∧ a' = { tmps := #[.slice none 0 0, F, .pointer (some ⟨w.heap.size, 0, none⟩), undef, .slice none 0 0, .pointer (some ⟨Bx, 0, none⟩), F, .agg #[.int .i64 x.1, .int .i64 x.2], undef, undef, undef, undef, undef], defers := [] }
theorem appA_own (w : World) (F : Value) (B : Nat) (x : Sp) (a' : Act) : OwnFrom B (fun (_ : Unit) W => AppA w F x a' W) := by
  rintro s X Y row ⟨Bx, h1, h2, h3⟩ hg hrow
  refine ⟨Bx, h1, ?_, h3⟩
  refine (hg.block Bx h2.lt (fun e => ?_)).trans h2
  obtain ⟨_, o, ho, hc⟩ := hrow Bx e.symm
  rw [show X.heap[Bx]? = _ from h2] at ho
  cases ho
  cases hc

set_option maxRecDepth 100000 in
set_option maxHeartbeats 2000000 in
theorem appendSeq_any (Bn : Nat) (A : Option Addr) (n cap : Nat) (L : List Sp) (w : World) (hn : n ≤ 8796093022207) (hBn : Bn < w.heap.size) (hc : w.cell? ⟨Bn, 0, none⟩ = some (.slice A n cap)) (hA : SpRow w A n L) :
    Calls Try.prog 40 #[.slice none 0 0, .func (.func 33) #[] #[.pointer (some ⟨Bn, 0, none⟩)]] w fun e w' => ∃ v, e = .returned v ∧ OutSp w.heap.size w' v L ∧ Below w.heap.size w w' := by
  refine (callsIn_wide (n := 5)).1 ?_
  refine callsIn_of_wp_marks Try.func40 rfl trivial ?_ rfl
  simp only [Try.ntmps40, List.size_toArray, List.length_cons, List.length_nil, Nat.reduceAdd, Nat.reduceSub, Array.replicate_succ, Array.replicate_zero, List.push_toArray, List.append_toArray, List.nil_append, List.cons_append]
  gi_wp2_with fail
  have hc2 : (w.alloc (.cells #[.slice none 0 0] 23)).cell? ⟨Bn, 0, none⟩ = some (.slice A n cap) := (World.cell?_alloc_lt w _ ⟨Bn, 0, none⟩ hBn).trans hc
  have hA2 := hA.alloc (.cells #[.slice none 0 0] 23)
  have hB0 : Below w.heap.size w (w.alloc (.cells #[.slice none 0 0] 23)) := (Below.refl _ _).alloc (Nat.le_refl _) _
  have hsz : (w.alloc (.cells #[.slice none 0 0] 23)).heap.size = w.heap.size + 1 := by simp
  have hAlt : ∀ b o, A = some ⟨b, o, none⟩ → 0 < n → b < w.heap.size := fun b o e h0 => by
    obtain ⟨b', o', e', hb', _⟩ := hA.addr h0
    rw [e] at e'
    injection e' with e'
    injection e' with e1 e2
    omega
  refine wpIn_rangeFunc_ownH rfl (by omega) (gf := 33) (lb := #[.pointer (some ⟨Bn, 0, none⟩)]) rfl trivial (enters_of Try.func33 (by kernel_rfl) rfl)
    (values_stops Bn w.heap.size A n cap L hn _ (by rw [hsz]; omega) (by rw [hsz]; omega) hc2 hA2 hAlt) (fun h k => h.trans k)
    (fun W l o o' hl h hc hw => belowK_b (w := w.alloc (.cells #[.slice none 0 0] 23)) (by rw [hsz]; omega) W l o o' hl h hc hw) (Below.refl _ _) (fun _ => rfl)
    (AppI w) (fun _ _ _ => False)
    (OwnFrom.and (Own.from (holdsRow_own w.heap.size w.heap.size 23 27 2 (fun pre : List Sp => pre.length) scells (fun _ _ => True)) _) (ownFrom_below (Nat.le_refl _) (by rw [hsz]; omega)))
    (fun _ _ _ _ _ hs _ _ => hs)
    ⟨⟨_, Boxed.new w _ _, World.ownsRow_nil _ _ _ _, trivial⟩, hB0⟩
    (AppA w (.func (.func 33) #[] #[.pointer (some ⟨Bn, 0, none⟩)])) (fun x a' => appA_own w _ _ x a') ?assign ?body ?done ?stop
  case assign =>
    rintro l pre x W K ⟨⟨v, hbx, hrow, _⟩, hB⟩ hK
    have hlow := hB.size
    have hbl := hbx.lt
    dsimp only [spArg]
    gi_wp2
    exact hK _ _ ((KeepsOthers.alloc _ _).from _) ((Below.refl _ _).alloc hlow _) ⟨⟨v, hbx.alloc _, World.ownsRow.alloc hrow _, trivial⟩, hB.alloc hlow _⟩ ⟨W.heap.size, hbl, SB.new W x.1 x.2, rfl⟩
  case body =>
    rintro l pre x a' W hl hr ⟨⟨v, hbx, hrow, _⟩, hB⟩ ⟨Bx, hBx, hS, rfl⟩ hlt
    have s0 := hS.c0
    have s1 := hS.c1
    have hv := hbx.cell
    have hlow := hB.size
    obtain ⟨i0, hi, hz0, hz1, hz2⟩ := info_parts span_info
    gi_wp2_with (first
      | (gi_at_builtin; refine wpListIn_append_own _ rfl (.tmp 8) (.tmp 10) 23 rfl w.heap.size 27 i0 _ 2 16 Try.underlying23 hi hz0 hz1 hz2 rfl (by decide) v _ _ rfl (World.ownsRow.alloc hrow _) ⟨W.heap.size, 0, none⟩ 1 1 [.int .i64 x.1, .int .i64 x.2] rfl rfl ?_ (scells_one [x]) (by unfold maxLen; omega) (by omega) (by simp; omega) ?_
         · intro j u hj
           rw [add_flat, cell_of_row _ W.heap.size (0 + j) _ _ _ (heap_alloc_new W _), Nat.zero_add, ← Array.getElem?_toList]
           exact hj
         intro v' w1 hown' hgrow _
         obtain ⟨g', cap', rfl⟩ := ownsRow_succ hown'
         obtain ⟨hv1, hv2, hr2, hk2, hb2⟩ := hbx.appended span_ne hrow hlow (Nat.le_refl _) hown' hgrow
         have hc1 := hv1.cell
         have hf1 := hv1.frozen)
      | fail)
    refine ⟨hk2.from _, hb2, ⟨⟨_, hv2, ?_, trivial⟩, hB.trans hb2⟩⟩
    rw [List.length_append, scells_append]
    exact hr2
  case done =>
    rintro D ys W hD rfl ⟨⟨v, hbx, hrow, _⟩, hB⟩ hK
    have hv := hbx.cell
    gi_wp2
    refine ⟨by simp, .inl ⟨_, _, rfl, run_takeDeferred hK, ?_⟩⟩
    exact ⟨_, results_tmp rfl _ _ _, v, rfl, (show OutSp w.heap.size _ v ys from ownsRow_putObj hrow (.deferred none) hK rfl), hB.trans (belowK_b (w := w) (Nat.le_refl _) W D _ _ (by rw [hsz] at hD; omega) hK rfl rfl)⟩
  case stop =>
    rintro D c pre W hD _ h _
    exact h.elim

theorem collect_any (Bn : Nat) (A : Option Addr) (n cap : Nat) (L : List Sp) (w : World) (hn : n ≤ 8796093022207) (hBn : Bn < w.heap.size) (hc : w.cell? ⟨Bn, 0, none⟩ = some (.slice A n cap)) (hA : SpRow w A n L) :
    Calls Try.prog 31 #[.func (.func 33) #[] #[.pointer (some ⟨Bn, 0, none⟩)]] w fun e w' => ∃ v, e = .returned v ∧ OutSp w.heap.size w' v L ∧ Below w.heap.size w w' := by
  have C := Lib.hid (appendSeq_any Bn A n cap L w hn hBn hc hA)
  clear hc hA
  go_enter Try.func31, Try.ntmps31
  go_wp2_with fail
  refine C.out.mono ?_
  rintro e w1 ⟨v, rfl, ho, hb⟩
  have HO := Lib.hid ho
  have HB := Lib.hid hb
  clear ho hb
  go_wp2_with fail
  go_ret
  exact ⟨_, rfl, HO.out, HB.out⟩
end Go.Proofs.Ytcbhhfnnjfpmbaa
