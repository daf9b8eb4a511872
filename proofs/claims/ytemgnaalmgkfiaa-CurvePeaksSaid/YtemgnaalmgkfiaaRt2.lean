/-
  ratchet's Run, Back and Longest.
-/
import Derived.Test.YtemgnaalmgkfiaaRt1
import Derived.Test.YtemgnaalmgkfiaaRowsI
namespace Go.Proofs.Ytemgnaalmgkfiaa
open Go.RowKit Go.Shelf
set_option linter.unusedVariables false
attribute [local go_sem] Oper.semAt_some

theorem u64_partsT : ∃ i0, Try.prog.info? 23 = some i0 ∧ i0.zero = some (.int .u64 0) ∧ i0.size = 1 ∧ i0.bytes = 8 := u64_partsR
def runOf (xs : List Nat) {n : Nat} (pre : List (Fin n)) : List Nat := pre.map fun x => rtMax xs (x.val + 1)
theorem runOf_ixs (xs : List Nat) {n : Nat} (pre : List (Fin n)) : runOf xs pre = (ixs pre).map fun i => rtMax xs (i + 1) := by simp [runOf, ixs]

set_option maxRecDepth 100000 in
set_option maxHeartbeats 2000000 in
theorem rtrun_any (A : Option Addr) (n cap : Nat) (xs : List Nat) (w : World) (hn : (n : Int) ≤ 17592186043904) (hA : RowU w A n xs) :
    Calls Try.prog 44 #[.slice A n cap] w fun e w' => ∃ v, e = .returned v ∧ OutU w.heap.size w' v (rtRun xs) ∧ Below w.heap.size w w' := by
  obtain ⟨i0, hi, hz0, hz1, hz2⟩ := u64_partsT
  have hlen := hA.len
  refine (callsIn_wide (n := 5)).1 ?_
  refine callsIn_of_wp_marks Try.func44 rfl trivial ?_ rfl
  simp only [Try.ntmps44, List.size_toArray, List.length_cons, List.length_nil, Nat.reduceAdd, Nat.reduceSub, Array.replicate_succ, Array.replicate_zero, List.push_toArray, List.append_toArray, List.nil_append, List.cons_append]
  gi_wp2_with (refine ⟨trivial, ?_⟩; gi_at_call 47; refine (great_in _ _ _ _).mono ?_; rintro e w' ⟨rfl, rfl⟩)
  have bO := Boxed.new w 59 (.slice none 0 0)
  have bN := Boxed.new (w.alloc (.cells #[.slice none 0 0] 59)) 59 (.slice A n cap)
  rw [World.size_alloc] at bN
  have hB0 : Below w.heap.size w ((w.alloc (.cells #[.slice none 0 0] 59)).alloc (.cells #[.slice A n cap] 59)) := ((Below.refl _ w).alloc (Nat.le_refl _) _).alloc (by simp) _
  have hsz : ((w.alloc (.cells #[.slice none 0 0] 59)).alloc (.cells #[.slice A n cap] 59)).heap.size = w.heap.size + 2 := by simp
  have hA2 := hA.below hB0
  have hAlt : ∀ b o, A = some ⟨b, o, none⟩ → 0 < n → b < w.heap.size := fun b o e h0 => by
    obtain ⟨b', o', e', hb', _⟩ := hA.addr h0
    rw [e] at e'
    injection e' with e'
    injection e' with e1 e2
    omega
  refine wpIn_rangeFunc_ownF rfl (by omega) (gf := 50) (lb := #[.pointer (some ⟨w.heap.size + 1, 0, none⟩)]) rfl trivial (enters_of Try.func50 (by kernel_rfl) rfl)
    (great_stops (w.heap.size + 1) w.heap.size A n cap xs hn _ (by simp) (by simp; omega) bN.cell hA2 hAlt) KBt.trans
    (fun W l o o' hl h hc hw => ⟨belowK_b (w := (w.alloc (.cells #[.slice none 0 0] 59)).alloc (.cells #[.slice A n cap] 59)) (by omega) W l o o' hl h hc hw, World.putObj_heap_other (by omega)⟩) (Below.refl _ _) (fun _ => rfl)
    (fun pre W => (∃ v, Boxed W w.heap.size 59 v ∧ W.ownsRow w.heap.size 23 1 v pre.length (cellsU (runOf xs pre)) ∧ True) ∧ Boxed W (w.heap.size + 1) 59 (.slice A n cap) ∧ Below w.heap.size w W)
    (fun _ _ _ => False)
    (OwnFrom.and (Own.from (holdsRow_own w.heap.size w.heap.size 59 23 1 (fun pre : List (Fin n) => pre.length) (fun pre => cellsU (runOf xs pre)) (fun pre v => True)) _) (OwnFrom.and (Own.from (boxed_own (w.heap.size + 1) 59 (fun _ => .slice A n cap)) _) (ownFrom_below (Nat.le_refl _) (by simp; omega))))
    (fun _ _ _ _ _ hs _ _ => hs)
    ⟨⟨_, bO.alloc _, World.ownsRow_nil _ _ _ _, trivial⟩, bN, hB0⟩
    (fun x => { tmps := #[.slice A n cap, undef, .slice none 0 0, .pointer (some ⟨w.heap.size, 0, none⟩), undef, .int .u64 ((rtMax xs (x.val + 1) : Nat) : Int), .slice A n cap, .func (.func 50) #[] #[.pointer (some ⟨w.heap.size + 1, 0, none⟩)], .int .i64 ((x.val : Nat) : Int), .int .u64 ((rtMax xs (x.val + 1) : Nat) : Int), undef, undef, undef, undef, undef], defers := [] }) ?assign ?body ?done ?stop
  case assign =>
    intro l x W K hK
    unfold rtEnc
    gi_wp2
    exact hK
  case body =>
    rintro l pre x W ⟨⟨v, hv, hrow, _⟩, hbx, hB⟩ hlt
    have hc := hv.cell
    have hpl : pre.length + 1 ≤ 17592186043904 := by omega
    clear hA hA2 hAlt bO bN hB0
    obtain ⟨y, hy⟩ : ∃ y, y = rtMax xs (x.val + 1) := ⟨_, rfl⟩
    rw [← hy]
    have HY := Lib.hid hy
    clear hy
    gi_wp2_with (gi_at_builtin; refine wpListIn_append_own _ rfl _ _ 59 rfl w.heap.size 23 i0 (.int .u64 0) 1 8 Try.underlying59 hi hz0 hz1 hz2 rfl (by decide) _ _ _ rfl (hrow.alloc _) ⟨W.heap.size, 0, none⟩ 1 1 [.int .u64 (y : Int)] rfl rfl (cell_one_new _ _ _) (by simp [Value.oneCell']) (by unfold maxLen; omega) (by omega) (by have := hB.size; simp; omega) ?_; intro v' w1 hown' hgrow _; obtain ⟨g', cap', rfl⟩ := ownsRow_succ hown'; obtain ⟨hv1, hv2, hr2, hk2, hb2⟩ := hv.appended (by decide) hrow hB.size (Nat.le_refl _) hown' hgrow; have hbx1 := (hbx.alloc (.cells #[.int .u64 (y : Int)] 23)).kept hgrow (hbx.not_row (by decide) hrow); have hc1 := hv1.cell; have hf1 := hv1.frozen)
    have hbx2 := hbx1.kept (grownBy_setCell' _ w.heap.size (.slice (some ⟨g', 0, none⟩) (pre.length + 1) cap')) (by simp)
    exact ⟨hk2, ⟨hb2, by rw [hbx2, hbx]⟩, ⟨_, hv2, by rw [List.length_append]; simpa [cellsU, runOf, HY.out] using hr2, trivial⟩, hbx2, hB.trans hb2⟩
  case done =>
    rintro D ys W hD hys ⟨⟨v, hv, hrow, _⟩, _, hB⟩ hK
    have hc := hv.cell
    gi_wp2
    refine ⟨by simp, .inl ⟨_, _, rfl, run_takeDeferred hK, ?_⟩⟩
    have e : runOf xs ys = rtRun xs := by rw [runOf_ixs, hys]; unfold rtRun; rw [hlen]
    have e2 : ys.length = (rtRun xs).length := by rw [← e]; simp [runOf]
    rw [e, e2] at hrow
    exact ⟨_, results_tmp rfl _ _ _, v, rfl, ownsRow_putObj hrow _ hK rfl, hB.trans (belowK_b (w := w) (Nat.le_refl _) W D _ _ (by simp at hD; omega) hK rfl rfl)⟩
  case stop =>
    rintro D c pre W hD _ h _
    exact h.elim

def bkOf (xs : List Nat) {n : Nat} (pre : List (Fin n)) : List Nat := (ixs pre).filter fun i => decide (xs.getD i 0 < rtMax xs (i + 1))
theorem bkOf_yes {xs : List Nat} {n : Nat} {pre : List (Fin n)} {x : Fin n} (h : xs.getD x.val 0 < rtMax xs (x.val + 1)) : bkOf xs (pre ++ [x]) = bkOf xs pre ++ [x.val] := by
  unfold bkOf
  rw [ixs_add, List.filter_append, List.filter_cons_of_pos (by exact decide_eq_true h)]
  rfl
theorem bkOf_no {xs : List Nat} {n : Nat} {pre : List (Fin n)} {x : Fin n} (h : ¬ xs.getD x.val 0 < rtMax xs (x.val + 1)) : bkOf xs (pre ++ [x]) = bkOf xs pre := by
  unfold bkOf
  rw [ixs_add, List.filter_append, List.filter_cons_of_neg (by simpa using h)]
  simp
theorem bkOf_len (xs : List Nat) {n : Nat} (pre : List (Fin n)) : (bkOf xs pre).length ≤ pre.length := by
  have := List.length_filter_le (fun i => decide (xs.getD i 0 < rtMax xs (i + 1))) (ixs pre)
  rw [ixs_len] at this
  exact this

end Go.Proofs.Ytemgnaalmgkfiaa
