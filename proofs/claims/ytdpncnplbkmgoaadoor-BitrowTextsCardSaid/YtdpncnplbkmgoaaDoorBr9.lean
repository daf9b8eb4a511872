/-
  bitrow's List, First, Count; the document's List and First.
-/
import Derived.Test.YtdpncnplbkmgoaaDoorBr8
namespace Go.Proofs.YtdpncnplbkmgoaaDoor
open Go.RowKit Go.Shelf
set_option linter.unusedVariables false
attribute [local go_sem] Oper.semAt_some

theorem cell_int (w : World) (x : Nat) : ∀ j u, [Value.int .i64 (x : Int)][j]? = some u → (w.alloc (.cells #[.int .i64 (x : Int)] 3)).cell? ((⟨w.heap.size, 0, none⟩ : Addr).add j) = some u := cell_one_new _ _ _

set_option maxRecDepth 100000 in
set_option maxHeartbeats 2000000 in
/-- 'List' tells the bits that are set. -/
theorem brlist_any (A : Option Addr) (n cap : Nat) (xs : List Nat) (w : World) (hn : n ≤ 1000) (hT : Bru w) (hA : RowU w A n xs) :
    Calls Tryd.prog 20 #[.slice A n cap] w fun e w' => ∃ v, e = .returned v ∧ OutI w.heap.size w' v (bitsOf xs) ∧ Below w.heap.size w w' := by
  obtain ⟨i0, hi, hz0, hz1, hz2⟩ := i64_partsR
  have hlen := hA.len
  refine (callsIn_wide (n := 5)).1 ?_
  refine callsIn_of_wp_marks Tryd.func20 rfl trivial ?_ rfl
  simp only [Tryd.ntmps20, List.size_toArray, List.length_cons, List.length_nil, Nat.reduceAdd, Nat.reduceSub, Array.replicate_succ, Array.replicate_zero, List.push_toArray, List.append_toArray, List.nil_append, List.cons_append]
  gi_wp2_with (refine ⟨trivial, ?_⟩; gi_at_call 35; refine (ones_in _ _ _ _).mono ?_; rintro e w' ⟨rfl, rfl⟩)
  have bO := Boxed.new w 30 (.slice none 0 0)
  have bN := Boxed.new (w.alloc (.cells #[.slice none 0 0] 30)) 22 (.slice A n cap)
  rw [World.size_alloc] at bN
  have hB0 : Below w.heap.size w ((w.alloc (.cells #[.slice none 0 0] 30)).alloc (.cells #[.slice A n cap] 22)) := ((Below.refl _ w).alloc (Nat.le_refl _) _).alloc (by simp) _
  have hsz : ((w.alloc (.cells #[.slice none 0 0] 30)).alloc (.cells #[.slice A n cap] 22)).heap.size = w.heap.size + 2 := by simp
  have hA2 := hA.below hB0
  have hT2 := hT.below hB0
  have hAlt : ∀ b o, A = some ⟨b, o, none⟩ → 0 < n → b < w.heap.size := fun b o e h0 => by
    obtain ⟨b', o', e', hb', _⟩ := hA.addr h0
    rw [e] at e'
    injection e' with e'
    injection e' with e1 e2
    omega
  have HG := Lib.hid hT.glob
  refine wpIn_rangeFunc_ownF rfl (by omega) (gf := 43) (lb := #[.pointer (some ⟨w.heap.size + 1, 0, none⟩)]) rfl trivial (enters_of Tryd.func43 (by kernel_rfl) rfl)
    (ones_stops (w.heap.size + 1) w.heap.size A n cap xs (by omega) _ (by simp) (by simp; omega) HG.out hT2 bN.cell hA2 hAlt) KB.trans
    (fun W l o o' hl h hc hw => ⟨belowK_b (w := (w.alloc (.cells #[.slice none 0 0] 30)).alloc (.cells #[.slice A n cap] 22)) (by omega) W l o o' hl h hc hw, World.putObj_heap_other (by omega)⟩) (Below.refl _ _) (fun _ => rfl)
    (fun pre W => (∃ v, Boxed W w.heap.size 30 v ∧ W.ownsRow w.heap.size 3 1 v pre.length (cellsI pre) ∧ True) ∧ Boxed W (w.heap.size + 1) 22 (.slice A n cap) ∧ Below w.heap.size w W)
    (fun _ _ _ => False)
    (OwnFrom.and (Own.from (holdsRow_own w.heap.size w.heap.size 30 3 1 (fun pre : List Nat => pre.length) (fun pre => cellsI pre) (fun pre v => True)) _) (OwnFrom.and (Own.from (boxed_own (w.heap.size + 1) 22 (fun _ => .slice A n cap)) _) (ownFrom_below (Nat.le_refl _) (by simp; omega))))
    (fun _ _ _ _ _ hs _ _ => hs)
    ⟨⟨_, bO.alloc _, World.ownsRow_nil _ _ _ _, trivial⟩, bN, hB0⟩
    (fun x => { tmps := #[.slice A n cap, undef, .slice none 0 0, .pointer (some ⟨w.heap.size, 0, none⟩), .int .i64 (x : Int), .slice A n cap, .func (.func 43) #[] #[.pointer (some ⟨w.heap.size + 1, 0, none⟩)], .int .i64 (x : Int), undef, undef, undef, undef, undef], defers := [] }) ?assign ?body ?done ?stop
  case assign =>
    intro l x W K hK
    gi_wp2
    exact hK
  case body =>
    rintro l pre x W ⟨⟨v, hv, hrow, _⟩, hbx, hB⟩ hlt
    have hc := hv.cell
    have hpl : pre.length + 1 ≤ 1048576 := by omega
    clear hT hA hT2 hA2 hAlt bO bN hB0
    gi_wp2_with (gi_at_builtin; refine wpListIn_append_own _ rfl _ _ 30 rfl w.heap.size 3 i0 (.int .i64 0) 1 8 Tryd.underlying30 hi hz0 hz1 hz2 rfl (by decide) _ _ _ rfl (hrow.alloc _) ⟨W.heap.size, 0, none⟩ 1 1 [.int .i64 (x : Int)] rfl rfl (cell_one_new _ _ _) (by simp [Value.oneCell']) (by unfold maxLen; omega) (by omega) (by have := hB.size; simp; omega) ?_; intro v' w1 hown' hgrow _; obtain ⟨g', cap', rfl⟩ := ownsRow_succ hown'; obtain ⟨hv1, hv2, hr2, hk2, hb2⟩ := hv.appended (by decide) hrow hB.size (Nat.le_refl _) hown' hgrow; have hbx1 := (hbx.alloc (.cells #[.int .i64 (x : Int)] 3)).kept hgrow (hbx.not_row (by decide) hrow); have hc1 := hv1.cell; have hf1 := hv1.frozen)
    have hbx2 := hbx1.kept (grownBy_setCell' _ w.heap.size (.slice (some ⟨g', 0, none⟩) (pre.length + 1) cap')) (by simp)
    exact ⟨hk2, ⟨hb2, by rw [hbx2, hbx]⟩, ⟨_, hv2, by simpa [cellsI] using hr2, trivial⟩, hbx2, hB.trans hb2⟩
  case done =>
    rintro D ys W hD rfl ⟨⟨v, hv, hrow, _⟩, _, hB⟩ hK
    have hc := hv.cell
    gi_wp2
    refine ⟨by simp, .inl ⟨_, _, rfl, run_takeDeferred hK, ?_⟩⟩
    exact ⟨_, results_tmp rfl _ _ _, v, rfl, by unfold bitsOf; rw [hlen]; exact ownsRow_putObj hrow _ hK rfl, hB.trans (belowK_b (w := w) (Nat.le_refl _) W D _ _ (by simp at hD; omega) hK rfl rfl)⟩
  case stop =>
    rintro D c pre W hD _ h _
    exact h.elim

theorem upTo_split (xs : List Nat) : ∀ (d p : Nat), ∃ r, upTo xs (p + d) = upTo xs p ++ r ∧ ∀ y ∈ r, p ≤ y := by
  intro d
  induction d with
  | zero => intro p; exact ⟨[], by simp, by simp⟩
  | succ d ih =>
    intro p
    obtain ⟨r, h1, h2⟩ := ih p
    rw [← Nat.add_assoc]
    cases hb : tb xs (p + d) with
    | true =>
      rw [upTo_set hb, h1]
      refine ⟨r ++ [p + d], by simp, fun y hy => ?_⟩
      rcases List.mem_append.1 hy with hy | hy
      · exact h2 y hy
      · simp at hy; omega
    | false => rw [upTo_unset hb]; exact ⟨r, h1, h2⟩
theorem upTo_part {xs : List Nat} {p q : Nat} (h : p ≤ q) : ∃ r, upTo xs q = upTo xs p ++ r ∧ ∀ y ∈ r, p ≤ y := by
  obtain ⟨d, rfl⟩ := Nat.exists_eq_add_of_le h
  exact upTo_split xs d p
/-- The first bit that is set, or -1. -/
def firstB (xs : List Nat) : Int := match bitsOf xs with
  | [] => -1
  | x :: _ => (x : Int)
theorem firstB_nil {xs : List Nat} (h : bitsOf xs = []) : firstB xs = -1 := by simp [firstB, h]
theorem firstB_one {xs : List Nat} {p x : Nat} (hp : p ≤ 64 * xs.length) (h : [x] = upTo xs p) : firstB xs = (x : Int) := by
  obtain ⟨r, h1, _⟩ := upTo_part (xs := xs) hp
  unfold firstB bitsOf
  rw [h1, ← h]
  rfl

set_option maxRecDepth 100000 in
set_option maxHeartbeats 2000000 in
theorem brfirst_any (A : Option Addr) (n cap : Nat) (xs : List Nat) (w : World) (hn : n ≤ 1000) (hT : Bru w) (hA : RowU w A n xs) :
    Calls Tryd.prog 17 #[.slice A n cap] w fun e w' => e = .returned (.int .i64 (firstB xs)) ∧ Below w.heap.size w w' := by
  have hlen := hA.len
  refine (callsIn_wide (n := 5)).1 ?_
  refine callsIn_of_wp_marks Tryd.func17 rfl trivial ?_ rfl
  simp only [Tryd.ntmps17, List.size_toArray, List.length_cons, List.length_nil, Nat.reduceAdd, Nat.reduceSub, Array.replicate_succ, Array.replicate_zero, List.push_toArray, List.append_toArray, List.nil_append, List.cons_append]
  gi_wp2_with (refine ⟨trivial, ?_⟩; gi_at_call 35; refine (ones_in _ _ _ _).mono ?_; rintro e w' ⟨rfl, rfl⟩)
  have bO := Boxed.new w 3 (.int .i64 0)
  have bN := Boxed.new (w.alloc (.cells #[.int .i64 0] 3)) 22 (.slice A n cap)
  rw [World.size_alloc] at bN
  have hB0 : Below w.heap.size w ((w.alloc (.cells #[.int .i64 0] 3)).alloc (.cells #[.slice A n cap] 22)) := ((Below.refl _ w).alloc (Nat.le_refl _) _).alloc (by simp) _
  have hsz : ((w.alloc (.cells #[.int .i64 0] 3)).alloc (.cells #[.slice A n cap] 22)).heap.size = w.heap.size + 2 := by simp
  have hA2 := hA.below hB0
  have hT2 := hT.below hB0
  have hAlt : ∀ b o, A = some ⟨b, o, none⟩ → 0 < n → b < w.heap.size := fun b o e h0 => by
    obtain ⟨b', o', e', hb', _⟩ := hA.addr h0
    rw [e] at e'
    injection e' with e'
    injection e' with e1 e2
    omega
  have HG := Lib.hid hT.glob
  refine wpIn_rangeFunc_ownF rfl (by omega) (gf := 43) (lb := #[.pointer (some ⟨w.heap.size + 1, 0, none⟩)]) rfl trivial (enters_of Tryd.func43 (by kernel_rfl) rfl)
    (ones_stops (w.heap.size + 1) w.heap.size A n cap xs (by omega) _ (by simp) (by simp; omega) HG.out hT2 bN.cell hA2 hAlt) KB.trans
    (fun W l o o' hl h hc hw => ⟨belowK_b (w := (w.alloc (.cells #[.int .i64 0] 3)).alloc (.cells #[.slice A n cap] 22)) (by omega) W l o o' hl h hc hw, World.putObj_heap_other (by omega)⟩) (Below.refl _ _) (fun _ => rfl)
    (fun pre W => (pre = [] ∧ W.cell? ⟨w.heap.size, 0, none⟩ = some (.int .i64 0) ∧ W.frozen? ⟨w.heap.size, 0, none⟩ = false) ∧ Below w.heap.size w W)
    (fun c pre W => (c = .ret ∧ ∃ x : Nat, pre = [x] ∧ W.cell? ⟨w.heap.size, 0, none⟩ = some (.int .i64 (x : Int))) ∧ Below w.heap.size w W)
    (OwnFrom.and (Own.from (fun s A B row hs hg hr => ⟨hs.1, cell_kept hs.2.1 hg hr, (frozen_kept hs.2.1 hg hr).trans hs.2.2⟩) _) (ownFrom_below (Nat.le_refl _) (by simp; omega)))
    (fun c => OwnFrom.and (Own.from (fun s A B row hs hg hr => by obtain ⟨h1, x, h2, h3⟩ := hs; exact ⟨h1, x, h2, cell_kept h3 hg hr⟩) _) (ownFrom_below (Nat.le_refl _) (by simp; omega)))
    ⟨⟨rfl, (bO.alloc _).cell, (bO.alloc _).frozen⟩, hB0⟩
    (fun x => { tmps := #[.slice A n cap, undef, .pointer (some ⟨w.heap.size, 0, none⟩), .int .i64 (x : Int), .slice A n cap, .func (.func 43) #[] #[.pointer (some ⟨w.heap.size + 1, 0, none⟩)], .int .i64 (x : Int), undef], defers := [] }) ?assign ?body ?done ?stop
  case assign =>
    intro l x W K hK
    gi_wp2
    exact hK
  case body =>
    rintro l pre x W ⟨⟨rfl, hc, hf⟩, hB⟩ hlt
    clear hT hA hT2 hA2 hAlt bO bN hB0
    gi_wp2
    exact ⟨KeepsOthers.setCell _ _ _, ⟨rfl, x, rfl, World.cell?_setCell_same' _ _ _ (by rw [hc]; rfl)⟩, hB.setCell (p := ⟨w.heap.size, 0, none⟩) (Nat.le_refl _) _⟩
  case done =>
    rintro D ys W hD rfl ⟨⟨hnil, hc, hf⟩, hB⟩ hK
    gi_wp2
    have hK' := (KeepsOthers.setCell W ⟨w.heap.size, 0, none⟩ (.int .i64 (-1))).same D _ hK rfl
    refine ⟨by simp, .inl ⟨_, _, rfl, run_takeDeferred hK', ?_⟩⟩
    have hc5 := cell_kept (World.cell?_setCell_same' W ⟨w.heap.size, 0, none⟩ (.int .i64 (-1)) (by rw [hc]; rfl)) (grownBy_putObj' _ D (.deferred none)) (fun r e => by cases e; exact ⟨_, hK', rfl⟩)
    refine ⟨.int .i64 (-1), ?_, by rw [firstB_nil (by unfold bitsOf; rw [hlen]; exact hnil)], (hB.setCell (p := ⟨w.heap.size, 0, none⟩) (Nat.le_refl _) _).trans (belowK_b (w := w) (Nat.le_refl _) _ D _ _ (by simp at hD; omega) hK' rfl rfl)⟩
    simp [results, Tryd.f17, go_sem, hc5]
  case stop =>
    rintro D c pre W hD ⟨p, hp, hpre⟩ ⟨⟨rfl, x, rfl, hc⟩, hB⟩ hK
    gi_wp2
    refine ⟨by simp, .inl ⟨_, _, rfl, run_takeDeferred hK, ?_⟩⟩
    have hc5 := cell_kept hc (grownBy_putObj' _ D (.deferred none)) (fun r e => by cases e; exact ⟨_, hK, rfl⟩)
    refine ⟨.int .i64 (x : Int), ?_, by rw [firstB_one (by rw [hlen]; exact hp) hpre], hB.trans (belowK_b (w := w) (Nat.le_refl _) W D _ _ (by simp at hD; omega) hK rfl rfl)⟩
    simp [results, Tryd.f17, go_sem, hc5]

theorem upTo_pc (xs : List Nat) (k : Nat) : (upTo xs (64 * (k + 1))).length = (upTo xs (64 * k)).length + pc (xs.getD k 0) := by
  unfold upTo pc
  rw [show 64 * (k + 1) = 64 * k + 64 from by omega, List.range_add, List.filter_append, List.length_append, List.filter_map, List.length_map]
  congr 2
  apply List.filter_congr
  intro j hj
  exact tb_word xs k j (List.mem_range.1 hj)
theorem pc_le (x : Nat) : pc x ≤ 64 := by
  unfold pc
  refine Nat.le_trans (List.length_filter_le _ _) ?_
  simp

set_option maxHeartbeats 400000 in
theorem brcount_any (A : Option Addr) (n cap : Nat) (xs : List Nat) (w : World) (hn : n ≤ 1000) (hA : RowU w A n xs) :
    Calls Tryd.prog 22 #[.slice A n cap] w fun e w' => e = .returned (.int .i64 ((bitsOf xs).length : Nat)) ∧ w = w' := by
  have hlen := hA.len
  unfold bitsOf
  rw [hlen]
  have HA := Lib.hid hA
  clear hA hlen
  go_enter Tryd.func22, Tryd.ntmps22
  go_wp2_with fail
  go_loop [3, 8] (fun v i => ∃ k c : Nat, k ≤ n ∧ i = .int .i64 (k : Int) ∧ v = .int .i64 (c : Int) ∧ Hid (c = (upTo xs (64 * k)).length)) (fun _ i => n - (intOf i).toNat)
  case atStart => exact ⟨0, 0, Nat.zero_le _, rfl, rfl, rfl⟩
  case round =>
    obtain ⟨k, c, hk, rfl, rfl, hc⟩ := hrel
    by_cases hlt : k < n
    · obtain ⟨b, o, rfl, hb, hcs⟩ := HA.out.addr (by omega)
      have h1 := hcs k hlt
      have hx := HA.out.word k
      have hst := upTo_pc xs k
      have hbd := upTo_length xs (64 * k)
      obtain ⟨x, hxe⟩ : ∃ x, x = xs.getD k 0 := ⟨_, rfl⟩
      rw [← hxe] at h1 hx hst
      have hp := pc_le x
      have C := Lib.hid (fun w => onescount_any x w hx)
      obtain ⟨q, hq⟩ : ∃ q, q = pc x := ⟨_, rfl⟩
      rw [← hq] at hp C hst
      rw [← hc.out] at hst hbd
      have HS := Lib.hid hst
      have hcl : c ≤ 64000 := by omega
      clear hcs hb hx hxe hq hst hbd
      go_wp2_with (go_at_call 36; refine (C.out _).mono ?_; rintro e w' ⟨rfl, rfl⟩)
      go_round
      case rel => exact ⟨k + 1, c + q, hlt, by go_num, by go_num, HS.out.symm⟩
      case measure => simp [intOf]; omega
    · obtain rfl : k = n := by omega
      clear hk hlt
      go_wp2_with fail
      go_ret
      exact ⟨by rw [← hc.out]; rfl, rfl⟩

set_option maxHeartbeats 800000 in
theorem rlist_any (A : Option Addr) (n cap : Nat) (xs : List Nat) (w : World) (hn : n ≤ 1000) (hA : RowU w A n xs) :
    Calls Tryd.prog 21 #[.slice A n cap] w fun e w' => ∃ v, e = .returned v ∧ OutI w.heap.size w' v (bitsOf xs) ∧ Below w.heap.size w w' := by
  have hlen := hA.len
  unfold bitsOf
  rw [hlen]
  have HA := Lib.hid hA
  clear hA hlen
  go_enter Tryd.func21, Tryd.ntmps21
  go_wp2_with fail
  go_loopw [3, 4] (fun v i wr => ∃ k : Nat, k ≤ 64 * n ∧ i = .int .i64 (k : Int) ∧ OutI w.heap.size wr v (upTo xs k) ∧ Below w.heap.size w wr) (fun _ i _ => 64 * n - (intOf i).toNat)
  case atStart => exact ⟨0, Nat.zero_le _, rfl, OutI.nil _ _, Below.refl _ _⟩
  case round =>
    obtain ⟨k, hk, rfl, ho, hb⟩ := hrel
    have HO := Lib.hid ho
    have HB := Lib.hid hb
    clear ho hb
    by_cases hlt : k < 64 * n
    · have hh : hasB xs (k : Int) = tb xs k := by unfold hasB; rw [if_neg (by omega)]; rfl
      have C := Lib.hid (rhas_any A n cap xs (k : Int) wr (by omega) (HA.out.below HB.out))
      rw [hh] at C
      have hl := upTo_length xs k
      have hll : Hid ((upTo xs k).length + 1 ≤ 1048576) := (by omega : (upTo xs k).length + 1 ≤ 1048576)
      clear hh hl
      cases hb : tb xs k with
      | true =>
        rw [hb] at C
        have HS := Lib.hid (upTo_set hb)
        clear hb
        go_wp2_with (first | (go_at_call 16; refine C.out.mono ?_; rintro e w' ⟨rfl, rfl⟩) | (at_builtin; refine wpList_appendI (by rfl) (.tmp 15) (.tmp 17) (by rfl) (news := [k]) _ 1 (by rfl) (by rfl) (by rfl) (by rfl) HO.out HB.out HB.out.size hll.out ?_; intro v' w' ho' hb') | fail)
        go_roundw
        case rel => exact ⟨k + 1, hlt, by go_num, by rw [HS.out]; exact ho', hb'⟩
        case measure => simp [intOf]; omega
      | false =>
        rw [hb] at C
        have HS := Lib.hid (upTo_unset hb)
        clear hb
        go_wp2_with (first | (go_at_call 16; refine C.out.mono ?_; rintro e w' ⟨rfl, rfl⟩) | fail)
        go_roundw
        case rel => exact ⟨k + 1, hlt, by go_num, by rw [HS.out]; exact HO.out, HB.out⟩
        case measure => simp [intOf]; omega
    · obtain rfl : k = 64 * n := by omega
      clear hk hlt
      go_wp2_with fail
      go_ret
      exact ⟨_, rfl, HO.out, HB.out⟩
theorem bitsOf_bound (xs : List Nat) (h : xs.length ≤ 1048576) : ∀ x ∈ bitsOf xs, x < 9223372036854775808 := by
  intro x hx
  have := (mem_upTo.1 hx).1
  omega
theorem rfirst_any (A : Option Addr) (n cap : Nat) (xs : List Nat) (w : World) (hn : n ≤ 1000) (hA : RowU w A n xs) :
    Calls Tryd.prog 18 #[.slice A n cap] w fun e w' => e = .returned (.int .i64 (firstB xs)) ∧ Below w.heap.size w w' := by
  have C := Lib.hid (rlist_any A n cap xs w hn hA)
  have hlen := hA.len
  have hbd := Lib.hid (bitsOf_bound xs (by omega))
  have hll : (bitsOf xs).length ≤ 64000 := by have := upTo_length xs (64 * xs.length); unfold bitsOf; omega
  have HF : Hid (∀ l, l = bitsOf xs → firstB xs = match l with | [] => -1 | x :: _ => (x : Int)) := fun l hl => by subst hl; rfl
  obtain ⟨l, hl⟩ : ∃ l, l = bitsOf xs := ⟨_, rfl⟩
  have hF := HF.out l hl
  rw [hF]
  rw [← hl] at C hbd hll
  clear hl hF HF hlen hA
  go_enter Tryd.func18, Tryd.ntmps18
  cases l with
  | nil =>
    go_wp2_with (go_at_call 21; refine C.out.mono ?_; rintro e w1 ⟨v, rfl, ho, hb⟩; obtain ⟨A', c', rfl, _, _, _⟩ := ho.out hbd.out)
    go_ret
    exact ⟨rfl, hb⟩
  | cons x r =>
    have hne : ((r.length : Int) + 1 == 0) = false := by rw [beq_eq_false_iff_ne]; omega
    go_wp2_with (go_at_call 21; refine C.out.mono ?_; rintro e w1 ⟨v, rfl, ho, hb⟩; obtain ⟨g', c', rfl, _, _, _⟩ := ho.block (by simp); have hc0 := ho.cell rfl 0 (by simp))
    go_ret
    exact ⟨rfl, hb⟩
end Go.Proofs.YtdpncnplbkmgoaaDoor
