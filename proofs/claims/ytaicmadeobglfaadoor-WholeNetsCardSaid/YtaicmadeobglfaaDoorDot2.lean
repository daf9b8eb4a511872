/-
  The contract of dotted's Parse.
-/
import Derived.Test.YtaicmadeobglfaaDoorDec
import Derived.Test.YtaicmadeobglfaaDoorOwn
namespace Go.Proofs.YtaicmadeobglfaaDoor
open Go.RowKit
set_option linter.unusedVariables false

/-- Block g is an array of four bytes. -/
def ArrAt (W : World) (g : Nat) (bs : List Nat) : Prop := W.heap[g]? = some (.cells (bcells bs).toArray 35 (0, 0))
theorem ArrAt.cell {W : World} {g : Nat} {bs : List Nat} (h : ArrAt W g bs) (i : Nat) (hi : i < bs.length) : W.cell? ⟨g, i, none⟩ = some (.int .u8 (bs.getD i 0 : Nat)) := by
  rw [cell_of_row W g i _ _ _ h]
  simp [bcells, hi]
theorem ArrAt.frozen {W : World} {g : Nat} {bs : List Nat} (h : ArrAt W g bs) (i : Nat) : W.frozen? ⟨g, i, none⟩ = false := frozen_of_row W g i _ _ h
theorem ArrAt.lt {W : World} {g : Nat} {bs : List Nat} (h : ArrAt W g bs) : g < W.heap.size := by
  rcases Nat.lt_or_ge g W.heap.size with hlt | hge
  · exact hlt
  · unfold ArrAt at h; rw [Array.getElem?_eq_none hge] at h; cases h
theorem ArrAt.below {W W' : World} {g : Nat} {bs : List Nat} (h : ArrAt W g bs) (hb : Below W.heap.size W W') : ArrAt W' g bs := (hb.block g h.lt).trans h
theorem ArrAt.alloc {W : World} {g : Nat} {bs : List Nat} (h : ArrAt W g bs) (o : Obj) : ArrAt (W.alloc o) g bs := (Below.heap_alloc W o g h.lt).trans h
theorem ArrAt.set {W : World} {g : Nat} {bs : List Nat} (h : ArrAt W g bs) (i x : Nat) : ArrAt (W.setCell ⟨g, i, none⟩ (.int .u8 (x : Nat))) g (bs.set i x) := by
  have h1 := heap_setCell_same W g i _ _ (.int .u8 (x : Nat)) h
  unfold ArrAt
  rw [h1]
  simp [bcells, List.map_set]
theorem ArrAt.other {W : World} {g : Nat} {bs : List Nat} (h : ArrAt W g bs) (p : Addr) (v : Value) (hp : p.block ≠ g) : ArrAt (W.setCell p v) g bs := (heap_setCell_other W p g v (Ne.symm hp)).trans h
theorem four (b : List Nat) (h : b.length = 4) : ∃ x y z u, b = [x, y, z, u] := by
  match b, h with
  | [x, y, z, u], _ => exact ⟨x, y, z, u, rfl⟩

/-- How far the numbers were laid, and the error so far. -/
def pst (vs : List Nat) (k : Nat) : Nat × List Nat := if (vs.take k).all (fun v => decide (v ≤ 255)) then (0, vs.take k ++ List.replicate (4 - k) 0) else (1, [0, 0, 0, 0])
theorem pst_zero (vs : List Nat) : pst vs 0 = (0, [0, 0, 0, 0]) := rfl
theorem take_next (vs : List Nat) (k : Nat) (h : k < vs.length) : vs.take (k + 1) = vs.take k ++ [vs.getD k 0] := by
  rw [List.take_succ_eq_append_getElem h, List.getD_eq_getElem?_getD, List.getElem?_eq_getElem h]
  rfl
theorem pst_big {vs : List Nat} {k : Nat} (hk : k < vs.length) (h : 255 < vs.getD k 0) : pst vs (k + 1) = (1, [0, 0, 0, 0]) := by
  unfold pst
  rw [if_neg]
  rw [take_next vs k hk, List.all_append]
  generalize vs.getD k 0 = x at h
  simp
  omega
theorem pst_keep {vs : List Nat} {k : Nat} {bs : List Nat} (hk : k < vs.length) (h : pst vs k = (1, bs)) : pst vs (k + 1) = (1, [0, 0, 0, 0]) := by
  unfold pst at h ⊢
  split at h
  · simp at h
  · rename_i hn
    rw [if_neg]
    rw [take_next vs k hk, List.all_append]
    intro e
    simp only [Bool.and_eq_true] at e
    exact hn e.1
theorem pst_more {vs : List Nat} {k : Nat} {bs : List Nat} (hk : k < vs.length) (h4 : vs.length = 4) (h : pst vs k = (0, bs)) (hv : vs.getD k 0 ≤ 255) : pst vs (k + 1) = (0, bs.set k (vs.getD k 0)) := by
  unfold pst at h ⊢
  split at h
  · rename_i ha
    simp only [Prod.mk.injEq, true_and] at h
    subst h
    rw [if_pos]
    · congr 1
      have e1 : (vs.take k).length = k := by rw [List.length_take]; omega
      rw [take_next vs k hk, List.set_append_right (h := by omega), e1, Nat.sub_self, show 4 - k = (4 - (k + 1)) + 1 from by omega, List.replicate_succ, List.set_cons_zero]
      simp
    · rw [take_next vs k hk, List.all_append, ha]
      generalize vs.getD k 0 = x at hv
      simp
      omega
  · simp at h
theorem pst_len {vs : List Nat} {k E : Nat} {bs : List Nat} (hk : k ≤ vs.length) (h4 : vs.length = 4) (h : pst vs k = (E, bs)) : bs.length = 4 := by
  unfold pst at h
  split at h
  · simp only [Prod.mk.injEq] at h
    rw [← h.2, List.length_append, List.length_take, List.length_replicate]
    omega
  · simp only [Prod.mk.injEq] at h
    rw [← h.2]
    rfl
theorem pst_err {vs : List Nat} {k E : Nat} {bs : List Nat} (h : pst vs k = (E, bs)) : E = 0 ∨ E = 1 := by
  unfold pst at h
  split at h
  · exact .inl (by simp at h; exact h.1.symm)
  · exact .inr (by simp at h; exact h.1.symm)

/-- The value that Parse answers. -/
def dval (l : List UInt8) : Value :=
  .tuple #[.agg #[.int .u8 ((dparse l).1.1 : Nat), .int .u8 ((dparse l).1.2.1 : Nat), .int .u8 ((dparse l).1.2.2.1 : Nat), .int .u8 ((dparse l).1.2.2.2 : Nat)], .int .i64 ((dparse l).2 : Nat)]
def ParseIs (s : ByteArray) (w : World) (e : Ending) (w' : World) : Prop := e = .returned (dval s.data.toList) ∧ Below w.heap.size w w'
def nullv (e : Int) : Value := .tuple #[.agg #[.int .u8 0, .int .u8 0, .int .u8 0, .int .u8 0], .int .i64 e]
theorem parse_form {s : ByteArray} {w w' : World} (h : dparse s.data.toList = ((0, 0, 0, 0), 3)) (hb : Below w.heap.size w w') : ParseIs s w (.returned (nullv 3)) w' := by
  refine ⟨?_, hb⟩
  unfold dval
  rw [h]
  rfl
theorem dparse_count {l : List UInt8} (h : (cutL 46 l).length ≠ 4) : dparse l = ((0, 0, 0, 0), 3) := by
  unfold dparse
  split
  · rename_i he
    rw [he] at h
    exact absurd rfl h
  · rfl
theorem dparse_bad {l : List UInt8} {p : List UInt8} (h4 : (cutL 46 l).length = 4) (hp : p ∈ cutL 46 l) (h : numOk p = false) : dparse l = ((0, 0, 0, 0), 3) := by
  unfold dparse
  split
  · rename_i a b c d he
    rw [he] at hp
    have : (numOk a && numOk b && numOk c && numOk d) = false := by
      simp only [List.mem_cons, List.not_mem_nil, or_false] at hp
      rcases hp with rfl | rfl | rfl | rfl <;> simp [h]
    rw [this]
    rfl
  · rfl
theorem dparse_end {l : List UInt8} {E a b c d : Nat} (h4 : (cutL 46 l).length = 4) (hok : ∀ p ∈ cutL 46 l, numOk p = true) (h : pst ((cutL 46 l).map numv) 4 = (E, [a, b, c, d])) : dparse l = ((a, b, c, d), E) := by
  unfold dparse
  split
  · rename_i p q r s he
    rw [he] at hok h
    have h1 := hok p (by simp)
    have h2 := hok q (by simp)
    have h3 := hok r (by simp)
    have h5 := hok s (by simp)
    rw [h1, h2, h3, h5]
    simp only [Bool.and_self, if_true]
    unfold pst at h
    simp only [List.map_cons, List.map_nil, List.take_succ_cons, List.take_zero, List.all_cons, List.all_nil, Bool.and_true, Bool.and_eq_true, decide_eq_true_eq, Nat.sub_self, List.replicate_zero, List.append_nil] at h
    split at h
    · rename_i hle
      rw [if_pos ⟨hle.1, hle.2.1, hle.2.2.1, hle.2.2.2⟩]
      simp only [Prod.mk.injEq, List.cons.injEq, and_true] at h
      obtain ⟨rfl, rfl, rfl, rfl, rfl⟩ := h
      rfl
    · rename_i hle
      rw [if_neg (fun e => hle ⟨e.1, e.2.1, e.2.2.1, e.2.2.2⟩)]
      simp only [Prod.mk.injEq, List.cons.injEq, and_true] at h
      obtain ⟨rfl, rfl, rfl, rfl, rfl⟩ := h
      rfl
  · rename_i hne
    match hl : cutL 46 l, h4 with
    | [p, q, r, s], _ => exact absurd hl (hne p q r s)

/-- The loop's world. -/
structure DParseInv (w : World) (s : ByteArray) (ps : List ByteArray) (k E : Nat) (bs : List Nat) (W : World) : Prop where
  arr : ArrAt W (w.heap.size + 1) bs
  res : ArrAt W w.heap.size [0, 0, 0, 0]
  st : pst ((cutL 46 s.data.toList).map numv) k = (E, bs)
  oks : ∀ j x, j < k → ps[j]? = some x → numOk x.data.toList = true
  txt : ∀ (j : Nat) x, ps[j]? = some x → W.cell? ⟨w.heap.size + 2, j, none⟩ = some (.string x)
  bel : Below w.heap.size w W

theorem cell_other (W : World) (p q : Addr) (v : Value) (h : p.block ≠ q.block) : (W.setCell p v).cell? q = W.cell? q := by
  have e := heap_setCell_other W p q.block v (Ne.symm h)
  simp only [World.cell?, e]
theorem DParseInv.zero {w W : World} {s : ByteArray} {ps : List ByteArray} {k E : Nat} {bs : List Nat} (h : DParseInv w s ps k E bs W) (hb : bs.length = 4)
    (hst : pst ((cutL 46 s.data.toList).map numv) (k + 1) = (1, [0, 0, 0, 0])) (hok : ∀ j x, j < k + 1 → ps[j]? = some x → numOk x.data.toList = true) :
    DParseInv w s ps (k + 1) 1 [0, 0, 0, 0] ((((W.setCell ⟨w.heap.size + 1, 0, none⟩ (.int .u8 0)).setCell ⟨w.heap.size + 1, 1, none⟩ (.int .u8 0)).setCell ⟨w.heap.size + 1, 2, none⟩ (.int .u8 0)).setCell ⟨w.heap.size + 1, 3, none⟩ (.int .u8 0)) := by
  obtain ⟨x, y, z, u, rfl⟩ := four bs hb
  refine ⟨(((h.arr.set 0 0).set 1 0).set 2 0).set 3 0, (((h.res.other _ _ ?_).other _ _ ?_).other _ _ ?_).other _ _ ?_, hst, hok, fun j x hj => ?_, (((h.bel.setCell ?_ _).setCell ?_ _).setCell ?_ _).setCell ?_ _⟩
  case refine_5 =>
    rw [cell_other _ _ _ _ (by simp), cell_other _ _ _ _ (by simp), cell_other _ _ _ _ (by simp), cell_other _ _ _ _ (by simp)]
    exact h.txt j x hj
  all_goals simp
theorem DParseInv.put {w W : World} {s : ByteArray} {ps : List ByteArray} {k n : Nat} {bs : List Nat} (h : DParseInv w s ps k 0 bs W)
    (hst : pst ((cutL 46 s.data.toList).map numv) (k + 1) = (0, bs.set k n)) (hok : ∀ j x, j < k + 1 → ps[j]? = some x → numOk x.data.toList = true) :
    DParseInv w s ps (k + 1) 0 (bs.set k n) (W.setCell ⟨w.heap.size + 1, k, none⟩ (.int .u8 (n : Nat))) := by
  refine ⟨h.arr.set k n, h.res.other _ _ (by simp), hst, hok, fun j x hj => ?_, h.bel.setCell (by simp) _⟩
  rw [cell_other _ _ _ _ (by simp)]
  exact h.txt j x hj
theorem DParseInv.below {w W W' : World} {s : ByteArray} {ps : List ByteArray} {k E : Nat} {bs : List Nat} (h : DParseInv w s ps k E bs W) (hb : Below W.heap.size W W') : DParseInv w s ps k E bs W' :=
  ⟨h.arr.below hb, h.res.below hb, h.st, h.oks, fun j x hx => (hb.cell (cell_lt (h.txt j x hx))).trans (h.txt j x hx), below_both h.bel hb⟩
theorem oks_next {ps : List ByteArray} {k : Nat} {x : ByteArray} (h : ∀ j x, j < k → ps[j]? = some x → numOk x.data.toList = true) (hx : ps[k]? = some x) (ho : numOk x.data.toList = true) :
    ∀ j x, j < k + 1 → ps[j]? = some x → numOk x.data.toList = true := by
  intro j y hj hy
  rcases Nat.lt_or_ge j k with hlt | hge
  · exact h j y hlt hy
  · obtain rfl : j = k := by omega
    rw [hx] at hy
    injection hy with hy
    subst hy
    exact ho

set_option maxRecDepth 10000 in
set_option maxHeartbeats 1600000 in
theorem parse_any (s : ByteArray) (w : World) (hs : s.size ≤ 140737488355328) : Calls Tryd.prog 23 #[.string s] w (ParseIs s w) := by
  have CS := Lib.hid (fun w => splitN_one s 46 5 w hs (by decide) (by decide))
  go_enter Tryd.func23, Tryd.ntmps23
  go_wp2_with fail
  refine (CS.out _).mono ?_
  rintro e w1 ⟨ps, N, h1, h2, rfl, h3⟩
  obtain ⟨h3, h4⟩ := h3
  have hb : Below w.heap.size w w1 := below_al2 h4
  have hA1 : ArrAt w1 (w.heap.size + 1) [0, 0, 0, 0] := (show ArrAt ((w.alloc _).alloc _) (w.heap.size + 1) [0, 0, 0, 0] from heap_alloc2_new w _ _).below h4
  have hA0 : ArrAt w1 w.heap.size [0, 0, 0, 0] := (show ArrAt ((w.alloc _).alloc _) w.heap.size [0, 0, 0, 0] from heap_alloc2_old w _ _).below h4
  have hcut : (cutL 46 s.data.toList).length = 4 → ps.map (·.data.toList) = cutL 46 s.data.toList := fun h => by rw [h1]; exact cutK_all 46 _ 4 (by omega)
  have hlen : ps.length = min (cutL 46 s.data.toList).length 5 := by
    have e := congrArg List.length h1
    rw [List.length_map, cutK_length] at e
    exact e
  have e2 : ((w.alloc (.cells #[Value.int .u8 0, .int .u8 0, .int .u8 0, .int .u8 0] 35)).alloc (.cells #[Value.int .u8 0, .int .u8 0, .int .u8 0, .int .u8 0] 35)).heap.size = w.heap.size + 2 := by simp
  by_cases hc : (cutL 46 s.data.toList).length = 4
  · have hps : ps.map (·.data.toList) = cutL 46 s.data.toList := hcut hc
    have hp4 : ps.length = 4 := by omega
    have HI : Hid (DParseInv w s ps 0 0 [0, 0, 0, 0] w1) := ⟨hA1, hA0, pst_zero _, fun j x h => absurd h (by omega), fun j x h => by have := h3 j x h; rw [e2] at this; exact this, hb⟩
    have HPS := Lib.hid hps
    have HC := Lib.hid hc
    have hp4' : Hid (ps.length = 4) := hp4
    clear h1 h3 h4 hb hA1 hA0 hcut hlen hps hc e2
    rw [hp4]
    clear hp4
    simp only [World.size_alloc]
    go_wp2_with fail
    go_loopw [6, 16] (fun e i wr => ∃ (k E : Nat) (bs : List Nat), k ≤ 4 ∧ i = .int .i64 k ∧ e = .int .i64 E ∧ DParseInv w s ps k E bs wr) (fun _ i _ => 4 - (intOf i).toNat)
    case atStart => exact ⟨0, 0, _, by decide, rfl, rfl, HI.out⟩
    case round =>
      obtain ⟨k, E, bs, hk, rfl, rfl, HI0⟩ := hrel
      have HI := Lib.hid HI0
      clear HI0
      have hv4 : Hid (((cutL 46 s.data.toList).map numv).length = 4) := by rw [List.length_map]; exact HC.out
      have hbs : Hid (bs.length = 4) := pst_len (by rw [hv4.out]; exact hk) hv4.out HI.out.st
      by_cases hlt : k < 4
      · obtain ⟨x, hx⟩ : ∃ x, ps[k]? = some x := ⟨_, List.getElem?_eq_getElem (by rw [hp4'.out]; exact hlt)⟩
        have hcell := HI.out.txt k x hx
        have hmem : Hid (x.data.toList ∈ cutL 46 s.data.toList) := by
          have : x ∈ ps := List.mem_of_getElem? hx
          show x.data.toList ∈ _
          rw [← HPS.out]
          exact List.mem_map_of_mem this
        have hval : Hid (((cutL 46 s.data.toList).map numv).getD k 0 = numv x.data.toList) := by
          show _ = _
          rw [← HPS.out, List.getD_eq_getElem?_getD, List.getElem?_map, List.getElem?_map, hx]
          rfl
        have HX := Lib.hid hx
        clear hx
        by_cases hok : numOk x.data.toList = true
        · obtain ⟨n, hn⟩ : ∃ n, n = numv x.data.toList := ⟨_, rfl⟩
          have hn9 : n ≤ 999 := by rw [hn]; exact numv_three _ hok
          have CN := Lib.hid (fun w => decimal_ok 3 x w (by decide) n hok hn)
          rw [← hn] at hval
          have HN := Lib.hid hn
          have HO := Lib.hid hok
          clear hn hok
          go_wp2_with fail
          refine (CN.out _).mono ?_
          rintro e w2 ⟨rfl, hb2⟩
          have HI := Lib.hid (HI.out.below hb2)
          clear hb2 hcell
          have r0 := HI.out.res.cell 0 (by decide)
          have r1 := HI.out.res.cell 1 (by decide)
          have r2 := HI.out.res.cell 2 (by decide)
          have r3 := HI.out.res.cell 3 (by decide)
          have f0 := HI.out.res.frozen
          have f1 := HI.out.arr.frozen
          simp at r0 r1 r2 r3
          rcases Nat.lt_or_ge 255 n with big | small
          · have a0 := HI.out.arr.cell 0 (by rw [hbs.out]; decide)
            have a1 := HI.out.arr.cell 1 (by rw [hbs.out]; decide)
            have a2 := HI.out.arr.cell 2 (by rw [hbs.out]; decide)
            have a3 := HI.out.arr.cell 3 (by rw [hbs.out]; decide)
            go_wp2_with fail
            go_roundw
            case rel =>
              exact ⟨k + 1, 1, [0, 0, 0, 0], by omega, by go_num, rfl, HI.out.zero hbs.out (pst_big (by rw [hv4.out]; exact hlt) (by rw [hval.out]; exact big)) (oks_next HI.out.oks HX.out HO.out)⟩
            case measure => simp [intOf]; omega
          · rcases pst_err HI.out.st with hE | hE
            · have c0 := HI.out.arr.cell k (by have := hbs.out; omega)
              subst hE
              go_wp2_with fail
              go_roundw
              case rel =>
                refine ⟨k + 1, 0, bs.set k n, by omega, by go_num, rfl, HI.out.put ?_ (oks_next HI.out.oks HX.out HO.out)⟩
                have := pst_more (by rw [hv4.out]; exact hlt) hv4.out HI.out.st (by rw [hval.out]; exact small)
                rw [hval.out] at this
                exact this
              case measure => simp [intOf]; omega
            · subst hE
              have a0 := HI.out.arr.cell 0 (by rw [hbs.out]; decide)
              have a1 := HI.out.arr.cell 1 (by rw [hbs.out]; decide)
              have a2 := HI.out.arr.cell 2 (by rw [hbs.out]; decide)
              have a3 := HI.out.arr.cell 3 (by rw [hbs.out]; decide)
              go_wp2_with fail
              go_roundw
              case rel =>
                exact ⟨k + 1, 1, [0, 0, 0, 0], by omega, by go_num, rfl, HI.out.zero hbs.out (pst_keep (by rw [hv4.out]; exact hlt) HI.out.st) (oks_next HI.out.oks HX.out HO.out)⟩
              case measure => simp [intOf]; omega
        · have hno : numOk x.data.toList = false := by rw [← Bool.not_eq_true]; exact hok
          have F := Lib.hid (fun (w' : World) (hb : Below w.heap.size w w') => parse_form (dparse_bad HC.out hmem.out hno) hb)
          have CN := Lib.hid (fun w => decimal_bad 3 x w (by decide) hno)
          clear hok hno
          go_wp2_with fail
          refine (CN.out _).mono ?_
          rintro e w2 ⟨rfl, hb2⟩
          have HI := Lib.hid (HI.out.below hb2)
          have HB := Lib.hid HI.out.bel
          clear hb2 hcell
          have r0 := HI.out.res.cell 0 (by decide)
          have r1 := HI.out.res.cell 1 (by decide)
          have r2 := HI.out.res.cell 2 (by decide)
          have r3 := HI.out.res.cell 3 (by decide)
          have f0 := HI.out.res.frozen
          have f1 := HI.out.arr.frozen
          simp at r0 r1 r2 r3
          go_wp2_with fail
          exact bodyPost_ret (v := nullv 3) (by simp [nullv, results, Tryd.results23, go_sem, r0, r1, r2, r3]) rfl (F.out _ ((((HB.out.setCell (Nat.le_refl _) _).setCell (Nat.le_refl _) _).setCell (Nat.le_refl _) _).setCell (Nat.le_refl _) _))
      · obtain rfl : k = 4 := by omega
        obtain ⟨x, y, z, u, rfl⟩ := four bs hbs.out
        have a0 := HI.out.arr.cell 0 (by simp)
        have a1 := HI.out.arr.cell 1 (by simp)
        have a2 := HI.out.arr.cell 2 (by simp)
        have a3 := HI.out.arr.cell 3 (by simp)
        have r0 := HI.out.res.cell 0 (by decide)
        have r1 := HI.out.res.cell 1 (by decide)
        have r2 := HI.out.res.cell 2 (by decide)
        have r3 := HI.out.res.cell 3 (by decide)
        have f0 := HI.out.res.frozen
        simp at a0 a1 a2 a3 r0 r1 r2 r3
        have HE : Hid (dparse s.data.toList = ((x, y, z, u), E)) := by
          refine dparse_end HC.out (fun p hp => ?_) HI.out.st
          rw [← HPS.out] at hp
          obtain ⟨q, hq, rfl⟩ := List.mem_map.1 hp
          obtain ⟨j, hj, rfl⟩ := List.getElem_of_mem hq
          exact HI.out.oks j _ (by have := hp4'.out; omega) (List.getElem?_eq_getElem hj)
        have HB := Lib.hid HI.out.bel
        clear HI
        go_wp2_with fail
        refine bodyPost_ret (v := .tuple #[.agg #[.int .u8 x, .int .u8 y, .int .u8 z, .int .u8 u], .int .i64 E]) (by simp [results, Tryd.results23, go_sem, r0, r1, r2, r3]) rfl ⟨?_, (((HB.out.setCell (Nat.le_refl _) _).setCell (Nat.le_refl _) _).setCell (Nat.le_refl _) _).setCell (Nat.le_refl _) _⟩
        unfold dval
        rw [HE.out]
  · have F := Lib.hid (parse_form (dparse_count hc) ((((hb.setCell (p := ⟨w.heap.size, 0, none⟩) (Nat.le_refl _) (.int .u8 0)).setCell (p := ⟨w.heap.size, 1, none⟩) (Nat.le_refl _) (.int .u8 0)).setCell (p := ⟨w.heap.size, 2, none⟩) (Nat.le_refl _) (.int .u8 0)).setCell (p := ⟨w.heap.size, 3, none⟩) (Nat.le_refl _) (.int .u8 0)))
    have hne : ((ps.length : Int) == 4) = false := by simp; omega
    have t0 := hA0.cell 0 (by decide)
    have t1 := hA0.cell 1 (by decide)
    have t2 := hA0.cell 2 (by decide)
    have t3 := hA0.cell 3 (by decide)
    have hf := hA0.frozen
    clear h1 h3 h4 hA1 hA0 hcut hlen hc e2
    simp at t0 t1 t2 t3
    simp only [World.size_alloc]
    go_wp2_with fail
    exact bodyPost_ret (v := nullv 3) (by simp [nullv, results, Tryd.results23, go_sem, t0, t1, t2, t3]) rfl F.out
end Go.Proofs.YtaicmadeobglfaaDoor
