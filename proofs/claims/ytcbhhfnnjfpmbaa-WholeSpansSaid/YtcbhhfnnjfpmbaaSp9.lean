/-
  SortFunc, SortedFunc, sorted: spans by where they begin.
-/
import Derived.Test.YtcbhhfnnjfpmbaaSp8
namespace Go.Proofs.Ytcbhhfnnjfpmbaa
open Go.RowKit Go.Shelf Go.Lib Go.Sort
set_option linter.unusedVariables false

def encS (x : Sp) : List Value := [.int .i64 x.1, .int .i64 x.2]
def cmpS (x y : Sp) : Int := Lib.compareInt x.1 y.1
theorem ltS (x y : Sp) : ltOf cmpS x y = decide (x.1 < y.1) := by
  unfold ltOf cmpS Lib.compareInt
  by_cases h1 : x.1 < y.1
  · simp [h1]
  · by_cases h2 : y.1 < x.1 <;> simp [h1, h2]
theorem swoS : SWO (ltOf cmpS) where
  irrefl x := by rw [ltS]; simp
  trans x y z h1 h2 := by rw [ltS] at *; simp at *; omega
  ntrans x y z h1 h2 := by rw [ltS] at *; simp at *; omega

set_option maxHeartbeats 1000000 in
theorem scmp_any (x y : Sp) (W : World) : Calls Try.prog 18 #[.agg #[.int .i64 x.1, .int .i64 x.2], .agg #[.int .i64 y.1, .int .i64 y.2]] W fun e w' => e = .returned (.int .i64 (cmpS x y)) ∧ ∃ q os', w' = grow (W.drewN q) os' := by
  have hcon : ∀ W', Calls Try.prog 19 #[.int .i64 x.1, .int .i64 y.1] W' fun e w' => e = .returned (.int .i64 (cmpS x y)) ∧ w' = W' := fun W' => AnyG.cmp_Compare_int laysCmpInt x.1 y.1 W'
  generalize cmpS x y = r at hcon ⊢
  go_enter Try.func18, Try.ntmps18
  go_wp2_with (go_at_call 19; refine (hcon _).mono ?_; rintro e w' ⟨rfl, rfl⟩)
  go_ret
  exact ⟨rfl, 0, _, by rw [alloc_eq_grow, alloc_eq_grow, grow_grow]; rfl⟩

/-! ### cells of a sorted row -/
theorem flatS (d : Array Sp) : (flatK encS 2 d).toList = scells d.toList := by
  apply List.ext_getElem?
  intro t
  by_cases h : t < d.size * 2
  · have e1 : (flatK encS 2 d).toList[t]? = some ((flatK encS 2 d)[t]!) := by
      rw [Array.getElem?_toList, Array.getElem?_eq_getElem (by simpa using h), getElem!_pos _ _ (by simpa using h)]
    have hi : t / 2 < d.toList.length := by simp; omega
    have hs := scells_at hi
    have eg : d[t / 2]! = d.toList.getD (t / 2) (0, 0) := by
      rw [getElem!_pos _ _ (by simpa using hi), List.getD_eq_getElem?_getD, List.getElem?_eq_getElem hi]
      simp
    rw [e1, get_flatK _ _ _ _ h, eg]
    rcases Nat.mod_two_eq_zero_or_one t with h0 | h0
    · have : t = t / 2 * 2 := by omega
      rw [h0]
      conv => rhs; rw [this, hs.1]
      rfl
    · have : t = t / 2 * 2 + 1 := by omega
      rw [h0]
      conv => rhs; rw [this, hs.2]
      rfl
  · rw [List.getElem?_eq_none (by simp; omega), List.getElem?_eq_none (by rw [scells_length]; simp; omega)]
theorem holdsK_block {w : World} {g : Nat} {cur : Array Value} {e : TypeId} {L : List Sp} (hb : w.heap[g]? = some (.cells cur e (0, 0))) (ht : cur.toList.take (L.length * 2) = scells L) : HoldsK encS 2 w g 0 L.toArray := by
  intro j hj
  have hj2 : j < L.length * 2 := by simpa using hj
  have e1 : cur[j]? = (scells L)[j]? := by rw [← ht, List.getElem?_take_of_lt hj2, Array.getElem?_toList]
  have e2 : (scells L)[j]? = some ((flatK encS 2 L.toArray)[j]!) := by
    have := flatS L.toArray
    rw [show L.toArray.toList = L from rfl] at this
    rw [← this, Array.getElem?_toList, Array.getElem?_eq_getElem (by simpa using hj2), getElem!_pos _ _ (by simpa using hj2)]
  refine ⟨?_, ?_⟩
  · rw [Nat.zero_add, cell_of_row w g j _ _ _ hb, e1, e2]; rfl
  · rw [World.frozen?]; simp [hb]
theorem heap_sortedS {w : World} {g n : Nat} {os : Array Obj} {cur : Array Value} {e : TypeId} {fr : Nat × Nat} (d : Array Sp) (hb : w.heap[g]? = some (.cells cur e fr)) :
    (sortWorldK encS 2 w g 0 n d os).heap[g]? = some (.cells (putCells id 0 (flatK encS 2 d) cur) e fr) := by
  have hg : g < w.heap.size := (Array.getElem?_eq_some_iff.1 hb).1
  unfold sortWorldK putRowK
  rw [heap_grow_old _ _ (by simpa using hg)]
  simp [putRow, mapBlock, Sort.ahead, Array.getElem?_modify, hb, onCells]
theorem grownBy_sortedS {w : World} {g n : Nat} {os : Array Obj} (d : Array Sp) : w.grownBy (sortWorldK encS 2 w g 0 n d os) (some g) := by
  unfold sortWorldK putRowK
  refine ⟨rfl, rfl, rfl, by simp, fun k hk hne => ?_⟩
  rw [heap_grow_old _ _ (by simpa using hk)]
  have : g ≠ k := fun e => hne (by rw [e])
  simp [putRow, mapBlock, Sort.ahead, Array.getElem?_modify, this]
theorem take_putCellsS (cur F : Array Value) (h : F.size ≤ cur.size) : (putCells id 0 F cur).toList.take F.size = F.toList := by
  apply List.ext_getElem?
  intro j
  by_cases hj : j < F.size
  · rw [List.getElem?_take_of_lt hj, Array.getElem?_toList]
    simp [putCells, hj, show j < cur.size by omega]
  · rw [List.getElem?_take_eq_none (by omega), List.getElem?_eq_none (by simp; omega)]

/-- A permutation, by where they begin. -/
structure SortedS (L S : List Sp) : Prop where
  perm : S.Perm L
  up : S.Pairwise fun a b => a.1 ≤ b.1
theorem sortedS_of {L : List Sp} {d' : Array Sp} (hp : PermIn 0 L.length L.toArray d') (hs : SortedIn (ltOf cmpS) 0 L.length d') : SortedS L d'.toList := by
  obtain ⟨h1, _, h3⟩ := hp
  have hd : d'.size = L.length := by simpa using h1
  refine ⟨?_, ?_⟩
  · have e1 : d'.extract 0 L.length = d' := by rw [← hd]; simp
    have e2 : L.toArray.extract 0 L.length = L.toArray := by simp
    rw [e1, e2] at h3
    exact h3
  · rw [List.pairwise_iff_getElem]
    intro i j hi hj hij
    have hi' : i < d'.size := by simpa using hi
    have hj' : j < d'.size := by simpa using hj
    have := hs i j (Nat.zero_le _) hij (by omega)
    rw [ltS, getElem!_pos d' i hi', getElem!_pos d' j hj'] at this
    have := of_decide_eq_false this
    simp only [Array.getElem_toList]
    omega
theorem SortedS.nil : SortedS [] [] := ⟨List.Perm.refl _, List.Pairwise.nil⟩

theorem ssortf_own (B g c n : Nat) (L : List Sp) (w : World) (h : OutSp B w (.slice (some ⟨g, 0, none⟩) n c) L) (hn : L.length = n) (hl : n < 4611686018427387904) :
    Calls Try.prog 32 #[.slice (some ⟨g, 0, none⟩) n c, .func (.func 18) #[] #[]] w fun e w' => e = .returned (.tuple #[]) ∧ ∃ S, SortedS L S ∧ OutSp B w' (.slice (some ⟨g, 0, none⟩) n c) S ∧ w.grownBy w' (some g) := by
  subst hn
  obtain ⟨h1, h2 | ⟨g', cap, cur, hv, hB, hh, h4, h5, hs, ht⟩⟩ := h
  · cases h2.1
  · injection hv with e1 e2 e3
    injection e1 with e1
    injection e1 with e1 _
    subst e1 e3
    have hlt : g < w.heap.size := by
      rcases Nat.lt_or_ge g w.heap.size with hlt | hge
      · exact hlt
      · rw [Array.getElem?_eq_none hge] at hh; cases hh
    have eg : ∀ args w, (callFunc 18 args).run Try.prog w = .ok (.enter 18 args) w := enters_of Try.func18 (by kernel_rfl) rfl
    refine (show Calls Try.prog 32 #[.slice (some ⟨g, 0, none⟩) L.toArray.size c, .func (.func 18) #[] #[]] w _ from AnyQ.slices_SortFunc laysSortSpan 2 Try.isAgg27 Try.sizeOf27 encS (fun _ => rfl) (fun x v hv => by simp [encS] at hv; rcases hv with rfl | rfl <;> rfl) cmpS swoS 18 #[] g 0 c L.toArray w eg (fun _ _ _ _ x y => scmp_any x y _) (holdsK_block hh ht) hlt (by simpa using hl)).mono ?_
    rintro e w' ⟨rfl, d', m, os, hp, hso, rfl⟩
    rw [show L.toArray.size = L.length by simp] at hp hso
    have hS := sortedS_of hp hso
    have hd : d'.toList.length = L.length := hS.perm.length_eq
    have hd2 : d'.size = L.length := by simpa using hd
    refine ⟨rfl, d'.toList, hS, ?_, grownBy_sortedS _⟩
    unfold OutSp
    rw [hd]
    refine ⟨by rw [scells_length, hd], .inr ⟨g, c, _, rfl, hB, heap_sortedS _ hh, h4, h5, by simp [putCells, hs], ?_⟩⟩
    have htk := take_putCellsS cur (flatK encS 2 d') (by rw [size_flatK, hd2, hs]; exact Nat.mul_le_mul_right 2 h4)
    rw [size_flatK, hd2] at htk
    rw [htk, flatS]

theorem ssortedFunc_any (Bn : Nat) (A : Option Addr) (n cap : Nat) (L : List Sp) (w : World) (hn : n ≤ 8796093022207) (hBn : Bn < w.heap.size) (hc : w.cell? ⟨Bn, 0, none⟩ = some (.slice A n cap)) (hA : SpRow w A n L) (h0 : 0 < L.length) :
    Calls Try.prog 16 #[.func (.func 33) #[] #[.pointer (some ⟨Bn, 0, none⟩)], .func (.func 18) #[] #[]] w fun e w' => ∃ v S, e = .returned v ∧ SortedS L S ∧ OutSp w.heap.size w' v S ∧ Below w.heap.size w w' := by
  have C := Lib.hid (collect_any Bn A n cap L w hn hBn hc hA)
  have HL := Lib.hid hA.len
  have HN := Lib.hid hn
  clear hc hA hn
  go_enter Try.func16, Try.ntmps16
  go_wp2_with fail
  refine C.out.mono ?_
  rintro e w1 ⟨v, rfl, ho, hb⟩
  obtain ⟨g, c, rfl, hg1, hg2, hg3, hg4⟩ := ho.block h0
  have CS := Lib.hid (ssortf_own w.heap.size g c L.length L w1 ho rfl (by have := HN.out; have := HL.out; omega))
  have HB := Lib.hid hb
  have HG := Lib.hid hg1
  obtain ⟨m, hm⟩ : ∃ m, m = L.length := ⟨_, rfl⟩
  rw [← hm] at CS ⊢
  clear ho hb hg1 hg2 hg3 hg4 hm h0
  go_wp2_with fail
  refine CS.out.mono ?_
  rintro e w2 ⟨rfl, S, hS, ho, hgr⟩
  have B := Lib.hid (HB.out.grown hgr HB.out.size (fun q hq => by have := Option.some.inj hq; have := HG.out; omega))
  have HS := Lib.hid hS
  have HO := Lib.hid ho
  clear hS ho hgr
  go_wp2_with fail
  go_ret
  exact ⟨_, _, rfl, HS.out, HO.out, B.out⟩
end Go.Proofs.Ytcbhhfnnjfpmbaa
