/-
  bitrow's Text.
-/
import Derived.Test.YtdpncnplbkmgoaaDoorBr15
namespace Go.Proofs.YtdpncnplbkmgoaaDoor
open Go.RowKit Go.Shelf
set_option linter.unusedVariables false
attribute [local go_sem] Oper.semAt_some

set_option maxRecDepth 10000 in
theorem repeat_zero (b : Nat) (w : World) :
    Calls Tryd.prog 40 #[.slice (some ⟨b, 0, none⟩) 1 1, .int .i64 0] w fun e w' => ∃ g, e = .returned (.slice (some ⟨g, 0, none⟩) 0 0) ∧ w.heap.size ≤ g ∧ Zeros w' g 0 0 ∧ Below w.heap.size w w' := by
  go_enter Tryd.func40, Tryd.ntmps40
  go_wp2_with fail
  go_ret
  exact ⟨_, rfl, Nat.le_refl _, ⟨_, heap_alloc_new w _, Nat.zero_le _, fun j hj => absurd hj (Nat.not_lt_zero _)⟩, (Below.refl _ _).alloc (Nat.le_refl _) _⟩
theorem repeat_le (b n : Nat) (w : World) (hn : n ≤ 65536) (hb : w.cell? ⟨b, 0, none⟩ = some (.int .u8 48)) :
    Calls Tryd.prog 40 #[.slice (some ⟨b, 0, none⟩) 1 1, .int .i64 (n : Int)] w fun e w' => ∃ g, e = .returned (.slice (some ⟨g, 0, none⟩) n n) ∧ w.heap.size ≤ g ∧ Zeros w' g n n ∧ Below w.heap.size w w' := by
  rcases Nat.eq_zero_or_pos n with h | h
  · subst h; exact repeat_zero b w
  · exact repeat_any b n w h hn hb

/-- Block g: n digits, 1 where the bit has come. -/
def Marks (W : World) (g n : Nat) (pre : List Nat) : Prop := ∃ cur : Array Value, W.heap[g]? = some (.cells cur 5 (0, 0)) ∧ n ≤ cur.size ∧ ∀ j, j < n → cur[j]? = some (.int .u8 ((if j ∈ pre then 49 else 48 : Nat) : Int))
theorem Marks.start {W : World} {g n : Nat} (h : Zeros W g n n) : Marks W g n [] := by
  obtain ⟨cur, h1, h2, h3⟩ := h
  exact ⟨cur, h1, h2, fun j hj => by rw [h3 j hj]; simp⟩
theorem Marks.cell {W : World} {g n : Nat} {pre : List Nat} (h : Marks W g n pre) (j : Nat) (hj : j < n) : W.cell? ⟨g, j, none⟩ = some (.int .u8 ((if j ∈ pre then 49 else 48 : Nat) : Int)) := by
  obtain ⟨cur, h1, _, h3⟩ := h
  rw [cell_of_row W g j _ _ _ h1]
  exact h3 j hj
theorem Marks.frozen {W : World} {g n : Nat} {pre : List Nat} (h : Marks W g n pre) (j : Nat) : W.frozen? ⟨g, j, none⟩ = false := by
  obtain ⟨cur, h1, _, _⟩ := h
  exact frozen_of_row W g j _ _ h1
theorem Marks.set {W : World} {g n : Nat} {pre : List Nat} (h : Marks W g n pre) (x : Nat) (hx : x < n) : Marks (W.setCell ⟨g, x, none⟩ (.int .u8 49)) g n (pre ++ [x]) := by
  obtain ⟨cur, h1, h2, h3⟩ := h
  refine ⟨_, heap_setCell_same W g x _ _ (.int .u8 49) h1, by simp; omega, fun j hj => ?_⟩
  rw [Array.getElem?_setIfInBounds]
  by_cases hjx : x = j
  · subst hjx
    rw [if_pos rfl, if_pos (by omega)]
    simp
  · rw [if_neg hjx, h3 j hj]
    have : ¬ j = x := fun e => hjx e.symm
    simp [this]
theorem Marks.kept {W W' : World} {g n : Nat} {pre : List Nat} (h : Marks W g n pre) (hh : W'.heap[g]? = W.heap[g]?) : Marks W' g n pre := by
  obtain ⟨cur, h1, h2, h3⟩ := h
  exact ⟨cur, hh.trans h1, h2, h3⟩
theorem marks_own (g n : Nat) : Go.Own (fun (pre : List Nat) W => Marks W g n pre) := by
  rintro s X Y row ⟨cur, h1, h2, h3⟩ hg hr
  refine ⟨cur, (hg.block g ?_ fun e => ?_).trans h1, h2, h3⟩
  · rcases Nat.lt_or_ge g X.heap.size with hlt | hge
    · exact hlt
    · rw [Array.getElem?_eq_none hge] at h1; cases h1
  · obtain ⟨o, ho, hc⟩ := hr g e.symm
    rw [h1] at ho; cases ho; cases hc
theorem Marks.row {W : World} {g n : Nat} {pre xs : List Nat} (h : Marks W g n pre) (hp : ∀ j, j < n → (j ∈ pre ↔ tb xs j = true)) : Row W (some ⟨g, 0, none⟩) n (digs01 xs n) := by
  refine Row.mk (digs01_length _ _) (digs01_byte _ _) fun j hj => ?_
  rw [Nat.zero_add, h.cell j hj]
  have e : (digs01 xs n).getD j 0 = if tb xs j then 49 else 48 := by
    unfold digs01
    rw [getD_range _ _ _ hj]
  rw [e]
  congr 3
  have := hp j hj
  by_cases hb : tb xs j = true
  · rw [if_pos (this.2 hb), if_pos hb]
  · rw [if_neg (fun hm => hb (this.1 hm)), if_neg hb]

theorem brtext_out (A : Option Addr) (len cap : Nat) (xs : List Nat) (n : Int) (w : World) (h : n < 0 ∨ 65536 < n) :
    Calls Tryd.prog 29 #[.slice A len cap, .int .i64 n] w fun e w' => e = .returned (.string (txt xs n)) ∧ Below w.heap.size w w' := by
  rw [txt_out h]
  by_cases h1 : n < 0
  · clear h
    go_enter Tryd.func29, Tryd.ntmps29
    go_wp2_with fail
    go_ret
    exact ⟨rfl, (Below.refl _ _).alloc (Nat.le_refl _) _⟩
  · have h2 : 65536 < n := by omega
    clear h
    go_enter Tryd.func29, Tryd.ntmps29
    go_wp2_with fail
    go_ret
    exact ⟨rfl, (Below.refl _ _).alloc (Nat.le_refl _) _⟩

set_option maxRecDepth 100000 in
set_option maxHeartbeats 2000000 in
theorem brtext_in (A : Option Addr) (len cap n : Nat) (xs : List Nat) (w : World) (hl : len ≤ 1000) (hn : n ≤ 65536) (hT : Bru w) (hA : RowU w A len xs) :
    Calls Tryd.prog 29 #[.slice A len cap, .int .i64 (n : Int)] w fun e w' => e = .returned (.string (txt xs (n : Int))) ∧ Below w.heap.size w w' := by
  rw [txt_nat hn]
  have hlen := hA.len
  have hni : (n : Int) ≤ 65536 := by omega
  have CR := Lib.hid (fun (w : World) b (hb : w.cell? ⟨b, 0, none⟩ = some (.int .u8 48)) => repeat_le b n w hn hb)
  refine (callsIn_wide (n := 5)).1 ?_
  refine callsIn_of_wp_marks Tryd.func29 rfl trivial ?_ rfl
  simp only [Tryd.ntmps29, List.size_toArray, List.length_cons, List.length_nil, Nat.reduceAdd, Nat.reduceSub, Array.replicate_succ, Array.replicate_zero, List.push_toArray, List.append_toArray, List.nil_append, List.cons_append]
  have bN := Boxed.new w 3 (.int .i64 (n : Int))
  have hcn := bN.cell
  have hc48 : ((w.alloc (.cells #[.int .i64 (n : Int)] 3)).alloc (.cells #[.int .u8 48] 5)).cell? ⟨w.heap.size + 1, 0, none⟩ = some (.int .u8 48) := by
    rw [cell_of_row _ (w.heap.size + 1) 0 _ _ _ (by have := heap_alloc_new (w.alloc (.cells #[.int .i64 (n : Int)] 3)) (.cells #[.int .u8 48] 5); rw [World.size_alloc] at this; exact this)]
    rfl
  have bN2 := bN.alloc (.cells #[.int .u8 48] 5)
  have hcn2 := bN2.cell
  gi_wp2_with (refine ⟨trivial, ?_⟩; gi_at_call 40; refine (callsIn_wide.2 (CR.out _ _ hc48)).mono ?_; rintro e w2 ⟨g, rfl, hg, hz, hb2⟩)
  refine ⟨trivial, ?_⟩
  refine (ones_in _ _ _ _).mono ?_
  rintro e w' ⟨rfl, rfl⟩
  clear hcn hcn2
  gi_wp2
  rw [World.size_alloc, World.size_alloc] at hg
  have hlt2 : w.heap.size + 2 ≤ w2.heap.size := by have := hb2.size; rw [World.size_alloc, World.size_alloc] at this; omega
  have hgl : g < w2.heap.size := by
    obtain ⟨cur, h1, _, _⟩ := hz
    rcases Nat.lt_or_ge g w2.heap.size with h | h
    · exact h
    · rw [Array.getElem?_eq_none h] at h1; cases h1
  have bNV : Boxed ((w2.alloc (.cells #[.slice (some ⟨g, 0, none⟩) n n] 54)).alloc (.cells #[.slice A len cap] 22)) w.heap.size 3 (.int .i64 (n : Int)) :=
    (Boxed.alloc ((hb2.block w.heap.size (by rw [World.size_alloc, World.size_alloc]; omega)).trans bN2) _).alloc _
  have bDV : Boxed ((w2.alloc (.cells #[.slice (some ⟨g, 0, none⟩) n n] 54)).alloc (.cells #[.slice A len cap] 22)) w2.heap.size 54 (.slice (some ⟨g, 0, none⟩) n n) := (Boxed.new w2 _ _).alloc _
  have bRV := Boxed.new (w2.alloc (.cells #[.slice (some ⟨g, 0, none⟩) n n] 54)) 22 (.slice A len cap)
  rw [World.size_alloc] at bRV
  have hMV : Marks ((w2.alloc (.cells #[.slice (some ⟨g, 0, none⟩) n n] 54)).alloc (.cells #[.slice A len cap] 22)) g n [] :=
    (Marks.start hz).kept ((Below.heap_alloc _ _ g (by rw [World.size_alloc]; omega)).trans (Below.heap_alloc w2 _ g hgl))
  have hB2 : Below w.heap.size w w2 := below_al2 hb2
  have hBV : Below w.heap.size w ((w2.alloc (.cells #[.slice (some ⟨g, 0, none⟩) n n] 54)).alloc (.cells #[.slice A len cap] 22)) := (hB2.alloc (by omega) _).alloc (by rw [World.size_alloc]; omega) _
  have hsz : ((w2.alloc (.cells #[.slice (some ⟨g, 0, none⟩) n n] 54)).alloc (.cells #[.slice A len cap] 22)).heap.size = w2.heap.size + 2 := by simp
  obtain ⟨V, hV⟩ : ∃ V, V = ((w2.alloc (.cells #[.slice (some ⟨g, 0, none⟩) n n] 54)).alloc (.cells #[.slice A len cap] 22)) := ⟨_, rfl⟩
  rw [← hV] at bNV bDV bRV hMV hBV hsz ⊢
  have hA2 := hA.below hBV
  have hT2 := hT.below hBV
  have hAlt : ∀ b o, A = some ⟨b, o, none⟩ → 0 < len → b < w.heap.size := fun b o e h0 => by
    obtain ⟨b', o', e', hb', _⟩ := hA.addr h0
    rw [e] at e'
    injection e' with e'
    injection e' with e1 e2
    omega
  have HG := Lib.hid hT.glob
  refine wpIn_rangeFunc_ownF rfl (by omega) (gf := 43) (lb := #[.pointer (some ⟨w2.heap.size + 1, 0, none⟩)]) rfl trivial (enters_of Tryd.func43 (by kernel_rfl) rfl)
    (ones_stops (w2.heap.size + 1) w.heap.size A len cap xs (by omega) V (by omega) (by omega) HG.out hT2 bRV.cell hA2 hAlt) KB.trans
    (fun W l o o' hl h hc hw => ⟨belowK_b (w := V) (by omega) W l o o' hl h hc hw, World.putObj_heap_other (by omega)⟩) (Below.refl _ _) (fun _ => rfl)
    (fun pre W => Boxed W w.heap.size 3 (.int .i64 (n : Int)) ∧ Boxed W w2.heap.size 54 (.slice (some ⟨g, 0, none⟩) n n) ∧ Marks W g n pre ∧ Below w.heap.size w W)
    (fun c pre W => (c = .exit 0 ∧ ∃ p0 x, pre = p0 ++ [x] ∧ n ≤ x ∧ Marks W g n p0) ∧ Boxed W w2.heap.size 54 (.slice (some ⟨g, 0, none⟩) n n) ∧ Below w.heap.size w W)
    (OwnFrom.and (Own.from (boxed_own w.heap.size 3 (fun _ => .int .i64 (n : Int))) _) (OwnFrom.and (Own.from (boxed_own w2.heap.size 54 (fun _ => .slice (some ⟨g, 0, none⟩) n n)) _) (OwnFrom.and (Own.from (marks_own g n) _) (ownFrom_below (Nat.le_refl _) (by omega)))))
    (fun c => OwnFrom.and (Own.from (fun s A B row hs hg hr => by obtain ⟨h1, p0, x, h2, h3, h4⟩ := hs; exact ⟨h1, p0, x, h2, h3, marks_own g n p0 A B row h4 hg hr⟩) _) (OwnFrom.and (Own.from (boxed_own w2.heap.size 54 (fun _ => .slice (some ⟨g, 0, none⟩) n n)) _) (ownFrom_below (Nat.le_refl _) (by omega))))
    ⟨bNV, bDV, hMV, hBV⟩
    (fun x => { tmps := #[.slice A len cap, .int .i64 (n : Int), undef, .pointer (some ⟨w.heap.size, 0, none⟩), .string { data := #[] }, .pointer (some ⟨w2.heap.size, 0, none⟩), .int .i64 (x : Int), .int .i64 (n : Int), .bool (decide ((n : Int) < 0)), .bool (decide ((n : Int) < 0)), .int .i64 (n : Int), .bool (decide ((65536 : Int) < (n : Int))), .bool (decide ((n : Int) < 0) || decide ((65536 : Int) < (n : Int))), .slice (some ⟨w.heap.size + 1, 0, none⟩) 1 1, .int .i64 (n : Int), .slice (some ⟨g, 0, none⟩) n n, .slice A len cap, .func (.func 43) #[] #[.pointer (some ⟨w2.heap.size + 1, 0, none⟩)], .int .i64 (x : Int), undef, undef, undef, undef, undef, undef, undef, undef], defers := [] }) ?assign ?body ?done ?stop
  case assign =>
    intro l x W K hK
    gi_wp2
    exact hK
  case body =>
    rintro l pre x W ⟨hbn, hbd, hM, hB⟩ hlt
    have hc1 := hbn.cell
    have hc2 := hbd.cell
    clear hT hA hT2 hA2 hAlt bNV bDV bRV hMV hBV
    by_cases hx : n ≤ x
    · gi_wp2
      exact ⟨KeepsOthers.refl _, ⟨rfl, pre, x, rfl, hx, hM⟩, hbd, hB⟩
    · have hx2 : x < n := by omega
      have hc3 := hM.cell x hx2
      have hf3 := hM.frozen x
      gi_wp2
      have o1 : ∀ k, k ≠ g → (W.setCell ⟨g, x, none⟩ (.int .u8 49)).heap[k]? = W.heap[k]? := fun k hk => heap_setCell_other W _ _ _ hk
      exact ⟨KeepsOthers.setCell _ _ _, ⟨(Below.refl w.heap.size W).setCell (p := ⟨g, x, none⟩) (by show w.heap.size ≤ g; omega) _, o1 _ (by omega)⟩, (o1 _ (by omega)).trans hbn, (o1 _ (by omega)).trans hbd, hM.set x hx2, hB.setCell (p := ⟨g, x, none⟩) (by show w.heap.size ≤ g; omega) _⟩
  case done =>
    rintro D ys W hD rfl ⟨hbn, hbd, hM, hB⟩ hK
    have hc2 := hbd.cell
    have hconv := conv_str (c := n) (hM.row (xs := xs) (fun j hj => by
      rw [mem_upTo]
      constructor
      · exact fun h => h.2
      · intro h
        refine ⟨?_, h⟩
        rcases Nat.lt_or_ge j (64 * len) with h1 | h1
        · exact h1
        · rw [tb_beyond (by rw [hlen]; exact h1)] at h; cases h))
    gi_wp2
    refine ⟨by simp, .inl ⟨_, _, rfl, run_takeDeferred hK, ?_⟩⟩
    exact ⟨_, results_tmp rfl _ _ _, rfl, hB.trans (belowK_b (w := w) (Nat.le_refl _) W D _ _ (by omega) hK rfl rfl)⟩
  case stop =>
    rintro D c pre W hD ⟨p, hp, hpre⟩ ⟨⟨rfl, p0, x, rfl, hx, hM⟩, hbd, hB⟩ hK
    have hc2 := hbd.cell
    have hconv := conv_str (c := n) (hM.row (xs := xs) (fun j hj => by
      have h1 : j ∈ p0 ++ [x] ↔ j ∈ p0 := by
        rw [List.mem_append]
        constructor
        · rintro (h | h)
          · exact h
          · simp at h; omega
        · exact Or.inl
      have hxp : x < p := by
        have : x ∈ upTo xs p := by rw [← hpre]; simp
        exact (mem_upTo.1 this).1
      rw [← h1, hpre, mem_upTo]
      constructor
      · exact fun h => h.2
      · exact fun h => ⟨by omega, h⟩))
    gi_wp2
    refine ⟨by simp, .inl ⟨_, _, rfl, run_takeDeferred hK, ?_⟩⟩
    exact ⟨_, results_tmp rfl _ _ _, rfl, hB.trans (belowK_b (w := w) (Nat.le_refl _) W D _ _ (by omega) hK rfl rfl)⟩
end Go.Proofs.YtdpncnplbkmgoaaDoor
