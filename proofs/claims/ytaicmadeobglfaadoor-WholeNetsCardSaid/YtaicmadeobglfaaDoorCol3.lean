/-
  Arrays of eight groups and of sixteen bytes; the contracts of colons' Group and longestRun.
-/
import Derived.Test.YtaicmadeobglfaaDoorCPlain
import Derived.Test.YtaicmadeobglfaaDoorOwn
import Derived.Deep.MidRow
import Derived.Laws.BitsAllLaws
namespace Go.Proofs.YtaicmadeobglfaaDoor
open Go.RowKit
set_option linter.unusedVariables false

/-- Block g is an array of sixteen bytes. -/
def ArrB (W : World) (g : Nat) (bs : List Nat) : Prop := W.heap[g]? = some (.cells (bcells bs).toArray 22 (0, 0))
theorem ArrB.cell {W : World} {g : Nat} {bs : List Nat} (h : ArrB W g bs) (i : Nat) (hi : i < bs.length) : W.cell? ⟨g, i, none⟩ = some (.int .u8 (bs.getD i 0 : Nat)) := by
  rw [cell_of_row W g i _ _ _ h]
  simp [bcells, hi]
theorem ArrB.frozen {W : World} {g : Nat} {bs : List Nat} (h : ArrB W g bs) (i : Nat) : W.frozen? ⟨g, i, none⟩ = false := frozen_of_row W g i _ _ h
theorem ArrB.lt {W : World} {g : Nat} {bs : List Nat} (h : ArrB W g bs) : g < W.heap.size := by
  rcases Nat.lt_or_ge g W.heap.size with hlt | hge
  · exact hlt
  · unfold ArrB at h; rw [Array.getElem?_eq_none hge] at h; cases h
theorem ArrB.below {W W' : World} {g : Nat} {bs : List Nat} (h : ArrB W g bs) (hb : Below W.heap.size W W') : ArrB W' g bs := (hb.block g h.lt).trans h
theorem ArrB.alloc {W : World} {g : Nat} {bs : List Nat} (h : ArrB W g bs) (o : Obj) : ArrB (W.alloc o) g bs := (Below.heap_alloc W o g h.lt).trans h
theorem ArrB.set {W : World} {g : Nat} {bs : List Nat} (h : ArrB W g bs) (i x : Nat) : ArrB (W.setCell ⟨g, i, none⟩ (.int .u8 (x : Nat))) g (bs.set i x) := by
  have h1 := heap_setCell_same W g i _ _ (.int .u8 (x : Nat)) h
  unfold ArrB
  rw [h1]
  simp [bcells, List.map_set]
theorem ArrB.other {W : World} {g : Nat} {bs : List Nat} (h : ArrB W g bs) (p : Addr) (v : Value) (hp : p.block ≠ g) : ArrB (W.setCell p v) g bs := (heap_setCell_other W p g v (Ne.symm hp)).trans h
theorem arrb_size : (Tryd.prog.info? 22).map (·.size) = some 16 := by kernel_rfl
/-- The load of a whole row, at the list of a plain region's operations. -/
theorem wpList_load_b {ops : Array Oper} {rest : List Oper} {op : Oper} {a : Act} {w : World} {Q : Exit → Act → World → Prop} (hgd : op.guard = none) (x : Operand) (ho : op.op = .load 22 x)
    (g : Nat) (hx : a.eval x = .pointer (some ⟨g, 0, none⟩)) {bs : List Nat} (h : ArrB w g bs) (hl : bs.length = 16) (hk : wpList Tryd.prog ops Q rest (a.put op.dst (.agg (bcells bs).toArray)) w) : wpList Tryd.prog ops Q (op :: rest) a w :=
  wpList_load_mid hgd 22 x ho g 0 hx (bcells bs) _ (fun j v hv => by
    obtain ⟨hj, rfl⟩ := bcells_get hv
    rw [Nat.zero_add]
    exact h.cell j hj) Tryd.underlying22 rfl (by rw [bcells_length, hl]; exact arrb_size) hk

def hcells (gs : List Nat) : List Value := gs.map fun x => Value.int .u16 (x : Nat)
theorem hcells_length (gs : List Nat) : (hcells gs).length = gs.length := by simp [hcells]
theorem hcells_get {gs : List Nat} {j : Nat} {v : Value} (h : (hcells gs)[j]? = some v) : j < gs.length ∧ v = .int .u16 (gs.getD j 0 : Nat) := by
  have hj : j < gs.length := by
    rcases Nat.lt_or_ge j gs.length with hj | hj
    · exact hj
    · rw [List.getElem?_eq_none (by rw [hcells_length]; exact hj)] at h; cases h
  refine ⟨hj, ?_⟩
  simp only [hcells, List.getElem?_map, List.getElem?_eq_getElem hj, Option.map_some] at h
  rw [List.getD_eq_getElem?_getD, List.getElem?_eq_getElem hj]
  injection h with h
  exact h.symm
/-- Block g is an array of eight groups. -/
def ArrH (W : World) (g : Nat) (gs : List Nat) : Prop := W.heap[g]? = some (.cells (hcells gs).toArray 60 (0, 0))
theorem ArrH.cell {W : World} {g : Nat} {gs : List Nat} (h : ArrH W g gs) (i : Nat) (hi : i < gs.length) : W.cell? ⟨g, i, none⟩ = some (.int .u16 (gs.getD i 0 : Nat)) := by
  rw [cell_of_row W g i _ _ _ h]
  simp [hcells, hi]
theorem ArrH.frozen {W : World} {g : Nat} {gs : List Nat} (h : ArrH W g gs) (i : Nat) : W.frozen? ⟨g, i, none⟩ = false := frozen_of_row W g i _ _ h
theorem ArrH.lt {W : World} {g : Nat} {gs : List Nat} (h : ArrH W g gs) : g < W.heap.size := by
  rcases Nat.lt_or_ge g W.heap.size with hlt | hge
  · exact hlt
  · unfold ArrH at h; rw [Array.getElem?_eq_none hge] at h; cases h
theorem ArrH.below {W W' : World} {g : Nat} {gs : List Nat} (h : ArrH W g gs) (hb : Below W.heap.size W W') : ArrH W' g gs := (hb.block g h.lt).trans h
theorem ArrH.alloc {W : World} {g : Nat} {gs : List Nat} (h : ArrH W g gs) (o : Obj) : ArrH (W.alloc o) g gs := (Below.heap_alloc W o g h.lt).trans h
theorem ArrH.set {W : World} {g : Nat} {gs : List Nat} (h : ArrH W g gs) (i x : Nat) : ArrH (W.setCell ⟨g, i, none⟩ (.int .u16 (x : Nat))) g (gs.set i x) := by
  have h1 := heap_setCell_same W g i _ _ (.int .u16 (x : Nat)) h
  unfold ArrH
  rw [h1]
  simp [hcells, List.map_set]
theorem ArrH.other {W : World} {g : Nat} {gs : List Nat} (h : ArrH W g gs) (p : Addr) (v : Value) (hp : p.block ≠ g) : ArrH (W.setCell p v) g gs := (heap_setCell_other W p g v (Ne.symm hp)).trans h
theorem arrh_size : (Tryd.prog.info? 60).map (·.size) = some 8 := by kernel_rfl
theorem wpList_load_h {ops : Array Oper} {rest : List Oper} {op : Oper} {a : Act} {w : World} {Q : Exit → Act → World → Prop} (hgd : op.guard = none) (x : Operand) (ho : op.op = .load 60 x)
    (g : Nat) (hx : a.eval x = .pointer (some ⟨g, 0, none⟩)) {gs : List Nat} (h : ArrH w g gs) (hl : gs.length = 8) (hk : wpList Tryd.prog ops Q rest (a.put op.dst (.agg (hcells gs).toArray)) w) : wpList Tryd.prog ops Q (op :: rest) a w :=
  wpList_load_mid hgd 60 x ho g 0 hx (hcells gs) _ (fun j v hv => by
    obtain ⟨hj, rfl⟩ := hcells_get hv
    rw [Nat.zero_add]
    exact h.cell j hj) Tryd.underlying60 rfl (by rw [hcells_length, hl]; exact arrh_size) hk

/-! Group -/
def grp (X : List Nat) (k : Nat) : Nat := X.getD (2 * k) 0 * 256 + X.getD (2 * k + 1) 0
theorem getD_byte {X : List Nat} (bX : ∀ x ∈ X, x < 256) (i : Nat) : X.getD i 0 < 256 := by
  rcases Nat.lt_or_ge i X.length with h | h
  · rw [List.getD_eq_getElem?_getD, List.getElem?_eq_getElem h]
    exact bX _ (List.getElem_mem h)
  · rw [List.getD_eq_getElem?_getD, List.getElem?_eq_none h]
    decide
theorem grp_lt {X : List Nat} (bX : ∀ x ∈ X, x < 256) (k : Nat) : grp X k < 65536 := by
  have h1 := getD_byte bX (2 * k)
  have h2 := getD_byte bX (2 * k + 1)
  unfold grp
  omega
theorem or8_u16 (a b : Nat) (ha : a < 256) (hb : b < 256) : bits .or .u16 ((a : Int) * 256) (b : Int) = ((a * 256 + b : Nat) : Int) := by
  have h := u16_or_nat (a * 256) b (by omega) (by omega)
  rw [nat_join 8 (a * 256) b (by omega) (by omega)] at h
  simpa using h
set_option maxHeartbeats 800000 in
theorem cgroup_in (X : List Nat) (k : Nat) (w : World) (hX : X.length = 16) (bX : ∀ x ∈ X, x < 256) (hk : k < 8) :
    Calls Tryd.prog 26 #[.agg (bcells X).toArray, .int .i64 k] w fun e w' => e = .returned (.int .u16 (grp X k : Nat)) ∧ Below w.heap.size w w' := by
  have hs : (bcells X).length = 16 := by rw [bcells_length, hX]
  have HA : Hid (ArrB (w.alloc (.cells (bcells X).toArray 22)) w.heap.size X) := heap_alloc_new w _
  obtain ⟨m, hm⟩ : ∃ m, m = 2 * k := ⟨_, rfl⟩
  obtain ⟨x, hx⟩ : ∃ x, x = X.getD m 0 := ⟨_, rfl⟩
  obtain ⟨y, hy⟩ : ∃ y, y = X.getD (m + 1) 0 := ⟨_, rfl⟩
  have bx : x < 256 := by rw [hx]; exact getD_byte bX _
  have by' : y < 256 := by rw [hy]; exact getD_byte bX _
  have E : Hid (grp X k = x * 256 + y) := by show _ = _; rw [hx, hy, hm]; rfl
  have c0 := HA.out.cell m (by omega)
  have c1 := HA.out.cell (m + 1) (by omega)
  rw [← hx] at c0
  rw [← hy] at c1
  have q1 : IntKind.i64.wrap (2 * (k : Int)) = (m : Int) := by rw [show (2 * (k : Int)) = (m : Int) by omega]; exact IntWalk.i64_in _ ⟨by omega, by omega⟩
  have q2 : IntKind.i64.wrap ((m : Int) + 1) = (m : Int) + 1 := IntWalk.i64_in _ ⟨by omega, by omega⟩
  have q3 : IntKind.u16.wrap ((x : Int) * 256) = (x : Int) * 256 := by show ((x : Int) * 256) % 65536 = _; omega
  have q4 : IntKind.u16.wrap (x : Int) = (x : Int) := by show (x : Int) % 65536 = _; omega
  have q5 : IntKind.u16.wrap (y : Int) = (y : Int) := by show (y : Int) % 65536 = _; omega
  have q6 := or8_u16 x y bx by'
  have m15 : (m : Int) + 1 < 16 := by omega
  have m14 : (m : Int) < 16 := by omega
  have k0 : ¬ ((k : Int) < 0) := by omega
  have k8 : ¬ ((k : Int) ≥ 8) := by omega
  clear hm hx hy bX bx by'
  go_enter Tryd.func26, Tryd.ntmps26
  go_wp2_with fail
  go_region
  all_goals
    go_wp2_with fail
    go_ret
    exact ⟨by rw [E.out]; simp, ((Below.refl _ _).alloc (Nat.le_refl _) _).drew⟩
theorem cgroup_out (X : List Nat) (i : Int) (w : World) (hX : X.length = 16) (hi : i < 0 ∨ 8 ≤ i) :
    Calls Tryd.prog 26 #[.agg (bcells X).toArray, .int .i64 i] w fun e w' => e = .returned (.int .u16 0) ∧ Below w.heap.size w w' := by
  have hs : (bcells X).length = 16 := by rw [bcells_length, hX]
  rcases hi with h | h
  · go_enter Tryd.func26, Tryd.ntmps26
    go_wp2_with fail
    go_ret
    exact ⟨rfl, (Below.refl _ _).alloc (Nat.le_refl _) _⟩
  · have h0 : ¬ (i < 0) := by omega
    go_enter Tryd.func26, Tryd.ntmps26
    go_wp2_with fail
    go_ret
    exact ⟨rfl, (Below.refl _ _).alloc (Nat.le_refl _) _⟩

/-! longestRun -/
theorem wrap_up {e : Nat} (h : e ≤ 8) : wrap64 ((e : Int) + 1) = ((e + 1 : Nat) : Int) := by
  have h2 : wrap64 ((e : Int) + 1) = (e : Int) + 1 := by unfold wrap64; omega
  rw [h2]
  rfl
theorem wrap_less {e k j : Nat} (h : e = k + j) (h8 : e ≤ 8) : wrap64 ((e : Int) - (k : Int)) = (j : Int) := by
  have h2 : wrap64 ((e : Int) - (k : Int)) = (e : Int) - (k : Int) := by unfold wrap64; omega
  rw [h2]
  omega

theorem zrun_next (gs : List Nat) (i k : Nat) (h : k ≤ zrun (gs.drop i)) :
    (i + k < gs.length → gs.getD (i + k) 0 = 0 → k + 1 ≤ zrun (gs.drop i)) ∧ (i + k < gs.length → gs.getD (i + k) 0 ≠ 0 → k = zrun (gs.drop i)) ∧ (gs.length ≤ i + k → i ≤ gs.length → k = zrun (gs.drop i)) := by
  have hl := zrun_le (gs.drop i)
  rw [List.length_drop] at hl
  have key : ∀ (l : List Nat) (k : Nat), k ≤ zrun l → k < l.length → (l.getD k 0 = 0 → k + 1 ≤ zrun l) ∧ (l.getD k 0 ≠ 0 → k = zrun l) := by
    intro l
    induction l with
    | nil => intro k _ h; simp at h
    | cons g l ih =>
      intro k hk hlt
      cases k with
      | zero =>
        simp only [List.getD_cons_zero, zrun]
        refine ⟨fun e => by rw [if_pos e]; omega, fun e => by rw [if_neg e]⟩
      | succ k =>
        rw [zrun] at hk ⊢
        split at hk
        · rename_i hg
          rw [if_pos hg]
          have := ih k (by omega) (by simpa using hlt)
          simp only [List.getD_cons_succ]
          refine ⟨fun e => by have := this.1 e; omega, fun e => by have := this.2 e; omega⟩
        · omega
  have e : ∀ j, (gs.drop i).getD j 0 = gs.getD (i + j) 0 := by
    intro j
    rw [List.getD_eq_getElem?_getD, List.getD_eq_getElem?_getD, List.getElem?_drop]
  refine ⟨fun h1 h2 => (key _ k h (by rw [List.length_drop]; omega)).1 (by rw [e]; exact h2), fun h1 h2 => (key _ k h (by rw [List.length_drop]; omega)).2 (by rw [e]; exact h2), fun h1 h2 => by omega⟩
theorem best_lt (gs : List Nat) (k : Nat) (hk : k ≤ 8) (hl : gs.length = 8) : (best gs k).1 ≤ 7 ∧ (best gs k).2 ≤ 8 := by
  induction k with
  | zero => exact ⟨Nat.zero_le _, Nat.zero_le _⟩
  | succ k ih =>
    rw [best]
    split
    · have := zrun_le (gs.drop k)
      rw [List.length_drop] at this
      exact ⟨by show k ≤ 7; omega, by show zrun _ ≤ 8; omega⟩
    · exact ih (by omega)

set_option maxHeartbeats 1600000 in
theorem longest_any (gs : List Nat) (w : World) (hl : gs.length = 8) :
    Calls Tryd.prog 27 #[.agg (hcells gs).toArray] w fun e w' => e = .returned (.tuple #[.int .i64 ((best gs 8).1 : Nat), .int .i64 ((best gs 8).2 : Nat)]) ∧ Below w.heap.size w w' := by
  have hs : (hcells gs).length = 8 := by rw [hcells_length, hl]
  have HA : Hid (ArrH (w.alloc (.cells (hcells gs).toArray 60)) w.heap.size gs) := heap_alloc_new w _
  have HB : Hid (Below w.heap.size w (w.alloc (.cells (hcells gs).toArray 60))) := (Below.refl _ _).alloc (Nat.le_refl _) _
  have HL := Lib.hid hl
  clear hl
  go_enter Tryd.func27, Tryd.ntmps27
  go_wp2_with fail
  go_loop [2, 3, 6] (fun a n i => ∃ k A N : Nat, k ≤ 8 ∧ i = .int .i64 k ∧ a = .int .i64 A ∧ n = .int .i64 N ∧ Hid ((A, N) = best gs k) ∧ Hid (A ≤ 7 ∧ N ≤ 8)) (fun _ _ i => 8 - (intOf i).toNat)
  case atStart => exact ⟨0, 0, 0, by decide, rfl, rfl, rfl, rfl, ⟨Nat.zero_le _, Nat.zero_le _⟩⟩
  case round =>
    obtain ⟨k, A, N, hk, rfl, rfl, rfl, HX, HN⟩ := hrel
    by_cases hlt : k < 8
    · go_wp2_with fail
      go_loop [5] (fun i => ∃ j e : Nat, e ≤ 8 ∧ i = .int .i64 e ∧ Hid (e = k + j) ∧ Hid (j ≤ zrun (gs.drop k))) (fun i => 8 - (intOf i).toNat)
      case atStart => exact ⟨0, k, by omega, rfl, rfl, Nat.zero_le _⟩
      case round =>
        obtain ⟨j, e, he, rfl, HE, HJ⟩ := hrel
        have HZ := Lib.hid (zrun_next gs k j HJ.out)
        have wk : wrap64 ((e : Int) + 1) = ((e + 1 : Nat) : Int) := wrap_up he
        by_cases h8 : e < 8
        · have c0 := HA.out.cell e (by rw [HL.out]; exact h8)
          by_cases hz : gs.getD e 0 = 0
          · have HM : Hid (j + 1 ≤ zrun (gs.drop k)) := HZ.out.1 (by rw [← HE.out, HL.out]; exact h8) (by rw [← HE.out]; exact hz)
            rw [hz] at c0
            have h8' : (e : Int) < 8 := by omega
            go_wp2_with fail
            go_round
            case rel => exact ⟨j + 1, e + 1, by omega, rfl, by have := HE.out; exact (by omega : e + 1 = k + (j + 1)), HM.out⟩
            case measure => simp [intOf]; omega
          · have hz' : ((gs.getD e 0 : Nat) : Int) ≠ 0 := by omega
            have hzb : (((gs.getD e 0 : Nat) : Int) == 0) = false := by simpa using hz
            have h8' : (e : Int) < 8 := by omega
            have HQ : Hid (j = zrun (gs.drop k)) := HZ.out.2.1 (by rw [← HE.out, HL.out]; exact h8) (by rw [← HE.out]; exact hz)
            have hN := HN.out.2
            have hj8 : j ≤ 8 := by have := HE.out; omega
            have wd : (e : Int) - (k : Int) = (j : Int) := by have := HE.out; omega
            have wu : wrap64 ((k : Int) + 1) = ((k + 1 : Nat) : Int) := wrap_up hk
            clear hz
            generalize gs.getD e 0 = z at *
            by_cases hlt2 : N < j
            · have hlt3 : (N : Int) < (j : Int) := by omega
              have HX2 : Hid ((k, j) = best gs (k + 1)) := by show _ = _; rw [best, ← HX.out, if_pos (by rw [← HQ.out]; exact hlt2), ← HQ.out]
              go_wp2_with fail
              go_round
              case rel => exact ⟨k + 1, k, j, by omega, rfl, rfl, rfl, HX2.out, ⟨by omega, by omega⟩⟩
              case measure => simp [intOf]; omega
            · have hlt3 : ¬ ((N : Int) < (j : Int)) := by omega
              have HX2 : Hid ((A, N) = best gs (k + 1)) := by show _ = _; rw [best, ← HX.out, if_neg (by rw [← HQ.out]; exact hlt2)]
              go_wp2_with fail
              go_round
              case rel => exact ⟨k + 1, A, N, by omega, rfl, rfl, rfl, HX2.out, HN.out⟩
              case measure => simp [intOf]; omega
        · obtain rfl : e = 8 := by omega
          have HQ : Hid (j = zrun (gs.drop k)) := HZ.out.2.2 (by rw [← HE.out, HL.out]; exact Nat.le_refl _) (by rw [HL.out]; exact hk)
          have hN := HN.out.2
          have hj8 : j ≤ 8 := by have := HE.out; omega
          have wd : 8 - (k : Int) = (j : Int) := by have := HE.out; omega
          have wu : wrap64 ((k : Int) + 1) = ((k + 1 : Nat) : Int) := wrap_up hk
          by_cases hlt2 : N < j
          · have hlt3 : (N : Int) < (j : Int) := by omega
            have HX2 : Hid ((k, j) = best gs (k + 1)) := by show _ = _; rw [best, ← HX.out, if_pos (by rw [← HQ.out]; exact hlt2), ← HQ.out]
            go_wp2_with fail
            go_round
            case rel => exact ⟨k + 1, k, j, by omega, rfl, rfl, rfl, HX2.out, ⟨by omega, by omega⟩⟩
            case measure => simp [intOf]; omega
          · have hlt3 : ¬ ((N : Int) < (j : Int)) := by omega
            have HX2 : Hid ((A, N) = best gs (k + 1)) := by show _ = _; rw [best, ← HX.out, if_neg (by rw [← HQ.out]; exact hlt2)]
            go_wp2_with fail
            go_round
            case rel => exact ⟨k + 1, A, N, by omega, rfl, rfl, rfl, HX2.out, HN.out⟩
            case measure => simp [intOf]; omega
    · obtain rfl : k = 8 := by omega
      have e1 := Lib.hid (show (best gs 8).1 = A by rw [← HX.out])
      have e2 := Lib.hid (show (best gs 8).2 = N by rw [← HX.out])
      go_wp2_with fail
      go_ret2
      exact ⟨by rw [e1.out, e2.out]; rfl, HB.out⟩
end Go.Proofs.YtaicmadeobglfaaDoor
