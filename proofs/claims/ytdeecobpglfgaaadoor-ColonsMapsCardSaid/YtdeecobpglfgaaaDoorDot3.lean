/-
  Contracts of dotted's Num, Of, Next, private and Sort.
-/
import Derived.Test.YtdeecobpglfgaaaDoorDot2
import Derived.Laws.BitsAllLaws
import Derived.ChangeKeysEq
namespace Go.Proofs.YtdeecobpglfgaaaDoor
open Go.RowKit
set_option linter.unusedVariables false

def quad (a b c d : Nat) : Value := .agg #[.int .u8 a, .int .u8 b, .int .u8 c, .int .u8 d]
def dnum (a b c d : Nat) : Nat := a * 16777216 + b * 65536 + c * 256 + d
theorem dnum_le {a b c d : Nat} (ha : a ≤ 255) (hb : b ≤ 255) (hc : c ≤ 255) (hd : d ≤ 255) : dnum a b c d ≤ 4294967295 := by unfold dnum; omega
theorem idx4 (a b c d k : Nat) (hk : k < 4) (w : World) : (Instr.index 22 (.agg #[.int .u8 a, .int .u8 b, .int .u8 c, .int .u8 d]) (.int .i64 (k : Int))).run Tryd.prog w = .ok (.int .u8 (([a, b, c, d].getD k 0 : Nat) : Int)) w := by
  match k, hk with
  | 0, _ => simp [Instr.index, run_underlying Tryd.underlying22, asIntOf, go_sem]
  | 1, _ => simp [Instr.index, run_underlying Tryd.underlying22, asIntOf, go_sem]
  | 2, _ => simp [Instr.index, run_underlying Tryd.underlying22, asIntOf, go_sem]
  | 3, _ => simp [Instr.index, run_underlying Tryd.underlying22, asIntOf, go_sem]
theorem or8_u32 (a b : Nat) (ha : a < 16777216) (hb : b < 256) : bits .or .u32 ((a : Int) * 256) (b : Int) = ((a * 256 + b : Nat) : Int) := by
  have h := u32_or_nat (a * 256) b (by omega) (by omega)
  rw [nat_join 8 (a * 256) b (by omega) (by omega)] at h
  simpa using h
theorem be_four (a b c d : Nat) : be [a, b, c, d] = dnum a b c d := by simp [be, dnum]; omega

theorem dnum_any (a b c d : Nat) (w : World) (ha : a ≤ 255) (hb : b ≤ 255) (hc : c ≤ 255) (hd : d ≤ 255) :
    Calls Tryd.prog 18 #[quad a b c d] w fun e w' => e = .returned (.int .u32 (dnum a b c d : Nat)) ∧ Below w.heap.size w w' := by
  have hby : Hid (∀ x ∈ [a, b, c, d], x < 256) := by
    intro x hx
    simp only [List.mem_cons, List.not_mem_nil, or_false] at hx
    omega
  unfold quad
  go_enter Tryd.func18, Tryd.ntmps18
  go_wp2_with fail
  go_loop [3, 7] (fun v i => ∃ k q : Nat, k ≤ 4 ∧ i = .int .i64 k ∧ v = .int .u32 (q : Nat) ∧ Hid (q = be ([a, b, c, d].take k))) (fun _ i => 4 - (intOf i).toNat)
  case atStart => exact ⟨0, 0, Nat.zero_le _, rfl, rfl, rfl⟩
  case round =>
    obtain ⟨k, q, hk, rfl, rfl, HQ⟩ := hrel
    by_cases hlt : k < 4
    · have hix := idx4 a b c d k hlt
      have hx : [a, b, c, d].getD k 0 < 256 := by
        rw [List.getD_eq_getElem?_getD, List.getElem?_eq_getElem (by exact hlt)]
        exact hby.out _ (List.getElem_mem _)
      have hq : q < 16777216 := by
        have h1 := be_lt ([a, b, c, d].take k) (mem_take hby.out)
        rw [← HQ.out, List.length_take] at h1
        have h2 : 256 ^ min k [a, b, c, d].length ≤ 256 ^ 3 := Nat.pow_le_pow_right (by decide) (by simp; omega)
        omega
      have hst := Lib.hid (be_step [a, b, c, d] k hlt)
      obtain ⟨x, hxe⟩ : ∃ x, [a, b, c, d].getD k 0 = x := ⟨_, rfl⟩
      rw [hxe] at hix hx
      have HXE := Lib.hid hxe
      clear hxe
      have hor := or8_u32 q x hq hx
      have hw : IntKind.u32.wrap ((q : Int) * 256) = (q : Int) * 256 := IntWalk.u32_in _ ⟨by omega, by omega⟩
      go_wp2_with fail
      go_round
      case rel => exact ⟨k + 1, q * 256 + x, by omega, by go_num, by go_num, by show _ = _; rw [hst.out, HQ.out, HXE.out]⟩
      case measure => simp [intOf]; omega
    · obtain rfl : k = 4 := by omega
      have e : q = dnum a b c d := by rw [HQ.out]; exact be_four a b c d
      have E := Lib.hid e
      clear e
      go_wp2_with fail
      go_ret
      exact ⟨by rw [← E.out]; rfl, (Below.refl _ _).alloc (Nat.le_refl _) _⟩

theorem dof_any (n : Nat) (w : World) (hn : n ≤ 4294967295) :
    Calls Tryd.prog 20 #[.int .u32 n] w fun e w' => e = .returned (quad (n / 16777216 % 256) (n / 65536 % 256) (n / 256 % 256) (n % 256)) ∧ Below w.heap.size w w' := by
  obtain ⟨x0, h0⟩ : ∃ x, x = n / 16777216 % 256 := ⟨_, rfl⟩
  obtain ⟨x1, h1⟩ : ∃ x, x = n / 65536 % 256 := ⟨_, rfl⟩
  obtain ⟨x2, h2⟩ : ∃ x, x = n / 256 % 256 := ⟨_, rfl⟩
  obtain ⟨x3, h3⟩ : ∃ x, x = n % 256 := ⟨_, rfl⟩
  rw [← h0, ← h1, ← h2, ← h3]
  have w0 : IntKind.u8.wrap ((n : Int) / 16777216) = (x0 : Int) := by show ((n : Int) / 16777216) % 256 = _; omega
  have w1 : IntKind.u8.wrap ((n : Int) / 65536) = (x1 : Int) := by show ((n : Int) / 65536) % 256 = _; omega
  have w2 : IntKind.u8.wrap ((n : Int) / 256) = (x2 : Int) := by show ((n : Int) / 256) % 256 = _; omega
  have w3 : IntKind.u8.wrap (n : Int) = (x3 : Int) := by show (n : Int) % 256 = _; omega
  clear h0 h1 h2 h3
  go_enter Tryd.func20, Tryd.ntmps20
  go_wp2_with fail
  exact bodyPost_ret (v := quad x0 x1 x2 x3) (by simp [quad, results, Tryd.results20, go_sem]) rfl ⟨rfl, (Below.refl _ _).alloc (Nat.le_refl _) _⟩

/-- Two addresses are the same. -/
def same4 (a b c d x y z u : Int) : Bool := a == x && b == y && c == z && d == u
theorem u8_type : ∃ i, Tryd.prog.info? 5 = some i := by
  cases h : Tryd.prog.info? 5 with
  | some i => exact ⟨i, rfl⟩
  | none =>
    have e := u8_info
    rw [h] at e
    cases e
/-- Rows of bytes are compared cell by cell. -/
theorem items_ints (P : Program) (e : TypeId) (hp : P.plainKey e = true) (hu : P.underlying e = some (.int .u8)) (d : Nat) (xs ys : List Int) (w : World) :
    ∀ is : List Nat, (∀ i ∈ is, i < xs.length ∧ i < ys.length) → (Op.eqItems (d + 1) e 1 (xs.map (Value.int .u8)).toArray (ys.map (Value.int .u8)).toArray is).run P w = .ok (is.all fun i => xs.getD i 0 == ys.getD i 0) w := by
  intro is
  induction is with
  | nil => intro _; simp [Op.eqItems]
  | cons i is ih =>
    intro h
    have h0 := h i (List.mem_cons_self ..)
    have h1 := run_part_plain (P := P) (w := w) hp (xs := (xs.map (Value.int .u8)).toArray) (off := i) (v := .int .u8 (xs.getD i 0)) (by simp [h0.1])
    have h2 := run_part_plain (P := P) (w := w) hp (xs := (ys.map (Value.int .u8)).toArray) (off := i) (v := .int .u8 (ys.getD i 0)) (by simp [h0.2])
    have h3 := run_equalIn_int (P := P) w d e .u8 .u8 (xs.getD i 0) (ys.getD i 0) hu
    have h4 := ih (fun j hj => h j (List.mem_cons_of_mem _ hj))
    simp only [Op.eqItems, Sem.run_bind, Nat.mul_one, h1, h2, h3, Result.andThen_ok, List.all_cons]
    cases xs.getD i 0 == ys.getD i 0
    · simp
    · simpa using h4
theorem u8_plain : Tryd.prog.plainKey 5 = true := by kernel_rfl
theorem u8_cells : Tryd.prog.cellsOf 5 = 1 := by kernel_rfl
/-- Arrays of n bytes are the same where all are. -/
theorem same_arr {t : TypeId} {n : Nat} (ht : Tryd.prog.underlying t = some (.array n 5)) (xs ys : List Int) (hx : xs.length = n) (hy : ys.length = n) (w : World) :
    (Op.equalIn 10000 t (.agg (xs.map (Value.int .u8)).toArray) (.agg (ys.map (Value.int .u8)).toArray)).run Tryd.prog w = .ok (decide (xs = ys)) w := by
  obtain ⟨i, hi⟩ := u8_type
  have h := run_equalIn_array (P := Tryd.prog) (w := w) 9999 (xs.map (Value.int .u8)).toArray (ys.map (Value.int .u8)).toArray ht hi
  rw [u8_cells] at h
  have h2 := items_ints Tryd.prog 5 u8_plain Tryd.underlying5 9998 xs ys w (List.range n) (fun i hi => by rw [List.mem_range] at hi; omega)
  have e : ((List.range n).all fun i => xs.getD i 0 == ys.getD i 0) = decide (xs = ys) := by
    rw [Bool.eq_iff_iff, List.all_eq_true, decide_eq_true_eq]
    constructor
    · intro hall
      apply List.ext_getElem (by omega)
      intro i h1 h3
      have := hall i (by rw [List.mem_range]; omega)
      rw [beq_iff_eq, List.getD_eq_getElem?_getD, List.getD_eq_getElem?_getD, List.getElem?_eq_getElem h1, List.getElem?_eq_getElem h3] at this
      exact this
    · rintro rfl i _
      simp
  rw [e] at h2
  exact h.trans h2
theorem eq4_run (a b c d x y z u : Int) (w : World) : (Op.equalIn 10000 22 (.agg #[.int .u8 a, .int .u8 b, .int .u8 c, .int .u8 d]) (.agg #[.int .u8 x, .int .u8 y, .int .u8 z, .int .u8 u])).run Tryd.prog w = .ok (same4 a b c d x y z u) w := by
  have h := same_arr Tryd.underlying22 [a, b, c, d] [x, y, z, u] rfl rfl w
  have e : decide ([a, b, c, d] = [x, y, z, u]) = same4 a b c d x y z u := by
    rw [Bool.eq_iff_iff]
    simp [same4, and_assoc]
  rw [e] at h
  exact h
attribute [local go_sem] eq4_run
def dpriv (a b : Nat) : Bool := decide (a = 10 ∨ (a = 172 ∧ 16 ≤ b ∧ b ≤ 31) ∨ (a = 192 ∧ b = 168))
theorem dpriv_is {a b : Nat} {r : Bool} (h : r = true ↔ (a = 10 ∨ (a = 172 ∧ 16 ≤ b ∧ b ≤ 31) ∨ (a = 192 ∧ b = 168))) : r = dpriv a b := by
  rw [Bool.eq_iff_iff, h]
  simp [dpriv]
theorem ret_bool {x y : Bool} (h : x = y) : Ending.returned (.bool x) = .returned (.bool y) := by rw [h]
theorem private_any (a b c d : Nat) (w : World) : Calls Tryd.prog 59 #[.agg #[.int .u8 a, .int .u8 b, .int .u8 c, .int .u8 d]] w fun e w' => e = .returned (.bool (dpriv a b)) ∧ Below w.heap.size w w' := by
  go_enter Tryd.func59, Tryd.ntmps59
  go_wp2_with fail
  all_goals
    go_ret
    refine ⟨ret_bool (dpriv_is ?_), (Below.refl _ _).alloc (Nat.le_refl _) _⟩
    (try simp only [beq_iff_eq, beq_eq_false_iff_ne, ne_eq] at *)
    (try simp)
    omega
/-- The sort of an address. -/
def dsort (a b c d : Nat) : ByteArray :=
  if a = 0 ∧ b = 0 ∧ c = 0 ∧ d = 0 then ⟨#[110, 111, 110, 101]⟩
  else if a = 255 ∧ b = 255 ∧ c = 255 ∧ d = 255 then ⟨#[97, 108, 108]⟩
  else if a = 127 then ⟨#[108, 111, 111, 112]⟩
  else if dpriv a b = true then ⟨#[112, 114, 105, 118, 97, 116, 101]⟩
  else if a = 169 ∧ b = 254 then ⟨#[108, 105, 110, 107]⟩
  else if 224 ≤ a ∧ a ≤ 239 then ⟨#[103, 114, 111, 117, 112]⟩
  else if 240 ≤ a then ⟨#[107, 101, 112, 116]⟩
  else ⟨#[104, 111, 115, 116]⟩
theorem ret_str {x y : ByteArray} (h : x = y) : Ending.returned (.string x) = .returned (.string y) := by rw [h]
theorem same_zero (a b c d : Nat) : same4 a b c d 0 0 0 0 = decide (a = 0 ∧ b = 0 ∧ c = 0 ∧ d = 0) := by
  rw [Bool.eq_iff_iff]
  simp [same4, and_assoc]
theorem same_all (a b c d : Nat) : same4 a b c d 255 255 255 255 = decide (a = 255 ∧ b = 255 ∧ c = 255 ∧ d = 255) := by
  rw [Bool.eq_iff_iff]
  simp [same4, and_assoc]
  omega
set_option maxRecDepth 10000 in
set_option maxHeartbeats 1600000 in
theorem sort_any (a b c d : Nat) (w : World) : Calls Tryd.prog 22 #[.agg #[.int .u8 a, .int .u8 b, .int .u8 c, .int .u8 d]] w fun e w' => e = .returned (.string (dsort a b c d)) ∧ Below w.heap.size w w' := by
  by_cases h0 : a = 0 ∧ b = 0 ∧ c = 0 ∧ d = 0
  · have q0 : same4 a b c d 0 0 0 0 = true := by rw [same_zero]; exact decide_eq_true h0
    have E : Hid (dsort a b c d = ⟨#[110, 111, 110, 101]⟩) := by show dsort a b c d = _; rw [dsort, if_pos h0]
    clear h0
    go_enter Tryd.func22, Tryd.ntmps22
    go_wp2_with fail
    go_ret
    exact ⟨ret_str E.out.symm, (Below.refl _ _).alloc (Nat.le_refl _) _⟩
  have q0 : same4 a b c d 0 0 0 0 = false := by rw [same_zero]; exact decide_eq_false h0
  by_cases h1 : a = 255 ∧ b = 255 ∧ c = 255 ∧ d = 255
  · have q1 : same4 a b c d 255 255 255 255 = true := by rw [same_all]; exact decide_eq_true h1
    have E : Hid (dsort a b c d = ⟨#[97, 108, 108]⟩) := by show dsort a b c d = _; rw [dsort, if_neg h0, if_pos h1]
    clear h0 h1
    go_enter Tryd.func22, Tryd.ntmps22
    go_wp2_with fail
    go_ret
    exact ⟨ret_str E.out.symm, (Below.refl _ _).alloc (Nat.le_refl _) _⟩
  have q1 : same4 a b c d 255 255 255 255 = false := by rw [same_all]; exact decide_eq_false h1
  have E : Hid (dsort a b c d = if a = 127 then ⟨#[108, 111, 111, 112]⟩
  else if dpriv a b = true then ⟨#[112, 114, 105, 118, 97, 116, 101]⟩
  else if a = 169 ∧ b = 254 then ⟨#[108, 105, 110, 107]⟩
  else if 224 ≤ a ∧ a ≤ 239 then ⟨#[103, 114, 111, 117, 112]⟩
  else if 240 ≤ a then ⟨#[107, 101, 112, 116]⟩
  else ⟨#[104, 111, 115, 116]⟩) := by show dsort a b c d = _; rw [dsort, if_neg h0, if_neg h1]
  clear h0 h1
  obtain ⟨p, hp⟩ : ∃ p, dpriv a b = p := ⟨_, rfl⟩
  have CP : Hid (∀ w, Calls Tryd.prog 59 #[.agg #[.int .u8 a, .int .u8 b, .int .u8 c, .int .u8 d]] w fun e w' => e = .returned (.bool p) ∧ Below w.heap.size w w') := fun w => by rw [← hp]; exact private_any a b c d w
  rw [hp] at E
  clear hp
  have N0 := heap_alloc_new w (.cells #[.int .u8 a, .int .u8 b, .int .u8 c, .int .u8 d] 22)
  have HN := Lib.hid N0
  clear N0
  by_cases h2 : a = 127
  · have q2 : ((a : Int) == 127) = true := by simp; omega
    go_enter Tryd.func22, Tryd.ntmps22
    go_wp2_with fail
    go_ret
    exact ⟨ret_str (by rw [E.out, if_pos h2]), (Below.refl _ _).alloc (Nat.le_refl _) _⟩
  have q2 : ((a : Int) == 127) = false := by simp; omega
  go_enter Tryd.func22, Tryd.ntmps22
  go_wp2_with fail
  refine (CP.out _).mono ?_
  rintro e w1 ⟨rfl, hb⟩
  have A1 : ArrAt w1 w.heap.size [a, b, c, d] := ArrAt.below (W := w.alloc _) HN.out hb
  have c0 := A1.cell 0 (by simp)
  have c1 := A1.cell 1 (by simp)
  simp at c0 c1
  have HB := Lib.hid (below_al hb)
  clear hb A1
  cases p
  · go_wp2_with fail
    all_goals
      go_ret
      refine ⟨ret_str ?_, HB.out⟩
      rw [E.out, if_neg h2, if_neg (by decide)]
      (try simp only [beq_iff_eq, beq_eq_false_iff_ne, ne_eq] at *)
      (repeat' split) <;> first | rfl | (exfalso; omega)
  · go_wp2_with fail
    go_ret
    exact ⟨ret_str (by rw [E.out, if_neg h2]; rfl), HB.out⟩
/-- The address behind one, and whether there is one. -/
def dnext (a b c d : Nat) : Value :=
  .tuple #[if dnum a b c d = 4294967295 then quad 0 0 0 0 else quad ((dnum a b c d + 1) / 16777216 % 256) ((dnum a b c d + 1) / 65536 % 256) ((dnum a b c d + 1) / 256 % 256) ((dnum a b c d + 1) % 256), .bool (decide (dnum a b c d ≠ 4294967295))]
theorem next_any (a b c d : Nat) (w : World) (ha : a ≤ 255) (hb : b ≤ 255) (hc : c ≤ 255) (hd : d ≤ 255) :
    Calls Tryd.prog 13 #[quad a b c d] w fun e w' => e = .returned (dnext a b c d) ∧ Below w.heap.size w w' := by
  have CN := Lib.hid (fun w => dnum_any a b c d w ha hb hc hd)
  obtain ⟨n, hn⟩ : ∃ n, dnum a b c d = n := ⟨_, rfl⟩
  have hle : n ≤ 4294967295 := by rw [← hn]; exact dnum_le ha hb hc hd
  rw [hn] at CN
  have E : Hid (dnext a b c d = .tuple #[if n = 4294967295 then quad 0 0 0 0 else quad ((n + 1) / 16777216 % 256) ((n + 1) / 65536 % 256) ((n + 1) / 256 % 256) ((n + 1) % 256), .bool (decide (n ≠ 4294967295))]) := by
    show dnext a b c d = _
    rw [dnext, hn]
  clear hn
  have HN := Lib.hid (heap_alloc2_old w (.cells #[.int .u8 a, .int .u8 b, .int .u8 c, .int .u8 d] 22) (.cells #[.int .u8 0, .int .u8 0, .int .u8 0, .int .u8 0] 22))
  have HO := Lib.hid (heap_alloc2_new w (.cells #[.int .u8 a, .int .u8 b, .int .u8 c, .int .u8 d] 22) (.cells #[.int .u8 0, .int .u8 0, .int .u8 0, .int .u8 0] 22))
  unfold quad at CN ⊢
  go_enter Tryd.func13, Tryd.ntmps13
  go_wp2_with fail
  refine (CN.out _).mono ?_
  rintro e w1 ⟨rfl, hb1⟩
  have A1 : ArrAt w1 (w.heap.size + 1) [0, 0, 0, 0] := ArrAt.below (W := (w.alloc _).alloc _) HO.out hb1
  have c0 := A1.cell 0 (by simp)
  have c1 := A1.cell 1 (by simp)
  have c2 := A1.cell 2 (by simp)
  have c3 := A1.cell 3 (by simp)
  have f0 := A1.frozen
  simp at c0 c1 c2 c3
  have HB := Lib.hid (below_al2 hb1)
  by_cases h : n = 4294967295
  · subst h
    clear hb1 A1
    go_wp2_with fail
    refine bodyPost_ret (v := .tuple #[.agg #[.int .u8 0, .int .u8 0, .int .u8 0, .int .u8 0], .bool false]) (by simp [results, Tryd.results13, go_sem, c0, c1, c2, c3]) rfl ⟨?_, (((HB.out.setCell (by simp) _).setCell (by simp) _).setCell (by simp) _).setCell (by simp) _⟩
    rw [E.out]
    rfl
  · have q : ((n : Int) == 4294967295) = false := by simp; omega
    have hw : IntKind.u32.wrap ((n : Int) + 1) = ((n + 1 : Nat) : Int) := by
      rw [show (n : Int) + 1 = ((n + 1 : Nat) : Int) from by omega]
      exact IntWalk.u32_in _ ⟨by omega, by omega⟩
    have CO := Lib.hid (fun w => dof_any (n + 1) w (by omega))
    have hA := Lib.hid A1
    have HX : Hid (dnext a b c d = .tuple #[.agg #[.int .u8 ((n + 1) / 16777216 % 256 : Nat), .int .u8 ((n + 1) / 65536 % 256 : Nat), .int .u8 ((n + 1) / 256 % 256 : Nat), .int .u8 ((n + 1) % 256 : Nat)], .bool true]) := by
      show dnext a b c d = _
      rw [E.out, if_neg h, decide_eq_true h]
      rfl
    clear hb1 A1 h E
    unfold quad at CO
    generalize (n + 1) / 16777216 % 256 = x0 at CO HX
    generalize (n + 1) / 65536 % 256 = x1 at CO HX
    generalize (n + 1) / 256 % 256 = x2 at CO HX
    generalize (n + 1) % 256 = x3 at CO HX
    generalize n + 1 = m at CO hw
    go_wp2_with fail
    refine (CO.out _).mono ?_
    rintro e w2 ⟨rfl, hb2⟩
    have A2 := hA.out.below hb2
    have c0 := A2.cell 0 (by simp)
    have c1 := A2.cell 1 (by simp)
    have c2 := A2.cell 2 (by simp)
    have c3 := A2.cell 3 (by simp)
    have f0 := A2.frozen
    simp at c0 c1 c2 c3
    have HB2 := Lib.hid (below_both HB.out hb2)
    clear hb2 A2
    go_wp2_with fail
    refine bodyPost_ret (v := .tuple #[.agg #[.int .u8 x0, .int .u8 x1, .int .u8 x2, .int .u8 x3], .bool true]) (by simp [results, Tryd.results13, go_sem, c0, c1, c2, c3]) rfl ⟨?_, (((HB2.out.setCell (by simp) _).setCell (by simp) _).setCell (by simp) _).setCell (by simp) _⟩
    rw [HX.out]
end Go.Proofs.YtdeecobpglfgaaaDoor
