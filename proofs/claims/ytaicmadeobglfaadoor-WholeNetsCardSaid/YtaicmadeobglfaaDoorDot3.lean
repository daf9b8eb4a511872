/-
  Contracts of dotted's Num, Of, Next, private and Sort.
-/
import Derived.Test.YtaicmadeobglfaaDoorDot2
import Derived.Laws.BitsAllLaws
import Derived.ChangeKeysEq
namespace Go.Proofs.YtaicmadeobglfaaDoor
open Go.RowKit
set_option linter.unusedVariables false

def quad (a b c d : Nat) : Value := .agg #[.int .u8 a, .int .u8 b, .int .u8 c, .int .u8 d]
def dnum (a b c d : Nat) : Nat := a * 16777216 + b * 65536 + c * 256 + d
theorem dnum_le {a b c d : Nat} (ha : a ≤ 255) (hb : b ≤ 255) (hc : c ≤ 255) (hd : d ≤ 255) : dnum a b c d ≤ 4294967295 := by unfold dnum; omega
theorem idx4 (a b c d k : Nat) (hk : k < 4) (w : World) : (Instr.index 35 (.agg #[.int .u8 a, .int .u8 b, .int .u8 c, .int .u8 d]) (.int .i64 (k : Int))).run Tryd.prog w = .ok (.int .u8 (([a, b, c, d].getD k 0 : Nat) : Int)) w := by
  match k, hk with
  | 0, _ => simp [Instr.index, run_underlying Tryd.underlying35, asIntOf, go_sem]
  | 1, _ => simp [Instr.index, run_underlying Tryd.underlying35, asIntOf, go_sem]
  | 2, _ => simp [Instr.index, run_underlying Tryd.underlying35, asIntOf, go_sem]
  | 3, _ => simp [Instr.index, run_underlying Tryd.underlying35, asIntOf, go_sem]
theorem or8_u32 (a b : Nat) (ha : a < 16777216) (hb : b < 256) : bits .or .u32 ((a : Int) * 256) (b : Int) = ((a * 256 + b : Nat) : Int) := by
  have h := u32_or_nat (a * 256) b (by omega) (by omega)
  rw [nat_join 8 (a * 256) b (by omega) (by omega)] at h
  simpa using h
theorem be_four (a b c d : Nat) : be [a, b, c, d] = dnum a b c d := by simp [be, dnum]; omega

theorem dnum_any (a b c d : Nat) (w : World) (ha : a ≤ 255) (hb : b ≤ 255) (hc : c ≤ 255) (hd : d ≤ 255) :
    Calls Tryd.prog 49 #[quad a b c d] w fun e w' => e = .returned (.int .u32 (dnum a b c d : Nat)) ∧ Below w.heap.size w w' := by
  have hby : Hid (∀ x ∈ [a, b, c, d], x < 256) := by
    intro x hx
    simp only [List.mem_cons, List.not_mem_nil, or_false] at hx
    omega
  unfold quad
  go_enter Tryd.func49, Tryd.ntmps49
  go_wp2_with fail
  go_loop [3, 7] (fun v i => ∃ k q : Nat, k ≤ 4 ∧ i = .int .i64 k ∧ v = .int .u32 (q : Nat) ∧ Hid (q = be ([a, b, c, d].take k))) (fun _ i => 4 - (intOf i).toNat)
  case atStart => exact ⟨0, 0, Nat.zero_le _, rfl, rfl, rfl⟩
  case round =>
    obtain ⟨k, q, hk, rfl, rfl, HQ⟩ := hrel
    by_cases hlt : k < 4
    · have hix := idx4 a b c d k hlt
      have hx : [a, b, c, d].getD k 0 < 256 := by
        rw [List.getD_eq_getElem?_getD, List.getElem?_eq_getElem (by exact hlt)]
        exact hby.out _ (List.getElem_mem _)
      have hq : q < 16777216 := by
        have h1 := be_lt ([a, b, c, d].take k) (mem_take hby.out)
        rw [← HQ.out, List.length_take] at h1
        have h2 : 256 ^ min k [a, b, c, d].length ≤ 256 ^ 3 := Nat.pow_le_pow_right (by decide) (by simp; omega)
        omega
      have hst := Lib.hid (be_step [a, b, c, d] k hlt)
      obtain ⟨x, hxe⟩ : ∃ x, [a, b, c, d].getD k 0 = x := ⟨_, rfl⟩
      rw [hxe] at hix hx
      have HXE := Lib.hid hxe
      clear hxe
      have hor := or8_u32 q x hq hx
      have hw : IntKind.u32.wrap ((q : Int) * 256) = (q : Int) * 256 := IntWalk.u32_in _ ⟨by omega, by omega⟩
      go_wp2_with fail
      go_round
      case rel => exact ⟨k + 1, q * 256 + x, by omega, by go_num, by go_num, by show _ = _; rw [hst.out, HQ.out, HXE.out]⟩
      case measure => simp [intOf]; omega
    · obtain rfl : k = 4 := by omega
      have e : q = dnum a b c d := by rw [HQ.out]; exact be_four a b c d
      have E := Lib.hid e
      clear e
      go_wp2_with fail
      go_ret
      exact ⟨by rw [← E.out]; rfl, (Below.refl _ _).alloc (Nat.le_refl _) _⟩

/-- Two addresses are the same. -/
def same4 (a b c d x y z u : Int) : Bool := a == x && b == y && c == z && d == u
theorem u8_type : ∃ i, Tryd.prog.info? 5 = some i := by
  cases h : Tryd.prog.info? 5 with
  | some i => exact ⟨i, rfl⟩
  | none =>
    have e := u8_info
    rw [h] at e
    cases e
/-- Rows of bytes are compared cell by cell. -/
theorem items_ints (P : Program) (e : TypeId) (hp : P.plainKey e = true) (hu : P.underlying e = some (.int .u8)) (d : Nat) (xs ys : List Int) (w : World) :
    ∀ is : List Nat, (∀ i ∈ is, i < xs.length ∧ i < ys.length) → (Op.eqItems (d + 1) e 1 (xs.map (Value.int .u8)).toArray (ys.map (Value.int .u8)).toArray is).run P w = .ok (is.all fun i => xs.getD i 0 == ys.getD i 0) w := by
  intro is
  induction is with
  | nil => intro _; simp [Op.eqItems]
  | cons i is ih =>
    intro h
    have h0 := h i (List.mem_cons_self ..)
    have h1 := run_part_plain (P := P) (w := w) hp (xs := (xs.map (Value.int .u8)).toArray) (off := i) (v := .int .u8 (xs.getD i 0)) (by simp [h0.1])
    have h2 := run_part_plain (P := P) (w := w) hp (xs := (ys.map (Value.int .u8)).toArray) (off := i) (v := .int .u8 (ys.getD i 0)) (by simp [h0.2])
    have h3 := run_equalIn_int (P := P) w d e .u8 .u8 (xs.getD i 0) (ys.getD i 0) hu
    have h4 := ih (fun j hj => h j (List.mem_cons_of_mem _ hj))
    simp only [Op.eqItems, Sem.run_bind, Nat.mul_one, h1, h2, h3, Result.andThen_ok, List.all_cons]
    cases xs.getD i 0 == ys.getD i 0
    · simp
    · simpa using h4
theorem u8_plain : Tryd.prog.plainKey 5 = true := by kernel_rfl
theorem u8_cells : Tryd.prog.cellsOf 5 = 1 := by kernel_rfl
/-- Arrays of n bytes are the same where all are. -/
theorem same_arr {t : TypeId} {n : Nat} (ht : Tryd.prog.underlying t = some (.array n 5)) (xs ys : List Int) (hx : xs.length = n) (hy : ys.length = n) (w : World) :
    (Op.equalIn 10000 t (.agg (xs.map (Value.int .u8)).toArray) (.agg (ys.map (Value.int .u8)).toArray)).run Tryd.prog w = .ok (decide (xs = ys)) w := by
  obtain ⟨i, hi⟩ := u8_type
  have h := run_equalIn_array (P := Tryd.prog) (w := w) 9999 (xs.map (Value.int .u8)).toArray (ys.map (Value.int .u8)).toArray ht hi
  rw [u8_cells] at h
  have h2 := items_ints Tryd.prog 5 u8_plain Tryd.underlying5 9998 xs ys w (List.range n) (fun i hi => by rw [List.mem_range] at hi; omega)
  have e : ((List.range n).all fun i => xs.getD i 0 == ys.getD i 0) = decide (xs = ys) := by
    rw [Bool.eq_iff_iff, List.all_eq_true, decide_eq_true_eq]
    constructor
    · intro hall
      apply List.ext_getElem (by omega)
      intro i h1 h3
      have := hall i (by rw [List.mem_range]; omega)
      rw [beq_iff_eq, List.getD_eq_getElem?_getD, List.getD_eq_getElem?_getD, List.getElem?_eq_getElem h1, List.getElem?_eq_getElem h3] at this
      exact this
    · rintro rfl i _
      simp
  rw [e] at h2
  exact h.trans h2
theorem eq4_run (a b c d x y z u : Int) (w : World) : (Op.equalIn 10000 35 (.agg #[.int .u8 a, .int .u8 b, .int .u8 c, .int .u8 d]) (.agg #[.int .u8 x, .int .u8 y, .int .u8 z, .int .u8 u])).run Tryd.prog w = .ok (same4 a b c d x y z u) w := by
  have h := same_arr Tryd.underlying35 [a, b, c, d] [x, y, z, u] rfl rfl w
  have e : decide ([a, b, c, d] = [x, y, z, u]) = same4 a b c d x y z u := by
    rw [Bool.eq_iff_iff]
    simp [same4, and_assoc]
  rw [e] at h
  exact h
attribute [local go_sem] eq4_run
def dpriv (a b : Nat) : Bool := decide (a = 10 ∨ (a = 172 ∧ 16 ≤ b ∧ b ≤ 31) ∨ (a = 192 ∧ b = 168))
theorem dpriv_is {a b : Nat} {r : Bool} (h : r = true ↔ (a = 10 ∨ (a = 172 ∧ 16 ≤ b ∧ b ≤ 31) ∨ (a = 192 ∧ b = 168))) : r = dpriv a b := by
  rw [Bool.eq_iff_iff, h]
  simp [dpriv]
theorem ret_bool {x y : Bool} (h : x = y) : Ending.returned (.bool x) = .returned (.bool y) := by rw [h]
/-- The sort of an address. -/
def dsort (a b c d : Nat) : ByteArray :=
  if a = 0 ∧ b = 0 ∧ c = 0 ∧ d = 0 then ⟨#[110, 111, 110, 101]⟩
  else if a = 255 ∧ b = 255 ∧ c = 255 ∧ d = 255 then ⟨#[97, 108, 108]⟩
  else if a = 127 then ⟨#[108, 111, 111, 112]⟩
  else if dpriv a b = true then ⟨#[112, 114, 105, 118, 97, 116, 101]⟩
  else if a = 169 ∧ b = 254 then ⟨#[108, 105, 110, 107]⟩
  else if 224 ≤ a ∧ a ≤ 239 then ⟨#[103, 114, 111, 117, 112]⟩
  else if 240 ≤ a then ⟨#[107, 101, 112, 116]⟩
  else ⟨#[104, 111, 115, 116]⟩
theorem ret_str {x y : ByteArray} (h : x = y) : Ending.returned (.string x) = .returned (.string y) := by rw [h]
theorem same_zero (a b c d : Nat) : same4 a b c d 0 0 0 0 = decide (a = 0 ∧ b = 0 ∧ c = 0 ∧ d = 0) := by
  rw [Bool.eq_iff_iff]
  simp [same4, and_assoc]
theorem same_all (a b c d : Nat) : same4 a b c d 255 255 255 255 = decide (a = 255 ∧ b = 255 ∧ c = 255 ∧ d = 255) := by
  rw [Bool.eq_iff_iff]
  simp [same4, and_assoc]
  omega
/-- The address behind one, and whether there is one. -/
def dnext (a b c d : Nat) : Value :=
  .tuple #[if dnum a b c d = 4294967295 then quad 0 0 0 0 else quad ((dnum a b c d + 1) / 16777216 % 256) ((dnum a b c d + 1) / 65536 % 256) ((dnum a b c d + 1) / 256 % 256) ((dnum a b c d + 1) % 256), .bool (decide (dnum a b c d ≠ 4294967295))]
end Go.Proofs.YtaicmadeobglfaaDoor
