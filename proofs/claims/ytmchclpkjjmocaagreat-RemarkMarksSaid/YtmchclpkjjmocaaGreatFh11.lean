/-
  The contract of fourhead's numbers.
  The contract of fourhead's Write.
-/
import Derived.Test.YtmchclpkjjmocaaGreatFh1
import Derived.IntWalk
import Derived.Test.YtmchclpkjjmocaaGreatApp
import Derived.Laws.BitsLemmas
namespace Go.Proofs.YtmchclpkjjmocaaGreat
open Go.RowKit
set_option linter.unusedVariables false

/-- A header's fields as a value: nine numbers and eight bytes. -/
structure FourV where
  k0 : Int
  k1 : Int
  k2 : Int
  k3 : Int
  k4 : Int
  k5 : Int
  k6 : Int
  k7 : Int
  k8 : Int
  src : List Nat
  dst : List Nat
def FourV.ks (f : FourV) : List Int := [f.k0, f.k1, f.k2, f.k3, f.k4, f.k5, f.k6, f.k7, f.k8]
def fourLo : List Int := [5, 0, 0, 0, 0, 0, 0, 0, 0]
def fourHi : List Int := [15, 255, 65535, 65535, 7, 8191, 255, 255, 65535]
def FourV.nums (f : FourV) : List Value :=
  [.int .i64 f.k0, .int .i64 5, .int .i64 15, .int .i64 f.k1, .int .i64 0, .int .i64 255, .int .i64 f.k2, .int .i64 0, .int .i64 65535, .int .i64 f.k3, .int .i64 0, .int .i64 65535, .int .i64 f.k4, .int .i64 0, .int .i64 7, .int .i64 f.k5, .int .i64 0, .int .i64 8191,
    .int .i64 f.k6, .int .i64 0, .int .i64 255, .int .i64 f.k7, .int .i64 0, .int .i64 255, .int .i64 f.k8, .int .i64 0, .int .i64 65535]
set_option maxRecDepth 10000 in
theorem idx9 (f : FourV) (k : Nat) (hk : k < 9) (w : World) : (Instr.index 130 (.agg f.nums.toArray) (.int .i64 (k : Int))).run Tryz.prog w = .ok (.agg #[.int .i64 (f.ks.getD k 0), .int .i64 (fourLo.getD k 0), .int .i64 (fourHi.getD k 0)]) w := by
  unfold FourV.nums FourV.ks fourLo fourHi
  match k, hk with
  | 0, _ => simp [Instr.index, run_underlying Tryz.underlying130, asIntOf, go_sem]
  | 1, _ => simp [Instr.index, run_underlying Tryz.underlying130, asIntOf, go_sem]
  | 2, _ => simp [Instr.index, run_underlying Tryz.underlying130, asIntOf, go_sem]
  | 3, _ => simp [Instr.index, run_underlying Tryz.underlying130, asIntOf, go_sem]
  | 4, _ => simp [Instr.index, run_underlying Tryz.underlying130, asIntOf, go_sem]
  | 5, _ => simp [Instr.index, run_underlying Tryz.underlying130, asIntOf, go_sem]
  | 6, _ => simp [Instr.index, run_underlying Tryz.underlying130, asIntOf, go_sem]
  | 7, _ => simp [Instr.index, run_underlying Tryz.underlying130, asIntOf, go_sem]
  | 8, _ => simp [Instr.index, run_underlying Tryz.underlying130, asIntOf, go_sem]
theorem tynums : RowTy 130 27 := ⟨⟨_, Tryz.underlying130, rfl⟩, by kernel_rfl⟩
theorem nums_zero (t : TypeId) : (List.replicate 27 (Value.int .i64 0)).length = 27 := rfl
theorem FourV.nums_one (f : FourV) : ∀ v ∈ f.nums, v.oneCell' = true := by
  intro v hv
  unfold FourV.nums at hv
  simp only [List.mem_cons, List.not_mem_nil, or_false] at hv
  rcases hv with h | h | h | h | h | h | h | h | h | h | h | h | h | h | h | h | h | h | h | h | h | h | h | h | h | h | h <;> rw [h] <;> rfl
def FourV.cells (f : FourV) : List Value := [.int .i64 f.k0, .int .i64 f.k1, .int .i64 f.k2, .int .i64 f.k3, .int .i64 f.k4, .int .i64 f.k5, .int .i64 f.k6, .int .i64 f.k7, .int .i64 f.k8] ++ bcells f.src ++ bcells f.dst
set_option maxRecDepth 10000 in
set_option maxHeartbeats 3200000 in
theorem fhnumbers_any (f : FourV) (w : World) : Calls Tryz.prog 84 #[.agg f.cells.toArray] w fun e w' => e = .returned (.agg f.nums.toArray) ∧ Below w.heap.size w w' := by
  obtain ⟨C, hC⟩ : ∃ C, C = f.cells := ⟨_, rfl⟩
  have g0 : Hid (C[0]? = some (.int .i64 f.k0) ∧ C[1]? = some (.int .i64 f.k1) ∧ C[2]? = some (.int .i64 f.k2) ∧ C[3]? = some (.int .i64 f.k3) ∧ C[4]? = some (.int .i64 f.k4) ∧ C[5]? = some (.int .i64 f.k5) ∧ C[6]? = some (.int .i64 f.k6) ∧ C[7]? = some (.int .i64 f.k7) ∧ C[8]? = some (.int .i64 f.k8)) := by
    rw [hC]
    exact ⟨rfl, rfl, rfl, rfl, rfl, rfl, rfl, rfl, rfl⟩
  rw [← hC]
  clear hC
  go_enter Tryz.func84, Tryz.ntmps84
  go_upto_region 1 with fail
  obtain ⟨V, eV⟩ : ∃ V, V = (w.alloc (.cells C.toArray 63)).alloc (.cells (List.replicate 27 (Value.int .i64 0)).toArray 130) := ⟨_, rfl⟩
  have hA : ArrV 63 V w.heap.size C := by rw [eV]; exact (ArrV.new _ w C).alloc _
  have HZ : Hid (ArrV 130 V (w.heap.size + 1) (List.replicate 27 (Value.int .i64 0))) := by
    show ArrV _ _ _ _
    rw [eV]
    have h := ArrV.new 130 (w.alloc (.cells C.toArray 63)) (List.replicate 27 (Value.int .i64 0))
    have e : (w.alloc (.cells C.toArray 63)).heap.size = w.heap.size + 1 := by simp
    rw [e] at h
    exact h
  have HB : Hid (Below w.heap.size w V) := by
    show Below _ _ _
    rw [eV]
    exact ((Below.refl _ _).alloc (Nat.le_refl _) _).alloc (by simp) _
  have e2 : V = (w.alloc (.cells C.toArray 63)).alloc (.cells #[.int .i64 0, .int .i64 0, .int .i64 0, .int .i64 0, .int .i64 0, .int .i64 0, .int .i64 0, .int .i64 0, .int .i64 0, .int .i64 0, .int .i64 0, .int .i64 0, .int .i64 0, .int .i64 0, .int .i64 0, .int .i64 0, .int .i64 0, .int .i64 0, .int .i64 0, .int .i64 0, .int .i64 0, .int .i64 0, .int .i64 0, .int .i64 0, .int .i64 0, .int .i64 0, .int .i64 0] 130) := eV
  rw [← e2]
  clear e2 eV
  have c0 := (hA.get 0).trans g0.out.1
  have c1 := (hA.get 1).trans g0.out.2.1
  have c2 := (hA.get 2).trans g0.out.2.2.1
  have c3 := (hA.get 3).trans g0.out.2.2.2.1
  have c4 := (hA.get 4).trans g0.out.2.2.2.2.1
  have c5 := (hA.get 5).trans g0.out.2.2.2.2.2.1
  have c6 := (hA.get 6).trans g0.out.2.2.2.2.2.2.1
  have c7 := (hA.get 7).trans g0.out.2.2.2.2.2.2.2.1
  have c8 := (hA.get 8).trans g0.out.2.2.2.2.2.2.2.2
  clear hA
  go_wp2_with (refine wpList_store_v rfl 130 (.tmp 2) (.tmp 30) rfl _ rfl tynums HZ.out rfl f.nums rfl f.nums_one rfl ?_)
  exact bodyPost_ret (v := .agg f.nums.toArray) (res_cell Tryz.results84 rfl ((HZ.out.store f.nums rfl).loadVar tynums rfl)) rfl ⟨rfl, setCells_below _ (Nat.le_succ _) _ _ _ HB.out⟩
end Go.Proofs.YtmchclpkjjmocaaGreat

namespace Go.Proofs.YtmchclpkjjmocaaGreat
open Go.RowKit
set_option linter.unusedVariables false

theorem tynum : RowTy 129 3 := ⟨⟨_, Tryz.underlying129, rfl⟩, by kernel_rfl⟩
def FourV.okAt (f : FourV) (k : Nat) : Prop := fourLo.getD k 0 ≤ f.ks.getD k 0 ∧ f.ks.getD k 0 ≤ fourHi.getD k 0
def FourV.fits (f : FourV) : Prop := ∀ k, k < 9 → f.okAt k
theorem FourV.fits_all {f : FourV} (h : f.fits) : (5 ≤ f.k0 ∧ f.k0 ≤ 15) ∧ (0 ≤ f.k1 ∧ f.k1 ≤ 255) ∧ (0 ≤ f.k2 ∧ f.k2 ≤ 65535) ∧ (0 ≤ f.k3 ∧ f.k3 ≤ 65535) ∧ (0 ≤ f.k4 ∧ f.k4 ≤ 7) ∧ (0 ≤ f.k5 ∧ f.k5 ≤ 8191) ∧ (0 ≤ f.k6 ∧ f.k6 ≤ 255) ∧ (0 ≤ f.k7 ∧ f.k7 ≤ 255) ∧ (0 ≤ f.k8 ∧ f.k8 ≤ 65535) :=
  ⟨h 0 (by decide), h 1 (by decide), h 2 (by decide), h 3 (by decide), h 4 (by decide), h 5 (by decide), h 6 (by decide), h 7 (by decide), h 8 (by decide)⟩
/-- A header's first twelve bytes. -/
def head12 (a0 a1 a2 a3 a4 a5 a6 a7 a8 : Nat) : List Nat := [64 + a0, a1, a2 / 256, a2 % 256, a3 / 256, a3 % 256, a4 * 32 + a5 / 256, a5 % 256, a6, a7, a8 / 256, a8 % 256]
def FourV.bytes (f : FourV) (os : List Nat) : List Nat := head12 f.k0.toNat f.k1.toNat f.k2.toNat f.k3.toNat f.k4.toNat f.k5.toNat f.k6.toNat f.k7.toNat f.k8.toNat ++ f.src ++ f.dst ++ os
def WriteIs (f : FourV) (n : Nat) (os : List Nat) (w : World) (e : Ending) (w' : World) : Prop :=
  Below w.heap.size w w' ∧ (¬ f.fits → e = .returned (.tuple #[.slice none 0 0, .int .i64 1])) ∧ (f.fits → (n : Int) ≠ 4 * f.k0 - 20 → e = .returned (.tuple #[.slice none 0 0, .int .i64 2])) ∧
    (f.fits → (n : Int) = 4 * f.k0 - 20 → ∃ v, e = .returned (.tuple #[v, .int .i64 0]) ∧ OutIs w.heap.size w' v (f.bytes os))
theorem i64_or_nat (x y : Nat) (hx : x < 2 ^ 31) (hy : y < 2 ^ 31) : bits .or .i64 (x : Int) (y : Int) = ((x ||| y : Nat) : Int) := by
  have key : (BitVec.ofInt 64 (x : Int) ||| BitVec.ofInt 64 (y : Int)).toNat = x ||| y := by
    rw [BitVec.toNat_or, BitVec.toNat_ofInt, BitVec.toNat_ofInt]
    congr 1 <;> omega
  have hlt : x ||| y < 2 ^ 31 := Nat.or_lt_two_pow hx hy
  show IntKind.i64.wrap ((BitVec.ofInt 64 (x : Int) ||| BitVec.ofInt 64 (y : Int)).toNat : Nat) = _
  rw [key, IntKind.wrap_i64]
  omega
theorem head_or (a : Nat) (h : a ≤ 15) : bits .or .i64 64 (a : Int) % 256 = ((64 + a : Nat) : Int) := by
  have h1 := i64_or_nat 64 a (by decide) (by omega)
  rw [nat_join 6 64 a (by decide) (by omega)] at h1
  have h2 : bits .or .i64 64 (a : Int) = ((64 + a : Nat) : Int) := h1
  rw [h2]
  omega
theorem flag_or (a b : Nat) (h : a ≤ 7) (h2 : b ≤ 8191) : bits .or .i64 (wrap64 ((a : Int) * 32)) ((b : Int) / 256) % 256 = ((a * 32 + b / 256 : Nat) : Int) := by
  have h1 := i64_or_nat (a * 32) (b / 256) (by omega) (by omega)
  rw [nat_join 5 (a * 32) (b / 256) (by omega) (by omega)] at h1
  have e1 : wrap64 ((a : Int) * 32) = ((a * 32 : Nat) : Int) := by unfold wrap64; omega
  have e2 : ((b : Int) / 256) = ((b / 256 : Nat) : Int) := by omega
  rw [e1, e2, h1]
  omega
theorem head_cells (a0 a1 a2 a3 a4 a5 a6 a7 a8 : Nat) (h : (a0 ≤ 15 ∧ 5 ≤ a0) ∧ a1 ≤ 255 ∧ a2 ≤ 65535 ∧ a3 ≤ 65535 ∧ a4 ≤ 7 ∧ a5 ≤ 8191 ∧ a6 ≤ 255 ∧ a7 ≤ 255 ∧ a8 ≤ 65535) :
    (#[Value.int .u8 (bits .or .i64 64 (a0 : Int) % 256), .int .u8 ((a1 : Int) % 256), .int .u8 ((a2 : Int) / 256 % 256), .int .u8 ((a2 : Int) % 256), .int .u8 ((a3 : Int) / 256 % 256), .int .u8 ((a3 : Int) % 256),
      .int .u8 (bits .or .i64 (wrap64 ((a4 : Int) * 32)) ((a5 : Int) / 256) % 256), .int .u8 ((a5 : Int) % 256), .int .u8 ((a6 : Int) % 256), .int .u8 ((a7 : Int) % 256), .int .u8 ((a8 : Int) / 256 % 256), .int .u8 ((a8 : Int) % 256)] : Array Value) = (bcells (head12 a0 a1 a2 a3 a4 a5 a6 a7 a8)).toArray := by
  rw [head_or a0 (by omega), flag_or a4 a5 (by omega) (by omega), show (a1 : Int) % 256 = ((a1 : Nat) : Int) by omega, show (a2 : Int) / 256 % 256 = ((a2 / 256 : Nat) : Int) by omega, show (a2 : Int) % 256 = ((a2 % 256 : Nat) : Int) by omega,
    show (a3 : Int) / 256 % 256 = ((a3 / 256 : Nat) : Int) by omega, show (a3 : Int) % 256 = ((a3 % 256 : Nat) : Int) by omega, show (a5 : Int) % 256 = ((a5 % 256 : Nat) : Int) by omega, show (a6 : Int) % 256 = ((a6 : Nat) : Int) by omega,
    show (a7 : Int) % 256 = ((a7 : Nat) : Int) by omega, show (a8 : Int) / 256 % 256 = ((a8 / 256 : Nat) : Int) by omega, show (a8 : Int) % 256 = ((a8 % 256 : Nat) : Int) by omega]
  rfl
theorem head12_byte (a0 a1 a2 a3 a4 a5 a6 a7 a8 : Nat) (h : (a0 ≤ 15 ∧ 5 ≤ a0) ∧ a1 ≤ 255 ∧ a2 ≤ 65535 ∧ a3 ≤ 65535 ∧ a4 ≤ 7 ∧ a5 ≤ 8191 ∧ a6 ≤ 255 ∧ a7 ≤ 255 ∧ a8 ≤ 65535) : ∀ x ∈ head12 a0 a1 a2 a3 a4 a5 a6 a7 a8, x < 256 := by
  unfold head12
  simp only [List.mem_cons, List.not_mem_nil, or_false]
  rintro x (h | h | h | h | h | h | h | h | h | h | h | h) <;> omega
theorem bcells_some {bs : List Nat} {i : Nat} (h : i < bs.length) : (bcells bs)[i]? = some (.int .u8 (bs.getD i 0 : Nat)) := by
  simp [bcells, h]
theorem FourV.at_src {f : FourV} (hs : f.src.length = 4) (i : Nat) (hi : i < 4) : f.cells[9 + i]? = some (.int .u8 (f.src.getD i 0 : Nat)) := by
  unfold FourV.cells
  rw [List.append_assoc, List.getElem?_append_right (by simp), List.getElem?_append_left (by rw [bcells_length]; simp; omega)]
  rw [show 9 + i - [Value.int .i64 f.k0, .int .i64 f.k1, .int .i64 f.k2, .int .i64 f.k3, .int .i64 f.k4, .int .i64 f.k5, .int .i64 f.k6, .int .i64 f.k7, .int .i64 f.k8].length = i from by show 9 + i - 9 = i; omega]
  exact bcells_some (by omega)
theorem FourV.at_dst {f : FourV} (hs : f.src.length = 4) (hd : f.dst.length = 4) (i : Nat) (hi : i < 4) : f.cells[13 + i]? = some (.int .u8 (f.dst.getD i 0 : Nat)) := by
  unfold FourV.cells
  rw [List.getElem?_append_right (by simp [bcells_length, hs])]
  rw [show 13 + i - ([Value.int .i64 f.k0, .int .i64 f.k1, .int .i64 f.k2, .int .i64 f.k3, .int .i64 f.k4, .int .i64 f.k5, .int .i64 f.k6, .int .i64 f.k7, .int .i64 f.k8] ++ bcells f.src).length = i from by rw [List.length_append, bcells_length, hs]; show 13 + i - 13 = i; omega]
  exact bcells_some (by omega)
set_option maxRecDepth 10000 in
set_option maxHeartbeats 6400000 in
theorem fhwrite_any (f : FourV) (A : Option Addr) (n c : Nat) (os : List Nat) (w : World) (hs : f.src.length = 4) (hd : f.dst.length = 4) (bs : ∀ x ∈ f.src, x < 256) (bd : ∀ x ∈ f.dst, x < 256) (hn : n ≤ 140737488351232) (hR : Row w A n os) :
    Calls Tryz.prog 68 #[.agg f.cells.toArray, .slice A n c] w (WriteIs f n os w) := by
  obtain ⟨C, hC⟩ : ∃ C, C = f.cells := ⟨_, rfl⟩
  have hCl : C.length = 17 := by rw [hC]; unfold FourV.cells; simp [bcells_length, hs, hd]
  have CN := Lib.hid (fun w => fhnumbers_any f w)
  rw [← hC] at CN ⊢
  have HIX := Lib.hid (fun k hk => idx9 f k hk)
  obtain ⟨N, hN⟩ : ∃ N, N = f.nums := ⟨_, rfl⟩
  rw [← hN] at CN HIX
  have HC := Lib.hid hC
  have HR := Lib.hid hR
  have HN := Lib.hid hn
  have HA : Hid (ArrV 63 (w.alloc (.cells C.toArray 63)) w.heap.size C) := ArrV.new _ w C
  have HB : Hid (Below w.heap.size w (w.alloc (.cells C.toArray 63))) := (Below.refl _ _).alloc (Nat.le_refl _) _
  clear hN hC hR hn
  go_enter Tryz.func68, Tryz.ntmps68
  go_upto_region 1 with fail
  refine wp_region_lit ?_
  go_wp2_with (refine wpList_load_v rfl 63 (.tmp 2) rfl _ rfl tyfour HA.out hCl ?_)
  refine (CN.out _).mono ?_
  rintro e w1 ⟨rfl, hb1⟩
  have A1 := Lib.hid (HA.out.below hb1)
  have B1 := Lib.hid (below_both HB.out hb1)
  clear hb1 HA HB
  go_wp2_with fail
  go_loopw [11] (fun i W => ∃ k : Nat, k ≤ 9 ∧ i = .int .i64 k ∧ (∀ j, j < k → f.okAt j) ∧ ArrV 63 W w.heap.size C ∧ Below w.heap.size w W) (fun i W => 9 - (intOf i).toNat)
  case atStart => exact ⟨0, Nat.zero_le _, rfl, fun j h => absurd h (by omega), A1.out, B1.out⟩
  case round =>
    clear A1 B1
    obtain ⟨k, hk, rfl, hok, hA, hB⟩ := hrel
    have HOK := Lib.hid hok
    have HA := Lib.hid hA
    have HB := Lib.hid hB
    clear hok hA hB
    by_cases hlt : k < 9
    · have hix := HIX.out k hlt
      obtain ⟨x, hx⟩ : ∃ x, x = f.ks.getD k 0 := ⟨_, rfl⟩
      obtain ⟨lo, hlo⟩ : ∃ lo, lo = fourLo.getD k 0 := ⟨_, rfl⟩
      obtain ⟨hi, hhi⟩ : ∃ hi, hi = fourHi.getD k 0 := ⟨_, rfl⟩
      rw [← hx, ← hlo, ← hhi] at hix
      have HK : Hid (f.okAt k ↔ lo ≤ x ∧ x ≤ hi) := by rw [hx, hlo, hhi]; exact Iff.rfl
      have kI : (k : Int) < 9 := by omega
      clear hx hlo hhi
      go_upto_region 4 with fail
      obtain ⟨W3, eW3⟩ : ∃ W3, W3 = wr.alloc (.cells #[.int .i64 x, .int .i64 lo, .int .i64 hi] 129) := ⟨_, rfl⟩
      have hA3 : ArrV 129 W3 wr.heap.size [.int .i64 x, .int .i64 lo, .int .i64 hi] := by rw [eW3]; exact ArrV.new _ wr _
      have hB3 : Below wr.heap.size wr W3 := by rw [eW3]; exact (Below.refl _ _).alloc (Nat.le_refl _) _
      have d0 := hA3.get 0
      have d1 := hA3.get 1
      have d2 := hA3.get 2
      simp at d0 d1 d2
      have HA3 := Lib.hid (HA.out.below hB3)
      have HB3 := Lib.hid (below_both HB.out hB3)
      rw [← eW3]
      clear eW3 hA3 hB3
      by_cases h1 : x < lo
      · have HP : Hid (WriteIs f n os w (.returned (.tuple #[.slice none 0 0, .int .i64 1])) W3) := by
          have hno : ¬ f.fits := fun h => by have h9 := HK.out.1 (h k hlt); omega
          exact ⟨HB3.out, fun _ => rfl, fun h => absurd h hno, fun h => absurd h hno⟩
        go_wp2_with fail
        go_ret2
        exact HP.out
      · by_cases h2 : hi < x
        · have HP : Hid (WriteIs f n os w (.returned (.tuple #[.slice none 0 0, .int .i64 1])) W3) := by
            have hno : ¬ f.fits := fun h => by have h9 := HK.out.1 (h k hlt); omega
            exact ⟨HB3.out, fun _ => rfl, fun h => absurd h hno, fun h => absurd h hno⟩
          go_wp2_with fail
          go_ret2
          exact HP.out
        · have HO : Hid (∀ j, j < k + 1 → f.okAt j) := fun j hj => by
            by_cases hjk : j = k
            · rw [hjk]; exact HK.out.2 ⟨by omega, by omega⟩
            · exact HOK.out j (by omega)
          go_wp2_with fail
          go_roundw
          case rel => exact ⟨k + 1, by omega, by go_num, HO.out, HA3.out, HB3.out⟩
          case measure => simp [intOf]; omega
    · have hk9 : k = 9 := by omega
      subst hk9
      have HF : Hid f.fits := fun j hj => HOK.out j hj
      obtain ⟨⟨l0, u0⟩, ⟨l1, u1⟩, ⟨l2, u2⟩, ⟨l3, u3⟩, ⟨l4, v4⟩, ⟨l5, v5⟩, ⟨l6, v6⟩, ⟨l7, v7⟩, ⟨l8, v8⟩⟩ := FourV.fits_all HF.out
      obtain ⟨a0, e0⟩ : ∃ a : Nat, f.k0 = a := ⟨f.k0.toNat, by omega⟩
      obtain ⟨a1, e1⟩ : ∃ a : Nat, f.k1 = a := ⟨f.k1.toNat, by omega⟩
      obtain ⟨a2, e2⟩ : ∃ a : Nat, f.k2 = a := ⟨f.k2.toNat, by omega⟩
      obtain ⟨a3, e3⟩ : ∃ a : Nat, f.k3 = a := ⟨f.k3.toNat, by omega⟩
      obtain ⟨a4, e4⟩ : ∃ a : Nat, f.k4 = a := ⟨f.k4.toNat, by omega⟩
      obtain ⟨a5, e5⟩ : ∃ a : Nat, f.k5 = a := ⟨f.k5.toNat, by omega⟩
      obtain ⟨a6, e6⟩ : ∃ a : Nat, f.k6 = a := ⟨f.k6.toNat, by omega⟩
      obtain ⟨a7, e7⟩ : ∃ a : Nat, f.k7 = a := ⟨f.k7.toNat, by omega⟩
      obtain ⟨a8, e8⟩ : ∃ a : Nat, f.k8 = a := ⟨f.k8.toNat, by omega⟩
      have g : C[0]? = some (.int .i64 (a0 : Nat)) ∧ C[1]? = some (.int .i64 (a1 : Nat)) ∧ C[2]? = some (.int .i64 (a2 : Nat)) ∧ C[3]? = some (.int .i64 (a3 : Nat)) ∧ C[4]? = some (.int .i64 (a4 : Nat)) ∧ C[5]? = some (.int .i64 (a5 : Nat)) ∧ C[6]? = some (.int .i64 (a6 : Nat)) ∧ C[7]? = some (.int .i64 (a7 : Nat)) ∧ C[8]? = some (.int .i64 (a8 : Nat)) := by
        rw [HC.out, ← e0, ← e1, ← e2, ← e3, ← e4, ← e5, ← e6, ← e7, ← e8]
        exact ⟨rfl, rfl, rfl, rfl, rfl, rfl, rfl, rfl, rfl⟩
      have HBY : Hid (f.bytes os = head12 a0 a1 a2 a3 a4 a5 a6 a7 a8 ++ f.src ++ f.dst ++ os) := by
        show f.bytes os = _
        unfold FourV.bytes
        rw [e0, e1, e2, e3, e4, e5, e6, e7, e8]
        rfl
      have HE0 := Lib.hid e0
      rw [e0] at l0 u0
      rw [e1] at l1 u1
      rw [e2] at l2 u2
      rw [e3] at l3 u3
      rw [e4] at l4 v4
      rw [e5] at l5 v5
      rw [e6] at l6 v6
      rw [e7] at l7 v7
      rw [e8] at l8 v8
      have HL := Lib.hid (show (a0 ≤ 15 ∧ 5 ≤ a0) ∧ a1 ≤ 255 ∧ a2 ≤ 65535 ∧ a3 ≤ 65535 ∧ a4 ≤ 7 ∧ a5 ≤ 8191 ∧ a6 ≤ 255 ∧ a7 ≤ 255 ∧ a8 ≤ 65535 from by omega)
      have c0 := (HA.out.get 0).trans g.1
      have c1 := (HA.out.get 1).trans g.2.1
      have c2 := (HA.out.get 2).trans g.2.2.1
      have c3 := (HA.out.get 3).trans g.2.2.2.1
      have c4 := (HA.out.get 4).trans g.2.2.2.2.1
      have c5 := (HA.out.get 5).trans g.2.2.2.2.2.1
      have c6 := (HA.out.get 6).trans g.2.2.2.2.2.2.1
      have c7 := (HA.out.get 7).trans g.2.2.2.2.2.2.2.1
      have c8 := (HA.out.get 8).trans g.2.2.2.2.2.2.2.2
      clear e0 e1 e2 e3 e4 e5 e6 e7 e8 g l1 u1 l2 u2 l3 u3 l4 v4 l5 v5 l6 v6 l7 v7 l8 v8 hlt hk
      by_cases hne : (n : Int) = 4 * (a0 : Int) - 20
      · have hnb : ((n : Int) != 4 * (a0 : Int) - 20) = false := by rw [hne]; simp
        have HNE := Lib.hid hne
        clear hne
        go_upto_region 10 with fail
        rw [head_cells a0 a1 a2 a3 a4 a5 a6 a7 a8 HL.out]
        have hlt1 : w.heap.size + 1 ≤ wr.heap.size := HA.out.lt
        have hH : (head12 a0 a1 a2 a3 a4 a5 a6 a7 a8).length = 12 := rfl
        have HHB := Lib.hid (head12_byte a0 a1 a2 a3 a4 a5 a6 a7 a8 HL.out)
        obtain ⟨H, hHH⟩ : ∃ H, H = head12 a0 a1 a2 a3 a4 a5 a6 a7 a8 := ⟨_, rfl⟩
        rw [← hHH] at HBY hH HHB ⊢
        have O0 : Hid (OutIs (w.heap.size + 1) (wr.alloc (.cells (bcells H).toArray 5)) (.slice (some ⟨wr.heap.size, 0, none⟩) 12 12) H) := by
          have h := OutIs.laid wr H (w.heap.size + 1) hlt1 (by rw [hH]; decide)
          rw [hH] at h
          exact h
        have BB : Hid (Below (w.heap.size + 1) wr (wr.alloc (.cells (bcells H).toArray 5))) := (Below.refl _ _).alloc hlt1 _
        obtain ⟨V, eV⟩ : ∃ V, V = wr.alloc (.cells (bcells H).toArray 5) := ⟨_, rfl⟩
        rw [← eV] at O0 BB ⊢
        have RS : Hid (∀ W, Below (w.heap.size + 1) wr W → Row W (some ⟨w.heap.size, 9, none⟩) 4 f.src ∧ Row W (some ⟨w.heap.size, 13, none⟩) 4 f.dst ∧ Row W A n os) := fun W hW => by
          have hA2 := HA.out.belowB hW (Nat.lt_succ_self _)
          exact ⟨Row.mk hs bs fun i hi => (hA2.get (9 + i)).trans (by rw [HC.out]; exact FourV.at_src hs i hi), Row.mk hd bd fun i hi => (hA2.get (13 + i)).trans (by rw [HC.out]; exact FourV.at_dst hs hd i hi), HR.out.below (HB.out.trans (hW.mono (Nat.le_succ _)))⟩
        have HS := Lib.hid (And.intro hs hd)
        have HLT := Lib.hid hlt1
        have HBZ : Hid (w.heap.size + 1 ≤ V.heap.size) := Nat.le_trans hlt1 BB.out.size
        have HL1 : Hid (H.length + 4 ≤ 140737488355328) := by show H.length + 4 ≤ _; rw [hH]; decide
        have HL2 : Hid ((H ++ f.src).length + 4 ≤ 140737488355328) := by show (H ++ f.src).length + 4 ≤ _; rw [List.length_append, hH, hs]; decide
        have HL3 : Hid ((H ++ f.src ++ f.dst).length + n ≤ 140737488355328) := by show (H ++ f.src ++ f.dst).length + n ≤ _; rw [List.length_append, List.length_append, hH, hs, hd]; have := HN.out; omega
        clear eV hHH hs hd bs bd c0 c1 c2 c3 c4 c5 c6 c7 c8 hlt1 hH u0 l0
        go_upto_region 11 with (at_builtin; refine wpList_append_row_any (B := w.heap.size + 1) (W := wr) rfl (.tmp 80) (.tmp 82) rfl rfl rfl rfl O0.out (RS.out _ BB.out).1 BB.out HBZ.out HL1.out ?_; intro v6 w6 ho6 hb6; have O6 := Lib.hid ho6; have B6 := Lib.hid hb6; have Z6 := Lib.hid (Nat.le_trans HLT.out hb6.size); clear ho6 hb6)
        go_upto_region 12 with (at_builtin; refine wpList_append_row_any (B := w.heap.size + 1) (W := wr) rfl (.tmp 84) (.tmp 86) rfl rfl rfl rfl O6.out (RS.out _ B6.out).2.1 B6.out Z6.out HL2.out ?_; intro v7 w7 ho7 hb7; have O7 := Lib.hid ho7; have B7 := Lib.hid hb7; have Z7 := Lib.hid (Nat.le_trans HLT.out hb7.size); clear ho7 hb7)
        go_wp2_with (at_builtin; refine wpList_append_row_any (B := w.heap.size + 1) (W := wr) rfl (.tmp 88) (.tmp 89) rfl rfl rfl rfl O7.out (RS.out _ B7.out).2.2 B7.out Z7.out HL3.out ?_; intro v8 w8 ho8 hb8; have O8 := Lib.hid ho8; have B8 := Lib.hid hb8; clear ho8 hb8)
        all_goals
          go_ret2
          exact ⟨HB.out.trans (B8.out.mono (Nat.le_succ _)), fun h => absurd HF.out h, fun _ h => absurd (by rw [HE0.out]; exact HNE.out) h, fun _ _ => ⟨_, rfl, by rw [HBY.out]; exact O8.out.mono (Nat.le_succ _)⟩⟩
      · have HP : Hid (WriteIs f n os w (.returned (.tuple #[.slice none 0 0, .int .i64 2])) wr) :=
          ⟨HB.out, fun h => absurd HF.out h, fun _ _ => rfl, fun _ h => by rw [HE0.out] at h; exact absurd h hne⟩
        have hnb : ((n : Int) != 4 * (a0 : Int) - 20) = true := bne_iff_ne.2 hne
        clear hne
        go_wp2_with fail
        go_ret2
        exact HP.out
end Go.Proofs.YtmchclpkjjmocaaGreat
