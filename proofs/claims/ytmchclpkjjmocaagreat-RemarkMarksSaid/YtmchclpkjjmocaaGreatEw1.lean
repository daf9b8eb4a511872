/-
  Contracts of extwalk's Is, unit, Size, piece.
-/
import Derived.Test.YtmchclpkjjmocaaGreatFh1
import Derived.Test.YtmchclpkjjmocaaGreatExts
import Derived.Test.YtmchclpkjjmocaaGreatOct1
namespace Go.Proofs.YtmchclpkjjmocaaGreat
open Go.RowKit
set_option linter.unusedVariables false

/-- The kinds of extension headers. -/
def exKind (k : Int) : Bool := decide (k = 0 ∨ k = 43 ∨ k = 44 ∨ k = 51 ∨ k = 60 ∨ k = 135 ∨ k = 139 ∨ k = 140)
theorem exis_any (k : Int) (w : World) :
    Calls Tryz.prog 100 #[.int .i64 k] w fun e w' => e = .returned (.bool (exKind k)) ∧ w = w' := by
  by_cases h0 : k = 0
  · subst h0
    go_enter Tryz.func100, Tryz.ntmps100
    go_wp2_with fail
    go_ret
    exact ⟨rfl, rfl⟩
  have b0 : (k == 0) = false := beq_false_of_ne h0
  by_cases h1 : k = 44
  · subst h1
    go_enter Tryz.func100, Tryz.ntmps100
    go_wp2_with fail
    go_ret
    exact ⟨rfl, rfl⟩
  have b1 : (k == 44) = false := beq_false_of_ne h1
  by_cases h2 : k = 51
  · subst h2
    go_enter Tryz.func100, Tryz.ntmps100
    go_wp2_with fail
    go_ret
    exact ⟨rfl, rfl⟩
  have b2 : (k == 51) = false := beq_false_of_ne h2
  by_cases h3 : k = 43
  · subst h3
    go_enter Tryz.func100, Tryz.ntmps100
    go_wp2_with fail
    go_ret
    exact ⟨rfl, rfl⟩
  have b3 : (k == 43) = false := beq_false_of_ne h3
  by_cases h4 : k = 60
  · subst h4
    go_enter Tryz.func100, Tryz.ntmps100
    go_wp2_with fail
    go_ret
    exact ⟨rfl, rfl⟩
  have b4 : (k == 60) = false := beq_false_of_ne h4
  by_cases h5 : k = 135
  · subst h5
    go_enter Tryz.func100, Tryz.ntmps100
    go_wp2_with fail
    go_ret
    exact ⟨rfl, rfl⟩
  have b5 : (k == 135) = false := beq_false_of_ne h5
  by_cases h6 : k = 139
  · subst h6
    go_enter Tryz.func100, Tryz.ntmps100
    go_wp2_with fail
    go_ret
    exact ⟨rfl, rfl⟩
  have b6 : (k == 139) = false := beq_false_of_ne h6
  by_cases h7 : k = 140
  · subst h7
    go_enter Tryz.func100, Tryz.ntmps100
    go_wp2_with fail
    go_ret
    exact ⟨rfl, rfl⟩
  have b7 : (k == 140) = false := beq_false_of_ne h7
  have hF : exKind k = false := by unfold exKind; exact decide_eq_false (by omega)
  rw [hF]
  clear hF
  go_enter Tryz.func100, Tryz.ntmps100
  go_wp2_with fail
  go_ret
  exact ⟨rfl, rfl⟩

def exUnit (k : Int) : Nat := if k = 44 then 0 else if k = 51 then 4 else 8
theorem exunit_any (k : Int) (w : World) :
    Calls Tryz.prog 101 #[.int .i64 k] w fun e w' => e = .returned (.int .i64 (exUnit k : Nat)) ∧ w = w' := by
  by_cases h0 : k = 44
  · subst h0
    go_enter Tryz.func101, Tryz.ntmps101
    go_wp2_with fail
    go_ret
    exact ⟨rfl, rfl⟩
  have b0 : (k == 44) = false := beq_false_of_ne h0
  by_cases h1 : k = 51
  · subst h1
    go_enter Tryz.func101, Tryz.ntmps101
    go_wp2_with fail
    go_ret
    exact ⟨rfl, rfl⟩
  have b1 : (k == 51) = false := beq_false_of_ne h1
  have hF : exUnit k = 8 := by unfold exUnit; rw [if_neg h0, if_neg h1]
  rw [hF]
  clear hF
  go_enter Tryz.func101, Tryz.ntmps101
  go_wp2_with fail
  go_ret
  exact ⟨rfl, rfl⟩
theorem exUnit_le (k : Int) : exUnit k ≤ 8 := by
  unfold exUnit
  split
  · omega
  · split <;> omega
/-- How long an extension header of that kind is, where there are n bytes, the second of them x. -/
def exSize (k : Int) (n x : Nat) : Option Nat := if exKind k = true ∧ 8 ≤ n ∧ 8 + exUnit k * x ≤ n then some (8 + exUnit k * x) else none
theorem exSize_some {k : Int} {n x m : Nat} (h : exSize k n x = some m) : exKind k = true ∧ 8 ≤ m ∧ m ≤ n ∧ m = 8 + exUnit k * x := by
  unfold exSize at h
  split at h
  · rename_i h2
    injection h with h
    exact ⟨h2.1, by omega, by omega, h.symm⟩
  · cases h
def SizeIs (r : Option Nat) (w : World) (e : Ending) (w' : World) : Prop := Quiet (.tuple #[.int .i64 (r.getD 0 : Nat), .bool r.isSome]) w e w'
set_option maxRecDepth 10000 in
set_option maxHeartbeats 3200000 in
theorem exsize_any (k : Int) (A : Option Addr) (n c : Nat) (bs : List Nat) (w : World) (hn : n ≤ 140737488355328) (hc : n ≤ c) (hR : Row w A n bs) :
    Calls Tryz.prog 109 #[.int .i64 k, .slice A n c] w (SizeIs (exSize k n (bs.getD 1 0)) w) := by
  have CI := Lib.hid (exis_any k)
  have CU := Lib.hid (exunit_any k)
  have hu := exUnit_le k
  have hx := hR.byte 1
  have nI0 : (0 : Int) ≤ (n : Int) := by omega
  by_cases hk : exKind k = false
  · have hF : exSize k n (bs.getD 1 0) = none := by unfold exSize; rw [if_neg (by rw [hk]; simp)]
    rw [hF]
    rw [hk] at CI
    clear hR hF hk
    go_enter Tryz.func109, Tryz.ntmps109
    go_wp2_with fail
    refine (CI.out _).mono ?_
    rintro e w' ⟨rfl, rfl⟩
    go_wp2_with fail
    go_ret2
    exact ⟨rfl, 0, rfl⟩
  have hk : exKind k = true := by simpa using hk
  by_cases h8 : n < 8
  · have hF : exSize k n (bs.getD 1 0) = none := by unfold exSize; rw [if_neg (by omega)]
    rw [hF]
    rw [hk] at CI
    have nI : (n : Int) < 8 := by omega
    clear hR hF hk h8
    go_enter Tryz.func109, Tryz.ntmps109
    go_wp2_with fail
    refine (CI.out _).mono ?_
    rintro e w' ⟨rfl, rfl⟩
    go_wp2_with fail
    go_ret2
    exact ⟨rfl, 0, rfl⟩
  obtain ⟨b, o, rfl, hb, hcell⟩ := hR.addr (by omega)
  have c1 := hcell 1 (by omega)
  have HFS : Hid (exSize k n (bs.getD 1 0) = if 8 + exUnit k * bs.getD 1 0 ≤ n then some (8 + exUnit k * bs.getD 1 0) else none) := by
    show _ = _
    unfold exSize
    by_cases h : 8 + exUnit k * bs.getD 1 0 ≤ n
    · rw [if_pos ⟨hk, by omega, h⟩, if_pos h]
    · rw [if_neg (fun h2 => h h2.2.2), if_neg h]
  rw [hk] at CI
  rw [HFS.out]
  generalize bs.getD 1 0 = x at *
  generalize exUnit k = u at *
  have hux : u * x ≤ 2040 := Nat.le_trans (Nat.mul_le_mul hu (show x ≤ 255 by omega)) (by decide)
  obtain ⟨p, hp⟩ : ∃ p, p = u * x := ⟨_, rfl⟩
  have i1 : IntKind.i64.wrap ((u : Int) * (x : Int)) = (p : Int) := by
    have e : (u : Int) * (x : Int) = (p : Int) := by rw [hp]; simp
    rw [e]
    exact IntWalk.i64_in _ (by omega)
  have i2 : IntKind.i64.wrap (8 + (p : Int)) = ((8 + p : Nat) : Int) := by
    rw [IntWalk.i64_in _ (by omega)]
    omega
  have i3 : IntKind.i64.wrap (x : Int) = (x : Int) := IntWalk.i64_in _ (by omega)
  rw [← hp]
  have nI : ¬ (n : Int) < 8 := by omega
  have n1 : (1 : Int) < (n : Int) := by omega
  obtain ⟨m, hm⟩ : ∃ m, m = 8 + p := ⟨_, rfl⟩
  rw [← hm] at i2 ⊢
  clear hux hp hR hk h8 hcell hb hu hx hm HFS
  by_cases hmn : m ≤ n
  · rw [if_pos hmn]
    have mI : (m : Int) ≤ (n : Int) := by omega
    clear hmn
    go_enter Tryz.func109, Tryz.ntmps109
    go_wp2_with fail
    refine (CI.out _).mono ?_
    rintro e w' ⟨rfl, rfl⟩
    go_upto_region 3 with fail
    go_quiet ((go_at_call 101; exact quiet_eq (CU.out _)))
    go_wp2_with fail
    go_ret2
    exact ⟨rfl, nq, rfl⟩
  · rw [if_neg hmn]
    have mI : (n : Int) < (m : Int) := by omega
    clear hmn
    go_enter Tryz.func109, Tryz.ntmps109
    go_wp2_with fail
    refine (CI.out _).mono ?_
    rintro e w' ⟨rfl, rfl⟩
    go_upto_region 3 with fail
    go_quiet ((go_at_call 101; exact quiet_eq (CU.out _)))
    go_wp2_with fail
    go_ret2
    exact ⟨rfl, nq, rfl⟩
/-- What a fragment header tells: its offset, and what fragment it is. -/
def exOff (hd : List Nat) : Nat := fhw hd 2 / 8
def exFrag (hd : List Nat) : Nat := if exOff hd ≠ 0 then 2 else if fhw hd 2 % 2 = 1 then 1 else 0
set_option maxRecDepth 10000 in
set_option maxHeartbeats 3200000 in
theorem expiece_any (A : Option Addr) (n c : Nat) (hd : List Nat) (w : World) (h4 : 4 ≤ n) (hn : n ≤ 140737488355328) (hc : n ≤ c) (hR : Row w A n hd) :
    Calls Tryz.prog 111 #[.slice A n c] w (Quiet (.tuple #[.int .i64 (exOff hd : Nat), .int .i64 (exFrag hd : Nat)]) w) := by
  have C := Lib.hid (get_ok A n c 2 2 hd w (by omega) hc (by decide) (by decide) (by omega) hR)
  rw [be_two hd 2 (by rw [hR.1]; exact h4)] at C
  have E : hd.getD 2 0 * 256 + hd.getD (2 + 1) 0 = fhw hd 2 := rfl
  rw [E] at C
  clear E
  have hx := fhw_lt hR.byte 2
  have HO : Hid (exOff hd = fhw hd 2 / 8) := rfl
  have HF : Hid (exFrag hd = if fhw hd 2 / 8 ≠ 0 then 2 else if fhw hd 2 % 2 = 1 then 1 else 0) := rfl
  rw [HO.out, HF.out]
  generalize fhw hd 2 = x at *
  have B1 := Lib.hid (fun w => bits_ok x 3 13 w (by omega) (by decide) (by decide))
  have B2 := Lib.hid (fun w => bits_ok x 0 1 w (by omega) (by decide) (by decide))
  have e1 : x / 2 ^ 3 % 2 ^ 13 = x / 8 := by
    show x / 8 % 8192 = _
    omega
  have e2 : x / 2 ^ 0 % 2 ^ 1 = x % 2 := by
    show x / 1 % 2 = _
    omega
  rw [e1] at B1
  rw [e2] at B2
  unfold Quiet at B1 B2
  obtain ⟨q, hq⟩ : ∃ q, q = x / 8 := ⟨_, rfl⟩
  obtain ⟨r, hr⟩ : ∃ r, r = x % 2 := ⟨_, rfl⟩
  have ql : q < 8192 := by omega
  have rl : r < 2 := by omega
  rw [← hq, ← hr]
  rw [← hq] at B1
  rw [← hr] at B2
  have i1 : wrap64 (q : Int) = (q : Int) := by unfold wrap64; omega
  clear hR hx e1 e2 HO HF hq hr
  by_cases h0 : q ≠ 0
  · have q0 : ((q : Int) != 0) = true := bne_iff_ne.2 (by omega)
    rw [if_pos h0]
    clear h0
    go_enter Tryz.func111, Tryz.ntmps111
    go_wp2_with fail
    refine C.out.mono ?_
    rintro e w' ⟨rfl, rfl⟩
    go_wp2_with fail
    refine (B1.out _).mono ?_
    rintro e w' ⟨rfl, n1, rfl⟩
    go_wp2_with fail
    go_ret2
    exact ⟨rfl, n1, rfl⟩
  · obtain rfl : q = 0 := by omega
    rw [if_neg h0]
    clear h0
    by_cases h1 : r = 1
    · subst h1
      go_enter Tryz.func111, Tryz.ntmps111
      go_wp2_with fail
      refine C.out.mono ?_
      rintro e w' ⟨rfl, rfl⟩
      go_wp2_with fail
      refine (B1.out _).mono ?_
      rintro e w' ⟨rfl, n1, rfl⟩
      go_wp2_with fail
      refine (B2.out _).mono ?_
      rintro e w' ⟨rfl, n2, rfl⟩
      go_wp2_with fail
      go_ret2
      exact ⟨rfl, n1 + n2, rfl⟩
    · obtain rfl : r = 0 := by omega
      go_enter Tryz.func111, Tryz.ntmps111
      go_wp2_with fail
      refine C.out.mono ?_
      rintro e w' ⟨rfl, rfl⟩
      go_wp2_with fail
      refine (B1.out _).mono ?_
      rintro e w' ⟨rfl, n1, rfl⟩
      go_wp2_with fail
      refine (B2.out _).mono ?_
      rintro e w' ⟨rfl, n2, rfl⟩
      go_wp2_with fail
      go_ret2
      exact ⟨rfl, n1 + n2, rfl⟩
end Go.Proofs.YtmchclpkjjmocaaGreat
