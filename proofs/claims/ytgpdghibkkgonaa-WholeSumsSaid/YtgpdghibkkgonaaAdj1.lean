/-
  Contracts of adjust's Clean, Word, Words and of the document's.
-/
import Derived.Test.YtgpdghibkkgonaaOne2
import Derived.Test.YtgpdghibkkgonaaOLift
import Derived.Deep.RegionHeld3
namespace Go.Proofs.Ytgpdghibkkgonaa
open Go.RowKit
set_option linter.unusedVariables false

/-- A checksum, 0 in the place of FFFF. -/
def oclean (c : Nat) : Nat := if c = 65535 then 0 else c
theorem oclean_le {c : Nat} (h : c ≤ 65535) : oclean c ≤ 65535 := by unfold oclean; split <;> omega
/-- A checksum made up for one word. -/
def oword (c o n : Nat) : Nat := 65535 - orest (65535 - c + (65535 - o) + n)
theorem oword_le (c o n : Nat) : oword c o n ≤ 65535 := by unfold oword; omega
/-- .. for the first k words. -/
def owordsTo (c : Nat) (os ns : List Nat) : Nat → Nat
  | 0 => c
  | k + 1 => oword (owordsTo c os ns k) (os.getD k 0) (ns.getD k 0)
theorem owordsTo_le {c : Nat} (os ns : List Nat) (k : Nat) (h : c ≤ 65535) : owordsTo c os ns k ≤ 65535 := by
  cases k with
  | zero => exact h
  | succ k => exact oword_le _ _ _
theorem osum_take (ws : List Nat) (k : Nat) (h : k < ws.length) : osum (ws.take (k + 1)) = orest (osum (ws.take k) + ws.getD k 0) := by
  rw [take_succ_getD ws k h, osum_snoc]
theorem osum_three (a b c : Nat) : osum [a, b, c] = orest (a + b + c) := by
  show orest (orest (orest (0 + a) + b) + c) = _
  rw [orest_left, Nat.add_assoc, orest_left]
  congr 1
  omega

theorem sub_u16 {x y : Nat} (h : x ≤ 65535) (e : y = 65535 - x) : IntKind.u16.wrap (65535 - (x : Int)) = (y : Int) := by
  show (65535 - (x : Int)) % 65536 = _
  omega
theorem clean_any (c : Nat) (w : World) (hc : c ≤ 65535) : Calls Try.prog 44 #[.int .u16 c] w fun e w' => e = .returned (.int .u16 (oclean c : Nat)) ∧ w = w' := by
  by_cases h : c = 65535
  · subst h
    go_enter Try.func44, Try.ntmps44
    go_wp2_with fail
    go_ret
    exact ⟨rfl, rfl⟩
  · have q : ((c : Int) == 65535) = false := by simp; omega
    have e : oclean c = c := if_neg h
    rw [e]
    clear e h
    go_enter Try.func44, Try.ntmps44
    go_wp2_with fail
    go_ret
    exact ⟨rfl, rfl⟩
theorem rclean_any (c : Nat) (w : World) (hc : c ≤ 65535) : Calls Try.prog 45 #[.int .u16 c] w fun e w' => e = .returned (.int .u16 (oclean c : Nat)) ∧ w = w' := by
  by_cases h : c = 65535
  · subst h
    go_enter Try.func45, Try.ntmps45
    go_wp2_with fail
    go_ret
    exact ⟨rfl, rfl⟩
  · have q : ((c : Int) == 65535) = false := by simp; omega
    have e : oclean c = c := if_neg h
    rw [e]
    clear e h
    go_enter Try.func45, Try.ntmps45
    go_wp2_with fail
    go_ret
    exact ⟨rfl, rfl⟩

theorem asum_any (A : Option Addr) (n cap : Nat) (ws : List Nat) (w : World) (hn : n ≤ 140737488355328) (hA : Row16 w A n ws) :
    Calls Try.prog 68 #[.slice A n cap] w fun e w' => e = .returned (.int .u16 (osum ws : Nat)) ∧ w = w' := by
  have hlen := hA.1
  have hw := hA.2.1
  go_enter Try.func68, Try.ntmps68
  go_wp2_with fail
  go_loop [3, 8] (fun v j => ∃ k s : Nat, k ≤ n ∧ Hid (s = osum (ws.take k)) ∧ j = .int .i64 k ∧ v = .int .u16 s) (fun _ j => n - (intOf j).toNat)
  case atStart => exact ⟨0, 0, Nat.zero_le _, rfl, rfl, rfl⟩
  case round =>
    obtain ⟨k, s, hk, hs, rfl, rfl⟩ := hrel
    have hsl : s ≤ 65535 := by rw [hs.out]; exact osum_le _ fun x hx => hw x (List.mem_of_mem_take hx)
    by_cases hlt : k < n
    · obtain ⟨b, o, rfl, hb, hc⟩ := hA.addr (by omega)
      have hv := hc k hlt
      clear hc
      have hx := hA.word k
      obtain ⟨x, hxe⟩ : ∃ x, x = ws.getD k 0 := ⟨_, rfl⟩
      rw [← hxe] at hv hx
      have hst := osum_take ws k (by omega)
      rw [← hxe, ← hs.out] at hst
      have HST := Lib.hid hst
      have C := Lib.hid (fun w => oadd_any s x w hsl hx)
      clear hst hxe
      go_wp2_with fail
      refine (C.out _).mono ?_
      rintro e w' ⟨rfl, rfl⟩
      go_wp2_with fail
      go_round
      case rel => exact ⟨k + 1, orest (s + x), by omega, HST.out.symm, by go_num, rfl⟩
      case measure => simp [intOf]; omega
    · obtain rfl : k = n := by omega
      have e : s = osum ws := by rw [hs.out, take_beyond ws k (by omega)]
      have E := Lib.hid e
      clear e hsl
      go_wp2_with fail
      go_ret
      exact ⟨by rw [E.out]; rfl, rfl⟩

theorem row16_three (w : World) (x y z : Nat) (hx : x ≤ 65535) (hy : y ≤ 65535) (hz : z ≤ 65535) : Row16 (w.alloc (.cells #[.int .u16 x, .int .u16 y, .int .u16 z] 37)) (some ⟨w.heap.size, 0, none⟩) 3 [x, y, z] :=
  Row16.mk rfl (by simp; omega) fun i hi => by
    rw [Nat.zero_add, cell_of_row _ w.heap.size i _ _ _ (heap_alloc_new w _)]
    match i, hi with
    | 0, _ => rfl
    | 1, _ => rfl
    | 2, _ => rfl
theorem word_any (c o n : Nat) (w : World) (hc : c ≤ 65535) (ho : o ≤ 65535) (hn : n ≤ 65535) :
    Calls Try.prog 46 #[.int .u16 c, .int .u16 o, .int .u16 n] w fun e w' => e = .returned (.int .u16 (oword c o n : Nat)) ∧ Below w.heap.size w w' := by
  obtain ⟨x, hx⟩ : ∃ x, x = 65535 - c := ⟨_, rfl⟩
  obtain ⟨y, hy⟩ : ∃ y, y = 65535 - o := ⟨_, rfl⟩
  obtain ⟨r, hr⟩ : ∃ r, r = orest (x + y + n) := ⟨_, rfl⟩
  have hrl : r ≤ 65535 := by rw [hr]; exact orest_le _
  have e0 : oword c o n = 65535 - r := by unfold oword; rw [hr, hx, hy]
  have E := Lib.hid e0
  have e1 : IntKind.u16.wrap (65535 - (c : Int)) = (x : Int) := sub_u16 hc hx
  have e2 : IntKind.u16.wrap (65535 - (o : Int)) = (y : Int) := sub_u16 ho hy
  have e3 : IntKind.u16.wrap (65535 - (r : Int)) = ((65535 - r : Nat) : Int) := sub_u16 hrl rfl
  have C : Hid (∀ w : World, Calls Try.prog 68 #[.slice (some ⟨w.heap.size, 0, none⟩) 3 3] (w.alloc (.cells #[.int .u16 x, .int .u16 y, .int .u16 n] 37)) fun e w' => e = .returned (.int .u16 r) ∧ w.alloc (.cells #[.int .u16 x, .int .u16 y, .int .u16 n] 37) = w') := fun w => by
    have h := asum_any (some ⟨w.heap.size, 0, none⟩) 3 3 [x, y, n] _ (by decide) (row16_three w x y n (by omega) (by omega) hn)
    rw [osum_three, ← hr] at h
    exact h
  clear e0 hr hx hy
  go_enter Try.func46, Try.ntmps46
  go_wp2_with fail
  refine (C.out _).mono ?_
  rintro e w' ⟨rfl, rfl⟩
  go_wp2_with fail
  go_ret
  exact ⟨by rw [E.out]; rfl, (Below.refl _ _).alloc (Nat.le_refl _) _⟩
theorem rword_any (c o n : Nat) (w : World) (hc : c ≤ 65535) (ho : o ≤ 65535) (hn : n ≤ 65535) :
    Calls Try.prog 47 #[.int .u16 c, .int .u16 o, .int .u16 n] w fun e w' => e = .returned (.int .u16 (oword c o n : Nat)) ∧ w = w' := by
  obtain ⟨x, hx⟩ : ∃ x, x = 65535 - c := ⟨_, rfl⟩
  obtain ⟨y, hy⟩ : ∃ y, y = 65535 - o := ⟨_, rfl⟩
  obtain ⟨q, hq⟩ : ∃ q, q = orest (x + y) := ⟨_, rfl⟩
  obtain ⟨r, hr⟩ : ∃ r, r = orest (q + n) := ⟨_, rfl⟩
  have hql : q ≤ 65535 := by rw [hq]; exact orest_le _
  have hrl : r ≤ 65535 := by rw [hr]; exact orest_le _
  have e0 : oword c o n = 65535 - r := by unfold oword; rw [hr, hq, orest_left, hx, hy]
  have E := Lib.hid e0
  have e1 : IntKind.u16.wrap (65535 - (c : Int)) = (x : Int) := sub_u16 hc hx
  have e2 : IntKind.u16.wrap (65535 - (o : Int)) = (y : Int) := sub_u16 ho hy
  have e3 : IntKind.u16.wrap (65535 - (r : Int)) = ((65535 - r : Nat) : Int) := sub_u16 hrl rfl
  have C1 : Hid (∀ w, Calls Try.prog 33 #[.int .u16 x, .int .u16 y] w fun e w' => e = .returned (.int .u16 q) ∧ w = w') := by
    rw [hq]; exact fun w => rsum2_any x y w (by omega) (by omega)
  have C2 : Hid (∀ w, Calls Try.prog 33 #[.int .u16 q, .int .u16 n] w fun e w' => e = .returned (.int .u16 r) ∧ w = w') := by
    rw [hr]; exact fun w => rsum2_any q n w hql hn
  clear e0 hr hx hy hq
  go_enter Try.func47, Try.ntmps47
  go_wp2_with fail
  refine (C1.out _).mono ?_
  rintro e w' ⟨rfl, rfl⟩
  go_wp2_with fail
  refine (C2.out _).mono ?_
  rintro e w' ⟨rfl, rfl⟩
  go_wp2_with fail
  go_ret
  exact ⟨by rw [E.out]; rfl, rfl⟩
end Go.Proofs.Ytgpdghibkkgonaa
