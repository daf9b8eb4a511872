/-
  The document's Unlike: two rows of bytes, bit by bit by halving.
  The document's Mark.
  The walk of the statement RemarkMarks.
-/
import Derived.Test.YtmchclpkjjmocaaGreatRm3
import Derived.Test.YtmchclpkjjmocaaGreatRPk6
import Derived.Test.YtmchclpkjjmocaaGreatRFh4
import Derived.Test.YtmchclpkjjmocaaGreatAgree1
namespace Go.Proofs.YtmchclpkjjmocaaGreat
open Go.RowKit
set_option linter.unusedVariables false
set_option maxRecDepth 8000

theorem xor_bit (x y t : Nat) : (x ^^^ y) / 2 ^ t % 2 = if x / 2 ^ t % 2 = y / 2 ^ t % 2 then 0 else 1 := by
  have h := Nat.testBit_xor x y t
  rw [Nat.testBit_eq_decide_div_mod_eq, Nat.testBit_eq_decide_div_mod_eq, Nat.testBit_eq_decide_div_mod_eq] at h
  rcases Nat.mod_two_eq_zero_or_one (x / 2 ^ t) with a | a <;> rcases Nat.mod_two_eq_zero_or_one (y / 2 ^ t) with b | b <;> rcases Nat.mod_two_eq_zero_or_one ((x ^^^ y) / 2 ^ t) with u | u <;> rw [a, b, u] at h <;> rw [a, b, u] <;> simp at h ⊢
theorem pop_rest {x y t : Nat} (h : x / 2 ^ t = y / 2 ^ t) : ∀ k, popF (x ^^^ y) (t + k) = popF (x ^^^ y) t
  | 0 => rfl
  | k + 1 => by
    have e : x / 2 ^ (t + k) = y / 2 ^ (t + k) := by rw [Nat.pow_add, ← Nat.div_div_eq_div_mul, ← Nat.div_div_eq_div_mul, h]
    show popF _ (t + k) + (x ^^^ y) / 2 ^ (t + k) % 2 = _
    rw [pop_rest h k, xor_bit, if_pos (by rw [e]), Nat.add_zero]
theorem half_pow (x t : Nat) : x / 2 ^ t / 2 = x / 2 ^ (t + 1) := by rw [Nat.div_div_eq_div_mul, Nat.pow_succ]
theorem unF_comm (a b : List Nat) : ∀ k, unF a b k = unF b a k
  | 0 => rfl
  | k + 1 => by
    show unF a b k + popF (a.getD k 0 ^^^ b.getD k 0) 8 = unF b a k + popF (b.getD k 0 ^^^ a.getD k 0) 8
    rw [unF_comm a b k, Nat.xor_comm]
theorem pop_step {x y t b : Nat} (hb : b = if x / 2 ^ t % 2 = y / 2 ^ t % 2 then 0 else 1) : popF (x ^^^ y) (t + 1) = popF (x ^^^ y) t + b := by
  show popF _ t + (x ^^^ y) / 2 ^ t % 2 = _
  rw [xor_bit, hb]
theorem run_eight {x y t : Nat} (hx : x < 256) (hy : y < 256) (ht : t ≤ 8) (h : x / 2 ^ t ≠ y / 2 ^ t) : t < 8 := by
  rcases Nat.lt_or_ge t 8 with h8 | h8
  · exact h8
  · obtain rfl : t = 8 := by omega
    exact absurd (by rw [Nat.div_eq_of_lt hx, Nat.div_eq_of_lt hy]) h
theorem run_meas {x y : Nat} (h : x ≠ y) : (intOf (.int .u8 ((x / 2 : Nat) : Int))).toNat + (intOf (.int .u8 ((y / 2 : Nat) : Int))).toNat < (intOf (.int .u8 (x : Int))).toNat + (intOf (.int .u8 (y : Int))).toNat := by
  have e : ∀ j : Nat, (intOf (.int .u8 (j : Int))).toNat = j := fun j => rfl
  rw [e, e, e, e]
  omega
theorem run_start {n m D S : Nat} (hn : n ≤ 140737488355328) (hm : m ≤ n) (hD : D = n - m) (hS : S = 8 * D) : wrap64 ((n : Int) - (m : Int)) = (D : Int) ∧ wrap64 (8 * (D : Int)) = (S : Int) ∧ S ≤ 8 * (n + m) ∧ n + m ≤ 281474976710656 := ⟨by unfold wrap64; omega, by unfold wrap64; omega, by omega, by omega⟩
theorem run_ne {x y : Nat} (h : x ≠ y) : ((x : Int) != (y : Int)) = true := by rw [bne_iff_ne]; omega
theorem run_bits {x y : Nat} (h : ¬ x % 2 = y % 2) : ((x : Int) % 2 != (y : Int) % 2) = true := by rw [bne_iff_ne]; omega
theorem run_same {x y : Nat} (h : x % 2 = y % 2) : ((x : Int) % 2 != (y : Int) % 2) = false := by
  have e : (x : Int) % 2 = (y : Int) % 2 := by omega
  rw [e]
  simp
theorem run_one {y : Nat} (h : y ≤ 9007199254740992) : wrap64 ((y : Int) + 1) = ((y + 1 : Nat) : Int) := by unfold wrap64; omega
theorem run_mod {x t x1 : Nat} (hx : x < 256) (h : x1 = x / 2 ^ t) : ((x1 / 2 : Nat) : Int) % 256 = ((x1 / 2 : Nat) : Int) := by
  have := Nat.div_le_self x (2 ^ t)
  omega
theorem run_half (x : Nat) : (x : Int) / 2 = ((x / 2 : Nat) : Int) := by omega
set_option maxHeartbeats 3200000 in
theorem runlike_long (A B : Option Addr) (n c m d U S D : Nat) (xs ys : List Nat) (w : World) (hn : n ≤ 140737488355328) (hmn : m ≤ n) (hA : Row w A n xs) (hB : Row w B m ys) (hD : D = n - m) (hS : S = 8 * D) (HU : Hid (U = S + unF xs ys m)) :
    Calls Tryz.prog 10 #[.slice A n c, .slice B m d] w fun e w' => e = .returned (.int .i64 (U : Nat)) ∧ ∃ q, w' = w.drewN q := by
  obtain ⟨s1, s2, s3, s4⟩ := run_start hn hmn hD hS
  have HR1 := Lib.hid hA
  have HR2 := Lib.hid hB
  have HK : Hid (m ≤ n ∧ m ≤ m) := ⟨hmn, Nat.le_refl _⟩
  have HSL : Hid (S ≤ 8 * (n + m) ∧ n + m ≤ 281474976710656) := ⟨s3, s4⟩
  have hnl : ¬ (n : Int) < (m : Int) := by omega
  have hnl2 : ¬ n < m := by omega
  clear hA hB hn hmn hD hS s3 s4
  go_enter Tryz.func10, Tryz.ntmps10
  go_upto_region 3 with fail
  clear hnl hnl2
  go_wp2_with fail
  rw [s2]
  clear s1 s2
  go_loopw [5, 6] (fun a j W => ∃ i z : Nat, i ≤ m ∧ j = .int .i64 (i : Nat) ∧ a = .int .i64 (z : Nat) ∧ Hid (z = S + unF xs ys i) ∧ ∃ q, W = w.drewN q) (fun _ j _ => m - (intOf j).toNat)
  case atStart => exact ⟨0, S, Nat.zero_le _, rfl, rfl, rfl, 0, rfl⟩
  case round =>
    obtain ⟨i, z, hik, rfl, rfl, HZ, q, hq⟩ := hrel
    have RA : Row wr A n xs := by rw [hq]; exact HR1.out.drewN q
    have RB : Row wr B m ys := by rw [hq]; exact HR2.out.drewN q
    have HQ := Lib.hid hq
    clear hq
    by_cases hlt : i < m
    · obtain ⟨b, o, rfl, _, hca⟩ := RA.addr (un_pos hlt HK.out.1)
      obtain ⟨b2, o2, rfl, _, hcb⟩ := RB.addr (un_pos hlt HK.out.2)
      have ca := hca i (Nat.lt_of_lt_of_le hlt HK.out.1)
      have cb := hcb i (Nat.lt_of_lt_of_le hlt HK.out.2)
      have hx := HR1.out.byte i
      have hy := HR2.out.byte i
      have HN : Hid (unF xs ys (i + 1) = unF xs ys i + popF (xs.getD i 0 ^^^ ys.getD i 0) 8) := rfl
      obtain ⟨x, hxe⟩ : ∃ x, x = xs.getD i 0 := ⟨_, rfl⟩
      obtain ⟨y, hye⟩ : ∃ x, x = ys.getD i 0 := ⟨_, rfl⟩
      rw [← hxe] at ca hx HN
      rw [← hye] at cb hy HN
      obtain ⟨iI, jI, kI, i0, wi⟩ := un_step hlt HK.out HSL.out.2
      have HIK := Lib.hid (And.intro hik hlt)
      have HXY : Hid (x < 256 ∧ y < 256) := ⟨hx, hy⟩
      clear hca hcb hx hy hxe hye hik hlt RA RB
      go_upto_region 7 with fail
      go_quiet (fail)
      clear ca cb
      go_wp2_with fail
      go_loop [5, 7, 8] (fun a X Y => ∃ t v x1 y1 : Nat, a = .int .i64 (v : Nat) ∧ X = .int .u8 (x1 : Nat) ∧ Y = .int .u8 (y1 : Nat) ∧ Hid (t ≤ 8 ∧ x1 = x / 2 ^ t ∧ y1 = y / 2 ^ t ∧ v = z + popF (x ^^^ y) t)) (fun _ X Y => (intOf X).toNat + (intOf Y).toNat)
      case atStart => exact ⟨0, z, x, y, rfl, rfl, rfl, by decide, by rw [Nat.pow_zero, Nat.div_one], by rw [Nat.pow_zero, Nat.div_one], rfl⟩
      case round =>
        obtain ⟨t, v, x1, y1, rfl, rfl, rfl, HT⟩ := hrel
        by_cases heq : x1 = y1
        · have HZ2 : Hid (v = S + unF xs ys (i + 1)) := by
            obtain ⟨h1, h2, h3, h4⟩ := HT.out
            show _ = _
            have e := pop_rest (x := x) (y := y) (t := t) (by rw [← h2, ← h3]; exact heq) (8 - t)
            rw [Nat.add_sub_cancel' h1] at e
            rw [h4, HZ.out, HN.out, e, Nat.add_assoc]
          subst heq
          go_wp2_with fail
          go_roundw
          case rel => exact ⟨i + 1, v, Nat.succ_le_of_lt HIK.out.2, by go_num, rfl, HZ2.out, q + nq, by rw [HQ.out]; simp [World.drewN, Nat.add_assoc]⟩
          case measure =>
            rw [wi]
            exact un_meas2 HIK.out.2
        · have h8 : t < 8 := run_eight HXY.out.1 HXY.out.2 HT.out.1 (by rw [← HT.out.2.1, ← HT.out.2.2.1]; exact heq)
          have hne := run_ne heq
          have hpl := popF_le (x ^^^ y) t
          have hul := unF_le xs ys i
          have hvb : v ≤ 9007199254740992 := un_small HT.out.2.2.2 HZ.out HSL.out HIK.out HK.out hpl hul h8
          have w1 := run_one hvb
          have d1 := Lib.hid (run_half x1)
          have d2 := Lib.hid (run_half y1)
          have e1 := run_mod HXY.out.1 HT.out.2.1
          have e2 := run_mod HXY.out.2 HT.out.2.2.1
          have HX2 : Hid (x1 / 2 = x / 2 ^ (t + 1) ∧ y1 / 2 = y / 2 ^ (t + 1)) := ⟨by rw [HT.out.2.1, half_pow], by rw [HT.out.2.2.1, half_pow]⟩
          have HME := Lib.hid (run_meas heq)
          have H8 : Hid (t + 1 ≤ 8) := h8
          by_cases hb : x1 % 2 = y1 % 2
          · have hb2 := run_same hb
            have HV : Hid (v = z + popF (x ^^^ y) (t + 1)) := by
              show _ = _
              rw [pop_step (b := 0) (by rw [← HT.out.2.1, ← HT.out.2.2.1, if_pos hb]), Nat.add_zero]
              exact HT.out.2.2.2
            clear heq hb hpl hul hvb h8 HT
            go_wp2_with fail
            go_round
            case rel => exact ⟨t + 1, v, x1 / 2, y1 / 2, by go_num, by first | rfl | rw [e1], by first | rfl | rw [e2], H8.out, HX2.out.1, HX2.out.2, HV.out⟩
            case measure =>
              first
              | exact HME.out
              | (rw [d1.out, d2.out]; exact HME.out)
              | (rw [e1, e2]; exact HME.out)
          · have hb2 := run_bits hb
            have HV : Hid (v + 1 = z + popF (x ^^^ y) (t + 1)) := by
              show _ = _
              rw [pop_step (b := 1) (by rw [← HT.out.2.1, ← HT.out.2.2.1, if_neg hb]), HT.out.2.2.2, Nat.add_assoc]
            clear heq hb hpl hul hvb h8 HT
            go_wp2_with fail
            go_round
            case rel => exact ⟨t + 1, v + 1, x1 / 2, y1 / 2, by go_num, by first | rfl | rw [e1], by first | rfl | rw [e2], H8.out, HX2.out.1, HX2.out.2, HV.out⟩
            case measure =>
              first
              | exact HME.out
              | (rw [d1.out, d2.out]; exact HME.out)
              | (rw [e1, e2]; exact HME.out)
    · have hik2 : i = m := Nat.le_antisymm hik (Nat.le_of_not_lt hlt)
      subst hik2
      have HO : Hid (U = z) := by show _ = _; rw [HU.out, HZ.out]
      clear RA RB hlt hik
      go_wp2_with fail
      go_ret
      exact ⟨congrArg (fun z : Nat => Ending.returned (.int .i64 (z : Int))) HO.out.symm, q, HQ.out⟩
set_option maxHeartbeats 3200000 in
theorem runlike_short (A B : Option Addr) (n c m d U S D : Nat) (xs ys : List Nat) (w : World) (hm : m ≤ 140737488355328) (hmn : n < m) (hA : Row w A n xs) (hB : Row w B m ys) (hD : D = m - n) (hS : S = 8 * D) (HU : Hid (U = S + unF ys xs n)) :
    Calls Tryz.prog 10 #[.slice A n c, .slice B m d] w fun e w' => e = .returned (.int .i64 (U : Nat)) ∧ ∃ q, w' = w.drewN q := by
  obtain ⟨s1, s2, s3, s4⟩ := run_start hm (Nat.le_of_lt hmn) hD hS
  have HR1 := Lib.hid hB
  have HR2 := Lib.hid hA
  have HK : Hid (n ≤ m ∧ n ≤ n) := ⟨Nat.le_of_lt hmn, Nat.le_refl _⟩
  have HSL : Hid (S ≤ 8 * (m + n) ∧ m + n ≤ 281474976710656) := ⟨s3, s4⟩
  have hnl : (n : Int) < (m : Int) := by omega
  have hnl2 : n < m := hmn
  clear hA hB hm hmn hD hS s3 s4
  go_enter Tryz.func10, Tryz.ntmps10
  go_upto_region 3 with fail
  clear hnl hnl2
  go_wp2_with fail
  rw [s2]
  clear s1 s2
  go_loopw [5, 6] (fun a j W => ∃ i z : Nat, i ≤ n ∧ j = .int .i64 (i : Nat) ∧ a = .int .i64 (z : Nat) ∧ Hid (z = S + unF ys xs i) ∧ ∃ q, W = w.drewN q) (fun _ j _ => n - (intOf j).toNat)
  case atStart => exact ⟨0, S, Nat.zero_le _, rfl, rfl, rfl, 0, rfl⟩
  case round =>
    obtain ⟨i, z, hik, rfl, rfl, HZ, q, hq⟩ := hrel
    have RA : Row wr B m ys := by rw [hq]; exact HR1.out.drewN q
    have RB : Row wr A n xs := by rw [hq]; exact HR2.out.drewN q
    have HQ := Lib.hid hq
    clear hq
    by_cases hlt : i < n
    · obtain ⟨b, o, rfl, _, hca⟩ := RA.addr (un_pos hlt HK.out.1)
      obtain ⟨b2, o2, rfl, _, hcb⟩ := RB.addr (un_pos hlt HK.out.2)
      have ca := hca i (Nat.lt_of_lt_of_le hlt HK.out.1)
      have cb := hcb i (Nat.lt_of_lt_of_le hlt HK.out.2)
      have hx := HR1.out.byte i
      have hy := HR2.out.byte i
      have HN : Hid (unF ys xs (i + 1) = unF ys xs i + popF (ys.getD i 0 ^^^ xs.getD i 0) 8) := rfl
      obtain ⟨x, hxe⟩ : ∃ x, x = ys.getD i 0 := ⟨_, rfl⟩
      obtain ⟨y, hye⟩ : ∃ x, x = xs.getD i 0 := ⟨_, rfl⟩
      rw [← hxe] at ca hx HN
      rw [← hye] at cb hy HN
      obtain ⟨iI, jI, kI, i0, wi⟩ := un_step hlt HK.out HSL.out.2
      have HIK := Lib.hid (And.intro hik hlt)
      have HXY : Hid (x < 256 ∧ y < 256) := ⟨hx, hy⟩
      clear hca hcb hx hy hxe hye hik hlt RA RB
      go_upto_region 7 with fail
      go_quiet (fail)
      clear ca cb
      go_wp2_with fail
      go_loop [5, 7, 8] (fun a X Y => ∃ t v x1 y1 : Nat, a = .int .i64 (v : Nat) ∧ X = .int .u8 (x1 : Nat) ∧ Y = .int .u8 (y1 : Nat) ∧ Hid (t ≤ 8 ∧ x1 = x / 2 ^ t ∧ y1 = y / 2 ^ t ∧ v = z + popF (x ^^^ y) t)) (fun _ X Y => (intOf X).toNat + (intOf Y).toNat)
      case atStart => exact ⟨0, z, x, y, rfl, rfl, rfl, by decide, by rw [Nat.pow_zero, Nat.div_one], by rw [Nat.pow_zero, Nat.div_one], rfl⟩
      case round =>
        obtain ⟨t, v, x1, y1, rfl, rfl, rfl, HT⟩ := hrel
        by_cases heq : x1 = y1
        · have HZ2 : Hid (v = S + unF ys xs (i + 1)) := by
            obtain ⟨h1, h2, h3, h4⟩ := HT.out
            show _ = _
            have e := pop_rest (x := x) (y := y) (t := t) (by rw [← h2, ← h3]; exact heq) (8 - t)
            rw [Nat.add_sub_cancel' h1] at e
            rw [h4, HZ.out, HN.out, e, Nat.add_assoc]
          subst heq
          go_wp2_with fail
          go_roundw
          case rel => exact ⟨i + 1, v, Nat.succ_le_of_lt HIK.out.2, by go_num, rfl, HZ2.out, q + nq, by rw [HQ.out]; simp [World.drewN, Nat.add_assoc]⟩
          case measure =>
            rw [wi]
            exact un_meas2 HIK.out.2
        · have h8 : t < 8 := run_eight HXY.out.1 HXY.out.2 HT.out.1 (by rw [← HT.out.2.1, ← HT.out.2.2.1]; exact heq)
          have hne := run_ne heq
          have hpl := popF_le (x ^^^ y) t
          have hul := unF_le ys xs i
          have hvb : v ≤ 9007199254740992 := un_small HT.out.2.2.2 HZ.out HSL.out HIK.out HK.out hpl hul h8
          have w1 := run_one hvb
          have d1 := Lib.hid (run_half x1)
          have d2 := Lib.hid (run_half y1)
          have e1 := run_mod HXY.out.1 HT.out.2.1
          have e2 := run_mod HXY.out.2 HT.out.2.2.1
          have HX2 : Hid (x1 / 2 = x / 2 ^ (t + 1) ∧ y1 / 2 = y / 2 ^ (t + 1)) := ⟨by rw [HT.out.2.1, half_pow], by rw [HT.out.2.2.1, half_pow]⟩
          have HME := Lib.hid (run_meas heq)
          have H8 : Hid (t + 1 ≤ 8) := h8
          by_cases hb : x1 % 2 = y1 % 2
          · have hb2 := run_same hb
            have HV : Hid (v = z + popF (x ^^^ y) (t + 1)) := by
              show _ = _
              rw [pop_step (b := 0) (by rw [← HT.out.2.1, ← HT.out.2.2.1, if_pos hb]), Nat.add_zero]
              exact HT.out.2.2.2
            clear heq hb hpl hul hvb h8 HT
            go_wp2_with fail
            go_round
            case rel => exact ⟨t + 1, v, x1 / 2, y1 / 2, by go_num, by first | rfl | rw [e1], by first | rfl | rw [e2], H8.out, HX2.out.1, HX2.out.2, HV.out⟩
            case measure =>
              first
              | exact HME.out
              | (rw [d1.out, d2.out]; exact HME.out)
              | (rw [e1, e2]; exact HME.out)
          · have hb2 := run_bits hb
            have HV : Hid (v + 1 = z + popF (x ^^^ y) (t + 1)) := by
              show _ = _
              rw [pop_step (b := 1) (by rw [← HT.out.2.1, ← HT.out.2.2.1, if_neg hb]), HT.out.2.2.2, Nat.add_assoc]
            clear heq hb hpl hul hvb h8 HT
            go_wp2_with fail
            go_round
            case rel => exact ⟨t + 1, v + 1, x1 / 2, y1 / 2, by go_num, by first | rfl | rw [e1], by first | rfl | rw [e2], H8.out, HX2.out.1, HX2.out.2, HV.out⟩
            case measure =>
              first
              | exact HME.out
              | (rw [d1.out, d2.out]; exact HME.out)
              | (rw [e1, e2]; exact HME.out)
    · have hik2 : i = n := Nat.le_antisymm hik (Nat.le_of_not_lt hlt)
      subst hik2
      have HO : Hid (U = z) := by show _ = _; rw [HU.out, HZ.out]
      clear RA RB hlt hik
      go_wp2_with fail
      go_ret
      exact ⟨congrArg (fun z : Nat => Ending.returned (.int .i64 (z : Int))) HO.out.symm, q, HQ.out⟩
theorem runlike_any (A B : Option Addr) (n c m d : Nat) (xs ys : List Nat) (w : World) (hn : n ≤ 140737488355328) (hm : m ≤ 140737488355328) (hA : Row w A n xs) (hB : Row w B m ys) :
    Calls Tryz.prog 10 #[.slice A n c, .slice B m d] w fun e w' => e = .returned (.int .i64 (unlike n m xs ys : Nat)) ∧ ∃ q, w' = w.drewN q := by
  by_cases h : n < m
  · refine runlike_short A B n c m d _ (8 * (m - n)) (m - n) xs ys w hm h hA hB rfl rfl ?_
    show unlike n m xs ys = _
    unfold unlike
    rw [Nat.min_eq_left (Nat.le_of_lt h), unF_comm, Nat.sub_self, Nat.zero_add]
  · have h2 := Nat.le_of_not_lt h
    refine runlike_long A B n c m d _ (8 * (n - m)) (n - m) xs ys w hn h2 hA hB rfl rfl ?_
    show unlike n m xs ys = _
    unfold unlike
    rw [Nat.min_eq_right h2, Nat.sub_add_cancel h2]
end Go.Proofs.YtmchclpkjjmocaaGreat

namespace Go.Proofs.YtmchclpkjjmocaaGreat
open Go.RowKit
set_option linter.unusedVariables false
set_option maxRecDepth 8000

theorem tos_six {b0 b1 j f T : Nat} (hj : j < 64) (h1 : b1 < 256) (h6 : b0 / 16 = 6) (hf : f = b0 % 16 * 16 + b1 / 16) (hT : T = 4 * j + f % 4) :
    T < 256 ∧ ∃ T1 O1 T2 T3 T4 O2 : Nat, (T : Int) / 16 = (T1 : Int) ∧ ((96 : Int) + (T1 : Int)) % 256 = (O1 : Int) ∧ O1 = b0 / 16 * 16 + j / 4 ∧ (T : Int) % 16 = (T2 : Int) ∧ ((T2 : Int) * 16) % 256 = (T3 : Int) ∧ (b1 : Int) % 16 = (T4 : Int) ∧ ((T3 : Int) + (T4 : Int)) % 256 = (O2 : Int) ∧ O2 = j % 4 * 64 + b1 % 64 ∧ (T2 : Int) * 16 = (T3 : Int) ∧ (T3 : Int) + (T4 : Int) = (O2 : Int) :=
  ⟨by omega, T / 16, 96 + T / 16, T % 16, T % 16 * 16, b1 % 16, T % 16 * 16 + b1 % 16, by omega, by omega, by omega, by omega, by omega, by omega, by omega, by omega, by omega, by omega⟩
theorem tos_four {b1 j f T : Nat} (hj : j < 64) (h1 : b1 < 256) (hf : f = b1) (hT : T = 4 * j + f % 4) : T < 256 ∧ T = j * 4 + b1 % 4 := ⟨by omega, by omega⟩
theorem rm4_facts {bs : List Nat} {n j : Nat} (hl : bs.length = n) (hn : 20 ≤ n) (hb : ∀ x ∈ bs, x < 256) (hj : j < 64) : (rm4 bs j).length = n ∧ (∀ x ∈ rm4 bs j, x < 256) ∧ (rm4 bs j).getD 0 0 = bs.getD 0 0 ∧ fhdef n (rm4 bs j) = fhdef n bs := by
  have h0 : (rm4 bs j).getD 0 0 = bs.getD 0 0 := by
    unfold rm4
    rw [List.getD_eq_getElem?_getD, List.getElem?_set_ne (by decide), ← List.getD_eq_getElem?_getD]
  refine ⟨by unfold rm4; rw [List.length_set]; exact hl, fun x hx => ?_, h0, by unfold fhdef; rw [h0]⟩
  unfold rm4 at hx
  rcases List.mem_or_eq_of_mem_set hx with h | h
  · exact hb x h
  · omega
set_option maxHeartbeats 6400000 in
theorem rrmmark_any (A : Option Addr) (n c : Nat) (bs : List Nat) (d : Int) (w : World) (hn2 : n ≤ 140737488351232) (hc : n ≤ c) (hR : Row w A n bs) :
    Calls Tryz.prog 6 #[.slice A n c, .int .i64 d] w fun e w' => ∃ v, e = .returned (.tuple #[v, .int .i64 ((rmRes n bs d).1 : Nat), .int .i64 ((rmRes n bs d).2 : Nat)]) ∧ OutIs w.heap.size w' v (rmOut n bs d) ∧ Below w.heap.size w w' := by
  by_cases hd : 0 ≤ d ∧ d < 64
  · obtain ⟨j, rfl⟩ : ∃ j : Nat, d = (j : Nat) := ⟨d.toNat, by omega⟩
    have hj : j < 64 := by omega
    have CI := Lib.hid (fun w => rptis_any (j : Nat) w true (decide_eq_true hd).symm)
    have hres : rmRes n bs (j : Int) = (pkTold n bs, 0) := by unfold rmRes; rw [if_pos hd]
    have hout : rmOut n bs (j : Int) = if pkDefs n bs = [] then rmMark bs j else [] := by unfold rmOut; rw [if_pos hd, Int.toNat_natCast]
    rw [hres, hout]
    have CP := Lib.hid (rpkparse_any A n c bs w hn2 hc hR)
    obtain ⟨Hl, Ho⟩ := pkHead_all hR.1 hR.2.1
    have hlitZ := hd_lit
    obtain ⟨Z, hZ⟩ : ∃ Z, Z = hdCells RZ false 0 0 := ⟨_, rfl⟩
    have hZl : Z.length = 40 := by rw [hZ]; rfl
    rw [← hZ] at hlitZ
    by_cases hD : pkDefs n bs = []
    · rw [if_pos hD]
      have hh := pkHeads_nil hD
      obtain ⟨h20, hcl⟩ := pk_class hR.1 hR.2.1 hD
      obtain ⟨v, hv⟩ : ∃ v, v = (pkRec bs).v := ⟨_, rfl⟩
      have h0 : (pkHead n bs)[0]? = some (.int .i64 (v : Nat)) := by
        unfold pkHead
        rw [if_pos hD, hv]
        rfl
      have hdz := pkTold_nil hD
      rw [hdz] at CP ⊢
      obtain ⟨H, hH⟩ : ∃ H, H = pkHead n bs := ⟨_, rfl⟩
      rw [← hH] at CP Hl Ho h0
      obtain ⟨f, hf⟩ : ∃ f, f = (pkRec bs).field := ⟨_, rfl⟩
      rw [← hv, ← hf] at hcl
      obtain ⟨ec, hec⟩ : ∃ e, e = f % 4 := ⟨_, rfl⟩
      obtain ⟨fq, hfq⟩ : ∃ e, e = f / 4 := ⟨_, rfl⟩
      have CQ : Hid (∀ W, Row W A n bs → Calls Tryz.prog 17 #[.slice A n c] W fun e w' => e = .returned (.tuple #[.int .i64 (fq : Nat), .int .i64 (ec : Nat), .bool true]) ∧ Below W.heap.size W w') := fun W h => by
        have := rpkpoint_any A n c bs W hn2 hc h
        unfold pkPoint at this
        rw [if_pos hD, ← hf, ← hec, ← hfq] at this
        exact this
      obtain ⟨T, hT⟩ : ∃ T, T = 4 * j + ec := ⟨_, rfl⟩
      have hec4 : ec < 4 := by rw [hec]; exact Nat.mod_lt _ (by decide)
      have CJ : Hid (∀ w, Calls Tryz.prog 18 #[.int .i64 (j : Nat), .int .i64 (ec : Nat)] w fun e w' => e = .returned (.tuple #[.int .u8 (T : Nat), .int .i64 0]) ∧ w = w') := fun w => by
        have := rptjoin_any (j : Nat) (ec : Nat) w
        unfold ptJoin at this
        rw [if_pos hd, if_pos ⟨Int.natCast_nonneg _, by omega⟩] at this
        have e : 4 * (j : Int) + (ec : Int) = (T : Int) := by rw [hT]; omega
        rw [e] at this
        exact this
      have HR := Lib.hid hR
      have HN : Hid (n ≤ 140737488355328) := Nat.le_trans hn2 (by decide)
      have hb1 := hR.byte 1
      have hT2 : T = 4 * j + f % 4 := by rw [hT, hec]
      obtain ⟨b, o, rfl, _, hcs⟩ := hR.addr (show 0 < n by omega)
      have cb1 := hcs 1 (by omega)
      have HCB := Lib.hid cb1
      have HBA : Hid (b < w.heap.size) := cell_lt cb1
      have n0 : 0 < bs.length := by rw [hR.1]; omega
      have HN0 := Lib.hid n0
      have H0 := Lib.hid h0
      have hL := hR.1
      have hbb := hR.2.1
      have HL := Lib.hid hL
      rcases hcl with ⟨hv4, hff⟩ | ⟨hv6, hff⟩
      · subst hv4
        have h4 : bs.getD 0 0 / 16 = 4 := by
          rcases pk_four_of hh with ⟨h4, _, _⟩ | ⟨_, _, hr⟩
          · exact h4
          · rw [hr] at hv; cases hv
        have ha : fhall n bs = [] := by
          rcases pk_four_of hh with ⟨_, ha, _⟩ | ⟨_, _, hr⟩
          · exact ha
          · rw [hr] at hv; cases hv
        obtain ⟨hT256, hTe⟩ := tos_four hj hb1 hff hT2
        obtain ⟨r1, r2, r3, r4⟩ := rm4_facts hL h20 hbb hj
        have hdf := (fhall_nil ha).1
        have e : rmMark bs j = fhseal (rm4 bs j) (4 * ((rm4 bs j).getD 0 0 % 16)) := by unfold rmMark; rw [if_pos h4, r3]
        rw [e]
        obtain ⟨M, hM⟩ : ∃ M, M = rm4 bs j := ⟨_, rfl⟩
        have hset : bs.set 1 T = M := by rw [hM, hTe]; rfl
        rw [← hM] at r1 r2 r4 ⊢
        have CS : Hid (∀ (g k : Nat) W, n ≤ k → Row W (some ⟨g, 0, none⟩) n M → Calls Tryz.prog 19 #[.slice (some ⟨g, 0, none⟩) n k] W (SealIs W (fhseal M (4 * (M.getD 0 0 % 16))))) := fun g k W hk h => rfhseal_ok _ n k M W (by omega) hk h (by rw [r4]; exact hdf)
        unfold SealIs at CS
        have HSET := Lib.hid hset
        have HMB := Lib.hid r2
        have HML := Lib.hid r1
        have i1 : (1 : Int) < (n : Int) := by omega
        clear hD hh hv h0 hdz hH hf hec hfq hT hec4 hb1 hT2 hcs cb1 n0 hL hbb hff h4 ha hT256 hTe r1 r2 r3 r4 hdf e hM hset hZ hres hout hj hd hn2 hc hR h20
        go_enter Tryz.func6, Tryz.ntmps6
        go_wp2_with fail
        refine (CI.out _).mono ?_
        rintro e w' ⟨rfl, rfl⟩
        go_wp2_with fail
        refine CP.out.mono ?_
        rintro e w1 ⟨rfl, b1⟩
        go_upto_region 4 with (first | refine wpList_store_v rfl 37 (.tmp 7) (.tmp 23) rfl _ rfl tyhead (ArrV.new _ _ Z) hZl H Hl Ho rfl ?_ | fail)
        obtain ⟨V1, e1⟩ : ∃ V, V = (w1.alloc (.cells Z.toArray 37)).setCells w1.heap.size 0 H := ⟨_, rfl⟩
        obtain ⟨x1, hb1'⟩ := ArrV.laid 37 w1 Z H (by rw [Hl, hZl])
        rw [← e1] at x1 hb1' ⊢
        have X1 := Lib.hid x1
        have B1 := Lib.hid (below_both b1 hb1')
        obtain ⟨g1, hg1⟩ : ∃ g, g = w1.heap.size := ⟨_, rfl⟩
        rw [← hg1] at X1 ⊢
        clear e1 x1 hb1' b1 hg1
        go_wp2_with fail
        refine (CQ.out _ (HR.out.below B1.out)).mono ?_
        rintro e w2 ⟨rfl, b2⟩
        have B2 := Lib.hid (below_both B1.out b2)
        have X2 := Lib.hid (X1.out.below b2)
        clear b2 X1 B1
        go_wp2_with fail
        refine (CJ.out _).mono ?_
        rintro e w3 ⟨rfl, rfl⟩
        go_wp2_with fail
        refine (join_one _ n c _ _ bs _ HN.out ((HR.out.below B2.out).alloc _) (new_cell _ _ _ _ rfl)).mono ?_
        rintro e w4 ⟨v4, rfl, o4, b4⟩
        obtain ⟨g4, c4, rfl, hg4, hc4, _⟩ := o4.block HN0.out
        rw [HL.out] at o4 hc4 ⊢
        have hal : Below w2.heap.size w2 (w2.alloc (.cells #[.slice (some ⟨b, o, none⟩) n c] 22)) := (Below.refl _ _).alloc (Nat.le_refl _) _
        have B4 := Lib.hid (below_both B2.out (below_both hal b4))
        have X4 := Lib.hid (X2.out.below (below_both hal b4))
        have HG4 : Hid (w.heap.size ≤ g4) := Nat.le_trans B2.out.size (Nat.le_trans hal.size hg4)
        have O4 := Lib.hid (o4.mono (Nat.le_trans B2.out.size hal.size))
        clear hal o4 b4 B2 X2 hg4
        have c0 := (X4.out.get 0).trans H0.out
        have s1 := O4.out.cell HL.out 1 (by have := HN0.out; have := HL.out; have h := i1; omega)
        have f1 := O4.out.frozen HL.out 1
        have O5 := Lib.hid (O4.out.set HL.out 1 T)
        have B5 := Lib.hid (B4.out.setCell (p := ⟨g4, 1, none⟩) HG4.out (.int .u8 (T : Nat)))
        rw [HSET.out] at O5
        go_upto_region 14 with fail
        generalize World.setCell _ _ _ = W5 at *
        clear s1 f1 O4 B4 X4 c0
        obtain ⟨A5, c5, hA5, hk5, _, hr5⟩ := O5.out.out HMB.out
        injection hA5 with a1 a2 a3
        subst a1 a3
        rw [HML.out] at hk5 hr5
        have HK5 := Lib.hid hk5
        have HR5 := Lib.hid hr5
        clear hk5 hr5 a2
        go_wp2_with fail
        refine (CS.out _ _ _ HK5.out HR5.out).mono ?_
        rintro e w6 ⟨v6, rfl, o6, b6⟩
        have O6 := Lib.hid (o6.mono B5.out.size)
        have B6 := Lib.hid (below_both B5.out b6)
        clear o6 b6
        go_wp2_with fail
        go_ret3
        exact ⟨_, rfl, O6.out, B6.out⟩
      · subst hv6
        have h6 : bs.getD 0 0 / 16 = 6 := by
          rcases pk_four_of hh with ⟨_, _, hr⟩ | ⟨h6, _, _⟩
          · rw [hr] at hv; cases hv
          · exact h6
        obtain ⟨hT256, T1, O1, T2, T3, T4, O2, t1, t2, t3, t4, t5, t6, t7, t8, t9, t10⟩ := tos_six hj hb1 h6 hff hT2
        have e : rmMark bs j = (bs.set 0 O1).set 1 O2 := by unfold rmMark rm6; rw [if_neg (by omega), t3, t8]
        rw [e]
        obtain ⟨b1', hb1e⟩ : ∃ x, x = bs.getD 1 0 := ⟨_, rfl⟩
        rw [← hb1e] at t6
        rw [← hb1e] at HCB
        have i0 : (0 : Int) < (n : Int) := by omega
        have i1 : (1 : Int) < (n : Int) := by omega
        clear hD hh hv h0 hdz hH hf hec hfq hT hec4 hb1 hT2 hcs cb1 n0 hL hbb hff h6 hT256 t3 t8 e hb1e hZ hres hout hj hd hn2 hc hR h20
        go_enter Tryz.func6, Tryz.ntmps6
        go_wp2_with fail
        refine (CI.out _).mono ?_
        rintro e w' ⟨rfl, rfl⟩
        go_wp2_with fail
        refine CP.out.mono ?_
        rintro e w1 ⟨rfl, b1⟩
        go_upto_region 4 with (first | refine wpList_store_v rfl 37 (.tmp 7) (.tmp 23) rfl _ rfl tyhead (ArrV.new _ _ Z) hZl H Hl Ho rfl ?_ | fail)
        obtain ⟨V1, e1⟩ : ∃ V, V = (w1.alloc (.cells Z.toArray 37)).setCells w1.heap.size 0 H := ⟨_, rfl⟩
        obtain ⟨x1, hb1'⟩ := ArrV.laid 37 w1 Z H (by rw [Hl, hZl])
        rw [← e1] at x1 hb1' ⊢
        have X1 := Lib.hid x1
        have B1 := Lib.hid (below_both b1 hb1')
        obtain ⟨g1, hg1⟩ : ∃ g, g = w1.heap.size := ⟨_, rfl⟩
        rw [← hg1] at X1 ⊢
        clear e1 x1 hb1' b1 hg1
        go_wp2_with fail
        refine (CQ.out _ (HR.out.below B1.out)).mono ?_
        rintro e w2 ⟨rfl, b2⟩
        have B2 := Lib.hid (below_both B1.out b2)
        have X2 := Lib.hid (X1.out.below b2)
        clear b2 X1 B1
        go_wp2_with fail
        refine (CJ.out _).mono ?_
        rintro e w3 ⟨rfl, rfl⟩
        go_wp2_with fail
        refine (join_one _ n c _ _ bs _ HN.out ((HR.out.below B2.out).alloc _) (new_cell _ _ _ _ rfl)).mono ?_
        rintro e w4 ⟨v4, rfl, o4, b4⟩
        obtain ⟨g4, c4, rfl, hg4, hc4, _⟩ := o4.block HN0.out
        rw [HL.out] at o4 hc4 ⊢
        have hal : Below w2.heap.size w2 (w2.alloc (.cells #[.slice (some ⟨b, o, none⟩) n c] 22)) := (Below.refl _ _).alloc (Nat.le_refl _) _
        have B4 := Lib.hid (below_both B2.out (below_both hal b4))
        have X4 := Lib.hid (X2.out.below (below_both hal b4))
        have HG4 : Hid (w.heap.size ≤ g4) := Nat.le_trans B2.out.size (Nat.le_trans hal.size hg4)
        have O4 := Lib.hid (o4.mono (Nat.le_trans B2.out.size hal.size))
        clear hal o4 b4 B2 X2 hg4
        have c0 := (X4.out.get 0).trans H0.out
        have s1 := O4.out.cell HL.out 0 (by have h := i0; omega)
        have f1 := O4.out.frozen HL.out 0
        have O5 := Lib.hid (O4.out.set HL.out 0 O1)
        have B5 := Lib.hid (B4.out.setCell (p := ⟨g4, 0, none⟩) HG4.out (.int .u8 (O1 : Nat)))
        go_upto_region 11 with fail
        generalize World.setCell _ _ _ = W5 at *
        clear s1 f1 O4 B4 X4 c0
        have hl5 : (bs.set 0 O1).length = n := by rw [List.length_set]; exact HL.out
        have HL5 := Lib.hid hl5
        clear hl5
        have s1 := O5.out.cell HL5.out 1 (by have h := i1; omega)
        have f1 := O5.out.frozen HL5.out 1
        have O6 := Lib.hid (O5.out.set HL5.out 1 O2)
        have B6 := Lib.hid (B5.out.setCell (p := ⟨g4, 1, none⟩) HG4.out (.int .u8 (O2 : Nat)))
        have cb := (B5.out.cell (p := ⟨b, o + 1, none⟩) HBA.out).trans HCB.out
        go_upto_region 12 with fail
        generalize World.setCell _ _ _ = W6 at *
        clear s1 f1 O5 B5 cb
        go_wp2_with fail
        go_ret3
        exact ⟨_, rfl, O6.out, B6.out⟩
    · rw [if_neg hD]
      have hne : pkTold n bs ≠ 0 := fun h => hD (pkTold_zero.1 h)
      obtain ⟨H, hH⟩ : ∃ H, H = pkHead n bs := ⟨_, rfl⟩
      obtain ⟨t, ht⟩ : ∃ d, d = pkTold n bs := ⟨_, rfl⟩
      rw [← hH, ← ht] at CP
      rw [← hH] at Hl Ho
      rw [← ht] at hne ⊢
      have db : ((t : Int) != 0) = true := bne_iff_ne.2 (by omega)
      clear hH ht hD hne hZ hres hout hj hd hn2 hc hR
      go_enter Tryz.func6, Tryz.ntmps6
      go_wp2_with fail
      refine (CI.out _).mono ?_
      rintro e w' ⟨rfl, rfl⟩
      go_wp2_with fail
      refine CP.out.mono ?_
      rintro e w1 ⟨rfl, b1⟩
      go_upto_region 4 with (first | refine wpList_store_v rfl 37 (.tmp 7) (.tmp 23) rfl _ rfl tyhead (ArrV.new _ _ Z) hZl H Hl Ho rfl ?_ | fail)
      obtain ⟨V1, e1⟩ : ∃ V, V = (w1.alloc (.cells Z.toArray 37)).setCells w1.heap.size 0 H := ⟨_, rfl⟩
      obtain ⟨x1, hb1'⟩ := ArrV.laid 37 w1 Z H (by rw [Hl, hZl])
      rw [← e1] at x1 hb1' ⊢
      have X1 := Lib.hid x1
      have B1 := Lib.hid (below_both b1 hb1')
      obtain ⟨g1, hg1⟩ : ∃ g, g = w1.heap.size := ⟨_, rfl⟩
      rw [← hg1] at X1 ⊢
      clear e1 x1 hb1' b1 hg1
      clear X1
      go_wp2_with fail
      go_ret3
      exact ⟨_, rfl, OutIs.nil _ _, B1.out⟩
  · have CI := Lib.hid (fun w => rptis_any d w false (decide_eq_false hd).symm)
    have hres : rmRes n bs d = (0, 14) := by unfold rmRes; rw [if_neg hd]
    have hout : rmOut n bs d = [] := by unfold rmOut; rw [if_neg hd]
    rw [hres, hout]
    clear hres hout hd hn2 hc hR
    go_enter Tryz.func6, Tryz.ntmps6
    go_wp2_with fail
    refine (CI.out _).mono ?_
    rintro e w' ⟨rfl, rfl⟩
    go_wp2_with fail
    go_ret3
    exact ⟨_, rfl, OutIs.nil _ _, Below.refl _ _⟩
end Go.Proofs.YtmchclpkjjmocaaGreat

namespace Go.Proofs.YtmchclpkjjmocaaGreat
open Go.RowKit
set_option linter.unusedVariables false

theorem rmOut_byte {n : Nat} {bs : List Nat} {d : Int} (hl : bs.length = n) (hb : ∀ x ∈ bs, x < 256) : ∀ x ∈ rmOut n bs d, x < 256 := by
  unfold rmOut
  split
  · rename_i hd
    split
    · rename_i hD
      have hh := pkHeads_nil hD
      have hj : d.toNat < 64 := by omega
      unfold rmMark
      split
      · rename_i h4
        have h20 := (pk_class hl hb hD).1
        exact fhseal_byte _ (rm4_facts hl h20 hb hj).2.1
      · rename_i h4
        rcases pk_four_of hh with ⟨h, _, _⟩ | ⟨h6, ha, _⟩
        · exact absurd h h4
        · exact (rm6_is hl (by have := (sxall_nil hl ha).2.1; omega) hb hj h6).2.1
    · intro x hx; cases hx
  · intro x hx; cases hx
theorem out_len {B : Nat} {w : World} {v : Value} {l : List Nat} (h : OutIs B w v l) (hb : ∀ x ∈ l, x < 256) : l.length ≤ 9223372036854775807 := by
  obtain ⟨A, c, _, h1, h2, _⟩ := h.out hb
  have h3 : maxLen = 9223372036854775807 := by decide
  omega
set_option maxRecDepth 10000 in
set_option maxHeartbeats 6400000 in
theorem walk_RemarkMarks (a0 : Option Addr) (len0 cap0 : Nat) (bs0 : List Nat) (d : Int) (a2 : Option Addr) (len2 cap2 : Nat) (bs2 : List Nat) (w : World) (R0 : Row w a0 len0 bs0) (hl0 : len0 ≤ cap0) (hc0 : cap0 ≤ 140737488351232) (lo1 : -9223372036854775808 ≤ d) (hi1 : d ≤ 9223372036854775807) (R2 : Row w a2 len2 bs2) (hl2 : len2 ≤ cap2) (hc2 : cap2 ≤ 140737488351232) :
    Calls Tryz.prog 3 #[.slice a0 len0 cap0, .int .i64 d, .slice a2 len2 cap2] w fun e w' => e = .returned (.bool true) ∧ Below w.heap.size w w' := by
  have hn : len0 ≤ 140737488351232 := Nat.le_trans hl0 hc0
  have hn2 : len2 ≤ 140737488351232 := Nat.le_trans hl2 hc2
  have HOB := Lib.hid (rmOut_byte (d := d) R0.1 R0.2.1)
  have CM := Lib.hid (fun w (h : Row w a0 len0 bs0) => rmmark_any a0 len0 cap0 bs0 d w hn hl0 h)
  have CR := Lib.hid (fun w (h : Row w a0 len0 bs0) => rrmmark_any a0 len0 cap0 bs0 d w hn hl0 h)
  have CU : Hid (∀ w, Row w a0 len0 bs0 → Row w a2 len2 bs2 → Calls Tryz.prog 9 #[.slice a0 len0 cap0, .slice a2 len2 cap2] w fun e w' => e = .returned (.int .i64 (unlike len0 len2 bs0 bs2 : Nat)) ∧ Below w.heap.size w w') := fun w h h2 =>
    (unlike_any a0 a2 len0 cap0 len2 cap2 bs0 bs2 w (Nat.le_trans hn (by decide)) (Nat.le_trans hn2 (by decide)) h h2).mono fun e w' ⟨he, q, hq⟩ => ⟨he, by rw [hq]; exact below_drewN' (Below.refl _ _) q⟩
  have CV : Hid (∀ w, Row w a0 len0 bs0 → Row w a2 len2 bs2 → Calls Tryz.prog 10 #[.slice a0 len0 cap0, .slice a2 len2 cap2] w fun e w' => e = .returned (.int .i64 (unlike len0 len2 bs0 bs2 : Nat)) ∧ Below w.heap.size w w') := fun w h h2 =>
    (runlike_any a0 a2 len0 cap0 len2 cap2 bs0 bs2 w (Nat.le_trans hn (by decide)) (Nat.le_trans hn2 (by decide)) h h2).mono fun e w' ⟨he, q, hq⟩ => ⟨he, by rw [hq]; exact below_drewN' (Below.refl _ _) q⟩
  obtain ⟨O, hO⟩ : ∃ O, O = rmOut len0 bs0 d := ⟨_, rfl⟩
  obtain ⟨p, hp⟩ : ∃ p, p = (rmRes len0 bs0 d).1 := ⟨_, rfl⟩
  obtain ⟨q, hq⟩ : ∃ p, p = (rmRes len0 bs0 d).2 := ⟨_, rfl⟩
  obtain ⟨U, hU⟩ : ∃ U, U = unlike len0 len2 bs0 bs2 := ⟨_, rfl⟩
  rw [← hO] at HOB
  rw [← hO, ← hp, ← hq] at CM CR
  rw [← hU] at CU CV
  have HN : Hid (len0 ≤ 140737488355328) := Nat.le_trans hn (by decide)
  have HR0 := Lib.hid R0
  have HR2 := Lib.hid R2
  have HLB : Hid (bs0.length ≤ 9223372036854775807) := by show _ ≤ _; rw [R0.1]; exact Nat.le_trans hn (by decide)
  have HB0 : Hid (ByteVal w (.slice a0 len0 cap0) bs0) := ⟨a0, cap0, by rw [R0.1], by rw [R0.1]; exact hl0, by rw [R0.1]; exact R0⟩
  clear hO hp hq hU hn hn2 R0 R2 hl0 hc0 lo1 hi1 hl2 hc2
  go_enter Tryz.func3, Tryz.ntmps3
  go_wp2_with fail
  refine (join_one _ len0 cap0 _ a0 bs0 _ HN.out (HR0.out.alloc _) (new_cell _ _ _ _ rfl)).mono ?_
  rintro e w1 ⟨v1, rfl, o1, b1⟩
  have hal : Below w.heap.size w (w.alloc (.cells #[.slice a0 len0 cap0] 22)) := (Below.refl _ _).alloc (Nat.le_refl _) _
  have B1 := Lib.hid (below_both hal b1)
  have V1 := Lib.hid (o1.val HR0.out.2.1)
  clear hal b1 o1
  go_wp2_with fail
  refine (CM.out _ (HR0.out.below B1.out)).mono ?_
  rintro e w2 ⟨v2, rfl, o2, b2⟩
  have B2 := Lib.hid (below_both B1.out b2)
  have W1 := Lib.hid (V1.out.below b2)
  have V2 := Lib.hid (o2.val HOB.out)
  have HOL := Lib.hid (out_len o2 HOB.out)
  clear b2 o2 B1 V1
  go_wp2_with fail
  refine (CR.out _ (HR0.out.below B2.out)).mono ?_
  rintro e w3 ⟨v3, rfl, o3, b3⟩
  have B3 := Lib.hid (below_both B2.out b3)
  have X1 := Lib.hid (W1.out.below b3)
  have X2 := Lib.hid (V2.out.below b3)
  have V3 := Lib.hid (o3.val HOB.out)
  clear b3 o3 B2 W1 V2
  go_wp2_with fail
  refine (live16 _).mono ?_
  rintro e w4 ⟨rfl, b4⟩
  have B4 := Lib.hid (below_both B3.out b4)
  have Y1 := Lib.hid (X1.out.below b4)
  have Y2 := Lib.hid (X2.out.below b4)
  have Y3 := Lib.hid (V3.out.below b4)
  clear b4 B3 X1 X2 V3
  go_wp2_with fail
  refine (same_vals v2 v3 O _ HOL.out Y2.out Y3.out).mono ?_
  rintro e w5 ⟨rfl, b5⟩
  have B5 := Lib.hid (below_both B4.out b5)
  have Z1 := Lib.hid (Y1.out.below b5)
  clear b5 B4 Y1 Y2 Y3
  go_wp2_with fail
  refine (same_vals _ v1 bs0 _ HLB.out (HB0.out.below B5.out) Z1.out).mono ?_
  rintro e w6 ⟨rfl, b6⟩
  have B6 := Lib.hid (below_both B5.out b6)
  clear b6 B5 Z1
  go_wp2_with fail
  refine (CU.out _ (HR0.out.below B6.out) (HR2.out.below B6.out)).mono ?_
  rintro e w7 ⟨rfl, b7⟩
  have B7 := Lib.hid (below_both B6.out b7)
  clear b7 B6
  go_wp2_with fail
  refine (CV.out _ (HR0.out.below B7.out) (HR2.out.below B7.out)).mono ?_
  rintro e w8 ⟨rfl, b8⟩
  have B8 := Lib.hid (below_both B7.out b8)
  clear b8 B7
  go_wp2_with fail
  go_ret
  exact ⟨by first | rfl | simp, B8.out⟩
end Go.Proofs.YtmchclpkjjmocaaGreat
