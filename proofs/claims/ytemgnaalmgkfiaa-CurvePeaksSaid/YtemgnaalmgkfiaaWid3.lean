/-
  The contract of bits.Div64 where it does not panic, and of wide's Div.
-/
import Derived.Test.YtemgnaalmgkfiaaWid2
import Derived.Test.YtemgnaalmgkfiaaWPlain2
import Derived.Test.YtemgnaalmgkfiaaPlain
import Derived.Shelf.Lay
import Derived.Shelf.Small.Bits
import Derived.Shelf.Strconv.Itoa0
import Derived.Deep.CutRange
import Derived.Deep.CutBlock
import Derived.Deep.QuietTactic
import Derived.BigQuiet
namespace Go.Proofs.Ytemgnaalmgkfiaa
open Go.RowKit Go.Shelf
set_option linter.unusedVariables false
attribute [local go_sem ↓] Go.wp_at_zero Go.wp_at_succ
shelf_lay Lays.n134 Nm 134 at Try as lays134

theorem lead64 (x : Nat) (w : World) (h1 : x ≤ 18446744073709551615) :
    Calls Try.prog 46 #[.int .u64 x] w fun e w' => e = .returned (.int .i64 (64 - (Lib.bitLen x : Int))) ∧ w' = w := by
  have := Any.bits_LeadingZeros64 lays134 (x : Int) w (by omega) (by omega)
  simp only [Int.toNat_natCast] at this
  exact this
theorem shl_or (n s x : Nat) (hx : x < 2 ^ s) (h : n * 2 ^ s ≤ 18446744073709551615) (hs : s ≤ 64) : bits .or .u64 ((n * 2 ^ s : Nat) : Int) (x : Int) = ((n * 2 ^ s + x : Nat) : Int) := by
  have hx2 : x < 18446744073709551616 := Nat.lt_of_lt_of_le hx (pow_le_64 hs)
  rw [u64_or_nat _ _ (by omega) (by omega)]
  congr 1
  rw [Nat.mul_comm, Nat.two_pow_add_eq_or_of_lt hx]

theorem wrap_nat (n : Nat) (h : n ≤ 18446744073709551615) : IntKind.u64.wrap (n : Int) = n := IntWalk.u64_in _ ⟨by omega, by omega⟩
theorem wrap_div (a b : Nat) (h : a ≤ 18446744073709551615) : IntKind.u64.wrap ((a : Int) / (b : Int)) = ((a / b : Nat) : Int) := by
  have := Nat.div_le_self a b
  have e : ((a : Int) / (b : Int)) = ((a / b : Nat) : Int) := by simp
  rw [e]
  exact wrap_nat _ (by omega)

theorem wrap_rest (u c Q Y m : Nat) (h : u * 4294967296 + c = Y * Q + m) (hm : m ≤ 18446744073709551615) :
    IntKind.u64.wrap (IntKind.u64.wrap (IntKind.u64.wrap ((u : Int) * 4294967296) + (c : Int)) - IntKind.u64.wrap ((Q : Int) * (Y : Int))) = (m : Int) := by
  have e : ((Q : Int) * (Y : Int)) = ((Y * Q : Nat) : Int) := by rw [Nat.mul_comm]; simp
  rw [e]
  generalize Y * Q = B at h
  rw [IntKind.wrap_u64, IntKind.wrap_u64, IntKind.wrap_u64, IntKind.wrap_u64]
  omega

theorem div64_low (lo y : Nat) (w : World) (h0 : 0 < y) (hlo : lo ≤ 18446744073709551615) (hy : y ≤ 18446744073709551615) :
    Calls Try.prog 42 #[.int .u64 0, .int .u64 lo, .int .u64 y] w (Quiet (.tuple #[.int .u64 (lo / y : Nat), .int .u64 (lo % y : Nat)]) w) := by
  have q1 : ¬ (y : Int) = 0 := by omega
  have q2 : ¬ (y : Int) ≤ 0 := by omega
  have q3 : (y : Int) ≠ 0 := by omega
  have k1 := wrap_div lo y hlo
  go_enter Try.func42, Try.ntmps42
  go_wp2_with fail
  go_quiet (fail)
  go_wp2
  go_returns
  exact ⟨by simp, _, rfl⟩

set_option maxRecDepth 20000 in
set_option maxHeartbeats 1000000 in
theorem div64_ok (hi lo y Y s u z c1 c0 a b qa pa ra qb pb rb m Q1 Q0 X R r0 : Nat) (w : World) (h0 : 1 ≤ hi) (hh : hi < y) (hlo : lo ≤ 18446744073709551615) (hy : y ≤ 18446744073709551615)
    (hs : s ≤ 63) (hb : Hid (Lib.bitLen y = 64 - s)) (hY : Hid (Y = y * 2 ^ s)) (hY1 : 9223372036854775808 ≤ Y) (hY2 : Y ≤ 18446744073709551615) 
    (ha : Hid (a = Y / 4294967296)) (hB : Hid (b = Y % 4294967296)) (hu : Hid (u = hi * 2 ^ s + lo / 2 ^ (64 - s))) (hz : Hid (z = lo * 2 ^ s % 18446744073709551616)) (hc1 : Hid (c1 = z / 4294967296)) (hc0 : Hid (c0 = z % 4294967296))
    (ha1 : 2147483648 ≤ a) (ha2 : a < 4294967296) (hb2 : b < 4294967296) (hc1lt : c1 < 4294967296) (hc0lt : c0 < 4294967296) (hule : u < Y) (hYab : Hid (Y = a * 4294967296 + b))
    (hqa : Hid (qa = u / a)) (hpa : Hid (pa = qa * a)) (hra : Hid (ra = u - pa)) (hqb : Hid (qb = m / a)) (hpb : Hid (pb = qb * a)) (hrb : Hid (rb = m - pb))
    (hQ1 : Hid (Q1 = (u * 4294967296 + c1) / Y)) (hm : Hid (m = (u * 4294967296 + c1) % Y)) (hQ0 : Hid (Q0 = (m * 4294967296 + c0) / Y))
    (hX : Hid (X = Q1 * 4294967296 + Q0)) (hr0 : Hid (r0 = (m * 4294967296 + c0) % Y)) (hR : Hid (R = r0 / 2 ^ s)) :
    Calls Try.prog 42 #[.int .u64 hi, .int .u64 lo, .int .u64 y] w (Quiet (.tuple #[.int .u64 (X : Nat), .int .u64 (R : Nat)]) w) := by
  have q1 : ¬ (y : Int) = 0 := by omega
  have q2 : ¬ (y : Int) ≤ hi := by omega
  have q3 : ¬ (hi : Int) = 0 := by omega
  have H1 : ∀ w : World, Calls Try.prog 46 #[.int .u64 y] w fun e w' => e = .returned (.int .i64 s) ∧ w' = w := fun w => (lead64 y w hy).mono fun e w' ⟨h1, h2⟩ => ⟨by
    rw [h1, hb.out]
    have : (64 : Int) - ((64 - s : Nat) : Int) = s := by omega
    rw [this], h2⟩
  have H1 := Lib.hid H1
  have k1 := wrap_nat s (by omega)
  have k2 : IntKind.u64.wrap ((y : Int) * 2 ^ s) = (Y : Int) := by
    have e : (y : Int) * 2 ^ s = ((y * 2 ^ s : Nat) : Int) := by simp
    rw [e, ← hY.out]
    exact wrap_nat Y hY2
  have k3 : (Y : Int) / 4294967296 = (a : Int) := by rw [ha.out]; simp
  have k4 : bits .and .u64 (Y : Int) 4294967295 = (b : Int) := by
    have := u64_and_nat Y 4294967295 (by omega) (by omega)
    rw [show Y &&& 4294967295 = Y % 4294967296 from Nat.and_two_pow_sub_one_eq_mod Y 32, ← hB.out] at this
    simpa using this
  have k5 : IntKind.u64.wrap (64 - (s : Int)) = 64 - (s : Int) := IntWalk.u64_in _ ⟨by omega, by omega⟩
  have k6 : (64 - (s : Int)).toNat = 64 - s := by omega
  have k7 : bits .or .u64 (IntKind.u64.wrap ((hi : Int) * 2 ^ s)) ((lo : Int) / 2 ^ (64 - s)) = (u : Int) := by
    have e1 : (hi : Int) * 2 ^ s = ((hi * 2 ^ s : Nat) : Int) := by simp
    have e2 : (lo : Int) / 2 ^ (64 - s) = ((lo / 2 ^ (64 - s) : Nat) : Int) := by simp
    have l1 : hi * 2 ^ s ≤ 18446744073709551615 := by
      have : hi * 2 ^ s ≤ u := by rw [hu.out]; exact Nat.le_add_right _ _
      omega
    rw [e1, e2, wrap_nat _ l1, hu.out]
    refine shl_or hi s _ ?_ l1 (by omega)
    refine (Nat.div_lt_iff_lt_mul (Nat.two_pow_pos _)).2 ?_
    rw [← Nat.pow_add, show s + (64 - s) = 64 from by omega]
    omega
  have k8 : IntKind.u64.wrap ((lo : Int) * 2 ^ s) = (z : Int) := by
    rw [hz.out, IntKind.wrap_u64]
    simp
  have k9 : (z : Int) / 4294967296 = (c1 : Int) := by rw [hc1.out]; simp
  have k10 : bits .and .u64 (z : Int) 4294967295 = (c0 : Int) := by
    have hz2 : z ≤ 18446744073709551615 := by have := hz.out; omega
    have := u64_and_nat z 4294967295 (by omega) (by omega)
    rw [show z &&& 4294967295 = z % 4294967296 from Nat.and_two_pow_sub_one_eq_mod z 32, ← hc0.out] at this
    simpa using this
  have k11 : IntKind.u64.wrap ((u : Int) / (a : Int)) = (qa : Int) := by rw [hqa.out]; exact wrap_div u a (by omega)
  have hpale : pa ≤ u := by rw [hpa.out, hqa.out]; exact Nat.div_mul_le_self u a
  have k12 : IntKind.u64.wrap ((qa : Int) * (a : Int)) = (pa : Int) := by
    have e : ((qa : Int) * (a : Int)) = ((qa * a : Nat) : Int) := by simp
    rw [e, ← hpa.out]
    exact wrap_nat _ (by omega)
  have k13 : IntKind.u64.wrap ((u : Int) - (pa : Int)) = (ra : Int) := by
    have := hra.out
    have e : ((u : Int) - (pa : Int)) = (ra : Int) := by omega
    rw [e]
    exact wrap_nat _ (by omega)
  have k14 : ¬ (a : Int) = 0 := by omega
  have hralt : ra < a := by
    have h1 := Nat.lt_div_mul_add (a := u) (b := a) (by omega)
    rw [← hqa.out, ← hpa.out] at h1
    have := hra.out
    omega
  have HG := Lib.hid (Guess.start ha1 ha2 hb2 hc1lt (by rw [← hYab.out]; exact hule))
  rw [← hqa.out, ← hpa.out, ← hra.out] at HG
  have hmlt : m < Y := by rw [hm.out]; exact Nat.mod_lt _ (by omega)
  have k15 := wrap_rest u c1 Q1 Y m (by rw [hm.out, hQ1.out]; exact (Nat.div_add_mod _ _).symm) (by omega)
  have k16 : IntKind.u64.wrap ((m : Int) / (a : Int)) = (qb : Int) := by rw [hqb.out]; exact wrap_div m a (by omega)
  have hpble : pb ≤ m := by rw [hpb.out, hqb.out]; exact Nat.div_mul_le_self m a
  have k17 : IntKind.u64.wrap ((qb : Int) * (a : Int)) = (pb : Int) := by
    have e : ((qb : Int) * (a : Int)) = ((qb * a : Nat) : Int) := by simp
    rw [e, ← hpb.out]
    exact wrap_nat _ (by omega)
  have k18 : IntKind.u64.wrap ((m : Int) - (pb : Int)) = (rb : Int) := by
    have := hrb.out
    have e : ((m : Int) - (pb : Int)) = (rb : Int) := by omega
    rw [e]
    exact wrap_nat _ (by omega)
  have hrblt : rb < a := by
    have h1 := Nat.lt_div_mul_add (a := m) (b := a) (by omega)
    rw [← hqb.out, ← hpb.out] at h1
    have := hrb.out
    omega
  have HG2 := Lib.hid (Guess.start ha1 ha2 hb2 hc0lt (by rw [← hYab.out]; exact hmlt))
  rw [← hqb.out, ← hpb.out, ← hrb.out] at HG2
  have hr0lt : r0 < Y := by rw [hr0.out]; exact Nat.mod_lt _ (by omega)
  have k19 := wrap_rest m c0 Q0 Y r0 (by rw [hr0.out, hQ0.out]; exact (Nat.div_add_mod _ _).symm) (by omega)
  have hQ1lt := HG.out.digit_lt
  rw [← hYab.out, ← hQ1.out] at hQ1lt
  have hQ0lt := HG2.out.digit_lt
  rw [← hYab.out, ← hQ0.out] at hQ0lt
  obtain ⟨X1, hX1⟩ : ∃ X1, X1 = Q1 * 4294967296 := ⟨_, rfl⟩
  have k20 : IntKind.u64.wrap ((Q1 : Int) * 4294967296) = (X1 : Int) := by
    have e : ((Q1 : Int) * 4294967296) = (X1 : Int) := by omega
    rw [e]; exact wrap_nat _ (by omega)
  have k21 : IntKind.u64.wrap ((X1 : Int) + (Q0 : Int)) = (X : Int) := by
    have := hX.out
    have e : ((X1 : Int) + (Q0 : Int)) = (X : Int) := by omega
    rw [e]; exact wrap_nat _ (by omega)
  have k22 : (r0 : Int) / 2 ^ s = (R : Int) := by rw [hR.out]; simp
  have HQ2 := Lib.hid (hQ0.out.trans (by rw [hYab.out]) : Q0 = (m * 4294967296 + c0) / (a * 4294967296 + b))
  clear hX1 hQ1lt hQ0lt hr0lt hpble hpale
  have HQ := Lib.hid (hQ1.out.trans (by rw [hYab.out]) : Q1 = (u * 4294967296 + c1) / (a * 4294967296 + b))
  go_enter Try.func42, Try.ntmps42
  go_wp2_with fail
  refine (H1.out _).mono ?_
  rintro e w1 ⟨rfl, rfl⟩
  go_upto_block 0 with fail
  go_cut [15, 16] from 67 to 85 (fun q r wx => q = .int .u64 (Q1 : Nat) ∧ ∃ r' : Nat, r = .int .u64 r' ∧ wx = w1)
  case first =>
    go_wp2_with fail
    go_loopw [15, 16] (fun q r wr => ∃ (q' r' : Nat), q = .int .u64 q' ∧ r = .int .u64 r' ∧ Hid (Guess u c1 a b q' r') ∧ r' < 4294967296 ∧ wr = w1) (fun q _ _ => (intOf q).toNat)
    case atStart => exact ⟨_, _, rfl, rfl, HG, by have := hralt; omega, rfl⟩
    case round =>
      obtain ⟨q', r', rfl, rfl, HG', hr', rfl⟩ := hrel
      have hqle := HG'.out.q_le
      by_cases hbig : 4294967296 ≤ q'
      · have HM := Lib.hid (HG'.out.more (Or.inl hbig))
        have hbi : (4294967296 : Int) ≤ (q' : Int) := by omega
        clear hbig
        obtain ⟨q2, hq2⟩ : ∃ q2, q2 = q' - 1 := ⟨_, rfl⟩
        obtain ⟨r2, hr2⟩ : ∃ r2, r2 = r' + a := ⟨_, rfl⟩
        rw [← hq2, ← hr2] at HM
        have hq1 := HM.out.1
        have t1 : IntKind.u64.wrap ((q' : Int) - 1) = (q2 : Int) := by
          have e : ((q' : Int) - 1) = (q2 : Int) := by omega
          rw [e]; exact wrap_nat _ (by omega)
        have t2 : IntKind.u64.wrap ((r' : Int) + (a : Int)) = (r2 : Int) := by
          have e : ((r' : Int) + (a : Int)) = (r2 : Int) := by omega
          rw [e]; exact wrap_nat _ (by omega)
        have hlt : Hid (q2 < q') := by
          have : q2 < q' := by omega
          exact this
        clear hq2 hr2 hq1
        by_cases hout : 4294967296 ≤ r2
        · have hoi : (4294967296 : Int) ≤ (r2 : Int) := by omega
          have HO := Lib.hid hout
          clear hout hqle hr'
          go_wp2_with fail
          go_meet
          case rel => exact ⟨by rw [HQ.out]; exact congrArg (fun n : Nat => Value.int .u64 n) (HM.out.2.out HO.out), r2, rfl, rfl⟩
        · have hoi : ¬ (4294967296 : Int) ≤ (r2 : Int) := by omega
          have HO := Lib.hid (Nat.lt_of_not_le hout)
          clear hout hqle hr'
          go_wp2_with fail
          go_roundw
          case rel => exact ⟨q2, r2, rfl, rfl, HM.out.2, HO.out, (by first | rfl | trivial)⟩
          case measure => simp only [intOf]; have := hlt.out; simp; omega
      · obtain ⟨pz, hpz⟩ : ∃ pz, pz = q' * b := ⟨_, rfl⟩
        obtain ⟨x, hx⟩ : ∃ x, x = 4294967296 * r' := ⟨_, rfl⟩
        obtain ⟨x2, hx2⟩ : ∃ x2, x2 = x + c1 := ⟨_, rfl⟩
        have hpzle : pz ≤ 4294967295 * 4294967295 := by rw [hpz]; exact Nat.mul_le_mul (by omega) (by omega)
        have t3 : IntKind.u64.wrap ((q' : Int) * (b : Int)) = (pz : Int) := by
          have e : ((q' : Int) * (b : Int)) = (pz : Int) := by rw [hpz]; simp
          rw [e]; exact wrap_nat _ (by omega)
        have t4 : IntKind.u64.wrap (4294967296 * (r' : Int)) = (x : Int) := by
          have e : (4294967296 * (r' : Int)) = (x : Int) := by omega
          rw [e]; exact wrap_nat _ (by omega)
        have t5 : IntKind.u64.wrap ((x : Int) + (c1 : Int)) = (x2 : Int) := by
          have e : ((x : Int) + (c1 : Int)) = (x2 : Int) := by omega
          rw [e]; exact wrap_nat _ (by omega)
        have hbi : ¬ (4294967296 : Int) ≤ (q' : Int) := by omega
        by_cases hcmp : x2 < pz
        · have HM := Lib.hid (HG'.out.more (Or.inr (by rw [← hx, ← hx2, ← hpz]; exact hcmp)))
          have hci : (x2 : Int) < (pz : Int) := by omega
          clear hbig hcmp hx hx2 hpz hpzle
          obtain ⟨q2, hq2⟩ : ∃ q2, q2 = q' - 1 := ⟨_, rfl⟩
          obtain ⟨r2, hr2⟩ : ∃ r2, r2 = r' + a := ⟨_, rfl⟩
          rw [← hq2, ← hr2] at HM
          have hq1 := HM.out.1
          have t1 : IntKind.u64.wrap ((q' : Int) - 1) = (q2 : Int) := by
            have e : ((q' : Int) - 1) = (q2 : Int) := by omega
            rw [e]; exact wrap_nat _ (by omega)
          have t2 : IntKind.u64.wrap ((r' : Int) + (a : Int)) = (r2 : Int) := by
            have e : ((r' : Int) + (a : Int)) = (r2 : Int) := by omega
            rw [e]; exact wrap_nat _ (by omega)
          have hlt : Hid (q2 < q') := by
            have : q2 < q' := by omega
            exact this
          clear hq2 hr2 hq1
          by_cases hout : 4294967296 ≤ r2
          · have hoi : (4294967296 : Int) ≤ (r2 : Int) := by omega
            have HO := Lib.hid hout
            clear hout hqle hr'
            go_wp2_with fail
            go_meet
            case rel => exact ⟨by rw [HQ.out]; exact congrArg (fun n : Nat => Value.int .u64 n) (HM.out.2.out HO.out), r2, rfl, rfl⟩
          · have hoi : ¬ (4294967296 : Int) ≤ (r2 : Int) := by omega
            have HO := Lib.hid (Nat.lt_of_not_le hout)
            clear hout hqle hr'
            go_wp2_with fail
            go_roundw
            case rel => exact ⟨q2, r2, rfl, rfl, HM.out.2, HO.out, (by first | rfl | trivial)⟩
            case measure => simp only [intOf]; have := hlt.out; simp; omega
        · have HF := Lib.hid (HG'.out.fits (by rw [← hx, ← hx2, ← hpz]; omega))
          have hci : ¬ (x2 : Int) < (pz : Int) := by omega
          clear hbig hcmp hx hx2 hpz hpzle hqle hr'
          go_wp2_with fail
          go_meet
          case rel => exact ⟨by rw [HQ.out]; exact congrArg (fun n : Nat => Value.int .u64 n) HF.out, r', rfl, rfl⟩
  case rest =>
    obtain ⟨rfl, r', rfl, rfl⟩ := hcut
    clear HG HQ
    go_upto_block 2 with fail
    go_cut [18, 16] from 102 to 120 (fun q r wx => q = .int .u64 (Q0 : Nat) ∧ ∃ r' : Nat, r = .int .u64 r' ∧ wx = wc)
    case first =>
      go_wp2_with fail
      go_loopw [18, 16] (fun q r wr => ∃ (q' r' : Nat), q = .int .u64 q' ∧ r = .int .u64 r' ∧ Hid (Guess m c0 a b q' r') ∧ r' < 4294967296 ∧ wr = wc) (fun q _ _ => (intOf q).toNat)
      case atStart => exact ⟨_, _, rfl, rfl, HG2, by have := hrblt; omega, rfl⟩
      case round =>
        obtain ⟨q', r', rfl, rfl, HG', hr', rfl⟩ := hrel
        have hqle := HG'.out.q_le
        by_cases hbig : 4294967296 ≤ q'
        · have HM := Lib.hid (HG'.out.more (Or.inl hbig))
          have hbi : (4294967296 : Int) ≤ (q' : Int) := by omega
          clear hbig
          obtain ⟨q2, hq2⟩ : ∃ q2, q2 = q' - 1 := ⟨_, rfl⟩
          obtain ⟨r2, hr2⟩ : ∃ r2, r2 = r' + a := ⟨_, rfl⟩
          rw [← hq2, ← hr2] at HM
          have hq1 := HM.out.1
          have t1 : IntKind.u64.wrap ((q' : Int) - 1) = (q2 : Int) := by
            have e : ((q' : Int) - 1) = (q2 : Int) := by omega
            rw [e]; exact wrap_nat _ (by omega)
          have t2 : IntKind.u64.wrap ((r' : Int) + (a : Int)) = (r2 : Int) := by
            have e : ((r' : Int) + (a : Int)) = (r2 : Int) := by omega
            rw [e]; exact wrap_nat _ (by omega)
          have hlt : Hid (q2 < q') := by
            have : q2 < q' := by omega
            exact this
          clear hq2 hr2 hq1
          by_cases hout : 4294967296 ≤ r2
          · have hoi : (4294967296 : Int) ≤ (r2 : Int) := by omega
            have HO := Lib.hid hout
            clear hout hqle hr'
            go_wp2_with fail
            go_meet
            case rel => exact ⟨by rw [HQ2.out]; exact congrArg (fun n : Nat => Value.int .u64 n) (HM.out.2.out HO.out), r2, rfl, rfl⟩
          · have hoi : ¬ (4294967296 : Int) ≤ (r2 : Int) := by omega
            have HO := Lib.hid (Nat.lt_of_not_le hout)
            clear hout hqle hr'
            go_wp2_with fail
            go_roundw
            case rel => exact ⟨q2, r2, rfl, rfl, HM.out.2, HO.out, (by first | rfl | trivial)⟩
            case measure => simp only [intOf]; have := hlt.out; simp; omega
        · obtain ⟨pz, hpz⟩ : ∃ pz, pz = q' * b := ⟨_, rfl⟩
          obtain ⟨x, hx⟩ : ∃ x, x = 4294967296 * r' := ⟨_, rfl⟩
          obtain ⟨x2, hx2⟩ : ∃ x2, x2 = x + c0 := ⟨_, rfl⟩
          have hpzle : pz ≤ 4294967295 * 4294967295 := by rw [hpz]; exact Nat.mul_le_mul (by omega) (by omega)
          have t3 : IntKind.u64.wrap ((q' : Int) * (b : Int)) = (pz : Int) := by
            have e : ((q' : Int) * (b : Int)) = (pz : Int) := by rw [hpz]; simp
            rw [e]; exact wrap_nat _ (by omega)
          have t4 : IntKind.u64.wrap (4294967296 * (r' : Int)) = (x : Int) := by
            have e : (4294967296 * (r' : Int)) = (x : Int) := by omega
            rw [e]; exact wrap_nat _ (by omega)
          have t5 : IntKind.u64.wrap ((x : Int) + (c0 : Int)) = (x2 : Int) := by
            have e : ((x : Int) + (c0 : Int)) = (x2 : Int) := by omega
            rw [e]; exact wrap_nat _ (by omega)
          have hbi : ¬ (4294967296 : Int) ≤ (q' : Int) := by omega
          by_cases hcmp : x2 < pz
          · have HM := Lib.hid (HG'.out.more (Or.inr (by rw [← hx, ← hx2, ← hpz]; exact hcmp)))
            have hci : (x2 : Int) < (pz : Int) := by omega
            clear hbig hcmp hx hx2 hpz hpzle
            obtain ⟨q2, hq2⟩ : ∃ q2, q2 = q' - 1 := ⟨_, rfl⟩
            obtain ⟨r2, hr2⟩ : ∃ r2, r2 = r' + a := ⟨_, rfl⟩
            rw [← hq2, ← hr2] at HM
            have hq1 := HM.out.1
            have t1 : IntKind.u64.wrap ((q' : Int) - 1) = (q2 : Int) := by
              have e : ((q' : Int) - 1) = (q2 : Int) := by omega
              rw [e]; exact wrap_nat _ (by omega)
            have t2 : IntKind.u64.wrap ((r' : Int) + (a : Int)) = (r2 : Int) := by
              have e : ((r' : Int) + (a : Int)) = (r2 : Int) := by omega
              rw [e]; exact wrap_nat _ (by omega)
            have hlt : Hid (q2 < q') := by
              have : q2 < q' := by omega
              exact this
            clear hq2 hr2 hq1
            by_cases hout : 4294967296 ≤ r2
            · have hoi : (4294967296 : Int) ≤ (r2 : Int) := by omega
              have HO := Lib.hid hout
              clear hout hqle hr'
              go_wp2_with fail
              go_meet
              case rel => exact ⟨by rw [HQ2.out]; exact congrArg (fun n : Nat => Value.int .u64 n) (HM.out.2.out HO.out), r2, rfl, rfl⟩
            · have hoi : ¬ (4294967296 : Int) ≤ (r2 : Int) := by omega
              have HO := Lib.hid (Nat.lt_of_not_le hout)
              clear hout hqle hr'
              go_wp2_with fail
              go_roundw
              case rel => exact ⟨q2, r2, rfl, rfl, HM.out.2, HO.out, (by first | rfl | trivial)⟩
              case measure => simp only [intOf]; have := hlt.out; simp; omega
          · have HF := Lib.hid (HG'.out.fits (by rw [← hx, ← hx2, ← hpz]; omega))
            have hci : ¬ (x2 : Int) < (pz : Int) := by omega
            clear hbig hcmp hx hx2 hpz hpzle hqle hr'
            go_wp2_with fail
            go_meet
            case rel => exact ⟨by rw [HQ2.out]; exact congrArg (fun n : Nat => Value.int .u64 n) HF.out, r', rfl, rfl⟩
    case rest =>
      obtain ⟨rfl, r', rfl, rfl⟩ := hcut
      clear HG2 HQ2
      go_wp2_with fail
      go_returns
      exact ⟨rfl, 0, rfl⟩

theorem div64_any (hi lo y : Nat) (w : World) (hh : hi < y) (hlo : lo ≤ 18446744073709551615) (hy : y ≤ 18446744073709551615) :
    Calls Try.prog 42 #[.int .u64 hi, .int .u64 lo, .int .u64 y] w (Quiet (.tuple #[.int .u64 (wnum hi lo / y : Nat), .int .u64 (wnum hi lo % y : Nat)]) w) := by
  by_cases h0 : hi = 0
  · subst h0
    rw [wnum_zero]
    exact div64_low lo y w hh hlo hy
  obtain ⟨s, hs, hb, hY1, hY2⟩ := norm_shift y (by omega) hy
  obtain ⟨Y, hY⟩ : ∃ Y, Y = y * 2 ^ s := ⟨_, rfl⟩
  rw [← hY] at hY1 hY2
  obtain ⟨u, hu⟩ : ∃ u, u = hi * 2 ^ s + lo / 2 ^ (64 - s) := ⟨_, rfl⟩
  obtain ⟨z, hz⟩ : ∃ z, z = lo * 2 ^ s % 18446744073709551616 := ⟨_, rfl⟩
  have hsp : (2 : Nat) ^ (64 - s) * 2 ^ s = 18446744073709551616 := by rw [← Nat.pow_add, show 64 - s + s = 64 from by omega]
  have hdiv : lo / 2 ^ (64 - s) = lo * 2 ^ s / 18446744073709551616 := by rw [← hsp, Nat.mul_div_mul_right _ _ (Nat.two_pow_pos s)]
  have hU : (u * 4294967296 + z / 4294967296) * 4294967296 + z % 4294967296 = wnum hi lo * 2 ^ s := by
    rw [hdiv] at hu
    have e : wnum hi lo * 2 ^ s = hi * 2 ^ s * 18446744073709551616 + lo * 2 ^ s := by
      unfold wnum
      rw [Nat.add_mul, Nat.mul_right_comm]
    rw [e]
    generalize hi * 2 ^ s = p at *
    generalize lo * 2 ^ s = q at *
    omega
  have hule : u < Y := by
    have h1 : (hi + 1) * 2 ^ s ≤ y * 2 ^ s := Nat.mul_le_mul_right _ hh
    rw [Nat.add_mul, Nat.one_mul, ← hY] at h1
    have h2 : lo / 2 ^ (64 - s) < 2 ^ s := by
      refine (Nat.div_lt_iff_lt_mul (Nat.two_pow_pos _)).2 ?_
      rw [Nat.mul_comm, hsp]
      omega
    generalize lo / 2 ^ (64 - s) = p at *
    generalize hi * 2 ^ s = q at *
    generalize 2 ^ s = r at *
    omega
  obtain ⟨Q1, hQ1⟩ : ∃ x, x = (u * 4294967296 + z / 4294967296) / Y := ⟨_, rfl⟩
  obtain ⟨m, hm⟩ : ∃ x, x = (u * 4294967296 + z / 4294967296) % Y := ⟨_, rfl⟩
  obtain ⟨Q0, hQ0⟩ : ∃ x, x = (m * 4294967296 + z % 4294967296) / Y := ⟨_, rfl⟩
  obtain ⟨f1, f2⟩ := two_digits (N := wnum hi lo) hY (by omega) hU hQ1 hm hQ0
  rw [← f1, ← f2]
  exact div64_ok hi lo y Y s u z (z / 4294967296) (z % 4294967296) (Y / 4294967296) (Y % 4294967296) _ _ _ _ _ _ m Q1 Q0 _ _ _ w (by omega) hh hlo hy hs hb hY hY1 hY2
    rfl rfl hu hz rfl rfl (by omega) (by omega) (by omega) (by omega) (by omega) hule (by exact (show Y = Y / 4294967296 * 4294967296 + Y % 4294967296 from by omega)) rfl rfl rfl rfl rfl rfl hQ1 hm hQ0 rfl rfl rfl
end Go.Proofs.Ytemgnaalmgkfiaa
