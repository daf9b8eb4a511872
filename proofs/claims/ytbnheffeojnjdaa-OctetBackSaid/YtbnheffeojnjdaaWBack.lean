/-
  The walk of the statement OctetBack.
-/
import Derived.Test.YtbnheffeojnjdaaWPuts
import Derived.Test.YtbnheffeojnjdaaPlain4
namespace Go.Proofs.Ytbnheffeojnjdaa
open Go.RowKit
set_option linter.unusedVariables false

theorem bits_is (n r : Nat) (f c : Int) (w : World) (hn : n ≤ 18446744073709551615) (h0 : 0 ≤ f) (h1 : f ≤ 63) (h2 : 0 ≤ c) (h3 : f + c ≤ 64) (hr : Hid (r = n / 2 ^ f.toNat % 2 ^ c.toNat)) :
    Calls Try.prog 23 #[.int .u64 n, .int .i64 f, .int .i64 c] w (Quiet (.int .u64 r) w) := by
  obtain ⟨f, rfl⟩ := Int.eq_ofNat_of_zero_le h0
  obtain ⟨c, rfl⟩ := Int.eq_ofNat_of_zero_le h2
  rw [hr.out]
  exact bits_ok n f c w hn (by omega) (by omega)
theorem setbits_is (n x r : Nat) (f c : Int) (w : World) (hn : n ≤ 18446744073709551615) (h0 : 0 ≤ f) (h1 : f ≤ 63) (h2 : 0 ≤ c) (h3 : f + c ≤ 64) (hr : Hid (r = setb n f.toNat c.toNat x)) :
    Calls Try.prog 25 #[.int .u64 n, .int .i64 f, .int .i64 c, .int .u64 x] w fun e w' => e = .returned (.int .u64 r) ∧ w = w' := by
  obtain ⟨f, rfl⟩ := Int.eq_ofNat_of_zero_le h0
  obtain ⟨c, rfl⟩ := Int.eq_ofNat_of_zero_le h2
  rw [hr.out]
  exact setbits_ok n f c x w hn (by omega) (by omega)
/-- Put, and what is read of it. -/
theorem put_is (A : Option Addr) (n cap x a m : Nat) (bs l : List Nat) (w : World) (hcap : n ≤ cap) (hreach : cap ≤ 140737488351232) (h1 : 1 ≤ m) (h2 : m ≤ 8) (hx : Hid (x < 256 ^ m)) (h : a + m ≤ n) (hA : Row w A n bs) (hl : Hid (l = splice bs a (pb x m))) :
    Calls Try.prog 21 #[.slice A n cap, .int .i64 a, .int .i64 m, .int .u64 x] w fun e w' => e = .returned (.tuple #[.slice (some ⟨w.heap.size, 0, none⟩) n n, .int .i64 0]) ∧ Row w' (some ⟨w.heap.size, 0, none⟩) n l ∧ Below w.heap.size w w' :=
  (put_ok A n cap x a m bs w hcap hreach h1 h2 hx.out h hA).mono fun e w' ⟨he, ho, hb⟩ => by
    have hln : (splice bs a (pb x m)).length = n := by rw [splice_length (by rw [pb_length, hA.1]; exact h), hA.1]
    have hr := ho.row (splice_byte hA.2.1 (pb_byte x m))
    rw [hln, ← hl.out] at hr
    rw [hln] at he
    exact ⟨he, hr, hb⟩
theorem get_is (A : Option Addr) (n cap a m r : Nat) (bs : List Nat) (w : World) (hn : n ≤ 9223372036854775807) (hcap : n ≤ cap) (h1 : 1 ≤ m) (h2 : m ≤ 8) (h : a + m ≤ n) (hA : Row w A n bs) (hr : Hid (r = be ((bs.drop a).take m))) :
    Calls Try.prog 14 #[.slice A n cap, .int .i64 a, .int .i64 m] w fun e w' => e = .returned (.tuple #[.int .u64 r, .int .i64 0]) ∧ w = w' := by
  rw [hr.out]
  exact get_ok A n cap a m bs w hn hcap h1 h2 h hA

set_option maxHeartbeats 800000 in
theorem walk_OctetBack (a0 : Option Addr) (len0 cap0 : Nat) (bs0 : List Nat) (n : Nat) (zs2 : List Int) (w : World) (R0 : Row w a0 len0 bs0) (hl0 : len0 ≤ cap0) (hc0 : cap0 ≤ 140737488351232)
    (hn : n ≤ 18446744073709551615) (hn2 : zs2.length = 4) (hz2 : ∀ z ∈ zs2, (Lit.int .u8 z).wf = true) :
    Calls Try.prog 7 #[.slice a0 len0 cap0, .int .u64 n, .agg (zs2.map (Value.int .u8)).toArray] w fun e w' => e = .returned (.bool true) ∧ Below w.heap.size w w' := by
  obtain ⟨q0, q1, q2, q3, rfl⟩ := four_of hn2
  have h0 := wf_u8 (hz2 q0 (by simp))
  have h1 := wf_u8 (hz2 q1 (by simp))
  have h2 := wf_u8 (hz2 q2 (by simp))
  have h3 := wf_u8 (hz2 q3 (by simp))
  obtain ⟨k, rfl⟩ := Int.eq_ofNat_of_zero_le h0.1
  clear hz2 hn2
  obtain ⟨h1a, h1b⟩ := h1
  obtain ⟨h2a, h2b⟩ := h2
  obtain ⟨h3a, h3b⟩ := h3
  obtain ⟨_, h0b⟩ := h0
  obtain ⟨d, hd⟩ : ∃ d : Nat, 1 + q1 % 8 = (d : Int) := ⟨(1 + q1 % 8).toNat, by omega⟩
  obtain ⟨i, hi⟩ : ∃ i : Nat, q2 % 64 = (i : Int) := ⟨(q2 % 64).toNat, by omega⟩
  have hi63 : i ≤ 63 := by omega
  have hd1 : 1 ≤ d := by omega
  have hd8 : d ≤ 8 := by omega
  obtain ⟨c, hc⟩ : ∃ c : Nat, q3 % (65 - (i : Int)) = (c : Int) := ⟨(q3 % (65 - (i : Int))).toNat, by
    have := Int.emod_nonneg q3 (show (65 - (i : Int)) ≠ 0 by omega)
    omega⟩
  have hc64 : i + c ≤ 64 := by
    have := Int.emod_lt_of_pos q3 (show 0 < 65 - (i : Int) by omega)
    omega
  have R := Lib.hid R0
  have hlb := Lib.hid R0.1
  have hb0 : Below w.heap.size w (w.alloc (.cells #[.int .u8 k, .int .u8 q1, .int .u8 q2, .int .u8 q3] 46)) := (Below.refl _ _).alloc (Nat.le_refl _) _
  have H0 := Lib.hid hb0
  have RA := Lib.hid (R0.alloc (.cells #[.int .u8 k, .int .u8 q1, .int .u8 q2, .int .u8 q3] 46))
  clear hb0 R0
  show Calls Try.prog 7 #[.slice a0 len0 cap0, .int .u64 n, .agg #[.int .u8 k, .int .u8 q1, .int .u8 q2, .int .u8 q3]] w fun e w' => e = .returned (.bool true) ∧ Below w.heap.size w w'
  by_cases hs : len0 < k + d
  · go_enter Try.func7, Try.ntmps7
    go_wp2_with fail
    refine (live1 _).mono ?_
    rintro e w1 ⟨rfl, b1⟩
    have B1 := Lib.hid (below_step H0.out b1 (Nat.le_refl _))
    clear b1
    go_wp2
    go_ret
    exact ⟨rfl, B1.out⟩
  · obtain ⟨m, hm⟩ : ∃ m, m = n / 2 ^ 0 % 2 ^ (8 * d) := ⟨_, rfl⟩
    have hm8 : m < 256 ^ d := by rw [hm, pow256]; exact Nat.mod_lt _ (Nat.two_pow_pos _)
    have hm64 : m ≤ 18446744073709551615 := by have := pow8_le hd8; omega
    obtain ⟨l, hl⟩ : ∃ l, l = splice bs0 k (pb m d) := ⟨_, rfl⟩
    obtain ⟨z, hz⟩ : ∃ z, z = setb m i c n := ⟨_, rfl⟩
    have hz64 : z ≤ 18446744073709551615 := by have := setb_lt m i c n hc64; omega
    have hget : m = be ((l.drop k).take d) := by
      have h5 := splice_mid (bs := bs0) (l := pb m d) (a := k) (by rw [pb_length, hlb.out]; omega)
      rw [pb_length] at h5
      have h6 : (l.drop k).take d = pb m d := by
        rw [hl]
        unfold splice
        rw [pb_length]
        exact h5
      rw [h6, be_pb, Nat.mod_eq_of_lt hm8]
    have hsame : ∀ j, (j < k ∨ k + d ≤ j) → l.getD j 0 = bs0.getD j 0 := by
      intro j hj
      rw [hl]
      unfold splice
      exact splice_out (by rw [pb_length, hlb.out]; omega) (by rw [pb_length]; exact hj)
    have HM := Lib.hid hm
    have HM8 := Lib.hid hm8
    have HL := Lib.hid hl
    have HZ := Lib.hid hz
    have HG := Lib.hid hget
    have HS := Lib.hid hsame
    clear hm hm8 hl hz hget hsame
    obtain ⟨b, o, rfl, hbw, hcw⟩ := R.out.addr (by omega)
    have HC := Lib.hid hcw
    clear hcw
    go_enter Try.func7, Try.ntmps7
    go_wp2_with fail
    refine (bits_is n m _ _ _ hn (by omega) (by omega) (by omega) (by omega) (by rw [show (8 * (d : Int)).toNat = 8 * d from by omega]; exact HM)).mono ?_
    rintro e w1 ⟨rfl, q9, rfl⟩
    go_wp2_with fail
    refine (put_is _ _ _ m k d bs0 l _ hl0 hc0 hd1 hd8 HM8 (by omega) (RA.out.drewN q9) HL).mono ?_
    rintro e w2 ⟨rfl, r2, b2⟩
    have x2 : w2.cell? ⟨w.heap.size, 2, none⟩ = some (.int .u8 q2) := (b2.cell (p := ⟨w.heap.size, 2, none⟩) (by simp)).trans (cell_of_row _ _ _ _ _ _ (heap_alloc_new w _))
    have x3 : w2.cell? ⟨w.heap.size, 3, none⟩ = some (.int .u8 q3) := (b2.cell (p := ⟨w.heap.size, 3, none⟩) (by simp)).trans (cell_of_row _ _ _ _ _ _ (heap_alloc_new w _))
    have X2 := Lib.hid x2
    have X3 := Lib.hid x3
    clear x2 x3
    have b2 := below_step (below_drewN' H0.out q9) b2 (Nat.le_refl _)
    have R2 := Lib.hid r2
    have B2 := Lib.hid b2
    clear r2 b2
    go_wp2_with fail
    refine (get_is _ _ _ k d m l _ (by omega) (Nat.le_refl _) hd1 hd8 (by omega) (by simpa using R2.out) HG).mono ?_
    rintro e w3 ⟨rfl, rfl⟩
    have HX : Hid (∀ j, j < len0 → w2.cell? ⟨w.heap.size + 1, j, none⟩ = some (.int .u8 (l.getD j 0 : Nat))) := by
      intro j hj
      have R2' : Row w2 (some ⟨w.heap.size + 1, 0, none⟩) len0 l := by simpa using R2.out
      obtain ⟨b', o', he, _, hc'⟩ := R2'.addr (by omega)
      injection he with he
      injection he with e1 e2
      subst e1 e2
      have := hc' j hj
      rwa [Nat.zero_add] at this
    have HY : Hid (∀ j, j < len0 → w2.cell? ⟨b, o + j, none⟩ = some (.int .u8 (bs0.getD j 0 : Nat))) := fun j hj => (B2.out.cell (p := ⟨b, o + j, none⟩) hbw).trans (HC.out j hj)
    go_wp2
    go_loopw [14] (fun v wr => ∃ j q : Nat, j ≤ len0 ∧ v = .int .i64 j ∧ wr = w2.drewN q) (fun v _ => len0 - (intOf v).toNat)
    case atStart => exact ⟨0, 0, Nat.zero_le _, rfl, rfl⟩
    case round =>
      obtain ⟨j, q, hj, rfl, rfl⟩ := hrel
      by_cases hlt : j < len0
      · have hx := HX.out j hlt
        have hy := HY.out j hlt
        by_cases hlo : j < k
        · rw [HS.out j (.inl hlo)] at hx
          go_wp2
          go_quiet (fail)
          go_wp2
          go_roundw
          case rel => exact ⟨j + 1, q + nq, by omega, by go_num, rfl⟩
          case measure => simp [intOf]; omega
        · by_cases hhi : k + d ≤ j
          · rw [HS.out j (.inr hhi)] at hx
            have f1 : decide ((j : Int) < (k : Int)) = false := by simp; omega
            have hsum : IntKind.i64.wrap ((k : Int) + (d : Int)) = (k : Int) + (d : Int) := IntWalk.i64_in _ (by omega)
            have f2 : decide ((k : Int) + (d : Int) ≤ (j : Int)) = true := by simp; omega
            go_wp2
            go_quiet (fail)
            clear hsum
            go_wp2
            go_roundw
            case rel => exact ⟨j + 1, q + nq, by omega, by go_num, rfl⟩
            case measure => simp [intOf]; omega
          · have f1 : decide ((j : Int) < (k : Int)) = false := by simp; omega
            have hsum : IntKind.i64.wrap ((k : Int) + (d : Int)) = (k : Int) + (d : Int) := IntWalk.i64_in _ (by omega)
            have f2 : decide ((k : Int) + (d : Int) ≤ (j : Int)) = false := by simp; omega
            clear hx hy
            go_wp2
            go_quiet (fail)
            clear hsum
            go_wp2
            go_roundw
            case rel => exact ⟨j + 1, q + nq, by omega, by go_num, rfl⟩
            case measure => simp [intOf]; omega
      · have x2 := X2.out
        have x3 := X3.out
        go_wp2_with fail
        refine (setbits_is m n z _ _ _ hm64 (by omega) (by omega) (by omega) (by omega) (by simpa using HZ)).mono ?_
        rintro e w4 ⟨rfl, rfl⟩
        go_wp2_with fail
        refine (live1 _).mono ?_
        rintro e w5 ⟨rfl, b5⟩
        have B5 := Lib.hid (below_step (below_drewN' B2.out q) b5 (Nat.le_refl _))
        clear b5 x2 x3
        have s1 := setb_read m i c n hc64
        have s2 := setb_low m i c n hc64
        have s3 := setb_back m i c n hc64 (by omega)
        rw [← HZ.out] at s1 s2 s3
        obtain ⟨t1, ht1⟩ : ∃ t1, t1 = n % 2 ^ c := ⟨_, rfl⟩
        obtain ⟨t2, ht2⟩ : ∃ t2, t2 = m % 2 ^ i := ⟨_, rfl⟩
        obtain ⟨t3, ht3⟩ : ∃ t3, t3 = m / 2 ^ i % 2 ^ c := ⟨_, rfl⟩
        have S1 := Lib.hid s1
        have S2 := Lib.hid s2
        have S3 := Lib.hid s3
        have T1 := Lib.hid ht1
        have T2 := Lib.hid ht2
        have T3 := Lib.hid ht3
        clear s1 s2 s3 ht1 ht2 ht3
        go_wp2_with fail
        refine (bits_is z t1 _ _ _ hz64 (by omega) (by omega) (by omega) (by omega) (by show t1 = _; rw [T1.out, ← S1.out]; simp)).mono ?_
        rintro e w6 ⟨rfl, y1, rfl⟩
        go_wp2_with fail
        refine (bits_is n t1 _ _ _ hn (by omega) (by omega) (by omega) (by omega) (by show t1 = _; rw [T1.out]; simp)).mono ?_
        rintro e w6 ⟨rfl, y2, rfl⟩
        go_wp2_with fail
        refine (bits_is z t2 _ _ _ hz64 (by omega) (by omega) (by omega) (by omega) (by show t2 = _; rw [T2.out, ← S2.out]; simp)).mono ?_
        rintro e w6 ⟨rfl, y3, rfl⟩
        go_wp2_with fail
        refine (bits_is m t2 _ _ _ hm64 (by omega) (by omega) (by omega) (by omega) (by show t2 = _; rw [T2.out]; simp)).mono ?_
        rintro e w6 ⟨rfl, y4, rfl⟩
        go_wp2_with fail
        refine (bits_is m t3 _ _ _ hm64 (by omega) (by omega) (by omega) (by omega) (by show t3 = _; rw [T3.out]; simp)).mono ?_
        rintro e w6 ⟨rfl, y5, rfl⟩
        go_wp2_with fail
        refine (setbits_is z t3 m _ _ _ hz64 (by omega) (by omega) (by omega) (by omega) (by show m = _; rw [T3.out]; simpa using S3.out.symm)).mono ?_
        rintro e w6 ⟨rfl, rfl⟩
        go_wp2
        go_ret
        refine ⟨rfl, ?_⟩
        first
          | exact below_drewN' B5.out _
          | (simp only [World.drewN_drewN]; exact below_drewN' B5.out _)
end Go.Proofs.Ytbnheffeojnjdaa
