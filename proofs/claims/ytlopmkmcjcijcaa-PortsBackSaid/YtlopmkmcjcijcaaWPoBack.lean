/-
  The walk of PortsBack.
-/
import Derived.Test.YtlopmkmcjcijcaaWPWrites
import Derived.Test.YtlopmkmcjcijcaaOLift
namespace Go.Proofs.Ytlopmkmcjcijcaa
open Go.RowKit
set_option linter.unusedVariables false

theorem getD_take_app {H bs : List Nat} {m i : Nat} (h1 : i < m) (h2 : i < H.length) : ((H ++ bs).take m).getD i 0 = H.getD i 0 := by
  rw [List.getD_eq_getElem?_getD, List.getD_eq_getElem?_getD, List.getElem?_take, if_pos h1, List.getElem?_append_left h2]
theorem fhw_take_app {H bs : List Nat} {m i : Nat} (h1 : i + 1 < m) (h2 : i + 1 < H.length) : fhw ((H ++ bs).take m) i = fhw H i := by
  unfold fhw
  rw [getD_take_app (by omega) (by omega), getD_take_app h1 h2]
/-- What was written is read again; and of a part of it, that is a first fragment. -/
theorem poRead_back {p : Int} (hp : p = 6 ∨ p = 17 ∨ p = 132) {x y n m : Nat} {bs : List Nat} {first : Bool} (hx : x ≤ 65535) (hy : y ≤ 65535) (hn : n ≤ 60000) (hm : m ≤ poLeast p + n) (hf : first = true ∨ m = poLeast p + n) :
    poRead p m ((poHead p x y n ++ bs).take m) first = if m < poLeast p then (0, 0, 15) else (x, y, 0) := by
  have h0 : poLeast p ≠ 0 := by rcases hp with rfl | rfl | rfl <;> decide
  have hl := poHead_len h0 x y n
  unfold poRead
  rw [if_neg h0]
  by_cases hml : m < poLeast p
  · rw [if_pos hml, if_pos hml]
  rw [if_neg hml, if_neg hml]
  have l8 : 8 ≤ poLeast p := by rcases hp with rfl | rfl | rfl <;> decide
  have e0 : fhw ((poHead p x y n ++ bs).take m) 0 = x := by
    rw [fhw_take_app (by omega) (by omega)]
    show x / 256 * 256 + x % 256 = x
    omega
  have e2 : fhw ((poHead p x y n ++ bs).take m) 2 = y := by
    rw [fhw_take_app (by omega) (by omega)]
    show y / 256 * 256 + y % 256 = y
    omega
  have hfit : poFits p m ((poHead p x y n ++ bs).take m) first = true := by
    rcases hp with rfl | rfl | rfl
    · have hm20 : ¬ m < 20 := hml
      have hl20 : (poHead 6 x y n).length = 20 := hl
      show decide (20 ≤ 4 * (((poHead 6 x y n ++ bs).take m).getD 12 0 / 16) ∧ 4 * (((poHead 6 x y n ++ bs).take m).getD 12 0 / 16) ≤ m) = true
      rw [getD_take_app (by omega) (by omega)]
      exact decide_eq_true ⟨by show 20 ≤ 4 * (80 / 16); decide, by show 4 * (80 / 16) ≤ m; omega⟩
    · have hm8 : ¬ m < 8 := hml
      have hl8 : (poHead 17 x y n).length = 8 := hl
      have hlm : m ≤ 8 + n := hm
      show decide (8 ≤ fhw ((poHead 17 x y n ++ bs).take m) 4 ∧ (first = true ∨ fhw ((poHead 17 x y n ++ bs).take m) 4 ≤ m)) = true
      rw [fhw_take_app (by omega) (by omega)]
      have e4 : fhw (poHead 17 x y n) 4 = 8 + n := by
        show (8 + n) / 256 * 256 + (8 + n) % 256 = 8 + n
        omega
      rw [e4]
      refine decide_eq_true ⟨by omega, ?_⟩
      rcases hf with h | h
      · exact .inl h
      · have h : m = 8 + n := h
        exact .inr (by omega)
    · rfl
  rw [hfit, e0, e2]
  simp
theorem poErr_ok {p : Int} (hp : p = 6 ∨ p = 17 ∨ p = 132) {x y n : Nat} (hx : x ≤ 65535) (hy : y ≤ 65535) (hn : n ≤ 60000) : poErr p x y n = 0 := by
  have h1 : spPort (x : Int) = true := decide_eq_true ⟨by omega, by omega⟩
  have h2 : spPort (y : Int) = true := decide_eq_true ⟨by omega, by omega⟩
  have hll := poLeast_le p
  unfold poErr
  rw [if_neg (by rcases hp with rfl | rfl | rfl <;> decide), h1, h2, if_neg (by simp), if_neg (by omega)]
theorem idx3 (r : Nat) (p : Int) (h : (r = 0 ∧ p = 6) ∨ (r = 1 ∧ p = 17) ∨ (r = 2 ∧ p = 132)) (w : World) : (Instr.index 70 (.agg #[.int .i64 6, .int .i64 17, .int .i64 132]) (.int .u8 (r : Int))).run Try.prog w = .ok (.int .i64 p) w := by
  rcases h with ⟨rfl, rfl⟩ | ⟨rfl, rfl⟩ | ⟨rfl, rfl⟩
  · simp [Instr.index, run_underlying Try.underlying70, asIntOf, go_sem]
  · simp [Instr.index, run_underlying Try.underlying70, asIntOf, go_sem]
  · simp [Instr.index, run_underlying Try.underlying70, asIntOf, go_sem]
theorem poback_big {n : Nat} (h : 60000 < n) : (60000 : Int) < (n : Int) := by omega
theorem poback_small {n : Nat} (h : ¬ 60000 < n) : n ≤ 60000 ∧ ¬ (60000 : Int) < (n : Int) := by omega
theorem poback_ints {l n N k ct : Nat} (hl : l ≤ 20) (h0 : l ≠ 0) (hn : n ≤ 60000) (hN : N = l + n) (hk : k ≤ 255) (hct : ct = k % (N + 1)) :
    wrap64 ((l : Int) + (n : Int)) = (N : Int) ∧ wrap64 ((N : Int) + 1) = ((N + 1 : Nat) : Int) ∧ ct ≤ N ∧ (k : Int).tmod ((N : Int) + 1) = (ct : Int) ∧ (k : Int) % ((N : Int) + 1) = (ct : Int) ∧ (N : Int) ≤ 60020 ∧ (0 : Int) < (N : Int) ∧ (ct : Int) ≤ (N : Int) ∧ 0 < N ∧ l ≤ N ∧ N ≤ 140737488355328 ∧ (k : Int).tmod ((l : Int) + (n : Int) + 1) = (ct : Int) ∧ (k : Int) % ((l : Int) + (n : Int) + 1) = (ct : Int) := by
  have hctN : ct ≤ N := by have := Nat.mod_lt k (show 0 < N + 1 by omega); omega
  have m1 : (k : Int).tmod ((N : Int) + 1) = (ct : Int) := by
    have h := Int.natCast_emod k (N + 1)
    rw [Int.tmod_eq_emod_of_nonneg (by omega), hct, h]
    rfl
  have m2 : (k : Int) % ((N : Int) + 1) = (ct : Int) := by rw [← m1, Int.tmod_eq_emod_of_nonneg (by omega)]
  exact ⟨by unfold wrap64; omega, by unfold wrap64; omega, hctN, m1, m2, by omega, by omega, by omega, by omega, by omega, by omega, by rw [show (l : Int) + (n : Int) + 1 = (N : Int) + 1 by omega]; exact m1, by rw [show (l : Int) + (n : Int) + 1 = (N : Int) + 1 by omega]; exact m2⟩
set_option maxRecDepth 10000 in
set_option maxHeartbeats 3200000 in
theorem walk_PortsBack (k0 : Nat) (zs1 : List Int) (a2 : Option Addr) (len2 cap2 : Nat) (bs2 : List Nat) (w : World) (hi0 : k0 ≤ 255) (hn1 : zs1.length = 2) (hz1 : ∀ z ∈ zs1, (Lit.int .u16 z).wf = true) (R2 : Row w a2 len2 bs2) (hl2 : len2 ≤ cap2) (hc2 : cap2 ≤ 140737488351232) :
    Calls Try.prog 12 #[.int .u8 k0, .agg (zs1.map (Value.int .u16)).toArray, .slice a2 len2 cap2] w fun e w' => e = .returned (.bool true) ∧ Below w.heap.size w w' := by
  obtain ⟨f, a, rfl⟩ := int_pair hn1
  obtain ⟨f0, f1⟩ := wf_u16 (hz1 f (by simp))
  obtain ⟨a0, a1⟩ := wf_u16 (hz1 a (by simp))
  obtain ⟨x, rfl⟩ := Int.eq_ofNat_of_zero_le f0
  obtain ⟨y, rfl⟩ := Int.eq_ofNat_of_zero_le a0
  have hx : x ≤ 65535 := by omega
  have hy : y ≤ 65535 := by omega
  obtain ⟨r, hr⟩ : ∃ r, r = k0 % 3 := ⟨_, rfl⟩
  obtain ⟨p, hrp, hp⟩ : ∃ p : Int, ((r = 0 ∧ p = 6) ∨ (r = 1 ∧ p = 17) ∨ (r = 2 ∧ p = 132)) ∧ (p = 6 ∨ p = 17 ∨ p = 132) := by
    rcases (by omega : r = 0 ∨ r = 1 ∨ r = 2) with h | h | h
    · exact ⟨6, .inl ⟨h, rfl⟩, .inl rfl⟩
    · exact ⟨17, .inr (.inl ⟨h, rfl⟩), .inr (.inl rfl)⟩
    · exact ⟨132, .inr (.inr ⟨h, rfl⟩), .inr (.inr rfl)⟩
  have hidx := idx3 r p hrp
  have hr3 : (k0 : Int) % 3 = (r : Int) := by omega
  have HR := Lib.hid R2
  obtain ⟨V, eV⟩ : ∃ V, V = w.alloc (.cells #[.int .u16 x, .int .u16 y] 69) := ⟨_, rfl⟩
  have HA : Hid (ArrV 69 V w.heap.size [.int .u16 x, .int .u16 y]) := by show ArrV _ _ _ _; rw [eV]; exact ArrV.new _ w _
  have BV : Hid (Below w.heap.size w V) := by show Below _ _ _; rw [eV]; exact (Below.refl _ _).alloc (Nat.le_refl _) _
  have c0 := HA.out.get 0
  have c1 := HA.out.get 1
  simp at c0 c1
  have CW := Lib.hid (fun w hR => powrite_any p x y a2 len2 cap2 bs2 w (by omega) hl2 hR)
  unfold TwoTo at CW
  have k256 : k0 < 256 := by omega
  by_cases hbig : 60000 < len2
  · have hbI := poback_big hbig
    obtain ⟨L, hL⟩ : ∃ L, L = poBytes p x y len2 bs2 := ⟨_, rfl⟩
    obtain ⟨z, hz⟩ : ∃ z, z = poErr p x y len2 := ⟨_, rfl⟩
    rw [← hL, ← hz] at CW
    clear hL hz R2 hl2 hc2 hi0 hz1 hn1 hr hrp hp f0 f1 a0 a1 hbig
    show Calls Try.prog 12 #[.int .u8 k0, .agg #[.int .u16 x, .int .u16 y], .slice a2 len2 cap2] w fun e w' => e = .returned (.bool true) ∧ Below w.heap.size w w'
    go_enter Try.func12, Try.ntmps12
    go_upto_region 1 with fail
    rw [← eV]
    obtain ⟨g, hg⟩ : ∃ g, g = w.heap.size := ⟨_, rfl⟩
    rw [← hg] at HA c0 c1 ⊢
    clear eV hg
    go_wp2_with fail
    refine (CW.out _ (HR.out.below BV.out)).mono ?_
    rintro e w1 ⟨v1, rfl, r1, b1⟩
    have B1 := Lib.hid (below_both BV.out b1)
    clear b1 r1 c0 c1
    go_wp2_with fail
    refine (live13 _).mono ?_
    rintro e w3 ⟨rfl, b3⟩
    have B3 := Lib.hid (below_both B1.out b3)
    clear b3
    go_wp2_with fail
    go_ret
    exact ⟨rfl, B3.out⟩
  · obtain ⟨hn6, hbI⟩ := poback_small hbig
    have h0 : poLeast p ≠ 0 := by rcases hp with rfl | rfl | rfl <;> decide
    have hE := poErr_ok hp hx hy hn6
    have hB : poBytes p x y len2 bs2 = poHead p x y len2 ++ bs2 := by unfold poBytes; rw [if_pos hE]; rfl
    rw [hE, hB] at CW
    obtain ⟨T, hT⟩ : ∃ T, T = poHead p x y len2 ++ bs2 := ⟨_, rfl⟩
    rw [← hT] at CW
    have hTl : T.length = poLeast p + len2 := by rw [hT, List.length_append, poHead_len h0, R2.1]
    have hbk : ∀ m first, m ≤ poLeast p + len2 → (first = true ∨ m = poLeast p + len2) → poRead p m (T.take m) first = if m < poLeast p then (0, 0, 15) else (x, y, 0) := fun m first h1 h2 => by rw [hT]; exact poRead_back hp hx hy hn6 h1 h2
    have CL := Lib.hid (fun w => poleast_any p w)
    have hll := poLeast_le p
    obtain ⟨l, hl⟩ : ∃ l, l = poLeast p := ⟨_, rfl⟩
    rw [← hl] at hbk hTl h0 hll CL
    obtain ⟨N, hN⟩ : ∃ N, N = l + len2 := ⟨_, rfl⟩
    rw [← hN] at hbk hTl
    obtain ⟨ct, hct⟩ : ∃ ct, ct = k0 % (N + 1) := ⟨_, rfl⟩
    obtain ⟨hNI, hN1, hctN, m1, m2, nN, n0, ct0, hN0, hlN, hNm, m3, m4⟩ := poback_ints hll h0 hn6 hN hi0 hct
    have hNb : ((N : Int) != (l : Int) + (len2 : Int)) = false := by rw [hN]; simp
    obtain ⟨q, hq⟩ : ∃ q : Bool, q = ((k0 : Int) % 2 == 0) := ⟨_, rfl⟩
    have C1 : Hid (∀ (b o c : Nat) W, N ≤ c → Row W (some ⟨b, o, none⟩) N T → Calls Try.prog 40 #[.int .i64 p, .slice (some ⟨b, o, none⟩) N c, .bool q] W fun e w' => e = .returned (.tuple #[.int .i64 x, .int .i64 y, .int .i64 0]) ∧ Below W.heap.size W w') := fun b o c W hc h => by
      have h2 := hbk N q (Nat.le_refl _) (.inr rfl)
      rw [if_neg (Nat.not_lt.2 hlN), List.take_of_length_le (Nat.le_of_eq hTl)] at h2
      exact poread_below h2 hNm hc h
    have HN := Lib.hid (And.intro hTl (And.intro hctN hN))
    have HLN : Hid (0 < T.length) := by show 0 < T.length; rw [hTl]; exact hN0
    by_cases hcut : ct < l
    · have hcI : (ct : Int) < (l : Int) := Int.ofNat_lt.2 hcut
      have C2 : Hid (∀ (b o c : Nat) W, ct ≤ c → Row W (some ⟨b, o, none⟩) ct (T.take ct) → Calls Try.prog 40 #[.int .i64 p, .slice (some ⟨b, o, none⟩) ct c, .bool true] W fun e w' => e = .returned (.tuple #[.int .i64 0, .int .i64 0, .int .i64 15]) ∧ Below W.heap.size W w') := fun b o c W hc h => by
        have h2 := hbk ct true hctN (.inl rfl)
        rw [if_pos hcut] at h2
        exact poread_below h2 (Nat.le_trans hctN hNm) hc h
      have q1 := Lib.hid hq
      clear hbk hT hTl hB hE R2 hl2 hc2 hi0 hz1 hn1 hr hrp hp f0 f1 a0 a1 hbig hn6 h0 hl hN hctN hct hcut hq hll hN0 hlN hNm
      show Calls Try.prog 12 #[.int .u8 k0, .agg #[.int .u16 x, .int .u16 y], .slice a2 len2 cap2] w fun e w' => e = .returned (.bool true) ∧ Below w.heap.size w w'
      go_enter Try.func12, Try.ntmps12
      go_upto_region 1 with fail
      rw [← eV]
      obtain ⟨g, hg⟩ : ∃ g, g = w.heap.size := ⟨_, rfl⟩
      rw [← hg] at HA c0 c1 ⊢
      clear eV hg
      go_wp2_with fail
      refine (CW.out _ (HR.out.below BV.out)).mono ?_
      rintro e w1 ⟨v1, rfl, ⟨A1, d1, rfl, hd1, hr1⟩, b1⟩
      obtain ⟨b, o, rfl, _, _⟩ := hr1.addr HLN.out
      rw [HN.out.1] at hd1 hr1 ⊢
      have HA1 := Lib.hid (HA.out.below b1)
      have B1 := Lib.hid (below_both BV.out b1)
      have R1 := Lib.hid hr1
      have HD1 := Lib.hid hd1
      clear b1 hr1 hd1 c0 c1 HA
      have q2 := q1.out.symm
      go_wp2_with fail
      refine (C1.out b o d1 _ HD1.out R1.out).mono ?_
      rintro e w2 ⟨rfl, b2⟩
      have hA2 := HA1.out.below b2
      have c0 := hA2.get 0
      have c1 := hA2.get 1
      simp at c0 c1
      have HA2 := Lib.hid hA2
      have R2 := Lib.hid (R1.out.below b2)
      have B2 := Lib.hid (below_both B1.out b2)
      clear b2 hA2 HA1 R1
      go_wp2_with fail
      refine (CL.out _).mono ?_
      rintro e w' ⟨rfl, rfl⟩
      have ctd : (ct : Int) ≤ (d1 : Int) := Int.le_trans ct0 (Int.ofNat_le.2 HD1.out)
      have HP : Hid (Row w2 (some ⟨b, o, none⟩) ct (T.take ct)) := by
        have hp := R2.out.part 0 ct (by rw [Nat.zero_add]; exact HN.out.2.1)
        rw [List.drop_zero, Nat.add_zero] at hp
        exact hp
      go_wp2_with fail
      refine (C2.out b o d1 _ (Nat.le_trans HN.out.2.1 HD1.out) HP.out).mono ?_
      rintro e w3 ⟨rfl, b3⟩
      have hA3 := HA2.out.below b3
      have B3 := Lib.hid (below_both B2.out b3)
      have HA3 := Lib.hid hA3
      clear b3 hA3 HA2 R2 HP c0 c1
      go_wp2_with fail
      refine (CL.out _).mono ?_
      rintro e w' ⟨rfl, rfl⟩
      go_wp2_with fail
      refine (live13 _).mono ?_
      rintro e w4 ⟨rfl, b4⟩
      have hA4 := HA3.out.below b4
      have c0 := hA4.get 0
      have c1 := hA4.get 1
      simp at c0 c1
      have B4 := Lib.hid (below_both B3.out b4)
      clear b4 hA4 HA3
      go_wp2_with fail
      go_ret
      exact ⟨rfl, B4.out⟩
    · have hcI : ¬ (ct : Int) < (l : Int) := fun h => hcut (Int.ofNat_lt.1 h)
      have C2 : Hid (∀ (b o c : Nat) W, ct ≤ c → Row W (some ⟨b, o, none⟩) ct (T.take ct) → Calls Try.prog 40 #[.int .i64 p, .slice (some ⟨b, o, none⟩) ct c, .bool true] W fun e w' => e = .returned (.tuple #[.int .i64 x, .int .i64 y, .int .i64 0]) ∧ Below W.heap.size W w') := fun b o c W hc h => by
        have h2 := hbk ct true hctN (.inl rfl)
        rw [if_neg hcut] at h2
        exact poread_below h2 (Nat.le_trans hctN hNm) hc h
      have q1 := Lib.hid hq
      clear hbk hT hTl hB hE R2 hl2 hc2 hi0 hz1 hn1 hr hrp hp f0 f1 a0 a1 hbig hn6 h0 hl hN hctN hct hcut hq hll hN0 hlN hNm
      show Calls Try.prog 12 #[.int .u8 k0, .agg #[.int .u16 x, .int .u16 y], .slice a2 len2 cap2] w fun e w' => e = .returned (.bool true) ∧ Below w.heap.size w w'
      go_enter Try.func12, Try.ntmps12
      go_upto_region 1 with fail
      rw [← eV]
      obtain ⟨g, hg⟩ : ∃ g, g = w.heap.size := ⟨_, rfl⟩
      rw [← hg] at HA c0 c1 ⊢
      clear eV hg
      go_wp2_with fail
      refine (CW.out _ (HR.out.below BV.out)).mono ?_
      rintro e w1 ⟨v1, rfl, ⟨A1, d1, rfl, hd1, hr1⟩, b1⟩
      obtain ⟨b, o, rfl, _, _⟩ := hr1.addr HLN.out
      rw [HN.out.1] at hd1 hr1 ⊢
      have HA1 := Lib.hid (HA.out.below b1)
      have B1 := Lib.hid (below_both BV.out b1)
      have R1 := Lib.hid hr1
      have HD1 := Lib.hid hd1
      clear b1 hr1 hd1 c0 c1 HA
      have q2 := q1.out.symm
      go_wp2_with fail
      refine (C1.out b o d1 _ HD1.out R1.out).mono ?_
      rintro e w2 ⟨rfl, b2⟩
      have hA2 := HA1.out.below b2
      have c0 := hA2.get 0
      have c1 := hA2.get 1
      simp at c0 c1
      have HA2 := Lib.hid hA2
      have R2 := Lib.hid (R1.out.below b2)
      have B2 := Lib.hid (below_both B1.out b2)
      clear b2 hA2 HA1 R1
      go_wp2_with fail
      refine (CL.out _).mono ?_
      rintro e w' ⟨rfl, rfl⟩
      have ctd : (ct : Int) ≤ (d1 : Int) := Int.le_trans ct0 (Int.ofNat_le.2 HD1.out)
      have HP : Hid (Row w2 (some ⟨b, o, none⟩) ct (T.take ct)) := by
        have hp := R2.out.part 0 ct (by rw [Nat.zero_add]; exact HN.out.2.1)
        rw [List.drop_zero, Nat.add_zero] at hp
        exact hp
      go_wp2_with fail
      refine (C2.out b o d1 _ (Nat.le_trans HN.out.2.1 HD1.out) HP.out).mono ?_
      rintro e w3 ⟨rfl, b3⟩
      have hA3 := HA2.out.below b3
      have B3 := Lib.hid (below_both B2.out b3)
      have HA3 := Lib.hid hA3
      clear b3 hA3 HA2 R2 HP c0 c1
      go_wp2_with fail
      refine (CL.out _).mono ?_
      rintro e w' ⟨rfl, rfl⟩
      go_wp2_with fail
      refine (live13 _).mono ?_
      rintro e w4 ⟨rfl, b4⟩
      have hA4 := HA3.out.below b4
      have c0 := hA4.get 0
      have c1 := hA4.get 1
      simp at c0 c1
      have B4 := Lib.hid (below_both B3.out b4)
      clear b4 hA4 HA3
      go_wp2_with fail
      go_ret
      exact ⟨rfl, B4.out⟩
end Go.Proofs.Ytlopmkmcjcijcaa
