/-
  bitrow's Set and All, and the document's.
-/
import Derived.Test.YthikjngmaekjgaaBr3
namespace Go.Proofs.Ythikjngmaekjgaa
open Go.RowKit
set_option linter.unusedVariables false

/-- A row with a bit set, if it has that bit. -/
def setB (xs : List Nat) (i : Int) : List Nat := if i < 0 then xs else setRow xs i.toNat
theorem setB_neg {xs : List Nat} {i : Int} (h : i < 0) : setB xs i = xs := by simp [setB, h]
theorem setB_nat (xs : List Nat) (k : Nat) : setB xs (k : Int) = setRow xs k := by
  unfold setB
  rw [if_neg (by omega)]
  rfl
theorem setB_length (xs : List Nat) (i : Int) : (setB xs i).length = xs.length := by
  unfold setB; split
  · rfl
  · exact setRow_length _ _
theorem setB_word {xs : List Nat} (h : ∀ x ∈ xs, x < 18446744073709551616) (i : Int) : ∀ x ∈ setB xs i, x < 18446744073709551616 := by
  unfold setB; split
  · exact h
  · exact setRow_word h _

theorem copied {A : Option Addr} {n cap : Nat} {xs : List Nat} {w : World} (hA : RowU w A n xs) (o : Obj) (W : World) (hW : W = w.alloc (.cells (cellsU (List.replicate n 0)).toArray 48)) :
    ∃ w2, Sem.run Try.prog (Builtin.copy_ #[32, 32] 3 #[.slice (some ⟨w.heap.size, 0, none⟩) n n, .slice A n cap]) W = .ok (.int .i64 (n : Nat)) w2 ∧ OwnU w2 w.heap.size xs ∧ Below w.heap.size w w2 := by
  subst hW
  obtain ⟨w2, h1, h2, h3⟩ := copy_newU (w.alloc (.cells (cellsU (List.replicate n 0)).toArray 48)) w.heap.size n (List.replicate n 0) xs A n cap (OwnU.new w _) (by simp) hA.1 (Nat.le_refl _)
    (fun h0 => by
      obtain ⟨b, o, rfl, hb, hc⟩ := hA.addr h0
      refine ⟨⟨b, o, none⟩, rfl, fun j v hj => ?_⟩
      obtain ⟨hj, rfl⟩ := cellsU_get hj
      have := hA.1
      rw [add_flat, World.cell?_alloc_lt w _ ⟨b, o + j, none⟩ hb]
      exact hc j (by omega))
  exact ⟨w2, h1, h2, ((Below.refl _ _).alloc (Nat.le_refl _) _).trans h3⟩

set_option maxHeartbeats 400000 in
theorem brSet_any (A : Option Addr) (n cap : Nat) (xs : List Nat) (i : Int) (w : World) (hil : i ≤ 9223372036854775807) (hn : n ≤ 1048576) (hA : RowU w A n xs) :
    Calls Try.prog 16 #[.slice A n cap, .int .i64 i] w (MadeU w (setB xs i)) := by
  have hmk := make_rowU n hn w
  obtain ⟨w2, hcp, ho, hb⟩ := copied (cap := cap) hA (.cells #[] 48) _ rfl
  have hlen := hA.len
  have hO := ho.outv (B := w.heap.size) (Nat.le_refl _) (by rw [hlen]; unfold maxLen; omega)
  rw [hlen] at hO
  have HO := Lib.hid hO
  have HB := Lib.hid hb
  have HL := Lib.hid hlen
  have HW := Lib.hid (fun q => hA.word q)
  clear ho hb hlen hO hA
  by_cases hi : i < 0
  · rw [setB_neg hi]
    go_enter Try.func16, Try.ntmps16
    go_wp2_with (go_at_call 19; refine (within_neg _ _ _ _ _ hi).mono ?_; rintro e w' ⟨rfl, rfl⟩)
    go_ret
    exact ⟨_, rfl, HO.out, HB.out⟩
  · obtain ⟨k, rfl⟩ := Int.eq_ofNat_of_zero_le (by omega : 0 ≤ i)
    rw [setB_nat]
    obtain ⟨q, hq⟩ : ∃ q, q = k / 64 := ⟨_, rfl⟩
    obtain ⟨r, hr⟩ : ∃ r, r = k % 64 := ⟨_, rfl⟩
    have kq : (k : Int) / 64 = (q : Int) := by omega
    have kr : (k : Int) % 64 = (r : Int) := by omega
    have ql : (q : Int) ≤ 144115188075855871 := by omega
    have HQ := Lib.hid hq
    rcases Nat.lt_or_ge q n with h | h
    · have C1 := Lib.hid (fun w => within_in A n cap k q w kq ql h)
      have C2 := Lib.hid (brset_any w.heap.size w.heap.size n n k q r (xs.getD q 0) xs w2 HO.out HL.out (Nat.le_refl _) kq kr h (by omega) rfl (HW.out q))
      clear hq hr kq kr ql hil hi h
      go_enter Try.func16, Try.ntmps16
      go_wp2_with (first | (go_at_call 19; refine (C1.out _).mono ?_; rintro e w' ⟨rfl, rfl⟩) | (go_at_call 21; refine C2.out.mono ?_; rintro e w' ⟨rfl, ho3, hb3⟩) | fail)
      go_ret
      exact ⟨_, rfl, ho3, HB.out.trans hb3⟩
    · have C1 := Lib.hid (fun w => within_out A n cap k q w kq ql h)
      rw [setRow_out (by rw [HL.out]; omega)]
      clear hq hr kq kr ql hil hi h
      go_enter Try.func16, Try.ntmps16
      go_wp2_with (first | (go_at_call 19; refine (C1.out _).mono ?_; rintro e w' ⟨rfl, rfl⟩) | fail)
      go_ret
      exact ⟨_, rfl, HO.out, HB.out⟩

theorem setb_one (x r : Nat) (hx : x < 18446744073709551616) (hr : r < 64) : setb x r 1 1 = x ||| 2 ^ r := by
  have h1 := setb_lt x r 1 1 (by omega)
  have h2 : x ||| 2 ^ r < 2 ^ 64 := Nat.or_lt_two_pow hx (by have := pow_r r; rwa [Nat.mod_eq_of_lt hr] at this)
  apply Nat.eq_of_testBit_eq
  intro j
  rcases Nat.lt_or_ge j 64 with hj | hj
  · rw [setb_bit x r 1 1 j (by omega) hj, Nat.testBit_or, Nat.testBit_two_pow]
    by_cases h : r = j
    · subst h; simp
    · rw [if_neg (by omega)]; simp [h]
  · rw [Nat.testBit_lt_two_pow (Nat.lt_of_lt_of_le h1 (Nat.pow_le_pow_right (by decide) hj : 2 ^ 64 ≤ 2 ^ j)), Nat.testBit_lt_two_pow (Nat.lt_of_lt_of_le h2 (Nat.pow_le_pow_right (by decide) hj))]
theorem rsetbit_is (x r : Nat) (w : World) (hx : x < 18446744073709551616) (hr : r < 64) :
    Calls Try.prog 24 #[.int .u64 x, .int .i64 (r : Int), .int .i64 1, .int .u64 1] w fun e w' => e = .returned (.int .u64 ((x ||| 2 ^ r : Nat) : Int)) ∧ w = w' := by
  rw [← setb_one x r hx hr]
  exact rsetbits_ok x r 1 1 w (by omega) (by decide) (by omega) (by omega)

set_option maxHeartbeats 800000 in
theorem rSet_any (A : Option Addr) (n cap : Nat) (xs : List Nat) (i : Int) (w : World) (hil : i ≤ 9223372036854775807) (hn : n ≤ 1048575) (hA : RowU w A n xs) :
    Calls Try.prog 23 #[.slice A n cap, .int .i64 i] w (MadeU w (setB xs i)) := by
  have HA := Lib.hid hA
  have hlen := hA.len
  have HL := Lib.hid hlen
  clear hA hlen
  go_enter Try.func23, Try.ntmps23
  go_wp2_with fail
  go_loopw [5, 6] (fun v i wr => ∃ k : Nat, k ≤ n ∧ i = .int .i64 (k : Int) ∧ OutU w.heap.size wr v (xs.take k) ∧ Below w.heap.size w wr) (fun _ i _ => n - (intOf i).toNat)
  case atStart => exact ⟨0, Nat.zero_le _, rfl, OutU.nil _ _, Below.refl _ _⟩
  case round =>
    obtain ⟨k, hk, rfl, ho, hb⟩ := hrel
    have HO := Lib.hid ho
    have HB := Lib.hid hb
    clear ho hb
    by_cases hlt : k < n
    · obtain ⟨b, o, rfl, hl, hc⟩ := HA.out.addr (by omega)
      have h1 : wr.cell? ⟨b, o + k, none⟩ = some (.int .u64 (xs.getD k 0 : Nat)) := (HB.out.cell (p := ⟨b, o + k, none⟩) hl).trans (hc k hlt)
      have hst := take_succ_getD xs k (by rw [HL.out]; exact hlt)
      have hll : Hid ((xs.take k).length + 1 ≤ 1048576) := by rw [List.length_take]; exact (by omega : min k xs.length + 1 ≤ 1048576)
      obtain ⟨x, hx⟩ : ∃ x, x = xs.getD k 0 := ⟨_, rfl⟩
      rw [← hx] at h1 hst
      have HS := Lib.hid hst
      clear hst hx hc hl
      go_wp2_with (at_builtin; refine wpList_appendU (by rfl) (.tmp 13) (.tmp 18) (by rfl) (news := [x]) _ 1 (by rfl) (by rfl) (by rfl) (by rfl) HO.out HB.out HB.out.size hll.out ?_; intro v' w' ho' hb')
      go_roundw
      case rel => exact ⟨k + 1, by omega, by go_num, by rw [HS.out]; exact ho', hb'⟩
      case measure => simp [intOf]; omega
    · obtain rfl : k = n := by omega
      have hO := HO.out
      rw [List.take_of_length_le (by rw [HL.out]; exact Nat.le_refl _)] at hO
      have HO := Lib.hid hO
      clear hO hlt hk
      by_cases hi : i < 0
      · have HI := Lib.hid (setB_neg (xs := xs) hi)
        go_wp2_with fail
        go_ret
        rw [HI.out]
        exact ⟨_, rfl, HO.out, HB.out⟩
      · obtain ⟨m, rfl⟩ := Int.eq_ofNat_of_zero_le (by omega : 0 ≤ i)
        obtain ⟨q, hq⟩ : ∃ q, q = m / 64 := ⟨_, rfl⟩
        obtain ⟨r, hr⟩ : ∃ r, r = m % 64 := ⟨_, rfl⟩
        have kq : (m : Int) / 64 = (q : Int) := by omega
        have kr : (m : Int) % 64 = (r : Int) := by omega
        have ql : (q : Int) ≤ 144115188075855871 := by omega
        have hr2 : r < 64 := by omega
        rcases Nat.lt_or_ge q k with h | h
        · have hlen := HL.out
          obtain ⟨g, c, rfl, hg, _, _⟩ := HO.out.block (by omega)
          rw [hlen] at HO ⊢
          have hc := HO.out.cell hlen q h
          have hf := HO.out.frozen hlen q
          have hset := HO.out.set hlen q (xs.getD q 0 ||| 2 ^ r)
          have e : setRow xs m = xs.set q (xs.getD q 0 ||| 2 ^ r) := by unfold setRow; rw [hq, hr]
          rw [← e] at hset
          have hxl := HA.out.word q
          obtain ⟨x, hx⟩ : ∃ x, x = xs.getD q 0 := ⟨_, rfl⟩
          rw [← hx] at hc hset hxl
          have HS := Lib.hid hset
          have HG := Lib.hid hg
          have C := Lib.hid (fun w => rsetbit_is x r w hxl hr2)
          clear hq hr hil hi hlen hset e hx hxl hg
          go_wp2_with (first | (go_at_call 24; refine (C.out _).mono ?_; rintro e w' ⟨rfl, rfl⟩) | fail)
          go_ret
          rw [setB_nat]
          exact ⟨_, rfl, HS.out, HB.out.setCell (p := ⟨g, q, none⟩) HG.out _⟩
        · have HI := Lib.hid (setRow_out (xs := xs) (i := m) (by rw [HL.out]; omega))
          clear hq hr hil hi
          go_wp2_with fail
          go_ret
          rw [setB_nat, HI.out]
          exact ⟨_, rfl, HO.out, HB.out⟩
end Go.Proofs.Ythikjngmaekjgaa
