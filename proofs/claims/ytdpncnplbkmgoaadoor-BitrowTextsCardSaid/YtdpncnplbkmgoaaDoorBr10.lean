/-
  The document's And and Or.
-/
import Derived.Test.YtdpncnplbkmgoaaDoorBrBack
namespace Go.Proofs.YtdpncnplbkmgoaaDoor
open Go.RowKit
set_option linter.unusedVariables false

/-- The bits below k that P tells, set in a row of n words. -/
def mkRow (P : Nat → Bool) (n k : Nat) : List Nat := setAll n ((List.range k).filter P)
theorem mkRow_zero (P : Nat → Bool) (n : Nat) : mkRow P n 0 = List.replicate n 0 := rfl
theorem mkRow_yes {P : Nat → Bool} {n k : Nat} (h : P k = true) : mkRow P n (k + 1) = setRow (mkRow P n k) k := by
  unfold mkRow
  rw [List.range_succ, List.filter_append, ← setAll_snoc]
  simp [h]
theorem mkRow_no {P : Nat → Bool} {n k : Nat} (h : P k = false) : mkRow P n (k + 1) = mkRow P n k := by
  unfold mkRow
  rw [List.range_succ, List.filter_append]
  simp [h]
theorem mkRow_length (P : Nat → Bool) (n k : Nat) : (mkRow P n k).length = n := setAll_length _ _
theorem mkRow_word (P : Nat → Bool) (n k : Nat) : ∀ x ∈ mkRow P n k, x < 18446744073709551616 := setAll_word _ _
theorem mkRow_all {P : Nat → Bool} {xs : List Nat} (hx : ∀ x ∈ xs, x < 18446744073709551616) (h : ∀ i, i < 64 * xs.length → tb xs i = P i) : mkRow P xs.length (64 * xs.length) = xs := by
  refine row_ext (mkRow_length _ _ _) (mkRow_word _ _ _) hx fun i hi => ?_
  rw [mkRow_length] at hi
  unfold mkRow
  rw [tb_setAll _ _ (fun j hj => by have := List.mem_range.1 (List.mem_filter.1 hj).1; exact this), h i hi]
  cases hp : P i with
  | true => exact decide_eq_true (List.mem_filter.2 ⟨List.mem_range.2 hi, hp⟩)
  | false => exact decide_eq_false (fun hm => by have := (List.mem_filter.1 hm).2; rw [hp] at this; cases this)

/-- Bit i in all of the first k rows, in any of them. -/
def allTo' (xss : List (List Nat)) (k i : Nat) : Bool := (xss.take k).all fun r => tb r i
def anyTo (xss : List (List Nat)) (k i : Nat) : Bool := (xss.take k).any fun r => tb r i
theorem allTo'_succ {xss : List (List Nat)} {k : Nat} (h : k < xss.length) (i : Nat) : allTo' xss (k + 1) i = (allTo' xss k i && tb (xss.getD k []) i) := by
  unfold allTo'
  rw [take_succ_rows xss k h, List.all_append]
  simp
theorem anyTo_succ {xss : List (List Nat)} {k : Nat} (h : k < xss.length) (i : Nat) : anyTo xss (k + 1) i = (anyTo xss k i || tb (xss.getD k []) i) := by
  unfold anyTo
  rw [take_succ_rows xss k h, List.any_append]
  simp
theorem setRow_twice (xs : List Nat) (i : Nat) : setRow (setRow xs i) i = setRow xs i := by
  unfold setRow
  rcases Nat.lt_or_ge (i / 64) xs.length with h | h
  · rw [List.set_set]
    congr 1
    rw [List.getD_eq_getElem?_getD (l := xs.set _ _), List.getElem?_set_self h, Option.getD_some, Nat.or_assoc, Nat.or_self]
  · rw [List.set_eq_of_length_le (by rw [List.length_set]; exact h)]
theorem zeroRow_word (m : Nat) : ∀ x ∈ List.replicate m 0, x < 18446744073709551616 := fun x hx => by rw [List.eq_of_mem_replicate hx]; decide
theorem newN_words {n : Nat} (h : n ≤ 1000) : newN (64 * (n : Int)) = n := by
  have := newN_nat (k := 64 * n) (by omega)
  rw [show ((64 * n : Nat) : Int) = 64 * (n : Int) from by omega] at this
  omega
theorem lt_words {j m : Nat} (h : j < 64 * m) : decide ((j : Int) < 64 * (m : Int)) = true := decide_eq_true (by omega)
theorem hasB_nat (x : List Nat) (i : Nat) : hasB x (i : Int) = tb x i := by
  unfold hasB
  rw [if_neg (by omega)]
  rfl

/-- What a round of the document's And or Or writes: bit k of word q. -/
theorem put_bit {B : Nat} {w : World} {g n c k q r : Nat} {xs : List Nat} (hO : OutU B w (.slice (some ⟨g, 0, none⟩) n c) xs) (hn : xs.length = n) (hq : q = k / 64) (hr : r = k % 64) :
    OutU B (w.setCell ⟨g, q, none⟩ (.int .u64 ((xs.getD q 0 ||| 2 ^ r : Nat) : Int))) (.slice (some ⟨g, 0, none⟩) n c) (setRow xs k) := by
  have h := hO.set hn q (xs.getD q 0 ||| 2 ^ r)
  have e : setRow xs k = xs.set q (xs.getD q 0 ||| 2 ^ r) := by unfold setRow; rw [hq, hr]
  rw [e]
  exact h

set_option maxHeartbeats 3200000 in
theorem rand_any (A : Option Addr) (n cap : Nat) (xss : List (List Nat)) (w : World) (hA : RowsAt w A xss) (hn : xss.length = n) (hl : n ≤ 1048576) (hm : ∀ k, (xss.getD k []).length ≤ 1000) (hW : Words xss) :
    Calls Tryd.prog 24 #[.slice A n cap] w (MadeU w (andRow xss)) := by
  have HA := Lib.hid hA
  have HM := Lib.hid hm
  have HN := Lib.hid hn
  rcases Nat.eq_zero_or_pos n with h0 | h0
  · subst h0
    obtain rfl : xss = [] := List.eq_nil_of_length_eq_zero hn
    clear hA hm hn hW
    go_enter Tryd.func24, Tryd.ntmps24
    go_wp2_with fail
    go_ret
    exact ⟨_, rfl, OutU.nil _ _, Below.refl _ _⟩
  obtain ⟨b, o, A0, c0, rfl, hb, hc0, hR0⟩ := HA.out 0 (by rw [hn]; exact h0)
  rw [Nat.add_zero] at hc0
  have h0n : ¬ n = 0 := by omega
  obtain ⟨y0, hy0⟩ : ∃ y, y = (xss.getD 0 []).length := ⟨_, rfl⟩
  rw [← hy0] at hc0
  have HY := Lib.hid hy0
  have hal := andRow_length xss
  have haw := andRow_word xss
  have hml : minL xss ≤ 1000 := minTo_le hm _ (Nat.le_refl _)
  have HALL : Hid (mkRow (allTo' xss n) (minL xss) (64 * minL xss) = andRow xss) := by
    have h := mkRow_all (P := allTo' xss n) haw (fun i hi => by
      rw [hal] at hi
      rw [tb_andRow hi]
      unfold allTo'
      rw [← hn, List.take_length])
    rw [hal] at h
    exact h
  have HLE := Lib.hid (fun k (hk : k < n) => minL_le (xss := xss) (k := k) (by omega))
  have C1 : Hid (∀ w, Calls Tryd.prog 11 #[.int .i64 (64 * ((minL xss : Nat) : Int))] w (MadeU w (List.replicate (minL xss) 0))) := fun w => by
    have h := rnew_any (64 * ((minL xss : Nat) : Int)) w (by omega) (by omega)
    rw [newN_words hml] at h
    exact h
  have hmin : Hid (minTo xss n = minL xss) := by unfold minL; rw [hn]; exact rfl
  obtain ⟨m, hme⟩ : ∃ m, m = minL xss := ⟨_, rfl⟩
  rw [← hme] at hml HALL HLE C1 hmin
  have HHS := Lib.hid (fun (w : World) A n c x i (hA : RowU w A n x) (hi : i ≤ 9223372036854775807) => rhas_any A n c x i w hi hA)
  have HAS := Lib.hid (fun k (hk : k < n) i => allTo'_succ (xss := xss) (k := k) (by omega) i)
  have HA0 : Hid (∀ i, allTo' xss 0 i = true) := fun i => rfl
  obtain ⟨P, hP⟩ : ∃ P, P = allTo' xss := ⟨_, rfl⟩
  rw [← hP] at HALL HAS HA0
  clear hA hR0 hb hy0 hm hn hW hal haw hme hP
  go_enter Tryd.func24, Tryd.ntmps24
  go_wp2_with fail
  clear hc0
  go_loop [3, 4] (fun v i => ∃ k : Nat, k ≤ n ∧ i = .int .i64 (k : Int) ∧ v = .int .i64 (minTo xss k : Nat)) (fun _ i => n - (intOf i).toNat)
  case atStart => exact ⟨0, Nat.zero_le _, rfl, by rw [HY.out]; rfl⟩
  case round =>
    obtain ⟨k, hk, rfl, rfl⟩ := hrel
    by_cases hlt : k < n
    · obtain ⟨b', o', A', c, he, hb, h1, hR⟩ := HA.out k (by rw [HN.out]; exact hlt)
      injection he with he
      injection he with e1 e2
      subst e1 e2
      have hst := minTo_succ (xss := xss) (k := k) (by rw [HN.out]; exact hlt)
      have hb1 := minTo_le HM.out k (by rw [HN.out]; exact hk)
      have hb2 := HM.out k
      obtain ⟨x, hx⟩ : ∃ x, x = minTo xss k := ⟨_, rfl⟩
      obtain ⟨y, hy⟩ : ∃ y, y = (xss.getD k []).length := ⟨_, rfl⟩
      rw [← hx, ← hy] at hst
      rw [← hx] at hb1 ⊢
      rw [← hy] at hb2 h1
      have HS := Lib.hid hst
      clear hx hy hst hR hb
      go_wp2_with fail
      go_round
      case rel => exact ⟨k + 1, hlt, by go_num, by rw [HS.out, ← min_int]⟩
      case measure => simp [intOf]; omega
    · obtain rfl : k = n := by omega
      rw [hmin.out]
      clear hk hlt
      go_wp2_with fail
      refine (C1.out _).mono ?_
      rintro e w1 ⟨v, rfl, ho, hb1⟩
      obtain ⟨A1, d1, rfl, hd1, _, _⟩ := ho.out (zeroRow_word m)
      rw [List.length_replicate] at hd1 ho ⊢
      have HO := Lib.hid ho
      have HB := Lib.hid hb1
      clear ho hb1
      go_wp2_with fail
      go_loopw [6] (fun i wr => ∃ j : Nat, j ≤ 64 * m ∧ i = .int .i64 (j : Int) ∧ OutU w.heap.size wr (.slice A1 m d1) (mkRow (P k) m j) ∧ Below w.heap.size w wr) (fun i _ => 64 * m - (intOf i).toNat)
      case atStart => exact ⟨0, Nat.zero_le _, rfl, HO.out, HB.out⟩
      case round =>
        clear HO HB
        obtain ⟨j, hj, rfl, ho, hb⟩ := hrel
        have HO := Lib.hid ho
        have HB := Lib.hid hb
        clear ho hb
        by_cases hlt : j < 64 * m
        · have jl : (j : Int) ≤ 64000 := by omega
          have hjm := Lib.hid (lt_words hlt)
          go_wp2_with fail
          try rw [hjm.out]
          go_loopw [7, 8] (fun v i wr2 => ∃ l : Nat, l ≤ k ∧ i = .int .i64 (l : Int) ∧ v = .bool (P l j) ∧ wr2 = wr) (fun _ i _ => k - (intOf i).toNat)
          case atStart => exact ⟨0, Nat.zero_le _, rfl, by rw [HA0.out], rfl⟩
          case round =>
            obtain ⟨l, hl2, rfl, rfl, hwr⟩ := hrel
            subst hwr
            by_cases hlt2 : l < k
            · obtain ⟨b', o', A', c, he, hb', h1, hR⟩ := HA.out l (by rw [HN.out]; exact hlt2)
              injection he with he
              injection he with e1 e2
              subst e1 e2
              have hc := (HB.out.cell (p := ⟨b, o + l, none⟩) hb').trans h1
              have C2 := Lib.hid (HHS.out wr A' _ c _ (j : Int) (hR.below HB.out) (by omega))
              rw [hasB_nat] at C2
              have hst := HAS.out l hlt2 j
              obtain ⟨y, hy⟩ : ∃ y, y = (xss.getD l []).length := ⟨_, rfl⟩
              obtain ⟨q, hq⟩ : ∃ q, q = tb (xss.getD l []) j := ⟨_, rfl⟩
              rw [← hy] at hc C2
              rw [← hq] at C2 hst
              have HST := Lib.hid hst
              clear h1 hR hy hq hst hb'
              cases hp : P l j with
              | true =>
                rw [hp, Bool.true_and] at HST
                clear hp
                go_wp2_with (go_at_call 16; refine C2.out.mono ?_; rintro e w' ⟨rfl, rfl⟩)
                go_round
                case rel => exact ⟨l + 1, hlt2, by go_num, by rw [HST.out], trivial⟩
                case measure => simp [intOf]; omega
              | false =>
                rw [hp, Bool.false_and] at HST
                clear hp
                go_wp2_with fail
                go_round
                case rel => exact ⟨l + 1, hlt2, by go_num, by rw [HST.out], trivial⟩
                case measure => simp [intOf]; omega
            · obtain rfl : l = k := by omega
              clear hl2 hlt2
              cases hp : P l j with
              | false =>
                have HS := Lib.hid (mkRow_no (n := m) hp)
                clear hp
                go_wp2_with fail
                go_roundw
                case rel => exact ⟨j + 1, hlt, by go_num, by rw [HS.out]; exact HO.out, HB.out⟩
                case measure => simp [intOf]; omega
              | true =>
                have HS := Lib.hid (mkRow_yes (n := m) hp)
                have hml2 := mkRow_length (P l) m j
                obtain ⟨g, c', he, hg, _, _⟩ := HO.out.block (by rw [hml2]; omega)
                injection he with e1 e2 e3
                subst e1
                obtain ⟨q, hq⟩ : ∃ q, q = j / 64 := ⟨_, rfl⟩
                obtain ⟨r, hr⟩ : ∃ r, r = j % 64 := ⟨_, rfl⟩
                have kq : (j : Int) / 64 = (q : Int) := by omega
                have kr : (j : Int) % 64 = (r : Int) := by omega
                have hr2 : r < 64 := by omega
                have hqm : q < m := by omega
                have hc := HO.out.cell hml2 q hqm
                have hf := HO.out.frozen hml2 q
                have hset := put_bit HO.out hml2 hq hr
                have hxl := words_lt (mkRow_word (P l) m j) q
                obtain ⟨x, hx⟩ : ∃ x, x = (mkRow (P l) m j).getD q 0 := ⟨_, rfl⟩
                rw [← hx] at hc hset hxl
                have HS2 := Lib.hid hset
                have HG := Lib.hid hg
                have C := Lib.hid (fun w => rsetbit_is x r w hxl hr2)
                clear hq hr hset hx hxl hg e2 e3 hp hml2
                go_wp2_with (first | (go_at_call 33; refine (C.out _).mono ?_; rintro e w' ⟨rfl, rfl⟩) | fail)
                go_roundw
                case rel => exact ⟨j + 1, hlt, by go_num, by rw [HS.out]; exact HS2.out, HB.out.setCell (p := ⟨g, q, none⟩) HG.out _⟩
                case measure => simp [intOf]; omega
        · obtain rfl : j = 64 * m := by omega
          have hO := HO.out
          rw [HALL.out] at hO
          have HO := Lib.hid hO
          clear hO hlt hj
          go_wp2_with fail
          go_ret
          exact ⟨_, rfl, HO.out, HB.out⟩
end Go.Proofs.YtdpncnplbkmgoaaDoor
