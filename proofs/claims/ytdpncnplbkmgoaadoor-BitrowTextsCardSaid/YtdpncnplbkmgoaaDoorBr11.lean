/-
  The document's Or.
-/
import Derived.Test.YtdpncnplbkmgoaaDoorBr10
namespace Go.Proofs.YtdpncnplbkmgoaaDoor
open Go.RowKit
set_option linter.unusedVariables false

/-- A row with bit j set, or as it is. -/
def orSt (R : List Nat) (j : Nat) (b : Bool) : List Nat := if b then setRow R j else R
theorem orSt_length (R : List Nat) (j : Nat) (b : Bool) : (orSt R j b).length = R.length := by
  unfold orSt; split
  · exact setRow_length _ _
  · rfl
theorem orSt_word {R : List Nat} (h : ∀ x ∈ R, x < 18446744073709551616) (j : Nat) (b : Bool) : ∀ x ∈ orSt R j b, x < 18446744073709551616 := by
  unfold orSt; split
  · exact setRow_word h j
  · exact h
theorem orSt_set (R : List Nat) (j : Nat) (b : Bool) : setRow (orSt R j b) j = orSt R j true := by
  unfold orSt
  cases b
  · rfl
  · simp [setRow_twice]
theorem orSt_mk (P : Nat → Bool) (m j : Nat) : orSt (mkRow P m j) j (P j) = mkRow P m (j + 1) := by
  unfold orSt
  cases h : P j with
  | true => rw [mkRow_yes h]; rfl
  | false => rw [mkRow_no h]; rfl

set_option maxHeartbeats 3200000 in
theorem ror_any (A : Option Addr) (n cap : Nat) (xss : List (List Nat)) (w : World) (hA : RowsAt w A xss) (hn : xss.length = n) (hl : n ≤ 1048576) (hm : ∀ k, (xss.getD k []).length ≤ 1000) (hW : Words xss) :
    Calls Tryd.prog 26 #[.slice A n cap] w (MadeU w (orRow xss)) := by
  have HA := Lib.hid hA
  have HM := Lib.hid hm
  have HN := Lib.hid hn
  have hal := orRow_length xss
  have haw := orRow_word hW
  have hml : maxL xss ≤ 1000 := maxTo_le hm _ (Nat.le_refl _)
  have HALL : Hid (mkRow (anyTo xss n) (maxL xss) (64 * maxL xss) = orRow xss) := by
    have h := mkRow_all (P := anyTo xss n) haw (fun i hi => by
      rw [hal] at hi
      rw [tb_orRow hi]
      unfold anyTo
      rw [← hn, List.take_length])
    rw [hal] at h
    exact h
  have C1 : Hid (∀ w, Calls Tryd.prog 11 #[.int .i64 (64 * ((maxL xss : Nat) : Int))] w (MadeU w (List.replicate (maxL xss) 0))) := fun w => by
    have h := rnew_any (64 * ((maxL xss : Nat) : Int)) w (by omega) (by omega)
    rw [newN_words hml] at h
    exact h
  have hmax : Hid (maxTo xss n = maxL xss) := by unfold maxL; rw [hn]; exact rfl
  obtain ⟨m, hme⟩ : ∃ m, m = maxL xss := ⟨_, rfl⟩
  rw [← hme] at hml HALL C1 hmax
  have HHS := Lib.hid (fun (w : World) A n c x i (hA : RowU w A n x) (hi : i ≤ 9223372036854775807) => rhas_any A n c x i w hi hA)
  have HAS := Lib.hid (fun k (hk : k < n) i => anyTo_succ (xss := xss) (k := k) (by omega) i)
  have HA0 : Hid (∀ i, anyTo xss 0 i = false) := fun i => rfl
  obtain ⟨P, hP⟩ : ∃ P, P = anyTo xss := ⟨_, rfl⟩
  rw [← hP] at HALL HAS HA0
  clear hA hm hn hW hal haw hme hP
  go_enter Tryd.func26, Tryd.ntmps26
  go_wp2_with fail
  go_loop [3, 4] (fun v i => ∃ k : Nat, k ≤ n ∧ i = .int .i64 (k : Int) ∧ v = .int .i64 (maxTo xss k : Nat)) (fun _ i => n - (intOf i).toNat)
  case atStart => exact ⟨0, Nat.zero_le _, rfl, rfl⟩
  case round =>
    obtain ⟨k, hk, rfl, rfl⟩ := hrel
    by_cases hlt : k < n
    · obtain ⟨b, o, A', c, rfl, hb, h1, hR⟩ := HA.out k (by rw [HN.out]; exact hlt)
      have hst := maxTo_succ (xss := xss) (k := k) (by rw [HN.out]; exact hlt)
      have hb1 := maxTo_le HM.out k (by rw [HN.out]; exact hk)
      have hb2 := HM.out k
      obtain ⟨x, hx⟩ : ∃ x, x = maxTo xss k := ⟨_, rfl⟩
      obtain ⟨y, hy⟩ : ∃ y, y = (xss.getD k []).length := ⟨_, rfl⟩
      rw [← hx, ← hy] at hst
      rw [← hx] at hb1 ⊢
      rw [← hy] at hb2 h1
      have HS := Lib.hid hst
      clear hx hy hst hR hb
      go_wp2_with fail
      go_round
      case rel => exact ⟨k + 1, hlt, by go_num, by rw [HS.out, ← max_int]⟩
      case measure => simp [intOf]; omega
    · obtain rfl : k = n := by omega
      rw [hmax.out]
      clear hk hlt
      go_wp2_with fail
      refine (C1.out _).mono ?_
      rintro e w1 ⟨v, rfl, ho, hb1⟩
      obtain ⟨A1, d1, rfl, hd1, _, _⟩ := ho.out (zeroRow_word m)
      rw [List.length_replicate] at hd1 ho ⊢
      have HO := Lib.hid ho
      have HB := Lib.hid hb1
      clear ho hb1
      go_wp2_with fail
      go_loopw [6] (fun i wr => ∃ j : Nat, j ≤ 64 * m ∧ i = .int .i64 (j : Int) ∧ OutU w.heap.size wr (.slice A1 m d1) (mkRow (P k) m j) ∧ Below w.heap.size w wr) (fun i _ => 64 * m - (intOf i).toNat)
      case atStart => exact ⟨0, Nat.zero_le _, rfl, HO.out, HB.out⟩
      case round =>
        clear HO HB
        obtain ⟨j, hj, rfl, ho, hb⟩ := hrel
        have HO := Lib.hid ho
        have HB := Lib.hid hb
        clear ho hb
        by_cases hlt : j < 64 * m
        · have jl : (j : Int) ≤ 64000 := by omega
          have hml2 := mkRow_length (P k) m j
          have hmw := mkRow_word (P k) m j
          obtain ⟨g, c', he, hg, _, _⟩ := HO.out.block (by rw [hml2]; omega)
          injection he with e1 e2 e3
          subst e1
          have HS := Lib.hid (orSt_mk (P k) m j)
          have HS0 : Hid (∀ R, orSt R j false = R) := fun R => rfl
          obtain ⟨R, hRe⟩ : ∃ R, R = mkRow (P k) m j := ⟨_, rfl⟩
          rw [← hRe] at HO HS hml2 hmw
          have HG := Lib.hid hg
          have HRL := Lib.hid hml2
          have HRW := Lib.hid hmw
          obtain ⟨q, hq⟩ : ∃ q, q = j / 64 := ⟨_, rfl⟩
          obtain ⟨r, hr⟩ : ∃ r, r = j % 64 := ⟨_, rfl⟩
          have kq : (j : Int) / 64 = (q : Int) := by omega
          have kr : (j : Int) % 64 = (r : Int) := by omega
          have hr2 : r < 64 := by omega
          have hqm : q < m := by omega
          have HQ := Lib.hid hq
          have HR2 := Lib.hid hr
          have hjm := Lib.hid (lt_words hlt)
          clear hg hml2 hmw hRe e2 e3 hq hr
          go_wp2_with fail
          try rw [hjm.out]
          go_loopw [7] (fun i wr => ∃ l : Nat, l ≤ k ∧ i = .int .i64 (l : Int) ∧ OutU w.heap.size wr (.slice (some ⟨g, 0, none⟩) m d1) (orSt R j (P l j)) ∧ Below w.heap.size w wr) (fun i _ => k - (intOf i).toNat)
          case atStart => exact ⟨0, Nat.zero_le _, rfl, by rw [HA0.out, HS0.out]; exact HO.out, HB.out⟩
          case round =>
            clear HO HB
            obtain ⟨l, hl2, rfl, ho, hb⟩ := hrel
            have HO := Lib.hid ho
            have HB := Lib.hid hb
            clear ho hb
            by_cases hlt2 : l < k
            · obtain ⟨b, o, A', c, rfl, hb', h1, hR⟩ := HA.out l (by rw [HN.out]; exact hlt2)
              have hc0 := (HB.out.cell (p := ⟨b, o + l, none⟩) hb').trans h1
              have C2 := Lib.hid (HHS.out wr A' _ c _ (j : Int) (hR.below HB.out) (by omega))
              rw [hasB_nat] at C2
              have hst := HAS.out l hlt2 j
              obtain ⟨y, hy⟩ : ∃ y, y = (xss.getD l []).length := ⟨_, rfl⟩
              rw [← hy] at hc0 C2
              clear h1 hR hy hb'
              cases hq : tb (xss.getD l []) j with
              | false =>
                rw [hq] at C2
                rw [hq, Bool.or_false] at hst
                have HST := Lib.hid hst
                clear hst hq
                go_wp2_with (go_at_call 16; refine C2.out.mono ?_; rintro e w' ⟨rfl, rfl⟩)
                go_roundw
                case rel => exact ⟨l + 1, hlt2, by go_num, by rw [HST.out]; exact HO.out, HB.out⟩
                case measure => simp [intOf]; omega
              | true =>
                rw [hq] at C2
                rw [hq, Bool.or_true] at hst
                have HST := Lib.hid hst
                clear hst hq
                have hol := (orSt_length R j (P l j)).trans HRL.out
                have hc := HO.out.cell hol q hqm
                have hf := HO.out.frozen hol q
                have hset := put_bit HO.out hol HQ.out HR2.out
                rw [orSt_set] at hset
                have hxl := words_lt (orSt_word HRW.out j (P l j)) q
                obtain ⟨x, hx⟩ : ∃ x, x = (orSt R j (P l j)).getD q 0 := ⟨_, rfl⟩
                rw [← hx] at hc hset hxl
                have HS2 := Lib.hid hset
                have C := Lib.hid (fun w => rsetbit_is x r w hxl hr2)
                clear hset hx hxl hol
                go_wp2_with (first | (go_at_call 16; refine C2.out.mono ?_; rintro e w' ⟨rfl, rfl⟩) | (go_at_call 33; refine (C.out _).mono ?_; rintro e w' ⟨rfl, rfl⟩) | fail)
                go_roundw
                case rel => exact ⟨l + 1, hlt2, by go_num, by rw [HST.out]; exact HS2.out, HB.out.setCell (p := ⟨g, q, none⟩) HG.out _⟩
                case measure => simp [intOf]; omega
            · obtain rfl : l = k := by omega
              have hO := HO.out
              rw [HS.out] at hO
              have HO := Lib.hid hO
              clear hO hl2 hlt2
              go_wp2_with fail
              go_roundw
              case rel => exact ⟨j + 1, hlt, by go_num, HO.out, HB.out⟩
              case measure => simp [intOf]; omega
        · obtain rfl : j = 64 * m := by omega
          have hO := HO.out
          rw [HALL.out] at hO
          have HO := Lib.hid hO
          clear hO hlt hj
          go_wp2_with fail
          go_ret
          exact ⟨_, rfl, HO.out, HB.out⟩
end Go.Proofs.YtdpncnplbkmgoaaDoor
