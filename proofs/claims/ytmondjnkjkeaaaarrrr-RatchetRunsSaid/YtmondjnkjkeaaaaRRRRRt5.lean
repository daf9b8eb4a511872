/-
  The document's Longest; the examples of layer 25 come out as they must, in whatever world.
-/
import Derived.Test.YtmondjnkjkeaaaaRRRRRt4
import Derived.Test.YtmondjnkjkeaaaaRRRRKv
namespace Go.Proofs.YtmondjnkjkeaaaaRRRR
open Go.RowKit
set_option linter.unusedVariables false

theorem lg_next (xs : List Nat) (k : Nat) : lgOf xs (List.range (k + 1)) = lgStep xs (lgOf xs (List.range k)) k := by rw [List.range_succ, lgOf_add]
theorem lg_last (xs : List Nat) : ∀ k, (lgOf xs (List.range k)).2.2 = rtMax xs k
  | 0 => rfl
  | k + 1 => by
    rw [lg_next]
    unfold lgStep
    split <;> rfl
theorem lg_one (xs : List Nat) : lgOf xs (List.range 1) = (0, -1, rtMax xs 1) := rfl
theorem lg_at (xs : List Nat) : ∀ k, 0 ≤ (lgOf xs (List.range (k + 2))).2.1
  | 0 => by
    rw [lg_next]
    unfold lgStep
    rw [if_pos (.inl rfl)]
    show (0 : Int) ≤ ((0 + 1 : Nat) : Int)
    omega
  | k + 1 => by
    rw [lg_next]
    unfold lgStep
    split
    · show (0 : Int) ≤ ((k + 2 : Nat) : Int)
      omega
    · exact lg_at xs k
theorem lg_gap {y c d : Nat} (hy : y < 18446744073709551616) (hc : c ≤ y) (hd : d = y - c) : d = (y + 18446744073709551616 - c) % 18446744073709551616 := by omega
theorem rt_back {k j : Nat} (h : k = j + 1) (hn : (k : Int) ≤ 17592186043904) : IntKind.i64.wrap ((k : Int) - 1) = (j : Int) ∧ wrap64 ((k : Int) - 1) = (j : Int) ∧ IntKind.i64.wrap (j : Int) = (j : Int) := by
  refine ⟨?_, ?_, ?_⟩
  · rw [IntKind.wrap_i64]; omega
  · unfold wrap64; omega
  · rw [IntKind.wrap_i64]; omega
theorem u64_gap {y c d : Nat} (hy : y < 18446744073709551616) (hc : c ≤ y) (hd : d = y - c) : IntKind.u64.wrap ((y : Int) - (c : Int)) = (d : Int) := by rw [IntKind.wrap_u64]; omega

set_option maxRecDepth 10000 in
set_option maxHeartbeats 1600000 in
theorem rrtlong_any (A : Option Addr) (n cap : Nat) (xs : List Nat) (w : World) (hn : n ≤ 1000) (hA : RowU w A n xs) (p : Nat) (q : Int) (hpq : p = (lgOf xs (List.range n)).1 ∧ q = (lgOf xs (List.range n)).2.1) :
    Calls Try.prog 10 #[.slice A n cap] w fun e w' => e = .returned (.tuple #[.int .u64 (p : Nat), .int .i64 q]) ∧ Below w.heap.size w w' := by
  have hlen := hA.len
  have CR := Lib.hid (fun w' => rrtrun_any A n cap xs w' hn)
  have HW := Lib.hid (rtRun_word hA.word)
  have HM := Lib.hid (rtMax_word hA.word)
  have HG := Lib.hid (fun i (h : i < n) => rtRun_get (l := xs) (i := i) (by omega))
  have HRL := Lib.hid (show (rtRun xs).length = n by rw [rtRun_len, hlen])
  have HA := Lib.hid hA
  have HPQ := Lib.hid hpq
  clear hA hlen hpq
  go_enter Try.func10, Try.ntmps10
  go_wp2_with fail
  refine (CR.out _ HA.out).mono ?_
  rintro e w1 ⟨v, rfl, ho, hb⟩
  obtain ⟨A', c', rfl, _, _, hR⟩ := ho.out HW.out
  rw [HRL.out] at hR ⊢
  have HR := Lib.hid hR
  have HB1 := Lib.hid hb
  clear ho hR hb
  go_wp2_with fail
  go_loopw [5, 6, 7] (fun m a i wr => ∃ k j l : Nat, ∃ t : Int, Hid (k = j + 1) ∧ (k ≤ n ∨ k = 1) ∧ i = .int .i64 (k : Int) ∧ m = .int .u64 (l : Int) ∧ a = .int .i64 t ∧ Hid (l = (lgOf xs (List.range k)).1) ∧ Hid (t = (lgOf xs (List.range k)).2.1) ∧ Below w1.heap.size w1 wr) (fun _ _ i _ => n - (intOf i).toNat)
  case atStart => exact ⟨1, 0, 0, -1, rfl, .inr rfl, rfl, rfl, rfl, rfl, rfl, Below.refl _ _⟩
  case round =>
    obtain ⟨k, j, l, t, HK, hk, rfl, rfl, rfl, HL, HT, hb⟩ := hrel
    have HB := Lib.hid hb
    clear hb
    by_cases hlt : k < n
    · obtain ⟨b', o', rfl, hl', hc'⟩ := HR.out.addr (by omega)
      have hkj := HK.out
      have hy := (HB.out.cell (p := ⟨b', o' + k, none⟩) hl').trans (hc' k hlt)
      have hc0 := (HB.out.cell (p := ⟨b', o' + j, none⟩) hl').trans (hc' j (by omega))
      rw [HG.out k hlt] at hy
      rw [HG.out j (by omega), ← hkj] at hc0
      have hmono := rtMax_up xs k
      have hwy := HM.out (k + 1)
      obtain ⟨y, hye⟩ : ∃ y, y = rtMax xs (k + 1) := ⟨_, rfl⟩
      obtain ⟨c, hce⟩ : ∃ c, c = rtMax xs k := ⟨_, rfl⟩
      have hlast := lg_last xs k
      have hnext := lg_next xs k
      rw [← hce] at hc0 hmono hlast
      rw [← hye] at hy hmono hwy
      obtain ⟨d, hd⟩ : ∃ d, d = y - c := ⟨_, rfl⟩
      have wd := u64_gap hwy hmono hd
      have hd2 := lg_gap hwy hmono hd
      obtain ⟨u1, u2, u3⟩ := rt_back hkj (by omega)
      have u4 := rt_kwrap hlt (by omega)
      have hji : (j : Int) < (n : Int) := by omega
      have est : lgOf xs (List.range k) = (l, t, c) := by rw [HL.out, HT.out, ← hlast]
      rw [est] at hnext
      have HLT := Lib.hid hlt
      have key : (t < 0 ∨ l < d) ↔ (k = 1 ∨ (1 < k ∧ l < d)) := by
        by_cases h1 : k = 1
        · have ht : t = -1 := by rw [HT.out, h1]; rfl
          exact ⟨fun _ => .inl h1, fun _ => .inl (by omega)⟩
        · have ht : 0 ≤ t := by
            rw [HT.out]
            obtain ⟨k2, rfl⟩ : ∃ k2, k = k2 + 2 := ⟨k - 2, by omega⟩
            exact lg_at xs k2
          constructor
          · rintro (h | h)
            · omega
            · exact .inr ⟨by omega, h⟩
          · rintro (h | ⟨_, h⟩)
            · omega
            · exact .inr h
      by_cases hz : t < 0 ∨ l < d
      · rw [lgStep_yes hye hd2 (key.1 hz)] at hnext
        have HN := Lib.hid hnext
        by_cases ht : t < 0
        · clear hz hc' hl' hye hce hlast hnext hmono hwy hd hd2 est key HL HT hkj
          go_wp2_with fail
          go_quiet (fail)
          go_wp2_with fail
          go_quiet (fail)
          go_wp2_with fail
          go_roundw
          case rel => exact ⟨k + 1, k, d, (k : Int), rfl, .inl HLT.out, by go_num, rfl, rfl, by rw [HN.out]; exact rfl, by rw [HN.out]; exact rfl, below_drewN' HB.out _⟩
          case measure => simp [intOf]; omega
        · have hld : (l : Int) < (d : Int) := by omega
          clear hz hc' hl' hye hce hlast hnext hmono hwy hd hd2 est key HL HT hkj
          go_wp2_with fail
          go_quiet (fail)
          go_wp2_with fail
          go_quiet (fail)
          go_wp2_with fail
          go_roundw
          case rel => exact ⟨k + 1, k, d, (k : Int), rfl, .inl HLT.out, by go_num, rfl, rfl, by rw [HN.out]; exact rfl, by rw [HN.out]; exact rfl, below_drewN' HB.out _⟩
          case measure => simp [intOf]; omega
      · rw [lgStep_no hye hd2 (fun h => hz (key.2 h))] at hnext
        have HN := Lib.hid hnext
        have ht : ¬ t < 0 := fun h => hz (.inl h)
        have hld : ¬ (l : Int) < (d : Int) := fun h => hz (.inr (by omega))
        clear hz hc' hl' hye hce hlast hnext hmono hwy hd hd2 est key HL HT hkj
        go_wp2_with fail
        go_quiet (fail)
        go_wp2_with fail
        go_roundw
        case rel => exact ⟨k + 1, k, l, t, rfl, .inl HLT.out, by go_num, rfl, rfl, by rw [HN.out]; exact rfl, by rw [HN.out]; exact rfl, below_drewN' HB.out _⟩
        case measure => simp [intOf]; omega
    · have hpq : p = l ∧ q = t := by
        rw [HPQ.out.1, HPQ.out.2, HL.out, HT.out]
        rcases hk with hk | hk
        · obtain rfl : k = n := by omega
          exact ⟨rfl, rfl⟩
        · subst hk
          have h0 : n = 0 ∨ n = 1 := by omega
          rcases h0 with h0 | h0
          · rw [h0]; exact ⟨rfl, rfl⟩
          · rw [h0]; exact ⟨rfl, rfl⟩
      have HF := Lib.hid hpq
      have hlti : ¬ (k : Int) < (n : Int) := by omega
      clear hk hlt hpq
      go_wp2_with fail
      go_ret2
      exact ⟨by rw [HF.out.1, HF.out.2]; rfl, below_both HB1.out HB.out⟩
theorem l25_s1 (w : World) : Calls Try.prog 6 #[.int .u64 9, .bool true, .int .u64 12] w fun e w' => e = .returned (.tuple #[.int .u64 12, .int .u64 3]) ∧ w = w' := rtstep_any 9 12 true w (by decide)
theorem l25_s2 (w : World) : Calls Try.prog 6 #[.int .u64 9, .bool true, .int .u64 5] w fun e w' => e = .returned (.tuple #[.int .u64 9, .int .u64 0]) ∧ w = w' := rtstep_any 9 5 true w (by decide)
theorem l25_s3 (w : World) : Calls Try.prog 6 #[.int .u64 9, .bool false, .int .u64 5] w fun e w' => e = .returned (.tuple #[.int .u64 5, .int .u64 0]) ∧ w = w' := rtstep_any 9 5 false w (by decide)
theorem rowU_lit (W : World) (g : Nat) (xs : List Nat) (n m : Nat) (cs : Array Value) (hcs : cs = (cellsU xs).toArray) (hW : W.heap[g]? = some (.cells cs 22 (0, 0))) (hb : ∀ x ∈ xs, x < 18446744073709551616) (hn : n ≤ xs.length) (hm : m = n) : RowU W (some ⟨g, 0, none⟩) m (xs.take n) := by
  subst hcs hm
  exact (OwnU.row hW hb).front m hn
theorem rowI_lit (W : World) (g : Nat) (xs : List Nat) (n : Nat) (cs : Array Value) (hcs : cs = (cellsI xs).toArray) (hW : W.heap[g]? = some (.cells cs 3 (0, 0))) (hb : ∀ x ∈ xs, x < 9223372036854775808) (hn : n = xs.length) : RowI W (some ⟨g, 0, none⟩) n xs := by
  subst hcs hn
  exact OwnI.row hW hb
set_option maxRecDepth 10000 in
set_option maxHeartbeats 1600000 in
theorem live25 (w : World) : Calls Try.prog 8 #[] w fun e w' => e = .returned (.bool true) ∧ Below w.heap.size w w' := by
  go_enter Try.func8, Try.ntmps8
  go_wp2_with fail
  refine (l25_s1 _).mono ?_
  rintro e w1 ⟨rfl, rfl⟩
  go_wp2_with fail
  refine (l25_s2 _).mono ?_
  rintro e w1 ⟨rfl, rfl⟩
  go_wp2_with fail
  refine (l25_s3 _).mono ?_
  rintro e w1 ⟨rfl, rfl⟩
  go_wp2_with fail
  obtain ⟨W0, hW0⟩ : ∃ W, W = w.alloc (.cells #[.int .u64 5, .int .u64 3, .int .u64 9, .int .u64 9, .int .u64 20, .int .u64 1] 22) := ⟨_, rfl⟩
  have R0 : Hid (RowU W0 (some ⟨w.heap.size, 0, none⟩) 6 [5, 3, 9, 9, 20, 1]) := by
    rw [hW0]
    exact rowU_lit _ _ [5, 3, 9, 9, 20, 1] 6 6 _ rfl (heap_alloc_new w _) (by decide) (by decide) rfl
  have B0 : Hid (Below w.heap.size w W0) := by
    rw [hW0]
    exact (Below.refl _ _).alloc (Nat.le_refl _) _
  rw [← hW0]
  clear hW0
  refine (rtlong_any (some ⟨w.heap.size, 0, none⟩) 6 6 [5, 3, 9, 9, 20, 1] _ (by decide) R0.out 11 4 (by decide)).mono ?_
  rintro e w1 ⟨rfl, b1⟩
  have R1 := Lib.hid (R0.out.below b1)
  have B1 := Lib.hid (below_both B0.out b1)
  clear b1 R0 B0
  go_wp2_with fail
  refine (rtlong_any (some ⟨w.heap.size, 0, none⟩) 1 6 [5] _ (by decide) (R1.out.front 1 (by decide)) 0 (-1) (by decide)).mono ?_
  rintro e w2 ⟨rfl, b2⟩
  have R2 := Lib.hid (R1.out.below b2)
  have B2 := Lib.hid (below_both B1.out b2)
  clear b2 R1 B1
  go_wp2_with fail
  refine (rtrun_any (some ⟨w.heap.size, 0, none⟩) 6 6 [5, 3, 9, 9, 20, 1] _ (by decide) R2.out).mono ?_
  rintro e w3 ⟨v, rfl, ho, b3⟩
  obtain ⟨A3, c3, rfl, _, _, hR3⟩ := ho.out (by decide)
  have R3 := Lib.hid (R2.out.below b3)
  have B3 := Lib.hid (below_both B2.out b3)
  have V3 : Hid (RowU w3 A3 6 [5, 5, 9, 9, 20, 20]) := hR3
  have e6 : (rtRun [5, 3, 9, 9, 20, 1]).length = 6 := rfl
  rw [e6]
  clear b3 R2 B2 ho hR3 e6
  go_wp2_with fail
  generalize hg3 : w3.heap.size = g3
  obtain ⟨W4, hW4⟩ : ∃ W, W = w3.alloc (.cells #[.int .u64 5, .int .u64 5, .int .u64 9, .int .u64 9, .int .u64 20, .int .u64 20] 22) := ⟨_, rfl⟩
  have V4 : Hid (RowU W4 (some ⟨g3, 0, none⟩) 6 [5, 5, 9, 9, 20, 20]) := by
    rw [hW4, ← hg3]
    exact rowU_lit _ _ [5, 5, 9, 9, 20, 20] 6 6 _ rfl (heap_alloc_new w3 _) (by decide) (by decide) rfl
  have V5 : Hid (RowU W4 A3 6 [5, 5, 9, 9, 20, 20]) := by
    rw [hW4]
    exact V3.out.alloc _
  have R4 : Hid (RowU W4 (some ⟨w.heap.size, 0, none⟩) 6 [5, 3, 9, 9, 20, 1]) := by
    rw [hW4]
    exact R3.out.alloc _
  have B4 : Hid (Below w.heap.size w W4) := by
    rw [hW4]
    exact B3.out.alloc B3.out.size _
  rw [← hW4]
  clear hW4 hg3 V3 R3 B3
  refine (rtsame2_yes A3 (some ⟨g3, 0, none⟩) 6 c3 6 [5, 5, 9, 9, 20, 20] _ (by decide) V5.out V4.out).mono ?_
  rintro e w5 ⟨rfl, b5⟩
  have R5 := Lib.hid (R4.out.below b5)
  have B5 := Lib.hid (below_both B4.out b5)
  clear b5 R4 B4 V4 V5
  go_wp2_with fail
  refine (rtback_any (some ⟨w.heap.size, 0, none⟩) 6 6 [5, 3, 9, 9, 20, 1] _ (by decide) R5.out).mono ?_
  rintro e w6 ⟨v, rfl, ho, b6⟩
  obtain ⟨A6, c6, rfl, _, _, hR6⟩ := ho.out (by decide)
  have B6 := Lib.hid (below_both B5.out b6)
  have V6 : Hid (RowI w6 A6 2 [1, 5]) := hR6
  have e6 : (rtBack [5, 3, 9, 9, 20, 1]).length = 2 := rfl
  rw [e6]
  clear b6 R5 B5 ho hR6 e6
  go_wp2_with fail
  generalize hg6 : w6.heap.size = g6
  obtain ⟨W7, hW7⟩ : ∃ W, W = w6.alloc (.cells #[.int .i64 1, .int .i64 5] 3) := ⟨_, rfl⟩
  have V7 : Hid (RowI W7 (some ⟨g6, 0, none⟩) 2 [1, 5]) := by
    rw [hW7, ← hg6]
    exact rowI_lit _ _ [1, 5] 2 _ rfl (heap_alloc_new w6 _) (by decide) rfl
  have V8 : Hid (RowI W7 A6 2 [1, 5]) := by
    rw [hW7]
    exact V6.out.alloc _
  have B7 : Hid (Below w.heap.size w W7) := by
    rw [hW7]
    exact B6.out.alloc B6.out.size _
  rw [← hW7]
  clear hW7 hg6 V6 B6
  refine (rtints_yes A6 (some ⟨g6, 0, none⟩) 2 c6 2 [1, 5] _ (by decide) V8.out V7.out).mono ?_
  rintro e w8 ⟨rfl, b8⟩
  have B8 := Lib.hid (below_both B7.out b8)
  clear b8 B7 V7 V8
  go_wp2_with fail
  go_ret
  exact ⟨by first | rfl | simp, B8.out⟩
end Go.Proofs.YtmondjnkjkeaaaaRRRR
