/-
  The walk of the statement ExtwalkRanks.
-/
import Derived.BigQuiet
import Derived.Test.YtlopmkmcjcijcaaEw10
namespace Go.Proofs.Ytlopmkmcjcijcaa
open Go.RowKit
set_option linter.unusedVariables false

set_option maxRecDepth 10000 in
set_option maxHeartbeats 6400000 in
theorem walk_ExtwalkRanks (n0 : Int) (a1 : Option Addr) (len1 cap1 : Nat) (bs1 : List Nat) (w : World) (lo0 : -9223372036854775808 ≤ n0) (hi0 : n0 ≤ 9223372036854775807) (R1 : Row w a1 len1 bs1) (hl1 : len1 ≤ cap1) (hc1 : cap1 ≤ 140737488351232) :
    Calls Try.prog 6 #[.int .i64 n0, .slice a1 len1 cap1] w fun e w' => e = .returned (.bool true) ∧ Below w.heap.size w w' := by
  have CG := Lib.hid (exgo_tour n0 a1 len1 cap1 bs1 w hl1 (by omega) R1)
  unfold GoIs at CG
  obtain ⟨ok1, ok2⟩ := walkF_ok (k := n0) (n := len1) (bs := bs1) 9 (Tour.start n0) [] (start_ok n0 len1) rfl R1.1
  obtain ⟨t, ht⟩ : ∃ t, t = (walkF len1 bs1 9 (Tour.start n0) []).1 := ⟨_, rfl⟩
  rw [← ht] at CG ok1 ok2
  obtain ⟨dasc, drange, dlen⟩ := defects_asc t
  obtain ⟨L, hL⟩ : ∃ L, L = t.defects := ⟨_, rfl⟩
  unfold Tour.told at CG
  rw [← hL] at CG dasc drange dlen ok2
  clear ht R1 lo0 hi0
  by_cases hE : L = []
  · subst hE
    rw [if_pos rfl] at CG
    unfold Tour.walk at CG
    obtain ⟨q1, q2, q3, q4⟩ := ok1
    have q5 := ok2 rfl
    obtain ⟨p, hp⟩ : ∃ p, p = t.proto := ⟨_, rfl⟩
    obtain ⟨a, ha⟩ : ∃ a, a = t.at_ := ⟨_, rfl⟩
    obtain ⟨f, hf⟩ : ∃ f, f = t.frag := ⟨_, rfl⟩
    obtain ⟨o, ho⟩ : ∃ o, o = t.off := ⟨_, rfl⟩
    obtain ⟨c, hc⟩ : ∃ c, c = t.count := ⟨_, rfl⟩
    rw [← hp, ← ha, ← hf, ← ho, ← hc] at CG
    rw [← ha] at q1
    rw [← hc] at q2
    rw [← hc, ← hp, ← ha] at q3
    rw [← ho, ← hf] at q4
    rw [← hp, ← hf] at q5
    obtain ⟨ek, hek⟩ : ∃ ek, ek = exKind p := ⟨_, rfl⟩
    have CI : Hid (∀ w, Calls Try.prog 22 #[.int .i64 p] w fun e w' => e = .returned (.bool ek) ∧ w = w') := fun w => by
      have h := exis_any p w
      rw [← hek] at h
      exact h
    rw [← hek] at q5
    have i1 : (0 : Int) ≤ (a : Int) := by omega
    have i2 : (a : Int) ≤ (len1 : Int) := by omega
    have i3 : (0 : Int) ≤ (c : Int) := by omega
    have i4 : (c : Int) ≤ 8 := by omega
    have HQ3 := Lib.hid q3
    have HQ4 := Lib.hid q4
    have HQ5 := Lib.hid q5
    clear hp ha hf ho hc hek q1 q2 q3 q4 q5 ok2 dasc drange dlen hL hl1 hc1
    go_enter Try.func6, Try.ntmps6
    go_wp2_with fail
    refine CG.out.mono ?_
    rintro e w1 ⟨v1, rfl, ⟨A1, c1, rfl, hc1, hcell1⟩, hb1⟩
    go_upto_region 2 with fail
    obtain ⟨V, eV⟩ : ∃ V, V = w1.alloc (.cells #[.int .i64 p, .int .i64 (a : Nat), .int .i64 (f : Nat), .int .i64 (o : Nat), .int .i64 (c : Nat)] 24) := ⟨_, rfl⟩
    have hW : ArrV 24 V w1.heap.size [.int .i64 p, .int .i64 (a : Nat), .int .i64 (f : Nat), .int .i64 (o : Nat), .int .i64 (c : Nat)] := by rw [eV]; exact ArrV.new _ w1 _
    have BV : Hid (Below w.heap.size w V) := by show Below _ _ _; exact below_both hb1 (by rw [eV]; exact (Below.refl _ _).alloc (Nat.le_refl _) _)
    rw [← eV]
    obtain ⟨g, hg⟩ : ∃ g, g = w1.heap.size := ⟨_, rfl⟩
    rw [← hg] at hW ⊢
    have HWV : Hid (∀ W, Below V.heap.size V W → ArrV 24 W g [.int .i64 p, .int .i64 (a : Nat), .int .i64 (f : Nat), .int .i64 (o : Nat), .int .i64 (c : Nat)]) := fun W h => hW.below h
    clear eV hg hW hb1 hc1 hcell1 CG
    go_wp2_with fail
    go_loopw [7] (fun i W => i = .int .i64 0 ∧ Below V.heap.size V W) (fun _ _ => 0)
    case atStart => exact ⟨rfl, Below.refl _ _⟩
    case round =>
      obtain ⟨rfl, hW⟩ := hrel
      have HW := Lib.hid hW
      have BW := Lib.hid (below_both BV.out hW)
      clear hW
      go_upto_region 9 with fail
      go_wp2_with fail
      refine (live11 _).mono ?_
      rintro e w4 ⟨rfl, b4⟩
      have X4 := HWV.out _ (below_both HW.out b4)
      have B4 := Lib.hid (below_both BW.out b4)
      have x0 := X4.get 0
      have x1 := X4.get 1
      have x2 := X4.get 2
      have x3 := X4.get 3
      have x4 := X4.get 4
      simp at x0 x1 x2 x3 x4
      clear b4 X4 HWV BW HW BV
      by_cases hf2 : f = 2
      · have o1 : (0 : Int) < (o : Int) := by have := HQ4.out.2 hf2; omega
        subst hf2
        have x2 : w4.cell? ⟨g, 2, none⟩ = some (.int .i64 2) := x2
        clear HQ4 HQ5
        by_cases hc0 : c = 0
        · obtain ⟨hp0, ha0⟩ := HQ3.out hc0
          subst hc0 hp0 ha0
          have x1 : w4.cell? ⟨g, 1, none⟩ = some (.int .i64 0) := x1
          have x4 : w4.cell? ⟨g, 4, none⟩ = some (.int .i64 0) := x4
          clear i1 i3 i4
          clear HQ3
          cases ek with
          | true =>
            go_wp2_with fail
            refine (CI.out _).mono ?_
            rintro e w5 ⟨rfl, rfl⟩
            go_wp2_with fail
            go_ret
            exact ⟨by simp; omega, B4.out⟩
          | false =>
            go_wp2_with fail
            refine (CI.out _).mono ?_
            rintro e w5 ⟨rfl, rfl⟩
            go_wp2_with fail
            go_ret
            exact ⟨by simp; omega, B4.out⟩
        · have c0 : (0 : Int) < (c : Int) := by omega
          clear HQ3 hc0
          cases ek with
          | true =>
            go_wp2_with fail
            refine (CI.out _).mono ?_
            rintro e w5 ⟨rfl, rfl⟩
            go_wp2_with fail
            go_ret
            exact ⟨by simp; omega, B4.out⟩
          | false =>
            go_wp2_with fail
            refine (CI.out _).mono ?_
            rintro e w5 ⟨rfl, rfl⟩
            go_wp2_with fail
            go_ret
            exact ⟨by simp; omega, B4.out⟩
      · have o0 : o = 0 := by have := mt HQ4.out.1 hf2; omega
        subst o0
        have x3 : w4.cell? ⟨g, 3, none⟩ = some (.int .i64 0) := x3
        have ek0 : ek = false := by rcases HQ5.out with h | h; exact h; exact absurd h hf2
        subst ek0
        have f2 : ((f : Int) == 2) = false := by simp; omega
        clear HQ4 HQ5 hf2
        by_cases hc0 : c = 0
        · obtain ⟨hp0, ha0⟩ := HQ3.out hc0
          subst hc0 hp0 ha0
          have x1 : w4.cell? ⟨g, 1, none⟩ = some (.int .i64 0) := x1
          have x4 : w4.cell? ⟨g, 4, none⟩ = some (.int .i64 0) := x4
          clear i1 i3 i4
          clear HQ3
          go_wp2_with fail
          refine (CI.out _).mono ?_
          rintro e w5 ⟨rfl, rfl⟩
          go_wp2_with fail
          go_ret
          exact ⟨by simp, B4.out⟩
        · have c0 : (0 : Int) < (c : Int) := by omega
          clear HQ3 hc0
          go_wp2_with fail
          refine (CI.out _).mono ?_
          rintro e w5 ⟨rfl, rfl⟩
          go_wp2_with fail
          go_ret
          exact ⟨by simp, B4.out⟩
  · rw [if_neg hE] at CG
    unfold walkZ at CG
    obtain ⟨N, hN⟩ : ∃ N, N = L.length := ⟨_, rfl⟩
    have hN0 : 0 < N := by rw [hN]; exact List.length_pos_iff.2 hE
    have HN0 : (0 : Int) < (N : Int) := by omega
    have HASC : Hid (∀ k p x y, k = p + 1 → L[k]? = some x → L[p]? = some y → y < x) := fun k p x y hk hx hy => by
      obtain ⟨h1, h2⟩ := List.getElem?_eq_some_iff.1 hx
      obtain ⟨h3, h4⟩ := List.getElem?_eq_some_iff.1 hy
      rw [← h2, ← h4]
      exact List.pairwise_iff_getElem.1 dasc p k h3 h1 (by omega)
    have HRG : Hid (∀ (i x : Nat), L[i]? = some x → 10 ≤ x ∧ x ≤ 14) := fun i x h => drange x (List.mem_of_getElem? h)
    have HN := Lib.hid hN
    have HN5 : Hid (N ≤ 5) := by show N ≤ 5; rw [hN]; exact dlen
    clear ok1 ok2 dasc drange dlen hL hl1 hc1 hE hN hN0
    go_enter Try.func6, Try.ntmps6
    go_wp2_with fail
    refine CG.out.mono ?_
    rintro e w1 ⟨v1, rfl, ⟨A1, c1, rfl, hc1, hcell1⟩, hb1⟩
    rw [← HN.out]
    go_upto_region 2 with fail
    obtain ⟨V, eV⟩ : ∃ V, V = w1.alloc (.cells #[.int .i64 0, .int .i64 0, .int .i64 0, .int .i64 0, .int .i64 0] 24) := ⟨_, rfl⟩
    have hW : ArrV 24 V w1.heap.size [.int .i64 0, .int .i64 0, .int .i64 0, .int .i64 0, .int .i64 0] := by rw [eV]; exact ArrV.new _ w1 _
    have bV : Below w1.heap.size w1 V := by rw [eV]; exact (Below.refl _ _).alloc (Nat.le_refl _) _
    have BV : Hid (Below w.heap.size w V) := below_both hb1 bV
    have D1 : Hid (∀ W, Below V.heap.size V W → ∀ i x, L[i]? = some x → ∃ b o, A1 = some ⟨b, o, none⟩ ∧ W.cell? ⟨b, o + i, none⟩ = some (.int .i64 (x : Nat))) := fun W hW i x hx => by
      obtain ⟨b, o, e, hlt, hc⟩ := hcell1 i x hx
      exact ⟨b, o, e, ((below_both bV hW).cell (p := ⟨b, o + i, none⟩) hlt).trans hc⟩
    rw [← eV]
    obtain ⟨g, hg⟩ : ∃ g, g = w1.heap.size := ⟨_, rfl⟩
    rw [← hg] at hW ⊢
    have HWV : Hid (∀ W, Below V.heap.size V W → ArrV 24 W g [.int .i64 0, .int .i64 0, .int .i64 0, .int .i64 0, .int .i64 0]) := fun W h => hW.below h
    clear eV bV hg hW hb1 hc1 hcell1 CG
    go_wp2_with fail
    go_loopw [7] (fun i W => ∃ k : Nat, k ≤ 5 ∧ i = .int .i64 (k : Nat) ∧ Below V.heap.size V W) (fun i W => 6 - (intOf i).toNat)
    case atStart => exact ⟨0, by decide, rfl, Below.refl _ _⟩
    case round =>
      obtain ⟨k, h5, rfl, hW⟩ := hrel
      have HW := Lib.hid hW
      by_cases hlt : k < N
      · have hkl : k < L.length := by rw [← HN.out]; exact hlt
        obtain ⟨x, hx⟩ : ∃ x, L[k]? = some x := ⟨_, List.getElem?_eq_getElem hkl⟩
        obtain ⟨r1, r2⟩ := HRG.out k x hx
        obtain ⟨b, o, e1, q1⟩ := D1.out wr hW k x hx
        subst e1
        have x1 : ¬ ((x : Int) < 10) := by omega
        have x2 : ¬ ((14 : Int) < (x : Int)) := by omega
        have i2 : (k : Int) < (N : Int) := by omega
        by_cases hk0 : k = 0
        · subst hk0
          have HK := Lib.hid hlt
          simp only [Nat.add_zero] at q1
          have i2 : (0 : Int) < (N : Int) := HN0
          rw [show (((0 : Nat) : Nat) : Int) = 0 from rfl]
          clear hkl hx hW h5 hlt r1 r2
          go_upto_region 5 with fail
          go_quiet (fail)
          go_wp2_with fail
          go_roundw
          case rel => exact ⟨1, by decide, by go_num, below_drewN' HW.out _⟩
          case measure => have := HK.out; have := HN5.out; simp [intOf]
        · obtain ⟨p, hp⟩ : ∃ p, k = p + 1 := ⟨k - 1, by omega⟩
          have hpl : p < L.length := by omega
          obtain ⟨y, hy⟩ : ∃ y, L[p]? = some y := ⟨_, List.getElem?_eq_getElem hpl⟩
          have hxy := HASC.out k p x y hp hx hy
          obtain ⟨b', o', e2, q2⟩ := D1.out wr hW p y hy
          cases e2
          have hle : ¬ ((x : Int) ≤ (y : Int)) := by omega
          have k0 : (0 : Int) < (k : Int) := by omega
          have k0n : 0 < k := by omega
          have hlen : ¬ (x ≤ y) := by omega
          have w2 : wrap64 ((k : Int) - 1) = (p : Int) := by unfold wrap64; omega
          have w3 : IntKind.i64.wrap ((k : Int) - 1) = (p : Int) := by rw [IntKind.wrap_i64]; omega
          have i1 : (p : Int) < (N : Int) := by omega
          have HK := Lib.hid (And.intro h5 hlt)
          have hk6 : (k : Int) ≤ 6 := by omega
          clear hp hkl hpl hx hy hxy hW h5 hlt r1 r2 hk0
          go_upto_region 5 with fail
          go_quiet (fail)
          go_wp2_with fail
          go_roundw
          case rel => exact ⟨k + 1, by have := HK.out; have := HN5.out; omega, by go_num, below_drewN' HW.out _⟩
          case measure => have := HK.out; have := HN5.out; simp [intOf]; omega
      · have hkN : ¬ ((k : Int) < (N : Int)) := by omega
        clear hW h5 hlt
        go_upto_region 8 with fail
        go_wp2_with fail
        refine (live11 _).mono ?_
        rintro e w4 ⟨rfl, b4⟩
        have X4 := HWV.out _ (below_both HW.out b4)
        have B4 := Lib.hid (below_both (below_both BV.out HW.out) b4)
        clear b4 HWV BV HW HASC D1 HRG
        go_wp2_with (first | refine wpList_load_vg (by rfl) 24 (.tmp 5) rfl _ rfl tywalk X4 rfl ?_ | fail)
        go_ret
        exact ⟨by simp, B4.out⟩
end Go.Proofs.Ytlopmkmcjcijcaa
