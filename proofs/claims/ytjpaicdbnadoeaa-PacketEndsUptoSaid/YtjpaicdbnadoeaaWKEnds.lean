/-
  The walk of the statement PacketEnds.
-/
import Derived.Test.YtjpaicdbnadoeaaPk11
import Derived.Test.YtjpaicdbnadoeaaApp
namespace Go.Proofs.Ytjpaicdbnadoeaa
open Go.RowKit
set_option linter.unusedVariables false

theorem pkrow_front {w : World} {A : Option Addr} {n m : Nat} {bs : List Nat} (h : Row w A n bs) (hm : m ≤ n) : Row w A m (bs.take m) := by
  by_cases h0 : m = 0
  · subst h0
    rw [List.take_zero]
    exact Row.nil _ _
  · obtain ⟨b, o, rfl, _⟩ := h.addr (by omega)
    have hp := h.part 0 m (by omega)
    rw [List.drop_zero, Nat.add_zero] at hp
    exact hp
set_option maxRecDepth 10000 in
set_option maxHeartbeats 6400000 in
theorem walk_PacketEnds (a0 : Option Addr) (len0 cap0 : Nat) (bs0 : List Nat) (a1 : Option Addr) (len1 cap1 : Nat) (bs1 : List Nat) (n2 : Int) (w : World) (R0 : Row w a0 len0 bs0) (hl0 : len0 ≤ cap0) (hc0 : cap0 ≤ 1048576) (R1 : Row w a1 len1 bs1) (hl1 : len1 ≤ cap1) (hc1 : cap1 ≤ 1048576) (lo2 : -9223372036854775808 ≤ n2) (hi2 : n2 ≤ 9223372036854775807) :
    Calls Try.prog 5 #[.slice a0 len0 cap0, .slice a1 len1 cap1, .int .i64 n2] w fun e w' => e = .returned (.bool true) ∧ Below w.heap.size w w' := by
  have hn : len0 ≤ 140737488351232 := by omega
  have C1 := Lib.hid (fun w (hR : Row w a0 len0 bs0) => pkparse_any a0 len0 cap0 bs0 w hn hl0 hR)
  obtain ⟨Hl, Ho⟩ := pkHead_all R0.1 R0.2.1
  have hlitZ := hd_lit
  obtain ⟨Z, hZ⟩ : ∃ Z, Z = hdCells RZ false 0 0 := ⟨_, rfl⟩
  have hZl : Z.length = 40 := by rw [hZ]; rfl
  have HR := Lib.hid R0
  have HR1 := Lib.hid R1
  rw [← hZ] at hlitZ
  by_cases hD : pkDefs len0 bs0 = []
  · have hh := pkHeads_nil hD
    have ok := pkRec_ok R0.1 R0.2.1 hh
    obtain ⟨_, g20, gas, gsn, _, _⟩ := pk_good R0.1 R0.2.1 hh
    obtain ⟨s, hs⟩ : ∃ s, s = (pkRec bs0).size := ⟨_, rfl⟩
    have hs34 : (pkHead len0 bs0)[34]? = some (.int .i64 (s : Nat)) := by
      unfold pkHead
      rw [if_pos hD, hs]
      exact three_at (by rw [bcells_length, ok.sl]) (by rw [bcells_length, ok.dl]) 1
    have hsame : ∀ w : World, (Op.equalIn 10000 25 (.agg (pkHead len0 bs0).toArray) (.agg (pkHead len0 bs0).toArray)).run Try.prog w = .ok true w := fun w => by
      unfold pkHead
      rw [if_pos hD]
      exact head_same ok w
    rw [← hs] at gas gsn
    have C2 : Hid (∀ (A : Option Addr) (c : Nat) (W : World), (bs0.take s ++ bs1).length ≤ c → Row W A (bs0.take s ++ bs1).length (bs0.take s ++ bs1) → Calls Try.prog 14 #[.slice A (bs0.take s ++ bs1).length c] W fun e w' => e = .returned (.tuple #[.agg (pkHead len0 bs0).toArray, .int .i64 0]) ∧ Below W.heap.size W w') := fun A c W hc h => by
      have hls : (bs0.take s ++ bs1).length = s + len1 := by rw [List.length_append, List.length_take, R0.1, R1.1]; omega
      have h2 := pkparse_any A _ c _ W (by rw [hls]; omega) hc h
      obtain ⟨m1, m2, m3⟩ := pk_more (n' := (bs0.take s ++ bs1).length) (cs := bs0.take s ++ bs1) R0.1 R0.2.1 hD hs (by rw [List.take_append_of_le_length (by rw [List.length_take, R0.1]; omega), List.take_take, Nat.min_self]) (by rw [hls]; omega)
      have e1 : pkHead (bs0.take s ++ bs1).length (bs0.take s ++ bs1) = pkHead len0 bs0 := by
        unfold pkHead
        rw [if_pos m1, if_pos hD, m3, m2]
      rw [e1, pkTold_nil m1] at h2
      exact h2
    have C3 : Hid (∀ (m : Nat) (W : World), m < s → Row W a0 len0 bs0 → ∃ (X : List Value) (d : Nat), (X.length = 40 ∧ (∀ v ∈ X, v.oneCell' = true)) ∧ 1 ≤ d ∧ d < 8 ∧ Calls Try.prog 14 #[.slice a0 m cap0] W fun e w' => e = .returned (.tuple #[.agg X.toArray, .int .i64 (d : Nat)]) ∧ Below W.heap.size W w') := fun m W hm h => by
      have hp := pkrow_front h (show m ≤ len0 by omega)
      obtain ⟨d, l, e1, d1, d2⟩ := pk_cut R0.1 R0.2.1 hD (m := m) (by rw [← hs]; exact hm)
      have h2 := pkparse_any a0 m cap0 (bs0.take m) W (by omega) (by omega) hp
      have e2 : pkTold m (bs0.take m) = d := by unfold pkTold; rw [e1]; rfl
      rw [e2] at h2
      exact ⟨_, d, pkHead_all hp.1 hp.2.1, d1, d2, h2⟩
    have RS : Hid (∀ W, Row W a0 len0 bs0 → Row W a0 s (bs0.take s)) := fun W h => pkrow_front h gsn
    have hdz := pkTold_nil hD
    rw [hdz] at C1
    obtain ⟨H, hH⟩ : ∃ H, H = pkHead len0 bs0 := ⟨_, rfl⟩
    rw [← hH] at C1 C2 Hl Ho hs34 hsame
    obtain ⟨cs, hcs⟩ : ∃ cs, cs = bs0.take s ++ bs1 := ⟨_, rfl⟩
    rw [← hcs] at C2
    have HCS := Lib.hid hcs
    have HBY : Hid (∀ x ∈ cs, x < 256) := fun x hx => by
      rw [HCS.out] at hx
      rcases List.mem_append.1 hx with h | h
      · exact HR.out.2.1 x (List.mem_of_mem_take h)
      · exact HR1.out.2.1 x h
    have HQ1 : Hid (([] : List Nat).length + s ≤ 140737488355328) := by show 0 + s ≤ _; omega
    have HQ2 : Hid ((bs0.take s).length + len1 ≤ 140737488355328) := by show _ ≤ _; rw [List.length_take, R0.1]; omega
    obtain ⟨N, hN⟩ : ∃ N, N = cs.length := ⟨_, rfl⟩
    rw [← hN] at C2
    have HNN := Lib.hid hN
    have i1 : ¬ ((s : Int) < 0) := by omega
    have i2 : ¬ ((len0 : Int) < (s : Int)) := by omega
    have i3 : (s : Int) ≤ (cap0 : Int) := by omega
    have i4 : (0 : Int) ≤ (s : Int) := by omega
    have HS34 := Lib.hid hs34
    have HSame := Lib.hid hsame
    have HSL : Hid (s ≤ cap0) := by show s ≤ cap0; omega
    clear hD hh ok hs g20 gas gsn hH hcs hN hdz hs34 hsame hZ hn R0 R1 hl0 hc0 hl1 hc1
    go_enter Try.func5, Try.ntmps5
    go_wp2_with fail
    refine (C1.out _ HR.out).mono ?_
    rintro e w1 ⟨rfl, b1⟩
    go_upto_region 2 with (first | refine wpList_store_v rfl 25 (.tmp 7) (.tmp 16) rfl _ rfl tyhead (ArrV.new _ _ Z) hZl H Hl Ho rfl ?_ | fail)
    obtain ⟨V1, e1⟩ : ∃ V, V = (w1.alloc (.cells Z.toArray 25)).setCells w1.heap.size 0 H := ⟨_, rfl⟩
    obtain ⟨x1, hb1⟩ := ArrV.laid 25 w1 Z H (by rw [Hl, hZl])
    rw [← e1] at x1 hb1 ⊢
    have X1 := Lib.hid x1
    have B1 := Lib.hid (below_both b1 hb1)
    obtain ⟨g1, hg1⟩ : ∃ g, g = w1.heap.size := ⟨_, rfl⟩
    rw [← hg1] at X1 ⊢
    have c34 := (X1.out.get 34).trans HS34.out
    clear e1 x1 hb1 b1 hg1
    have O0 : Hid (OutIs V1.heap.size (V1.alloc (.cells #[] 5)) (.slice (some ⟨V1.heap.size, 0, none⟩) 0 0) []) := OutIs.laid V1 [] V1.heap.size (Nat.le_refl _) (by decide)
    have Q5 : Hid (Below V1.heap.size V1 (V1.alloc (.cells #[] 5))) := (Below.refl _ _).alloc (Nat.le_refl _) _
    have RA := Lib.hid (RS.out _ ((HR.out.below B1.out).below Q5.out))
    have c34b : (V1.alloc (.cells #[] 5)).cell? ⟨g1, 34, none⟩ = some (.int .i64 (s : Nat)) := ((X1.out.below Q5.out).get 34).trans HS34.out
    go_upto_region 6 with fail
    refine wp_region_lit ?_
    go_upto_region 7 with (first
      | (at_builtin; refine wpList_append_row_any (B := V1.heap.size) (W := V1) rfl (.tmp 32) (.tmp 36) rfl rfl rfl rfl O0.out RA.out Q5.out Q5.out.size HQ1.out ?_; intro v6 w6 ho6 hb6; rw [List.nil_append] at ho6; have O6 := Lib.hid ho6; have Q6 := Lib.hid hb6; have RB := Lib.hid ((HR1.out.below B1.out).below hb6); have Z6 : Hid (V1.heap.size ≤ w6.heap.size) := hb6.size; clear ho6 hb6)
      | (at_builtin; refine wpList_append_row_any (B := V1.heap.size) (W := V1) rfl (.tmp 37) (.tmp 38) rfl rfl rfl rfl O6.out RB.out Q6.out Z6.out HQ2.out ?_; intro v7 w7 ho7 hb7; rw [← HCS.out] at ho7; obtain ⟨A7, c7, rfl, h1, h2, h3⟩ := ho7.out HBY.out; rw [← HNN.out] at h1 h3 ⊢; have H7 := Lib.hid h1; have R7 := Lib.hid h3; have B7 := Lib.hid hb7; clear ho7 hb7 h1 h2 h3)
      | fail)
    refine (C2.out _ _ _ H7.out R7.out).mono ?_
    rintro e w8 ⟨rfl, b8⟩
    have hbb := below_both B7.out b8
    go_upto_region 7 with (first | refine wpList_store_v rfl 25 (.tmp 9) (.tmp 41) rfl _ rfl tyhead (ArrV.new _ _ Z) hZl H Hl Ho rfl ?_ | fail)
    obtain ⟨V8, e8⟩ : ∃ V, V = (w8.alloc (.cells Z.toArray 25)).setCells w8.heap.size 0 H := ⟨_, rfl⟩
    obtain ⟨x8, hb8⟩ := ArrV.laid 25 w8 Z H (by rw [Hl, hZl])
    rw [← e8] at x8 hb8 ⊢
    have X8 := Lib.hid x8
    have Y8 := Lib.hid (X1.out.below (below_both hbb hb8))
    have B8 := Lib.hid (below_both B1.out (below_both hbb hb8))
    obtain ⟨g8, hg8⟩ : ∃ g, g = w8.heap.size := ⟨_, rfl⟩
    rw [← hg8] at X8 ⊢
    have d34 := (Y8.out.get 34).trans HS34.out
    have hsame := HSame.out
    clear e8 x8 hb8 hbb b8 hg8 B7 R7 H7 RB Q6 Z6 O6 RA Q5 O0 B1 X1 c34 c34b
    go_upto_region 9 with (first | refine wpList_load_v rfl 25 (.tmp 9) rfl _ rfl tyhead X8.out Hl ?_ | refine wpList_load_v rfl 25 (.tmp 7) rfl _ rfl tyhead Y8.out Hl ?_ | fail)
    clear hsame
    by_cases hneg : n2 < 0
    · go_wp2_with fail
      refine (live14 _).mono ?_
      rintro e w9 ⟨rfl, b9⟩
      have B9 := Lib.hid (below_both B8.out b9)
      clear b9
      go_wp2_with fail
      go_ret
      exact ⟨rfl, B9.out⟩
    by_cases hbig : (s : Int) ≤ n2
    · have hn2 : 0 ≤ n2 := by omega
      go_wp2_with fail
      refine (live14 _).mono ?_
      rintro e w9 ⟨rfl, b9⟩
      have B9 := Lib.hid (below_both B8.out b9)
      clear b9
      go_wp2_with fail
      go_ret
      exact ⟨rfl, B9.out⟩
    obtain ⟨m, rfl⟩ : ∃ m : Nat, n2 = (m : Nat) := ⟨n2.toNat, by omega⟩
    have hm : m < s := by omega
    obtain ⟨X, d, ⟨Xl, Xo⟩, d1, d2, CX⟩ := C3.out m V8 hm (HR.out.below B8.out)
    have CX := Lib.hid CX
    have hmc : m ≤ cap0 := by have := HSL.out; omega
    have j1 : (m : Int) ≤ (cap0 : Int) := by omega
    have j2 : (0 : Int) ≤ (m : Int) := by omega
    have j3 : ((d : Int) != 0) = true := bne_iff_ne.2 (by omega)
    have j4 : (d : Int) < 8 := by omega
    clear hm hmc d1 d2 C3 C2 HSL HR HR1 lo2 hi2
    go_wp2_with fail
    refine CX.out.mono ?_
    rintro e w9 ⟨rfl, b9⟩
    go_upto_region 12 with (first | refine wpList_store_v rfl 25 (.tmp 11) (.tmp 64) rfl _ rfl tyhead (ArrV.new _ _ Z) hZl X Xl Xo rfl ?_ | fail)
    obtain ⟨V9, e9⟩ : ∃ V, V = (w9.alloc (.cells Z.toArray 25)).setCells w9.heap.size 0 X := ⟨_, rfl⟩
    obtain ⟨x9, hb9⟩ := ArrV.laid 25 w9 Z X (by rw [Xl, hZl])
    rw [← e9] at hb9 ⊢
    have B9 := Lib.hid (below_both B8.out (below_both b9 hb9))
    clear e9 x9 hb9 b9 B8 d34
    go_wp2_with fail
    refine (live14 _).mono ?_
    rintro e w10 ⟨rfl, b10⟩
    have B10 := Lib.hid (below_both B9.out b10)
    clear b10 B9
    go_wp2_with fail
    go_ret
    exact ⟨rfl, B10.out⟩
  · have hne : pkTold len0 bs0 ≠ 0 := fun h => hD (pkTold_zero.1 h)
    obtain ⟨H, hH⟩ : ∃ H, H = pkHead len0 bs0 := ⟨_, rfl⟩
    obtain ⟨d, hd⟩ : ∃ d, d = pkTold len0 bs0 := ⟨_, rfl⟩
    rw [← hH, ← hd] at C1
    rw [← hH] at Hl Ho
    rw [← hd] at hne
    have db : ((d : Int) != 0) = true := bne_iff_ne.2 (by omega)
    clear hH hd hD hne hZ hn R0 R1 hl0 hc0 hl1 hc1 lo2 hi2
    go_enter Try.func5, Try.ntmps5
    go_wp2_with fail
    refine (C1.out _ HR.out).mono ?_
    rintro e w1 ⟨rfl, b1⟩
    go_upto_region 2 with (first | refine wpList_store_v rfl 25 (.tmp 7) (.tmp 16) rfl _ rfl tyhead (ArrV.new _ _ Z) hZl H Hl Ho rfl ?_ | fail)
    obtain ⟨V1, e1⟩ : ∃ V, V = (w1.alloc (.cells Z.toArray 25)).setCells w1.heap.size 0 H := ⟨_, rfl⟩
    obtain ⟨x1, hb1⟩ := ArrV.laid 25 w1 Z H (by rw [Hl, hZl])
    rw [← e1] at x1 hb1 ⊢
    have B1 := Lib.hid (below_both b1 hb1)
    clear e1 x1 hb1 b1
    go_wp2_with fail
    refine (live14 _).mono ?_
    rintro e w9 ⟨rfl, b9⟩
    have B9 := Lib.hid (below_both B1.out b9)
    clear b9
    go_wp2_with fail
    go_ret
    exact ⟨rfl, B9.out⟩
end Go.Proofs.Ytjpaicdbnadoeaa
