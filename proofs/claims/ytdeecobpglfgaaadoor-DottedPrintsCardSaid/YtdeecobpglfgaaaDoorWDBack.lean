/-
  The walk of the statement DottedBack.
-/
import Derived.Test.YtdeecobpglfgaaaDoorWDSorts
namespace Go.Proofs.YtdeecobpglfgaaaDoor
open Go.RowKit
set_option linter.unusedVariables false
attribute [local go_sem] eq4_run

theorem dof_dnum {a b c d : Nat} (ha : a ≤ 255) (hb : b ≤ 255) (hc : c ≤ 255) (hd : d ≤ 255) :
    dnum a b c d / 16777216 % 256 = a ∧ dnum a b c d / 65536 % 256 = b ∧ dnum a b c d / 256 % 256 = c ∧ dnum a b c d % 256 = d := by unfold dnum; omega
theorem dnum_dof {n : Nat} (h : n ≤ 4294967295) : dnum (n / 16777216 % 256) (n / 65536 % 256) (n / 256 % 256) (n % 256) = n := by unfold dnum; omega
theorem same_self (a b c d : Int) : same4 a b c d a b c d = true := by simp [same4]
theorem dstr_back (s : ByteArray) {a b c d : Nat} (h : dtext a b c d = s.data.toList) : dstr a b c d = s := by
  unfold dstr
  rw [h]
theorem dstr_all : dstr 255 255 255 255 = ⟨#[50, 53, 53, 46, 50, 53, 53, 46, 50, 53, 53, 46, 50, 53, 53]⟩ := by
  unfold dstr dtext
  rw [dec_255]
  rfl

set_option maxRecDepth 10000 in
set_option maxHeartbeats 3200000 in
theorem walk_DottedBack (zs0 : List Int) (s1 : ByteArray) (w : World) (hT : Pow w) (hn0 : zs0.length = 4) (hz0 : ∀ z ∈ zs0, (Lit.int .u8 z).wf = true) (hs1 : s1.size ≤ 140737488351232) :
    Calls Tryd.prog 5 #[.agg (zs0.map (Value.int .u8)).toArray, .string s1] w fun e w' => e = .returned (.bool true) ∧ Below w.heap.size w w' := by
  obtain ⟨a, b, c, d, rfl, ha, hb, hc, hd⟩ := four_bytes hn0 hz0
  clear hn0 hz0
  have HT := Lib.hid hT
  clear hT
  show Calls Tryd.prog 5 #[.agg #[.int .u8 a, .int .u8 b, .int .u8 c, .int .u8 d], .string s1] w _
  obtain ⟨n, hn⟩ : ∃ n, n = dnum a b c d := ⟨_, rfl⟩
  have hn4 : n ≤ 4294967295 := by rw [hn]; exact dnum_le ha hb hc hd
  have CN : Hid (∀ w, Calls Tryd.prog 18 #[.agg #[.int .u8 a, .int .u8 b, .int .u8 c, .int .u8 d]] w fun e w' => e = .returned (.int .u32 n) ∧ Below w.heap.size w w') := fun w => by rw [hn]; exact dnum_any a b c d w ha hb hc hd
  have CO : Hid (∀ w, Calls Tryd.prog 20 #[.int .u32 n] w fun e w' => e = .returned (.agg #[.int .u8 a, .int .u8 b, .int .u8 c, .int .u8 d]) ∧ Below w.heap.size w w') := fun w => by
    have h := dof_any n w hn4
    obtain ⟨e1, e2, e3, e4⟩ := dof_dnum ha hb hc hd
    rw [← hn] at e1 e2 e3 e4
    rw [e1, e2, e3, e4] at h
    exact h
  have CP : Hid (∀ w, Pow w → Calls Tryd.prog 16 #[.agg #[.int .u8 a, .int .u8 b, .int .u8 c, .int .u8 d]] w fun e w' => e = .returned (.string (dstr a b c d)) ∧ Below w.heap.size w w') := fun w h => print_any a b c d w ha hb hc hd h
  have CB : Hid (∀ w, Calls Tryd.prog 24 #[.string (dstr a b c d)] w fun e w' => e = .returned (.tuple #[.agg #[.int .u8 a, .int .u8 b, .int .u8 c, .int .u8 d], .int .i64 0]) ∧ Below w.heap.size w w') := fun w => by
    have h := parse_any (dstr a b c d) w (by
      have e := dtext_len ha hb hc hd
      have e2 : (dstr a b c d).size = (dtext a b c d).length := by simp [dstr, ByteArray.size]
      omega)
    unfold ParseIs dval at h
    have e : (dstr a b c d).data.toList = dtext a b c d := by simp [dstr]
    rw [e, dparse_dtext ha hb hc hd] at h
    exact h
  have A0 : Hid (ArrAt (w.alloc (.cells #[.int .u8 a, .int .u8 b, .int .u8 c, .int .u8 d] 22)) w.heap.size [a, b, c, d]) := heap_alloc_new w _
  have B0 : Hid (Below w.heap.size w (w.alloc (.cells #[.int .u8 a, .int .u8 b, .int .u8 c, .int .u8 d] 22))) := (Below.refl _ _).alloc (Nat.le_refl _) _
  have Q := same_self a b c d
  -- what the second text gives
  obtain ⟨⟨⟨x, y, z, u⟩, E⟩, hp⟩ : ∃ p, dparse s1.data.toList = p := ⟨_, rfl⟩
  have CS : Hid (∀ w, Calls Tryd.prog 24 #[.string s1] w fun e w' => e = .returned (.tuple #[.agg #[.int .u8 x, .int .u8 y, .int .u8 z, .int .u8 u], .int .i64 E]) ∧ Below w.heap.size w w') := fun w => by
    have h := parse_any s1 w (by omega)
    unfold ParseIs dval at h
    rw [hp] at h
    exact h
  have hle := dparse_le s1.data.toList
  rw [hp] at hle
  obtain ⟨hx, hy, hz, hu⟩ := hle
  simp at hx hy hz hu
  have CC : Hid (E = 0 → ∀ w, Pow w → Calls Tryd.prog 16 #[.agg #[.int .u8 x, .int .u8 y, .int .u8 z, .int .u8 u]] w fun e w' => e = .returned (.string s1) ∧ Below w.heap.size w w') := fun h w hw => by
    subst h
    have := print_any x y z u w hx hy hz hu hw
    rw [dstr_back s1 (dparse_ok hp)] at this
    exact this
  clear hp hx hy hz hu
  have CXl : Hid (n = 4294967295 → ∀ w, Calls Tryd.prog 13 #[.agg #[.int .u8 a, .int .u8 b, .int .u8 c, .int .u8 d]] w fun e w' => e = .returned (.tuple #[.agg #[.int .u8 0, .int .u8 0, .int .u8 0, .int .u8 0], .bool false]) ∧ Below w.heap.size w w') := fun h w => by
    have k := next_any a b c d w ha hb hc hd
    unfold dnext at k
    rw [← hn, if_pos h, decide_eq_false (fun k => k h)] at k
    exact k
  have CPl : Hid (n = 4294967295 → ∀ w, Pow w → Calls Tryd.prog 16 #[.agg #[.int .u8 a, .int .u8 b, .int .u8 c, .int .u8 d]] w fun e w' => e = .returned (.string ⟨#[50, 53, 53, 46, 50, 53, 53, 46, 50, 53, 53, 46, 50, 53, 53]⟩) ∧ Below w.heap.size w w') := fun h w hw => by
    have k := CP.out w hw
    obtain ⟨rfl, rfl, rfl, rfl⟩ := (dnum_last ha hb hc hd).1 (hn ▸ h)
    rw [dstr_all] at k
    exact k
  have CXm : Hid (¬ n = 4294967295 → ∃ m0 m1 m2 m3 : Nat,
      (∀ w, Calls Tryd.prog 13 #[.agg #[.int .u8 a, .int .u8 b, .int .u8 c, .int .u8 d]] w fun e w' => e = .returned (.tuple #[.agg #[.int .u8 m0, .int .u8 m1, .int .u8 m2, .int .u8 m3], .bool true]) ∧ Below w.heap.size w w') ∧
      (∀ w, Calls Tryd.prog 18 #[.agg #[.int .u8 m0, .int .u8 m1, .int .u8 m2, .int .u8 m3]] w fun e w' => e = .returned (.int .u32 (n + 1 : Nat)) ∧ Below w.heap.size w w')) := fun h => by
    refine ⟨(n + 1) / 16777216 % 256, (n + 1) / 65536 % 256, (n + 1) / 256 % 256, (n + 1) % 256, fun w => ?_, fun w => ?_⟩
    · have k := next_any a b c d w ha hb hc hd
      unfold dnext at k
      rw [← hn, if_neg h, decide_eq_true h] at k
      exact k
    · have k := dnum_any ((n + 1) / 16777216 % 256) ((n + 1) / 65536 % 256) ((n + 1) / 256 % 256) ((n + 1) % 256) w (by omega) (by omega) (by omega) (by omega)
      rw [dnum_dof (by omega)] at k
      exact k
  have HN := Lib.hid hn
  clear hn
  go_enter Tryd.func5, Tryd.ntmps5
  have c0 := A0.out.cell 0 (by simp)
  have c1 := A0.out.cell 1 (by simp)
  have c2 := A0.out.cell 2 (by simp)
  have c3 := A0.out.cell 3 (by simp)
  simp at c0 c1 c2 c3
  go_wp2_with fail
  refine (CP.out _ (HT.out.below B0.out)).mono ?_
  rintro e w1 ⟨rfl, b1⟩
  have A1 := Lib.hid (A0.out.below b1)
  have B1 := Lib.hid (below_both B0.out b1)
  clear b1 A0 B0 c0 c1 c2 c3
  go_wp2_with fail
  refine (CB.out _).mono ?_
  rintro e w2 ⟨rfl, b2⟩
  have A2 := Lib.hid (A1.out.below b2)
  have B2 := Lib.hid (below_both B1.out b2)
  clear b2 A1 B1
  have hC : Hid (Both (w2.alloc (.cells #[.int .u8 a, .int .u8 b, .int .u8 c, .int .u8 d] 22)) w.heap.size w2.heap.size a b c d a b c d) := ⟨A2.out.alloc _, heap_alloc_new w2 _⟩
  have A3 := Lib.hid (A2.out.alloc (.cells #[.int .u8 a, .int .u8 b, .int .u8 c, .int .u8 d] 22))
  have B3 := Lib.hid (B2.out.alloc B2.out.size (.cells #[.int .u8 a, .int .u8 b, .int .u8 c, .int .u8 d] 22))
  clear A2 B2
  go_wp2_with fail
  generalize w2.alloc (.cells #[.int .u8 a, .int .u8 b, .int .u8 c, .int .u8 d] 22) = U at *
  have h0 := hC.out.cells
  have BB := Lib.hid B3.out.drew
  have hT : Hid (BothC U.drew w.heap.size w2.heap.size a b c d a b c d) := h0
  have AA : Hid (ArrAt U.drew w.heap.size [a, b, c, d]) := A3.out
  generalize w2.heap.size = g at *
  clear hC A3 B3
  go_region_held3 (fun w' => w'.cell? ⟨w.heap.size, 0, none⟩ = some (.int .u8 a) ∧ w'.cell? ⟨w.heap.size, 1, none⟩ = some (.int .u8 b) ∧ w'.cell? ⟨w.heap.size, 2, none⟩ = some (.int .u8 c) ∧ w'.cell? ⟨w.heap.size, 3, none⟩ = some (.int .u8 d) ∧ w'.cell? ⟨g, 0, none⟩ = some (.int .u8 a) ∧ w'.cell? ⟨g, 1, none⟩ = some (.int .u8 b) ∧ w'.cell? ⟨g, 2, none⟩ = some (.int .u8 c) ∧ w'.cell? ⟨g, 3, none⟩ = some (.int .u8 d))
    (first | exact h0 | exact hTwo | go_keep)
    (first
      | (go_at_call 18; ((refine (CN.out _).mono ?_); rintro e w' ⟨rfl, hb'⟩; have BB := Lib.hid (below_both BB.out hb'); have AA := Lib.hid (AA.out.below hb'); have hTwo : BothC w' w.heap.size g a b c d a b c d := hT.out.below hb'; have hT := Lib.hid hTwo))
      | (go_at_call 20; ((refine (CO.out _).mono ?_); rintro e w' ⟨rfl, hb'⟩; have BB := Lib.hid (below_both BB.out hb'); have AA := Lib.hid (AA.out.below hb'); have hTwo : BothC w' w.heap.size g a b c d a b c d := hT.out.below hb'; have hT := Lib.hid hTwo))
      | fail)
  all_goals
    clear hT hTwo
    go_wp2_with fail
    refine (CS.out _).mono ?_
    rintro e w3 ⟨rfl, b3⟩
    have AA := Lib.hid (AA.out.below b3)
    have BB := Lib.hid (below_both BB.out b3)
    clear b3
    have XX : Hid (ArrAt (w3.alloc (.cells #[.int .u8 x, .int .u8 y, .int .u8 z, .int .u8 u] 22)) w3.heap.size [x, y, z, u]) := heap_alloc_new w3 _
    have AA := Lib.hid (AA.out.alloc (.cells #[.int .u8 x, .int .u8 y, .int .u8 z, .int .u8 u] 22))
    have BB := Lib.hid (BB.out.alloc BB.out.size (.cells #[.int .u8 x, .int .u8 y, .int .u8 z, .int .u8 u] 22))
    by_cases hE : E = 0
    · have CC0 := Lib.hid (CC.out hE)
      subst hE
      have d0 := XX.out.cell 0 (by simp)
      have d1 := XX.out.cell 1 (by simp)
      have d2 := XX.out.cell 2 (by simp)
      have d3 := XX.out.cell 3 (by simp)
      simp at d0 d1 d2 d3
      go_wp2_with fail
      refine (CC0.out _ (HT.out.below BB.out)).mono ?_
      rintro e w4 ⟨rfl, b4⟩
      have AA := Lib.hid (AA.out.below b4)
      have BB := Lib.hid (below_both BB.out b4)
      clear b4
      clear d0 d1 d2 d3 XX
      have c0 := AA.out.cell 0 (by simp)
      have c1 := AA.out.cell 1 (by simp)
      have c2 := AA.out.cell 2 (by simp)
      have c3 := AA.out.cell 3 (by simp)
      simp at c0 c1 c2 c3
      by_cases hN : n = 4294967295
      · have CX := Lib.hid (CXl.out hN)
        have CPl := Lib.hid (CPl.out hN)
        go_wp2_with fail
        refine (CX.out _).mono ?_
        rintro e w5 ⟨rfl, b5⟩
        clear c0 c1 c2 c3
        have AA := Lib.hid (AA.out.below b5)
        have BB := Lib.hid (below_both BB.out b5)
        clear b5
        have NN : Hid (ArrAt (w5.alloc (.cells #[.int .u8 0, .int .u8 0, .int .u8 0, .int .u8 0] 22)) w5.heap.size [0, 0, 0, 0]) := heap_alloc_new w5 _
        have AA := Lib.hid (AA.out.alloc (.cells #[.int .u8 0, .int .u8 0, .int .u8 0, .int .u8 0] 22))
        have BB := Lib.hid (BB.out.alloc BB.out.size (.cells #[.int .u8 0, .int .u8 0, .int .u8 0, .int .u8 0] 22))
        have Q0 : same4 0 0 0 0 0 0 0 0 = true := rfl
        go_wp2_with fail
        refine (live5 _ (HT.out.below BB.out)).mono ?_
        rintro e w6 ⟨rfl, b6⟩
        have AA := Lib.hid (AA.out.below b6)
        have BB := Lib.hid (below_both BB.out b6)
        have NN := Lib.hid (NN.out.below b6)
        clear b6
        have c0 := AA.out.cell 0 (by simp)
        have c1 := AA.out.cell 1 (by simp)
        have c2 := AA.out.cell 2 (by simp)
        have c3 := AA.out.cell 3 (by simp)
        simp at c0 c1 c2 c3
        go_wp2_with fail
        refine (CPl.out _ (HT.out.below BB.out)).mono ?_
        rintro e w7 ⟨rfl, b7⟩
        clear c0 c1 c2 c3
        have AA := Lib.hid (AA.out.below b7)
        have BB := Lib.hid (below_both BB.out b7)
        have NN := Lib.hid (NN.out.below b7)
        clear b7
        have d0 := NN.out.cell 0 (by decide)
        have d1 := NN.out.cell 1 (by decide)
        have d2 := NN.out.cell 2 (by decide)
        have d3 := NN.out.cell 3 (by decide)
        simp at d0 d1 d2 d3
        go_wp2_with fail
        go_ret
        exact ⟨by simp, BB.out⟩
      · obtain ⟨m0, m1, m2, m3, hm⟩ := CXm.out hN
        have CX := Lib.hid hm.1
        have CM := Lib.hid hm.2
        clear hm
        obtain ⟨k, hk⟩ : ∃ k, k = n + 1 := ⟨_, rfl⟩
        have hw : IntKind.u32.wrap ((n : Int) + 1) = (k : Int) := by
          rw [show (n : Int) + 1 = (k : Int) from by omega]
          exact IntWalk.u32_in _ ⟨by omega, by omega⟩
        rw [← hk] at CM
        clear hk
        go_wp2_with fail
        refine (CX.out _).mono ?_
        rintro e w5 ⟨rfl, b5⟩
        clear c0 c1 c2 c3
        have AA := Lib.hid (AA.out.below b5)
        have BB := Lib.hid (below_both BB.out b5)
        clear b5
        have hC : Hid (Both (w5.alloc (.cells #[.int .u8 m0, .int .u8 m1, .int .u8 m2, .int .u8 m3] 22)) w.heap.size w5.heap.size a b c d m0 m1 m2 m3) := ⟨AA.out.alloc _, heap_alloc_new w5 _⟩
        have AA := Lib.hid (AA.out.alloc (.cells #[.int .u8 m0, .int .u8 m1, .int .u8 m2, .int .u8 m3] 22))
        have BB := Lib.hid (BB.out.alloc BB.out.size (.cells #[.int .u8 m0, .int .u8 m1, .int .u8 m2, .int .u8 m3] 22))
        go_wp2_with fail
        generalize w5.alloc (.cells #[.int .u8 m0, .int .u8 m1, .int .u8 m2, .int .u8 m3] 22) = V at *
        have h0 := hC.out.cells
        have BB := Lib.hid BB.out.drew
        have hT : Hid (BothC V.drew w.heap.size w5.heap.size a b c d m0 m1 m2 m3) := h0
        generalize w5.heap.size = g5 at *
        clear hC AA
        go_region_held3 (fun w' => w'.cell? ⟨w.heap.size, 0, none⟩ = some (.int .u8 a) ∧ w'.cell? ⟨w.heap.size, 1, none⟩ = some (.int .u8 b) ∧ w'.cell? ⟨w.heap.size, 2, none⟩ = some (.int .u8 c) ∧ w'.cell? ⟨w.heap.size, 3, none⟩ = some (.int .u8 d) ∧ w'.cell? ⟨g5, 0, none⟩ = some (.int .u8 m0) ∧ w'.cell? ⟨g5, 1, none⟩ = some (.int .u8 m1) ∧ w'.cell? ⟨g5, 2, none⟩ = some (.int .u8 m2) ∧ w'.cell? ⟨g5, 3, none⟩ = some (.int .u8 m3))
          (first | exact h0 | exact hTwo | go_keep)
          (first
            | (go_at_call 15; ((refine (live5 _ (HT.out.below BB.out)).mono ?_); rintro e w' ⟨rfl, hb'⟩; have BB := Lib.hid (below_both BB.out hb'); have hTwo : BothC w' w.heap.size g5 a b c d m0 m1 m2 m3 := hT.out.below hb'; have hT := Lib.hid hTwo))
            | (go_at_call 18; ((with_reducible refine (CN.out _).mono ?_); rintro e w' ⟨rfl, hb'⟩; have BB := Lib.hid (below_both BB.out hb'); have hTwo : BothC w' w.heap.size g5 a b c d m0 m1 m2 m3 := hT.out.below hb'; have hT := Lib.hid hTwo))
            | (go_at_call 18; ((with_reducible refine (CM.out _).mono ?_); rintro e w' ⟨rfl, hb'⟩; have BB := Lib.hid (below_both BB.out hb'); have hTwo : BothC w' w.heap.size g5 a b c d m0 m1 m2 m3 := hT.out.below hb'; have hT := Lib.hid hTwo))
            | fail)
        all_goals
          go_wp2_with fail
          go_ret
          exact ⟨by simp, BB.out⟩
    · have qE : ((E : Int) == 0) = false := by rw [beq_eq_false_iff_ne]; omega
      clear XX CC
      have c0 := AA.out.cell 0 (by simp)
      have c1 := AA.out.cell 1 (by simp)
      have c2 := AA.out.cell 2 (by simp)
      have c3 := AA.out.cell 3 (by simp)
      simp at c0 c1 c2 c3
      by_cases hN : n = 4294967295
      · have CX := Lib.hid (CXl.out hN)
        have CPl := Lib.hid (CPl.out hN)
        go_wp2_with fail
        refine (CX.out _).mono ?_
        rintro e w5 ⟨rfl, b5⟩
        clear c0 c1 c2 c3
        have AA := Lib.hid (AA.out.below b5)
        have BB := Lib.hid (below_both BB.out b5)
        clear b5
        have NN : Hid (ArrAt (w5.alloc (.cells #[.int .u8 0, .int .u8 0, .int .u8 0, .int .u8 0] 22)) w5.heap.size [0, 0, 0, 0]) := heap_alloc_new w5 _
        have AA := Lib.hid (AA.out.alloc (.cells #[.int .u8 0, .int .u8 0, .int .u8 0, .int .u8 0] 22))
        have BB := Lib.hid (BB.out.alloc BB.out.size (.cells #[.int .u8 0, .int .u8 0, .int .u8 0, .int .u8 0] 22))
        have Q0 : same4 0 0 0 0 0 0 0 0 = true := rfl
        go_wp2_with fail
        refine (live5 _ (HT.out.below BB.out)).mono ?_
        rintro e w6 ⟨rfl, b6⟩
        have AA := Lib.hid (AA.out.below b6)
        have BB := Lib.hid (below_both BB.out b6)
        have NN := Lib.hid (NN.out.below b6)
        clear b6
        have c0 := AA.out.cell 0 (by simp)
        have c1 := AA.out.cell 1 (by simp)
        have c2 := AA.out.cell 2 (by simp)
        have c3 := AA.out.cell 3 (by simp)
        simp at c0 c1 c2 c3
        go_wp2_with fail
        refine (CPl.out _ (HT.out.below BB.out)).mono ?_
        rintro e w7 ⟨rfl, b7⟩
        clear c0 c1 c2 c3
        have AA := Lib.hid (AA.out.below b7)
        have BB := Lib.hid (below_both BB.out b7)
        have NN := Lib.hid (NN.out.below b7)
        clear b7
        have d0 := NN.out.cell 0 (by decide)
        have d1 := NN.out.cell 1 (by decide)
        have d2 := NN.out.cell 2 (by decide)
        have d3 := NN.out.cell 3 (by decide)
        simp at d0 d1 d2 d3
        go_wp2_with fail
        go_ret
        exact ⟨by simp, BB.out⟩
      · obtain ⟨m0, m1, m2, m3, hm⟩ := CXm.out hN
        have CX := Lib.hid hm.1
        have CM := Lib.hid hm.2
        clear hm
        obtain ⟨k, hk⟩ : ∃ k, k = n + 1 := ⟨_, rfl⟩
        have hw : IntKind.u32.wrap ((n : Int) + 1) = (k : Int) := by
          rw [show (n : Int) + 1 = (k : Int) from by omega]
          exact IntWalk.u32_in _ ⟨by omega, by omega⟩
        rw [← hk] at CM
        clear hk
        go_wp2_with fail
        refine (CX.out _).mono ?_
        rintro e w5 ⟨rfl, b5⟩
        clear c0 c1 c2 c3
        have AA := Lib.hid (AA.out.below b5)
        have BB := Lib.hid (below_both BB.out b5)
        clear b5
        have hC : Hid (Both (w5.alloc (.cells #[.int .u8 m0, .int .u8 m1, .int .u8 m2, .int .u8 m3] 22)) w.heap.size w5.heap.size a b c d m0 m1 m2 m3) := ⟨AA.out.alloc _, heap_alloc_new w5 _⟩
        have AA := Lib.hid (AA.out.alloc (.cells #[.int .u8 m0, .int .u8 m1, .int .u8 m2, .int .u8 m3] 22))
        have BB := Lib.hid (BB.out.alloc BB.out.size (.cells #[.int .u8 m0, .int .u8 m1, .int .u8 m2, .int .u8 m3] 22))
        go_wp2_with fail
        generalize w5.alloc (.cells #[.int .u8 m0, .int .u8 m1, .int .u8 m2, .int .u8 m3] 22) = V at *
        have h0 := hC.out.cells
        have BB := Lib.hid BB.out.drew
        have hT : Hid (BothC V.drew w.heap.size w5.heap.size a b c d m0 m1 m2 m3) := h0
        generalize w5.heap.size = g5 at *
        clear hC AA
        go_region_held3 (fun w' => w'.cell? ⟨w.heap.size, 0, none⟩ = some (.int .u8 a) ∧ w'.cell? ⟨w.heap.size, 1, none⟩ = some (.int .u8 b) ∧ w'.cell? ⟨w.heap.size, 2, none⟩ = some (.int .u8 c) ∧ w'.cell? ⟨w.heap.size, 3, none⟩ = some (.int .u8 d) ∧ w'.cell? ⟨g5, 0, none⟩ = some (.int .u8 m0) ∧ w'.cell? ⟨g5, 1, none⟩ = some (.int .u8 m1) ∧ w'.cell? ⟨g5, 2, none⟩ = some (.int .u8 m2) ∧ w'.cell? ⟨g5, 3, none⟩ = some (.int .u8 m3))
          (first | exact h0 | exact hTwo | go_keep)
          (first
            | (go_at_call 15; ((refine (live5 _ (HT.out.below BB.out)).mono ?_); rintro e w' ⟨rfl, hb'⟩; have BB := Lib.hid (below_both BB.out hb'); have hTwo : BothC w' w.heap.size g5 a b c d m0 m1 m2 m3 := hT.out.below hb'; have hT := Lib.hid hTwo))
            | (go_at_call 18; ((with_reducible refine (CN.out _).mono ?_); rintro e w' ⟨rfl, hb'⟩; have BB := Lib.hid (below_both BB.out hb'); have hTwo : BothC w' w.heap.size g5 a b c d m0 m1 m2 m3 := hT.out.below hb'; have hT := Lib.hid hTwo))
            | (go_at_call 18; ((with_reducible refine (CM.out _).mono ?_); rintro e w' ⟨rfl, hb'⟩; have BB := Lib.hid (below_both BB.out hb'); have hTwo : BothC w' w.heap.size g5 a b c d m0 m1 m2 m3 := hT.out.below hb'; have hT := Lib.hid hTwo))
            | fail)
        all_goals
          go_wp2_with fail
          go_ret
          exact ⟨by simp, BB.out⟩
end Go.Proofs.YtdeecobpglfgaaaDoor
