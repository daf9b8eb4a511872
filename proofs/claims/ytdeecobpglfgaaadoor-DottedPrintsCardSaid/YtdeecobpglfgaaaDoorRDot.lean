/-
  Contracts of the document's Num, Of, Next, Sort and Print of layer 5.
-/
import Derived.Test.YtdeecobpglfgaaaDoorWDSorts
import Derived.Test.YtdeecobpglfgaaaDoorOct7
import Derived.Test.YtdeecobpglfgaaaDoorRtext
namespace Go.Proofs.YtdeecobpglfgaaaDoor
open Go.RowKit
set_option linter.unusedVariables false
attribute [local go_sem] eq4_run

theorem ArrAt.row {W : World} {g : Nat} {bs : List Nat} (h : ArrAt W g bs) (hb : ∀ x ∈ bs, x < 256) : Row W (some ⟨g, 0, none⟩) bs.length bs :=
  Row.mk rfl hb fun i hi => by rw [Nat.zero_add]; exact h.cell i hi
theorem four_lt {a b c d : Nat} (ha : a ≤ 255) (hb : b ≤ 255) (hc : c ≤ 255) (hd : d ≤ 255) : ∀ x ∈ [a, b, c, d], x < 256 := by
  intro x hx
  simp only [List.mem_cons, List.not_mem_nil, or_false] at hx
  omega
theorem rget_four (a b c d : Nat) (g : Nat) (w : World) (ha : a ≤ 255) (hb : b ≤ 255) (hc : c ≤ 255) (hd : d ≤ 255) (h : ArrAt w g [a, b, c, d]) :
    Calls Tryd.prog 57 #[.slice (some ⟨g, 0, none⟩) 4 4, .int .i64 0, .int .i64 4] w fun e w' => e = .returned (.tuple #[.int .u64 (dnum a b c d : Nat), .int .i64 0]) ∧ w = w' := by
  have k := rget_ok (some ⟨g, 0, none⟩) 4 4 0 4 [a, b, c, d] w (by decide) (by decide) (by decide) (by decide) (by decide) (h.row (four_lt ha hb hc hd))
  have e : be (([a, b, c, d].drop 0).take 4) = dnum a b c d := be_four a b c d
  rw [e] at k
  exact k
theorem rnum_four (a b c d : Nat) (w : World) (ha : a ≤ 255) (hb : b ≤ 255) (hc : c ≤ 255) (hd : d ≤ 255) :
    Calls Tryd.prog 19 #[.agg #[.int .u8 a, .int .u8 b, .int .u8 c, .int .u8 d]] w fun e w' => e = .returned (.int .u32 (dnum a b c d : Nat)) ∧ Below w.heap.size w w' := by
  have CG := Lib.hid (rget_four a b c d w.heap.size (w.alloc (.cells #[.int .u8 a, .int .u8 b, .int .u8 c, .int .u8 d] 22)) ha hb hc hd (heap_alloc_new w _))
  have hle := dnum_le ha hb hc hd
  generalize dnum a b c d = n at *
  have hw : IntKind.u32.wrap (n : Int) = (n : Int) := IntWalk.u32_in _ ⟨by omega, by omega⟩
  go_enter Tryd.func19, Tryd.ntmps19
  go_wp2_with fail
  refine CG.out.mono ?_
  rintro e w1 ⟨rfl, rfl⟩
  go_wp2_with fail
  go_ret
  exact ⟨rfl, (Below.refl _ _).alloc (Nat.le_refl _) _⟩
theorem pb_four (n : Nat) (h : n ≤ 4294967295) : pb n 4 = [n / 16777216 % 256, n / 65536 % 256, n / 256 % 256, n % 256] := by
  have e : List.range 4 = [0, 1, 2, 3] := rfl
  simp [pb, e]
set_option maxHeartbeats 1600000 in
theorem rof_four (n : Nat) (w : World) (hn : n ≤ 4294967295) :
    Calls Tryd.prog 21 #[.int .u32 n] w fun e w' => e = .returned (.agg #[.int .u8 (n / 16777216 % 256 : Nat), .int .u8 (n / 65536 % 256 : Nat), .int .u8 (n / 256 % 256 : Nat), .int .u8 (n % 256 : Nat)]) ∧ Below w.heap.size w w' := by
  obtain ⟨x0, h0⟩ : ∃ x, x = n / 16777216 % 256 := ⟨_, rfl⟩
  obtain ⟨x1, h1⟩ : ∃ x, x = n / 65536 % 256 := ⟨_, rfl⟩
  obtain ⟨x2, h2⟩ : ∃ x, x = n / 256 % 256 := ⟨_, rfl⟩
  obtain ⟨x3, h3⟩ : ∃ x, x = n % 256 := ⟨_, rfl⟩
  have e1 : splice [0, 0, 0, 0] 0 (pb n 4) = [x0, x1, x2, x3] := by
    rw [splice_whole _ _ (by rw [pb_length]; rfl), pb_four n hn, h0, h1, h2, h3]
  rw [← h0, ← h1, ← h2, ← h3]
  clear h0 h1 h2 h3
  have E1 := Lib.hid e1
  clear e1
  have A2 : Hid (ArrAt ((w.alloc (.cells #[.int .u8 0, .int .u8 0, .int .u8 0, .int .u8 0] 22)).alloc (.cells #[.int .u8 0, .int .u8 0, .int .u8 0, .int .u8 0] 5)) w.heap.size [0, 0, 0, 0]) := heap_alloc2_old w _ _
  have hR : Row ((w.alloc (.cells #[.int .u8 0, .int .u8 0, .int .u8 0, .int .u8 0] 22)).alloc (.cells #[.int .u8 0, .int .u8 0, .int .u8 0, .int .u8 0] 5)) (some ⟨w.heap.size + 1, 0, none⟩) 4 [0, 0, 0, 0] :=
    Own.row (g := w.heap.size + 1) (bs := [0, 0, 0, 0]) (heap_alloc2_new w _ _) (by simp)
  have CP := Lib.hid (rput_ok (some ⟨w.heap.size + 1, 0, none⟩) 4 4 n 0 4 [0, 0, 0, 0] _ (by decide) (by decide) (by decide) (by decide) (by omega) (by omega) (by decide) hR)
  clear hR
  go_enter Tryd.func21, Tryd.ntmps21
  go_wp2_with fail
  refine CP.out.mono ?_
  rintro e w1 ⟨v, rfl, hO, hB⟩
  rw [E1.out] at hO
  obtain ⟨g, c, rfl, hg, hc, _⟩ := hO.block (by simp)
  have o0 := hO.cell (n := 4) rfl 0 (by decide)
  have o1 := hO.cell (n := 4) rfl 1 (by decide)
  have o2 := hO.cell (n := 4) rfl 2 (by decide)
  have o3 := hO.cell (n := 4) rfl 3 (by decide)
  have A3 := A2.out.below hB
  have r0 := A3.cell 0 (by decide)
  have r1 := A3.cell 1 (by decide)
  have r2 := A3.cell 2 (by decide)
  have r3 := A3.cell 3 (by decide)
  have f0 := A3.frozen
  simp at o0 o1 o2 o3 r0 r1 r2 r3
  have HB := Lib.hid (below_al2 hB)
  clear hB A3 A2 hO hg hc CP
  have h4 : [x0, x1, x2, x3].length = 4 := rfl
  rw [h4]
  go_wp2_with fail
  go_region
  have HB1 := Lib.hid HB.out.drew
  go_wp2_with fail
  refine bodyPost_ret (v := .agg #[.int .u8 x0, .int .u8 x1, .int .u8 x2, .int .u8 x3]) (by simp [results, Tryd.results21, go_sem, r0, r1, r2, r3]) rfl ⟨rfl, ?_⟩
  exact (((HB1.out.setCell (by simp) _).setCell (by simp) _).setCell (by simp) _).setCell (by simp) _
set_option maxRecDepth 10000 in
set_option maxHeartbeats 1600000 in
theorem rsort_four (a b c d : Nat) (w : World) :
    Calls Tryd.prog 23 #[.agg #[.int .u8 a, .int .u8 b, .int .u8 c, .int .u8 d]] w fun e w' => e = .returned (.string (dsort a b c d)) ∧ Below w.heap.size w w' := by
  by_cases h0 : a = 0 ∧ b = 0 ∧ c = 0 ∧ d = 0
  · have q0 : same4 a b c d 0 0 0 0 = true := by rw [same_zero]; exact decide_eq_true h0
    have E : Hid (dsort a b c d = ⟨#[110, 111, 110, 101]⟩) := by show dsort a b c d = _; rw [dsort, if_pos h0]
    clear h0
    go_enter Tryd.func23, Tryd.ntmps23
    go_wp2_with fail
    go_region
    go_wp2_with fail
    go_ret
    exact ⟨ret_str E.out.symm, ((Below.refl _ _).alloc (Nat.le_refl _) _).drew⟩
  have q0 : same4 a b c d 0 0 0 0 = false := by rw [same_zero]; exact decide_eq_false h0
  by_cases h1 : a = 255 ∧ b = 255 ∧ c = 255 ∧ d = 255
  · have q1 : same4 a b c d 255 255 255 255 = true := by rw [same_all]; exact decide_eq_true h1
    have E : Hid (dsort a b c d = ⟨#[97, 108, 108]⟩) := by show dsort a b c d = _; rw [dsort, if_neg h0, if_pos h1]
    clear h0 h1
    go_enter Tryd.func23, Tryd.ntmps23
    go_wp2_with fail
    go_region
    go_wp2_with fail
    go_ret
    exact ⟨ret_str E.out.symm, ((Below.refl _ _).alloc (Nat.le_refl _) _).drew⟩
  have q1 : same4 a b c d 255 255 255 255 = false := by rw [same_all]; exact decide_eq_false h1
  have E : Hid (dsort a b c d = dmid a b) := dsort_mid h0 h1
  clear h0 h1
  go_enter Tryd.func23, Tryd.ntmps23
  go_wp2_with fail
  go_region
  go_wp2_with fail
  all_goals
    go_ret
    refine ⟨ret_str ?_, ((Below.refl _ _).alloc (Nat.le_refl _) _).drew⟩
    rw [E.out, dmid]
    (try simp only [beq_iff_eq, beq_eq_false_iff_ne, ne_eq] at *)
    have hp : dpriv a b = decide (a = 10 ∨ (a = 172 ∧ 16 ≤ b ∧ b ≤ 31) ∨ (a = 192 ∧ b = 168)) := rfl
    rw [hp]
    simp only [decide_eq_true_eq]
    (repeat' split) <;> first | rfl | (exfalso; omega)
theorem rnext_four (a b c d : Nat) (w : World) (ha : a ≤ 255) (hb : b ≤ 255) (hc : c ≤ 255) (hd : d ≤ 255) :
    Calls Tryd.prog 14 #[.agg #[.int .u8 a, .int .u8 b, .int .u8 c, .int .u8 d]] w fun e w' => e = .returned (dnext a b c d) ∧ Below w.heap.size w w' := by
  have CN := Lib.hid (fun w => rnum_four a b c d w ha hb hc hd)
  obtain ⟨n, hn⟩ : ∃ n, dnum a b c d = n := ⟨_, rfl⟩
  have hle : n ≤ 4294967295 := by rw [← hn]; exact dnum_le ha hb hc hd
  rw [hn] at CN
  have E : Hid (dnext a b c d = .tuple #[if n = 4294967295 then quad 0 0 0 0 else quad ((n + 1) / 16777216 % 256) ((n + 1) / 65536 % 256) ((n + 1) / 256 % 256) ((n + 1) % 256), .bool (decide (n ≠ 4294967295))]) := by
    show dnext a b c d = _
    rw [dnext, hn]
  clear hn
  have HO := Lib.hid (heap_alloc2_new w (.cells #[.int .u8 a, .int .u8 b, .int .u8 c, .int .u8 d] 22) (.cells #[.int .u8 0, .int .u8 0, .int .u8 0, .int .u8 0] 22))
  have hw : IntKind.u64.wrap ((n : Int) + 1) = ((n + 1 : Nat) : Int) := by
    rw [show (n : Int) + 1 = ((n + 1 : Nat) : Int) from by omega]
    exact IntWalk.u64_in _ ⟨by omega, by omega⟩
  obtain ⟨m, hm⟩ : ∃ m, m = n + 1 := ⟨_, rfl⟩
  rw [← hm] at hw
  go_enter Tryd.func14, Tryd.ntmps14
  have hm2 := Lib.hid hm
  clear hm
  go_wp2_with fail
  refine (CN.out _).mono ?_
  rintro e w1 ⟨rfl, hb1⟩
  have A1 : ArrAt w1 (w.heap.size + 1) [0, 0, 0, 0] := ArrAt.below (W := (w.alloc _).alloc _) HO.out hb1
  have hA := Lib.hid A1
  have c0 := A1.cell 0 (by simp)
  have c1 := A1.cell 1 (by simp)
  have c2 := A1.cell 2 (by simp)
  have c3 := A1.cell 3 (by simp)
  have f0 := A1.frozen
  simp at c0 c1 c2 c3
  have HB := Lib.hid (below_al2 hb1)
  clear hb1 A1
  by_cases h : n = 4294967295
  · have hm3 : (4294967295 : Int) < (m : Int) := by have := hm2.out; omega
    have h := Lib.hid h
    go_wp2_with fail
    refine bodyPost_ret (v := .tuple #[.agg #[.int .u8 0, .int .u8 0, .int .u8 0, .int .u8 0], .bool false]) (by simp [results, Tryd.results14, go_sem, c0, c1, c2, c3]) rfl ⟨?_, (((HB.out.setCell (by simp) _).setCell (by simp) _).setCell (by simp) _).setCell (by simp) _⟩
    rw [E.out, if_pos h.out, decide_eq_false (fun k => k h.out)]
    rfl
  · have hm3 : (m : Int) ≤ 4294967295 := by have := hm2.out; omega
    have hw2 : IntKind.u32.wrap (m : Int) = (m : Int) := IntWalk.u32_in _ ⟨by omega, by omega⟩
    have CO := Lib.hid (fun w => rof_four m w (by omega))
    have HX : Hid (dnext a b c d = .tuple #[.agg #[.int .u8 (m / 16777216 % 256 : Nat), .int .u8 (m / 65536 % 256 : Nat), .int .u8 (m / 256 % 256 : Nat), .int .u8 (m % 256 : Nat)], .bool true]) := by
      show dnext a b c d = _
      rw [E.out, if_neg h, decide_eq_true h, hm2.out]
      rfl
    clear h E hm2
    generalize m / 16777216 % 256 = x0 at CO HX
    generalize m / 65536 % 256 = x1 at CO HX
    generalize m / 256 % 256 = x2 at CO HX
    generalize m % 256 = x3 at CO HX
    go_wp2_with fail
    refine (CO.out _).mono ?_
    rintro e w2 ⟨rfl, hb2⟩
    have A2 := hA.out.below hb2
    have c0 := A2.cell 0 (by simp)
    have c1 := A2.cell 1 (by simp)
    have c2 := A2.cell 2 (by simp)
    have c3 := A2.cell 3 (by simp)
    have f0 := A2.frozen
    simp at c0 c1 c2 c3
    have HB2 := Lib.hid (below_both HB.out hb2)
    clear hb2 A2
    go_wp2_with fail
    refine bodyPost_ret (v := .tuple #[.agg #[.int .u8 x0, .int .u8 x1, .int .u8 x2, .int .u8 x3], .bool true]) (by simp [results, Tryd.results14, go_sem, c0, c1, c2, c3]) rfl ⟨?_, (((HB2.out.setCell (by simp) _).setCell (by simp) _).setCell (by simp) _).setCell (by simp) _⟩
    rw [HX.out]

theorem dtail_one {n : Nat} (h : n < 10) : str (dtail n 1) = dig n := by
  unfold str dig
  rw [dec_small h]
  simp [dtail, Nat.mod_eq_of_lt h]
theorem dtail_two {n : Nat} (h : ¬ n < 10) (h2 : n < 100) : str (dtail n 2) = dig n := by
  unfold str dig
  rw [dec_step h, dec_small (by omega)]
  simp [dtail, show n / 10 % 10 = n / 10 from by omega]
theorem dtail_three {n : Nat} (h : ¬ n < 100) (h2 : n < 1000) : str (dtail n 3) = dig n := by
  unfold str dig
  rw [dec_step (by omega), dec_step (by omega), dec_small (by omega)]
  simp [dtail, show n / 100 % 10 = n / 10 / 10 from by omega]
theorem rtext_byte (x : Nat) (w : World) (hx : x ≤ 255) :
    Calls Tryd.prog 56 #[.agg #[.int .u64 0, .int .u64 x]] w fun e w' => e = .returned (.string (dig x)) ∧ Below w.heap.size w w' := by
  have e : x = wnum 0 x := by simp [wnum]
  by_cases h1 : x < 10
  · have h := rtext_any 0 x x 1 w e (by decide) (by omega) (⟨by decide, by omega, fun j h h' => by omega⟩ : HasDigits x 1) (by decide)
    rw [dtail_one h1] at h
    exact h
  · by_cases h2 : x < 100
    · have h := rtext_any 0 x x 2 w e (by decide) (by omega) (⟨by decide, by omega, fun j h h' => by rcases (by omega : j = 1 ∨ j = 1) with rfl | rfl <;> omega⟩ : HasDigits x 2) (by decide)
      rw [dtail_two h1 h2] at h
      exact h
    · have h := rtext_any 0 x x 3 w e (by decide) (by omega) (⟨by decide, by omega, fun j h h' => by
        rcases (by omega : j = 1 ∨ j = 2) with rfl | rfl <;> omega⟩ : HasDigits x 3) (by decide)
      rw [dtail_three h2 (by omega)] at h
      exact h
/-- The first numbers' text. -/
def ptx (ns : List Nat) : Nat → ByteArray
  | 0 => ⟨#[]⟩
  | k + 1 => (if k = 0 then ptx ns k else ptx ns k ++ ⟨#[46]⟩) ++ dig (ns.getD k 0)
theorem dig_size {x : Nat} (h : x ≤ 255) : (dig x).size ≤ 3 := by
  have e : (dig x).size = (Lib.decDigits x).length := by simp [dig, ByteArray.size]
  have := dec_len x (by omega)
  omega
theorem ptx_size (ns : List Nat) (h : ∀ k, ns.getD k 0 ≤ 255) : ∀ k, (ptx ns k).size ≤ 4 * k
  | 0 => by simp [ptx, ByteArray.size]
  | k + 1 => by
    have h1 := ptx_size ns h k
    have h2 := dig_size (h k)
    have e : (⟨#[46]⟩ : ByteArray).size = 1 := rfl
    rw [ptx, ByteArray.size_append]
    split
    · omega
    · rw [ByteArray.size_append, e]
      omega
theorem ptx_all (a b c d : Nat) : ptx [a, b, c, d] 4 = dstr a b c d := by
  have e : ptx [a, b, c, d] 4 = (((((((⟨#[]⟩ ++ dig a) ++ ⟨#[46]⟩) ++ dig b) ++ ⟨#[46]⟩) ++ dig c) ++ ⟨#[46]⟩) ++ dig d) := rfl
  rw [e]
  apply ByteArray.ext
  apply Array.toList_inj.1
  simp [dstr, dtext, dig, Lib.join, List.intercalate, List.intersperse]
set_option maxRecDepth 10000 in
set_option maxHeartbeats 1600000 in
theorem rprint_four (a b c d : Nat) (w : World) (ha : a ≤ 255) (hb : b ≤ 255) (hc : c ≤ 255) (hd : d ≤ 255) :
    Calls Tryd.prog 17 #[.agg #[.int .u8 a, .int .u8 b, .int .u8 c, .int .u8 d]] w fun e w' => e = .returned (.string (dstr a b c d)) ∧ Below w.heap.size w w' := by
  have H0 : Hid (ArrAt (w.alloc (.cells #[.int .u8 a, .int .u8 b, .int .u8 c, .int .u8 d] 22)) w.heap.size [a, b, c, d]) := heap_alloc_new w _
  have hle : ∀ k, [a, b, c, d].getD k 0 ≤ 255 := by
    intro k
    match k with
    | 0 => exact ha
    | 1 => exact hb
    | 2 => exact hc
    | 3 => exact hd
    | _ + 4 => simp
  have HLE := Lib.hid hle
  clear hle
  go_enter Tryd.func17, Tryd.ntmps17
  go_wp2_with fail
  go_loopw [3, 4] (fun s i wr => ∃ k : Nat, k ≤ 4 ∧ i = .int .i64 k ∧ s = .string (ptx [a, b, c, d] k) ∧ ArrAt wr w.heap.size [a, b, c, d] ∧ Below w.heap.size w wr) (fun _ i _ => 4 - (intOf i).toNat)
  case atStart => exact ⟨0, by decide, rfl, rfl, H0.out, (Below.refl _ _).alloc (Nat.le_refl _) _⟩
  case round =>
    obtain ⟨k, hk, rfl, rfl, hA, hB⟩ := hrel
    have HA := Lib.hid hA
    have HB := Lib.hid hB
    clear hA hB
    by_cases hlt : k < 4
    · have c0 := HA.out.cell k hlt
      have hxl := HLE.out k
      have HP : Hid (ptx [a, b, c, d] (k + 1) = (if k = 0 then ptx [a, b, c, d] k else ptx [a, b, c, d] k ++ ⟨#[46]⟩) ++ dig ([a, b, c, d].getD k 0)) := rfl
      have hps := ptx_size [a, b, c, d] HLE.out k
      generalize [a, b, c, d].getD k 0 = x at c0 hxl HP
      generalize ptx [a, b, c, d] k = s at HP hps ⊢
      have hds := dig_size hxl
      have s1 : s.size + (dig x).size ≤ 9223372036854775807 := by omega
      have s2 : s.size + 1 ≤ 9223372036854775807 := by omega
      have s3 : s.size + 1 + (dig x).size ≤ 9223372036854775807 := by omega
      have s4 : s.size + (⟨#[46]⟩ : ByteArray).size ≤ 9223372036854775807 := s2
      have s5 : (s ++ ⟨#[46]⟩).size + (dig x).size ≤ 9223372036854775807 := by rw [ByteArray.size_append]; exact s3
      clear hps hds
      have CT := Lib.hid (fun w => rtext_byte x w hxl)
      by_cases hz : k = 0
      · have HPz : Hid (ptx [a, b, c, d] (k + 1) = s ++ dig x) := by
          have := HP.out
          rw [if_pos hz] at this
          exact this
        subst hz
        go_wp2_with fail
        refine (CT.out _).mono ?_
        rintro e w1 ⟨rfl, b1⟩
        have HA1 := Lib.hid (HA.out.below b1)
        have HB1 := Lib.hid (below_both HB.out b1)
        clear b1
        go_wp2_with fail
        go_roundw
        case rel => exact ⟨0 + 1, by omega, by go_num, by rw [HPz.out], HA1.out, HB1.out⟩
        case measure => simp [intOf]
      · have HP : Hid (ptx [a, b, c, d] (k + 1) = (s ++ ⟨#[46]⟩) ++ dig x) := by
          have := HP.out
          rw [if_neg hz] at this
          exact this
        have hz2 : (0 : Int) < (k : Int) := by omega
        have hz := Lib.hid hz
        go_wp2_with fail
        refine (CT.out _).mono ?_
        rintro e w1 ⟨rfl, b1⟩
        have HA1 := Lib.hid (HA.out.below b1)
        have HB1 := Lib.hid (below_both HB.out b1)
        clear b1
        go_wp2_with fail
        go_roundw
        case rel => exact ⟨k + 1, by omega, by go_num, by rw [HP.out], HA1.out, HB1.out⟩
        case measure => simp [intOf]; omega
    · obtain rfl : k = 4 := by omega
      rw [ptx_all]
      go_wp2_with fail
      go_ret
      exact ⟨rfl, HB.out⟩
end Go.Proofs.YtdeecobpglfgaaaDoor
