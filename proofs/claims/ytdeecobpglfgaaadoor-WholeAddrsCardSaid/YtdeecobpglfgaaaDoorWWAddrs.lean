/-
  The walk of WholeAddrs.
-/
import Derived.Test.YtdeecobpglfgaaaDoorCol12
import Derived.Test.YtdeecobpglfgaaaDoorDLift
import Derived.BigQuiet
import Derived.Test.YtdeecobpglfgaaaDoorWDSorts
namespace Go.Proofs.YtdeecobpglfgaaaDoor
open Go.RowKit
set_option linter.unusedVariables false
attribute [local go_sem] eq4_run

/-- What stands in the variables. -/
structure WA (w : World) (a b c d : Nat) (X : List Nat) (g4 g6 : Nat) (W : World) : Prop where
  box : ArrV 22 W w.heap.size (bcells [a, b, c, d])
  six : ArrV 37 W g4 (bcells X)
  four : ArrV 22 W g6 (bcells [a, b, c, d])
  bel : Below w.heap.size w W
theorem WA.below {w W W' : World} {a b c d g4 g6 : Nat} {X : List Nat} (h : WA w a b c d X g4 g6 W) (hb : Below W.heap.size W W') : WA w a b c d X g4 g6 W' := ⟨h.box.below hb, h.six.below hb, h.four.below hb, below_both h.bel hb⟩
theorem WA.drew {w W : World} {a b c d g4 g6 : Nat} {X : List Nat} (h : WA w a b c d X g4 g6 W) : WA w a b c d X g4 g6 W.drew := ⟨h.box, h.six, h.four, h.bel.drew⟩
theorem WA.alloc {w W : World} {a b c d g4 g6 : Nat} {X : List Nat} (h : WA w a b c d X g4 g6 W) (o : Obj) : WA w a b c d X g4 g6 (W.alloc o) := h.below ((Below.refl _ _).alloc (Nat.le_refl _) o)
structure WA9 (w : World) (a b c d : Nat) (X : List Nat) (g4 g6 g9 p q r s : Nat) (W : World) : Prop where
  old : WA w a b c d X g4 g6 W
  new : ArrV 22 W g9 (bcells [p, q, r, s])
theorem of_next {N : Nat} (h : N < 4294967295) : dnum ((N + 1) / 16777216 % 256) ((N + 1) / 65536 % 256) ((N + 1) / 256 % 256) ((N + 1) % 256) = N + 1 := by
  unfold dnum
  omega
theorem wp_quiet_wa {P : Program} {C : World → Prop} {id : Nat} {Q : Exit → Act → World → Prop} {a : Act} {w : World} {l : List Oper} (hm : P.follows .mixedOrders = true) (hB : Region.lexB .any l.toArray = true) (hC : C w.drew)
    (h : wpQuiet P l.toArray C (fun a' => ∀ w', C w' → Q .normal a' w') l a) : (Code.region id l.toArray true).wp P Q a w :=
  wp_region_quiet hm hB hC (by simpa using h)
/-- A load under a class of worlds. -/
theorem quietAt_row {C : World → Prop} {o : Oper} {a : Act} {W : World} {t : TypeId} {x : Operand} {g n : Nat} {cs : List Value} (ho : o.op = .load t x) (hx : a.eval x = .pointer (some ⟨g, 0, none⟩)) (ht : RowTy t n) (h : ArrV t W g cs) (hl : cs.length = n) :
    Oper.quietAt Tryd.prog o a C W (.agg cs.toArray) := by
  unfold Oper.quietAt execOp
  simp only [ho, hx, Instr.loadAt, Instr.sureAddr, Sem.run_bind, Sem.run_pure, Result.andThen_ok, h.loadVar ht hl]
  exact ⟨rfl, rfl⟩
theorem six_lit {t : TypeId} {W : World} {g a b c d : Nat} {X : List Nat} (h : ArrV t W g (bcells X)) (e : X = mp ++ [a, b, c, d]) : ArrV t W g (bcells (mp ++ [a, b, c, d])) := by rw [← e]; exact h
theorem or16_u32 (x y : Nat) (hx : x < 65536) (hy : y < 65536) : bits .or .u32 ((x : Int) * 65536) (y : Int) = ((x * 65536 + y : Nat) : Int) := by
  have h := u32_or_nat (x * 65536) y (by omega) (by omega)
  rw [nat_join 16 (x * 65536) y (by omega) (by omega)] at h
  simpa using h

set_option maxRecDepth 10000 in
set_option maxHeartbeats 6400000 in
theorem waddrs (a b c d : Nat) (w : World) (ha : a ≤ 255) (hb : b ≤ 255) (hc : c ≤ 255) (hd : d ≤ 255) (hT : Six w) :
    Calls Tryd.prog 10 #[.agg #[.int .u8 a, .int .u8 b, .int .u8 c, .int .u8 d]] w fun e w' => e = .returned (.bool true) ∧ Below w.heap.size w w' := by
  have hM := mapped_of ha hb hc hd
  generalize mp ++ [a, b, c, d] = X at hM
  have HM := Lib.hid hM
  have A0 : Hid (ArrV 22 (w.alloc (.cells #[.int .u8 a, .int .u8 b, .int .u8 c, .int .u8 d] 22)) w.heap.size (bcells [a, b, c, d])) := ArrV.new _ w _
  have B0 : Hid (Below w.heap.size w (w.alloc (.cells #[.int .u8 a, .int .u8 b, .int .u8 c, .int .u8 d] 22))) := (Below.refl _ _).alloc (Nat.le_refl _) _
  have HB := Lib.hid (And.intro ha (And.intro hb (And.intro hc hd)))
  have HT := Lib.hid hT
  have C1 := Lib.hid hM.map
  have C2 := Lib.hid (fun w hB => cprint_any X w hM.len hM.lt hB)
  have C3 := Lib.hid (fun w hB hm => cparse_printed X w hM.len hM.lt hB hm)
  have C4 := Lib.hid hM.unmap
  have C6 : Hid (∀ w, Calls Tryd.prog 31 #[.agg #[.int .u8 0, .int .u8 0, .int .u8 0, .int .u8 0, .int .u8 0, .int .u8 0, .int .u8 0, .int .u8 0, .int .u8 0, .int .u8 0, .int .u8 255, .int .u8 255, .int .u8 a, .int .u8 b, .int .u8 c, .int .u8 d], .int .i64 6] w fun e w' => e = .returned (.int .u16 ((a * 256 + b : Nat) : Int)) ∧ Below w.heap.size w w') := fun w => by
    have h := cgroup_in X 6 w hM.len hM.lt (by decide)
    rw [hM.g6, hM.is] at h
    exact h
  have C7 : Hid (∀ w, Calls Tryd.prog 31 #[.agg #[.int .u8 0, .int .u8 0, .int .u8 0, .int .u8 0, .int .u8 0, .int .u8 0, .int .u8 0, .int .u8 0, .int .u8 0, .int .u8 0, .int .u8 255, .int .u8 255, .int .u8 a, .int .u8 b, .int .u8 c, .int .u8 d], .int .i64 7] w fun e w' => e = .returned (.int .u16 ((c * 256 + d : Nat) : Int)) ∧ Below w.heap.size w w') := fun w => by
    have h := cgroup_in X 7 w hM.len hM.lt (by decide)
    rw [hM.g7, hM.is] at h
    exact h
  have C8 := Lib.hid (fun w => next_any a b c d w ha hb hc hd)
  have hs16 : (bcells X).length = 16 := by rw [bcells_length, hM.len]
  have HDN : Hid ((a * 256 + b) * 65536 + (c * 256 + d) = dnum a b c d) := by show _ = _; unfold dnum; omega
  obtain ⟨x, hx⟩ : ∃ x, x = a * 256 + b := ⟨_, rfl⟩
  obtain ⟨y, hy⟩ : ∃ y, y = c * 256 + d := ⟨_, rfl⟩
  have hx6 : x < 65536 := by omega
  have hy6 : y < 65536 := by omega
  rw [← hx] at C6 HDN
  rw [← hy] at C7 HDN
  have q1 : IntKind.u32.wrap (x : Int) = (x : Int) := by show (x : Int) % 4294967296 = _; omega
  have q2 : IntKind.u32.wrap (y : Int) = (y : Int) := by show (y : Int) % 4294967296 = _; omega
  have q3 : IntKind.u32.wrap ((x : Int) * 65536) = (x : Int) * 65536 := by show ((x : Int) * 65536) % 4294967296 = _; omega
  have q4 := or16_u32 x y hx6 hy6
  rw [HDN.out] at q4
  clear ha hb hc hd hT hM hx hy hx6 hy6
  unfold quad at C8
  go_enter Tryd.func10, Tryd.ntmps10
  go_wp2_with fail
  refine (C1.out _).mono ?_
  rintro e w1 ⟨rfl, b1⟩
  have A0 := Lib.hid (A0.out.below b1)
  have HT := Lib.hid ((HT.out.below B0.out).below b1)
  have B0 := Lib.hid (below_both B0.out b1)
  clear b1 C1
  go_wp2_with fail
  refine (C2.out _ HT.out.bru).mono ?_
  rintro e w2 ⟨rfl, b2⟩
  have A0 := Lib.hid (A0.out.below b2)
  have HT := Lib.hid (HT.out.below b2)
  have B0 := Lib.hid (below_both B0.out b2)
  clear b2 C2
  go_wp2_with fail
  refine (C3.out _ HT.out.bru HT.out.max).mono ?_
  rintro e w3 ⟨rfl, b3⟩
  obtain ⟨hst, hA, hb⟩ := addr_stored w3 X HM.out.len
  have A0 := Lib.hid ((A0.out.below b3).below hb)
  have B0 := Lib.hid (below_both (below_both B0.out b3) hb)
  have A4 := Lib.hid hA
  clear b3 C3 hA hb HT
  obtain ⟨g4, e4⟩ : ∃ b, b = w3.heap.size := ⟨_, rfl⟩
  go_upto_region 3 with fail
  clear hst
  rw [← e4] at A4 A0 B0 ⊢
  generalize (w3.alloc (.cells #[.int .u8 0, .int .u8 0, .int .u8 0, .int .u8 0, .int .u8 0, .int .u8 0, .int .u8 0, .int .u8 0, .int .u8 0, .int .u8 0, .int .u8 0, .int .u8 0, .int .u8 0, .int .u8 0, .int .u8 0, .int .u8 0] 37)).setCells g4 0 (bcells X) = W4 at *
  clear e4
  refine wp_region_lit ?_
  go_wp2_with (refine wpList_load_v rfl 37 (.tmp 4) rfl _ rfl ty16 A4.out hs16 ?_)
  refine (C4.out _).mono ?_
  rintro e w5 ⟨rfl, b5⟩
  obtain ⟨g6, e6⟩ : ∃ b, b = w5.heap.size := ⟨_, rfl⟩
  have J : Hid (WA w a b c d X g4 g6 (w5.alloc (.cells #[.int .u8 a, .int .u8 b, .int .u8 c, .int .u8 d] 22))) := by
    rw [e6]
    exact ⟨(A0.out.below b5).alloc _, (A4.out.below b5).alloc _, ArrV.new _ w5 _, (below_both B0.out b5).alloc (below_both B0.out b5).size _⟩
  clear b5 C4 A0 A4 B0
  go_upto_region 4 with fail
  rw [← e6]
  clear e6
  generalize w5.alloc (.cells #[.int .u8 a, .int .u8 b, .int .u8 c, .int .u8 d] 22) = W5 at *
  refine wp_quiet_wa (C := WA w a b c d X g4 g6) (by kernel_rfl) (by kernel_rfl) J.out.drew ?_
  go_big_quiet_want
  apply Exists.intro
  refine ⟨fun w' hw' => ?_, ?_⟩
  · exact quietAt_row rfl rfl ty16 (show ArrV _ w' g4 [.int .u8 0, .int .u8 0, .int .u8 0, .int .u8 0, .int .u8 0, .int .u8 0, .int .u8 0, .int .u8 0, .int .u8 0, .int .u8 0, .int .u8 255, .int .u8 255, .int .u8 (a : Nat), .int .u8 (b : Nat), .int .u8 (c : Nat), .int .u8 (d : Nat)] from six_lit hw'.six HM.out.is) rfl
  simp only [Act.put, List.setIfInBounds_toArray, List.set_cons_zero, List.set_cons_succ]
  go_big_quiet_on
  go_big_quiet_want
  go_big_quiet_op
  apply Exists.intro
  refine ⟨fun w' hw' => ?_, ?_⟩
  · refine (C6.out _).mono ?_
    rintro e w'' ⟨rfl, hb⟩
    exact ⟨rfl, hw'.below hb⟩
  go_big_quiet_on
  go_big_quiet_want
  go_big_quiet_op
  first | go_big_quiet_on | (apply Exists.intro; refine ⟨fun w' hw' => rfl, ?_⟩; go_big_quiet_on)
  go_big_quiet_want
  go_big_quiet_op
  first | go_big_quiet_on | (apply Exists.intro; refine ⟨fun w' hw' => rfl, ?_⟩; go_big_quiet_on)
  go_big_quiet_want
  apply Exists.intro
  refine ⟨fun w' hw' => ?_, ?_⟩
  · exact quietAt_row rfl rfl ty16 (show ArrV _ w' g4 [.int .u8 0, .int .u8 0, .int .u8 0, .int .u8 0, .int .u8 0, .int .u8 0, .int .u8 0, .int .u8 0, .int .u8 0, .int .u8 0, .int .u8 255, .int .u8 255, .int .u8 (a : Nat), .int .u8 (b : Nat), .int .u8 (c : Nat), .int .u8 (d : Nat)] from six_lit hw'.six HM.out.is) rfl
  simp only [Act.put, List.setIfInBounds_toArray, List.set_cons_zero, List.set_cons_succ]
  go_big_quiet_on
  go_big_quiet_want
  go_big_quiet_op
  apply Exists.intro
  refine ⟨fun w' hw' => ?_, ?_⟩
  · refine (C7.out _).mono ?_
    rintro e w'' ⟨rfl, hb⟩
    exact ⟨rfl, hw'.below hb⟩
  go_big_quiet_on
  go_big_quiet_want
  go_big_quiet_op
  first | go_big_quiet_on | (apply Exists.intro; refine ⟨fun w' hw' => rfl, ?_⟩; go_big_quiet_on)
  go_big_quiet_want
  go_big_quiet_op
  first | go_big_quiet_on | (apply Exists.intro; refine ⟨fun w' hw' => rfl, ?_⟩; go_big_quiet_on)
  go_big_quiet_want
  go_big_quiet_op
  first | go_big_quiet_on | (apply Exists.intro; refine ⟨fun w' hw' => rfl, ?_⟩; go_big_quiet_on)
  refine wpQuiet_nil ?_
  intro W6 hw6
  have J := Lib.hid hw6
  clear hw6 q1 q2 q3 q4 C6 C7
  obtain ⟨b0, b1, b2, b3⟩ := cells4 J.out.box
  go_wp2_with fail
  by_cases hN : dnum a b c d = 4294967295
  · have C9 : Hid (∀ w, Calls Tryd.prog 13 #[.agg #[.int .u8 a, .int .u8 b, .int .u8 c, .int .u8 d]] w fun e w' => e = .returned (.tuple #[.agg #[.int .u8 0, .int .u8 0, .int .u8 0, .int .u8 0], .bool false]) ∧ Below w.heap.size w w') := fun w => by
      have h := C8.out w
      have e : dnext a b c d = .tuple #[.agg #[.int .u8 0, .int .u8 0, .int .u8 0, .int .u8 0], .bool false] := by unfold dnext; rw [if_pos hN, hN]; rfl
      rw [e] at h
      exact h
    have hnb : (((dnum a b c d : Nat) : Int) == 4294967295) = true := by rw [hN]; rfl
    clear hN C8
    refine (C9.out _).mono ?_
    rintro e w9 ⟨rfl, hb9⟩
    have J := Lib.hid (J.out.below hb9)
    clear hb9 b0 b1 b2 b3
    have J := Lib.hid (WA.alloc J.out (.cells #[.int .u8 0, .int .u8 0, .int .u8 0, .int .u8 0] 22))
    obtain ⟨b0, b1, b2, b3⟩ := cells4 J.out.box
    obtain ⟨d0, d1, d2, d3⟩ := cells4 J.out.four
    have hq : same4 a b c d a b c d = true := by simp [same4]
    have BB := Lib.hid J.out.bel
    generalize dnum a b c d = N at *
    go_wp2_with fail
    go_ret
    exact ⟨rfl, BB.out⟩
  · have HNN : Hid (dnum a b c d < 4294967295) := by
      have := dnum_le HB.out.1 HB.out.2.1 HB.out.2.2.1 HB.out.2.2.2
      show _ < _
      omega
    have C9 : Hid (∀ w, Calls Tryd.prog 13 #[.agg #[.int .u8 a, .int .u8 b, .int .u8 c, .int .u8 d]] w fun e w' => e = .returned (.tuple #[quad ((dnum a b c d + 1) / 16777216 % 256) ((dnum a b c d + 1) / 65536 % 256) ((dnum a b c d + 1) / 256 % 256) ((dnum a b c d + 1) % 256), .bool true]) ∧ Below w.heap.size w w') := fun w => by
      have h := C8.out w
      have e : dnext a b c d = .tuple #[quad ((dnum a b c d + 1) / 16777216 % 256) ((dnum a b c d + 1) / 65536 % 256) ((dnum a b c d + 1) / 256 % 256) ((dnum a b c d + 1) % 256), .bool true] := by unfold dnext; rw [if_neg hN, decide_eq_true hN]
      rw [e] at h
      exact h
    clear hN C8
    refine (C9.out _).mono ?_
    rintro e w9 ⟨rfl, hb9⟩
    have J := Lib.hid (J.out.below hb9)
    clear hb9 b0 b1 b2 b3 C9
    have CNum := Lib.hid (fun w => dnum_any a b c d w HB.out.1 HB.out.2.1 HB.out.2.2.1 HB.out.2.2.2)
    obtain ⟨N, hNe⟩ : ∃ N, N = dnum a b c d := ⟨_, rfl⟩
    rw [← hNe] at HNN CNum ⊢
    have HNe := Lib.hid hNe.symm
    clear hNe
    have COf : Hid (∀ w, Calls Tryd.prog 20 #[.int .u32 ((N : Int) + 1)] w fun e w' => e = .returned (quad ((N + 1) / 16777216 % 256) ((N + 1) / 65536 % 256) ((N + 1) / 256 % 256) ((N + 1) % 256)) ∧ Below w.heap.size w w') := fun w => dof_any (N + 1) w (by have := HNN.out; omega)
    have hbig := of_next (N := N) HNN.out
    obtain ⟨p, hp⟩ : ∃ x, x = (N + 1) / 16777216 % 256 := ⟨_, rfl⟩
    rw [← hp] at COf hbig ⊢
    clear hp
    obtain ⟨q, hq⟩ : ∃ x, x = (N + 1) / 65536 % 256 := ⟨_, rfl⟩
    rw [← hq] at COf hbig ⊢
    clear hq
    obtain ⟨r, hr⟩ : ∃ x, x = (N + 1) / 256 % 256 := ⟨_, rfl⟩
    rw [← hr] at COf hbig ⊢
    clear hr
    obtain ⟨s, hs⟩ : ∃ x, x = (N + 1) % 256 := ⟨_, rfl⟩
    rw [← hs] at COf hbig ⊢
    clear hs
    have hw1 : IntKind.u32.wrap ((N : Int) + 1) = (N : Int) + 1 := by have := HNN.out; show ((N : Int) + 1) % 4294967296 = _; omega
    have HBIG := Lib.hid hbig
    have hne : Hid ((mp ++ [p, q, r, s]) ≠ (mp ++ [a, b, c, d])) := by
      intro h
      have h2 := congrArg (List.drop 12) h
      simp [mp] at h2
      obtain ⟨rfl, rfl, rfl, rfl⟩ := h2
      have h5 := HNe.out
      have h6 := HBIG.out
      omega
    have hqX : ∀ w, (Op.equalIn 10000 37 (.agg #[.int .u8 0, .int .u8 0, .int .u8 0, .int .u8 0, .int .u8 0, .int .u8 0, .int .u8 0, .int .u8 0, .int .u8 0, .int .u8 0, .int .u8 255, .int .u8 255, .int .u8 (p : Nat), .int .u8 (q : Nat), .int .u8 (r : Nat), .int .u8 (s : Nat)]) (.agg #[.int .u8 0, .int .u8 0, .int .u8 0, .int .u8 0, .int .u8 0, .int .u8 0, .int .u8 0, .int .u8 0, .int .u8 0, .int .u8 0, .int .u8 255, .int .u8 255, .int .u8 (a : Nat), .int .u8 (b : Nat), .int .u8 (c : Nat), .int .u8 (d : Nat)])).run Tryd.prog w = .ok false w := fun w => by
      have h := same_nat Tryd.underlying37 (mp ++ [p, q, r, s]) (mp ++ [a, b, c, d]) rfl rfl w
      rw [decide_eq_false hne.out] at h
      exact h
    have hq1 : same4 a b c d a b c d = true := by simp [same4]
    have hq2 : same4 p q r s p q r s = true := by simp [same4]
    have CMap : Hid (∀ w, Calls Tryd.prog 35 #[.agg #[.int .u8 p, .int .u8 q, .int .u8 r, .int .u8 s]] w fun e w' => e = .returned (.agg #[.int .u8 0, .int .u8 0, .int .u8 0, .int .u8 0, .int .u8 0, .int .u8 0, .int .u8 0, .int .u8 0, .int .u8 0, .int .u8 0, .int .u8 255, .int .u8 255, .int .u8 (p : Nat), .int .u8 (q : Nat), .int .u8 (r : Nat), .int .u8 (s : Nat)]) ∧ Below w.heap.size w w') := fun w => map_any [p, q, r, s] w rfl
    have CSort : Hid (∀ w, Calls Tryd.prog 33 #[.agg #[.int .u8 0, .int .u8 0, .int .u8 0, .int .u8 0, .int .u8 0, .int .u8 0, .int .u8 0, .int .u8 0, .int .u8 0, .int .u8 0, .int .u8 255, .int .u8 255, .int .u8 (a : Nat), .int .u8 (b : Nat), .int .u8 (c : Nat), .int .u8 (d : Nat)]] w fun e w' => e = .returned (.string ⟨#[102, 111, 117, 114]⟩) ∧ Below w.heap.size w w') := fun w => by
      have h := csort_any X w HM.out.len HM.out.lt
      rw [HM.out.sort, HM.out.is] at h
      exact h
    have K : Hid (ArrV 22 (w9.alloc (.cells #[.int .u8 p, .int .u8 q, .int .u8 r, .int .u8 s] 22)) w9.heap.size (bcells [p, q, r, s])) := ArrV.new _ w9 _
    have J := Lib.hid (WA.alloc J.out (.cells #[.int .u8 p, .int .u8 q, .int .u8 r, .int .u8 s] 22))
    clear hbig
    unfold quad at COf CNum ⊢
    go_upto_region 8 with fail
    generalize w9.alloc (.cells #[.int .u8 p, .int .u8 q, .int .u8 r, .int .u8 s] 22) = W9 at *
    generalize w9.heap.size = g9 at *
    refine wp_quiet_wa (C := WA9 w a b c d X g4 g6 g9 p q r s) (by kernel_rfl) (by kernel_rfl) ⟨J.out.drew, K.out.drew⟩ ?_
    go_big_quiet_want
    go_big_quiet_op
    first | go_big_quiet_on | (apply Exists.intro; refine ⟨fun w' hw' => rfl, ?_⟩; go_big_quiet_on)
    go_big_quiet_want
    go_big_quiet_op
    first | go_big_quiet_on | (apply Exists.intro; refine ⟨fun w' hw' => rfl, ?_⟩; go_big_quiet_on)
    go_big_quiet_want
    go_big_quiet_op
    first | go_big_quiet_on | (apply Exists.intro; refine ⟨fun w' hw' => rfl, ?_⟩; go_big_quiet_on)
    go_big_quiet_want
    go_big_quiet_op
    first | go_big_quiet_on | (apply Exists.intro; refine ⟨fun w' hw' => rfl, ?_⟩; go_big_quiet_on)
    go_big_quiet_want
    go_big_quiet_op
    first | go_big_quiet_on | (apply Exists.intro; refine ⟨fun w' hw' => rfl, ?_⟩; go_big_quiet_on)
    go_big_quiet_want
    go_big_quiet_op
    first | go_big_quiet_on | (apply Exists.intro; refine ⟨fun w' hw' => rfl, ?_⟩; go_big_quiet_on)
    go_big_quiet_want
    apply Exists.intro
    refine ⟨fun w' hw' => ?_, ?_⟩
    · exact quietAt_row rfl rfl ty4 (show ArrV _ w' g6 [.int .u8 (a : Nat), .int .u8 (b : Nat), .int .u8 (c : Nat), .int .u8 (d : Nat)] from hw'.1.four) rfl
    simp only [Act.put, List.setIfInBounds_toArray, List.set_cons_zero, List.set_cons_succ]
    go_big_quiet_on
    go_big_quiet_want
    apply Exists.intro
    refine ⟨fun w' hw' => ?_, ?_⟩
    · exact quietAt_row rfl rfl ty4 (show ArrV _ w' w.heap.size [.int .u8 (a : Nat), .int .u8 (b : Nat), .int .u8 (c : Nat), .int .u8 (d : Nat)] from hw'.1.box) rfl
    simp only [Act.put, List.setIfInBounds_toArray, List.set_cons_zero, List.set_cons_succ]
    go_big_quiet_on
    go_big_quiet_want
    go_big_quiet_op
    first | go_big_quiet_on | (apply Exists.intro; refine ⟨fun w' hw' => rfl, ?_⟩; go_big_quiet_on)
    go_big_quiet_want
    go_big_quiet_op
    first | go_big_quiet_on | (apply Exists.intro; refine ⟨fun w' hw' => rfl, ?_⟩; go_big_quiet_on)
    go_big_quiet_want
    go_big_quiet_op
    first | go_big_quiet_on | (apply Exists.intro; refine ⟨fun w' hw' => rfl, ?_⟩; go_big_quiet_on)
    go_big_quiet_want
    go_big_quiet_op
    first | go_big_quiet_on | (apply Exists.intro; refine ⟨fun w' hw' => rfl, ?_⟩; go_big_quiet_on)
    go_big_quiet_want
    apply Exists.intro
    refine ⟨fun w' hw' => ?_, ?_⟩
    · exact quietAt_row rfl rfl ty4 (show ArrV _ w' w.heap.size [.int .u8 (a : Nat), .int .u8 (b : Nat), .int .u8 (c : Nat), .int .u8 (d : Nat)] from hw'.1.box) rfl
    simp only [Act.put, List.setIfInBounds_toArray, List.set_cons_zero, List.set_cons_succ]
    go_big_quiet_on
    go_big_quiet_want
    go_big_quiet_op
    apply Exists.intro
    refine ⟨fun w' hw' => ?_, ?_⟩
    · refine (CNum.out _).mono ?_
      rintro e w'' ⟨rfl, hb⟩
      exact ⟨rfl, ⟨hw'.1.below hb, hw'.2.below hb⟩⟩
    go_big_quiet_on
    go_big_quiet_want
    go_big_quiet_op
    first | go_big_quiet_on | (apply Exists.intro; refine ⟨fun w' hw' => rfl, ?_⟩; go_big_quiet_on)
    go_big_quiet_want
    go_big_quiet_op
    first | go_big_quiet_on | (apply Exists.intro; refine ⟨fun w' hw' => rfl, ?_⟩; go_big_quiet_on)
    go_big_quiet_want
    go_big_quiet_op
    first | go_big_quiet_on | (apply Exists.intro; refine ⟨fun w' hw' => rfl, ?_⟩; go_big_quiet_on)
    go_big_quiet_want
    go_big_quiet_op
    first | go_big_quiet_on | (apply Exists.intro; refine ⟨fun w' hw' => rfl, ?_⟩; go_big_quiet_on)
    go_big_quiet_want
    go_big_quiet_op
    first | go_big_quiet_on | (apply Exists.intro; refine ⟨fun w' hw' => rfl, ?_⟩; go_big_quiet_on)
    go_big_quiet_want
    go_big_quiet_op
    apply Exists.intro
    refine ⟨fun w' hw' => ?_, ?_⟩
    · refine (COf.out _).mono ?_
      rintro e w'' ⟨rfl, hb⟩
      exact ⟨rfl, ⟨hw'.1.below hb, hw'.2.below hb⟩⟩
    go_big_quiet_on
    go_big_quiet_want
    apply Exists.intro
    refine ⟨fun w' hw' => ?_, ?_⟩
    · exact quietAt_row rfl rfl ty4 (show ArrV _ w' g9 [.int .u8 (p : Nat), .int .u8 (q : Nat), .int .u8 (r : Nat), .int .u8 (s : Nat)] from hw'.2) rfl
    simp only [Act.put, List.setIfInBounds_toArray, List.set_cons_zero, List.set_cons_succ]
    go_big_quiet_on
    go_big_quiet_want
    go_big_quiet_op
    first | go_big_quiet_on | (apply Exists.intro; refine ⟨fun w' hw' => rfl, ?_⟩; go_big_quiet_on)
    go_big_quiet_want
    go_big_quiet_op
    first | go_big_quiet_on | (apply Exists.intro; refine ⟨fun w' hw' => rfl, ?_⟩; go_big_quiet_on)
    go_big_quiet_want
    go_big_quiet_op
    first | go_big_quiet_on | (apply Exists.intro; refine ⟨fun w' hw' => rfl, ?_⟩; go_big_quiet_on)
    go_big_quiet_want
    apply Exists.intro
    refine ⟨fun w' hw' => ?_, ?_⟩
    · exact quietAt_row rfl rfl ty16 (show ArrV _ w' g4 [.int .u8 0, .int .u8 0, .int .u8 0, .int .u8 0, .int .u8 0, .int .u8 0, .int .u8 0, .int .u8 0, .int .u8 0, .int .u8 0, .int .u8 255, .int .u8 255, .int .u8 (a : Nat), .int .u8 (b : Nat), .int .u8 (c : Nat), .int .u8 (d : Nat)] from six_lit hw'.1.six HM.out.is) rfl
    simp only [Act.put, List.setIfInBounds_toArray, List.set_cons_zero, List.set_cons_succ]
    go_big_quiet_on
    go_big_quiet_want
    go_big_quiet_op
    apply Exists.intro
    refine ⟨fun w' hw' => ?_, ?_⟩
    · refine (CSort.out _).mono ?_
      rintro e w'' ⟨rfl, hb⟩
      exact ⟨rfl, ⟨hw'.1.below hb, hw'.2.below hb⟩⟩
    go_big_quiet_on
    go_big_quiet_want
    go_big_quiet_op
    first | go_big_quiet_on | (apply Exists.intro; refine ⟨fun w' hw' => rfl, ?_⟩; go_big_quiet_on)
    go_big_quiet_want
    go_big_quiet_op
    first | go_big_quiet_on | (apply Exists.intro; refine ⟨fun w' hw' => rfl, ?_⟩; go_big_quiet_on)
    go_big_quiet_want
    go_big_quiet_op
    first | go_big_quiet_on | (apply Exists.intro; refine ⟨fun w' hw' => rfl, ?_⟩; go_big_quiet_on)
    go_big_quiet_want
    apply Exists.intro
    refine ⟨fun w' hw' => ?_, ?_⟩
    · exact quietAt_row rfl rfl ty4 (show ArrV _ w' g9 [.int .u8 (p : Nat), .int .u8 (q : Nat), .int .u8 (r : Nat), .int .u8 (s : Nat)] from hw'.2) rfl
    simp only [Act.put, List.setIfInBounds_toArray, List.set_cons_zero, List.set_cons_succ]
    go_big_quiet_on
    go_big_quiet_want
    go_big_quiet_op
    apply Exists.intro
    refine ⟨fun w' hw' => ?_, ?_⟩
    · refine (CMap.out _).mono ?_
      rintro e w'' ⟨rfl, hb⟩
      exact ⟨rfl, ⟨hw'.1.below hb, hw'.2.below hb⟩⟩
    go_big_quiet_on
    go_big_quiet_want
    apply Exists.intro
    refine ⟨fun w' hw' => ?_, ?_⟩
    · exact quietAt_row rfl rfl ty16 (show ArrV _ w' g4 [.int .u8 0, .int .u8 0, .int .u8 0, .int .u8 0, .int .u8 0, .int .u8 0, .int .u8 0, .int .u8 0, .int .u8 0, .int .u8 0, .int .u8 255, .int .u8 255, .int .u8 (a : Nat), .int .u8 (b : Nat), .int .u8 (c : Nat), .int .u8 (d : Nat)] from six_lit hw'.1.six HM.out.is) rfl
    simp only [Act.put, List.setIfInBounds_toArray, List.set_cons_zero, List.set_cons_succ]
    go_big_quiet_on
    go_big_quiet_want
    go_big_quiet_op
    first | go_big_quiet_on | (apply Exists.intro; refine ⟨fun w' hw' => rfl, ?_⟩; go_big_quiet_on)
    go_big_quiet_want
    go_big_quiet_op
    first | go_big_quiet_on | (apply Exists.intro; refine ⟨fun w' hw' => rfl, ?_⟩; go_big_quiet_on)
    go_big_quiet_want
    go_big_quiet_op
    first | go_big_quiet_on | (apply Exists.intro; refine ⟨fun w' hw' => rfl, ?_⟩; go_big_quiet_on)
    refine wpQuiet_nil ?_
    intro W6 hw6
    have BB := Lib.hid hw6.1.bel
    clear hw6 J K hw1 hqX hq1 hq2
    go_wp2_with fail
    go_ret
    exact ⟨by rfl, BB.out⟩
theorem walk_WholeAddrs (zs : List Int) (w : World) (hT : Six w) (hn : zs.length = 4) (hz : ∀ z ∈ zs, (Lit.int .u8 z).wf = true) :
    Calls Tryd.prog 10 #[.agg (zs.map (Value.int .u8)).toArray] w fun e w' => e = .returned (.bool true) ∧ Below w.heap.size w w' := by
  obtain ⟨a, b, c, d, rfl, ha, hb, hc, hd⟩ := four_bytes hn hz
  exact waddrs a b c d w ha hb hc hd hT
end Go.Proofs.YtdeecobpglfgaaaDoor
