/-
  Contracts of ports' Least, word, fits, Read, and of the document's Least, two, Read.
-/
import Derived.Test.YtmchclpkjjmocaaGreatFh1
namespace Go.Proofs.YtmchclpkjjmocaaGreat
open Go.RowKit
set_option linter.unusedVariables false

/-- How many bytes a header has at least. -/
def poLeast (p : Int) : Nat := if p = 6 then 20 else if p = 17 then 8 else if p = 132 then 12 else 0
theorem poLeast_le (p : Int) : poLeast p ≤ 20 := by
  unfold poLeast
  split
  · omega
  · split
    · omega
    · split <;> omega
theorem poleast_any (p : Int) (w : World) :
    Calls Tryz.prog 73 #[.int .i64 p] w fun e w' => e = .returned (.int .i64 (poLeast p : Nat)) ∧ w = w' := by
  by_cases h0 : p = 6
  · subst h0
    go_enter Tryz.func73, Tryz.ntmps73
    go_wp2_with fail
    go_ret
    exact ⟨rfl, rfl⟩
  have b0 : (p == 6) = false := beq_false_of_ne h0
  by_cases h1 : p = 132
  · subst h1
    go_enter Tryz.func73, Tryz.ntmps73
    go_wp2_with fail
    go_ret
    exact ⟨rfl, rfl⟩
  have b1 : (p == 132) = false := beq_false_of_ne h1
  by_cases h2 : p = 17
  · subst h2
    go_enter Tryz.func73, Tryz.ntmps73
    go_wp2_with fail
    go_ret
    exact ⟨rfl, rfl⟩
  have b2 : (p == 17) = false := beq_false_of_ne h2
  have hF : poLeast p = 0 := by unfold poLeast; rw [if_neg h0, if_neg h2, if_neg h1]
  rw [hF]
  clear hF
  go_enter Tryz.func73, Tryz.ntmps73
  go_wp2_with fail
  go_ret
  exact ⟨rfl, rfl⟩
theorem rpoleast_any (p : Int) (w : World) :
    Calls Tryz.prog 41 #[.int .i64 p] w fun e w' => e = .returned (.int .i64 (poLeast p : Nat)) ∧ w = w' := by
  by_cases h0 : p = 6
  · subst h0
    go_enter Tryz.func41, Tryz.ntmps41
    go_wp2_with fail
    go_ret
    exact ⟨rfl, rfl⟩
  have b0 : (p == 6) = false := beq_false_of_ne h0
  by_cases h2 : p = 17
  · subst h2
    go_enter Tryz.func41, Tryz.ntmps41
    go_wp2_with fail
    go_ret
    exact ⟨rfl, rfl⟩
  have b2 : (p == 17) = false := beq_false_of_ne h2
  by_cases h1 : p = 132
  · subst h1
    go_enter Tryz.func41, Tryz.ntmps41
    go_wp2_with fail
    go_ret
    exact ⟨rfl, rfl⟩
  have b1 : (p == 132) = false := beq_false_of_ne h1
  have hF : poLeast p = 0 := by unfold poLeast; rw [if_neg h0, if_neg h2, if_neg h1]
  rw [hF]
  clear hF
  go_enter Tryz.func41, Tryz.ntmps41
  go_wp2_with fail
  go_ret
  exact ⟨rfl, rfl⟩
theorem poword_any (A : Option Addr) (n c k : Nat) (bs : List Nat) (w : World) (hk : k + 2 ≤ n) (hn2 : n ≤ 140737488355328) (hc : n ≤ c) (hR : Row w A n bs) :
    Calls Tryz.prog 95 #[.slice A n c, .int .i64 k] w fun e w' => e = .returned (.int .i64 (fhw bs k : Nat)) ∧ w = w' := by
  have C := Lib.hid (fun w hR => get_ok A n c k 2 bs w (by omega) hc (by decide) (by decide) hk hR)
  rw [be_two bs k (by rw [hR.1]; exact hk)] at C
  have hx := fhw_lt hR.byte k
  have E : bs.getD k 0 * 256 + bs.getD (k + 1) 0 = fhw bs k := rfl
  rw [E] at C
  clear E
  generalize fhw bs k = x at *
  have HR := Lib.hid hR
  clear hR hk hn2 hc
  go_enter Tryz.func95, Tryz.ntmps95
  go_wp2_with fail
  refine (C.out _ HR.out).mono ?_
  rintro e w' ⟨rfl, rfl⟩
  go_wp2_with fail
  go_ret
  exact ⟨rfl, rfl⟩
theorem rpotwo_any (A : Option Addr) (n c k : Nat) (bs : List Nat) (w : World) (hk : k + 2 ≤ n) (hn2 : n ≤ 140737488355328) (hR : Row w A n bs) :
    Calls Tryz.prog 62 #[.slice A n c, .int .i64 k] w fun e w' => e = .returned (.int .i64 (fhw bs k : Nat)) ∧ ∃ q, w' = w.drewN q := by
  obtain ⟨b, o, rfl, _, hcell⟩ := hR.addr (by omega)
  have c0 := hcell k (by omega)
  have c1 := hcell (k + 1) (by omega)
  have x0 := hR.byte k
  have x1 := hR.byte (k + 1)
  have E : fhw bs k = bs.getD k 0 * 256 + bs.getD (k + 1) 0 := rfl
  rw [E]
  generalize bs.getD k 0 = x at *
  generalize bs.getD (k + 1) 0 = y at *
  have k1 : wrap64 ((k : Int) + 1) = ((k + 1 : Nat) : Int) := by unfold wrap64; omega
  have k2 : IntKind.i64.wrap ((k : Int) + 1) = ((k + 1 : Nat) : Int) := by rw [IntKind.wrap_i64]; omega
  have i1 : (k : Int) < (n : Int) := by omega
  have i2 : ((k + 1 : Nat) : Int) < (n : Int) := by omega
  have z1 : IntKind.i64.wrap (x : Int) = (x : Int) := IntWalk.i64_in _ (by omega)
  have z2 : IntKind.i64.wrap (y : Int) = (y : Int) := IntWalk.i64_in _ (by omega)
  have z3 : IntKind.i64.wrap ((x : Int) * 256) = ((x * 256 : Nat) : Int) := by rw [IntWalk.i64_in _ (by omega)]; omega
  have z4 : IntKind.i64.wrap (((x * 256 : Nat) : Int) + (y : Int)) = ((x * 256 + y : Nat) : Int) := by rw [IntWalk.i64_in _ (by omega)]; omega
  clear hR hcell E hk hn2
  go_enter Tryz.func62, Tryz.ntmps62
  go_upto_region 1 with fail
  go_quiet (fail)
  go_wp2_with fail
  go_ret
  exact ⟨rfl, nq, rfl⟩
/-- Whether the length in a header is right for its payload. -/
def poFits (p : Int) (n : Nat) (bs : List Nat) (first : Bool) : Bool :=
  if p = 6 then decide (20 ≤ 4 * (bs.getD 12 0 / 16) ∧ 4 * (bs.getD 12 0 / 16) ≤ n) else if p = 17 then decide (8 ≤ fhw bs 4 ∧ (first = true ∨ fhw bs 4 ≤ n)) else true
theorem pofits_any (p : Int) (A : Option Addr) (n c : Nat) (bs : List Nat) (first : Bool) (w : World) (hl : poLeast p ≤ n) (hn2 : n ≤ 140737488355328) (hc : n ≤ c) (hR : Row w A n bs) :
    Calls Tryz.prog 94 #[.int .i64 p, .slice A n c, .bool first] w (Quiet (.bool (poFits p n bs first)) w) := by
  by_cases h0 : p = 6
  · subst h0
    have hl : 20 ≤ n := hl
    obtain ⟨b, o, rfl, _, hcell⟩ := hR.addr (by omega)
    have c12 := hcell 12 (by omega)
    have x12 := hR.byte 12
    have hF : poFits 6 n bs first = decide (20 ≤ 4 * (bs.getD 12 0 / 16) ∧ 4 * (bs.getD 12 0 / 16) ≤ n) := rfl
    rw [hF]
    generalize bs.getD 12 0 = x at *
    obtain ⟨y, hy⟩ : ∃ y, y = x / 16 := ⟨_, rfl⟩
    have yx : (x : Int) / 16 = (y : Int) := by omega
    have y16 : y < 16 := by omega
    rw [← hy]
    have CL : Hid (∀ w, Calls Tryz.prog 73 #[.int .i64 6] w fun e w' => e = .returned (.int .i64 20) ∧ w = w') := fun w => poleast_any 6 w
    have n12 : (12 : Int) < (n : Int) := by omega
    have nI : (n : Int) ≤ 140737488355328 := by omega
    by_cases h1 : 5 ≤ y
    · have a1 : (20 : Int) ≤ 4 * (y : Int) := by omega
      by_cases h2 : 4 * y ≤ n
      · have a2 : 4 * (y : Int) ≤ (n : Int) := by omega
        rw [decide_eq_true ⟨by omega, h2⟩]
        clear hR hcell hF hl hy h1 h2 hn2
        go_enter Tryz.func94, Tryz.ntmps94
        go_wp2_with fail
        refine (CL.out _).mono ?_
        rintro e w' ⟨rfl, rfl⟩
        go_wp2_with fail
        go_ret
        exact ⟨rfl, 0, rfl⟩
      · have a2 : ¬ 4 * (y : Int) ≤ (n : Int) := by omega
        rw [decide_eq_false (fun h => h2 h.2)]
        clear hR hcell hF hl hy h1 h2 hn2
        go_enter Tryz.func94, Tryz.ntmps94
        go_wp2_with fail
        refine (CL.out _).mono ?_
        rintro e w' ⟨rfl, rfl⟩
        go_wp2_with fail
        go_ret
        exact ⟨by simp; omega, 0, rfl⟩
    · have a1 : ¬ (20 : Int) ≤ 4 * (y : Int) := by omega
      rw [decide_eq_false (fun h => h1 (by omega))]
      clear hR hcell hF hl hy h1 hn2
      go_enter Tryz.func94, Tryz.ntmps94
      go_wp2_with fail
      refine (CL.out _).mono ?_
      rintro e w' ⟨rfl, rfl⟩
      go_wp2_with fail
      go_ret
      exact ⟨rfl, 0, rfl⟩
  have b0 : (p == 6) = false := beq_false_of_ne h0
  by_cases h1 : p = 17
  · subst h1
    have hl : 8 ≤ n := hl
    have hF : poFits 17 n bs first = decide (8 ≤ fhw bs 4 ∧ (first = true ∨ fhw bs 4 ≤ n)) := rfl
    rw [hF]
    have C := Lib.hid (fun w hR => poword_any A n c 4 bs w (by omega) hn2 hc hR)
    generalize fhw bs 4 = y at *
    have CL : Hid (∀ w, Calls Tryz.prog 73 #[.int .i64 17] w fun e w' => e = .returned (.int .i64 8) ∧ w = w') := fun w => poleast_any 17 w
    have HR := Lib.hid hR
    by_cases h1 : 8 ≤ y
    · have a1 : (8 : Int) ≤ (y : Int) := by omega
      cases first with
      | true =>
        rw [decide_eq_true ⟨h1, .inl rfl⟩]
        clear hR hF hl h1 hn2 hc
        go_enter Tryz.func94, Tryz.ntmps94
        go_wp2_with fail
        refine (C.out _ HR.out).mono ?_
        rintro e w' ⟨rfl, rfl⟩
        go_wp2_with fail
        refine (CL.out _).mono ?_
        rintro e w' ⟨rfl, rfl⟩
        go_wp2_with fail
        go_ret
        exact ⟨rfl, 0, rfl⟩
      | false =>
        by_cases h2 : y ≤ n
        · have a2 : (y : Int) ≤ (n : Int) := by omega
          rw [decide_eq_true ⟨h1, .inr h2⟩]
          clear hR hF hl h1 hn2 hc h2
          go_enter Tryz.func94, Tryz.ntmps94
          go_wp2_with fail
          refine (C.out _ HR.out).mono ?_
          rintro e w' ⟨rfl, rfl⟩
          go_wp2_with fail
          refine (CL.out _).mono ?_
          rintro e w' ⟨rfl, rfl⟩
          go_wp2_with fail
          go_ret
          exact ⟨rfl, 0, rfl⟩
        · have a2 : ¬ (y : Int) ≤ (n : Int) := by omega
          rw [decide_eq_false (fun h => h2 (h.2.resolve_left (by simp)))]
          clear hR hF hl h1 hn2 hc h2
          go_enter Tryz.func94, Tryz.ntmps94
          go_wp2_with fail
          refine (C.out _ HR.out).mono ?_
          rintro e w' ⟨rfl, rfl⟩
          go_wp2_with fail
          refine (CL.out _).mono ?_
          rintro e w' ⟨rfl, rfl⟩
          go_wp2_with fail
          go_ret
          exact ⟨by simp; omega, 0, rfl⟩
    · have a1 : ¬ (8 : Int) ≤ (y : Int) := by omega
      rw [decide_eq_false (fun h => h1 h.1)]
      clear hR hF hl h1 hn2 hc
      go_enter Tryz.func94, Tryz.ntmps94
      go_wp2_with fail
      refine (C.out _ HR.out).mono ?_
      rintro e w' ⟨rfl, rfl⟩
      go_wp2_with fail
      refine (CL.out _).mono ?_
      rintro e w' ⟨rfl, rfl⟩
      go_wp2_with fail
      go_ret
      exact ⟨rfl, 0, rfl⟩
  have b1 : (p == 17) = false := beq_false_of_ne h1
  have hF : poFits p n bs first = true := by unfold poFits; rw [if_neg h0, if_neg h1]
  rw [hF]
  clear hF hR hl
  go_enter Tryz.func94, Tryz.ntmps94
  go_wp2_with fail
  go_ret
  exact ⟨rfl, 0, rfl⟩
/-- What Read tells: the ports and the defect. -/
def poRead (p : Int) (n : Nat) (bs : List Nat) (first : Bool) : Nat × Nat × Nat :=
  if poLeast p = 0 then (0, 0, 0) else if n < poLeast p then (0, 0, 15) else if poFits p n bs first = false then (0, 0, 16) else (fhw bs 0, fhw bs 2, 0)
def PoReadIs (r : Nat × Nat × Nat) (w : World) (e : Ending) (w' : World) : Prop := Quiet (.tuple #[.int .i64 (r.1 : Nat), .int .i64 (r.2.1 : Nat), .int .i64 (r.2.2 : Nat)]) w e w'
theorem poread_any (p : Int) (A : Option Addr) (n c : Nat) (bs : List Nat) (first : Bool) (w : World) (hn2 : n ≤ 140737488355328) (hc : n ≤ c) (hR : Row w A n bs) :
    Calls Tryz.prog 74 #[.int .i64 p, .slice A n c, .bool first] w (PoReadIs (poRead p n bs first) w) := by
  have CL := Lib.hid (fun w => poleast_any p w)
  have hll := poLeast_le p
  by_cases h0 : poLeast p = 0
  · have hF : poRead p n bs first = (0, 0, 0) := by unfold poRead; rw [if_pos h0]
    rw [hF]
    rw [h0] at CL
    clear hF hR hll h0
    go_enter Tryz.func74, Tryz.ntmps74
    go_wp2_with fail
    refine (CL.out _).mono ?_
    rintro e w' ⟨rfl, rfl⟩
    go_wp2_with fail
    go_ret3
    exact ⟨rfl, 0, rfl⟩
  have l8 : 8 ≤ poLeast p := by
    unfold poLeast at h0 ⊢
    split
    · omega
    · split
      · omega
      · split
        · omega
        · rename_i h1 h2 h3; rw [if_neg h1, if_neg h2, if_neg h3] at h0; exact absurd rfl h0
  have CF := Lib.hid (fun w h hR => pofits_any p A n c bs first w h hn2 hc hR)
  unfold Quiet at CF
  have HU : Hid (poRead p n bs first = if n < poLeast p then (0, 0, 15) else if poFits p n bs first = false then (0, 0, 16) else (fhw bs 0, fhw bs 2, 0)) := by show _ = _; unfold poRead; rw [if_neg h0]
  rw [HU.out]
  clear HU
  generalize poLeast p = l at *
  have l0 : ((l : Int) == 0) = false := beq_false_of_ne (by omega)
  by_cases h1 : n < l
  · have a1 : (n : Int) < (l : Int) := by omega
    rw [if_pos h1]
    clear hR hll h0 l8 h1 hc hn2
    go_enter Tryz.func74, Tryz.ntmps74
    go_wp2_with fail
    refine (CL.out _).mono ?_
    rintro e w' ⟨rfl, rfl⟩
    go_wp2_with fail
    go_ret3
    exact ⟨rfl, 0, rfl⟩
  have a1 : ¬ (n : Int) < (l : Int) := by omega
  have HL : Hid (l ≤ n) := Nat.le_of_not_lt h1
  have HR := Lib.hid hR
  rw [if_neg h1]
  have C0 := Lib.hid (fun w hR => poword_any A n c 0 bs w (by omega) hn2 hc hR)
  have C2 := Lib.hid (fun w hR => poword_any A n c 2 bs w (by omega) hn2 hc hR)
  generalize fhw bs 0 = y0 at *
  generalize fhw bs 2 = y2 at *
  cases hf : poFits p n bs first with
  | false =>
    rw [hf] at CF
    rw [if_pos rfl]
    clear hR hll h0 l8 h1 hc hn2 hf
    go_enter Tryz.func74, Tryz.ntmps74
    go_wp2_with fail
    refine (CL.out _).mono ?_
    rintro e w' ⟨rfl, rfl⟩
    go_wp2_with fail
    refine (CF.out _ HL.out HR.out).mono ?_
    rintro e w' ⟨rfl, q, rfl⟩
    go_wp2_with fail
    go_ret3
    exact ⟨rfl, q, rfl⟩
  | true =>
    rw [hf] at CF
    rw [if_neg (by simp)]
    clear hR hll h0 l8 h1 hc hn2 hf
    go_enter Tryz.func74, Tryz.ntmps74
    go_wp2_with fail
    refine (CL.out _).mono ?_
    rintro e w' ⟨rfl, rfl⟩
    go_wp2_with fail
    refine (CF.out _ HL.out HR.out).mono ?_
    rintro e w' ⟨rfl, q, rfl⟩
    go_wp2_with fail
    refine (C0.out _ (HR.out.drewN q)).mono ?_
    rintro e w' ⟨rfl, rfl⟩
    go_wp2_with fail
    refine (C2.out _ (HR.out.drewN q)).mono ?_
    rintro e w' ⟨rfl, rfl⟩
    go_wp2_with fail
    go_ret3
    exact ⟨rfl, q, rfl⟩
end Go.Proofs.YtmchclpkjjmocaaGreat
