/-
  Contracts of ports' Write.
  The document's Read and Write of layer 13.
-/
import Derived.Test.YtmchclpkjjmocaaGreatPo2
import Derived.Test.YtmchclpkjjmocaaGreatJoin2
namespace Go.Proofs.YtmchclpkjjmocaaGreat
open Go.RowKit
set_option linter.unusedVariables false

/-- A header's bytes. -/
def poHead (p : Int) (src dst n : Nat) : List Nat :=
  [src / 256, src % 256, dst / 256, dst % 256] ++ (if p = 6 then [0, 0, 0, 0, 0, 0, 0, 0, 80, 0, 0, 0, 0, 0, 0, 0] else if p = 17 then [(8 + n) / 256, (8 + n) % 256, 0, 0] else [0, 0, 0, 0, 0, 0, 0, 0])
theorem poHead_byte (p : Int) (src dst n : Nat) (hs : src ≤ 65535) (hd : dst ≤ 65535) (hn : n ≤ 65527) : ∀ x ∈ poHead p src dst n, x < 256 := by
  intro x hx
  unfold poHead at hx
  rcases List.mem_append.1 hx with h | h
  · simp at h
    omega
  · split at h
    · simp at h
      omega
    · split at h
      · simp at h
        omega
      · simp at h
        omega
theorem poHead_len {p : Int} (h0 : poLeast p ≠ 0) (src dst n : Nat) : (poHead p src dst n).length = poLeast p := by
  unfold poLeast at h0 ⊢
  unfold poHead
  split
  · rfl
  · split
    · rfl
    · split
      · rfl
      · rename_i h1 h2 h3; rw [if_neg h1, if_neg h2, if_neg h3] at h0; exact absurd rfl h0
/-- Which error. -/
def poErr (p src dst : Int) (n : Nat) : Nat := if poLeast p = 0 then 10 else if spPort src = false ∨ spPort dst = false then 1 else if 65535 - poLeast p < n then 18 else 0
theorem spPort_nat {n : Int} (h : spPort n = true) : ∃ k : Nat, n = (k : Int) ∧ k ≤ 65535 := by
  have h := of_decide_eq_true h
  exact ⟨n.toNat, by omega, by omega⟩
end Go.Proofs.YtmchclpkjjmocaaGreat

namespace Go.Proofs.YtmchclpkjjmocaaGreat
open Go.RowKit
set_option linter.unusedVariables false

theorem rporead_any (p : Int) (A : Option Addr) (n c : Nat) (bs : List Nat) (first : Bool) (w : World) (hn2 : n ≤ 140737488355328) (hR : Row w A n bs) :
    Calls Tryz.prog 42 #[.int .i64 p, .slice A n c, .bool first] w (PoReadIs (poRead p n bs first) w) := by
  by_cases h0 : poLeast p = 0
  · have CL := Lib.hid (fun w => rpoleast_any p w)
    have hF : poRead p n bs first = (0, 0, 0) := by unfold poRead; rw [if_pos h0]
    rw [hF]
    rw [h0] at CL
    clear hF hR h0
    go_enter Tryz.func42, Tryz.ntmps42
    go_wp2_with fail
    refine (CL.out _).mono ?_
    rintro e w' ⟨rfl, rfl⟩
    go_wp2_with fail
    go_ret3
    exact ⟨rfl, 0, rfl⟩
  have hp : p = 6 ∨ p = 17 ∨ p = 132 := by
    unfold poLeast at h0
    by_cases h1 : p = 6
    · exact .inl h1
    · by_cases h2 : p = 17
      · exact .inr (.inl h2)
      · by_cases h3 : p = 132
        · exact .inr (.inr h3)
        · rw [if_neg h1, if_neg h2, if_neg h3] at h0; exact absurd rfl h0
  clear h0
  rcases hp with rfl | rfl | rfl
  · have CL : Hid (∀ w, Calls Tryz.prog 41 #[.int .i64 6] w fun e w' => e = .returned (.int .i64 20) ∧ w = w') := fun w => rpoleast_any 6 w
    by_cases h1 : n < 20
    · have hF : poRead 6 n bs first = (0, 0, 15) := by
        show (if n < 20 then (0, 0, 15) else _) = _
        rw [if_pos h1]
      rw [hF]
      have a1 : (n : Int) < 20 := by omega
      clear hF hR h1
      go_enter Tryz.func42, Tryz.ntmps42
      go_wp2_with fail
      refine (CL.out _).mono ?_
      rintro e w' ⟨rfl, rfl⟩
      go_wp2_with fail
      refine (CL.out _).mono ?_
      rintro e w' ⟨rfl, rfl⟩
      go_wp2_with fail
      go_ret3
      exact ⟨rfl, 0, rfl⟩
    · have a1 : ¬ (n : Int) < 20 := by omega
      have C0 := Lib.hid (fun w hR => rpotwo_any A n c 0 bs w (by omega) hn2 hR)
      have C2 := Lib.hid (fun w hR => rpotwo_any A n c 2 bs w (by omega) hn2 hR)
      have hF : poRead 6 n bs first = if poFits 6 n bs first = false then (0, 0, 16) else (fhw bs 0, fhw bs 2, 0) := by
        show (if n < 20 then (0, 0, 15) else _) = _
        rw [if_neg h1]
      rw [hF]
      clear hF
      generalize fhw bs 0 = y0 at *
      generalize fhw bs 2 = y2 at *
      have HR := Lib.hid hR
      obtain ⟨b, o, rfl, _, hcell⟩ := hR.addr (by omega)
      have c12 := hcell 12 (by omega)
      have x12 := hR.byte 12
      have HK : Hid (∀ q, (w.drewN q).cell? ⟨b, o + 12, none⟩ = some (.int .u8 (bs.getD 12 0 : Nat))) := fun q => c12
      have hF : poFits 6 n bs first = decide (20 ≤ 4 * (bs.getD 12 0 / 16) ∧ 4 * (bs.getD 12 0 / 16) ≤ n) := rfl
      rw [hF]
      generalize bs.getD 12 0 = x at *
      obtain ⟨y, hy⟩ : ∃ y, y = x / 16 := ⟨_, rfl⟩
      have yx : (x : Int) / 16 = (y : Int) := by omega
      have y16 : y < 16 := by omega
      rw [← hy]
      have n12 : (12 : Int) < (n : Int) := by omega
      have nI : (n : Int) ≤ 140737488355328 := by omega
      by_cases h5 : y < 5
      · have a2 : (y : Int) < 5 := by omega
        rw [if_pos (decide_eq_false fun h => by omega)]
        clear hF hR hcell h1 hn2 hy
        go_enter Tryz.func42, Tryz.ntmps42
        go_wp2_with fail
        refine (CL.out _).mono ?_
        rintro e w' ⟨rfl, rfl⟩
        go_wp2_with fail
        refine (CL.out _).mono ?_
        rintro e w' ⟨rfl, rfl⟩
        go_wp2_with fail
        go_ret3
        exact ⟨rfl, 0, rfl⟩
      · have a2 : ¬ (y : Int) < 5 := by omega
        by_cases h6 : n < 4 * y
        · have a3 : (n : Int) < 4 * (y : Int) := by omega
          rw [if_pos (decide_eq_false fun h => by omega)]
          clear hF hR hcell h1 hn2 hy h5 h6
          go_enter Tryz.func42, Tryz.ntmps42
          go_wp2_with fail
          refine (CL.out _).mono ?_
          rintro e w' ⟨rfl, rfl⟩
          go_wp2_with fail
          refine (CL.out _).mono ?_
          rintro e w' ⟨rfl, rfl⟩
          go_wp2_with fail
          go_ret3
          exact ⟨rfl, 0, rfl⟩
        · have a3 : ¬ (n : Int) < 4 * (y : Int) := by omega
          rw [if_neg (by rw [decide_eq_true (show 20 ≤ 4 * y ∧ 4 * y ≤ n from ⟨by omega, by omega⟩)]; simp)]
          clear hF hR hcell h1 hn2 hy h5 h6
          go_enter Tryz.func42, Tryz.ntmps42
          go_wp2_with fail
          refine (CL.out _).mono ?_
          rintro e w' ⟨rfl, rfl⟩
          go_wp2_with fail
          refine (CL.out _).mono ?_
          rintro e w' ⟨rfl, rfl⟩
          go_wp2_with fail
          refine (C0.out _ (HR.out)).mono ?_
          rintro e w' ⟨rfl, q1, rfl⟩
          go_wp2_with fail
          refine (C2.out _ (HR.out.drewN (q1))).mono ?_
          rintro e w' ⟨rfl, q2, rfl⟩
          go_wp2_with fail
          go_ret3
          exact ⟨rfl, _, rfl⟩
  · have CL : Hid (∀ w, Calls Tryz.prog 41 #[.int .i64 17] w fun e w' => e = .returned (.int .i64 8) ∧ w = w') := fun w => rpoleast_any 17 w
    by_cases h1 : n < 8
    · have hF : poRead 17 n bs first = (0, 0, 15) := by
        show (if n < 8 then (0, 0, 15) else _) = _
        rw [if_pos h1]
      rw [hF]
      have a1 : (n : Int) < 8 := by omega
      clear hF hR h1
      go_enter Tryz.func42, Tryz.ntmps42
      go_wp2_with fail
      refine (CL.out _).mono ?_
      rintro e w' ⟨rfl, rfl⟩
      go_wp2_with fail
      refine (CL.out _).mono ?_
      rintro e w' ⟨rfl, rfl⟩
      go_wp2_with fail
      go_ret3
      exact ⟨rfl, 0, rfl⟩
    · have a1 : ¬ (n : Int) < 8 := by omega
      have C0 := Lib.hid (fun w hR => rpotwo_any A n c 0 bs w (by omega) hn2 hR)
      have C2 := Lib.hid (fun w hR => rpotwo_any A n c 2 bs w (by omega) hn2 hR)
      have hF : poRead 17 n bs first = if poFits 17 n bs first = false then (0, 0, 16) else (fhw bs 0, fhw bs 2, 0) := by
        show (if n < 8 then (0, 0, 15) else _) = _
        rw [if_neg h1]
      rw [hF]
      clear hF
      generalize fhw bs 0 = y0 at *
      generalize fhw bs 2 = y2 at *
      have HR := Lib.hid hR
      have C4 := Lib.hid (fun w hR => rpotwo_any A n c 4 bs w (by omega) hn2 hR)
      have hF : poFits 17 n bs first = decide (8 ≤ fhw bs 4 ∧ (first = true ∨ fhw bs 4 ≤ n)) := rfl
      rw [hF]
      have hy16 := fhw_lt hR.byte 4
      generalize fhw bs 4 = y at *
      by_cases h5 : y < 8
      · have a2 : (y : Int) < 8 := by omega
        rw [if_pos (decide_eq_false fun h => by omega)]
        clear hF hR h1 hn2
        go_enter Tryz.func42, Tryz.ntmps42
        go_wp2_with fail
        refine (CL.out _).mono ?_
        rintro e w' ⟨rfl, rfl⟩
        go_wp2_with fail
        refine (CL.out _).mono ?_
        rintro e w' ⟨rfl, rfl⟩
        go_wp2_with fail
        refine (C4.out _ HR.out).mono ?_
        rintro e w' ⟨rfl, q0, rfl⟩
        go_wp2_with fail
        go_ret3
        exact ⟨rfl, q0, rfl⟩
      · have a2 : ¬ (y : Int) < 8 := by omega
        by_cases h6 : n < y
        · have a3 : (n : Int) < (y : Int) := by omega
          cases first with
          | true =>
            rw [if_neg (by rw [decide_eq_true (show 8 ≤ y ∧ (true = true ∨ y ≤ n) from ⟨by omega, .inl rfl⟩)]; simp)]
            clear hF hR h1 hn2 h5
            go_enter Tryz.func42, Tryz.ntmps42
            go_wp2_with fail
            refine (CL.out _).mono ?_
            rintro e w' ⟨rfl, rfl⟩
            go_wp2_with fail
            refine (CL.out _).mono ?_
            rintro e w' ⟨rfl, rfl⟩
            go_wp2_with fail
            refine (C4.out _ HR.out).mono ?_
            rintro e w' ⟨rfl, q0, rfl⟩
            go_wp2_with fail
            refine (C0.out _ (HR.out.drewN q0)).mono ?_
            rintro e w' ⟨rfl, q1, rfl⟩
            go_wp2_with fail
            refine (C2.out _ (HR.out.drewN (q0 + q1))).mono ?_
            rintro e w' ⟨rfl, q2, rfl⟩
            go_wp2_with fail
            go_ret3
            exact ⟨rfl, _, rfl⟩
          | false =>
            rw [if_pos (decide_eq_false fun h => by rcases h.2 with h2 | h2; cases h2; omega)]
            clear hF hR h1 hn2 h5
            go_enter Tryz.func42, Tryz.ntmps42
            go_wp2_with fail
            refine (CL.out _).mono ?_
            rintro e w' ⟨rfl, rfl⟩
            go_wp2_with fail
            refine (CL.out _).mono ?_
            rintro e w' ⟨rfl, rfl⟩
            go_wp2_with fail
            refine (C4.out _ HR.out).mono ?_
            rintro e w' ⟨rfl, q0, rfl⟩
            go_wp2_with fail
            go_ret3
            exact ⟨rfl, q0, rfl⟩
        · have a3 : ¬ (n : Int) < (y : Int) := by omega
          rw [if_neg (by rw [decide_eq_true (show 8 ≤ y ∧ (first = true ∨ y ≤ n) from ⟨by omega, .inr (by omega)⟩)]; simp)]
          clear hF hR h1 hn2 h5
          go_enter Tryz.func42, Tryz.ntmps42
          go_wp2_with fail
          refine (CL.out _).mono ?_
          rintro e w' ⟨rfl, rfl⟩
          go_wp2_with fail
          refine (CL.out _).mono ?_
          rintro e w' ⟨rfl, rfl⟩
          go_wp2_with fail
          refine (C4.out _ HR.out).mono ?_
          rintro e w' ⟨rfl, q0, rfl⟩
          go_wp2_with fail
          refine (C0.out _ (HR.out.drewN q0)).mono ?_
          rintro e w' ⟨rfl, q1, rfl⟩
          go_wp2_with fail
          refine (C2.out _ (HR.out.drewN (q0 + q1))).mono ?_
          rintro e w' ⟨rfl, q2, rfl⟩
          go_wp2_with fail
          go_ret3
          exact ⟨rfl, _, rfl⟩
  · have CL : Hid (∀ w, Calls Tryz.prog 41 #[.int .i64 132] w fun e w' => e = .returned (.int .i64 12) ∧ w = w') := fun w => rpoleast_any 132 w
    by_cases h1 : n < 12
    · have hF : poRead 132 n bs first = (0, 0, 15) := by
        show (if n < 12 then (0, 0, 15) else _) = _
        rw [if_pos h1]
      rw [hF]
      have a1 : (n : Int) < 12 := by omega
      clear hF hR h1
      go_enter Tryz.func42, Tryz.ntmps42
      go_wp2_with fail
      refine (CL.out _).mono ?_
      rintro e w' ⟨rfl, rfl⟩
      go_wp2_with fail
      refine (CL.out _).mono ?_
      rintro e w' ⟨rfl, rfl⟩
      go_wp2_with fail
      go_ret3
      exact ⟨rfl, 0, rfl⟩
    · have a1 : ¬ (n : Int) < 12 := by omega
      have C0 := Lib.hid (fun w hR => rpotwo_any A n c 0 bs w (by omega) hn2 hR)
      have C2 := Lib.hid (fun w hR => rpotwo_any A n c 2 bs w (by omega) hn2 hR)
      have hF : poRead 132 n bs first = if poFits 132 n bs first = false then (0, 0, 16) else (fhw bs 0, fhw bs 2, 0) := by
        show (if n < 12 then (0, 0, 15) else _) = _
        rw [if_neg h1]
      rw [hF]
      clear hF
      generalize fhw bs 0 = y0 at *
      generalize fhw bs 2 = y2 at *
      have HR := Lib.hid hR
      have hF : poFits 132 n bs first = true := rfl
      rw [if_neg (by rw [hF]; simp)]
      clear hF hR h1 hn2
      go_enter Tryz.func42, Tryz.ntmps42
      go_wp2_with fail
      refine (CL.out _).mono ?_
      rintro e w' ⟨rfl, rfl⟩
      go_wp2_with fail
      refine (CL.out _).mono ?_
      rintro e w' ⟨rfl, rfl⟩
      go_wp2_with fail
      refine (C0.out _ (HR.out)).mono ?_
      rintro e w' ⟨rfl, q1, rfl⟩
      go_wp2_with fail
      refine (C2.out _ (HR.out.drewN (q1))).mono ?_
      rintro e w' ⟨rfl, q2, rfl⟩
      go_wp2_with fail
      go_ret3
      exact ⟨rfl, _, rfl⟩
end Go.Proofs.YtmchclpkjjmocaaGreat
