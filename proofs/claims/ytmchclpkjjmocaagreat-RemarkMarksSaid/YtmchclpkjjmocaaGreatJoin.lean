/-
  The contract of the document's Join: bytes one behind the other, in new memory.
-/
import Derived.Test.YtmchclpkjjmocaaGreatOwn
namespace Go.Proofs.YtmchclpkjjmocaaGreat
open Go.RowKit
set_option linter.unusedVariables false

/-- A slice that came in: its address, length, capacity, and bytes. -/
structure Piece where
  a : Option Addr
  n : Nat
  c : Nat
  bs : List Nat
def Piece.val (p : Piece) : Value := .slice p.a p.n p.c
/-- The pieces lie in block g, one a cell, and each reads as its bytes. -/
def Pieces (w : World) (g : Nat) (ps : List Piece) : Prop :=
  ∀ i, i < ps.length → ∃ p, ps[i]? = some p ∧ w.cell? ⟨g, i, none⟩ = some p.val ∧ Row w p.a p.n p.bs ∧ p.n ≤ 140737488355328
def flat (ps : List Piece) : List Nat := ps.flatMap Piece.bs
theorem Pieces.below {w w' : World} {g : Nat} {ps : List Piece} (h : Pieces w g ps) (hb : Below w.heap.size w w') : Pieces w' g ps := fun i hi => by
  obtain ⟨p, h1, h2, h3, h4⟩ := h i hi
  exact ⟨p, h1, (hb.cell (cell_lt h2)).trans h2, h3.below hb, h4⟩
theorem flat_succ {ps : List Piece} {i : Nat} {p : Piece} (h : ps[i]? = some p) : flat (ps.take (i + 1)) = flat (ps.take i) ++ p.bs := by
  obtain ⟨hi, he⟩ := List.getElem?_eq_some_iff.1 h
  rw [List.take_succ_eq_append_getElem hi, he]
  simp [flat]
theorem flat_le {ps : List Piece} {i : Nat} {p : Piece} (h : ps[i]? = some p) : (flat (ps.take i)).length + p.bs.length ≤ (flat ps).length := by
  have h1 := flat_succ h
  have h2 : flat ps = flat (ps.take (i + 1)) ++ flat (ps.drop (i + 1)) := by
    unfold flat
    rw [← List.flatMap_append, List.take_append_drop]
  rw [h2, h1]
  simp
  
theorem join_any (g : Nat) (c : Nat) (ps : List Piece) (w : World) (hN : ps.length ≤ 140737488355328) (hT : (flat ps).length ≤ 140737488355328) (hp : Pieces w g ps) (N : Nat) (hlen : Hid (ps.length = N)) :
    Calls Tryz.prog 4 #[.slice (some ⟨g, 0, none⟩) N c] w fun e w' => ∃ v, e = .returned v ∧ OutIs w.heap.size w' v (flat ps) ∧ Below w.heap.size w w' := by
  have hN' : N ≤ 140737488355328 := by rw [← hlen.out]; exact hN
  have HT := Lib.hid hT
  have HP := Lib.hid hp
  clear hT hp hN
  go_enter Tryz.func4, Tryz.ntmps4
  go_wp2
  go_loopw [3, 4] (fun v i wr => ∃ k : Nat, k ≤ N ∧ i = .int .i64 k ∧ OutIs w.heap.size wr v (flat (ps.take k)) ∧ Below w.heap.size w wr) (fun _ i _ => N - (intOf i).toNat)
  case atStart => exact ⟨0, Nat.zero_le _, rfl, OutIs.nil _ _, Below.refl _ _⟩
  case round =>
    obtain ⟨k, hk, rfl, hown, hb⟩ := hrel
    by_cases hlt : k < N
    · obtain ⟨p, hpk, hcell, hrow, hpn⟩ := HP.out k (by rw [hlen.out]; exact hlt)
      obtain ⟨a, n, cp, bs⟩ := p
      simp only [Piece.val] at hcell hrow hpn
      obtain ⟨wo, rfl⟩ : ∃ wo : World, wo = wr := ⟨_, rfl⟩
      have HS := Lib.hid (flat_succ hpk)
      have HL := Lib.hid (flat_le hpk)
      have HR := Lib.hid hrow
      have HC := Lib.hid hcell
      have hbl := Lib.hid hrow.1
      have hown' : OutIs w.heap.size wo u3 (flat (ps.take k) ++ bs.take 0) := by rw [List.take_zero, List.append_nil]; exact hown
      clear hpk hrow hown hcell
      have HX := Lib.hid HT.out
      generalize flat (ps.take k) = pre at *
      go_wp2
      go_loopw [3, 5] (fun v i wr => ∃ j : Nat, j ≤ n ∧ i = .int .i64 j ∧ OutIs w.heap.size wr v (pre ++ bs.take j) ∧ Below w.heap.size w wr) (fun _ i _ => n - (intOf i).toNat)
      case atStart => exact ⟨0, Nat.zero_le _, rfl, hown', hb⟩
      case round =>
        clear hown' hb
        obtain ⟨j, hj, rfl, hown2, hb2⟩ := hrel
        have hcg := (hb2.cell (p := ⟨g, k, none⟩) (cell_lt HC.out)).trans HC.out
        by_cases hlt2 : j < n
        · obtain ⟨b, o, rfl, hbw, hcw⟩ := HR.out.addr (by omega)
          have hcx := (hb2.cell (p := ⟨b, o + j, none⟩) hbw).trans (hcw j hlt2)
          have hst : bs.take (j + 1) = bs.take j ++ [bs.getD j 0] := take_succ_getD bs j (by rw [hbl.out]; exact hlt2)
          have hlen3 : (pre ++ bs.take j).length + 1 ≤ 140737488355328 := by
            have h1 := HL.out
            have h2 := HX.out
            have h3 := hbl.out
            simp only [List.length_append, List.length_take] at *
            omega
          have hst := Lib.hid hst
          clear hcw
          generalize bs.getD j 0 = x at *
          have H2 := Lib.hid hown2
          have HB2 := Lib.hid hb2
          have HL3 := Lib.hid hlen3
          clear hown2 hb2 hlen3
          go_wp2_with (at_builtin; refine wpList_append_bytes rfl (.tmp 21) (.tmp 29) rfl (news := [x]) #[.int .u8 (x : Nat)] 1 rfl rfl rfl rfl H2.out HB2.out HB2.out.size HL3.out ?_; intro v' w' hown3 hb3)
          have hown3 : OutIs w.heap.size w' v' (pre ++ bs.take (j + 1)) := by rw [hst.out, ← List.append_assoc]; exact hown3
          go_roundw
          case rel => exact ⟨j + 1, by omega, by go_num, hown3, hb3⟩
          case measure => simp [intOf]; omega
        · have hj' : j = n := by omega
          subst hj'
          have hown3 : OutIs w.heap.size wr u3 (pre ++ bs) := by rw [List.take_of_length_le (by rw [hbl.out]; exact Nat.le_refl _)] at hown2; exact hown2
          go_wp2
          go_roundw
          case rel => exact ⟨k + 1, by omega, by go_num, by rw [HS.out]; exact hown3, hb2⟩
          case measure => simp [intOf]; omega
    · have hk' : k = N := by omega
      subst hk'
      have hown3 : OutIs w.heap.size wr u3 (flat ps) := by rw [List.take_of_length_le (by rw [hlen.out]; exact Nat.le_refl _)] at hown; exact hown
      go_wp2
      go_ret
      exact ⟨_, rfl, hown3, hb⟩

/-- Join of one slice: a copy. -/
theorem join_one (g n cap c : Nat) (A : Option Addr) (bs : List Nat) (w : World) (hn : n ≤ 140737488355328) (hA : Row w A n bs) (hc : w.cell? ⟨g, 0, none⟩ = some (.slice A n cap)) :
    Calls Tryz.prog 4 #[.slice (some ⟨g, 0, none⟩) 1 c] w fun e w' => ∃ v, e = .returned v ∧ OutIs w.heap.size w' v bs ∧ Below w.heap.size w w' := by
  have h := join_any g c [⟨A, n, cap, bs⟩] w (by simp) (by simp [flat, hA.1]; exact hn) (fun i hi => by
    obtain rfl : i = 0 := by simpa using hi
    exact ⟨_, rfl, hc, hA, hn⟩) 1 rfl
  simpa [flat] using h
end Go.Proofs.YtmchclpkjjmocaaGreat
