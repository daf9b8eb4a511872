/-
  The contract of fourhead's option.
-/
import Derived.Test.YteldjcdoohafcaaFh3
import Derived.Test.YteldjcdoohafcaaOct3
import Derived.Test.YteldjcdoohafcaaExts
namespace Go.Proofs.Yteldjcdoohafcaa
open Go.RowKit
set_option linter.unusedVariables false

theorem res_cell_tmp2 {P : Program} {fn : Func} {p u u2 : Tmp} {ty : TypeId} {tmps : Array Value} {w : World} {a : Addr} {v x y : Value} (h : fn.results = #[.cell p ty, .tmp u, .tmp u2]) (hp : tmps.getD p undef = .pointer (some a))
    (hl : (Go.loadVar ty a).run P w = .ok v w) (hx : tmps.getD u undef = x) (hy : tmps.getD u2 undef = y) : (results fn tmps).run P w = .ok (.tuple #[v, x, y]) w := by
  subst hx hy
  simp only [results, h]
  have hq : tmps[p]?.getD undef = .pointer (some a) := by rw [← hp]; simp
  simp [Result.andThen, asAddr, hq, hl]
/-- The first option of some bytes: its kind, how many bytes it takes, and its body. -/
def optOne (l : List Nat) : Option (Nat × Nat × List Nat) :=
  if l.getD 0 0 = 1 then some (1, 1, []) else if l.length < 2 then none else if l.getD 1 0 < 2 ∨ l.length < l.getD 1 0 then none else some (l.getD 0 0, l.getD 1 0, (l.drop 2).take (l.getD 1 0 - 2))
/-- What option answers. -/
def OptIs (w : World) (r : Option (Nat × Nat × List Nat)) (e : Ending) (w' : World) : Prop :=
  Below w.heap.size w w' ∧ match r with
  | none => e = .returned (.tuple #[.agg #[.int .i64 0, .slice none 0 0], .int .i64 0, .bool false])
  | some (k, n, b) => ∃ bv, e = .returned (.tuple #[.agg #[.int .i64 (k : Nat), bv], .int .i64 (n : Nat), .bool true]) ∧ bv.oneCell' = true ∧ ∃ A c, bv = .slice A b.length c ∧ b.length ≤ c ∧ Row w' A b.length b ∧ ∀ ad, A = some ad → w.heap.size ≤ ad.block ∧ ad.block < w'.heap.size
theorem tyext : RowTy 59 2 := ⟨⟨_, Try.underlying59, rfl⟩, by kernel_rfl⟩
set_option maxRecDepth 10000 in
set_option maxHeartbeats 3200000 in
theorem fhoption_any (A : Option Addr) (n c : Nat) (l : List Nat) (w : World) (hn : 1 ≤ n) (hc : n ≤ c) (hc2 : n ≤ 140737488355328) (hR : Row w A n l) :
    Calls Try.prog 53 #[.slice A n c] w (OptIs w (optOne l)) := by
  obtain ⟨V, e0⟩ : ∃ V, V = w.alloc (.cells #[.int .i64 0, .slice none 0 0] 59) := ⟨_, rfl⟩
  have hA : ArrV 59 V w.heap.size [.int .i64 0, .slice none 0 0] := by rw [e0]; exact ArrV.new _ w _
  have hB : Below w.heap.size w V := by rw [e0]; exact (Below.refl _ _).alloc (Nat.le_refl _) _
  have HA := Lib.hid hA
  have HB := Lib.hid hB
  have hsz : w.heap.size < V.heap.size := hA.lt
  have hRV := hR.below hB
  obtain ⟨b, o, rfl, hb, hcell⟩ := hRV.addr (by omega)
  have c0 := hcell 0 (by omega)
  simp only [Nat.add_zero] at c0
  have hx := hR.byte 0
  have hl := hR.1
  have n0 : (0 : Int) < (n : Int) := by omega
  have HE0 := Lib.hid e0
  clear hA hB
  by_cases h1 : l.getD 0 0 = 1
  · have hO : optOne l = some (1, 1, []) := by unfold optOne; rw [if_pos h1]
    rw [hO]
    rw [h1] at c0
    have f0 := HA.out.frozen 0
    have f1 := HA.out.frozen 1
    have g0 := HA.out.get 0
    have g1 := HA.out.get 1
    simp at g0 g1
    clear hcell hRV hR hl h1 hO hx
    go_enter Try.func53, Try.ntmps53
    go_upto_region 1 with fail
    rw [← HE0.out]
    clear e0
    go_wp2_with fail
    exact bodyPost_ret (v := .tuple #[.agg #[.int .i64 1, .slice none 0 0], .int .i64 1, .bool true]) (res_cell_tmp2 Try.results53 rfl (((HA.out.set 0 (.int .i64 1)).set 1 (.slice none 0 0)).loadVar tyext rfl) rfl rfl) rfl
      ⟨(HB.out.setCell (p := ⟨w.heap.size, 0, none⟩) (Nat.le_refl _) _).setCell (p := ⟨w.heap.size, 1, none⟩) (Nat.le_refl _) _, .slice none 0 0, rfl, rfl, none, 0, rfl, Nat.le_refl _, Row.nil _ _, fun ad h => by cases h⟩
  have x1 : ((l.getD 0 0 : Int) == 1) = false := beq_false_of_ne (by omega)
  by_cases h2 : n < 2
  · have hO : optOne l = none := by unfold optOne; rw [if_neg h1, if_pos (by omega)]
    rw [hO]
    have f0 := HA.out.frozen 0
    have f1 := HA.out.frozen 1
    have g0 := HA.out.get 0
    have g1 := HA.out.get 1
    simp at g0 g1
    have n2 : (n : Int) < 2 := by omega
    generalize l.getD 0 0 = x at *
    clear hcell hRV hR hl h1 hO
    go_enter Try.func53, Try.ntmps53
    go_upto_region 1 with fail
    rw [← HE0.out]
    clear e0
    go_wp2_with fail
    exact bodyPost_ret (v := .tuple #[.agg #[.int .i64 0, .slice none 0 0], .int .i64 0, .bool false]) (res_cell_tmp2 Try.results53 rfl (((HA.out.set 0 (.int .i64 0)).set 1 (.slice none 0 0)).loadVar tyext rfl) rfl rfl) rfl
      ⟨(HB.out.setCell (p := ⟨w.heap.size, 0, none⟩) (Nat.le_refl _) _).setCell (p := ⟨w.heap.size, 1, none⟩) (Nat.le_refl _) _, rfl⟩
  have n2 : ¬ (n : Int) < 2 := by omega
  have c1 := hcell 1 (by omega)
  have hy := hR.byte 1
  have n1 : (1 : Int) < (n : Int) := by omega
  by_cases h3 : l.getD 1 0 < 2 ∨ n < l.getD 1 0
  · have hO : optOne l = none := by unfold optOne; rw [if_neg h1, if_neg (by omega), if_pos (by rw [hl]; exact h3)]
    rw [hO]
    have CC : Hid (∃ z : Int, (z != 0) = true ∧ ∀ w, Calls Try.prog 67 #[.slice (some ⟨b, o, none⟩) n c, .int .i64 2, .int .i64 ((l.getD 1 0 : Int) - 2)] w fun e w' => e = .returned (.tuple #[.slice none 0 0, .int .i64 z]) ∧ w = w') := by
      by_cases h4 : l.getD 1 0 < 2
      · exact ⟨1, by decide, fun w => cut_range _ n c 2 _ w (by omega)⟩
      · exact ⟨2, by decide, fun w => cut_short _ n c 2 _ w (by omega) (by decide) (by omega) (by omega)⟩
    obtain ⟨z, z0, CC⟩ := CC.out
    have CC := Lib.hid CC
    have f0 := HA.out.frozen 0
    have f1 := HA.out.frozen 1
    have g0 := HA.out.get 0
    have g1 := HA.out.get 1
    simp at g0 g1
    generalize l.getD 0 0 = x at *
    generalize l.getD 1 0 = y at *
    clear hcell hRV hR hl h1 h2 h3 hO
    go_enter Try.func53, Try.ntmps53
    go_upto_region 1 with fail
    rw [← HE0.out]
    clear e0
    go_wp2_with fail
    refine (CC.out _).mono ?_
    rintro e w' ⟨rfl, rfl⟩
    go_wp2_with fail
    exact bodyPost_ret (v := .tuple #[.agg #[.int .i64 0, .slice none 0 0], .int .i64 0, .bool false]) (res_cell_tmp2 Try.results53 rfl (((HA.out.set 0 (.int .i64 0)).set 1 (.slice none 0 0)).loadVar tyext rfl) rfl rfl) rfl
      ⟨(HB.out.setCell (p := ⟨w.heap.size, 0, none⟩) (Nat.le_refl _) _).setCell (p := ⟨w.heap.size, 1, none⟩) (Nat.le_refl _) _, rfl⟩
  · have hO : optOne l = some (l.getD 0 0, l.getD 1 0, (l.drop 2).take (l.getD 1 0 - 2)) := by unfold optOne; rw [if_neg h1, if_neg (by omega), if_neg (by rw [hl]; exact h3)]
    rw [hO]
    obtain ⟨t, ht⟩ : ∃ t, t = (l.drop 2).take (l.getD 1 0 - 2) := ⟨_, rfl⟩
    have CC : Hid (∀ w, Row w (some ⟨b, o, none⟩) n l → Calls Try.prog 67 #[.slice (some ⟨b, o, none⟩) n c, .int .i64 2, .int .i64 ((l.getD 1 0 : Int) - 2)] w (CutTo w t)) := fun w h => by
      have h5 := cut_far (some ⟨b, o, none⟩) n c 2 (l.getD 1 0 - 2) l w hc hc2 (by omega) h
      rw [← ht] at h5
      have e : ((l.getD 1 0 - 2 : Nat) : Int) = (l.getD 1 0 : Int) - 2 := by omega
      rw [e] at h5
      exact h5
    have HTB : Hid (∀ x ∈ t, x < 256) := fun x hx => by rw [ht] at hx; exact hR.2.1 x (List.mem_of_mem_drop (List.mem_of_mem_take hx))
    rw [← ht]
    have HRV := Lib.hid hRV
    generalize l.getD 0 0 = x at *
    generalize l.getD 1 0 = y at *
    clear hcell hRV hR hl h1 h2 h3 hO ht
    go_enter Try.func53, Try.ntmps53
    go_upto_region 1 with fail
    rw [← HE0.out]
    clear e0
    go_wp2_with fail
    refine (CC.out _ HRV.out).mono ?_
    rintro e w2 ⟨rfl, ho, hb2⟩
    have HA2 := Lib.hid (HA.out.below hb2)
    have HB2 := Lib.hid (HB.out.trans (hb2.mono (Nat.le_of_lt hsz)))
    have HO := Lib.hid ho
    have ho2 := ho.lt
    have hne : V.heap.size ≠ w.heap.size := by omega
    have f0 := HA2.out.frozen 0
    have f1 := HA2.out.frozen 1
    have g0 := HA2.out.get 0
    have g1 := HA2.out.get 1
    simp at g0 g1
    clear ho hb2 c0 c1
    go_wp2_with fail
    exact bodyPost_ret (v := .tuple #[.agg #[.int .i64 (x : Nat), .slice (some ⟨V.heap.size, 0, none⟩) t.length t.length], .int .i64 (y : Nat), .bool true]) (res_cell_tmp2 Try.results53 rfl (((HA2.out.set 0 (.int .i64 (x : Nat))).set 1 (.slice (some ⟨V.heap.size, 0, none⟩) t.length t.length)).loadVar tyext rfl) rfl rfl) rfl
      ⟨(HB2.out.setCell (p := ⟨w.heap.size, 0, none⟩) (Nat.le_refl _) _).setCell (p := ⟨w.heap.size, 1, none⟩) (Nat.le_refl _) _, _, rfl, rfl, _, _, rfl, Nat.le_refl _,
        Own.row (((heap_setCell_other _ _ _ _ hne).trans ((heap_setCell_other _ _ _ _ hne).trans HO.out))) HTB.out, fun ad h => by cases h; exact ⟨Nat.le_of_lt hsz, by simpa using ho2⟩⟩
end Go.Proofs.Yteldjcdoohafcaa
