/-
  The document's first, within, put.
-/
import Derived.Test.YtngflfpannmjhaaGreatDoorSp12
import Derived.Test.YtngflfpannmjhaaGreatDoorSpRPlain
namespace Go.Proofs.YtngflfpannmjhaaGreatDoor
open Go.RowKit Go.Lib Go.Sort
set_option linter.unusedVariables false

set_option maxRecDepth 10000 in
set_option maxHeartbeats 800000 in
theorem rfirst_any (A : Option Addr) (n cap : Nat) (L : List Sp) (w : World) (hn : n ≤ 8796093022206) (hA : SpRow w A n L) :
    Calls Tryz.prog 29 #[.slice A n cap] w fun e w' => e = .returned (.int .i64 (chkAll L)) ∧ Below w.heap.size w w' := by
  have hni : (n : Int) ≤ 8796093022206 := by omega
  have HA := Lib.hid hA
  have HL := Lib.hid hA.len
  have CK := Lib.hid (fun w a b => rscheck_any a b w)
  clear hA hn
  go_enter Tryz.func29, Tryz.ntmps29
  go_wp2_with fail
  go_loopw [3] (fun i wr => ∃ k : Nat, k ≤ n ∧ i = .int .i64 (k : Int) ∧ Hid (∀ i, i < k → chkS (L.getD i (0, 0)) = 0) ∧ Below w.heap.size w wr) (fun i _ => n - (intOf i).toNat)
  case atStart => exact ⟨0, Nat.zero_le _, rfl, fun i hi => absurd hi (Nat.not_lt_zero _), Below.refl _ _⟩
  case round =>
    obtain ⟨k, hk, rfl, HK, hb⟩ := hrel
    have B := Lib.hid hb
    clear hb
    by_cases hlt : k < n
    · obtain ⟨b, o, rfl, hb1, hc⟩ := HA.out.addr (by omega)
      have hc0 := (B.out.cell (p := ⟨b, o + k * 2, none⟩) hb1).trans (hc k hlt).1
      have hc1 := (B.out.cell (p := ⟨b, o + k * 2 + 1, none⟩) hb1).trans (hc k hlt).2
      have HB2 : Hid (chkS (L.getD k (0, 0)) ≠ 0 → chkAll L = chkS (L.getD k (0, 0))) := fun h => chkAll_first HK.out (by rw [HL.out]; exact hlt) h
      have HK2 : Hid (chkS (L.getD k (0, 0)) = 0 → ∀ i, i < k + 1 → chkS (L.getD i (0, 0)) = 0) := fun h i hi => by
        rcases Nat.lt_or_ge i k with h1 | h1
        · exact HK.out i h1
        · obtain rfl : i = k := by omega
          exact h
      have CX := Lib.hid (fun w => CK.out w (L.getD k (0, 0)).1 (L.getD k (0, 0)).2)
      obtain ⟨x, hx⟩ : ∃ x, x = L.getD k (0, 0) := ⟨_, rfl⟩
      rw [← hx] at hc0 hc1 HB2 HK2 CX
      obtain ⟨x1, x2⟩ := x
      have hc0 : wr.cell? ⟨b, o + k * 2, none⟩ = some (.int .i64 x1) := hc0
      have hc1 : wr.cell? ⟨b, o + k * 2 + 1, none⟩ = some (.int .i64 x2) := hc1
      have CX : Hid (∀ w, Calls Tryz.prog 37 #[.agg #[.int .i64 x1, .int .i64 x2]] w fun e w' => e = .returned (.int .i64 (chkS (x1, x2))) ∧ Below w.heap.size w w') := CX.out
      obtain ⟨c, hcq⟩ : ∃ c, c = chkS (x1, x2) := ⟨_, rfl⟩
      rw [← hcq] at HB2 HK2 CX
      have u := k_wrap hlt (by omega)
      clear hx hc hb1 HK hcq
      go_wp2_with fail
      refine (CX.out _).mono ?_
      rintro e w1 ⟨rfl, hb⟩
      have B := Lib.hid (below_both B.out hb)
      clear hb hc0 hc1
      by_cases h0 : c = 0
      · have HK3 := Lib.hid (HK2.out h0)
        have hb1 : (c != 0) = false := by rw [bne_eq_false_iff_eq]; exact h0
        clear h0 HB2 HK2
        go_wp2_with fail
        go_roundw
        case rel => exact ⟨k + 1, hlt, by go_num, HK3.out, B.out⟩
        case measure => simp [intOf]; omega
      · have hb1 : (c != 0) = true := by rw [bne_iff_ne]; exact h0
        have HE := Lib.hid (HB2.out h0)
        clear h0 HB2 HK2
        go_wp2_with fail
        go_ret
        exact ⟨by rw [HE.out]; rfl, B.out⟩
    · obtain rfl : k = n := by omega
      have e : chkAll L = 0 := chkAll_ok (all_of_getD fun i hi => HK.out i (by rw [← HL.out]; exact hi))
      have HE := Lib.hid e
      clear hlt hk HK e
      go_wp2_with fail
      go_ret
      exact ⟨by rw [HE.out]; rfl, B.out⟩

theorem wthn_no {L : List Sp} {x : Int} (h : ∀ i, i < L.length → hasS (L.getD i (0, 0)) x = false) : wthn L x = false := by
  unfold wthn
  rw [List.any_eq_false]
  intro s hs
  rw [all_of_getD (p := fun s => hasS s x = false) h s hs]
  simp
theorem wthn_yes {L : List Sp} {x : Int} {k : Nat} (hk : k < L.length) (h : hasS (L.getD k (0, 0)) x = true) : wthn L x = true := by
  unfold wthn
  exact List.any_eq_true.2 ⟨_, sp_getD_mem hk, h⟩
set_option maxRecDepth 10000 in
set_option maxHeartbeats 800000 in
theorem rwithin_any (A : Option Addr) (n cap : Nat) (L : List Sp) (x : Int) (w : World) (hn : n ≤ 8796093022206) (hA : SpRow w A n L) :
    Calls Tryz.prog 24 #[.slice A n cap, .int .i64 x] w fun e w' => e = .returned (.bool (wthn L x)) ∧ Below w.heap.size w w' := by
  have hni : (n : Int) ≤ 8796093022206 := by omega
  have HA := Lib.hid hA
  have HL := Lib.hid hA.len
  have CK := Lib.hid (fun w a b => rshas_any a b x w)
  clear hA hn
  go_enter Tryz.func24, Tryz.ntmps24
  go_wp2_with fail
  go_loopw [5] (fun i wr => ∃ k : Nat, k ≤ n ∧ i = .int .i64 (k : Int) ∧ Hid (∀ i, i < k → hasS (L.getD i (0, 0)) x = false) ∧ Below w.heap.size w wr) (fun i _ => n - (intOf i).toNat)
  case atStart => exact ⟨0, Nat.zero_le _, rfl, fun i hi => absurd hi (Nat.not_lt_zero _), Below.refl _ _⟩
  case round =>
    obtain ⟨k, hk, rfl, HK, hb⟩ := hrel
    have B := Lib.hid hb
    clear hb
    by_cases hlt : k < n
    · obtain ⟨b, o, rfl, hb1, hc⟩ := HA.out.addr (by omega)
      have hc0 := (B.out.cell (p := ⟨b, o + k * 2, none⟩) hb1).trans (hc k hlt).1
      have hc1 := (B.out.cell (p := ⟨b, o + k * 2 + 1, none⟩) hb1).trans (hc k hlt).2
      have HB2 : Hid (hasS (L.getD k (0, 0)) x = true → wthn L x = true) := fun h => wthn_yes (by rw [HL.out]; exact hlt) h
      have HK2 : Hid (hasS (L.getD k (0, 0)) x = false → ∀ i, i < k + 1 → hasS (L.getD i (0, 0)) x = false) := fun h i hi => by
        rcases Nat.lt_or_ge i k with h1 | h1
        · exact HK.out i h1
        · obtain rfl : i = k := by omega
          exact h
      have CX := Lib.hid (fun w => CK.out w (L.getD k (0, 0)).1 (L.getD k (0, 0)).2)
      obtain ⟨y, hy⟩ : ∃ y, y = L.getD k (0, 0) := ⟨_, rfl⟩
      rw [← hy] at hc0 hc1 HB2 HK2 CX
      obtain ⟨x1, x2⟩ := y
      have hc0 : wr.cell? ⟨b, o + k * 2, none⟩ = some (.int .i64 x1) := hc0
      have hc1 : wr.cell? ⟨b, o + k * 2 + 1, none⟩ = some (.int .i64 x2) := hc1
      have CX : Hid (∀ w, Calls Tryz.prog 45 #[.agg #[.int .i64 x1, .int .i64 x2], .int .i64 x] w fun e w' => e = .returned (.bool (hasS (x1, x2) x)) ∧ Below w.heap.size w w') := CX.out
      have u := k_wrap hlt (by omega)
      clear hy hc hb1 HK
      cases hq : hasS (x1, x2) x
      · rw [hq] at CX
        have HK3 := Lib.hid (HK2.out hq)
        clear hq HB2 HK2
        go_wp2_with fail
        refine (CX.out _).mono ?_
        rintro e w1 ⟨rfl, hb⟩
        have B := Lib.hid (below_both B.out hb)
        clear hb hc0 hc1
        go_wp2_with fail
        go_roundw
        case rel => exact ⟨k + 1, hlt, by go_num, HK3.out, B.out⟩
        case measure => simp [intOf]; omega
      · rw [hq] at CX
        have HE := Lib.hid (HB2.out hq)
        clear hq HB2 HK2
        go_wp2_with fail
        refine (CX.out _).mono ?_
        rintro e w1 ⟨rfl, hb⟩
        have B := Lib.hid (below_both B.out hb)
        clear hb hc0 hc1
        go_wp2_with fail
        go_ret
        exact ⟨by rw [HE.out]; rfl, B.out⟩
    · obtain rfl : k = n := by omega
      have HE := Lib.hid (wthn_no fun i hi => HK.out i (by rw [← HL.out]; exact hi))
      clear hlt hk HK
      go_wp2_with fail
      go_ret
      exact ⟨by rw [HE.out]; rfl, B.out⟩
end Go.Proofs.YtngflfpannmjhaaGreatDoor
