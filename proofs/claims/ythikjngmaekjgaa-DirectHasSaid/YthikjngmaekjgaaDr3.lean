/-
  direct's Find, Most and Free.
-/
import Derived.Test.YthikjngmaekjgaaDr1
namespace Go.Proofs.Ythikjngmaekjgaa
open Go.RowKit
set_option linter.unusedVariables false

/-- Which of the first k of l a number has. -/
def findP (l : List Int) (most : Nat) (x : Int) (i : Nat) : Bool := (decide (0 ≤ x) && decide (x ≤ (most : Int))) && (isAt l (-1) i || isAt l x i)
def findR (l : List Int) (m most k : Nat) (x : Int) : List Nat := mkRow (findP l most x) m k
theorem findR_length (l : List Int) (m most k : Nat) (x : Int) : (findR l m most k x).length = m := mkRow_length _ _ _
theorem findR_word (l : List Int) (m most k : Nat) (x : Int) : ∀ y ∈ findR l m most k x, y < 18446744073709551616 := mkRow_word _ _ _
theorem findR_out {l : List Int} {m most k : Nat} {x : Int} (h : x < 0 ∨ (most : Int) < x) : findR l m most k x = List.replicate m 0 := by
  have e : findP l most x = fun _ => false := by
    funext i
    unfold findP
    rcases h with h | h
    · rw [decide_eq_false (by omega)]; rfl
    · rw [show decide (x ≤ (most : Int)) = false from decide_eq_false (by omega)]; simp
  unfold findR mkRow
  rw [e, List.filter_eq_nil_iff.2 (fun i _ => by simp)]
  rfl
theorem findR_in {l : List Int} {m most : Nat} {x : Int} (h1 : 0 ≤ x) (h2 : x ≤ (most : Int)) (hm : l.length ≤ 64 * m) :
    orRow [List.replicate m 0, curR l m l.length (-1), curR l m l.length x] = findR l m most l.length x := by
  refine orRow_three_is (by simp) (curR_length _ _ _ _) (curR_length _ _ _ _) (findR_length _ _ _ _ _) (zeros_word' m) (curR_word _ _ _ _) (curR_word _ _ _ _) (findR_word _ _ _ _ _) fun i hi => ?_
  unfold findR
  rw [tb_zero, tb_curR (Nat.le_refl _) hm, tb_curR (Nat.le_refl _) hm, tb_mkRow hm]
  unfold findP
  rw [decide_eq_true h1, decide_eq_true h2]
  cases decide (i < l.length) <;> simp

theorem dfind_nil (x : Int) (w : World) : Calls Try.prog 9 #[.pointer none, .int .i64 x] w fun e w' => e = .returned nilV ∧ w' = w := by
  go_enter Try.func9, Try.ntmps9
  go_wp2
  go_ret
  exact ⟨rfl, rfl⟩
theorem dmost_nil (w : World) : Calls Try.prog 11 #[.pointer none] w fun e w' => e = .returned (.int .i64 0) ∧ w' = w := by
  go_enter Try.func11, Try.ntmps11
  go_wp2
  go_ret
  exact ⟨rfl, rfl⟩
theorem dfree_nil (w : World) : Calls Try.prog 12 #[.pointer none] w fun e w' => e = .returned (.int .i64 0) ∧ w' = w := by
  go_enter Try.func12, Try.ntmps12
  go_wp2
  go_ret
  exact ⟨rfl, rfl⟩
theorem dmost_any {w : World} {tb mb : Nat} {l : List Int} {m most k n c : Nat} {D : DataW Value} (h : TabK w tb mb l m most k n c D) :
    Calls Try.prog 11 #[.pointer (some ⟨tb, 0, none⟩)] w fun e w' => e = .returned (.int .i64 (most : Int)) ∧ w' = w := by
  have h1 := h.c1
  clear h
  go_enter Try.func11, Try.ntmps11
  go_wp2
  go_ret
  exact ⟨rfl, rfl⟩
set_option maxRecDepth 10000 in
theorem dfree_any {w : World} {tb mb : Nat} {l : List Int} {m most n c : Nat} {D : DataW Value} (h : TabK w tb mb l m most l.length n c D) (hmost : (most : Int) ≤ 65535) (hn : n ≤ 65536) :
    Calls Try.prog 12 #[.pointer (some ⟨tb, 0, none⟩)] w fun e w' => e = .returned (.int .i64 (freeN l most : Int)) ∧ Below w.heap.size w w' := by
  have h1 := h.c1
  have h2 := h.c2
  have hlen := h.own.len (e := 32) Try.underlying43
  have hsz := h.own.size_le
  obtain ⟨v0, hv0, hR0⟩ := h.val (-1)
  have hlk := map_look_ok h.own (by omega) (by omega) hv0
  have hf := freeN_is l most
  rw [← h.size] at hf
  rw [h.has] at hlk
  obtain ⟨z, hz⟩ : ∃ z, z = Maps.size D := ⟨_, rfl⟩
  obtain ⟨f, hfe⟩ : ∃ f, f = freeN l most := ⟨_, rfl⟩
  rw [← hz] at hlen hsz hf
  rw [← hfe] at hf ⊢
  cases hs : seen l l.length (-1) with
  | true =>
    rw [hs] at hf hlk
    have hz0 : (z : Int) ≤ 65536 := by omega
    have hf2 : (most : Int) + 1 - ((z : Int) - 1) = (f : Int) := by rw [if_pos rfl] at hf; omega
    clear h hz hfe hR0 hv0 hs hf hsz
    go_enter Try.func12, Try.ntmps12
    go_wp2_with fail
    go_ret
    exact ⟨rfl, Below.refl _ _⟩
  | false =>
    rw [hs] at hf hlk
    have hz0 : (z : Int) ≤ 65536 := by omega
    have hf2 : (most : Int) + 1 - (z : Int) = (f : Int) := by rw [if_neg (by simp)] at hf; omega
    clear h hz hfe hR0 hv0 hs hf hsz
    go_enter Try.func12, Try.ntmps12
    go_wp2_with fail
    go_ret
    exact ⟨rfl, Below.refl _ _⟩

set_option maxRecDepth 10000 in
set_option maxHeartbeats 800000 in
theorem dfind_any {w : World} {tb mb : Nat} {l : List Int} {m most n c : Nat} {D : DataW Value} (x : Int) (h : TabK w tb mb l m most l.length n c D) (hmost : (most : Int) ≤ 65535) (hx1 : -9223372036854775808 ≤ x) (hx2 : x ≤ 9223372036854775807) (hc : c ≤ 256) (hm : m = (c + 63) / 64) (hcl : l.length = c) :
    Calls Try.prog 9 #[.pointer (some ⟨tb, 0, none⟩), .int .i64 x] w fun e w' => ∃ v, e = .returned v ∧ ValU w' v (findR l m most l.length x) ∧ Below w.heap.size w w' := by
  have C1 : Hid (∀ w, Calls Try.prog 17 #[.int .i64 (c : Int)] w (MadeU w (List.replicate m 0))) := fun w => by
    have h := brnew_any (c : Int) w
    rw [newN_nat (by omega), ← hm] at h
    exact h
  have hml : m ≤ 1000 := by omega
  have HM := Lib.hid (show l.length ≤ 64 * m by omega)
  have HT := Lib.hid h
  have c0 := h.c0
  clear h hm hcl
  by_cases hr : x < 0 ∨ (most : Int) < x
  · rw [findR_out hr]
    by_cases h1 : x < 0
    · clear hr
      go_enter Try.func9, Try.ntmps9
      go_wp2_with (first | (go_at_call 17; refine (C1.out _).mono ?_; rintro e w1 hmade; obtain ⟨v1, rfl, hv1, hb1⟩ := hmade.vals (zeros_word' m); have HV1 := Lib.hid hv1; have HB1 := Lib.hid hb1; clear hmade hv1 hb1) | fail)
      go_ret
      exact ⟨_, rfl, HV1.out, HB1.out⟩
    · have h2 : (most : Int) < x := by omega
      clear hr
      go_enter Try.func9, Try.ntmps9
      go_wp2_with (first | (go_at_call 17; refine (C1.out _).mono ?_; rintro e w1 hmade; obtain ⟨v1, rfl, hv1, hb1⟩ := hmade.vals (zeros_word' m); have HV1 := Lib.hid hv1; have HB1 := Lib.hid hb1; have c1 := (HT.out.below hb1).c1; clear hmade hv1 hb1) | fail)
      go_ret
      exact ⟨_, rfl, HV1.out, HB1.out⟩
  · have h1 : 0 ≤ x := by omega
    have h2 : x ≤ (most : Int) := by omega
    rw [← findR_in h1 h2 HM.out]
    clear hr
    obtain ⟨va, hva, hRa⟩ := HT.out.val (-1)
    obtain ⟨vb, hvb, hRb⟩ := HT.out.val x
    obtain ⟨Aa, za, ca, rfl⟩ := hRa.shape
    obtain ⟨Ab, zb, cb, rfl⟩ := hRb.shape
    have HLa : Hid (∀ w', Below w.heap.size w w' → (Instr.lookup 43 (.map (some mb)) (.int .i64 (-1)) false).run Try.prog w' = .ok (.slice Aa za ca) w') := fun w' hb' => map_look (HT.out.below hb').own (by omega) (by omega) hva
    have HLb : Hid (∀ w', Below w.heap.size w w' → (Instr.lookup 43 (.map (some mb)) (.int .i64 x) false).run Try.prog w' = .ok (.slice Ab zb cb) w') := fun w' hb' => map_look (HT.out.below hb').own (by omega) (by omega) hvb
    have HVa : Hid (∀ w', Below w.heap.size w w' → ValU w' (.slice Aa za ca) (curR l m l.length (-1))) := fun w' hb' => hRa.below hb'
    have HVb : Hid (∀ w', Below w.heap.size w w' → ValU w' (.slice Ab zb cb) (curR l m l.length x)) := fun w' hb' => hRb.below hb'
    have HCa := Lib.hid (Nat.le_trans (curR_length l m l.length (-1)) hml)
    have HCb := Lib.hid (Nat.le_trans (curR_length l m l.length x) hml)
    obtain ⟨Ra, hRae⟩ : ∃ R, R = curR l m l.length (-1) := ⟨_, rfl⟩
    obtain ⟨Rb, hRbe⟩ : ∃ R, R = curR l m l.length x := ⟨_, rfl⟩
    rw [← hRae] at HVa HCa ⊢
    rw [← hRbe] at HVb HCb ⊢
    have HML := Lib.hid hml
    clear hva hvb hRa hRb hRae hRbe hml
    go_enter Try.func9, Try.ntmps9
    go_wp2_with (first | (go_at_call 17; refine (C1.out _).mono ?_; rintro e w1 hmade; obtain ⟨v1, rfl, hv1, hb1⟩ := hmade.vals (zeros_word' m); obtain ⟨A1, z1, k1, rfl⟩ := hv1.shape; have HV1 := Lib.hid hv1; have HB1 := Lib.hid hb1; have c1 := (HT.out.below hb1).c1; clear hmade hv1 hb1) | fail)
    have HB1d : Hid (Below w.heap.size w w1.drew) := HB1.out.drew
    have HV1d : Hid (ValU w1.drew (.slice A1 z1 k1) (List.replicate m 0)) := HV1.out
    have h0 := (HT.out.below HB1d.out).c2
    have ha := HLa.out _ HB1d.out
    have hb := HLb.out _ HB1d.out
    have hS3 : ((w1.alloc (.cells #[.slice A1 z1 k1, .slice Aa za ca, .slice Ab zb cb] 32)).drew).cell? ⟨tb, 2, none⟩ = some (.map (some mb)) := (HT.out.below (HB1d.out.alloc HB1d.out.size (.cells #[.slice A1 z1 k1, .slice Aa za ca, .slice Ab zb cb] 32))).c2
    have CO : Hid (Calls Try.prog 15 #[.slice (some ⟨w1.heap.size, 0, none⟩) 3 3] (w1.alloc (.cells #[.slice A1 z1 k1, .slice Aa za ca, .slice Ab zb cb] 32)).drew fun e w4 => ∃ v3, e = .returned v3 ∧ ValU w4 v3 (orRow [List.replicate m 0, Ra, Rb]) ∧ Below w.heap.size w w4) :=
      (bror_three _ _ _ _ _ _ _ HV1d.out (HVa.out _ HB1d.out) (HVb.out _ HB1d.out) (by rw [List.length_replicate]; exact HML.out) HCa.out HCb.out).mono fun e w4 hmade => by
        obtain ⟨v3, h1, hv3, hb3⟩ := hmade.vals (orRow_word (words_of (fun r hr => by
              simp only [List.mem_cons, List.not_mem_nil, or_false] at hr
              rcases hr with rfl | rfl | rfl
              · exact zeros_word' m
              · exact (HVa.out _ HB1d.out).words
              · exact (HVb.out _ HB1d.out).words)))
        exact ⟨v3, h1, hv3, below_both (HB1d.out.alloc HB1d.out.size _) hb3⟩
    go_region_held3 (fun w' => w'.cell? ⟨tb, 2, none⟩ = some (.map (some mb)))
      (first | exact h0 | exact hS3 | exact hS4 | go_keep)
      (first
        | (go_at_call 15; refine CO.out.mono ?_; rintro e w4 ⟨v3, rfl, hv3, hb4⟩; have hS4 := (HT.out.below hb4).c2; have HV4 := Lib.hid hv3; have HB4 := Lib.hid hb4; clear hv3 hb4)
        | fail)
    all_goals
      go_wp2_with fail
      go_ret
      exact ⟨_, rfl, HV4.out, HB4.out⟩
end Go.Proofs.Ythikjngmaekjgaa
