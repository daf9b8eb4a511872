/-
  checkAll; what the library's compaction leaves of a sorted list; Starts.
-/
import Derived.Test.YtcbhhfnnjfpmbaaSp2
import Derived.Test.YtcbhhfnnjfpmbaaSpLay
import Derived.Maps.AppendAt
namespace Go.Proofs.Ytcbhhfnnjfpmbaa
open Go.RowKit Go.Lib Go.Sort
set_option linter.unusedVariables false

/-- What is wrong with the first span that may not be. -/
def chkAll : List Sp → Int
  | [] => 0
  | s :: L => if chkS s = 0 then chkAll L else chkS s
theorem chkAll_ok : ∀ {L : List Sp}, (∀ s ∈ L, chkS s = 0) → chkAll L = 0
  | [], _ => rfl
  | s :: L, h => by
    unfold chkAll
    rw [if_pos (h s (by simp))]
    exact chkAll_ok fun t ht => h t (List.mem_cons_of_mem _ ht)
theorem chkAll_first : ∀ {L : List Sp} {k : Nat}, (∀ i, i < k → chkS (L.getD i (0, 0)) = 0) → k < L.length → chkS (L.getD k (0, 0)) ≠ 0 → chkAll L = chkS (L.getD k (0, 0))
  | [], k, _, h, _ => absurd h (Nat.not_lt_zero _)
  | s :: L, 0, _, _, h => by
    unfold chkAll
    exact if_neg h
  | s :: L, k + 1, h, hk, hb => by
    unfold chkAll
    rw [if_pos (show chkS s = 0 from h 0 (Nat.succ_pos _))]
    exact chkAll_first (L := L) (fun i hi => h (i + 1) (by omega)) (by simpa using hk) hb
theorem chkAll_zero {L : List Sp} : chkAll L = 0 ↔ ∀ s ∈ L, chkS s = 0 := by
  induction L with
  | nil => simp [chkAll]
  | cons s L ih =>
    unfold chkAll
    by_cases h : chkS s = 0
    · rw [if_pos h, ih]
      simp [h]
    · rw [if_neg h]
      simp [h]
theorem all_of_getD {L : List Sp} {p : Sp → Prop} (h : ∀ i, i < L.length → p (L.getD i (0, 0))) : ∀ s ∈ L, p s := by
  intro s hs
  obtain ⟨i, hi, rfl⟩ := List.getElem_of_mem hs
  have := h i hi
  rw [List.getD_eq_getElem?_getD, List.getElem?_eq_getElem hi] at this
  exact this

set_option maxRecDepth 10000 in
set_option maxHeartbeats 800000 in
theorem scheckAll_any (A : Option Addr) (n cap : Nat) (L : List Sp) (w : World) (hn : n ≤ 8796093022207) (hA : SpRow w A n L) :
    Calls Try.prog 7 #[.slice A n cap] w fun e w' => e = .returned (.int .i64 (chkAll L)) ∧ Below w.heap.size w w' := by
  have hni : (n : Int) ≤ 8796093022207 := by omega
  have HA := Lib.hid hA
  have HL := Lib.hid hA.len
  have CK := Lib.hid (fun w a b => scheck_any a b w)
  clear hA hn
  go_enter Try.func7, Try.ntmps7
  go_wp2_with fail
  go_loopw [8] (fun i wr => ∃ k : Nat, k ≤ n ∧ i = .int .i64 (k : Int) ∧ Hid (∀ i, i < k → chkS (L.getD i (0, 0)) = 0) ∧ Below w.heap.size w wr) (fun i _ => n - (intOf i).toNat)
  case atStart => exact ⟨0, Nat.zero_le _, rfl, fun i hi => absurd hi (Nat.not_lt_zero _), Below.refl _ _⟩
  case round =>
    obtain ⟨k, hk, rfl, HK, hb⟩ := hrel
    have B := Lib.hid hb
    clear hb
    by_cases hlt : k < n
    · obtain ⟨b, o, rfl, hb1, hc⟩ := HA.out.addr (by omega)
      have hc0 := (B.out.cell (p := ⟨b, o + k * 2, none⟩) hb1).trans (hc k hlt).1
      have hc1 := (B.out.cell (p := ⟨b, o + k * 2 + 1, none⟩) hb1).trans (hc k hlt).2
      have HB2 : Hid (chkS (L.getD k (0, 0)) ≠ 0 → chkAll L = chkS (L.getD k (0, 0))) := fun h => chkAll_first HK.out (by rw [HL.out]; exact hlt) h
      have HK2 : Hid (chkS (L.getD k (0, 0)) = 0 → ∀ i, i < k + 1 → chkS (L.getD i (0, 0)) = 0) := fun h i hi => by
        rcases Nat.lt_or_ge i k with h1 | h1
        · exact HK.out i h1
        · obtain rfl : i = k := by omega
          exact h
      have CX := Lib.hid (fun w => CK.out w (L.getD k (0, 0)).1 (L.getD k (0, 0)).2)
      obtain ⟨x, hx⟩ : ∃ x, x = L.getD k (0, 0) := ⟨_, rfl⟩
      rw [← hx] at hc0 hc1 HB2 HK2 CX
      obtain ⟨x1, x2⟩ := x
      have hc0 : wr.cell? ⟨b, o + k * 2, none⟩ = some (.int .i64 x1) := hc0
      have hc1 : wr.cell? ⟨b, o + k * 2 + 1, none⟩ = some (.int .i64 x2) := hc1
      have CX : Hid (∀ w, Calls Try.prog 12 #[.agg #[.int .i64 x1, .int .i64 x2]] w fun e w' => e = .returned (.int .i64 (chkS (x1, x2))) ∧ Below w.heap.size w w') := CX.out
      obtain ⟨c, hcq⟩ : ∃ c, c = chkS (x1, x2) := ⟨_, rfl⟩
      rw [← hcq] at HB2 HK2 CX
      clear hx hc hb1 HK hcq
      go_wp2_with fail
      have B := Lib.hid (B.out.alloc B.out.size (.cells #[.int .i64 x1, .int .i64 x2] 27))
      refine (CX.out _).mono ?_
      rintro e w1 ⟨rfl, hb⟩
      have B := Lib.hid (below_both B.out hb)
      clear hb hc0 hc1
      by_cases h0 : c = 0
      · have HK3 := Lib.hid (HK2.out h0)
        have hb1 : (c != 0) = false := by rw [bne_eq_false_iff_eq]; exact h0
        clear h0 HB2 HK2
        go_wp2_with fail
        go_roundw
        case rel => exact ⟨k + 1, hlt, by go_num, HK3.out, B.out⟩
        case measure => simp [intOf]; omega
      · have hb1 : (c != 0) = true := by rw [bne_iff_ne]; exact h0
        have HE := Lib.hid (HB2.out h0)
        clear h0 HB2 HK2
        go_wp2_with fail
        go_ret
        exact ⟨by rw [HE.out]; rfl, B.out⟩
    · obtain rfl : k = n := by omega
      have e : chkAll L = 0 := chkAll_ok (all_of_getD fun i hi => HK.out i (by rw [← HL.out]; exact hi))
      have HE := Lib.hid e
      clear hlt hk HK e
      go_wp2_with fail
      go_ret
      exact ⟨by rw [HE.out]; rfl, B.out⟩

/-! ### compaction of a sorted list -/
theorem arr_getD (zs : List Int) (j : Nat) : zs.toArray[j]! = zs.getD j 0 := by
  rw [List.getD_eq_getElem?_getD]
  simp [getElem!_def]
  cases zs[j]? <;> rfl
theorem compactUpTo_sorted (zs : List Int) (hs : zs.Pairwise (· ≤ ·)) : ∀ m, m ≤ zs.length → (compactUpTo zs.toArray m).Pairwise (· < ·) ∧ ∀ x, x ∈ compactUpTo zs.toArray m ↔ ∃ j, j < m ∧ zs.getD j 0 = x := by
  have hle : ∀ i j, i ≤ j → j < zs.length → zs.getD i 0 ≤ zs.getD j 0 := fun i j hij hj => by
    rcases Nat.lt_or_ge i j with h | h
    · rw [List.getD_eq_getElem?_getD, List.getD_eq_getElem?_getD, List.getElem?_eq_getElem (by omega), List.getElem?_eq_getElem hj]
      exact List.pairwise_iff_getElem.1 hs i j (by omega) hj h
    · have : i = j := by omega
      subst this; exact Int.le_refl _
  intro m
  induction m with
  | zero => intro _; exact ⟨by simp [compactUpTo], fun x => by simp [compactUpTo]⟩
  | succ m ih =>
    intro hm
    obtain ⟨h1, h2⟩ := ih (by omega)
    rw [compactUpTo_succ]
    by_cases hk : keeps zs.toArray m = true
    · rw [if_pos hk, arr_getD]
      have hlt : ∀ x ∈ compactUpTo zs.toArray m, x < zs.getD m 0 := fun x hx => by
        obtain ⟨j, hj, rfl⟩ := (h2 x).1 hx
        have hm0 : m ≠ 0 := by omega
        have hne : zs.getD m 0 ≠ zs.getD (m - 1) 0 := by
          unfold keeps at hk
          have := of_decide_eq_true hk
          rw [arr_getD, arr_getD] at this
          exact this.resolve_left hm0
        have a1 := hle j (m - 1) (by omega) (by omega)
        have a2 := hle (m - 1) m (by omega) (by omega)
        omega
      refine ⟨List.pairwise_append.2 ⟨h1, List.pairwise_singleton _ _, fun a ha b hb => by rw [List.mem_singleton.1 hb]; exact hlt a ha⟩, fun x => ?_⟩
      rw [List.mem_append, h2 x, List.mem_singleton]
      constructor
      · rintro (⟨j, hj, e⟩ | e)
        · exact ⟨j, by omega, e⟩
        · exact ⟨m, by omega, e.symm⟩
      · rintro ⟨j, hj, e⟩
        rcases Nat.lt_or_ge j m with h | h
        · exact .inl ⟨j, h, e⟩
        · have : j = m := by omega
          subst this; exact .inr e.symm
    · rw [if_neg hk, List.append_nil]
      refine ⟨h1, fun x => ?_⟩
      rw [h2 x]
      have hm1 : ¬ (m = 0 ∨ zs.getD m 0 ≠ zs.getD (m - 1) 0) := fun h => hk (by unfold keeps; rw [arr_getD, arr_getD]; exact decide_eq_true h)
      constructor
      · rintro ⟨j, hj, e⟩
        exact ⟨j, by omega, e⟩
      · rintro ⟨j, hj, e⟩
        rcases Nat.lt_or_ge j m with h | h
        · exact ⟨j, h, e⟩
        · have hjm : j = m := by omega
          subst hjm
          refine ⟨j - 1, by omega, ?_⟩
          have : zs.getD j 0 = zs.getD (j - 1) 0 := Classical.byContradiction fun hne => hm1 (.inr hne)
          rw [← this]; exact e
def sortI (zs : List Int) : List Int := zs.mergeSort fun x y => decide (x ≤ y)
theorem sortI_perm (zs : List Int) : (sortI zs).Perm zs := List.mergeSort_perm _ _
theorem sortI_sorted (zs : List Int) : (sortI zs).Pairwise (· ≤ ·) := by
  have h := List.pairwise_mergeSort (le := fun x y : Int => decide (x ≤ y)) (by intro a b c; simp; omega) (by intro a b; simp; omega) zs
  exact h.imp fun h => by simpa using h
theorem starts_of (L : List Sp) {M : List Int} (h : M.Perm (marks L)) : Starts (compact (sortI M)) L := by
  obtain ⟨h1, h2⟩ := compactUpTo_sorted (sortI M) (sortI_sorted M) _ (Nat.le_refl _)
  refine ⟨h1, fun x => ?_⟩
  show x ∈ compactUpTo (sortI M).toArray (sortI M).length ↔ _
  rw [h2 x, ← h.mem_iff, ← (sortI_perm M).mem_iff]
  constructor
  · rintro ⟨j, hj, rfl⟩
    exact getD_mem hj
  · exact mem_getD
end Go.Proofs.Ytcbhhfnnjfpmbaa
