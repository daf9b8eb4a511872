/-
  bitrow's And and Or.
-/
import Derived.Test.YthikjngmaekjgaaBr6
namespace Go.Proofs.Ythikjngmaekjgaa
open Go.RowKit
set_option linter.unusedVariables false

/-- Word w in all of the first k rows, in any of them. -/
def andTo (xss : List (List Nat)) (k w : Nat) : Nat := (xss.take k).foldl (fun a r => a &&& r.getD w 0) 18446744073709551615
def orTo (xss : List (List Nat)) (k w : Nat) : Nat := (xss.take k).foldl (fun a r => a ||| r.getD w 0) 0
theorem andTo_succ {xss : List (List Nat)} {k : Nat} (h : k < xss.length) (w : Nat) : andTo xss (k + 1) w = andTo xss k w &&& (xss.getD k []).getD w 0 := by
  unfold andTo
  rw [take_succ_rows xss k h, List.foldl_append]
  rfl
theorem orTo_succ {xss : List (List Nat)} {k : Nat} (h : k < xss.length) (w : Nat) : orTo xss (k + 1) w = orTo xss k w ||| (xss.getD k []).getD w 0 := by
  unfold orTo
  rw [take_succ_rows xss k h, List.foldl_append]
  rfl
def Words (xss : List (List Nat)) : Prop := ∀ k w, (xss.getD k []).getD w 0 < 18446744073709551616
theorem andTo_lt (xss : List (List Nat)) : ∀ k w, andTo xss k w < 18446744073709551616 := by
  intro k w
  induction k with
  | zero => show 18446744073709551615 < 18446744073709551616; decide
  | succ k ih =>
    rcases Nat.lt_or_ge k xss.length with h | h
    · rw [andTo_succ h]
      exact Nat.lt_of_le_of_lt Nat.and_le_left ih
    · unfold andTo at *
      rw [List.take_of_length_le (by omega)] at *
      exact ih
theorem orTo_lt {xss : List (List Nat)} (hW : Words xss) : ∀ k w, orTo xss k w < 18446744073709551616 := by
  intro k w
  induction k with
  | zero => show 0 < 18446744073709551616; decide
  | succ k ih =>
    rcases Nat.lt_or_ge k xss.length with h | h
    · rw [orTo_succ h]
      have h1 : orTo xss k w < 2 ^ 64 := ih
      have h2 : (xss.getD k []).getD w 0 < 2 ^ 64 := hW k w
      exact Nat.or_lt_two_pow h1 h2
    · unfold orTo at *
      rw [List.take_of_length_le (by omega)] at *
      exact ih
def andRow (xss : List (List Nat)) : List Nat := (List.range (minL xss)).map (andTo xss xss.length)
def orRow (xss : List (List Nat)) : List Nat := (List.range (maxL xss)).map (orTo xss xss.length)
theorem andRow_length (xss : List (List Nat)) : (andRow xss).length = minL xss := by simp [andRow]
theorem orRow_length (xss : List (List Nat)) : (orRow xss).length = maxL xss := by simp [orRow]
theorem andRow_word (xss : List (List Nat)) : ∀ x ∈ andRow xss, x < 18446744073709551616 := by
  intro x hx
  obtain ⟨w, _, rfl⟩ := List.mem_map.1 hx
  exact andTo_lt _ _ _
theorem orRow_word {xss : List (List Nat)} (hW : Words xss) : ∀ x ∈ orRow xss, x < 18446744073709551616 := by
  intro x hx
  obtain ⟨w, _, rfl⟩ := List.mem_map.1 hx
  exact orTo_lt hW _ _

/-- The first i words done, the others 0; and word i at x. -/
def doneTo (f : Nat → Nat) (m i : Nat) : List Nat := (List.range m).map (fun w => if w < i then f w else 0)
def doneK (f : Nat → Nat) (m i x : Nat) : List Nat := (doneTo f m i).set i x
theorem doneTo_zero (f : Nat → Nat) (m : Nat) : doneTo f m 0 = List.replicate m 0 := by
  unfold doneTo
  rw [← range_zero]
  exact range_congr fun w _ => by simp
theorem doneTo_length (f : Nat → Nat) (m i : Nat) : (doneTo f m i).length = m := by simp [doneTo]
theorem doneK_length (f : Nat → Nat) (m i x : Nat) : (doneK f m i x).length = m := by simp [doneK, doneTo_length]
theorem doneTo_step (f : Nat → Nat) (m i : Nat) : doneK f m i (f i) = doneTo f m (i + 1) := by
  unfold doneK doneTo
  rw [set_range]
  refine range_congr fun w _ => ?_
  by_cases h : w = i
  · subst h; simp
  · by_cases h2 : w < i
    · rw [if_neg h, if_pos h2, if_pos (by omega)]
    · rw [if_neg h, if_neg h2, if_neg (by omega)]
theorem doneTo_all (f : Nat → Nat) (m : Nat) : doneTo f m m = (List.range m).map f := by
  unfold doneTo
  exact range_congr fun w hw => by rw [if_pos hw]
theorem doneK_get (f : Nat → Nat) (m i x : Nat) (h : i < m) : (doneK f m i x).getD i 0 = x := by
  unfold doneK
  rw [List.getD_eq_getElem?_getD, List.getElem?_set_self (by rw [doneTo_length]; exact h)]
  rfl
theorem doneK_set (f : Nat → Nat) (m i x y : Nat) : (doneK f m i x).set i y = doneK f m i y := by
  unfold doneK
  rw [List.set_set]

theorem rows_at {w wr : World} {A : Option Addr} {xss : List (List Nat)} (h : RowsAt w A xss) (hb : Below w.heap.size w wr) {k v : Nat} (hk : k < xss.length) (hv : v < (xss.getD k []).length) :
    ∃ b o b' o' c, A = some ⟨b, o, none⟩ ∧ b < w.heap.size ∧ wr.cell? ⟨b, o + k, none⟩ = some (.slice (some ⟨b', o', none⟩) (xss.getD k []).length c) ∧ b' < w.heap.size ∧ wr.cell? ⟨b', o' + v, none⟩ = some (.int .u64 ((xss.getD k []).getD v 0 : Nat)) := by
  obtain ⟨b, o, A', c, h1, h2, h3, h4⟩ := h k hk
  obtain ⟨b', o', rfl, h5, h6⟩ := h4.addr (by omega)
  exact ⟨b, o, b', o', c, h1, h2, (hb.cell (p := ⟨b, o + k, none⟩) h2).trans h3, h5, (hb.cell (p := ⟨b', o' + v, none⟩) h5).trans (h6 v hv)⟩

/-- Some words as f has them, the others as g. -/
def mixTo (f g : Nat → Nat) (m i : Nat) : List Nat := (List.range m).map (fun w => if w < i then f w else g w)
theorem mixTo_length (f g : Nat → Nat) (m i : Nat) : (mixTo f g m i).length = m := by simp [mixTo]
theorem mixTo_zero (f g : Nat → Nat) (m : Nat) : mixTo f g m 0 = (List.range m).map g := by
  unfold mixTo
  exact range_congr fun w _ => by simp
theorem mixTo_step (f g : Nat → Nat) (m i : Nat) : (mixTo f g m i).set i (f i) = mixTo f g m (i + 1) := by
  unfold mixTo
  rw [set_range]
  refine range_congr fun w _ => ?_
  by_cases h : w = i
  · subst h; simp
  · by_cases h2 : w < i
    · rw [if_neg h, if_pos h2, if_pos (by omega)]
    · rw [if_neg h, if_neg h2, if_neg (by omega)]
theorem mixTo_get (f g : Nat → Nat) (m i : Nat) (h : i < m) : (mixTo f g m i).getD i 0 = g i := by
  unfold mixTo
  rw [getD_range _ _ _ h]
  simp
theorem mixTo_all (f g : Nat → Nat) (m i : Nat) (h : ∀ w, i ≤ w → f w = g w) : mixTo f g m i = (List.range m).map f := by
  unfold mixTo
  refine range_congr fun w _ => ?_
  split
  · rfl
  · exact (h w (by omega)).symm
theorem orTo_beyond {xss : List (List Nat)} {k : Nat} (h : k < xss.length) (w : Nat) (hw : (xss.getD k []).length ≤ w) : orTo xss (k + 1) w = orTo xss k w := by
  rw [orTo_succ h, List.getD_eq_getElem?_getD (l := xss.getD k []), List.getElem?_eq_none hw]
  simp
theorem or_u64 (a b c : Nat) (ha : a < 18446744073709551616) (hb : b < 18446744073709551616) (h : a ||| b = c) : bits .or .u64 (a : Int) (b : Int) = (c : Int) := by
  rw [bits_or_u64_nat a b ha hb, h]

set_option maxHeartbeats 1600000 in
theorem bror_any (A : Option Addr) (n cap : Nat) (xss : List (List Nat)) (w : World) (hA : RowsAt w A xss) (hn : xss.length = n) (hl : n ≤ 1048576) (hm : ∀ k, (xss.getD k []).length ≤ 1000) (hW : Words xss) :
    Calls Try.prog 15 #[.slice A n cap] w (MadeU w (orRow xss)) := by
  have C1 := Lib.hid (fun w hA => longest_any A n cap xss w hA hn hl hm)
  have hml : maxL xss ≤ 1000 := maxTo_le hm _ (Nat.le_refl _)
  have hle := Lib.hid (fun k (hk : k < n) => le_maxL (xss := xss) (k := k) (by omega))
  unfold orRow
  have HF := Lib.hid (fun k (hk : k < n) => orTo_succ (xss := xss) (k := k) (by omega))
  have HFB := Lib.hid (fun k (hk : k < n) => orTo_beyond (xss := xss) (k := k) (by omega))
  have HFL := Lib.hid (orTo_lt hW)
  have HF0 : Hid (∀ w, orTo xss 0 w = 0) := fun w => rfl
  have HWW := Lib.hid hW
  have HMM := Lib.hid hm
  have hmk := make_rowU (maxL xss) (by omega)
  have HA := Lib.hid hA
  have HN := Lib.hid hn
  obtain ⟨F, hF⟩ : ∃ F, F = orTo xss := ⟨_, rfl⟩
  rw [← hF] at HF HFL HF0 HFB ⊢
  rw [hn]
  generalize maxL xss = m at *
  have hz : (List.range m).map (F 0) = List.replicate m 0 := by rw [← range_zero]; exact range_congr fun w _ => HF0.out w
  have HZ := Lib.hid hz
  clear hA hm hn hW hF hz
  go_enter Try.func15, Try.ntmps15
  go_wp2_with (first | (go_at_call 20; refine (C1.out _ HA.out).mono ?_; rintro e w' ⟨rfl, rfl⟩) | fail)
  clear hmk
  have hO := (OwnU.new w (List.replicate m 0)).outv (B := w.heap.size) (Nat.le_refl _) (by simp [maxLen]; omega)
  rw [List.length_replicate, ← HZ.out] at hO
  have HO := Lib.hid hO
  have HB : Hid (Below w.heap.size w (w.alloc (.cells (cellsU ((List.range m).map (F 0))).toArray 48))) := (Below.refl _ _).alloc (Nat.le_refl _) _
  rw [← HZ.out]
  clear hO
  go_loopw [13] (fun i wr => ∃ k : Nat, k ≤ n ∧ i = .int .i64 (k : Int) ∧ OutU w.heap.size wr (.slice (some ⟨w.heap.size, 0, none⟩) m m) ((List.range m).map (F k)) ∧ Below w.heap.size w wr) (fun i _ => n - (intOf i).toNat)
  case atStart => exact ⟨0, Nat.zero_le _, rfl, HO.out, HB.out⟩
  case round =>
    clear HO HB
    obtain ⟨k, hk, rfl, ho, hb⟩ := hrel
    have HO := Lib.hid ho
    have HB := Lib.hid hb
    clear ho hb
    by_cases hlt : k < n
    · obtain ⟨b, o, A', c, rfl, hb1, h1, hR⟩ := HA.out k (by rw [HN.out]; exact hlt)
      have hc1 := (HB.out.cell (p := ⟨b, o + k, none⟩) hb1).trans h1
      have hlm := hle.out k hlt
      have hl1 := HMM.out k
      obtain ⟨R, hR2⟩ : ∃ R, R = xss.getD k [] := ⟨_, rfl⟩
      have HS1 := Lib.hid (HF.out k hlt)
      have HS2 := Lib.hid (HFB.out k hlt)
      have HW2 := Lib.hid (HWW.out k)
      rw [← hR2] at hc1 hlm hR HS1 HS2 HW2 hl1
      obtain ⟨l, hl2⟩ : ∃ l, l = R.length := ⟨_, rfl⟩
      rw [← hl2] at hc1 hlm HS2 hl1 hR
      have HR := Lib.hid hR
      clear hR2 hl2 h1 hR
      go_wp2_with fail
      clear hc1
      go_loopw [19] (fun i wr => ∃ v : Nat, v ≤ l ∧ i = .int .i64 (v : Int) ∧ OutU w.heap.size wr (.slice (some ⟨w.heap.size, 0, none⟩) m m) (mixTo (F (k + 1)) (F k) m v) ∧ Below w.heap.size w wr) (fun i _ => l - (intOf i).toNat)
      case atStart => exact ⟨0, Nat.zero_le _, rfl, by rw [mixTo_zero]; exact HO.out, HB.out⟩
      case round =>
        clear HO HB
        obtain ⟨v, hv, rfl, ho, hb⟩ := hrel
        have HO := Lib.hid ho
        have HB := Lib.hid hb
        clear ho hb
        by_cases hlt2 : v < l
        · have hvm : v < m := by omega
          obtain ⟨b', o', rfl, hb2, h2⟩ := HR.out.addr (by omega)
          have hc2 := (HB.out.cell (p := ⟨b', o' + v, none⟩) hb2).trans (h2 v hlt2)
          have hc := HO.out.cell (mixTo_length (F (k + 1)) (F k) m v) v hvm
          have hf := HO.out.frozen (mixTo_length (F (k + 1)) (F k) m v) v
          rw [mixTo_get _ _ _ _ hvm] at hc
          have hset := HO.out.set (mixTo_length (F (k + 1)) (F k) m v) v (F (k + 1) v)
          rw [mixTo_step] at hset
          have hst := HS1.out v
          have hx := HFL.out k v
          have hy := HW2.out v
          obtain ⟨x, hxe⟩ : ∃ x, x = F k v := ⟨_, rfl⟩
          obtain ⟨y, hye⟩ : ∃ y, y = R.getD v 0 := ⟨_, rfl⟩
          obtain ⟨z, hze⟩ : ∃ z, z = F (k + 1) v := ⟨_, rfl⟩
          rw [← hxe] at hst hx hc
          rw [← hye] at hst hy hc2
          rw [← hze] at hst hset
          have hor := or_u64 x y z hx hy hst.symm
          have HS := Lib.hid hset
          have hwi := q_wrap (n := m) hvm (by omega)
          clear hset hst hx hy hxe hye hze h2
          go_wp2_with fail
          go_roundw
          case rel => exact ⟨v + 1, hlt2, by go_num, HS.out, HB.out.setCell (p := ⟨w.heap.size, v, none⟩) (Nat.le_refl _) _⟩
          case measure => simp [intOf]; omega
        · obtain rfl : v = l := by omega
          have hO := HO.out
          rw [mixTo_all _ _ _ _ HS2.out] at hO
          have HO := Lib.hid hO
          clear hO hlt2 hv
          go_wp2_with fail
          go_roundw
          case rel => exact ⟨k + 1, hlt, by go_num, HO.out, HB.out⟩
          case measure => simp [intOf]; omega
    · obtain rfl : k = n := by omega
      clear hlt hk
      go_wp2_with fail
      go_ret
      exact ⟨_, rfl, HO.out, HB.out⟩
end Go.Proofs.Ythikjngmaekjgaa
