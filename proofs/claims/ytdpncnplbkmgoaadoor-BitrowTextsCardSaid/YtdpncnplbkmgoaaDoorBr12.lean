/-
  bitrow's Parse; the document's Of and Parse.
-/
import Derived.Test.YtdpncnplbkmgoaaDoorBr11
import Derived.Test.YtdpncnplbkmgoaaDoorOct8
namespace Go.Proofs.YtdpncnplbkmgoaaDoor
open Go.RowKit
set_option linter.unusedVariables false

/-- Is byte i of a text the digit 1? -/
def oneAt (s : ByteArray) (i : Nat) : Bool := decide ((sb s).getD i 0 = 49)
/-- The first k bytes are digits of a row. -/
def Bin (s : ByteArray) (k : Nat) : Prop := ∀ j, j < k → (sb s).getD j 0 = 48 ∨ (sb s).getD j 0 = 49
/-- The row of a text's digits. -/
def rowOf (s : ByteArray) : List Nat := mkRow (oneAt s) ((s.size + 63) / 64) s.size
theorem rowOf_length (s : ByteArray) : (rowOf s).length = (s.size + 63) / 64 := mkRow_length _ _ _
theorem rowOf_word (s : ByteArray) : ∀ x ∈ rowOf s, x < 18446744073709551616 := mkRow_word _ _ _
theorem mkRow_first (P : Nat → Bool) (m : Nat) : mkRow P m 0 = List.replicate m 0 := rfl

theorem byte_cases {s : ByteArray} {k : Nat} (h : Bin s (k + 1)) (hk : k < s.size) : (s[k]'hk).toNat = 48 ∧ oneAt s k = false ∨ (s[k]'hk).toNat = 49 ∧ oneAt s k = true := by
  rw [sb_at s k hk]
  unfold oneAt
  rcases h k (by omega) with h | h
  · left; rw [h]; exact ⟨rfl, rfl⟩
  · right; rw [h]; exact ⟨rfl, rfl⟩

/-- A fault in its own block. -/
def FB (W : World) (g : Nat) (a b : Int) : Prop := W.heap[g]? = some (.cells #[.int .i64 a, .int .i64 b] 39 (0, 0))
theorem FB.new (w : World) : FB (w.alloc (.cells #[.int .i64 0, .int .i64 0] 39)) w.heap.size 0 0 := heap_alloc_new w _
theorem FB.below {B g : Nat} {w w' : World} {a b : Int} (h : FB w g a b) (hb : Below B w w') (hg : g < B) : FB w' g a b := (hb.block g hg).trans h
theorem FB.c0 {W : World} {g : Nat} {a b : Int} (h : FB W g a b) : W.cell? ⟨g, 0, none⟩ = some (.int .i64 a) := cell_of_row W _ _ _ _ _ h
theorem FB.c1 {W : World} {g : Nat} {a b : Int} (h : FB W g a b) : W.cell? ⟨g, 1, none⟩ = some (.int .i64 b) := cell_of_row W _ _ _ _ _ h
theorem FB.f {W : World} {g : Nat} {a b : Int} (h : FB W g a b) (i : Nat) : W.frozen? ⟨g, i, none⟩ = false := frozen_of_row W _ i _ _ h
theorem FB.two {W : World} {g : Nat} {a b : Int} (h : FB W g a b) (x y : Int) : FB ((W.setCell ⟨g, 0, none⟩ (.int .i64 x)).setCell ⟨g, 1, none⟩ (.int .i64 y)) g x y :=
  heap_setCell_same _ g 1 _ _ (.int .i64 y) (heap_setCell_same W g 0 _ _ (.int .i64 x) h)
theorem FB.mid {W : World} {g : Nat} {a b : Int} (h : FB W g a b) (x : Int) : (W.setCell ⟨g, 0, none⟩ (.int .i64 x)).frozen? ⟨g, 1, none⟩ = false ∧ ∃ v, (W.setCell ⟨g, 0, none⟩ (.int .i64 x)).cell? ⟨g, 1, none⟩ = some v :=
  ⟨frozen_of_row _ _ 1 _ _ (heap_setCell_same W g 0 _ _ (.int .i64 x) h), _, cell_of_row _ _ _ _ _ _ (heap_setCell_same W g 0 _ _ (.int .i64 x) h)⟩
theorem OutU.other {B g i : Nat} {w : World} {v x : Value} {xs : List Nat} (h : OutU B w v xs) (hg : g < B) : OutU B (w.setCell ⟨g, i, none⟩ x) v xs := by
  refine ⟨h.1, ?_⟩
  rcases h.2 with h2 | ⟨g', cap, cur, hv, hB, hh, r⟩
  · exact .inl h2
  · exact .inr ⟨g', cap, cur, hv, hB, (heap_setCell_other w _ _ _ (by show g' ≠ g; omega)).trans hh, r⟩

set_option maxRecDepth 10000 in
set_option maxHeartbeats 1600000 in
theorem brparse_ok (s : ByteArray) (w : World) (hs : s.size ≤ 65536) (hd : Bin s s.size) :
    Calls Tryd.prog 27 #[.string s] w fun e w' => ∃ v, e = .returned (.tuple #[v, .agg #[.int .i64 0, .int .i64 0]]) ∧ OutU w.heap.size w' v (rowOf s) ∧ Below w.heap.size w w' := by
  have hsi : (s.size : Int) ≤ 65536 := by omega
  have hml : (s.size + 63) / 64 ≤ 1024 := by omega
  have C1 : Hid (∀ w, Calls Tryd.prog 10 #[.int .i64 (s.size : Int)] w (MadeU w (mkRow (oneAt s) ((s.size + 63) / 64) 0))) := fun w => by
    have h := brnew_any (s.size : Int) w
    rw [newN_nat hs] at h
    exact h
  have HR : Hid (rowOf s = mkRow (oneAt s) ((s.size + 63) / 64) s.size) := rfl
  obtain ⟨m, hm⟩ : ∃ m, m = (s.size + 63) / 64 := ⟨_, rfl⟩
  rw [← hm] at C1 HR hml
  have HM := Lib.hid hm
  have HD := Lib.hid hd
  clear hd hm hs
  go_enter Tryd.func27, Tryd.ntmps27
  go_wp2_with fail
  refine (C1.out _).mono ?_
  rintro e w1 ⟨v, rfl, ho, hb⟩
  obtain ⟨A1, c1, rfl, hcap, _, _⟩ := ho.out (mkRow_word _ _ _)
  rw [mkRow_length] at hcap ho ⊢
  have hsz : (w.alloc (.cells #[.int .i64 0, .int .i64 0] 39)).heap.size = w.heap.size + 1 := by simp
  rw [hsz] at ho hb
  have HO := Lib.hid ho
  have HF := Lib.hid ((FB.new w).below hb (Nat.lt_succ_self _))
  have HB : Hid (Below w.heap.size w w1) := ((Below.refl _ w).alloc (Nat.le_refl _) _).trans (hb.mono (Nat.le_succ _))
  clear ho hb hsz
  go_wp2_with fail
  go_loopw [15] (fun i wr => ∃ k : Nat, k ≤ s.size ∧ i = .int .i64 (k : Int) ∧ OutU (w.heap.size + 1) wr (.slice A1 m c1) (mkRow (oneAt s) m k) ∧ FB wr w.heap.size 0 0 ∧ Below w.heap.size w wr) (fun i _ => s.size - (intOf i).toNat)
  case atStart => exact ⟨0, Nat.zero_le _, rfl, HO.out, HF.out, HB.out⟩
  case round =>
    clear HO HF HB
    obtain ⟨k, hk, rfl, ho, hf, hb⟩ := hrel
    have HO := Lib.hid ho
    have HF := Lib.hid hf
    have HB := Lib.hid hb
    clear ho hf hb
    by_cases hlt : k < s.size
    · rcases byte_cases (s := s) (k := k) (fun j hj => HD.out j (by omega)) hlt with ⟨hb, hp⟩ | ⟨hb, hp⟩
      · have HS := Lib.hid (mkRow_no (n := m) hp)
        clear hp
        go_wp2_with fail
        go_roundw
        case rel => exact ⟨k + 1, hlt, by go_num, by rw [HS.out]; exact HO.out, HF.out, HB.out⟩
        case measure => simp [intOf]; omega
      · have HS := Lib.hid (mkRow_yes (n := m) hp)
        have hml2 := mkRow_length (oneAt s) m k
        have hqm : k / 64 < m := by have := HM.out; omega
        obtain ⟨g, c', he, hg, _, _⟩ := HO.out.block (by rw [hml2]; omega)
        injection he with e1 e2 e3
        subst e1
        have C2 := Lib.hid (brset_any (w.heap.size + 1) g m c1 k (k / 64) (k % 64) _ _ wr HO.out hml2 hg (by omega) (by omega) hqm (by omega) rfl (words_lt (mkRow_word _ _ _) _))
        clear hp e2 e3 hg hqm hml2
        go_wp2_with (go_at_call 32; refine C2.out.mono ?_; rintro e w2 ⟨rfl, ho2, hb2⟩)
        have HO2 := Lib.hid ho2
        have HF2 := Lib.hid (HF.out.below hb2 (Nat.lt_succ_self _))
        have HB2 := Lib.hid (HB.out.trans (hb2.mono (Nat.le_succ _)))
        clear ho2 hb2
        go_wp2_with fail
        go_roundw
        case rel => exact ⟨k + 1, hlt, by go_num, by rw [HS.out]; exact HO2.out, HF2.out, HB2.out⟩
        case measure => simp [intOf]; omega
    · obtain rfl : k = s.size := by omega
      have hc0 := HF.out.c0
      have hc1 := HF.out.c1
      have hf0 := HF.out.f 0
      have hf1 := HF.out.f 1
      have hr0 := (HF.out.two 0 0).c0
      have hr1 := (HF.out.two 0 0).c1
      have HO3 := Lib.hid (((HO.out.other (i := 0) (x := .int .i64 0) (Nat.lt_succ_self _)).other (i := 1) (x := .int .i64 0) (Nat.lt_succ_self _)).mono (Nat.le_succ _))
      have HB3 := Lib.hid ((HB.out.setCell (p := ⟨w.heap.size, 0, none⟩) (Nat.le_refl _) (.int .i64 0)).setCell (p := ⟨w.heap.size, 1, none⟩) (Nat.le_refl _) (.int .i64 0))
      clear hlt hk
      go_wp2_with fail
      refine bodyPost_ret (v := .tuple #[.slice A1 m c1, .agg #[.int .i64 0, .int .i64 0]]) (by simp [results, Tryd.results27, go_sem, hr0, hr1]) rfl ⟨_, rfl, ?_, HB3.out⟩
      rw [HR.out]
      exact HO3.out
set_option maxRecDepth 10000 in
set_option maxHeartbeats 1600000 in
theorem brparse_bad (s : ByteArray) (i : Nat) (w : World) (hs : s.size ≤ 65536) (hi : i < s.size) (hd : Bin s i) (h0 : (sb s).getD i 0 ≠ 48) (h1 : (sb s).getD i 0 ≠ 49) :
    Calls Tryd.prog 27 #[.string s] w fun e w' => e = .returned (.tuple #[.slice none 0 0, .agg #[.int .i64 3, .int .i64 (i : Int)]]) ∧ Below w.heap.size w w' := by
  have hsi : (s.size : Int) ≤ 65536 := by omega
  have hml : (s.size + 63) / 64 ≤ 1024 := by omega
  have C1 : Hid (∀ w, Calls Tryd.prog 10 #[.int .i64 (s.size : Int)] w (MadeU w (mkRow (oneAt s) ((s.size + 63) / 64) 0))) := fun w => by
    have h := brnew_any (s.size : Int) w
    rw [newN_nat hs] at h
    exact h
  obtain ⟨m, hm⟩ : ∃ m, m = (s.size + 63) / 64 := ⟨_, rfl⟩
  rw [← hm] at C1 hml
  have HM := Lib.hid hm
  have HD := Lib.hid hd
  have HX0 : Hid (¬ (s[i]'hi).toNat = 48) := by rw [sb_at s i hi]; exact h0
  have HX1 : Hid (¬ (s[i]'hi).toNat = 49) := by rw [sb_at s i hi]; exact h1
  clear hd hm hs h0 h1
  go_enter Tryd.func27, Tryd.ntmps27
  go_wp2_with fail
  refine (C1.out _).mono ?_
  rintro e w1 ⟨v, rfl, ho, hb⟩
  obtain ⟨A1, c1, rfl, hcap, _, _⟩ := ho.out (mkRow_word _ _ _)
  rw [mkRow_length] at hcap ho ⊢
  have hsz : (w.alloc (.cells #[.int .i64 0, .int .i64 0] 39)).heap.size = w.heap.size + 1 := by simp
  rw [hsz] at ho hb
  have HO := Lib.hid ho
  have HF := Lib.hid ((FB.new w).below hb (Nat.lt_succ_self _))
  have HB : Hid (Below w.heap.size w w1) := ((Below.refl _ w).alloc (Nat.le_refl _) _).trans (hb.mono (Nat.le_succ _))
  clear ho hb hsz
  go_wp2_with fail
  go_loopw [15] (fun j wr => ∃ k : Nat, k ≤ i ∧ j = .int .i64 (k : Int) ∧ OutU (w.heap.size + 1) wr (.slice A1 m c1) (mkRow (oneAt s) m k) ∧ FB wr w.heap.size 0 0 ∧ Below w.heap.size w wr) (fun j _ => s.size - (intOf j).toNat)
  case atStart => exact ⟨0, Nat.zero_le _, rfl, HO.out, HF.out, HB.out⟩
  case round =>
    clear HO HF HB
    obtain ⟨k, hk, rfl, ho, hf, hb⟩ := hrel
    have HO := Lib.hid ho
    have HF := Lib.hid hf
    have HB := Lib.hid hb
    clear ho hf hb
    by_cases hlt : k < i
    · have hks : k < s.size := by omega
      rcases byte_cases (s := s) (k := k) (fun j hj => HD.out j (by omega)) hks with ⟨hb, hp⟩ | ⟨hb, hp⟩
      · have HS := Lib.hid (mkRow_no (n := m) hp)
        clear hp
        go_wp2_with fail
        go_roundw
        case rel => exact ⟨k + 1, hlt, by go_num, by rw [HS.out]; exact HO.out, HF.out, HB.out⟩
        case measure => simp [intOf]; omega
      · have HS := Lib.hid (mkRow_yes (n := m) hp)
        have hml2 := mkRow_length (oneAt s) m k
        have hqm : k / 64 < m := by have := HM.out; omega
        obtain ⟨g, c', he, hg, _, _⟩ := HO.out.block (by rw [hml2]; omega)
        injection he with e1 e2 e3
        subst e1
        have C2 := Lib.hid (brset_any (w.heap.size + 1) g m c1 k (k / 64) (k % 64) _ _ wr HO.out hml2 hg (by omega) (by omega) hqm (by omega) rfl (words_lt (mkRow_word _ _ _) _))
        clear hp e2 e3 hg hqm hml2
        go_wp2_with (go_at_call 32; refine C2.out.mono ?_; rintro e w2 ⟨rfl, ho2, hb2⟩)
        have HO2 := Lib.hid ho2
        have HF2 := Lib.hid (HF.out.below hb2 (Nat.lt_succ_self _))
        have HB2 := Lib.hid (HB.out.trans (hb2.mono (Nat.le_succ _)))
        clear ho2 hb2
        go_wp2_with fail
        go_roundw
        case rel => exact ⟨k + 1, hlt, by go_num, by rw [HS.out]; exact HO2.out, HF2.out, HB2.out⟩
        case measure => simp [intOf]; omega
    · obtain rfl : k = i := by omega
      have hc0 := HF.out.c0
      have hc1 := HF.out.c1
      have hf0 := HF.out.f 0
      have hf1 := HF.out.f 1
      have hr0 := (HF.out.two 3 (k : Int)).c0
      have hr1 := (HF.out.two 3 (k : Int)).c1
      have HB3 := Lib.hid ((HB.out.setCell (p := ⟨w.heap.size, 0, none⟩) (Nat.le_refl _) (.int .i64 3)).setCell (p := ⟨w.heap.size, 1, none⟩) (Nat.le_refl _) (.int .i64 (k : Int)))
      have hx0 : (((s[k]'hi).toNat : Int) == 48) = false := by rw [beq_eq_false_iff_ne]; have := HX0.out; omega
      have hx1 : (((s[k]'hi).toNat : Int) == 49) = false := by rw [beq_eq_false_iff_ne]; have := HX1.out; omega
      clear hlt hk
      go_wp2_with fail
      exact bodyPost_ret (v := .tuple #[.slice none 0 0, .agg #[.int .i64 3, .int .i64 (k : Int)]]) (by simp [results, Tryd.results27, go_sem, hr0, hr1]) rfl ⟨rfl, HB3.out⟩
end Go.Proofs.YtdpncnplbkmgoaaDoor
