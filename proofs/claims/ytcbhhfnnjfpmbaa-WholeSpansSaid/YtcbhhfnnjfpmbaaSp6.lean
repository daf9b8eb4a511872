/-
  Sort and Compact over a slice of the call's own; Starts.
-/
import Derived.Test.YtcbhhfnnjfpmbaaSp5
namespace Go.Proofs.Ytcbhhfnnjfpmbaa
open Go.RowKit Go.Lib Go.Sort
set_option linter.unusedVariables false

theorem cellsZ_map (xs : List Int) : cellsZ xs = xs.map (Value.int .i64) := rfl
theorem OutZ.block2 {B : Nat} {w : World} {v : Value} {xs : List Int} (h : OutZ B w v xs) (h0 : 0 < xs.length) : ∃ g c, v = .slice (some ⟨g, 0, none⟩) xs.length c ∧ B ≤ g ∧ xs.length ≤ c ∧ c ≤ maxLen ∧ g < w.heap.size := by
  obtain ⟨g, c, rfl, h1, h2, h3⟩ := h.block h0
  exact ⟨g, c, rfl, h1, h2, h3, (World.ownsRow.lt h g rfl).2⟩
theorem OutZ.len {B g n c : Nat} {w : World} {xs : List Int} (h : OutZ B w (.slice (some ⟨g, 0, none⟩) n c) xs) : xs.length = n := by
  rcases h.2 with ⟨h2, _⟩ | ⟨g', cap, cur, hv, _⟩
  · cases h2
  · injection hv with _ h2
    exact h2.symm
theorem ssort_own (B g c n : Nat) (xs : List Int) (w : World) (h : OutZ B w (.slice (some ⟨g, 0, none⟩) n c) xs) (hn : xs.length = n) (hl : n < 4611686018427387904) :
    Calls Try.prog 10 #[.slice (some ⟨g, 0, none⟩) n c] w fun e w' => e = .returned (.tuple #[]) ∧ OutZ B w' (.slice (some ⟨g, 0, none⟩) n c) (sortI xs) ∧ w.grownBy w' (some g) := by
  subst hn
  obtain ⟨h1, h2 | ⟨g', cap, cur, hv, hB, hh, h4, h5, hs, ht⟩⟩ := h
  · cases h2.1
  · injection hv with e1 e2 e3
    injection e1 with e1
    injection e1 with e1 _
    subst e1 e3
    have hlt : g < w.heap.size := by
      rcases Nat.lt_or_ge g w.heap.size with hlt | hge
      · exact hlt
      · rw [Array.getElem?_eq_none hge] at hh; cases hh
    rw [Nat.mul_one] at ht
    refine (show Calls Try.prog 10 #[.slice (some ⟨g, 0, none⟩) xs.length c] w _ from Any.slices_Sort_int lays189 g 0 c xs w (holds_of_blockI hh ht) hlt hl).mono ?_
    rintro e w' ⟨rfl, m, os, rfl⟩
    have hlen : (sortI xs).length = xs.length := (sortI_perm xs).length_eq
    refine ⟨rfl, ?_, grownBy_sortedI _⟩
    have h := ownsRow_sortedI (w := w) (base := B) (g := g) (cap := c) (n := m) (os := os) (ss := xs) (ts := sortI xs) hlen hB hh h4 h5 hs
    unfold OutZ
    rw [hlen]
    exact h
theorem heap_putI {w : World} {g n : Nat} {cur : Array Value} {e : TypeId} {fr : Nat × Nat} (d : Array Int) (hb : w.heap[g]? = some (.cells cur e fr)) :
    (putRow (Value.int .i64) (Sort.ahead w n) g 0 d).heap[g]? = some (.cells (putCells (Value.int .i64) 0 d cur) e fr) := by
  simp [putRow, mapBlock, Sort.ahead, Array.getElem?_modify, hb, onCells]
theorem grownBy_putI {w : World} {g n : Nat} (d : Array Int) : w.grownBy (putRow (Value.int .i64) (Sort.ahead w n) g 0 d) (some g) := by
  refine ⟨rfl, rfl, rfl, by simp, fun k hk hne => ?_⟩
  have : g ≠ k := fun e => hne (by rw [e])
  simp [putRow, mapBlock, Sort.ahead, Array.getElem?_modify, this]
theorem compact_le (xs : List Int) : (compact xs).length ≤ xs.length := by
  unfold compact compactUpTo
  rw [List.length_map]
  refine Nat.le_trans (List.length_filter_le _ _) ?_
  simp
theorem scompact_own (B g c n : Nat) (xs : List Int) (w : World) (h : OutZ B w (.slice (some ⟨g, 0, none⟩) n c) xs) (hn : xs.length = n) (hl : n ≤ 9223372036854775807) :
    Calls Try.prog 11 #[.slice (some ⟨g, 0, none⟩) n c] w fun e w' => e = .returned (.slice (some ⟨g, 0, none⟩) (compact xs).length c) ∧ OutZ B w' (.slice (some ⟨g, 0, none⟩) (compact xs).length c) (compact xs) ∧ w.grownBy w' (some g) := by
  subst hn
  obtain ⟨h1, h2 | ⟨g', cap, cur, hv, hB, hh, h4, h5, hs, ht⟩⟩ := h
  · cases h2.1
  · injection hv with e1 e2 e3
    injection e1 with e1
    injection e1 with e1 _
    subst e1 e3
    rw [Nat.mul_one] at ht hs
    refine (show Calls Try.prog 11 #[.slice (some ⟨g, 0, none⟩) xs.length c] w _ from Any.slices_Compact_int laysCompact g 0 c xs w (holds_of_blockI hh ht) hl h4).mono ?_
    rintro e w' ⟨rfl, m, rfl⟩
    refine ⟨rfl, ⟨by simp [cellsZ_length], .inr ⟨g, c, _, rfl, hB, heap_putI _ hh, Nat.le_trans (compact_le xs) h4, h5, by simp [putCells, hs], ?_⟩⟩, grownBy_putI _⟩
    have hll := compact_le xs
    have htk := take_putCellsI cur (compact xs ++ List.replicate (xs.length - (compact xs).length) 0) (by simp; omega)
    rw [Nat.mul_one]
    have e2 : (compact xs ++ List.replicate (xs.length - (compact xs).length) 0).length = xs.length := by simp; omega
    rw [e2] at htk
    have e3 : (putCells (Value.int .i64) 0 (compact xs ++ List.replicate (xs.length - (compact xs).length) 0).toArray cur).toList.take (compact xs).length = ((putCells (Value.int .i64) 0 (compact xs ++ List.replicate (xs.length - (compact xs).length) 0).toArray cur).toList.take xs.length).take (compact xs).length := by
      rw [List.take_take, Nat.min_eq_left hll]
    rw [e3, htk, List.map_append, List.take_append_of_le_length (by simp)]
    rw [List.take_of_length_le (by simp), cellsZ_map]

set_option maxRecDepth 10000 in
theorem sstarts_bad (A : Option Addr) (n cap : Nat) (L : List Sp) (w : World) (hn : n ≤ 8796093022207) (hA : SpRow w A n L) (hbad : chkAll L ≠ 0) :
    Calls Try.prog 4 #[.slice A n cap] w fun e w' => e = .returned (.tuple #[.slice none 0 0, .int .i64 (chkAll L)]) ∧ Below w.heap.size w w' := by
  have C := Lib.hid (scheckAll_any A n cap L w hn hA)
  have hb1 : (chkAll L != 0) = true := by rw [bne_iff_ne]; exact hbad
  obtain ⟨c, hc⟩ : ∃ c, c = chkAll L := ⟨_, rfl⟩
  rw [← hc] at C hb1 ⊢
  clear hc hbad hA
  go_enter Try.func4, Try.ntmps4
  go_wp2_with fail
  refine C.out.mono ?_
  rintro e w1 ⟨rfl, hb⟩
  have B := Lib.hid hb
  clear hb
  go_wp2_with fail
  go_ret2
  exact ⟨rfl, B.out⟩

set_option maxRecDepth 10000 in
set_option maxHeartbeats 1600000 in
theorem sstarts_ok (A : Option Addr) (n cap : Nat) (L : List Sp) (w : World) (hn : n ≤ 8796093021952) (hA : SpRow w A n L) (hok : ∀ s ∈ L, OkS s) :
    Calls Try.prog 4 #[.slice A n cap] w fun e w' => ∃ v st, e = .returned (.tuple #[v, .int .i64 0]) ∧ Starts st L ∧ OutZ w.heap.size w' v st ∧ Below w.heap.size w w' := by
  have hz : chkAll L = 0 := chkAll_ok fun s hs => chkS_ok.2 (hok s hs)
  have C := Lib.hid (scheckAll_any A n cap L w (by omega) hA)
  rw [hz] at C
  have HA := Lib.hid hA
  have HL := Lib.hid hA.len
  have HOK := Lib.hid hok
  have hni : (n : Int) ≤ 8796093021952 := by omega
  have HN := Lib.hid hn
  clear hz hA hok hn
  go_enter Try.func4, Try.ntmps4
  go_wp2_with fail
  refine C.out.mono ?_
  rintro e w1 ⟨rfl, hb⟩
  have B := Lib.hid hb
  clear hb C
  go_wp2_with fail
  have hs1 : (w1.alloc (.cells #[.int .i64 0] 3)).heap.size = w1.heap.size + 1 := by simp
  have hbx : BoxZ w.heap.size (w1.heap.size + 1) ((w1.alloc (.cells #[.int .i64 0] 3)).alloc (.cells #[.slice (some ⟨w1.heap.size, 0, none⟩) 1 1] 28)) (marksTo L 0) (.slice (some ⟨w1.heap.size, 0, none⟩) 1 1) := by
    have hbox := heap_alloc_new (w1.alloc (.cells #[.int .i64 0] 3)) (.cells #[.slice (some ⟨w1.heap.size, 0, none⟩) 1 1] 28)
    rw [hs1] at hbox
    refine ⟨hbox, ((OwnZ.new w1 [0]).outv B.out.size (by simp [maxLen])).alloc _, ?_, by have := B.out.size; omega⟩
    intro e
    have e2 : w1.heap.size = w1.heap.size + 1 := Option.some.inj e
    omega
  have HX := Lib.hid hbx
  have HB : Hid (Below w.heap.size w ((w1.alloc (.cells #[.int .i64 0] 3)).alloc (.cells #[.slice (some ⟨w1.heap.size, 0, none⟩) 1 1] 28))) := (B.out.alloc B.out.size _).alloc (by rw [hs1]; have := B.out.size; omega) _
  clear hbx hs1
  obtain ⟨g, hg⟩ : ∃ g, g = w1.heap.size + 1 := ⟨_, rfl⟩
  rw [← hg] at HX ⊢
  clear hg B
  go_loopw [18] (fun i wr => ∃ k : Nat, k ≤ n ∧ i = .int .i64 (k : Int) ∧ (∃ v, BoxZ w.heap.size g wr (marksTo L k) v) ∧ Below w.heap.size w wr) (fun i _ => n - (intOf i).toNat)
  case atStart => exact ⟨0, Nat.zero_le _, rfl, ⟨_, HX.out⟩, HB.out⟩
  case round =>
    clear HX HB
    obtain ⟨k, hk, rfl, ⟨v, hx⟩, hb⟩ := hrel
    have HX := Lib.hid hx
    have B := Lib.hid hb
    clear hx hb
    by_cases hlt : k < n
    · obtain ⟨b, o, rfl, hb1, hc⟩ := HA.out.addr (by omega)
      have hc0 := (B.out.cell (p := ⟨b, o + k * 2, none⟩) hb1).trans (hc k hlt).1
      have hc1 := (B.out.cell (p := ⟨b, o + k * 2 + 1, none⟩) hb1).trans (hc k hlt).2
      have hkl : k < L.length := by rw [HL.out]; exact hlt
      have hsok := HOK.out _ (sp_getD_mem hkl)
      have hst := marks_step (L := L.take k) _ hsok
      rw [← take_succ_sp L k hkl] at hst
      have hml := marks_length (L.take k)
      have hml2 : (L.take k).length = k := by rw [List.length_take]; omega
      have HM1 : Hid ((marksTo L k).length + 1 ≤ 17592186044416) := by have := HN.out; show (marks (L.take k)).length + 1 ≤ _; omega
      have HM2 : Hid ((marksTo L k ++ if 0 ≤ (L.getD k (0, 0)).1 ∧ (L.getD k (0, 0)).1 ≤ 65535 then [(L.getD k (0, 0)).1] else []).length + 1 ≤ 17592186044416) := by
        have := HN.out
        show (marks (L.take k) ++ _).length + 1 ≤ _
        rw [List.length_append]
        have : (if 0 ≤ (L.getD k (0, 0)).1 ∧ (L.getD k (0, 0)).1 ≤ 65535 then [(L.getD k (0, 0)).1] else []).length ≤ 1 := by split <;> simp
        omega
      obtain ⟨x, hxe⟩ : ∃ x, x = L.getD k (0, 0) := ⟨_, rfl⟩
      rw [← hxe] at hc0 hc1 hst HM2 hsok
      obtain ⟨x1, x2⟩ := x
      have hc0 : wr.cell? ⟨b, o + k * 2, none⟩ = some (.int .i64 x1) := hc0
      have hc1 : wr.cell? ⟨b, o + k * 2 + 1, none⟩ = some (.int .i64 x2) := hc1
      have HST : Hid ((marksTo L k ++ if 0 ≤ x1 ∧ x1 ≤ 65535 then [x1] else []) ++ (if 0 ≤ x2 + 1 ∧ x2 + 1 ≤ 65535 then [x2 + 1] else []) = marksTo L (k + 1)) := hst
      have hx2a : -1 ≤ x2 ∧ x2 ≤ 65535 := by unfold OkS at hsok; dsimp only at hsok; omega
      obtain ⟨hx2l, hx2h⟩ := hx2a
      clear hxe hc hb1 hst hml hml2 hsok
      go_wp2_with fail
      have HX2 := Lib.hid (HX.out.below ((Below.refl _ _).alloc (Nat.le_refl _) (.cells #[.int .i64 x1, .int .i64 x2] 27)))
      have S := Lib.hid (SB.new wr x1 x2)
      have B := Lib.hid (B.out.alloc B.out.size (.cells #[.int .i64 x1, .int .i64 x2] 27))
      clear hc0 hc1
      have hgs : wr.heap.size ≠ g := by have := HX.out.lt; omega
      have hvs : v.ownBlock ≠ some wr.heap.size := fun e => by have := (World.ownsRow.lt HX.out.own _ e).2; omega
      have hvl : wr.heap.size < (wr.alloc (.cells #[.int .i64 x1, .int .i64 x2] 27)).heap.size := by simp
      refine (mark_any w.heap.size g x1 _ v _ HX2.out HM1.out).mono ?_
      rintro e w2 ⟨rfl, ⟨v2, hx2⟩, hb2, hk2⟩
      have S2 : Hid (SB w2 wr.heap.size x1 x2) := (hk2 _ hvl hgs hvs).trans S.out
      have HX3 := Lib.hid hx2
      have B := Lib.hid (B.out.trans hb2)
      have s0 := S2.out.c0
      have s1 := S2.out.c1
      have hw : wrap64 (x2 + 1) = x2 + 1 := by unfold wrap64; omega
      clear hx2 hb2 hk2 hgs hvs hvl HX2 S
      go_wp2_with fail
      refine (mark_any w.heap.size g (x2 + 1) _ v2 _ HX3.out HM2.out).mono ?_
      rintro e w3 ⟨rfl, ⟨v3, hx3⟩, hb3, _⟩
      rw [HST.out] at hx3
      have HX4 := Lib.hid hx3
      have B := Lib.hid (B.out.trans hb3)
      clear hx3 hb3 s0 s1 hw
      go_wp2_with fail
      go_roundw
      case rel => exact ⟨k + 1, hlt, by go_num, ⟨_, HX4.out⟩, B.out⟩
      case measure => simp [intOf]; omega
    · obtain rfl : k = n := by omega
      have hml : marksTo L k = marks L := by show marks (L.take k) = marks L; rw [List.take_of_length_le (by rw [HL.out]; exact Nat.le_refl _)]
      rw [hml] at HX
      have hmn := marks_length L
      have hN := HN.out
      have hLl := HL.out
      obtain ⟨gv, cv, rfl, hBv, hcv, hcm, hgl⟩ := HX.out.own.block2 (by simp [marks])
      obtain ⟨m, hm⟩ : ∃ m, m = (marks L).length := ⟨_, rfl⟩
      rw [← hm] at HX hcv
      have hmb : m ≤ 17592186044416 := by omega
      have HP := Lib.hid (starts_of L (List.Perm.refl (marks L)))
      have hap : gv ≠ g := fun e => HX.out.apart (by rw [e]; rfl)
      have CS := Lib.hid (ssort_own w.heap.size gv cv m (marks L) wr HX.out.own hm.symm (by omega))
      have hc0 := HX.out.cell
      clear hml hmn hm hlt hk
      go_wp2_with fail
      refine CS.out.mono ?_
      rintro e w2 ⟨rfl, ho2, hg2⟩
      have hbx2 : w2.heap[g]? = some (.cells #[.slice (some ⟨gv, 0, none⟩) m cv] 28 (0, 0)) := (hg2.block g HX.out.lt (fun e => hap (Option.some.inj e).symm)).trans HX.out.box
      have hc2 : w2.cell? ⟨g, 0, none⟩ = some (.slice (some ⟨gv, 0, none⟩) m cv) := cell_of_row w2 _ _ _ _ _ hbx2
      have HO2 := Lib.hid ho2
      have B := Lib.hid (B.out.grown hg2 B.out.size (fun q hq => by have := Option.some.inj hq; omega))
      have CC := Lib.hid (scompact_own w.heap.size gv cv m (sortI (marks L)) w2 ho2 (by
        have := (sortI_perm (marks L)).length_eq
        have h3 := ho2.len
        omega) (by omega))
      clear hc0 hbx2 ho2 hg2 CS
      go_wp2_with fail
      refine CC.out.mono ?_
      rintro e w3 ⟨rfl, ho3, hg3⟩
      have HO3 := Lib.hid ho3
      have B := Lib.hid (B.out.grown hg3 B.out.size (fun q hq => by have := Option.some.inj hq; omega))
      clear ho3 hg3 hc2
      go_wp2_with fail
      go_ret2
      exact ⟨_, _, rfl, HP.out, HO3.out, B.out⟩
end Go.Proofs.Ytcbhhfnnjfpmbaa
