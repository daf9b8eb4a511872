/-
  The document's put, Starts.
-/
import Derived.Test.YtngflfpannmjhaaGreatDoorSpR1
import Derived.Deep.RegionHeld3
namespace Go.Proofs.YtngflfpannmjhaaGreatDoor
open Go.RowKit Go.Lib Go.Sort
set_option linter.unusedVariables false

theorem putF_mem (n : Int) : ∀ (l : List Int) (d : Bool) (x : Int), x ∈ putF n l d → x = n ∨ x ∈ l
  | [], d, x, h => by
    unfold putF at h
    split at h
    · cases h
    · exact .inl (List.mem_singleton.1 h)
  | y :: l, d, x, h => by
    unfold putF at h
    rcases List.mem_append.1 h with h | h
    · rcases List.mem_append.1 h with h | h
      · split at h
        · exact .inl (List.mem_singleton.1 h)
        · cases h
      · split at h
        · exact .inr (by rw [List.mem_singleton.1 h]; simp)
        · cases h
    · rcases putF_mem n l _ x h with h | h
      · exact .inl h
      · exact .inr (List.mem_cons_of_mem _ h)
theorem drop_succ_int (xs : List Int) (k : Nat) (h : k < xs.length) : xs.drop k = xs.getD k 0 :: xs.drop (k + 1) := by
  rw [List.drop_eq_getElem_cons h, List.getD_eq_getElem?_getD, List.getElem?_eq_getElem h]
  rfl
theorem putF_step {y x : Int} {O l : List Int} {d : Bool} {R : List Int} (h : O ++ putF y (x :: l) d = R) : (O ++ ((if d = false ∧ y ≤ x then [y] else []) ++ (if x ≠ y then [x] else []))) ++ putF y l (d || decide (y ≤ x)) = R := by
  rw [← h]
  conv => rhs; unfold putF
  simp only [List.append_assoc]
theorem putF_end {y : Int} {O : List Int} {d : Bool} {R : List Int} (h : O ++ putF y [] d = R) : R = O ++ (if d then [] else [y]) := by rw [← h]; rfl

set_option maxRecDepth 10000 in
set_option maxHeartbeats 3200000 in
theorem rput_in (A : Option Addr) (m cap : Nat) (xs : List Int) (y : Int) (w : World) (hm : m ≤ 65536) (hy : y ≤ 65535) (hA : RowZ w A m xs) :
    Calls Tryz.prog 30 #[.slice A m cap, .int .i64 y] w fun e w' => ∃ v, e = .returned v ∧ OutZ w.heap.size w' v (putF y xs false) ∧ Below w.heap.size w w' := by
  have hmi : (m : Int) ≤ 65536 := by omega
  have HA := Lib.hid hA
  have HL := Lib.hid hA.len
  clear hA hm
  go_enter Tryz.func30, Tryz.ntmps30
  go_wp2_with fail
  go_loopw [5, 6, 7] (fun vo q i wr => ∃ (k : Nat) (d : Bool) (O : List Int), k ≤ m ∧ i = .int .i64 (k : Int) ∧ q = .bool d ∧ Hid (O ++ putF y (xs.drop k) d = putF y xs false) ∧ O.length ≤ 2 * k ∧ OutZ w.heap.size wr vo O ∧ Below w.heap.size w wr) (fun _ _ i _ => m - (intOf i).toNat)
  case atStart => exact ⟨0, false, [], Nat.zero_le _, rfl, rfl, rfl, Nat.zero_le _, OutZ.nil _ _, Below.refl _ _⟩
  case round =>
    obtain ⟨k, d, O, hk, rfl, rfl, HF, hO, ho, hb⟩ := hrel
    have HO := Lib.hid ho
    have B := Lib.hid hb
    clear ho hb
    have hl1 : Hid (O.length + 1 ≤ 1048576) := by have : O.length + 1 ≤ 1048576 := by omega
                                                  exact this
    by_cases hlt : k < m
    · obtain ⟨b, o, rfl, hb1, hc⟩ := HA.out.addr (by omega)
      have hc0 := (B.out.cell (p := ⟨b, o + k, none⟩) hb1).trans (hc k hlt)
      have hst := HF.out
      rw [drop_succ_int xs k (by rw [HL.out]; exact hlt)] at hst
      obtain ⟨x, hx⟩ : ∃ x, x = xs.getD k 0 := ⟨_, rfl⟩
      rw [← hx] at hc0 hst
      have hst2 := putF_step hst
      have HCB := Lib.hid (fun (W : World) (hb : Below w.heap.size w W) => (hb.cell (p := ⟨b, o + k, none⟩) hb1).trans (hc k hlt))
      rw [← hx] at HCB
      have u := k_wrap hlt (by omega)
      clear hx hc hb1 HF hst
      rcases (by omega : x < y ∨ x = y ∨ y < x) with hxy | hxy | hxy
      · cases d
        · have n1 : ¬ y ≤ x := by omega
          have n2 : (x != y) = true := by rw [bne_iff_ne]; omega
          have HN : Hid (O.length ≤ 2 * k) := hO
          clear hO
          have E := Lib.hid (show (O ++ [x]) ++ putF y (xs.drop (k + 1)) false = putF y xs false by have h := hst2; simp [n1, show x ≠ y by omega] at h ⊢; exact h)
          clear hst2
          go_wp2_with (at_builtin; refine wpList_appendZ (by rfl) (.tmp 37) (.tmp 42) (by rfl) (news := [x]) _ 1 (by rfl) (by rfl) (by rfl) (by rfl) HO.out B.out B.out.size hl1.out ?_; intro v' w' ho' hb')
          have HO3 := Lib.hid ho'
          have B3 := Lib.hid hb'
          go_roundw
          case rel => exact ⟨k + 1, false, O ++ [x], hlt, by go_num, rfl, E.out, by have := HN.out; simp; omega, HO3.out, B3.out⟩
          case measure => simp [intOf]; omega
        · have n1 : ¬ y ≤ x := by omega
          have n2 : (x != y) = true := by rw [bne_iff_ne]; omega
          have HN : Hid (O.length ≤ 2 * k) := hO
          clear hO
          have E := Lib.hid (show (O ++ [x]) ++ putF y (xs.drop (k + 1)) true = putF y xs false by have h := hst2; simp [n1, show x ≠ y by omega] at h ⊢; exact h)
          clear hst2
          go_wp2_with (at_builtin; refine wpList_appendZ (by rfl) (.tmp 37) (.tmp 42) (by rfl) (news := [x]) _ 1 (by rfl) (by rfl) (by rfl) (by rfl) HO.out B.out B.out.size hl1.out ?_; intro v' w' ho' hb')
          have HO3 := Lib.hid ho'
          have B3 := Lib.hid hb'
          go_roundw
          case rel => exact ⟨k + 1, true, O ++ [x], hlt, by go_num, rfl, E.out, by have := HN.out; simp; omega, HO3.out, B3.out⟩
          case measure => simp [intOf]; omega
      · cases d
        · subst hxy
          have n2 : (x != x) = false := by simp
          have n1 : x ≤ x := Int.le_refl _
          have HN : Hid (O.length ≤ 2 * k) := hO
          clear hO
          have E := Lib.hid (show (O ++ [x]) ++ putF x (xs.drop (k + 1)) true = putF x xs false by have h := hst2; simp at h ⊢; exact h)
          clear hst2
          go_wp2_with (first | (at_builtin; refine wpList_appendZ (by rfl) (.tmp 27) (.tmp 29) (by rfl) (news := [x]) _ 1 (by rfl) (by rfl) (by rfl) (by rfl) HO.out B.out B.out.size hl1.out ?_; intro v' w' ho' hb'; have hc1 : w'.cell? ⟨b, o + k, none⟩ = some (.int .i64 x) := HCB.out _ hb'; have HO2 := Lib.hid ho'; have B2 := Lib.hid hb'; clear ho' hb') | fail)
          go_roundw
          case rel => exact ⟨k + 1, true, O ++ [x], hlt, by go_num, rfl, E.out, by have := HN.out; simp; omega, HO2.out, B2.out⟩
          case measure => simp [intOf]; omega
        · subst hxy
          have n2 : (x != x) = false := by simp
          have n1 : x ≤ x := Int.le_refl _
          have HN : Hid (O.length ≤ 2 * k) := hO
          clear hO
          have E := Lib.hid (show (O) ++ putF x (xs.drop (k + 1)) true = putF x xs false by have h := hst2; simp at h ⊢; exact h)
          clear hst2
          go_wp2_with fail
          go_roundw
          case rel => exact ⟨k + 1, true, O, hlt, by go_num, rfl, E.out, by have := HN.out; simp; omega, HO.out, B.out⟩
          case measure => simp [intOf]; omega
      · cases d
        · have n1 : y ≤ x := by omega
          have n2 : (x != y) = true := by rw [bne_iff_ne]; omega
          have HN : Hid (O.length ≤ 2 * k) := hO
          clear hO
          have E := Lib.hid (show (O ++ [y] ++ [x]) ++ putF y (xs.drop (k + 1)) true = putF y xs false by have h := hst2; simp [n1, show x ≠ y by omega] at h ⊢; exact h)
          clear hst2
          have hl2 : Hid ((O ++ [y]).length + 1 ≤ 1048576) := by have := hl1.out; have := HN.out; show (O ++ [y]).length + 1 ≤ _; simp; omega
          go_wp2_with (first | (at_builtin; refine wpList_appendZ (by rfl) (.tmp 27) (.tmp 29) (by rfl) (news := [y]) _ 1 (by rfl) (by rfl) (by rfl) (by rfl) HO.out B.out B.out.size hl1.out ?_; intro v' w' ho' hb'; have hc1 : w'.cell? ⟨b, o + k, none⟩ = some (.int .i64 x) := HCB.out _ hb'; have HO2 := Lib.hid ho'; have B2 := Lib.hid hb'; clear ho' hb') | (at_builtin; refine wpList_appendZ (by rfl) (.tmp 37) (.tmp 42) (by rfl) (news := [x]) _ 1 (by rfl) (by rfl) (by rfl) (by rfl) HO2.out B2.out B2.out.size hl2.out ?_; intro v2 w2 ho' hb'; have HO3 := Lib.hid ho'; have B3 := Lib.hid hb'; clear ho' hb') | fail)
          go_roundw
          case rel => exact ⟨k + 1, true, O ++ [y] ++ [x], hlt, by go_num, rfl, E.out, by have := HN.out; simp; omega, HO3.out, B3.out⟩
          case measure => simp [intOf]; omega
        · have n1 : y ≤ x := by omega
          have n2 : (x != y) = true := by rw [bne_iff_ne]; omega
          have HN : Hid (O.length ≤ 2 * k) := hO
          clear hO
          have E := Lib.hid (show (O ++ [x]) ++ putF y (xs.drop (k + 1)) true = putF y xs false by have h := hst2; simp [n1, show x ≠ y by omega] at h ⊢; exact h)
          clear hst2
          go_wp2_with (at_builtin; refine wpList_appendZ (by rfl) (.tmp 37) (.tmp 42) (by rfl) (news := [x]) _ 1 (by rfl) (by rfl) (by rfl) (by rfl) HO.out B.out B.out.size hl1.out ?_; intro v' w' ho' hb')
          have HO3 := Lib.hid ho'
          have B3 := Lib.hid hb'
          go_roundw
          case rel => exact ⟨k + 1, true, O ++ [x], hlt, by go_num, rfl, E.out, by have := HN.out; simp; omega, HO3.out, B3.out⟩
          case measure => simp [intOf]; omega
    · obtain rfl : k = m := by omega
      have hst := HF.out
      rw [List.drop_of_length_le (by rw [HL.out]; exact Nat.le_refl _)] at hst
      have hE := putF_end hst
      clear hst HF hlt hk hO
      cases d
      · have HE := Lib.hid hE
        clear hE
        go_wp2_with (at_builtin; refine wpList_appendZ (by rfl) (.tmp 46) (.tmp 48) (by rfl) (news := [y]) _ 1 (by rfl) (by rfl) (by rfl) (by rfl) HO.out B.out B.out.size hl1.out ?_; intro v' w' ho' hb')
        have HO2 := Lib.hid ho'
        have B2 := Lib.hid hb'
        clear ho' hb'
        go_wp2_with fail
        go_ret
        exact ⟨_, rfl, by rw [HE.out]; exact HO2.out, B2.out⟩
      · have HE := Lib.hid hE
        clear hE
        go_wp2_with fail
        go_ret
        exact ⟨_, rfl, by rw [HE.out]; simpa using HO.out, B.out⟩
theorem rput_any (A : Option Addr) (m cap : Nat) (xs : List Int) (y : Int) (w : World) (hm : m ≤ 65536) (hmc : m ≤ cap) (hy0 : -9223372036854775808 ≤ y ∧ y ≤ 9223372036854775807) (hA : RowZ w A m xs) :
    Calls Tryz.prog 30 #[.slice A m cap, .int .i64 y] w fun e w' => ∃ v, e = .returned v ∧ ValZ w' v (putL y xs) ∧ Below w.heap.size w w' := by
  by_cases hy : 65535 < y
  · have HE := Lib.hid (show putL y xs = xs from if_pos hy)
    have HA := Lib.hid hA
    have HL := Lib.hid hA.len
    clear hA
    go_enter Tryz.func30, Tryz.ntmps30
    go_wp2_with fail
    go_ret
    refine ⟨_, rfl, ?_, Below.refl _ _⟩
    rw [HE.out]
    have hl := HL.out
    subst hl
    exact ⟨A, cap, rfl, hmc, HA.out⟩
  · refine (rput_in A m cap xs y w hm (by omega) hA).mono ?_
    rintro e w' ⟨v, rfl, ho, hb⟩
    refine ⟨v, rfl, ?_, hb⟩
    rw [show putL y xs = putF y xs false from if_neg hy]
    refine ho.val fun x hx => ?_
    rcases putF_mem y xs false x hx with rfl | hx
    · exact hy0
    · exact hA.2.1 x hx
end Go.Proofs.YtngflfpannmjhaaGreatDoor
