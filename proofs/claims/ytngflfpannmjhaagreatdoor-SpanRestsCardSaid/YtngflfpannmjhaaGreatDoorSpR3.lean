/-
  The document's Starts.
-/
import Derived.Test.YtngflfpannmjhaaGreatDoorSpR2
namespace Go.Proofs.YtngflfpannmjhaaGreatDoor
open Go.RowKit Go.Lib Go.Sort
set_option linter.unusedVariables false

theorem up_len (l : List Int) (h : l.Pairwise (· < ·)) (hb : ∀ x ∈ l, 0 ≤ x ∧ x ≤ 65535) : l.length ≤ 65536 := by
  have key : ∀ (l : List Int) (lo : Int), l.Pairwise (· < ·) → (∀ x ∈ l, lo ≤ x ∧ x ≤ 65535) → lo ≤ 65536 → (l.length : Int) ≤ 65536 - lo := by
    intro l
    induction l with
    | nil => intro lo _ _ h; simp; omega
    | cons y l ih =>
      intro lo hp hx hlo
      obtain ⟨h1, h2⟩ := List.pairwise_cons.1 hp
      have hy := hx y (by simp)
      have := ih (y + 1) h2 (fun x hm => ⟨by have := h1 x hm; omega, (hx x (List.mem_cons_of_mem _ hm)).2⟩) (by omega)
      simp only [List.length_cons]
      omega
  have := key l 0 h hb (by omega)
  omega
theorem rput_val {v : Value} {xs : List Int} (y : Int) (w : World) (h : ValZ w v xs) (hm : xs.length ≤ 65536) (hy0 : -9223372036854775808 ≤ y ∧ y ≤ 9223372036854775807) :
    Calls Tryz.prog 30 #[v, .int .i64 y] w fun e w' => ∃ v', e = .returned v' ∧ ValZ w' v' (putL y xs) ∧ Below w.heap.size w w' := by
  obtain ⟨A, c, rfl, hc, hR⟩ := h
  exact rput_any A xs.length c xs y w hm hc hy0 hR

set_option maxRecDepth 10000 in
theorem rstarts_bad (A : Option Addr) (n cap : Nat) (L : List Sp) (w : World) (hn : n ≤ 8796093022206) (hA : SpRow w A n L) (hbad : chkAll L ≠ 0) :
    Calls Tryz.prog 9 #[.slice A n cap] w fun e w' => e = .returned (.tuple #[.slice none 0 0, .int .i64 (chkAll L)]) ∧ Below w.heap.size w w' := by
  have C := Lib.hid (rfirst_any A n cap L w hn hA)
  have hb1 : (chkAll L != 0) = true := by rw [bne_iff_ne]; exact hbad
  obtain ⟨c, hc⟩ : ∃ c, c = chkAll L := ⟨_, rfl⟩
  rw [← hc] at C hb1 ⊢
  clear hc hbad hA
  go_enter Tryz.func9, Tryz.ntmps9
  go_wp2_with fail
  refine C.out.mono ?_
  rintro e w1 ⟨rfl, hb⟩
  have B := Lib.hid hb
  clear hb
  go_wp2_with fail
  go_ret2
  exact ⟨rfl, B.out⟩

set_option maxRecDepth 10000 in
set_option maxHeartbeats 3200000 in
theorem rstarts_ok (A : Option Addr) (n cap : Nat) (L : List Sp) (w : World) (hn : n ≤ 8796093022206) (hA : SpRow w A n L) (hok : ∀ s ∈ L, OkS s) :
    Calls Tryz.prog 9 #[.slice A n cap] w fun e w' => ∃ v st, e = .returned (.tuple #[v, .int .i64 0]) ∧ Starts st L ∧ ValZ w' v st ∧ Below w.heap.size w w' := by
  have hz : chkAll L = 0 := chkAll_ok fun s hs => chkS_ok.2 (hok s hs)
  have C := Lib.hid (rfirst_any A n cap L w hn hA)
  rw [hz] at C
  have HA := Lib.hid hA
  have HL := Lib.hid hA.len
  have HOK := Lib.hid hok
  have hni : (n : Int) ≤ 8796093022206 := by omega
  have HN := Lib.hid hn
  clear hz hA hok hn
  go_enter Tryz.func9, Tryz.ntmps9
  go_wp2_with fail
  refine C.out.mono ?_
  rintro e w1 ⟨rfl, hb⟩
  have V0 : Hid (ValZ (w1.alloc (.cells #[.int .i64 0] 3)) (.slice (some ⟨w1.heap.size, 0, none⟩) 1 1) [0]) := (OwnZ.new w1 [0]).val (by decide)
  have B0 := Lib.hid (hb.alloc hb.size (.cells #[.int .i64 0] 3))
  clear hb C
  go_wp2_with fail
  go_loopw [5, 6] (fun vo i wr => ∃ (k : Nat) (st : List Int), k ≤ n ∧ i = .int .i64 (k : Int) ∧ Starts st (L.take k) ∧ ValZ wr vo st ∧ Below w.heap.size w wr) (fun _ i _ => n - (intOf i).toNat)
  case atStart => exact ⟨0, [0], Nat.zero_le _, rfl, starts_zero, V0.out, B0.out⟩
  case round =>
    clear V0 B0
    obtain ⟨k, st, hk, rfl, hS, hv, hb⟩ := hrel
    have S := Lib.hid hS
    have V := Lib.hid hv
    have B := Lib.hid hb
    clear hS hv hb
    by_cases hlt : k < n
    · obtain ⟨b, o, rfl, hb1, hc⟩ := HA.out.addr (by omega)
      have hkl : k < L.length := by rw [HL.out]; exact hlt
      have hsok := HOK.out _ (sp_getD_mem hkl)
      have hst := starts_put S.out hsok
      rw [← take_succ_sp L k hkl] at hst
      have hall : ∀ s ∈ L.take k, OkS s := fun s hs => HOK.out s (List.mem_of_mem_take hs)
      have hbd := S.out.bounds hall
      have hl1 := Lib.hid (up_len st S.out.up hbd)
      obtain ⟨x, hx⟩ : ∃ x, x = L.getD k (0, 0) := ⟨_, rfl⟩
      rw [← hx] at hsok hst
      obtain ⟨x1, x2⟩ := x
      have hxb : (0 ≤ x1 ∧ x1 ≤ 65535) ∧ 0 ≤ x2 ∧ x2 ≤ 65535 := by unfold OkS at hsok; dsimp only at hsok; omega
      obtain ⟨⟨g1, g2⟩, g3, g4⟩ := hxb
      have hp := putL_up x1 st S.out.up
      have hl2 := Lib.hid (up_len (putL x1 st) hp.1 fun y hy => by
        rcases (hp.2 y).1 hy with h | h
        · omega
        · exact hbd y h)
      have HC := Lib.hid (fun (W : World) (hb : Below w.heap.size w W) => And.intro ((hb.cell (p := ⟨b, o + k * 2, none⟩) hb1).trans (hc k hlt).1) ((hb.cell (p := ⟨b, o + k * 2 + 1, none⟩) hb1).trans (hc k hlt).2))
      rw [← hx] at HC
      have HC : Hid (∀ (W : World), Below w.heap.size w W → W.cell? ⟨b, o + k * 2, none⟩ = some (.int .i64 x1) ∧ W.cell? ⟨b, o + k * 2 + 1, none⟩ = some (.int .i64 x2)) := HC.out
      have HST := Lib.hid hst
      have u := k_wrap hlt (by omega)
      have u2 := add_one_wrap g3 g4
      have D := Lib.hid (B.out.drew)
      have V2 : Hid (ValZ wr.drew u5 st) := V.out.below (Below.refl _ _).drew
      have hS := HC.out _ D.out
      have q1 := Lib.hid (show -9223372036854775808 ≤ x1 ∧ x1 ≤ 9223372036854775807 by omega)
      have q2 := Lib.hid (show -9223372036854775808 ≤ x2 + 1 ∧ x2 + 1 ≤ 9223372036854775807 by omega)
      clear hx hc hb1 hsok hst hall hbd hp S V B
      go_wp2_with fail
      go_region_held3 (fun w' => w'.cell? ⟨b, o + k * 2, none⟩ = some (.int .i64 x1) ∧ w'.cell? ⟨b, o + k * 2 + 1, none⟩ = some (.int .i64 x2))
        (first | exact hS | go_keep)
        (first
          | (go_at_call 30; with_reducible refine (rput_val _ _ V4.out hl2.out q2.out).mono ?_; rintro e w' ⟨v5, rfl, hv5, hb⟩; have D := Lib.hid (below_both D.out hb); have hS := HC.out _ D.out; have V5 := Lib.hid hv5; clear hb hv5)
          | (go_at_call 30; with_reducible refine (rput_val _ _ V2.out hl1.out q1.out).mono ?_; rintro e w' ⟨v4, rfl, hv4, hb⟩; have D := Lib.hid (below_both D.out hb); have hS := HC.out _ D.out; have V4 := Lib.hid hv4; clear hb hv4)
          | fail)
      all_goals
        go_wp2_with fail
        go_roundw
        case rel => exact ⟨k + 1, _, hlt, by go_num, HST.out, V5.out, D.out⟩
        case measure => simp [intOf]; omega
    · obtain rfl : k = n := by omega
      have hst := S.out
      rw [List.take_of_length_le (by rw [HL.out]; exact Nat.le_refl _)] at hst
      have S2 := Lib.hid hst
      clear hst S hlt hk
      go_wp2_with fail
      go_ret2
      exact ⟨_, st, rfl, S2.out, V.out, B.out⟩
end Go.Proofs.YtngflfpannmjhaaGreatDoor
