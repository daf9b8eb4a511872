/-
  direct's New, where it makes a table.
-/
import Derived.Test.YthikjngmaekjgaaDr1
namespace Go.Proofs.Ythikjngmaekjgaa
open Go.RowKit
set_option linter.unusedVariables false

/-- The table as it is made. -/
theorem TabK.start (w : World) (l : List Int) (m most c : Nat) : TabK ((w.alloc (.map #[] 0)).alloc (.cells #[.int .i64 (c : Int), .int .i64 (most : Int), .map (some w.heap.size)] 45)) (w.heap.size + 1) w.heap.size l m most 0 0 c (.map []) := by
  have hs : (w.alloc (.map #[] 0)).heap.size = w.heap.size + 1 := by simp
  have hn := new_cells (w.alloc (.map #[] 0)) [.int .i64 (c : Int), .int .i64 (most : Int), .map (some w.heap.size)] 45
  rw [hs] at hn
  refine ⟨hn 0, hn 1, hn 2, (World.ownsMap_made w _ _ _).alloc _, fun x => ⟨nilV, rfl, by rw [curR_zero]; exact ValU.nil _⟩, fun x => ?_, ?_⟩
  · simp [Maps.has, seen]
  · rw [seenN_zero]; rfl

/-- What a key has in the map, and that the three cells and the look-up are so in each later world. -/
theorem TabK.held {w : World} {tb mb : Nat} {l : List Int} {m most k n c : Nat} {D : DataW Value} (h : TabK w tb mb l m most k n c D) {x : Int} (h1 : -9223372036854775808 ≤ x) (h2 : x ≤ 9223372036854775807) {v : Value} (hv : D.atKey (keyI x) (.held nilV) = .held v) :
    w.cell? ⟨tb, 0, none⟩ = some (.int .i64 (c : Int)) ∧ w.cell? ⟨tb, 2, none⟩ = some (.map (some mb)) ∧ (Instr.lookup 43 (.map (some mb)) (.int .i64 x) false).run Try.prog w = .ok v w :=
  ⟨h.c0, h.c2, map_look h.own h1 h2 hv⟩

set_option maxRecDepth 10000 in
set_option maxHeartbeats 1600000 in
theorem dnew_ok (A : Option Addr) (n cap m most : Nat) (l : List Int) (w : World) (h2 : (most : Int) ≤ 65535) (hn : n ≤ 256) (hm : m = (n + 63) / 64) (hA : RowZ w A n l) (hfit : Fit21 l most n) :
    Calls Try.prog 5 #[.slice A n cap, .int .i64 (most : Int)] w fun e w' => e = .returned (.tuple #[.pointer (some ⟨w.heap.size + 2, 0, none⟩), .agg #[.int .i64 0, .int .i64 0]]) ∧ (∃ D, TabK w' (w.heap.size + 2) (w.heap.size + 1) l m most n n n D) ∧ Below w.heap.size w w' := by
  have hni : (n : Int) ≤ 256 := by omega
  have hml : m ≤ 1000 := by omega
  have HM := Lib.hid (show l.length ≤ 64 * m by have := hA.len; omega)
  have HF := Lib.hid (FB.new w)
  have C1 : Hid (∀ w, Calls Try.prog 17 #[.int .i64 (n : Int)] w (MadeU w (List.replicate m 0))) := fun w => by
    have h := brnew_any (n : Int) w
    rw [newN_nat (by omega), ← hm] at h
    exact h
  have HA := Lib.hid hA
  have HL := Lib.hid hA.len
  have HFit := Lib.hid hfit
  have HML := Lib.hid hml
  have hmm := @run_makeMap Try.prog
  clear hA hfit hm hml
  go_enter Try.func5, Try.ntmps5
  go_wp2_with fail
  go_loop [24] (fun j => ∃ k : Nat, k ≤ n ∧ j = .int .i64 (k : Int)) (fun j => n - (intOf j).toNat)
  case atStart => exact ⟨0, Nat.zero_le _, rfl⟩
  case round =>
    obtain ⟨k, hk, rfl⟩ := hrel
    by_cases hlt : k < n
    · obtain ⟨b, o, rfl, hb, hc⟩ := HA.out.addr (by omega)
      have hck := (World.cell?_alloc_lt w (.cells #[.int .i64 0, .int .i64 0] 26) ⟨b, o + k, none⟩ hb).trans (hc k hlt)
      have hx := HFit.out k hlt
      obtain ⟨x, hxe⟩ : ∃ x, x = l.getD k 0 := ⟨_, rfl⟩
      rw [← hxe] at hx hck
      obtain ⟨x1, x2⟩ := hx
      clear hxe hc hb
      go_wp2_with fail
      go_round
      case rel => exact ⟨k + 1, hlt, by go_num⟩
      case measure => simp [intOf]; omega
    · obtain rfl : k = n := by omega
      clear hlt hk
      go_wp2_with fail
      have hs3 : ((w.alloc (.cells #[.int .i64 0, .int .i64 0] 26)).alloc (.map #[] 0)).heap.size = w.heap.size + 2 := by simp
      have ht := TabK.start (w.alloc (.cells #[.int .i64 0, .int .i64 0] 26)) l m most k
      rw [show (w.alloc (.cells #[.int .i64 0, .int .i64 0] 26)).heap.size = w.heap.size + 1 from by simp] at ht
      have HT := Lib.hid ht
      have HF3 := Lib.hid ((HF.out.below ((Below.refl _ _).alloc (Nat.le_refl _) (.map #[] 0)) HF.out.lt).below ((Below.refl _ _).alloc (Nat.le_refl _) (.cells #[.int .i64 (k : Int), .int .i64 (most : Int), .map (some (w.heap.size + 1))] 45)) (by simp; omega))
      have HB3 : Hid (Below w.heap.size w (((w.alloc (.cells #[.int .i64 0, .int .i64 0] 26)).alloc (.map #[] 0)).alloc (.cells #[.int .i64 (k : Int), .int .i64 (most : Int), .map (some (w.heap.size + 1))] 45))) := (((Below.refl _ _).alloc (Nat.le_refl _) _).alloc (by simp) _).alloc (by simp; omega) _
      clear ht hs3 hmm HF
      go_loopw [47] (fun j wr => ∃ i : Nat, i ≤ k ∧ j = .int .i64 (i : Int) ∧ (∃ D, TabK wr (w.heap.size + 2) (w.heap.size + 1) l m most i i k D) ∧ FB wr w.heap.size 0 0 ∧ Below w.heap.size w wr) (fun j _ => k - (intOf j).toNat)
      case atStart => exact ⟨0, Nat.zero_le _, rfl, ⟨_, HT.out⟩, HF3.out, HB3.out⟩
      case round =>
        clear HT HF3 HB3
        obtain ⟨i, hi, rfl, ⟨D, ht⟩, hf, hb⟩ := hrel
        have HF := Lib.hid hf
        have HB := Lib.hid hb
        have HT := Lib.hid ht
        clear ht hf hb
        by_cases hlt : i < k
        · obtain ⟨b, o, rfl, hbb, hc⟩ := HA.out.addr (by omega)
          have hck := (HB.out.cell (p := ⟨b, o + i, none⟩) hbb).trans (hc i hlt)
          have hx := HFit.out i hlt
          have hil : i < l.length := by rw [HL.out]; exact hlt
          obtain ⟨v0, hv0, hR0⟩ := HT.out.val (l.getD i 0)
          obtain ⟨A0, z0, c0, rfl⟩ := hR0.shape
          have HUp : Hid (∀ w4 v3, Below wr.drew.heap.size wr.drew w4 → ValU w4 v3 (orRow [curR l m i (l.getD i 0), setB (List.replicate m 0) (i : Int)]) →
              ∃ w5, (Instr.mapUpdate 43 (.map (some (w.heap.size + 1))) (.int .i64 (l.getD i 0)) v3).run Try.prog w4 = .ok () w5 ∧ (∃ D', TabK w5 (w.heap.size + 2) (w.heap.size + 1) l m most (i + 1) (i + 1) k D') ∧ FB w5 w.heap.size 0 0 ∧ Below w.heap.size w w5) := by
            intro w4 v3 hb4 hv3
            rw [curR_same hil HM.out] at hv3
            obtain ⟨w5, h5, h6, h7⟩ := (HT.out.drew.below hb4).update hil hx.1 hx.2 h2 (by omega) hv3
            have hb4' : Below w.heap.size w w4 := below_both (HB.out.drew) hb4
            refine ⟨w5, h5, ⟨_, h6⟩, ?_, hb4'.grown h7 hb4'.size (fun q hq => by injection hq with hq; omega)⟩
            exact (h7.block _ (HF.out.below (w := wr.drew) hb4 HF.out.lt).lt (fun e => by injection e with e; omega)).trans (HF.out.below (w := wr.drew) hb4 HF.out.lt)
          have HS : Hid (∀ w', Below wr.drew.heap.size wr.drew w' → w'.cell? ⟨w.heap.size + 2, 0, none⟩ = some (.int .i64 (k : Int)) ∧ w'.cell? ⟨w.heap.size + 2, 2, none⟩ = some (.map (some (w.heap.size + 1))) ∧ (Instr.lookup 43 (.map (some (w.heap.size + 1))) (.int .i64 (l.getD i 0)) false).run Try.prog w' = .ok (.slice A0 z0 c0) w') :=
            fun w' hb' => (HT.out.drew.below hb').held (by omega) (by omega) hv0
          have HV0 : Hid (∀ w', Below wr.drew.heap.size wr.drew w' → ValU w' (.slice A0 z0 c0) (curR l m i (l.getD i 0))) := fun w' hb' => ValU.below (w := wr.drew) hR0 hb'
          have HC0 := Lib.hid (Nat.le_trans (curR_length l m i (l.getD i 0)) HML.out)
          have h0 := HS.out _ (Below.refl _ _)
          obtain ⟨x, hxe⟩ : ∃ x, x = l.getD i 0 := ⟨_, rfl⟩
          obtain ⟨R0, hR0e⟩ : ∃ R, R = curR l m i (l.getD i 0) := ⟨_, rfl⟩
          rw [← hR0e] at HUp HV0 HC0
          rw [← hxe] at hx hck HUp HS h0
          obtain ⟨x1, x2⟩ := hx
          clear hxe hR0e hc hbb hil hv0 hR0
          go_wp2_with fail
          obtain ⟨h0a, h0b, h0c⟩ := h0
          have h0 := And.intro h0a h0b
          clear h0a h0b
          go_region_held3 (fun w' => w'.cell? ⟨w.heap.size + 2, 0, none⟩ = some (.int .i64 (k : Int)) ∧ w'.cell? ⟨w.heap.size + 2, 2, none⟩ = some (.map (some (w.heap.size + 1))))
            (first | exact h0 | exact hS1 | exact hS2 | exact hS3 | exact hS4 | exact hS5 | go_keep)
            (first
              | (go_at_call 17; refine (C1.out _).mono ?_; rintro e w1 hmade; obtain ⟨v1, rfl, hv1, hb1⟩ := hmade.vals (zeros_word' m); obtain ⟨h1a, h1b, h1c⟩ := HS.out w1 hb1; have hS1 := And.intro h1a h1b; clear h1a h1b; have HV1 := Lib.hid hv1; have HB1 := Lib.hid hb1; clear hmade hv1 hb1)
              | (go_at_call 16; refine (brset_val _ _ _ _ HV1.out (by rw [List.length_replicate]; exact Nat.le_trans HML.out (by decide)) (by omega)).mono ?_; rintro e w2 hmade; obtain ⟨v2, rfl, hv2, hb2⟩ := hmade.vals (setB_word (zeros_word' m) _); obtain ⟨A2, z2, c2, rfl⟩ := hv2.shape; have HB2 := Lib.hid (below_both HB1.out hb2); have HV2 := Lib.hid hv2; obtain ⟨h2a, h2b, h2c⟩ := HS.out w2 HB2.out; have hS2 := And.intro h2a h2b; clear h2a h2b; obtain ⟨h3a, h3b, h3c⟩ := HS.out _ (HB2.out.alloc HB2.out.size (.cells #[.slice A0 z0 c0, .slice A2 z2 c2] 32)); have hS3 := And.intro h3a h3b; clear h3a h3b h3c; clear hmade hv2 hb2)
              | (go_at_call 15; refine (bror_two _ _ _ _ _ (HV0.out _ HB2.out) HV2.out HC0.out (by rw [setB_length, List.length_replicate]; exact HML.out)).mono ?_; rintro e w4 hmade; obtain ⟨v3, rfl, hv3, hb3⟩ := hmade.vals (orRow_word (words_of (fun r hr => by
                  simp only [List.mem_cons, List.not_mem_nil, or_false] at hr
                  rcases hr with rfl | rfl
                  · exact (HV0.out _ HB2.out).words
                  · exact HV2.out.words))); have HB4 := Lib.hid (below_both (HB2.out.alloc HB2.out.size (.cells #[.slice A0 z0 c0, .slice A2 z2 c2] 32)) hb3); obtain ⟨h4a, h4b, h4c⟩ := HS.out w4 HB4.out; have hS4 := And.intro h4a h4b; clear h4a h4b h4c; obtain ⟨w5, hrun, ht5, hf5, hb5⟩ := HUp.out w4 v3 HB4.out hv3; obtain ⟨D5, ht5⟩ := ht5; have hS5 := And.intro ht5.c0 ht5.c2; have HT5 : Hid (∃ D', TabK w5 (w.heap.size + 2) (w.heap.size + 1) l m most (i + 1) (i + 1) k D') := ⟨_, ht5⟩; have HF5 := Lib.hid hf5; have HB5 := Lib.hid hb5; clear hmade hv3 hb3 ht5 hf5 hb5)
              | fail)
          all_goals
            go_wp2_with fail
            go_roundw
            case rel => exact ⟨i + 1, hlt, by go_num, HT5.out, HF5.out, HB5.out⟩
            case measure => simp [intOf]; omega
        · obtain rfl : i = k := by omega
          have hc0 := HF.out.c0
          have hc1 := HF.out.c1
          have hf0 := HF.out.f 0
          have hf1 := HF.out.f 1
          have hr0 := (HF.out.two 0 0).c0
          have hr1 := (HF.out.two 0 0).c1
          have HE : Hid (∀ q : Nat, ((wr.setCell ⟨w.heap.size, 0, none⟩ (.int .i64 0)).setCell ⟨w.heap.size, 1, none⟩ (.int .i64 0)).heap[q]? = wr.heap[q]?) := fun q => by
            by_cases e : q = w.heap.size
            · rw [e]; exact (HF.out.two 0 0).trans HF.out.symm
            · exact (heap_setCell_other _ ⟨w.heap.size, 1, none⟩ q _ e).trans (heap_setCell_other _ ⟨w.heap.size, 0, none⟩ q _ e)
          have HB3 := Lib.hid ((HB.out.setCell (p := ⟨w.heap.size, 0, none⟩) (Nat.le_refl _) (.int .i64 0)).setCell (p := ⟨w.heap.size, 1, none⟩) (Nat.le_refl _) (.int .i64 0))
          clear hlt hi
          go_wp2_with fail
          exact bodyPost_ret (v := .tuple #[.pointer (some ⟨w.heap.size + 2, 0, none⟩), .agg #[.int .i64 0, .int .i64 0]]) (by simp [results, Try.results5, go_sem, hr0, hr1]) rfl ⟨rfl, ⟨D, HT.out.same HE.out⟩, HB3.out⟩
end Go.Proofs.Ythikjngmaekjgaa
