/-
  The document's Sum and Seal of layer 13.
-/
import Derived.Test.YtlopmkmcjcijcaaPo11
namespace Go.Proofs.Ytlopmkmcjcijcaa
open Go.RowKit
set_option linter.unusedVariables false
set_option maxRecDepth 8000

theorem sum_room {l n : Nat} (hl : l ≤ 40) (hn : n ≤ 65535) : l + n ≤ 140737488355328 := by omega
set_option maxHeartbeats 1600000 in
theorem rposum_any (k : KeyV) (hk : KeyOk k) (A : Option Addr) (n c : Nat) (bs : List Nat) (w : World) (hn : n ≤ 140737488355328) (hR : Row w A n bs) :
    Calls Try.prog 48 #[.agg k.cells.toArray, .slice A n c] w fun e w' => e = .returned (.tuple #[.int .u16 (poSum k n bs : Nat), .int .i64 (poWrong k.v k.p n : Nat)]) ∧ Below w.heap.size w w' := by
  obtain ⟨hXl, hXo⟩ := hk.all
  have CC : Hid (∀ w, Calls Try.prog 79 #[.agg k.cells.toArray, .slice A n c] w fun e w' => e = .returned (.int .i64 (poWrong k.v k.p n : Nat)) ∧ Below w.heap.size w w') := fun w => rpowrong_any k hk A n c w
  obtain ⟨V, eV⟩ : ∃ V, V = w.alloc (.cells k.cells.toArray 73) := ⟨_, rfl⟩
  have HA : Hid (ArrV 73 V w.heap.size k.cells) := by show ArrV _ _ _ _; rw [eV]; exact ArrV.new _ w _
  have HB : Hid (Below w.heap.size w V) := by show Below _ _ _; rw [eV]; exact (Below.refl _ _).alloc (Nat.le_refl _) _
  obtain ⟨r, hr⟩ : ∃ r, r = poWrong k.v k.p n := ⟨_, rfl⟩
  by_cases h0 : r = 0
  · have h00 : poWrong k.v k.p n = 0 := by rw [← hr]; exact h0
    obtain ⟨hv, hp, hl, hbig⟩ := poWrong_ok h00
    obtain ⟨P, hP⟩ : ∃ P, P = k.p.toNat := ⟨_, rfl⟩
    have hPk : k.p = (P : Int) := by rw [hP]; omega
    have hP2 : P < 256 := by rw [hP]; omega
    have CP : Hid (∀ w, Calls Try.prog 81 #[.agg k.cells.toArray, .int .i64 n] w fun e w' => ∃ v, e = .returned v ∧ OutIs w.heap.size w' v (poAhead k P n) ∧ Below w.heap.size w w') := fun w => rpoahead_any k hk P n w hPk hP2 hbig
    have hQb := poAhead_byte hk hP2 hbig
    have hQl := poAhead_len hk P n
    have hF : poSum k n bs = orest (wsum 0 (poAhead k P n ++ bs)) := by unfold poSum; rw [if_pos h00, hP]
    rw [hF, h00]
    rw [h00] at CC
    obtain ⟨Q, hQ⟩ : ∃ Q, Q = poAhead k P n := ⟨_, rfl⟩
    rw [← hQ] at CP hQb hQl ⊢
    have hQ40 : Q.length ≤ 40 := by rw [hQl]; split <;> decide
    have hQp : 0 < Q.length := by rw [hQl]; split <;> decide
    obtain ⟨L, hL⟩ : ∃ L, L = Q.length := ⟨_, rfl⟩
    rw [← hL] at hQ40 hQp
    obtain ⟨s, hs⟩ : ∃ s, s = orest (wsum 0 (Q ++ bs)) := ⟨_, rfl⟩
    rw [← hs]
    have hT : L + n ≤ 140737488355328 := sum_room hQ40 hbig
    have hlT : (Q ++ bs).length = L + n := by rw [List.length_append, hL, hR.1]
    have CJ : Hid (∀ (W : World) (g c' : Nat) (A2 : Option Addr) (c2 : Nat), Row W A2 L Q → Row W A n bs → W.cell? ⟨g, 0, none⟩ = some (.slice A2 L c2) → W.cell? ⟨g, 1, none⟩ = some (.slice A n c) → Calls Try.prog 58 #[.slice (some ⟨g, 0, none⟩) 2 c'] W fun e w' => ∃ A3 c3, e = .returned (.slice A3 (L + n) c3) ∧ Row w' A3 (L + n) (Q ++ bs) ∧ Below W.heap.size W w') := fun W g c' A2 c2 r0 r1 h0 h1 => by
      refine (join_two g c' L c2 n c A2 A Q bs W h0 h1 r0 r1 hT).mono ?_
      rintro e w' ⟨v, rfl, ho, hb⟩
      obtain ⟨A3, c3, rfl, _, _, r3⟩ := ho.out (fun x hx => by
        rcases List.mem_append.1 hx with h | h
        · exact hQb x h
        · exact hR.2.1 x h)
      rw [hlT] at r3 ⊢
      exact ⟨A3, c3, rfl, r3, hb⟩
    have CS : Hid (∀ (A : Option Addr) (c : Nat) (w : World), Row w A (L + n) (Q ++ bs) → Calls Try.prog 80 #[.slice A (L + n) c] w fun e w' => e = .returned (.int .u16 s) ∧ w = w') := fun A c w h => by
      have h2 := rsum_any A (L + n) c (Q ++ bs) w hT h
      rw [← hs] at h2
      exact h2
    have HQ := Lib.hid hQb
    have HLQ := Lib.hid hL
    have HR := Lib.hid hR
    obtain ⟨X, hX⟩ : ∃ X, X = k.cells := ⟨_, rfl⟩
    rw [← hX] at hXl hXo CC CP HA eV ⊢
    clear hX hr h0 h00 hv hp hl hbig hP hPk hP2 hQb hQl hF hQ hQ40 hQp hL hs hT hlT hR hn
    go_enter Try.func48, Try.ntmps48
    go_upto_region 1 with fail
    rw [← eV]
    clear eV
    refine wp_region_lit ?_
    go_wp2_with (refine wpList_load_v rfl 73 (.tmp 2) rfl _ rfl tykey HA.out hXl ?_)
    refine (CC.out _).mono ?_
    rintro e w1 ⟨rfl, b1⟩
    have HA1 := Lib.hid (HA.out.below b1)
    have B1 := Lib.hid (below_both HB.out b1)
    clear b1 HA HB CC
    go_upto_region 4 with fail
    refine wp_region_lit ?_
    go_wp2_with (refine wpList_load_v rfl 73 (.tmp 2) rfl _ rfl tykey HA1.out hXl ?_)
    refine (CP.out _).mono ?_
    rintro e w2 ⟨v2, rfl, o2, b2⟩
    obtain ⟨A2, c2, rfl, _, _, r2⟩ := o2.out HQ.out
    rw [← HLQ.out] at r2 ⊢
    have R2 := Lib.hid r2
    have B2 := Lib.hid (below_both B1.out b2)
    clear o2 b2 r2 B1 HA1 CP
    have RB := Lib.hid (HR.out.below B2.out)
    go_wp2_with fail
    refine (CJ.out _ _ _ _ _ (R2.out.alloc _) (RB.out.alloc _) (by exact new_at _ _ _ _ _ _ rfl rfl) (by exact new_at _ _ _ _ _ _ rfl rfl)).mono ?_
    rintro e w3 ⟨A3, c3, rfl, r3, b3⟩
    have R3 := Lib.hid r3
    have B3 := Lib.hid (below_both B2.out (below_al b3))
    clear b3 r3 B2 R2 RB CJ
    go_wp2_with fail
    refine (CS.out _ _ _ R3.out).mono ?_
    rintro e w' ⟨rfl, rfl⟩
    go_wp2_with fail
    go_ret2
    exact ⟨rfl, B3.out⟩
  · have hF : poSum k n bs = 0 := by unfold poSum; rw [if_neg (by rw [← hr]; exact h0)]
    rw [hF, ← hr]
    rw [← hr] at CC
    have b0 : ((r : Int) != 0) = true := bne_iff_ne.2 (by omega)
    obtain ⟨X, hX⟩ : ∃ X, X = k.cells := ⟨_, rfl⟩
    rw [← hX] at hXl hXo CC HA eV ⊢
    clear hX hr h0 hF hR hn
    go_enter Try.func48, Try.ntmps48
    go_upto_region 1 with fail
    rw [← eV]
    clear eV
    refine wp_region_lit ?_
    go_wp2_with (refine wpList_load_v rfl 73 (.tmp 2) rfl _ rfl tykey HA.out hXl ?_)
    refine (CC.out _).mono ?_
    rintro e w1 ⟨rfl, b1⟩
    have B1 := Lib.hid (below_both HB.out b1)
    go_wp2_with fail
    go_ret2
    exact ⟨rfl, B1.out⟩
end Go.Proofs.Ytlopmkmcjcijcaa
