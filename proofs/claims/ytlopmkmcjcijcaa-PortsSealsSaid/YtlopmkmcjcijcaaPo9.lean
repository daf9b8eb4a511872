/-
  ports: Sum (the program's).
-/
import Derived.Test.YtlopmkmcjcijcaaPo8
import Derived.Test.YtlopmkmcjcijcaaOne1
namespace Go.Proofs.Ytlopmkmcjcijcaa
open Go.RowKit
set_option linter.unusedVariables false
set_option maxRecDepth 8000

theorem orest_join (l1 l2 : List Nat) : orest (orest (wsum 0 l1) + opart (l1.length : Int) (orest (wsum 0 l2))) = orest (wsum 0 (l1 ++ l2)) := by
  have h := orest_parts (l1 ++ l2) l1.length (by simp)
  rw [List.take_left, List.drop_left] at h
  rw [← h]
  unfold opart
  by_cases hp : l1.length % 2 = 0
  · rw [if_pos hp, if_pos (by omega)]
  · rw [if_neg hp, if_neg (by omega)]
def poSum (k : KeyV) (n : Nat) (bs : List Nat) : Nat := if poWrong k.v k.p n = 0 then orest (wsum 0 (poAhead k k.p.toNat n ++ bs)) else 0
theorem poWrong_ok {v p : Int} {n : Nat} (h : poWrong v p n = 0) : (v = 4 ∨ v = 6) ∧ (p = 6 ∨ p = 17) ∧ poLeast p ≤ n ∧ n ≤ 65535 := by
  unfold poWrong at h
  split at h
  · cases h
  · split at h
    · cases h
    · split at h
      · cases h
      · split at h
        · cases h
        · refine ⟨by omega, by omega, by omega, by omega⟩
theorem poAhead_len {k : KeyV} (hk : KeyOk k) (P n : Nat) : (poAhead k P n).length = if k.v = 4 then 12 else 40 := by
  unfold poAhead
  split <;> simp [hk.sl, hk.dl]
theorem poAhead_byte {k : KeyV} (hk : KeyOk k) {P n : Nat} (hP : P < 256) (hn : n ≤ 65535) : ∀ x ∈ poAhead k P n, x < 256 := by
  intro x hx
  have h1 : n / 256 < 256 := by omega
  have h2 : n % 256 < 256 := by omega
  have h3 : x ∈ k.src → x < 256 := hk.sb x
  have h4 : x ∈ k.dst → x < 256 := hk.db x
  unfold poAhead at hx
  split at hx
  · simp only [List.mem_append, List.mem_cons, List.not_mem_nil, or_false] at hx
    rcases hx with (h | h) | h | h | h | h
    · exact h3 (List.mem_of_mem_take h)
    · exact h4 (List.mem_of_mem_take h)
    all_goals omega
  · simp only [List.mem_append, List.mem_cons, List.not_mem_nil, or_false] at hx
    rcases hx with (h | h) | h | h | h | h | h | h | h | h
    · exact h3 h
    · exact h4 h
    all_goals omega
set_option maxHeartbeats 1600000 in
theorem posum_any (k : KeyV) (hk : KeyOk k) (A : Option Addr) (n c : Nat) (bs : List Nat) (w : World) (hn : n ≤ 140737488355328) (hR : Row w A n bs) :
    Calls Try.prog 47 #[.agg k.cells.toArray, .slice A n c] w fun e w' => e = .returned (.tuple #[.int .u16 (poSum k n bs : Nat), .int .i64 (poWrong k.v k.p n : Nat)]) ∧ Below w.heap.size w w' := by
  obtain ⟨hXl, hXo⟩ := hk.all
  have CC : Hid (∀ w, Calls Try.prog 75 #[.agg k.cells.toArray, .slice A n c] w fun e w' => e = .returned (.int .i64 (poWrong k.v k.p n : Nat)) ∧ Below w.heap.size w w') := fun w => pocheck_any k hk A n c w
  obtain ⟨V, eV⟩ : ∃ V, V = w.alloc (.cells k.cells.toArray 73) := ⟨_, rfl⟩
  have HA : Hid (ArrV 73 V w.heap.size k.cells) := by show ArrV _ _ _ _; rw [eV]; exact ArrV.new _ w _
  have HB : Hid (Below w.heap.size w V) := by show Below _ _ _; rw [eV]; exact (Below.refl _ _).alloc (Nat.le_refl _) _
  obtain ⟨r, hr⟩ : ∃ r, r = poWrong k.v k.p n := ⟨_, rfl⟩
  by_cases h0 : r = 0
  · have h00 : poWrong k.v k.p n = 0 := by rw [← hr]; exact h0
    obtain ⟨hv, hp, hl, hbig⟩ := poWrong_ok h00
    obtain ⟨P, hP⟩ : ∃ P, P = k.p.toNat := ⟨_, rfl⟩
    have hPk : k.p = (P : Int) := by rw [hP]; omega
    have hP2 : P < 256 := by rw [hP]; omega
    have CP : Hid (∀ w, Calls Try.prog 76 #[.agg k.cells.toArray, .int .i64 n] w fun e w' => ∃ v, e = .returned v ∧ OutIs w.heap.size w' v (poAhead k P n) ∧ Below w.heap.size w w') := fun w => popseudo_any k hk P n w hPk hP2 hbig
    have hQb := poAhead_byte hk hP2 hbig
    have hQl := poAhead_len hk P n
    have hF : poSum k n bs = orest (wsum 0 (poAhead k P n ++ bs)) := by unfold poSum; rw [if_pos h00, hP]
    rw [hF, h00]
    rw [h00] at CC
    obtain ⟨Q, hQ⟩ : ∃ Q, Q = poAhead k P n := ⟨_, rfl⟩
    rw [← hQ] at CP hQb hQl ⊢
    have hQ40 : Q.length ≤ 40 := by rw [hQl]; split <;> decide
    have hQp : 0 < Q.length := by rw [hQl]; split <;> decide
    obtain ⟨L, hL⟩ : ∃ L, L = Q.length := ⟨_, rfl⟩
    rw [← hL] at hQ40 hQp
    have s1 := orest_le (wsum 0 Q)
    have s2 := orest_le (wsum 0 bs)
    have hj := orest_join Q bs
    rw [← hL] at hj
    obtain ⟨a, ha⟩ : ∃ a, a = orest (wsum 0 Q) := ⟨_, rfl⟩
    obtain ⟨b, hb⟩ : ∃ b, b = orest (wsum 0 bs) := ⟨_, rfl⟩
    obtain ⟨s, hs⟩ : ∃ s, s = orest (wsum 0 (Q ++ bs)) := ⟨_, rfl⟩
    rw [← ha] at s1 hj
    rw [← hb] at s2 hj
    rw [← hs] at hj ⊢
    have CJ : Hid (∀ w, Calls Try.prog 77 #[.int .u16 a, .int .i64 L, .int .u16 b] w fun e w' => e = .returned (.int .u16 s) ∧ w = w') := fun w => by
      have h := ojoin_any a b (L : Int) w s1 s2 (by omega) (by omega)
      rw [hj] at h
      exact h
    have CS : Hid (∀ (A : Option Addr) (c : Nat) (w : World), Row w A L Q → Calls Try.prog 78 #[.slice A L c] w fun e w' => e = .returned (.int .u16 a) ∧ Below w.heap.size w w') := fun A c w h => by
      have h2 := osum_any A L c Q w (by omega) h
      rw [← ha] at h2
      exact h2
    have CT : Hid (∀ (w : World), Row w A n bs → Calls Try.prog 78 #[.slice A n c] w fun e w' => e = .returned (.int .u16 b) ∧ Below w.heap.size w w') := fun w h => by
      have h2 := osum_any A n c bs w hn h
      rw [← hb] at h2
      exact h2
    have HQ := Lib.hid hQb
    have HLQ := Lib.hid hL
    have HR := Lib.hid hR
    obtain ⟨X, hX⟩ : ∃ X, X = k.cells := ⟨_, rfl⟩
    rw [← hX] at hXl hXo CC CP HA eV ⊢
    clear hX hr h0 h00 hv hp hl hbig hP hPk hP2 hQb hQl hF hQ hQ40 hQp hL s1 s2 hj ha hb hs hR hn
    go_enter Try.func47, Try.ntmps47
    go_upto_region 1 with fail
    rw [← eV]
    clear eV
    refine wp_region_lit ?_
    go_wp2_with (refine wpList_load_v rfl 73 (.tmp 2) rfl _ rfl tykey HA.out hXl ?_)
    refine (CC.out _).mono ?_
    rintro e w1 ⟨rfl, b1⟩
    have HA1 := Lib.hid (HA.out.below b1)
    have B1 := Lib.hid (below_both HB.out b1)
    clear b1 HA HB CC
    go_upto_region 4 with fail
    refine wp_region_lit ?_
    go_wp2_with (refine wpList_load_v rfl 73 (.tmp 2) rfl _ rfl tykey HA1.out hXl ?_)
    refine (CP.out _).mono ?_
    rintro e w2 ⟨v2, rfl, o2, b2⟩
    obtain ⟨A2, c2, rfl, _, _, r2⟩ := o2.out HQ.out
    rw [← HLQ.out] at r2 ⊢
    have R2 := Lib.hid r2
    have B2 := Lib.hid (below_both B1.out b2)
    clear o2 b2 r2 B1 HA1 CP
    go_wp2_with fail
    refine (CS.out _ _ _ R2.out).mono ?_
    rintro e w3 ⟨rfl, b3⟩
    have B3 := Lib.hid (below_both B2.out b3)
    clear b3 B2 R2 CS
    go_wp2_with fail
    refine (CT.out _ (HR.out.below B3.out)).mono ?_
    rintro e w4 ⟨rfl, b4⟩
    have B4 := Lib.hid (below_both B3.out b4)
    clear b4 B3 CT
    go_wp2_with fail
    refine (CJ.out _).mono ?_
    rintro e w' ⟨rfl, rfl⟩
    go_wp2_with fail
    go_ret2
    exact ⟨rfl, B4.out⟩
  · have hF : poSum k n bs = 0 := by unfold poSum; rw [if_neg (by rw [← hr]; exact h0)]
    rw [hF, ← hr]
    rw [← hr] at CC
    have b0 : ((r : Int) != 0) = true := bne_iff_ne.2 (by omega)
    obtain ⟨X, hX⟩ : ∃ X, X = k.cells := ⟨_, rfl⟩
    rw [← hX] at hXl hXo CC HA eV ⊢
    clear hX hr h0 hF hR hn
    go_enter Try.func47, Try.ntmps47
    go_upto_region 1 with fail
    rw [← eV]
    clear eV
    refine wp_region_lit ?_
    go_wp2_with (refine wpList_load_v rfl 73 (.tmp 2) rfl _ rfl tykey HA.out hXl ?_)
    refine (CC.out _).mono ?_
    rintro e w1 ⟨rfl, b1⟩
    have B1 := Lib.hid (below_both HB.out b1)
    go_wp2_with fail
    go_ret2
    exact ⟨rfl, B1.out⟩
end Go.Proofs.Ytlopmkmcjcijcaa
