/-
  The walk of PortsWrites.
-/
import Derived.Test.YtlopmkmcjcijcaaPo6
import Derived.Test.YtlopmkmcjcijcaaLift
namespace Go.Proofs.Ytlopmkmcjcijcaa
open Go.RowKit
set_option linter.unusedVariables false

/-- What Write answers: bytes and an error. -/
def poBytes (p src dst : Int) (n : Nat) (bs : List Nat) : List Nat := if poErr p src dst n = 0 then poHead p src.toNat dst.toNat n ++ bs else []
theorem poErr_zero {p src dst : Int} {n : Nat} (h : poErr p src dst n = 0) : (p = 6 ∨ p = 17 ∨ p = 132) ∧ (∃ s d : Nat, src = (s : Int) ∧ dst = (d : Int) ∧ s ≤ 65535 ∧ d ≤ 65535) ∧ n ≤ 65535 - poLeast p := by
  unfold poErr at h
  by_cases h0 : poLeast p = 0
  · rw [if_pos h0] at h; cases h
  rw [if_neg h0] at h
  by_cases hs : spPort src = false ∨ spPort dst = false
  · rw [if_pos hs] at h; cases h
  rw [if_neg hs] at h
  have h1 : spPort src = true := by
    cases hx : spPort src with
    | true => rfl
    | false => exact absurd (.inl hx) hs
  have h2 : spPort dst = true := by
    cases hx : spPort dst with
    | true => rfl
    | false => exact absurd (.inr hx) hs
  obtain ⟨s, e1, s2⟩ := spPort_nat h1
  obtain ⟨d, e2, d2⟩ := spPort_nat h2
  refine ⟨?_, ⟨s, d, e1, e2, s2, d2⟩, ?_⟩
  · unfold poLeast at h0
    by_cases h1 : p = 6
    · exact .inl h1
    · by_cases h2 : p = 17
      · exact .inr (.inl h2)
      · by_cases h3 : p = 132
        · exact .inr (.inr h3)
        · rw [if_neg h1, if_neg h2, if_neg h3] at h0; exact absurd rfl h0
  · rcases Nat.lt_or_ge (65535 - poLeast p) n with h3 | h3
    · rw [if_pos h3] at h; cases h
    · exact h3
theorem poBytes_byte {p src dst : Int} {n : Nat} {bs : List Nat} (hb : ∀ x ∈ bs, x < 256) : ∀ x ∈ poBytes p src dst n bs, x < 256 := by
  intro x hx
  unfold poBytes at hx
  split at hx
  · rename_i h
    obtain ⟨hp, ⟨s, d, rfl, rfl, h1, h2⟩, h3⟩ := poErr_zero h
    rcases List.mem_append.1 hx with h4 | h4
    · exact poHead_byte p s d n h1 h2 (by rcases hp with rfl | rfl | rfl; exact Nat.le_trans h3 (by decide); exact Nat.le_trans h3 (by decide); exact Nat.le_trans h3 (by decide)) x h4
    · exact hb x h4
  · cases hx
theorem powrite_any (p src dst : Int) (A : Option Addr) (n c : Nat) (bs : List Nat) (w : World) (hn : n ≤ 140737488355328) (hc : n ≤ c) (hR : Row w A n bs) :
    Calls Try.prog 45 #[.int .i64 p, .int .i64 src, .int .i64 dst, .slice A n c] w (TwoTo w (poBytes p src dst n bs) (poErr p src dst n)) := by
  have hbb := poBytes_byte (p := p) (src := src) (dst := dst) (n := n) hR.2.1
  by_cases h : poErr p src dst n = 0
  · obtain ⟨hp, ⟨s, d, rfl, rfl, h1, h2⟩, h3⟩ := poErr_zero h
    have hB : poBytes p s d n bs = poHead p s d n ++ bs := by unfold poBytes; rw [if_pos h]; rfl
    rw [hB] at hbb
    rw [hB, h]
    clear hB
    rcases hp with rfl | rfl | rfl
    · exact (powrite_6 s d A n c bs w h1 h2 h3 hc hR).mono (two_out hbb)
    · exact (powrite_17 s d A n c bs w h1 h2 h3 hc hR).mono (two_out hbb)
    · exact (powrite_132 s d A n c bs w h1 h2 h3 hc hR).mono (two_out hbb)
  · have hB : poBytes p src dst n bs = [] := by unfold poBytes; rw [if_neg h]
    rw [hB]
    refine (powrite_bad p src dst A n c w hn h).mono ?_
    rintro e w' ⟨rfl, hb⟩
    exact ⟨_, rfl, ByteVal.nil w', hb⟩
theorem rpowrite_any (p src dst : Int) (A : Option Addr) (n c : Nat) (bs : List Nat) (w : World) (hn : n ≤ 140737488355328) (hc : n ≤ c) (hR : Row w A n bs) :
    Calls Try.prog 46 #[.int .i64 p, .int .i64 src, .int .i64 dst, .slice A n c] w (TwoTo w (poBytes p src dst n bs) (poErr p src dst n)) := by
  have hbb := poBytes_byte (p := p) (src := src) (dst := dst) (n := n) hR.2.1
  by_cases h : poErr p src dst n = 0
  · obtain ⟨hp, ⟨s, d, rfl, rfl, h1, h2⟩, h3⟩ := poErr_zero h
    have hB : poBytes p s d n bs = poHead p s d n ++ bs := by unfold poBytes; rw [if_pos h]; rfl
    rw [hB] at hbb
    rw [hB, h]
    clear hB
    rcases hp with rfl | rfl | rfl
    · exact (rpowrite_6 s d A n c bs w h1 h2 h3 hc hR).mono (two_out hbb)
    · exact (rpowrite_17 s d A n c bs w h1 h2 h3 hc hR).mono (two_out hbb)
    · exact (rpowrite_132 s d A n c bs w h1 h2 h3 hc hR).mono (two_out hbb)
  · have hB : poBytes p src dst n bs = [] := by unfold poBytes; rw [if_neg h]
    rw [hB]
    refine (rpowrite_bad p src dst A n c w hn h).mono ?_
    rintro e w' ⟨rfl, hb⟩
    exact ⟨_, rfl, ByteVal.nil w', hb⟩
theorem poBytes_len (p src dst : Int) (n : Nat) (bs : List Nat) (h : bs.length = n) : (poBytes p src dst n bs).length ≤ n + 20 := by
  unfold poBytes
  split
  · rename_i h0
    obtain ⟨hp, ⟨s, d, rfl, rfl, h1, h2⟩, h3⟩ := poErr_zero h0
    rw [List.length_append, h]
    rcases hp with rfl | rfl | rfl
    · rw [poHead_len (by decide)]; show 20 + n ≤ _; omega
    · rw [poHead_len (by decide)]; show 8 + n ≤ _; omega
    · rw [poHead_len (by decide)]; show 12 + n ≤ _; omega
  · exact Nat.zero_le _
theorem int_pair {zs : List Int} (h : zs.length = 2) : ∃ a b, zs = [a, b] := by
  match zs, h with
  | [a, b], _ => exact ⟨a, b, rfl⟩
set_option maxRecDepth 10000 in
set_option maxHeartbeats 1600000 in
theorem walk_PortsWrites (n0 : Int) (zs1 : List Int) (a2 : Option Addr) (len2 cap2 : Nat) (bs2 : List Nat) (w : World) (lo0 : -9223372036854775808 ≤ n0) (hi0 : n0 ≤ 9223372036854775807) (hn1 : zs1.length = 2) (hz1 : ∀ z ∈ zs1, (Lit.int .i64 z).wf = true) (R2 : Row w a2 len2 bs2) (hl2 : len2 ≤ cap2) (hc2 : cap2 ≤ 140737488351232) :
    Calls Try.prog 11 #[.int .i64 n0, .agg (zs1.map (Value.int .i64)).toArray, .slice a2 len2 cap2] w fun e w' => e = .returned (.bool true) ∧ Below w.heap.size w w' := by
  obtain ⟨f, a, rfl⟩ := int_pair hn1
  have C1 := Lib.hid (fun w hR => powrite_any n0 f a a2 len2 cap2 bs2 w (by omega) hl2 hR)
  have C2 := Lib.hid (fun w hR => rpowrite_any n0 f a a2 len2 cap2 bs2 w (by omega) hl2 hR)
  unfold TwoTo at C1 C2
  obtain ⟨L, hL⟩ : ∃ L, L = poBytes n0 f a len2 bs2 := ⟨_, rfl⟩
  have HLL : Hid (L.length ≤ 9223372036854775807) := by show L.length ≤ _; rw [hL]; have := poBytes_len n0 f a len2 bs2 R2.1; omega
  obtain ⟨y, hy⟩ : ∃ y, y = poErr n0 f a len2 := ⟨_, rfl⟩
  rw [← hL, ← hy] at C1 C2
  have e1 : ((y : Int) == (y : Int)) = true := by simp
  have HR := Lib.hid R2
  obtain ⟨V, eV⟩ : ∃ V, V = w.alloc (.cells #[.int .i64 f, .int .i64 a] 65) := ⟨_, rfl⟩
  have HA : Hid (ArrV 65 V w.heap.size [.int .i64 f, .int .i64 a]) := by show ArrV _ _ _ _; rw [eV]; exact ArrV.new _ w _
  have BV : Hid (Below w.heap.size w V) := by show Below _ _ _; rw [eV]; exact (Below.refl _ _).alloc (Nat.le_refl _) _
  have c0 := HA.out.get 0
  have c1 := HA.out.get 1
  simp at c0 c1
  clear hL hy R2 hl2 hc2 lo0 hi0 hz1 hn1
  show Calls Try.prog 11 #[.int .i64 n0, .agg #[.int .i64 f, .int .i64 a], .slice a2 len2 cap2] w fun e w' => e = .returned (.bool true) ∧ Below w.heap.size w w'
  go_enter Try.func11, Try.ntmps11
  go_upto_region 1 with fail
  rw [← eV]
  obtain ⟨g, hg⟩ : ∃ g, g = w.heap.size := ⟨_, rfl⟩
  rw [← hg] at HA c0 c1 ⊢
  clear eV hg
  go_wp2_with fail
  refine (C1.out _ (HR.out.below BV.out)).mono ?_
  rintro e w1 ⟨v1, rfl, r1, b1⟩
  have hA := HA.out.below b1
  have B1 := Lib.hid (below_both BV.out b1)
  have R1 := Lib.hid r1
  have c0 := hA.get 0
  have c1 := hA.get 1
  simp at c0 c1
  clear b1 r1 hA HA
  go_wp2_with fail
  refine (C2.out _ (HR.out.below B1.out)).mono ?_
  rintro e w2 ⟨v2, rfl, r2, b2⟩
  have B2 := Lib.hid (below_both B1.out b2)
  have R1 := Lib.hid (R1.out.below b2)
  have R2 := Lib.hid r2
  clear b2 r2 c0 c1
  go_wp2_with fail
  refine (live13 _).mono ?_
  rintro e w3 ⟨rfl, b3⟩
  have B3 := Lib.hid (below_both B2.out b3)
  have R1 := Lib.hid (R1.out.below b3)
  have R2 := Lib.hid (R2.out.below b3)
  clear b3
  go_wp2_with fail
  refine (same_vals v1 v2 L _ HLL.out R1.out R2.out).mono ?_
  rintro e w4 ⟨rfl, b4⟩
  have B4 := Lib.hid (below_both B3.out b4)
  clear b4
  go_wp2_with fail
  go_ret
  exact ⟨rfl, B4.out⟩
end Go.Proofs.Ytlopmkmcjcijcaa
