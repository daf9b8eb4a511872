/-
  Contracts of curve's check, Total and times, and of the document's Check and Total.
-/
import Derived.Test.YtemgnaalmgkfiaaCu0
import Derived.Test.YtemgnaalmgkfiaaRt4
namespace Go.Proofs.Ytemgnaalmgkfiaa
open Go.RowKit
set_option linter.unusedVariables false
attribute [local go_sem ↓] Go.wp_at_zero Go.wp_at_succ

/-- A fault at an index, or none. -/
def fvC : Option Nat → List Value
  | none => [.int .i64 0, .int .i64 0]
  | some k => [.int .i64 1, .int .i64 (k : Nat)]
theorem cu_meas {k n : Nat} (h : k < n) (u : wrap64 ((k : Int) + 1) = ((k + 1 : Nat) : Int)) : n - (wrap64 ((k : Int) + 1)).toNat < n - ((k : Int)).toNat := by rw [u]; omega
theorem cu_next {k n : Nat} (h : k < n) (hn : (n : Int) ≤ 17592186043904) : wrap64 ((k : Int) + 1) = ((k + 1 : Nat) : Int) := by unfold wrap64; omega

set_option maxRecDepth 10000 in
set_option maxHeartbeats 1600000 in
theorem ccheck_any (A : Option Addr) (n cap : Nat) (L : List Sm) (w : World) (hn : (n : Int) ≤ 17592186043904) (hA : SmRow w A n L) :
    Calls Try.prog 21 #[.slice A n cap] w fun e w' => e = .returned (.agg (fvC (cuBad L)).toArray) ∧ Below w.heap.size w w' := by
  have HL := Lib.hid hA.1
  have HA := Lib.hid hA
  have HN := Lib.hid hn
  clear hA hn
  go_enter Try.func21, Try.ntmps21
  have K0 := Lib.hid (KV.one w 26 [.int .i64 0, .int .i64 0])
  go_wp2_with fail
  go_loopw [7] (fun i wr => ∃ k : Nat, k ≤ n ∧ i = .int .i64 (k : Int) ∧ Hid (cuGood L k) ∧ KV w [(26, w.heap.size, [.int .i64 0, .int .i64 0])] wr) (fun i _ => n - (intOf i).toNat)
  case atStart => exact ⟨0, Nat.zero_le _, rfl, cuGood_zero L, K0.out⟩
  case round =>
    clear K0
    obtain ⟨k, hk, rfl, hg, hK⟩ := hrel
    have HK := Lib.hid hK
    clear hK
    by_cases hlt : k < n
    · obtain ⟨b, o, rfl, hl, hc⟩ := HA.out.addr (by omega)
      have q0 : wr.cell? ⟨b, o + k * 2, none⟩ = _ := (HK.out.bel.cell (p := ⟨b, o + k * 2, none⟩) hl).trans (hc k hlt).1
      have q1 : wr.cell? ⟨b, o + k * 2 + 1, none⟩ = _ := (HK.out.bel.cell (p := ⟨b, o + k * 2 + 1, none⟩) hl).trans (hc k hlt).2
      obtain ⟨t, ht⟩ : ∃ t, t = (L.getD k sm0).time := ⟨_, rfl⟩
      obtain ⟨z, hz⟩ : ∃ z, z = (L.getD k sm0).size := ⟨_, rfl⟩
      rw [← ht] at q0
      rw [← hz] at q1
      have HKN := Lib.hid (HK.out.new 55 [.int .u64 (t : Nat), .int .i64 z])
      have p0 := (HKN.out.at 1 rfl).get 0
      have p1 := (HKN.out.at 1 rfl).get 1
      simp at p0 p1
      have HLT := Lib.hid hlt
      have HZ := Lib.hid hz
      have u := cu_next hlt HN.out
      clear hc hl ht hz hlt
      by_cases hneg : z < 0
      · have HB := Lib.hid (cuBad_yes (L := L) (k := k) (by rw [HL.out]; exact HLT.out) hg.out (.inl (by rw [← HZ.out]; exact hneg)))
        have r0 := (HKN.out.at 0 rfl).get 0
        have r1 := (HKN.out.at 0 rfl).get 1
        have f0 := (HKN.out.at 0 rfl).frozen 0
        have f1 := (HKN.out.at 0 rfl).frozen 1
        simp at r0 r1
        have KE := Lib.hid (HKN.out.store 0 rfl [.int .i64 1, .int .i64 (k : Int)] rfl)
        have y0 := (KE.out.at 0 rfl).get 0
        have y1 := (KE.out.at 0 rfl).get 1
        simp [World.setCells] at y0 y1
        go_wp2_with fail
        rw [HB.out]
        exact bodyPost_ret (v := .agg #[.int .i64 1, .int .i64 (k : Int)]) (by simp [results, Try.results21, go_sem, y0, y1]) rfl ⟨rfl, KE.out.bel⟩
      · by_cases hbig : 65575 < z
        · have HB := Lib.hid (cuBad_yes (L := L) (k := k) (by rw [HL.out]; exact HLT.out) hg.out (.inr (by rw [← HZ.out]; exact hbig)))
          have r0 := (HKN.out.at 0 rfl).get 0
          have r1 := (HKN.out.at 0 rfl).get 1
          have f0 := (HKN.out.at 0 rfl).frozen 0
          have f1 := (HKN.out.at 0 rfl).frozen 1
          simp at r0 r1
          have KE := Lib.hid (HKN.out.store 0 rfl [.int .i64 1, .int .i64 (k : Int)] rfl)
          have y0 := (KE.out.at 0 rfl).get 0
          have y1 := (KE.out.at 0 rfl).get 1
          simp [World.setCells] at y0 y1
          go_wp2_with fail
          rw [HB.out]
          exact bodyPost_ret (v := .agg #[.int .i64 1, .int .i64 (k : Int)]) (by simp [results, Try.results21, go_sem, y0, y1]) rfl ⟨rfl, KE.out.bel⟩
        · have HG := Lib.hid (cuGood_next hg.out (by rw [← HZ.out]; omega) (by rw [← HZ.out]; omega))
          go_wp2_with fail
          go_roundw
          case rel => exact ⟨k + 1, HLT.out, by rw [u], HG.out, (HK.out.below ((Below.refl _ _).alloc (Nat.le_refl _) _))⟩
          case measure => rw [u]; have hms := HLT.out; simp [intOf]; omega
    · obtain rfl : k = n := by omega
      have HB := Lib.hid (cuBad_no (L := L) (by rw [HL.out]; exact hg.out))
      have r0 := (HK.out.at 0 rfl).get 0
      have r1 := (HK.out.at 0 rfl).get 1
      have f0 := (HK.out.at 0 rfl).frozen 0
      have f1 := (HK.out.at 0 rfl).frozen 1
      simp at r0 r1
      have KE := Lib.hid (HK.out.store 0 rfl [.int .i64 0, .int .i64 0] rfl)
      have y0 := (KE.out.at 0 rfl).get 0
      have y1 := (KE.out.at 0 rfl).get 1
      simp [World.setCells] at y0 y1
      clear hk hlt
      go_wp2_with fail
      rw [HB.out]
      exact bodyPost_ret (v := .agg #[.int .i64 0, .int .i64 0]) (by simp [results, Try.results21, go_sem, y0, y1]) rfl ⟨rfl, KE.out.bel⟩
set_option maxRecDepth 10000 in
set_option maxHeartbeats 1600000 in
theorem rcheck_any (A : Option Addr) (n cap : Nat) (L : List Sm) (w : World) (hn : (n : Int) ≤ 17592186043904) (hA : SmRow w A n L) :
    Calls Try.prog 24 #[.slice A n cap] w fun e w' => e = .returned (.agg (fvC (cuBad L)).toArray) ∧ Below w.heap.size w w' := by
  have HL := Lib.hid hA.1
  have HA := Lib.hid hA
  have HN := Lib.hid hn
  clear hA hn
  go_enter Try.func24, Try.ntmps24
  have K0 := Lib.hid (KV.one w 26 [.int .i64 0, .int .i64 0])
  go_wp2_with fail
  go_loopw [3] (fun i wr => ∃ k : Nat, k ≤ n ∧ i = .int .i64 (k : Int) ∧ Hid (cuGood L k) ∧ KV w [(26, w.heap.size, [.int .i64 0, .int .i64 0])] wr) (fun i _ => n - (intOf i).toNat)
  case atStart => exact ⟨0, Nat.zero_le _, rfl, cuGood_zero L, K0.out⟩
  case round =>
    clear K0
    obtain ⟨k, hk, rfl, hg, hK⟩ := hrel
    have HK := Lib.hid hK
    clear hK
    by_cases hlt : k < n
    · obtain ⟨b, o, rfl, hl, hc⟩ := HA.out.addr (by omega)
      have q0 : wr.cell? ⟨b, o + k * 2, none⟩ = _ := (HK.out.bel.cell (p := ⟨b, o + k * 2, none⟩) hl).trans (hc k hlt).1
      have q1 : wr.cell? ⟨b, o + k * 2 + 1, none⟩ = _ := (HK.out.bel.cell (p := ⟨b, o + k * 2 + 1, none⟩) hl).trans (hc k hlt).2
      obtain ⟨t, ht⟩ : ∃ t, t = (L.getD k sm0).time := ⟨_, rfl⟩
      obtain ⟨z, hz⟩ : ∃ z, z = (L.getD k sm0).size := ⟨_, rfl⟩
      rw [← ht] at q0
      rw [← hz] at q1
      have HLT := Lib.hid hlt
      have HZ := Lib.hid hz
      have u := cu_next hlt HN.out
      clear hc hl ht hz hlt
      by_cases hneg : z < 0
      · have HB := Lib.hid (cuBad_yes (L := L) (k := k) (by rw [HL.out]; exact HLT.out) hg.out (.inl (by rw [← HZ.out]; exact hneg)))
        have r0 := (HK.out.at 0 rfl).get 0
        have r1 := (HK.out.at 0 rfl).get 1
        have f0 := (HK.out.at 0 rfl).frozen 0
        have f1 := (HK.out.at 0 rfl).frozen 1
        simp at r0 r1
        have KE := Lib.hid (HK.out.store 0 rfl [.int .i64 1, .int .i64 (k : Int)] rfl)
        have y0 := (KE.out.at 0 rfl).get 0
        have y1 := (KE.out.at 0 rfl).get 1
        simp [World.setCells] at y0 y1
        go_wp2_with fail
        rw [HB.out]
        exact bodyPost_ret (v := .agg #[.int .i64 1, .int .i64 (k : Int)]) (by simp [results, Try.results24, go_sem, y0, y1]) rfl ⟨rfl, KE.out.bel⟩
      · by_cases hbig : 65575 < z
        · have HB := Lib.hid (cuBad_yes (L := L) (k := k) (by rw [HL.out]; exact HLT.out) hg.out (.inr (by rw [← HZ.out]; exact hbig)))
          have r0 := (HK.out.at 0 rfl).get 0
          have r1 := (HK.out.at 0 rfl).get 1
          have f0 := (HK.out.at 0 rfl).frozen 0
          have f1 := (HK.out.at 0 rfl).frozen 1
          simp at r0 r1
          have KE := Lib.hid (HK.out.store 0 rfl [.int .i64 1, .int .i64 (k : Int)] rfl)
          have y0 := (KE.out.at 0 rfl).get 0
          have y1 := (KE.out.at 0 rfl).get 1
          simp [World.setCells] at y0 y1
          go_wp2_with fail
          rw [HB.out]
          exact bodyPost_ret (v := .agg #[.int .i64 1, .int .i64 (k : Int)]) (by simp [results, Try.results24, go_sem, y0, y1]) rfl ⟨rfl, KE.out.bel⟩
        · have HG := Lib.hid (cuGood_next hg.out (by rw [← HZ.out]; omega) (by rw [← HZ.out]; omega))
          go_wp2_with fail
          go_roundw
          case rel => exact ⟨k + 1, HLT.out, by rw [u], HG.out, HK.out⟩
          case measure => rw [u]; have hms := HLT.out; simp [intOf]; omega
    · obtain rfl : k = n := by omega
      have HB := Lib.hid (cuBad_no (L := L) (by rw [HL.out]; exact hg.out))
      have r0 := (HK.out.at 0 rfl).get 0
      have r1 := (HK.out.at 0 rfl).get 1
      have f0 := (HK.out.at 0 rfl).frozen 0
      have f1 := (HK.out.at 0 rfl).frozen 1
      simp at r0 r1
      have KE := Lib.hid (HK.out.store 0 rfl [.int .i64 0, .int .i64 0] rfl)
      have y0 := (KE.out.at 0 rfl).get 0
      have y1 := (KE.out.at 0 rfl).get 1
      simp [World.setCells] at y0 y1
      clear hk hlt
      go_wp2_with fail
      rw [HB.out]
      exact bodyPost_ret (v := .agg #[.int .i64 0, .int .i64 0]) (by simp [results, Try.results24, go_sem, y0, y1]) rfl ⟨rfl, KE.out.bel⟩

/-- All bytes; nothing, where a size is bad. -/
def cuTotal (L : List Sm) : Nat := if cuBad L = none then cuTo L L.length else 0
theorem cu_add {L : List Sm} {k n : Nat} {T T' : Nat} {z : Int} (hg : cuGood L n) (hk : k < n) (hn : (n : Int) ≤ 17592186043904) (hT : T = cuTo L k) (hT' : T' = cuTo L (k + 1)) (hz : z = (L.getD k sm0).size) : wrap64 ((T : Int) + z) = (T' : Int) := by
  have h1 := cuTo_le hg k (by omega)
  have h2 := hg k hk
  have h3 : T' = T + z.toNat := by rw [hT, hT', hz]; rfl
  rw [← hz] at h2
  unfold wrap64
  omega

set_option maxRecDepth 10000 in
set_option maxHeartbeats 1600000 in
theorem ctotal_bad (A : Option Addr) (n cap : Nat) (q : Nat) (w : World) (CC : Hid (∀ w', Below w.heap.size w w' → Calls Try.prog 21 #[.slice A n cap] w' fun e w'' => e = .returned (.agg #[.int .i64 1, .int .i64 (q : Nat)]) ∧ Below w'.heap.size w' w'')) :
    Calls Try.prog 8 #[.slice A n cap] w fun e w' => e = .returned (.tuple #[.int .i64 0, .agg #[.int .i64 1, .int .i64 (q : Nat)]]) ∧ Below w.heap.size w w' := by
  go_enter Try.func8, Try.ntmps8
  have K0 := Lib.hid (KV.one w 26 [.int .i64 0, .int .i64 0])
  go_wp2_with fail
  refine (CC.out _ K0.out.bel).mono ?_
  rintro e w1 ⟨rfl, b1⟩
  have K1 := Lib.hid ((K0.out.below b1).new 26 [.int .i64 1, .int .i64 (q : Nat)])
  clear b1 K0 CC
  have m0 := (K1.out.at 1 rfl).get 0
  simp at m0
  go_upto_region 3 with fail
  generalize w1.heap.size = g1 at *
  generalize w1.alloc (.cells #[.int .i64 1, .int .i64 (q : Int)] 26) = W at *
  have d0 := (K1.out.at 1 rfl).get 0
  have d1 := (K1.out.at 1 rfl).get 1
  have f0 := (K1.out.at 0 rfl).frozen 0
  have f1 := (K1.out.at 0 rfl).frozen 1
  have r0 := (K1.out.at 0 rfl).get 0
  have r1 := (K1.out.at 0 rfl).get 1
  simp at d0 d1 r0 r1
  have K2 := Lib.hid (K1.out.drew.store 0 rfl [.int .i64 1, .int .i64 (q : Int)] rfl)
  have s0 : ((W.setCell ⟨w.heap.size, 0, none⟩ (.int .i64 1)).setCell ⟨w.heap.size, 1, none⟩ (.int .i64 (q : Int))).drew.cell? ⟨w.heap.size, 0, none⟩ = some (.int .i64 1) := (K2.out.at 0 rfl).get 0
  have s1 : ((W.setCell ⟨w.heap.size, 0, none⟩ (.int .i64 1)).setCell ⟨w.heap.size, 1, none⟩ (.int .i64 (q : Int))).drew.cell? ⟨w.heap.size, 1, none⟩ = some (.int .i64 (q : Int)) := (K2.out.at 0 rfl).get 1
  have e0 : ((W.setCell ⟨w.heap.size, 0, none⟩ (.int .i64 1)).setCell ⟨w.heap.size, 1, none⟩ (.int .i64 (q : Int))).drew.cell? ⟨g1, 0, none⟩ = some (.int .i64 1) := (K2.out.at 1 rfl).get 0
  have e1 : ((W.setCell ⟨w.heap.size, 0, none⟩ (.int .i64 1)).setCell ⟨w.heap.size, 1, none⟩ (.int .i64 (q : Int))).drew.cell? ⟨g1, 1, none⟩ = some (.int .i64 (q : Int)) := (K2.out.at 1 rfl).get 1
  go_region_held3 (fun W => (W.cell? ⟨g1, 0, none⟩ = some (.int .i64 1) ∧ W.cell? ⟨g1, 1, none⟩ = some (.int .i64 (q : Int)))) (first | exact ⟨d0, d1⟩ | exact ⟨e0, e1⟩ | go_keep) (fail)
  go_wp2_with fail
  exact bodyPost_ret (v := .tuple #[.int .i64 0, .agg #[.int .i64 1, .int .i64 (q : Int)]]) (by simp [results, Try.results8, go_sem, s0, s1]) rfl ⟨rfl, K2.out.bel⟩
set_option maxRecDepth 10000 in
set_option maxHeartbeats 1600000 in
theorem ctotal_ok (A : Option Addr) (n cap : Nat) (L : List Sm) (w : World) (hn : (n : Int) ≤ 17592186043904) (hA : SmRow w A n L) (hg : cuGood L n) (CC : Hid (∀ w', Below w.heap.size w w' → Calls Try.prog 21 #[.slice A n cap] w' fun e w'' => e = .returned (.agg #[.int .i64 0, .int .i64 0]) ∧ Below w'.heap.size w' w'')) :
    Calls Try.prog 8 #[.slice A n cap] w fun e w' => e = .returned (.tuple #[.int .i64 (cuTo L n : Nat), .agg #[.int .i64 0, .int .i64 0]]) ∧ Below w.heap.size w w' := by
  have HA := Lib.hid hA
  have HN := Lib.hid hn
  have HG := Lib.hid hg
  clear hA hn hg
  go_enter Try.func8, Try.ntmps8
  have K0 := Lib.hid (KV.one w 26 [.int .i64 0, .int .i64 0])
  go_wp2_with fail
  refine (CC.out _ K0.out.bel).mono ?_
  rintro e w1 ⟨rfl, b1⟩
  have K1 := Lib.hid ((K0.out.below b1).new 26 [.int .i64 0, .int .i64 0])
  clear b1 K0 CC
  have m0 := (K1.out.at 1 rfl).get 0
  simp at m0
  have HK1 := Lib.hid (K1.out.pick [0] (by simp) rfl (fun q hq => by simp at hq; subst hq; rfl) : KV w [(26, w.heap.size, [.int .i64 0, .int .i64 0])] _)
  go_wp2_with fail
  go_loopw [5, 16] (fun v i wr => ∃ k : Nat, k ≤ n ∧ i = .int .i64 (k : Int) ∧ (∃ T : Nat, Hid (T = cuTo L k) ∧ v = .int .i64 (T : Int)) ∧ KV w [(26, w.heap.size, [.int .i64 0, .int .i64 0])] wr) (fun _ i _ => n - (intOf i).toNat)
  case atStart => exact ⟨0, Nat.zero_le _, rfl, ⟨0, rfl, rfl⟩, HK1.out⟩
  case round =>
    clear K1 HK1 m0
    obtain ⟨k, hk, rfl, ⟨T, hT, rfl⟩, hK⟩ := hrel
    have HK := Lib.hid hK
    clear hK
    by_cases hlt : k < n
    · obtain ⟨b, o, rfl, hl, hc⟩ := HA.out.addr (by omega)
      have q0 : wr.cell? ⟨b, o + k * 2, none⟩ = _ := (HK.out.bel.cell (p := ⟨b, o + k * 2, none⟩) hl).trans (hc k hlt).1
      have q1 : wr.cell? ⟨b, o + k * 2 + 1, none⟩ = _ := (HK.out.bel.cell (p := ⟨b, o + k * 2 + 1, none⟩) hl).trans (hc k hlt).2
      obtain ⟨t, ht⟩ : ∃ t, t = (L.getD k sm0).time := ⟨_, rfl⟩
      obtain ⟨z, hz⟩ : ∃ z, z = (L.getD k sm0).size := ⟨_, rfl⟩
      obtain ⟨U, hU⟩ : ∃ U, U = cuTo L (k + 1) := ⟨_, rfl⟩
      have v := cu_add HG.out hlt HN.out hT.out hU hz
      rw [← ht] at q0
      rw [← hz] at q1
      have HLT := Lib.hid hlt
      have HU := Lib.hid hU
      have u := cu_next hlt HN.out
      clear hc hl ht hz hlt hU hT
      go_wp2_with fail
      go_roundw
      case rel => exact ⟨k + 1, HLT.out, by rw [u], ⟨U, HU.out, by rw [v]⟩, (HK.out.below ((Below.refl _ _).alloc (Nat.le_refl _) _))⟩
      case measure => rw [u]; have hms := HLT.out; simp [intOf]; omega
    · obtain rfl : k = n := by omega
      have r0 := (HK.out.at 0 rfl).get 0
      have r1 := (HK.out.at 0 rfl).get 1
      have f0 := (HK.out.at 0 rfl).frozen 0
      have f1 := (HK.out.at 0 rfl).frozen 1
      simp at r0 r1
      have KE := Lib.hid (HK.out.store 0 rfl [.int .i64 0, .int .i64 0] rfl)
      have y0 := (KE.out.at 0 rfl).get 0
      have y1 := (KE.out.at 0 rfl).get 1
      simp [World.setCells] at y0 y1
      clear hk hlt
      go_wp2_with fail
      rw [← hT.out]
      exact bodyPost_ret (v := .tuple #[.int .i64 (T : Int), .agg #[.int .i64 0, .int .i64 0]]) (by simp [results, Try.results8, go_sem, y0, y1]) rfl ⟨rfl, KE.out.bel⟩
theorem ctotal_any (A : Option Addr) (n cap : Nat) (L : List Sm) (w : World) (hn : (n : Int) ≤ 17592186043904) (hA : SmRow w A n L) :
    Calls Try.prog 8 #[.slice A n cap] w fun e w' => e = .returned (.tuple #[.int .i64 (cuTotal L : Nat), .agg (fvC (cuBad L)).toArray]) ∧ Below w.heap.size w w' := by
  have CC := Lib.hid (fun w' (h : Below w.heap.size w w') => ccheck_any A n cap L w' hn (hA.below h))
  unfold cuTotal
  cases hB : cuBad L with
  | some q =>
    rw [hB] at CC
    rw [if_neg (by simp)]
    exact ctotal_bad A n cap q w CC
  | none =>
    rw [hB] at CC
    rw [if_pos rfl, hA.1]
    exact ctotal_ok A n cap L w hn hA (by have := cuGood_of hB; rw [hA.1] at this; exact this) CC
set_option maxRecDepth 10000 in
set_option maxHeartbeats 1600000 in
theorem rtotal_bad (A : Option Addr) (n cap : Nat) (q : Nat) (w : World) (CC : Hid (∀ w', Below w.heap.size w w' → Calls Try.prog 24 #[.slice A n cap] w' fun e w'' => e = .returned (.agg #[.int .i64 1, .int .i64 (q : Nat)]) ∧ Below w'.heap.size w' w'')) :
    Calls Try.prog 9 #[.slice A n cap] w fun e w' => e = .returned (.tuple #[.int .i64 0, .agg #[.int .i64 1, .int .i64 (q : Nat)]]) ∧ Below w.heap.size w w' := by
  go_enter Try.func9, Try.ntmps9
  have K0 := Lib.hid (KV.one w 26 [.int .i64 0, .int .i64 0])
  go_wp2_with fail
  refine (CC.out _ K0.out.bel).mono ?_
  rintro e w1 ⟨rfl, b1⟩
  have K1 := Lib.hid ((K0.out.below b1).new 26 [.int .i64 1, .int .i64 (q : Nat)])
  clear b1 K0 CC
  have m0 := (K1.out.at 1 rfl).get 0
  simp at m0
  go_upto_region 3 with fail
  generalize w1.heap.size = g1 at *
  generalize w1.alloc (.cells #[.int .i64 1, .int .i64 (q : Int)] 26) = W at *
  have d0 := (K1.out.at 1 rfl).get 0
  have d1 := (K1.out.at 1 rfl).get 1
  have f0 := (K1.out.at 0 rfl).frozen 0
  have f1 := (K1.out.at 0 rfl).frozen 1
  have r0 := (K1.out.at 0 rfl).get 0
  have r1 := (K1.out.at 0 rfl).get 1
  simp at d0 d1 r0 r1
  have K2 := Lib.hid (K1.out.drew.store 0 rfl [.int .i64 1, .int .i64 (q : Int)] rfl)
  have s0 : ((W.setCell ⟨w.heap.size, 0, none⟩ (.int .i64 1)).setCell ⟨w.heap.size, 1, none⟩ (.int .i64 (q : Int))).drew.cell? ⟨w.heap.size, 0, none⟩ = some (.int .i64 1) := (K2.out.at 0 rfl).get 0
  have s1 : ((W.setCell ⟨w.heap.size, 0, none⟩ (.int .i64 1)).setCell ⟨w.heap.size, 1, none⟩ (.int .i64 (q : Int))).drew.cell? ⟨w.heap.size, 1, none⟩ = some (.int .i64 (q : Int)) := (K2.out.at 0 rfl).get 1
  have e0 : ((W.setCell ⟨w.heap.size, 0, none⟩ (.int .i64 1)).setCell ⟨w.heap.size, 1, none⟩ (.int .i64 (q : Int))).drew.cell? ⟨g1, 0, none⟩ = some (.int .i64 1) := (K2.out.at 1 rfl).get 0
  have e1 : ((W.setCell ⟨w.heap.size, 0, none⟩ (.int .i64 1)).setCell ⟨w.heap.size, 1, none⟩ (.int .i64 (q : Int))).drew.cell? ⟨g1, 1, none⟩ = some (.int .i64 (q : Int)) := (K2.out.at 1 rfl).get 1
  go_region_held3 (fun W => (W.cell? ⟨g1, 0, none⟩ = some (.int .i64 1) ∧ W.cell? ⟨g1, 1, none⟩ = some (.int .i64 (q : Int)))) (first | exact ⟨d0, d1⟩ | exact ⟨e0, e1⟩ | go_keep) (fail)
  go_wp2_with fail
  exact bodyPost_ret (v := .tuple #[.int .i64 0, .agg #[.int .i64 1, .int .i64 (q : Int)]]) (by simp [results, Try.results9, go_sem, s0, s1]) rfl ⟨rfl, K2.out.bel⟩
set_option maxRecDepth 10000 in
set_option maxHeartbeats 1600000 in
theorem rtotal_ok (A : Option Addr) (n cap : Nat) (L : List Sm) (w : World) (hn : (n : Int) ≤ 17592186043904) (hA : SmRow w A n L) (hg : cuGood L n) (CC : Hid (∀ w', Below w.heap.size w w' → Calls Try.prog 24 #[.slice A n cap] w' fun e w'' => e = .returned (.agg #[.int .i64 0, .int .i64 0]) ∧ Below w'.heap.size w' w'')) :
    Calls Try.prog 9 #[.slice A n cap] w fun e w' => e = .returned (.tuple #[.int .i64 (cuTo L n : Nat), .agg #[.int .i64 0, .int .i64 0]]) ∧ Below w.heap.size w w' := by
  have HA := Lib.hid hA
  have HN := Lib.hid hn
  have HG := Lib.hid hg
  clear hA hn hg
  go_enter Try.func9, Try.ntmps9
  have K0 := Lib.hid (KV.one w 26 [.int .i64 0, .int .i64 0])
  go_wp2_with fail
  refine (CC.out _ K0.out.bel).mono ?_
  rintro e w1 ⟨rfl, b1⟩
  have K1 := Lib.hid ((K0.out.below b1).new 26 [.int .i64 0, .int .i64 0])
  clear b1 K0 CC
  have m0 := (K1.out.at 1 rfl).get 0
  simp at m0
  have HK1 := Lib.hid (K1.out.pick [0] (by simp) rfl (fun q hq => by simp at hq; subst hq; rfl) : KV w [(26, w.heap.size, [.int .i64 0, .int .i64 0])] _)
  go_wp2_with fail
  go_loopw [5, 6] (fun v i wr => ∃ k : Nat, k ≤ n ∧ i = .int .i64 (k : Int) ∧ (∃ T : Nat, Hid (T = cuTo L k) ∧ v = .int .i64 (T : Int)) ∧ KV w [(26, w.heap.size, [.int .i64 0, .int .i64 0])] wr) (fun _ i _ => n - (intOf i).toNat)
  case atStart => exact ⟨0, Nat.zero_le _, rfl, ⟨0, rfl, rfl⟩, HK1.out⟩
  case round =>
    clear K1 HK1 m0
    obtain ⟨k, hk, rfl, ⟨T, hT, rfl⟩, hK⟩ := hrel
    have HK := Lib.hid hK
    clear hK
    by_cases hlt : k < n
    · obtain ⟨b, o, rfl, hl, hc⟩ := HA.out.addr (by omega)
      have q0 : wr.cell? ⟨b, o + k * 2, none⟩ = _ := (HK.out.bel.cell (p := ⟨b, o + k * 2, none⟩) hl).trans (hc k hlt).1
      have q1 : wr.cell? ⟨b, o + k * 2 + 1, none⟩ = _ := (HK.out.bel.cell (p := ⟨b, o + k * 2 + 1, none⟩) hl).trans (hc k hlt).2
      obtain ⟨t, ht⟩ : ∃ t, t = (L.getD k sm0).time := ⟨_, rfl⟩
      obtain ⟨z, hz⟩ : ∃ z, z = (L.getD k sm0).size := ⟨_, rfl⟩
      obtain ⟨U, hU⟩ : ∃ U, U = cuTo L (k + 1) := ⟨_, rfl⟩
      have v := cu_add HG.out hlt HN.out hT.out hU hz
      rw [← ht] at q0
      rw [← hz] at q1
      have HLT := Lib.hid hlt
      have HU := Lib.hid hU
      have u := cu_next hlt HN.out
      clear hc hl ht hz hlt hU hT
      go_wp2_with fail
      go_roundw
      case rel => exact ⟨k + 1, HLT.out, by rw [u], ⟨U, HU.out, by rw [v]⟩, HK.out⟩
      case measure => rw [u]; have hms := HLT.out; simp [intOf]; omega
    · obtain rfl : k = n := by omega
      have r0 := (HK.out.at 0 rfl).get 0
      have r1 := (HK.out.at 0 rfl).get 1
      have f0 := (HK.out.at 0 rfl).frozen 0
      have f1 := (HK.out.at 0 rfl).frozen 1
      simp at r0 r1
      have KE := Lib.hid (HK.out.store 0 rfl [.int .i64 0, .int .i64 0] rfl)
      have y0 := (KE.out.at 0 rfl).get 0
      have y1 := (KE.out.at 0 rfl).get 1
      simp [World.setCells] at y0 y1
      clear hk hlt
      go_wp2_with fail
      rw [← hT.out]
      exact bodyPost_ret (v := .tuple #[.int .i64 (T : Int), .agg #[.int .i64 0, .int .i64 0]]) (by simp [results, Try.results9, go_sem, y0, y1]) rfl ⟨rfl, KE.out.bel⟩
theorem rtotal_any (A : Option Addr) (n cap : Nat) (L : List Sm) (w : World) (hn : (n : Int) ≤ 17592186043904) (hA : SmRow w A n L) :
    Calls Try.prog 9 #[.slice A n cap] w fun e w' => e = .returned (.tuple #[.int .i64 (cuTotal L : Nat), .agg (fvC (cuBad L)).toArray]) ∧ Below w.heap.size w w' := by
  have CC := Lib.hid (fun w' (h : Below w.heap.size w w') => rcheck_any A n cap L w' hn (hA.below h))
  unfold cuTotal
  cases hB : cuBad L with
  | some q =>
    rw [hB] at CC
    rw [if_neg (by simp)]
    exact rtotal_bad A n cap q w CC
  | none =>
    rw [hB] at CC
    rw [if_pos rfl, hA.1]
    exact rtotal_ok A n cap L w hn hA (by have := cuGood_of hB; rw [hA.1] at this; exact this) CC
end Go.Proofs.Ytemgnaalmgkfiaa
