/-
  curve's times.
-/
import Derived.Test.YtemgnaalmgkfiaaCu1
import Derived.Test.YtemgnaalmgkfiaaRt2
namespace Go.Proofs.Ytemgnaalmgkfiaa
open Go.RowKit
set_option linter.unusedVariables false
attribute [local go_sem ↓] Go.wp_at_zero Go.wp_at_succ

/-- The first k times, then zeros. -/
def tRow (L : List Sm) (n k : Nat) : List Nat := (List.range n).map fun i => if i < k then (L.getD i sm0).time else 0
theorem tRow_zero (L : List Sm) (n : Nat) : tRow L n 0 = List.replicate n 0 := by
  apply List.ext_getElem
  · simp [tRow]
  · intro i h1 h2; simp [tRow]
theorem tRow_set {L : List Sm} {n k t : Nat} (hk : k < n) (ht : t = (L.getD k sm0).time) : (tRow L n k).set k t = tRow L n (k + 1) := by
  apply List.ext_getElem
  · simp [tRow]
  · intro i h1 h2
    rw [List.getElem_set]
    simp only [tRow, List.getElem_map, List.getElem_range]
    by_cases e : k = i
    · subst e
      rw [if_pos rfl, if_pos (by omega), ht]
    · rw [if_neg e]
      by_cases h : i < k
      · rw [if_pos h, if_pos (by omega)]
      · rw [if_neg h, if_neg (by omega)]
theorem tRow_all {L : List Sm} {n : Nat} (h : L.length = n) : tRow L n n = smT L := by
  apply List.ext_getElem
  · simp [tRow, smT, h]
  · intro i h1 h2
    have hi : i < L.length := by simpa [smT] using h2
    simp only [tRow, List.getElem_map, List.getElem_range, smT]
    rw [if_pos (by omega), smD_in hi]
theorem smT_word {w : World} {A : Option Addr} {n : Nat} {L : List Sm} (h : SmRow w A n L) : ∀ x ∈ smT L, x < 18446744073709551616 := by
  intro x hx
  simp only [smT, List.mem_map] at hx
  obtain ⟨s, hs, rfl⟩ := hx
  have := (h.2.1 s hs).time
  omega
theorem cellsU_set (xs : List Nat) (i x : Nat) : (cellsU xs).set i (.int .u64 (x : Nat)) = cellsU (xs.set i x) := by simp [cellsU, List.map_set]

set_option maxRecDepth 10000 in
set_option maxHeartbeats 1600000 in
theorem ctimes_any (A : Option Addr) (n cap : Nat) (L : List Sm) (w : World) (hn : n ≤ 1048576) (hA : SmRow w A n L) :
    Calls Try.prog 33 #[.slice A n cap] w fun e w' => ∃ v, e = .returned v ∧ OutU w.heap.size w' v (rtRun (smT L)) ∧ Below w.heap.size w w' := by
  have HL := Lib.hid hA.1
  have HA := Lib.hid hA
  have HN : Hid ((n : Int) ≤ 17592186043904) := (by omega : (n : Int) ≤ 17592186043904)
  have hmk := make_rowU n hn w
  have CR := Lib.hid (fun (B : Option Addr) w' => rtrun_any B n n (smT L) w' HN.out)
  have HW := Lib.hid (smT_word hA)
  clear hA hn
  go_enter Try.func33, Try.ntmps33
  have K0 := Lib.hid (KV.one w 23 (cellsU (List.replicate n 0)))
  rw [← tRow_zero L n] at hmk K0
  go_wp2_with fail
  clear hmk
  go_loopw [11] (fun i wr => ∃ k : Nat, k ≤ n ∧ i = .int .i64 (k : Int) ∧ KV w [(23, w.heap.size, cellsU (tRow L n k))] wr) (fun i _ => n - (intOf i).toNat)
  case atStart => exact ⟨0, Nat.zero_le _, rfl, K0.out⟩
  case round =>
    clear K0
    obtain ⟨k, hk, rfl, hK⟩ := hrel
    have HK := Lib.hid hK
    clear hK
    by_cases hlt : k < n
    · obtain ⟨b, o, rfl, hl, hc⟩ := HA.out.addr (by omega)
      have q0 : wr.cell? ⟨b, o + k * 2, none⟩ = _ := (HK.out.bel.cell (p := ⟨b, o + k * 2, none⟩) hl).trans (hc k hlt).1
      have q1 : wr.cell? ⟨b, o + k * 2 + 1, none⟩ = _ := (HK.out.bel.cell (p := ⟨b, o + k * 2 + 1, none⟩) hl).trans (hc k hlt).2
      obtain ⟨t, ht⟩ : ∃ t, t = (L.getD k sm0).time := ⟨_, rfl⟩
      obtain ⟨z, hz⟩ : ∃ z, z = (L.getD k sm0).size := ⟨_, rfl⟩
      rw [← ht] at q0
      rw [← hz] at q1
      have HKN := Lib.hid (HK.out.new 55 [.int .u64 (t : Nat), .int .i64 z])
      obtain ⟨x, hx⟩ : ∃ x, x = (tRow L n k).getD k 0 := ⟨_, rfl⟩
      have g0 : (wr.alloc (.cells #[.int .u64 (t : Int), .int .i64 z] 55)).cell? ⟨w.heap.size, k, none⟩ = some (.int .u64 (x : Nat)) := by
        refine ((HKN.out.at 0 rfl).get k).trans ?_
        rw [hx]
        simp [cellsU, tRow, hlt]
      have f0 := (HKN.out.at 0 rfl).frozen k
      have HP := Lib.hid (HKN.out.put 0 rfl k (.int .u64 (t : Nat)))
      have HT := Lib.hid (tRow_set hlt ht)
      have HLT := Lib.hid hlt
      have u := cu_next hlt HN.out
      clear hc hl ht hz hlt hx
      go_wp2_with fail
      go_roundw
      case rel => exact ⟨k + 1, HLT.out, by rw [u], by rw [← HT.out, ← cellsU_set]; exact HP.out.pick [0] (by simp) rfl (fun q hq => by simp at hq; subst hq; rfl)⟩
      case measure => rw [u]; have hms := HLT.out; simp [intOf]; omega
    · obtain rfl : k = n := by omega
      have hO : OwnU wr w.heap.size (tRow L k k) := HK.out.at 0 rfl
      have hr := hO.row (by rw [tRow_all HL.out]; exact HW.out)
      rw [show (tRow L k k).length = k by simp [tRow], tRow_all HL.out] at hr
      have HR := Lib.hid hr
      clear hk hlt hO hr
      go_wp2_with fail
      refine (CR.out _ _ HR.out).mono ?_
      rintro e w2 ⟨v, rfl, ho, hb⟩
      have HO := Lib.hid (ho.mono HK.out.bel.size)
      have HB := Lib.hid (below_both HK.out.bel hb)
      clear ho hb
      go_wp2_with fail
      go_ret
      exact ⟨_, rfl, HO.out, HB.out⟩
end Go.Proofs.Ytemgnaalmgkfiaa
