/-
  Only, of curve and of the document; SameSamples over equal rows.
-/
import Derived.Test.YtemgnaalmgkfiaaCu1
import Derived.Test.YtemgnaalmgkfiaaSmRows
import Derived.Test.YtemgnaalmgkfiaaRowsZ
import Derived.DeepKeys
namespace Go.Proofs.Ytemgnaalmgkfiaa
open Go.RowKit
set_option linter.unusedVariables false
attribute [local go_sem ↓] Go.wp_at_zero Go.wp_at_succ

/-- A packet as Only leaves it. -/
def onAt (L : List Sm) (C : List Int) (worst : Int) (i : Nat) : Sm := if C.length ≤ i ∨ worst < C.getD i 0 then ⟨(L.getD i sm0).time, 0⟩ else L.getD i sm0
def onTo (L : List Sm) (C : List Int) (worst : Int) (k : Nat) : List Sm := (List.range L.length).map fun i => if i < k then onAt L C worst i else L.getD i sm0
def cuOnly (L : List Sm) (C : List Int) (worst : Int) : List Sm := (List.range L.length).map (onAt L C worst)
theorem onTo_len (L : List Sm) (C : List Int) (worst : Int) (k : Nat) : (onTo L C worst k).length = L.length := by simp [onTo]
theorem cuOnly_len (L : List Sm) (C : List Int) (worst : Int) : (cuOnly L C worst).length = L.length := by simp [cuOnly]
theorem onTo_zero (L : List Sm) (C : List Int) (worst : Int) : onTo L C worst 0 = L := by
  apply List.ext_getElem
  · simp [onTo]
  · intro i h1 h2
    simp only [onTo, List.getElem_map, List.getElem_range]
    rw [if_neg (by omega), smD_in h2]
theorem onTo_all (L : List Sm) (C : List Int) (worst : Int) : onTo L C worst L.length = cuOnly L C worst := by
  apply List.map_congr_left
  intro i hi
  rw [if_pos (List.mem_range.1 hi)]
theorem onTo_keep {L : List Sm} {C : List Int} {worst : Int} {k : Nat} (h : ¬ (C.length ≤ k ∨ worst < C.getD k 0)) : onTo L C worst (k + 1) = onTo L C worst k := by
  apply List.map_congr_left
  intro i hi
  by_cases e : i < k
  · rw [if_pos e, if_pos (by omega)]
  · rw [if_neg e]
    by_cases e2 : i < k + 1
    · obtain rfl : i = k := by omega
      rw [if_pos e2]
      unfold onAt
      rw [if_neg h]
    · rw [if_neg e2]
theorem smcells_set_size : ∀ {L : List Sm} {k : Nat} {z : Int} {s : Sm}, k < L.length → L.getD k sm0 = s → (smcells L).set (k * 2 + 1) (.int .i64 z) = smcells (L.set k ⟨s.time, z⟩)
  | [], k, _, _, h, _ => absurd h (Nat.not_lt_zero _)
  | q :: L, 0, z, s, _, hs => by
    have e : q = s := hs
    subst e
    rfl
  | q :: L, k + 1, z, s, h, hs => by
    have ih := smcells_set_size (L := L) (k := k) (z := z) (s := s) (by simpa using h) (by simpa using hs)
    have e : smcells (q :: L) = .int .u64 (q.time : Nat) :: .int .i64 q.size :: smcells L := rfl
    rw [e, show (k + 1) * 2 + 1 = k * 2 + 1 + 1 + 1 by omega]
    simp only [List.set_cons_succ]
    rw [ih]
    rfl
theorem onTo_cut {L : List Sm} {C : List Int} {worst : Int} {k : Nat} (hk : k < L.length) (h : C.length ≤ k ∨ worst < C.getD k 0) : (smcells (onTo L C worst k)).set (k * 2 + 1) (.int .i64 0) = smcells (onTo L C worst (k + 1)) := by
  have hg : (onTo L C worst k).getD k sm0 = L.getD k sm0 := by
    rw [smD_in (by rw [onTo_len]; exact hk)]
    simp only [onTo, List.getElem_map, List.getElem_range]
    rw [if_neg (by omega)]
  rw [smcells_set_size (by rw [onTo_len]; exact hk) hg]
  congr 1
  apply List.ext_getElem
  · simp [onTo]
  · intro i h1 h2
    rw [List.getElem_set]
    simp only [onTo, List.getElem_map, List.getElem_range]
    by_cases e : k = i
    · subst e
      rw [if_pos rfl, if_pos (by omega)]
      unfold onAt
      rw [if_pos h]
    · rw [if_neg e]
      by_cases e2 : i < k
      · rw [if_pos e2, if_pos (by omega)]
      · rw [if_neg e2, if_neg (by omega)]
theorem cuOnly_take {L : List Sm} {C : List Int} {worst : Int} {k : Nat} (hk : k < L.length) : (cuOnly L C worst).take (k + 1) = (cuOnly L C worst).take k ++ [onAt L C worst k] := by
  rw [List.take_add_one]
  congr 1
  simp [cuOnly, hk]
theorem on_yes {L : List Sm} {C : List Int} {worst : Int} {k t : Nat} (h : C.length ≤ k ∨ worst < C.getD k 0) (ht : t = (L.getD k sm0).time) : onAt L C worst k = ⟨t, 0⟩ := by unfold onAt; rw [if_pos h, ht]
theorem on_no {L : List Sm} {C : List Int} {worst : Int} {k t : Nat} {z : Int} (h : ¬ (C.length ≤ k ∨ worst < C.getD k 0)) (ht : t = (L.getD k sm0).time) (hz : z = (L.getD k sm0).size) : onAt L C worst k = ⟨t, z⟩ := by unfold onAt; rw [if_neg h, ht, hz]
theorem onAt_ok {L : List Sm} {C : List Int} {worst : Int} (hL : ∀ s ∈ L, SmOk s) {k : Nat} (hk : k < L.length) : SmOk (onAt L C worst k) := by
  have h := hL (L.getD k sm0) (by rw [smD_in hk]; exact List.getElem_mem hk)
  unfold onAt
  split
  · exact ⟨h.time, by show I64k 0; unfold I64k; omega⟩
  · exact h
theorem cuOnly_ok {L : List Sm} {C : List Int} {worst : Int} (hL : ∀ s ∈ L, SmOk s) : ∀ s ∈ cuOnly L C worst, SmOk s := by
  intro s hs
  obtain ⟨i, hi, rfl⟩ := List.mem_map.1 hs
  exact onAt_ok hL (List.mem_range.1 hi)
theorem kv_ones {w W : World} {t : TypeId} {g : Nat} {cs : List Value} (h1 : ArrV t W g cs) (hg : w.heap.size ≤ g) (hb : Below w.heap.size w W) : KV w [(t, g, cs)] W := by
  refine ⟨fun i p hp => ?_, fun i p hp => ?_, fun i j p q hp hq hij => ?_, hb⟩
  · match i, hp with
    | 0, hp => simp at hp; subst hp; exact h1
    | i + 1, hp => simp at hp
  · match i, hp with
    | 0, hp => simp at hp; subst hp; exact hg
    | i + 1, hp => simp at hp
  · match i, j, hp, hq with
    | 0, 0, _, _ => exact absurd rfl hij
    | i + 1, _, hp, _ => simp at hp
    | 0, j + 1, _, hq => simp at hq

set_option maxRecDepth 10000 in
set_option maxHeartbeats 1600000 in
theorem conly_any (A : Option Addr) (n cap : Nat) (L : List Sm) (Ac : Option Addr) (nc cc0 : Nat) (C : List Int) (worst : Int) (w : World) (hn : n ≤ 1048576) (hA : SmRow w A n L) (hC : RowZ w Ac nc C) :
    Calls Try.prog 14 #[.slice A n cap, .slice Ac nc cc0, .int .i64 worst] w fun e w' => ∃ v, e = .returned v ∧ ValSm w' v (cuOnly L C worst) ∧ Below w.heap.size w w' := by
  have hmk := make_rowSm n hn w
  have hA1 := hA.below ((Below.refl w.heap.size w).alloc (Nat.le_refl _) (.cells (smcells (List.replicate n ⟨0, 0⟩)).toArray 55))
  obtain ⟨w2, hcp, ho, hb⟩ := copy_newSm _ w.heap.size n _ A cap L (ArrV.new 55 w (smcells (List.replicate n ⟨0, 0⟩))) (by rw [smcells_length, List.length_replicate]) hA1
  have bw : Below w.heap.size w w2 := ((Below.refl _ w).alloc (Nat.le_refl _) _).trans hb
  have K0 : Hid (KV w [(55, w.heap.size, smcells (onTo L C worst 0))] w2) := by
    rw [onTo_zero]
    exact kv_ones ho (Nat.le_refl _) bw
  have HL := Lib.hid hA.1
  have HOK := Lib.hid hA.2.1
  have HC := Lib.hid hC
  have HCL := Lib.hid hC.1
  have HN : Hid ((n : Int) ≤ 17592186043904) := (by omega : (n : Int) ≤ 17592186043904)
  clear hA hC hn hA1 ho hb bw
  go_enter Try.func14, Try.ntmps14
  go_wp2_with fail
  clear hmk hcp
  go_loopw [17] (fun i wr => ∃ k : Nat, k ≤ n ∧ i = .int .i64 (k : Int) ∧ KV w [(55, w.heap.size, smcells (onTo L C worst k))] wr) (fun i _ => n - (intOf i).toNat)
  case atStart => exact ⟨0, Nat.zero_le _, rfl, K0.out⟩
  case round =>
    clear K0
    obtain ⟨k, hk, rfl, hK⟩ := hrel
    have HK := Lib.hid hK
    clear hK
    by_cases hlt : k < n
    · have HLT := Lib.hid hlt
      have u := cu_next hlt HN.out
      have hli : (k : Int) < (n : Int) := by omega
      have hst := smcells_at (L := onTo L C worst k) (i := k) (by rw [onTo_len, HL.out]; exact hlt)
      have q1 : wr.cell? ⟨w.heap.size, 0 + k * 2 + 1, none⟩ = some (.int .i64 ((onTo L C worst k).getD k sm0).size) := by rw [Nat.zero_add]; exact ((HK.out.at 0 rfl).get (k * 2 + 1)).trans hst.2
      have q2 : wr.cell? ⟨w.heap.size, k * 2 + 1, none⟩ = _ := ((HK.out.at 0 rfl).get (k * 2 + 1)).trans hst.2
      have fq := (HK.out.at 0 rfl).frozen (k * 2 + 1)
      obtain ⟨qv, hqv⟩ : ∃ z, z = ((onTo L C worst k).getD k sm0).size := ⟨_, rfl⟩
      rw [← hqv] at q1 q2
      clear hst hqv hk hlt
      by_cases hcl : nc ≤ k
      · have hon : C.length ≤ k ∨ worst < C.getD k 0 := .inl (by rw [HCL.out]; exact hcl)
        have hci : (nc : Int) ≤ (k : Int) := by omega
        clear hcl
        have HS := Lib.hid (onTo_cut (L := L) (C := C) (worst := worst) (k := k) (by rw [HL.out]; exact HLT.out) hon)
        clear hon
        go_wp2_with fail
        go_roundw
        case rel => exact ⟨k + 1, HLT.out, by rw [u], by have h := HK.out.put 0 rfl (k * 2 + 1) (.int .i64 0); rw [HS.out] at h; exact h⟩
        case measure => rw [u]; have hms := HLT.out; simp [intOf]; omega
      · have hci : ¬ (nc : Int) ≤ (k : Int) := by omega
        obtain ⟨cb, co, rfl, hcb, hcc⟩ := HC.out.addr (by omega)
        obtain ⟨cv, hcv⟩ : ∃ x, x = C.getD k 0 := ⟨_, rfl⟩
        have cc : wr.cell? ⟨cb, co + k, none⟩ = some (.int .i64 cv) := by rw [hcv]; exact (HK.out.bel.cell (p := ⟨cb, co + k, none⟩) hcb).trans (hcc k (by omega))
        by_cases hw : worst < cv
        · have hon : C.length ≤ k ∨ worst < C.getD k 0 := .inr (by rw [← hcv]; exact hw)
          clear hcl hcv hcb hcc
          have HS := Lib.hid (onTo_cut (L := L) (C := C) (worst := worst) (k := k) (by rw [HL.out]; exact HLT.out) hon)
          clear hon
          go_wp2_with fail
          go_roundw
          case rel => exact ⟨k + 1, HLT.out, by rw [u], by have h := HK.out.put 0 rfl (k * 2 + 1) (.int .i64 0); rw [HS.out] at h; exact h⟩
          case measure => rw [u]; have hms := HLT.out; simp [intOf]; omega
        · have hon : ¬ (C.length ≤ k ∨ worst < C.getD k 0) := by rw [← hcv, HCL.out]; omega
          clear hcl hcv hcb hcc
          have HS := Lib.hid (onTo_keep (L := L) hon)
          clear hon
          go_wp2_with fail
          go_roundw
          case rel => exact ⟨k + 1, HLT.out, by rw [u], by rw [HS.out]; exact HK.out⟩
          case measure => rw [u]; have hms := HLT.out; simp [intOf]; omega
    · obtain rfl : k = n := by omega
      have HV : Hid (ValSm wr (.slice (some ⟨w.heap.size, 0, none⟩) k k) (cuOnly L C worst)) := by
        have h := (HK.out.at 0 rfl)
        rw [← HL.out, onTo_all] at h
        have h2 := h.smrow (cuOnly_ok HOK.out)
        rw [cuOnly_len] at h2
        refine ⟨some ⟨w.heap.size, 0, none⟩, k, ?_, ?_, ?_⟩
        · rw [cuOnly_len, HL.out]
        · rw [cuOnly_len, HL.out]; exact Nat.le_refl _
        · rw [cuOnly_len]; exact h2
      clear hk hlt
      go_wp2_with fail
      go_ret
      exact ⟨_, rfl, HV.out, HK.out.bel⟩

theorem OutSm.setfar {B : Nat} {w : World} {u : Value} {L : List Sm} (h : OutSm B w u L) {g j : Nat} {v : Value} (hf : u.ownBlock ≠ some g) : OutSm B (w.setCell ⟨g, j, none⟩ v) u L := by
  refine ⟨h.1, ?_⟩
  rcases h.2 with h2 | ⟨g', cap, cur, hv, hg, hh, r⟩
  · exact .inl h2
  · refine .inr ⟨g', cap, cur, hv, hg, (heap_setCell_other w ⟨g, j, none⟩ g' v (fun e => hf (by rw [hv]; show some g' = some g; rw [show g' = g from e]))).trans hh, r⟩
theorem OutSm.own_lt {B : Nat} {w : World} {u : Value} {L : List Sm} (h : OutSm B w u L) : u.ownBlock ≠ some w.heap.size := by
  rcases h.2 with ⟨rfl, _⟩ | ⟨g', cap, cur, rfl, hg, hh, r⟩
  · intro e; cases e
  · intro e
    have : g' = w.heap.size := by injection e
    subst this
    rw [Array.getElem?_eq_none (Nat.le_refl _)] at hh
    cases hh
set_option maxRecDepth 10000 in
set_option maxHeartbeats 1600000 in
theorem ronly_any (A : Option Addr) (n cap : Nat) (L : List Sm) (Ac : Option Addr) (nc cc0 : Nat) (C : List Int) (worst : Int) (w : World) (hn : n ≤ 1048576) (hA : SmRow w A n L) (hC : RowZ w Ac nc C) :
    Calls Try.prog 15 #[.slice A n cap, .slice Ac nc cc0, .int .i64 worst] w fun e w' => ∃ v, e = .returned v ∧ ValSm w' v (cuOnly L C worst) ∧ Below w.heap.size w w' := by
  have HL := Lib.hid hA.1
  have HOK := Lib.hid hA.2.1
  have HA := Lib.hid hA
  have HC := Lib.hid hC
  have HCL := Lib.hid hC.1
  have HN : Hid ((n : Int) ≤ 17592186043904) := (by omega : (n : Int) ≤ 17592186043904)
  have HN2 := Lib.hid hn
  clear hA hC hn
  go_enter Try.func15, Try.ntmps15
  go_wp2_with fail
  go_loopw [7, 8] (fun v i wr => ∃ k : Nat, k ≤ n ∧ i = .int .i64 (k : Int) ∧ OutSm w.heap.size wr v ((cuOnly L C worst).take k) ∧ Below w.heap.size w wr) (fun _ i _ => n - (intOf i).toNat)
  case atStart => exact ⟨0, Nat.zero_le _, rfl, OutSm.nil _ _, Below.refl _ _⟩
  case round =>
    obtain ⟨k, hk, rfl, ho, hb⟩ := hrel
    have HO := Lib.hid ho
    have HB := Lib.hid hb
    clear ho hb
    by_cases hlt : k < n
    · obtain ⟨b, o, rfl, hl, hc⟩ := HA.out.addr (by omega)
      have q0 : wr.cell? ⟨b, o + k * 2, none⟩ = _ := (HB.out.cell (p := ⟨b, o + k * 2, none⟩) hl).trans (hc k hlt).1
      have q1 : wr.cell? ⟨b, o + k * 2 + 1, none⟩ = _ := (HB.out.cell (p := ⟨b, o + k * 2 + 1, none⟩) hl).trans (hc k hlt).2
      obtain ⟨t, ht⟩ : ∃ t, t = (L.getD k sm0).time := ⟨_, rfl⟩
      obtain ⟨z, hz⟩ : ∃ z, z = (L.getD k sm0).size := ⟨_, rfl⟩
      rw [← ht] at q0
      rw [← hz] at q1
      have HT := Lib.hid ht
      have HZ := Lib.hid hz
      have HLT := Lib.hid hlt
      have u := cu_next hlt HN.out
      have hli : (k : Int) < (n : Int) := by omega
      have HTK := Lib.hid (cuOnly_take (L := L) (C := C) (worst := worst) (k := k) (by rw [HL.out]; exact hlt))
      have hll : Hid (((cuOnly L C worst).take k).length + 1 ≤ 8796093022207) := (by rw [List.length_take, cuOnly_len, HL.out]; have := HN2.out; omega : ((cuOnly L C worst).take k).length + 1 ≤ 8796093022207)
      clear ht hz hk hlt hl hc
      by_cases hcl : nc ≤ k
      · have hon : C.length ≤ k ∨ worst < C.getD k 0 := .inl (by rw [HCL.out]; exact hcl)
        have hci : (nc : Int) ≤ (k : Int) := by omega
        clear hcl
        have HS := Lib.hid (on_yes (L := L) hon HT.out)
        clear hon
        have KN := Lib.hid (KV.one wr 55 [.int .u64 (t : Nat), .int .i64 0])
        have HO2 := Lib.hid (HO.out.alloc (.cells #[.int .u64 (t : Int), .int .i64 0] 55))
        have HB2 := Lib.hid (HB.out.alloc HB.out.size (.cells #[.int .u64 (t : Int), .int .i64 0] 55))
        have m0 : (wr.alloc (.cells #[.int .u64 (t : Int), .int .i64 0] 55)).cell? ⟨wr.heap.size, 0, none⟩ = some (.int .u64 (t : Int)) := (KN.out.at 0 rfl).get 0
        have m1 : (wr.alloc (.cells #[.int .u64 (t : Int), .int .i64 0] 55)).cell? ⟨wr.heap.size, 1, none⟩ = some (.int .i64 0) := (KN.out.at 0 rfl).get 1
        go_upto_region 8 with fail
        generalize hW4 : wr.alloc (.cells #[.int .u64 (t : Int), .int .i64 0] 55) = W4 at *
        clear KN hW4
        go_wp2_with (first | (at_builtin; refine wpList_appendSm (by rfl) (.tmp 33) (.tmp 35) (by rfl) (p := t) (q := 0) (by rfl) (by rfl) HO2.out HB2.out HB2.out.size hll.out ?_; intro v' w' ho' hb') | fail)
        go_roundw
        case rel => exact ⟨k + 1, HLT.out, by rw [u], by rw [HTK.out, HS.out]; exact ho', hb'⟩
        case measure => rw [u]; have hms := HLT.out; simp [intOf]; omega
      · have hci : ¬ (nc : Int) ≤ (k : Int) := by omega
        obtain ⟨cb, co, rfl, hcb, hcc⟩ := HC.out.addr (by omega)
        obtain ⟨cv, hcv⟩ : ∃ x, x = C.getD k 0 := ⟨_, rfl⟩
        have cc : (wr.alloc (.cells #[.int .u64 (t : Int), .int .i64 z] 55)).cell? ⟨cb, co + k, none⟩ = some (.int .i64 cv) := by rw [hcv]; exact ((HB.out.alloc HB.out.size _).cell (p := ⟨cb, co + k, none⟩) hcb).trans (hcc k (by omega))
        by_cases hw : worst < cv
        · have hon : C.length ≤ k ∨ worst < C.getD k 0 := .inr (by rw [← hcv]; exact hw)
          clear hcl hcv hcb hcc
          have HS := Lib.hid (on_yes (L := L) hon HT.out)
          clear hon
          have KN := Lib.hid (KV.one wr 55 [.int .u64 (t : Nat), .int .i64 0])
          have HO2 := Lib.hid (HO.out.alloc (.cells #[.int .u64 (t : Int), .int .i64 0] 55))
          have HB2 := Lib.hid (HB.out.alloc HB.out.size (.cells #[.int .u64 (t : Int), .int .i64 0] 55))
          have m0 : (wr.alloc (.cells #[.int .u64 (t : Int), .int .i64 0] 55)).cell? ⟨wr.heap.size, 0, none⟩ = some (.int .u64 (t : Int)) := (KN.out.at 0 rfl).get 0
          have m1 : (wr.alloc (.cells #[.int .u64 (t : Int), .int .i64 0] 55)).cell? ⟨wr.heap.size, 1, none⟩ = some (.int .i64 0) := (KN.out.at 0 rfl).get 1
          go_upto_region 8 with fail
          generalize hW4 : wr.alloc (.cells #[.int .u64 (t : Int), .int .i64 0] 55) = W4 at *
          clear KN hW4
          go_wp2_with (first | (at_builtin; refine wpList_appendSm (by rfl) (.tmp 33) (.tmp 35) (by rfl) (p := t) (q := 0) (by rfl) (by rfl) HO2.out HB2.out HB2.out.size hll.out ?_; intro v' w' ho' hb') | fail)
          go_roundw
          case rel => exact ⟨k + 1, HLT.out, by rw [u], by rw [HTK.out, HS.out]; exact ho', hb'⟩
          case measure => rw [u]; have hms := HLT.out; simp [intOf]; omega
        · have hon : ¬ (C.length ≤ k ∨ worst < C.getD k 0) := by rw [← hcv, HCL.out]; omega
          clear hcl hcv hcb hcc
          have HS := Lib.hid (on_no (L := L) hon HT.out HZ.out)
          clear hon
          have KN := Lib.hid (KV.one wr 55 [.int .u64 (t : Nat), .int .i64 z])
          have HO2 := Lib.hid (HO.out.alloc (.cells #[.int .u64 (t : Int), .int .i64 z] 55))
          have HB2 := Lib.hid (HB.out.alloc HB.out.size (.cells #[.int .u64 (t : Int), .int .i64 z] 55))
          have m0 : (wr.alloc (.cells #[.int .u64 (t : Int), .int .i64 z] 55)).cell? ⟨wr.heap.size, 0, none⟩ = some (.int .u64 (t : Int)) := (KN.out.at 0 rfl).get 0
          have m1 : (wr.alloc (.cells #[.int .u64 (t : Int), .int .i64 z] 55)).cell? ⟨wr.heap.size, 1, none⟩ = some (.int .i64 z) := (KN.out.at 0 rfl).get 1
          go_upto_region 8 with fail
          generalize hW4 : wr.alloc (.cells #[.int .u64 (t : Int), .int .i64 z] 55) = W4 at *
          clear KN hW4
          go_wp2_with (first | (at_builtin; refine wpList_appendSm (by rfl) (.tmp 33) (.tmp 35) (by rfl) (p := t) (q := z) (by rfl) (by rfl) HO2.out HB2.out HB2.out.size hll.out ?_; intro v' w' ho' hb') | fail)
          go_roundw
          case rel => exact ⟨k + 1, HLT.out, by rw [u], by rw [HTK.out, HS.out]; exact ho', hb'⟩
          case measure => rw [u]; have hms := HLT.out; simp [intOf]; omega
    · obtain rfl : k = n := by omega
      have HV := Lib.hid (HO.out.val (fun s hs => cuOnly_ok HOK.out s (List.mem_of_mem_take hs)))
      rw [List.take_of_length_le (by rw [cuOnly_len, HL.out]; exact Nat.le_refl _)] at HV
      clear hk hlt
      go_wp2_with fail
      go_ret
      exact ⟨_, rfl, HV.out, HB.out⟩

theorem KV.belowB0 {w W : World} (h : KV w [] w) (hb : Below w.heap.size w W) : KV w [] W := ⟨fun i p hp => by simp at hp, fun i p hp => by simp at hp, fun i j p q hp => by simp at hp, hb⟩
theorem quietAt_cells {C : World → Prop} {o : Oper} {a : Act} {W : World} {t : TypeId} {x : Operand} {g off n : Nat} {vs : List Value} (ho : o.op = .load t x) (hx : a.eval x = .pointer (some ⟨g, off, none⟩)) (ht : RowTy t n) (h : ∀ (j : Nat) v, vs[j]? = some v → W.cell? ⟨g, off + j, none⟩ = some v) (hl : vs.length = n) :
    Oper.quietAt Try.prog o a C W (.agg vs.toArray) := by
  obtain ⟨d, hd, hr⟩ := ht.desc
  have hload : (Instr.loadAt t (.pointer (some ⟨g, off, none⟩))).run Try.prog W = .ok (.agg vs.toArray) W := run_loadAt_mid W g off t vs d h hd hr (by rw [hl]; exact ht.size)
  unfold Oper.quietAt execOp
  simp only [ho, hx, Sem.run_bind, Sem.run_pure, hload, Result.andThen_ok]
  exact ⟨rfl, rfl⟩
theorem two_cells {W : World} {g off : Nat} {u v : Value} (h0 : W.cell? ⟨g, off, none⟩ = some u) (h1 : W.cell? ⟨g, off + 1, none⟩ = some v) : ∀ (j : Nat) x, [u, v][j]? = some x → W.cell? ⟨g, off + j, none⟩ = some x := fun j x hj => by
  match j, hj with
  | 0, hj => simp at hj; subst hj; exact h0
  | 1, hj => simp at hj; subst hj; exact h1
  | j + 2, hj => simp at hj
theorem lit_u64s {n : Nat} (h : n ≤ 18446744073709551615) : (Lit.int .u64 (n : Int)).wf = true := by
  have h1 : IntKind.min .u64 ≤ (n : Int) := by show (0 : Int) ≤ _; omega
  have h2 : (n : Int) ≤ IntKind.max .u64 := by show _ ≤ (18446744073709551615 : Int); omega
  show (decide (IntKind.min .u64 ≤ (n : Int)) && decide ((n : Int) ≤ IntKind.max .u64)) = true
  rw [decide_eq_true h1, decide_eq_true h2]
  rfl
theorem lit_i64s {n : Int} (h : I64k n) : (Lit.int .i64 n).wf = true := by
  unfold I64k at h
  have h1 : IntKind.min .i64 ≤ n := by show (-9223372036854775808 : Int) ≤ _; omega
  have h2 : n ≤ IntKind.max .i64 := by show _ ≤ (9223372036854775807 : Int); omega
  show (decide (IntKind.min .i64 ≤ n) && decide (n ≤ IntKind.max .i64)) = true
  rw [decide_eq_true h1, decide_eq_true h2]
  rfl
theorem key_u64s (d : Nat) {n : Nat} (h : n ≤ 18446744073709551615) : Try.prog.keyLits (d + 1) 23 [.int .u64 (n : Int)] = some [.int .u64 (n : Int)] := by
  unfold Program.keyLits
  rw [Try.underlying23]
  simp [lit_u64s h]
theorem key_i64s (d : Nat) {n : Int} (h : I64k n) : Try.prog.keyLits (d + 1) 3 [.int .i64 n] = some [.int .i64 n] := by
  unfold Program.keyLits
  rw [Try.underlying3]
  simp [lit_i64s h]
theorem cells_u64s : Try.prog.cellsOf 23 = 1 := by kernel_rfl
theorem cells_i64s : Try.prog.cellsOf 3 = 1 := by kernel_rfl
theorem tysample : RowTy 55 2 := ⟨⟨_, Try.underlying55, rfl⟩, by kernel_rfl⟩
theorem guard_sample : NoGuard 55 := guard_of _ (by kernel_rfl)
theorem key_sample {s : Sm} (h : SmOk s) : Try.prog.keyLits 3 55 [.int .u64 (s.time : Nat), .int .i64 s.size] = some [.int .u64 (s.time : Nat), .int .i64 s.size] := by
  have k0 := key_u64s 1 h.time
  have k1 := key_i64s 1 h.size
  unfold Program.keyLits
  rw [Try.underlying55]
  simp [cells_sample, cells_u64s, cells_i64s, k0, k1]
/-- A packet is equal to itself. -/
theorem sample_eq {s : Sm} (hs : SmOk s) (w : World) : (Op.equalIn 10000 55 (.agg #[.int .u64 (s.time : Nat), .int .i64 s.size]) (.agg #[.int .u64 (s.time : Nat), .int .i64 s.size])).run Try.prog w = .ok true w := by
  have hf : (Value.agg #[.int .u64 (s.time : Nat), .int .i64 s.size]).formed Try.prog 55 = true := by simp [Value.formed, Try.underlying55, cells_sample]
  obtain ⟨r, hr, hi⟩ := run_equalIn_deep (P := Try.prog) 9990 10 55 (by kernel_rfl) w 3 3 (.agg #[.int .u64 (s.time : Nat), .int .i64 s.size]) (.agg #[.int .u64 (s.time : Nat), .int .i64 s.size]) _ _ hf hf (by simpa [Value.cells] using key_sample hs) (by simpa [Value.cells] using key_sample hs)
  rw [hi.2 rfl] at hr
  exact hr
set_option maxRecDepth 10000 in
set_option maxHeartbeats 1600000 in
theorem same_yes (A B : Option Addr) (n c d : Nat) (L : List Sm) (w : World) (hn : (n : Int) ≤ 17592186043904) (hA : SmRow w A n L) (hB : SmRow w B n L) :
    Calls Try.prog 13 #[.slice A n c, .slice B n d] w fun e w' => e = .returned (.bool true) ∧ Below w.heap.size w w' := by
  have HA := Lib.hid hA
  have HB := Lib.hid hB
  have HN := Lib.hid hn
  clear hA hB hn
  go_enter Try.func13, Try.ntmps13
  go_wp2_with fail
  go_loopw [5] (fun i wr => ∃ k : Nat, k ≤ n ∧ i = .int .i64 (k : Int) ∧ Below w.heap.size w wr) (fun i _ => n - (intOf i).toNat)
  case atStart => exact ⟨0, Nat.zero_le _, rfl, Below.refl _ _⟩
  case round =>
    obtain ⟨k, hk, rfl, hb⟩ := hrel
    have HBW := Lib.hid hb
    by_cases hlt : k < n
    · obtain ⟨b, o, rfl, hl, hc⟩ := HA.out.addr (by omega)
      obtain ⟨b', o', rfl, hl', hc'⟩ := HB.out.addr (by omega)
      obtain ⟨s, hs⟩ : ∃ s, s = L.getD k sm0 := ⟨_, rfl⟩
      have hso : SmOk s := by rw [hs]; exact HA.out.get hlt
      have h0 : w.cell? ⟨b, o + k * 2, none⟩ = some (.int .u64 (s.time : Nat)) := by rw [hs]; exact (hc k hlt).1
      have h1 : w.cell? ⟨b, o + k * 2 + 1, none⟩ = some (.int .i64 s.size) := by rw [hs]; exact (hc k hlt).2
      have h2 : w.cell? ⟨b', o' + k * 2, none⟩ = some (.int .u64 (s.time : Nat)) := by rw [hs]; exact (hc' k hlt).1
      have h3 : w.cell? ⟨b', o' + k * 2 + 1, none⟩ = some (.int .i64 s.size) := by rw [hs]; exact (hc' k hlt).2
      have H0 := Lib.hid h0
      have H1 := Lib.hid h1
      have H2 := Lib.hid h2
      have H3 := Lib.hid h3
      have HL := Lib.hid hl
      have HL' := Lib.hid hl'
      have HE := Lib.hid (fun w => sample_eq hso w)
      have HLT := Lib.hid hlt
      have u := cu_next hlt HN.out
      have hli : (k : Int) < (n : Int) := by omega
      clear hc hc' hs hso h0 h1 h2 h3 hl hl' hk hlt hb
      go_upto_region 6 with fail
      refine wp_region_par (w := w) [.quiet (.slice (some ⟨b, o, none⟩) n c), .quiet (.int .i64 (k : Int)), .quiet (.pointer (some ⟨b, o + k * 2, none⟩)), .quiet (.agg #[.int .u64 (s.time : Nat), .int .i64 s.size]), .quiet (.slice (some ⟨b', o', none⟩) n d), .quiet (.int .i64 (k : Int)), .quiet (.pointer (some ⟨b', o' + k * 2, none⟩)), .quiet (.agg #[.int .u64 (s.time : Nat), .int .i64 s.size]), .quiet (.bool false)] [] (by kernel_rfl) (by kernel_rfl) (((KV.nil w).belowB0 HBW.out).drew) (fun bk0 => ?_) ?_
      · clear HBW
        refine pWalk_quiet rfl (fun E W hw' => quietAt_run (by simp [go_sem])) ?_
        simp only [Act.put, List.setIfInBounds_toArray, List.set_cons_zero, List.set_cons_succ]
        refine pWalk_quiet rfl (fun E W hw' => quietAt_run (by simp [go_sem])) ?_
        simp only [Act.put, List.setIfInBounds_toArray, List.set_cons_zero, List.set_cons_succ]
        refine pWalk_quiet rfl (fun E W hw' => quietAt_run (by simp [go_sem, HLT.out])) ?_
        simp only [Act.put, List.setIfInBounds_toArray, List.set_cons_zero, List.set_cons_succ]
        refine pWalk_quiet rfl (fun E W hw' => quietAt_cells (n := 2) (vs := [.int .u64 (s.time : Nat), .int .i64 s.size]) rfl rfl tysample (two_cells ((hw'.bel.cell (p := ⟨b, _, none⟩) HL.out).trans H0.out) ((hw'.bel.cell (p := ⟨b, _, none⟩) HL.out).trans H1.out)) rfl) ?_
        simp only [Act.put, List.setIfInBounds_toArray, List.set_cons_zero, List.set_cons_succ]
        refine pWalk_quiet rfl (fun E W hw' => quietAt_run (by simp [go_sem])) ?_
        simp only [Act.put, List.setIfInBounds_toArray, List.set_cons_zero, List.set_cons_succ]
        refine pWalk_quiet rfl (fun E W hw' => quietAt_run (by simp [go_sem])) ?_
        simp only [Act.put, List.setIfInBounds_toArray, List.set_cons_zero, List.set_cons_succ]
        refine pWalk_quiet rfl (fun E W hw' => quietAt_run (by simp [go_sem, HLT.out])) ?_
        simp only [Act.put, List.setIfInBounds_toArray, List.set_cons_zero, List.set_cons_succ]
        refine pWalk_quiet rfl (fun E W hw' => quietAt_cells (n := 2) (vs := [.int .u64 (s.time : Nat), .int .i64 s.size]) rfl rfl tysample (two_cells ((hw'.bel.cell (p := ⟨b', _, none⟩) HL'.out).trans H2.out) ((hw'.bel.cell (p := ⟨b', _, none⟩) HL'.out).trans H3.out)) rfl) ?_
        simp only [Act.put, List.setIfInBounds_toArray, List.set_cons_zero, List.set_cons_succ]
        refine pWalk_quiet rfl (fun E W hw' => quietAt_nn rfl rfl rfl guard_sample HE.out) ?_
        simp only [Act.put, List.setIfInBounds_toArray, List.set_cons_zero, List.set_cons_succ]
        trivial
      intro bk κ E W6 hK hB
      have HB6 := Lib.hid hK.bel
      clear hK hB HBW
      simp only [List.length_cons, List.length_nil, lexAct, pval, toK, List.map_cons, List.map_nil, List.getElem?_cons_zero, List.getElem?_cons_succ, Option.bind_some, Act.put, List.setIfInBounds_toArray, List.set_cons_zero, List.set_cons_succ]
      go_wp2_with fail
      go_roundw
      case rel => exact ⟨k + 1, HLT.out, by rw [u], HB6.out⟩
      case measure => rw [u]; have hms := HLT.out; simp [intOf]; omega
    · obtain rfl : k = n := by omega
      clear hk hlt hb
      go_wp2_with fail
      go_ret
      exact ⟨rfl, HBW.out⟩
end Go.Proofs.Ytemgnaalmgkfiaa
