/-
  The document's Rest, All and Write of layer 12.
-/
import Derived.Test.YtcjaidpmfjnhpaaRSx1
import Derived.Test.YtcjaidpmfjnhpaaSx3
import Derived.Test.YtcjaidpmfjnhpaaSx4
import Derived.Test.YtcjaidpmfjnhpaaREw3
import Derived.Test.YtcjaidpmfjnhpaaJoin2
namespace Go.Proofs.Ytcjaidpmfjnhpaa
open Go.RowKit
set_option linter.unusedVariables false

theorem rsx_fit {n c P : Nat} (h : 40 + P ≤ n) (hc : n ≤ c) (hn : n ≤ 140737488355328) : wrap64 (40 + (P : Int)) = ((40 + P : Nat) : Int) ∧ ((40 + P : Nat) : Int) ≤ (n : Int) ∧ (40 : Int) ≤ ((40 + P : Nat) : Int) ∧ ((40 + P : Nat) : Int) ≤ (c : Int) ∧ ((40 + P : Nat) : Int) - 40 = (P : Int) ∧ 40 + P - 40 = P ∧ 40 ≤ c := by
  refine ⟨by unfold wrap64; omega, by omega, by omega, by omega, by omega, by omega, by omega⟩
theorem rsx_unfit {n P : Nat} (h : ¬ 40 + P ≤ n) (hp : P ≤ 65535) : wrap64 (40 + (P : Int)) = ((40 + P : Nat) : Int) ∧ (n : Int) < ((40 + P : Nat) : Int) := by
  refine ⟨by unfold wrap64; omega, by omega⟩
set_option maxRecDepth 10000 in
set_option maxHeartbeats 3200000 in
theorem rsxrest_any (A : Option Addr) (n c : Nat) (bs : List Nat) (w : World) (hn2 : n ≤ 140737488355328) (hc : n ≤ c) (hR : Row w A n bs) :
    Calls Try.prog 68 #[.slice A n c] w (SxRestIs (sxrest n bs) w) := by
  have CR := Lib.hid (rsxread_any A n c bs w hn2 hc hR)
  unfold SxReadIs at CR
  obtain ⟨hXl, hXo⟩ := sxval_all n bs hR.1
  have HV2 : Hid (sxdef n bs = 0 → (sxval n bs)[2]? = some (.int .i64 (sxPay bs : Nat))) := fun h => (sxval_two h).1
  obtain ⟨X, hX⟩ : ∃ X, X = sxval n bs := ⟨_, rfl⟩
  rw [← hX] at CR hXl hXo HV2
  have HP := sxPay_le bs
  have HRI : Hid (sxrest n bs = if sxdef n bs = 0 ∧ 40 + sxPay bs ≤ n then some ((bs.drop 40).take (sxPay bs)) else none) := rfl
  rw [HRI.out]
  clear HRI hX
  obtain ⟨P, hP⟩ : ∃ P, P = sxPay bs := ⟨_, rfl⟩
  rw [← hP] at HP HV2 ⊢
  by_cases h : sxdef n bs = 0
  · have hV2 := HV2.out h
    rw [h] at CR
    have HR := Lib.hid hR
    have HHV := Lib.hid hV2
    have HN := Lib.hid (And.intro hn2 hc)
    by_cases hP2 : 40 + P ≤ n
    · rw [if_pos ⟨h, hP2⟩]
      obtain ⟨l, hl⟩ : ∃ l, l = (bs.drop 40).take P := ⟨_, rfl⟩
      have h40 : 40 ≤ n := Nat.le_trans (Nat.le_add_right _ _) hP2
      have hll : l.length = P := by rw [hl, List.length_take, List.length_drop, hR.1]; exact Nat.min_eq_left (Nat.le_sub_of_add_le (by rw [Nat.add_comm]; exact hP2))
      have CJ : Hid (∀ (g cap : Nat) (A : Option Addr) (w : World), Row w A P l → w.cell? ⟨g, 0, none⟩ = some (.slice A P cap) → Calls Try.prog 44 #[.slice (some ⟨g, 0, none⟩) 1 1] w fun e w' => ∃ v, e = .returned v ∧ ByteVal w' v l ∧ Below w.heap.size w w') := fun g cap A w h1 h2 => join_val g P cap 1 A l w (Nat.le_trans HP (by decide)) h1 h2
      obtain ⟨b, o, rfl, hb, hcell⟩ := hR.addr (Nat.lt_of_lt_of_le (by decide) h40)
      have HPART : Hid (∀ W, Below w.heap.size w W → Row W (some ⟨b, o + 40, none⟩) P l) := fun W hW => by rw [hl]; exact (hR.below hW).part 40 P hP2
      have HNIL : Hid (∀ (W : World) (A : Option Addr), P = 0 → Row W A P l) := fun W A h0 => by
        have e : l = [] := List.eq_nil_of_length_eq_zero (by rw [hll, h0])
        rw [e, h0]
        exact Row.nil W A
      obtain ⟨eP, iP, iP2, iP3, iP4, nP, c40⟩ := rsx_fit hP2 hc hn2
      have ic40 : (40 : Int) ≤ (c : Int) := by omega
      have HCP : Hid (c = 40 → P = 0) := fun e => by omega
      have nlt : ¬ (n : Int) < ((40 + P : Nat) : Int) := Int.not_lt.2 iP
      have j1 : (40 : Int) + (P : Int) ≤ (n : Int) := by omega
      have j2 : (40 : Int) + (P : Int) ≤ (c : Int) := by omega
      have j3 : (0 : Int) ≤ 40 + (P : Int) := by omega
      rw [← hl]
      clear h HV2 hV2 hP2 hP hR hn2 hc hl hb hcell h40 hll iP4 nP c40 eP iP iP2 iP3 nlt
      go_enter Try.func68, Try.ntmps68
      go_wp2_with fail
      refine CR.out.mono ?_
      rintro e w1 ⟨rfl, b1⟩
      obtain ⟨hst, hA, hb⟩ := six_stored w1 X hXl hXo
      go_upto_region 2 with fail
      clear hst
      obtain ⟨V, eV⟩ : ∃ V, V = (w1.alloc (.cells (Value.int .i64 0 :: Value.int .i64 0 :: Value.int .i64 0 :: Value.int .i64 0 :: Value.int .i64 0 :: Value.int .u8 0 :: Value.int .u8 0 :: Value.int .u8 0 :: Value.int .u8 0 :: Value.int .u8 0 :: Value.int .u8 0 :: Value.int .u8 0 :: Value.int .u8 0 :: Value.int .u8 0 :: Value.int .u8 0 :: Value.int .u8 0 :: Value.int .u8 0 :: Value.int .u8 0 :: Value.int .u8 0 :: Value.int .u8 0 :: Value.int .u8 0 :: Value.int .u8 0 :: Value.int .u8 0 :: Value.int .u8 0 :: Value.int .u8 0 :: Value.int .u8 0 :: Value.int .u8 0 :: Value.int .u8 0 :: Value.int .u8 0 :: Value.int .u8 0 :: Value.int .u8 0 :: Value.int .u8 0 :: Value.int .u8 0 :: Value.int .u8 0 :: Value.int .u8 0 :: Value.int .u8 0 :: Value.int .u8 0 :: [] : List Value).toArray 51)).setCells w1.heap.size 0 X := ⟨_, rfl⟩
      obtain ⟨hA2, hb2⟩ := six_world w1 X V eV hA hb
      have B1 := Lib.hid (below_both b1 hb2)
      have c2 := (hA2.get 2).trans HHV.out
      have hr2 := HPART.out V (below_both b1 hb2)
      have HR2 := Lib.hid hr2
      rw [← eV]
      clear eV hA hb b1 hb2 hA2 hr2
      obtain ⟨g, hg⟩ : ∃ g, g = w1.heap.size := ⟨_, rfl⟩
      rw [← hg] at c2 ⊢
      clear hg
      go_wp2_with fail
      ·
        refine (CJ.out _ _ _ _ (HNIL.out _ _ (HCP.out (by assumption))) (new_cell V _ _ _ rfl)).mono ?_
        rintro e w2 ⟨v2, rfl, ho, b2⟩
        have HO := Lib.hid ho
        have B2 := Lib.hid (below_both B1.out (below_al b2))
        clear ho b2 c2
        go_wp2_with fail
        go_ret2
        exact ⟨_, rfl, HO.out, B2.out⟩
      ·
        refine (CJ.out _ _ _ _ (HR2.out.alloc _) (new_cell V _ _ _ rfl)).mono ?_
        rintro e w2 ⟨v2, rfl, ho, b2⟩
        have HO := Lib.hid ho
        have B2 := Lib.hid (below_both B1.out (below_al b2))
        clear ho b2 c2
        go_wp2_with fail
        go_ret2
        exact ⟨_, rfl, HO.out, B2.out⟩
    · rw [if_neg (fun e => hP2 e.2)]
      obtain ⟨eP, iP⟩ := rsx_unfit hP2 HP
      clear h HV2 hV2 hP2 hP hR hn2 hc
      go_enter Try.func68, Try.ntmps68
      go_wp2_with fail
      refine CR.out.mono ?_
      rintro e w1 ⟨rfl, b1⟩
      obtain ⟨hst, hA, hb⟩ := six_stored w1 X hXl hXo
      go_upto_region 2 with fail
      clear hst
      obtain ⟨V, eV⟩ : ∃ V, V = (w1.alloc (.cells (Value.int .i64 0 :: Value.int .i64 0 :: Value.int .i64 0 :: Value.int .i64 0 :: Value.int .i64 0 :: Value.int .u8 0 :: Value.int .u8 0 :: Value.int .u8 0 :: Value.int .u8 0 :: Value.int .u8 0 :: Value.int .u8 0 :: Value.int .u8 0 :: Value.int .u8 0 :: Value.int .u8 0 :: Value.int .u8 0 :: Value.int .u8 0 :: Value.int .u8 0 :: Value.int .u8 0 :: Value.int .u8 0 :: Value.int .u8 0 :: Value.int .u8 0 :: Value.int .u8 0 :: Value.int .u8 0 :: Value.int .u8 0 :: Value.int .u8 0 :: Value.int .u8 0 :: Value.int .u8 0 :: Value.int .u8 0 :: Value.int .u8 0 :: Value.int .u8 0 :: Value.int .u8 0 :: Value.int .u8 0 :: Value.int .u8 0 :: Value.int .u8 0 :: Value.int .u8 0 :: Value.int .u8 0 :: Value.int .u8 0 :: [] : List Value).toArray 51)).setCells w1.heap.size 0 X := ⟨_, rfl⟩
      obtain ⟨hA2, hb2⟩ := six_world w1 X V eV hA hb
      have B1 := Lib.hid (below_both b1 hb2)
      have c2 := (hA2.get 2).trans HHV.out
      rw [← eV]
      clear eV hA hb b1 hb2 hA2
      obtain ⟨g, hg⟩ : ∃ g, g = w1.heap.size := ⟨_, rfl⟩
      rw [← hg] at c2 ⊢
      clear hg
      go_wp2_with fail
      go_ret2
      exact ⟨_, rfl, ByteVal.nil _, B1.out⟩
  · rw [if_neg (fun e => h e.1)]
    obtain ⟨d, hd⟩ : ∃ d, d = sxdef n bs := ⟨_, rfl⟩
    rw [← hd] at CR h
    have d0 : ((d : Int) != 0) = true := bne_iff_ne.2 (by omega)
    clear h HV2 hP hR hn2 hc hd
    go_enter Try.func68, Try.ntmps68
    go_wp2_with fail
    refine CR.out.mono ?_
    rintro e w1 ⟨rfl, b1⟩
    obtain ⟨hst, hA, hb⟩ := six_stored w1 X hXl hXo
    go_upto_region 2 with fail
    clear hst
    obtain ⟨V, eV⟩ : ∃ V, V = (w1.alloc (.cells (Value.int .i64 0 :: Value.int .i64 0 :: Value.int .i64 0 :: Value.int .i64 0 :: Value.int .i64 0 :: Value.int .u8 0 :: Value.int .u8 0 :: Value.int .u8 0 :: Value.int .u8 0 :: Value.int .u8 0 :: Value.int .u8 0 :: Value.int .u8 0 :: Value.int .u8 0 :: Value.int .u8 0 :: Value.int .u8 0 :: Value.int .u8 0 :: Value.int .u8 0 :: Value.int .u8 0 :: Value.int .u8 0 :: Value.int .u8 0 :: Value.int .u8 0 :: Value.int .u8 0 :: Value.int .u8 0 :: Value.int .u8 0 :: Value.int .u8 0 :: Value.int .u8 0 :: Value.int .u8 0 :: Value.int .u8 0 :: Value.int .u8 0 :: Value.int .u8 0 :: Value.int .u8 0 :: Value.int .u8 0 :: Value.int .u8 0 :: Value.int .u8 0 :: Value.int .u8 0 :: Value.int .u8 0 :: Value.int .u8 0 :: [] : List Value).toArray 51)).setCells w1.heap.size 0 X := ⟨_, rfl⟩
    obtain ⟨hA2, hb2⟩ := six_world w1 X V eV hA hb
    have B1 := Lib.hid (below_both b1 hb2)
    rw [← eV]
    clear eV hA hb b1 hb2 hA2
    go_wp2_with fail
    go_ret2
    exact ⟨_, rfl, ByteVal.nil _, B1.out⟩
set_option maxRecDepth 10000 in
set_option maxHeartbeats 3200000 in
theorem rsxall_any (A : Option Addr) (n c : Nat) (bs : List Nat) (w : World) (hn2 : n ≤ 140737488355328) (hc : n ≤ c) (hR : Row w A n bs) :
    Calls Try.prog 55 #[.slice A n c] w (SxAllIs (sxall n bs) w) := by
  have CR := Lib.hid (rsxread_any A n c bs w hn2 hc hR)
  unfold SxReadIs at CR
  have CT := Lib.hid (fun w hR => rsxrest_any A n c bs w hn2 hc hR)
  unfold SxRestIs at CT
  obtain ⟨hXl, hXo⟩ := sxval_all n bs hR.1
  have HV3 : Hid (sxdef n bs = 0 → (sxval n bs)[3]? = some (.int .i64 (sxNext bs : Nat))) := fun h => (sxval_two h).2
  obtain ⟨X, hX⟩ : ∃ X, X = sxval n bs := ⟨_, rfl⟩
  rw [← hX] at CR hXl hXo HV3
  have HR := Lib.hid hR
  clear hX
  by_cases h : sxdef n bs = 0
  · have hV3 := HV3.out h
    rw [h] at CR
    have HHV := Lib.hid hV3
    obtain ⟨nx, hnx⟩ : ∃ nx, nx = sxNext bs := ⟨_, rfl⟩
    rw [← hnx] at HHV
    cases hr : sxrest n bs with
    | none =>
      have hF : sxall n bs = [7] := by unfold sxall; rw [if_neg (fun e => e h), hr]
      rw [hF]
      rw [hr] at CT
      clear h HV3 hV3 hR hn2 hc hF hr hnx
      go_enter Try.func55, Try.ntmps55
      go_wp2_with fail
      refine CR.out.mono ?_
      rintro e w1 ⟨rfl, b1⟩
      obtain ⟨hst, hA, hb⟩ := six_stored w1 X hXl hXo
      go_upto_region 2 with fail
      clear hst
      obtain ⟨V, eV⟩ : ∃ V, V = (w1.alloc (.cells (Value.int .i64 0 :: Value.int .i64 0 :: Value.int .i64 0 :: Value.int .i64 0 :: Value.int .i64 0 :: Value.int .u8 0 :: Value.int .u8 0 :: Value.int .u8 0 :: Value.int .u8 0 :: Value.int .u8 0 :: Value.int .u8 0 :: Value.int .u8 0 :: Value.int .u8 0 :: Value.int .u8 0 :: Value.int .u8 0 :: Value.int .u8 0 :: Value.int .u8 0 :: Value.int .u8 0 :: Value.int .u8 0 :: Value.int .u8 0 :: Value.int .u8 0 :: Value.int .u8 0 :: Value.int .u8 0 :: Value.int .u8 0 :: Value.int .u8 0 :: Value.int .u8 0 :: Value.int .u8 0 :: Value.int .u8 0 :: Value.int .u8 0 :: Value.int .u8 0 :: Value.int .u8 0 :: Value.int .u8 0 :: Value.int .u8 0 :: Value.int .u8 0 :: Value.int .u8 0 :: Value.int .u8 0 :: Value.int .u8 0 :: [] : List Value).toArray 51)).setCells w1.heap.size 0 X := ⟨_, rfl⟩
      obtain ⟨hA2, hb2⟩ := six_world w1 X V eV hA hb
      have B1 := Lib.hid (below_both b1 hb2)
      rw [← eV]
      clear eV hA hb b1 hb2 hA2
      go_wp2_with fail
      refine (CT.out _ (HR.out.below B1.out)).mono ?_
      rintro e w2 ⟨v2, rfl, r2, b2⟩
      have B2 := Lib.hid (below_both B1.out b2)
      clear r2 b2
      go_wp2_with fail
      go_ret
      exact ⟨_, rfl, def_one w2 7, B2.out.alloc B2.out.size _⟩
    | some r =>
      have hF : sxall n bs = (walkF r.length r 9 (Tour.start ((nx : Nat) : Int)) []).1.defects := by unfold sxall; rw [if_neg (fun e => e h), hr, hnx]
      rw [hF]
      rw [hr] at CT
      have hrl := (sxrest_len hr).1
      have CG : Hid (∀ (A : Option Addr) (c : Nat) (w : World), r.length ≤ c → Row w A r.length r → Calls Try.prog 57 #[.int .i64 (nx : Nat), .slice A r.length c] w (GoIs w (walkF r.length r 9 (Tour.start ((nx : Nat) : Int)) []).1)) := fun A c w h1 h2 => by rw [(walkS_walkF r.length r 9 (Tour.start ((nx : Nat) : Int)) [] [] rfl).1]; exact rexgo_any (nx : Nat) A r.length c r w h1 (Nat.le_trans hrl (by decide)) h2
      obtain ⟨t, ht⟩ : ∃ t, t = (walkF r.length r 9 (Tour.start ((nx : Nat) : Int)) []).1 := ⟨_, rfl⟩
      rw [← ht] at CG ⊢
      unfold GoIs at CG
      obtain ⟨x0, x1, x2, x3, x4, hx⟩ := sx_told t
      rw [hx] at CG
      obtain ⟨D, hD⟩ : ∃ D, D = t.defects := ⟨_, rfl⟩
      rw [← hD] at CG ⊢
      clear h HV3 hV3 hR hn2 hc hF hr hnx ht hx hD hrl
      go_enter Try.func55, Try.ntmps55
      go_wp2_with fail
      refine CR.out.mono ?_
      rintro e w1 ⟨rfl, b1⟩
      obtain ⟨hst, hA, hb⟩ := six_stored w1 X hXl hXo
      go_upto_region 2 with fail
      clear hst
      obtain ⟨V, eV⟩ : ∃ V, V = (w1.alloc (.cells (Value.int .i64 0 :: Value.int .i64 0 :: Value.int .i64 0 :: Value.int .i64 0 :: Value.int .i64 0 :: Value.int .u8 0 :: Value.int .u8 0 :: Value.int .u8 0 :: Value.int .u8 0 :: Value.int .u8 0 :: Value.int .u8 0 :: Value.int .u8 0 :: Value.int .u8 0 :: Value.int .u8 0 :: Value.int .u8 0 :: Value.int .u8 0 :: Value.int .u8 0 :: Value.int .u8 0 :: Value.int .u8 0 :: Value.int .u8 0 :: Value.int .u8 0 :: Value.int .u8 0 :: Value.int .u8 0 :: Value.int .u8 0 :: Value.int .u8 0 :: Value.int .u8 0 :: Value.int .u8 0 :: Value.int .u8 0 :: Value.int .u8 0 :: Value.int .u8 0 :: Value.int .u8 0 :: Value.int .u8 0 :: Value.int .u8 0 :: Value.int .u8 0 :: Value.int .u8 0 :: Value.int .u8 0 :: Value.int .u8 0 :: [] : List Value).toArray 51)).setCells w1.heap.size 0 X := ⟨_, rfl⟩
      obtain ⟨hA2, hb2⟩ := six_world w1 X V eV hA hb
      have B1 := Lib.hid (below_both b1 hb2)
      have HA2 := Lib.hid hA2
      rw [← eV]
      clear eV hA hb b1 hb2 hA2
      obtain ⟨g, hg⟩ : ∃ g, g = w1.heap.size := ⟨_, rfl⟩
      rw [← hg] at HA2 ⊢
      clear hg
      go_wp2_with fail
      refine (CT.out _ (HR.out.below B1.out)).mono ?_
      rintro e w2 ⟨v2, rfl, ⟨A2, d2, rfl, hd2, hr2⟩, b2⟩
      have B2 := Lib.hid (below_both B1.out b2)
      have c3 := ((HA2.out.below b2).get 3).trans HHV.out
      have HR2 : Hid (Row w2 A2 r.length r) := hr2
      have HD2 : Hid (r.length ≤ d2) := hd2
      clear hd2 hr2 b2
      go_wp2_with fail
      refine (CG.out _ _ _ HD2.out HR2.out).mono ?_
      rintro e w3 ⟨v3, rfl, d3, b3⟩
      have D3 := Lib.hid d3
      have B3 := Lib.hid (below_both B2.out b3)
      clear d3 b3
      go_wp2_with fail
      go_ret
      exact ⟨_, rfl, D3.out.below ((Below.refl _ _).alloc (Nat.le_refl _) _), B3.out.alloc B3.out.size _⟩
  · obtain ⟨d, hd⟩ : ∃ d, d = sxdef n bs := ⟨_, rfl⟩
    have hF : sxall n bs = [d] := by unfold sxall; rw [if_pos h, hd]
    rw [hF]
    rw [← hd] at CR h
    have d0 : ((d : Int) != 0) = true := bne_iff_ne.2 (by omega)
    clear h HV3 hR hn2 hc hd hF
    go_enter Try.func55, Try.ntmps55
    go_wp2_with fail
    refine CR.out.mono ?_
    rintro e w1 ⟨rfl, b1⟩
    obtain ⟨hst, hA, hb⟩ := six_stored w1 X hXl hXo
    go_upto_region 2 with fail
    clear hst
    obtain ⟨V, eV⟩ : ∃ V, V = (w1.alloc (.cells (Value.int .i64 0 :: Value.int .i64 0 :: Value.int .i64 0 :: Value.int .i64 0 :: Value.int .i64 0 :: Value.int .u8 0 :: Value.int .u8 0 :: Value.int .u8 0 :: Value.int .u8 0 :: Value.int .u8 0 :: Value.int .u8 0 :: Value.int .u8 0 :: Value.int .u8 0 :: Value.int .u8 0 :: Value.int .u8 0 :: Value.int .u8 0 :: Value.int .u8 0 :: Value.int .u8 0 :: Value.int .u8 0 :: Value.int .u8 0 :: Value.int .u8 0 :: Value.int .u8 0 :: Value.int .u8 0 :: Value.int .u8 0 :: Value.int .u8 0 :: Value.int .u8 0 :: Value.int .u8 0 :: Value.int .u8 0 :: Value.int .u8 0 :: Value.int .u8 0 :: Value.int .u8 0 :: Value.int .u8 0 :: Value.int .u8 0 :: Value.int .u8 0 :: Value.int .u8 0 :: Value.int .u8 0 :: Value.int .u8 0 :: [] : List Value).toArray 51)).setCells w1.heap.size 0 X := ⟨_, rfl⟩
    obtain ⟨hA2, hb2⟩ := six_world w1 X V eV hA hb
    have B1 := Lib.hid (below_both b1 hb2)
    rw [← eV]
    clear eV hA hb b1 hb2 hA2
    go_wp2_with fail
    go_ret
    exact ⟨_, rfl, def_one V d, B1.out.alloc B1.out.size _⟩
theorem setb_add {n H f c x : Nat} (hn : n = H * 2 ^ (f + c)) (h64 : n < 18446744073709551616) (h : f + c ≤ 64) (hx : x < 2 ^ c) : setb n f c x = n + x * 2 ^ f := by
  have e : (2 : Nat) ^ 64 = 18446744073709551616 := by decide
  have hxf : x * 2 ^ f < 2 ^ (f + c) := by rw [Nat.add_comm, Nat.pow_add]; exact Nat.mul_lt_mul_of_pos_right hx (Nat.two_pow_pos f)
  have hor : n + x * 2 ^ f = n ||| x * 2 ^ f := by rw [hn, Nat.mul_comm H]; exact Nat.two_pow_add_eq_or_of_lt hxf H
  rw [hor]
  refine Nat.eq_of_testBit_eq fun j => ?_
  have hp : (2 : Nat) ^ (f + c) ≤ 2 ^ 64 := Nat.pow_le_pow_right (by decide) h
  rw [Nat.testBit_or]
  rcases Nat.lt_or_ge j 64 with hj | hj
  · rw [setb_bit n f c x j h hj]
    have hnb : n.testBit j = (decide (f + c ≤ j) && H.testBit (j - (f + c))) := by rw [hn, Nat.testBit_mul_two_pow]
    have hxb : (x * 2 ^ f).testBit j = (decide (f ≤ j) && x.testBit (j - f)) := by rw [Nat.testBit_mul_two_pow]
    by_cases h1 : f ≤ j
    · by_cases h2 : j < f + c
      · rw [if_pos ⟨h1, h2⟩, hnb, hxb, decide_eq_false (by omega), decide_eq_true h1]; simp
      · have hz : x.testBit (j - f) = false := Nat.testBit_lt_two_pow (Nat.lt_of_lt_of_le hx (Nat.pow_le_pow_right (by decide) (by omega)))
        rw [if_neg (fun q => h2 q.2), hxb, hz]; simp
    · rw [if_neg (fun q => h1 q.1), hxb, decide_eq_false h1]; simp
  · have hj2 : (2 : Nat) ^ 64 ≤ 2 ^ j := Nat.pow_le_pow_right (by decide) hj
    rw [Nat.testBit_lt_two_pow (Nat.lt_of_lt_of_le (by rw [e]; exact setb_lt n f c x h) hj2), Nat.testBit_lt_two_pow (Nat.lt_of_lt_of_le (by rw [e]; exact h64) hj2), Nat.testBit_lt_two_pow (Nat.lt_of_lt_of_le hxf (Nat.le_trans hp hj2))]
    rfl
/-- A header's first eight bytes. -/
def head8 (a0 a1 a2 a3 a4 : Nat) : List Nat := [96 + a0 / 16, a0 % 16 * 16 + a1 / 65536, a1 / 256 % 256, a1 % 256, a2 / 256, a2 % 256, a3, a4]
theorem sx_acc (f : SixV) (a0 a1 a2 a3 a4 : Nat) (e0 : f.k 0 = a0) (e1 : f.k 1 = a1) (e2 : f.k 2 = a2) (e3 : f.k 3 = a3) (e4 : f.k 4 = a4) (h : a0 ≤ 255 ∧ a1 ≤ 1048575 ∧ a2 ≤ 65535 ∧ a3 ≤ 255 ∧ a4 ≤ 255) :
    f.acc 5 = 6 * 2 ^ 60 + a0 * 2 ^ 52 + a1 * 2 ^ 32 + a2 * 2 ^ 16 + a3 * 2 ^ 8 + a4 := by
  obtain ⟨h0, h1, h2, h3, h4⟩ := h
  have b0 : f.acc 0 = 6 * 2 ^ 60 := by
    show setb 0 60 4 6 = _
    rw [setb_add (H := 0) (by decide) (by decide) (by decide) (by decide)]
  have b1 : f.acc 1 = 6 * 2 ^ 60 + a0 * 2 ^ 52 := by
    show setb (f.acc 0) 52 8 (f.k 0).toNat = _
    rw [b0, e0, Int.toNat_natCast, setb_add (H := 6) (by decide) (by decide) (by decide) (by simp only [Nat.reducePow]; omega)]
  have b2 : f.acc 2 = 6 * 2 ^ 60 + a0 * 2 ^ 52 + a1 * 2 ^ 32 := by
    show setb (f.acc 1) 32 20 (f.k 1).toNat = _
    rw [b1, e1, Int.toNat_natCast, setb_add (H := 6 * 2 ^ 8 + a0) (by simp only [Nat.reducePow, Nat.reduceAdd, Nat.reduceMul]; omega) (by simp only [Nat.reducePow, Nat.reduceMul]; omega) (by decide) (by simp only [Nat.reducePow]; omega)]
  have b3 : f.acc 3 = 6 * 2 ^ 60 + a0 * 2 ^ 52 + a1 * 2 ^ 32 + a2 * 2 ^ 16 := by
    show setb (f.acc 2) 16 16 (f.k 2).toNat = _
    rw [b2, e2, Int.toNat_natCast, setb_add (H := 6 * 2 ^ 28 + a0 * 2 ^ 20 + a1) (by simp only [Nat.reducePow, Nat.reduceAdd, Nat.reduceMul]; omega) (by simp only [Nat.reducePow, Nat.reduceMul]; omega) (by decide) (by simp only [Nat.reducePow]; omega)]
  have b4 : f.acc 4 = 6 * 2 ^ 60 + a0 * 2 ^ 52 + a1 * 2 ^ 32 + a2 * 2 ^ 16 + a3 * 2 ^ 8 := by
    show setb (f.acc 3) 8 8 (f.k 3).toNat = _
    rw [b3, e3, Int.toNat_natCast, setb_add (H := 6 * 2 ^ 44 + a0 * 2 ^ 36 + a1 * 2 ^ 16 + a2) (by simp only [Nat.reducePow, Nat.reduceAdd, Nat.reduceMul]; omega) (by simp only [Nat.reducePow, Nat.reduceMul]; omega) (by decide) (by simp only [Nat.reducePow]; omega)]
  show setb (f.acc 4) 0 8 (f.k 4).toNat = _
  rw [b4, e4, Int.toNat_natCast, setb_add (H := 6 * 2 ^ 52 + a0 * 2 ^ 44 + a1 * 2 ^ 24 + a2 * 2 ^ 8 + a3) (by simp only [Nat.reducePow, Nat.reduceAdd, Nat.reduceMul]; omega) (by simp only [Nat.reducePow, Nat.reduceMul]; omega) (by decide) (by simp only [Nat.reducePow]; omega), Nat.pow_zero, Nat.mul_one]
theorem sx_head (a0 a1 a2 a3 a4 : Nat) (h : a0 ≤ 255 ∧ a1 ≤ 1048575 ∧ a2 ≤ 65535 ∧ a3 ≤ 255 ∧ a4 ≤ 255) : pb (6 * 2 ^ 60 + a0 * 2 ^ 52 + a1 * 2 ^ 32 + a2 * 2 ^ 16 + a3 * 2 ^ 8 + a4) 8 = head8 a0 a1 a2 a3 a4 := by
  obtain ⟨h0, h1, h2, h3, h4⟩ := h
  obtain ⟨x, hx⟩ : ∃ x, x = 6 * 2 ^ 60 + a0 * 2 ^ 52 + a1 * 2 ^ 32 + a2 * 2 ^ 16 + a3 * 2 ^ 8 + a4 := ⟨_, rfl⟩
  rw [← hx]
  simp only [Nat.reducePow, Nat.reduceMul] at hx
  have e : pb x 8 = [x / 256 ^ 7 % 256, x / 256 ^ 6 % 256, x / 256 ^ 5 % 256, x / 256 ^ 4 % 256, x / 256 ^ 3 % 256, x / 256 ^ 2 % 256, x / 256 ^ 1 % 256, x / 256 ^ 0 % 256] := rfl
  rw [e]
  unfold head8
  simp only [Nat.reducePow]
  rw [show x / 72057594037927936 % 256 = 96 + a0 / 16 by omega, show x / 281474976710656 % 256 = a0 % 16 * 16 + a1 / 65536 by omega, show x / 1099511627776 % 256 = a1 / 256 % 256 by omega, show x / 4294967296 % 256 = a1 % 256 by omega,
    show x / 16777216 % 256 = a2 / 256 by omega, show x / 65536 % 256 = a2 % 256 by omega, show x / 256 % 256 = a3 by omega, show x / 1 % 256 = a4 by omega]
theorem six_w64 {x : Int} (h0 : -9223372036854775808 ≤ x) (h1 : x ≤ 9223372036854775807) : wrap64 x = x := by unfold wrap64; omega
theorem six_cells (a0 a1 a2 a3 a4 : Nat) (h : a0 ≤ 255 ∧ a1 ≤ 1048575 ∧ a2 ≤ 65535 ∧ a3 ≤ 255 ∧ a4 ≤ 255) :
    (#[Value.int .u8 (wrap64 (96 + wrap64 ((a0 : Int) / 16)) % 256), .int .u8 (wrap64 ((a0 : Int) % 16 * 16 + wrap64 ((a1 : Int) / 65536)) % 256), .int .u8 ((wrap64 ((a1 : Int) / 256)).tmod 256 % 256), .int .u8 ((a1 : Int) % 256), .int .u8 (wrap64 ((a2 : Int) / 256) % 256), .int .u8 ((a2 : Int) % 256), .int .u8 ((a3 : Int) % 256), .int .u8 ((a4 : Int) % 256)] : Array Value) = (bcells (head8 a0 a1 a2 a3 a4)).toArray := by
  obtain ⟨h0, h1, h2, h3, h4⟩ := h
  rw [six_w64 (x := (a0 : Int) / 16) (by omega) (by omega), six_w64 (x := 96 + (a0 : Int) / 16) (by omega) (by omega), six_w64 (x := (a1 : Int) / 65536) (by omega) (by omega), six_w64 (x := (a0 : Int) % 16 * 16 + (a1 : Int) / 65536) (by omega) (by omega), six_w64 (x := (a1 : Int) / 256) (by omega) (by omega), six_w64 (x := (a2 : Int) / 256) (by omega) (by omega), Int.tmod_eq_emod_of_nonneg (by omega)]
  rw [show (96 + (a0 : Int) / 16) % 256 = ((96 + a0 / 16 : Nat) : Int) by omega, show ((a0 : Int) % 16 * 16 + (a1 : Int) / 65536) % 256 = ((a0 % 16 * 16 + a1 / 65536 : Nat) : Int) by omega, show (a1 : Int) / 256 % 256 % 256 = ((a1 / 256 % 256 : Nat) : Int) by omega, show (a1 : Int) % 256 = ((a1 % 256 : Nat) : Int) by omega,
    show (a2 : Int) / 256 % 256 = ((a2 / 256 : Nat) : Int) by omega, show (a2 : Int) % 256 = ((a2 % 256 : Nat) : Int) by omega, show (a3 : Int) % 256 = ((a3 : Nat) : Int) by omega, show (a4 : Int) % 256 = ((a4 : Nat) : Int) by omega]
  rfl
theorem head8_byte (a0 a1 a2 a3 a4 : Nat) (h : a0 ≤ 255 ∧ a1 ≤ 1048575 ∧ a2 ≤ 65535 ∧ a3 ≤ 255 ∧ a4 ≤ 255) : ∀ x ∈ head8 a0 a1 a2 a3 a4, x < 256 := by
  intro x hx
  unfold head8 at hx
  simp at hx
  omega
end Go.Proofs.Ytcjaidpmfjnhpaa
