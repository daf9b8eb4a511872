/-
  The document's Go of layer 11.
-/
import Derived.Test.YtmchclpkjjmocaaGreatREw0
namespace Go.Proofs.YtmchclpkjjmocaaGreat
open Go.RowKit
set_option linter.unusedVariables false

theorem walkS_ok {n : Nat} {bs : List Nat} (hl : bs.length = n) : ∀ (f : Nat) (t : Tour) (S : List (Nat × Nat × Nat)) (fi : Int), StepsOk n bs t S fi → ∃ fj, StepsOk n bs (walkS n bs f t S).1 (walkS n bs f t S).2 fj
  | 0, t, S, fi, h => ⟨fi, h⟩
  | f + 1, t, S, fi, h => by
    cases hk : exKind t.proto with
    | false => rw [walkS_end hk]; exact ⟨fi, h⟩
    | true =>
      by_cases h8 : t.count = 8
      · rw [walkS_many hk h8]; exact ⟨fi, h.count, h.at_, h.atn, h.c8, h.first, h.fr, h.hop, h.twice, h.zero, h.some_, h.within⟩
      · cases hs : exSize t.proto (n - t.at_) (bs.getD (t.at_ + 1) 0) with
        | none => rw [walkS_ext hk h8 hs]; exact ⟨fi, h.count, h.at_, h.atn, h.c8, h.first, h.fr, h.hop, h.twice, h.zero, h.some_, h.within⟩
        | some m =>
          rw [walkS_pass hk h8 hs]
          obtain ⟨_, hm8, hmn, _⟩ := exSize_some hs
          have hat := h.atn
          have h2 := (steps_more (k := t.proto.toNat) (m := m) h hl h8 hm8 (by omega) (fun e => size_44 hs (exKind_nat hk) e)).1
          split
          · exact ⟨_, h2⟩
          · exact walkS_ok hl f _ _ _ h2
def flagsUpto (l : List Bool) : Nat → List Nat
  | 0 => []
  | k + 1 => flagsUpto l k ++ if l.getD k false then [10 + k] else []
theorem flags_all (t : Tour) : flagsUpto [t.ext, t.hop, t.many, t.twice, t.lng] 5 = t.defects := by
  unfold Tour.defects
  cases t.ext <;> cases t.hop <;> cases t.many <;> cases t.twice <;> cases t.lng <;> rfl
theorem flags_len (l : List Bool) : ∀ k, (flagsUpto l k).length ≤ k
  | 0 => Nat.le_refl _
  | k + 1 => by
    unfold flagsUpto
    rw [List.length_append]
    have h := flags_len l k
    split <;> simp <;> omega
theorem flag_cell (w : World) (b0 b1 b2 b3 b4 : Bool) (k : Nat) (hk : k < 5) : (w.alloc (.cells #[.bool b0, .bool b1, .bool b2, .bool b3, .bool b4] 4)).cell? ⟨w.heap.size, k, none⟩ = some (.bool ([b0, b1, b2, b3, b4].getD k false)) := by
  rw [cell_of_row _ _ _ _ _ _ (heap_alloc_new w _)]
  match k, hk with
  | 0, _ => rfl
  | 1, _ => rfl
  | 2, _ => rfl
  | 3, _ => rfl
  | 4, _ => rfl
theorem ten_int {k dd : Nat} (hk : k < 5) (h : dd = 10 + k) : wrap64 (10 + (k : Int)) = (dd : Int) ∧ (10 : Int) + (k : Int) = (dd : Int) := by
  subst h
  exact ⟨by unfold wrap64; omega, by omega⟩
theorem flag_small {l : List Bool} {k : Nat} (h : k ≤ 5) : (flagsUpto l k).length ≤ 1000000 := Nat.le_trans (flags_len l k) (Nat.le_trans h (by decide))
theorem hop_next {S : List (Nat × Nat × Nat)} {j q : Nat} {s : Nat × Nat × Nat} (h1 : 1 ≤ j) (hs : S[j]? = some s) (hq : q = s.2.1) : hopTo S (j + 1) = (hopTo S j || decide (q = 0)) := by
  rw [hopTo, decide_eq_true h1, Bool.true_and, List.getD_eq_getElem?_getD, hs, hq]
  rfl
theorem twice_next {S : List (Nat × Nat × Nat)} {f : Int} {j q : Nat} {s : Nat × Nat × Nat} (h1 : 1 ≤ j) (hs : S[j]? = some s) (hq : q = s.2.1) : twiceTo S f (j + 1) = (twiceTo S f j || (decide (q = 44) && decide (f < (j : Int)))) := by
  rw [twiceTo, decide_eq_true h1, Bool.true_and, List.getD_eq_getElem?_getD, hs, hq]
  rfl
theorem hop_end (S : List (Nat × Nat × Nat)) (f : Int) {N M : Nat} (hN : N = S.length) (hM : (N = 0 ∧ M = 1) ∨ (0 < N ∧ M = N)) : hopTo S M = hopTo S S.length ∧ twiceTo S f M = twiceTo S f S.length := by
  rcases hM with ⟨h0, rfl⟩ | ⟨_, rfl⟩
  · rw [← hN, h0]
    refine ⟨?_, ?_⟩
    · show (false || (decide (1 ≤ 0) && _)) = false
      simp
    · show (false || (decide (1 ≤ 0) && _)) = false
      simp
  · rw [hN]; exact ⟨rfl, rfl⟩
theorem zero_bool (q : Nat) : ((q : Int) == 0) = decide (q = 0) := by
  by_cases h : q = 0
  · subst h; rfl
  · rw [decide_eq_false h]; exact beq_false_of_ne (by omega)
theorem of_wrap {x : Nat} (h : x < 8192) : wrap64 (x : Int) = (x : Int) := by unfold wrap64; omega
theorem hop_one (S : List (Nat × Nat × Nat)) : hopTo S 1 = false := by show (false || (decide (1 ≤ 0) && _)) = false; simp
theorem twice_one (S : List (Nat × Nat × Nat)) (f : Int) : twiceTo S f 1 = false := by show (false || (decide (1 ≤ 0) && _)) = false; simp
theorem at_ints {a z x n : Nat} (h : x = a + z) (hn : a + z ≤ n) (h2 : n ≤ 140737488351232) : wrap64 ((a : Int) + (z : Int)) = (x : Int) ∧ IntKind.i64.wrap ((a : Int) + (z : Int)) = (x : Int) := by
  subst h
  rw [← Int.natCast_add]
  exact ⟨w64_big (by omega) (by omega), IntWalk.i64_in _ (by omega)⟩
theorem loop_stop {j N M : Nat} (h1 : 1 ≤ j) (hj : j ≤ M) (hM : (N = 0 ∧ M = 1) ∨ (0 < N ∧ M = N)) (h : ¬ j < N) : j = M := by omega
theorem loop_more {j N M : Nat} (hM : (N = 0 ∧ M = 1) ∨ (0 < N ∧ M = N)) (h : j < N) : j + 1 ≤ M ∧ N - (j + 1) < N - j := by omega
theorem last_step {S : List (Nat × Nat × Nat)} {N : Nat} (hN : N = S.length) (h0 : 0 < N) : ∃ s, S[N - 1]? = some s ∧ stEnd S = s.1 + s.2.2 := by
  have hl : N - 1 < S.length := by omega
  refine ⟨S[N - 1], List.getElem?_eq_getElem hl, ?_⟩
  unfold stEnd
  rw [List.getLast?_eq_getElem?, ← hN, List.getElem?_eq_getElem hl]
theorem stEnd_nil {S : List (Nat × Nat × Nat)} {N : Nat} (hN : N = S.length) (h0 : N = 0) : stEnd S = 0 := by
  have : S = [] := List.eq_nil_of_length_eq_zero (by omega)
  subst this
  rfl
theorem last_ints {N : Nat} (h0 : 0 < N) (h8 : N ≤ 8) : wrap64 ((N : Int) - 1) = ((N - 1 : Nat) : Int) ∧ IntKind.i64.wrap ((N : Int) - 1) = ((N - 1 : Nat) : Int) ∧ ((N - 1 : Nat) : Int) < (N : Int) := by
  refine ⟨by unfold wrap64; omega, ?_, by omega⟩
  rw [IntWalk.i64_in _ (by omega)]; omega
theorem end_ints {n a of e1 e2 e3 e4 : Nat} (ho : of < 8192) (hn : n ≤ 140737488351232) (ha : a + 8 ≤ n) (h1 : e1 = 8 * of) (h2 : e2 = e1 + n) (h3 : e3 = e2 - a) (h4 : e4 = e3 - 8) :
    IntKind.i64.wrap (8 * (of : Int)) = (e1 : Int) ∧ IntKind.i64.wrap ((e1 : Int) + (n : Int)) = (e2 : Int) ∧ IntKind.i64.wrap ((e2 : Int) - (a : Int)) = (e3 : Int) ∧ IntKind.i64.wrap ((e3 : Int) - 8) = (e4 : Int) ∧ wrap64 (8 * (of : Int)) = (e1 : Int) ∧ wrap64 ((e1 : Int) + (n : Int)) = (e2 : Int) ∧ wrap64 ((e2 : Int) - (a : Int)) = (e3 : Int) ∧ wrap64 ((e3 : Int) - 8) = (e4 : Int) ∧ e4 = 8 * of + (n - a - 8) := by
  subst h1 h2 h3 h4
  have q1 : (8 : Int) * (of : Int) = ((8 * of : Nat) : Int) := by omega
  have q2 : ((8 * of : Nat) : Int) + (n : Int) = ((8 * of + n : Nat) : Int) := by omega
  have q3 : ((8 * of + n : Nat) : Int) - (a : Int) = ((8 * of + n - a : Nat) : Int) := by omega
  have q4 : ((8 * of + n - a : Nat) : Int) - 8 = ((8 * of + n - a - 8 : Nat) : Int) := by omega
  rw [q1, q2, q3, q4]
  refine ⟨IntWalk.i64_in _ (by omega), IntWalk.i64_in _ (by omega), IntWalk.i64_in _ (by omega), IntWalk.i64_in _ (by omega), w64_bigger (by omega) (by omega), w64_bigger (by omega) (by omega), w64_bigger (by omega) (by omega), w64_bigger (by omega) (by omega), by omega⟩
theorem off_lt {x : Nat} (h : x < 65536) : x / 8 < 8192 ∧ (x : Int) / 8 = ((x / 8 : Nat) : Int) ∧ (x : Int) % 2 = ((x % 2 : Nat) : Int) := by omega
/-- What Go tells; where nothing is wrong, no list is made. -/
def GoIsN (w : World) (t : Tour) (e : Ending) (w' : World) : Prop := ∃ v, e = .returned (.tuple #[.agg t.told.toArray, v]) ∧ DefRead w' v t.defects ∧ Below w.heap.size w w' ∧ (t.defects = [] → v = .slice none 0 0)
set_option maxRecDepth 10000 in
set_option maxHeartbeats 6400000 in
theorem rexgo_nil (k : Int) (A : Option Addr) (n c : Nat) (bs : List Nat) (w : World) (hc : n ≤ c) (hc2 : n ≤ 140737488351232) (hR : Row w A n bs) :
    Calls Tryz.prog 61 #[.int .i64 k, .slice A n c] w (GoIsN w (walkS n bs 9 (Tour.start k) []).1) := by
  have CW := Lib.hid (fun w hR => rexway_any k A n c bs w hc hc2 hR)
  unfold WayIs at CW
  obtain ⟨fi, hok⟩ := walkS_ok hR.1 9 (Tour.start k) [] (-1) (steps_start k n bs)
  obtain ⟨R, hRR⟩ : ∃ R, R = walkS n bs 9 (Tour.start k) [] := ⟨_, rfl⟩
  rw [← hRR] at CW hok ⊢
  obtain ⟨t, S⟩ := R
  have HOK : Hid (StepsOk n bs t S fi) := hok
  have CW : Hid (∀ (w : World), Row w A n bs → Calls Tryz.prog 81 #[.int .i64 k, .slice A n c] w fun e w' => ∃ v, e = .returned (.tuple #[v, .int .i64 t.proto, .bool t.ext, .bool t.many]) ∧ Steps w.heap.size w' v S ∧ Below w.heap.size w w') := CW
  show Calls _ _ _ _ (GoIsN w t)
  have HR := Lib.hid hR
  have HC := Lib.hid (And.intro hc hc2)
  obtain ⟨pr, hpr⟩ : ∃ pr, pr = t.proto := ⟨_, rfl⟩
  obtain ⟨bx, hbx⟩ : ∃ b, b = t.ext := ⟨_, rfl⟩
  obtain ⟨bm, hbm⟩ : ∃ b, b = t.many := ⟨_, rfl⟩
  rw [← hpr, ← hbx, ← hbm] at CW
  have HPR := Lib.hid (And.intro hpr (And.intro hbx hbm))
  obtain ⟨N, hN⟩ : ∃ N, N = S.length := ⟨_, rfl⟩
  have hN8 : N ≤ 8 := by rw [hN, ← hok.count]; exact hok.c8
  have HN := Lib.hid (And.intro hN hN8)
  obtain ⟨V1, e1⟩ : ∃ V, V = w.alloc (.cells #[.int .i64 0, .int .i64 0, .int .i64 0, .int .i64 0, .int .i64 0] 99) := ⟨_, rfl⟩
  have HA4 : Hid (ArrV 99 V1 w.heap.size walkZ) := by show ArrV _ _ _ _; rw [e1]; exact ArrV.new _ w walkZ
  have HB1 : Hid (Below w.heap.size w V1) := by show Below _ _ _; rw [e1]; exact (Below.refl _ _).alloc (Nat.le_refl _) _
  have HE1 := Lib.hid e1
  clear hRR hR hc hc2 e1 hok hpr hbx hbm
  go_enter Tryz.func61, Tryz.ntmps61
  go_upto_region 1 with fail
  rw [← HE1.out]
  clear HE1
  go_wp2_with fail
  refine (CW.out _ (HR.out.below HB1.out)).mono ?_
  rintro e w1 ⟨v1, rfl, hst, b1⟩
  obtain ⟨A1, d1, rfl, hd1a, hd1b⟩ := hst.slice
  clear hd1a hd1b
  rw [← hN]
  rw [← hN] at hst
  have HST : Hid (∀ W, Below w1.heap.size w1 W → StepRead W (.slice A1 N d1) S) := fun W h => hst.read.below h
  have HSC : Hid (∀ W, Below w1.heap.size w1 W → ∀ (i : Nat) (s : Nat × Nat × Nat), S[i]? = some s → ∃ b o, A1 = some ⟨b, o, none⟩ ∧ b < W.heap.size ∧ W.cell? ⟨b, o + i * 3, none⟩ = some (.int .i64 (s.1 : Nat)) ∧ W.cell? ⟨b, o + i * 3 + 1, none⟩ = some (.int .i64 (s.2.1 : Nat)) ∧ W.cell? ⟨b, o + i * 3 + 2, none⟩ = some (.int .i64 (s.2.2 : Nat))) := fun W h i s hs => by
    obtain ⟨A', d', e', _, hcl⟩ := HST.out W h
    obtain ⟨b, o, e, q⟩ := hcl i s hs
    injection e' with e1 e2 e3
    exact ⟨b, o, e1.trans e, q⟩
  have BW := Lib.hid (below_both HB1.out b1)
  have HA4 := Lib.hid (HA4.out.below b1)
  have CF : Hid (∀ W, Below w1.heap.size w1 W → Calls Tryz.prog 82 #[.slice A1 N d1] W fun e w' => e = .returned (.int .i64 fi) ∧ W = w') := fun W h => rfirst_any _ S fi W (HST.out W h) HOK.out.first (by have h1 := HN.out.1; have h2 := HN.out.2; omega)
  have nI : (N : Int) ≤ 8 := by omega
  clear hst b1 CW hN hN8
  go_upto_region 3 with fail
  obtain ⟨V2, e2⟩ : ∃ V, V = w1.alloc (.cells #[.int .i64 pr, .int .i64 0, .int .i64 0, .int .i64 0, .int .i64 (N : Nat)] 99) := ⟨_, rfl⟩
  have hA : ArrV 99 V2 w1.heap.size [.int .i64 pr, .int .i64 0, .int .i64 0, .int .i64 0, .int .i64 (N : Nat)] := by rw [e2]; exact ArrV.new _ w1 _
  have hB : Below w1.heap.size w1 V2 := by rw [e2]; exact (Below.refl _ _).alloc (Nat.le_refl _) _
  rw [← e2]
  obtain ⟨g, hg⟩ : ∃ g, g = w1.heap.size := ⟨_, rfl⟩
  have HG : Hid (w1.heap.size ≤ g) := by show w1.heap.size ≤ g; rw [hg]; exact Nat.le_refl _
  rw [← hg] at hA ⊢
  have HA := Lib.hid hA
  have HB := Lib.hid hB
  clear e2 hA hB hg
  obtain ⟨M, hM⟩ : ∃ M, (N = 0 ∧ M = 1) ∨ (0 < N ∧ M = N) := by
    rcases Nat.eq_zero_or_pos N with h | h
    · exact ⟨1, .inl ⟨h, rfl⟩⟩
    · exact ⟨N, .inr ⟨h, rfl⟩⟩
  have HM := Lib.hid hM
  have HM1 : Hid (1 ≤ M) := by show 1 ≤ M; omega
  have HHE : Hid (hopTo S M = t.hop ∧ twiceTo S fi M = t.twice) := by
    obtain ⟨a, b⟩ := hop_end S fi HN.out.1 hM
    exact ⟨a.trans HOK.out.hop.symm, b.trans HOK.out.twice.symm⟩
  clear hM
  by_cases h0 : N = 0
  · have hnI : ¬ (0 : Int) < (N : Int) := by rw [h0]; decide
    obtain ⟨at0, hat⟩ : ∃ at0, at0 = 0 := ⟨_, rfl⟩
    have HAT : Hid (t.at_ = at0) := by show _ = _; rw [HOK.out.at_, stEnd_nil HN.out.1 h0, hat]
    have HA3 : Hid (ArrV 99 V2 g [.int .i64 pr, .int .i64 (at0 : Nat), .int .i64 0, .int .i64 0, .int .i64 (N : Nat)]) := by show ArrV _ _ _ _; rw [hat]; exact HA.out
    have HB3 := HB
    obtain ⟨V3, eV3⟩ : ∃ V, V = V2 := ⟨_, rfl⟩
    rw [← eV3] at HA3 HB3 ⊢
    have HN0 := Lib.hid h0
    clear eV3 hat h0 HA HB
    go_wp2_with fail
    go_loop [11, 12, 14] (fun hp tw i => ∃ j : Nat, 1 ≤ j ∧ j ≤ M ∧ i = .int .i64 (j : Nat) ∧ hp = .bool (hopTo S j) ∧ tw = .bool (twiceTo S fi j)) (fun _ _ i => N - (intOf i).toNat)
    case atStart => exact ⟨1, Nat.le_refl _, HM1.out, rfl, by rw [hop_one], by rw [twice_one]⟩
    case round =>
      obtain ⟨j, h1, hjM, rfl, rfl, rfl⟩ := hrel
      obtain ⟨hb, ehb⟩ : ∃ b, b = hopTo S j := ⟨_, rfl⟩
      obtain ⟨tw, etw⟩ : ∃ b, b = twiceTo S fi j := ⟨_, rfl⟩
      rw [← ehb, ← etw]
      by_cases hlt : j < N
      · exact absurd hlt (by rw [HN0.out]; exact Nat.not_lt_zero j)
      · have hjN : j = M := loop_stop h1 hjM HM.out hlt
        subst hjN
        have HBT : Hid (t.hop = hb ∧ t.twice = tw) := ⟨by rw [ehb, HHE.out.1], by rw [etw, HHE.out.2]⟩
        obtain ⟨bh, ebh⟩ : ∃ b, b = hb := ⟨_, rfl⟩
        obtain ⟨bt, ebt⟩ : ∃ b, b = tw := ⟨_, rfl⟩
        rw [← ebh, ← ebt] at HBT ⊢
        have jI : ¬ (j : Int) < (N : Int) := fun h => hlt (Int.ofNat_lt.1 h)
        have HFI := Lib.hid HOK.out.first
        clear ehb etw ebh ebt h1 hjM hlt
        rcases HFI.out with ⟨hf, hno⟩ | ⟨i0, s0, hf, hs0, h440, hno⟩
        · have fneg : ¬ (0 : Int) ≤ fi := by rw [hf]; decide
          obtain ⟨y1, y2, y3⟩ := HOK.out.zero hf
          have HFO : Hid (t.frag = 0 ∧ t.off = 0) := ⟨y2, y1⟩
          have HBL : Hid (t.lng = false) := y3
          clear hf y1 y2 y3 hno
          go_wp2_with fail
          refine (CF.out _ HB3.out).mono ?_
          rintro e w' ⟨rfl, rfl⟩
          have BU := HB3
          obtain ⟨X, hX⟩ : ∃ X, X = ([.int .i64 pr, .int .i64 (at0 : Nat), .int .i64 0, .int .i64 0, .int .i64 (N : Nat)] : List Value) := ⟨_, rfl⟩
          have AU : Hid (ArrV 99 V3 g X) := by show ArrV _ _ _ _; rw [hX]; exact HA3.out
          have HX : Hid (t.walk = X ∧ X.length = 5 ∧ ∀ v ∈ X, v.oneCell' = true) := by
            refine ⟨?_, by rw [hX]; rfl, by rw [hX]; simp [Value.oneCell']⟩
            unfold Tour.walk
            rw [hX, ← HPR.out.1, HAT.out, HFO.out.1, HFO.out.2, HOK.out.count, ← HN.out.1]
            rfl
          clear hX
          go_upto_region 22 with fail
          obtain ⟨U2, eU2⟩ : ∃ V, V = V3.alloc (.cells #[.bool bx, .bool bh, .bool bm, .bool bt, .bool false] 4) := ⟨_, rfl⟩
          have BU2 : Hid (Below w1.heap.size w1 U2) := by show Below _ _ _; rw [eU2]; exact BU.out.alloc BU.out.size _
          have AU2 : Hid (ArrV 99 U2 g X) := by show ArrV _ _ _ _; rw [eU2]; exact AU.out.alloc _
          have HFC : Hid (∀ W, Below U2.heap.size U2 W → ∀ j, j < 5 → W.cell? ⟨V3.heap.size, j, none⟩ = some (.bool ([bx, bh, bm, bt, false].getD j false))) := fun W h j hj => by
            have q := flag_cell V3 bx bh bm bt false j hj
            rw [← eU2] at q
            exact (h.cell (p := ⟨V3.heap.size, j, none⟩) (cell_lt q)).trans q
          have HFA : Hid (flagsUpto [bx, bh, bm, bt, false] 5 = t.defects) := by
            show _ = _
            rw [← flags_all t, ← HPR.out.2.1, ← HPR.out.2.2, ← HBT.out.1, ← HBT.out.2, ← HBL.out]
          rw [← eU2]
          generalize V3.heap.size = g18 at *
          obtain ⟨fl, hfl⟩ : ∃ fl, fl = [bx, bh, bm, bt, false] := ⟨_, rfl⟩
          rw [← hfl] at HFC HFA
          clear eU2 BU AU hfl
          go_wp2_with fail
          go_loopw [17, 19] (fun out i V => ∃ j : Nat, j ≤ 5 ∧ i = .int .i64 (j : Nat) ∧ Defs U2.heap.size V out (flagsUpto fl j) ∧ Below U2.heap.size U2 V) (fun out i V => 5 - (intOf i).toNat)
          case atStart => exact ⟨0, Nat.zero_le _, rfl, Defs.nil _ _, Below.refl _ _⟩
          case round =>
            obtain ⟨j, hj, rfl, hD, hB5⟩ := hrel
            have HD := Lib.hid hD
            have HB5 := Lib.hid hB5
            by_cases hlt : j < 5
            · have hcell := HFC.out wr hB5 j hlt
              have HS : Hid (flagsUpto fl (j + 1) = flagsUpto fl j ++ if fl.getD j false then [10 + j] else []) := rfl
              obtain ⟨q, hq⟩ : ∃ q, q = fl.getD j false := ⟨_, rfl⟩
              rw [← hq] at hcell HS
              obtain ⟨dd, hdd⟩ : ∃ dd, dd = 10 + j := ⟨_, rfl⟩
              rw [← hdd] at HS
              obtain ⟨d1', d2'⟩ := ten_int hlt hdd
              have jI : (j : Int) < 5 := by omega
              have HLT := Lib.hid hlt
              have HKB := Lib.hid (flag_small (l := fl) hj)
              clear hlt hq hdd hj hD hB5
              cases q with
              | false =>
                clear d1' d2'
                go_wp2_with fail
                go_roundw
                case rel => exact ⟨j + 1, HLT.out, by go_num, by rw [HS.out]; simpa using HD.out, HB5.out⟩
                case measure => have := HLT.out; simp [intOf]; omega
              | true =>
                go_wp2_with (at_builtin; refine wpList_append_def (B := U2.heap.size) (W := U2) (d := dd) rfl (.tmp 146) (.tmp 149) rfl rfl rfl HD.out HB5.out HB5.out.size HKB.out ?_; intro v6 w6 ho6 hb6 hs6; have O6 := Lib.hid ho6; have B6' := Lib.hid hb6; clear ho6 hb6 hs6)
                go_roundw
                case rel => exact ⟨j + 1, HLT.out, by go_num, by rw [HS.out]; exact O6.out, B6'.out⟩
                case measure => have := HLT.out; simp [intOf]; omega
            · obtain rfl : j = 5 := Nat.le_antisymm hj (Nat.le_of_not_lt hlt)
              rw [HFA.out] at HD
              obtain ⟨A9, c9, rfl, _, _⟩ := HD.out.slice
              have BWR : Hid (Below w1.heap.size w1 wr) := below_both BU2.out HB5.out
              have A4' := Lib.hid (HA4.out.below BWR.out)
              have AG := Lib.hid (AU2.out.below HB5.out)
              have HGG : Hid (∀ Z : List Value, DefRead (wr.setCells w.heap.size 0 Z) (.slice A9 t.defects.length c9) t.defects ∧ Below w.heap.size w (wr.setCells w.heap.size 0 Z)) := fun Z => by
                refine ⟨(defs_setCells HD.out (Nat.lt_of_lt_of_le HA4.out.lt BU2.out.size) Z).read, setCells_below _ (Nat.le_refl _) _ _ _ (below_both BW.out BWR.out)⟩
              clear hlt hj hD hB5
              by_cases hz : t.defects = []
              · have hTD : Hid (t.told = t.walk ∧ t.defects = []) := ⟨by unfold Tour.told; rw [if_pos hz], hz⟩
                have hn0 : t.defects.length = 0 := by rw [hz]; rfl
                obtain ⟨d0, hd0⟩ : ∃ d, d = t.defects.length := ⟨_, rfl⟩
                have HD0 := Lib.hid hd0
                rw [← hd0] at hn0 ⊢
                subst hn0
                clear hz hd0
                have hXl := HX.out.2.1
                have hXo := HX.out.2.2
                go_upto_region 29 with fail
                refine wp_region_lit ?_
                go_wp2_with (first | refine wpList_load_v rfl 99 (.tmp 10) rfl _ rfl tywalk AG.out hXl ?_ | refine wpList_store_v rfl 99 (.tmp 4) (.tmp 156) rfl _ rfl tywalk A4'.out rfl X hXl hXo rfl ?_ | fail)
                exact bodyPost_ret (v := .tuple #[.agg X.toArray, .slice none 0 0]) (res_cell_tmp Tryz.results61 rfl ((A4'.out.store X (by rw [hXl]; rfl)).loadVar tywalk hXl) rfl) rfl
                  ⟨_, by rw [hTD.out.1, HX.out.1], by rw [hTD.out.2]; exact ⟨none, 0, rfl, Nat.le_refl _, fun i x h => by simp at h⟩, (HGG.out X).2, fun _ => rfl⟩
              · have hTD : Hid (t.told = walkZ) := by show t.told = _; unfold Tour.told; rw [if_neg hz]
                obtain ⟨d0, hd0⟩ : ∃ d, d = t.defects.length := ⟨_, rfl⟩
                have hn0 : 0 < d0 := by rw [hd0]; exact List.length_pos_iff.2 hz
                have hn0I : (0 : Int) < (d0 : Int) := Int.ofNat_lt.2 hn0
                have HD0 := Lib.hid hd0
                obtain ⟨Z, hZ⟩ : ∃ Z, Z = walkZ := ⟨_, rfl⟩
                have hlit : (#[.int .i64 0, .int .i64 0, .int .i64 0, .int .i64 0, .int .i64 0] : Array Value) = Z.toArray := by rw [hZ]; rfl
                have hZl : Z.length = 5 := by rw [hZ]; rfl
                have hZo : ∀ v ∈ Z, v.oneCell' = true := by rw [hZ]; exact walkZ_one.2
                have HZ := Lib.hid hZ
                rw [← hd0]
                clear hz hd0 hn0 hZ
                go_wp2_with (first | refine wpList_store_v rfl 99 (.tmp 4) (.tmp 154) rfl _ rfl tywalk A4'.out rfl Z hZl hZo rfl ?_ | fail)
                exact bodyPost_ret (v := .tuple #[.agg Z.toArray, .slice A9 d0 c9]) (res_cell_tmp Tryz.results61 rfl ((A4'.out.store Z (by rw [hZl]; rfl)).loadVar tywalk hZl) rfl) rfl
                  ⟨_, by rw [hTD.out, HZ.out], by rw [HD0.out]; exact (HGG.out Z).1, (HGG.out Z).2, fun h => absurd hn0I (by rw [HD0.out, h]; decide)⟩
        · exact absurd (get_lt hs0) (by rw [← HN.out.1, HN0.out]; exact Nat.not_lt_zero i0)
  · have hp0 : 0 < N := Nat.pos_of_ne_zero h0
    have hnI : (0 : Int) < (N : Int) := Int.ofNat_lt.2 hp0
    obtain ⟨sl, hsl, hend⟩ := last_step HN.out.1 hp0
    obtain ⟨b, o, rfl, blt, c0, c1, c2⟩ := HSC.out V2 HB.out (N - 1) sl hsl
    obtain ⟨L1, hL1⟩ : ∃ L1, L1 = N - 1 := ⟨_, rfl⟩
    obtain ⟨n1, n2, n3⟩ := last_ints hp0 HN.out.2
    obtain ⟨y4, y5⟩ := HOK.out.within (N - 1) sl hsl
    clear y5
    rw [← hL1] at c0 c2 n1 n2 n3
    obtain ⟨sa, hsa⟩ : ∃ x, x = sl.1 := ⟨_, rfl⟩
    obtain ⟨sz, hsz⟩ : ∃ x, x = sl.2.2 := ⟨_, rfl⟩
    rw [← hsa] at c0 y4
    rw [← hsz] at c2 y4
    obtain ⟨at0, hat⟩ : ∃ at0, at0 = sa + sz := ⟨_, rfl⟩
    have HAT : Hid (t.at_ = at0) := by show _ = _; rw [HOK.out.at_, hend, hat, hsa, hsz]
    obtain ⟨a1, a2⟩ := at_ints (n := n) hat y4 HC.out.2
    have g1 := HA.out.get 1
    have f1 := HA.out.frozen 1
    simp at g1
    have HA2 := HA
    clear hp0 h0 hsl hend c1 hL1 y4 hsa hsz hat
    go_upto_region 4 with fail
    refine wp_region_still_tail 16 (by kernel_rfl) (by kernel_rfl) ?_
    simp only [List.take_succ_cons, List.take_zero, List.drop_succ_cons, List.drop_zero]
    repeat still_step
    refine wpStill_nil ?_
    change wpList _ _ _ _ _ V2.drew
    go_upto_region 5 with fail
    obtain ⟨V3, e3⟩ : ∃ V, V = (V2.setCell ⟨g, 1, none⟩ (.int .i64 (at0 : Nat))).drew := ⟨_, rfl⟩
    have HA3 : Hid (ArrV 99 V3 g [.int .i64 pr, .int .i64 (at0 : Nat), .int .i64 0, .int .i64 0, .int .i64 (N : Nat)]) := by show ArrV _ _ _ _; rw [e3]; exact (HA2.out.set 1 (.int .i64 (at0 : Nat))).drew
    have HB3 : Hid (Below w1.heap.size w1 V3) := by show Below _ _ _; rw [e3]; exact (HB.out.setCell (p := ⟨g, 1, none⟩) HG.out _).drew
    rw [← e3]
    clear e3 HA HB HA2 a1 a2 g1 f1 n1 n2 n3 c0 c2 blt
    go_wp2_with fail
    go_loop [11, 12, 14] (fun hp tw i => ∃ j : Nat, 1 ≤ j ∧ j ≤ M ∧ i = .int .i64 (j : Nat) ∧ hp = .bool (hopTo S j) ∧ tw = .bool (twiceTo S fi j)) (fun _ _ i => N - (intOf i).toNat)
    case atStart => exact ⟨1, Nat.le_refl _, HM1.out, rfl, by rw [hop_one], by rw [twice_one]⟩
    case round =>
      obtain ⟨j, h1, hjM, rfl, rfl, rfl⟩ := hrel
      obtain ⟨hb, ehb⟩ : ∃ b, b = hopTo S j := ⟨_, rfl⟩
      obtain ⟨tw, etw⟩ : ∃ b, b = twiceTo S fi j := ⟨_, rfl⟩
      rw [← ehb, ← etw]
      by_cases hlt : j < N
      · obtain ⟨s, hs⟩ : ∃ s, S[j]? = some s := ⟨_, List.getElem?_eq_getElem (by rw [← HN.out.1]; exact hlt)⟩
        obtain ⟨b5, o5, e5, blt, c0, c1, c2⟩ := HSC.out V3 HB3.out j s hs
        cases e5
        obtain ⟨q, hq⟩ : ∃ q, q = s.2.1 := ⟨_, rfl⟩
        rw [← hq] at c1
        have hopn := hop_next h1 hs hq
        have twn := twice_next (f := fi) h1 hs hq
        rw [← ehb] at hopn
        rw [← etw] at twn
        obtain ⟨z, hz⟩ : ∃ z, z = decide (q = 0) := ⟨_, rfl⟩
        have zb : ((q : Int) == 0) = z := by rw [zero_bool, hz]
        rw [← hz] at hopn
        obtain ⟨y, hy⟩ : ∃ y, decide (fi < (j : Int)) = y := ⟨_, rfl⟩
        rw [hy] at twn
        have jI : (j : Int) < (N : Int) := Int.ofNat_lt.2 hlt
        have HLM := Lib.hid (loop_more HM.out hlt)
        have HOPN := Lib.hid hopn
        have TWN := Lib.hid twn
        clear hopn twn hz h1 hjM hlt hs hq ehb etw
        cases hb with
        | true =>
          have HNH : Hid (hopTo S (j + 1) = true) := by show _ = _; rw [HOPN.out]; simp
          cases tw with
          | true =>
            have HNT : Hid (twiceTo S fi (j + 1) = true) := by show _ = _; rw [TWN.out]; simp
            clear HOPN TWN
            go_wp2_with fail
            go_round
            case rel => exact ⟨j + 1, Nat.le_add_left 1 j, HLM.out.1, by go_num, by rw [HNH.out], by rw [HNT.out]⟩
            case measure => have := HLM.out.2; simpa [intOf] using this
          | false =>
            by_cases h44 : q = 44
            · have HNT : Hid (twiceTo S fi (j + 1) = y) := by show _ = _; rw [TWN.out, decide_eq_true h44]; simp
              have k4 : ((q : Int) == 44) = true := by rw [h44]; rfl
              clear HOPN TWN h44
              go_wp2_with fail
              refine (CF.out _ HB3.out).mono ?_
              rintro e w' ⟨rfl, rfl⟩
              go_wp2_with fail
              go_round
              case rel => exact ⟨j + 1, Nat.le_add_left 1 j, HLM.out.1, by go_num, by rw [HNH.out], by rw [HNT.out]⟩
              case measure => have := HLM.out.2; simpa [intOf] using this
            · have HNT : Hid (twiceTo S fi (j + 1) = false) := by show _ = _; rw [TWN.out, decide_eq_false h44]; simp
              have k4 := kind_ne h44
              clear HOPN TWN h44
              go_wp2_with fail
              go_round
              case rel => exact ⟨j + 1, Nat.le_add_left 1 j, HLM.out.1, by go_num, by rw [HNH.out], by rw [HNT.out]⟩
              case measure => have := HLM.out.2; simpa [intOf] using this
        | false =>
          have HNH : Hid (hopTo S (j + 1) = z) := by show _ = _; rw [HOPN.out]; simp
          cases tw with
          | true =>
            have HNT : Hid (twiceTo S fi (j + 1) = true) := by show _ = _; rw [TWN.out]; simp
            clear HOPN TWN
            go_wp2_with fail
            go_round
            case rel => exact ⟨j + 1, Nat.le_add_left 1 j, HLM.out.1, by go_num, by rw [HNH.out], by rw [HNT.out]⟩
            case measure => have := HLM.out.2; simpa [intOf] using this
          | false =>
            by_cases h44 : q = 44
            · have HNT : Hid (twiceTo S fi (j + 1) = y) := by show _ = _; rw [TWN.out, decide_eq_true h44]; simp
              have k4 : ((q : Int) == 44) = true := by rw [h44]; rfl
              clear HOPN TWN h44
              go_wp2_with fail
              refine (CF.out _ HB3.out).mono ?_
              rintro e w' ⟨rfl, rfl⟩
              go_wp2_with fail
              go_round
              case rel => exact ⟨j + 1, Nat.le_add_left 1 j, HLM.out.1, by go_num, by rw [HNH.out], by rw [HNT.out]⟩
              case measure => have := HLM.out.2; simpa [intOf] using this
            · have HNT : Hid (twiceTo S fi (j + 1) = false) := by show _ = _; rw [TWN.out, decide_eq_false h44]; simp
              have k4 := kind_ne h44
              clear HOPN TWN h44
              go_wp2_with fail
              go_round
              case rel => exact ⟨j + 1, Nat.le_add_left 1 j, HLM.out.1, by go_num, by rw [HNH.out], by rw [HNT.out]⟩
              case measure => have := HLM.out.2; simpa [intOf] using this
      · have hjN : j = M := loop_stop h1 hjM HM.out hlt
        subst hjN
        have HBT : Hid (t.hop = hb ∧ t.twice = tw) := ⟨by rw [ehb, HHE.out.1], by rw [etw, HHE.out.2]⟩
        obtain ⟨bh, ebh⟩ : ∃ b, b = hb := ⟨_, rfl⟩
        obtain ⟨bt, ebt⟩ : ∃ b, b = tw := ⟨_, rfl⟩
        rw [← ebh, ← ebt] at HBT ⊢
        have jI : ¬ (j : Int) < (N : Int) := fun h => hlt (Int.ofNat_lt.1 h)
        have HFI := Lib.hid HOK.out.first
        clear ehb etw ebh ebt h1 hjM hlt
        rcases HFI.out with ⟨hf, hno⟩ | ⟨i0, s0, hf, hs0, h440, hno⟩
        · have fneg : ¬ (0 : Int) ≤ fi := by rw [hf]; decide
          obtain ⟨y1, y2, y3⟩ := HOK.out.zero hf
          have HFO : Hid (t.frag = 0 ∧ t.off = 0) := ⟨y2, y1⟩
          have HBL : Hid (t.lng = false) := y3
          clear hf y1 y2 y3 hno
          go_wp2_with fail
          refine (CF.out _ HB3.out).mono ?_
          rintro e w' ⟨rfl, rfl⟩
          have BU := HB3
          obtain ⟨X, hX⟩ : ∃ X, X = ([.int .i64 pr, .int .i64 (at0 : Nat), .int .i64 0, .int .i64 0, .int .i64 (N : Nat)] : List Value) := ⟨_, rfl⟩
          have AU : Hid (ArrV 99 V3 g X) := by show ArrV _ _ _ _; rw [hX]; exact HA3.out
          have HX : Hid (t.walk = X ∧ X.length = 5 ∧ ∀ v ∈ X, v.oneCell' = true) := by
            refine ⟨?_, by rw [hX]; rfl, by rw [hX]; simp [Value.oneCell']⟩
            unfold Tour.walk
            rw [hX, ← HPR.out.1, HAT.out, HFO.out.1, HFO.out.2, HOK.out.count, ← HN.out.1]
            rfl
          clear hX
          go_upto_region 22 with fail
          obtain ⟨U2, eU2⟩ : ∃ V, V = V3.alloc (.cells #[.bool bx, .bool bh, .bool bm, .bool bt, .bool false] 4) := ⟨_, rfl⟩
          have BU2 : Hid (Below w1.heap.size w1 U2) := by show Below _ _ _; rw [eU2]; exact BU.out.alloc BU.out.size _
          have AU2 : Hid (ArrV 99 U2 g X) := by show ArrV _ _ _ _; rw [eU2]; exact AU.out.alloc _
          have HFC : Hid (∀ W, Below U2.heap.size U2 W → ∀ j, j < 5 → W.cell? ⟨V3.heap.size, j, none⟩ = some (.bool ([bx, bh, bm, bt, false].getD j false))) := fun W h j hj => by
            have q := flag_cell V3 bx bh bm bt false j hj
            rw [← eU2] at q
            exact (h.cell (p := ⟨V3.heap.size, j, none⟩) (cell_lt q)).trans q
          have HFA : Hid (flagsUpto [bx, bh, bm, bt, false] 5 = t.defects) := by
            show _ = _
            rw [← flags_all t, ← HPR.out.2.1, ← HPR.out.2.2, ← HBT.out.1, ← HBT.out.2, ← HBL.out]
          rw [← eU2]
          generalize V3.heap.size = g18 at *
          obtain ⟨fl, hfl⟩ : ∃ fl, fl = [bx, bh, bm, bt, false] := ⟨_, rfl⟩
          rw [← hfl] at HFC HFA
          clear eU2 BU AU hfl
          go_wp2_with fail
          go_loopw [17, 19] (fun out i V => ∃ j : Nat, j ≤ 5 ∧ i = .int .i64 (j : Nat) ∧ Defs U2.heap.size V out (flagsUpto fl j) ∧ Below U2.heap.size U2 V) (fun out i V => 5 - (intOf i).toNat)
          case atStart => exact ⟨0, Nat.zero_le _, rfl, Defs.nil _ _, Below.refl _ _⟩
          case round =>
            obtain ⟨j, hj, rfl, hD, hB5⟩ := hrel
            have HD := Lib.hid hD
            have HB5 := Lib.hid hB5
            by_cases hlt : j < 5
            · have hcell := HFC.out wr hB5 j hlt
              have HS : Hid (flagsUpto fl (j + 1) = flagsUpto fl j ++ if fl.getD j false then [10 + j] else []) := rfl
              obtain ⟨q, hq⟩ : ∃ q, q = fl.getD j false := ⟨_, rfl⟩
              rw [← hq] at hcell HS
              obtain ⟨dd, hdd⟩ : ∃ dd, dd = 10 + j := ⟨_, rfl⟩
              rw [← hdd] at HS
              obtain ⟨d1', d2'⟩ := ten_int hlt hdd
              have jI : (j : Int) < 5 := by omega
              have HLT := Lib.hid hlt
              have HKB := Lib.hid (flag_small (l := fl) hj)
              clear hlt hq hdd hj hD hB5
              cases q with
              | false =>
                clear d1' d2'
                go_wp2_with fail
                go_roundw
                case rel => exact ⟨j + 1, HLT.out, by go_num, by rw [HS.out]; simpa using HD.out, HB5.out⟩
                case measure => have := HLT.out; simp [intOf]; omega
              | true =>
                go_wp2_with (at_builtin; refine wpList_append_def (B := U2.heap.size) (W := U2) (d := dd) rfl (.tmp 146) (.tmp 149) rfl rfl rfl HD.out HB5.out HB5.out.size HKB.out ?_; intro v6 w6 ho6 hb6 hs6; have O6 := Lib.hid ho6; have B6' := Lib.hid hb6; clear ho6 hb6 hs6)
                go_roundw
                case rel => exact ⟨j + 1, HLT.out, by go_num, by rw [HS.out]; exact O6.out, B6'.out⟩
                case measure => have := HLT.out; simp [intOf]; omega
            · obtain rfl : j = 5 := Nat.le_antisymm hj (Nat.le_of_not_lt hlt)
              rw [HFA.out] at HD
              obtain ⟨A9, c9, rfl, _, _⟩ := HD.out.slice
              have BWR : Hid (Below w1.heap.size w1 wr) := below_both BU2.out HB5.out
              have A4' := Lib.hid (HA4.out.below BWR.out)
              have AG := Lib.hid (AU2.out.below HB5.out)
              have HGG : Hid (∀ Z : List Value, DefRead (wr.setCells w.heap.size 0 Z) (.slice A9 t.defects.length c9) t.defects ∧ Below w.heap.size w (wr.setCells w.heap.size 0 Z)) := fun Z => by
                refine ⟨(defs_setCells HD.out (Nat.lt_of_lt_of_le HA4.out.lt BU2.out.size) Z).read, setCells_below _ (Nat.le_refl _) _ _ _ (below_both BW.out BWR.out)⟩
              clear hlt hj hD hB5
              by_cases hz : t.defects = []
              · have hTD : Hid (t.told = t.walk ∧ t.defects = []) := ⟨by unfold Tour.told; rw [if_pos hz], hz⟩
                have hn0 : t.defects.length = 0 := by rw [hz]; rfl
                obtain ⟨d0, hd0⟩ : ∃ d, d = t.defects.length := ⟨_, rfl⟩
                have HD0 := Lib.hid hd0
                rw [← hd0] at hn0 ⊢
                subst hn0
                clear hz hd0
                have hXl := HX.out.2.1
                have hXo := HX.out.2.2
                go_upto_region 29 with fail
                refine wp_region_lit ?_
                go_wp2_with (first | refine wpList_load_v rfl 99 (.tmp 10) rfl _ rfl tywalk AG.out hXl ?_ | refine wpList_store_v rfl 99 (.tmp 4) (.tmp 156) rfl _ rfl tywalk A4'.out rfl X hXl hXo rfl ?_ | fail)
                exact bodyPost_ret (v := .tuple #[.agg X.toArray, .slice none 0 0]) (res_cell_tmp Tryz.results61 rfl ((A4'.out.store X (by rw [hXl]; rfl)).loadVar tywalk hXl) rfl) rfl
                  ⟨_, by rw [hTD.out.1, HX.out.1], by rw [hTD.out.2]; exact ⟨none, 0, rfl, Nat.le_refl _, fun i x h => by simp at h⟩, (HGG.out X).2, fun _ => rfl⟩
              · have hTD : Hid (t.told = walkZ) := by show t.told = _; unfold Tour.told; rw [if_neg hz]
                obtain ⟨d0, hd0⟩ : ∃ d, d = t.defects.length := ⟨_, rfl⟩
                have hn0 : 0 < d0 := by rw [hd0]; exact List.length_pos_iff.2 hz
                have hn0I : (0 : Int) < (d0 : Int) := Int.ofNat_lt.2 hn0
                have HD0 := Lib.hid hd0
                obtain ⟨Z, hZ⟩ : ∃ Z, Z = walkZ := ⟨_, rfl⟩
                have hlit : (#[.int .i64 0, .int .i64 0, .int .i64 0, .int .i64 0, .int .i64 0] : Array Value) = Z.toArray := by rw [hZ]; rfl
                have hZl : Z.length = 5 := by rw [hZ]; rfl
                have hZo : ∀ v ∈ Z, v.oneCell' = true := by rw [hZ]; exact walkZ_one.2
                have HZ := Lib.hid hZ
                rw [← hd0]
                clear hz hd0 hn0 hZ
                go_wp2_with (first | refine wpList_store_v rfl 99 (.tmp 4) (.tmp 154) rfl _ rfl tywalk A4'.out rfl Z hZl hZo rfl ?_ | fail)
                exact bodyPost_ret (v := .tuple #[.agg Z.toArray, .slice A9 d0 c9]) (res_cell_tmp Tryz.results61 rfl ((A4'.out.store Z (by rw [hZl]; rfl)).loadVar tywalk hZl) rfl) rfl
                  ⟨_, by rw [hTD.out, HZ.out], by rw [HD0.out]; exact (HGG.out Z).1, (HGG.out Z).2, fun h => absurd hn0I (by rw [HD0.out, h]; decide)⟩
        · have fpos : (0 : Int) ≤ fi := by rw [hf]; exact Int.natCast_nonneg i0
          obtain ⟨y1, y2, y3⟩ := HOK.out.some_ i0 s0 hf hs0
          obtain ⟨y4, y5⟩ := HOK.out.within i0 s0 hs0
          clear hno
          obtain ⟨b5, o5, e5, blt, c0, c1', c2'⟩ := HSC.out V3 HB3.out i0 s0 hs0
          cases e5
          obtain ⟨a, ha⟩ : ∃ a, a = s0.1 := ⟨_, rfl⟩
          rw [← ha] at y1 y2 y3 y4 c0
          have ha8 : a + 8 ≤ n := Nat.le_trans (Nat.add_le_add_left y5 a) y4
          have HRV : Hid (Row V3 A n bs) := HR.out.below (below_both BW.out HB3.out)
          obtain ⟨b2, o2, rfl, hbl, hcell⟩ := HRV.out.addr (Nat.lt_of_lt_of_le (by decide : 0 < 8) (Nat.le_trans (Nat.le_add_left 8 a) ha8))
          obtain ⟨wn1, hpn2, hpn3⟩ := way_nats ha8 (Nat.le_refl 8)
          clear wn1
          have q2 := hcell (a + 2) hpn2
          have q3 := hcell (a + 3) hpn3
          obtain ⟨wi1, wi2, i2, i2', l2, i3, i3', l3, wi3⟩ := way_ints ha8 (Nat.le_refl 8) HC.out.1 HC.out.2
          clear wi1 wi3
          have hx2 := HR.out.byte (a + 2)
          have hx3 := HR.out.byte (a + 3)
          have hwl := fhw_lt HR.out.byte (a + 2)
          have HWD : Hid (fhw bs (a + 2) = bs.getD (a + 2) 0 * 256 + bs.getD (a + 3) 0) := rfl
          obtain ⟨x2, e2⟩ : ∃ x, x = bs.getD (a + 2) 0 := ⟨_, rfl⟩
          obtain ⟨x3, e3⟩ : ∃ x, x = bs.getD (a + 3) 0 := ⟨_, rfl⟩
          obtain ⟨wd, ewd⟩ : ∃ x, x = fhw bs (a + 2) := ⟨_, rfl⟩
          rw [← e2, ← e3, ← ewd] at HWD
          rw [← e2] at hx2 q2
          rw [← e3] at hx3 q3
          rw [← ewd] at y1 y2 y3 hwl
          obtain ⟨z1, z2, z3, z4, z5, z6⟩ := word_ints hx2 hx3 HWD.out
          obtain ⟨ol, o8, o2m⟩ := off_lt hwl
          obtain ⟨of, hof⟩ : ∃ of, of = wd / 8 := ⟨_, rfl⟩
          obtain ⟨r, hr⟩ : ∃ r, r = wd % 2 := ⟨_, rfl⟩
          rw [← hof] at y1 y2 y3 ol o8
          rw [← hr] at y2 o2m
          obtain ⟨u1, hu1⟩ : ∃ u, u = 8 * of := ⟨_, rfl⟩
          obtain ⟨u2, hu2⟩ : ∃ u, u = u1 + n := ⟨_, rfl⟩
          obtain ⟨u3, hu3⟩ : ∃ u, u = u2 - a := ⟨_, rfl⟩
          obtain ⟨u4, hu4⟩ : ∃ u, u = u3 - 8 := ⟨_, rfl⟩
          have HEI := Lib.hid (end_ints ol HC.out.2 ha8 hu1 hu2 hu3 hu4)
          rw [← HEI.out.2.2.2.2.2.2.2.2] at y3
          have HO8 := Lib.hid (And.intro o8 o2m)
          have HOW := Lib.hid (of_wrap ol)
          have i0I : (i0 : Int) < (N : Int) := by have h := get_lt hs0; rw [← HN.out.1] at h; exact Int.ofNat_lt.2 h
          have HY := Lib.hid (And.intro y1 (And.intro y2 y3))
          have HR2 : Hid (r < 2) := by show r < 2; rw [hr]; exact Nat.mod_lt _ (by decide)
          have HST0 := Lib.hid (And.intro hs0 ha)
          have CF0 : Hid (∀ W, Below w1.heap.size w1 W → Calls Tryz.prog 82 #[.slice (some ⟨b, o, none⟩) N d1] W fun e w' => e = .returned (.int .i64 (i0 : Nat)) ∧ W = w') := by rw [← hf]; exact CF.out
          clear hs0 h440 y1 y2 y3 y4 y5 ha ha8 hcell hbl hpn2 hpn3 e2 e3 ewd hof hr hu1 hu2 hu3 hu4 ol o8 o2m hwl fpos CF hf
          go_wp2_with fail
          refine (CF0.out _ HB3.out).mono ?_
          rintro e w' ⟨rfl, rfl⟩
          go_upto_region 13 with fail
          go_quiet (fail)
          obtain ⟨V4, e4⟩ : ∃ V4, V4 = V3.drewN nq := ⟨_, rfl⟩
          have A5 : Hid (ArrV 99 V4 g [.int .i64 pr, .int .i64 (at0 : Nat), .int .i64 0, .int .i64 0, .int .i64 (N : Nat)]) := by show ArrV _ _ _ _; rw [e4]; exact HA3.out
          have B5 : Hid (Below w1.heap.size w1 V4) := by show Below _ _ _; rw [e4]; exact below_drewN' HB3.out nq
          rw [← e4]
          clear e4 i2 i2' l2 i3 i3' l3 z1 z2 z3 z4 z5 z6 hx2 hx3 q2 q3 c0 HRV HB3 HA3 blt c1' c2'
          have c3 := A5.out.get 3
          have f3 := A5.out.frozen 3
          simp at c3
          have o8 := HO8.out.1
          have ow := HOW.out
          go_upto_region 15 with fail
          obtain ⟨V5, e5⟩ : ∃ V5, V5 = V4.setCell ⟨g, 3, none⟩ (.int .i64 (of : Nat)) := ⟨_, rfl⟩
          have A6 : Hid (ArrV 99 V5 g [.int .i64 pr, .int .i64 (at0 : Nat), .int .i64 0, .int .i64 (of : Nat), .int .i64 (N : Nat)]) := by show ArrV _ _ _ _; rw [e5]; exact A5.out.set 3 (.int .i64 (of : Nat))
          have B6 : Hid (Below w1.heap.size w1 V5) := by show Below _ _ _; rw [e5]; exact B5.out.setCell (p := ⟨g, 3, none⟩) HG.out _
          rw [← e5]
          clear e5 c3 f3 A5 B5 o8 ow
          have c3 := A6.out.get 3
          have c2 := A6.out.get 2
          have f2 := A6.out.frozen 2
          simp at c3 c2
          by_cases hpos : 0 < of
          · have opI : (0 : Int) < (of : Int) := Int.ofNat_lt.2 hpos
            have HFO : Hid (t.frag = 2 ∧ t.off = of) := ⟨by rw [HY.out.2.1, if_pos (Nat.ne_of_gt hpos)], HY.out.1⟩
            clear hpos
            go_upto_region 19 with fail
            obtain ⟨V6, e6⟩ : ∃ V6, V6 = V5.setCell ⟨g, 2, none⟩ (.int .i64 2) := ⟨_, rfl⟩
            have A7 : Hid (ArrV 99 V6 g [.int .i64 pr, .int .i64 (at0 : Nat), .int .i64 2, .int .i64 (of : Nat), .int .i64 (N : Nat)]) := by show ArrV _ _ _ _; rw [e6]; exact A6.out.set 2 (.int .i64 2)
            have B7 : Hid (Below w1.heap.size w1 V6) := by show Below _ _ _; rw [e6]; exact B6.out.setCell (p := ⟨g, 2, none⟩) HG.out _
            rw [← e6]
            clear e6 c3 c2 f2 A6 B6 opI
            have c3 := A7.out.get 3
            simp at c3
            obtain ⟨b9, o9, e9, blt, d0', d1', d2'⟩ := HSC.out V6 B7.out i0 s0 HST0.out.1
            cases e9
            rw [← HST0.out.2] at d0'
            obtain ⟨j1, j2, j3, j4, j5, j6, j7, j8, j9⟩ := HEI.out
            clear j9
            obtain ⟨bl, ebl⟩ : ∃ bl, bl = decide (65535 < u4) := ⟨_, rfl⟩
            have bl1 : decide ((65535 : Int) < (u4 : Int)) = bl := by rw [ebl, decide_eq_decide]; exact ⟨fun h => Int.ofNat_lt.1 h, fun h => Int.ofNat_lt.2 h⟩
            have bl2 : decide (65535 < u4) = bl := ebl.symm
            have HBL : Hid (t.lng = bl) := by show _ = _; rw [HY.out.2.2, ebl]
            clear ebl
            go_quiet (fail)
            obtain ⟨V7, e7⟩ : ∃ V7, V7 = V6.drewN nq := ⟨_, rfl⟩
            have BU : Hid (Below w1.heap.size w1 V7) := by show Below _ _ _; rw [e7]; exact below_drewN' B7.out nq
            have A8 : Hid (ArrV 99 V7 g [.int .i64 pr, .int .i64 (at0 : Nat), .int .i64 2, .int .i64 (of : Nat), .int .i64 (N : Nat)]) := by show ArrV _ _ _ _; rw [e7]; exact A7.out
            rw [← e7]
            clear e7 c3 d0' d1' d2' blt j1 j2 j3 j4 j5 j6 j7 j8 bl1 bl2 A7 B7
            obtain ⟨X, hX⟩ : ∃ X, X = ([.int .i64 pr, .int .i64 (at0 : Nat), .int .i64 2, .int .i64 (of : Nat), .int .i64 (N : Nat)] : List Value) := ⟨_, rfl⟩
            have AU : Hid (ArrV 99 V7 g X) := by show ArrV _ _ _ _; rw [hX]; exact A8.out
            have HX : Hid (t.walk = X ∧ X.length = 5 ∧ ∀ v ∈ X, v.oneCell' = true) := by
              refine ⟨?_, by rw [hX]; rfl, by rw [hX]; simp [Value.oneCell']⟩
              unfold Tour.walk
              rw [hX, ← HPR.out.1, HAT.out, HFO.out.1, HFO.out.2, HOK.out.count, ← HN.out.1]
              rfl
            clear hX
            go_upto_region 22 with fail
            obtain ⟨U2, eU2⟩ : ∃ V, V = V7.alloc (.cells #[.bool bx, .bool bh, .bool bm, .bool bt, .bool bl] 4) := ⟨_, rfl⟩
            have BU2 : Hid (Below w1.heap.size w1 U2) := by show Below _ _ _; rw [eU2]; exact BU.out.alloc BU.out.size _
            have AU2 : Hid (ArrV 99 U2 g X) := by show ArrV _ _ _ _; rw [eU2]; exact AU.out.alloc _
            have HFC : Hid (∀ W, Below U2.heap.size U2 W → ∀ j, j < 5 → W.cell? ⟨V7.heap.size, j, none⟩ = some (.bool ([bx, bh, bm, bt, bl].getD j false))) := fun W h j hj => by
              have q := flag_cell V7 bx bh bm bt bl j hj
              rw [← eU2] at q
              exact (h.cell (p := ⟨V7.heap.size, j, none⟩) (cell_lt q)).trans q
            have HFA : Hid (flagsUpto [bx, bh, bm, bt, bl] 5 = t.defects) := by
              show _ = _
              rw [← flags_all t, ← HPR.out.2.1, ← HPR.out.2.2, ← HBT.out.1, ← HBT.out.2, ← HBL.out]
            rw [← eU2]
            generalize V7.heap.size = g18 at *
            obtain ⟨fl, hfl⟩ : ∃ fl, fl = [bx, bh, bm, bt, bl] := ⟨_, rfl⟩
            rw [← hfl] at HFC HFA
            clear eU2 BU AU hfl
            go_wp2_with fail
            go_loopw [17, 19] (fun out i V => ∃ j : Nat, j ≤ 5 ∧ i = .int .i64 (j : Nat) ∧ Defs U2.heap.size V out (flagsUpto fl j) ∧ Below U2.heap.size U2 V) (fun out i V => 5 - (intOf i).toNat)
            case atStart => exact ⟨0, Nat.zero_le _, rfl, Defs.nil _ _, Below.refl _ _⟩
            case round =>
              obtain ⟨j, hj, rfl, hD, hB5⟩ := hrel
              have HD := Lib.hid hD
              have HB5 := Lib.hid hB5
              by_cases hlt : j < 5
              · have hcell := HFC.out wr hB5 j hlt
                have HS : Hid (flagsUpto fl (j + 1) = flagsUpto fl j ++ if fl.getD j false then [10 + j] else []) := rfl
                obtain ⟨q, hq⟩ : ∃ q, q = fl.getD j false := ⟨_, rfl⟩
                rw [← hq] at hcell HS
                obtain ⟨dd, hdd⟩ : ∃ dd, dd = 10 + j := ⟨_, rfl⟩
                rw [← hdd] at HS
                obtain ⟨d1', d2'⟩ := ten_int hlt hdd
                have jI : (j : Int) < 5 := by omega
                have HLT := Lib.hid hlt
                have HKB := Lib.hid (flag_small (l := fl) hj)
                clear hlt hq hdd hj hD hB5
                cases q with
                | false =>
                  clear d1' d2'
                  go_wp2_with fail
                  go_roundw
                  case rel => exact ⟨j + 1, HLT.out, by go_num, by rw [HS.out]; simpa using HD.out, HB5.out⟩
                  case measure => have := HLT.out; simp [intOf]; omega
                | true =>
                  go_wp2_with (at_builtin; refine wpList_append_def (B := U2.heap.size) (W := U2) (d := dd) rfl (.tmp 146) (.tmp 149) rfl rfl rfl HD.out HB5.out HB5.out.size HKB.out ?_; intro v6 w6 ho6 hb6 hs6; have O6 := Lib.hid ho6; have B6' := Lib.hid hb6; clear ho6 hb6 hs6)
                  go_roundw
                  case rel => exact ⟨j + 1, HLT.out, by go_num, by rw [HS.out]; exact O6.out, B6'.out⟩
                  case measure => have := HLT.out; simp [intOf]; omega
              · obtain rfl : j = 5 := Nat.le_antisymm hj (Nat.le_of_not_lt hlt)
                rw [HFA.out] at HD
                obtain ⟨A9, c9, rfl, _, _⟩ := HD.out.slice
                have BWR : Hid (Below w1.heap.size w1 wr) := below_both BU2.out HB5.out
                have A4' := Lib.hid (HA4.out.below BWR.out)
                have AG := Lib.hid (AU2.out.below HB5.out)
                have HGG : Hid (∀ Z : List Value, DefRead (wr.setCells w.heap.size 0 Z) (.slice A9 t.defects.length c9) t.defects ∧ Below w.heap.size w (wr.setCells w.heap.size 0 Z)) := fun Z => by
                  refine ⟨(defs_setCells HD.out (Nat.lt_of_lt_of_le HA4.out.lt BU2.out.size) Z).read, setCells_below _ (Nat.le_refl _) _ _ _ (below_both BW.out BWR.out)⟩
                clear hlt hj hD hB5
                by_cases hz : t.defects = []
                · have hTD : Hid (t.told = t.walk ∧ t.defects = []) := ⟨by unfold Tour.told; rw [if_pos hz], hz⟩
                  have hn0 : t.defects.length = 0 := by rw [hz]; rfl
                  obtain ⟨d0, hd0⟩ : ∃ d, d = t.defects.length := ⟨_, rfl⟩
                  have HD0 := Lib.hid hd0
                  rw [← hd0] at hn0 ⊢
                  subst hn0
                  clear hz hd0
                  have hXl := HX.out.2.1
                  have hXo := HX.out.2.2
                  go_upto_region 29 with fail
                  refine wp_region_lit ?_
                  go_wp2_with (first | refine wpList_load_v rfl 99 (.tmp 10) rfl _ rfl tywalk AG.out hXl ?_ | refine wpList_store_v rfl 99 (.tmp 4) (.tmp 156) rfl _ rfl tywalk A4'.out rfl X hXl hXo rfl ?_ | fail)
                  exact bodyPost_ret (v := .tuple #[.agg X.toArray, .slice none 0 0]) (res_cell_tmp Tryz.results61 rfl ((A4'.out.store X (by rw [hXl]; rfl)).loadVar tywalk hXl) rfl) rfl
                    ⟨_, by rw [hTD.out.1, HX.out.1], by rw [hTD.out.2]; exact ⟨none, 0, rfl, Nat.le_refl _, fun i x h => by simp at h⟩, (HGG.out X).2, fun _ => rfl⟩
                · have hTD : Hid (t.told = walkZ) := by show t.told = _; unfold Tour.told; rw [if_neg hz]
                  obtain ⟨d0, hd0⟩ : ∃ d, d = t.defects.length := ⟨_, rfl⟩
                  have hn0 : 0 < d0 := by rw [hd0]; exact List.length_pos_iff.2 hz
                  have hn0I : (0 : Int) < (d0 : Int) := Int.ofNat_lt.2 hn0
                  have HD0 := Lib.hid hd0
                  obtain ⟨Z, hZ⟩ : ∃ Z, Z = walkZ := ⟨_, rfl⟩
                  have hlit : (#[.int .i64 0, .int .i64 0, .int .i64 0, .int .i64 0, .int .i64 0] : Array Value) = Z.toArray := by rw [hZ]; rfl
                  have hZl : Z.length = 5 := by rw [hZ]; rfl
                  have hZo : ∀ v ∈ Z, v.oneCell' = true := by rw [hZ]; exact walkZ_one.2
                  have HZ := Lib.hid hZ
                  rw [← hd0]
                  clear hz hd0 hn0 hZ
                  go_wp2_with (first | refine wpList_store_v rfl 99 (.tmp 4) (.tmp 154) rfl _ rfl tywalk A4'.out rfl Z hZl hZo rfl ?_ | fail)
                  exact bodyPost_ret (v := .tuple #[.agg Z.toArray, .slice A9 d0 c9]) (res_cell_tmp Tryz.results61 rfl ((A4'.out.store Z (by rw [hZl]; rfl)).loadVar tywalk hZl) rfl) rfl
                    ⟨_, by rw [hTD.out, HZ.out], by rw [HD0.out]; exact (HGG.out Z).1, (HGG.out Z).2, fun h => absurd hn0I (by rw [HD0.out, h]; decide)⟩
          · have hof0 : of = 0 := Nat.eq_zero_of_not_pos hpos
            have opI : ¬ (0 : Int) < (of : Int) := by rw [hof0]; decide
            by_cases hr1 : r = 1
            · have rI : ((r : Int) == 1) = true := by rw [hr1]; rfl
              have o2m := HO8.out.2
              have HFO : Hid (t.frag = 1 ∧ t.off = of) := ⟨by rw [HY.out.2.1, if_neg (fun h => h hof0), if_pos hr1], HY.out.1⟩
              clear hpos hof0 hr1
              go_upto_region 19 with fail
              obtain ⟨V6, e6⟩ : ∃ V6, V6 = V5.setCell ⟨g, 2, none⟩ (.int .i64 1) := ⟨_, rfl⟩
              have A7 : Hid (ArrV 99 V6 g [.int .i64 pr, .int .i64 (at0 : Nat), .int .i64 1, .int .i64 (of : Nat), .int .i64 (N : Nat)]) := by show ArrV _ _ _ _; rw [e6]; exact A6.out.set 2 (.int .i64 1)
              have B7 : Hid (Below w1.heap.size w1 V6) := by show Below _ _ _; rw [e6]; exact B6.out.setCell (p := ⟨g, 2, none⟩) HG.out _
              rw [← e6]
              clear e6 c3 c2 f2 A6 B6 opI rI o2m
              have c3 := A7.out.get 3
              simp at c3
              obtain ⟨b9, o9, e9, blt, d0', d1', d2'⟩ := HSC.out V6 B7.out i0 s0 HST0.out.1
              cases e9
              rw [← HST0.out.2] at d0'
              obtain ⟨j1, j2, j3, j4, j5, j6, j7, j8, j9⟩ := HEI.out
              clear j9
              obtain ⟨bl, ebl⟩ : ∃ bl, bl = decide (65535 < u4) := ⟨_, rfl⟩
              have bl1 : decide ((65535 : Int) < (u4 : Int)) = bl := by rw [ebl, decide_eq_decide]; exact ⟨fun h => Int.ofNat_lt.1 h, fun h => Int.ofNat_lt.2 h⟩
              have bl2 : decide (65535 < u4) = bl := ebl.symm
              have HBL : Hid (t.lng = bl) := by show _ = _; rw [HY.out.2.2, ebl]
              clear ebl
              go_quiet (fail)
              obtain ⟨V7, e7⟩ : ∃ V7, V7 = V6.drewN nq := ⟨_, rfl⟩
              have BU : Hid (Below w1.heap.size w1 V7) := by show Below _ _ _; rw [e7]; exact below_drewN' B7.out nq
              have A8 : Hid (ArrV 99 V7 g [.int .i64 pr, .int .i64 (at0 : Nat), .int .i64 1, .int .i64 (of : Nat), .int .i64 (N : Nat)]) := by show ArrV _ _ _ _; rw [e7]; exact A7.out
              rw [← e7]
              clear e7 c3 d0' d1' d2' blt j1 j2 j3 j4 j5 j6 j7 j8 bl1 bl2 A7 B7
              obtain ⟨X, hX⟩ : ∃ X, X = ([.int .i64 pr, .int .i64 (at0 : Nat), .int .i64 1, .int .i64 (of : Nat), .int .i64 (N : Nat)] : List Value) := ⟨_, rfl⟩
              have AU : Hid (ArrV 99 V7 g X) := by show ArrV _ _ _ _; rw [hX]; exact A8.out
              have HX : Hid (t.walk = X ∧ X.length = 5 ∧ ∀ v ∈ X, v.oneCell' = true) := by
                refine ⟨?_, by rw [hX]; rfl, by rw [hX]; simp [Value.oneCell']⟩
                unfold Tour.walk
                rw [hX, ← HPR.out.1, HAT.out, HFO.out.1, HFO.out.2, HOK.out.count, ← HN.out.1]
                rfl
              clear hX
              go_upto_region 22 with fail
              obtain ⟨U2, eU2⟩ : ∃ V, V = V7.alloc (.cells #[.bool bx, .bool bh, .bool bm, .bool bt, .bool bl] 4) := ⟨_, rfl⟩
              have BU2 : Hid (Below w1.heap.size w1 U2) := by show Below _ _ _; rw [eU2]; exact BU.out.alloc BU.out.size _
              have AU2 : Hid (ArrV 99 U2 g X) := by show ArrV _ _ _ _; rw [eU2]; exact AU.out.alloc _
              have HFC : Hid (∀ W, Below U2.heap.size U2 W → ∀ j, j < 5 → W.cell? ⟨V7.heap.size, j, none⟩ = some (.bool ([bx, bh, bm, bt, bl].getD j false))) := fun W h j hj => by
                have q := flag_cell V7 bx bh bm bt bl j hj
                rw [← eU2] at q
                exact (h.cell (p := ⟨V7.heap.size, j, none⟩) (cell_lt q)).trans q
              have HFA : Hid (flagsUpto [bx, bh, bm, bt, bl] 5 = t.defects) := by
                show _ = _
                rw [← flags_all t, ← HPR.out.2.1, ← HPR.out.2.2, ← HBT.out.1, ← HBT.out.2, ← HBL.out]
              rw [← eU2]
              generalize V7.heap.size = g18 at *
              obtain ⟨fl, hfl⟩ : ∃ fl, fl = [bx, bh, bm, bt, bl] := ⟨_, rfl⟩
              rw [← hfl] at HFC HFA
              clear eU2 BU AU hfl
              go_wp2_with fail
              go_loopw [17, 19] (fun out i V => ∃ j : Nat, j ≤ 5 ∧ i = .int .i64 (j : Nat) ∧ Defs U2.heap.size V out (flagsUpto fl j) ∧ Below U2.heap.size U2 V) (fun out i V => 5 - (intOf i).toNat)
              case atStart => exact ⟨0, Nat.zero_le _, rfl, Defs.nil _ _, Below.refl _ _⟩
              case round =>
                obtain ⟨j, hj, rfl, hD, hB5⟩ := hrel
                have HD := Lib.hid hD
                have HB5 := Lib.hid hB5
                by_cases hlt : j < 5
                · have hcell := HFC.out wr hB5 j hlt
                  have HS : Hid (flagsUpto fl (j + 1) = flagsUpto fl j ++ if fl.getD j false then [10 + j] else []) := rfl
                  obtain ⟨q, hq⟩ : ∃ q, q = fl.getD j false := ⟨_, rfl⟩
                  rw [← hq] at hcell HS
                  obtain ⟨dd, hdd⟩ : ∃ dd, dd = 10 + j := ⟨_, rfl⟩
                  rw [← hdd] at HS
                  obtain ⟨d1', d2'⟩ := ten_int hlt hdd
                  have jI : (j : Int) < 5 := by omega
                  have HLT := Lib.hid hlt
                  have HKB := Lib.hid (flag_small (l := fl) hj)
                  clear hlt hq hdd hj hD hB5
                  cases q with
                  | false =>
                    clear d1' d2'
                    go_wp2_with fail
                    go_roundw
                    case rel => exact ⟨j + 1, HLT.out, by go_num, by rw [HS.out]; simpa using HD.out, HB5.out⟩
                    case measure => have := HLT.out; simp [intOf]; omega
                  | true =>
                    go_wp2_with (at_builtin; refine wpList_append_def (B := U2.heap.size) (W := U2) (d := dd) rfl (.tmp 146) (.tmp 149) rfl rfl rfl HD.out HB5.out HB5.out.size HKB.out ?_; intro v6 w6 ho6 hb6 hs6; have O6 := Lib.hid ho6; have B6' := Lib.hid hb6; clear ho6 hb6 hs6)
                    go_roundw
                    case rel => exact ⟨j + 1, HLT.out, by go_num, by rw [HS.out]; exact O6.out, B6'.out⟩
                    case measure => have := HLT.out; simp [intOf]; omega
                · obtain rfl : j = 5 := Nat.le_antisymm hj (Nat.le_of_not_lt hlt)
                  rw [HFA.out] at HD
                  obtain ⟨A9, c9, rfl, _, _⟩ := HD.out.slice
                  have BWR : Hid (Below w1.heap.size w1 wr) := below_both BU2.out HB5.out
                  have A4' := Lib.hid (HA4.out.below BWR.out)
                  have AG := Lib.hid (AU2.out.below HB5.out)
                  have HGG : Hid (∀ Z : List Value, DefRead (wr.setCells w.heap.size 0 Z) (.slice A9 t.defects.length c9) t.defects ∧ Below w.heap.size w (wr.setCells w.heap.size 0 Z)) := fun Z => by
                    refine ⟨(defs_setCells HD.out (Nat.lt_of_lt_of_le HA4.out.lt BU2.out.size) Z).read, setCells_below _ (Nat.le_refl _) _ _ _ (below_both BW.out BWR.out)⟩
                  clear hlt hj hD hB5
                  by_cases hz : t.defects = []
                  · have hTD : Hid (t.told = t.walk ∧ t.defects = []) := ⟨by unfold Tour.told; rw [if_pos hz], hz⟩
                    have hn0 : t.defects.length = 0 := by rw [hz]; rfl
                    obtain ⟨d0, hd0⟩ : ∃ d, d = t.defects.length := ⟨_, rfl⟩
                    have HD0 := Lib.hid hd0
                    rw [← hd0] at hn0 ⊢
                    subst hn0
                    clear hz hd0
                    have hXl := HX.out.2.1
                    have hXo := HX.out.2.2
                    go_upto_region 29 with fail
                    refine wp_region_lit ?_
                    go_wp2_with (first | refine wpList_load_v rfl 99 (.tmp 10) rfl _ rfl tywalk AG.out hXl ?_ | refine wpList_store_v rfl 99 (.tmp 4) (.tmp 156) rfl _ rfl tywalk A4'.out rfl X hXl hXo rfl ?_ | fail)
                    exact bodyPost_ret (v := .tuple #[.agg X.toArray, .slice none 0 0]) (res_cell_tmp Tryz.results61 rfl ((A4'.out.store X (by rw [hXl]; rfl)).loadVar tywalk hXl) rfl) rfl
                      ⟨_, by rw [hTD.out.1, HX.out.1], by rw [hTD.out.2]; exact ⟨none, 0, rfl, Nat.le_refl _, fun i x h => by simp at h⟩, (HGG.out X).2, fun _ => rfl⟩
                  · have hTD : Hid (t.told = walkZ) := by show t.told = _; unfold Tour.told; rw [if_neg hz]
                    obtain ⟨d0, hd0⟩ : ∃ d, d = t.defects.length := ⟨_, rfl⟩
                    have hn0 : 0 < d0 := by rw [hd0]; exact List.length_pos_iff.2 hz
                    have hn0I : (0 : Int) < (d0 : Int) := Int.ofNat_lt.2 hn0
                    have HD0 := Lib.hid hd0
                    obtain ⟨Z, hZ⟩ : ∃ Z, Z = walkZ := ⟨_, rfl⟩
                    have hlit : (#[.int .i64 0, .int .i64 0, .int .i64 0, .int .i64 0, .int .i64 0] : Array Value) = Z.toArray := by rw [hZ]; rfl
                    have hZl : Z.length = 5 := by rw [hZ]; rfl
                    have hZo : ∀ v ∈ Z, v.oneCell' = true := by rw [hZ]; exact walkZ_one.2
                    have HZ := Lib.hid hZ
                    rw [← hd0]
                    clear hz hd0 hn0 hZ
                    go_wp2_with (first | refine wpList_store_v rfl 99 (.tmp 4) (.tmp 154) rfl _ rfl tywalk A4'.out rfl Z hZl hZo rfl ?_ | fail)
                    exact bodyPost_ret (v := .tuple #[.agg Z.toArray, .slice A9 d0 c9]) (res_cell_tmp Tryz.results61 rfl ((A4'.out.store Z (by rw [hZl]; rfl)).loadVar tywalk hZl) rfl) rfl
                      ⟨_, by rw [hTD.out, HZ.out], by rw [HD0.out]; exact (HGG.out Z).1, (HGG.out Z).2, fun h => absurd hn0I (by rw [HD0.out, h]; decide)⟩
            · have rI : ((r : Int) == 1) = false := beq_false_of_ne (fun h => hr1 (Int.ofNat.inj h))
              have o2m := HO8.out.2
              have HFO : Hid (t.frag = 0 ∧ t.off = of) := ⟨by rw [HY.out.2.1, if_neg (fun h => h hof0), if_neg hr1], HY.out.1⟩
              clear hpos hof0 hr1
              go_upto_region 19 with fail
              obtain ⟨V6, e6⟩ : ∃ V6, V6 = V5 := ⟨_, rfl⟩
              have A7 : Hid (ArrV 99 V6 g [.int .i64 pr, .int .i64 (at0 : Nat), .int .i64 0, .int .i64 (of : Nat), .int .i64 (N : Nat)]) := by show ArrV _ _ _ _; rw [e6]; exact A6.out
              have B7 : Hid (Below w1.heap.size w1 V6) := by show Below _ _ _; rw [e6]; exact B6.out
              rw [← e6]
              clear e6 c3 c2 f2 A6 B6 opI rI o2m
              have c3 := A7.out.get 3
              simp at c3
              obtain ⟨b9, o9, e9, blt, d0', d1', d2'⟩ := HSC.out V6 B7.out i0 s0 HST0.out.1
              cases e9
              rw [← HST0.out.2] at d0'
              obtain ⟨j1, j2, j3, j4, j5, j6, j7, j8, j9⟩ := HEI.out
              clear j9
              obtain ⟨bl, ebl⟩ : ∃ bl, bl = decide (65535 < u4) := ⟨_, rfl⟩
              have bl1 : decide ((65535 : Int) < (u4 : Int)) = bl := by rw [ebl, decide_eq_decide]; exact ⟨fun h => Int.ofNat_lt.1 h, fun h => Int.ofNat_lt.2 h⟩
              have bl2 : decide (65535 < u4) = bl := ebl.symm
              have HBL : Hid (t.lng = bl) := by show _ = _; rw [HY.out.2.2, ebl]
              clear ebl
              go_quiet (fail)
              obtain ⟨V7, e7⟩ : ∃ V7, V7 = V6.drewN nq := ⟨_, rfl⟩
              have BU : Hid (Below w1.heap.size w1 V7) := by show Below _ _ _; rw [e7]; exact below_drewN' B7.out nq
              have A8 : Hid (ArrV 99 V7 g [.int .i64 pr, .int .i64 (at0 : Nat), .int .i64 0, .int .i64 (of : Nat), .int .i64 (N : Nat)]) := by show ArrV _ _ _ _; rw [e7]; exact A7.out
              rw [← e7]
              clear e7 c3 d0' d1' d2' blt j1 j2 j3 j4 j5 j6 j7 j8 bl1 bl2 A7 B7
              obtain ⟨X, hX⟩ : ∃ X, X = ([.int .i64 pr, .int .i64 (at0 : Nat), .int .i64 0, .int .i64 (of : Nat), .int .i64 (N : Nat)] : List Value) := ⟨_, rfl⟩
              have AU : Hid (ArrV 99 V7 g X) := by show ArrV _ _ _ _; rw [hX]; exact A8.out
              have HX : Hid (t.walk = X ∧ X.length = 5 ∧ ∀ v ∈ X, v.oneCell' = true) := by
                refine ⟨?_, by rw [hX]; rfl, by rw [hX]; simp [Value.oneCell']⟩
                unfold Tour.walk
                rw [hX, ← HPR.out.1, HAT.out, HFO.out.1, HFO.out.2, HOK.out.count, ← HN.out.1]
                rfl
              clear hX
              go_upto_region 22 with fail
              obtain ⟨U2, eU2⟩ : ∃ V, V = V7.alloc (.cells #[.bool bx, .bool bh, .bool bm, .bool bt, .bool bl] 4) := ⟨_, rfl⟩
              have BU2 : Hid (Below w1.heap.size w1 U2) := by show Below _ _ _; rw [eU2]; exact BU.out.alloc BU.out.size _
              have AU2 : Hid (ArrV 99 U2 g X) := by show ArrV _ _ _ _; rw [eU2]; exact AU.out.alloc _
              have HFC : Hid (∀ W, Below U2.heap.size U2 W → ∀ j, j < 5 → W.cell? ⟨V7.heap.size, j, none⟩ = some (.bool ([bx, bh, bm, bt, bl].getD j false))) := fun W h j hj => by
                have q := flag_cell V7 bx bh bm bt bl j hj
                rw [← eU2] at q
                exact (h.cell (p := ⟨V7.heap.size, j, none⟩) (cell_lt q)).trans q
              have HFA : Hid (flagsUpto [bx, bh, bm, bt, bl] 5 = t.defects) := by
                show _ = _
                rw [← flags_all t, ← HPR.out.2.1, ← HPR.out.2.2, ← HBT.out.1, ← HBT.out.2, ← HBL.out]
              rw [← eU2]
              generalize V7.heap.size = g18 at *
              obtain ⟨fl, hfl⟩ : ∃ fl, fl = [bx, bh, bm, bt, bl] := ⟨_, rfl⟩
              rw [← hfl] at HFC HFA
              clear eU2 BU AU hfl
              go_wp2_with fail
              go_loopw [17, 19] (fun out i V => ∃ j : Nat, j ≤ 5 ∧ i = .int .i64 (j : Nat) ∧ Defs U2.heap.size V out (flagsUpto fl j) ∧ Below U2.heap.size U2 V) (fun out i V => 5 - (intOf i).toNat)
              case atStart => exact ⟨0, Nat.zero_le _, rfl, Defs.nil _ _, Below.refl _ _⟩
              case round =>
                obtain ⟨j, hj, rfl, hD, hB5⟩ := hrel
                have HD := Lib.hid hD
                have HB5 := Lib.hid hB5
                by_cases hlt : j < 5
                · have hcell := HFC.out wr hB5 j hlt
                  have HS : Hid (flagsUpto fl (j + 1) = flagsUpto fl j ++ if fl.getD j false then [10 + j] else []) := rfl
                  obtain ⟨q, hq⟩ : ∃ q, q = fl.getD j false := ⟨_, rfl⟩
                  rw [← hq] at hcell HS
                  obtain ⟨dd, hdd⟩ : ∃ dd, dd = 10 + j := ⟨_, rfl⟩
                  rw [← hdd] at HS
                  obtain ⟨d1', d2'⟩ := ten_int hlt hdd
                  have jI : (j : Int) < 5 := by omega
                  have HLT := Lib.hid hlt
                  have HKB := Lib.hid (flag_small (l := fl) hj)
                  clear hlt hq hdd hj hD hB5
                  cases q with
                  | false =>
                    clear d1' d2'
                    go_wp2_with fail
                    go_roundw
                    case rel => exact ⟨j + 1, HLT.out, by go_num, by rw [HS.out]; simpa using HD.out, HB5.out⟩
                    case measure => have := HLT.out; simp [intOf]; omega
                  | true =>
                    go_wp2_with (at_builtin; refine wpList_append_def (B := U2.heap.size) (W := U2) (d := dd) rfl (.tmp 146) (.tmp 149) rfl rfl rfl HD.out HB5.out HB5.out.size HKB.out ?_; intro v6 w6 ho6 hb6 hs6; have O6 := Lib.hid ho6; have B6' := Lib.hid hb6; clear ho6 hb6 hs6)
                    go_roundw
                    case rel => exact ⟨j + 1, HLT.out, by go_num, by rw [HS.out]; exact O6.out, B6'.out⟩
                    case measure => have := HLT.out; simp [intOf]; omega
                · obtain rfl : j = 5 := Nat.le_antisymm hj (Nat.le_of_not_lt hlt)
                  rw [HFA.out] at HD
                  obtain ⟨A9, c9, rfl, _, _⟩ := HD.out.slice
                  have BWR : Hid (Below w1.heap.size w1 wr) := below_both BU2.out HB5.out
                  have A4' := Lib.hid (HA4.out.below BWR.out)
                  have AG := Lib.hid (AU2.out.below HB5.out)
                  have HGG : Hid (∀ Z : List Value, DefRead (wr.setCells w.heap.size 0 Z) (.slice A9 t.defects.length c9) t.defects ∧ Below w.heap.size w (wr.setCells w.heap.size 0 Z)) := fun Z => by
                    refine ⟨(defs_setCells HD.out (Nat.lt_of_lt_of_le HA4.out.lt BU2.out.size) Z).read, setCells_below _ (Nat.le_refl _) _ _ _ (below_both BW.out BWR.out)⟩
                  clear hlt hj hD hB5
                  by_cases hz : t.defects = []
                  · have hTD : Hid (t.told = t.walk ∧ t.defects = []) := ⟨by unfold Tour.told; rw [if_pos hz], hz⟩
                    have hn0 : t.defects.length = 0 := by rw [hz]; rfl
                    obtain ⟨d0, hd0⟩ : ∃ d, d = t.defects.length := ⟨_, rfl⟩
                    have HD0 := Lib.hid hd0
                    rw [← hd0] at hn0 ⊢
                    subst hn0
                    clear hz hd0
                    have hXl := HX.out.2.1
                    have hXo := HX.out.2.2
                    go_upto_region 29 with fail
                    refine wp_region_lit ?_
                    go_wp2_with (first | refine wpList_load_v rfl 99 (.tmp 10) rfl _ rfl tywalk AG.out hXl ?_ | refine wpList_store_v rfl 99 (.tmp 4) (.tmp 156) rfl _ rfl tywalk A4'.out rfl X hXl hXo rfl ?_ | fail)
                    exact bodyPost_ret (v := .tuple #[.agg X.toArray, .slice none 0 0]) (res_cell_tmp Tryz.results61 rfl ((A4'.out.store X (by rw [hXl]; rfl)).loadVar tywalk hXl) rfl) rfl
                      ⟨_, by rw [hTD.out.1, HX.out.1], by rw [hTD.out.2]; exact ⟨none, 0, rfl, Nat.le_refl _, fun i x h => by simp at h⟩, (HGG.out X).2, fun _ => rfl⟩
                  · have hTD : Hid (t.told = walkZ) := by show t.told = _; unfold Tour.told; rw [if_neg hz]
                    obtain ⟨d0, hd0⟩ : ∃ d, d = t.defects.length := ⟨_, rfl⟩
                    have hn0 : 0 < d0 := by rw [hd0]; exact List.length_pos_iff.2 hz
                    have hn0I : (0 : Int) < (d0 : Int) := Int.ofNat_lt.2 hn0
                    have HD0 := Lib.hid hd0
                    obtain ⟨Z, hZ⟩ : ∃ Z, Z = walkZ := ⟨_, rfl⟩
                    have hlit : (#[.int .i64 0, .int .i64 0, .int .i64 0, .int .i64 0, .int .i64 0] : Array Value) = Z.toArray := by rw [hZ]; rfl
                    have hZl : Z.length = 5 := by rw [hZ]; rfl
                    have hZo : ∀ v ∈ Z, v.oneCell' = true := by rw [hZ]; exact walkZ_one.2
                    have HZ := Lib.hid hZ
                    rw [← hd0]
                    clear hz hd0 hn0 hZ
                    go_wp2_with (first | refine wpList_store_v rfl 99 (.tmp 4) (.tmp 154) rfl _ rfl tywalk A4'.out rfl Z hZl hZo rfl ?_ | fail)
                    exact bodyPost_ret (v := .tuple #[.agg Z.toArray, .slice A9 d0 c9]) (res_cell_tmp Tryz.results61 rfl ((A4'.out.store Z (by rw [hZl]; rfl)).loadVar tywalk hZl) rfl) rfl
                      ⟨_, by rw [hTD.out, HZ.out], by rw [HD0.out]; exact (HGG.out Z).1, (HGG.out Z).2, fun h => absurd hn0I (by rw [HD0.out, h]; decide)⟩
theorem rexgo_any (k : Int) (A : Option Addr) (n c : Nat) (bs : List Nat) (w : World) (hc : n ≤ c) (hc2 : n ≤ 140737488351232) (hR : Row w A n bs) :
    Calls Tryz.prog 61 #[.int .i64 k, .slice A n c] w (GoIs w (walkS n bs 9 (Tour.start k) []).1) :=
  (rexgo_nil k A n c bs w hc hc2 hR).mono fun e w' h => by
    obtain ⟨v, h1, h2, h3, _⟩ := h
    exact ⟨v, h1, h2, h3⟩
end Go.Proofs.YtmchclpkjjmocaaGreat
