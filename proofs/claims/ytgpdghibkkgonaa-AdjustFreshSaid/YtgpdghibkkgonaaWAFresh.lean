/-
  The walk of the statement AdjustFresh.
-/
import Derived.Test.YtgpdghibkkgonaaLive4
import Derived.Test.YtgpdghibkkgonaaApp
import Derived.Test.YtgpdghibkkgonaaOne4
import Derived.Test.YtgpdghibkkgonaaOPlain4
import Derived.Test.YtgpdghibkkgonaaWFills
namespace Go.Proofs.Ytgpdghibkkgonaa
open Go.RowKit
set_option linter.unusedVariables false

/-- Two bytes lie in block g. -/
def DuoB (W : World) (g : Nat) (a b : Int) : Prop := W.cell? ⟨g, 0, none⟩ = some (.int .u8 a) ∧ W.cell? ⟨g, 1, none⟩ = some (.int .u8 b)
theorem DuoB.new (w : World) (a b : Int) : DuoB (w.alloc (.cells #[.int .u8 a, .int .u8 b] 52)) w.heap.size a b :=
  ⟨cell_of_row _ w.heap.size 0 _ _ _ (heap_alloc_new w _), cell_of_row _ w.heap.size 1 _ _ _ (heap_alloc_new w _)⟩
theorem DuoB.below {w w' : World} {g : Nat} {a b : Int} (h : DuoB w g a b) (hb : Below w.heap.size w w') : DuoB w' g a b := ⟨(hb.cell (cell_lt h.1)).trans h.1, (hb.cell (cell_lt h.2)).trans h.2⟩
theorem DuoB.belowN {B : Nat} {w w' : World} {g : Nat} {a b : Int} (h : DuoB w g a b) (hb : Below B w w') (hg : g < B) : DuoB w' g a b := ⟨(hb.cell (p := ⟨g, 0, none⟩) hg).trans h.1, (hb.cell (p := ⟨g, 1, none⟩) hg).trans h.2⟩

/-- The bytes that are filled: at least six, the first one 7. -/
structure FreshL (n T m : Nat) (L : List Nat) : Prop where
  len : L.length = m
  byte : ∀ x ∈ L, x < 256
  head : L.getD 0 0 = 7
  lo : n + 1 ≤ m
  hi : m ≤ T
theorem FreshL.more {n T m : Nat} {L : List Nat} (h : FreshL n T m L) (hm : m < T) : FreshL n T (m + 1) (L ++ [0]) where
  len := by simp [h.len]
  byte := fun x hx => by
    rcases List.mem_append.1 hx with hx | hx
    · exact h.byte x hx
    · have : x = 0 := by simpa using hx
      omega
  head := by
    have h1 := h.len
    have h2 := h.lo
    have h3 := h.head
    rw [List.getD_eq_getElem?_getD, List.getElem?_append_left (by omega), ← List.getD_eq_getElem?_getD]
    exact h3
  lo := by have := h.lo; omega
  hi := hm
def sliceLen : Value → Nat
  | .slice _ n _ => n
  | _ => 0

theorem OutIs.rowAt {B g n c : Nat} {w : World} {bs : List Nat} (h : OutIs B w (.slice (some ⟨g, 0, none⟩) n c) bs) (hn : bs.length = n) (h0 : 0 < n) (hb : ∀ x ∈ bs, x < 256) : Row w (some ⟨g, 0, none⟩) n bs ∧ n ≤ c := by
  refine ⟨Row.mk hn hb fun i hi => by rw [Nat.zero_add]; exact h.cell hn i hi, ?_⟩
  obtain ⟨g', c', e, _, h1, _⟩ := h.block (by omega)
  injection e with e1 e2 e3
  omega
/-- Good bytes, the first one 7. -/
structure FreshX (n : Nat) (X : List Nat) : Prop where
  len : X.length = n
  byte : ∀ x ∈ X, x < 256
  head : X.getD 0 0 ≠ 0
  good : orest (wsum 0 X) = 65535
theorem FreshX.filled {n T m : Nat} {L : List Nat} (h : FreshL n T m L) {f : Nat} (hf : f % 2 = 0) (hfn : f + 2 ≤ m) (hf0 : 0 < f) : FreshX m (filled L f) where
  len := by rw [filled_length (by rw [h.len]; exact hfn)]; exact h.len
  byte := filled_byte h.byte
  head := by rw [filled_head L f hf (by rw [h.len]; exact hfn) hf0, h.head]; decide
  good := filled_good hf (by rw [h.len]; exact hfn)
theorem set_two {X : List Nat} {f : Nat} (hn : f + 2 ≤ X.length) (x y : Nat) : (X.set f x).set (f + 1) y = splice X f [x, y] := by
  have h1 := splice_take (bs := X) (l := [x, y]) (a := f) (k := 0) (by simpa using hn) (by simp)
  have h2 := splice_take (bs := X) (l := [x, y]) (a := f) (k := 1) (by simpa using hn) (by simp)
  simp [splice_nil] at h1 h2
  rw [h1, h2]
theorem FreshX.ones {n : Nat} {X : List Nat} (h : FreshX n X) {f : Nat} (hf : f % 2 = 0) (hfn : f + 2 ≤ n) (hf0 : 0 < f) (z0 : X.getD f 0 = 0) (z1 : X.getD (f + 1) 0 = 0) : FreshX n ((X.set f 255).set (f + 1) 255) := by
  have hn : f + 2 ≤ X.length := by rw [h.len]; exact hfn
  rw [set_two hn, show [255, 255] = pb 65535 2 from by rw [pb_two]]
  refine ⟨by rw [splice_two_length hn]; exact h.len, splice_byte h.byte (pb_byte _ _), by rw [byte_other hn (.inl hf0)]; exact h.head, ?_⟩
  have e1 := wat_split hf hn
  have e2 : wat X f = 0 := by unfold wat; rw [z0, z1]
  have e3 := h.good
  rw [e1, e2] at e3
  rw [wsum_put hf hn (by decide)]
  have := (orest_full _).1 e3
  rw [orest_full]
  omega

set_option maxRecDepth 10000 in
set_option maxHeartbeats 3200000 in
theorem walk_AdjustFresh (a0 : Option Addr) (len0 cap0 : Nat) (bs0 : List Nat) (zs1 : List Int) (v : Nat) (w : World) (R0 : Row w a0 len0 bs0) (hl0 : len0 ≤ cap0) (hc0 : cap0 ≤ 140737488351232)
    (hn1 : zs1.length = 2) (hz1 : ∀ z ∈ zs1, (Lit.int .u8 z).wf = true) (hv : v ≤ 65535) :
    Calls Try.prog 11 #[.slice a0 len0 cap0, .agg (zs1.map (Value.int .u8)).toArray, .int .u16 v] w fun e w' => e = .returned (.bool true) ∧ Below w.heap.size w w' := by
  obtain ⟨z1, z2, rfl⟩ := two_ints hn1
  obtain ⟨p, rfl, hp⟩ := nat_u8 (hz1 _ (List.mem_cons_self ..))
  obtain ⟨q, rfl, hq⟩ := nat_u8 (hz1 _ (List.mem_cons_of_mem _ (List.mem_cons_self ..)))
  obtain ⟨T, hT1, hT2, hT3, hT4⟩ : ∃ T, T % 2 = 0 ∧ 6 ≤ T ∧ len0 + 1 ≤ T ∧ T ≤ len0 + 7 := by
    rcases Nat.lt_or_ge (len0 + 1) 6 with h | h
    · exact ⟨6, rfl, Nat.le_refl _, by omega, by omega⟩
    · exact ⟨len0 + 1 + (len0 + 1) % 2, by omega, by omega, by omega, by omega⟩
  have HR := Lib.hid R0
  have D0 := Lib.hid (DuoB.new w (p : Int) (q : Int))
  have BB := Lib.hid ((Below.refl w.heap.size w).alloc (Nat.le_refl _) (.cells #[.int .u8 p, .int .u8 q] 52))
  show Calls Try.prog 11 #[.slice a0 len0 cap0, .agg #[.int .u8 p, .int .u8 q], .int .u16 v] w fun e w' => e = .returned (.bool true) ∧ Below w.heap.size w w'
  have O1 : Hid (OutIs (w.heap.size + 1) ((w.alloc (.cells #[.int .u8 p, .int .u8 q] 52)).alloc (.cells #[.int .u8 7] 5)) (.slice (some ⟨w.heap.size + 1, 0, none⟩) 1 1) [7]) := by
    have h := OutIs.laid (w.alloc (.cells #[.int .u8 p, .int .u8 q] 52)) [7] (w.heap.size + 1) (by simp) (by decide)
    rw [World.size_alloc] at h
    exact h
  have HH : Hid (FreshL len0 T (len0 + 1) ([7] ++ bs0)) := by
    have h1 := R0.len
    refine ⟨by simp [h1], fun x hx => ?_, rfl, Nat.le_refl _, hT3⟩
    rcases List.mem_append.1 hx with hx | hx
    · have : x = 7 := by simpa using hx
      omega
    · exact R0.2.1 x hx
  clear hn1 hz1 R0
  go_enter Try.func11, Try.ntmps11
  go_wp2_with (at_builtin; refine wpList_append_row_any (B := w.heap.size + 1) (W := w.alloc (.cells #[.int .u8 p, .int .u8 q] 52)) rfl (.tmp 17) (.tmp 18) rfl rfl rfl rfl O1.out ((HR.out.alloc _).alloc _) ((Below.refl _ _).alloc (by simp) _) (by simp) (by simp; omega) ?_; intro v1 w1 ho1 hb1)
  have hb0 : Below w.heap.size w w1 := ((Below.refl w.heap.size w).alloc (Nat.le_refl _) _).trans (hb1.mono (by simp))
  have hd1 : DuoB w1 w.heap.size p q := D0.out.belowN hb1 (by simp)
  obtain ⟨g1, c1, rfl, hg1, hc1, _⟩ := ho1.block (by simp)
  rw [HH.out.len] at ho1 ⊢
  have HO := Lib.hid ho1
  have HB := Lib.hid hb0
  have HD := Lib.hid hd1
  clear ho1 hb0 hd1 hb1 hg1 hc1 O1 BB D0
  go_wp2_with fail
  go_loopw [7] (fun u wr => ∃ (g c m : Nat) (L : List Nat), u = .slice (some ⟨g, 0, none⟩) m c ∧ Hid (FreshL len0 T m L) ∧ OutIs (w.heap.size + 1) wr u L ∧ DuoB wr w.heap.size p q ∧ Below w.heap.size w wr) (fun u _ => T - sliceLen u)
  case atStart => exact ⟨g1, c1, _, _, rfl, HH.out, HO.out, HD.out, HB.out⟩
  case round =>
    clear HO HB HD HH
    obtain ⟨g, c, m, L, rfl, hL, ho, hd, hb⟩ := hrel
    have HO := Lib.hid ho
    have HD := Lib.hid hd
    have HB := Lib.hid hb
    clear ho hd hb
    have m1 := hL.out.lo
    have m2 := hL.out.hi
    by_cases hgo : m < 6 ∨ m % 2 ≠ 0
    · have hmT : m < T := by omega
      have HBB : Hid (w.heap.size + 1 ≤ wr.heap.size) := by
        have h := World.ownsRow.lt HO.out g rfl
        show w.heap.size + 1 ≤ wr.heap.size
        omega
      by_cases h6 : m < 6
      · have h6i : (m : Int) < 6 := by omega
        go_wp2_with (at_builtin; refine wpList_append_bytes (B := w.heap.size + 1) (W := wr) rfl (.tmp 29) (.tmp 30) rfl (news := [0]) #[.int .u8 0] 1 rfl rfl rfl rfl HO.out (Below.refl _ _) HBB.out (by rw [hL.out.len]; omega) ?_; intro v' w' ho' hb')
        obtain ⟨g', c', rfl, hg', hc', _⟩ := ho'.block (by simp)
        rw [List.length_append, hL.out.len] at ho' ⊢
        go_roundw
        case rel => exact ⟨g', c', m + 1, L ++ [0], rfl, hL.out.more hmT, ho', HD.out.belowN hb' (by omega), HB.out.trans (hb'.mono (by omega))⟩
        case measure => simp [sliceLen]; omega
      · have h6i : (6 : Int) ≤ (m : Int) := by omega
        have qm : ((m : Int) % 2 != 0) = true := by rw [bne_iff_ne]; omega
        go_wp2_with (at_builtin; refine wpList_append_bytes (B := w.heap.size + 1) (W := wr) rfl (.tmp 29) (.tmp 30) rfl (news := [0]) #[.int .u8 0] 1 rfl rfl rfl rfl HO.out (Below.refl _ _) HBB.out (by rw [hL.out.len]; omega) ?_; intro v' w' ho' hb')
        obtain ⟨g', c', rfl, hg', hc', _⟩ := ho'.block (by simp)
        rw [List.length_append, hL.out.len] at ho' ⊢
        go_roundw
        case rel => exact ⟨g', c', m + 1, L ++ [0], rfl, hL.out.more hmT, ho', HD.out.belowN hb' (by omega), HB.out.trans (hb'.mono (by omega))⟩
        case measure => simp [sliceLen]; omega
    · have h6 : 6 ≤ m := by omega
      have h6i : (6 : Int) ≤ (m : Int) := by omega
      have qm : ((m : Int) % 2 != 0) = false := by rw [bne_eq_false_iff_eq]; omega
      obtain ⟨d, hmd⟩ : ∃ d, m = 2 * (d + 1) := ⟨m / 2 - 1, by omega⟩
      have hd2 : 2 ≤ d := by omega
      have hdi : (0 : Int) < (d : Int) := by omega
      subst hmd
      obtain ⟨f, hf⟩ : ∃ f, f = 2 + 2 * (p % d) := ⟨_, rfl⟩
      obtain ⟨a, ha⟩ : ∃ a, a = 2 + 2 * (q % d) := ⟨_, rfl⟩
      have hpd : p % d < d := Nat.mod_lt _ (by omega)
      have hqd : q % d < d := Nat.mod_lt _ (by omega)
      have wf : wrap64 (2 + wrap64 (2 * ((p : Int) % (d : Int)))) = (f : Int) := by
        have e1 : wrap64 (2 * ((p % d : Nat) : Int)) = 2 * ((p % d : Nat) : Int) := IntWalk.wrap64_in _ ⟨by omega, by omega⟩
        rw [show (p : Int) % (d : Int) = ((p % d : Nat) : Int) from by simp, e1, IntWalk.wrap64_in _ ⟨by omega, by omega⟩]
        omega
      have wa : wrap64 (2 + wrap64 (2 * ((q : Int) % (d : Int)))) = (a : Int) := by
        have e1 : wrap64 (2 * ((q % d : Nat) : Int)) = 2 * ((q % d : Nat) : Int) := IntWalk.wrap64_in _ ⟨by omega, by omega⟩
        rw [show (q : Int) % (d : Int) = ((q % d : Nat) : Int) from by simp, e1, IntWalk.wrap64_in _ ⟨by omega, by omega⟩]
        omega
      clear h6 qm hgo h6i
      have h6i : (6 : Int) ≤ 2 * ((d : Int) + 1) := by omega
      obtain ⟨c0, c1⟩ := HD.out
      by_cases hfa : f = a
      · have qfa : ((f : Int) == (a : Int)) = true := by rw [beq_iff_eq]; omega
        clear hf ha hfa hpd hqd
        go_wp2_with fail
        refine (live4 _).mono ?_
        rintro e w3 ⟨rfl, b3⟩
        have BB := Lib.hid (below_both HB.out b3)
        clear b3
        go_wp2_with fail
        go_ret
        exact ⟨rfl, BB.out⟩
      · have qfa : ((f : Int) == (a : Int)) = false := by rw [beq_eq_false_iff_ne]; omega
        have HF : Hid (f % 2 = 0 ∧ a % 2 = 0 ∧ f ≠ a ∧ f + 2 ≤ 2 * (d + 1) ∧ a + 2 ≤ 2 * (d + 1) ∧ 0 < f ∧ 0 < a) := ⟨by omega, by omega, hfa, by omega, by omega, by omega, by omega⟩
        clear hf ha hfa hpd hqd
        obtain ⟨hR, hmc⟩ := HO.out.rowAt hL.out.len (by omega) hL.out.byte
        have hXX := FreshX.filled hL.out HF.out.1 HF.out.2.2.2.1 HF.out.2.2.2.2.2.1
        have C1 := Lib.hid (ofill_own (some ⟨g, 0, none⟩) (2 * (d + 1)) c f L wr hmc (by omega) HF.out.1 HF.out.2.2.2.1 hR)
        generalize filled L f = X at *
        have HX := Lib.hid hXX
        have hfi : (0 : Int) ≤ (f : Int) ∧ (f : Int) + 2 ≤ 2 * ((d : Int) + 1) := by have := HF.out.2.2.2.1; omega
        clear hR hXX
        go_wp2_with fail
        refine C1.out.mono ?_
        rintro e w2 ⟨g2, hg2, rfl, ho2, b2⟩
        rw [HX.out.len]
        have HO2 := Lib.hid ho2
        have HD := Lib.hid (HD.out.below b2)
        have HB2 := Lib.hid (Nat.le_trans HB.out.size hg2)
        have HB := Lib.hid (below_both HB.out b2)
        clear ho2 b2 hg2 c0 c1 C1
        obtain ⟨c0, c1⟩ := HD.out
        obtain ⟨x0, hx0⟩ : ∃ x, x = X.getD f 0 := ⟨_, rfl⟩
        obtain ⟨x1, hx1⟩ : ∃ x, x = X.getD (f + 1) 0 := ⟨_, rfl⟩
        have d0 := HO2.out.cell f (by rw [HX.out.len]; have := HF.out.2.2.2.1; omega)
        have d1 := HO2.out.cell (f + 1) (by rw [HX.out.len]; have := HF.out.2.2.2.1; omega)
        have f0 := HO2.out.frozen f
        have f1 := HO2.out.frozen (f + 1)
        rw [← hx0] at d0
        rw [← hx1] at d1
        have HX0 := Lib.hid hx0
        have HX1 := Lib.hid hx1
        have hc : (p % 3 ≠ 0) ∨ (p % 3 = 0 ∧ x0 ≠ 0) ∨ (p % 3 = 0 ∧ x0 = 0 ∧ x1 ≠ 0) ∨ (p % 3 = 0 ∧ x0 = 0 ∧ x1 = 0) := by omega
        clear hx0 hx1
        have CA : Hid (∀ (wz : World) (Y : List Nat), FreshX (2 * (d + 1)) Y → Own wz g2 Y → Calls Try.prog 49 #[.slice (some ⟨g2, 0, none⟩) (2 * (d + 1)) (2 * (d + 1)), .int .i64 f, .int .i64 a, .int .u16 v] wz (fun e w' => TwoTo wz (adjAt Y f a v) 0 e w' ∧
            (adjAt Y f a v).length = 2 * (d + 1) ∧ (∀ x ∈ adjAt Y f a v, x < 256) ∧ orest (wsum 0 (adjAt Y f a v)) = 65535 ∧ filled (adjAt Y f a v) f = adjAt Y f a v)) := fun wz Y hY hO => by
          have hR := hO.row hY.byte
          rw [hY.len] at hR
          have hF := HF.out
          have hfr := adjAt_fresh Y hY.byte f a v hF.1 hF.2.1 hF.2.2.1 (by rw [hY.len]; exact hF.2.2.2.1) (by rw [hY.len]; exact hF.2.2.2.2.1) hF.2.2.2.2.2.1 hF.2.2.2.2.2.2 hY.head hv hY.good
          refine (at_ok (some ⟨g2, 0, none⟩) (2 * (d + 1)) (2 * (d + 1)) f a v Y wz (by omega) (Nat.le_refl _) hF.1 hF.2.1 hF.2.2.1 hF.2.2.2.1 hF.2.2.2.2.1 hv hR).mono fun e w' h => ⟨h, ?_, adjAt_byte Y f a v hY.byte, hfr.1, hfr.2⟩
          rw [adjAt_length Y f a v (by rw [hY.len]; exact hF.2.2.2.1) (by rw [hY.len]; exact hF.2.2.2.2.1), hY.len]
        have HDN : Hid (2 * (d + 1) ≤ 140737488355328) := (by omega : 2 * (d + 1) ≤ 140737488355328)
        rcases hc with h1 | ⟨h1, h2⟩ | ⟨h1, h2, h3⟩ | ⟨h1, h2, h3⟩
        · have q1 : ((p : Int) % 3 == 0) = false := by rw [beq_eq_false_iff_ne]; omega
          go_wp2_with fail
          refine (CA.out _ X HX.out HO2.out).mono ?_
          have HBZ := HB
          clear d0 d1 f0 f1 q1 HO2 HX HX0 HX1 HB CA h1
          rintro e w3 ⟨⟨vy, rfl, hvy, b3⟩, hyl, hyb, hyg, hyf⟩
          have VY := Lib.hid hvy
          have BB := Lib.hid (below_both HBZ.out b3)
          have HYL := Lib.hid (hyl.trans rfl)
          clear hvy b3 HBZ c0 c1
          generalize adjAt _ f a v = Y at *
          obtain ⟨A3, c3, rfl, hc3, hr3⟩ := VY.out
          rw [hyl] at hc3 hr3 ⊢
          have HR3 := Lib.hid hr3
          have CG := Lib.hid (fun w' (hb : Below w3.heap.size w3 w') => ogood_any A3 (2 * (d + 1)) c3 Y true w' HDN.out (hr3.below hb) (decide_eq_true hyg))
          have CF : Hid (∀ w', Below w3.heap.size w3 w' → Calls Try.prog 39 #[.slice A3 (2 * (d + 1)) c3, .int .i64 f] w' (TwoTo w' Y 0)) := fun w' hb => by
            have h := ofill_ok A3 (2 * (d + 1)) c3 f Y w' hc3 HDN.out HF.out.1 HF.out.2.2.2.1 (hr3.below hb)
            rw [hyf] at h
            exact h
          have HYL2 : Hid (Y.length ≤ 9223372036854775807) := by
            have := HDN.out
            exact (by omega : Y.length ≤ 9223372036854775807)
          clear hyl hyb hyg hyf hc3 hr3
          go_wp2_with fail
          refine (CG.out _ (Below.refl _ _)).mono ?_
          rintro e w4 ⟨rfl, b4⟩
          have VY := Lib.hid (VY.out.below b4)
          have B4 := Lib.hid b4
          have BB := Lib.hid (below_both BB.out b4)
          clear b4
          go_wp2_with fail
          refine (CF.out _ B4.out).mono ?_
          rintro e w5 ⟨vz, rfl, hvz, b5⟩
          have VY := Lib.hid (VY.out.below b5)
          have VZ := Lib.hid hvz
          have BB := Lib.hid (below_both BB.out b5)
          clear hvz b5 B4
          go_wp2_with fail
          refine (live4 _).mono ?_
          rintro e w6 ⟨rfl, b6⟩
          have VY := Lib.hid (VY.out.below b6)
          have VZ := Lib.hid (VZ.out.below b6)
          have BB := Lib.hid (below_both BB.out b6)
          clear b6
          rw [HYL.out] at VY
          go_wp2_with fail
          refine (same_vals _ _ Y _ HYL2.out VY.out VZ.out).mono ?_
          rintro e w7 ⟨rfl, b7⟩
          have BB := Lib.hid (below_both BB.out b7)
          clear b7
          go_wp2_with fail
          go_ret
          exact ⟨rfl, BB.out⟩
        · have q1 : ((p : Int) % 3 == 0) = true := by rw [beq_iff_eq]; omega
          have q2 : ((x0 : Int) == 0) = false := by rw [beq_eq_false_iff_ne]; omega
          go_wp2_with fail
          refine (CA.out _ X HX.out HO2.out).mono ?_
          have HBZ := HB
          clear d0 d1 f0 f1 q1 HO2 HX HX0 HX1 HB CA h1
          rintro e w3 ⟨⟨vy, rfl, hvy, b3⟩, hyl, hyb, hyg, hyf⟩
          have VY := Lib.hid hvy
          have BB := Lib.hid (below_both HBZ.out b3)
          have HYL := Lib.hid (hyl.trans rfl)
          clear hvy b3 HBZ c0 c1
          generalize adjAt _ f a v = Y at *
          obtain ⟨A3, c3, rfl, hc3, hr3⟩ := VY.out
          rw [hyl] at hc3 hr3 ⊢
          have HR3 := Lib.hid hr3
          have CG := Lib.hid (fun w' (hb : Below w3.heap.size w3 w') => ogood_any A3 (2 * (d + 1)) c3 Y true w' HDN.out (hr3.below hb) (decide_eq_true hyg))
          have CF : Hid (∀ w', Below w3.heap.size w3 w' → Calls Try.prog 39 #[.slice A3 (2 * (d + 1)) c3, .int .i64 f] w' (TwoTo w' Y 0)) := fun w' hb => by
            have h := ofill_ok A3 (2 * (d + 1)) c3 f Y w' hc3 HDN.out HF.out.1 HF.out.2.2.2.1 (hr3.below hb)
            rw [hyf] at h
            exact h
          have HYL2 : Hid (Y.length ≤ 9223372036854775807) := by
            have := HDN.out
            exact (by omega : Y.length ≤ 9223372036854775807)
          clear hyl hyb hyg hyf hc3 hr3
          go_wp2_with fail
          refine (CG.out _ (Below.refl _ _)).mono ?_
          rintro e w4 ⟨rfl, b4⟩
          have VY := Lib.hid (VY.out.below b4)
          have B4 := Lib.hid b4
          have BB := Lib.hid (below_both BB.out b4)
          clear b4
          go_wp2_with fail
          refine (CF.out _ B4.out).mono ?_
          rintro e w5 ⟨vz, rfl, hvz, b5⟩
          have VY := Lib.hid (VY.out.below b5)
          have VZ := Lib.hid hvz
          have BB := Lib.hid (below_both BB.out b5)
          clear hvz b5 B4
          go_wp2_with fail
          refine (live4 _).mono ?_
          rintro e w6 ⟨rfl, b6⟩
          have VY := Lib.hid (VY.out.below b6)
          have VZ := Lib.hid (VZ.out.below b6)
          have BB := Lib.hid (below_both BB.out b6)
          clear b6
          rw [HYL.out] at VY
          go_wp2_with fail
          refine (same_vals _ _ Y _ HYL2.out VY.out VZ.out).mono ?_
          rintro e w7 ⟨rfl, b7⟩
          have BB := Lib.hid (below_both BB.out b7)
          clear b7
          go_wp2_with fail
          go_ret
          exact ⟨rfl, BB.out⟩
        · have q1 : ((p : Int) % 3 == 0) = true := by rw [beq_iff_eq]; omega
          have q3 : ((x1 : Int) == 0) = false := by rw [beq_eq_false_iff_ne]; omega
          subst h2
          simp at d0
          go_wp2_with fail
          refine (CA.out _ X HX.out HO2.out).mono ?_
          have HBZ := HB
          clear d0 d1 f0 f1 q1 HO2 HX HX0 HX1 HB CA h1
          rintro e w3 ⟨⟨vy, rfl, hvy, b3⟩, hyl, hyb, hyg, hyf⟩
          have VY := Lib.hid hvy
          have BB := Lib.hid (below_both HBZ.out b3)
          have HYL := Lib.hid (hyl.trans rfl)
          clear hvy b3 HBZ c0 c1
          generalize adjAt _ f a v = Y at *
          obtain ⟨A3, c3, rfl, hc3, hr3⟩ := VY.out
          rw [hyl] at hc3 hr3 ⊢
          have HR3 := Lib.hid hr3
          have CG := Lib.hid (fun w' (hb : Below w3.heap.size w3 w') => ogood_any A3 (2 * (d + 1)) c3 Y true w' HDN.out (hr3.below hb) (decide_eq_true hyg))
          have CF : Hid (∀ w', Below w3.heap.size w3 w' → Calls Try.prog 39 #[.slice A3 (2 * (d + 1)) c3, .int .i64 f] w' (TwoTo w' Y 0)) := fun w' hb => by
            have h := ofill_ok A3 (2 * (d + 1)) c3 f Y w' hc3 HDN.out HF.out.1 HF.out.2.2.2.1 (hr3.below hb)
            rw [hyf] at h
            exact h
          have HYL2 : Hid (Y.length ≤ 9223372036854775807) := by
            have := HDN.out
            exact (by omega : Y.length ≤ 9223372036854775807)
          clear hyl hyb hyg hyf hc3 hr3
          go_wp2_with fail
          refine (CG.out _ (Below.refl _ _)).mono ?_
          rintro e w4 ⟨rfl, b4⟩
          have VY := Lib.hid (VY.out.below b4)
          have B4 := Lib.hid b4
          have BB := Lib.hid (below_both BB.out b4)
          clear b4
          go_wp2_with fail
          refine (CF.out _ B4.out).mono ?_
          rintro e w5 ⟨vz, rfl, hvz, b5⟩
          have VY := Lib.hid (VY.out.below b5)
          have VZ := Lib.hid hvz
          have BB := Lib.hid (below_both BB.out b5)
          clear hvz b5 B4
          go_wp2_with fail
          refine (live4 _).mono ?_
          rintro e w6 ⟨rfl, b6⟩
          have VY := Lib.hid (VY.out.below b6)
          have VZ := Lib.hid (VZ.out.below b6)
          have BB := Lib.hid (below_both BB.out b6)
          clear b6
          rw [HYL.out] at VY
          go_wp2_with fail
          refine (same_vals _ _ Y _ HYL2.out VY.out VZ.out).mono ?_
          rintro e w7 ⟨rfl, b7⟩
          have BB := Lib.hid (below_both BB.out b7)
          clear b7
          go_wp2_with fail
          go_ret
          exact ⟨rfl, BB.out⟩
        · have q1 : ((p : Int) % 3 == 0) = true := by rw [beq_iff_eq]; omega
          subst h2 h3
          have HO3 := Lib.hid ((HO2.out.set f 255).set (f + 1) 255)
          have HX3 := Lib.hid (HX.out.ones HF.out.1 HF.out.2.2.2.1 HF.out.2.2.2.2.2.1 HX0.out.symm HX1.out.symm)
          have HBZ := Lib.hid ((HB.out.setCell (p := ⟨g2, f, none⟩) HB2.out (.int .u8 255)).setCell (p := ⟨g2, f + 1, none⟩) HB2.out (.int .u8 255))
          simp at d0 d1
          go_wp2_with fail
          refine (CA.out _ _ HX3.out HO3.out).mono ?_
          clear HO3 HX3
          clear d0 d1 f0 f1 q1 HO2 HX HX0 HX1 HB CA h1
          rintro e w3 ⟨⟨vy, rfl, hvy, b3⟩, hyl, hyb, hyg, hyf⟩
          have VY := Lib.hid hvy
          have BB := Lib.hid (below_both HBZ.out b3)
          have HYL := Lib.hid (hyl.trans rfl)
          clear hvy b3 HBZ c0 c1
          generalize adjAt _ f a v = Y at *
          obtain ⟨A3, c3, rfl, hc3, hr3⟩ := VY.out
          rw [hyl] at hc3 hr3 ⊢
          have HR3 := Lib.hid hr3
          have CG := Lib.hid (fun w' (hb : Below w3.heap.size w3 w') => ogood_any A3 (2 * (d + 1)) c3 Y true w' HDN.out (hr3.below hb) (decide_eq_true hyg))
          have CF : Hid (∀ w', Below w3.heap.size w3 w' → Calls Try.prog 39 #[.slice A3 (2 * (d + 1)) c3, .int .i64 f] w' (TwoTo w' Y 0)) := fun w' hb => by
            have h := ofill_ok A3 (2 * (d + 1)) c3 f Y w' hc3 HDN.out HF.out.1 HF.out.2.2.2.1 (hr3.below hb)
            rw [hyf] at h
            exact h
          have HYL2 : Hid (Y.length ≤ 9223372036854775807) := by
            have := HDN.out
            exact (by omega : Y.length ≤ 9223372036854775807)
          clear hyl hyb hyg hyf hc3 hr3
          go_wp2_with fail
          refine (CG.out _ (Below.refl _ _)).mono ?_
          rintro e w4 ⟨rfl, b4⟩
          have VY := Lib.hid (VY.out.below b4)
          have B4 := Lib.hid b4
          have BB := Lib.hid (below_both BB.out b4)
          clear b4
          go_wp2_with fail
          refine (CF.out _ B4.out).mono ?_
          rintro e w5 ⟨vz, rfl, hvz, b5⟩
          have VY := Lib.hid (VY.out.below b5)
          have VZ := Lib.hid hvz
          have BB := Lib.hid (below_both BB.out b5)
          clear hvz b5 B4
          go_wp2_with fail
          refine (live4 _).mono ?_
          rintro e w6 ⟨rfl, b6⟩
          have VY := Lib.hid (VY.out.below b6)
          have VZ := Lib.hid (VZ.out.below b6)
          have BB := Lib.hid (below_both BB.out b6)
          clear b6
          rw [HYL.out] at VY
          go_wp2_with fail
          refine (same_vals _ _ Y _ HYL2.out VY.out VZ.out).mono ?_
          rintro e w7 ⟨rfl, b7⟩
          have BB := Lib.hid (below_both BB.out b7)
          clear b7
          go_wp2_with fail
          go_ret
          exact ⟨rfl, BB.out⟩
end Go.Proofs.Ytgpdghibkkgonaa
