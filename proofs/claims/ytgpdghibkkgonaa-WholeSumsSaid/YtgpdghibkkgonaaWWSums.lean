/-
  The walk of the statement WholeSums.
-/
import Derived.Test.YtgpdghibkkgonaaWAFresh
namespace Go.Proofs.Ytgpdghibkkgonaa
open Go.RowKit
set_option linter.unusedVariables false

theorem FreshX.fill {n : Nat} {L : List Nat} (hl : L.length = n) (hb : ∀ x ∈ L, x < 256) (hh : L.getD 0 0 ≠ 0) {f : Nat} (hf : f % 2 = 0) (hfn : f + 2 ≤ n) (hf0 : 0 < f) : FreshX n (Proofs.Ytgpdghibkkgonaa.filled L f) where
  len := by rw [filled_length (by rw [hl]; exact hfn)]; exact hl
  byte := filled_byte hb
  head := by rw [filled_head L f hf (by rw [hl]; exact hfn) hf0]; exact hh
  good := filled_good hf (by rw [hl]; exact hfn)
theorem add_one (w : World) : Calls Try.prog 32 #[.int .u16 65535, .int .u16 1] w fun e w' => e = .returned (.int .u16 1) ∧ w = w' := oadd_any 65535 1 w (by decide) (by decide)
/-- The bytes that are filled: an even number, the first one 69. -/
structure EvenL (n m : Nat) (L : List Nat) : Prop where
  len : L.length = m
  byte : ∀ x ∈ L, x < 256
  head : L.getD 0 0 = 69
  even : m % 2 = 0
  lo : n + 4 ≤ m
  hi : m ≤ n + 5

set_option maxRecDepth 200000 in
set_option maxHeartbeats 3200000 in
/-- The rest of the statement, behind the filled bytes. -/
theorem walk_WholeSums (a0 : Option Addr) (len0 cap0 : Nat) (bs0 : List Nat) (a1 : Option Addr) (len1 cap1 : Nat) (bs1 : List Nat) (a2 : Option Addr) (len2 cap2 : Nat) (ws2 : List Nat) (w : World)
    (R0 : Row w a0 len0 bs0) (hl0 : len0 ≤ cap0) (hc0 : cap0 ≤ 140737488351232) (R1 : Row w a1 len1 bs1) (hl1 : len1 ≤ cap1) (hc1 : cap1 ≤ 140737488351232) (R2 : Row16 w a2 len2 ws2) (hl2 : len2 ≤ cap2) (hc2 : cap2 ≤ 70368744175616) :
    Calls Try.prog 14 #[.slice a0 len0 cap0, .slice a1 len1 cap1, .slice a2 len2 cap2] w fun e w' => e = .returned (.bool true) ∧ Below w.heap.size w w' := by
  by_cases h40 : 40 < len1
  · have h40i : (40 : Int) < (len1 : Int) := by omega
    clear h40
    go_enter Try.func14, Try.ntmps14
    go_wp2_with fail
    refine (add_one _).mono ?_
    rintro e w' ⟨rfl, rfl⟩
    go_wp2_with fail
    go_ret
    exact ⟨rfl, Below.refl _ _⟩
  · have h40i : (len1 : Int) ≤ 40 := by omega
    clear h40
    have HR0 := Lib.hid R0
    have O1 : Hid (OutIs w.heap.size (w.alloc (.cells #[.int .u8 69, .int .u8 0, .int .u8 0, .int .u8 0] 5)) (.slice (some ⟨w.heap.size, 0, none⟩) 4 4) [69, 0, 0, 0]) :=
      OutIs.laid w [69, 0, 0, 0] w.heap.size (Nat.le_refl _) (by decide)
    have HE : Hid ((len0 % 2 = 0 ∧ EvenL len0 (len0 + 4) ([69, 0, 0, 0] ++ bs0)) ∨ (len0 % 2 = 1 ∧ EvenL len0 (len0 + 5) (([69, 0, 0, 0] ++ bs0) ++ [0]))) := by
      have h1 := R0.len
      have h2 := R0.2.1
      rcases Nat.mod_two_eq_zero_or_one len0 with h | h
      · refine .inl ⟨h, by simp [h1], fun x hx => ?_, rfl, by omega, by omega, by omega⟩
        rcases List.mem_append.1 hx with hx | hx
        · simp at hx; omega
        · exact h2 x hx
      · refine .inr ⟨h, by simp [h1], fun x hx => ?_, rfl, by omega, by omega, by omega⟩
        rcases List.mem_append.1 hx with hx | hx
        · rcases List.mem_append.1 hx with hx | hx
          · simp at hx; omega
          · exact h2 x hx
        · simp at hx; omega
    have HL0 : Hid (([69, 0, 0, 0] ++ bs0).length = len0 + 4) := by
      show ([69, 0, 0, 0] ++ bs0).length = len0 + 4
      simp [R0.len]
    go_enter Try.func14, Try.ntmps14
    go_wp2_with (at_builtin; refine wpList_append_row_any (B := w.heap.size) (W := w) rfl (.tmp 19) (.tmp 20) rfl rfl rfl rfl O1.out (HR0.out.alloc _) ((Below.refl _ _).alloc (Nat.le_refl _) _) (by simp) (by simp; omega) ?_; intro v1 w1 ho1 hb1)
    obtain ⟨g1, c1, rfl, hg1, _, _⟩ := ho1.block (by simp)
    rw [HL0.out] at ho1 ⊢
    generalize hLL : [69, 0, 0, 0] ++ bs0 = L0 at *
    have HO := Lib.hid ho1
    have HB := Lib.hid hb1
    clear hLL ho1 hb1 hg1 O1
    obtain ⟨m0, hm0⟩ : ∃ m0, m0 = len0 + 4 := ⟨_, rfl⟩
    rw [← hm0] at HO HL0 ⊢
    have hm0l : m0 ≤ len0 + 4 := by omega
    have hm0g : 4 ≤ m0 := by omega
    rcases HE.out with ⟨hp, hE⟩ | ⟨hp, hE⟩
    · obtain ⟨M, hM⟩ : ∃ M, M = m0 := ⟨_, rfl⟩
      rw [← hM] at HO HL0 hm0 hm0l hm0g ⊢
      have qm : ((M : Int) % 2 != 0) = false := by rw [bne_eq_false_iff_eq]; omega
      have HEE : Hid (EvenL len0 M L0) := by rw [hm0]; exact hE
      obtain ⟨L, hL⟩ : ∃ L, L = L0 := ⟨_, rfl⟩
      rw [← hL] at HEE HO
      clear HE hp hE hm0 hM hL HL0
      go_wp2_with fail
      simp only [run_len_slice _ _ _ _ _ _ (show Try.prog.underlying 36 = some (.slice (Try.prog.elem 36)) from rfl)]
      obtain ⟨g, hg⟩ : ∃ g, g = g1 := ⟨_, rfl⟩
      obtain ⟨c, hc⟩ : ∃ c, c = c1 := ⟨_, rfl⟩
      obtain ⟨W1, hW⟩ : ∃ W1, W1 = w1 := ⟨_, rfl⟩
      rw [← hg, ← hc, ← hW] at HO ⊢
      rw [← hW] at HB
      clear hg hc hW
      have mlo := HEE.out.lo
      have mhi := HEE.out.hi
      have HM : Hid (M ≤ 140737488355328) := (by omega : M ≤ 140737488355328)
      obtain ⟨hR, hmc⟩ := HO.out.rowAt HEE.out.len (by omega) HEE.out.byte
      have C1 := Lib.hid (ofill_ok (some ⟨g, 0, none⟩) M c 2 L W1 hmc HM.out rfl (by omega) hR)
      have hX : FreshX M (filled L 2) := FreshX.fill HEE.out.len HEE.out.byte (by rw [HEE.out.head]; decide) rfl (by omega) (by decide)
      have hXF : filled (filled L 2) 2 = filled L 2 := filled_twice L HEE.out.byte 2 rfl (by rw [HEE.out.len]; omega)
      have hev := HEE.out.even
      generalize filled L 2 = X at *
      have HX := Lib.hid (show FreshX M X ∧ filled X 2 = X from ⟨hX, hXF⟩)
      clear hX hXF hR HEE HO
      go_wp2_with fail
      refine C1.out.mono ?_
      rintro e w2 ⟨vx, rfl, ⟨A, cx, rfl, hcx, hrx⟩, b2⟩
      rw [HX.out.1.len] at hcx hrx ⊢
      have HRX := Lib.hid hrx
      have HB := Lib.hid (below_both HB.out b2)
      clear b2 C1 hrx
      by_cases h6 : M < 6
      · have h6i : (M : Int) < 6 := by omega
        have CG := Lib.hid (ogood_any A M cx X true w2 HM.out HRX.out (decide_eq_true HX.out.1.good))
        clear hev h6 mlo mhi
        go_wp2_with fail
        refine CG.out.mono ?_
        rintro e w3 ⟨rfl, b3⟩
        have HB := Lib.hid (below_both HB.out b3)
        clear b3
        go_wp2_with fail
        go_ret
        exact ⟨rfl, HB.out⟩
      · obtain ⟨d, hd⟩ : ∃ d, M = 2 * (d + 2) := ⟨M / 2 - 2, by omega⟩
        have hd1 : 0 < d := by omega
        have hdi : (0 : Int) < (d : Int) := by omega
        have h6i : (6 : Int) ≤ (M : Int) := by omega
        have wd : (M : Int) / 2 = (d : Int) + 2 := by omega
        have HMD := Lib.hid hd
        have mhi2 : M ≤ len0 + 5 := mhi
        clear hev h6 mlo mhi hd
        go_wp2_with fail
        go_loopw [8, 9, 10] (fun u e i wr => ∃ (A : Option Addr) (c k : Nat) (X : List Nat), u = .slice A M c ∧ e = .int .i64 0 ∧ i = .int .i64 k ∧ k ≤ len1 ∧ k ≤ len2 ∧ M ≤ c ∧ Hid (FreshX M X ∧ filled X 2 = X) ∧ Row wr A M X ∧ Below w.heap.size w wr) (fun _ _ i _ => len1 - (intOf i).toNat)
        case atStart => exact ⟨A, cx, 0, X, rfl, rfl, rfl, Nat.zero_le _, Nat.zero_le _, hcx, HX.out, HRX.out, HB.out⟩
        case round =>
          clear HX HRX HB hcx
          obtain ⟨A, c, k, X, rfl, rfl, rfl, hk1, hk2, hc, HX, hr, hb⟩ := hrel
          have HRX := Lib.hid hr
          have HB := Lib.hid hb
          by_cases hgo : k < len1 ∧ k < len2
          · obtain ⟨g1, g2⟩ := hgo
            obtain ⟨b, o, rfl, hbl, hcA⟩ := (R1.below hb).addr (by omega)
            obtain ⟨b2, o2, rfl, hbl2, hcB⟩ := (R2.below hb).addr (by omega)
            have hv := hcA k g1
            have hu := hcB k g2
            have hx := R1.byte k
            have hy := R2.word k
            obtain ⟨p, hpe⟩ : ∃ p, p = bs1.getD k 0 := ⟨_, rfl⟩
            obtain ⟨v, hve⟩ : ∃ v, v = ws2.getD k 0 := ⟨_, rfl⟩
            rw [← hpe] at hv hx
            rw [← hve] at hu hy
            have hpd : p % d < d := Nat.mod_lt _ hd1
            obtain ⟨a, ha⟩ : ∃ a, a = 4 + 2 * (p % d) := ⟨_, rfl⟩
            have hMd := HMD.out
            have wa : wrap64 (4 + wrap64 (2 * ((p : Int) % (d : Int)))) = (a : Int) := by
              have e1 : wrap64 (2 * ((p % d : Nat) : Int)) = 2 * ((p % d : Nat) : Int) := IntWalk.wrap64_in _ ⟨by omega, by omega⟩
              rw [show (p : Int) % (d : Int) = ((p % d : Nat) : Int) from by simp, e1, IntWalk.wrap64_in _ ⟨by omega, by omega⟩]
              omega
            have hX := HX.out.1
            have hfr := adjAt_fresh X hX.byte 2 a v rfl (by omega) (by omega) (by rw [hX.len]; omega) (by rw [hX.len]; omega) (by decide) (by omega) hX.head hy hX.good
            have hXN : FreshX M (adjAt X 2 a v) := ⟨by rw [adjAt_length X 2 a v (by rw [hX.len]; omega) (by rw [hX.len]; omega)]; exact hX.len, adjAt_byte X 2 a v hX.byte,
              by rw [adjAt_head X 2 a v (by rw [hX.len]; omega) (by rw [hX.len]; omega) (by decide) (by omega)]; exact hX.head, hfr.1⟩
            have CA := Lib.hid (at_ok A M c 2 a v X wr HM.out hc rfl (by omega) (by omega) (by omega) (by omega) hy HRX.out)
            generalize adjAt X 2 a v = Y at *
            have HY := Lib.hid (show FreshX M Y ∧ filled Y 2 = Y from ⟨hXN, hfr.2⟩)
            have wd2 : wrap64 ((d : Int) + 2 - 2) = (d : Int) := by
              rw [show (d : Int) + 2 - 2 = (d : Int) from by omega]
              exact IntWalk.wrap64_in _ ⟨by omega, by omega⟩
            clear hfr hXN hX ha hpd hpe hve hcA hcB hb hr hMd HX HRX
            go_wp2_with fail
            refine CA.out.mono ?_
            rintro e w3 ⟨vy, rfl, ⟨A3, c3, rfl, hc3, hr3⟩, b3⟩
            rw [HY.out.1.len] at hc3 hr3 ⊢
            have HRY := Lib.hid hr3
            have HB := Lib.hid (below_both HB.out b3)
            have CG := Lib.hid (ogood_any A3 M c3 Y true w3 HM.out HRY.out (decide_eq_true HY.out.1.good))
            clear b3 CA hr3 hv hu
            go_wp2_with fail
            refine CG.out.mono ?_
            rintro e w4 ⟨rfl, b4⟩
            have HRY := Lib.hid (HRY.out.below b4)
            have HB := Lib.hid (below_both HB.out b4)
            clear b4 CG
            go_wp2_with fail
            go_roundw
            case rel => exact ⟨A3, c3, k + 1, Y, rfl, rfl, by go_num, by omega, by omega, hc3, HY.out, HRY.out, HB.out⟩
            case measure => simp [intOf]; omega
          · have CF := Lib.hid (ofill_ok A M c 2 X wr hc HM.out rfl (by have := HMD.out; omega) HRX.out)
            rw [HX.out.2] at CF
            have hstop : len1 ≤ k ∨ len2 ≤ k := by omega
            clear hb hr hgo
            by_cases hs : len1 ≤ k
            · obtain rfl : k = len1 := by omega
              clear hstop hs
              go_wp2_with fail
              refine CF.out.mono ?_
              rintro e w3 ⟨vy, rfl, ⟨A3, c3, rfl, hc3, hr3⟩, b3⟩
              rw [HX.out.1.len] at hc3 hr3 ⊢
              have HRX := Lib.hid (HRX.out.below b3)
              have HB := Lib.hid (below_both HB.out b3)
              have k1 := conv_str (c := c) HRX.out
              have k2 := conv_str (c := c3) hr3
              clear b3 CF
              go_wp2_with fail
              refine (add_one _).mono ?_
              rintro e w' ⟨rfl, rfl⟩
              clear k1 k2
              go_wp2_with fail
              go_ret
              exact ⟨rfl, HB.out⟩
            · obtain rfl : k = len2 := by omega
              have hlt : (k : Int) < (len1 : Int) := by omega
              clear hstop hs
              go_wp2_with fail
              refine CF.out.mono ?_
              rintro e w3 ⟨vy, rfl, ⟨A3, c3, rfl, hc3, hr3⟩, b3⟩
              rw [HX.out.1.len] at hc3 hr3 ⊢
              have HRX := Lib.hid (HRX.out.below b3)
              have HB := Lib.hid (below_both HB.out b3)
              have k1 := conv_str (c := c) HRX.out
              have k2 := conv_str (c := c3) hr3
              clear b3 CF
              go_wp2_with fail
              refine (add_one _).mono ?_
              rintro e w' ⟨rfl, rfl⟩
              clear k1 k2
              go_wp2_with fail
              go_ret
              exact ⟨rfl, HB.out⟩
    · have qm : ((m0 : Int) % 2 != 0) = true := by rw [bne_iff_ne]; omega
      have HBB : Hid (w.heap.size ≤ w1.heap.size) := HB.out.size
      obtain ⟨M, hM⟩ : ∃ M, M = m0 + 1 := ⟨_, rfl⟩
      obtain ⟨L, hL⟩ : ∃ L, L = L0 ++ [0] := ⟨_, rfl⟩
      have HEE : Hid (EvenL len0 M L) := by rw [hM, hL, hm0]; exact hE
      have HM1 := Lib.hid hM
      have HL1 := Lib.hid hL
      clear HE hp hE hm0 hM hL
      go_wp2_with fail
      simp only [run_len_slice _ _ _ _ _ _ (show Try.prog.underlying 36 = some (.slice (Try.prog.elem 36)) from rfl)]
      go_wp2_with (at_builtin; refine wpList_append_bytes (B := w.heap.size) (W := w) rfl (.tmp 26) (.tmp 27) rfl (news := [0]) #[.int .u8 0] 1 rfl rfl rfl rfl HO.out HB.out HBB.out (by rw [HL0.out]; omega) ?_; intro v' W1 ho' hb')
      obtain ⟨g, c, rfl, _, _, _⟩ := ho'.block (by simp)
      rw [List.length_append, HL0.out, ← HL1.out] at ho'
      rw [List.length_append, HL0.out]
      rw [show m0 + [0].length = M from HM1.out.symm] at ho' ⊢
      have HO := Lib.hid ho'
      have HB := Lib.hid hb'
      clear ho' hb' HL0 HL1 HM1 HBB qm
      have mlo := HEE.out.lo
      have mhi := HEE.out.hi
      have HM : Hid (M ≤ 140737488355328) := (by omega : M ≤ 140737488355328)
      obtain ⟨hR, hmc⟩ := HO.out.rowAt HEE.out.len (by omega) HEE.out.byte
      have C1 := Lib.hid (ofill_ok (some ⟨g, 0, none⟩) M c 2 L W1 hmc HM.out rfl (by omega) hR)
      have hX : FreshX M (filled L 2) := FreshX.fill HEE.out.len HEE.out.byte (by rw [HEE.out.head]; decide) rfl (by omega) (by decide)
      have hXF : filled (filled L 2) 2 = filled L 2 := filled_twice L HEE.out.byte 2 rfl (by rw [HEE.out.len]; omega)
      have hev := HEE.out.even
      generalize filled L 2 = X at *
      have HX := Lib.hid (show FreshX M X ∧ filled X 2 = X from ⟨hX, hXF⟩)
      clear hX hXF hR HEE HO
      go_wp2_with fail
      refine C1.out.mono ?_
      rintro e w2 ⟨vx, rfl, ⟨A, cx, rfl, hcx, hrx⟩, b2⟩
      rw [HX.out.1.len] at hcx hrx ⊢
      have HRX := Lib.hid hrx
      have HB := Lib.hid (below_both HB.out b2)
      clear b2 C1 hrx
      by_cases h6 : M < 6
      · have h6i : (M : Int) < 6 := by omega
        have CG := Lib.hid (ogood_any A M cx X true w2 HM.out HRX.out (decide_eq_true HX.out.1.good))
        clear hev h6 mlo mhi
        go_wp2_with fail
        refine CG.out.mono ?_
        rintro e w3 ⟨rfl, b3⟩
        have HB := Lib.hid (below_both HB.out b3)
        clear b3
        go_wp2_with fail
        go_ret
        exact ⟨rfl, HB.out⟩
      · obtain ⟨d, hd⟩ : ∃ d, M = 2 * (d + 2) := ⟨M / 2 - 2, by omega⟩
        have hd1 : 0 < d := by omega
        have hdi : (0 : Int) < (d : Int) := by omega
        have h6i : (6 : Int) ≤ (M : Int) := by omega
        have wd : (M : Int) / 2 = (d : Int) + 2 := by omega
        have HMD := Lib.hid hd
        have mhi2 : M ≤ len0 + 5 := mhi
        clear hev h6 mlo mhi hd
        go_wp2_with fail
        go_loopw [8, 9, 10] (fun u e i wr => ∃ (A : Option Addr) (c k : Nat) (X : List Nat), u = .slice A M c ∧ e = .int .i64 0 ∧ i = .int .i64 k ∧ k ≤ len1 ∧ k ≤ len2 ∧ M ≤ c ∧ Hid (FreshX M X ∧ filled X 2 = X) ∧ Row wr A M X ∧ Below w.heap.size w wr) (fun _ _ i _ => len1 - (intOf i).toNat)
        case atStart => exact ⟨A, cx, 0, X, rfl, rfl, rfl, Nat.zero_le _, Nat.zero_le _, hcx, HX.out, HRX.out, HB.out⟩
        case round =>
          clear HX HRX HB hcx
          obtain ⟨A, c, k, X, rfl, rfl, rfl, hk1, hk2, hc, HX, hr, hb⟩ := hrel
          have HRX := Lib.hid hr
          have HB := Lib.hid hb
          by_cases hgo : k < len1 ∧ k < len2
          · obtain ⟨g1, g2⟩ := hgo
            obtain ⟨b, o, rfl, hbl, hcA⟩ := (R1.below hb).addr (by omega)
            obtain ⟨b2, o2, rfl, hbl2, hcB⟩ := (R2.below hb).addr (by omega)
            have hv := hcA k g1
            have hu := hcB k g2
            have hx := R1.byte k
            have hy := R2.word k
            obtain ⟨p, hpe⟩ : ∃ p, p = bs1.getD k 0 := ⟨_, rfl⟩
            obtain ⟨v, hve⟩ : ∃ v, v = ws2.getD k 0 := ⟨_, rfl⟩
            rw [← hpe] at hv hx
            rw [← hve] at hu hy
            have hpd : p % d < d := Nat.mod_lt _ hd1
            obtain ⟨a, ha⟩ : ∃ a, a = 4 + 2 * (p % d) := ⟨_, rfl⟩
            have hMd := HMD.out
            have wa : wrap64 (4 + wrap64 (2 * ((p : Int) % (d : Int)))) = (a : Int) := by
              have e1 : wrap64 (2 * ((p % d : Nat) : Int)) = 2 * ((p % d : Nat) : Int) := IntWalk.wrap64_in _ ⟨by omega, by omega⟩
              rw [show (p : Int) % (d : Int) = ((p % d : Nat) : Int) from by simp, e1, IntWalk.wrap64_in _ ⟨by omega, by omega⟩]
              omega
            have hX := HX.out.1
            have hfr := adjAt_fresh X hX.byte 2 a v rfl (by omega) (by omega) (by rw [hX.len]; omega) (by rw [hX.len]; omega) (by decide) (by omega) hX.head hy hX.good
            have hXN : FreshX M (adjAt X 2 a v) := ⟨by rw [adjAt_length X 2 a v (by rw [hX.len]; omega) (by rw [hX.len]; omega)]; exact hX.len, adjAt_byte X 2 a v hX.byte,
              by rw [adjAt_head X 2 a v (by rw [hX.len]; omega) (by rw [hX.len]; omega) (by decide) (by omega)]; exact hX.head, hfr.1⟩
            have CA := Lib.hid (at_ok A M c 2 a v X wr HM.out hc rfl (by omega) (by omega) (by omega) (by omega) hy HRX.out)
            generalize adjAt X 2 a v = Y at *
            have HY := Lib.hid (show FreshX M Y ∧ filled Y 2 = Y from ⟨hXN, hfr.2⟩)
            have wd2 : wrap64 ((d : Int) + 2 - 2) = (d : Int) := by
              rw [show (d : Int) + 2 - 2 = (d : Int) from by omega]
              exact IntWalk.wrap64_in _ ⟨by omega, by omega⟩
            clear hfr hXN hX ha hpd hpe hve hcA hcB hb hr hMd HX HRX
            go_wp2_with fail
            refine CA.out.mono ?_
            rintro e w3 ⟨vy, rfl, ⟨A3, c3, rfl, hc3, hr3⟩, b3⟩
            rw [HY.out.1.len] at hc3 hr3 ⊢
            have HRY := Lib.hid hr3
            have HB := Lib.hid (below_both HB.out b3)
            have CG := Lib.hid (ogood_any A3 M c3 Y true w3 HM.out HRY.out (decide_eq_true HY.out.1.good))
            clear b3 CA hr3 hv hu
            go_wp2_with fail
            refine CG.out.mono ?_
            rintro e w4 ⟨rfl, b4⟩
            have HRY := Lib.hid (HRY.out.below b4)
            have HB := Lib.hid (below_both HB.out b4)
            clear b4 CG
            go_wp2_with fail
            go_roundw
            case rel => exact ⟨A3, c3, k + 1, Y, rfl, rfl, by go_num, by omega, by omega, hc3, HY.out, HRY.out, HB.out⟩
            case measure => simp [intOf]; omega
          · have CF := Lib.hid (ofill_ok A M c 2 X wr hc HM.out rfl (by have := HMD.out; omega) HRX.out)
            rw [HX.out.2] at CF
            have hstop : len1 ≤ k ∨ len2 ≤ k := by omega
            clear hb hr hgo
            by_cases hs : len1 ≤ k
            · obtain rfl : k = len1 := by omega
              clear hstop hs
              go_wp2_with fail
              refine CF.out.mono ?_
              rintro e w3 ⟨vy, rfl, ⟨A3, c3, rfl, hc3, hr3⟩, b3⟩
              rw [HX.out.1.len] at hc3 hr3 ⊢
              have HRX := Lib.hid (HRX.out.below b3)
              have HB := Lib.hid (below_both HB.out b3)
              have k1 := conv_str (c := c) HRX.out
              have k2 := conv_str (c := c3) hr3
              clear b3 CF
              go_wp2_with fail
              refine (add_one _).mono ?_
              rintro e w' ⟨rfl, rfl⟩
              clear k1 k2
              go_wp2_with fail
              go_ret
              exact ⟨rfl, HB.out⟩
            · obtain rfl : k = len2 := by omega
              have hlt : (k : Int) < (len1 : Int) := by omega
              clear hstop hs
              go_wp2_with fail
              refine CF.out.mono ?_
              rintro e w3 ⟨vy, rfl, ⟨A3, c3, rfl, hc3, hr3⟩, b3⟩
              rw [HX.out.1.len] at hc3 hr3 ⊢
              have HRX := Lib.hid (HRX.out.below b3)
              have HB := Lib.hid (below_both HB.out b3)
              have k1 := conv_str (c := c) HRX.out
              have k2 := conv_str (c := c3) hr3
              clear b3 CF
              go_wp2_with fail
              refine (add_one _).mono ?_
              rintro e w' ⟨rfl, rfl⟩
              clear k1 k2
              go_wp2_with fail
              go_ret
              exact ⟨rfl, HB.out⟩
end Go.Proofs.Ytgpdghibkkgonaa
