/-
  A packet of version 6, as WholeSix makes it (packed).
-/
import Derived.Test.YtlopmkmcjcijcaaWS2
import Derived.Test.YtlopmkmcjcijcaaApp
import Derived.Test.YtlopmkmcjcijcaaSx7
namespace Go.Proofs.Ytlopmkmcjcijcaa
open Go.RowKit
set_option linter.unusedVariables false
set_option maxRecDepth 10000

theorem plen_ints {a b l : Nat} (h : l = a + b) (h2 : l ≤ 65535) : wrap64 ((a : Int) + (b : Int)) = (l : Int) := by subst h; unfold wrap64; omega
set_option maxHeartbeats 3200000 in
theorem packed_bad (A0 : Option Addr) (n0 c0 : Nat) (M : List (Int × List Nat)) (p : Int) (v2 : Value) (w : World) (hX : ExtsIn w (.slice A0 n0 c0) M) (hl : M.length ≤ 140737488355328) {x y : Nat} (hr : exCheck M p = (x, y)) (hx : x ≠ 0) :
    Calls Try.prog 52 #[.slice A0 n0 c0, .int .i64 p, v2] w fun e w' => e = .returned (.tuple #[.slice none 0 0, .int .i64 (x : Nat)]) ∧ Below w.heap.size w w' := by
  have CW : Hid (Calls Try.prog 27 #[.slice A0 n0 c0, .int .i64 p] w (WroteIs [] x y w)) := (exwrite_any _ M p w hX hl).mono (wrote hX hr (by rw [if_neg hx]) w)
  unfold WroteIs at CW
  have x0 : ((x : Int) != 0) = true := bne_iff_ne.2 (by omega)
  clear hX hl hr hx
  go_enter Try.func52, Try.ntmps52
  go_wp2_with fail
  refine CW.out.mono ?_
  rintro e w1 ⟨v1, rfl, r1, hl1, b1⟩
  go_upto_region 2 with fail
  obtain ⟨V1, e1⟩ : ∃ V, V = w1.alloc (.cells #[.int .i64 (x : Nat), .int .i64 (y : Nat)] 39) := ⟨_, rfl⟩
  have hA1 : ArrV 39 V1 w1.heap.size [.int .i64 (x : Nat), .int .i64 (y : Nat)] := by rw [e1]; exact ArrV.new _ w1 _
  have hb1 : Below w1.heap.size w1 V1 := by rw [e1]; exact (Below.refl _ _).alloc (Nat.le_refl _) _
  have B1 := Lib.hid (below_both b1 hb1)
  have c0 := hA1.get 0
  simp at c0
  rw [← e1]
  obtain ⟨g1, hg1⟩ : ∃ g, g = w1.heap.size := ⟨_, rfl⟩
  rw [← hg1] at c0 ⊢
  clear e1 hA1 hb1 r1 b1 hl1 hg1 CW
  go_wp2_with fail
  go_quiet (fail)
  go_wp2_with fail
  go_ret2
  exact ⟨rfl, below_drewN' B1.out _⟩
set_option maxHeartbeats 3200000 in
theorem packed_ok (A0 : Option Addr) (n0 c0 : Nat) (M : List (Int × List Nat)) (p : Int) (A2 : Option Addr) (n2 c2 : Nat) (pay : List Nat) (w : World) (hX : ExtsIn w (.slice A0 n0 c0) M) (hr : exCheck M p = (0, 0)) (hW : Written M p) (R2 : Row w A2 n2 pay) (hn2 : n2 ≤ 1000) {next len : Nat} (hnx : (next : Int) = exNext p M) (hln : len = exLen M + pay.length) :
    Calls Try.prog 52 #[.slice A0 n0 c0, .int .i64 p, .slice A2 n2 c2] w fun e w' => ∃ A c, e = .returned (.tuple #[.slice A (40 + len) c, .int .i64 0]) ∧ 40 + len ≤ c ∧ Row w' A (40 + len) ((sixP next len).bytes ++ (exBytes p M ++ pay)) ∧ Below w.heap.size w w' := by
  have h8 := hW.l8
  have hlenM := hW.len
  have hl : M.length ≤ 140737488355328 := Nat.le_trans h8 (by decide)
  obtain ⟨L, hL⟩ : ∃ L, L = exBytes p M := ⟨_, rfl⟩
  have CW : Hid (∀ W, Below w.heap.size w W → Calls Try.prog 27 #[.slice A0 n0 c0, .int .i64 p] W (WroteIs L 0 0 W)) := fun W hb => (exwrite_any _ M p W (hX.below hb) hl).mono (wrote hX hr (by rw [if_pos rfl, hL]) W)
  unfold WroteIs at CW
  have hnb : next ≤ 255 := by
    have := exNext_byte (M := M) ⟨hW.p0, hW.p1⟩ (fun m hm => (hW.each m hm).1)
    omega
  have hpl : pay.length = n2 := R2.1
  have hLl : L.length = exLen M := by rw [hL]; exact exBytes_len p M
  have hl5 : len ≤ 65535 := by omega
  have i1 := plen_ints (a := L.length) (b := n2) (l := len) (by omega) hl5
  have hfit := sixP_fits next len hnb hl5
  have CS : Hid (∀ W, Calls Try.prog 38 #[.agg #[.int .i64 0, .int .i64 0, .int .i64 (len : Nat), .int .i64 (next : Nat), .int .i64 0, .int .u8 0, .int .u8 0, .int .u8 0, .int .u8 0, .int .u8 0, .int .u8 0, .int .u8 0, .int .u8 0, .int .u8 0, .int .u8 0, .int .u8 0, .int .u8 0, .int .u8 0, .int .u8 0, .int .u8 0, .int .u8 0, .int .u8 0, .int .u8 0, .int .u8 0, .int .u8 0, .int .u8 0, .int .u8 0, .int .u8 0, .int .u8 0, .int .u8 0, .int .u8 0, .int .u8 0, .int .u8 0, .int .u8 0, .int .u8 0, .int .u8 0, .int .u8 0]] W fun e w' => ∃ v, e = .returned (.tuple #[v, .int .i64 0]) ∧ OutIs W.heap.size w' v (sixP next len).bytes ∧ Below W.heap.size W w') := fun W => by
    have h := sxwrite_own (sixP next len) W rfl rfl (by show ∀ x ∈ List.replicate 16 0, x < 256; decide) (by show ∀ x ∈ List.replicate 16 0, x < 256; decide) (sixP_k next len hnb hl5)
    rw [if_pos hfit, if_pos hfit] at h
    refine h.mono ?_
    rintro e w' ⟨v, he, _, hb, ho⟩
    exact ⟨v, he, ho hfit, hb⟩
  have hb40 : (sixP next len).bytes.length = 40 := by unfold SixV.bytes; rw [List.length_append, List.length_append, pb_length]; rfl
  have hbb : ∀ x ∈ (sixP next len).bytes, x < 256 := fun z hz => by
    unfold SixV.bytes sixP at hz
    rcases List.mem_append.1 hz with h | h
    · rcases List.mem_append.1 h with h | h
      · exact pb_byte _ _ z h
      · exact (by decide : ∀ x ∈ List.replicate 16 0, x < 256) z h
    · exact (by decide : ∀ x ∈ List.replicate 16 0, x < 256) z h
  have hLb : ∀ x ∈ L, x < 256 := by
    rw [hL]
    exact exBytes_byte ⟨hW.p0, hW.p1⟩ (fun m hm => ⟨(hW.each m hm).1, (hW.each m hm).2.2.2⟩) (exts_bytes hX)
  obtain ⟨H, hH⟩ : ∃ H, H = (sixP next len).bytes := ⟨_, rfl⟩
  rw [← hH] at CS hb40 hbb ⊢
  rw [← hL]
  have HBY : Hid (∀ z ∈ H ++ L ++ pay, z < 256) := fun z hz => by
    rcases List.mem_append.1 hz with h | h
    · rcases List.mem_append.1 h with h | h
      · exact hbb z h
      · exact hLb z h
    · exact R2.2.1 z h
  have HLEN : Hid ((H ++ L ++ pay).length = 40 + len) := by show _ = _; rw [List.length_append, List.length_append, hb40, hLl, hpl, hln, hpl]; omega
  have HQ1 : Hid (H.length + L.length ≤ 140737488355328) := by show _ ≤ _; rw [hb40, hLl]; omega
  have HQ2 : Hid ((H ++ L).length + n2 ≤ 140737488355328) := by show _ ≤ _; rw [List.length_append, hb40, hLl]; omega
  have HR := Lib.hid R2
  rw [← List.append_assoc]
  obtain ⟨K, hK⟩ : ∃ K, K = exNext p M := ⟨_, rfl⟩
  obtain ⟨A, c, e, hc, hcell⟩ := hX
  injection e with e1 e2 e3
  subst e1 e3
  cases M with
  | nil =>
    have hn0 : n0 = 0 := e2
    subst hn0
    have hpn : p = (next : Int) := hnx.symm
    subst hpn
    clear h8 hlenM hl hL hW hnb hpl hLl hl5 hfit hb40 hbb hLb hH hK hnx hln hn2 hcell hc e2 R2 hr
    go_enter Try.func52, Try.ntmps52
    go_wp2_with fail
    refine (CW.out _ (Below.refl _ _)).mono ?_
    rintro e w1 ⟨v1, rfl, ⟨AL, cL, rfl, hcL, r1⟩, hl1, b1⟩
    go_upto_region 2 with fail
    obtain ⟨V1, e1⟩ : ∃ V, V = w1.alloc (.cells #[.int .i64 0, .int .i64 0] 39) := ⟨_, rfl⟩
    have hA1 : ArrV 39 V1 w1.heap.size [.int .i64 0, .int .i64 0] := by rw [e1]; exact ArrV.new _ w1 _
    have hb1 : Below w1.heap.size w1 V1 := by rw [e1]; exact (Below.refl _ _).alloc (Nat.le_refl _) _
    have B1 := Lib.hid (below_both b1 hb1)
    have RL := Lib.hid (r1.below hb1)
    have fc := hA1.get 0
    simp at fc
    rw [← e1]
    obtain ⟨g1, hg1⟩ : ∃ g, g = w1.heap.size := ⟨_, rfl⟩
    rw [← hg1] at fc ⊢
    clear e1 hA1 hb1 r1 b1 hl1 hg1 CW hcL
    go_upto_region 7 with fail
    clear fc
    go_wp2_with fail
    refine (CS.out _).mono ?_
    rintro e w2 ⟨v2, rfl, o2, b2⟩
    have Q2 := Lib.hid b2
    have O2 := Lib.hid o2
    have BV1 := Lib.hid B1.out
    have R1 := Lib.hid (RL.out.below b2)
    clear b2 o2 RL B1 CS
    go_wp2_with (first
      | (at_builtin; refine wpList_append_row_any (B := V1.heap.size) (W := V1) rfl (.tmp 43) (.tmp 44) rfl rfl rfl rfl O2.out R1.out Q2.out Q2.out.size HQ1.out ?_; intro v6 w6 ho6 hb6; have O6 := Lib.hid ho6; have Q6 := Lib.hid hb6; have R6 := Lib.hid ((HR.out.below BV1.out).below hb6); clear ho6 hb6)
      | (at_builtin; refine wpList_append_row_any (B := V1.heap.size) (W := V1) rfl (.tmp 45) (.tmp 46) rfl rfl rfl rfl O6.out R6.out Q6.out Q6.out.size HQ2.out ?_; intro v7 w7 ho7 hb7; obtain ⟨A7, c7, rfl, h1, h2, h3⟩ := ho7.out HBY.out; rw [HLEN.out] at h1 h3 ⊢; have H7 := Lib.hid h1; have R7 := Lib.hid h3; have B7 := Lib.hid hb7; clear ho7 hb7 h1 h2 h3)
      | fail)
    go_ret2
    exact ⟨A7, c7, rfl, H7.out, R7.out, below_both BV1.out B7.out⟩
  | cons m r =>
    obtain ⟨k, b0⟩ := m
    have hkn : k = (next : Int) := hnx.symm
    subst hkn
    obtain ⟨_, b, o, bv, rfl, hb, cc1, cc2, _⟩ := hcell 0 ((next : Int), b0) rfl
    simp only [Nat.zero_mul, Nat.add_zero] at cc1 cc2
    have n0I : (0 : Int) < (n0 : Int) := by rw [e2, List.length_cons]; omega
    have HCW : Hid (∀ W, Below w.heap.size w W → W.cell? ⟨b, o, none⟩ = some (.int .i64 (next : Int))) := fun W h => (h.cell (p := ⟨b, o, none⟩) hb).trans cc1
    clear h8 hlenM hl hL hW hnb hpl hLl hl5 hfit hb40 hbb hLb hH hK hnx hln hn2 hcell hc e2 R2 hr cc1 cc2 hb
    go_enter Try.func52, Try.ntmps52
    go_wp2_with fail
    refine (CW.out _ (Below.refl _ _)).mono ?_
    rintro e w1 ⟨v1, rfl, ⟨AL, cL, rfl, hcL, r1⟩, hl1, b1⟩
    go_upto_region 2 with fail
    obtain ⟨V1, e1⟩ : ∃ V, V = w1.alloc (.cells #[.int .i64 0, .int .i64 0] 39) := ⟨_, rfl⟩
    have hA1 : ArrV 39 V1 w1.heap.size [.int .i64 0, .int .i64 0] := by rw [e1]; exact ArrV.new _ w1 _
    have hb1 : Below w1.heap.size w1 V1 := by rw [e1]; exact (Below.refl _ _).alloc (Nat.le_refl _) _
    have B1 := Lib.hid (below_both b1 hb1)
    have RL := Lib.hid (r1.below hb1)
    have fc := hA1.get 0
    simp at fc
    rw [← e1]
    obtain ⟨g1, hg1⟩ : ∃ g, g = w1.heap.size := ⟨_, rfl⟩
    rw [← hg1] at fc ⊢
    clear e1 hA1 hb1 r1 b1 hl1 hg1 CW hcL
    have kc := HCW.out _ B1.out
    go_upto_region 7 with fail
    clear fc kc
    go_wp2_with fail
    refine (CS.out _).mono ?_
    rintro e w2 ⟨v2, rfl, o2, b2⟩
    have Q2 := Lib.hid b2
    have O2 := Lib.hid o2
    have BV1 := Lib.hid B1.out
    have R1 := Lib.hid (RL.out.below b2)
    clear b2 o2 RL B1 CS
    go_wp2_with (first
      | (at_builtin; refine wpList_append_row_any (B := V1.heap.size) (W := V1) rfl (.tmp 43) (.tmp 44) rfl rfl rfl rfl O2.out R1.out Q2.out Q2.out.size HQ1.out ?_; intro v6 w6 ho6 hb6; have O6 := Lib.hid ho6; have Q6 := Lib.hid hb6; have R6 := Lib.hid ((HR.out.below BV1.out).below hb6); clear ho6 hb6)
      | (at_builtin; refine wpList_append_row_any (B := V1.heap.size) (W := V1) rfl (.tmp 45) (.tmp 46) rfl rfl rfl rfl O6.out R6.out Q6.out Q6.out.size HQ2.out ?_; intro v7 w7 ho7 hb7; obtain ⟨A7, c7, rfl, h1, h2, h3⟩ := ho7.out HBY.out; rw [HLEN.out] at h1 h3 ⊢; have H7 := Lib.hid h1; have R7 := Lib.hid h3; have B7 := Lib.hid hb7; clear ho7 hb7 h1 h2 h3)
      | fail)
    go_ret2
    exact ⟨A7, c7, rfl, H7.out, R7.out, below_both BV1.out B7.out⟩
end Go.Proofs.Ytlopmkmcjcijcaa
