/-
  The walk of the statement RemarkKeeps.
-/
import Derived.Test.YtjpaicdbnadoeaaWRTwice
namespace Go.Proofs.Ytjpaicdbnadoeaa
open Go.RowKit
set_option linter.unusedVariables false
set_option maxRecDepth 8000

theorem rm_head {n d : Nat} {bs : List Nat} (hl : bs.length = n) (hb : ∀ x ∈ bs, x < 256) (hd : d < 64) (hD : pkDefs n bs = []) : pkHead n (rmMark bs d) = pkHead n bs ∧ pkPoint n (rmMark bs d) = .tuple #[.int .i64 (d : Nat), .int .i64 ((pkRec bs).field % 4 : Nat), .bool true] := by
  obtain ⟨_, _, m3, m4, m5, _⟩ := rm_rec hl hb hd hD
  constructor
  · unfold pkHead
    rw [if_pos m3, if_pos hD, m5, m4]
    rfl
  · unfold pkPoint
    rw [if_pos m3, m4]
    show Value.tuple #[.int .i64 (((d * 4 + (pkRec bs).field % 4) / 4 : Nat) : Int), .int .i64 (((d * 4 + (pkRec bs).field % 4) % 4 : Nat) : Int), .bool true] = _
    rw [show (d * 4 + (pkRec bs).field % 4) / 4 = d by omega, show (d * 4 + (pkRec bs).field % 4) % 4 = (pkRec bs).field % 4 by omega]
set_option maxRecDepth 10000 in
set_option maxHeartbeats 6400000 in
theorem walk_RemarkKeeps (a0 : Option Addr) (len0 cap0 : Nat) (bs0 : List Nat) (n1 : Nat) (w : World) (R0 : Row w a0 len0 bs0) (hl0 : len0 ≤ cap0) (hc0 : cap0 ≤ 140737488351232) (hi1 : n1 ≤ 255) :
    Calls Try.prog 10 #[.slice a0 len0 cap0, .int .u8 n1] w fun e w' => e = .returned (.bool true) ∧ Below w.heap.size w w' := by
  have hn : len0 ≤ 140737488351232 := by omega
  have hrem : (n1 : Int) % 64 = ((n1 % 64 : Nat) : Int) := by omega
  obtain ⟨d, hd⟩ : ∃ d, d = n1 % 64 := ⟨_, rfl⟩
  rw [← hd] at hrem
  have hd64 : d < 64 := by omega
  have hw64 : wrap64 (d : Int) = (d : Int) := by unfold wrap64; omega
  have C0 := Lib.hid (fun w (hR : Row w a0 len0 bs0) => pkparse_any a0 len0 cap0 bs0 w hn hl0 hR)
  obtain ⟨Hl, Ho⟩ := pkHead_all R0.1 R0.2.1
  have hlitZ := hd_lit
  obtain ⟨Z, hZ⟩ : ∃ Z, Z = hdCells RZ false 0 0 := ⟨_, rfl⟩
  have hZl : Z.length = 40 := by rw [hZ]; rfl
  rw [← hZ] at hlitZ
  have HR := Lib.hid R0
  by_cases hD : pkDefs len0 bs0 = []
  · obtain ⟨m1, m2, m3, m4, m5, m6⟩ := rm_rec R0.1 R0.2.1 hd64 hD
    obtain ⟨h1, h2⟩ := rm_head R0.1 R0.2.1 hd64 hD
    obtain ⟨u1, u2, u3⟩ := rmBack_is R0.1 R0.2.1 hd64 hD
    obtain ⟨hv46, g20, gas, gsn, _, _⟩ := pk_good R0.1 R0.2.1 (pkHeads_nil hD)
    have ok := pkRec_ok R0.1 R0.2.1 (pkHeads_nil hD)
    have hsame : ∀ w : World, (Op.equalIn 10000 25 (.agg (pkHead len0 bs0).toArray) (.agg (pkHead len0 bs0).toArray)).run Try.prog w = .ok true w := fun w => by
      unfold pkHead
      rw [if_pos hD]
      exact head_same ok w
    obtain ⟨v, hv⟩ : ∃ v, v = (pkRec bs0).v := ⟨_, rfl⟩
    have hc0v : (pkHead len0 bs0)[0]? = some (.int .i64 (v : Nat)) := by
      unfold pkHead
      rw [if_pos hD, hv]
      rfl
    have M0 : Hid (∀ W, Row W a0 len0 bs0 → Calls Try.prog 41 #[.slice a0 len0 cap0, .int .i64 (d : Nat)] W fun e w' => ∃ A2 c2, e = .returned (.tuple #[.slice A2 len0 c2, .int .i64 0, .int .i64 0]) ∧ len0 ≤ c2 ∧ Row w' A2 len0 (rmMark bs0 d) ∧ Below W.heap.size W w') := fun W h => rmmark_good a0 len0 cap0 bs0 d W hn hl0 h hd64 hD
    have C1 : Hid (∀ A c W, len0 ≤ c → Row W A len0 (rmMark bs0 d) → Calls Try.prog 14 #[.slice A len0 c] W fun e w' => e = .returned (.tuple #[.agg (pkHead len0 bs0).toArray, .int .i64 0]) ∧ Below W.heap.size W w') := fun A c W hc h => by
      have h3 := pkparse_any A len0 c _ W hn hc h
      rw [h1, pkTold_nil m3] at h3
      exact h3
    obtain ⟨fm, hfm⟩ : ∃ f, f = (pkRec bs0).field % 4 := ⟨_, rfl⟩
    obtain ⟨fq, hfq⟩ : ∃ f, f = (pkRec bs0).field / 4 := ⟨_, rfl⟩
    have CP1 : Hid (∀ A c W, len0 ≤ c → Row W A len0 (rmMark bs0 d) → Calls Try.prog 16 #[.slice A len0 c] W fun e w' => e = .returned (.tuple #[.int .i64 (d : Nat), .int .i64 (fm : Nat), .bool true]) ∧ Below W.heap.size W w') := fun A c W hc h => by
      have h3 := pkpoint_any A len0 c _ W hn hc h
      rw [h2, ← hfm] at h3
      exact h3
    have CP0 : Hid (∀ W, Row W a0 len0 bs0 → Calls Try.prog 16 #[.slice a0 len0 cap0] W fun e w' => e = .returned (.tuple #[.int .i64 (fq : Nat), .int .i64 (fm : Nat), .bool true]) ∧ Below W.heap.size W w') := fun W h => by
      have h3 := pkpoint_any a0 len0 cap0 bs0 W hn hl0 h
      unfold pkPoint at h3
      rw [if_pos hD, ← hfm, ← hfq] at h3
      exact h3
    have hdz := pkTold_nil hD
    rw [hdz] at C0
    obtain ⟨H, hH⟩ : ∃ H, H = pkHead len0 bs0 := ⟨_, rfl⟩
    rw [← hH] at C0 C1 Hl Ho hsame hc0v
    rw [← hv] at hv46
    have HC0 := Lib.hid hc0v
    have HSame := Lib.hid hsame
    have z20b : (20 : Int) ≤ (len0 : Int) := by omega
    have HV : Hid ((v = 4 → bs0.getD 0 0 / 16 = 4) ∧ (v = 6 → ¬ bs0.getD 0 0 / 16 = 4)) := by
      rcases pk_four_of (pkHeads_nil hD) with ⟨g4, _, gr⟩ | ⟨g6, _, gr⟩
      · exact ⟨fun _ => g4, fun h => by rw [hv, gr] at h; exact absurd (show (4 : Nat) = 6 from h) (by decide)⟩
      · exact ⟨fun h => by rw [hv, gr] at h; exact absurd (show (6 : Nat) = 4 from h) (by decide), fun _ => by omega⟩
    have H20 : Hid (20 ≤ len0) := by show 20 ≤ len0; omega
    have HCAP : Hid (len0 ≤ cap0 ∧ cap0 ≤ 140737488351232) := ⟨hl0, hc0⟩
    have HUN := Lib.hid (And.intro u1 (And.intro u2 u3))
    have HBK : Hid (rmBack bs0 d = if bs0.getD 0 0 / 16 = 4 then ((rmMark bs0 d).set 10 (bs0.getD 10 0)).set 11 (bs0.getD 11 0) else rmMark bs0 d) := rfl
    obtain ⟨S, hS⟩ : ∃ S, S = rmMark bs0 d := ⟨_, rfl⟩
    rw [← hS] at M0 C1 CP1 m1 m2 HBK
    have HQ1 : Hid (([] : List Nat).length + len0 ≤ 140737488355328) := by show 0 + len0 ≤ _; omega
    have HSB := Lib.hid m2
    have HSL := Lib.hid m1
    clear hS hH hv hfm hfq hdz hsame hc0v m1 m2 m3 m4 m5 m6 h1 h2 g20 gas gsn ok hD R0 hl0 hc0 hi1 hd hd64 hn hZ
    go_enter Try.func10, Try.ntmps10
    go_wp2_with fail
    refine (M0.out _ HR.out).mono ?_
    rintro e w1 ⟨A1, c1, rfl, hc1, r1, b1⟩
    have R1 := Lib.hid r1
    have K1 := Lib.hid hc1
    have B1 := Lib.hid b1
    clear r1 hc1 b1 M0
    go_wp2_with fail
    refine (C0.out _ (HR.out.below B1.out)).mono ?_
    rintro e w2 ⟨rfl, b2⟩
    go_upto_region 3 with (first | refine wpList_store_v rfl 25 (.tmp 8) (.tmp 31) rfl _ rfl tyhead (ArrV.new _ _ Z) hZl H Hl Ho rfl ?_ | fail)
    obtain ⟨V2, e2⟩ : ∃ V, V = (w2.alloc (.cells Z.toArray 25)).setCells w2.heap.size 0 H := ⟨_, rfl⟩
    obtain ⟨x2, hb2⟩ := ArrV.laid 25 w2 Z H (by rw [Hl, hZl])
    rw [← e2] at x2 hb2 ⊢
    have X2 := Lib.hid x2
    have R2 := Lib.hid (R1.out.below (below_both b2 hb2))
    have B2 := Lib.hid (below_both B1.out (below_both b2 hb2))
    obtain ⟨g2, hg2⟩ : ∃ g, g = w2.heap.size := ⟨_, rfl⟩
    rw [← hg2] at X2 ⊢
    clear e2 x2 hb2 b2 hg2 B1 R1 C0
    go_wp2_with fail
    refine (C1.out _ _ _ K1.out R2.out).mono ?_
    rintro e w3 ⟨rfl, b3⟩
    go_upto_region 10 with (first | refine wpList_store_v rfl 25 (.tmp 10) (.tmp 59) rfl _ rfl tyhead (ArrV.new _ _ Z) hZl H Hl Ho rfl ?_ | fail)
    obtain ⟨V3, e3⟩ : ∃ V, V = (w3.alloc (.cells Z.toArray 25)).setCells w3.heap.size 0 H := ⟨_, rfl⟩
    obtain ⟨x3, hb3⟩ := ArrV.laid 25 w3 Z H (by rw [Hl, hZl])
    rw [← e3] at x3 hb3 ⊢
    have X3 := Lib.hid x3
    have Y3 := Lib.hid (X2.out.below (below_both b3 hb3))
    have R3 := Lib.hid (R2.out.below (below_both b3 hb3))
    have B3 := Lib.hid (below_both B2.out (below_both b3 hb3))
    obtain ⟨g3, hg3⟩ : ∃ g, g = w3.heap.size := ⟨_, rfl⟩
    rw [← hg3] at X3 ⊢
    clear e3 x3 hb3 b3 hg3 B2 R2 C1 X2
    go_wp2_with fail
    refine (CP1.out _ _ _ K1.out R3.out).mono ?_
    rintro e w4 ⟨rfl, b4⟩
    have X4 := Lib.hid (X3.out.below b4)
    have Y4 := Lib.hid (Y3.out.below b4)
    have R4 := Lib.hid (R3.out.below b4)
    have B4 := Lib.hid (below_both B3.out b4)
    clear b4 X3 Y3 R3 B3 CP1
    go_wp2_with fail
    refine (CP0.out _ (HR.out.below B4.out)).mono ?_
    rintro e w5 ⟨rfl, b5⟩
    have X5 := Lib.hid (X4.out.below b5)
    have Y5 := Lib.hid (Y4.out.below b5)
    have R5 := Lib.hid (R4.out.below b5)
    have B5 := Lib.hid (below_both B4.out b5)
    have hsame := HSame.out
    clear b5 X4 Y4 R4 B4 CP0
    go_upto_region 14 with (first | refine wpList_load_vg (by rfl) 25 (.tmp 10) rfl _ rfl tyhead X5.out Hl ?_ | refine wpList_load_vg (by rfl) 25 (.tmp 8) rfl _ rfl tyhead Y5.out Hl ?_ | fail)
    have O0 : Hid (OutIs w5.heap.size (w5.alloc (.cells #[] 5)) (.slice (some ⟨w5.heap.size, 0, none⟩) 0 0) []) := OutIs.laid w5 [] w5.heap.size (Nat.le_refl _) (by decide)
    have Q5 : Hid (Below w5.heap.size w5 (w5.alloc (.cells #[] 5))) := (Below.refl _ _).alloc (Nat.le_refl _) _
    have RA := Lib.hid (R5.out.below Q5.out)
    clear hsame
    refine wp_region_lit ?_
    go_upto_region 15 with (first
      | (at_builtin; refine wpList_append_row_any (B := w5.heap.size) (W := w5) rfl (.tmp 103) (.tmp 104) rfl rfl rfl rfl O0.out RA.out Q5.out Q5.out.size HQ1.out ?_; intro v6 w6 ho6 hb6; rw [List.nil_append] at ho6; have O6 := Lib.hid ho6; have Q6 := Lib.hid hb6; clear ho6 hb6)
      | fail)
    obtain ⟨gy, cy, rfl, hgy, hcy, _⟩ := O6.out.block (by rw [HSL.out]; exact Nat.lt_of_lt_of_le (by decide) H20.out)
    have o6 := O6.out
    rw [HSL.out] at o6 hcy ⊢
    have O6 := Lib.hid o6
    have Y6 := Lib.hid (Y5.out.below Q6.out)
    have c0 := (Y6.out.get 0).trans HC0.out
    have B6 := Lib.hid (below_both B5.out Q6.out)
    have R6 := Lib.hid (HR.out.below B6.out)
    have GY := Lib.hid (And.intro hgy hcy)
    clear o6 hgy hcy O0 Q5 RA X5 Y5 R5 HSame
    have cy2 : ¬ cy = 2 := fun h => by have := GY.out.2; have := H20.out; omega
    have cap2 : ¬ cap0 = 2 := fun h => by have := HCAP.out.1; have := H20.out; omega
    have CALLS : Hid (∀ (U : World) (Y : List Nat), OutIs w5.heap.size U (.slice (some ⟨gy, 0, none⟩) len0 cy) Y → Row U a0 len0 bs0 → (∀ x ∈ Y, x < 256) → Y.length = len0 → unlike len0 len0 Y bs0 ≤ 6 → Y.drop 2 = bs0.drop 2 →
        (∀ W, Below U.heap.size U W → Calls Try.prog 42 #[] W fun e w' => e = .returned (.bool true) ∧ Below U.heap.size U w') ∧
        (∃ uu : Nat, ((uu : Int) ≤ 6) ∧ ∀ W, Below U.heap.size U W → Calls Try.prog 43 #[.slice (some ⟨gy, 0, none⟩) len0 cy, .slice a0 len0 cap0] W fun e w' => e = .returned (.int .i64 (uu : Nat)) ∧ Below U.heap.size U w') ∧
        (∀ W, Below U.heap.size U W → Calls Try.prog 35 #[.slice (some ⟨gy, 2, none⟩) (len0 - 2) (cy - 2), .slice (a0.map (·.add 2)) (len0 - 2) (cap0 - 2)] W fun e w' => e = .returned (.bool true) ∧ Below U.heap.size U w')) := fun U Y ho hr hby hlen hun hdr => by
      have h20 := H20.out
      have hcap := HCAP.out
      have hgy := GY.out
      have hrow : Row U (some ⟨gy, 0, none⟩) len0 Y := by
        obtain ⟨A, c, e, _, _, h3⟩ := ho.out hby
        rw [hlen] at e h3
        cases e
        exact h3
      refine ⟨fun W hW => (live16 W).mono fun e w' ⟨h1, h2⟩ => ⟨h1, below_both hW h2⟩, ⟨unlike len0 len0 Y bs0, by omega, fun W hW => ?_⟩, fun W hW => ?_⟩
      · refine (unlike_any (some ⟨gy, 0, none⟩) a0 len0 cy len0 cap0 Y bs0 W (by omega) (by omega) (hrow.below hW) (hr.below hW)).mono ?_
        rintro e w' ⟨h1, q, rfl⟩
        exact ⟨h1, below_drewN' hW q⟩
      · have p1 := (hrow.below hW).part 2 (len0 - 2) (by omega)
        obtain ⟨b, o, rfl, _, _⟩ := hr.addr (by omega)
        have p2 := (hr.below hW).part 2 (len0 - 2) (by omega)
        rw [List.take_of_length_le (by rw [List.length_drop, hlen]; exact Nat.le_refl _), hdr] at p1
        rw [List.take_of_length_le (by rw [List.length_drop, hr.1]; exact Nat.le_refl _)] at p2
        have hl2 : (bs0.drop 2).length = len0 - 2 := by rw [List.length_drop, hr.1]
        refine (same_vals _ _ (bs0.drop 2) W (by rw [hl2]; omega) ⟨some ⟨gy, 2, none⟩, cy - 2, by rw [hl2], by rw [hl2]; omega, by rw [hl2]; simpa using p1⟩ ⟨some ⟨b, o + 2, none⟩, cap0 - 2, by rw [hl2]; simp [Addr.add], by rw [hl2]; omega, by rw [hl2]; exact p2⟩).mono fun e w' ⟨h1, h2⟩ => ⟨h1, below_both hW h2⟩
    have k10 : (10 : Int) < (len0 : Int) := by omega
    have k11 : (11 : Int) < (len0 : Int) := by omega
    rcases hv46 with rfl | rfl
    · obtain ⟨b, o, rfl, hbl, hcb⟩ := R6.out.addr (by have := H20.out; omega)
      have hbl5 : b < w5.heap.size := by
        obtain ⟨b', o', e, hlt, _⟩ := (HR.out.below B5.out).addr (by have := H20.out; omega)
        cases e
        exact hlt
      have hne : b ≠ gy := by have := GY.out.1; omega
      have cb10 := hcb 10 (by have := H20.out; omega)
      have cb11 := hcb 11 (by have := H20.out; omega)
      have s10 := O6.out.cell HSL.out 10 (by have := H20.out; omega)
      have s11 := O6.out.cell HSL.out 11 (by have := H20.out; omega)
      have f10 := O6.out.frozen HSL.out 10
      have f11 := O6.out.frozen HSL.out 11
      have x10b := getD_byte HR.out.2.1 10
      have x11b := getD_byte HR.out.2.1 11
      have hb := HBK.out
      rw [if_pos (HV.out.1 rfl)] at hb
      obtain ⟨x10, hx10⟩ : ∃ x, x = bs0.getD 10 0 := ⟨_, rfl⟩
      obtain ⟨x11, hx11⟩ : ∃ x, x = bs0.getD 11 0 := ⟨_, rfl⟩
      rw [← hx10] at cb10 hb x10b
      rw [← hx11] at cb11 hb x11b
      have hU1 := O6.out.set HSL.out 10 x10
      have hU2 := hU1.set (by rw [List.length_set]; exact HSL.out) 11 x11
      have hbU : Below w5.heap.size w5 ((w6.setCell ⟨gy, 10, none⟩ (.int .u8 (x10 : Nat))).setCell ⟨gy, 11, none⟩ (.int .u8 (x11 : Nat))) := (Q6.out.setCell (p := ⟨gy, 10, none⟩) GY.out.1 _).setCell (p := ⟨gy, 11, none⟩) GY.out.1 _
      have cb11' : (w6.setCell ⟨gy, 10, none⟩ (.int .u8 (x10 : Nat))).cell? ⟨b, o + 11, none⟩ = some (.int .u8 (x11 : Nat)) := by rw [World.cell?_setCell_other _ _ _ _ (by intro e; exact hne (congrArg Addr.block e.symm))]; exact cb11
      have HU2 := Lib.hid hU2
      have HBU := Lib.hid hbU
      obtain ⟨u1, u2, u3⟩ := HUN.out
      rw [hb] at u1 u2 u3
      clear hcb hbl hbl5 hx10 hx11 hU1 hU2 hbU
      go_upto_region 16 with fail
      go_region
      obtain ⟨U, eU⟩ : ∃ U, U = ((w6.setCell ⟨gy, 10, none⟩ (.int .u8 (x10 : Nat))).setCell ⟨gy, 11, none⟩ (.int .u8 (x11 : Nat))).drew := ⟨_, rfl⟩
      have oU : OutIs w5.heap.size U (.slice (some ⟨gy, 0, none⟩) len0 cy) ((S.set 10 x10).set 11 x11) := by rw [eU]; exact HU2.out
      have bU : Below w5.heap.size w5 U := by rw [eU]; exact HBU.out.drew
      rw [← eU]
      have BU := Lib.hid (below_both B5.out bU)
      obtain ⟨CL, ⟨uu, hu6, CU⟩, CS⟩ := CALLS.out U _ oU (HR.out.below BU.out) (fun z hz => by
        rcases List.mem_or_eq_of_mem_set hz with h | h
        · rcases List.mem_or_eq_of_mem_set h with h | h
          · exact HSB.out z h
          · omega
        · omega) (by rw [List.length_set, List.length_set]; exact HSL.out) u1 u2
      have CL := Lib.hid CL
      have CU := Lib.hid CU
      have CS := Lib.hid CS
      clear hb u1 u2 u3 CALLS HUN HBK HV HC0 Y6 O6 R6 HSB HSL HQ1 eU oU bU HU2 HBU cb10 cb11 cb11' s10 s11 f10 f11 x10b x11b hne k10 k11 c0
      go_wp2_with fail
      go_region_with (first
        | (go_at_call 42; refine (CL.out _ (by exact (Below.refl _ _).drew)).mono ?_; rintro e w7 ⟨rfl, b7⟩)
        | (go_at_call 43; refine (CU.out _ (by exact b7)).mono ?_; rintro e w8 ⟨rfl, b8⟩)
        | (go_at_call 35; refine (CS.out _ (by exact b8)).mono ?_; rintro e w9 ⟨rfl, b9⟩)
        | fail)
      all_goals
        go_wp2_with fail
        go_ret
        exact ⟨rfl, below_both BU.out b9⟩
    · have hb := HBK.out
      rw [if_neg (HV.out.2 rfl)] at hb
      obtain ⟨u1, u2, u3⟩ := HUN.out
      rw [hb] at u1 u2 u3
      obtain ⟨CL, ⟨uu, hu6, CU⟩, CS⟩ := CALLS.out w6 S O6.out R6.out HSB.out HSL.out u1 u2
      have CL := Lib.hid CL
      have CU := Lib.hid CU
      have CS := Lib.hid CS
      clear hb u1 u2 u3 CALLS HUN HBK HV HC0 Y6 O6 R6 HSB HSL HQ1
      go_upto_region 17 with fail
      go_region_with (first
        | (go_at_call 42; refine (CL.out _ (by exact (Below.refl _ _).drew)).mono ?_; rintro e w7 ⟨rfl, b7⟩)
        | (go_at_call 43; refine (CU.out _ (by exact b7)).mono ?_; rintro e w8 ⟨rfl, b8⟩)
        | (go_at_call 35; refine (CS.out _ (by exact b8)).mono ?_; rintro e w9 ⟨rfl, b9⟩)
        | fail)
      all_goals
        go_wp2_with fail
        go_ret
        exact ⟨rfl, below_both B6.out b9⟩
  · have hne : pkTold len0 bs0 ≠ 0 := fun h => hD (pkTold_zero.1 h)
    have M0 : Hid (∀ W, Row W a0 len0 bs0 → Calls Try.prog 41 #[.slice a0 len0 cap0, .int .i64 (d : Nat)] W fun e w' => ∃ A c, e = .returned (.tuple #[.slice A 0 c, .int .i64 (pkTold len0 bs0 : Nat), .int .i64 0]) ∧ Below W.heap.size W w') := fun W h => (rmmark_any a0 len0 cap0 bs0 (d : Int) W hn hl0 h).mono fun e w' hh => by
      obtain ⟨v, rfl, ho, hb⟩ := hh
      have hres : rmRes len0 bs0 (d : Int) = (pkTold len0 bs0, 0) := by unfold rmRes; rw [if_pos (by omega)]
      have hout : rmOut len0 bs0 (d : Int) = [] := by unfold rmOut; rw [if_pos (by omega), if_neg hD]
      rw [hres]
      rw [hout] at ho
      obtain ⟨A, c, rfl, _, _, _⟩ := ho.out (by simp)
      exact ⟨A, c, rfl, hb⟩
    obtain ⟨H, hH⟩ : ∃ H, H = pkHead len0 bs0 := ⟨_, rfl⟩
    obtain ⟨t, ht⟩ : ∃ d, d = pkTold len0 bs0 := ⟨_, rfl⟩
    rw [← hH, ← ht] at C0
    rw [← hH] at Hl Ho
    rw [← ht] at M0 hne
    have db : ((t : Int) != 0) = true := bne_iff_ne.2 (by omega)
    have db2 : ((t : Int) != (t : Int)) = false := by simp
    clear hH ht hD hne R0 hl0 hc0 hi1 hd hd64 hn hZ
    go_enter Try.func10, Try.ntmps10
    go_wp2_with fail
    refine (M0.out _ HR.out).mono ?_
    rintro e w1 ⟨A1, c1, rfl, b1⟩
    have B1 := Lib.hid b1
    clear b1 M0
    go_wp2_with fail
    refine (C0.out _ (HR.out.below B1.out)).mono ?_
    rintro e w2 ⟨rfl, b2⟩
    go_upto_region 3 with (first | refine wpList_store_v rfl 25 (.tmp 8) (.tmp 31) rfl _ rfl tyhead (ArrV.new _ _ Z) hZl H Hl Ho rfl ?_ | fail)
    obtain ⟨V2, e2⟩ : ∃ V, V = (w2.alloc (.cells Z.toArray 25)).setCells w2.heap.size 0 H := ⟨_, rfl⟩
    obtain ⟨x2, hb2⟩ := ArrV.laid 25 w2 Z H (by rw [Hl, hZl])
    rw [← e2] at x2 hb2 ⊢
    have B2 := Lib.hid (below_both B1.out (below_both b2 hb2))
    clear e2 x2 hb2 b2 B1 C0
    go_wp2_with fail
    refine (live16 _).mono ?_
    rintro e w3 ⟨rfl, b3⟩
    have B3 := Lib.hid (below_both B2.out b3)
    clear b3
    go_wp2_with fail
    go_ret
    exact ⟨rfl, B3.out⟩
end Go.Proofs.Ytjpaicdbnadoeaa
