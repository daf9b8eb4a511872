/-
  The walk of the statement FourheadWrites.
-/
import Derived.Test.YteldjcdoohafcaaRFh5
import Derived.Test.YteldjcdoohafcaaFh16
namespace Go.Proofs.Yteldjcdoohafcaa
open Go.RowKit
set_option linter.unusedVariables false

/-- It answers bytes and an error's number. -/
def BytesErr (w : World) (L : List Nat) (E : Int) (e : Ending) (w' : World) : Prop := ∃ v, e = .returned (.tuple #[v, .int .i64 E]) ∧ ByteVal w' v L ∧ Below w.heap.size w w'
theorem write_fix (f : FourV) (n : Nat) (os : List Nat) (hs : f.src.length = 4) (hd : f.dst.length = 4) (bs : ∀ x ∈ f.src, x < 256) (bd : ∀ x ∈ f.dst, x < 256) (ho : ∀ x ∈ os, x < 256) (hol : os.length ≤ 140737488355328) :
    ∃ (L : List Nat) (E : Int), L.length ≤ 9223372036854775807 ∧ ∀ w e w', WriteIs f n os w e w' → BytesErr w L E e w' := by
  by_cases hf : f.fits
  · by_cases hn : (n : Int) = 4 * f.k0 - 20
    · refine ⟨f.bytes os, 0, ?_, fun w e w' ⟨hb, _, _, h3⟩ => ?_⟩
      · unfold FourV.bytes
        rw [List.length_append, List.length_append, List.length_append, hs, hd]
        have h12 : (head12 f.k0.toNat f.k1.toNat f.k2.toNat f.k3.toNat f.k4.toNat f.k5.toNat f.k6.toNat f.k7.toNat f.k8.toNat).length = 12 := rfl
        omega
      · obtain ⟨v, he, hO⟩ := h3 hf hn
        exact ⟨v, he, hO.val (FourV.bytes_byte hf bs bd ho), hb⟩
    · exact ⟨[], 2, by decide, fun w e w' ⟨hb, _, h2, _⟩ => ⟨_, h2 hf hn, ByteVal.nil _, hb⟩⟩
  · exact ⟨[], 1, by decide, fun w e w' ⟨hb, h1, _, _⟩ => ⟨_, h1 hf, ByteVal.nil _, hb⟩⟩
theorem seal_fix (A : Option Addr) (n c : Nat) (bs : List Nat) (hn : n ≤ 140737488355328) (hc : n ≤ c) (hl : bs.length = n) (hb : ∀ x ∈ bs, x < 256) :
    ∃ (L : List Nat) (E : Int), L.length ≤ 9223372036854775807 ∧ (∀ w, Row w A n bs → Calls Try.prog 25 #[.slice A n c] w (BytesErr w L E)) ∧
      ∀ w, Row w A n bs → Calls Try.prog 26 #[.slice A n c] w (BytesErr w L E) := by
  by_cases hd : fhdef n bs = 0
  · obtain ⟨z0, z1, z2, z3, z4⟩ := fhdef_zero hd
    have hlen := fhseal_length bs n (4 * (bs.getD 0 0 % 16)) hl (by omega) (by omega)
    have hbyte := fhseal_byte (L := bs) (4 * (bs.getD 0 0 % 16)) hb
    have key : ∀ w e w', SealIs w (fhseal bs (4 * (bs.getD 0 0 % 16))) e w' → BytesErr w (fhseal bs (4 * (bs.getD 0 0 % 16))) 0 e w' := fun w e w' ⟨v, he, hO, hb⟩ => ⟨v, he, hO.val hbyte, hb⟩
    exact ⟨_, 0, by rw [hlen]; omega, fun w h => (fhseal_ok A n c bs w hn hc h hd).mono (key w), fun w h => (rfhseal_ok A n c bs w hn hc h hd).mono (key w)⟩
  · have key : ∀ w e w', (e = .returned (.tuple #[.slice none 0 0, .int .i64 3]) ∧ Below w.heap.size w w') → BytesErr w [] 3 e w' := fun w e w' ⟨he, hb⟩ => ⟨_, he, ByteVal.nil _, hb⟩
    exact ⟨[], 3, by decide, fun w h => (fhseal_bad A n c bs w hn hc h hd).mono (key w), fun w h => (rfhseal_bad A n c bs w hn hc h hd).mono (key w)⟩
set_option maxRecDepth 10000 in
set_option maxHeartbeats 6400000 in
theorem walk_FourheadWrites (f : FourV) (a1 : Option Addr) (len1 cap1 : Nat) (bs1 : List Nat) (a2 : Option Addr) (len2 cap2 : Nat) (bs2 : List Nat) (w : World) (fs : f.src.length = 4) (fd : f.dst.length = 4) (fsb : ∀ x ∈ f.src, x < 256) (fdb : ∀ x ∈ f.dst, x < 256)
    (fk : -9223372036854775808 ≤ f.k0 ∧ f.k0 ≤ 9223372036854775807)
    (R1 : Row w a1 len1 bs1) (hl1 : len1 ≤ cap1) (hc1 : cap1 ≤ 140737488351232) (R2 : Row w a2 len2 bs2) (hl2 : len2 ≤ cap2) (hc2 : cap2 ≤ 140737488351232) :
    Calls Try.prog 4 #[.agg f.cells.toArray, .slice a1 len1 cap1, .slice a2 len2 cap2] w fun e w' => e = .returned (.bool true) ∧ Below w.heap.size w w' := by
  obtain ⟨L1, E1, hL1, HW⟩ := write_fix f len1 bs1 fs fd fsb fdb R1.2.1 (by rw [R1.1]; omega)
  obtain ⟨L2, E2, hL2, HS, HT⟩ := seal_fix a2 len2 cap2 bs2 (by omega) hl2 R2.1 R2.2.1
  have CW := Lib.hid (fun w hR => (fhwrite_any f a1 len1 cap1 bs1 w fs fd fsb fdb (by omega) hR).mono (HW w))
  have CV := Lib.hid (fun w hR => (rfhwrite_any f a1 len1 cap1 bs1 w fs fd fsb fdb (by omega) hR fk).mono (HW w))
  have CS := Lib.hid HS
  have CT := Lib.hid HT
  unfold BytesErr at CW CV CS CT
  obtain ⟨C, hC⟩ : ∃ C, C = f.cells := ⟨_, rfl⟩
  have hCl : C.length = 17 := by rw [hC]; exact FourV.cells_len fs fd
  rw [← hC] at CW CV ⊢
  have HR1 := Lib.hid R1
  have HR2 := Lib.hid R2
  have HL := Lib.hid (And.intro hL1 hL2)
  have HA0 : Hid (ArrV 25 (w.alloc (.cells C.toArray 25)) w.heap.size C) := ArrV.new _ w C
  have HB0 : Hid (Below w.heap.size w (w.alloc (.cells C.toArray 25))) := (Below.refl _ _).alloc (Nat.le_refl _) _
  clear HW HS HT hC R1 R2 hl1 hc1 hl2 hc2 fs fd fsb fdb fk hL1 hL2
  go_enter Try.func4, Try.ntmps4
  go_upto_region 1 with fail
  obtain ⟨V0, eV0⟩ : ∃ V, V = w.alloc (.cells C.toArray 25) := ⟨_, rfl⟩
  rw [← eV0] at HA0 HB0 ⊢
  clear eV0
  refine wp_region_lit ?_
  go_wp2_with (refine wpList_load_v rfl 25 (.tmp 3) rfl _ rfl tyfour HA0.out hCl ?_)
  refine (CW.out _ (HR1.out.below HB0.out)).mono ?_
  rintro e w1 ⟨v1, rfl, n1, b1⟩
  have A1 := Lib.hid (HA0.out.below b1)
  have B1 := Lib.hid (below_both HB0.out b1)
  have V1 := Lib.hid n1
  clear b1 n1 HA0 HB0
  go_upto_region 2 with fail
  refine wp_region_lit ?_
  go_wp2_with (refine wpList_load_v rfl 25 (.tmp 3) rfl _ rfl tyfour A1.out hCl ?_)
  refine (CV.out _ (HR1.out.below B1.out)).mono ?_
  rintro e w2 ⟨v2, rfl, n2, b2⟩
  have B2 := Lib.hid (below_both B1.out b2)
  have V1 := Lib.hid (V1.out.below b2)
  have V2 := Lib.hid n2
  clear b2 n2 A1 B1
  go_wp2_with fail
  refine (CS.out _ (HR2.out.below B2.out)).mono ?_
  rintro e w3 ⟨v3, rfl, n3, b3⟩
  have B3 := Lib.hid (below_both B2.out b3)
  have V1 := Lib.hid (V1.out.below b3)
  have V2 := Lib.hid (V2.out.below b3)
  have V3 := Lib.hid n3
  clear b3 n3 B2
  go_wp2_with fail
  refine (CT.out _ (HR2.out.below B3.out)).mono ?_
  rintro e w4 ⟨v4, rfl, n4, b4⟩
  have B4 := Lib.hid (below_both B3.out b4)
  have V1 := Lib.hid (V1.out.below b4)
  have V2 := Lib.hid (V2.out.below b4)
  have V3 := Lib.hid (V3.out.below b4)
  have V4 := Lib.hid n4
  clear b4 n4 B3
  go_wp2_with fail
  refine (live10 _).mono ?_
  rintro e w5 ⟨rfl, b5⟩
  have B5 := Lib.hid (below_both B4.out b5)
  have V1 := Lib.hid (V1.out.below b5)
  have V2 := Lib.hid (V2.out.below b5)
  have V3 := Lib.hid (V3.out.below b5)
  have V4 := Lib.hid (V4.out.below b5)
  clear b5 B4
  have q1 : (E1 == E1) = true := by simp
  have q2 : (E2 == E2) = true := by simp
  go_wp2_with fail
  refine (same_vals _ _ L1 _ HL.out.1 V1.out V2.out).mono ?_
  rintro e w6 ⟨rfl, b6⟩
  have B6 := Lib.hid (below_both B5.out b6)
  have V3 := Lib.hid (V3.out.below b6)
  have V4 := Lib.hid (V4.out.below b6)
  clear b6 B5 V1 V2
  go_wp2_with fail
  refine (same_vals _ _ L2 _ HL.out.2 V3.out V4.out).mono ?_
  rintro e w7 ⟨rfl, b7⟩
  have B7 := Lib.hid (below_both B6.out b7)
  clear b7 B6 V3 V4
  go_wp2_with fail
  go_ret
  exact ⟨rfl, B7.out⟩
end Go.Proofs.Yteldjcdoohafcaa
