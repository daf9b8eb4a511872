/-
  The walk of the statement PacketParses.
-/
import Derived.Test.YtcjaidpmfjnhpaaRPk6
import Derived.Test.YtcjaidpmfjnhpaaSames
namespace Go.Proofs.Ytcjaidpmfjnhpaa
open Go.RowKit
set_option linter.unusedVariables false

theorem pksxall_len (n : Nat) (bs : List Nat) : (sxall n bs).length ≤ 5 := by
  unfold sxall
  split
  · simp
  · split
    · simp
    · exact (defects_asc _).2.2
theorem pkDefs_len (n : Nat) (bs : List Nat) : (pkDefs n bs).length ≤ 5 := by
  unfold pkDefs
  split
  · unfold pkHeads
    split
    · show 1 ≤ 5; decide
    · split
      · exact fhall_len n bs
      · split
        · exact pksxall_len n bs
        · show 1 ≤ 5; decide
  · split
    · show 1 ≤ 5; decide
    · exact Nat.zero_le _
theorem pkPoint_is (n : Nat) (bs : List Nat) : ∃ (x y : Int) (b : Bool), pkPoint n bs = .tuple #[.int .i64 x, .int .i64 y, .bool b] := by
  unfold pkPoint
  split
  · exact ⟨_, _, _, rfl⟩
  · exact ⟨_, _, _, rfl⟩
theorem pkHead_same {n : Nat} {bs : List Nat} (hl : bs.length = n) (hb : ∀ x ∈ bs, x < 256) (w : World) : (Op.equalIn 10000 25 (.agg (pkHead n bs).toArray) (.agg (pkHead n bs).toArray)).run Try.prog w = .ok true w := by
  unfold pkHead
  split
  · exact head_same (pkRec_ok hl hb (pkHeads_nil (by assumption))) w
  · exact head_same rz_ok w
theorem pkKey_same {n : Nat} {bs : List Nat} (hl : bs.length = n) (hb : ∀ x ∈ bs, x < 256) (w : World) : (Op.equalIn 10000 32 (.agg (pkKey n bs).toArray) (.agg (pkKey n bs).toArray)).run Try.prog w = .ok true w := by
  unfold pkKey
  split
  · exact keyv_same (pkRec_ok hl hb (pkHeads_nil (by assumption))) w
  · exact keyv_same rz_ok w
set_option maxRecDepth 10000 in
set_option maxHeartbeats 6400000 in
theorem walk_PacketParses (a0 : Option Addr) (len0 cap0 : Nat) (bs0 : List Nat) (n1 : Int) (w : World) (R0 : Row w a0 len0 bs0) (hl0 : len0 ≤ cap0) (hc0 : cap0 ≤ 140737488351232) (lo1 : -9223372036854775808 ≤ n1) (hi1 : n1 ≤ 9223372036854775807) :
    Calls Try.prog 3 #[.slice a0 len0 cap0, .int .i64 n1] w fun e w' => e = .returned (.bool true) ∧ Below w.heap.size w w' := by
  have hn : len0 ≤ 140737488351232 := by omega
  have C1 := Lib.hid (fun w (hR : Row w a0 len0 bs0) => pkparse_any a0 len0 cap0 bs0 w hn hl0 hR)
  have C2 := Lib.hid (fun w (hR : Row w a0 len0 bs0) => rpkparse_any a0 len0 cap0 bs0 w hn hl0 hR)
  have C3 := Lib.hid (fun w (hR : Row w a0 len0 bs0) => pkpoint_any a0 len0 cap0 bs0 w hn hl0 hR)
  have C4 := Lib.hid (fun w (hR : Row w a0 len0 bs0) => rpkpoint_any a0 len0 cap0 bs0 w hn hl0 hR)
  have C5 := Lib.hid (fun w (hR : Row w a0 len0 bs0) => pkkey_any a0 len0 cap0 bs0 w hn hl0 hR)
  have C6 := Lib.hid (fun w (hR : Row w a0 len0 bs0) => rpkkey_any a0 len0 cap0 bs0 w hn hl0 hR)
  have C7 := Lib.hid (fun w (hR : Row w a0 len0 bs0) => pkall_any a0 len0 cap0 bs0 w hn hl0 hR)
  have C8 := Lib.hid (fun w (hR : Row w a0 len0 bs0) => rpkall_any a0 len0 cap0 bs0 w hn hl0 hR)
  have CN := Lib.hid (fun w => pkname_any n1 w lo1 hi1)
  have CM := Lib.hid (fun w => rpkname_any n1 w lo1 hi1)
  have CL := Lib.hid live14
  have HLL := Lib.hid (Nat.le_trans (pkDefs_len len0 bs0) (by decide : 5 ≤ 1000000))
  obtain ⟨px, py, pb0, hpt⟩ := pkPoint_is len0 bs0
  rw [hpt] at C3 C4
  obtain ⟨Hl, Ho⟩ := pkHead_all R0.1 R0.2.1
  obtain ⟨Kl, Ko⟩ := pkKey_all R0.1 R0.2.1
  have hs1 : ∀ w : World, (Op.equalIn 10000 25 (.agg (pkHead len0 bs0).toArray) (.agg (pkHead len0 bs0).toArray)).run Try.prog w = .ok true w := fun w => pkHead_same R0.1 R0.2.1 w
  have hs2 : ∀ w : World, (Op.equalIn 10000 32 (.agg (pkKey len0 bs0).toArray) (.agg (pkKey len0 bs0).toArray)).run Try.prog w = .ok true w := fun w => pkKey_same R0.1 R0.2.1 w
  have hlitZ := hd_lit
  obtain ⟨Z, hZ⟩ : ∃ Z, Z = hdCells RZ false 0 0 := ⟨_, rfl⟩
  have hZl : Z.length = 40 := by rw [hZ]; rfl
  have hlitQ := ky_lit
  obtain ⟨Q, hQ⟩ : ∃ Q, Q = kyCells RZ false 0 0 := ⟨_, rfl⟩
  have hQl : Q.length = 38 := by rw [hQ]; rfl
  rw [← hZ] at hlitZ
  rw [← hQ] at hlitQ
  have HR := Lib.hid R0
  obtain ⟨H, hH⟩ : ∃ H, H = pkHead len0 bs0 := ⟨_, rfl⟩
  obtain ⟨K, hK⟩ : ∃ K, K = pkKey len0 bs0 := ⟨_, rfl⟩
  obtain ⟨L, hL⟩ : ∃ D, D = pkDefs len0 bs0 := ⟨_, rfl⟩
  obtain ⟨d, hd⟩ : ∃ d, d = pkTold len0 bs0 := ⟨_, rfl⟩
  obtain ⟨nm, hnm⟩ : ∃ s, s = pkName n1 := ⟨_, rfl⟩
  rw [← hH, ← hd] at C1 C2
  rw [← hK, ← hd] at C5 C6
  rw [← hL] at C7 C8 HLL
  rw [← hnm] at CN CM
  rw [← hH] at Hl Ho hs1
  rw [← hK] at Kl Ko hs2
  have HS1 := Lib.hid hs1
  have HS2 := Lib.hid hs2
  clear hH hK hL hd hnm hZ hQ hs1 hs2 hpt R0 hl0 hc0 hn lo1 hi1
  go_enter Try.func3, Try.ntmps3
  go_wp2_with fail
  refine (C1.out _ HR.out).mono ?_
  rintro e w1 ⟨rfl, b1⟩
  go_upto_region 2 with (first | refine wpList_store_v rfl 25 (.tmp 5) (.tmp 22) rfl _ rfl tyhead (ArrV.new _ _ Z) hZl H Hl Ho rfl ?_ | fail)
  obtain ⟨V1, e1⟩ : ∃ V, V = (w1.alloc (.cells Z.toArray 25)).setCells w1.heap.size 0 H := ⟨_, rfl⟩
  obtain ⟨x1, hb1⟩ := ArrV.laid 25 w1 Z H (by rw [Hl, hZl])
  rw [← e1] at x1 hb1 ⊢
  have X1 := Lib.hid x1
  have B1 := Lib.hid (below_both b1 hb1)
  obtain ⟨g1, hg1⟩ : ∃ g, g = w1.heap.size := ⟨_, rfl⟩
  rw [← hg1] at X1 ⊢
  clear e1 x1 hb1 b1 hg1 C1
  go_wp2_with fail
  refine (C2.out _ (HR.out.below B1.out)).mono ?_
  rintro e w2 ⟨rfl, b2⟩
  go_upto_region 3 with (first | refine wpList_store_v rfl 25 (.tmp 7) (.tmp 27) rfl _ rfl tyhead (ArrV.new _ _ Z) hZl H Hl Ho rfl ?_ | fail)
  obtain ⟨V2, e2⟩ : ∃ V, V = (w2.alloc (.cells Z.toArray 25)).setCells w2.heap.size 0 H := ⟨_, rfl⟩
  obtain ⟨x2, hb2⟩ := ArrV.laid 25 w2 Z H (by rw [Hl, hZl])
  rw [← e2] at x2 hb2 ⊢
  have X2 := Lib.hid x2
  have X1 := Lib.hid (X1.out.below (below_both b2 hb2))
  have B2 := Lib.hid (below_both B1.out (below_both b2 hb2))
  obtain ⟨g2, hg2⟩ : ∃ g, g = w2.heap.size := ⟨_, rfl⟩
  rw [← hg2] at X2 ⊢
  clear e2 x2 hb2 b2 hg2 C2 B1
  go_wp2_with fail
  refine (C3.out _ (HR.out.below B2.out)).mono ?_
  rintro e w3 ⟨rfl, b3⟩
  have X1 := Lib.hid (X1.out.below b3)
  have X2 := Lib.hid (X2.out.below b3)
  have B3 := Lib.hid (below_both B2.out b3)
  clear b3 B2 C3
  go_wp2_with fail
  refine (C4.out _ (HR.out.below B3.out)).mono ?_
  rintro e w4 ⟨rfl, b4⟩
  have X1 := Lib.hid (X1.out.below b4)
  have X2 := Lib.hid (X2.out.below b4)
  have B4 := Lib.hid (below_both B3.out b4)
  clear b4 B3 C4
  go_wp2_with fail
  refine (C5.out _ (HR.out.below B4.out)).mono ?_
  rintro e w5 ⟨rfl, b5⟩
  go_upto_region 6 with (first | refine wpList_store_v rfl 32 (.tmp 15) (.tmp 44) rfl _ rfl pktykey (ArrV.new _ _ Q) hQl K Kl Ko rfl ?_ | fail)
  obtain ⟨V5, e5⟩ : ∃ V, V = (w5.alloc (.cells Q.toArray 32)).setCells w5.heap.size 0 K := ⟨_, rfl⟩
  obtain ⟨x5, hb5⟩ := ArrV.laid 32 w5 Q K (by rw [Kl, hQl])
  rw [← e5] at x5 hb5 ⊢
  have X5 := Lib.hid x5
  have X1 := Lib.hid (X1.out.below (below_both b5 hb5))
  have X2 := Lib.hid (X2.out.below (below_both b5 hb5))
  have B5 := Lib.hid (below_both B4.out (below_both b5 hb5))
  obtain ⟨g5, hg5⟩ : ∃ g, g = w5.heap.size := ⟨_, rfl⟩
  rw [← hg5] at X5 ⊢
  clear e5 x5 hb5 b5 hg5 C5 B4
  go_wp2_with fail
  refine (C6.out _ (HR.out.below B5.out)).mono ?_
  rintro e w6 ⟨rfl, b6⟩
  go_upto_region 7 with (first | refine wpList_store_v rfl 32 (.tmp 17) (.tmp 49) rfl _ rfl pktykey (ArrV.new _ _ Q) hQl K Kl Ko rfl ?_ | fail)
  obtain ⟨V6, e6⟩ : ∃ V, V = (w6.alloc (.cells Q.toArray 32)).setCells w6.heap.size 0 K := ⟨_, rfl⟩
  obtain ⟨x6, hb6⟩ := ArrV.laid 32 w6 Q K (by rw [Kl, hQl])
  rw [← e6] at x6 hb6 ⊢
  have X6 := Lib.hid x6
  have X1 := Lib.hid (X1.out.below (below_both b6 hb6))
  have X2 := Lib.hid (X2.out.below (below_both b6 hb6))
  have X5 := Lib.hid (X5.out.below (below_both b6 hb6))
  have B6 := Lib.hid (below_both B5.out (below_both b6 hb6))
  obtain ⟨g6, hg6⟩ : ∃ g, g = w6.heap.size := ⟨_, rfl⟩
  rw [← hg6] at X6 ⊢
  clear e6 x6 hb6 b6 hg6 C6 B5
  go_wp2_with fail
  refine (CL.out _).mono ?_
  rintro e w7 ⟨rfl, b7⟩
  have X1 := Lib.hid (X1.out.below b7)
  have X2 := Lib.hid (X2.out.below b7)
  have X5 := Lib.hid (X5.out.below b7)
  have X6 := Lib.hid (X6.out.below b7)
  have B7 := Lib.hid (below_both B6.out b7)
  have hs1 := HS1.out
  have hs2 := HS2.out
  clear b7 B6 CL
  go_wp2_with (first | refine wpList_load_vg rfl 25 (.tmp 5) rfl _ rfl tyhead X1.out Hl ?_ | refine wpList_load_vg rfl 25 (.tmp 7) rfl _ rfl tyhead X2.out Hl ?_ | refine wpList_load_vg rfl 32 (.tmp 15) rfl _ rfl pktykey X5.out Kl ?_ | refine wpList_load_vg rfl 32 (.tmp 17) rfl _ rfl pktykey X6.out Kl ?_ | fail)
  refine (C7.out _ (HR.out.below B7.out)).mono ?_
  rintro e w8 ⟨A8, c8, rfl, b8, d8⟩
  have B8 := Lib.hid (below_both B7.out b8)
  have D8 := Lib.hid d8
  clear b8 d8 B7
  go_wp2_with fail
  refine (C8.out _ (HR.out.below B8.out)).mono ?_
  rintro e w9 ⟨A9, c9, rfl, b9, d9⟩
  have B9 := Lib.hid (below_both B8.out b9)
  have D8 := Lib.hid (D8.out.below b9)
  have D9 := Lib.hid d9
  clear b9 d9 B8
  go_wp2_with fail
  refine (samedefs L _ _ _ HLL.out D8.out D9.out).mono ?_
  rintro e w10 ⟨rfl, b10⟩
  have B10 := Lib.hid (below_both B9.out b10)
  clear b10 B9 D8 D9
  go_wp2_with fail
  refine (CN.out _).mono ?_
  rintro e w11 ⟨rfl, b11⟩
  have B11 := Lib.hid (below_both B10.out b11)
  clear b11 B10
  go_wp2_with fail
  refine (CM.out _).mono ?_
  rintro e w12 ⟨rfl, b12⟩
  have B12 := Lib.hid (below_both B11.out b12)
  clear b12 B11
  go_wp2_with fail
  go_ret
  exact ⟨rfl, B12.out⟩
end Go.Proofs.Ytcjaidpmfjnhpaa
