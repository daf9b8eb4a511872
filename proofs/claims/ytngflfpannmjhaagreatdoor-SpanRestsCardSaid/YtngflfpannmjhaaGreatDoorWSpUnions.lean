/-
  The walk of SpanUnions.
-/
import Derived.Test.YtngflfpannmjhaaGreatDoorSpR4
import Derived.Test.YtngflfpannmjhaaGreatDoorLive08
namespace Go.Proofs.YtngflfpannmjhaaGreatDoor
open Go.RowKit Go.Shelf
set_option linter.unusedVariables false

theorem same_val (v v' : Value) (L : List Sp) (w : World) (h : ValSp w v L) (h' : ValSp w v' L) (hl : L.length ≤ 8796093022206) : Calls Tryz.prog 11 #[v, v'] w fun e w' => e = .returned (.bool true) ∧ Below w.heap.size w w' := by
  obtain ⟨A, c, rfl, _, hR⟩ := h
  obtain ⟨A', c', rfl, _, hR'⟩ := h'
  exact rssame_yes A A' L.length c c' L w hl hR hR'
theorem ints_val (v v' : Value) (L : List Int) (w : World) (h : ValZ w v L) (h' : ValZ w v' L) (hl : L.length ≤ 8796093022206) : Calls Tryz.prog 12 #[v, v'] w fun e w' => e = .returned (.bool true) ∧ Below w.heap.size w w' := by
  obtain ⟨A, c, rfl, _, hR⟩ := h
  obtain ⟨A', c', rfl, _, hR'⟩ := h'
  exact rssameints_yes A A' L.length c c' L w hl hR hR'
theorem valSp_nil (w : World) : ValSp w (.slice none 0 0) [] := ⟨none, 0, rfl, Nat.le_refl _, SpRow.nil _ _⟩
theorem valZ_nil (w : World) : ValZ w (.slice none 0 0) [] := ⟨none, 0, rfl, Nat.le_refl _, RowZ.nil _ _⟩

set_option maxRecDepth 10000 in
set_option maxHeartbeats 3200000 in
theorem wsu_ok (A : Option Addr) (n cap : Nat) (L : List Sp) (w : World) (hT : Tabs w) (hR : SpRow w A n L) (hn : n ≤ 8796093021952) (hok : ∀ s ∈ L, OkS s) :
    Calls Tryz.prog 3 #[.slice A n cap] w fun e w' => e = .returned (.bool true) ∧ Below w.heap.size w w' := by
  have T := Lib.hid hT
  have R := Lib.hid hR
  have HOK := Lib.hid hok
  have HN := Lib.hid hn
  have CU := Lib.hid (sunion_ok A n cap L w (by omega) hR hok)
  clear hT hR hok hn
  go_enter Tryz.func3, Tryz.ntmps3
  go_wp2_with fail
  refine CU.out.mono ?_
  rintro e w1 ⟨v1, S, rfl, hS, ho, hb⟩
  have hSok : ∀ s ∈ S, OkS s := fun s hs => HOK.out s (hS.perm.mem_iff.1 hs)
  have hUok : ∀ s ∈ uni S, OkS s := fold_ok S [] (by simp) hSok
  have B := Lib.hid hb
  have V1 := Lib.hid (ho.val fun s hs => by have := hUok s hs; unfold OkS at this; unfold I64; omega)
  have HS := Lib.hid hS
  have R := Lib.hid (R.out.below hb)
  have CR := Lib.hid (runion_ok A n cap L w1 (by have := HN.out; omega) R.out HOK.out)
  clear hb ho hS hSok hUok CU
  go_wp2_with fail
  refine CR.out.mono ?_
  rintro e w2 ⟨v2, st, rfl, hst, ho, hb⟩
  have he := union_same hst HOK.out HS.out
  rw [← he] at ho
  have hul : (uni S).length ≤ 65536 := by
    rw [he, ← unionTo_all]
    have h1 := unionTo_len st (wthn L) st.length
    have h2 := up_len st hst.up (hst.bounds HOK.out)
    omega
  have HUL := Lib.hid hul
  have hUok : ∀ s ∈ uni S, OkS s := fold_ok S [] (by simp) fun s hs => HOK.out s (HS.out.perm.mem_iff.1 hs)
  have B := Lib.hid (below_both B.out hb)
  have V1 := Lib.hid (V1.out.below hb)
  have V2 := Lib.hid (ho.val fun s hs => by have := hUok s hs; unfold OkS at this; unfold I64; omega)
  have R := Lib.hid (R.out.below hb)
  have CP := Lib.hid (sstarts_ok A n cap L w2 HN.out R.out HOK.out)
  clear hb ho hst he hul hUok CR HS
  go_wp2_with fail
  refine CP.out.mono ?_
  rintro e w3 ⟨v3, st3, rfl, h3, ho, hb⟩
  have B := Lib.hid (below_both B.out hb)
  have V1 := Lib.hid (V1.out.below hb)
  have V2 := Lib.hid (V2.out.below hb)
  have hb3 := h3.bounds HOK.out
  have V3 := Lib.hid (ho.val fun x hx => by have := hb3 x hx; omega)
  have HL3 := Lib.hid (up_len st3 h3.up hb3)
  have S3 := Lib.hid h3
  have R := Lib.hid (R.out.below hb)
  have CQ := Lib.hid (rstarts_ok A n cap L w3 (by have := HN.out; omega) R.out HOK.out)
  clear hb ho h3 hb3 CP
  go_wp2_with fail
  refine CQ.out.mono ?_
  rintro e w4 ⟨v4, st4, rfl, h4, hv, hb⟩
  rw [h4.unique S3.out] at hv
  have B := Lib.hid (below_both B.out hb)
  have V1 := Lib.hid (V1.out.below hb)
  have V2 := Lib.hid (V2.out.below hb)
  have V3 := Lib.hid (V3.out.below hb)
  have V4 := Lib.hid hv
  have T := Lib.hid (T.out.below B.out)
  clear hb hv h4 CQ S3 R
  go_wp2_with fail
  refine (live08 _ T.out).mono ?_
  rintro e w5 ⟨rfl, hb⟩
  have B := Lib.hid (below_both B.out hb)
  have V1 := Lib.hid (V1.out.below hb)
  have V2 := Lib.hid (V2.out.below hb)
  have V3 := Lib.hid (V3.out.below hb)
  have V4 := Lib.hid (V4.out.below hb)
  clear hb
  go_wp2_with fail
  refine (same_val _ _ _ _ V1.out V2.out (by have := HUL.out; omega)).mono ?_
  rintro e w6 ⟨rfl, hb⟩
  have B := Lib.hid (below_both B.out hb)
  have V3 := Lib.hid (V3.out.below hb)
  have V4 := Lib.hid (V4.out.below hb)
  clear hb
  go_wp2_with fail
  refine (ints_val _ _ _ _ V3.out V4.out (by have := HL3.out; omega)).mono ?_
  rintro e w7 ⟨rfl, hb⟩
  have B := Lib.hid (below_both B.out hb)
  clear hb
  go_wp2_with fail
  go_ret
  exact ⟨rfl, B.out⟩

set_option maxRecDepth 10000 in
set_option maxHeartbeats 3200000 in
theorem wsu_bad (A : Option Addr) (n cap : Nat) (L : List Sp) (w : World) (hT : Tabs w) (hR : SpRow w A n L) (hn : n ≤ 8796093021952) (hbad : chkAll L ≠ 0) :
    Calls Tryz.prog 3 #[.slice A n cap] w fun e w' => e = .returned (.bool true) ∧ Below w.heap.size w w' := by
  have T := Lib.hid hT
  have CU := Lib.hid (fun (W : World) (hb : Below w.heap.size w W) => sunion_bad A n cap L W (by omega) (hR.below hb) hbad)
  have CR := Lib.hid (fun (W : World) (hb : Below w.heap.size w W) => runion_bad A n cap L W (by omega) (hR.below hb) hbad)
  have CP := Lib.hid (fun (W : World) (hb : Below w.heap.size w W) => sstarts_bad A n cap L W (by omega) (hR.below hb) hbad)
  have CQ := Lib.hid (fun (W : World) (hb : Below w.heap.size w W) => rstarts_bad A n cap L W (by omega) (hR.below hb) hbad)
  generalize chkAll L = c at CU CR CP CQ
  clear hT hR hn hbad
  have B : Hid (Below w.heap.size w w) := Below.refl _ _
  go_enter Tryz.func3, Tryz.ntmps3
  go_wp2_with fail
  refine (CU.out _ B.out).mono ?_
  rintro e w1 ⟨rfl, hb⟩
  have B := Lib.hid (below_both B.out hb)
  clear hb
  go_wp2_with fail
  refine (CR.out _ B.out).mono ?_
  rintro e w2 ⟨rfl, hb⟩
  have B := Lib.hid (below_both B.out hb)
  clear hb
  go_wp2_with fail
  refine (CP.out _ B.out).mono ?_
  rintro e w3 ⟨rfl, hb⟩
  have B := Lib.hid (below_both B.out hb)
  clear hb
  go_wp2_with fail
  refine (CQ.out _ B.out).mono ?_
  rintro e w4 ⟨rfl, hb⟩
  have B := Lib.hid (below_both B.out hb)
  have T := Lib.hid (T.out.below B.out)
  clear hb CU CR CP CQ
  go_wp2_with fail
  refine (live08 _ T.out).mono ?_
  rintro e w5 ⟨rfl, hb⟩
  have B := Lib.hid (below_both B.out hb)
  clear hb
  go_wp2_with fail
  refine (same_val _ _ _ _ (valSp_nil _) (valSp_nil _) (by decide)).mono ?_
  rintro e w6 ⟨rfl, hb⟩
  have B := Lib.hid (below_both B.out hb)
  clear hb
  go_wp2_with fail
  refine (ints_val _ _ _ _ (valZ_nil _) (valZ_nil _) (by decide)).mono ?_
  rintro e w7 ⟨rfl, hb⟩
  have B := Lib.hid (below_both B.out hb)
  clear hb
  go_wp2_with fail
  go_ret
  exact ⟨by simp, B.out⟩
theorem walk_SpanUnions (A : Option Addr) (n cap : Nat) (L : List Sp) (w : World) (hT : Tabs w) (hR : SpRow w A n L) (hn : n ≤ 8796093021952) :
    Calls Tryz.prog 3 #[.slice A n cap] w fun e w' => e = .returned (.bool true) ∧ Below w.heap.size w w' := by
  by_cases h : chkAll L = 0
  · exact wsu_ok A n cap L w hT hR hn fun s hs => chkS_ok.1 (chkAll_zero.1 h s hs)
  · exact wsu_bad A n cap L w hT hR hn h
end Go.Proofs.YtngflfpannmjhaaGreatDoor
