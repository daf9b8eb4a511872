/-
  The walk of SpanRests.
-/
import Derived.Test.YtngflfpannmjhaaGreatDoorSpR5
import Derived.Test.YtngflfpannmjhaaGreatDoorWSpUnions
namespace Go.Proofs.YtngflfpannmjhaaGreatDoor
open Go.RowKit Go.Shelf
set_option linter.unusedVariables false

/-- How many of the first k spans a number is in. -/
def cnt (L : List Sp) (x : Int) (k : Nat) : Nat := ((L.take k).filter fun s => hasS s x).length
theorem cnt_step {L : List Sp} {x : Int} {k : Nat} (h : k < L.length) : cnt L x (k + 1) = cnt L x k + if hasS (L.getD k (0, 0)) x then 1 else 0 := by
  unfold cnt
  rw [take_succ_sp L k h, List.filter_append, List.length_append]
  show _ + (List.filter (fun s => hasS s x) (L.getD k (0, 0) :: [])).length = _
  rw [List.filter_cons]
  cases hp : hasS (L.getD k (0, 0)) x
  · rw [if_neg (by simp), if_neg (by simp)]; rfl
  · rw [if_pos rfl, if_pos rfl]; rfl
theorem cnt_le (L : List Sp) (x : Int) (k : Nat) : cnt L x k ≤ k := by
  unfold cnt
  have h2 := List.length_filter_le (fun s : Sp => hasS s x) (L.take k)
  have h3 : (L.take k).length ≤ k := by rw [List.length_take]; omega
  omega
theorem hasS_in {s : Sp} (hs : OkS s) (x : Int) : hasS s x = true ↔ inS s x := by
  unfold hasS inS
  simp only [Bool.and_eq_true, decide_eq_true_eq]
  exact ⟨fun h => ⟨h.1.2, h.2⟩, fun h => ⟨⟨chkS_ok.2 hs, h.1⟩, h.2⟩⟩
theorem cnt_norm : ∀ {L : List Sp} {x : Int}, Norm L → (∀ s ∈ L, OkS s) → (L.filter fun s => hasS s x).length ≤ 1 ∧ ((L.filter fun s => hasS s x).length = 1 ↔ mem L x)
  | [], x, _, _ => ⟨Nat.zero_le _, by simp [mem]⟩
  | s :: L, x, hN, hok => by
    obtain ⟨p1, p2⟩ := List.pairwise_cons.1 hN.2
    obtain ⟨i1, i2⟩ := cnt_norm (L := L) (x := x) ⟨fun t ht => hN.1 t (List.mem_cons_of_mem _ ht), p2⟩ fun t ht => hok t (List.mem_cons_of_mem _ ht)
    have hs := hasS_in (hok s (by simp)) x
    rw [mem_cons]
    cases hp : hasS s x
    · rw [hp] at hs
      rw [List.filter_cons, hp]
      refine ⟨i1, ?_⟩
      rw [if_neg (by simp), i2]
      exact ⟨.inr, fun h => h.elim (fun h => absurd (hs.2 h) (by simp)) id⟩
    · rw [hp] at hs
      have hin := hs.1 rfl
      have h0 : L.filter (fun s => hasS s x) = [] := by
        rw [List.filter_eq_nil_iff]
        intro t ht hh
        have h1 := (hasS_in (hok t (List.mem_cons_of_mem _ ht)) x).1 hh
        have := p1 t ht
        have := h1.1
        have := hin.2
        omega
      rw [List.filter_cons, hp, if_pos rfl, h0]
      exact ⟨Nat.le_refl _, ⟨fun _ => .inl hin, fun _ => rfl⟩⟩
theorem cnt_all (L : List Sp) (x : Int) : cnt L x L.length = (L.filter fun s => hasS s x).length := by unfold cnt; rw [List.take_length]
theorem mem_perm {L S : List Sp} (h : SortedS L S) (n : Int) : mem S n ↔ mem L n := ⟨fun ⟨s, hs, hi⟩ => ⟨s, h.perm.mem_iff.1 hs, hi⟩, fun ⟨s, hs, hi⟩ => ⟨s, h.perm.mem_iff.2 hs, hi⟩⟩
/-- What the union of spans that may be is. -/
theorem uni_facts {L S : List Sp} (h : SortedS L S) (hL : ∀ s ∈ L, OkS s) : Norm (uni S) ∧ (∀ n, mem (uni S) n ↔ mem L n) ∧ ∀ s ∈ uni S, OkS s := by
  have hSok : ∀ s ∈ S, OkS s := fun s hs => hL s (h.perm.mem_iff.1 hs)
  have hu := uni_uni (S := S) (fun s hs => by have := hSok s hs; unfold OkS at this; omega) h.up
  exact ⟨hu.norm, fun n => by rw [hu.mem, mem_perm h], fold_ok S [] (by simp) hSok⟩
theorem rest_facts {L S : List Sp} (h : SortedS L S) (hL : ∀ s ∈ L, OkS s) : Norm (restFrom 0 (uni S)) ∧ (∀ n, mem (restFrom 0 (uni S)) n ↔ (0 ≤ n ∧ n ≤ 65535 ∧ ¬ mem L n)) ∧ ∀ s ∈ restFrom 0 (uni S), OkS s := by
  obtain ⟨a, b, c⟩ := uni_facts h hL
  obtain ⟨r1, r2, r3⟩ := rest_is (uni S) 0 a c (fun s hs => by have := c s hs; unfold OkS at this; omega) (by omega) (Int.le_refl _)
  exact ⟨r1, fun n => by rw [r2, b], fun s hs => (r3 s hs).2⟩
theorem mem_port {L : List Sp} (hL : ∀ s ∈ L, OkS s) {n : Int} (h : mem L n) : 0 ≤ n ∧ n ≤ 65535 := by
  obtain ⟨s, hs, h1, h2⟩ := h
  have := hL s hs
  unfold OkS at this
  omega
/-- Rest of the rest is the union. -/
theorem rest_rest {L S T U : List Sp} (h : SortedS L S) (hL : ∀ s ∈ L, OkS s) (hT : SortedS (restFrom 0 (uni S)) T) (hU : SortedS L U) : restFrom 0 (uni T) = uni U := by
  obtain ⟨_, b1, c1⟩ := rest_facts h hL
  obtain ⟨a2, b2, _⟩ := rest_facts hT c1
  obtain ⟨a3, b3, _⟩ := uni_facts hU hL
  refine norm_unique a2 a3 fun n => ?_
  rw [b2, b3, b1]
  constructor
  · rintro ⟨h1, h2, h3⟩
    exact Classical.byContradiction fun h4 => h3 ⟨h1, h2, h4⟩
  · intro h1
    obtain ⟨p, q⟩ := mem_port hL h1
    exact ⟨p, q, fun h2 => h2.2.2 h1⟩
def insideV (x : Int) : Int := if x < 0 ∨ 65535 < x then 0 else 1
theorem cnt_both {L S U : List Sp} (h : SortedS L S) (hL : ∀ s ∈ L, OkS s) (hU : SortedS L U) (x : Int) : ((cnt (restFrom 0 (uni S)) x (restFrom 0 (uni S)).length : Nat) : Int) + ((cnt (uni U) x (uni U).length : Nat) : Int) = insideV x := by
  obtain ⟨a1, b1, c1⟩ := rest_facts h hL
  obtain ⟨a3, b3, c3⟩ := uni_facts hU hL
  obtain ⟨i1, i2⟩ := cnt_norm (x := x) a1 c1
  obtain ⟨j1, j2⟩ := cnt_norm (x := x) a3 c3
  rw [cnt_all, cnt_all]
  rw [b1] at i2
  rw [b3] at j2
  unfold insideV
  by_cases hm : mem L x
  · have hp := mem_port hL hm
    have e2 := j2.2 hm
    have e1 : ¬ (List.filter (fun s => hasS s x) (restFrom 0 (uni S))).length = 1 := fun h => (i2.1 h).2.2 hm
    rw [if_neg (by omega)]
    omega
  · have e2 : ¬ (List.filter (fun s => hasS s x) (uni U)).length = 1 := fun h => hm (j2.1 h)
    by_cases hp : x < 0 ∨ 65535 < x
    · have e1 : ¬ (List.filter (fun s => hasS s x) (restFrom 0 (uni S))).length = 1 := fun h => by have := i2.1 h; omega
      rw [if_pos hp]
      omega
    · have e1 := i2.2 ⟨by omega, by omega, hm⟩
      rw [if_neg hp]
      omega
theorem rinside_any (x : Int) (w : World) : Calls Tryz.prog 21 #[.int .i64 x] w fun e w' => e = .returned (.int .i64 (insideV x)) ∧ Below w.heap.size w w' := by
  rcases (by omega : x < 0 ∨ 65535 < x ∨ (0 ≤ x ∧ x ≤ 65535)) with h | h | ⟨h1, h2⟩
  · rw [show insideV x = 0 from if_pos (.inl h)]
    go_enter Tryz.func21, Tryz.ntmps21
    go_wp2_with fail
    go_ret
    exact ⟨rfl, Below.refl _ _⟩
  · rw [show insideV x = 0 from if_pos (.inr h)]
    have h0 : 0 ≤ x := by omega
    go_enter Tryz.func21, Tryz.ntmps21
    go_wp2_with fail
    go_ret
    exact ⟨rfl, Below.refl _ _⟩
  · rw [show insideV x = 1 from if_neg (by omega)]
    go_enter Tryz.func21, Tryz.ntmps21
    go_wp2_with fail
    go_ret
    exact ⟨rfl, Below.refl _ _⟩
theorem srest_val (v : Value) (L : List Sp) (w : World) (h : ValSp w v L) (hl : L.length ≤ 8796093022205) (hok : ∀ s ∈ L, OkS s) :
    Calls Tryz.prog 18 #[v] w fun e w' => ∃ v' S, e = .returned (.tuple #[v', .int .i64 0]) ∧ SortedS L S ∧ OutSp w.heap.size w' v' (restFrom 0 (uni S)) ∧ Below w.heap.size w w' := by
  obtain ⟨A, c, rfl, _, hR⟩ := h
  exact srest_ok A L.length c L w hl hR hok
theorem val_ok {B : Nat} {w : World} {v : Value} {L : List Sp} (h : OutSp B w v L) (hok : ∀ s ∈ L, OkS s) : ValSp w v L := h.val fun s hs => by have := hok s hs; unfold OkS at this; unfold I64; omega
theorem cnt_wrap {c : Nat} (h : (c : Int) ≤ 8796093022206) : IntKind.i64.wrap ((c : Int) + 1) = (c : Int) + 1 := by rw [IntKind.wrap_i64]; omega

set_option maxRecDepth 10000 in
set_option maxHeartbeats 3200000 in
theorem wsr_bad (A : Option Addr) (n cap : Nat) (L : List Sp) (x : Int) (w : World) (hT : Tabs w) (hR : SpRow w A n L) (hn : n ≤ 8796093021952) (hbad : chkAll L ≠ 0) :
    Calls Tryz.prog 5 #[.slice A n cap, .int .i64 x] w fun e w' => e = .returned (.bool true) ∧ Below w.heap.size w w' := by
  have T := Lib.hid hT
  have CU := Lib.hid (fun (W : World) (hb : Below w.heap.size w W) => srest_bad A n cap L W (by omega) (hR.below hb) hbad)
  have CR := Lib.hid (fun (W : World) (hb : Below w.heap.size w W) => rrest_bad A n cap L W (by omega) (hR.below hb) hbad)
  have hb1 : (chkAll L != 0) = true := by rw [bne_iff_ne]; exact hbad
  have hb2 : (chkAll L != chkAll L) = false := by simp
  generalize chkAll L = c at CU CR hb1 hb2
  clear hT hR hn hbad
  have B : Hid (Below w.heap.size w w) := Below.refl _ _
  go_enter Tryz.func5, Tryz.ntmps5
  go_wp2_with fail
  refine (CU.out _ B.out).mono ?_
  rintro e w1 ⟨rfl, hb⟩
  have B := Lib.hid (below_both B.out hb)
  clear hb
  go_wp2_with fail
  refine (CR.out _ B.out).mono ?_
  rintro e w2 ⟨rfl, hb⟩
  have B := Lib.hid (below_both B.out hb)
  clear hb CU CR
  go_wp2_with fail
  refine (same_val _ _ _ _ (valSp_nil _) (valSp_nil _) (by decide)).mono ?_
  rintro e w3 ⟨rfl, hb⟩
  have B := Lib.hid (below_both B.out hb)
  have T := Lib.hid (T.out.below B.out)
  clear hb
  go_wp2_with fail
  refine (live08 _ T.out).mono ?_
  rintro e w4 ⟨rfl, hb⟩
  have B := Lib.hid (below_both B.out hb)
  clear hb
  go_wp2_with fail
  go_ret
  exact ⟨rfl, B.out⟩

set_option maxRecDepth 10000 in
set_option maxHeartbeats 6400000 in
theorem wsr_ok (A : Option Addr) (n cap : Nat) (L : List Sp) (x : Int) (w : World) (hT : Tabs w) (hR : SpRow w A n L) (hn : n ≤ 8796093021952) (hok : ∀ s ∈ L, OkS s) :
    Calls Tryz.prog 5 #[.slice A n cap, .int .i64 x] w fun e w' => e = .returned (.bool true) ∧ Below w.heap.size w w' := by
  have T := Lib.hid hT
  have R := Lib.hid hR
  have HOK := Lib.hid hok
  have HN := Lib.hid hn
  have C := Lib.hid (srest_ok A n cap L w (by omega) hR hok)
  clear hT hR hok hn
  go_enter Tryz.func5, Tryz.ntmps5
  go_wp2_with fail
  refine C.out.mono ?_
  rintro e w1 ⟨v1, S, rfl, hS, ho, hb⟩
  have HS := Lib.hid hS
  have RF := Lib.hid (rest_facts hS HOK.out)
  have V1 := Lib.hid (val_ok ho RF.out.2.2)
  have B := Lib.hid hb
  have R := Lib.hid (R.out.below hb)
  have CR := Lib.hid (rrest_ok A n cap L w1 (by have := HN.out; omega) R.out HOK.out)
  clear hS ho hb C
  go_wp2_with fail
  refine CR.out.mono ?_
  rintro e w2 ⟨v2, st, st', rfl, h1, h2, ho, hb⟩
  have he := rest_same h1 HOK.out HS.out h2
  have hFok := freeTo_ok h1 HOK.out (fun x => !wthn L x) st.length
  have HRL := Lib.hid (show (restFrom 0 (uni S)).length ≤ 65536 by
    rw [he, ← unionTo_all]
    have q1 := unionTo_len st' (wthn (freeTo st (fun x => !wthn L x) st.length)) st'.length
    have q2 := up_len st' h2.up (h2.bounds hFok)
    omega)
  rw [← he] at ho
  have V2 := Lib.hid (val_ok ho RF.out.2.2)
  have B := Lib.hid (below_both B.out hb)
  have V1 := Lib.hid (V1.out.below hb)
  have R := Lib.hid (R.out.below hb)
  clear h1 h2 ho hb he hFok CR
  go_wp2_with fail
  refine (same_val _ _ _ _ V1.out V2.out (by have := HRL.out; omega)).mono ?_
  rintro e w3 ⟨rfl, hb⟩
  have B := Lib.hid (below_both B.out hb)
  have V1 := Lib.hid (V1.out.below hb)
  have R := Lib.hid (R.out.below hb)
  clear hb V2
  go_wp2_with fail
  refine (srest_val _ _ _ V1.out (by have := HRL.out; omega) RF.out.2.2).mono ?_
  rintro e w4 ⟨v3, S3, rfl, h3, ho, hb⟩
  have H3 := Lib.hid h3
  have V3 := Lib.hid (val_ok ho (rest_facts h3 RF.out.2.2).2.2)
  have B := Lib.hid (below_both B.out hb)
  have V1 := Lib.hid (V1.out.below hb)
  have R := Lib.hid (R.out.below hb)
  have CU := Lib.hid (sunion_ok A n cap L w4 (by have := HN.out; omega) R.out HOK.out)
  clear h3 ho hb
  go_wp2_with fail
  refine CU.out.mono ?_
  rintro e w5 ⟨v4, S4, rfl, h4, ho, hb⟩
  have UF := Lib.hid (uni_facts h4 HOK.out)
  have V4 := Lib.hid (val_ok ho UF.out.2.2)
  have B := Lib.hid (below_both B.out hb)
  have V1 := Lib.hid (V1.out.below hb)
  have V3 := Lib.hid (V3.out.below hb)
  have T := Lib.hid (T.out.below B.out)
  have HC := Lib.hid (cnt_both HS.out HOK.out h4 x)
  have HRR := Lib.hid (rest_rest HS.out HOK.out H3.out h4)
  have HUL := Lib.hid (show (uni S4).length ≤ 8796093022206 by
    rw [← uniTo_all]
    have q1 := uniTo_len S4 S4.length
    have q2 := h4.perm.length_eq
    have q3 := R.out.len
    have := HN.out
    omega)
  clear h4 ho hb CU R H3
  obtain ⟨A1, c1, hv1, hc1, R1⟩ := V1.out
  obtain ⟨A4, c4, hv4, hc4, R4⟩ := V4.out
  generalize hE1 : restFrom 0 (uni S) = E1 at *
  generalize hE4 : uni S4 = E4 at *
  obtain ⟨q1, hq1⟩ : ∃ q, q = E1.length := ⟨_, rfl⟩
  obtain ⟨q4, hq4⟩ : ∃ q, q = E4.length := ⟨_, rfl⟩
  rw [← hq1] at hv1 R1
  rw [← hq4] at hv4 R4
  have X1 := Lib.hid R1
  have X4 := Lib.hid R4
  have HQ1 := Lib.hid hq1
  have HQ4 := Lib.hid hq4
  have i1 : (q1 : Int) ≤ 65536 := by have := HRL.out; omega
  have i4 : (q4 : Int) ≤ 8796093022206 := by have := HUL.out; omega
  subst hv1 hv4
  clear R1 R4 hc1 hc4 hq1 hq4 V1 hE1 hE4
  have CH := Lib.hid (fun w a b => shas_any a b x w)
  go_wp2_with fail
  go_loopw [13, 14] (fun c i wr => ∃ k : Nat, k ≤ q1 ∧ i = .int .i64 (k : Int) ∧ c = .int .i64 ((cnt E1 x k : Nat) : Int) ∧ Below w5.heap.size w5 wr) (fun _ i _ => q1 - (intOf i).toNat)
  case atStart => exact ⟨0, Nat.zero_le _, rfl, rfl, Below.refl _ _⟩
  case round =>
    obtain ⟨k, hk, rfl, rfl, hb⟩ := hrel
    have D := Lib.hid hb
    clear hb
    by_cases hlt : k < q1
    · obtain ⟨b, o, rfl, hb1, hc⟩ := X1.out.addr (by omega)
      have hc0 := (D.out.cell (p := ⟨b, o + k * 2, none⟩) hb1).trans (hc k hlt).1
      have hc1 := (D.out.cell (p := ⟨b, o + k * 2 + 1, none⟩) hb1).trans (hc k hlt).2
      have hst := cnt_step (L := E1) (x := x) (k := k) (by rw [← HQ1.out]; exact hlt)
      have hle := cnt_le E1 x k
      have CX := Lib.hid (fun w => CH.out w (E1.getD k (0, 0)).1 (E1.getD k (0, 0)).2)
      obtain ⟨y, hy⟩ : ∃ y, y = E1.getD k (0, 0) := ⟨_, rfl⟩
      rw [← hy] at hc0 hc1 hst CX
      obtain ⟨y1, y2⟩ := y
      have hc0 : wr.cell? ⟨b, o + k * 2, none⟩ = some (.int .i64 y1) := hc0
      have hc1 : wr.cell? ⟨b, o + k * 2 + 1, none⟩ = some (.int .i64 y2) := hc1
      have CX : Hid (∀ w, Calls Tryz.prog 20 #[.agg #[.int .i64 y1, .int .i64 y2], .int .i64 x] w fun e w' => e = .returned (.bool (hasS (y1, y2) x)) ∧ Below w.heap.size w w') := CX.out
      obtain ⟨cc, hcc⟩ : ∃ cc, cc = cnt E1 x k := ⟨_, rfl⟩
      rw [← hcc] at hst hle ⊢
      have hcw := cnt_wrap (c := cc) (by omega)
      have u := k_wrap hlt (by omega)
      clear hy hc hb1 hcc hle
      cases hh : hasS (y1, y2) x
      · rw [hh] at CX hst
        have HST := Lib.hid (show cnt E1 x (k + 1) = cc from hst)
        clear hh hst
        go_wp2_with fail
        refine (CX.out _).mono ?_
        rintro e w6 ⟨rfl, hb⟩
        have D := Lib.hid (below_both D.out hb)
        clear hb hc0 hc1
        go_wp2_with fail
        go_roundw
        case rel => exact ⟨k + 1, hlt, by go_num, by rw [HST.out], D.out⟩
        case measure => simp [intOf]; omega
      · rw [hh] at CX hst
        have HST := Lib.hid (show cnt E1 x (k + 1) = cc + 1 from hst)
        clear hh hst
        go_wp2_with fail
        refine (CX.out _).mono ?_
        rintro e w6 ⟨rfl, hb⟩
        have D := Lib.hid (below_both D.out hb)
        clear hb hc0 hc1
        go_wp2_with fail
        go_roundw
        case rel => exact ⟨k + 1, hlt, by go_num, by rw [HST.out]; rfl, D.out⟩
        case measure => simp [intOf]; omega
    · obtain rfl : k = q1 := by omega
      have hle := cnt_le E1 x k
      obtain ⟨cc, hcc⟩ : ∃ cc, cc = cnt E1 x k := ⟨_, rfl⟩
      have HCC := Lib.hid hcc
      rw [← hcc] at hle ⊢
      have hccl : (cc : Int) ≤ 65536 := by omega
      clear hcc hle hlt hk
      go_wp2_with fail
      go_loopw [13, 15] (fun c i wr => ∃ j : Nat, j ≤ q4 ∧ i = .int .i64 (j : Int) ∧ c = .int .i64 (((cc + cnt E4 x j : Nat) : Int)) ∧ Below w5.heap.size w5 wr) (fun _ i _ => q4 - (intOf i).toNat)
      case atStart => exact ⟨0, Nat.zero_le _, rfl, rfl, D.out⟩
      case round =>
        clear D
        obtain ⟨j, hj, rfl, rfl, hb⟩ := hrel
        have D := Lib.hid hb
        clear hb
        by_cases hlt : j < q4
        · obtain ⟨b, o, rfl, hb1, hc⟩ := X4.out.addr (by omega)
          have hc0 := (D.out.cell (p := ⟨b, o + j * 2, none⟩) hb1).trans (hc j hlt).1
          have hc1 := (D.out.cell (p := ⟨b, o + j * 2 + 1, none⟩) hb1).trans (hc j hlt).2
          have hst := cnt_step (L := E4) (x := x) (k := j) (by rw [← HQ4.out]; exact hlt)
          have hle := cnt_le E4 x j
          have CX := Lib.hid (fun w => CH.out w (E4.getD j (0, 0)).1 (E4.getD j (0, 0)).2)
          obtain ⟨y, hy⟩ : ∃ y, y = E4.getD j (0, 0) := ⟨_, rfl⟩
          rw [← hy] at hc0 hc1 hst CX
          obtain ⟨y1, y2⟩ := y
          have hc0 : wr.cell? ⟨b, o + j * 2, none⟩ = some (.int .i64 y1) := hc0
          have hc1 : wr.cell? ⟨b, o + j * 2 + 1, none⟩ = some (.int .i64 y2) := hc1
          have CX : Hid (∀ w, Calls Tryz.prog 20 #[.agg #[.int .i64 y1, .int .i64 y2], .int .i64 x] w fun e w' => e = .returned (.bool (hasS (y1, y2) x)) ∧ Below w.heap.size w w') := CX.out
          obtain ⟨tt, htt⟩ : ∃ tt, tt = cc + cnt E4 x j := ⟨_, rfl⟩
          rw [← htt]
          have hcw : IntKind.i64.wrap ((tt : Int) + 1) = (tt : Int) + 1 := by rw [IntKind.wrap_i64]; omega
          have u := k_wrap hlt (by omega)
          have HTT := Lib.hid htt
          clear hy hc hb1 htt hle
          cases hh : hasS (y1, y2) x
          · rw [hh] at CX hst
            have HST := Lib.hid (show cc + cnt E4 x (j + 1) = tt by rw [hst]; have := HTT.out; simp at *; omega)
            clear hh hst
            go_wp2_with fail
            refine (CX.out _).mono ?_
            rintro e w6 ⟨rfl, hb⟩
            have D := Lib.hid (below_both D.out hb)
            clear hb hc0 hc1
            go_wp2_with fail
            go_roundw
            case rel => exact ⟨j + 1, hlt, by go_num, by rw [HST.out], D.out⟩
            case measure => simp [intOf]; omega
          · rw [hh] at CX hst
            have HST := Lib.hid (show cc + cnt E4 x (j + 1) = tt + 1 by rw [hst]; have := HTT.out; simp at *; omega)
            clear hh hst
            go_wp2_with fail
            refine (CX.out _).mono ?_
            rintro e w6 ⟨rfl, hb⟩
            have D := Lib.hid (below_both D.out hb)
            clear hb hc0 hc1
            go_wp2_with fail
            go_roundw
            case rel => exact ⟨j + 1, hlt, by go_num, by rw [HST.out]; rfl, D.out⟩
            case measure => simp [intOf]; omega
        · obtain rfl : j = q4 := by omega
          obtain ⟨tt, htt⟩ : ∃ tt, tt = cc + cnt E4 x j := ⟨_, rfl⟩
          rw [← htt]
          have hcmp : ((tt : Int) == insideV x) = true := by
            rw [beq_iff_eq]
            have h1 := HC.out
            rw [← HQ1.out, ← HQ4.out] at h1
            have h2 := HCC.out
            omega
          have CI := Lib.hid (fun w => rinside_any x w)
          have BB := Lib.hid (below_both B.out D.out)
          have V3 := Lib.hid (V3.out.below D.out)
          have V4 := Lib.hid (V4.out.below D.out)
          have TT := Lib.hid (T.out.below D.out)
          rw [HRR.out] at V3
          have HL4 : Hid (E4.length ≤ 8796093022206) := HUL.out
          generalize insideV x = iv at hcmp CI
          clear htt hlt hj D
          go_wp2_with fail
          refine (live08 _ TT.out).mono ?_
          rintro e w7 ⟨rfl, hb⟩
          have BB := Lib.hid (below_both BB.out hb)
          have V3 := Lib.hid (V3.out.below hb)
          have V4 := Lib.hid (V4.out.below hb)
          clear hb
          go_wp2_with fail
          refine (same_val _ _ _ _ V3.out V4.out HL4.out).mono ?_
          rintro e w8 ⟨rfl, hb⟩
          have BB := Lib.hid (below_both BB.out hb)
          clear hb
          go_wp2_with fail
          refine (CI.out _).mono ?_
          rintro e w9 ⟨rfl, hb⟩
          have BB := Lib.hid (below_both BB.out hb)
          clear hb
          go_wp2_with fail
          go_ret
          exact ⟨rfl, BB.out⟩
theorem walk_SpanRests (A : Option Addr) (n cap : Nat) (L : List Sp) (x : Int) (w : World) (hT : Tabs w) (hR : SpRow w A n L) (hn : n ≤ 8796093021952) (_ : -9223372036854775808 ≤ x) (_ : x ≤ 9223372036854775807) :
    Calls Tryz.prog 5 #[.slice A n cap, .int .i64 x] w fun e w' => e = .returned (.bool true) ∧ Below w.heap.size w w' := by
  by_cases h : chkAll L = 0
  · exact wsr_ok A n cap L x w hT hR hn fun s hs => chkS_ok.1 (chkAll_zero.1 h s hs)
  · exact wsr_bad A n cap L x w hT hR hn h
end Go.Proofs.YtngflfpannmjhaaGreatDoor
