/-
  Texts of prefixes (plain facts), and the contract of prefix's whole.
-/
import Derived.Test.YtaicmadeobglfaaDoorPre8
namespace Go.Proofs.YtaicmadeobglfaaDoor
open Go.RowKit Go.Lib
set_option linter.unusedVariables false

theorem grp_noslash {l : List UInt8} (h : grpOk l = true) : (47 : UInt8) ∉ l := fun hm => by
  have h2 : hexAll l = true := by
    unfold grpOk at h
    simp only [Bool.and_eq_true] at h
    exact h.2
  have h3 := List.all_eq_true.1 h2 47 hm
  revert h3
  decide
theorem gsjoin_noslash {gs : List Nat} (h : ∀ g ∈ gs, g < 65536) : (47 : UInt8) ∉ gsjoin gs := by
  induction gs with
  | nil => simp [gsjoin_nil]
  | cons g gs ih =>
    have hg := grp_noslash (gtext_all g (h g (by simp))).ok
    have ih' := ih (fun x hx => h x (by simp [hx]))
    by_cases hgs : gs = []
    · subst hgs
      rw [gsjoin_one]
      exact hg
    · rw [gsjoin_cons _ _ hgs]
      simp [hg, ih']
theorem colPrint_noslash {gs : List Nat} (h : ∀ g ∈ gs, g < 65536) : (47 : UInt8) ∉ colPrint gs := by
  unfold colPrint
  split
  · exact gsjoin_noslash h
  · have h1 := gsjoin_noslash (gs := gs.take (best gs 8).1) (fun g hg => h g (List.mem_of_mem_take hg))
    have h2 := gsjoin_noslash (gs := gs.drop ((best gs 8).1 + (best gs 8).2)) (fun g hg => h g (List.mem_of_mem_drop hg))
    simp [h1, h2]
theorem dec_noslash (n : Nat) (h : n ≤ 999) : (47 : UInt8) ∉ decDigits n := by
  intro hm
  have h1 := (dec_byte n h).1
  simp only [numOk, Bool.and_eq_true] at h1
  have h2 := List.all_eq_true.1 h1.2 47 hm
  simp [isDig] at h2
theorem dtext_noslash {a b c d : Nat} (ha : a ≤ 255) (hb : b ≤ 255) (hc : c ≤ 255) (hd : d ≤ 255) : (47 : UInt8) ∉ dtext a b c d := by
  unfold dtext
  simp [join, dec_noslash a (by omega), dec_noslash b (by omega), dec_noslash c (by omega), dec_noslash d (by omega)]
theorem slash_at : ∀ (p q : List UInt8), (47 : UInt8) ∉ p → index (p ++ 47 :: q) [47] = p.length
  | [], q, _ => index_here 47 q
  | x :: p, q, h => by
    have hx : x ≠ 47 := fun e => h (by simp [e])
    have hp : (47 : UInt8) ∉ p := fun e => h (by simp [e])
    rw [List.cons_append, index_next _ hx, slash_at p q hp, if_neg (by omega)]
    simp
theorem slash_cut {p q : List UInt8} (h : (47 : UInt8) ∉ p) : Lib.cut (p ++ 47 :: q) [47] = (p, q, true) := by
  unfold Lib.cut
  rw [slash_at p q h, if_pos (by omega)]
  simp [List.drop_append]
theorem addrB_lt {gs : List Nat} (h : ∀ g ∈ gs, g < 65536) : ∀ x ∈ addrB gs, x < 256 := by
  intro x hx
  unfold addrB at hx
  rw [List.mem_flatMap] at hx
  obtain ⟨g, hg, hx⟩ := hx
  have := h g hg
  simp at hx
  omega
/-- The version and the address of a text without a length. -/
def wholeV (l : List UInt8) : Option (Int × List Nat) :=
  if (dparse l).2 = 0 then some (4, [(dparse l).1.1, (dparse l).1.2.1, (dparse l).1.2.2.1, (dparse l).1.2.2.2] ++ List.replicate 12 0)
  else (colParse l).map fun gs => (6, addrB gs)
theorem wholeV_adr {l : List UInt8} {V : Int} {X : List Nat} (h : wholeV l = some (V, X)) : Adr X := by
  unfold wholeV at h
  split at h
  · injection h with h
    injection h with h1 h2
    subst h2
    obtain ⟨p1, p2, p3, p4⟩ := dparse_le l
    refine ⟨by simp, fun x hx => ?_⟩
    simp at hx
    omega
  · cases hc : colParse l with
    | none => rw [hc] at h; simp at h
    | some gs =>
      rw [hc] at h
      simp at h
      obtain ⟨_, rfl⟩ := h
      obtain ⟨h8, hlt⟩ := colParse_len hc
      exact ⟨by rw [addrB_len, h8], addrB_lt hlt⟩
def wcells : Option (Int × List Nat) → List Value
  | some (V, X) => pcells V X 0
  | none => pcells 0 zero16 0
def werr : Option (Int × List Nat) → Int
  | some _ => 0
  | none => 3
theorem quietAt_pfx2 {C : World → Prop} {o : Oper} {a : Act} {W : World} {x y : Operand} {V : Int} {X : List Nat} {R : List Value} (ho : o.op = .build 24 #[(0, x), (1, y)]) (hx : a.eval x = .int .i64 V) (hy : a.eval y = .agg (bcells X).toArray) (hX : X.length = 16) (hR : pcells V X 0 = R) :
    Oper.quietAt Tryd.prog o a C W (.agg R.toArray) := by
  subst hR
  obtain ⟨k0, k1, k2, k3, k4, k5, k6, k7, k8, k9, k10, k11, k12, k13, k14, k15, rfl⟩ := split16 hX
  have hy' : a.eval y = .agg #[.int .u8 (k0 : Nat), .int .u8 (k1 : Nat), .int .u8 (k2 : Nat), .int .u8 (k3 : Nat), .int .u8 (k4 : Nat), .int .u8 (k5 : Nat), .int .u8 (k6 : Nat), .int .u8 (k7 : Nat), .int .u8 (k8 : Nat), .int .u8 (k9 : Nat), .int .u8 (k10 : Nat), .int .u8 (k11 : Nat), .int .u8 (k12 : Nat), .int .u8 (k13 : Nat), .int .u8 (k14 : Nat), .int .u8 (k15 : Nat)] := hy
  have hrun : (Instr.build 24 #[(0, .int .i64 V), (1, .agg #[.int .u8 (k0 : Nat), .int .u8 (k1 : Nat), .int .u8 (k2 : Nat), .int .u8 (k3 : Nat), .int .u8 (k4 : Nat), .int .u8 (k5 : Nat), .int .u8 (k6 : Nat), .int .u8 (k7 : Nat), .int .u8 (k8 : Nat), .int .u8 (k9 : Nat), .int .u8 (k10 : Nat), .int .u8 (k11 : Nat), .int .u8 (k12 : Nat), .int .u8 (k13 : Nat), .int .u8 (k14 : Nat), .int .u8 (k15 : Nat)])]).run Tryd.prog W = .ok (.agg #[.int .i64 V, .int .u8 (k0 : Nat), .int .u8 (k1 : Nat), .int .u8 (k2 : Nat), .int .u8 (k3 : Nat), .int .u8 (k4 : Nat), .int .u8 (k5 : Nat), .int .u8 (k6 : Nat), .int .u8 (k7 : Nat), .int .u8 (k8 : Nat), .int .u8 (k9 : Nat), .int .u8 (k10 : Nat), .int .u8 (k11 : Nat), .int .u8 (k12 : Nat), .int .u8 (k13 : Nat), .int .u8 (k14 : Nat), .int .u8 (k15 : Nat), .int .i64 0]) W := by simp [go_sem]
  show Oper.quietAt Tryd.prog o a C W (.agg #[.int .i64 V, .int .u8 (k0 : Nat), .int .u8 (k1 : Nat), .int .u8 (k2 : Nat), .int .u8 (k3 : Nat), .int .u8 (k4 : Nat), .int .u8 (k5 : Nat), .int .u8 (k6 : Nat), .int .u8 (k7 : Nat), .int .u8 (k8 : Nat), .int .u8 (k9 : Nat), .int .u8 (k10 : Nat), .int .u8 (k11 : Nat), .int .u8 (k12 : Nat), .int .u8 (k13 : Nat), .int .u8 (k14 : Nat), .int .u8 (k15 : Nat), .int .i64 0])
  unfold Oper.quietAt execOp
  simp only [ho, List.map_toArray, List.map_cons, List.map_nil, hx, hy', Sem.run_bind, hrun, Result.andThen_ok, Sem.run_pure]
  exact ⟨rfl, rfl⟩
theorem p4_cells (a b c d : Nat) : (pcells 4 zero16 0).take 1 ++ bcells [a, b, c, d] ++ (pcells 4 zero16 0).drop (1 + (bcells [a, b, c, d]).length) = pcells 4 ([a, b, c, d] ++ List.replicate 12 0) 0 := rfl
theorem cells_src {t : TypeId} {W : World} {g : Nat} {cs : List Value} (h : ArrV t W g cs) : ∀ j v, cs[j]? = some v → W.cell? ((⟨g, 0, none⟩ : Addr).add j) = some v := fun j v hv => by
  rw [add_flat, Nat.zero_add, h.get]; exact hv
theorem four_src {t : TypeId} {W : World} {g : Nat} {bs : List Nat} (h : ArrV t W g (bcells bs)) : ∀ j v, (bcells bs)[j]? = some v → W.cell? ((⟨g, 0, none⟩ : Addr).add j) = some v := fun j v hv => by
  rw [add_flat, Nat.zero_add, h.get]; exact hv
set_option maxRecDepth 10000 in
set_option maxHeartbeats 6400000 in
theorem pwhole_any (s : ByteArray) (w : World) (hs : s.size < 4294967000) (hT : Six w) : Calls Tryd.prog 15 #[.string s] w fun e w' => e = .returned (.tuple #[.agg (wcells (wholeV s.data.toList)).toArray, .int .i64 (werr (wholeV s.data.toList))]) ∧ Below w.heap.size w w' := by
  have HT := Lib.hid hT
  have CC := Lib.hid (fun w h1 h2 => cparse_any s w hs h1 h2)
  have CD0 := Lib.hid (fun w => parse_any s w (by omega))
  obtain ⟨l, hl⟩ : ∃ l, l = s.data.toList := ⟨_, rfl⟩
  rw [← hl]
  have K0 : Hid (KV w [(24, w.heap.size, pcells 0 zero16 0)] (w.alloc (.cells (pcells 0 zero16 0).toArray 24))) := KV.one w _ _
  obtain ⟨a, b, c, d, E, hd⟩ : ∃ a b c d E, dparse l = ((a, b, c, d), E) := ⟨_, _, _, _, _, rfl⟩
  have CD : Hid (∀ w, Calls Tryd.prog 23 #[.string s] w fun e w' => e = .returned (.tuple #[.agg (bcells [a, b, c, d]).toArray, .int .i64 E]) ∧ Below w.heap.size w w') := fun w => (CD0.out w).mono fun e w' ⟨h1, h2⟩ => ⟨by rw [h1, ← hl]; unfold dval; rw [hd]; rfl, h2⟩
  clear CD0 hT hs
  by_cases hE : E = 0
  · subst hE
    have HF : Hid (wholeV l = some (4, [a, b, c, d] ++ List.replicate 12 0)) := by show _ = _; unfold wholeV; rw [hd]; rfl
    have CA := Lib.hid (fun w => pall_any 4 w)
    obtain ⟨R, hR⟩ : ∃ R, R = pcells 4 ([a, b, c, d] ++ List.replicate 12 0) 0 := ⟨_, rfl⟩
    have HR : Hid (R.length = 18 ∧ ∀ v ∈ R, v.oneCell' = true) := by rw [hR]; exact ⟨rfl, (pc_parts 4 0 rfl).one⟩
    have HRa : Hid ((R.drop 0).take 18 = R) := by rw [hR]; exact (pc_parts 4 0 rfl).all
    have HRe : Hid (R = pcells 4 ([a, b, c, d] ++ List.replicate 12 0) 0) := hR
    rw [HF.out]
    have HV : Hid (wcells (some (4, [a, b, c, d] ++ List.replicate 12 0)) = R) := hR.symm
    rw [HV.out]
    obtain ⟨Q4, hQ4⟩ : ∃ Q, Q = pcells 4 zero16 0 := ⟨_, rfl⟩
    have HQ : Hid (Q4.length = 18 ∧ ∀ v ∈ Q4, v.oneCell' = true) := by rw [hQ4]; exact ⟨rfl, (pc_parts 4 0 rfl).one⟩
    have HQe : Hid (Q4.take 1 ++ bcells [a, b, c, d] ++ Q4.drop (1 + (bcells [a, b, c, d]).length) = R) := by show _ = _; rw [hQ4, hR]; exact p4_cells a b c d
    rw [← hQ4] at CA
    obtain ⟨F, hF⟩ : ∃ F, F = bcells [a, b, c, d] := ⟨_, rfl⟩
    have HFl : Hid (F.length = 4) := by show _ = _; rw [hF]; rfl
    have HFo : Hid (∀ v ∈ F, v.oneCell' = true) := by show ∀ v ∈ F, v.oneCell' = true; rw [hF]; exact bcells_one _
    rw [← hF] at CD HQe
    clear hF
    clear HF HV hR hQ4 hd hl
    go_enter Tryd.func15, Tryd.ntmps15
    go_upto_region 1 with fail
    refine wp_region_lit ?_
    refine wpList_quiet_take (C := KV w [(24, w.heap.size, pcells 0 zero16 0)]) 5 K0.out ?_
    simp only [List.take, List.drop]
    repeat (first
      | go_big_quiet_skip
      | (go_big_quiet_want; go_big_quiet_op; go_big_quiet_on)
      | (go_big_quiet_want; go_big_quiet_op; apply Exists.intro; refine ⟨fun w' hw' => (by first | (with_reducible refine (CD.out w').mono ?_; rintro e w'' ⟨rfl, hb⟩; exact ⟨rfl, hw'.below hb⟩) | fail), ?_⟩; go_big_quiet_on)
      | (go_big_quiet_want; go_big_quiet_op; apply Exists.intro; refine ⟨fun w' hw' => rfl, ?_⟩; go_big_quiet_on))
    refine wpQuiet_nil ?_
    intro w1 hw1
    have K3 : Hid (KV w [(24, w.heap.size, pcells 0 zero16 0), (35, w1.heap.size, F)] ((w1.alloc (.cells (bcells [0, 0, 0, 0]).toArray 35)).setCells w1.heap.size 0 F)) := (hw1.new 35 (bcells [0, 0, 0, 0])).store 1 rfl F (by rw [HFl.out]; rfl)
    have a3 := Lib.hid ((hw1.new 35 (bcells [0, 0, 0, 0])).at 1 rfl)
    clear hw1
    go_upto_region 3 with (first | refine wpList_store_v rfl 35 (.tmp 4) (.tmp 12) rfl _ rfl ty4 a3.out rfl F HFl.out HFo.out rfl ?_ | fail)
    refine wp_region_lit ?_
    refine wpList_quiet_take (C := KV w [(24, w.heap.size, pcells 0 zero16 0), (35, w1.heap.size, F)]) 1 K3.out ?_
    simp only [List.take, List.drop]
    repeat (first
      | go_big_quiet_skip
      | (go_big_quiet_want; go_big_quiet_op; go_big_quiet_on)
      | (go_big_quiet_want; go_big_quiet_op; apply Exists.intro; refine ⟨fun w' hw' => (by first | (with_reducible refine (CA.out w').mono ?_; rintro e w'' ⟨rfl, hb⟩; exact ⟨rfl, hw'.below hb⟩) | fail), ?_⟩; go_big_quiet_on)
      | (go_big_quiet_want; go_big_quiet_op; apply Exists.intro; refine ⟨fun w' hw' => rfl, ?_⟩; go_big_quiet_on))
    refine wpQuiet_nil ?_
    intro w4 hw4
    have K5 : Hid (KV w [(24, w.heap.size, pcells 0 zero16 0), (35, w1.heap.size, F), (24, w4.heap.size, Q4)] ((w4.alloc (.cells (pcells 0 zero16 0).toArray 24)).setCells w4.heap.size 0 Q4)) := (hw4.new 24 (pcells 0 zero16 0)).store 2 rfl Q4 (by rw [HQ.out.1]; rfl)
    have a5 := Lib.hid ((hw4.new 24 (pcells 0 zero16 0)).at 2 rfl)
    obtain ⟨V6, hV6⟩ : ∃ V6, V6 = (w4.alloc (.cells #[.int .i64 0, .int .u8 0, .int .u8 0, .int .u8 0, .int .u8 0, .int .u8 0, .int .u8 0, .int .u8 0, .int .u8 0, .int .u8 0, .int .u8 0, .int .u8 0, .int .u8 0, .int .u8 0, .int .u8 0, .int .u8 0, .int .u8 0, .int .i64 0] 24)).setCells w4.heap.size 0 Q4 := ⟨_, rfl⟩
    have K6 : Hid (KV w [(24, w.heap.size, pcells 0 zero16 0), (35, w1.heap.size, F), (24, w4.heap.size, Q4)] V6) := by show KV _ _ _; rw [hV6]; exact K5.out
    go_upto_region 4 with (first | refine wpList_store_v rfl 24 (.tmp 6) (.tmp 16) rfl _ rfl typfx a5.out zero18_len Q4 HQ.out.1 HQ.out.2 rfl ?_ | fail)
    simp only [Act.put]
    rw [← hV6]
    obtain ⟨w7, hcp, hO, b7⟩ := copy_at bytes_slice u8one 24 V6.drew w4.heap.size 1 16 16 Q4 ⟨w1.heap.size, 0, none⟩ 4 4 F ((K6.out.at 2 rfl).drew) HFl.out (cells_src ((K6.out.at 1 rfl).drew)) (by rw [HQ.out.1, HFl.out]; decide) HFo.out
    rw [HQe.out] at hO
    rw [HFl.out] at hcp
    have hlt : w1.heap.size < w4.heap.size := (hw4.at 1 rfl).lt
    have hlt0 : w.heap.size < w4.heap.size := (hw4.at 0 rfl).lt
    have R0 := Lib.hid ((K6.out.at 0 rfl).drew.belowB b7 hlt0)
    have hb7 := Lib.hid (K6.out.bel.drew.trans (b7.mono (Nat.le_of_lt hlt0)))
    have R6 := Lib.hid hO
    clear hV6 K5 K6 a5 a3 K3 hw4 hO b7 hlt hlt0 K0
    go_region
    clear hcp
    go_upto_region 5 with fail
    refine wp_region_lit ?_
    go_wp2_with (first | refine wpList_load_v rfl 24 (.tmp 6) rfl _ rfl typfx R6.out HR.out.1 ?_ | refine wpList_store_v rfl 24 (.tmp 2) (.tmp 21) rfl _ rfl typfx R0.out zero18_len R HR.out.1 HR.out.2 rfl ?_ | fail)
    exact bodyPost_ret (v := .tuple #[.agg R.toArray, .int .i64 0]) (res_cell_tmp Tryd.results15 rfl ((R0.out.store R (by rw [HR.out.1]; rfl)).loadVar typfx HR.out.1) rfl) rfl ⟨rfl, setCells_below _ (Nat.le_refl _) _ _ _ hb7.out⟩
  · have hEb : ((E : Int) == 0) = false := by simpa using hE
    have HW : Hid (wholeV l = (colParse l).map fun gs => (6, addrB gs)) := by show _ = _; unfold wholeV; rw [hd, if_neg hE]
    obtain ⟨F, hF⟩ : ∃ F, F = bcells [a, b, c, d] := ⟨_, rfl⟩
    have HFl : Hid (F.length = 4) := by show _ = _; rw [hF]; rfl
    have HFo : Hid (∀ v ∈ F, v.oneCell' = true) := by show ∀ v ∈ F, v.oneCell' = true; rw [hF]; exact bcells_one _
    rw [← hF] at CD
    clear hF hd
    cases hc : colParse l with
    | none =>
      have CP : Hid (∀ w, Bru w → MaxL w → Calls Tryd.prog 24 #[.string s] w fun e w' => e = .returned (.tuple #[.agg (bcells zero16).toArray, .int .i64 3]) ∧ Below w.heap.size w w') := fun w h1 h2 => (CC.out w h1 h2).mono fun e w' ⟨g1, g2⟩ => ⟨by rw [g1, ← hl, hc]; rfl, g2⟩
      rw [HW.out, hc]
      have HF : Hid (wcells ((none : Option (List Nat)).map fun gs => ((6 : Int), addrB gs)) = pcells 0 zero16 0 ∧ werr ((none : Option (List Nat)).map fun gs => ((6 : Int), addrB gs)) = 3) := ⟨rfl, rfl⟩
      rw [HF.out.1, HF.out.2]
      obtain ⟨G, hG⟩ : ∃ G, G = bcells zero16 := ⟨_, rfl⟩
      have HGl : Hid (G.length = 16) := by show _ = _; rw [hG]; rfl
      have HGo : Hid (∀ v ∈ G, v.oneCell' = true) := by show ∀ v ∈ G, v.oneCell' = true; rw [hG]; exact bcells_one _
      obtain ⟨ZZ, hZZ⟩ : ∃ Z, Z = pcells 0 zero16 0 := ⟨_, rfl⟩
      have HZ : Hid (Value.agg #[.int .i64 0, .int .u8 0, .int .u8 0, .int .u8 0, .int .u8 0, .int .u8 0, .int .u8 0, .int .u8 0, .int .u8 0, .int .u8 0, .int .u8 0, .int .u8 0, .int .u8 0, .int .u8 0, .int .u8 0, .int .u8 0, .int .u8 0, .int .i64 0] = .agg ZZ.toArray) := by show _ = _; rw [hZZ]; rfl
      have HZl : Hid (ZZ.length = 18) := by show _ = _; rw [hZZ]; rfl
      have HZo : Hid (∀ v ∈ ZZ, v.oneCell' = true) := by show ∀ v ∈ ZZ, v.oneCell' = true; rw [hZZ]; exact zero18_one
      have HZe : Hid (pcells 0 zero16 0 = ZZ) := hZZ.symm
      rw [← hG] at CP
      clear hG hZZ HF HW hc CC
      go_enter Tryd.func15, Tryd.ntmps15
      go_upto_region 1 with fail
      refine wp_region_lit ?_
      refine wpList_quiet_take (C := KV w [(24, w.heap.size, pcells 0 zero16 0)]) 5 K0.out ?_
      simp only [List.take, List.drop]
      repeat (first
        | go_big_quiet_skip
        | (go_big_quiet_want; go_big_quiet_op; go_big_quiet_on)
        | (go_big_quiet_want; go_big_quiet_op; apply Exists.intro; refine ⟨fun w' hw' => (by first | (with_reducible refine (CD.out w').mono ?_; rintro e w'' ⟨rfl, hb⟩; exact ⟨rfl, hw'.below hb⟩) | fail), ?_⟩; go_big_quiet_on)
        | (go_big_quiet_want; go_big_quiet_op; apply Exists.intro; refine ⟨fun w' hw' => rfl, ?_⟩; go_big_quiet_on))
      refine wpQuiet_nil ?_
      intro w1 hw1
      have K3 : Hid (KV w [(24, w.heap.size, pcells 0 zero16 0), (35, w1.heap.size, F)] ((w1.alloc (.cells (bcells [0, 0, 0, 0]).toArray 35)).setCells w1.heap.size 0 F)) := (hw1.new 35 (bcells [0, 0, 0, 0])).store 1 rfl F (by rw [HFl.out]; rfl)
      have a3 := Lib.hid ((hw1.new 35 (bcells [0, 0, 0, 0])).at 1 rfl)
      clear hw1
      go_upto_region 6 with (first | refine wpList_store_v rfl 35 (.tmp 4) (.tmp 12) rfl _ rfl ty4 a3.out rfl F HFl.out HFo.out rfl ?_ | fail)
      refine wp_region_lit ?_
      refine wpList_quiet_take (C := KV w [(24, w.heap.size, pcells 0 zero16 0), (35, w1.heap.size, F)]) 5 K3.out ?_
      simp only [List.take, List.drop]
      repeat (first
        | go_big_quiet_skip
        | (go_big_quiet_want; go_big_quiet_op; go_big_quiet_on)
        | (go_big_quiet_want; go_big_quiet_op; apply Exists.intro; refine ⟨fun w' hw' => (by first | (with_reducible refine (CP.out w' (HT.out.below hw'.bel).bru (HT.out.below hw'.bel).max).mono ?_; rintro e w'' ⟨rfl, hb⟩; exact ⟨rfl, hw'.below hb⟩) | fail), ?_⟩; go_big_quiet_on)
        | (go_big_quiet_want; go_big_quiet_op; apply Exists.intro; refine ⟨fun w' hw' => rfl, ?_⟩; go_big_quiet_on))
      refine wpQuiet_nil ?_
      intro w4 hw4
      have K5 : Hid (KV w [(24, w.heap.size, pcells 0 zero16 0), (35, w1.heap.size, F), (22, w4.heap.size, G)] ((w4.alloc (.cells (bcells zero16).toArray 22)).setCells w4.heap.size 0 G)) := (hw4.new 22 (bcells zero16)).store 2 rfl G (by rw [HGl.out]; rfl)
      have a5 := Lib.hid ((hw4.new 22 (bcells zero16)).at 2 rfl)
      clear hw4 a3 K3 K0
      go_upto_region 7 with (first | refine wpList_store_v rfl 22 (.tmp 7) (.tmp 25) rfl _ rfl ty16 a5.out rfl G HGl.out HGo.out rfl ?_ | fail)
      refine wp_region_lit ?_
      refine wpList_quiet_all (C := KV w [(24, w.heap.size, pcells 0 zero16 0), (35, w1.heap.size, F), (22, w4.heap.size, G)]) K5.out ?_
      repeat (first
        | go_big_quiet_skip
        | (go_big_quiet_want; go_big_quiet_op; go_big_quiet_on)
        | (go_big_quiet_want; go_big_quiet_op; apply Exists.intro; refine ⟨fun w' hw' => rfl, ?_⟩; go_big_quiet_on))
      refine wpQuiet_nil ?_
      intro w6 hw6
      have a1 := Lib.hid (hw6.at 0 rfl)
      have K9 := Lib.hid (hw6.store 0 rfl ZZ (by rw [HZl.out]; rfl))
      clear hw6
      go_wp2_with (first | refine wpList_store_v rfl 24 (.tmp 2) (.tmp 29) rfl _ rfl typfx a1.out zero18_len ZZ HZl.out HZo.out HZ.out ?_ | fail)
      exact bodyPost_ret (v := .tuple #[.agg ZZ.toArray, .int .i64 3]) (res_cell_tmp Tryd.results15 rfl ((K9.out.at 0 rfl).loadVar typfx HZl.out) rfl) rfl ⟨by rw [HZe.out], K9.out.bel⟩
    | some gs =>
      obtain ⟨h8, hlt⟩ := colParse_len hc
      have CP : Hid (∀ w, Bru w → MaxL w → Calls Tryd.prog 24 #[.string s] w fun e w' => e = .returned (.tuple #[.agg (bcells (addrB gs)).toArray, .int .i64 0]) ∧ Below w.heap.size w w') := fun w h1 h2 => (CC.out w h1 h2).mono fun e w' ⟨g1, g2⟩ => ⟨by rw [g1, ← hl, hc]; rfl, g2⟩
      rw [HW.out, hc]
      have hX : (addrB gs).length = 16 := by rw [addrB_len, h8]
      obtain ⟨X, hXe⟩ : ∃ X, X = addrB gs := ⟨_, rfl⟩
      rw [← hXe] at CP hX
      have HR := Lib.hid (pc_parts 6 0 hX)
      obtain ⟨R, hR⟩ : ∃ R, R = pcells 6 X 0 := ⟨_, rfl⟩
      have HRe : Hid (pcells 6 X 0 = R) := hR.symm
      rw [← hR] at HR
      have HF : Hid (wcells ((some gs : Option (List Nat)).map fun gs => ((6 : Int), addrB gs)) = R ∧ werr ((some gs : Option (List Nat)).map fun gs => ((6 : Int), addrB gs)) = 0) := ⟨by rw [hR, hXe]; rfl, rfl⟩
      rw [HF.out.1, HF.out.2]
      have HGl : Hid ((bcells X).length = 16) := by show _ = _; rw [bcells_length, hX]
      have HGa : Hid (((bcells X).drop 0).take 16 = bcells X) := by show _ = _; rw [List.drop_zero, List.take_of_length_le (Nat.le_of_eq HGl.out)]
      have HX := Lib.hid hX
      have HGo := Lib.hid (bcells_one X)
      clear hXe hR HF HW hc CC hX h8 hlt
      go_enter Tryd.func15, Tryd.ntmps15
      go_upto_region 1 with fail
      refine wp_region_lit ?_
      refine wpList_quiet_take (C := KV w [(24, w.heap.size, pcells 0 zero16 0)]) 5 K0.out ?_
      simp only [List.take, List.drop]
      repeat (first
        | go_big_quiet_skip
        | (go_big_quiet_want; go_big_quiet_op; go_big_quiet_on)
        | (go_big_quiet_want; go_big_quiet_op; apply Exists.intro; refine ⟨fun w' hw' => (by first | (with_reducible refine (CD.out w').mono ?_; rintro e w'' ⟨rfl, hb⟩; exact ⟨rfl, hw'.below hb⟩) | fail), ?_⟩; go_big_quiet_on)
        | (go_big_quiet_want; go_big_quiet_op; apply Exists.intro; refine ⟨fun w' hw' => rfl, ?_⟩; go_big_quiet_on))
      refine wpQuiet_nil ?_
      intro w1 hw1
      have K3 : Hid (KV w [(24, w.heap.size, pcells 0 zero16 0), (35, w1.heap.size, F)] ((w1.alloc (.cells (bcells [0, 0, 0, 0]).toArray 35)).setCells w1.heap.size 0 F)) := (hw1.new 35 (bcells [0, 0, 0, 0])).store 1 rfl F (by rw [HFl.out]; rfl)
      have a3 := Lib.hid ((hw1.new 35 (bcells [0, 0, 0, 0])).at 1 rfl)
      clear hw1
      go_upto_region 6 with (first | refine wpList_store_v rfl 35 (.tmp 4) (.tmp 12) rfl _ rfl ty4 a3.out rfl F HFl.out HFo.out rfl ?_ | fail)
      refine wp_region_lit ?_
      refine wpList_quiet_take (C := KV w [(24, w.heap.size, pcells 0 zero16 0), (35, w1.heap.size, F)]) 5 K3.out ?_
      simp only [List.take, List.drop]
      repeat (first
        | go_big_quiet_skip
        | (go_big_quiet_want; go_big_quiet_op; go_big_quiet_on)
        | (go_big_quiet_want; go_big_quiet_op; apply Exists.intro; refine ⟨fun w' hw' => (by first | (with_reducible refine (CP.out w' (HT.out.below hw'.bel).bru (HT.out.below hw'.bel).max).mono ?_; rintro e w'' ⟨rfl, hb⟩; exact ⟨rfl, hw'.below hb⟩) | fail), ?_⟩; go_big_quiet_on)
        | (go_big_quiet_want; go_big_quiet_op; apply Exists.intro; refine ⟨fun w' hw' => rfl, ?_⟩; go_big_quiet_on))
      refine wpQuiet_nil ?_
      intro w4 hw4
      have K5 : Hid (KV w [(24, w.heap.size, pcells 0 zero16 0), (35, w1.heap.size, F), (22, w4.heap.size, (bcells X))] ((w4.alloc (.cells (bcells zero16).toArray 22)).setCells w4.heap.size 0 (bcells X))) := (hw4.new 22 (bcells zero16)).store 2 rfl (bcells X) (by rw [HGl.out]; rfl)
      have a5 := Lib.hid ((hw4.new 22 (bcells zero16)).at 2 rfl)
      clear hw4 a3 K3 K0
      go_upto_region 7 with (first | refine wpList_store_v rfl 22 (.tmp 7) (.tmp 25) rfl _ rfl ty16 a5.out rfl (bcells X) HGl.out HGo.out rfl ?_ | fail)
      refine wp_region_lit ?_
      refine wpList_quiet_all (C := KV w [(24, w.heap.size, pcells 0 zero16 0), (35, w1.heap.size, F), (22, w4.heap.size, (bcells X))]) K5.out ?_
      repeat (first
        | go_big_quiet_skip
        | (go_big_quiet_want; go_big_quiet_op; go_big_quiet_on)
        | (go_big_quiet_want; go_big_quiet_op; apply Exists.intro; refine ⟨fun w' hw' => rfl, ?_⟩; go_big_quiet_on))
      refine wpQuiet_nil ?_
      intro w6 hw6
      go_upto_region 9 with fail
      refine wp_region_lit ?_
      refine wpList_quiet_take (C := KV w [(24, w.heap.size, pcells 0 zero16 0), (35, w1.heap.size, F), (22, w4.heap.size, (bcells X))]) 2 hw6 ?_
      simp only [List.take, List.drop]
      repeat (first
        | go_big_quiet_skip
        | (go_big_quiet_want; apply Exists.intro; refine ⟨fun w' hw' => (by first | exact quietAt_part rfl rfl ty16 (hw'.at 2 rfl) HGa.out HGl.out | exact quietAt_pfx2 rfl rfl rfl HX.out HRe.out | fail), ?_⟩; simp only [Act.put, List.setIfInBounds_toArray, List.set_cons_zero, List.set_cons_succ]; go_big_quiet_on)
        | (go_big_quiet_want; go_big_quiet_op; go_big_quiet_on)
        | (go_big_quiet_want; go_big_quiet_op; apply Exists.intro; refine ⟨fun w' hw' => rfl, ?_⟩; go_big_quiet_on))
      refine wpQuiet_nil ?_
      intro w7 hw7
      have a1 := Lib.hid (hw7.at 0 rfl)
      have K9 := Lib.hid (hw7.store 0 rfl R (by rw [HR.out.len]; rfl))
      clear hw7
      go_wp2_with (first | refine wpList_store_v rfl 24 (.tmp 2) (.tmp 31) rfl _ rfl typfx a1.out zero18_len R HR.out.len HR.out.one rfl ?_ | fail)
      exact bodyPost_ret (v := .tuple #[.agg R.toArray, .int .i64 0]) (res_cell_tmp Tryd.results15 rfl ((K9.out.at 0 rfl).loadVar typfx HR.out.len) rfl) rfl ⟨rfl, K9.out.bel⟩
end Go.Proofs.YtaicmadeobglfaaDoor
