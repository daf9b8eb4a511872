/-
  The document's Write of layer 11.
-/
import Derived.Test.YtjpaicdbnadoeaaREw4
import Derived.Test.YtjpaicdbnadoeaaJoin2
namespace Go.Proofs.Ytjpaicdbnadoeaa
open Go.RowKit
set_option linter.unusedVariables false

theorem exWrong_zero {k : Int} {b : List Nat} {i : Nat} {fr : Bool} (h : exWrong (k, b) i fr = 0) : exKind k = true ∧ exWell k (b.length + 2) = true ∧ (exCount k b.length).getD 0 = exTell k (b.length + 2) := by
  unfold exWrong at h
  dsimp only at h
  obtain ⟨h1, h2⟩ := exCount_well k b.length
  cases hk : exKind k with
  | false => rw [if_pos hk] at h; cases h
  | true =>
    rw [if_neg (by rw [hk]; simp)] at h
    cases hc : (exCount k b.length).isSome with
    | false => rw [if_pos hc] at h; cases h
    | true =>
      rw [h1] at hc
      exact ⟨rfl, hc, h2 hc⟩
theorem exWell_bd {k : Int} {n : Nat} (h : exWell k n = true) : n ≤ 2048 ∧ exTell k n ≤ 255 ∧ (k = 44 → n = 8) ∧ (k = 51 → 8 ≤ n ∧ n ≤ 1028) := by
  unfold exWell at h
  unfold exTell
  by_cases h4 : k = 44
  · rw [if_pos h4] at h ⊢
    have := of_decide_eq_true h
    exact ⟨by omega, by omega, fun _ => this, fun e => absurd (h4.symm.trans e) (by decide)⟩
  · rw [if_neg h4] at h ⊢
    by_cases h5 : k = 51
    · rw [if_pos h5] at h ⊢
      have := of_decide_eq_true h
      exact ⟨by omega, by omega, fun e => absurd e h4, fun _ => ⟨this.2.1, this.2.2⟩⟩
    · rw [if_neg h5] at h ⊢
      have := of_decide_eq_true h
      exact ⟨by omega, by omega, fun e => absurd e h4, fun e => absurd e h5⟩
theorem hadFrag_next {M : List (Int × List Nat)} {j : Nat} {m : Int × List Nat} (h : M[j]? = some m) : hadFrag M (j + 1) = (hadFrag M j || decide (m.1 = 44)) := by
  rw [hadFrag, List.getD_eq_getElem?_getD, h]
  rfl
theorem bytes_next {M : List (Int × List Nat)} {proto : Int} {j : Nat} {k : Int} {bd pre : List Nat} {x y : Nat} (hm : M[j]? = some (k, bd)) (hx : exNext proto (M.drop (j + 1)) = (x : Int)) (hy : (exCount k bd.length).getD 0 = y)
    (h : pre ++ exBytes proto (M.drop j) = exBytes proto M) : (pre ++ [x, y] ++ bd) ++ exBytes proto (M.drop (j + 1)) = exBytes proto M := by
  obtain ⟨h1, h2⟩ := List.getElem?_eq_some_iff.1 hm
  rw [← h, List.drop_eq_getElem_cons h1, h2, exBytes, hx, hy]
  simp
theorem write_byte (z : Int) : ∃ x : Nat, z % 256 = (x : Int) ∧ x < 256 ∧ (0 ≤ z ∧ z ≤ 255 → z = (x : Int)) := ⟨(z % 256).toNat, by omega, by omega, by omega⟩
theorem w_ints {j N : Nat} (h8 : N ≤ 8) (hj : j ≤ N) : (j : Int) ≤ 8 ∧ wrap64 ((j : Int) + 1) = (j : Int) + 1 ∧ (0 : Int) ≤ (j : Int) ∧ (0 : Int) ≤ (j : Int) + 1 := ⟨by omega, by unfold wrap64; omega, by omega, by omega⟩
theorem len_ints {n : Nat} (h : n ≤ 2046) : wrap64 ((n : Int) + 2) = ((n + 2 : Nat) : Int) := by unfold wrap64; omega
theorem div_ints {x : Nat} (h : x ≤ 2048) : wrap64 ((x : Int) / 8) = (x : Int) / 8 ∧ wrap64 ((x : Int) / 4) = (x : Int) / 4 := by unfold wrap64; omega
theorem nx_yes {j N : Nat} (h : j + 1 < N) : (j : Int) + 1 < (N : Int) ∧ ((j : Int) + 1).toNat = j + 1 := ⟨by omega, by omega⟩
theorem nx_no {j N : Nat} (h : ¬ j + 1 < N) : ¬ (j : Int) + 1 < (N : Int) ∧ N ≤ j + 1 := ⟨by omega, by omega⟩
theorem bd_small {n x : Nat} (h : x = n + 2) (h2 : x ≤ 2048) : n ≤ 2046 ∧ 2 ≤ x := by omega
theorem tell_byte {k : Int} {x y : Nat} (h2x : 2 ≤ x) (h4 : k ≠ 44) (hw : exWell k x = true) (hy : y = exTell k x) : (k = 51 → wrap64 ((x : Int) / 4 - 2) % 256 = (y : Int) ∧ ((x : Int) / 4 - 2) % 256 = (y : Int)) ∧ (k ≠ 51 → wrap64 (wrap64 ((x : Int) / 8) - 1) % 256 = (y : Int) ∧ ((x : Int) / 8 - 1) % 256 = (y : Int)) ∧ wrap64 ((x : Int) / 8 - 1) = (x : Int) / 8 - 1 := by
  obtain ⟨h1, h2, _, h3⟩ := exWell_bd hw
  unfold exTell at hy
  unfold exWell at hw
  rw [if_neg h4] at hy hw
  refine ⟨fun h5 => ?_, fun h5 => ?_, by unfold wrap64; omega⟩
  · rw [if_pos h5] at hy hw
    have := of_decide_eq_true hw
    unfold wrap64
    omega
  · rw [if_neg h5] at hy hw
    have := of_decide_eq_true hw
    unfold wrap64
    omega
theorem rex_join (w5 : World) (Ao A3 : Option Addr) (co c3 n p q y : Nat) (pre bd : List Nat) (hn : n = bd.length) (hp : p = pre.length) (ho : Row w5 Ao pre.length pre) (hb : Row w5 A3 bd.length bd) (hq : q < 256) (hy : y < 256) (h1 : pre.length ≤ 20000) (h2 : n ≤ 2046) :
    Calls Try.prog 66 #[.slice (some ⟨w5.heap.size + 1, 0, none⟩) 3 3] ((w5.alloc (.cells #[.int .u8 (q : Nat), .int .u8 (y : Nat)] 5)).alloc (.cells #[.slice Ao p co, .slice (some ⟨w5.heap.size, 0, none⟩) 2 2, .slice A3 n c3] 22))
      fun e w' => ∃ v, e = .returned v ∧ OutIs w5.heap.size w' v (pre ++ [q, y] ++ bd) ∧ Below w5.heap.size w5 w' := by
  subst hn hp
  obtain ⟨V, eV⟩ : ∃ V, V = w5.alloc (.cells (bcells [q, y]).toArray 5) := ⟨_, rfl⟩
  have hs : V.heap.size = w5.heap.size + 1 := by rw [eV]; simp
  have r2 : Row V (some ⟨w5.heap.size, 0, none⟩) 2 [q, y] := by rw [eV]; exact (Own.new w5 [q, y]).row (fun z hz => by simp at hz; omega)
  have bV : Below w5.heap.size w5 V := by rw [eV]; exact (Below.refl _ _).alloc (Nat.le_refl _) _
  show Calls Try.prog _ _ ((w5.alloc (.cells (bcells [q, y]).toArray 5)).alloc _) _
  rw [← eV, ← hs]
  have hnew := heap_alloc_new V (.cells #[.slice Ao pre.length co, .slice (some ⟨w5.heap.size, 0, none⟩) 2 2, .slice A3 bd.length c3] 22)
  refine (join_three V.heap.size 3 _ co _ 2 _ c3 _ _ _ pre [q, y] bd _ (by rw [cell_of_row _ _ _ _ _ _ hnew]; rfl) (by rw [cell_of_row _ _ _ _ _ _ hnew]; rfl) (by rw [cell_of_row _ _ _ _ _ _ hnew]; rfl) ((ho.below bV).alloc _) (r2.alloc _) ((hb.below bV).alloc _) (by omega)).mono ?_
  rintro e w' ⟨v, he, ho2, hb2⟩
  exact ⟨v, he, ho2.mono (by simp; omega), below_both bV (below_al hb2)⟩
theorem join_byte {pre bd : List Nat} {q y : Nat} (h : ∀ x ∈ pre, x < 256) (hq : q < 256) (hy : y < 256) (hb : ∀ x ∈ bd, x < 256) : ∀ x ∈ pre ++ [q, y] ++ bd, x < 256 := fun z hz => by
  rcases List.mem_append.1 hz with h1 | h1
  · rcases List.mem_append.1 h1 with h2 | h2
    · exact h z h2
    · simp at h2; omega
  · exact hb z h1
theorem pre_len {p j n N : Nat} {pre bd : List Nat} {q y : Nat} (h : pre.length ≤ 2100 * j) (hj : j < N) (h8 : N ≤ 8) (hn : n = bd.length) (h2 : n ≤ 2046) : pre.length ≤ 20000 ∧ (pre ++ [q, y] ++ bd).length ≤ 2100 * (j + 1) := by
  have : 2100 * j ≤ 2100 * 8 := Nat.mul_le_mul_left _ (by omega)
  refine ⟨by omega, ?_⟩
  simp only [List.length_append, List.length_cons, List.length_nil]
  omega
set_option maxRecDepth 10000 in
set_option maxHeartbeats 6400000 in
theorem rexwrite_any (v : Value) (M : List (Int × List Nat)) (proto : Int) (w : World) (hM : ExtsIn w v M) (hl : M.length ≤ 140737488355328) :
    Calls Try.prog 67 #[v, .int .i64 proto] w (WriteExt M proto w) := by
  have CI := Lib.hid (rexis_any proto)
  obtain ⟨V1, e1⟩ : ∃ V, V = w.alloc (.cells #[.int .i64 0, .int .i64 0] 118) := ⟨_, rfl⟩
  have hA : ArrV 118 V1 w.heap.size [.int .i64 0, .int .i64 0] := by rw [e1]; exact ArrV.new _ w _
  have HA5 := Lib.hid hA
  have HB1 : Hid (Below w.heap.size w V1) := by show Below _ _ _; rw [e1]; exact (Below.refl _ _).alloc (Nat.le_refl _) _
  have HE1 := Lib.hid e1
  have HM := Lib.hid hM
  obtain ⟨A, c, rfl, hc, _⟩ := hM
  obtain ⟨r, hr⟩ : ∃ r, r = exCheck M proto := ⟨_, rfl⟩
  have HRR : Hid (r = if proto < 0 ∨ 255 < proto ∨ exKind proto = true then (1, 0) else if 8 < M.length then (7, 8) else exCheckF M 0 false) := hr
  have HOK : Hid (r.1 = 0 → r = (0, 0) ∧ (0 ≤ proto ∧ proto ≤ 255 ∧ exKind proto = false) ∧ M.length ≤ 8 ∧ ∀ m ∈ M, exKind m.1 = true ∧ ∃ x, exCount m.1 m.2.length = some x) := fun h => by rw [hr] at h ⊢; exact exCheck_ok h
  obtain ⟨N, hN⟩ : ∃ N, N = M.length := ⟨_, rfl⟩
  have HN := Lib.hid hN
  rw [← hN] at HRR ⊢
  have c0 := hA.get 0
  have c1 := hA.get 1
  have f0 := hA.frozen 0
  have f1 := hA.frozen 1
  simp at c0 c1
  have hlb : N ≤ 140737488355328 := by rw [hN]; exact hl
  unfold WriteExt
  rw [← hr]
  have HDONE : Hid (∀ (x y : Nat) (U : World), r = (x, y) → x ≠ 0 → ArrV 118 U w.heap.size [.int .i64 0, .int .i64 0] → Below w.heap.size w U →
      (Go.loadVar 118 ⟨w.heap.size, 0, none⟩).run Try.prog ((U.setCell ⟨w.heap.size, 0, none⟩ (.int .i64 (x : Nat))).setCell ⟨w.heap.size, 1, none⟩ (.int .i64 (y : Nat))) = .ok (.agg (faultV r).toArray) ((U.setCell ⟨w.heap.size, 0, none⟩ (.int .i64 (x : Nat))).setCell ⟨w.heap.size, 1, none⟩ (.int .i64 (y : Nat))) ∧
      Below w.heap.size w ((U.setCell ⟨w.heap.size, 0, none⟩ (.int .i64 (x : Nat))).setCell ⟨w.heap.size, 1, none⟩ (.int .i64 (y : Nat))) ∧ r.1 ≠ 0) := fun x y U h hx hA hB => by
    have h2 := check_done (r := r) (V1 := U) hA hB x y h
    exact ⟨h2.1, h2.2.2, by rw [h]; exact hx⟩
  clear hr e1 hA hc hN hl
  by_cases hp0 : proto < 0
  · obtain ⟨d1, d2, d3⟩ := HDONE.out 1 0 V1 (by rw [HRR.out, if_pos (.inl hp0)]) (by decide) HA5.out HB1.out
    have HD := Lib.hid (And.intro d1 (And.intro d2 d3))
    clear d1 d2 d3
    go_enter Try.func67, Try.ntmps67
    go_upto_region 1 with fail
    rw [← HE1.out]
    go_wp2_with fail
    exact bodyPost_ret (res_tmp_cell Try.results67 rfl HD.out.1 rfl) rfl ⟨HD.out.2.1, fun _ => rfl, fun h => absurd h HD.out.2.2⟩
  by_cases hp1 : 255 < proto
  · obtain ⟨d1, d2, d3⟩ := HDONE.out 1 0 V1 (by rw [HRR.out, if_pos (.inr (.inl hp1))]) (by decide) HA5.out HB1.out
    have HD := Lib.hid (And.intro d1 (And.intro d2 d3))
    clear d1 d2 d3
    go_enter Try.func67, Try.ntmps67
    go_upto_region 1 with fail
    rw [← HE1.out]
    go_wp2_with fail
    exact bodyPost_ret (res_tmp_cell Try.results67 rfl HD.out.1 rfl) rfl ⟨HD.out.2.1, fun _ => rfl, fun h => absurd h HD.out.2.2⟩
  cases hk : exKind proto with
  | true =>
    obtain ⟨d1, d2, d3⟩ := HDONE.out 1 0 V1 (by rw [HRR.out, if_pos (.inr (.inr hk))]) (by decide) HA5.out HB1.out
    have HD := Lib.hid (And.intro d1 (And.intro d2 d3))
    rw [hk] at CI
    clear hk d1 d2 d3
    go_enter Try.func67, Try.ntmps67
    go_upto_region 1 with fail
    rw [← HE1.out]
    go_wp2_with fail
    refine (CI.out _).mono ?_
    rintro e w' ⟨rfl, rfl⟩
    go_wp2_with fail
    exact bodyPost_ret (res_tmp_cell Try.results67 rfl HD.out.1 rfl) rfl ⟨HD.out.2.1, fun _ => rfl, fun h => absurd h HD.out.2.2⟩
  | false =>
    rw [hk] at CI
    have HR2 : Hid (r = if 8 < N then (7, 8) else exCheckF M 0 false) := by
      show r = _
      rw [HRR.out, if_neg]
      rintro (h | h | h)
      · exact hp0 h
      · exact hp1 h
      · rw [hk] at h; cases h
    have HPB : Hid (0 ≤ proto ∧ proto ≤ 255) := by show _ ∧ _; omega
    clear hk HRR
    by_cases h8 : 8 < N
    · obtain ⟨d1, d2, d3⟩ := HDONE.out 7 8 V1 (by rw [HR2.out, if_pos h8]) (by decide) HA5.out HB1.out
      have HD := Lib.hid (And.intro d1 (And.intro d2 d3))
      have n8 : (8 : Int) < (N : Int) := by omega
      clear d1 d2 d3
      go_enter Try.func67, Try.ntmps67
      go_upto_region 1 with fail
      rw [← HE1.out]
      go_wp2_with fail
      refine (CI.out _).mono ?_
      rintro e w' ⟨rfl, rfl⟩
      go_wp2_with fail
      exact bodyPost_ret (res_tmp_cell Try.results67 rfl HD.out.1 rfl) rfl ⟨HD.out.2.1, fun _ => rfl, fun h => absurd h HD.out.2.2⟩
    · have n8 : ¬ (8 : Int) < (N : Int) := by omega
      have HN8 : Hid (N ≤ 8) := Nat.le_of_not_lt h8
      have HR3 : Hid (exCheckF (M.drop 0) 0 (hadFrag M 0) = r) := by show _ = r; rw [HR2.out, if_neg h8]; rfl
      clear h8 HR2 c0 c1 f0 f1
      go_enter Try.func67, Try.ntmps67
      go_upto_region 1 with fail
      rw [← HE1.out]
      go_wp2_with fail
      refine (CI.out _).mono ?_
      rintro e w' ⟨rfl, rfl⟩
      go_wp2_with fail
      clear CI hp0 hp1 n8 hlb
      go_loopw [6, 7] (fun ou i W => ∃ (j : Nat) (pre : List Nat), j ≤ N ∧ i = .int .i64 (j : Nat) ∧ OutIs V1.heap.size W ou pre ∧ (∀ x ∈ pre, x < 256) ∧ pre.length ≤ 2100 * j ∧ Below V1.heap.size V1 W ∧ exCheckF (M.drop j) j (hadFrag M j) = r ∧ Hid (r.1 = 0 → pre ++ exBytes proto (M.drop j) = exBytes proto M)) (fun ou i W => N - (intOf i).toNat)
      case atStart => exact ⟨0, [], Nat.zero_le _, rfl, OutIs.nil _ _, (fun x hx => by cases hx), Nat.zero_le _, Below.refl _ _, HR3.out, Lib.hid (fun _ => rfl)⟩
      case round =>
        obtain ⟨j, pre, hj, rfl, hO, hpb, hpl, hW, hr, HPRE⟩ := hrel
        have HOU := Lib.hid hO
        have HPB2 := Lib.hid hpb
        obtain ⟨Ao, co, rfl, hco, hco2, hro⟩ := hO.out hpb
        have HRO := Lib.hid hro
        have HPL := Lib.hid hpl
        have HW := Lib.hid hW
        have BW := Lib.hid (below_both HB1.out hW)
        have A5 := Lib.hid (HA5.out.below hW)
        obtain ⟨j8, jw, j0, j01⟩ := w_ints HN8.out hj
        by_cases hlt : j < N
        · obtain ⟨⟨k, bd⟩, hm⟩ : ∃ m, M[j]? = some m := ⟨_, List.getElem?_eq_getElem (by rw [← HN.out]; exact hlt)⟩
          have hdrop : M.drop j = (k, bd) :: M.drop (j + 1) := by
            obtain ⟨h1, h2⟩ := List.getElem?_eq_some_iff.1 hm
            rw [List.drop_eq_getElem_cons h1, h2]
          rw [hdrop, wrong_step] at hr
          have CW : Hid (∀ W, Below w.heap.size w W → Calls Try.prog 98 #[.slice A N c, .int .i64 (j : Nat)] W fun e w' => e = .returned (.int .i64 (exWrong (k, bd) j (hadFrag M j) : Nat)) ∧ Below W.heap.size W w') := fun W hW => by
            have h := rwrong_any (.slice A M.length c) M j (k, bd) W (HM.out.below hW) hm (by rw [← HN.out]; exact Nat.le_trans HN8.out (by decide))
            rw [← HN.out] at h
            exact h
          obtain ⟨E, hE⟩ : ∃ E, E = exWrong (k, bd) j (hadFrag M j) := ⟨_, rfl⟩
          rw [← hE] at CW hr
          have jI : (j : Int) < (N : Int) := Int.ofNat_lt.2 hlt
          have HJ := Lib.hid (And.intro hj hlt)
          have HMM := Lib.hid hm
          have HEE := Lib.hid hE
          by_cases hE0 : E = 0
          · subst hE0
            rw [if_pos rfl] at hr
            have HNX : Hid (exCheckF (M.drop (j + 1)) (j + 1) (hadFrag M (j + 1)) = r) := by show _ = r; rw [hadFrag_next hm]; exact hr
            obtain ⟨hek, hew, het⟩ := exWrong_zero hE.symm
            obtain ⟨hb1, hb2, hb4, hb5⟩ := exWell_bd hew
            obtain ⟨A2, c2, e2, hc2, hcell⟩ := HM.out.below BW.out
            rw [← HN.out] at e2
            cases e2
            obtain ⟨hbl, b, o, bv, rfl, hb, cc1, cc2, ⟨A3, c3, rfl, hc3, hrow⟩⟩ := hcell j (k, bd) hm
            simp only [] at cc1 cc2
            have HROW := Lib.hid hrow
            have HBLK := Lib.hid hb
            have hlk : Hid (∀ W, Below wr.heap.size wr W → W.cell? ⟨b, o + j * 2, none⟩ = some (.int .i64 k) ∧ W.cell? ⟨b, o + j * 2 + 1, none⟩ = some (.slice A3 bd.length c3)) := fun W hW => ⟨(hW.cell (p := ⟨b, o + j * 2, none⟩) hb).trans cc1, (hW.cell (p := ⟨b, o + j * 2 + 1, none⟩) hb).trans cc2⟩
            have w2 := len_ints (n := bd.length) (Nat.le_of_add_le_add_right (b := 2) hb1)
            obtain ⟨x, hx⟩ : ∃ x, x = bd.length + 2 := ⟨_, rfl⟩
            rw [← hx] at w2 hew het hb1 hb2 hb4 hb5
            obtain ⟨n, hn⟩ : ∃ n, n = bd.length := ⟨_, rfl⟩
            have HNB := Lib.hid hn
            rw [← hn] at w2 hlk
            obtain ⟨hn46, hx2⟩ := bd_small (n := n) (by rw [hx, hn]) hb1
            have HNB2 := Lib.hid hn46
            obtain ⟨y, hy⟩ : ∃ y, y = exTell k x := ⟨_, rfl⟩
            have HTL : Hid ((exCount k bd.length).getD 0 = y) := by show _ = y; rw [het, hy]
            have HY : Hid (y < 256) := by show y < 256; rw [hy]; exact Nat.lt_succ_of_le hb2
            obtain ⟨z, hz⟩ : ∃ z, z = exNext proto (M.drop (j + 1)) := ⟨_, rfl⟩
            obtain ⟨q, hq1, hq2, hq3⟩ := write_byte z
            have HQ : Hid (q < 256) := hq2
            have HZB : Hid (r.1 = 0 → exNext proto (M.drop (j + 1)) = (q : Int)) := fun h => by
              rw [← hz]
              refine hq3 ?_
              rw [hz]
              exact exNext_byte HPB.out fun m hm => ((HOK.out h).2.2.2 m (List.mem_of_mem_drop hm)).1
            have HZZ := Lib.hid hz
            obtain ⟨dv8, dv4⟩ := div_ints hb1
            have HTB : Hid (k ≠ 44 → (k = 51 → wrap64 ((x : Int) / 4 - 2) % 256 = (y : Int) ∧ ((x : Int) / 4 - 2) % 256 = (y : Int)) ∧ (k ≠ 51 → wrap64 (wrap64 ((x : Int) / 8) - 1) % 256 = (y : Int) ∧ ((x : Int) / 8 - 1) % 256 = (y : Int)) ∧ wrap64 ((x : Int) / 8 - 1) = (x : Int) / 8 - 1) := fun h4 => tell_byte hx2 h4 hew hy
            have HY4 : Hid (k = 44 → y = 0 ∧ x = 8) := fun h4 => ⟨by rw [hy]; unfold exTell; rw [if_pos h4], hb4 h4⟩
            clear hr hE hek hew het hb2 hb4 hb5 hcell hc2 hrow hc3 hbl hb cc1 cc2 hm hdrop hj hlt hx hn hy hz hq2 hq3 hpl hW hro hn46 hx2 hO hpb hco2 hco
            by_cases hnx : j + 1 < N
            · by_cases k4 : k = 44
              · subst k4
                have HZ2 : Hid (∃ b2, M[j + 1]? = some (z, b2)) := by
                  obtain ⟨⟨z2, b2⟩, hm2⟩ : ∃ m, M[j + 1]? = some m := ⟨_, List.getElem?_eq_getElem (by rw [← HN.out]; exact hnx)⟩
                  obtain ⟨h1, h2⟩ := List.getElem?_eq_some_iff.1 hm2
                  refine ⟨b2, ?_⟩
                  rw [HZZ.out, List.drop_eq_getElem_cons h1, h2]
                  exact hm2
                have hlk2 : Hid (∀ W, Below wr.heap.size wr W → W.cell? ⟨b, o + (j + 1) * 2, none⟩ = some (.int .i64 z)) := fun W hW => by
                  obtain ⟨b2, hm2⟩ := HZ2.out
                  obtain ⟨A2, c2, e2, _, hcell⟩ := HM.out.below (below_both BW.out hW)
                  rw [← HN.out] at e2
                  cases e2
                  obtain ⟨_, b', o', bv', ea, _, cc1, _, _⟩ := hcell (j + 1) (z, b2) hm2
                  cases ea
                  exact cc1
                obtain ⟨i1, t1⟩ := nx_yes hnx
                clear hnx
                obtain ⟨y0, x8⟩ := HY4.out rfl
                go_wp2_with fail
                refine (CW.out _ BW.out).mono ?_
                rintro e w5 ⟨rfl, b5'⟩
                have HW5 := Lib.hid b5'
                obtain ⟨cc1, cc2⟩ := hlk.out w5 b5'
                have cc3 := hlk2.out w5 b5'
                clear b5'
                go_upto_region 21 with fail
                obtain ⟨hp1, hp2⟩ := pre_len (p := 0) (q := q) (y := y) HPL.out HJ.out.2 HN8.out HNB.out HNB2.out
                have CJ := Lib.hid (rex_join w5 Ao A3 co c3 n pre.length q y pre bd HNB.out rfl (HRO.out.below HW5.out) (HROW.out.below HW5.out) HQ.out HY.out hp1 HNB2.out)
                have HP2 := Lib.hid hp2
                have cc4 := fun ob => (hlk.out (w5.alloc ob) (HW5.out.alloc HW5.out.size ob)).2
                clear hp1 hp2 cc1 cc3 w2 dv8 dv4
                subst y0
                go_wp2_with fail
                refine CJ.out.mono ?_
                rintro e w6 ⟨v6, rfl, r6, b6⟩
                have R6 := Lib.hid (r6.mono (Nat.le_trans HW.out.size HW5.out.size))
                have HW6 := Lib.hid (below_both HW.out (below_both HW5.out b6))
                clear r6 b6 CJ cc2 cc4
                go_wp2_with fail
                go_roundw
                case rel => exact ⟨j + 1, _, HJ.out.2, by go_num, R6.out, join_byte HPB2.out HQ.out HY.out HROW.out.2.1, HP2.out, HW6.out, HNX.out, Lib.hid (fun h => bytes_next HMM.out (HZB.out h) HTL.out (HPRE.out h))⟩
                case measure => simp [intOf]; exact idx_meas HJ.out.2
              · by_cases k5 : k = 51
                · subst k5
                  have HZ2 : Hid (∃ b2, M[j + 1]? = some (z, b2)) := by
                    obtain ⟨⟨z2, b2⟩, hm2⟩ : ∃ m, M[j + 1]? = some m := ⟨_, List.getElem?_eq_getElem (by rw [← HN.out]; exact hnx)⟩
                    obtain ⟨h1, h2⟩ := List.getElem?_eq_some_iff.1 hm2
                    refine ⟨b2, ?_⟩
                    rw [HZZ.out, List.drop_eq_getElem_cons h1, h2]
                    exact hm2
                  have hlk2 : Hid (∀ W, Below wr.heap.size wr W → W.cell? ⟨b, o + (j + 1) * 2, none⟩ = some (.int .i64 z)) := fun W hW => by
                    obtain ⟨b2, hm2⟩ := HZ2.out
                    obtain ⟨A2, c2, e2, _, hcell⟩ := HM.out.below (below_both BW.out hW)
                    rw [← HN.out] at e2
                    cases e2
                    obtain ⟨_, b', o', bv', ea, _, cc1, _, _⟩ := hcell (j + 1) (z, b2) hm2
                    cases ea
                    exact cc1
                  obtain ⟨i1, t1⟩ := nx_yes hnx
                  clear hnx
                  obtain ⟨t5, _, w8⟩ := HTB.out (by decide)
                  obtain ⟨t5, t5'⟩ := t5 rfl
                  go_wp2_with fail
                  refine (CW.out _ BW.out).mono ?_
                  rintro e w5 ⟨rfl, b5'⟩
                  have HW5 := Lib.hid b5'
                  obtain ⟨cc1, cc2⟩ := hlk.out w5 b5'
                  have cc3 := hlk2.out w5 b5'
                  clear b5'
                  go_upto_region 21 with fail
                  obtain ⟨hp1, hp2⟩ := pre_len (p := 0) (q := q) (y := y) HPL.out HJ.out.2 HN8.out HNB.out HNB2.out
                  have CJ := Lib.hid (rex_join w5 Ao A3 co c3 n pre.length q y pre bd HNB.out rfl (HRO.out.below HW5.out) (HROW.out.below HW5.out) HQ.out HY.out hp1 HNB2.out)
                  have HP2 := Lib.hid hp2
                  have cc4 := fun ob => (hlk.out (w5.alloc ob) (HW5.out.alloc HW5.out.size ob)).2
                  clear hp1 hp2 cc1 cc3 w2 dv8 dv4
                  go_wp2_with fail
                  refine CJ.out.mono ?_
                  rintro e w6 ⟨v6, rfl, r6, b6⟩
                  have R6 := Lib.hid (r6.mono (Nat.le_trans HW.out.size HW5.out.size))
                  have HW6 := Lib.hid (below_both HW.out (below_both HW5.out b6))
                  clear r6 b6 CJ cc2 cc4
                  go_wp2_with fail
                  go_roundw
                  case rel => exact ⟨j + 1, _, HJ.out.2, by go_num, R6.out, join_byte HPB2.out HQ.out HY.out HROW.out.2.1, HP2.out, HW6.out, HNX.out, Lib.hid (fun h => bytes_next HMM.out (HZB.out h) HTL.out (HPRE.out h))⟩
                  case measure => simp [intOf]; exact idx_meas HJ.out.2
                · skip
                  have HZ2 : Hid (∃ b2, M[j + 1]? = some (z, b2)) := by
                    obtain ⟨⟨z2, b2⟩, hm2⟩ : ∃ m, M[j + 1]? = some m := ⟨_, List.getElem?_eq_getElem (by rw [← HN.out]; exact hnx)⟩
                    obtain ⟨h1, h2⟩ := List.getElem?_eq_some_iff.1 hm2
                    refine ⟨b2, ?_⟩
                    rw [HZZ.out, List.drop_eq_getElem_cons h1, h2]
                    exact hm2
                  have hlk2 : Hid (∀ W, Below wr.heap.size wr W → W.cell? ⟨b, o + (j + 1) * 2, none⟩ = some (.int .i64 z)) := fun W hW => by
                    obtain ⟨b2, hm2⟩ := HZ2.out
                    obtain ⟨A2, c2, e2, _, hcell⟩ := HM.out.below (below_both BW.out hW)
                    rw [← HN.out] at e2
                    cases e2
                    obtain ⟨_, b', o', bv', ea, _, cc1, _, _⟩ := hcell (j + 1) (z, b2) hm2
                    cases ea
                    exact cc1
                  obtain ⟨i1, t1⟩ := nx_yes hnx
                  clear hnx
                  obtain ⟨_, t8, w8⟩ := HTB.out k4
                  obtain ⟨t8, t8'⟩ := t8 k5
                  have b4 : (k == 44) = false := beq_false_of_ne k4
                  have b5 : (k == 51) = false := beq_false_of_ne k5
                  clear k4 k5
                  go_wp2_with fail
                  refine (CW.out _ BW.out).mono ?_
                  rintro e w5 ⟨rfl, b5'⟩
                  have HW5 := Lib.hid b5'
                  obtain ⟨cc1, cc2⟩ := hlk.out w5 b5'
                  have cc3 := hlk2.out w5 b5'
                  clear b5'
                  go_upto_region 21 with fail
                  obtain ⟨hp1, hp2⟩ := pre_len (p := 0) (q := q) (y := y) HPL.out HJ.out.2 HN8.out HNB.out HNB2.out
                  have CJ := Lib.hid (rex_join w5 Ao A3 co c3 n pre.length q y pre bd HNB.out rfl (HRO.out.below HW5.out) (HROW.out.below HW5.out) HQ.out HY.out hp1 HNB2.out)
                  have HP2 := Lib.hid hp2
                  have cc4 := fun ob => (hlk.out (w5.alloc ob) (HW5.out.alloc HW5.out.size ob)).2
                  clear hp1 hp2 cc1 cc3 w2 dv8 dv4
                  go_wp2_with fail
                  refine CJ.out.mono ?_
                  rintro e w6 ⟨v6, rfl, r6, b6⟩
                  have R6 := Lib.hid (r6.mono (Nat.le_trans HW.out.size HW5.out.size))
                  have HW6 := Lib.hid (below_both HW.out (below_both HW5.out b6))
                  clear r6 b6 CJ cc2 cc4
                  go_wp2_with fail
                  go_roundw
                  case rel => exact ⟨j + 1, _, HJ.out.2, by go_num, R6.out, join_byte HPB2.out HQ.out HY.out HROW.out.2.1, HP2.out, HW6.out, HNX.out, Lib.hid (fun h => bytes_next HMM.out (HZB.out h) HTL.out (HPRE.out h))⟩
                  case measure => simp [intOf]; exact idx_meas HJ.out.2
            · by_cases k4 : k = 44
              · subst k4
                obtain ⟨i1, i2⟩ := nx_no hnx
                have hzp : z = proto := by
                  rw [HZZ.out, List.drop_of_length_le (by rw [← HN.out]; exact i2)]
                  rfl
                clear i2
                clear hnx
                obtain ⟨y0, x8⟩ := HY4.out rfl
                go_wp2_with fail
                refine (CW.out _ BW.out).mono ?_
                rintro e w5 ⟨rfl, b5'⟩
                have HW5 := Lib.hid b5'
                obtain ⟨cc1, cc2⟩ := hlk.out w5 b5'
                clear b5'
                go_upto_region 21 with fail
                obtain ⟨hp1, hp2⟩ := pre_len (p := 0) (q := q) (y := y) HPL.out HJ.out.2 HN8.out HNB.out HNB2.out
                have CJ := Lib.hid (rex_join w5 Ao A3 co c3 n pre.length q y pre bd HNB.out rfl (HRO.out.below HW5.out) (HROW.out.below HW5.out) HQ.out HY.out hp1 HNB2.out)
                have HP2 := Lib.hid hp2
                have cc4 := fun ob => (hlk.out (w5.alloc ob) (HW5.out.alloc HW5.out.size ob)).2
                clear hp1 hp2 cc1 w2 dv8 dv4
                subst hzp
                subst y0
                go_wp2_with fail
                refine CJ.out.mono ?_
                rintro e w6 ⟨v6, rfl, r6, b6⟩
                have R6 := Lib.hid (r6.mono (Nat.le_trans HW.out.size HW5.out.size))
                have HW6 := Lib.hid (below_both HW.out (below_both HW5.out b6))
                clear r6 b6 CJ cc2 cc4
                go_wp2_with fail
                go_roundw
                case rel => exact ⟨j + 1, _, HJ.out.2, by go_num, R6.out, join_byte HPB2.out HQ.out HY.out HROW.out.2.1, HP2.out, HW6.out, HNX.out, Lib.hid (fun h => bytes_next HMM.out (HZB.out h) HTL.out (HPRE.out h))⟩
                case measure => simp [intOf]; exact idx_meas HJ.out.2
              · by_cases k5 : k = 51
                · subst k5
                  obtain ⟨i1, i2⟩ := nx_no hnx
                  have hzp : z = proto := by
                    rw [HZZ.out, List.drop_of_length_le (by rw [← HN.out]; exact i2)]
                    rfl
                  clear i2
                  clear hnx
                  obtain ⟨t5, _, w8⟩ := HTB.out (by decide)
                  obtain ⟨t5, t5'⟩ := t5 rfl
                  go_wp2_with fail
                  refine (CW.out _ BW.out).mono ?_
                  rintro e w5 ⟨rfl, b5'⟩
                  have HW5 := Lib.hid b5'
                  obtain ⟨cc1, cc2⟩ := hlk.out w5 b5'
                  clear b5'
                  go_upto_region 21 with fail
                  obtain ⟨hp1, hp2⟩ := pre_len (p := 0) (q := q) (y := y) HPL.out HJ.out.2 HN8.out HNB.out HNB2.out
                  have CJ := Lib.hid (rex_join w5 Ao A3 co c3 n pre.length q y pre bd HNB.out rfl (HRO.out.below HW5.out) (HROW.out.below HW5.out) HQ.out HY.out hp1 HNB2.out)
                  have HP2 := Lib.hid hp2
                  have cc4 := fun ob => (hlk.out (w5.alloc ob) (HW5.out.alloc HW5.out.size ob)).2
                  clear hp1 hp2 cc1 w2 dv8 dv4
                  subst hzp
                  go_wp2_with fail
                  refine CJ.out.mono ?_
                  rintro e w6 ⟨v6, rfl, r6, b6⟩
                  have R6 := Lib.hid (r6.mono (Nat.le_trans HW.out.size HW5.out.size))
                  have HW6 := Lib.hid (below_both HW.out (below_both HW5.out b6))
                  clear r6 b6 CJ cc2 cc4
                  go_wp2_with fail
                  go_roundw
                  case rel => exact ⟨j + 1, _, HJ.out.2, by go_num, R6.out, join_byte HPB2.out HQ.out HY.out HROW.out.2.1, HP2.out, HW6.out, HNX.out, Lib.hid (fun h => bytes_next HMM.out (HZB.out h) HTL.out (HPRE.out h))⟩
                  case measure => simp [intOf]; exact idx_meas HJ.out.2
                · skip
                  obtain ⟨i1, i2⟩ := nx_no hnx
                  have hzp : z = proto := by
                    rw [HZZ.out, List.drop_of_length_le (by rw [← HN.out]; exact i2)]
                    rfl
                  clear i2
                  clear hnx
                  obtain ⟨_, t8, w8⟩ := HTB.out k4
                  obtain ⟨t8, t8'⟩ := t8 k5
                  have b4 : (k == 44) = false := beq_false_of_ne k4
                  have b5 : (k == 51) = false := beq_false_of_ne k5
                  clear k4 k5
                  go_wp2_with fail
                  refine (CW.out _ BW.out).mono ?_
                  rintro e w5 ⟨rfl, b5'⟩
                  have HW5 := Lib.hid b5'
                  obtain ⟨cc1, cc2⟩ := hlk.out w5 b5'
                  clear b5'
                  go_upto_region 21 with fail
                  obtain ⟨hp1, hp2⟩ := pre_len (p := 0) (q := q) (y := y) HPL.out HJ.out.2 HN8.out HNB.out HNB2.out
                  have CJ := Lib.hid (rex_join w5 Ao A3 co c3 n pre.length q y pre bd HNB.out rfl (HRO.out.below HW5.out) (HROW.out.below HW5.out) HQ.out HY.out hp1 HNB2.out)
                  have HP2 := Lib.hid hp2
                  have cc4 := fun ob => (hlk.out (w5.alloc ob) (HW5.out.alloc HW5.out.size ob)).2
                  clear hp1 hp2 cc1 w2 dv8 dv4
                  subst hzp
                  go_wp2_with fail
                  refine CJ.out.mono ?_
                  rintro e w6 ⟨v6, rfl, r6, b6⟩
                  have R6 := Lib.hid (r6.mono (Nat.le_trans HW.out.size HW5.out.size))
                  have HW6 := Lib.hid (below_both HW.out (below_both HW5.out b6))
                  clear r6 b6 CJ cc2 cc4
                  go_wp2_with fail
                  go_roundw
                  case rel => exact ⟨j + 1, _, HJ.out.2, by go_num, R6.out, join_byte HPB2.out HQ.out HY.out HROW.out.2.1, HP2.out, HW6.out, HNX.out, Lib.hid (fun h => bytes_next HMM.out (HZB.out h) HTL.out (HPRE.out h))⟩
                  case measure => simp [intOf]; exact idx_meas HJ.out.2
          · rw [if_neg hE0] at hr
            have e0 : ((E : Int) != 0) = true := bne_iff_ne.2 (by omega)
            clear hE0 hE hm hdrop hlt hj hpl hW hro hco hco2 hO hpb HOU HPB2
            go_wp2_with fail
            refine (CW.out _ BW.out).mono ?_
            rintro e w5 ⟨rfl, b5⟩
            have hA5 := A5.out.below b5
            have B5 := Lib.hid (below_both BW.out b5)
            obtain ⟨d1, d2, d3⟩ := HDONE.out E j w5 hr.symm (by intro h; rw [h] at e0; exact absurd e0 (by decide)) hA5 B5.out
            have HD := Lib.hid (And.intro d1 (And.intro d2 d3))
            have c0 := hA5.get 0
            have c1 := hA5.get 1
            have f0 := hA5.frozen 0
            have f1 := hA5.frozen 1
            simp at c0 c1
            clear d1 d2 d3 b5 hA5 hr
            go_wp2_with fail
            exact bodyPost_ret (res_tmp_cell Try.results67 rfl HD.out.1 rfl) rfl ⟨HD.out.2.1, fun _ => rfl, fun h => absurd h HD.out.2.2⟩
        · have hjN : j = N := Nat.le_antisymm hj (Nat.le_of_not_lt hlt)
          have hz : M.drop j = [] := List.drop_of_length_le (by rw [hjN, HN.out]; exact Nat.le_refl _)
          rw [hz] at hr HPRE
          have hr0 : r = (0, 0) := hr.symm
          have HEND : Hid (pre = exBytes proto M) := by
            have h := HPRE.out (by rw [hr0])
            rw [show exBytes proto [] = [] from rfl, List.append_nil] at h
            exact h
          have h2 := check_done (r := r) (V1 := wr) A5.out BW.out 0 0 hr0
          have HD := Lib.hid (And.intro h2.1 h2.2.2)
          have HR0 := Lib.hid hr0
          subst hjN
          have jN : ¬ (j : Int) < (j : Int) := Int.lt_irrefl _
          have c0 := A5.out.get 0
          have c1 := A5.out.get 1
          have f0 := A5.out.frozen 0
          have f1 := A5.out.frozen 1
          simp at c0 c1
          clear hr hz hr0 h2 hlt hj hpl hW hro hco hco2 hO hpb HPRE
          go_wp2_with fail
          refine bodyPost_ret (res_tmp_cell Try.results67 rfl HD.out.1 rfl) rfl ⟨HD.out.2, fun h => absurd (by rw [HR0.out]) h, fun _ => ⟨.slice Ao pre.length co, by rw [HR0.out]; rfl, ?_⟩⟩
          rw [← HEND.out]
          have hlt : w.heap.size < V1.heap.size := HA5.out.lt
          exact OutIs.mono (B := V1.heap.size) (ownsRow_setCell_below (ownsRow_setCell_below HOU.out hlt _) hlt _) (Nat.le_of_lt hlt)
end Go.Proofs.Ytjpaicdbnadoeaa
