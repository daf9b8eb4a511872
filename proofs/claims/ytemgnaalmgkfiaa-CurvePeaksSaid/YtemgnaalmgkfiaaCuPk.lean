/-
  Peak, of curve and of the document; the walk of CurvePeaks.
-/
import Derived.Test.YtemgnaalmgkfiaaWCuB
namespace Go.Proofs.Ytemgnaalmgkfiaa
open Go.RowKit
set_option linter.unusedVariables false
attribute [local go_sem ↓] Go.wp_at_zero Go.wp_at_succ

/-- The most within a time, so far as the packets ahead of i are the last ones. -/
def PkTo (L : List Sm) (w i m : Nat) : Prop := (∀ a b, a ≤ b → b < i → cuT L b - cuT L a ≤ w → pkSum L a b ≤ m) ∧ (m = 0 ∨ ∃ a b, a ≤ b ∧ b < i ∧ cuT L b - cuT L a ≤ w ∧ pkSum L a b = m)
theorem pkTo_zero (L : List Sm) (w : Nat) : PkTo L w 0 0 := ⟨fun a b _ h => absurd h (by omega), .inl rfl⟩
theorem pkTo_all {L : List Sm} {w m : Nat} (h : PkTo L w L.length m) : PkIs L w m := ⟨fun a b h1 => h.1 a b h1.1 h1.2.1 h1.2.2, h.2.imp id fun ⟨a, b, h1, h2, h3, h4⟩ => ⟨a, b, ⟨h1, h2, h3⟩, h4⟩⟩
theorem pkTo_next {L : List Sm} {w i f m : Nat} (h : PkTo L w i m) (hf : f ≤ i) (hin : cuT L i - cuT L f ≤ w) (hout : ∀ k, k < f → w < cuT L i - cuT L k) : PkTo L w (i + 1) (max m (pkSum L f i)) := by
  refine ⟨fun a b h1 h2 h3 => ?_, ?_⟩
  · rcases Nat.lt_or_ge b i with e | e
    · exact Nat.le_trans (h.1 a b h1 e h3) (Nat.le_max_left _ _)
    · obtain rfl : b = i := by omega
      have ha : f ≤ a := by
        rcases Nat.lt_or_ge a f with e2 | e2
        · have := hout a e2; omega
        · exact e2
      refine Nat.le_trans ?_ (Nat.le_max_right _ _)
      have := cuTo_mono L ha
      unfold pkSum
      omega
  · rcases Nat.le_total m (pkSum L f i) with e | e
    · rw [Nat.max_eq_right e]
      exact .inr ⟨f, i, hf, by omega, hin, rfl⟩
    · rw [Nat.max_eq_left e]
      exact h.2.imp id fun ⟨a, b, h1, h2, h3, h4⟩ => ⟨a, b, h1, by omega, h3, h4⟩
theorem pk_drop {L : List Sm} {w i f : Nat} (h : ∀ k, k < f → w < cuT L i - cuT L k) (hn : w < cuT L i - cuT L f) : ∀ k, k < f + 1 → w < cuT L i - cuT L k := fun k hk => by
  rcases Nat.lt_or_ge k f with e | e
  · exact h k e
  · obtain rfl : k = f := by omega
    exact hn
theorem pk_on {L : List Sm} {w i f : Nat} (h : ∀ k, k < f → w < cuT L i - cuT L k) : ∀ k, k < f → w < cuT L (i + 1) - cuT L k := fun k hk => by
  have h1 := h k hk
  have h2 := cuT_mono L (show i ≤ i + 1 by omega)
  omega
/-- The most within a time, so far as the packets ahead of i are the first ones. -/
def PkFr (L : List Sm) (w i m : Nat) : Prop := (∀ a b, a < i → a ≤ b → b < L.length → cuT L b - cuT L a ≤ w → pkSum L a b ≤ m) ∧ (m = 0 ∨ ∃ a b, a < i ∧ a ≤ b ∧ b < L.length ∧ cuT L b - cuT L a ≤ w ∧ pkSum L a b = m)
theorem pkFr_zero (L : List Sm) (w : Nat) : PkFr L w 0 0 := ⟨fun a b h => absurd h (by omega), .inl rfl⟩
theorem pkFr_all {L : List Sm} {w m : Nat} (h : PkFr L w L.length m) : PkIs L w m := ⟨fun a b h1 => h.1 a b (by have := h1.1; have := h1.2.1; omega) h1.1 h1.2.1 h1.2.2, h.2.imp id fun ⟨a, b, _, h1, h2, h3, h4⟩ => ⟨a, b, ⟨h1, h2, h3⟩, h4⟩⟩
theorem pkFr_next {L : List Sm} {w i j m : Nat} (h : PkFr L w i m) (hij : i < j) (hj : j ≤ L.length) (hin : cuT L (j - 1) - cuT L i ≤ w) (hout : j < L.length → w < cuT L j - cuT L i) : PkFr L w (i + 1) (max m (cuTo L j - cuTo L i)) := by
  refine ⟨fun a b h1 h2 h3 h4 => ?_, ?_⟩
  · rcases Nat.lt_or_ge a i with e | e
    · exact Nat.le_trans (h.1 a b e h2 h3 h4) (Nat.le_max_left _ _)
    · obtain rfl : a = i := by omega
      have hb : b < j := by
        rcases Nat.lt_or_ge b j with e2 | e2
        · exact e2
        · have h5 := hout (by omega)
          have h6 := cuT_mono L e2
          omega
      refine Nat.le_trans ?_ (Nat.le_max_right _ _)
      have := cuTo_mono L (show b + 1 ≤ j by omega)
      unfold pkSum
      omega
  · rcases Nat.le_total m (cuTo L j - cuTo L i) with e | e
    · rw [Nat.max_eq_right e]
      refine .inr ⟨i, j - 1, by omega, by omega, by omega, hin, ?_⟩
      unfold pkSum
      rw [show j - 1 + 1 = j by omega]
    · rw [Nat.max_eq_left e]
      exact h.2.imp id fun ⟨a, b, h1, h2⟩ => ⟨a, b, by omega, h2⟩
theorem pk_exists (L : List Sm) (w : Nat) : ∃ m, PkIs L w m := by
  have key : ∀ i, i ≤ L.length → ∃ m f, PkTo L w i m ∧ f ≤ i ∧ (∀ k, k < f → ∀ j, i ≤ j + 1 → w < cuT L j - cuT L k) := fun i => by
    induction i with
    | zero => exact fun _ => ⟨0, 0, pkTo_zero L w, Nat.le_refl _, fun k hk => absurd hk (by omega)⟩
    | succ i ih =>
      intro hi
      obtain ⟨m, _, hm, _, _⟩ := ih (by omega)
      have low : ∀ d, d ≤ i → (∃ f, f ≤ i ∧ cuT L i - cuT L f ≤ w ∧ ∀ k, k < f → w < cuT L i - cuT L k) ∨ ∀ k, k < d → w < cuT L i - cuT L k := fun d => by
        induction d with
        | zero => exact fun _ => .inr fun k hk => absurd hk (by omega)
        | succ d ihd =>
          intro hd
          rcases ihd (by omega) with h | h
          · exact .inl h
          · by_cases hw : cuT L i - cuT L d ≤ w
            · exact .inl ⟨d, by omega, hw, h⟩
            · exact .inr (pk_drop h (by omega))
      rcases low i (Nat.le_refl _) with ⟨f, hf, hin, hout⟩ | hout
      · exact ⟨_, 0, pkTo_next hm hf hin hout, Nat.zero_le _, fun k hk => absurd hk (by omega)⟩
      · exact ⟨_, 0, pkTo_next hm (Nat.le_refl i) (by omega) hout, Nat.zero_le _, fun k hk => absurd hk (by omega)⟩
  obtain ⟨m, _, hm, _⟩ := key L.length (Nat.le_refl _)
  exact ⟨m, pkTo_all hm⟩
theorem pk_add {L : List Sm} {n i f : Nat} {T U : Nat} {z : Int} (hg : cuGood L n) (hi : i < n) (hf : f ≤ i) (hn : n ≤ 1048576) (hT : T = cuTo L i - cuTo L f) (hU : U = cuTo L (i + 1) - cuTo L f) (hz : z = (L.getD i sm0).size) : wrap64 ((T : Int) + z) = (U : Int) := by
  have h1 := cuTo_le hg i (by omega)
  have h2 := hg i hi
  have h3 := cuTo_mono L hf
  have h4 : cuTo L (i + 1) = cuTo L i + z.toNat := by rw [hz]; rfl
  rw [← hz] at h2
  unfold wrap64
  omega
theorem pk_sub {L : List Sm} {n i f : Nat} {T U : Nat} {z : Int} (hg : cuGood L n) (hi : i ≤ n) (hf : f < i) (hn : n ≤ 1048576) (hT : T = cuTo L i - cuTo L f) (hU : U = cuTo L i - cuTo L (f + 1)) (hz : z = (L.getD f sm0).size) : wrap64 ((T : Int) - z) = (U : Int) := by
  have h1 := cuTo_le hg i hi
  have h2 := hg f (by omega)
  have h3 := cuTo_mono L (show f + 1 ≤ i by omega)
  have h4 : cuTo L (f + 1) = cuTo L f + z.toNat := by rw [hz]; rfl
  rw [← hz] at h2
  unfold wrap64
  omega
theorem meas_next {j q : Nat} (h : j < q) : q - (intOf (Value.int .i64 ((j + 1 : Nat) : Int))).toNat < q - (intOf (Value.int .i64 (j : Int))).toNat := by simp [intOf]; omega
theorem pk_max (a b : Nat) : max (a : Int) (b : Int) = ((max a b : Nat) : Int) := by omega
set_option maxRecDepth 10000 in
set_option maxHeartbeats 1600000 in
theorem cpeak_bad (A : Option Addr) (n cap : Nat) (q wi : Nat) (w : World) (CC : Hid (∀ w', Below w.heap.size w w' → Calls Try.prog 21 #[.slice A n cap] w' fun e w'' => e = .returned (.agg #[.int .i64 1, .int .i64 (q : Nat)]) ∧ Below w'.heap.size w' w'')) :
    Calls Try.prog 16 #[.slice A n cap, .int .u64 wi] w fun e w' => e = .returned (.tuple #[.int .i64 0, .agg #[.int .i64 1, .int .i64 (q : Nat)]]) ∧ Below w.heap.size w w' := by
  go_enter Try.func16, Try.ntmps16
  have K0 := Lib.hid (KV.one w 26 [.int .i64 0, .int .i64 0])
  go_wp2_with fail
  refine (CC.out _ K0.out.bel).mono ?_
  rintro e w1 ⟨rfl, b1⟩
  have K1 := Lib.hid ((K0.out.below b1).new 26 [.int .i64 1, .int .i64 (q : Nat)])
  clear b1 K0 CC
  have m0 := (K1.out.at 1 rfl).get 0
  simp at m0
  go_upto_region 3 with fail
  generalize w1.heap.size = g1 at *
  generalize w1.alloc (.cells #[.int .i64 1, .int .i64 (q : Int)] 26) = W at *
  have d0 := (K1.out.at 1 rfl).get 0
  have d1 := (K1.out.at 1 rfl).get 1
  have f0 := (K1.out.at 0 rfl).frozen 0
  have f1 := (K1.out.at 0 rfl).frozen 1
  have r0 := (K1.out.at 0 rfl).get 0
  have r1 := (K1.out.at 0 rfl).get 1
  simp at d0 d1 r0 r1
  have K2 := Lib.hid (K1.out.drew.store 0 rfl [.int .i64 1, .int .i64 (q : Int)] rfl)
  have s0 : ((W.setCell ⟨w.heap.size, 0, none⟩ (.int .i64 1)).setCell ⟨w.heap.size, 1, none⟩ (.int .i64 (q : Int))).drew.cell? ⟨w.heap.size, 0, none⟩ = some (.int .i64 1) := (K2.out.at 0 rfl).get 0
  have s1 : ((W.setCell ⟨w.heap.size, 0, none⟩ (.int .i64 1)).setCell ⟨w.heap.size, 1, none⟩ (.int .i64 (q : Int))).drew.cell? ⟨w.heap.size, 1, none⟩ = some (.int .i64 (q : Int)) := (K2.out.at 0 rfl).get 1
  have e0 : ((W.setCell ⟨w.heap.size, 0, none⟩ (.int .i64 1)).setCell ⟨w.heap.size, 1, none⟩ (.int .i64 (q : Int))).drew.cell? ⟨g1, 0, none⟩ = some (.int .i64 1) := (K2.out.at 1 rfl).get 0
  have e1 : ((W.setCell ⟨w.heap.size, 0, none⟩ (.int .i64 1)).setCell ⟨w.heap.size, 1, none⟩ (.int .i64 (q : Int))).drew.cell? ⟨g1, 1, none⟩ = some (.int .i64 (q : Int)) := (K2.out.at 1 rfl).get 1
  go_region_held3 (fun W => (W.cell? ⟨g1, 0, none⟩ = some (.int .i64 1) ∧ W.cell? ⟨g1, 1, none⟩ = some (.int .i64 (q : Int)))) (first | exact ⟨d0, d1⟩ | exact ⟨e0, e1⟩ | go_keep) (fail)
  go_wp2_with fail
  exact bodyPost_ret (v := .tuple #[.int .i64 0, .agg #[.int .i64 1, .int .i64 (q : Int)]]) (by simp [results, Try.results16, go_sem, s0, s1]) rfl ⟨rfl, K2.out.bel⟩
set_option maxRecDepth 10000 in
set_option maxHeartbeats 1600000 in
theorem rpeak_bad (A : Option Addr) (n cap : Nat) (q wi : Nat) (w : World) (CC : Hid (∀ w', Below w.heap.size w w' → Calls Try.prog 24 #[.slice A n cap] w' fun e w'' => e = .returned (.agg #[.int .i64 1, .int .i64 (q : Nat)]) ∧ Below w'.heap.size w' w'')) :
    Calls Try.prog 17 #[.slice A n cap, .int .u64 wi] w fun e w' => e = .returned (.tuple #[.int .i64 0, .agg #[.int .i64 1, .int .i64 (q : Nat)]]) ∧ Below w.heap.size w w' := by
  go_enter Try.func17, Try.ntmps17
  have K0 := Lib.hid (KV.one w 26 [.int .i64 0, .int .i64 0])
  go_wp2_with fail
  refine (CC.out _ K0.out.bel).mono ?_
  rintro e w1 ⟨rfl, b1⟩
  have K1 := Lib.hid ((K0.out.below b1).new 26 [.int .i64 1, .int .i64 (q : Nat)])
  clear b1 K0 CC
  have m0 := (K1.out.at 1 rfl).get 0
  simp at m0
  go_upto_region 3 with fail
  generalize w1.heap.size = g1 at *
  generalize w1.alloc (.cells #[.int .i64 1, .int .i64 (q : Int)] 26) = W at *
  have d0 := (K1.out.at 1 rfl).get 0
  have d1 := (K1.out.at 1 rfl).get 1
  have f0 := (K1.out.at 0 rfl).frozen 0
  have f1 := (K1.out.at 0 rfl).frozen 1
  have r0 := (K1.out.at 0 rfl).get 0
  have r1 := (K1.out.at 0 rfl).get 1
  simp at d0 d1 r0 r1
  have K2 := Lib.hid (K1.out.drew.store 0 rfl [.int .i64 1, .int .i64 (q : Int)] rfl)
  have s0 : ((W.setCell ⟨w.heap.size, 0, none⟩ (.int .i64 1)).setCell ⟨w.heap.size, 1, none⟩ (.int .i64 (q : Int))).drew.cell? ⟨w.heap.size, 0, none⟩ = some (.int .i64 1) := (K2.out.at 0 rfl).get 0
  have s1 : ((W.setCell ⟨w.heap.size, 0, none⟩ (.int .i64 1)).setCell ⟨w.heap.size, 1, none⟩ (.int .i64 (q : Int))).drew.cell? ⟨w.heap.size, 1, none⟩ = some (.int .i64 (q : Int)) := (K2.out.at 0 rfl).get 1
  have e0 : ((W.setCell ⟨w.heap.size, 0, none⟩ (.int .i64 1)).setCell ⟨w.heap.size, 1, none⟩ (.int .i64 (q : Int))).drew.cell? ⟨g1, 0, none⟩ = some (.int .i64 1) := (K2.out.at 1 rfl).get 0
  have e1 : ((W.setCell ⟨w.heap.size, 0, none⟩ (.int .i64 1)).setCell ⟨w.heap.size, 1, none⟩ (.int .i64 (q : Int))).drew.cell? ⟨g1, 1, none⟩ = some (.int .i64 (q : Int)) := (K2.out.at 1 rfl).get 1
  go_region_held3 (fun W => (W.cell? ⟨g1, 0, none⟩ = some (.int .i64 1) ∧ W.cell? ⟨g1, 1, none⟩ = some (.int .i64 (q : Int)))) (first | exact ⟨d0, d1⟩ | exact ⟨e0, e1⟩ | go_keep) (fail)
  go_wp2_with fail
  exact bodyPost_ret (v := .tuple #[.int .i64 0, .agg #[.int .i64 1, .int .i64 (q : Int)]]) (by simp [results, Try.results17, go_sem, s0, s1]) rfl ⟨rfl, K2.out.bel⟩

set_option maxRecDepth 10000 in
set_option maxHeartbeats 4000000 in
theorem cpeak_ok (A : Option Addr) (n cap : Nat) (L : List Sm) (wi : Nat) (w : World) (hn : n ≤ 1048576) (hg : cuGood L n) (hA : SmRow w A n L)
    (CC : Hid (∀ w', Below w.heap.size w w' → Calls Try.prog 21 #[.slice A n cap] w' fun e w'' => e = .returned (.agg #[.int .i64 0, .int .i64 0]) ∧ Below w'.heap.size w' w'')) :
    Calls Try.prog 16 #[.slice A n cap, .int .u64 wi] w fun e w' => ∃ m : Nat, e = .returned (.tuple #[.int .i64 (m : Int), .agg #[.int .i64 0, .int .i64 0]]) ∧ PkIs L wi m ∧ Below w.heap.size w w' := by
  have CT := Lib.hid (fun w' (h : SmRow w' A n L) => ctimes_any A n cap L w' hn h)
  have HL := Lib.hid hA.1
  have HTM := Lib.hid (fun k => rtRun_word2 (smT_word hA) k)
  have HA := Lib.hid hA
  have HG := Lib.hid hg
  have HN := Lib.hid hn
  have HNI : Hid ((n : Int) ≤ 17592186043904) := (by omega : (n : Int) ≤ 17592186043904)
  clear hn hg hA
  go_enter Try.func16, Try.ntmps16
  have K0 := Lib.hid (KV.one w 26 [.int .i64 0, .int .i64 0])
  go_upto_region 2 with (first | (go_at_call 21; refine (CC.out _ K0.out.bel).mono ?_; rintro e w1 ⟨rfl, b1⟩) | fail)
  have K1 := Lib.hid ((K0.out.below b1).new 26 [.int .i64 0, .int .i64 0])
  clear b1 K0 CC
  have m0 := (K1.out.at 1 rfl).get 0
  simp at m0
  have K2 := Lib.hid (K1.out.pick [0] (by simp) rfl (fun q hq => by simp at hq; subst hq; rfl) : KV w [(26, w.heap.size, [.int .i64 0, .int .i64 0])] _)
  have RA := Lib.hid (HA.out.below K2.out.bel)
  go_upto_region 5 with (first | (go_at_call 33; refine (CT.out _ RA.out).mono ?_; rintro e w3 ⟨v, rfl, ho3, hb3⟩) | fail)
  obtain ⟨ga, cp, cur, A6, rfl, hat⟩ := ho3.arr0 n (by rw [rtRun_len, smT_len]; exact HL.out)
  have K3 : Hid (KV w [(26, w.heap.size, [.int .i64 0, .int .i64 0])] w3) := K2.out.below hb3
  have hcur : ∀ k, k < n → cur[k]? = some (.int .u64 (cuT L k : Nat)) := fun k hk => by
    have := (hat (by omega)).2.2.2 k hk
    rw [rtRun_get (by rw [smT_len, HL.out]; exact hk)] at this
    exact this
  have hA6 : 0 < n → A6 = some ⟨ga, 0, none⟩ := fun h => (hat h).1
  have K4 : Hid (0 < n → KV w [(26, w.heap.size, [.int .i64 0, .int .i64 0]), (23, ga, cur)] w3) := fun h0 => by
    refine kv_two (K3.out.at 0 rfl) (hat h0).2.2.1 (Nat.le_refl _) ?_ ?_ K3.out.bel
    · have h1 := (hat h0).2.1; have h2 := K2.out.bel.size; omega
    · have h1 := (hat h0).2.1; have h2 := (K2.out.at 0 rfl).lt; omega
  have HCUR := Lib.hid hcur
  clear ho3 hb3 hat hcur K1 K2 RA CT m0
  go_wp2_with fail
  go_loopw [8, 9, 10, 23] (fun vm vt vf vi wr => ∃ i f T m : Nat, i ≤ n ∧ vi = .int .i64 (i : Int) ∧ f ≤ i ∧ vf = .int .i64 (f : Int) ∧ Hid (T = cuTo L i - cuTo L f) ∧ vt = .int .i64 (T : Int) ∧ vm = .int .i64 (m : Int) ∧ Hid (PkTo L wi i m) ∧ Hid (∀ k, k < f → wi < cuT L i - cuT L k) ∧ KV w [(26, w.heap.size, [.int .i64 0, .int .i64 0])] wr ∧ Hid (0 < n → KV w [(26, w.heap.size, [.int .i64 0, .int .i64 0]), (23, ga, cur)] wr)) (fun _ _ _ vi _ => n - (intOf vi).toNat)
  case atStart => exact ⟨0, 0, 0, 0, Nat.zero_le _, rfl, Nat.le_refl _, rfl, (by show 0 = cuTo L 0 - cuTo L 0; rw [Nat.sub_self]), rfl, rfl, pkTo_zero L wi, (fun k hk => absurd hk (by omega)), K3.out, K4.out⟩
  case round =>
    clear K3 K4
    obtain ⟨i, f, T, m, hi, rfl, hfi, rfl, hT, rfl, rfl, hpk, hout, hK3, hK⟩ := hrel
    by_cases hlt : i < n
    · have hli : (i : Int) < (n : Int) := by omega
      obtain rfl := hA6 (by omega)
      obtain ⟨b, o, rfl, hl, hc⟩ := HA.out.addr (by omega)
      have HK := Lib.hid (hK.out (by omega))
      have q0 : wr.cell? ⟨b, o + i * 2, none⟩ = _ := (HK.out.bel.cell (p := ⟨b, o + i * 2, none⟩) hl).trans (hc i hlt).1
      have q1 : wr.cell? ⟨b, o + i * 2 + 1, none⟩ = _ := (HK.out.bel.cell (p := ⟨b, o + i * 2 + 1, none⟩) hl).trans (hc i hlt).2
      obtain ⟨t, ht⟩ : ∃ t, t = (L.getD i sm0).time := ⟨_, rfl⟩
      obtain ⟨z, hz⟩ : ∃ z, z = (L.getD i sm0).size := ⟨_, rfl⟩
      obtain ⟨U, hU⟩ : ∃ U, U = cuTo L (i + 1) - cuTo L f := ⟨_, rfl⟩
      have vU := pk_add HG.out hlt hfi HN.out hT.out hU hz
      rw [← ht] at q0
      rw [← hz] at q1
      have KN := Lib.hid (HK.out.new 55 [.int .u64 (t : Nat), .int .i64 z])
      simp only [List.cons_append, List.nil_append] at KN
      have HLT := Lib.hid hlt
      have HFI := Lib.hid hfi
      have HU := Lib.hid hU
      have HBL := Lib.hid hl
      have HC := Lib.hid hc
      have u := cu_next hlt HNI.out
      clear hi hlt hfi hT hK3 hK ht hz hU hl hc hA6
      go_wp2_with fail
      rw [vU]
      have KM := Lib.hid KN.out
      clear q0 q1 vU HK KN
      generalize wr.heap.size = gp at *
      generalize wr.alloc (.cells #[.int .u64 (t : Int), .int .i64 z] 55) = W4 at *
      go_loopw [9, 10] (fun vt vf wr => ∃ f T : Nat, f ≤ i ∧ vf = .int .i64 (f : Int) ∧ Hid (T = cuTo L (i + 1) - cuTo L f) ∧ vt = .int .i64 (T : Int) ∧ Hid (∀ k, k < f → wi < cuT L i - cuT L k) ∧ KV w [(26, w.heap.size, [.int .i64 0, .int .i64 0]), (23, ga, cur), (55, gp, [.int .u64 t, .int .i64 z])] wr) (fun _ vf _ => i + 1 - (intOf vf).toNat)
      case atStart => exact ⟨f, U, HFI.out, rfl, HU.out, rfl, hout.out, KM.out⟩
      case round =>
        clear KM HFI HU hout
        obtain ⟨f, T, hfi, rfl, hT, rfl, hout, hK⟩ := hrel
        have HK := Lib.hid hK
        obtain ⟨t1, ht1⟩ : ∃ x, x = cuT L i := ⟨_, rfl⟩
        obtain ⟨t0, ht0⟩ : ∃ x, x = cuT L f := ⟨_, rfl⟩
        obtain ⟨d, hd⟩ : ∃ x, x = t1 - t0 := ⟨_, rfl⟩
        have HD := cu_gap hd (by rw [ht0, ht1]; exact cuT_mono L hfi) (by rw [ht1]; exact HTM.out _)
        have c1 : wr.cell? ⟨ga, i, none⟩ = some (.int .u64 (t1 : Nat)) := by rw [ht1]; exact ((hK.at 1 rfl).get i).trans (HCUR.out i HLT.out)
        have c0 : wr.cell? ⟨ga, f, none⟩ = some (.int .u64 (t0 : Nat)) := by rw [ht0]; exact ((hK.at 1 rfl).get f).trans (HCUR.out f (by have := HLT.out; omega))
        have hfn : (f : Int) < (n : Int) := by have := HLT.out; omega
        by_cases hw : wi < d
        · have hlf : f < i := by
            rcases Nat.lt_or_ge f i with h | h
            · exact h
            · exfalso
              have e : f = i := by omega
              subst e
              rw [hd, ht1, ht0, Nat.sub_self] at hw
              omega
          have hwi : (wi : Int) < (d : Int) := by omega
          have q1 : wr.cell? ⟨b, o + f * 2 + 1, none⟩ = _ := (hK.bel.cell (p := ⟨b, o + f * 2 + 1, none⟩) HBL.out).trans (HC.out f (by have := HLT.out; omega)).2
          obtain ⟨z, hz⟩ : ∃ z, z = (L.getD f sm0).size := ⟨_, rfl⟩
          rw [← hz] at q1
          obtain ⟨U', hU'⟩ : ∃ U, U = cuTo L (i + 1) - cuTo L (f + 1) := ⟨_, rfl⟩
          have vS := pk_sub HG.out HLT.out (by omega : f < i + 1) HN.out hT.out hU' hz
          have uf := cu_next (k := f) (n := n) (by have := HLT.out; omega) HNI.out
          have HLF := Lib.hid hlf
          have HU' := Lib.hid hU'
          have HOU := Lib.hid (pk_drop (L := L) (w := wi) (i := i) (f := f) hout.out (by rw [← ht1, ← ht0, ← hd]; exact hw))
          clear hw hlf hz hU' ht1 ht0 hd hT hK hfi hout
          go_wp2_with fail
          go_quiet (fail)
          have q1d : (wr.drewN nq).cell? ⟨b, o + f * 2 + 1, none⟩ = some (.int .i64 z) := q1
          go_wp2_with fail
          go_roundw
          case rel => exact ⟨f + 1, U', by have := HLF.out; omega, by rw [uf], HU'.out, by rw [vS], HOU.out, HK.out.drewN nq⟩
          case measure => rw [uf]; have hms := HLF.out; simp [intOf]; omega
        · have hwi : ¬ (wi : Int) < (d : Int) := by omega
          have HPN := Lib.hid (pkTo_next hpk.out hfi (by rw [← ht1, ← ht0, ← hd]; omega) hout.out)
          have hps : pkSum L f i = T := hT.out.symm
          rw [hps] at HPN
          have HON := Lib.hid (pk_on (L := L) hout.out)
          have HFI := Lib.hid hfi
          obtain ⟨mm, hmm⟩ : ∃ x, x = max m T := ⟨_, rfl⟩
          rw [← hmm] at HPN
          have hmx : max (m : Int) (T : Int) = (mm : Int) := by rw [hmm]; exact pk_max m T
          have HMX := Lib.hid hmm
          have HTT := hT
          clear hw ht1 ht0 hd hK hfi hout hps hT
          go_wp2_with fail
          go_quiet (fail)
          go_wp2_with fail
          go_roundw
          case rel => exact ⟨i + 1, f, T, mm, HLT.out, by rw [u], by have := HFI.out; omega, rfl, HTT.out, rfl, by first | rw [hmx] | rw [HMX.out], HPN.out, HON.out, (HK.out.drewN nq).pick [0] (by simp) rfl (fun q hq => by simp at hq; subst hq; rfl), fun _ => (HK.out.drewN nq).pick [0, 1] (by decide) rfl (fun q hq => by simp at hq; rcases hq with rfl | rfl <;> rfl)⟩
          case measure => rw [u]; exact meas_next HLT.out
    · obtain rfl : i = n := by omega
      have r0 := (hK3.at 0 rfl).get 0
      have r1 := (hK3.at 0 rfl).get 1
      have f0 := (hK3.at 0 rfl).frozen 0
      have f1 := (hK3.at 0 rfl).frozen 1
      simp at r0 r1
      have KE := Lib.hid (hK3.store 0 rfl [.int .i64 0, .int .i64 0] rfl)
      have y0 := (KE.out.at 0 rfl).get 0
      have y1 := (KE.out.at 0 rfl).get 1
      simp [World.setCells] at y0 y1
      have hpk2 := hpk.out
      rw [← HL.out] at hpk2
      have HP := Lib.hid (pkTo_all hpk2)
      clear hi hlt hfi hpk2 hpk hout hK3 hK
      go_wp2_with fail
      exact bodyPost_ret (v := .tuple #[.int .i64 (m : Int), .agg #[.int .i64 0, .int .i64 0]]) (by simp [results, Try.results16, go_sem, y0, y1]) rfl ⟨m, rfl, HP.out, KE.out.bel⟩
set_option maxRecDepth 10000 in
set_option maxHeartbeats 4000000 in
theorem rpeak_ok (A : Option Addr) (n cap : Nat) (L : List Sm) (wi : Nat) (w : World) (hn : n ≤ 1000) (hg : cuGood L n) (hA : SmRow w A n L)
    (CC : Hid (∀ w', Below w.heap.size w w' → Calls Try.prog 24 #[.slice A n cap] w' fun e w'' => e = .returned (.agg #[.int .i64 0, .int .i64 0]) ∧ Below w'.heap.size w' w'')) :
    Calls Try.prog 17 #[.slice A n cap, .int .u64 wi] w fun e w' => ∃ m : Nat, e = .returned (.tuple #[.int .i64 (m : Int), .agg #[.int .i64 0, .int .i64 0]]) ∧ PkIs L wi m ∧ Below w.heap.size w w' := by
  have HWD := Lib.hid (smT_word hA)
  have CR := Lib.hid (fun (B : Option Addr) (cp : Nat) w' => rrtrun_any B n cp (smT L) w' (by omega))
  have HL := Lib.hid hA.1
  have HTM := Lib.hid (fun k => rtRun_word2 (smT_word hA) k)
  have HA := Lib.hid hA
  have HG := Lib.hid hg
  have HN := Lib.hid hn
  have HNM : Hid (n ≤ 1048576) := (by omega : n ≤ 1048576)
  have HNI : Hid ((n : Int) ≤ 17592186043904) := (by omega : (n : Int) ≤ 17592186043904)
  clear hn hg hA
  go_enter Try.func17, Try.ntmps17
  have K0 := Lib.hid (KV.one w 26 [.int .i64 0, .int .i64 0])
  go_upto_region 2 with (first | (go_at_call 24; refine (CC.out _ K0.out.bel).mono ?_; rintro e w1 ⟨rfl, b1⟩) | fail)
  have K1 := Lib.hid ((K0.out.below b1).new 26 [.int .i64 0, .int .i64 0])
  clear b1 K0 CC
  have m0 := (K1.out.at 1 rfl).get 0
  simp at m0
  have K2 := Lib.hid (K1.out.pick [0] (by simp) rfl (fun q hq => by simp at hq; subst hq; rfl) : KV w [(26, w.heap.size, [.int .i64 0, .int .i64 0])] _)
  clear K1
  go_wp2_with fail
  clear m0
  generalize w1.alloc (.cells #[.int .i64 0, .int .i64 0] 26) = W1 at *
  have sW1 := Lib.hid K2.out.bel.size
  go_loopw [7, 8] (fun v k wr => ∃ q : Nat, q ≤ n ∧ k = .int .i64 (q : Int) ∧ OutU W1.heap.size wr v ((smT L).take q) ∧ Below W1.heap.size W1 wr) (fun _ k _ => n - (intOf k).toNat)
  case atStart => exact ⟨0, Nat.zero_le _, rfl, OutU.nil _ _, Below.refl _ _⟩
  case round =>
    obtain ⟨q, hq, rfl, ho, hb⟩ := hrel
    have HO := Lib.hid ho
    have HB := Lib.hid hb
    clear ho hb
    by_cases hlt : q < n
    · have hqn : (q : Int) < (n : Int) := by omega
      obtain ⟨bb, o, rfl, hlow, hc⟩ := HA.out.addr (by omega)
      have hls : bb < W1.heap.size := Nat.lt_of_lt_of_le hlow sW1.out
      have q0 : wr.cell? ⟨bb, o + q * 2, none⟩ = _ := ((HB.out.cell (p := ⟨bb, o + q * 2, none⟩) hls).trans (K2.out.bel.cell (p := ⟨bb, o + q * 2, none⟩) hlow)).trans (hc q hlt).1
      obtain ⟨t, ht⟩ : ∃ t, t = (L.getD q sm0).time := ⟨_, rfl⟩
      rw [← ht] at q0
      have hT : (smT L).take (q + 1) = (smT L).take q ++ [t] := by
        have hql : q < (smT L).length := by rw [smT_len, HL.out]; exact hlt
        rw [List.take_add_one, List.getElem?_eq_getElem hql, ht, ← smT_get, List.getD_eq_getElem?_getD, List.getElem?_eq_getElem hql]
        rfl
      have HS := Lib.hid hT
      have hll : Hid (((smT L).take q).length + 1 ≤ 1048576) := (by rw [List.length_take]; have := HN.out; omega : ((smT L).take q).length + 1 ≤ 1048576)
      have HLT := Lib.hid hlt
      have u := cu_next hlt HNI.out
      clear hlow hls ht hT hlt hq hc
      go_wp2_with (first | (at_builtin; refine wpList_appendU (by rfl) (.tmp 26) (.tmp 32) (by rfl) (news := [t]) _ 1 (by rfl) (by rfl) (by rfl) (by rfl) HO.out HB.out HB.out.size hll.out ?_; intro v' w' ho' hb') | fail)
      go_roundw
      case rel => exact ⟨q + 1, HLT.out, by rw [u], by rw [HS.out]; exact ho', hb'⟩
      case measure => rw [u]; exact meas_next HLT.out
    · obtain rfl : q = n := by omega
      have hln : (smT L).take q = smT L := List.take_of_length_le (by rw [smT_len, HL.out]; exact Nat.le_refl _)
      rw [hln] at HO
      obtain ⟨A5, c5, rfl, _, _, hR5⟩ := HO.out.out HWD.out
      rw [smT_len, HL.out] at hR5 ⊢
      have HR5 := Lib.hid hR5
      have K3 := Lib.hid (K2.out.below HB.out)
      clear hq hlt hln hR5 HO HB
      go_upto_region 10 with (first | (go_at_call 34; refine (CR.out _ _ _ HR5.out).mono ?_; rintro e w3 ⟨v, rfl, ho3, hb3⟩) | fail)
      obtain ⟨ga, cp, cur, A6, rfl, hat⟩ := ho3.arr0 q (by rw [rtRun_len, smT_len]; exact HL.out)
      have K3' : Hid (KV w [(26, w.heap.size, [.int .i64 0, .int .i64 0])] w3) := K3.out.below hb3
      have hcur : ∀ k, k < q → cur[k]? = some (.int .u64 (cuT L k : Nat)) := fun k hk => by
        have := (hat (by omega)).2.2.2 k hk
        rw [rtRun_get (by rw [smT_len, HL.out]; exact hk)] at this
        exact this
      have hA6 : 0 < q → A6 = some ⟨ga, 0, none⟩ := fun h => (hat h).1
      have K4 : Hid (0 < q → KV w [(26, w.heap.size, [.int .i64 0, .int .i64 0]), (23, ga, cur)] w3) := fun h0 => by
        refine kv_two (K3'.out.at 0 rfl) (hat h0).2.2.1 (Nat.le_refl _) ?_ ?_ K3'.out.bel
        · have h1 := (hat h0).2.1; have h2 := K3.out.bel.size; omega
        · have h1 := (hat h0).2.1; have h2 := (K3.out.at 0 rfl).lt; omega
      have HCUR := Lib.hid hcur
      clear ho3 hb3 hat hcur K3 CR HR5 K2 sW1
      go_wp2_with fail
      go_loopw [10, 11] (fun vm vi wr => ∃ i m : Nat, i ≤ q ∧ vi = .int .i64 (i : Int) ∧ vm = .int .i64 (m : Int) ∧ Hid (PkFr L wi i m) ∧ KV w [(26, w.heap.size, [.int .i64 0, .int .i64 0])] wr ∧ Hid (0 < q → KV w [(26, w.heap.size, [.int .i64 0, .int .i64 0]), (23, ga, cur)] wr)) (fun _ vi _ => q - (intOf vi).toNat)
      case atStart => exact ⟨0, 0, Nat.zero_le _, rfl, rfl, pkFr_zero L wi, K3'.out, K4.out⟩
      case round =>
        clear K3' K4
        obtain ⟨i, m, hi, rfl, rfl, hpk, hK3, hK⟩ := hrel
        by_cases hlt : i < q
        · have hli : (i : Int) < (q : Int) := by omega
          obtain rfl := hA6 (by omega)
          obtain ⟨b, o, rfl, hl, hc⟩ := HA.out.addr (by omega)
          have HK := Lib.hid (hK.out (by omega))
          have HLT := Lib.hid hlt
          have HBL := Lib.hid hl
          have HC := Lib.hid hc
          have u := cu_next hlt HNI.out
          obtain ⟨W0, hW0⟩ : ∃ W, W = wr := ⟨_, rfl⟩
          rw [← hW0] at HK ⊢
          clear hi hlt hK3 hK hl hc hA6 hW0
          go_wp2_with fail
          go_loopw [12, 13] (fun vs vj wr => ∃ j S : Nat, i ≤ j ∧ j ≤ q ∧ vj = .int .i64 (j : Int) ∧ Hid (S = cuTo L j - cuTo L i) ∧ vs = .int .i64 (S : Int) ∧ Hid (i < j → cuT L (j - 1) - cuT L i ≤ wi) ∧ KV w [(26, w.heap.size, [.int .i64 0, .int .i64 0]), (23, ga, cur)] wr) (fun _ vj _ => q - (intOf vj).toNat)
          case atStart => exact ⟨i, 0, Nat.le_refl _, Nat.le_of_lt HLT.out, rfl, (by show 0 = cuTo L i - cuTo L i; rw [Nat.sub_self]), rfl, (fun h => absurd h (by omega)), HK.out⟩
          case round =>
            clear HK
            obtain ⟨j, S, hij, hjq, rfl, hS, rfl, hin, hK⟩ := hrel
            have HK := Lib.hid hK
            by_cases hj : j < q
            · have hji : (j : Int) < (q : Int) := by omega
              obtain ⟨t1, ht1⟩ : ∃ x, x = cuT L j := ⟨_, rfl⟩
              obtain ⟨t0, ht0⟩ : ∃ x, x = cuT L i := ⟨_, rfl⟩
              obtain ⟨d, hd⟩ : ∃ x, x = t1 - t0 := ⟨_, rfl⟩
              have HD := cu_gap hd (by rw [ht0, ht1]; exact cuT_mono L hij) (by rw [ht1]; exact HTM.out _)
              have c1 : wr.cell? ⟨ga, j, none⟩ = some (.int .u64 (t1 : Nat)) := by rw [ht1]; exact ((hK.at 1 rfl).get j).trans (HCUR.out j hj)
              have c0 : wr.cell? ⟨ga, i, none⟩ = some (.int .u64 (t0 : Nat)) := by rw [ht0]; exact ((hK.at 1 rfl).get i).trans (HCUR.out i HLT.out)
              by_cases hw : d ≤ wi
              · have hwi : (d : Int) ≤ (wi : Int) := by omega
                have q1 : wr.cell? ⟨b, o + j * 2 + 1, none⟩ = _ := (hK.bel.cell (p := ⟨b, o + j * 2 + 1, none⟩) HBL.out).trans (HC.out j hj).2
                obtain ⟨z, hz⟩ : ∃ z, z = (L.getD j sm0).size := ⟨_, rfl⟩
                rw [← hz] at q1
                obtain ⟨U, hU⟩ : ∃ U, U = cuTo L (j + 1) - cuTo L i := ⟨_, rfl⟩
                have HIN : Hid (i < j + 1 → cuT L (j + 1 - 1) - cuT L i ≤ wi) := fun _ => by rw [Nat.add_sub_cancel, ← ht1, ← ht0, ← hd]; exact hw
                have HIJ := Lib.hid hij
                have HJ := Lib.hid hj
                have HU := Lib.hid hU
                have uj := cu_next hj HNI.out
                have vS := pk_add HG.out hj hij HNM.out hS.out hU hz
                clear hw hz hU ht1 ht0 hd hS hK hij hjq hj hin
                go_wp2_with fail
                go_quiet (fail)
                have q1d : (wr.drewN nq).cell? ⟨b, o + j * 2 + 1, none⟩ = some (.int .i64 z) := q1
                go_wp2_with fail
                go_roundw
                case rel => exact ⟨j + 1, U, Nat.le_succ_of_le HIJ.out, HJ.out, by rw [uj], HU.out, by rw [vS], HIN.out, HK.out.drewN nq⟩
                case measure => rw [uj]; exact meas_next HJ.out
              · have hwi : ¬ (d : Int) ≤ (wi : Int) := by omega
                have hlt2 : i < j := by
                  rcases Nat.lt_or_ge i j with h | h
                  · exact h
                  · exfalso
                    have e : i = j := by omega
                    subst e
                    rw [hd, ht1, ht0, Nat.sub_self] at hw
                    omega
                have HPN := Lib.hid (pkFr_next hpk.out hlt2 (by rw [HL.out]; omega) (hin.out hlt2) (fun _ => by rw [← ht1, ← ht0, ← hd]; omega))
                rw [← hS.out] at HPN
                obtain ⟨mm, hmm⟩ : ∃ x, x = max m S := ⟨_, rfl⟩
                rw [← hmm] at HPN
                have hmx : max (m : Int) (S : Int) = (mm : Int) := by rw [hmm]; exact pk_max m S
                have HMX := Lib.hid hmm
                clear hw ht1 ht0 hd hK hij hjq hj hS hin hmm hlt2
                go_wp2_with fail
                go_quiet (fail)
                go_wp2_with fail
                go_roundw
                case rel => exact ⟨i + 1, mm, HLT.out, by rw [u], by first | rw [hmx] | rw [HMX.out], HPN.out, (HK.out.drewN nq).pick [0] (by simp) rfl (fun q hq => by simp at hq; subst hq; rfl), fun _ => HK.out.drewN nq⟩
                case measure => rw [u]; exact meas_next HLT.out
            · obtain rfl : j = q := by omega
              have hji : ¬ (j : Int) < (j : Int) := by omega
              have HPN := Lib.hid (pkFr_next hpk.out HLT.out (by rw [HL.out]; exact Nat.le_refl _) (hin.out HLT.out) (fun h => by rw [HL.out] at h; omega))
              rw [← hS.out] at HPN
              obtain ⟨mm, hmm⟩ : ∃ x, x = max m S := ⟨_, rfl⟩
              rw [← hmm] at HPN
              have hmx : max (m : Int) (S : Int) = (mm : Int) := by rw [hmm]; exact pk_max m S
              have HMX := Lib.hid hmm
              clear hK hij hjq hj hS hin hmm
              go_upto_region 16 with fail
              refine wp_region_par (w := w) [.quiet (.int .i64 (j : Int)), .quiet (.slice (some ⟨b, o, none⟩) j cap), .quiet (.int .i64 (j : Int)), .quiet (.bool false), .quiet (.bool false), .quiet undef, .quiet undef, .quiet undef, .quiet undef, .quiet undef, .quiet undef, .quiet undef, .quiet undef, .quiet undef, .quiet undef, .quiet undef, .quiet (.bool false)] [(26, w.heap.size, [.int .i64 0, .int .i64 0]), (23, ga, cur)] (by kernel_rfl) (by kernel_rfl) HK.out.drew (fun bk0 => ?_) ?_
              · clear HK
                refine pWalk_quiet rfl (fun E W hw' => quietAt_run (by simp [go_sem])) ?_
                simp only [Act.put, List.setIfInBounds_toArray, List.set_cons_zero, List.set_cons_succ]
                refine pWalk_quiet rfl (fun E W hw' => quietAt_run (by simp [go_sem])) ?_
                simp only [Act.put, List.setIfInBounds_toArray, List.set_cons_zero, List.set_cons_succ]
                refine pWalk_quiet rfl (fun E W hw' => quietAt_run (by simp [go_sem])) ?_
                simp only [Act.put, List.setIfInBounds_toArray, List.set_cons_zero, List.set_cons_succ]
                refine pWalk_quiet rfl (fun E W hw' => quietAt_run (by simp [go_sem])) ?_
                simp only [Act.put, List.setIfInBounds_toArray, List.set_cons_zero, List.set_cons_succ]
                refine pWalk_quiet rfl (fun E W hw' => quietAt_run (by simp [go_sem])) ?_
                simp only [Act.put, List.setIfInBounds_toArray, List.set_cons_zero, List.set_cons_succ]
                refine pWalk_skip rfl ?_
                simp only [Act.put, List.setIfInBounds_toArray, List.set_cons_zero, List.set_cons_succ]
                refine pWalk_skip rfl ?_
                simp only [Act.put, List.setIfInBounds_toArray, List.set_cons_zero, List.set_cons_succ]
                refine pWalk_skip rfl ?_
                simp only [Act.put, List.setIfInBounds_toArray, List.set_cons_zero, List.set_cons_succ]
                refine pWalk_skip rfl ?_
                simp only [Act.put, List.setIfInBounds_toArray, List.set_cons_zero, List.set_cons_succ]
                refine pWalk_skip rfl ?_
                simp only [Act.put, List.setIfInBounds_toArray, List.set_cons_zero, List.set_cons_succ]
                refine pWalk_skip rfl ?_
                simp only [Act.put, List.setIfInBounds_toArray, List.set_cons_zero, List.set_cons_succ]
                refine pWalk_skip rfl ?_
                simp only [Act.put, List.setIfInBounds_toArray, List.set_cons_zero, List.set_cons_succ]
                refine pWalk_skip rfl ?_
                simp only [Act.put, List.setIfInBounds_toArray, List.set_cons_zero, List.set_cons_succ]
                refine pWalk_skip rfl ?_
                simp only [Act.put, List.setIfInBounds_toArray, List.set_cons_zero, List.set_cons_succ]
                refine pWalk_skip rfl ?_
                simp only [Act.put, List.setIfInBounds_toArray, List.set_cons_zero, List.set_cons_succ]
                refine pWalk_skip rfl ?_
                simp only [Act.put, List.setIfInBounds_toArray, List.set_cons_zero, List.set_cons_succ]
                refine pWalk_quiet rfl (fun E W hw' => quietAt_run (by simp [go_sem])) ?_
                simp only [Act.put, List.setIfInBounds_toArray, List.set_cons_zero, List.set_cons_succ]
                trivial
              intro bk κ E W16 hK16 hB16
              have K16 := Lib.hid (hK16.pick [0, 1] (by decide) rfl (fun q hq => by simp at hq; rcases hq with rfl | rfl <;> rfl) : KV w [(26, w.heap.size, [.int .i64 0, .int .i64 0]), (23, ga, cur)] W16)
              clear hK16 hB16 HK
              simp only [List.length_cons, List.length_nil, lexAct, pval, toK, List.map_cons, List.map_nil, List.getElem?_cons_zero, List.getElem?_cons_succ, Option.bind_some, Act.put, List.setIfInBounds_toArray, List.set_cons_zero, List.set_cons_succ]
              go_wp2_with fail
              go_roundw
              case rel => exact ⟨i + 1, mm, HLT.out, by rw [u], by first | rw [hmx] | rw [HMX.out], HPN.out, K16.out.pick [0] (by simp) rfl (fun q hq => by simp at hq; subst hq; rfl), fun _ => K16.out⟩
              case measure => rw [u]; exact meas_next HLT.out
        · obtain rfl : i = q := by omega
          have r0 := (hK3.at 0 rfl).get 0
          have r1 := (hK3.at 0 rfl).get 1
          have f0 := (hK3.at 0 rfl).frozen 0
          have f1 := (hK3.at 0 rfl).frozen 1
          simp at r0 r1
          have KE := Lib.hid (hK3.store 0 rfl [.int .i64 0, .int .i64 0] rfl)
          have y0 := (KE.out.at 0 rfl).get 0
          have y1 := (KE.out.at 0 rfl).get 1
          simp [World.setCells] at y0 y1
          have hpk2 := hpk.out
          rw [← HL.out] at hpk2
          have HP := Lib.hid (pkFr_all hpk2)
          clear hi hlt hpk2 hpk hK3 hK
          go_wp2_with fail
          exact bodyPost_ret (v := .tuple #[.int .i64 (m : Int), .agg #[.int .i64 0, .int .i64 0]]) (by simp [results, Try.results17, go_sem, y0, y1]) rfl ⟨m, rfl, HP.out, KE.out.bel⟩
/-- Both, at a number known ahead. -/
theorem peaks_is (A : Option Addr) (n cap : Nat) (L : List Sm) (wi : Nat) (w : World) (hn : n ≤ 1000) (hA : SmRow w A n L) :
    ∃ m : Nat, (match cuBad L with | some _ => m = 0 | none => PkIs L wi m) ∧
      (∀ w', SmRow w' A n L → Calls Try.prog 16 #[.slice A n cap, .int .u64 wi] w' fun e w'' => e = .returned (.tuple #[.int .i64 (m : Int), .agg (fvC (cuBad L)).toArray]) ∧ Below w'.heap.size w' w'') ∧
      (∀ w', SmRow w' A n L → Calls Try.prog 17 #[.slice A n cap, .int .u64 wi] w' fun e w'' => e = .returned (.tuple #[.int .i64 (m : Int), .agg (fvC (cuBad L)).toArray]) ∧ Below w'.heap.size w' w'') := by
  cases hB : cuBad L with
  | some q =>
    refine ⟨0, rfl, fun w' hw => ?_, fun w' hw => ?_⟩
    · have CC := Lib.hid (fun w'' (h : Below w'.heap.size w' w'') => ccheck_any A n cap L w'' (by omega) (hw.below h))
      rw [hB] at CC
      exact cpeak_bad A n cap q wi w' CC
    · have CC := Lib.hid (fun w'' (h : Below w'.heap.size w' w'') => rcheck_any A n cap L w'' (by omega) (hw.below h))
      rw [hB] at CC
      exact rpeak_bad A n cap q wi w' CC
  | none =>
    have hg := cuGood_of hB
    rw [hA.1] at hg
    obtain ⟨m, hm⟩ := pk_exists L wi
    refine ⟨m, hm, fun w' hw => ?_, fun w' hw => ?_⟩
    · have CC := Lib.hid (fun w'' (h : Below w'.heap.size w' w'') => ccheck_any A n cap L w'' (by omega) (hw.below h))
      rw [hB] at CC
      refine (cpeak_ok A n cap L wi w' (by omega) hg hw CC).mono ?_
      rintro e w'' ⟨m', rfl, hm', hb⟩
      rw [pk_same hm' hm]
      exact ⟨rfl, hb⟩
    · have CC := Lib.hid (fun w'' (h : Below w'.heap.size w' w'') => rcheck_any A n cap L w'' (by omega) (hw.below h))
      rw [hB] at CC
      refine (rpeak_ok A n cap L wi w' hn hg hw CC).mono ?_
      rintro e w'' ⟨m', rfl, hm', hb⟩
      rw [pk_same hm' hm]
      exact ⟨rfl, hb⟩

theorem two_u64s {zs : List Int} (hn : zs.length = 2) (hz : ∀ z ∈ zs, (Lit.int .u64 z).wf = true) : ∃ a b : Nat, zs = [(a : Int), (b : Int)] ∧ a ≤ 18446744073709551615 ∧ b ≤ 18446744073709551615 := by
  match zs, hn with
  | [x, y], _ =>
    obtain ⟨a, rfl, ha⟩ := wf_u64k (hz x (by simp))
    obtain ⟨b, rfl, hb⟩ := wf_u64k (hz y (by simp))
    exact ⟨a, b, rfl, ha, hb⟩
theorem cuLeast_num {L : List Sm} {n r : Nat} (hl : L.length = n) (hn : n ≤ 1000) (hB : cuBad L = none) : cuLeast L r = cuBurst (cuMost L r n) ∧ cuBurst (cuMost L r n) ≤ 65575001 := by
  have hg := cuGood_of hB
  rw [hl] at hg
  have h1 : cuMost L r n ≤ 1000000000 * 65575000 := cuMost_le fun j hj => by
    have h2 := cuExc_le (L := L) r j
    have h3 := cuTo_le hg (j + 1) (by omega)
    omega
  have h4 : cuBurst (cuMost L r n) ≤ 65575001 := by unfold cuBurst; split <;> omega
  refine ⟨?_, h4⟩
  unfold cuLeast
  rw [if_pos hB, hl]
  unfold wlo
  omega
theorem pk_small {L : List Sm} {n w m : Nat} (hg : cuGood L n) (hl : L.length = n) (hn : n ≤ 1000) (h : PkIs L w m) : m ≤ 65575000 := by
  rcases h.2 with e | ⟨a, b, hi, e⟩
  · omega
  · have h1 := cuTo_le hg (b + 1) (by have := hi.2.1; omega)
    have := hi.2.1
    unfold pkSum at e
    omega

set_option maxRecDepth 10000 in
set_option maxHeartbeats 8000000 in
theorem walk_CurvePeaks (A : Option Addr) (n cap : Nat) (L : List Sm) (zs : List Int) (r : Nat) (w : World) (hA : SmRow w A n L) (hn : n ≤ 8796093022208) (hcap : n ≤ cap) (hzl : zs.length = 2) (hz : ∀ z ∈ zs, (Lit.int .u64 z).wf = true) (hr : r ≤ 18446744073709551615) :
    Calls Try.prog 5 #[.slice A n cap, .agg (zs.map (Value.int .u64)).toArray, .int .u64 r] w fun e w' => e = .returned (.bool true) ∧ Below w.heap.size w w' := by
  obtain ⟨w0, w1, rfl, hw0, hw1⟩ := two_u64s hzl hz
  show Calls Try.prog 5 #[.slice A n cap, .agg #[.int .u64 (w0 : Nat), .int .u64 (w1 : Nat)], .int .u64 r] w fun e w' => e = .returned (.bool true) ∧ Below w.heap.size w w'
  clear hzl hz
  obtain ⟨k, hk, hB, hkc, hk60⟩ := cut24 hA hcap 60
  obtain ⟨lo, hlo⟩ : ∃ x, x = min w0 w1 := ⟨_, rfl⟩
  obtain ⟨hi, hhi⟩ : ∃ x, x = max w0 w1 := ⟨_, rfl⟩
  have hlol : lo ≤ 18446744073709551615 := by omega
  have hlh : lo ≤ hi := by omega
  have HLO : Hid (min (w0 : Int) (w1 : Int) = (lo : Int)) := (by rw [hlo]; omega : min (w0 : Int) (w1 : Int) = (lo : Int))
  have HHI : Hid (max (w0 : Int) (w1 : Int) = (hi : Int)) := (by rw [hhi]; omega : max (w0 : Int) (w1 : Int) = (hi : Int))
  obtain ⟨p0, hp0, CP0, CR0⟩ := peaks_is A k cap (L.take 60) lo w (by omega) hB
  obtain ⟨p1, hp1, CP1, _⟩ := peaks_is A k cap (L.take 60) hi w (by omega) hB
  obtain ⟨p2, hp2, CP2, _⟩ := peaks_is A k cap (L.take 60) 18446744073709551615 w (by omega) hB
  have CV := Lib.hid (fun w => live29_any w)
  cases hBad : cuBad (L.take 60) with
  | some q =>
    have hql := cuBad_lt hBad
    rw [hB.1] at hql
    rw [hBad] at hp0 CP0 CR0
    subst hp0
    obtain ⟨fb, hfb⟩ : ∃ x, x = (q : Int) := ⟨_, rfl⟩
    have CPl : Hid (∀ w', SmRow w' A k (L.take 60) → Calls Try.prog 16 #[.slice A k cap, .int .u64 lo] w' fun e w'' => e = .returned (.tuple #[.int .i64 0, .agg #[.int .i64 1, .int .i64 fb]]) ∧ Below w'.heap.size w' w'') := by rw [hfb]; exact CP0
    have CRl : Hid (∀ w', SmRow w' A k (L.take 60) → Calls Try.prog 17 #[.slice A k cap, .int .u64 lo] w' fun e w'' => e = .returned (.tuple #[.int .i64 0, .agg #[.int .i64 1, .int .i64 fb]]) ∧ Below w'.heap.size w' w'') := by rw [hfb]; exact CR0
    have hI : I64k fb := by rw [hfb]; exact ⟨by omega, by omega⟩
    have E1 := fun w => fault_eq (a := 1) (b := fb) (c := 1) (d := fb) ⟨by decide, by decide⟩ hI ⟨by decide, by decide⟩ hI w
    have E2 := fun w => fault_eq (a := 1) (b := fb) (c := 0) (d := 0) ⟨by decide, by decide⟩ hI ⟨by decide, by decide⟩ ⟨by decide, by decide⟩ w
    simp only [and_self, decide_true] at E1
    rw [decide_eq_false (by intro h; exact absurd h.1 (by decide))] at E2
    have HB := Lib.hid hB
    clear CP0 CR0 CP1 CP2 hp1 hp2 hql hfb hI hBad hlo hhi hlol hlh hA hB hr hw0 hw1
    go_enter Try.func5, Try.ntmps5
    have K3 := Lib.hid (KV.one w 39 [.int .u64 (w0 : Nat), .int .u64 (w1 : Nat)])
    have R3 := Lib.hid (HB.out.below K3.out.bel)
    by_cases h60 : n ≤ 60
    · obtain rfl : k = n := by rw [hk]; omega
      have hni : ¬ (60 : Int) < (k : Int) := by omega
      clear hk h60 hn hcap hkc hk60
      go_upto_region 3 with fail
      have c0 := (K3.out.at 0 rfl).get 0
      have c1 := (K3.out.at 0 rfl).get 1
      simp at c0 c1
      go_quiet (fail)
      have K3d := Lib.hid (K3.out.drewN nq)
      have R3d := Lib.hid (HB.out.below K3d.out.bel)
      clear c0 c1 K3 R3
      simp only [HLO.out, HHI.out]
      generalize (w.alloc (.cells #[.int .u64 (w0 : Int), .int .u64 (w1 : Int)] 39)).drewN nq = V0 at *
      have K4 := K3d
      have R4 := R3d
      clear K3d R3d
      go_upto_region 5 with (first | (go_at_call 16; refine (CPl.out _ R4.out).mono ?_; rintro e v4 ⟨rfl, b4⟩) | fail)
      have K5 := Lib.hid ((K4.out.below b4).new 26 [.int .i64 1, .int .i64 fb])
      simp only [List.cons_append, List.nil_append] at K5
      have R5 := Lib.hid (HB.out.below K5.out.bel)
      clear b4 K4 R4
      generalize v4.heap.size = g4 at *
      generalize v4.alloc (.cells #[.int .i64 1, .int .i64 fb] 26) = V4 at *
      go_upto_region 6 with (first | (go_at_call 17; refine (CRl.out _ R5.out).mono ?_; rintro e v5 ⟨rfl, b5⟩) | fail)
      have K6 := Lib.hid ((K5.out.below b5).new 26 [.int .i64 1, .int .i64 fb])
      simp only [List.cons_append, List.nil_append] at K6
      have R6 := Lib.hid (HB.out.below K6.out.bel)
      clear b5 K5 R5
      generalize v5.heap.size = g5 at *
      generalize v5.alloc (.cells #[.int .i64 1, .int .i64 fb] 26) = V5 at *
      have s0 := (K6.out.at 1 rfl).get 0
      have s1 := (K6.out.at 1 rfl).get 1
      have s2 := (K6.out.at 2 rfl).get 0
      have s3 := (K6.out.at 2 rfl).get 1
      simp at s0 s1 s2 s3
      go_wp2_with (first | (go_at_call 10; refine (CV.out _).mono ?_; rintro e v6 ⟨rfl, b6⟩) | fail)
      go_ret
      exact ⟨rfl, (K6.out.below b6).bel⟩
    · obtain rfl : k = 60 := by rw [hk]; omega
      have hni : (60 : Int) < (n : Int) := by omega
      have hci : (60 : Int) ≤ (cap : Int) := by omega
      clear hk h60 hn hcap hkc hk60
      go_upto_region 3 with fail
      have c0 := (K3.out.at 0 rfl).get 0
      have c1 := (K3.out.at 0 rfl).get 1
      simp at c0 c1
      go_quiet (fail)
      have K3d := Lib.hid (K3.out.drewN nq)
      have R3d := Lib.hid (HB.out.below K3d.out.bel)
      clear c0 c1 K3 R3
      simp only [HLO.out, HHI.out]
      generalize (w.alloc (.cells #[.int .u64 (w0 : Int), .int .u64 (w1 : Int)] 39)).drewN nq = V0 at *
      have K4 := K3d
      have R4 := R3d
      clear K3d R3d
      go_upto_region 5 with (first | (go_at_call 16; refine (CPl.out _ R4.out).mono ?_; rintro e v4 ⟨rfl, b4⟩) | fail)
      have K5 := Lib.hid ((K4.out.below b4).new 26 [.int .i64 1, .int .i64 fb])
      simp only [List.cons_append, List.nil_append] at K5
      have R5 := Lib.hid (HB.out.below K5.out.bel)
      clear b4 K4 R4
      generalize v4.heap.size = g4 at *
      generalize v4.alloc (.cells #[.int .i64 1, .int .i64 fb] 26) = V4 at *
      go_upto_region 6 with (first | (go_at_call 17; refine (CRl.out _ R5.out).mono ?_; rintro e v5 ⟨rfl, b5⟩) | fail)
      have K6 := Lib.hid ((K5.out.below b5).new 26 [.int .i64 1, .int .i64 fb])
      simp only [List.cons_append, List.nil_append] at K6
      have R6 := Lib.hid (HB.out.below K6.out.bel)
      clear b5 K5 R5
      generalize v5.heap.size = g5 at *
      generalize v5.alloc (.cells #[.int .i64 1, .int .i64 fb] 26) = V5 at *
      have s0 := (K6.out.at 1 rfl).get 0
      have s1 := (K6.out.at 1 rfl).get 1
      have s2 := (K6.out.at 2 rfl).get 0
      have s3 := (K6.out.at 2 rfl).get 1
      simp at s0 s1 s2 s3
      go_wp2_with (first | (go_at_call 10; refine (CV.out _).mono ?_; rintro e v6 ⟨rfl, b6⟩) | fail)
      go_ret
      exact ⟨rfl, (K6.out.below b6).bel⟩
  | none =>
    have hg := cuGood_of hBad
    rw [hB.1] at hg
    rw [hBad] at hp0 hp1 hp2 CP0 CR0 CP1 CP2
    have hmono := pk_mono hlh hp0 hp1
    have hall : p2 = cuTotal (L.take 60) := by
      have h := pk_all (fun i => by have := rtRun_word2 (smT_word hB) (i + 1); unfold cuT; omega) hp2
      unfold cuTotal
      rw [if_pos hBad]
      exact h
    have hcv := pk_curve (r := r) hp0
    rw [hB.1] at hcv
    obtain ⟨hle, hbs⟩ := cuLeast_num (r := r) hB.1 (by omega) hBad
    have hps := pk_small hg hB.1 (by omega) hp0
    obtain ⟨bu, hbu⟩ : ∃ x, x = cuBurst (cuMost (L.take 60) r k) := ⟨_, rfl⟩
    rw [← hbu] at hcv hle hbs
    obtain ⟨S, hS⟩ : ∃ x, x = bu * 1000000000 + r * lo := ⟨_, rfl⟩
    have hx1 : bu * 1000000000 < w128 := prod_lt (by omega) (by decide)
    have hx2 : r * lo < w128 := prod_lt hr hlol
    have hx3 : p0 * 1000000000 < w128 := prod_lt (by omega) (by decide)
    obtain ⟨ov, hov⟩ : ∃ x, x = decide (w128 ≤ S) := ⟨_, rfl⟩
    obtain ⟨mx, hmx⟩ : ∃ x, x = whi S := ⟨_, rfl⟩
    obtain ⟨my, hmy⟩ : ∃ x, x = wlo S := ⟨_, rfl⟩
    obtain ⟨bx, hbx⟩ : ∃ x, x = whi (bu * 1000000000) := ⟨_, rfl⟩
    obtain ⟨by_, hby⟩ : ∃ x, x = wlo (bu * 1000000000) := ⟨_, rfl⟩
    obtain ⟨cx, hcx⟩ : ∃ x, x = whi (r * lo) := ⟨_, rfl⟩
    obtain ⟨cy, hcy⟩ : ∃ x, x = wlo (r * lo) := ⟨_, rfl⟩
    obtain ⟨nx, hnx⟩ : ∃ x, x = whi (p0 * 1000000000) := ⟨_, rfl⟩
    obtain ⟨ny, hny⟩ : ∃ x, x = wlo (p0 * 1000000000) := ⟨_, rfl⟩
    have CPl : Hid (∀ w', SmRow w' A k (L.take 60) → Calls Try.prog 16 #[.slice A k cap, .int .u64 lo] w' fun e w'' => e = .returned (.tuple #[.int .i64 (p0 : Int), .agg #[.int .i64 0, .int .i64 0]]) ∧ Below w'.heap.size w' w'') := CP0
    have CRl : Hid (∀ w', SmRow w' A k (L.take 60) → Calls Try.prog 17 #[.slice A k cap, .int .u64 lo] w' fun e w'' => e = .returned (.tuple #[.int .i64 (p0 : Int), .agg #[.int .i64 0, .int .i64 0]]) ∧ Below w'.heap.size w' w'') := CR0
    have CPh : Hid (∀ w', SmRow w' A k (L.take 60) → Calls Try.prog 16 #[.slice A k cap, .int .u64 hi] w' fun e w'' => e = .returned (.tuple #[.int .i64 (p1 : Int), .agg #[.int .i64 0, .int .i64 0]]) ∧ Below w'.heap.size w' w'') := CP1
    have CPm : Hid (∀ w', SmRow w' A k (L.take 60) → Calls Try.prog 16 #[.slice A k cap, .int .u64 18446744073709551615] w' fun e w'' => e = .returned (.tuple #[.int .i64 (p2 : Int), .agg #[.int .i64 0, .int .i64 0]]) ∧ Below w'.heap.size w' w'') := CP2
    have CTo : Hid (∀ w', SmRow w' A k (L.take 60) → Calls Try.prog 8 #[.slice A k cap] w' fun e w'' => e = .returned (.tuple #[.int .i64 (p2 : Int), .agg #[.int .i64 0, .int .i64 0]]) ∧ Below w'.heap.size w' w'') := fun w' h => by
      have q := ctotal_any A k cap _ w' (by omega) h
      rw [hBad, ← hall] at q
      exact q
    have CLe : Hid (∀ w', SmRow w' A k (L.take 60) → Calls Try.prog 11 #[.slice A k cap, .int .u64 r] w' fun e w'' => e = .returned (.tuple #[.int .u64 (bu : Int), .agg #[.int .i64 0, .int .i64 0]]) ∧ Below w'.heap.size w' w'') := fun w' h => by
      have q := cleast_any A k cap _ r w' (by omega) hr h
      rw [hBad, hle] at q
      exact q
    have CB : Hid (∀ w, Calls Try.prog 19 #[.int .u64 bu, .int .u64 1000000000] w fun e w' => e = .returned (.agg #[.int .u64 bx, .int .u64 by_]) ∧ Below w.heap.size w w') := by rw [hbx, hby]; exact fun w => mul_any bu 1000000000 w (by omega) (by decide)
    have CW : Hid (∀ w, Calls Try.prog 19 #[.int .u64 r, .int .u64 lo] w fun e w' => e = .returned (.agg #[.int .u64 cx, .int .u64 cy]) ∧ Below w.heap.size w w') := by rw [hcx, hcy]; exact fun w => mul_any r lo w hr hlol
    have CA : Hid (∀ w, Calls Try.prog 18 #[.agg #[.int .u64 bx, .int .u64 by_], .agg #[.int .u64 cx, .int .u64 cy]] w fun e w' => e = .returned (.tuple #[.agg #[.int .u64 mx, .int .u64 my], .bool ov]) ∧ Below w.heap.size w w') := by rw [hbx, hby, hcx, hcy, hmx, hmy, hov]; exact fun w => add_nums _ _ S w hx1 hx2 hS
    have CN : Hid (∀ w, Calls Try.prog 19 #[.int .u64 p0, .int .u64 1000000000] w fun e w' => e = .returned (.agg #[.int .u64 nx, .int .u64 ny]) ∧ Below w.heap.size w w') := by rw [hnx, hny]; exact fun w => mul_any p0 1000000000 w (by omega) (by decide)
    have CL0 : Hid (ov = false → ∀ w, Calls Try.prog 20 #[.agg #[.int .u64 mx, .int .u64 my], .agg #[.int .u64 nx, .int .u64 ny]] w fun e w' => e = .returned (.bool false) ∧ Below w.heap.size w w') := fun h w => by
      have h2 : ¬ w128 ≤ S := of_decide_eq_false (hov.symm.trans h)
      have q := less_nums S (p0 * 1000000000) w (Nat.not_le.1 h2) hx3
      rw [decide_eq_false (by omega), ← hmx, ← hmy, ← hnx, ← hny] at q
      exact q
    have E0 := fun w => fault_eq (a := 0) (b := 0) (c := 0) (d := 0) ⟨by decide, by decide⟩ ⟨by decide, by decide⟩ ⟨by decide, by decide⟩ ⟨by decide, by decide⟩ w
    simp only [and_self, decide_true] at E0
    have HI1 : Hid ((p0 : Int) ≤ (p1 : Int)) := (by omega : (p0 : Int) ≤ (p1 : Int))
    have HP0 : Hid (IntKind.u64.wrap (p0 : Int) = (p0 : Int)) := by show _ = _; rw [IntKind.wrap_u64]; omega
    have HB := Lib.hid hB
    clear CP0 CR0 CP1 CP2 hp0 hp1 hp2 hBad hlo hhi hlol hlh hA hB hr hw0 hw1 hg hmono hall hcv hle hbs hps hbu hS hx1 hx2 hx3 hov hmx hmy hbx hby hcx hcy hnx hny
    go_enter Try.func5, Try.ntmps5
    have K3 := Lib.hid (KV.one w 39 [.int .u64 (w0 : Nat), .int .u64 (w1 : Nat)])
    have R3 := Lib.hid (HB.out.below K3.out.bel)
    by_cases h60 : n ≤ 60
    · obtain rfl : k = n := by rw [hk]; omega
      have hni : ¬ (60 : Int) < (k : Int) := by omega
      clear hk h60 hn hcap hkc hk60
      go_upto_region 3 with fail
      have c0 := (K3.out.at 0 rfl).get 0
      have c1 := (K3.out.at 0 rfl).get 1
      simp at c0 c1
      go_quiet (fail)
      have K3d := Lib.hid (K3.out.drewN nq)
      have R3d := Lib.hid (HB.out.below K3d.out.bel)
      clear c0 c1 K3 R3
      simp only [HLO.out, HHI.out]
      generalize (w.alloc (.cells #[.int .u64 (w0 : Int), .int .u64 (w1 : Int)] 39)).drewN nq = V0 at *
      have K4 := K3d
      have R4 := R3d
      clear K3d R3d
      go_upto_region 5 with (first | (go_at_call 16; refine (CPl.out _ R4.out).mono ?_; rintro e v4 ⟨rfl, b4⟩) | fail)
      have K5 := Lib.hid ((K4.out.below b4).new 26 [.int .i64 0, .int .i64 0])
      simp only [List.cons_append, List.nil_append] at K5
      have R5 := Lib.hid (HB.out.below K5.out.bel)
      clear b4 K4 R4
      generalize v4.heap.size = g4 at *
      generalize v4.alloc (.cells #[.int .i64 0, .int .i64 0] 26) = V4 at *
      go_upto_region 6 with (first | (go_at_call 17; refine (CRl.out _ R5.out).mono ?_; rintro e v5 ⟨rfl, b5⟩) | fail)
      have K6 := Lib.hid ((K5.out.below b5).new 26 [.int .i64 0, .int .i64 0])
      simp only [List.cons_append, List.nil_append] at K6
      have R6 := Lib.hid (HB.out.below K6.out.bel)
      clear b5 K5 R5
      generalize v5.heap.size = g5 at *
      generalize v5.alloc (.cells #[.int .i64 0, .int .i64 0] 26) = V5 at *
      have s0 := (K6.out.at 1 rfl).get 0
      have s1 := (K6.out.at 1 rfl).get 1
      have s2 := (K6.out.at 2 rfl).get 0
      have s3 := (K6.out.at 2 rfl).get 1
      simp at s0 s1 s2 s3
      go_upto_region 11 with (first | (go_at_call 16; refine (CPh.out _ R6.out).mono ?_; rintro e v6 ⟨rfl, b6⟩) | fail)
      have K7 := Lib.hid ((K6.out.below b6).new 26 [.int .i64 0, .int .i64 0])
      simp only [List.cons_append, List.nil_append] at K7
      have R7 := Lib.hid (HB.out.below K7.out.bel)
      clear b6 K6 R6
      generalize v6.heap.size = g6 at *
      generalize v6.alloc (.cells #[.int .i64 0, .int .i64 0] 26) = V6 at *
      clear s0 s1 s2 s3
      go_upto_region 12 with (first | (go_at_call 16; refine (CPm.out _ R7.out).mono ?_; rintro e v7 ⟨rfl, b7⟩) | fail)
      have K8 := Lib.hid ((K7.out.below b7).new 26 [.int .i64 0, .int .i64 0])
      simp only [List.cons_append, List.nil_append] at K8
      have R8 := Lib.hid (HB.out.below K8.out.bel)
      clear b7 K7 R7
      generalize v7.heap.size = g7 at *
      generalize v7.alloc (.cells #[.int .i64 0, .int .i64 0] 26) = V7 at *
      go_upto_region 13 with (first | (go_at_call 8; refine (CTo.out _ R8.out).mono ?_; rintro e v8 ⟨rfl, b8⟩) | fail)
      have K9 := Lib.hid ((K8.out.below b8).new 26 [.int .i64 0, .int .i64 0])
      simp only [List.cons_append, List.nil_append] at K9
      have R9 := Lib.hid (HB.out.below K9.out.bel)
      clear b8 K8 R8
      generalize v8.heap.size = g8 at *
      generalize v8.alloc (.cells #[.int .i64 0, .int .i64 0] 26) = V8 at *
      go_upto_region 14 with (first | (go_at_call 11; refine (CLe.out _ R9.out).mono ?_; rintro e v9 ⟨rfl, b9⟩) | fail)
      have K10 := Lib.hid ((K9.out.below b9).new 26 [.int .i64 0, .int .i64 0])
      simp only [List.cons_append, List.nil_append] at K10
      clear b9 K9 R9
      generalize v9.heap.size = g9 at *
      generalize v9.alloc (.cells #[.int .i64 0, .int .i64 0] 26) = V9 at *
      go_upto_region 15 with (first | (go_at_call 19; with_reducible refine (CB.out _).mono ?_; rintro e v10 ⟨rfl, b10⟩) | (go_at_call 19; with_reducible refine (CW.out _).mono ?_; rintro e v11 ⟨rfl, b11⟩) | (go_at_call 18; refine (CA.out _).mono ?_; rintro e v12 ⟨rfl, b12⟩) | fail)
      have K9 := Lib.hid ((((K10.out.below b10).below b11).below b12).new 42 [.int .u64 mx, .int .u64 my])
      simp only [List.cons_append, List.nil_append] at K9
      clear b10 b11 b12 K10
      generalize v12.heap.size = g12 at *
      generalize v12.alloc (.cells #[.int .u64 (mx : Int), .int .u64 (my : Int)] 42) = V12 at *
      cases ov with
      | true =>
        refine wp_region_par (w := w) [.quiet (.bool true), .quiet (.bool true), .quiet (.agg #[.int .i64 0, .int .i64 0]), .quiet (.agg #[.int .i64 0, .int .i64 0]), .quiet (.bool true), .quiet (.bool true), .quiet (.bool true), .quiet (.agg #[.int .i64 0, .int .i64 0]), .quiet (.agg #[.int .i64 0, .int .i64 0]), .quiet (.bool true), .quiet (.bool true), .quiet (.bool true), .quiet (.agg #[.int .i64 0, .int .i64 0]), .quiet (.agg #[.int .i64 0, .int .i64 0]), .quiet (.bool true), .quiet (.bool true), .quiet (.bool true), .quiet (.agg #[.int .i64 0, .int .i64 0]), .quiet (.agg #[.int .i64 0, .int .i64 0]), .quiet (.bool true), .quiet (.bool true), .quiet (.bool true), .quiet (.int .i64 (p1 : Int)), .quiet (.int .i64 (p0 : Int)), .quiet (.bool true), .quiet (.bool true), .quiet (.bool true), .quiet (.int .i64 (p2 : Int)), .quiet (.int .i64 (p2 : Int)), .quiet (.bool true), .quiet (.bool true), .quiet (.bool true), .quiet (.int .i64 (p0 : Int)), .quiet (.bool true), .quiet (.bool true), .quiet (.bool true), .quiet (.bool true), .quiet (.bool true), .quiet undef, .quiet undef, .quiet undef, .quiet undef, .quiet undef, .quiet undef, .quiet (.bool true), .quiet (.bool true), .quiet (.bool true)] [(39, w.heap.size, [.int .u64 (w0 : Nat), .int .u64 (w1 : Nat)]), (26, g4, [.int .i64 0, .int .i64 0]), (26, g5, [.int .i64 0, .int .i64 0]), (26, g6, [.int .i64 0, .int .i64 0]), (26, g7, [.int .i64 0, .int .i64 0]), (26, g8, [.int .i64 0, .int .i64 0]), (26, g9, [.int .i64 0, .int .i64 0]), (42, g12, [.int .u64 mx, .int .u64 my])] (by kernel_rfl) (by kernel_rfl) K9.out.drew (fun bk0 => ?_) ?_
        · clear K9
          refine pWalk_quiet rfl (fun E W hw' => quietAt_call (f := 10) (args := #[]) (by simp [go_sem]) ((CV.out W).mono fun e w'' h => ⟨h.1, hw'.below h.2⟩)) ?_
          simp only [Act.put, List.setIfInBounds_toArray, List.set_cons_zero, List.set_cons_succ]
          refine pWalk_quiet rfl (fun E W hw' => quietAt_run (by simp [go_sem])) ?_
          simp only [Act.put, List.setIfInBounds_toArray, List.set_cons_zero, List.set_cons_succ]
          refine pWalk_quiet rfl (fun E W hw' => quietAt_part (off := 0) (n := 2) (vs := [.int .i64 0, .int .i64 0]) rfl rfl tyfault (hw'.at 3 rfl) rfl rfl) ?_
          simp only [Act.put, List.setIfInBounds_toArray, List.set_cons_zero, List.set_cons_succ]
          refine pWalk_quiet rfl (fun E W hw' => quietAt_run (by simp [go_sem])) ?_
          simp only [Act.put, List.setIfInBounds_toArray, List.set_cons_zero, List.set_cons_succ]
          refine pWalk_quiet rfl (fun E W hw' => quietAt_eql rfl rfl rfl guard_fault E0) ?_
          simp only [Act.put, List.setIfInBounds_toArray, List.set_cons_zero, List.set_cons_succ]
          refine pWalk_quiet rfl (fun E W hw' => quietAt_run (by simp [go_sem])) ?_
          simp only [Act.put, List.setIfInBounds_toArray, List.set_cons_zero, List.set_cons_succ]
          refine pWalk_quiet rfl (fun E W hw' => quietAt_run (by simp [go_sem])) ?_
          simp only [Act.put, List.setIfInBounds_toArray, List.set_cons_zero, List.set_cons_succ]
          refine pWalk_quiet rfl (fun E W hw' => quietAt_part (off := 0) (n := 2) (vs := [.int .i64 0, .int .i64 0]) rfl rfl tyfault (hw'.at 4 rfl) rfl rfl) ?_
          simp only [Act.put, List.setIfInBounds_toArray, List.set_cons_zero, List.set_cons_succ]
          refine pWalk_quiet rfl (fun E W hw' => quietAt_run (by simp [go_sem])) ?_
          simp only [Act.put, List.setIfInBounds_toArray, List.set_cons_zero, List.set_cons_succ]
          refine pWalk_quiet rfl (fun E W hw' => quietAt_eql rfl rfl rfl guard_fault E0) ?_
          simp only [Act.put, List.setIfInBounds_toArray, List.set_cons_zero, List.set_cons_succ]
          refine pWalk_quiet rfl (fun E W hw' => quietAt_run (by simp [go_sem])) ?_
          simp only [Act.put, List.setIfInBounds_toArray, List.set_cons_zero, List.set_cons_succ]
          refine pWalk_quiet rfl (fun E W hw' => quietAt_run (by simp [go_sem])) ?_
          simp only [Act.put, List.setIfInBounds_toArray, List.set_cons_zero, List.set_cons_succ]
          refine pWalk_quiet rfl (fun E W hw' => quietAt_part (off := 0) (n := 2) (vs := [.int .i64 0, .int .i64 0]) rfl rfl tyfault (hw'.at 5 rfl) rfl rfl) ?_
          simp only [Act.put, List.setIfInBounds_toArray, List.set_cons_zero, List.set_cons_succ]
          refine pWalk_quiet rfl (fun E W hw' => quietAt_run (by simp [go_sem])) ?_
          simp only [Act.put, List.setIfInBounds_toArray, List.set_cons_zero, List.set_cons_succ]
          refine pWalk_quiet rfl (fun E W hw' => quietAt_eql rfl rfl rfl guard_fault E0) ?_
          simp only [Act.put, List.setIfInBounds_toArray, List.set_cons_zero, List.set_cons_succ]
          refine pWalk_quiet rfl (fun E W hw' => quietAt_run (by simp [go_sem])) ?_
          simp only [Act.put, List.setIfInBounds_toArray, List.set_cons_zero, List.set_cons_succ]
          refine pWalk_quiet rfl (fun E W hw' => quietAt_run (by simp [go_sem])) ?_
          simp only [Act.put, List.setIfInBounds_toArray, List.set_cons_zero, List.set_cons_succ]
          refine pWalk_quiet rfl (fun E W hw' => quietAt_part (off := 0) (n := 2) (vs := [.int .i64 0, .int .i64 0]) rfl rfl tyfault (hw'.at 6 rfl) rfl rfl) ?_
          simp only [Act.put, List.setIfInBounds_toArray, List.set_cons_zero, List.set_cons_succ]
          refine pWalk_quiet rfl (fun E W hw' => quietAt_run (by simp [go_sem])) ?_
          simp only [Act.put, List.setIfInBounds_toArray, List.set_cons_zero, List.set_cons_succ]
          refine pWalk_quiet rfl (fun E W hw' => quietAt_eql rfl rfl rfl guard_fault E0) ?_
          simp only [Act.put, List.setIfInBounds_toArray, List.set_cons_zero, List.set_cons_succ]
          refine pWalk_quiet rfl (fun E W hw' => quietAt_run (by simp [go_sem])) ?_
          simp only [Act.put, List.setIfInBounds_toArray, List.set_cons_zero, List.set_cons_succ]
          refine pWalk_quiet rfl (fun E W hw' => quietAt_run (by simp [go_sem])) ?_
          simp only [Act.put, List.setIfInBounds_toArray, List.set_cons_zero, List.set_cons_succ]
          refine pWalk_quiet rfl (fun E W hw' => quietAt_run (by simp [go_sem])) ?_
          simp only [Act.put, List.setIfInBounds_toArray, List.set_cons_zero, List.set_cons_succ]
          refine pWalk_quiet rfl (fun E W hw' => quietAt_run (by simp [go_sem])) ?_
          simp only [Act.put, List.setIfInBounds_toArray, List.set_cons_zero, List.set_cons_succ]
          refine pWalk_quiet rfl (fun E W hw' => quietAt_run (by simp [go_sem, HI1.out])) ?_
          simp only [Act.put, List.setIfInBounds_toArray, List.set_cons_zero, List.set_cons_succ]
          refine pWalk_quiet rfl (fun E W hw' => quietAt_run (by simp [go_sem])) ?_
          simp only [Act.put, List.setIfInBounds_toArray, List.set_cons_zero, List.set_cons_succ]
          refine pWalk_quiet rfl (fun E W hw' => quietAt_run (by simp [go_sem])) ?_
          simp only [Act.put, List.setIfInBounds_toArray, List.set_cons_zero, List.set_cons_succ]
          refine pWalk_quiet rfl (fun E W hw' => quietAt_run (by simp [go_sem])) ?_
          simp only [Act.put, List.setIfInBounds_toArray, List.set_cons_zero, List.set_cons_succ]
          refine pWalk_quiet rfl (fun E W hw' => quietAt_run (by simp [go_sem])) ?_
          simp only [Act.put, List.setIfInBounds_toArray, List.set_cons_zero, List.set_cons_succ]
          refine pWalk_quiet rfl (fun E W hw' => quietAt_run (by simp [go_sem])) ?_
          simp only [Act.put, List.setIfInBounds_toArray, List.set_cons_zero, List.set_cons_succ]
          refine pWalk_quiet rfl (fun E W hw' => quietAt_run (by simp [go_sem])) ?_
          simp only [Act.put, List.setIfInBounds_toArray, List.set_cons_zero, List.set_cons_succ]
          refine pWalk_quiet rfl (fun E W hw' => quietAt_run (by simp [go_sem])) ?_
          simp only [Act.put, List.setIfInBounds_toArray, List.set_cons_zero, List.set_cons_succ]
          refine pWalk_quiet rfl (fun E W hw' => quietAt_run (by simp [go_sem])) ?_
          simp only [Act.put, List.setIfInBounds_toArray, List.set_cons_zero, List.set_cons_succ]
          refine pWalk_quiet rfl (fun E W hw' => quietAt_run (by simp [go_sem])) ?_
          simp only [Act.put, List.setIfInBounds_toArray, List.set_cons_zero, List.set_cons_succ]
          refine pWalk_quiet rfl (fun E W hw' => quietAt_run (by simp [go_sem])) ?_
          simp only [Act.put, List.setIfInBounds_toArray, List.set_cons_zero, List.set_cons_succ]
          refine pWalk_quiet rfl (fun E W hw' => quietAt_run (by simp [go_sem])) ?_
          simp only [Act.put, List.setIfInBounds_toArray, List.set_cons_zero, List.set_cons_succ]
          refine pWalk_quiet rfl (fun E W hw' => quietAt_run (by simp [go_sem])) ?_
          simp only [Act.put, List.setIfInBounds_toArray, List.set_cons_zero, List.set_cons_succ]
          refine pWalk_quiet rfl (fun E W hw' => quietAt_run (by simp [go_sem])) ?_
          simp only [Act.put, List.setIfInBounds_toArray, List.set_cons_zero, List.set_cons_succ]
          refine pWalk_skip rfl ?_
          simp only [Act.put, List.setIfInBounds_toArray, List.set_cons_zero, List.set_cons_succ]
          refine pWalk_skip rfl ?_
          simp only [Act.put, List.setIfInBounds_toArray, List.set_cons_zero, List.set_cons_succ]
          refine pWalk_skip rfl ?_
          simp only [Act.put, List.setIfInBounds_toArray, List.set_cons_zero, List.set_cons_succ]
          refine pWalk_skip rfl ?_
          simp only [Act.put, List.setIfInBounds_toArray, List.set_cons_zero, List.set_cons_succ]
          refine pWalk_skip rfl ?_
          simp only [Act.put, List.setIfInBounds_toArray, List.set_cons_zero, List.set_cons_succ]
          refine pWalk_skip rfl ?_
          simp only [Act.put, List.setIfInBounds_toArray, List.set_cons_zero, List.set_cons_succ]
          refine pWalk_quiet rfl (fun E W hw' => quietAt_run (by simp [go_sem])) ?_
          simp only [Act.put, List.setIfInBounds_toArray, List.set_cons_zero, List.set_cons_succ]
          refine pWalk_quiet rfl (fun E W hw' => quietAt_run (by simp [go_sem])) ?_
          simp only [Act.put, List.setIfInBounds_toArray, List.set_cons_zero, List.set_cons_succ]
          refine pWalk_quiet rfl (fun E W hw' => quietAt_run (by simp [go_sem])) ?_
          simp only [Act.put, List.setIfInBounds_toArray, List.set_cons_zero, List.set_cons_succ]
          trivial
        intro bk κ E W15 hK hB
        have B15 := Lib.hid hK.bel
        clear hK hB K9
        simp only [List.length_cons, List.length_nil, lexAct, pval, toK, List.map_cons, List.map_nil, List.getElem?_cons_zero, List.getElem?_cons_succ, Option.bind_some, Act.put, List.setIfInBounds_toArray, List.set_cons_zero, List.set_cons_succ]
        go_wp2_with fail
        go_ret
        exact ⟨rfl, B15.out⟩
      | false =>
        have CL := Lib.hid (CL0.out rfl)
        refine wp_region_par (w := w) [.quiet (.bool true), .quiet (.bool true), .quiet (.agg #[.int .i64 0, .int .i64 0]), .quiet (.agg #[.int .i64 0, .int .i64 0]), .quiet (.bool true), .quiet (.bool true), .quiet (.bool true), .quiet (.agg #[.int .i64 0, .int .i64 0]), .quiet (.agg #[.int .i64 0, .int .i64 0]), .quiet (.bool true), .quiet (.bool true), .quiet (.bool true), .quiet (.agg #[.int .i64 0, .int .i64 0]), .quiet (.agg #[.int .i64 0, .int .i64 0]), .quiet (.bool true), .quiet (.bool true), .quiet (.bool true), .quiet (.agg #[.int .i64 0, .int .i64 0]), .quiet (.agg #[.int .i64 0, .int .i64 0]), .quiet (.bool true), .quiet (.bool true), .quiet (.bool true), .quiet (.int .i64 (p1 : Int)), .quiet (.int .i64 (p0 : Int)), .quiet (.bool true), .quiet (.bool true), .quiet (.bool true), .quiet (.int .i64 (p2 : Int)), .quiet (.int .i64 (p2 : Int)), .quiet (.bool true), .quiet (.bool true), .quiet (.bool true), .quiet (.int .i64 (p0 : Int)), .quiet (.bool true), .quiet (.bool true), .quiet (.bool true), .quiet (.bool false), .quiet (.bool false), .quiet (.agg #[.int .u64 mx, .int .u64 my]), .quiet (.int .i64 (p0 : Int)), .quiet (.int .u64 (p0 : Int)), .quiet (.agg #[.int .u64 nx, .int .u64 ny]), .quiet (.bool false), .quiet (.bool true), .quiet (.bool true), .quiet (.bool true), .quiet (.bool true)] [(39, w.heap.size, [.int .u64 (w0 : Nat), .int .u64 (w1 : Nat)]), (26, g4, [.int .i64 0, .int .i64 0]), (26, g5, [.int .i64 0, .int .i64 0]), (26, g6, [.int .i64 0, .int .i64 0]), (26, g7, [.int .i64 0, .int .i64 0]), (26, g8, [.int .i64 0, .int .i64 0]), (26, g9, [.int .i64 0, .int .i64 0]), (42, g12, [.int .u64 mx, .int .u64 my])] (by kernel_rfl) (by kernel_rfl) K9.out.drew (fun bk0 => ?_) ?_
        · clear K9
          refine pWalk_quiet rfl (fun E W hw' => quietAt_call (f := 10) (args := #[]) (by simp [go_sem]) ((CV.out W).mono fun e w'' h => ⟨h.1, hw'.below h.2⟩)) ?_
          simp only [Act.put, List.setIfInBounds_toArray, List.set_cons_zero, List.set_cons_succ]
          refine pWalk_quiet rfl (fun E W hw' => quietAt_run (by simp [go_sem])) ?_
          simp only [Act.put, List.setIfInBounds_toArray, List.set_cons_zero, List.set_cons_succ]
          refine pWalk_quiet rfl (fun E W hw' => quietAt_part (off := 0) (n := 2) (vs := [.int .i64 0, .int .i64 0]) rfl rfl tyfault (hw'.at 3 rfl) rfl rfl) ?_
          simp only [Act.put, List.setIfInBounds_toArray, List.set_cons_zero, List.set_cons_succ]
          refine pWalk_quiet rfl (fun E W hw' => quietAt_run (by simp [go_sem])) ?_
          simp only [Act.put, List.setIfInBounds_toArray, List.set_cons_zero, List.set_cons_succ]
          refine pWalk_quiet rfl (fun E W hw' => quietAt_eql rfl rfl rfl guard_fault E0) ?_
          simp only [Act.put, List.setIfInBounds_toArray, List.set_cons_zero, List.set_cons_succ]
          refine pWalk_quiet rfl (fun E W hw' => quietAt_run (by simp [go_sem])) ?_
          simp only [Act.put, List.setIfInBounds_toArray, List.set_cons_zero, List.set_cons_succ]
          refine pWalk_quiet rfl (fun E W hw' => quietAt_run (by simp [go_sem])) ?_
          simp only [Act.put, List.setIfInBounds_toArray, List.set_cons_zero, List.set_cons_succ]
          refine pWalk_quiet rfl (fun E W hw' => quietAt_part (off := 0) (n := 2) (vs := [.int .i64 0, .int .i64 0]) rfl rfl tyfault (hw'.at 4 rfl) rfl rfl) ?_
          simp only [Act.put, List.setIfInBounds_toArray, List.set_cons_zero, List.set_cons_succ]
          refine pWalk_quiet rfl (fun E W hw' => quietAt_run (by simp [go_sem])) ?_
          simp only [Act.put, List.setIfInBounds_toArray, List.set_cons_zero, List.set_cons_succ]
          refine pWalk_quiet rfl (fun E W hw' => quietAt_eql rfl rfl rfl guard_fault E0) ?_
          simp only [Act.put, List.setIfInBounds_toArray, List.set_cons_zero, List.set_cons_succ]
          refine pWalk_quiet rfl (fun E W hw' => quietAt_run (by simp [go_sem])) ?_
          simp only [Act.put, List.setIfInBounds_toArray, List.set_cons_zero, List.set_cons_succ]
          refine pWalk_quiet rfl (fun E W hw' => quietAt_run (by simp [go_sem])) ?_
          simp only [Act.put, List.setIfInBounds_toArray, List.set_cons_zero, List.set_cons_succ]
          refine pWalk_quiet rfl (fun E W hw' => quietAt_part (off := 0) (n := 2) (vs := [.int .i64 0, .int .i64 0]) rfl rfl tyfault (hw'.at 5 rfl) rfl rfl) ?_
          simp only [Act.put, List.setIfInBounds_toArray, List.set_cons_zero, List.set_cons_succ]
          refine pWalk_quiet rfl (fun E W hw' => quietAt_run (by simp [go_sem])) ?_
          simp only [Act.put, List.setIfInBounds_toArray, List.set_cons_zero, List.set_cons_succ]
          refine pWalk_quiet rfl (fun E W hw' => quietAt_eql rfl rfl rfl guard_fault E0) ?_
          simp only [Act.put, List.setIfInBounds_toArray, List.set_cons_zero, List.set_cons_succ]
          refine pWalk_quiet rfl (fun E W hw' => quietAt_run (by simp [go_sem])) ?_
          simp only [Act.put, List.setIfInBounds_toArray, List.set_cons_zero, List.set_cons_succ]
          refine pWalk_quiet rfl (fun E W hw' => quietAt_run (by simp [go_sem])) ?_
          simp only [Act.put, List.setIfInBounds_toArray, List.set_cons_zero, List.set_cons_succ]
          refine pWalk_quiet rfl (fun E W hw' => quietAt_part (off := 0) (n := 2) (vs := [.int .i64 0, .int .i64 0]) rfl rfl tyfault (hw'.at 6 rfl) rfl rfl) ?_
          simp only [Act.put, List.setIfInBounds_toArray, List.set_cons_zero, List.set_cons_succ]
          refine pWalk_quiet rfl (fun E W hw' => quietAt_run (by simp [go_sem])) ?_
          simp only [Act.put, List.setIfInBounds_toArray, List.set_cons_zero, List.set_cons_succ]
          refine pWalk_quiet rfl (fun E W hw' => quietAt_eql rfl rfl rfl guard_fault E0) ?_
          simp only [Act.put, List.setIfInBounds_toArray, List.set_cons_zero, List.set_cons_succ]
          refine pWalk_quiet rfl (fun E W hw' => quietAt_run (by simp [go_sem])) ?_
          simp only [Act.put, List.setIfInBounds_toArray, List.set_cons_zero, List.set_cons_succ]
          refine pWalk_quiet rfl (fun E W hw' => quietAt_run (by simp [go_sem])) ?_
          simp only [Act.put, List.setIfInBounds_toArray, List.set_cons_zero, List.set_cons_succ]
          refine pWalk_quiet rfl (fun E W hw' => quietAt_run (by simp [go_sem])) ?_
          simp only [Act.put, List.setIfInBounds_toArray, List.set_cons_zero, List.set_cons_succ]
          refine pWalk_quiet rfl (fun E W hw' => quietAt_run (by simp [go_sem])) ?_
          simp only [Act.put, List.setIfInBounds_toArray, List.set_cons_zero, List.set_cons_succ]
          refine pWalk_quiet rfl (fun E W hw' => quietAt_run (by simp [go_sem, HI1.out])) ?_
          simp only [Act.put, List.setIfInBounds_toArray, List.set_cons_zero, List.set_cons_succ]
          refine pWalk_quiet rfl (fun E W hw' => quietAt_run (by simp [go_sem])) ?_
          simp only [Act.put, List.setIfInBounds_toArray, List.set_cons_zero, List.set_cons_succ]
          refine pWalk_quiet rfl (fun E W hw' => quietAt_run (by simp [go_sem])) ?_
          simp only [Act.put, List.setIfInBounds_toArray, List.set_cons_zero, List.set_cons_succ]
          refine pWalk_quiet rfl (fun E W hw' => quietAt_run (by simp [go_sem])) ?_
          simp only [Act.put, List.setIfInBounds_toArray, List.set_cons_zero, List.set_cons_succ]
          refine pWalk_quiet rfl (fun E W hw' => quietAt_run (by simp [go_sem])) ?_
          simp only [Act.put, List.setIfInBounds_toArray, List.set_cons_zero, List.set_cons_succ]
          refine pWalk_quiet rfl (fun E W hw' => quietAt_run (by simp [go_sem])) ?_
          simp only [Act.put, List.setIfInBounds_toArray, List.set_cons_zero, List.set_cons_succ]
          refine pWalk_quiet rfl (fun E W hw' => quietAt_run (by simp [go_sem])) ?_
          simp only [Act.put, List.setIfInBounds_toArray, List.set_cons_zero, List.set_cons_succ]
          refine pWalk_quiet rfl (fun E W hw' => quietAt_run (by simp [go_sem])) ?_
          simp only [Act.put, List.setIfInBounds_toArray, List.set_cons_zero, List.set_cons_succ]
          refine pWalk_quiet rfl (fun E W hw' => quietAt_run (by simp [go_sem])) ?_
          simp only [Act.put, List.setIfInBounds_toArray, List.set_cons_zero, List.set_cons_succ]
          refine pWalk_quiet rfl (fun E W hw' => quietAt_run (by simp [go_sem])) ?_
          simp only [Act.put, List.setIfInBounds_toArray, List.set_cons_zero, List.set_cons_succ]
          refine pWalk_quiet rfl (fun E W hw' => quietAt_run (by simp [go_sem])) ?_
          simp only [Act.put, List.setIfInBounds_toArray, List.set_cons_zero, List.set_cons_succ]
          refine pWalk_quiet rfl (fun E W hw' => quietAt_run (by simp [go_sem])) ?_
          simp only [Act.put, List.setIfInBounds_toArray, List.set_cons_zero, List.set_cons_succ]
          refine pWalk_quiet rfl (fun E W hw' => quietAt_run (by simp [go_sem])) ?_
          simp only [Act.put, List.setIfInBounds_toArray, List.set_cons_zero, List.set_cons_succ]
          refine pWalk_quiet rfl (fun E W hw' => quietAt_run (by simp [go_sem])) ?_
          simp only [Act.put, List.setIfInBounds_toArray, List.set_cons_zero, List.set_cons_succ]
          refine pWalk_quiet rfl (fun E W hw' => quietAt_part (off := 0) (n := 2) (vs := [.int .u64 mx, .int .u64 my]) rfl rfl tywide2 (hw'.at 7 rfl) rfl rfl) ?_
          simp only [Act.put, List.setIfInBounds_toArray, List.set_cons_zero, List.set_cons_succ]
          refine pWalk_quiet rfl (fun E W hw' => quietAt_run (by simp [go_sem])) ?_
          simp only [Act.put, List.setIfInBounds_toArray, List.set_cons_zero, List.set_cons_succ]
          refine pWalk_quiet rfl (fun E W hw' => quietAt_run (by simp [go_sem, HP0.out])) ?_
          simp only [Act.put, List.setIfInBounds_toArray, List.set_cons_zero, List.set_cons_succ]
          refine pWalk_quiet rfl (fun E W hw' => quietAt_call (f := 19) (args := #[.int .u64 (p0 : Int), .int .u64 1000000000]) (by simp [go_sem]) ((CN.out W).mono fun e w'' h => ⟨h.1, hw'.below h.2⟩)) ?_
          simp only [Act.put, List.setIfInBounds_toArray, List.set_cons_zero, List.set_cons_succ]
          refine pWalk_quiet rfl (fun E W hw' => quietAt_call (f := 20) (args := #[.agg #[.int .u64 mx, .int .u64 my], .agg #[.int .u64 nx, .int .u64 ny]]) (by simp [go_sem]) ((CL.out W).mono fun e w'' h => ⟨h.1, hw'.below h.2⟩)) ?_
          simp only [Act.put, List.setIfInBounds_toArray, List.set_cons_zero, List.set_cons_succ]
          refine pWalk_quiet rfl (fun E W hw' => quietAt_run (by simp [go_sem])) ?_
          simp only [Act.put, List.setIfInBounds_toArray, List.set_cons_zero, List.set_cons_succ]
          refine pWalk_quiet rfl (fun E W hw' => quietAt_run (by simp [go_sem])) ?_
          simp only [Act.put, List.setIfInBounds_toArray, List.set_cons_zero, List.set_cons_succ]
          refine pWalk_quiet rfl (fun E W hw' => quietAt_run (by simp [go_sem])) ?_
          simp only [Act.put, List.setIfInBounds_toArray, List.set_cons_zero, List.set_cons_succ]
          refine pWalk_quiet rfl (fun E W hw' => quietAt_run (by simp [go_sem])) ?_
          simp only [Act.put, List.setIfInBounds_toArray, List.set_cons_zero, List.set_cons_succ]
          trivial
        intro bk κ E W15 hK hB
        have B15 := Lib.hid hK.bel
        clear hK hB K9
        simp only [List.length_cons, List.length_nil, lexAct, pval, toK, List.map_cons, List.map_nil, List.getElem?_cons_zero, List.getElem?_cons_succ, Option.bind_some, Act.put, List.setIfInBounds_toArray, List.set_cons_zero, List.set_cons_succ]
        go_wp2_with fail
        go_ret
        exact ⟨rfl, B15.out⟩
    · obtain rfl : k = 60 := by rw [hk]; omega
      have hni : (60 : Int) < (n : Int) := by omega
      have hci : (60 : Int) ≤ (cap : Int) := by omega
      clear hk h60 hn hcap hkc hk60
      go_upto_region 3 with fail
      have c0 := (K3.out.at 0 rfl).get 0
      have c1 := (K3.out.at 0 rfl).get 1
      simp at c0 c1
      go_quiet (fail)
      have K3d := Lib.hid (K3.out.drewN nq)
      have R3d := Lib.hid (HB.out.below K3d.out.bel)
      clear c0 c1 K3 R3
      simp only [HLO.out, HHI.out]
      generalize (w.alloc (.cells #[.int .u64 (w0 : Int), .int .u64 (w1 : Int)] 39)).drewN nq = V0 at *
      have K4 := K3d
      have R4 := R3d
      clear K3d R3d
      go_upto_region 5 with (first | (go_at_call 16; refine (CPl.out _ R4.out).mono ?_; rintro e v4 ⟨rfl, b4⟩) | fail)
      have K5 := Lib.hid ((K4.out.below b4).new 26 [.int .i64 0, .int .i64 0])
      simp only [List.cons_append, List.nil_append] at K5
      have R5 := Lib.hid (HB.out.below K5.out.bel)
      clear b4 K4 R4
      generalize v4.heap.size = g4 at *
      generalize v4.alloc (.cells #[.int .i64 0, .int .i64 0] 26) = V4 at *
      go_upto_region 6 with (first | (go_at_call 17; refine (CRl.out _ R5.out).mono ?_; rintro e v5 ⟨rfl, b5⟩) | fail)
      have K6 := Lib.hid ((K5.out.below b5).new 26 [.int .i64 0, .int .i64 0])
      simp only [List.cons_append, List.nil_append] at K6
      have R6 := Lib.hid (HB.out.below K6.out.bel)
      clear b5 K5 R5
      generalize v5.heap.size = g5 at *
      generalize v5.alloc (.cells #[.int .i64 0, .int .i64 0] 26) = V5 at *
      have s0 := (K6.out.at 1 rfl).get 0
      have s1 := (K6.out.at 1 rfl).get 1
      have s2 := (K6.out.at 2 rfl).get 0
      have s3 := (K6.out.at 2 rfl).get 1
      simp at s0 s1 s2 s3
      go_upto_region 11 with (first | (go_at_call 16; refine (CPh.out _ R6.out).mono ?_; rintro e v6 ⟨rfl, b6⟩) | fail)
      have K7 := Lib.hid ((K6.out.below b6).new 26 [.int .i64 0, .int .i64 0])
      simp only [List.cons_append, List.nil_append] at K7
      have R7 := Lib.hid (HB.out.below K7.out.bel)
      clear b6 K6 R6
      generalize v6.heap.size = g6 at *
      generalize v6.alloc (.cells #[.int .i64 0, .int .i64 0] 26) = V6 at *
      clear s0 s1 s2 s3
      go_upto_region 12 with (first | (go_at_call 16; refine (CPm.out _ R7.out).mono ?_; rintro e v7 ⟨rfl, b7⟩) | fail)
      have K8 := Lib.hid ((K7.out.below b7).new 26 [.int .i64 0, .int .i64 0])
      simp only [List.cons_append, List.nil_append] at K8
      have R8 := Lib.hid (HB.out.below K8.out.bel)
      clear b7 K7 R7
      generalize v7.heap.size = g7 at *
      generalize v7.alloc (.cells #[.int .i64 0, .int .i64 0] 26) = V7 at *
      go_upto_region 13 with (first | (go_at_call 8; refine (CTo.out _ R8.out).mono ?_; rintro e v8 ⟨rfl, b8⟩) | fail)
      have K9 := Lib.hid ((K8.out.below b8).new 26 [.int .i64 0, .int .i64 0])
      simp only [List.cons_append, List.nil_append] at K9
      have R9 := Lib.hid (HB.out.below K9.out.bel)
      clear b8 K8 R8
      generalize v8.heap.size = g8 at *
      generalize v8.alloc (.cells #[.int .i64 0, .int .i64 0] 26) = V8 at *
      go_upto_region 14 with (first | (go_at_call 11; refine (CLe.out _ R9.out).mono ?_; rintro e v9 ⟨rfl, b9⟩) | fail)
      have K10 := Lib.hid ((K9.out.below b9).new 26 [.int .i64 0, .int .i64 0])
      simp only [List.cons_append, List.nil_append] at K10
      clear b9 K9 R9
      generalize v9.heap.size = g9 at *
      generalize v9.alloc (.cells #[.int .i64 0, .int .i64 0] 26) = V9 at *
      go_upto_region 15 with (first | (go_at_call 19; with_reducible refine (CB.out _).mono ?_; rintro e v10 ⟨rfl, b10⟩) | (go_at_call 19; with_reducible refine (CW.out _).mono ?_; rintro e v11 ⟨rfl, b11⟩) | (go_at_call 18; refine (CA.out _).mono ?_; rintro e v12 ⟨rfl, b12⟩) | fail)
      have K9 := Lib.hid ((((K10.out.below b10).below b11).below b12).new 42 [.int .u64 mx, .int .u64 my])
      simp only [List.cons_append, List.nil_append] at K9
      clear b10 b11 b12 K10
      generalize v12.heap.size = g12 at *
      generalize v12.alloc (.cells #[.int .u64 (mx : Int), .int .u64 (my : Int)] 42) = V12 at *
      cases ov with
      | true =>
        refine wp_region_par (w := w) [.quiet (.bool true), .quiet (.bool true), .quiet (.agg #[.int .i64 0, .int .i64 0]), .quiet (.agg #[.int .i64 0, .int .i64 0]), .quiet (.bool true), .quiet (.bool true), .quiet (.bool true), .quiet (.agg #[.int .i64 0, .int .i64 0]), .quiet (.agg #[.int .i64 0, .int .i64 0]), .quiet (.bool true), .quiet (.bool true), .quiet (.bool true), .quiet (.agg #[.int .i64 0, .int .i64 0]), .quiet (.agg #[.int .i64 0, .int .i64 0]), .quiet (.bool true), .quiet (.bool true), .quiet (.bool true), .quiet (.agg #[.int .i64 0, .int .i64 0]), .quiet (.agg #[.int .i64 0, .int .i64 0]), .quiet (.bool true), .quiet (.bool true), .quiet (.bool true), .quiet (.int .i64 (p1 : Int)), .quiet (.int .i64 (p0 : Int)), .quiet (.bool true), .quiet (.bool true), .quiet (.bool true), .quiet (.int .i64 (p2 : Int)), .quiet (.int .i64 (p2 : Int)), .quiet (.bool true), .quiet (.bool true), .quiet (.bool true), .quiet (.int .i64 (p0 : Int)), .quiet (.bool true), .quiet (.bool true), .quiet (.bool true), .quiet (.bool true), .quiet (.bool true), .quiet undef, .quiet undef, .quiet undef, .quiet undef, .quiet undef, .quiet undef, .quiet (.bool true), .quiet (.bool true), .quiet (.bool true)] [(39, w.heap.size, [.int .u64 (w0 : Nat), .int .u64 (w1 : Nat)]), (26, g4, [.int .i64 0, .int .i64 0]), (26, g5, [.int .i64 0, .int .i64 0]), (26, g6, [.int .i64 0, .int .i64 0]), (26, g7, [.int .i64 0, .int .i64 0]), (26, g8, [.int .i64 0, .int .i64 0]), (26, g9, [.int .i64 0, .int .i64 0]), (42, g12, [.int .u64 mx, .int .u64 my])] (by kernel_rfl) (by kernel_rfl) K9.out.drew (fun bk0 => ?_) ?_
        · clear K9
          refine pWalk_quiet rfl (fun E W hw' => quietAt_call (f := 10) (args := #[]) (by simp [go_sem]) ((CV.out W).mono fun e w'' h => ⟨h.1, hw'.below h.2⟩)) ?_
          simp only [Act.put, List.setIfInBounds_toArray, List.set_cons_zero, List.set_cons_succ]
          refine pWalk_quiet rfl (fun E W hw' => quietAt_run (by simp [go_sem])) ?_
          simp only [Act.put, List.setIfInBounds_toArray, List.set_cons_zero, List.set_cons_succ]
          refine pWalk_quiet rfl (fun E W hw' => quietAt_part (off := 0) (n := 2) (vs := [.int .i64 0, .int .i64 0]) rfl rfl tyfault (hw'.at 3 rfl) rfl rfl) ?_
          simp only [Act.put, List.setIfInBounds_toArray, List.set_cons_zero, List.set_cons_succ]
          refine pWalk_quiet rfl (fun E W hw' => quietAt_run (by simp [go_sem])) ?_
          simp only [Act.put, List.setIfInBounds_toArray, List.set_cons_zero, List.set_cons_succ]
          refine pWalk_quiet rfl (fun E W hw' => quietAt_eql rfl rfl rfl guard_fault E0) ?_
          simp only [Act.put, List.setIfInBounds_toArray, List.set_cons_zero, List.set_cons_succ]
          refine pWalk_quiet rfl (fun E W hw' => quietAt_run (by simp [go_sem])) ?_
          simp only [Act.put, List.setIfInBounds_toArray, List.set_cons_zero, List.set_cons_succ]
          refine pWalk_quiet rfl (fun E W hw' => quietAt_run (by simp [go_sem])) ?_
          simp only [Act.put, List.setIfInBounds_toArray, List.set_cons_zero, List.set_cons_succ]
          refine pWalk_quiet rfl (fun E W hw' => quietAt_part (off := 0) (n := 2) (vs := [.int .i64 0, .int .i64 0]) rfl rfl tyfault (hw'.at 4 rfl) rfl rfl) ?_
          simp only [Act.put, List.setIfInBounds_toArray, List.set_cons_zero, List.set_cons_succ]
          refine pWalk_quiet rfl (fun E W hw' => quietAt_run (by simp [go_sem])) ?_
          simp only [Act.put, List.setIfInBounds_toArray, List.set_cons_zero, List.set_cons_succ]
          refine pWalk_quiet rfl (fun E W hw' => quietAt_eql rfl rfl rfl guard_fault E0) ?_
          simp only [Act.put, List.setIfInBounds_toArray, List.set_cons_zero, List.set_cons_succ]
          refine pWalk_quiet rfl (fun E W hw' => quietAt_run (by simp [go_sem])) ?_
          simp only [Act.put, List.setIfInBounds_toArray, List.set_cons_zero, List.set_cons_succ]
          refine pWalk_quiet rfl (fun E W hw' => quietAt_run (by simp [go_sem])) ?_
          simp only [Act.put, List.setIfInBounds_toArray, List.set_cons_zero, List.set_cons_succ]
          refine pWalk_quiet rfl (fun E W hw' => quietAt_part (off := 0) (n := 2) (vs := [.int .i64 0, .int .i64 0]) rfl rfl tyfault (hw'.at 5 rfl) rfl rfl) ?_
          simp only [Act.put, List.setIfInBounds_toArray, List.set_cons_zero, List.set_cons_succ]
          refine pWalk_quiet rfl (fun E W hw' => quietAt_run (by simp [go_sem])) ?_
          simp only [Act.put, List.setIfInBounds_toArray, List.set_cons_zero, List.set_cons_succ]
          refine pWalk_quiet rfl (fun E W hw' => quietAt_eql rfl rfl rfl guard_fault E0) ?_
          simp only [Act.put, List.setIfInBounds_toArray, List.set_cons_zero, List.set_cons_succ]
          refine pWalk_quiet rfl (fun E W hw' => quietAt_run (by simp [go_sem])) ?_
          simp only [Act.put, List.setIfInBounds_toArray, List.set_cons_zero, List.set_cons_succ]
          refine pWalk_quiet rfl (fun E W hw' => quietAt_run (by simp [go_sem])) ?_
          simp only [Act.put, List.setIfInBounds_toArray, List.set_cons_zero, List.set_cons_succ]
          refine pWalk_quiet rfl (fun E W hw' => quietAt_part (off := 0) (n := 2) (vs := [.int .i64 0, .int .i64 0]) rfl rfl tyfault (hw'.at 6 rfl) rfl rfl) ?_
          simp only [Act.put, List.setIfInBounds_toArray, List.set_cons_zero, List.set_cons_succ]
          refine pWalk_quiet rfl (fun E W hw' => quietAt_run (by simp [go_sem])) ?_
          simp only [Act.put, List.setIfInBounds_toArray, List.set_cons_zero, List.set_cons_succ]
          refine pWalk_quiet rfl (fun E W hw' => quietAt_eql rfl rfl rfl guard_fault E0) ?_
          simp only [Act.put, List.setIfInBounds_toArray, List.set_cons_zero, List.set_cons_succ]
          refine pWalk_quiet rfl (fun E W hw' => quietAt_run (by simp [go_sem])) ?_
          simp only [Act.put, List.setIfInBounds_toArray, List.set_cons_zero, List.set_cons_succ]
          refine pWalk_quiet rfl (fun E W hw' => quietAt_run (by simp [go_sem])) ?_
          simp only [Act.put, List.setIfInBounds_toArray, List.set_cons_zero, List.set_cons_succ]
          refine pWalk_quiet rfl (fun E W hw' => quietAt_run (by simp [go_sem])) ?_
          simp only [Act.put, List.setIfInBounds_toArray, List.set_cons_zero, List.set_cons_succ]
          refine pWalk_quiet rfl (fun E W hw' => quietAt_run (by simp [go_sem])) ?_
          simp only [Act.put, List.setIfInBounds_toArray, List.set_cons_zero, List.set_cons_succ]
          refine pWalk_quiet rfl (fun E W hw' => quietAt_run (by simp [go_sem, HI1.out])) ?_
          simp only [Act.put, List.setIfInBounds_toArray, List.set_cons_zero, List.set_cons_succ]
          refine pWalk_quiet rfl (fun E W hw' => quietAt_run (by simp [go_sem])) ?_
          simp only [Act.put, List.setIfInBounds_toArray, List.set_cons_zero, List.set_cons_succ]
          refine pWalk_quiet rfl (fun E W hw' => quietAt_run (by simp [go_sem])) ?_
          simp only [Act.put, List.setIfInBounds_toArray, List.set_cons_zero, List.set_cons_succ]
          refine pWalk_quiet rfl (fun E W hw' => quietAt_run (by simp [go_sem])) ?_
          simp only [Act.put, List.setIfInBounds_toArray, List.set_cons_zero, List.set_cons_succ]
          refine pWalk_quiet rfl (fun E W hw' => quietAt_run (by simp [go_sem])) ?_
          simp only [Act.put, List.setIfInBounds_toArray, List.set_cons_zero, List.set_cons_succ]
          refine pWalk_quiet rfl (fun E W hw' => quietAt_run (by simp [go_sem])) ?_
          simp only [Act.put, List.setIfInBounds_toArray, List.set_cons_zero, List.set_cons_succ]
          refine pWalk_quiet rfl (fun E W hw' => quietAt_run (by simp [go_sem])) ?_
          simp only [Act.put, List.setIfInBounds_toArray, List.set_cons_zero, List.set_cons_succ]
          refine pWalk_quiet rfl (fun E W hw' => quietAt_run (by simp [go_sem])) ?_
          simp only [Act.put, List.setIfInBounds_toArray, List.set_cons_zero, List.set_cons_succ]
          refine pWalk_quiet rfl (fun E W hw' => quietAt_run (by simp [go_sem])) ?_
          simp only [Act.put, List.setIfInBounds_toArray, List.set_cons_zero, List.set_cons_succ]
          refine pWalk_quiet rfl (fun E W hw' => quietAt_run (by simp [go_sem])) ?_
          simp only [Act.put, List.setIfInBounds_toArray, List.set_cons_zero, List.set_cons_succ]
          refine pWalk_quiet rfl (fun E W hw' => quietAt_run (by simp [go_sem])) ?_
          simp only [Act.put, List.setIfInBounds_toArray, List.set_cons_zero, List.set_cons_succ]
          refine pWalk_quiet rfl (fun E W hw' => quietAt_run (by simp [go_sem])) ?_
          simp only [Act.put, List.setIfInBounds_toArray, List.set_cons_zero, List.set_cons_succ]
          refine pWalk_quiet rfl (fun E W hw' => quietAt_run (by simp [go_sem])) ?_
          simp only [Act.put, List.setIfInBounds_toArray, List.set_cons_zero, List.set_cons_succ]
          refine pWalk_quiet rfl (fun E W hw' => quietAt_run (by simp [go_sem])) ?_
          simp only [Act.put, List.setIfInBounds_toArray, List.set_cons_zero, List.set_cons_succ]
          refine pWalk_skip rfl ?_
          simp only [Act.put, List.setIfInBounds_toArray, List.set_cons_zero, List.set_cons_succ]
          refine pWalk_skip rfl ?_
          simp only [Act.put, List.setIfInBounds_toArray, List.set_cons_zero, List.set_cons_succ]
          refine pWalk_skip rfl ?_
          simp only [Act.put, List.setIfInBounds_toArray, List.set_cons_zero, List.set_cons_succ]
          refine pWalk_skip rfl ?_
          simp only [Act.put, List.setIfInBounds_toArray, List.set_cons_zero, List.set_cons_succ]
          refine pWalk_skip rfl ?_
          simp only [Act.put, List.setIfInBounds_toArray, List.set_cons_zero, List.set_cons_succ]
          refine pWalk_skip rfl ?_
          simp only [Act.put, List.setIfInBounds_toArray, List.set_cons_zero, List.set_cons_succ]
          refine pWalk_quiet rfl (fun E W hw' => quietAt_run (by simp [go_sem])) ?_
          simp only [Act.put, List.setIfInBounds_toArray, List.set_cons_zero, List.set_cons_succ]
          refine pWalk_quiet rfl (fun E W hw' => quietAt_run (by simp [go_sem])) ?_
          simp only [Act.put, List.setIfInBounds_toArray, List.set_cons_zero, List.set_cons_succ]
          refine pWalk_quiet rfl (fun E W hw' => quietAt_run (by simp [go_sem])) ?_
          simp only [Act.put, List.setIfInBounds_toArray, List.set_cons_zero, List.set_cons_succ]
          trivial
        intro bk κ E W15 hK hB
        have B15 := Lib.hid hK.bel
        clear hK hB K9
        simp only [List.length_cons, List.length_nil, lexAct, pval, toK, List.map_cons, List.map_nil, List.getElem?_cons_zero, List.getElem?_cons_succ, Option.bind_some, Act.put, List.setIfInBounds_toArray, List.set_cons_zero, List.set_cons_succ]
        go_wp2_with fail
        go_ret
        exact ⟨rfl, B15.out⟩
      | false =>
        have CL := Lib.hid (CL0.out rfl)
        refine wp_region_par (w := w) [.quiet (.bool true), .quiet (.bool true), .quiet (.agg #[.int .i64 0, .int .i64 0]), .quiet (.agg #[.int .i64 0, .int .i64 0]), .quiet (.bool true), .quiet (.bool true), .quiet (.bool true), .quiet (.agg #[.int .i64 0, .int .i64 0]), .quiet (.agg #[.int .i64 0, .int .i64 0]), .quiet (.bool true), .quiet (.bool true), .quiet (.bool true), .quiet (.agg #[.int .i64 0, .int .i64 0]), .quiet (.agg #[.int .i64 0, .int .i64 0]), .quiet (.bool true), .quiet (.bool true), .quiet (.bool true), .quiet (.agg #[.int .i64 0, .int .i64 0]), .quiet (.agg #[.int .i64 0, .int .i64 0]), .quiet (.bool true), .quiet (.bool true), .quiet (.bool true), .quiet (.int .i64 (p1 : Int)), .quiet (.int .i64 (p0 : Int)), .quiet (.bool true), .quiet (.bool true), .quiet (.bool true), .quiet (.int .i64 (p2 : Int)), .quiet (.int .i64 (p2 : Int)), .quiet (.bool true), .quiet (.bool true), .quiet (.bool true), .quiet (.int .i64 (p0 : Int)), .quiet (.bool true), .quiet (.bool true), .quiet (.bool true), .quiet (.bool false), .quiet (.bool false), .quiet (.agg #[.int .u64 mx, .int .u64 my]), .quiet (.int .i64 (p0 : Int)), .quiet (.int .u64 (p0 : Int)), .quiet (.agg #[.int .u64 nx, .int .u64 ny]), .quiet (.bool false), .quiet (.bool true), .quiet (.bool true), .quiet (.bool true), .quiet (.bool true)] [(39, w.heap.size, [.int .u64 (w0 : Nat), .int .u64 (w1 : Nat)]), (26, g4, [.int .i64 0, .int .i64 0]), (26, g5, [.int .i64 0, .int .i64 0]), (26, g6, [.int .i64 0, .int .i64 0]), (26, g7, [.int .i64 0, .int .i64 0]), (26, g8, [.int .i64 0, .int .i64 0]), (26, g9, [.int .i64 0, .int .i64 0]), (42, g12, [.int .u64 mx, .int .u64 my])] (by kernel_rfl) (by kernel_rfl) K9.out.drew (fun bk0 => ?_) ?_
        · clear K9
          refine pWalk_quiet rfl (fun E W hw' => quietAt_call (f := 10) (args := #[]) (by simp [go_sem]) ((CV.out W).mono fun e w'' h => ⟨h.1, hw'.below h.2⟩)) ?_
          simp only [Act.put, List.setIfInBounds_toArray, List.set_cons_zero, List.set_cons_succ]
          refine pWalk_quiet rfl (fun E W hw' => quietAt_run (by simp [go_sem])) ?_
          simp only [Act.put, List.setIfInBounds_toArray, List.set_cons_zero, List.set_cons_succ]
          refine pWalk_quiet rfl (fun E W hw' => quietAt_part (off := 0) (n := 2) (vs := [.int .i64 0, .int .i64 0]) rfl rfl tyfault (hw'.at 3 rfl) rfl rfl) ?_
          simp only [Act.put, List.setIfInBounds_toArray, List.set_cons_zero, List.set_cons_succ]
          refine pWalk_quiet rfl (fun E W hw' => quietAt_run (by simp [go_sem])) ?_
          simp only [Act.put, List.setIfInBounds_toArray, List.set_cons_zero, List.set_cons_succ]
          refine pWalk_quiet rfl (fun E W hw' => quietAt_eql rfl rfl rfl guard_fault E0) ?_
          simp only [Act.put, List.setIfInBounds_toArray, List.set_cons_zero, List.set_cons_succ]
          refine pWalk_quiet rfl (fun E W hw' => quietAt_run (by simp [go_sem])) ?_
          simp only [Act.put, List.setIfInBounds_toArray, List.set_cons_zero, List.set_cons_succ]
          refine pWalk_quiet rfl (fun E W hw' => quietAt_run (by simp [go_sem])) ?_
          simp only [Act.put, List.setIfInBounds_toArray, List.set_cons_zero, List.set_cons_succ]
          refine pWalk_quiet rfl (fun E W hw' => quietAt_part (off := 0) (n := 2) (vs := [.int .i64 0, .int .i64 0]) rfl rfl tyfault (hw'.at 4 rfl) rfl rfl) ?_
          simp only [Act.put, List.setIfInBounds_toArray, List.set_cons_zero, List.set_cons_succ]
          refine pWalk_quiet rfl (fun E W hw' => quietAt_run (by simp [go_sem])) ?_
          simp only [Act.put, List.setIfInBounds_toArray, List.set_cons_zero, List.set_cons_succ]
          refine pWalk_quiet rfl (fun E W hw' => quietAt_eql rfl rfl rfl guard_fault E0) ?_
          simp only [Act.put, List.setIfInBounds_toArray, List.set_cons_zero, List.set_cons_succ]
          refine pWalk_quiet rfl (fun E W hw' => quietAt_run (by simp [go_sem])) ?_
          simp only [Act.put, List.setIfInBounds_toArray, List.set_cons_zero, List.set_cons_succ]
          refine pWalk_quiet rfl (fun E W hw' => quietAt_run (by simp [go_sem])) ?_
          simp only [Act.put, List.setIfInBounds_toArray, List.set_cons_zero, List.set_cons_succ]
          refine pWalk_quiet rfl (fun E W hw' => quietAt_part (off := 0) (n := 2) (vs := [.int .i64 0, .int .i64 0]) rfl rfl tyfault (hw'.at 5 rfl) rfl rfl) ?_
          simp only [Act.put, List.setIfInBounds_toArray, List.set_cons_zero, List.set_cons_succ]
          refine pWalk_quiet rfl (fun E W hw' => quietAt_run (by simp [go_sem])) ?_
          simp only [Act.put, List.setIfInBounds_toArray, List.set_cons_zero, List.set_cons_succ]
          refine pWalk_quiet rfl (fun E W hw' => quietAt_eql rfl rfl rfl guard_fault E0) ?_
          simp only [Act.put, List.setIfInBounds_toArray, List.set_cons_zero, List.set_cons_succ]
          refine pWalk_quiet rfl (fun E W hw' => quietAt_run (by simp [go_sem])) ?_
          simp only [Act.put, List.setIfInBounds_toArray, List.set_cons_zero, List.set_cons_succ]
          refine pWalk_quiet rfl (fun E W hw' => quietAt_run (by simp [go_sem])) ?_
          simp only [Act.put, List.setIfInBounds_toArray, List.set_cons_zero, List.set_cons_succ]
          refine pWalk_quiet rfl (fun E W hw' => quietAt_part (off := 0) (n := 2) (vs := [.int .i64 0, .int .i64 0]) rfl rfl tyfault (hw'.at 6 rfl) rfl rfl) ?_
          simp only [Act.put, List.setIfInBounds_toArray, List.set_cons_zero, List.set_cons_succ]
          refine pWalk_quiet rfl (fun E W hw' => quietAt_run (by simp [go_sem])) ?_
          simp only [Act.put, List.setIfInBounds_toArray, List.set_cons_zero, List.set_cons_succ]
          refine pWalk_quiet rfl (fun E W hw' => quietAt_eql rfl rfl rfl guard_fault E0) ?_
          simp only [Act.put, List.setIfInBounds_toArray, List.set_cons_zero, List.set_cons_succ]
          refine pWalk_quiet rfl (fun E W hw' => quietAt_run (by simp [go_sem])) ?_
          simp only [Act.put, List.setIfInBounds_toArray, List.set_cons_zero, List.set_cons_succ]
          refine pWalk_quiet rfl (fun E W hw' => quietAt_run (by simp [go_sem])) ?_
          simp only [Act.put, List.setIfInBounds_toArray, List.set_cons_zero, List.set_cons_succ]
          refine pWalk_quiet rfl (fun E W hw' => quietAt_run (by simp [go_sem])) ?_
          simp only [Act.put, List.setIfInBounds_toArray, List.set_cons_zero, List.set_cons_succ]
          refine pWalk_quiet rfl (fun E W hw' => quietAt_run (by simp [go_sem])) ?_
          simp only [Act.put, List.setIfInBounds_toArray, List.set_cons_zero, List.set_cons_succ]
          refine pWalk_quiet rfl (fun E W hw' => quietAt_run (by simp [go_sem, HI1.out])) ?_
          simp only [Act.put, List.setIfInBounds_toArray, List.set_cons_zero, List.set_cons_succ]
          refine pWalk_quiet rfl (fun E W hw' => quietAt_run (by simp [go_sem])) ?_
          simp only [Act.put, List.setIfInBounds_toArray, List.set_cons_zero, List.set_cons_succ]
          refine pWalk_quiet rfl (fun E W hw' => quietAt_run (by simp [go_sem])) ?_
          simp only [Act.put, List.setIfInBounds_toArray, List.set_cons_zero, List.set_cons_succ]
          refine pWalk_quiet rfl (fun E W hw' => quietAt_run (by simp [go_sem])) ?_
          simp only [Act.put, List.setIfInBounds_toArray, List.set_cons_zero, List.set_cons_succ]
          refine pWalk_quiet rfl (fun E W hw' => quietAt_run (by simp [go_sem])) ?_
          simp only [Act.put, List.setIfInBounds_toArray, List.set_cons_zero, List.set_cons_succ]
          refine pWalk_quiet rfl (fun E W hw' => quietAt_run (by simp [go_sem])) ?_
          simp only [Act.put, List.setIfInBounds_toArray, List.set_cons_zero, List.set_cons_succ]
          refine pWalk_quiet rfl (fun E W hw' => quietAt_run (by simp [go_sem])) ?_
          simp only [Act.put, List.setIfInBounds_toArray, List.set_cons_zero, List.set_cons_succ]
          refine pWalk_quiet rfl (fun E W hw' => quietAt_run (by simp [go_sem])) ?_
          simp only [Act.put, List.setIfInBounds_toArray, List.set_cons_zero, List.set_cons_succ]
          refine pWalk_quiet rfl (fun E W hw' => quietAt_run (by simp [go_sem])) ?_
          simp only [Act.put, List.setIfInBounds_toArray, List.set_cons_zero, List.set_cons_succ]
          refine pWalk_quiet rfl (fun E W hw' => quietAt_run (by simp [go_sem])) ?_
          simp only [Act.put, List.setIfInBounds_toArray, List.set_cons_zero, List.set_cons_succ]
          refine pWalk_quiet rfl (fun E W hw' => quietAt_run (by simp [go_sem])) ?_
          simp only [Act.put, List.setIfInBounds_toArray, List.set_cons_zero, List.set_cons_succ]
          refine pWalk_quiet rfl (fun E W hw' => quietAt_run (by simp [go_sem])) ?_
          simp only [Act.put, List.setIfInBounds_toArray, List.set_cons_zero, List.set_cons_succ]
          refine pWalk_quiet rfl (fun E W hw' => quietAt_run (by simp [go_sem])) ?_
          simp only [Act.put, List.setIfInBounds_toArray, List.set_cons_zero, List.set_cons_succ]
          refine pWalk_quiet rfl (fun E W hw' => quietAt_run (by simp [go_sem])) ?_
          simp only [Act.put, List.setIfInBounds_toArray, List.set_cons_zero, List.set_cons_succ]
          refine pWalk_quiet rfl (fun E W hw' => quietAt_part (off := 0) (n := 2) (vs := [.int .u64 mx, .int .u64 my]) rfl rfl tywide2 (hw'.at 7 rfl) rfl rfl) ?_
          simp only [Act.put, List.setIfInBounds_toArray, List.set_cons_zero, List.set_cons_succ]
          refine pWalk_quiet rfl (fun E W hw' => quietAt_run (by simp [go_sem])) ?_
          simp only [Act.put, List.setIfInBounds_toArray, List.set_cons_zero, List.set_cons_succ]
          refine pWalk_quiet rfl (fun E W hw' => quietAt_run (by simp [go_sem, HP0.out])) ?_
          simp only [Act.put, List.setIfInBounds_toArray, List.set_cons_zero, List.set_cons_succ]
          refine pWalk_quiet rfl (fun E W hw' => quietAt_call (f := 19) (args := #[.int .u64 (p0 : Int), .int .u64 1000000000]) (by simp [go_sem]) ((CN.out W).mono fun e w'' h => ⟨h.1, hw'.below h.2⟩)) ?_
          simp only [Act.put, List.setIfInBounds_toArray, List.set_cons_zero, List.set_cons_succ]
          refine pWalk_quiet rfl (fun E W hw' => quietAt_call (f := 20) (args := #[.agg #[.int .u64 mx, .int .u64 my], .agg #[.int .u64 nx, .int .u64 ny]]) (by simp [go_sem]) ((CL.out W).mono fun e w'' h => ⟨h.1, hw'.below h.2⟩)) ?_
          simp only [Act.put, List.setIfInBounds_toArray, List.set_cons_zero, List.set_cons_succ]
          refine pWalk_quiet rfl (fun E W hw' => quietAt_run (by simp [go_sem])) ?_
          simp only [Act.put, List.setIfInBounds_toArray, List.set_cons_zero, List.set_cons_succ]
          refine pWalk_quiet rfl (fun E W hw' => quietAt_run (by simp [go_sem])) ?_
          simp only [Act.put, List.setIfInBounds_toArray, List.set_cons_zero, List.set_cons_succ]
          refine pWalk_quiet rfl (fun E W hw' => quietAt_run (by simp [go_sem])) ?_
          simp only [Act.put, List.setIfInBounds_toArray, List.set_cons_zero, List.set_cons_succ]
          refine pWalk_quiet rfl (fun E W hw' => quietAt_run (by simp [go_sem])) ?_
          simp only [Act.put, List.setIfInBounds_toArray, List.set_cons_zero, List.set_cons_succ]
          trivial
        intro bk κ E W15 hK hB
        have B15 := Lib.hid hK.bel
        clear hK hB K9
        simp only [List.length_cons, List.length_nil, lexAct, pval, toK, List.map_cons, List.map_nil, List.getElem?_cons_zero, List.getElem?_cons_succ, Option.bind_some, Act.put, List.setIfInBounds_toArray, List.set_cons_zero, List.set_cons_succ]
        go_wp2_with fail
        go_ret
        exact ⟨rfl, B15.out⟩
end Go.Proofs.Ytemgnaalmgkfiaa
