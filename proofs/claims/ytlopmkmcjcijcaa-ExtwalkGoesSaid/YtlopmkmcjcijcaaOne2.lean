/-
  The contract of onesum's Sum, over its iterator of words.
-/
import Derived.RangeFuncNested
import Derived.RangeFuncBound
import Derived.RangeFuncCalls
import Derived.RangeFuncLeaves
import Derived.Shelf.Abstract
import Derived.Shelf.RegionOpen
import Derived.WalkKit
import Derived.OwnWalkIn
import Derived.TacticsInMore
import Derived.LoopNIn
import Derived.LoopIn
import Derived.Test.YtlopmkmcjcijcaaOne1
namespace Go.Proofs.Ytlopmkmcjcijcaa
open Go.RowKit Go.Shelf
set_option linter.unusedVariables false
attribute [local go_sem] Oper.semAt_some

theorem byte_at {bs : List Nat} (h : ∀ x ∈ bs, x < 256) (k : Nat) : bs.getD k 0 < 256 := by
  rcases Nat.lt_or_ge k bs.length with hk | hk
  · rw [List.getD_eq_getElem?_getD, List.getElem?_eq_getElem hk]
    exact h _ (List.getElem_mem hk)
  · rw [getD_beyond bs k hk]; decide
/-- A word. -/
abbrev W16 := { x : Nat // x ≤ 65535 }
/-- The first words of bytes. -/
def upto (f : Nat → W16) (k : Nat) : List W16 := (List.range k).map f
theorem upto_succ (f : Nat → W16) (k : Nat) : upto f (k + 1) = upto f k ++ [f k] := by simp [upto, List.range_succ]
theorem upto_length (f : Nat → W16) (k : Nat) : (upto f k).length = k := by simp [upto]
def wordF (bs : List Nat) (h : ∀ x ∈ bs, x < 256) (j : Nat) : W16 := ⟨wordAt bs j, wordAt_lt h j⟩
theorem upto_words (bs : List Nat) (h : ∀ x ∈ bs, x < 256) (k : Nat) : (upto (wordF bs h) k).map (·.1) = wordsTo bs k := by
  simp [upto, wordsTo, wordF, Function.comp_def]

/-- What a round keeps: all below n₀, and the block Bn. -/
def KW (n₀ Bn : Nat) (W W' : World) : Prop := Below n₀ W W' ∧ W'.heap[Bn]? = W.heap[Bn]?
theorem KW.box {n₀ Bn : Nat} {W W' : World} (h : KW n₀ Bn W W') : W'.cell? ⟨Bn, 0, none⟩ = W.cell? ⟨Bn, 0, none⟩ := by
  simp only [World.cell?, h.2]
theorem KW.trans {n₀ Bn : Nat} {A B C : World} (h : KW n₀ Bn A B) (k : KW n₀ Bn B C) : KW n₀ Bn A C := ⟨h.1.trans k.1, k.2.trans h.2⟩

/-- The iterator's body, over bytes in memory. -/
theorem words1_in (l Bn n₀ b o n cap : Nat) (bs : List Nat) (hby : ∀ x ∈ bs, x < 256) (hlen : bs.length = n) (hn : n ≤ 140737488355328) (hb : b < n₀) (J Jx : List W16 → World → Prop)
    (hY : ∀ pre x W, J pre W → pre.length < wcount n → YieldAt Fence.wide 3 Try.prog l #[.int .u16 (x.1 : Int)] W fun e W' =>
      (e = .returned (.bool true) ∧ J (pre ++ [x]) W' ∧ KW n₀ Bn W W') ∨ (e = .returned (.bool false) ∧ Jx (pre ++ [x]) W'))
    (W : World) (hBn : W.cell? ⟨Bn, 0, none⟩ = some (.slice (some ⟨b, o, none⟩) n cap)) (hc : ∀ i, i < n → W.cell? ⟨b, o + i, none⟩ = some (.int .u8 (bs.getD i 0 : Nat))) (h0 : J [] W) :
    CallsIn Fence.wide 4 Try.prog 99 #[.func (.yield l) #[] #[], .pointer (some ⟨Bn, 0, none⟩)] W fun e W' => (∃ v, e = .returned v) ∧
      ((∃ ys, ys = upto (wordF bs hby) (wcount n) ∧ J ys W') ∨ (∃ pre, (∃ k, k ≤ wcount n ∧ pre = upto (wordF bs hby) k) ∧ Jx pre W')) := by
  refine callsIn_of_wp Try.func99 rfl trivial ?_ rfl
  simp only [Try.ntmps99, List.size_toArray, List.length_cons, List.length_nil, Nat.reduceAdd, Nat.reduceSub, Array.replicate_succ, Array.replicate_zero, List.push_toArray, List.append_toArray, List.nil_append, List.cons_append]
  gi_wp2
  gi_loopw [3] (fun i wr => ∃ k p : Nat, k ≤ wcount n ∧ Hid (p = 2 * k) ∧ i = .int .i64 (p : Int) ∧ J (upto (wordF bs hby) k) wr ∧ wr.cell? ⟨Bn, 0, none⟩ = some (.slice (some ⟨b, o, none⟩) n cap) ∧ (∀ i, i < n → wr.cell? ⟨b, o + i, none⟩ = some (.int .u8 (bs.getD i 0 : Nat))))
    (fun i wr => n + 1 - (intOf i).toNat)
  case atStart => exact ⟨0, 0, Nat.zero_le _, rfl, rfl, h0, hBn, hc⟩
  case round =>
    obtain ⟨k, p, hk, hp, rfl, hJ, hB, hcs⟩ := hrel
    have HC := Lib.hid hcs
    by_cases hlt : p < n
    · have hv := hcs p hlt
      obtain ⟨x, hxe⟩ : ∃ x, x = bs.getD p 0 := ⟨_, rfl⟩
      have hx : x < 256 := by rw [hxe]; exact byte_at hby p
      have hkl : k < wcount n := by have := hp.out; unfold wcount; omega
      obtain ⟨fn, tmps, assign, body, hy, hR⟩ := hY (upto (wordF bs hby) k) (wordF bs hby k) wr hJ (by rw [upto_length]; exact hkl)
      by_cases hlt2 : p + 1 < n
      · have hv2 := hcs (p + 1) hlt2
        obtain ⟨y, hye⟩ : ∃ y, y = bs.getD (p + 1) 0 := ⟨_, rfl⟩
        have hy2 : y < 256 := by rw [hye]; exact byte_at hby (p + 1)
        have hwd : (wordF bs hby k).1 = x * 256 + y := by rw [hxe, hye, hp.out]; rfl
        have hor := or8_u16 x y hx hy2
        rw [← hwd] at hor
        rw [← hxe] at hv
        rw [← hye] at hv2
        have HK := Lib.hid hkl
        clear hcs hxe hye hkl hwd hc
        gi_wp2
        refine hR.mono ?_
        rintro e W3 (⟨rfl, hJ3, hk3⟩ | ⟨rfl, hJx3⟩)
        · gi_wp2
          go_roundw
          case rel =>
            refine ⟨k + 1, p + 2, HK.out, by have := hp.out; exact (by omega : p + 2 = 2 * (k + 1)), by go_num, by rw [upto_succ]; exact hJ3, hk3.box.trans hB, fun i hi => (hk3.1.cell (p := ⟨b, o + i, none⟩) hb).trans (HC.out i hi)⟩
          case measure => simp [intOf]; omega
        · gi_wp2
          refine bodyPost_ret (results_none rfl _ _ _) rfl ?_
          exact ⟨⟨_, rfl⟩, .inr ⟨_, ⟨k + 1, HK.out, rfl⟩, by rw [upto_succ]; exact hJx3⟩⟩
      · have hwd : (wordF bs hby k).1 = x * 256 := by
          show wordAt bs k = x * 256
          unfold wordAt
          rw [← hp.out, ← hxe, getD_beyond bs (p + 1) (by omega)]
          omega
        have hwi : (x : Int) * 256 = ((wordF bs hby k).1 : Int) := by rw [hwd]; simp
        rw [← hxe] at hv
        have HK := Lib.hid hkl
        clear hcs hxe hkl hwd hc
        gi_wp2
        refine hR.mono ?_
        rintro e W3 (⟨rfl, hJ3, hk3⟩ | ⟨rfl, hJx3⟩)
        · gi_wp2
          go_roundw
          case rel =>
            refine ⟨k + 1, p + 2, HK.out, by have := hp.out; exact (by omega : p + 2 = 2 * (k + 1)), by go_num, by rw [upto_succ]; exact hJ3, hk3.box.trans hB, fun i hi => (hk3.1.cell (p := ⟨b, o + i, none⟩) hb).trans (HC.out i hi)⟩
          case measure => simp [intOf]; omega
        · gi_wp2
          refine bodyPost_ret (results_none rfl _ _ _) rfl ?_
          exact ⟨⟨_, rfl⟩, .inr ⟨_, ⟨k + 1, HK.out, rfl⟩, by rw [upto_succ]; exact hJx3⟩⟩
    · have hke : k = wcount n := by have := hp.out; unfold wcount at *; omega
      have HKE := Lib.hid hke
      clear hcs hc hke
      gi_wp2
      go_end0
      exact ⟨⟨_, rfl⟩, .inl ⟨_, by rw [HKE.out], hJ⟩⟩

/-- .. over no bytes. -/
theorem words1_none_in (l Bn cap : Nat) (A : Option Addr) (J : List W16 → World → Prop) (W : World) (hBn : W.cell? ⟨Bn, 0, none⟩ = some (.slice A 0 cap)) (h0 : J [] W) :
    CallsIn Fence.wide 4 Try.prog 99 #[.func (.yield l) #[] #[], .pointer (some ⟨Bn, 0, none⟩)] W fun e W' => (∃ v, e = .returned v) ∧ J [] W' := by
  refine callsIn_of_wp Try.func99 rfl trivial ?_ rfl
  simp only [Try.ntmps99, List.size_toArray, List.length_cons, List.length_nil, Nat.reduceAdd, Nat.reduceSub, Array.replicate_succ, Array.replicate_zero, List.push_toArray, List.append_toArray, List.nil_append, List.cons_append]
  gi_wp2
  gi_loopw [3] (fun i wr => i = .int .i64 0 ∧ J [] wr ∧ wr.cell? ⟨Bn, 0, none⟩ = some (.slice A 0 cap)) (fun _ _ => 0)
  case atStart => exact ⟨rfl, h0, hBn⟩
  case round =>
    obtain ⟨rfl, hJs, hB⟩ := hrel
    gi_wp2
    go_end0
    exact ⟨⟨_, rfl⟩, hJs⟩

/-- The maker: the slice is boxed; the function value captures the box. -/
theorem words_in (A : Option Addr) (n cap : Nat) (w : World) :
    CallsIn Fence.wide 4 Try.prog 93 #[.slice A n cap] w fun e w' => e = .returned (.func (.func 99) #[] #[.pointer (some ⟨w.heap.size, 0, none⟩)]) ∧ w' = w.alloc (.cells #[.slice A n cap] 22) := by
  refine callsIn_of_wp Try.func93 rfl trivial ?_ rfl
  simp only [Try.ntmps93, List.size_toArray, List.length_cons, List.length_nil, Nat.reduceAdd, Nat.reduceSub, Array.replicate_succ, Array.replicate_zero, List.push_toArray, List.append_toArray, List.nil_append, List.cons_append]
  gi_wp2
  go_ret
  exact ⟨rfl, rfl⟩

/-- All words in their order, or the first ones. -/
theorem words_stops (Bn n₀ : Nat) (A : Option Addr) (n cap : Nat) (bs : List Nat) (hby : ∀ x ∈ bs, x < 256) (hn : n ≤ 140737488355328) (w : World) (hBn : Bn < w.heap.size) (hn₀ : n₀ ≤ w.heap.size)
    (hc : w.cell? ⟨Bn, 0, none⟩ = some (.slice A n cap)) (hA : Row w A n bs) (hlt : ∀ b o, A = some ⟨b, o, none⟩ → 0 < n → b < n₀) :
    SeqStopsK Fence.wide 4 Try.prog 99 #[.pointer (some ⟨Bn, 0, none⟩)] (fun x : W16 => #[Value.int .u16 (x.1 : Int)]) (KW n₀ Bn) (fun ys => ys = upto (wordF bs hby) (wcount n)) (fun pre => True) (wcount n) w := fun l J Jx W hW _ _ hY h0 => by
  have hc' : W.cell? ⟨Bn, 0, none⟩ = some (.slice A n cap) := (hW.cell (p := ⟨Bn, 0, none⟩) hBn).trans hc
  rcases Nat.eq_zero_or_pos n with h | h
  · subst h
    exact (words1_none_in l Bn cap A J W hc' h0).mono fun e W' ⟨he, hj⟩ => ⟨he, .inl ⟨_, rfl, hj⟩⟩
  · obtain ⟨b, o, rfl, hb, hcs⟩ := hA.addr h
    have hb2 := hlt b o rfl h
    refine (words1_in l Bn n₀ b o n cap bs hby hA.len hn hb2 J Jx hY W hc' (fun i hi => (hW.cell (p := ⟨b, o + i, none⟩) (by show b < w.heap.size; omega)).trans (hcs i hi)) h0).mono ?_
    rintro e W' ⟨he, ⟨ys, rfl, hj⟩ | ⟨pre, _, hj⟩⟩
    · exact ⟨he, .inl ⟨_, rfl, hj⟩⟩
    · exact ⟨he, .inr ⟨_, trivial, hj⟩⟩

def osumW (l : List W16) : Nat := osum (l.map (·.1))
theorem osumW_snoc (l : List W16) (x : W16) : osumW (l ++ [x]) = orest (osumW l + x.1) := by
  unfold osumW
  rw [List.map_append, List.map_singleton, osum_snoc]
theorem osumW_le (l : List W16) : osumW l ≤ 65535 := osum_le _ fun x hx => by
  obtain ⟨y, _, rfl⟩ := List.mem_map.1 hx
  exact y.2

set_option maxRecDepth 100000 in
set_option maxHeartbeats 2000000 in
/-- 'Sum' tells the sum of the bytes. -/
theorem osum_any (A : Option Addr) (n cap : Nat) (bs : List Nat) (w : World) (hn : n ≤ 140737488355328) (hA : Row w A n bs) :
    Calls Try.prog 78 #[.slice A n cap] w fun e w' => e = .returned (.int .u16 (orest (wsum 0 bs) : Nat)) ∧ Below w.heap.size w w' := by
  have hby := hA.2.1
  refine (callsIn_wide (n := 5)).1 ?_
  refine callsIn_of_wp_marks Try.func78 rfl trivial ?_ rfl
  simp only [Try.ntmps78, List.size_toArray, List.length_cons, List.length_nil, Nat.reduceAdd, Nat.reduceSub, Array.replicate_succ, Array.replicate_zero, List.push_toArray, List.append_toArray, List.nil_append, List.cons_append]
  gi_wp2_with (refine ⟨trivial, ?_⟩; gi_at_call 93; refine (words_in _ _ _ _).mono ?_; rintro e w' ⟨rfl, rfl⟩)
  have hs : ((w.alloc (.cells #[.int .u16 0] 68)).alloc (.cells #[.slice A n cap] 22)).cell? ⟨w.heap.size, 0, none⟩ = some (.int .u16 0) := by
    rw [cell_of_row _ w.heap.size 0 _ _ _ (heap_alloc2_old w _ _)]; rfl
  have hsf : ((w.alloc (.cells #[.int .u16 0] 68)).alloc (.cells #[.slice A n cap] 22)).frozen? ⟨w.heap.size, 0, none⟩ = false := frozen_of_row _ w.heap.size 0 _ _ (heap_alloc2_old w _ _)
  have hb : ((w.alloc (.cells #[.int .u16 0] 68)).alloc (.cells #[.slice A n cap] 22)).cell? ⟨w.heap.size + 1, 0, none⟩ = some (.slice A n cap) := by
    rw [cell_of_row _ (w.heap.size + 1) 0 _ _ _ (heap_alloc2_new w _ _)]; rfl
  have hB0 : Below w.heap.size w ((w.alloc (.cells #[.int .u16 0] 68)).alloc (.cells #[.slice A n cap] 22)) := ((Below.refl _ w).alloc (Nat.le_refl _) _).alloc (by simp) _
  have hsz : ((w.alloc (.cells #[.int .u16 0] 68)).alloc (.cells #[.slice A n cap] 22)).heap.size = w.heap.size + 2 := by simp
  have hA2 := hA.below hB0
  have hAlt : ∀ b o, A = some ⟨b, o, none⟩ → 0 < n → b < w.heap.size := fun b o e h0 => by
    obtain ⟨b', o', e', hb', _⟩ := hA.addr h0
    rw [e] at e'
    injection e' with e'
    injection e' with e1 e2
    omega
  refine wpIn_rangeFunc_ownF rfl (by omega) (gf := 99) (lb := #[.pointer (some ⟨w.heap.size + 1, 0, none⟩)]) rfl trivial (enters_of Try.func99 (by kernel_rfl) rfl)
    (words_stops (w.heap.size + 1) w.heap.size A n cap bs hby hn _ (by simp) (by simp; omega) hb hA2 hAlt) KW.trans
    (fun W l o o' hl h hc hw => ⟨belowK_b (w := (w.alloc (.cells #[.int .u16 0] 68)).alloc (.cells #[.slice A n cap] 22)) (by omega) W l o o' hl h hc hw, World.putObj_heap_other (by omega)⟩) (Below.refl _ _) (fun _ => rfl)
    (fun pre W => (W.cell? ⟨w.heap.size, 0, none⟩ = some (.int .u16 (osumW pre : Nat)) ∧ W.frozen? ⟨w.heap.size, 0, none⟩ = false) ∧ Below w.heap.size w W)
    (fun _ _ _ => False)
    (OwnFrom.and (Own.from (fun s A B row hs hg hr => ⟨cell_kept hs.1 hg hr, (frozen_kept hs.1 hg hr).trans hs.2⟩) _) (ownFrom_below (Nat.le_refl _) (by simp; omega)))
    (fun _ _ _ _ _ hs _ _ => hs)
    ⟨⟨hs, hsf⟩, hB0⟩
    (fun x => { tmps := #[.slice A n cap, undef, .int .u16 0, .pointer (some ⟨w.heap.size, 0, none⟩), .int .u16 (x.1 : Int), .slice A n cap, .func (.func 99) #[] #[.pointer (some ⟨w.heap.size + 1, 0, none⟩)], .int .u16 (x.1 : Int), undef, undef, undef, undef], defers := [] }) ?assign ?body ?done ?stop
  case assign =>
    intro l x W K hK
    gi_wp2
    exact hK
  case body =>
    rintro l pre x W ⟨⟨hc, hf⟩, hB⟩ _
    have hl := osumW_le pre
    have hx := x.2
    gi_wp2_with (refine ⟨trivial, ?_⟩; gi_at_call 92; refine (CallsIn.inRound l (callsIn_wide.2 (oadd_any _ _ _ hl hx))).mono ?_; rintro e w' ⟨rfl, rfl⟩)
    refine ⟨(KeepsOthers.setCell _ _ _), ⟨(Below.refl w.heap.size W).setCell (p := ⟨w.heap.size, 0, none⟩) (Nat.le_refl _) _, heap_setCell_other _ _ _ _ (by simp)⟩, ⟨by rw [osumW_snoc]; exact World.cell?_setCell_same' _ _ _ (by rw [hc]; rfl), by rw [World.frozen?_setCell]; exact hf⟩, hB.setCell (p := ⟨w.heap.size, 0, none⟩) (Nat.le_refl _) _⟩
  case done =>
    rintro D ys W hD rfl ⟨⟨hc, hf⟩, hB⟩ hK
    gi_wp2
    refine ⟨by simp, .inl ⟨_, _, rfl, run_takeDeferred hK, ?_⟩⟩
    have e : osumW (upto (wordF bs hby) (wcount n)) = orest (wsum 0 bs) := by
      unfold osumW
      rw [upto_words, ← hA.len, osum_all]
    exact ⟨_, results_tmp rfl _ _ _, by rw [← e]; rfl, hB.trans (belowK_b (w := w) (Nat.le_refl _) W D _ _ (by omega) hK rfl rfl)⟩
  case stop =>
    rintro D c pre W hD _ h _
    exact h.elim
end Go.Proofs.Ytlopmkmcjcijcaa
