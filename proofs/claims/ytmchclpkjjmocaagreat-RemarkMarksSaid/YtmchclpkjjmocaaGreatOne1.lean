/-
  Contracts of onesum's Add, Swap, Join and of the document's rest, Add, Sum, Check, Good, Swap, Join.
  The contract of onesum's Sum, over its iterator of words.
  Plain arithmetic of a word put into bytes. Nothing of the program.
  Plain facts of two words put into bytes, one behind the other. Nothing of the program.
  Contracts of onesum's Check, Good and Fill and of the document's.
  Fill answers new memory that the caller holds.
-/
import Derived.Test.YtmchclpkjjmocaaGreatBase
import Derived.Test.YtmchclpkjjmocaaGreatPlain
import Derived.Laws.BitsAllLaws
import Derived.RangeFuncNested
import Derived.RangeFuncBound
import Derived.RangeFuncCalls
import Derived.RangeFuncLeaves
import Derived.Shelf.Abstract
import Derived.Shelf.RegionOpen
import Derived.WalkKit
import Derived.OwnWalkIn
import Derived.TacticsInMore
import Derived.LoopNIn
import Derived.LoopIn
import Derived.Test.YtmchclpkjjmocaaGreatOwn
import Derived.Test.YtmchclpkjjmocaaGreatAgree1
namespace Go.Proofs.YtmchclpkjjmocaaGreat
open Go.RowKit
set_option linter.unusedVariables false

theorem oadd_any (a b : Nat) (w : World) (ha : a ≤ 65535) (hb : b ≤ 65535) :
    Calls Tryz.prog 97 #[.int .u16 a, .int .u16 b] w fun e w' => e = .returned (.int .u16 (orest (a + b) : Nat)) ∧ w = w' := by
  have H := Lib.hid (orest_two ha hb)
  by_cases h : 65535 < a + b
  · have h2 : (65535 : Int) < (a : Int) + (b : Int) := by omega
    go_enter Tryz.func97, Tryz.ntmps97
    go_wp2_with fail
    go_ret
    refine ⟨?_, rfl⟩
    rw [H.out, if_pos h]
    go_num
  · have h2 : (a : Int) + (b : Int) ≤ 65535 := by omega
    go_enter Tryz.func97, Tryz.ntmps97
    go_wp2_with fail
    go_ret
    refine ⟨?_, rfl⟩
    rw [H.out, if_neg h]
    go_num
theorem rrest_any (n : Nat) (w : World) (hn : n ≤ 18446744073709551615) :
    Calls Tryz.prog 83 #[.int .u64 n] w fun e w' => e = .returned (.int .u16 (orest n : Nat)) ∧ w = w' := by
  rcases Nat.eq_zero_or_pos n with h | h
  · subst h
    go_enter Tryz.func83, Tryz.ntmps83
    go_wp2_with fail
    go_ret
    exact ⟨rfl, rfl⟩
  · obtain ⟨m, rfl⟩ : ∃ m, n = m + 1 := ⟨n - 1, by omega⟩
    have e : orest (m + 1) = m % 65535 + 1 := by unfold orest; rw [if_neg (by omega), Nat.add_sub_cancel]
    have H := Lib.hid e
    go_enter Tryz.func83, Tryz.ntmps83
    go_wp2_with fail
    go_ret
    refine ⟨?_, rfl⟩
    rw [H.out]
    go_num
theorem or8_u16 (a b : Nat) (ha : a < 256) (hb : b < 256) : bits .or .u16 ((a : Int) * 256) (b : Int) = ((a * 256 + b : Nat) : Int) := by
  have h := u16_or_nat (a * 256) b (by omega) (by omega)
  rw [nat_join 8 (a * 256) b (by omega) (by omega)] at h
  simpa using h
theorem tmod_two (n : Int) : Int.tmod n 2 = 0 ↔ n % 2 = 0 := by rw [← Int.dvd_iff_tmod_eq_zero, ← Int.dvd_iff_emod_eq_zero]
/-- The second part's sum, as it joins. -/
def opart (n : Int) (b : Nat) : Nat := if n % 2 = 0 then b else oswap b
theorem opart_le (n : Int) {b : Nat} (h : b ≤ 65535) : opart n b ≤ 65535 := by unfold opart; split; exact h; exact oswap_le h
/-- The document's sum of bytes. -/
theorem rsum_any (A : Option Addr) (n cap : Nat) (bs : List Nat) (w : World) (hn : n ≤ 140737488355328) (hA : Row w A n bs) :
    Calls Tryz.prog 66 #[.slice A n cap] w fun e w' => e = .returned (.int .u16 (orest (wsum 0 bs) : Nat)) ∧ w = w' := by
  have hlen := hA.len
  have hby := hA.2.1
  go_enter Tryz.func66, Tryz.ntmps66
  go_wp2_with fail
  go_loop [3, 4] (fun v j => ∃ k s : Nat, k ≤ n ∧ Hid (s = wsum 0 (bs.take k)) ∧ j = .int .i64 k ∧ v = .int .u64 s) (fun _ j => n - (intOf j).toNat)
  case atStart => exact ⟨0, 0, Nat.zero_le _, rfl, rfl, rfl⟩
  case round =>
    obtain ⟨k, s, hk, hs, rfl, rfl⟩ := hrel
    have hsl : s ≤ 65280 * 140737488355328 := by
      have := wsum_bound 0 (bs.take k) fun x hx => hby x (List.mem_of_mem_take hx)
      rw [← hs.out, List.length_take] at this
      refine Nat.le_trans this (Nat.mul_le_mul_left _ ?_)
      omega
    by_cases hlt : k < n
    · obtain ⟨b, o, rfl, hb, hc⟩ := hA.addr (by omega)
      have hv := hc k hlt
      clear hc
      have hx := hA.byte k
      obtain ⟨x, hxe⟩ : ∃ x, x = bs.getD k 0 := ⟨_, rfl⟩
      rw [← hxe] at hv hx
      have hst := wsum_snoc bs k (by omega)
      rw [← hxe, ← hs.out] at hst
      have HST := Lib.hid hst
      have HSL := Lib.hid hsl
      have hsi : (s : Int) ≤ 9187343239835811840 := by omega
      clear hst hxe hsl
      by_cases hp : k % 2 = 0
      · have q : ((k : Int) % 2 == 0) = true := by simp; omega
        have HP := Lib.hid hp
        clear hp
        go_wp2_with fail
        go_round
        case rel => exact ⟨k + 1, s + 256 * x, by omega, by have := HST.out; rw [if_pos HP.out] at this; exact this.symm, by go_num, by go_num⟩
        case measure => simp [intOf]; omega
      · have q : ((k : Int) % 2 == 0) = false := by simp; omega
        have HP := Lib.hid hp
        clear hp
        go_wp2_with fail
        go_round
        case rel => exact ⟨k + 1, s + x, by omega, by have := HST.out; rw [if_neg HP.out] at this; exact this.symm, by go_num, by go_num⟩
        case measure => simp [intOf]; omega
    · obtain rfl : k = n := by omega
      have e : s = wsum 0 bs := by rw [hs.out, take_beyond bs k (by omega)]
      have E := Lib.hid e
      have C := Lib.hid (fun w => rrest_any s w (by omega))
      clear e hsl
      go_wp2_with fail
      refine (C.out _).mono ?_
      rintro e w' ⟨rfl, rfl⟩
      go_wp2_with fail
      go_ret
      exact ⟨by rw [E.out]; rfl, rfl⟩
end Go.Proofs.YtmchclpkjjmocaaGreat

namespace Go.Proofs.YtmchclpkjjmocaaGreat
open Go.RowKit Go.Shelf
set_option linter.unusedVariables false
attribute [local go_sem] Oper.semAt_some

theorem byte_at {bs : List Nat} (h : ∀ x ∈ bs, x < 256) (k : Nat) : bs.getD k 0 < 256 := by
  rcases Nat.lt_or_ge k bs.length with hk | hk
  · rw [List.getD_eq_getElem?_getD, List.getElem?_eq_getElem hk]
    exact h _ (List.getElem_mem hk)
  · rw [getD_beyond bs k hk]; decide
/-- A word. -/
abbrev W16 := { x : Nat // x ≤ 65535 }
/-- The first words of bytes. -/
def upto (f : Nat → W16) (k : Nat) : List W16 := (List.range k).map f
theorem upto_succ (f : Nat → W16) (k : Nat) : upto f (k + 1) = upto f k ++ [f k] := by simp [upto, List.range_succ]
theorem upto_length (f : Nat → W16) (k : Nat) : (upto f k).length = k := by simp [upto]
def wordF (bs : List Nat) (h : ∀ x ∈ bs, x < 256) (j : Nat) : W16 := ⟨wordAt bs j, wordAt_lt h j⟩
theorem upto_words (bs : List Nat) (h : ∀ x ∈ bs, x < 256) (k : Nat) : (upto (wordF bs h) k).map (·.1) = wordsTo bs k := by
  simp [upto, wordsTo, wordF, Function.comp_def]

/-- What a round keeps: all below n₀, and the block Bn. -/
def KW (n₀ Bn : Nat) (W W' : World) : Prop := Below n₀ W W' ∧ W'.heap[Bn]? = W.heap[Bn]?
theorem KW.box {n₀ Bn : Nat} {W W' : World} (h : KW n₀ Bn W W') : W'.cell? ⟨Bn, 0, none⟩ = W.cell? ⟨Bn, 0, none⟩ := by
  simp only [World.cell?, h.2]
theorem KW.trans {n₀ Bn : Nat} {A B C : World} (h : KW n₀ Bn A B) (k : KW n₀ Bn B C) : KW n₀ Bn A C := ⟨h.1.trans k.1, k.2.trans h.2⟩

/-- The iterator's body, over bytes in memory. -/
theorem words1_in (l Bn n₀ b o n cap : Nat) (bs : List Nat) (hby : ∀ x ∈ bs, x < 256) (hlen : bs.length = n) (hn : n ≤ 140737488355328) (hb : b < n₀) (J Jx : List W16 → World → Prop)
    (hY : ∀ pre x W, J pre W → pre.length < wcount n → YieldAt Fence.wide 3 Tryz.prog l #[.int .u16 (x.1 : Int)] W fun e W' =>
      (e = .returned (.bool true) ∧ J (pre ++ [x]) W' ∧ KW n₀ Bn W W') ∨ (e = .returned (.bool false) ∧ Jx (pre ++ [x]) W'))
    (W : World) (hBn : W.cell? ⟨Bn, 0, none⟩ = some (.slice (some ⟨b, o, none⟩) n cap)) (hc : ∀ i, i < n → W.cell? ⟨b, o + i, none⟩ = some (.int .u8 (bs.getD i 0 : Nat))) (h0 : J [] W) :
    CallsIn Fence.wide 4 Tryz.prog 107 #[.func (.yield l) #[] #[], .pointer (some ⟨Bn, 0, none⟩)] W fun e W' => (∃ v, e = .returned v) ∧
      ((∃ ys, ys = upto (wordF bs hby) (wcount n) ∧ J ys W') ∨ (∃ pre, (∃ k, k ≤ wcount n ∧ pre = upto (wordF bs hby) k) ∧ Jx pre W')) := by
  refine callsIn_of_wp Tryz.func107 rfl trivial ?_ rfl
  simp only [Tryz.ntmps107, List.size_toArray, List.length_cons, List.length_nil, Nat.reduceAdd, Nat.reduceSub, Array.replicate_succ, Array.replicate_zero, List.push_toArray, List.append_toArray, List.nil_append, List.cons_append]
  gi_wp2
  gi_loopw [3] (fun i wr => ∃ k p : Nat, k ≤ wcount n ∧ Hid (p = 2 * k) ∧ i = .int .i64 (p : Int) ∧ J (upto (wordF bs hby) k) wr ∧ wr.cell? ⟨Bn, 0, none⟩ = some (.slice (some ⟨b, o, none⟩) n cap) ∧ (∀ i, i < n → wr.cell? ⟨b, o + i, none⟩ = some (.int .u8 (bs.getD i 0 : Nat))))
    (fun i wr => n + 1 - (intOf i).toNat)
  case atStart => exact ⟨0, 0, Nat.zero_le _, rfl, rfl, h0, hBn, hc⟩
  case round =>
    obtain ⟨k, p, hk, hp, rfl, hJ, hB, hcs⟩ := hrel
    have HC := Lib.hid hcs
    by_cases hlt : p < n
    · have hv := hcs p hlt
      obtain ⟨x, hxe⟩ : ∃ x, x = bs.getD p 0 := ⟨_, rfl⟩
      have hx : x < 256 := by rw [hxe]; exact byte_at hby p
      have hkl : k < wcount n := by have := hp.out; unfold wcount; omega
      obtain ⟨fn, tmps, assign, body, hy, hR⟩ := hY (upto (wordF bs hby) k) (wordF bs hby k) wr hJ (by rw [upto_length]; exact hkl)
      by_cases hlt2 : p + 1 < n
      · have hv2 := hcs (p + 1) hlt2
        obtain ⟨y, hye⟩ : ∃ y, y = bs.getD (p + 1) 0 := ⟨_, rfl⟩
        have hy2 : y < 256 := by rw [hye]; exact byte_at hby (p + 1)
        have hwd : (wordF bs hby k).1 = x * 256 + y := by rw [hxe, hye, hp.out]; rfl
        have hor := or8_u16 x y hx hy2
        rw [← hwd] at hor
        rw [← hxe] at hv
        rw [← hye] at hv2
        have HK := Lib.hid hkl
        clear hcs hxe hye hkl hwd hc
        gi_wp2
        refine hR.mono ?_
        rintro e W3 (⟨rfl, hJ3, hk3⟩ | ⟨rfl, hJx3⟩)
        · gi_wp2
          go_roundw
          case rel =>
            refine ⟨k + 1, p + 2, HK.out, by have := hp.out; exact (by omega : p + 2 = 2 * (k + 1)), by go_num, by rw [upto_succ]; exact hJ3, hk3.box.trans hB, fun i hi => (hk3.1.cell (p := ⟨b, o + i, none⟩) hb).trans (HC.out i hi)⟩
          case measure => simp [intOf]; omega
        · gi_wp2
          refine bodyPost_ret (results_none rfl _ _ _) rfl ?_
          exact ⟨⟨_, rfl⟩, .inr ⟨_, ⟨k + 1, HK.out, rfl⟩, by rw [upto_succ]; exact hJx3⟩⟩
      · have hwd : (wordF bs hby k).1 = x * 256 := by
          show wordAt bs k = x * 256
          unfold wordAt
          rw [← hp.out, ← hxe, getD_beyond bs (p + 1) (by omega)]
          omega
        have hwi : (x : Int) * 256 = ((wordF bs hby k).1 : Int) := by rw [hwd]; simp
        rw [← hxe] at hv
        have HK := Lib.hid hkl
        clear hcs hxe hkl hwd hc
        gi_wp2
        refine hR.mono ?_
        rintro e W3 (⟨rfl, hJ3, hk3⟩ | ⟨rfl, hJx3⟩)
        · gi_wp2
          go_roundw
          case rel =>
            refine ⟨k + 1, p + 2, HK.out, by have := hp.out; exact (by omega : p + 2 = 2 * (k + 1)), by go_num, by rw [upto_succ]; exact hJ3, hk3.box.trans hB, fun i hi => (hk3.1.cell (p := ⟨b, o + i, none⟩) hb).trans (HC.out i hi)⟩
          case measure => simp [intOf]; omega
        · gi_wp2
          refine bodyPost_ret (results_none rfl _ _ _) rfl ?_
          exact ⟨⟨_, rfl⟩, .inr ⟨_, ⟨k + 1, HK.out, rfl⟩, by rw [upto_succ]; exact hJx3⟩⟩
    · have hke : k = wcount n := by have := hp.out; unfold wcount at *; omega
      have HKE := Lib.hid hke
      clear hcs hc hke
      gi_wp2
      go_end0
      exact ⟨⟨_, rfl⟩, .inl ⟨_, by rw [HKE.out], hJ⟩⟩

/-- .. over no bytes. -/
theorem words1_none_in (l Bn cap : Nat) (A : Option Addr) (J : List W16 → World → Prop) (W : World) (hBn : W.cell? ⟨Bn, 0, none⟩ = some (.slice A 0 cap)) (h0 : J [] W) :
    CallsIn Fence.wide 4 Tryz.prog 107 #[.func (.yield l) #[] #[], .pointer (some ⟨Bn, 0, none⟩)] W fun e W' => (∃ v, e = .returned v) ∧ J [] W' := by
  refine callsIn_of_wp Tryz.func107 rfl trivial ?_ rfl
  simp only [Tryz.ntmps107, List.size_toArray, List.length_cons, List.length_nil, Nat.reduceAdd, Nat.reduceSub, Array.replicate_succ, Array.replicate_zero, List.push_toArray, List.append_toArray, List.nil_append, List.cons_append]
  gi_wp2
  gi_loopw [3] (fun i wr => i = .int .i64 0 ∧ J [] wr ∧ wr.cell? ⟨Bn, 0, none⟩ = some (.slice A 0 cap)) (fun _ _ => 0)
  case atStart => exact ⟨rfl, h0, hBn⟩
  case round =>
    obtain ⟨rfl, hJs, hB⟩ := hrel
    gi_wp2
    go_end0
    exact ⟨⟨_, rfl⟩, hJs⟩

/-- The maker: the slice is boxed; the function value captures the box. -/
theorem words_in (A : Option Addr) (n cap : Nat) (w : World) :
    CallsIn Fence.wide 4 Tryz.prog 96 #[.slice A n cap] w fun e w' => e = .returned (.func (.func 107) #[] #[.pointer (some ⟨w.heap.size, 0, none⟩)]) ∧ w' = w.alloc (.cells #[.slice A n cap] 22) := by
  refine callsIn_of_wp Tryz.func96 rfl trivial ?_ rfl
  simp only [Tryz.ntmps96, List.size_toArray, List.length_cons, List.length_nil, Nat.reduceAdd, Nat.reduceSub, Array.replicate_succ, Array.replicate_zero, List.push_toArray, List.append_toArray, List.nil_append, List.cons_append]
  gi_wp2
  go_ret
  exact ⟨rfl, rfl⟩

/-- All words in their order, or the first ones. -/
theorem words_stops (Bn n₀ : Nat) (A : Option Addr) (n cap : Nat) (bs : List Nat) (hby : ∀ x ∈ bs, x < 256) (hn : n ≤ 140737488355328) (w : World) (hBn : Bn < w.heap.size) (hn₀ : n₀ ≤ w.heap.size)
    (hc : w.cell? ⟨Bn, 0, none⟩ = some (.slice A n cap)) (hA : Row w A n bs) (hlt : ∀ b o, A = some ⟨b, o, none⟩ → 0 < n → b < n₀) :
    SeqStopsK Fence.wide 4 Tryz.prog 107 #[.pointer (some ⟨Bn, 0, none⟩)] (fun x : W16 => #[Value.int .u16 (x.1 : Int)]) (KW n₀ Bn) (fun ys => ys = upto (wordF bs hby) (wcount n)) (fun pre => True) (wcount n) w := fun l J Jx W hW _ _ hY h0 => by
  have hc' : W.cell? ⟨Bn, 0, none⟩ = some (.slice A n cap) := (hW.cell (p := ⟨Bn, 0, none⟩) hBn).trans hc
  rcases Nat.eq_zero_or_pos n with h | h
  · subst h
    exact (words1_none_in l Bn cap A J W hc' h0).mono fun e W' ⟨he, hj⟩ => ⟨he, .inl ⟨_, rfl, hj⟩⟩
  · obtain ⟨b, o, rfl, hb, hcs⟩ := hA.addr h
    have hb2 := hlt b o rfl h
    refine (words1_in l Bn n₀ b o n cap bs hby hA.len hn hb2 J Jx hY W hc' (fun i hi => (hW.cell (p := ⟨b, o + i, none⟩) (by show b < w.heap.size; omega)).trans (hcs i hi)) h0).mono ?_
    rintro e W' ⟨he, ⟨ys, rfl, hj⟩ | ⟨pre, _, hj⟩⟩
    · exact ⟨he, .inl ⟨_, rfl, hj⟩⟩
    · exact ⟨he, .inr ⟨_, trivial, hj⟩⟩

def osumW (l : List W16) : Nat := osum (l.map (·.1))
theorem osumW_snoc (l : List W16) (x : W16) : osumW (l ++ [x]) = orest (osumW l + x.1) := by
  unfold osumW
  rw [List.map_append, List.map_singleton, osum_snoc]
theorem osumW_le (l : List W16) : osumW l ≤ 65535 := osum_le _ fun x hx => by
  obtain ⟨y, _, rfl⟩ := List.mem_map.1 hx
  exact y.2

set_option maxRecDepth 100000 in
set_option maxHeartbeats 2000000 in
/-- 'Sum' tells the sum of the bytes. -/
theorem osum_any (A : Option Addr) (n cap : Nat) (bs : List Nat) (w : World) (hn : n ≤ 140737488355328) (hA : Row w A n bs) :
    Calls Tryz.prog 76 #[.slice A n cap] w fun e w' => e = .returned (.int .u16 (orest (wsum 0 bs) : Nat)) ∧ Below w.heap.size w w' := by
  have hby := hA.2.1
  refine (callsIn_wide (n := 5)).1 ?_
  refine callsIn_of_wp_marks Tryz.func76 rfl trivial ?_ rfl
  simp only [Tryz.ntmps76, List.size_toArray, List.length_cons, List.length_nil, Nat.reduceAdd, Nat.reduceSub, Array.replicate_succ, Array.replicate_zero, List.push_toArray, List.append_toArray, List.nil_append, List.cons_append]
  gi_wp2_with (refine ⟨trivial, ?_⟩; gi_at_call 96; refine (words_in _ _ _ _).mono ?_; rintro e w' ⟨rfl, rfl⟩)
  have hs : ((w.alloc (.cells #[.int .u16 0] 81)).alloc (.cells #[.slice A n cap] 22)).cell? ⟨w.heap.size, 0, none⟩ = some (.int .u16 0) := by
    rw [cell_of_row _ w.heap.size 0 _ _ _ (heap_alloc2_old w _ _)]; rfl
  have hsf : ((w.alloc (.cells #[.int .u16 0] 81)).alloc (.cells #[.slice A n cap] 22)).frozen? ⟨w.heap.size, 0, none⟩ = false := frozen_of_row _ w.heap.size 0 _ _ (heap_alloc2_old w _ _)
  have hb : ((w.alloc (.cells #[.int .u16 0] 81)).alloc (.cells #[.slice A n cap] 22)).cell? ⟨w.heap.size + 1, 0, none⟩ = some (.slice A n cap) := by
    rw [cell_of_row _ (w.heap.size + 1) 0 _ _ _ (heap_alloc2_new w _ _)]; rfl
  have hB0 : Below w.heap.size w ((w.alloc (.cells #[.int .u16 0] 81)).alloc (.cells #[.slice A n cap] 22)) := ((Below.refl _ w).alloc (Nat.le_refl _) _).alloc (by simp) _
  have hsz : ((w.alloc (.cells #[.int .u16 0] 81)).alloc (.cells #[.slice A n cap] 22)).heap.size = w.heap.size + 2 := by simp
  have hA2 := hA.below hB0
  have hAlt : ∀ b o, A = some ⟨b, o, none⟩ → 0 < n → b < w.heap.size := fun b o e h0 => by
    obtain ⟨b', o', e', hb', _⟩ := hA.addr h0
    rw [e] at e'
    injection e' with e'
    injection e' with e1 e2
    omega
  refine wpIn_rangeFunc_ownF rfl (by omega) (gf := 107) (lb := #[.pointer (some ⟨w.heap.size + 1, 0, none⟩)]) rfl trivial (enters_of Tryz.func107 (by kernel_rfl) rfl)
    (words_stops (w.heap.size + 1) w.heap.size A n cap bs hby hn _ (by simp) (by simp; omega) hb hA2 hAlt) KW.trans
    (fun W l o o' hl h hc hw => ⟨belowK_b (w := (w.alloc (.cells #[.int .u16 0] 81)).alloc (.cells #[.slice A n cap] 22)) (by omega) W l o o' hl h hc hw, World.putObj_heap_other (by omega)⟩) (Below.refl _ _) (fun _ => rfl)
    (fun pre W => (W.cell? ⟨w.heap.size, 0, none⟩ = some (.int .u16 (osumW pre : Nat)) ∧ W.frozen? ⟨w.heap.size, 0, none⟩ = false) ∧ Below w.heap.size w W)
    (fun _ _ _ => False)
    (OwnFrom.and (Own.from (fun s A B row hs hg hr => ⟨cell_kept hs.1 hg hr, (frozen_kept hs.1 hg hr).trans hs.2⟩) _) (ownFrom_below (Nat.le_refl _) (by simp; omega)))
    (fun _ _ _ _ _ hs _ _ => hs)
    ⟨⟨hs, hsf⟩, hB0⟩
    (fun x => { tmps := #[.slice A n cap, undef, .int .u16 0, .pointer (some ⟨w.heap.size, 0, none⟩), .int .u16 (x.1 : Int), .slice A n cap, .func (.func 107) #[] #[.pointer (some ⟨w.heap.size + 1, 0, none⟩)], .int .u16 (x.1 : Int), undef, undef, undef, undef], defers := [] }) ?assign ?body ?done ?stop
  case assign =>
    intro l x W K hK
    gi_wp2
    exact hK
  case body =>
    rintro l pre x W ⟨⟨hc, hf⟩, hB⟩ _
    have hl := osumW_le pre
    have hx := x.2
    gi_wp2_with (refine ⟨trivial, ?_⟩; gi_at_call 97; refine (CallsIn.inRound l (callsIn_wide.2 (oadd_any _ _ _ hl hx))).mono ?_; rintro e w' ⟨rfl, rfl⟩)
    refine ⟨(KeepsOthers.setCell _ _ _), ⟨(Below.refl w.heap.size W).setCell (p := ⟨w.heap.size, 0, none⟩) (Nat.le_refl _) _, heap_setCell_other _ _ _ _ (by simp)⟩, ⟨by rw [osumW_snoc]; exact World.cell?_setCell_same' _ _ _ (by rw [hc]; rfl), by rw [World.frozen?_setCell]; exact hf⟩, hB.setCell (p := ⟨w.heap.size, 0, none⟩) (Nat.le_refl _) _⟩
  case done =>
    rintro D ys W hD rfl ⟨⟨hc, hf⟩, hB⟩ hK
    gi_wp2
    refine ⟨by simp, .inl ⟨_, _, rfl, run_takeDeferred hK, ?_⟩⟩
    have e : osumW (upto (wordF bs hby) (wcount n)) = orest (wsum 0 bs) := by
      unfold osumW
      rw [upto_words, ← hA.len, osum_all]
    exact ⟨_, results_tmp rfl _ _ _, by rw [← e]; rfl, hB.trans (belowK_b (w := w) (Nat.le_refl _) W D _ _ (by omega) hK rfl rfl)⟩
  case stop =>
    rintro D c pre W hD _ h _
    exact h.elim
end Go.Proofs.YtmchclpkjjmocaaGreat

namespace Go.Proofs.YtmchclpkjjmocaaGreat
open Go.RowKit
set_option linter.unusedVariables false

/-- The sum of all but the word at a place. -/
def wrest (bs : List Nat) (a : Nat) : Nat := wsum 0 (bs.take a) + wsum 0 (bs.drop (a + 2))
theorem wsum_splice {bs : List Nat} {a h l : Nat} (ha : a % 2 = 0) (hn : a + 2 ≤ bs.length) : wsum 0 (splice bs a [h, l]) = wrest bs a + (256 * h + l) := by
  unfold splice wrest
  rw [wsum_append, wsum_append, List.length_take, Nat.min_eq_left (by omega), Nat.zero_add, wsum_parity a 0 (by omega) [h, l], wsum_parity (a + [h, l].length) 0 (by simp; omega)]
  have e : wsum 0 [h, l] = 256 * h + l := by simp [wsum]
  rw [e]
  simp only [List.length_cons, List.length_nil, Nat.zero_add, Nat.reduceAdd]
  omega
theorem wsum_split {bs : List Nat} {a : Nat} (ha : a % 2 = 0) (hn : a + 2 ≤ bs.length) : wsum 0 bs = wrest bs a + (256 * bs.getD a 0 + bs.getD (a + 1) 0) := by
  have e1 := wsum_append 0 (bs.take (a + 2)) (bs.drop (a + 2))
  rw [List.take_append_drop, wsum_snoc bs (a + 1) (by omega), wsum_snoc bs a (by omega), if_pos ha, if_neg (by omega), List.length_take, Nat.min_eq_left hn, wsum_parity (0 + (a + 2)) 0 (by omega)] at e1
  unfold wrest
  omega
theorem pb_two (c : Nat) : pb c 2 = [c / 256 % 256, c % 256] := by
  rw [pb_succ, pb_succ]
  simp [pb]
theorem wsum_put {bs : List Nat} {a c : Nat} (ha : a % 2 = 0) (hn : a + 2 ≤ bs.length) (hc : c ≤ 65535) : wsum 0 (splice bs a (pb c 2)) = wrest bs a + c := by
  rw [pb_two, wsum_splice ha hn]
  omega
theorem wrest_splice {bs : List Nat} {a h l : Nat} (hn : a + 2 ≤ bs.length) : wrest (splice bs a [h, l]) a = wrest bs a := by
  unfold wrest splice
  have e1 : (bs.take a).length = a := by rw [List.length_take]; omega
  congr 2
  · rw [List.take_left' e1]
  · have e2 : (bs.take a ++ ([h, l] ++ bs.drop (a + [h, l].length))) = (bs.take a ++ [h, l]) ++ bs.drop (a + 2) := by simp
    rw [e2, List.drop_left' (by simp; omega)]
theorem wrest_put {bs : List Nat} {a c : Nat} (hn : a + 2 ≤ bs.length) : wrest (splice bs a (pb c 2)) a = wrest bs a := by rw [pb_two]; exact wrest_splice hn
/-- Bytes with their checksum in them. -/
def filled (bs : List Nat) (a : Nat) : List Nat := splice (splice bs a (pb 0 2)) a (pb (65535 - orest (wsum 0 (splice bs a (pb 0 2)))) 2)
theorem splice_two_length {bs : List Nat} {a c : Nat} (hn : a + 2 ≤ bs.length) : (splice bs a (pb c 2)).length = bs.length := splice_length (by rw [pb_length]; exact hn)
theorem filled_length {bs : List Nat} {a : Nat} (hn : a + 2 ≤ bs.length) : (filled bs a).length = bs.length := by
  unfold filled
  rw [splice_two_length (by rw [splice_two_length hn]; exact hn), splice_two_length hn]
theorem filled_byte {bs : List Nat} {a : Nat} (h : ∀ x ∈ bs, x < 256) : ∀ x ∈ filled bs a, x < 256 := splice_byte (splice_byte h (pb_byte _ _)) (pb_byte _ _)
theorem filled_good {bs : List Nat} {a : Nat} (ha : a % 2 = 0) (hn : a + 2 ≤ bs.length) : orest (wsum 0 (filled bs a)) = 65535 := by
  unfold filled
  have h0 := wsum_put (c := 0) ha hn (by decide)
  rw [h0, wsum_put ha (by rw [splice_two_length hn]; exact hn) (by omega), wrest_put hn]
  have h1 := orest_le (wrest bs a + 0)
  have h2 := orest_mod (wrest bs a + 0)
  have h3 := orest_null (wrest bs a + 0)
  rw [orest_full]
  omega
end Go.Proofs.YtmchclpkjjmocaaGreat

namespace Go.Proofs.YtmchclpkjjmocaaGreat
open Go.RowKit
set_option linter.unusedVariables false

theorem splice_getD {bs l : List Nat} {a : Nat} (h : a + l.length ≤ bs.length) (i : Nat) : (splice bs a l).getD i 0 = if a ≤ i ∧ i < a + l.length then l.getD (i - a) 0 else bs.getD i 0 := by
  have e1 : (bs.take a).length = a := by rw [List.length_take]; omega
  unfold splice
  simp only [List.getD_eq_getElem?_getD]
  rcases Nat.lt_or_ge i a with h1 | h1
  · rw [if_neg (by omega), List.getElem?_append_left (by omega), List.getElem?_take, if_pos h1]
  · rw [List.getElem?_append_right (by omega), e1]
    rcases Nat.lt_or_ge i (a + l.length) with h2 | h2
    · rw [if_pos ⟨h1, h2⟩, List.getElem?_append_left (by omega)]
    · rw [if_neg (by omega), List.getElem?_append_right (by omega), List.getElem?_drop]
      congr 2
      omega
theorem list_getD_ext {l m : List Nat} (hl : l.length = m.length) (h : ∀ i, l.getD i 0 = m.getD i 0) : l = m := by
  refine List.ext_getElem hl fun i h1 h2 => ?_
  have := h i
  simpa [List.getD_eq_getElem?_getD, List.getElem?_eq_getElem h1, List.getElem?_eq_getElem h2] using this
/-- Two words at two places: in any order. -/
theorem splice_comm {bs l m : List Nat} {a b : Nat} (ha : a + l.length ≤ bs.length) (hb : b + m.length ≤ bs.length) (hd : a + l.length ≤ b ∨ b + m.length ≤ a) : splice (splice bs a l) b m = splice (splice bs b m) a l := by
  have la : (splice bs a l).length = bs.length := splice_length ha
  have lb : (splice bs b m).length = bs.length := splice_length hb
  have ha2 : a + l.length ≤ (splice bs b m).length := by omega
  have hb2 : b + m.length ≤ (splice bs a l).length := by omega
  refine list_getD_ext ((splice_length hb2).trans (la.trans ((splice_length ha2).trans lb).symm)) fun i => ?_
  rw [splice_getD hb2, splice_getD ha2, splice_getD ha, splice_getD hb]
  by_cases h1 : a ≤ i ∧ i < a + l.length
  · rw [if_pos h1, if_pos h1, if_neg (by omega)]
  · rw [if_neg h1, if_neg h1]
end Go.Proofs.YtmchclpkjjmocaaGreat

namespace Go.Proofs.YtmchclpkjjmocaaGreat
open Go.RowKit
set_option linter.unusedVariables false

theorem ocheck_any (A : Option Addr) (n cap : Nat) (bs : List Nat) (w : World) (hn : n ≤ 140737488355328) (hA : Row w A n bs) :
    Calls Tryz.prog 57 #[.slice A n cap] w fun e w' => e = .returned (.int .u16 (65535 - orest (wsum 0 bs) : Nat)) ∧ Below w.heap.size w w' := by
  obtain ⟨s, hs⟩ : ∃ s, s = orest (wsum 0 bs) := ⟨_, rfl⟩
  have C := Lib.hid (osum_any A n cap bs w hn hA)
  rw [← hs] at C ⊢
  have hl : s ≤ 65535 := by rw [hs]; exact orest_le _
  clear hs
  go_enter Tryz.func57, Tryz.ntmps57
  go_wp2_with fail
  refine C.out.mono ?_
  rintro e w' ⟨rfl, hb⟩
  go_wp2_with fail
  go_ret
  refine ⟨?_, hb⟩
  go_num
theorem rcheck_any (A : Option Addr) (n cap : Nat) (bs : List Nat) (w : World) (hn : n ≤ 140737488355328) (hA : Row w A n bs) :
    Calls Tryz.prog 45 #[.slice A n cap] w fun e w' => e = .returned (.int .u16 (65535 - orest (wsum 0 bs) : Nat)) ∧ w = w' := by
  obtain ⟨s, hs⟩ : ∃ s, s = orest (wsum 0 bs) := ⟨_, rfl⟩
  have C := Lib.hid (rsum_any A n cap bs w hn hA)
  rw [← hs] at C ⊢
  have hl : s ≤ 65535 := by rw [hs]; exact orest_le _
  clear hs
  go_enter Tryz.func45, Tryz.ntmps45
  go_wp2_with fail
  refine C.out.mono ?_
  rintro e w' ⟨rfl, rfl⟩
  go_wp2_with fail
  go_ret
  refine ⟨?_, rfl⟩
  go_num
theorem ogood_any (A : Option Addr) (n cap : Nat) (bs : List Nat) (t : Bool) (w : World) (hn : n ≤ 140737488355328) (hA : Row w A n bs) (ht : Hid (decide (orest (wsum 0 bs) = 65535) = t)) :
    Calls Tryz.prog 104 #[.slice A n cap] w fun e w' => e = .returned (.bool t) ∧ Below w.heap.size w w' := by
  obtain ⟨s, hs⟩ : ∃ s, s = orest (wsum 0 bs) := ⟨_, rfl⟩
  have C := Lib.hid (osum_any A n cap bs w hn hA)
  rw [← hs] at C ht
  clear hs
  have hq : Hid (((s : Int) == 65535) = t) := by
    show ((s : Int) == 65535) = t
    rw [← ht.out, Bool.eq_iff_iff]
    simp
    omega
  go_enter Tryz.func104, Tryz.ntmps104
  go_wp2_with fail
  refine C.out.mono ?_
  rintro e w' ⟨rfl, hb⟩
  go_wp2_with fail
  go_ret
  exact ⟨by rw [← hq.out]; rfl, hb⟩
theorem rgood_any (A : Option Addr) (n cap : Nat) (bs : List Nat) (t : Bool) (w : World) (hn : n ≤ 140737488355328) (hA : Row w A n bs) (ht : Hid (decide (orest (wsum 0 bs) = 65535) = t)) :
    Calls Tryz.prog 78 #[.slice A n cap] w fun e w' => e = .returned (.bool t) ∧ w = w' := by
  obtain ⟨s, hs⟩ : ∃ s, s = orest (wsum 0 bs) := ⟨_, rfl⟩
  have C := Lib.hid (rsum_any A n cap bs w hn hA)
  rw [← hs] at C ht
  clear hs
  have hq : Hid (((s : Int) == 65535) = t) := by
    show ((s : Int) == 65535) = t
    rw [← ht.out, Bool.eq_iff_iff]
    simp
    omega
  go_enter Tryz.func78, Tryz.ntmps78
  go_wp2_with fail
  refine C.out.mono ?_
  rintro e w' ⟨rfl, rfl⟩
  go_wp2_with fail
  go_ret
  exact ⟨by rw [← hq.out]; rfl, rfl⟩

theorem ofill_range (A : Option Addr) (n cap : Nat) (a : Int) (w : World) (h : a < 0 ∨ a % 2 ≠ 0) :
    Calls Tryz.prog 38 #[.slice A n cap, .int .i64 a] w fun e w' => e = .returned (.tuple #[.slice none 0 0, .int .i64 1]) ∧ w = w' := by
  by_cases h0 : a < 0
  · clear h
    go_enter Tryz.func38, Tryz.ntmps38
    go_wp2_with fail
    go_ret2
    exact ⟨rfl, rfl⟩
  · have q : (a % 2 != 0) = true := by rw [bne_iff_ne]; omega
    have h1 : 0 ≤ a := by omega
    clear h h0
    go_enter Tryz.func38, Tryz.ntmps38
    go_wp2_with fail
    go_ret2
    exact ⟨rfl, rfl⟩
theorem ofill_short (A : Option Addr) (n cap : Nat) (a : Nat) (w : World) (hn : n ≤ 9223372036854775807) (ha : a ≤ 9223372036854775807) (h2 : a % 2 = 0) (h : n < a + 2) :
    Calls Tryz.prog 38 #[.slice A n cap, .int .i64 a] w fun e w' => e = .returned (.tuple #[.slice none 0 0, .int .i64 2]) ∧ w = w' := by
  have C := Lib.hid (put_short A n cap 0 a 2 w hn ha (by decide) (by decide) (by decide) h)
  have q : ((a : Int) % 2 != 0) = false := by rw [bne_eq_false_iff_eq]; omega
  clear h h2
  go_enter Tryz.func38, Tryz.ntmps38
  go_wp2_with fail
  refine C.out.mono ?_
  rintro e w' ⟨rfl, rfl⟩
  go_wp2_with fail
  go_ret2
  exact ⟨rfl, rfl⟩
theorem ofill_ok (A : Option Addr) (n cap : Nat) (a : Nat) (bs : List Nat) (w : World) (hcap : n ≤ cap) (hreach : n ≤ 140737488355328) (h2 : a % 2 = 0) (h : a + 2 ≤ n) (hA : Row w A n bs) :
    Calls Tryz.prog 38 #[.slice A n cap, .int .i64 a] w (TwoTo w (filled bs a) 0) := by
  have hby := hA.2.1
  have hlen := hA.len
  have C1 := Lib.hid ((put_new A n cap 0 a 2 bs w hcap hreach (by decide) (by decide) (by decide) h hA).mono (two_own (splice_byte hby (pb_byte 0 2))))
  have hl2 : (splice bs a (pb 0 2)).length = n := by rw [splice_two_length (by omega)]; exact hlen
  have hb2 : ∀ x ∈ splice bs a (pb 0 2), x < 256 := splice_byte hby (pb_byte 0 2)
  have HF : Hid (filled bs a = splice (splice bs a (pb 0 2)) a (pb (65535 - orest (wsum 0 (splice bs a (pb 0 2)))) 2)) := rfl
  generalize splice bs a (pb 0 2) = bl at *
  have hol := orest_le (wsum 0 bl)
  obtain ⟨c, hc⟩ : ∃ c, c = 65535 - orest (wsum 0 bl) := ⟨_, rfl⟩
  have hcl : c ≤ 65535 := by omega
  rw [← hc] at HF
  have q : ((a : Int) % 2 != 0) = false := by rw [bne_eq_false_iff_eq]; omega
  have HL2 := Lib.hid hl2
  have C2 : Hid (∀ (w1 : World) (B : Option Addr) (d : Nat), Row w1 B n bl → Calls Tryz.prog 57 #[.slice B n d] w1 fun e w' => e = .returned (.int .u16 c) ∧ Below w1.heap.size w1 w') := fun w1 B d hR => by
    rw [hc]
    exact (ocheck_any B n d bl w1 (by omega) hR)
  have C3 : Hid (∀ (w1 : World) (B : Option Addr) (d : Nat), n ≤ d → Row w1 B n bl → Calls Tryz.prog 35 #[.slice B n d, .int .i64 a, .int .i64 2, .int .u64 c] w1 (TwoTo w1 (filled bs a) 0)) := fun w1 B d hd hR => by
    rw [HF.out]
    exact (put_new B n d c a 2 bl w1 hd hreach (by decide) (by decide) (by omega) h hR).mono (two_own (splice_byte hb2 (pb_byte c 2)))
  clear hc hol h2 hA
  go_enter Tryz.func38, Tryz.ntmps38
  go_wp2_with fail
  refine C1.out.mono ?_
  rintro e w1 ⟨v, rfl, ⟨B, d, rfl, hd, hR⟩, b1⟩
  rw [HL2.out] at hd hR ⊢
  have HR := Lib.hid hR
  have HD := Lib.hid hd
  have B1 := Lib.hid b1
  clear hR hd b1
  go_wp2_with fail
  refine (C2.out _ _ _ HR.out).mono ?_
  rintro e w2 ⟨rfl, b2⟩
  have HR := Lib.hid (HR.out.below b2)
  have B2 := Lib.hid (below_both B1.out b2)
  clear b2 B1
  go_wp2_with fail
  refine (C3.out _ _ _ HD.out HR.out).mono ?_
  rintro e w3 ⟨v, rfl, hv, b3⟩
  have HV := Lib.hid hv
  have B3 := Lib.hid (below_both B2.out b3)
  clear hv b3 B2
  go_wp2_with fail
  go_ret2
  exact ⟨v, rfl, HV.out, B3.out⟩
theorem rfill_range (A : Option Addr) (n cap : Nat) (a : Int) (w : World) (h : a < 0 ∨ a % 2 ≠ 0) :
    Calls Tryz.prog 29 #[.slice A n cap, .int .i64 a] w fun e w' => e = .returned (.tuple #[.slice none 0 0, .int .i64 1]) ∧ w = w' := by
  by_cases h0 : a < 0
  · clear h
    go_enter Tryz.func29, Tryz.ntmps29
    go_wp2_with fail
    go_ret2
    exact ⟨rfl, rfl⟩
  · have q : (a % 2 != 0) = true := by rw [bne_iff_ne]; omega
    have h1 : 0 ≤ a := by omega
    clear h h0
    go_enter Tryz.func29, Tryz.ntmps29
    go_wp2_with fail
    go_ret2
    exact ⟨rfl, rfl⟩
theorem rfill_short (A : Option Addr) (n cap : Nat) (a : Nat) (w : World) (hn : n ≤ 9223372036854775807) (ha : a ≤ 9223372036854775807) (h2 : a % 2 = 0) (h : n < a + 2) :
    Calls Tryz.prog 29 #[.slice A n cap, .int .i64 a] w fun e w' => e = .returned (.tuple #[.slice none 0 0, .int .i64 2]) ∧ w = w' := by
  have C := Lib.hid (rput_short A n cap 0 a 2 w hn ha (by decide) (by decide) (by decide) (by decide) h)
  have q : ((a : Int) % 2 != 0) = false := by rw [bne_eq_false_iff_eq]; omega
  clear h h2
  go_enter Tryz.func29, Tryz.ntmps29
  go_wp2_with fail
  refine C.out.mono ?_
  rintro e w' ⟨rfl, rfl⟩
  go_wp2_with fail
  go_ret2
  exact ⟨rfl, rfl⟩
theorem rfill_ok (A : Option Addr) (n cap : Nat) (a : Nat) (bs : List Nat) (w : World) (hcap : n ≤ cap) (hreach : n ≤ 140737488355328) (h2 : a % 2 = 0) (h : a + 2 ≤ n) (hA : Row w A n bs) :
    Calls Tryz.prog 29 #[.slice A n cap, .int .i64 a] w (TwoTo w (filled bs a) 0) := by
  have hby := hA.2.1
  have hlen := hA.len
  have C1 := Lib.hid ((rput_new A n cap 0 a 2 bs w hcap hreach (by decide) (by decide) (by decide) (by decide) h hA).mono (two_out (splice_byte hby (pb_byte 0 2))))
  have hl2 : (splice bs a (pb 0 2)).length = n := by rw [splice_two_length (by omega)]; exact hlen
  have hb2 : ∀ x ∈ splice bs a (pb 0 2), x < 256 := splice_byte hby (pb_byte 0 2)
  have HF : Hid (filled bs a = splice (splice bs a (pb 0 2)) a (pb (65535 - orest (wsum 0 (splice bs a (pb 0 2)))) 2)) := rfl
  generalize splice bs a (pb 0 2) = bl at *
  have hol := orest_le (wsum 0 bl)
  obtain ⟨c, hc⟩ : ∃ c, c = 65535 - orest (wsum 0 bl) := ⟨_, rfl⟩
  have hcl : c ≤ 65535 := by omega
  rw [← hc] at HF
  have q : ((a : Int) % 2 != 0) = false := by rw [bne_eq_false_iff_eq]; omega
  have HL2 := Lib.hid hl2
  have C2 : Hid (∀ (w1 : World) (B : Option Addr) (d : Nat), Row w1 B n bl → Calls Tryz.prog 45 #[.slice B n d] w1 fun e w' => e = .returned (.int .u16 c) ∧ Below w1.heap.size w1 w') := fun w1 B d hR => by
    rw [hc]
    exact (rcheck_any B n d bl w1 (by omega) hR).mono fun e w' ⟨h1, h2⟩ => ⟨h1, by rw [← h2]; exact Below.refl _ _⟩
  have C3 : Hid (∀ (w1 : World) (B : Option Addr) (d : Nat), n ≤ d → Row w1 B n bl → Calls Tryz.prog 44 #[.slice B n d, .int .i64 a, .int .i64 2, .int .u64 c] w1 (TwoTo w1 (filled bs a) 0)) := fun w1 B d hd hR => by
    rw [HF.out]
    exact (rput_new B n d c a 2 bl w1 hd hreach (by decide) (by decide) (by omega) (by omega) h hR).mono (two_out (splice_byte hb2 (pb_byte c 2)))
  clear hc hol h2 hA
  go_enter Tryz.func29, Tryz.ntmps29
  go_wp2_with fail
  refine C1.out.mono ?_
  rintro e w1 ⟨v, rfl, ⟨B, d, rfl, hd, hR⟩, b1⟩
  rw [HL2.out] at hd hR ⊢
  have HR := Lib.hid hR
  have HD := Lib.hid hd
  have B1 := Lib.hid b1
  clear hR hd b1
  go_wp2_with fail
  refine (C2.out _ _ _ HR.out).mono ?_
  rintro e w2 ⟨rfl, b2⟩
  have HR := Lib.hid (HR.out.below b2)
  have B2 := Lib.hid (below_both B1.out b2)
  clear b2 B1
  go_wp2_with fail
  refine (C3.out _ _ _ HD.out HR.out).mono ?_
  rintro e w3 ⟨v, rfl, hv, b3⟩
  have HV := Lib.hid hv
  have B3 := Lib.hid (below_both B2.out b3)
  clear hv b3 B2
  go_wp2_with fail
  go_ret2
  exact ⟨v, rfl, HV.out, B3.out⟩

end Go.Proofs.YtmchclpkjjmocaaGreat

namespace Go.Proofs.YtmchclpkjjmocaaGreat
open Go.RowKit
set_option linter.unusedVariables false

/-- It answers a new block that is these bytes, whole. -/
def OwnTo (w : World) (l : List Nat) (e : Ending) (w' : World) : Prop := ∃ g, w.heap.size ≤ g ∧ e = .returned (.tuple #[.slice (some ⟨g, 0, none⟩) l.length l.length, .int .i64 0]) ∧ Own w' g l ∧ Below w.heap.size w w'
theorem own_put {w : World} {l : List Nat} : ∀ e w', PutTo w l e w' → OwnTo w l e w' := fun e w' ⟨h1, h2, h3⟩ => ⟨w.heap.size, Nat.le_refl _, h1, h2, h3⟩
theorem ofill_own (A : Option Addr) (n cap : Nat) (a : Nat) (bs : List Nat) (w : World) (hcap : n ≤ cap) (hreach : n ≤ 140737488355328) (h2 : a % 2 = 0) (h : a + 2 ≤ n) (hA : Row w A n bs) :
    Calls Tryz.prog 38 #[.slice A n cap, .int .i64 a] w (OwnTo w (filled bs a)) := by
  have hby := hA.2.1
  have hlen := hA.len
  have C1 := Lib.hid ((put_new A n cap 0 a 2 bs w hcap hreach (by decide) (by decide) (by decide) h hA).mono (two_own (splice_byte hby (pb_byte 0 2))))
  have hl2 : (splice bs a (pb 0 2)).length = n := by rw [splice_two_length (by omega)]; exact hlen
  have hb2 : ∀ x ∈ splice bs a (pb 0 2), x < 256 := splice_byte hby (pb_byte 0 2)
  have HF : Hid (filled bs a = splice (splice bs a (pb 0 2)) a (pb (65535 - orest (wsum 0 (splice bs a (pb 0 2)))) 2)) := rfl
  generalize splice bs a (pb 0 2) = bl at *
  have hol := orest_le (wsum 0 bl)
  obtain ⟨c, hc⟩ : ∃ c, c = 65535 - orest (wsum 0 bl) := ⟨_, rfl⟩
  have hcl : c ≤ 65535 := by omega
  rw [← hc] at HF
  have q : ((a : Int) % 2 != 0) = false := by rw [bne_eq_false_iff_eq]; omega
  have HL2 := Lib.hid hl2
  have C2 : Hid (∀ (w1 : World) (B : Option Addr) (d : Nat), Row w1 B n bl → Calls Tryz.prog 57 #[.slice B n d] w1 fun e w' => e = .returned (.int .u16 c) ∧ Below w1.heap.size w1 w') := fun w1 B d hR => by
    rw [hc]
    exact (ocheck_any B n d bl w1 (by omega) hR)
  have C3 : Hid (∀ (w1 : World) (B : Option Addr) (d : Nat), n ≤ d → Row w1 B n bl → Calls Tryz.prog 35 #[.slice B n d, .int .i64 a, .int .i64 2, .int .u64 c] w1 (OwnTo w1 (filled bs a))) := fun w1 B d hd hR => by
    rw [HF.out]
    exact (put_new B n d c a 2 bl w1 hd hreach (by decide) (by decide) (by omega) h hR).mono own_put
  clear hc hol h2 hA
  go_enter Tryz.func38, Tryz.ntmps38
  go_wp2_with fail
  refine C1.out.mono ?_
  rintro e w1 ⟨v, rfl, ⟨B, d, rfl, hd, hR⟩, b1⟩
  rw [HL2.out] at hd hR ⊢
  have HR := Lib.hid hR
  have HD := Lib.hid hd
  have B1 := Lib.hid b1
  clear hR hd b1
  go_wp2_with fail
  refine (C2.out _ _ _ HR.out).mono ?_
  rintro e w2 ⟨rfl, b2⟩
  have HR := Lib.hid (HR.out.below b2)
  have B2 := Lib.hid (below_both B1.out b2)
  clear b2 B1
  go_wp2_with fail
  refine (C3.out _ _ _ HD.out HR.out).mono ?_
  rintro e w3 ⟨g, hg, rfl, hv, b3⟩
  have HV := Lib.hid hv
  have B2s := Lib.hid B2.out.size
  have B3 := Lib.hid (below_both B2.out b3)
  clear hv b3 B2
  go_wp2_with fail
  go_ret2
  exact ⟨g, Nat.le_trans B2s.out hg, rfl, HV.out, B3.out⟩
theorem Own.val {w : World} {g : Nat} {l : List Nat} (h : Own w g l) (hb : ∀ x ∈ l, x < 256) : ByteVal w (.slice (some ⟨g, 0, none⟩) l.length l.length) l := ⟨_, _, rfl, Nat.le_refl _, h.row hb⟩
end Go.Proofs.YtmchclpkjjmocaaGreat
