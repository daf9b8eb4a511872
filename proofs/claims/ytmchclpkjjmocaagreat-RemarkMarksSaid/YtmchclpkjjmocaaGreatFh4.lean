/-
  The contract of fourhead's Seal at a header that Read tells.
  The fields of a sealed copy whose second byte was put.
  Equality of two headers' fields that are the same.
-/
import Derived.Test.YtmchclpkjjmocaaGreatFh1
import Derived.Test.YtmchclpkjjmocaaGreatOne1
import Derived.Test.YtmchclpkjjmocaaGreatApp
import Derived.DeepKeys
namespace Go.Proofs.YtmchclpkjjmocaaGreat
open Go.RowKit
set_option linter.unusedVariables false

/-- Bytes with their header's checksum in them. -/
def fhseal (bs : List Nat) (m : Nat) : List Nat := filled (bs.take m) 10 ++ bs.drop m
theorem own_out {B : Nat} {w : World} {g : Nat} {l : List Nat} (h : Own w g l) (hB : B ≤ g) (hl : l.length ≤ maxLen) : OutIs B w (.slice (some ⟨g, 0, none⟩) l.length l.length) l := by
  refine ⟨by simp [bcells_length], .inr ⟨g, l.length, (bcells l).toArray, rfl, hB, h, Nat.le_refl _, hl, by simp [bcells_length], ?_⟩⟩
  simp [List.take_of_length_le, bcells_length]
def SealIs (w : World) (l : List Nat) (e : Ending) (w' : World) : Prop := ∃ v, e = .returned (.tuple #[v, .int .i64 0]) ∧ OutIs w.heap.size w' v l ∧ Below w.heap.size w w'
set_option maxRecDepth 10000 in
set_option maxHeartbeats 3200000 in
theorem fhseal_ok (A : Option Addr) (n c : Nat) (bs : List Nat) (w : World) (hn2 : n ≤ 140737488355328) (hc : n ≤ c) (hR : Row w A n bs) (hd : fhdef n bs = 0) :
    Calls Tryz.prog 25 #[.slice A n c] w (SealIs w (fhseal bs (4 * (bs.getD 0 0 % 16)))) := by
  have C := Lib.hid (fhread_any A n c bs w hn2 hc hR)
  unfold ReadIs at C
  obtain ⟨X, hX⟩ : ∃ X, X = fhval n bs := ⟨_, rfl⟩
  have hXl : X.length = 17 := by rw [hX]; exact fhval_len n bs
  have hXo : ∀ v ∈ X, v.oneCell' = true := by rw [hX]; exact fhval_one n bs
  rw [← hX, hd] at C
  clear hX
  have hm0 : n ≠ 0 ∧ ¬ n < 20 ∧ ¬ bs.getD 0 0 % 16 < 5 ∧ ¬ n < 4 * (bs.getD 0 0 % 16) := by
    unfold fhdef at hd
    split at hd
    · cases hd
    split at hd
    · cases hd
    split at hd
    · cases hd
    split at hd
    · cases hd
    split at hd
    · cases hd
    exact ⟨by assumption, by assumption, by assumption, by assumption⟩
  have HSZ := Lib.hid (fun w hR => fhsize_any A n c bs w (by omega) hn2 hR)
  obtain ⟨b, o, rfl, _, _⟩ := hR.addr (by omega)
  obtain ⟨m, hm⟩ : ∃ m, 4 * (bs.getD 0 0 % 16) = m := ⟨_, rfl⟩
  rw [hm] at HSZ hm0 ⊢
  obtain ⟨k0, k1, k2, k3⟩ := hm0
  have m20 : 20 ≤ m := by omega
  have hmn : m ≤ n := by omega
  have HR := Lib.hid hR
  have HF : Hid (∀ w, Row w (some ⟨b, o, none⟩) n bs → Calls Tryz.prog 38 #[.slice (some ⟨b, o, none⟩) m c, .int .i64 10] w (OwnTo w (filled (bs.take m) 10))) := fun w h => by
    have hp := h.part 0 m (by omega)
    rw [List.drop_zero, Nat.add_zero] at hp
    exact ofill_own (some ⟨b, o, none⟩) m c 10 (bs.take m) w (by omega) (by omega) (by decide) (by omega) hp
  have hfl : Hid ((filled (bs.take m) 10).length = m) := by
    show _ = _
    rw [filled_length (by rw [List.length_take, hR.1]; omega), List.length_take, hR.1]
    omega
  have HS : Hid (fhseal bs m = filled (bs.take m) 10 ++ bs.drop m) := rfl
  have HT : Hid (∀ w, Row w (some ⟨b, o, none⟩) n bs → Row w (if c = m then some ⟨b, o, none⟩ else some ⟨b, o + m, none⟩) (n - m) (bs.drop m)) := fun w h => by
    split
    · have hnm : n = m := by omega
      subst hnm
      rw [Nat.sub_self, List.drop_of_length_le (by rw [h.1]; exact Nat.le_refl _)]
      exact Row.nil _ _
    · have hp := h.part m (n - m) (by omega)
      rw [List.take_of_length_le (by rw [List.length_drop, h.1]; exact Nat.le_refl _)] at hp
      exact hp
  generalize filled (bs.take m) 10 = F at *
  have mI : (m : Int) ≤ (n : Int) := by omega
  have mcI : (m : Int) ≤ (c : Int) := by omega
  have mc : m ≤ c := by omega
  have sI : ((n : Int) - (m : Int)).toNat = n - m := by omega
  have m0 : (0 : Int) ≤ (m : Int) := by omega
  have HN := Lib.hid (And.intro hn2 hmn)
  clear hm k0 k1 k2 k3 hd hR hn2 hc m20
  go_enter Tryz.func25, Tryz.ntmps25
  go_wp2_with fail
  refine C.out.mono ?_
  rintro e w1 ⟨rfl, b1⟩
  obtain ⟨hst, hA, hb⟩ := four_stored w1 X hXl hXo
  have B1 := Lib.hid (below_both b1 hb)
  clear b1 hA hb
  go_upto_region 2 with fail
  clear hst
  obtain ⟨W, eW⟩ : ∃ W, W = (w1.alloc (.cells #[.int .i64 0, .int .i64 0, .int .i64 0, .int .i64 0, .int .i64 0, .int .i64 0, .int .i64 0, .int .i64 0, .int .i64 0, .int .u8 0, .int .u8 0, .int .u8 0, .int .u8 0, .int .u8 0, .int .u8 0, .int .u8 0, .int .u8 0] 63)).setCells w1.heap.size 0 X := ⟨_, rfl⟩
  rw [← eW] at B1 ⊢
  clear eW
  have R1 := Lib.hid (HR.out.below B1.out)
  go_wp2_with fail
  refine (HSZ.out _ R1.out).mono ?_
  rintro e w' ⟨rfl, rfl⟩
  go_wp2_with fail
  refine (HF.out _ R1.out).mono ?_
  rintro e w2 ⟨g, hg, rfl, ho, b2⟩
  have O2 := Lib.hid (own_out (B := w.heap.size) ho (Nat.le_trans B1.out.size hg) (by rw [hfl.out]; have := HN.out; unfold maxLen; omega))
  have R2 := Lib.hid (R1.out.below b2)
  have B2 := Lib.hid (below_both B1.out b2)
  clear b2 ho hg
  rw [hfl.out] at O2 ⊢
  go_wp2_with fail
  refine (HSZ.out _ R2.out).mono ?_
  rintro e w' ⟨rfl, rfl⟩
  go_wp2_with (at_builtin; refine wpList_append_row_any (B := w.heap.size) (W := w) rfl (.tmp 23) (.tmp 27) rfl rfl rfl rfl O2.out (HT.out _ R2.out) B2.out B2.out.size (by rw [hfl.out]; have := HN.out; omega) ?_; intro v3 w3 ho3 hb3; rw [← HS.out] at ho3; have O3 := Lib.hid ho3; have B3 := Lib.hid hb3; clear ho3 hb3)
  all_goals
    go_ret2
    exact ⟨_, rfl, O3.out, B3.out⟩
end Go.Proofs.YtmchclpkjjmocaaGreat

namespace Go.Proofs.YtmchclpkjjmocaaGreat
set_option linter.unusedVariables false

theorem filled_out (X : List Nat) (f i : Nat) (hfn : f + 2 ≤ X.length) (hi : i < f ∨ f + 2 ≤ i) : (filled X f).getD i 0 = X.getD i 0 := by
  unfold filled
  rw [splice_getD (by rw [pb_length, splice_two_length hfn]; exact hfn), if_neg (by rw [pb_length]; omega), splice_getD (by rw [pb_length]; exact hfn), if_neg (by rw [pb_length]; omega)]
theorem fhseal_length (L : List Nat) (n m : Nat) (hl : L.length = n) (hm : 12 ≤ m) (hmn : m ≤ n) : (fhseal L m).length = n := by
  unfold fhseal
  rw [List.length_append, filled_length (by rw [List.length_take]; omega), List.length_take, List.length_drop]
  omega
theorem fhseal_byte {L : List Nat} (m : Nat) (h : ∀ x ∈ L, x < 256) : ∀ x ∈ fhseal L m, x < 256 := by
  unfold fhseal
  intro x hx
  rcases List.mem_append.1 hx with hx | hx
  · exact filled_byte (fun y hy => h y (List.mem_of_mem_take hy)) x hx
  · exact h x (List.mem_of_mem_drop hx)
theorem fhseal_out (L : List Nat) (n m i : Nat) (hl : L.length = n) (hm : 12 ≤ m) (hmn : m ≤ n) (hi : i < 10 ∨ 12 ≤ i) (hin : i < m) : (fhseal L m).getD i 0 = L.getD i 0 := by
  unfold fhseal
  have h1 : (filled (L.take m) 10).length = m := by rw [filled_length (by rw [List.length_take]; omega), List.length_take]; omega
  rw [List.getD_eq_getElem?_getD, List.getElem?_append_left (by omega), ← List.getD_eq_getElem?_getD, filled_out _ _ _ (by rw [List.length_take]; omega) hi, List.getD_eq_getElem?_getD, List.getD_eq_getElem?_getD, List.getElem?_take_of_lt hin]
theorem fhput_getD (bs : List Nat) (j i : Nat) (h : 1 < bs.length) : (bs.set 1 j).getD i 0 = if i = 1 then j else bs.getD i 0 := by
  rw [List.getD_eq_getElem?_getD, List.getD_eq_getElem?_getD, List.getElem?_set]
  by_cases h1 : i = 1
  · subst h1
    simp [h]
  · rw [if_neg (fun e => h1 e.symm), if_neg h1]
/-- What the sealed copy is. -/
structure Sealed (n m : Nat) (bs : List Nat) (j : Nat) (S : List Nat) : Prop where
  len : S.length = n
  byte : ∀ x ∈ S, x < 256
  one : S.getD 1 0 = j
  same : ∀ i, i < 20 → i ≠ 1 → i ≠ 10 → i ≠ 11 → S.getD i 0 = bs.getD i 0
theorem sealed_is {bs : List Nat} {n m j : Nat} (hl : bs.length = n) (hb : ∀ x ∈ bs, x < 256) (hm : 20 ≤ m) (hmn : m ≤ n) (hj : j < 256) : Sealed n m bs j (fhseal (bs.set 1 j) m) where
  len := fhseal_length _ n m (by rw [List.length_set]; exact hl) (by omega) hmn
  byte := fhseal_byte m fun x hx => by
    rcases List.mem_or_eq_of_mem_set hx with h | h
    · exact hb x h
    · omega
  one := by rw [fhseal_out _ n m 1 (by rw [List.length_set]; exact hl) (by omega) hmn (by omega) (by omega), fhput_getD _ _ _ (by omega), if_pos rfl]
  same := fun i h1 h2 h3 h4 => by rw [fhseal_out _ n m i (by rw [List.length_set]; exact hl) (by omega) hmn (by omega) (by omega), fhput_getD _ _ _ (by omega), if_neg h2]
theorem Sealed.fields {n m : Nat} {bs : List Nat} {j : Nat} {S : List Nat} (h : Sealed n m bs j S) : fhf S = ((fhf bs).set 1 (.int .i64 (j : Nat))).set 8 (.int .i64 (fhw S 10 : Nat)) := by
  have e := h.same
  have h1 := h.one
  have w2 : fhw S 2 = fhw bs 2 := by unfold fhw; rw [e 2 (by decide) (by decide) (by decide) (by decide), e 3 (by decide) (by decide) (by decide) (by decide)]
  have w4 : fhw S 4 = fhw bs 4 := by unfold fhw; rw [e 4 (by decide) (by decide) (by decide) (by decide), e 5 (by decide) (by decide) (by decide) (by decide)]
  have w6 : fhw S 6 = fhw bs 6 := by unfold fhw; rw [e 6 (by decide) (by decide) (by decide) (by decide), e 7 (by decide) (by decide) (by decide) (by decide)]
  generalize hw : fhw S 10 = s10
  show fhf S = [_, _, _, _, _, _, _, _, _, _, _, _, _, _, _, _, _]
  unfold fhf
  rw [hw, w2, w4, w6, h1, e 0 (by decide) (by decide) (by decide) (by decide), e 6 (by decide) (by decide) (by decide) (by decide), e 8 (by decide) (by decide) (by decide) (by decide), e 9 (by decide) (by decide) (by decide) (by decide),
    e 12 (by decide) (by decide) (by decide) (by decide), e 13 (by decide) (by decide) (by decide) (by decide), e 14 (by decide) (by decide) (by decide) (by decide), e 15 (by decide) (by decide) (by decide) (by decide),
    e 16 (by decide) (by decide) (by decide) (by decide), e 17 (by decide) (by decide) (by decide) (by decide), e 18 (by decide) (by decide) (by decide) (by decide), e 19 (by decide) (by decide) (by decide) (by decide)]
/-- It is a header still. -/
theorem Sealed.def {n m : Nat} {bs : List Nat} {j : Nat} {S : List Nat} (h : Sealed n m bs j S) : fhdef n S = fhdef n bs := by
  unfold fhdef
  rw [h.same 0 (by decide) (by decide) (by decide) (by decide)]
/-- With Tos and Sum put back it is the same header. -/
theorem Sealed.back {n m : Nat} {bs : List Nat} {j : Nat} {S : List Nat} (h : Sealed n m bs j S) : ((fhf S).set 1 (.int .i64 (bs.getD 1 0 : Nat))).set 8 (.int .i64 (fhw bs 10 : Nat)) = fhf bs := by
  rw [h.fields]
  rfl
end Go.Proofs.YtmchclpkjjmocaaGreat

namespace Go.Proofs.YtmchclpkjjmocaaGreat
open Go.RowKit
set_option linter.unusedVariables false

theorem lit_i64 {n : Nat} (h : n < 65536) : (Lit.int .i64 (n : Int)).wf = true := by
  have h1 : IntKind.min .i64 ≤ (n : Int) := by show (-9223372036854775808 : Int) ≤ _; omega
  have h2 : (n : Int) ≤ IntKind.max .i64 := by show _ ≤ (9223372036854775807 : Int); omega
  show (decide (IntKind.min .i64 ≤ (n : Int)) && decide ((n : Int) ≤ IntKind.max .i64)) = true
  rw [decide_eq_true h1, decide_eq_true h2]
  rfl
theorem lit_u8 {n : Nat} (h : n < 256) : (Lit.int .u8 (n : Int)).wf = true := by
  have h1 : IntKind.min .u8 ≤ (n : Int) := by show (0 : Int) ≤ _; omega
  have h2 : (n : Int) ≤ IntKind.max .u8 := by show _ ≤ (255 : Int); omega
  show (decide (IntKind.min .u8 ≤ (n : Int)) && decide ((n : Int) ≤ IntKind.max .u8)) = true
  rw [decide_eq_true h1, decide_eq_true h2]
  rfl
theorem cells_four : Tryz.prog.cellsOf 63 = 17 := by kernel_rfl
theorem cells_a4 : Tryz.prog.cellsOf 61 = 4 := by kernel_rfl
theorem cells_int : Tryz.prog.cellsOf 3 = 1 := by kernel_rfl
theorem cells_u8 : Tryz.prog.cellsOf 5 = 1 := by kernel_rfl
theorem key_i64 (d : Nat) {n : Nat} (h : n < 65536) : Tryz.prog.keyLits (d + 1) 3 [.int .i64 (n : Int)] = some [.int .i64 (n : Int)] := by
  unfold Program.keyLits
  rw [Tryz.underlying3]
  simp [lit_i64 h]
theorem key_u8 (d : Nat) {n : Nat} (h : n < 256) : Tryz.prog.keyLits (d + 1) 5 [.int .u8 (n : Int)] = some [.int .u8 (n : Int)] := by
  unfold Program.keyLits
  rw [Tryz.underlying5]
  simp [lit_u8 h]
theorem key_a4 (d : Nat) {a b c e : Nat} (ha : a < 256) (hb : b < 256) (hc : c < 256) (he : e < 256) : Tryz.prog.keyLits (d + 2) 61 [.int .u8 (a : Int), .int .u8 (b : Int), .int .u8 (c : Int), .int .u8 (e : Int)] = some [.int .u8 (a : Int), .int .u8 (b : Int), .int .u8 (c : Int), .int .u8 (e : Int)] := by
  unfold Program.keyLits
  rw [Tryz.underlying61]
  simp [cells_a4, cells_u8, List.range_succ, key_u8 d ha, key_u8 d hb, key_u8 d hc, key_u8 d he]
set_option maxRecDepth 10000 in
theorem key_fhf {bs : List Nat} (h : ∀ k, bs.getD k 0 < 256) : ∃ ls, Tryz.prog.keyLits 4 63 (fhf bs) = some ls := by
  have w2 := fhw_lt h 2
  have w4 := fhw_lt h 4
  have w6 : fhw bs 6 % 8192 < 65536 := by omega
  have w10 := fhw_lt h 10
  have b0 : bs.getD 0 0 % 16 < 65536 := by omega
  have b1 : bs.getD 1 0 < 65536 := by have := h 1; omega
  have b6 : bs.getD 6 0 / 32 < 65536 := by have := h 6; omega
  have b8 : bs.getD 8 0 < 65536 := by have := h 8; omega
  have b9 : bs.getD 9 0 < 65536 := by have := h 9; omega
  have k0 := key_i64 2 b0
  have k1 := key_i64 2 b1
  have k2 := key_i64 2 w2
  have k3 := key_i64 2 w4
  have k4 := key_i64 2 b6
  have k5 := key_i64 2 w6
  have k6 := key_i64 2 b8
  have k7 := key_i64 2 b9
  have k8 := key_i64 2 w10
  have k9 := key_a4 1 (h 12) (h 13) (h 14) (h 15)
  have k10 := key_a4 1 (h 16) (h 17) (h 18) (h 19)
  unfold fhf
  generalize bs.getD 0 0 % 16 = x0 at *
  generalize bs.getD 6 0 / 32 = x4 at *
  generalize fhw bs 6 % 8192 = x5 at *
  generalize fhw bs 2 = x2 at *
  generalize fhw bs 4 = x3 at *
  generalize fhw bs 10 = x8 at *
  generalize bs.getD 1 0 = x1 at *
  generalize bs.getD 8 0 = x6 at *
  generalize bs.getD 9 0 = x7 at *
  generalize bs.getD 12 0 = y0 at *
  generalize bs.getD 13 0 = y1 at *
  generalize bs.getD 14 0 = y2 at *
  generalize bs.getD 15 0 = y3 at *
  generalize bs.getD 16 0 = y4 at *
  generalize bs.getD 17 0 = y5 at *
  generalize bs.getD 18 0 = y6 at *
  generalize bs.getD 19 0 = y7 at *
  clear w2 w4 w6 w10 b0 b1 b6 b8 b9 h
  unfold Program.keyLits
  rw [Tryz.underlying63]
  simp [cells_four, cells_a4, cells_int, k0, k1, k2, k3, k4, k5, k6, k7, k8, k9, k10]
/-- The fields of a header are equal to themselves. -/
theorem four_same {bs : List Nat} (h : ∀ k, bs.getD k 0 < 256) (w : World) : (Op.equalIn 10000 63 (.agg (fhf bs).toArray) (.agg (fhf bs).toArray)).run Tryz.prog w = .ok true w := by
  obtain ⟨ls, hl⟩ := key_fhf h
  obtain ⟨r, hr, hi⟩ := run_equalIn_deep (P := Tryz.prog) 9990 10 63 (by kernel_rfl) w 4 4 (.agg (fhf bs).toArray) (.agg (fhf bs).toArray) ls ls (by kernel_rfl) (by kernel_rfl) (by simpa [Value.cells] using hl) (by simpa [Value.cells] using hl)
  rw [hi.2 rfl] at hr
  exact hr
end Go.Proofs.YtmchclpkjjmocaaGreat
