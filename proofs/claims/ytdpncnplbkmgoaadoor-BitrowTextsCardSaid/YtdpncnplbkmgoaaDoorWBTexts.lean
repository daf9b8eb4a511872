/-
  The walk of the statement BitrowTexts.
-/
import Derived.Test.YtdpncnplbkmgoaaDoorBr16
namespace Go.Proofs.YtdpncnplbkmgoaaDoor
open Go.RowKit
set_option linter.unusedVariables false

theorem bstr_size (l : List Nat) : (str l).size = l.length := by simp [str, ByteArray.size]
theorem sb_bstr {l : List Nat} (h : ∀ x ∈ l, x < 256) : sb (str l) = l := by
  unfold sb str
  rw [List.map_map]
  conv => rhs; rw [← List.map_id l]
  apply List.map_congr_left
  intro x hx
  show (UInt8.ofNat x).toNat = x
  rw [UInt8.toNat_ofNat']
  exact Nat.mod_eq_of_lt (h x hx)
theorem bstr_sb (s : ByteArray) : str (sb s) = s := by
  unfold str sb
  rw [List.map_map]
  have e : ((fun x => UInt8.ofNat x) ∘ UInt8.toNat) = id := by
    funext x
    simp
  rw [e, List.map_id]
theorem bin_or_bad (s : ByteArray) : Bin s s.size ∨ ∃ i, i < s.size ∧ Bin s i ∧ (sb s).getD i 0 ≠ 48 ∧ (sb s).getD i 0 ≠ 49 := by
  suffices ∀ k, k ≤ s.size → Bin s k ∨ ∃ i, i < s.size ∧ Bin s i ∧ (sb s).getD i 0 ≠ 48 ∧ (sb s).getD i 0 ≠ 49 from this _ (Nat.le_refl _)
  intro k
  induction k with
  | zero => intro _; exact Or.inl fun j hj => absurd hj (Nat.not_lt_zero _)
  | succ k ih =>
    intro h
    rcases ih (by omega) with h1 | h1
    · by_cases h48 : (sb s).getD k 0 = 48
      · refine Or.inl fun j hj => ?_
        rcases Nat.lt_or_ge j k with hk | hk
        · exact h1 j hk
        · obtain rfl : j = k := by omega
          exact Or.inl h48
      · by_cases h49 : (sb s).getD k 0 = 49
        · refine Or.inl fun j hj => ?_
          rcases Nat.lt_or_ge j k with hk | hk
          · exact h1 j hk
          · obtain rfl : j = k := by omega
            exact Or.inr h49
        · exact Or.inr ⟨k, by omega, h1, h48, h49⟩
    · exact Or.inr h1
theorem digs01_get (xs : List Nat) (n i : Nat) (h : i < n) : (digs01 xs n).getD i 0 = if tb xs i then 49 else 48 := by
  unfold digs01
  rw [getD_range _ _ _ h]
/-- What is told is read as the row. -/
theorem text_row (xs : List Nat) (hx : ∀ x ∈ xs, x < 18446744073709551616) : Bin (str (digs01 xs (64 * xs.length))) (str (digs01 xs (64 * xs.length))).size ∧ rowOf (str (digs01 xs (64 * xs.length))) = xs := by
  have hs := (bstr_size (digs01 xs (64 * xs.length))).trans (digs01_length _ _)
  have hb := sb_bstr (digs01_byte xs (64 * xs.length))
  refine ⟨fun j hj => ?_, ?_⟩
  · rw [hs] at hj
    rw [hb, digs01_get _ _ _ hj]
    split
    · exact Or.inr rfl
    · exact Or.inl rfl
  · unfold rowOf
    rw [hs, show (64 * xs.length + 63) / 64 = xs.length from by omega]
    refine mkRow_all hx fun i hi => ?_
    unfold oneAt
    rw [hb, digs01_get _ _ _ hi]
    cases tb xs i <;> rfl
/-- A row that is read is told as its text. -/
theorem row_text (s : ByteArray) (hd : Bin s s.size) : str (digs01 (rowOf s) s.size) = s := by
  have e : digs01 (rowOf s) s.size = sb s := by
    apply List.ext_getElem
    · rw [digs01_length, sb_length]
    · intro i h1 h2
      rw [digs01_length] at h1
      have h3 := digs01_get (rowOf s) s.size i h1
      rw [List.getD_eq_getElem?_getD, List.getElem?_eq_getElem (by rw [digs01_length]; exact h1), Option.getD_some] at h3
      rw [h3]
      have h4 : (sb s).getD i 0 = (sb s)[i] := by rw [List.getD_eq_getElem?_getD, List.getElem?_eq_getElem h2, Option.getD_some]
      have ht : tb (rowOf s) i = oneAt s i := by
        unfold rowOf mkRow
        rw [tb_setAll _ _ (fun j hj => by have := List.mem_range.1 (List.mem_filter.1 hj).1; omega)]
        cases hp : oneAt s i with
        | true => exact decide_eq_true (List.mem_filter.2 ⟨List.mem_range.2 h1, hp⟩)
        | false => exact decide_eq_false (fun hm => by have := (List.mem_filter.1 hm).2; rw [hp] at this; cases this)
      rw [ht]
      unfold oneAt
      rw [← h4]
      rcases hd i h1 with h | h <;> rw [h] <;> rfl
  rw [e, bstr_sb]
theorem brtext_any (A : Option Addr) (len cap : Nat) (xs : List Nat) (n : Int) (w : World) (hl : len ≤ 1000) (hT : Bru w) (hA : RowU w A len xs) :
    Calls Tryd.prog 29 #[.slice A len cap, .int .i64 n] w fun e w' => e = .returned (.string (txt xs n)) ∧ Below w.heap.size w w' := by
  by_cases h : n < 0 ∨ 65536 < n
  · exact brtext_out A len cap xs n w h
  · obtain ⟨k, rfl⟩ := Int.eq_ofNat_of_zero_le (by omega : 0 ≤ n)
    exact brtext_in A len cap k xs w hl (by omega) hT hA
theorem text_five (w : World) (hT : Bru w) (g : Nat) (hg : w.heap.size = g) :
    Calls Tryd.prog 29 #[.slice (some ⟨g, 0, none⟩) 1 1, .int .i64 4] (w.alloc (.cells #[.int .u64 5] 43)) fun e w' => e = .returned (.string { data := #[49, 48, 49, 48] }) ∧ Below w.heap.size w w' := by
  subst hg
  have e : txt [5] 4 = { data := #[49, 48, 49, 48] } := by decide +kernel
  have h2 : RowU (w.alloc (.cells #[.int .u64 5] 43)) (some ⟨w.heap.size, 0, none⟩) 1 [5] := (OwnU.new w [5]).row (by decide)
  have h := brtext_any (some ⟨w.heap.size, 0, none⟩) 1 1 [5] 4 _ (by decide) (hT.below ((Below.refl _ w).alloc (Nat.le_refl _) _)) h2
  rw [e] at h
  exact h.mono fun e w' ⟨h1, h2⟩ => ⟨h1, below_al h2⟩
theorem below_one {B : Nat} {w w1 : World} (h : Below B w w1) (o : Obj) (hB : B ≤ w.heap.size) : Below B w (w1.alloc o) := h.alloc (Nat.le_trans hB h.size) o

/-- A parsed text: its row and its fault. -/
def ParsesTo (w : World) (X : List Nat) (er ta : Int) (e : Ending) (w' : World) : Prop := ∃ A c, e = .returned (.tuple #[.slice A X.length c, .agg #[.int .i64 er, .int .i64 ta]]) ∧ RowU w' A X.length X ∧ Below w.heap.size w w'
theorem parses_out {w : World} {X : List Nat} (hX : ∀ x ∈ X, x < 18446744073709551616) {er ta : Int} {e : Ending} {w' : World} (h : ∃ v, e = .returned (.tuple #[v, .agg #[.int .i64 er, .int .i64 ta]]) ∧ OutU w.heap.size w' v X ∧ Below w.heap.size w w') : ParsesTo w X er ta e w' := by
  obtain ⟨v, rfl, ho, hb⟩ := h
  obtain ⟨A, c, rfl, _, _, hr⟩ := ho.out hX
  exact ⟨A, c, rfl, hr, hb⟩
theorem parses_nil {w : World} {er ta : Int} {e : Ending} {w' : World} (h : e = .returned (.tuple #[.slice none 0 0, .agg #[.int .i64 er, .int .i64 ta]]) ∧ Below w.heap.size w w') : ParsesTo w [] er ta e w' := ⟨none, 0, h.1, RowU.nil w' none, h.2⟩
theorem FB.laid (w : World) (a b : Int) : FB (w.alloc (.cells #[.int .i64 a, .int .i64 b] 39)) w.heap.size a b := heap_alloc_new w _

set_option maxRecDepth 10000 in
set_option maxHeartbeats 3200000 in
theorem wbt_ok (A : Option Addr) (len cap : Nat) (xs X : List Nat) (n : Int) (s : ByteArray) (w : World) (CS : ∀ (w : World) A c, Bru w → RowU w A X.length X → Calls Tryd.prog 29 #[.slice A X.length c, .int .i64 (s.size : Int)] w fun e w' => e = .returned (.string s) ∧ Below w.heap.size w w') (hXl : X.length ≤ 1048576)
    (CP : ∀ w, Calls Tryd.prog 27 #[.string s] w (ParsesTo w X 0 0)) (CR : ∀ w, Calls Tryd.prog 28 #[.string s] w (ParsesTo w X 0 0))
    (hT : Bru w) (hA : RowU w A len xs) (hl : len ≤ 20) (hs : s.size ≤ 300) (hi1 : n ≤ 9223372036854775807) :
    Calls Tryd.prog 6 #[.slice A len cap, .int .i64 n, .string s] w fun e w' => e = .returned (.bool true) ∧ Below w.heap.size w w' := by
  have HT := Lib.hid hT
  have hlen := hA.len
  have hli : (len : Int) ≤ 20 := by omega
  have hsi : (s.size : Int) ≤ 300 := by omega
  have CP := Lib.hid CP
  have CR := Lib.hid CR
  have HXl := Lib.hid hXl
  have CS := Lib.hid CS
  have CT := Lib.hid (fun w hT hA => brtext_any A len cap xs n w (by omega) hT hA)
  have CU := Lib.hid (fun w hA => rtext_any A len cap xs n w hi1 hA)
  obtain ⟨T, hTe⟩ : ∃ T, T = txt xs n := ⟨_, rfl⟩
  rw [← hTe] at CT CU
  obtain ⟨T2, hT2⟩ : ∃ T2, T2 = str (digs01 xs (64 * xs.length)) := ⟨_, rfl⟩
  have CV : Hid (∀ w, Bru w → RowU w A len xs → Calls Tryd.prog 29 #[.slice A len cap, .int .i64 (64 * (len : Int))] w fun e w' => e = .returned (.string T2) ∧ Below w.heap.size w w') := fun w hT hA => by
    have h := brtext_any A len cap xs ((64 * len : Nat) : Int) w (by omega) hT hA
    rw [txt_nat (by omega)] at h
    rw [hT2, hlen, show (64 * (len : Int)) = ((64 * len : Nat) : Int) from by omega]
    exact h
  have CW : Hid (∀ w, Calls Tryd.prog 27 #[.string T2] w (ParsesTo w xs 0 0)) := fun w => by
    obtain ⟨hd2, hrow2⟩ := text_row xs hA.2.1
    have hsz2 := (bstr_size (digs01 xs (64 * xs.length))).trans (digs01_length _ _)
    rw [hT2]
    have h := brparse_ok (str (digs01 xs (64 * xs.length))) w (by rw [hsz2]; omega) hd2
    rw [hrow2] at h
    exact h.mono fun e w' => parses_out hA.2.1
  have CE := Lib.hid (fun (w : World) A B c d (hA : RowU w A len xs) (hB : RowU w B len xs) => rowsame_yes A B len c d xs w (by omega) hA hB)
  have RA := Lib.hid hA
  have HLen := Lib.hid hlen
  have B : Hid (Below w.heap.size w w) := Below.refl _ _
  clear hT hA hl hs hlen hi1 hTe hT2 hXl
  go_enter Tryd.func6, Tryd.ntmps6
  go_wp2_with fail
  refine (CP.out _).mono ?_
  rintro e w1 ⟨A1, c1, rfl, r1, hb1⟩
  have hc1 : Below w1.heap.size w1 (w1.alloc (.cells #[.int .i64 0, .int .i64 0] 39)) := (Below.refl _ _).alloc (Nat.le_refl _) _
  have hd1 := below_both hb1 hc1
  have RA := Lib.hid (RA.out.below hd1)
  have HT := Lib.hid (HT.out.below hd1)
  have B := Lib.hid (below_both B.out hd1)
  have R1 := Lib.hid (r1.alloc (.cells #[.int .i64 0, .int .i64 0] 39))
  have F1 := Lib.hid (FB.laid w1 (0) (0))
  have L1 : Hid (w1.heap.size < (w1.alloc (.cells #[.int .i64 0, .int .i64 0] 39)).heap.size) := by rw [World.size_alloc]; exact Nat.lt_succ_self _
  clear hb1 hc1 hd1 r1
  go_wp2_with fail
  refine (CR.out _).mono ?_
  rintro e w2 ⟨A2, c2, rfl, r2, hb2⟩
  have hc2 : Below w2.heap.size w2 (w2.alloc (.cells #[.int .i64 0, .int .i64 0] 39)) := (Below.refl _ _).alloc (Nat.le_refl _) _
  have hd2 := below_both hb2 hc2
  have RA := Lib.hid (RA.out.below hd2)
  have HT := Lib.hid (HT.out.below hd2)
  have R1 := Lib.hid (R1.out.below hd2)
  have F1 := Lib.hid (F1.out.below hd2 L1.out)
  have L1 := Lib.hid (Nat.lt_of_lt_of_le L1.out (hd2).size)
  have B := Lib.hid (below_both B.out hd2)
  have R2 := Lib.hid (r2.alloc (.cells #[.int .i64 0, .int .i64 0] 39))
  have F2 := Lib.hid (FB.laid w2 (0) (0))
  have L2 : Hid (w2.heap.size < (w2.alloc (.cells #[.int .i64 0, .int .i64 0] 39)).heap.size) := by rw [World.size_alloc]; exact Nat.lt_succ_self _
  clear hb2 hc2 hd2 r2
  go_wp2_with fail
  refine (CT.out _ HT.out RA.out).mono ?_
  rintro e w3 ⟨rfl, hb3⟩
  have RA := Lib.hid (RA.out.below hb3)
  have HT := Lib.hid (HT.out.below hb3)
  have R1 := Lib.hid (R1.out.below hb3)
  have R2 := Lib.hid (R2.out.below hb3)
  have F1 := Lib.hid (F1.out.below hb3 L1.out)
  have F2 := Lib.hid (F2.out.below hb3 L2.out)
  have L1 := Lib.hid (Nat.lt_of_lt_of_le L1.out (hb3).size)
  have L2 := Lib.hid (Nat.lt_of_lt_of_le L2.out (hb3).size)
  have B := Lib.hid (below_both B.out hb3)
  clear hb3
  go_wp2_with fail
  refine (rowsame_yes _ _ _ _ _ X _ HXl.out R1.out R2.out).mono ?_
  rintro e w4 ⟨rfl, hb4⟩
  have RA := Lib.hid (RA.out.below hb4)
  have HT := Lib.hid (HT.out.below hb4)
  have R1 := Lib.hid (R1.out.below hb4)
  have R2 := Lib.hid (R2.out.below hb4)
  have F1 := Lib.hid (F1.out.below hb4 L1.out)
  have F2 := Lib.hid (F2.out.below hb4 L2.out)
  have L1 := Lib.hid (Nat.lt_of_lt_of_le L1.out (hb4).size)
  have L2 := Lib.hid (Nat.lt_of_lt_of_le L2.out (hb4).size)
  have B := Lib.hid (below_both B.out hb4)
  clear hb4
  have f0 := F1.out.c0
  have f1 := F1.out.c1
  have g0 := F2.out.c0
  have g1 := F2.out.c1
  go_wp2_with fail
  clear f0 f1 g0 g1 F2 L2
  refine (CU.out _ RA.out).mono ?_
  rintro e w5 ⟨rfl, hb5⟩
  have RA := Lib.hid (RA.out.below hb5)
  have HT := Lib.hid (HT.out.below hb5)
  have R1 := Lib.hid (R1.out.below hb5)
  have F1 := Lib.hid (F1.out.below hb5 L1.out)
  have L1 := Lib.hid (Nat.lt_of_lt_of_le L1.out (hb5).size)
  have B := Lib.hid (below_both B.out hb5)
  clear hb5
  go_wp2_with fail
  refine (CV.out _ HT.out RA.out).mono ?_
  rintro e w6 ⟨rfl, hb6⟩
  have RA := Lib.hid (RA.out.below hb6)
  have HT := Lib.hid (HT.out.below hb6)
  have R1 := Lib.hid (R1.out.below hb6)
  have F1 := Lib.hid (F1.out.below hb6 L1.out)
  have L1 := Lib.hid (Nat.lt_of_lt_of_le L1.out (hb6).size)
  have B := Lib.hid (below_both B.out hb6)
  clear hb6
  go_wp2_with fail
  refine (CW.out _).mono ?_
  rintro e w7 ⟨A7, c7, rfl, r7, hb7⟩
  rw [HLen.out] at r7 ⊢
  have hc7 : Below w7.heap.size w7 (w7.alloc (.cells #[.int .i64 0, .int .i64 0] 39)) := (Below.refl _ _).alloc (Nat.le_refl _) _
  have hd7 := below_both hb7 hc7
  have RA := Lib.hid (RA.out.below hd7)
  have HT := Lib.hid (HT.out.below hd7)
  have R1 := Lib.hid (R1.out.below hd7)
  have F1 := Lib.hid (F1.out.below hd7 L1.out)
  have L1 := Lib.hid (Nat.lt_of_lt_of_le L1.out (hd7).size)
  have B := Lib.hid (below_both B.out hd7)
  have R3 := Lib.hid (r7.alloc (.cells #[.int .i64 0, .int .i64 0] 39))
  have F7 := Lib.hid (FB.laid w7 (0) (0))
  have L7 : Hid (w7.heap.size < (w7.alloc (.cells #[.int .i64 0, .int .i64 0] 39)).heap.size) := by rw [World.size_alloc]; exact Nat.lt_succ_self _
  clear hb7 hc7 hd7 r7
  go_wp2_with fail
  refine (live18 _ HT.out).mono ?_
  rintro e w8 ⟨rfl, hb8⟩
  have RA := Lib.hid (RA.out.below hb8)
  have HT := Lib.hid (HT.out.below hb8)
  have R1 := Lib.hid (R1.out.below hb8)
  have R3 := Lib.hid (R3.out.below hb8)
  have F1 := Lib.hid (F1.out.below hb8 L1.out)
  have F7 := Lib.hid (F7.out.below hb8 L7.out)
  have L1 := Lib.hid (Nat.lt_of_lt_of_le L1.out (hb8).size)
  have L7 := Lib.hid (Nat.lt_of_lt_of_le L7.out (hb8).size)
  have B := Lib.hid (below_both B.out hb8)
  clear hb8
  go_wp2_with fail
  refine (CE.out _ _ _ _ _ R3.out RA.out).mono ?_
  rintro e w9 ⟨rfl, hb9⟩
  have RA := Lib.hid (RA.out.below hb9)
  have HT := Lib.hid (HT.out.below hb9)
  have R1 := Lib.hid (R1.out.below hb9)
  have R3 := Lib.hid (R3.out.below hb9)
  have F1 := Lib.hid (F1.out.below hb9 L1.out)
  have F7 := Lib.hid (F7.out.below hb9 L7.out)
  have L1 := Lib.hid (Nat.lt_of_lt_of_le L1.out (hb9).size)
  have L7 := Lib.hid (Nat.lt_of_lt_of_le L7.out (hb9).size)
  have B := Lib.hid (below_both B.out hb9)
  clear hb9
  have f0 := F1.out.c0
  have f1 := F1.out.c1
  have g0 := F7.out.c0
  have g1 := F7.out.c1
  go_wp2_with fail
  clear f0 f1 g0 g1
  refine (CS.out _ _ _ HT.out R1.out).mono ?_
  rintro e w10 ⟨rfl, hb10⟩
  have RA := Lib.hid (RA.out.below hb10)
  have HT := Lib.hid (HT.out.below hb10)
  have R1 := Lib.hid (R1.out.below hb10)
  have R3 := Lib.hid (R3.out.below hb10)
  have F1 := Lib.hid (F1.out.below hb10 L1.out)
  have F7 := Lib.hid (F7.out.below hb10 L7.out)
  have L1 := Lib.hid (Nat.lt_of_lt_of_le L1.out (hb10).size)
  have L7 := Lib.hid (Nat.lt_of_lt_of_le L7.out (hb10).size)
  have B := Lib.hid (below_both B.out hb10)
  clear hb10
  go_wp2_with fail
  refine (text_five _ HT.out _ rfl).mono ?_
  rintro e w11 ⟨rfl, hb11⟩
  have B := Lib.hid (below_both B.out hb11)
  clear hb11
  go_wp2_with fail
  go_ret
  exact ⟨rfl, B.out⟩
set_option maxRecDepth 10000 in
set_option maxHeartbeats 3200000 in
theorem wbt_bad (A : Option Addr) (len cap : Nat) (xs X : List Nat) (n : Int) (s : ByteArray) (w : World) (ta : Int) (hXl : X.length ≤ 1048576)
    (CP : ∀ w, Calls Tryd.prog 27 #[.string s] w (ParsesTo w X 3 ta)) (CR : ∀ w, Calls Tryd.prog 28 #[.string s] w (ParsesTo w X 3 ta))
    (hT : Bru w) (hA : RowU w A len xs) (hl : len ≤ 20) (hs : s.size ≤ 300) (hi1 : n ≤ 9223372036854775807) :
    Calls Tryd.prog 6 #[.slice A len cap, .int .i64 n, .string s] w fun e w' => e = .returned (.bool true) ∧ Below w.heap.size w w' := by
  have HT := Lib.hid hT
  have hlen := hA.len
  have hli : (len : Int) ≤ 20 := by omega
  have hsi : (s.size : Int) ≤ 300 := by omega
  have CP := Lib.hid CP
  have CR := Lib.hid CR
  have HXl := Lib.hid hXl
  have CT := Lib.hid (fun w hT hA => brtext_any A len cap xs n w (by omega) hT hA)
  have CU := Lib.hid (fun w hA => rtext_any A len cap xs n w hi1 hA)
  obtain ⟨T, hTe⟩ : ∃ T, T = txt xs n := ⟨_, rfl⟩
  rw [← hTe] at CT CU
  obtain ⟨T2, hT2⟩ : ∃ T2, T2 = str (digs01 xs (64 * xs.length)) := ⟨_, rfl⟩
  have CV : Hid (∀ w, Bru w → RowU w A len xs → Calls Tryd.prog 29 #[.slice A len cap, .int .i64 (64 * (len : Int))] w fun e w' => e = .returned (.string T2) ∧ Below w.heap.size w w') := fun w hT hA => by
    have h := brtext_any A len cap xs ((64 * len : Nat) : Int) w (by omega) hT hA
    rw [txt_nat (by omega)] at h
    rw [hT2, hlen, show (64 * (len : Int)) = ((64 * len : Nat) : Int) from by omega]
    exact h
  have CW : Hid (∀ w, Calls Tryd.prog 27 #[.string T2] w (ParsesTo w xs 0 0)) := fun w => by
    obtain ⟨hd2, hrow2⟩ := text_row xs hA.2.1
    have hsz2 := (bstr_size (digs01 xs (64 * xs.length))).trans (digs01_length _ _)
    rw [hT2]
    have h := brparse_ok (str (digs01 xs (64 * xs.length))) w (by rw [hsz2]; omega) hd2
    rw [hrow2] at h
    exact h.mono fun e w' => parses_out hA.2.1
  have CE := Lib.hid (fun (w : World) A B c d (hA : RowU w A len xs) (hB : RowU w B len xs) => rowsame_yes A B len c d xs w (by omega) hA hB)
  have RA := Lib.hid hA
  have HLen := Lib.hid hlen
  have B : Hid (Below w.heap.size w w) := Below.refl _ _
  clear hT hA hl hs hlen hi1 hTe hT2 hXl
  go_enter Tryd.func6, Tryd.ntmps6
  go_wp2_with fail
  refine (CP.out _).mono ?_
  rintro e w1 ⟨A1, c1, rfl, r1, hb1⟩
  have hc1 : Below w1.heap.size w1 (w1.alloc (.cells #[.int .i64 3, .int .i64 ta] 39)) := (Below.refl _ _).alloc (Nat.le_refl _) _
  have hd1 := below_both hb1 hc1
  have RA := Lib.hid (RA.out.below hd1)
  have HT := Lib.hid (HT.out.below hd1)
  have B := Lib.hid (below_both B.out hd1)
  have R1 := Lib.hid (r1.alloc (.cells #[.int .i64 3, .int .i64 ta] 39))
  have F1 := Lib.hid (FB.laid w1 (3) (ta))
  have L1 : Hid (w1.heap.size < (w1.alloc (.cells #[.int .i64 3, .int .i64 ta] 39)).heap.size) := by rw [World.size_alloc]; exact Nat.lt_succ_self _
  clear hb1 hc1 hd1 r1
  go_wp2_with fail
  refine (CR.out _).mono ?_
  rintro e w2 ⟨A2, c2, rfl, r2, hb2⟩
  have hc2 : Below w2.heap.size w2 (w2.alloc (.cells #[.int .i64 3, .int .i64 ta] 39)) := (Below.refl _ _).alloc (Nat.le_refl _) _
  have hd2 := below_both hb2 hc2
  have RA := Lib.hid (RA.out.below hd2)
  have HT := Lib.hid (HT.out.below hd2)
  have R1 := Lib.hid (R1.out.below hd2)
  have F1 := Lib.hid (F1.out.below hd2 L1.out)
  have L1 := Lib.hid (Nat.lt_of_lt_of_le L1.out (hd2).size)
  have B := Lib.hid (below_both B.out hd2)
  have R2 := Lib.hid (r2.alloc (.cells #[.int .i64 3, .int .i64 ta] 39))
  have F2 := Lib.hid (FB.laid w2 (3) (ta))
  have L2 : Hid (w2.heap.size < (w2.alloc (.cells #[.int .i64 3, .int .i64 ta] 39)).heap.size) := by rw [World.size_alloc]; exact Nat.lt_succ_self _
  clear hb2 hc2 hd2 r2
  go_wp2_with fail
  refine (CT.out _ HT.out RA.out).mono ?_
  rintro e w3 ⟨rfl, hb3⟩
  have RA := Lib.hid (RA.out.below hb3)
  have HT := Lib.hid (HT.out.below hb3)
  have R1 := Lib.hid (R1.out.below hb3)
  have R2 := Lib.hid (R2.out.below hb3)
  have F1 := Lib.hid (F1.out.below hb3 L1.out)
  have F2 := Lib.hid (F2.out.below hb3 L2.out)
  have L1 := Lib.hid (Nat.lt_of_lt_of_le L1.out (hb3).size)
  have L2 := Lib.hid (Nat.lt_of_lt_of_le L2.out (hb3).size)
  have B := Lib.hid (below_both B.out hb3)
  clear hb3
  go_wp2_with fail
  refine (rowsame_yes _ _ _ _ _ X _ HXl.out R1.out R2.out).mono ?_
  rintro e w4 ⟨rfl, hb4⟩
  have RA := Lib.hid (RA.out.below hb4)
  have HT := Lib.hid (HT.out.below hb4)
  have R1 := Lib.hid (R1.out.below hb4)
  have R2 := Lib.hid (R2.out.below hb4)
  have F1 := Lib.hid (F1.out.below hb4 L1.out)
  have F2 := Lib.hid (F2.out.below hb4 L2.out)
  have L1 := Lib.hid (Nat.lt_of_lt_of_le L1.out (hb4).size)
  have L2 := Lib.hid (Nat.lt_of_lt_of_le L2.out (hb4).size)
  have B := Lib.hid (below_both B.out hb4)
  clear hb4
  have f0 := F1.out.c0
  have f1 := F1.out.c1
  have g0 := F2.out.c0
  have g1 := F2.out.c1
  go_wp2_with fail
  clear f0 f1 g0 g1 F2 L2
  refine (CU.out _ RA.out).mono ?_
  rintro e w5 ⟨rfl, hb5⟩
  have RA := Lib.hid (RA.out.below hb5)
  have HT := Lib.hid (HT.out.below hb5)
  have R1 := Lib.hid (R1.out.below hb5)
  have F1 := Lib.hid (F1.out.below hb5 L1.out)
  have L1 := Lib.hid (Nat.lt_of_lt_of_le L1.out (hb5).size)
  have B := Lib.hid (below_both B.out hb5)
  clear hb5
  go_wp2_with fail
  refine (CV.out _ HT.out RA.out).mono ?_
  rintro e w6 ⟨rfl, hb6⟩
  have RA := Lib.hid (RA.out.below hb6)
  have HT := Lib.hid (HT.out.below hb6)
  have R1 := Lib.hid (R1.out.below hb6)
  have F1 := Lib.hid (F1.out.below hb6 L1.out)
  have L1 := Lib.hid (Nat.lt_of_lt_of_le L1.out (hb6).size)
  have B := Lib.hid (below_both B.out hb6)
  clear hb6
  go_wp2_with fail
  refine (CW.out _).mono ?_
  rintro e w7 ⟨A7, c7, rfl, r7, hb7⟩
  rw [HLen.out] at r7 ⊢
  have hc7 : Below w7.heap.size w7 (w7.alloc (.cells #[.int .i64 0, .int .i64 0] 39)) := (Below.refl _ _).alloc (Nat.le_refl _) _
  have hd7 := below_both hb7 hc7
  have RA := Lib.hid (RA.out.below hd7)
  have HT := Lib.hid (HT.out.below hd7)
  have R1 := Lib.hid (R1.out.below hd7)
  have F1 := Lib.hid (F1.out.below hd7 L1.out)
  have L1 := Lib.hid (Nat.lt_of_lt_of_le L1.out (hd7).size)
  have B := Lib.hid (below_both B.out hd7)
  have R3 := Lib.hid (r7.alloc (.cells #[.int .i64 0, .int .i64 0] 39))
  have F7 := Lib.hid (FB.laid w7 (0) (0))
  have L7 : Hid (w7.heap.size < (w7.alloc (.cells #[.int .i64 0, .int .i64 0] 39)).heap.size) := by rw [World.size_alloc]; exact Nat.lt_succ_self _
  clear hb7 hc7 hd7 r7
  go_wp2_with fail
  refine (live18 _ HT.out).mono ?_
  rintro e w8 ⟨rfl, hb8⟩
  have RA := Lib.hid (RA.out.below hb8)
  have HT := Lib.hid (HT.out.below hb8)
  have R1 := Lib.hid (R1.out.below hb8)
  have R3 := Lib.hid (R3.out.below hb8)
  have F1 := Lib.hid (F1.out.below hb8 L1.out)
  have F7 := Lib.hid (F7.out.below hb8 L7.out)
  have L1 := Lib.hid (Nat.lt_of_lt_of_le L1.out (hb8).size)
  have L7 := Lib.hid (Nat.lt_of_lt_of_le L7.out (hb8).size)
  have B := Lib.hid (below_both B.out hb8)
  clear hb8
  go_wp2_with fail
  refine (CE.out _ _ _ _ _ R3.out RA.out).mono ?_
  rintro e w9 ⟨rfl, hb9⟩
  have RA := Lib.hid (RA.out.below hb9)
  have HT := Lib.hid (HT.out.below hb9)
  have R1 := Lib.hid (R1.out.below hb9)
  have R3 := Lib.hid (R3.out.below hb9)
  have F1 := Lib.hid (F1.out.below hb9 L1.out)
  have F7 := Lib.hid (F7.out.below hb9 L7.out)
  have L1 := Lib.hid (Nat.lt_of_lt_of_le L1.out (hb9).size)
  have L7 := Lib.hid (Nat.lt_of_lt_of_le L7.out (hb9).size)
  have B := Lib.hid (below_both B.out hb9)
  clear hb9
  have f0 := F1.out.c0
  have f1 := F1.out.c1
  have g0 := F7.out.c0
  have g1 := F7.out.c1
  go_wp2_with fail
  clear f0 f1 g0 g1
  refine (text_five _ HT.out _ rfl).mono ?_
  rintro e w11 ⟨rfl, hb11⟩
  have B := Lib.hid (below_both B.out hb11)
  clear hb11
  go_wp2_with fail
  go_ret
  exact ⟨rfl, B.out⟩
set_option maxHeartbeats 1600000 in
theorem walk_BitrowTexts (A : Option Addr) (len cap : Nat) (xs : List Nat) (n : Int) (s : ByteArray) (w : World) (hT : Bru w) (hA : RowU w A len xs) (hl1 : len ≤ cap) (hc1 : cap ≤ 17592186043904) (lo : -9223372036854775808 ≤ n) (hi : n ≤ 9223372036854775807) (hsz : s.size ≤ 140737488351232) :
    Calls Tryd.prog 6 #[.slice A len cap, .int .i64 n, .string s] w fun e w' => e = .returned (.bool true) ∧ Below w.heap.size w w' := by
  have HT0 := Lib.hid hT
  by_cases hb1 : 20 < len
  · have hb : (20 : Int) < (len : Int) := by omega
    clear hA hl1 hc1 lo hi hsz hT
    go_enter Tryd.func6, Tryd.ntmps6
    go_wp2_with (go_at_call 7; refine (live18 _ HT0.out).mono ?_; rintro e w' ⟨rfl, hb⟩)
    go_ret
    exact ⟨rfl, hb⟩
  by_cases hb2 : 300 < s.size
  · have hb : (300 : Int) < (s.size : Int) := by omega
    have hb3 : (len : Int) ≤ 20 := by omega
    clear hA hl1 hc1 lo hi hsz hT
    go_enter Tryd.func6, Tryd.ntmps6
    go_wp2_with (go_at_call 7; refine (live18 _ HT0.out).mono ?_; rintro e w' ⟨rfl, hb⟩)
    go_ret
    exact ⟨rfl, hb⟩
  rcases bin_or_bad s with hd | ⟨i, hi0, hd, h48, h49⟩
  · refine wbt_ok A len cap xs (rowOf s) n s w (fun w A c hT hA => ?_) (by rw [rowOf_length]; omega) (fun w => (brparse_ok s w (by omega) hd).mono fun e w' => parses_out (rowOf_word s)) (fun w => (rparse_ok s w (by omega) hd).mono fun e w' => parses_out (rowOf_word s)) hT hA (by omega) (by omega) hi
    have h := brtext_any A (rowOf s).length c (rowOf s) (s.size : Int) w (by rw [rowOf_length]; omega) hT hA
    rw [txt_nat (by omega), row_text s hd] at h
    exact h
  · exact wbt_bad A len cap xs [] n s w (i : Int) (by decide) (fun w => (brparse_bad s i w (by omega) hi0 hd h48 h49).mono fun e w' => parses_nil) (fun w => (rparse_bad s i w (by omega) hi0 hd h48 h49).mono fun e w' => parses_nil) hT hA (by omega) (by omega) hi
end Go.Proofs.YtdpncnplbkmgoaaDoor
