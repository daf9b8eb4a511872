/-
  The contracts of strconv.Itoa at a byte, of strings.Join, and of dotted's Print. The table of powers of ten lies as its initialiser lays it ('Pow').
-/
import Derived.Test.YtaicmadeobglfaaDoorDot3
import Derived.Shelf.Lay
import Derived.Shelf.Strconv.Itoa3
import Derived.Shelf.Strings.OnBuilder
import Derived.Lib.AppendIntMem
import Derived.Lib.SmallJoins
namespace Go.Proofs.YtaicmadeobglfaaDoor
open Go.RowKit Go.Shelf
set_option linter.unusedVariables false
shelf_lay LaysM.n171 Nm 171 at Tryd as lays171
shelf_lay Lays.n156 Nm 156 at Tryd as lays156
theorem extra156 : Builder.Extra Tryd.prog lays156_ren where
  sizeBuilder := by kernel_rfl
  liesBuilder := by kernel_rfl
  t5 := Tryd.underlying5
  a5 := Tryd.isAgg5
  z5 := Tryd.sizeOf5
  v5 := Tryd.zeroValue5
  infoByte := by kernel_rfl
  cellsByte := by kernel_rfl
  sizeByte := by kernel_rfl
  neB5 := by decide   -- for function 29

/-- The library's table of powers of ten lies in the world. -/
def Pow (w : World) : Prop := Lib.TabIs Tryd.prog w "internal/strconv.uint64pow10" .u64 Lib.pow10Tab
theorem pow_global : Tryd.prog.globalNamed "internal/strconv.uint64pow10" = some 3 := by kernel_rfl
theorem Pow.below {w w' : World} (h : Pow w) (hb : Below w.heap.size w w') : Pow w' := Go.Joins.tab_stays pow_global h hb (Nat.le_refl _)

theorem itoa_any (n : Nat) (w : World) (hn : n ≤ 999) (hT : Pow w) :
    Calls Tryd.prog 19 #[.int .i64 n] w fun e w' => e = .returned (.string ⟨(Lib.decDigits n).toArray⟩) ∧ Below w.heap.size w w' := by
  have h := Any.strconv_Itoa lays171 (n : Int) (by omega) (by omega) w hT
  refine (show Calls Tryd.prog 19 #[.int .i64 n] w _ from h).mono ?_
  rintro e w' ⟨rfl, k, os, rfl⟩
  refine ⟨?_, Lib.below_grow _ _ (Nat.le_refl _) k os⟩
  have e : Lib.itoa (n : Int) = Lib.decDigits n := by
    unfold Lib.itoa
    rw [if_neg (by omega), Int.toNat_natCast]
  rw [e]
theorem sjoin_any (bk o c : Nat) (xs : List ByteArray) (sep : ByteArray) (w : World)
    (hcells : ∀ (j : Nat) x, xs[j]? = some x → w.cell? ⟨bk, o + j, none⟩ = some (.string x))
    (hbk : bk < w.heap.size) (hN : xs.length ≤ 140737488355328) (hcap : xs.length ≤ c)
    (hlen : (Lib.join (xs.map (·.data.toList)) sep.data.toList).length ≤ 140737488355328) :
    Calls Tryd.prog 29 #[.slice (some ⟨bk, o, none⟩) xs.length c, .string sep] w fun e w' => e = .returned (.string ⟨(Lib.join (xs.map (·.data.toList)) sep.data.toList).toArray⟩) ∧ Below w.heap.size w w' :=
  Any.strings_Join lays156 extra156 bk o c xs sep w hcells hbk hN hcap hlen
/-- Block g is an array of four texts. -/
def ArrS (W : World) (g : Nat) (xs : List ByteArray) : Prop := W.heap[g]? = some (.cells (xs.map Value.string).toArray 66 (0, 0))
theorem ArrS.lt {W : World} {g : Nat} {xs : List ByteArray} (h : ArrS W g xs) : g < W.heap.size := by
  rcases Nat.lt_or_ge g W.heap.size with hlt | hge
  · exact hlt
  · unfold ArrS at h; rw [Array.getElem?_eq_none hge] at h; cases h
theorem ArrS.cell {W : World} {g : Nat} {xs : List ByteArray} (h : ArrS W g xs) (i : Nat) (x : ByteArray) (hi : xs[i]? = some x) : W.cell? ⟨g, i, none⟩ = some (.string x) := by
  rw [cell_of_row W g i _ _ _ h]
  simp [hi]
theorem ArrS.frozen {W : World} {g : Nat} {xs : List ByteArray} (h : ArrS W g xs) (i : Nat) : W.frozen? ⟨g, i, none⟩ = false := frozen_of_row W g i _ _ h
theorem ArrS.below {W W' : World} {g : Nat} {xs : List ByteArray} (h : ArrS W g xs) (hb : Below W.heap.size W W') : ArrS W' g xs := (hb.block g h.lt).trans h
theorem ArrS.set {W : World} {g : Nat} {xs : List ByteArray} (h : ArrS W g xs) (i : Nat) (x : ByteArray) : ArrS (W.setCell ⟨g, i, none⟩ (.string x)) g (xs.set i x) := by
  have h1 := heap_setCell_same W g i _ _ (.string x) h
  unfold ArrS
  rw [h1]
  simp [List.map_set]
/-- The first texts are laid. -/
def pstr (ds : List ByteArray) (k : Nat) : List ByteArray := ds.take k ++ List.replicate (4 - k) ByteArray.empty
theorem pstr_set {ds : List ByteArray} {k : Nat} {x : ByteArray} (hd : ds.length = 4) (hk : k < 4) (hx : ds[k]? = some x) : (pstr ds k).set k x = pstr ds (k + 1) := by
  have e1 : (ds.take k).length = k := by rw [List.length_take]; omega
  have e2 : ds.take (k + 1) = ds.take k ++ [x] := by
    rw [List.take_succ_eq_append_getElem (by omega)]
    rw [List.getElem?_eq_getElem (by omega)] at hx
    injection hx with hx
    rw [hx]
  unfold pstr
  rw [List.set_append_right (h := by omega), e1, Nat.sub_self, show 4 - k = (4 - (k + 1)) + 1 from by omega, List.replicate_succ, List.set_cons_zero, e2]
  simp
theorem pstr_all {ds : List ByteArray} (hd : ds.length = 4) : pstr ds 4 = ds := by
  unfold pstr
  rw [List.take_of_length_le (by omega)]
  simp
theorem pstr_at {ds : List ByteArray} {k : Nat} (hd : ds.length = 4) (hk : k < 4) : (pstr ds k)[k]? = some ByteArray.empty := by
  have e1 : (ds.take k).length = k := by rw [List.length_take]; omega
  unfold pstr
  rw [List.getElem?_append_right (by omega), e1, Nat.sub_self, List.getElem?_replicate, if_pos (by omega)]
def dig (n : Nat) : ByteArray := ⟨(Lib.decDigits n).toArray⟩
theorem dig_list (n : Nat) : (dig n).data.toList = Lib.decDigits n := by simp [dig]
theorem ddigs_at (a b c d k : Nat) (hk : k < 4) : [dig a, dig b, dig c, dig d][k]? = some (dig ([a, b, c, d].getD k 0)) := by
  match k, hk with
  | 0, _ => rfl
  | 1, _ => rfl
  | 2, _ => rfl
  | 3, _ => rfl
/-- An address's text. -/
def dstr (a b c d : Nat) : ByteArray := ⟨(dtext a b c d).toArray⟩
theorem dtext_len {a b c d : Nat} (ha : a ≤ 255) (hb : b ≤ 255) (hc : c ≤ 255) (hd : d ≤ 255) : (dtext a b c d).length ≤ 15 := by
  have h1 := dec_len a (by omega)
  have h2 := dec_len b (by omega)
  have h3 := dec_len c (by omega)
  have h4 := dec_len d (by omega)
  simp [dtext, Lib.join, List.intercalate, List.intersperse]
  omega

theorem below_pair (w : World) (o1 o2 : Obj) : Below w.heap.size w ((w.alloc o1).alloc o2) := ((Below.refl _ _).alloc (Nat.le_refl _) o1).alloc (by simp) o2
set_option maxRecDepth 10000 in
set_option maxHeartbeats 1600000 in
theorem print_any (a b c d : Nat) (w : World) (ha : a ≤ 255) (hb : b ≤ 255) (hc : c ≤ 255) (hd : d ≤ 255) (hT : Pow w) :
    Calls Tryd.prog 18 #[quad a b c d] w fun e w' => e = .returned (.string (dstr a b c d)) ∧ Below w.heap.size w w' := by
  have HT := Lib.hid hT
  have H0 := Lib.hid (heap_alloc2_new w (.cells #[.int .u8 a, .int .u8 b, .int .u8 c, .int .u8 d] 35) (.cells #[.string ByteArray.empty, .string ByteArray.empty, .string ByteArray.empty, .string ByteArray.empty] 66))
  have HL := Lib.hid (dtext_len ha hb hc hd)
  have hle : ∀ k, [a, b, c, d].getD k 0 ≤ 255 := by
    intro k
    match k with
    | 0 => exact ha
    | 1 => exact hb
    | 2 => exact hc
    | 3 => exact hd
    | _ + 4 => simp
  have HLE := Lib.hid hle
  clear hT hle
  unfold quad
  go_enter Tryd.func18, Tryd.ntmps18
  go_wp2_with fail
  go_loopw [7] (fun i wr => ∃ k : Nat, k ≤ 4 ∧ i = .int .i64 k ∧ ArrS wr (w.heap.size + 1) (pstr [dig a, dig b, dig c, dig d] k) ∧ Below w.heap.size w wr) (fun i _ => 4 - (intOf i).toNat)
  case atStart => exact ⟨0, by decide, rfl, H0.out, below_pair _ _ _⟩
  case round =>
    obtain ⟨k, hk, rfl, hA, hB⟩ := hrel
    have HA := Lib.hid hA
    have HB := Lib.hid hB
    have HP := Lib.hid (HT.out.below hB)
    clear hA hB
    by_cases hlt : k < 4
    · have hix := idx4 a b c d k hlt
      have hx := Lib.hid (ddigs_at a b c d k hlt)
      have hxl := HLE.out k
      generalize [a, b, c, d].getD k 0 = x at hix hx hxl
      have CI := Lib.hid (fun w hT => itoa_any x w (by omega) hT)
      go_wp2_with fail
      refine (CI.out _ HP.out).mono ?_
      rintro e w1 ⟨rfl, hb1⟩
      have HA1 := Lib.hid (HA.out.below hb1)
      have c0 := HA1.out.cell k ByteArray.empty (pstr_at rfl hlt)
      have f0 := HA1.out.frozen k
      have HB1 := Lib.hid (below_both HB.out hb1)
      have HS : Hid (ArrS (w1.setCell ⟨w.heap.size + 1, k, none⟩ (.string (dig x))) (w.heap.size + 1) (pstr [dig a, dig b, dig c, dig d] (k + 1))) := by
        have := HA1.out.set k (dig x)
        rw [pstr_set rfl hlt hx.out] at this
        exact this
      clear hb1
      go_wp2_with fail
      go_roundw
      case rel => exact ⟨k + 1, by omega, by go_num, HS.out, HB1.out.setCell (by simp) _⟩
      case measure => simp [intOf]; omega
    · obtain rfl : k = 4 := by omega
      have CJ : Hid (Calls Tryd.prog 29 #[.slice (some ⟨w.heap.size + 1, 0, none⟩) 4 4, .string ⟨#[46]⟩] wr fun e w' => e = .returned (.string (dstr a b c d)) ∧ Below wr.heap.size wr w') := by
        have h := sjoin_any (w.heap.size + 1) 0 4 [dig a, dig b, dig c, dig d] ⟨#[46]⟩ wr (fun j x hj => by
          have := HA.out.cell j x (by rw [pstr_all rfl]; exact hj)
          rw [Nat.zero_add]
          exact this) HA.out.lt (by simp) (by simp) (by
            have := HL.out
            simp only [List.map_cons, List.map_nil, dig_list]
            exact Nat.le_trans this (by decide))
        simp only [List.map_cons, List.map_nil, dig_list] at h
        exact h
      go_wp2_with fail
      refine CJ.out.mono ?_
      rintro e w1 ⟨rfl, hb1⟩
      have HB1 := Lib.hid (below_both HB.out hb1)
      clear hb1
      go_wp2_with fail
      go_ret
      exact ⟨rfl, HB1.out⟩
end Go.Proofs.YtaicmadeobglfaaDoor
