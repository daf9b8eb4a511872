/-
  The contracts of strconv.Itoa at a byte, of strings.Join, and of dotted's Print. The table of powers of ten lies as its initialiser lays it ('Pow').
-/
import Derived.Test.YtnofalgcpgheoaaDoorDot3
import Derived.Shelf.Lay
import Derived.Shelf.Strconv.Itoa3
import Derived.Shelf.Strings.OnBuilder
import Derived.Lib.AppendIntMem
import Derived.Lib.SmallJoins
namespace Go.Proofs.YtnofalgcpgheoaaDoor
open Go.RowKit Go.Shelf
set_option linter.unusedVariables false
shelf_lay LaysM.n171 Nm 171 at Tryd as lays171
/-- The library's table of powers of ten lies in the world. -/
def Pow (w : World) : Prop := Lib.TabIs Tryd.prog w "internal/strconv.uint64pow10" .u64 Lib.pow10Tab
theorem pow_global : Tryd.prog.globalNamed "internal/strconv.uint64pow10" = some 2 := by kernel_rfl
theorem Pow.below {w w' : World} (h : Pow w) (hb : Below w.heap.size w w') : Pow w' := Go.Joins.tab_stays pow_global h hb (Nat.le_refl _)

theorem itoa_any (n : Nat) (w : World) (hn : n ≤ 999) (hT : Pow w) :
    Calls Tryd.prog 22 #[.int .i64 n] w fun e w' => e = .returned (.string ⟨(Lib.decDigits n).toArray⟩) ∧ Below w.heap.size w w' := by
  have h := Any.strconv_Itoa lays171 (n : Int) (by omega) (by omega) w hT
  refine (show Calls Tryd.prog 22 #[.int .i64 n] w _ from h).mono ?_
  rintro e w' ⟨rfl, k, os, rfl⟩
  refine ⟨?_, Lib.below_grow _ _ (Nat.le_refl _) k os⟩
  have e : Lib.itoa (n : Int) = Lib.decDigits n := by
    unfold Lib.itoa
    rw [if_neg (by omega), Int.toNat_natCast]
  rw [e]
/-- The first texts are laid. -/
def pstr (ds : List ByteArray) (k : Nat) : List ByteArray := ds.take k ++ List.replicate (4 - k) ByteArray.empty
theorem pstr_set {ds : List ByteArray} {k : Nat} {x : ByteArray} (hd : ds.length = 4) (hk : k < 4) (hx : ds[k]? = some x) : (pstr ds k).set k x = pstr ds (k + 1) := by
  have e1 : (ds.take k).length = k := by rw [List.length_take]; omega
  have e2 : ds.take (k + 1) = ds.take k ++ [x] := by
    rw [List.take_succ_eq_append_getElem (by omega)]
    rw [List.getElem?_eq_getElem (by omega)] at hx
    injection hx with hx
    rw [hx]
  unfold pstr
  rw [List.set_append_right (h := by omega), e1, Nat.sub_self, show 4 - k = (4 - (k + 1)) + 1 from by omega, List.replicate_succ, List.set_cons_zero, e2]
  simp
theorem pstr_all {ds : List ByteArray} (hd : ds.length = 4) : pstr ds 4 = ds := by
  unfold pstr
  rw [List.take_of_length_le (by omega)]
  simp
theorem pstr_at {ds : List ByteArray} {k : Nat} (hd : ds.length = 4) (hk : k < 4) : (pstr ds k)[k]? = some ByteArray.empty := by
  have e1 : (ds.take k).length = k := by rw [List.length_take]; omega
  unfold pstr
  rw [List.getElem?_append_right (by omega), e1, Nat.sub_self, List.getElem?_replicate, if_pos (by omega)]
def dig (n : Nat) : ByteArray := ⟨(Lib.decDigits n).toArray⟩
theorem dig_list (n : Nat) : (dig n).data.toList = Lib.decDigits n := by simp [dig]
theorem ddigs_at (a b c d k : Nat) (hk : k < 4) : [dig a, dig b, dig c, dig d][k]? = some (dig ([a, b, c, d].getD k 0)) := by
  match k, hk with
  | 0, _ => rfl
  | 1, _ => rfl
  | 2, _ => rfl
  | 3, _ => rfl
/-- An address's text. -/
def dstr (a b c d : Nat) : ByteArray := ⟨(dtext a b c d).toArray⟩
theorem dtext_len {a b c d : Nat} (ha : a ≤ 255) (hb : b ≤ 255) (hc : c ≤ 255) (hd : d ≤ 255) : (dtext a b c d).length ≤ 15 := by
  have h1 := dec_len a (by omega)
  have h2 := dec_len b (by omega)
  have h3 := dec_len c (by omega)
  have h4 := dec_len d (by omega)
  simp [dtext, Lib.join, List.intercalate, List.intersperse]
  omega

theorem below_pair (w : World) (o1 o2 : Obj) : Below w.heap.size w ((w.alloc o1).alloc o2) := ((Below.refl _ _).alloc (Nat.le_refl _) o1).alloc (by simp) o2
end Go.Proofs.YtnofalgcpgheoaaDoor
