/-
  Contracts of the document's Cut and Put.
-/
import Derived.Test.YtmchclpkjjmocaaGreatOct1
import Derived.Test.YtmchclpkjjmocaaGreatJoin
namespace Go.Proofs.YtmchclpkjjmocaaGreat
open Go.RowKit
set_option linter.unusedVariables false
set_option maxRecDepth 10000

/-- New bytes, and no error. -/
def OutTo (w : World) (l : List Nat) (e : Ending) (w' : World) : Prop := ∃ v, e = .returned (.tuple #[v, .int .i64 0]) ∧ OutIs w.heap.size w' v l ∧ Below w.heap.size w w'
theorem outTo_mk {w w' : World} {o : Obj} {v : Value} {l : List Nat} (h1 : OutIs (w.alloc o).heap.size w' v l) (h2 : Below (w.alloc o).heap.size (w.alloc o) w') : OutTo w l (.returned (.tuple #[v, .int .i64 0])) w' :=
  ⟨v, rfl, h1.mono (by simp), ((Below.refl _ _).alloc (Nat.le_refl _) _).trans (h2.mono (by simp))⟩

theorem rput_range (A : Option Addr) (n cap x : Nat) (a m : Int) (w : World) (h : m < 1 ∨ 8 < m ∨ a < 0) :
    Calls Tryz.prog 44 #[.slice A n cap, .int .i64 a, .int .i64 m, .int .u64 x] w fun e w' => e = .returned (.tuple #[.slice none 0 0, .int .i64 1]) ∧ w = w' := by
  by_cases h1 : m < 1
  · clear h
    go_enter Tryz.func44, Tryz.ntmps44
    go_wp2
    go_ret2
    exact ⟨rfl, rfl⟩
  · by_cases h2 : 8 < m
    · clear h
      go_enter Tryz.func44, Tryz.ntmps44
      go_wp2
      go_ret2
      exact ⟨rfl, rfl⟩
    · have h3 : a < 0 := by omega
      clear h
      go_enter Tryz.func44, Tryz.ntmps44
      go_wp2
      go_ret2
      exact ⟨rfl, rfl⟩
theorem fits_yes (x m : Nat) (w : World) (hm : m ≤ 8) (hx : x ≤ 18446744073709551615) (h : Hid (x < 256 ^ m)) :
    Calls Tryz.prog 64 #[.int .u64 x, .int .i64 m] w fun e w' => e = .returned (.bool true) ∧ w = w' := by
  have := fits_any x m w hm hx
  rw [decide_eq_true h.out] at this
  exact this
theorem fits_no (x m : Nat) (w : World) (hm : m ≤ 8) (hx : x ≤ 18446744073709551615) (h : Hid (¬ x < 256 ^ m)) :
    Calls Tryz.prog 64 #[.int .u64 x, .int .i64 m] w fun e w' => e = .returned (.bool false) ∧ w = w' := by
  have := fits_any x m w hm hx
  rw [decide_eq_false h.out] at this
  exact this
theorem rput_big (A : Option Addr) (n cap x a m : Nat) (w : World) (h1 : 1 ≤ m) (h2 : m ≤ 8) (hx64 : x ≤ 18446744073709551615) (h : 256 ^ m ≤ x) :
    Calls Tryz.prog 44 #[.slice A n cap, .int .i64 a, .int .i64 m, .int .u64 x] w fun e w' => e = .returned (.tuple #[.slice none 0 0, .int .i64 1]) ∧ w = w' := by
  have h := Lib.hid (show ¬ x < 256 ^ m from by omega)
  go_enter Tryz.func44, Tryz.ntmps44
  go_wp2_with (go_at_call 64; refine (fits_no _ _ _ h2 hx64 h).mono ?_; rintro e w' ⟨rfl, rfl⟩)
  go_ret2
  exact ⟨rfl, rfl⟩
theorem rput_short (A : Option Addr) (n cap x a m : Nat) (w : World) (hn : n ≤ 9223372036854775807) (ha : a ≤ 9223372036854775807) (h1 : 1 ≤ m) (h2 : m ≤ 8) (hx64 : x ≤ 18446744073709551615) (hx : x < 256 ^ m) (h : n < a + m) :
    Calls Tryz.prog 44 #[.slice A n cap, .int .i64 a, .int .i64 m, .int .u64 x] w fun e w' => e = .returned (.tuple #[.slice none 0 0, .int .i64 2]) ∧ w = w' := by
  have hx := Lib.hid hx
  go_enter Tryz.func44, Tryz.ntmps44
  go_wp2_with (first
    | (go_at_call 64; refine (fits_yes _ _ _ h2 hx64 hx).mono ?_; rintro e w' ⟨rfl, rfl⟩)
    | (go_at_call 65; refine (place_short _ _ _ _ _ _ hn (by omega) (by omega) (by omega) (by omega) (by omega)).mono ?_; rintro e w' ⟨rfl, rfl⟩))
  go_ret2
  exact ⟨rfl, rfl⟩

/-- What stands while the document's Put writes: the bytes from the i-th on are there. -/
def RPutInv (B : Nat) (w : World) (v : Value) (bs : List Nat) (a : Nat) (l : List Nat) (i : Nat) (wr : World) : Prop := OutIs B wr v (splice bs (a + i) (l.drop i)) ∧ Below B w wr
theorem rput_step {B g c : Nat} {w wr : World} {bs l : List Nat} {a i n q : Nat} (hinv : RPutInv B w (.slice (some ⟨g, 0, none⟩) n c) bs a l (i + 1) wr) (hlt : i < l.length) (hB : B ≤ g) (hq : l.getD i 0 = q % 256)
    (hn : bs.length = n) (h : a + l.length ≤ n) : RPutInv B w (.slice (some ⟨g, 0, none⟩) n c) bs a l i (wr.setCell ⟨g, a + i, none⟩ (.int .u8 ((q : Int) % 256))) := by
  have e : ((q : Int) % 256) = ((l.getD i 0 : Nat) : Int) := by rw [hq]; omega
  rw [e]
  refine ⟨?_, hinv.2.setCell hB _⟩
  have := hinv.1.set (by rw [splice_length (by rw [List.length_drop]; omega), hn]) (a + i) (l.getD i 0)
  rw [splice_drop (by omega) hlt] at this
  exact this
theorem rput_new (A : Option Addr) (n cap x a m : Nat) (bs : List Nat) (w : World) (hcap : n ≤ cap) (hreach : n ≤ 140737488355328) (h1 : 1 ≤ m) (h2 : m ≤ 8) (hx64 : x ≤ 18446744073709551615) (hx : x < 256 ^ m) (h : a + m ≤ n) (hA : Row w A n bs) :
    Calls Tryz.prog 44 #[.slice A n cap, .int .i64 a, .int .i64 m, .int .u64 x] w (OutTo w (splice bs a (pb x m))) := by
  have hx := Lib.hid hx
  have hR := Lib.hid hA
  have HG := Lib.hid (fun k (hk : k < m) => pb_get x m k hk)
  have HLB := Lib.hid hA.1
  have HLL := Lib.hid (pb_length x m)
  have h0 : 0 < n := by omega
  clear hA
  generalize pb x m = l at *
  go_enter Tryz.func44, Tryz.ntmps44
  go_wp2_with (first
    | (go_at_call 64; refine (fits_yes _ _ _ h2 hx64 hx).mono ?_; rintro e w' ⟨rfl, rfl⟩)
    | (go_at_call 65; refine (place_ok _ _ _ _ _ _ (by omega) (by omega) (by omega) (by omega) (by omega)).mono ?_; rintro e w' ⟨rfl, rfl⟩)
    | (go_at_call 4; refine (join_one w.heap.size n _ _ _ bs _ (by omega) (hR.out.alloc _) (by rw [cell_of_row _ _ _ _ _ _ (heap_alloc_new w _)]; rfl)).mono ?_; rintro e w2 ⟨v, rfl, ho, hb⟩; obtain ⟨g, c, rfl, hg, hc1, hc2⟩ := ho.block (by rw [HLB.out]; exact h0); rw [HLB.out] at ho hc1 ⊢))
  have hst : RPutInv w.heap.size w (.slice (some ⟨g, 0, none⟩) n c) bs a l m w2 := by
    refine ⟨?_, ((Below.refl _ _).alloc (Nat.le_refl _) _).trans (hb.mono (by simp))⟩
    rw [List.drop_eq_nil_of_le (by rw [HLL.out]; exact Nat.le_refl _), splice_nil]
    exact ho.mono (by simp)
  have hgB : w.heap.size ≤ g := by simp at hg; omega
  clear ho hb hg
  go_loopw [3, 12] (fun v j wr => ∃ k : Nat, k ≤ m ∧ j = .int .i64 ((k : Int) - 1) ∧ v = .int .u64 ((x / 256 ^ (m - k) : Nat) : Int) ∧ RPutInv w.heap.size w (.slice (some ⟨g, 0, none⟩) n c) bs a l k wr) (fun _ j _ => (intOf j + 1).toNat)
  case atStart => exact ⟨m, Nat.le_refl _, rfl, by simp, hst⟩
  case round =>
    clear hst
    obtain ⟨k, hk, rfl, rfl, hinv⟩ := hrel
    rcases Nat.eq_zero_or_pos k with h0k | h0k
    · subst h0k
      have hfin : OutTo w (splice bs a l) (.returned (.tuple #[.slice (some ⟨g, 0, none⟩) n c, .int .i64 0])) wr := ⟨_, rfl, by simpa using hinv.1, hinv.2⟩
      have HF := Lib.hid hfin
      clear hinv hfin
      go_wp2
      go_ret2
      exact HF.out
    · obtain ⟨d, rfl⟩ : ∃ d, k = d + 1 := ⟨k - 1, by omega⟩
      have hlen : (splice bs (a + (d + 1)) (l.drop (d + 1))).length = n := by
        rw [splice_length (by rw [List.length_drop, HLL.out, HLB.out]; omega), HLB.out]
      have hcell := hinv.1.cell hlen (a + d) (by omega)
      have hfr := hinv.1.frozen hlen (a + d)
      have hqle : x / 256 ^ (m - (d + 1)) ≤ x := Nat.div_le_self _ _
      have hgd := HG.out d (by omega)
      have hq2 : x / 256 ^ (m - d) = x / 256 ^ (m - (d + 1)) / 256 := by
        rw [show m - d = m - (d + 1) + 1 from by omega, Nat.pow_succ, Nat.div_div_eq_div_mul]
      rw [show m - 1 - d = m - (d + 1) from by omega] at hgd
      have hnx := rput_step (q := x / 256 ^ (m - (d + 1))) hinv (by rw [HLL.out]; omega) hgB hgd HLB.out (by rw [HLL.out]; exact h)
      have hq2 := Lib.hid hq2
      generalize x / 256 ^ (m - (d + 1)) = q at *
      clear hlen hinv hgd
      go_wp2
      go_roundw
      case rel => exact ⟨d, by omega, by go_num, by rw [hq2.out]; go_num, hnx⟩
      case measure => simp [intOf]
theorem rput_ok (A : Option Addr) (n cap x a m : Nat) (bs : List Nat) (w : World) (hcap : n ≤ cap) (hreach : cap ≤ 140737488351232) (h1 : 1 ≤ m) (h2 : m ≤ 8) (hx64 : x ≤ 18446744073709551615) (hx : x < 256 ^ m) (h : a + m ≤ n) (hA : Row w A n bs) :
    Calls Tryz.prog 44 #[.slice A n cap, .int .i64 a, .int .i64 m, .int .u64 x] w (OutTo w (splice bs a (pb x m))) := rput_new A n cap x a m bs w hcap (by omega) h1 h2 hx64 hx h hA
end Go.Proofs.YtmchclpkjjmocaaGreat
