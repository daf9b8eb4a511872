/-
  Contracts of octet.Put and of the document's fits.
-/
import Derived.Test.YtlopmkmcjcijcaaOct3
import Derived.Test.YtlopmkmcjcijcaaOct4
import Derived.Test.YtlopmkmcjcijcaaPlain3
namespace Go.Proofs.Ytlopmkmcjcijcaa
open Go.RowKit
set_option linter.unusedVariables false
set_option maxRecDepth 10000

theorem put_range (A : Option Addr) (n cap x : Nat) (a m : Int) (w : World) (h : m < 1 ∨ 8 < m ∨ a < 0) :
    Calls Try.prog 67 #[.slice A n cap, .int .i64 a, .int .i64 m, .int .u64 x] w fun e w' => e = .returned (.tuple #[.slice none 0 0, .int .i64 1]) ∧ w = w' := by
  have H := Lib.hid h
  clear h
  go_enter Try.func67, Try.ntmps67
  go_wp2_with (go_at_call 85; refine (numbered_no _ _ _ H.out).mono ?_; rintro e w' ⟨rfl, rfl⟩)
  go_ret2
  exact ⟨rfl, rfl⟩
theorem put_big (A : Option Addr) (n cap x a m : Nat) (w : World) (h1 : 1 ≤ m) (h2 : m ≤ 8) (h : 256 ^ m ≤ x) :
    Calls Try.prog 67 #[.slice A n cap, .int .i64 a, .int .i64 m, .int .u64 x] w fun e w' => e = .returned (.tuple #[.slice none 0 0, .int .i64 1]) ∧ w = w' := by
  have hx : 2 ^ (8 * m) - 1 < x := by rw [← pow256]; have : 0 < 256 ^ m := Nat.pow_pos (by decide); omega
  clear h
  go_enter Try.func67, Try.ntmps67
  go_wp2_with (first
    | (go_at_call 85; refine (numbered_yes _ _ _ (by omega) (by omega) (by omega)).mono ?_; rintro e w' ⟨rfl, rfl⟩)
    | (go_at_call 87; refine (ones_any _ _ (by omega) (by omega)).mono ?_; rintro e w' ⟨rfl, rfl⟩))
  go_ret2
  exact ⟨rfl, rfl⟩
theorem put_short (A : Option Addr) (n cap x a m : Nat) (w : World) (hn : n ≤ 9223372036854775807) (ha : a ≤ 9223372036854775807) (h1 : 1 ≤ m) (h2 : m ≤ 8) (hx : x < 256 ^ m) (h : n < a + m) :
    Calls Try.prog 67 #[.slice A n cap, .int .i64 a, .int .i64 m, .int .u64 x] w fun e w' => e = .returned (.tuple #[.slice none 0 0, .int .i64 2]) ∧ w = w' := by
  have hx : ¬ 2 ^ (8 * m) - 1 < x := by rw [← pow256]; omega
  go_enter Try.func67, Try.ntmps67
  go_wp2_with (first
    | (go_at_call 85; refine (numbered_yes _ _ _ (by omega) (by omega) (by omega)).mono ?_; rintro e w' ⟨rfl, rfl⟩)
    | (go_at_call 87; refine (ones_any _ _ (by omega) (by omega)).mono ?_; rintro e w' ⟨rfl, rfl⟩)
    | (go_at_call 84; refine (holds_no _ _ _ _ _ _ hn (by omega) (by omega) (by omega)).mono ?_; rintro e w' ⟨rfl, rfl⟩))
  go_ret2
  exact ⟨rfl, rfl⟩

/-- What stands while Put writes: k bytes are there. -/
def PutInv (w : World) (bs : List Nat) (a : Nat) (l : List Nat) (k : Nat) (wr : World) : Prop := Own wr w.heap.size (splice bs a (l.take k)) ∧ Below w.heap.size w wr
/-- What Put answers: new memory. -/
def PutTo (w : World) (l : List Nat) (e : Ending) (w' : World) : Prop :=
  e = .returned (.tuple #[.slice (some ⟨w.heap.size, 0, none⟩) l.length l.length, .int .i64 0]) ∧ Own w' w.heap.size l ∧ Below w.heap.size w w'


theorem put_step {w wr : World} {bs l : List Nat} {a k m n x : Nat} (hinv : PutInv w bs a l k wr) (hlt : k < m) (HG : Hid (∀ k, k < m → l.getD k 0 = x / 256 ^ (m - 1 - k) % 256))
    (HLB : Hid (bs.length = n)) (HLL : Hid (l.length = m)) (h : a + m ≤ n) : PutInv w bs a l (k + 1) (wr.setCell ⟨w.heap.size, a + k, none⟩ (.int .u8 ((x : Int) / 2 ^ (8 * (m - 1 - k)) % 256))) := by
  have e1 := HG.out k hlt
  have e2 := HLB.out
  have e3 := HLL.out
  have e : ((x : Int) / 2 ^ (8 * (m - 1 - k)) % 256) = ((l.getD k 0 : Nat) : Int) := by rw [e1, pow256]; simp
  rw [e]
  refine ⟨?_, hinv.2.setCell (Nat.le_refl _) _⟩
  have := hinv.1.set (a + k) (l.getD k 0)
  rw [splice_take (by omega) (by omega)] at this
  exact this
theorem put_done {w wr : World} {bs l : List Nat} {a m n : Nat} (hinv : PutInv w bs a l m wr) (HLB : Hid (bs.length = n)) (HLL : Hid (l.length = m)) (h : a + m ≤ n) :
    PutTo w (splice bs a l) (.returned (.tuple #[.slice (some ⟨w.heap.size, 0, none⟩) n n, .int .i64 0])) wr := by
  have e2 := HLB.out
  have e3 := HLL.out
  refine ⟨by rw [splice_length (by omega), e2], ?_, hinv.2⟩
  have := hinv.1
  rw [List.take_of_length_le (by omega)] at this
  exact this

theorem put_new (A : Option Addr) (n cap x a m : Nat) (bs : List Nat) (w : World) (hcap : n ≤ cap) (hreach : n ≤ 140737488355328) (h1 : 1 ≤ m) (h2 : m ≤ 8) (hx : x < 256 ^ m) (h : a + m ≤ n) (hA : Row w A n bs) :
    Calls Try.prog 67 #[.slice A n cap, .int .i64 a, .int .i64 m, .int .u64 x] w (PutTo w (splice bs a (pb x m))) := by
  have hx : ¬ 2 ^ (8 * m) - 1 < x := by rw [← pow256]; omega
  have hmk := make_bytes n (by omega)
  have hlb := hA.1
  have hll := pb_length x m
  obtain ⟨b, o, rfl, hb, hc⟩ := hA.addr (by omega)
  obtain ⟨w2, hcp, ho, hbw⟩ := copy_new (w.alloc (.cells (bcells (List.replicate n 0)).toArray 5)) w.heap.size n (List.replicate n 0) bs (some ⟨b, o, none⟩) n cap (Own.new w _) (by simp) hA.1 (Nat.le_refl _)
    (fun h0 => ⟨⟨b, o, none⟩, rfl, fun j v hj => by
      obtain ⟨hj, rfl⟩ := bcells_get hj
      rw [add_flat, World.cell?_alloc_lt w _ ⟨b, o + j, none⟩ hb]
      exact hc j (by omega)⟩)
  have hst : PutInv w bs a (pb x m) 0 w2 := ⟨by rw [List.take_zero, splice_nil]; exact ho, ((Below.refl _ _).alloc (Nat.le_refl _) _).trans hbw⟩
  have HG := Lib.hid (fun k (hk : k < m) => pb_get x m k hk)
  have HLB := Lib.hid hlb
  have HLL := Lib.hid hll
  generalize pb x m = l at *
  clear ho hbw hc hA hlb hll
  go_enter Try.func67, Try.ntmps67
  go_wp2_with (first
    | (go_at_call 85; refine (numbered_yes _ _ _ (by omega) (by omega) (by omega)).mono ?_; rintro e w' ⟨rfl, rfl⟩)
    | (go_at_call 87; refine (ones_any _ _ (by omega) (by omega)).mono ?_; rintro e w' ⟨rfl, rfl⟩)
    | (go_at_call 84; refine (holds_yes _ _ _ _ _ _ (by omega) (by omega) (by omega) (by omega)).mono ?_; rintro e w' ⟨rfl, rfl⟩))
  clear hcp hmk
  go_loopw [35] (fun i wr => ∃ k : Nat, k ≤ m ∧ i = .int .i64 k ∧ PutInv w bs a l k wr) (fun i _ => m - (intOf i).toNat)
  case atStart => exact ⟨0, Nat.zero_le _, rfl, hst⟩
  case round =>
    obtain ⟨k, hk, rfl, hinv⟩ := hrel
    by_cases hlt : k < m
    · have hlen : (splice bs a (l.take k)).length = n := by
        rw [splice_length (by rw [List.length_take, HLL.out, HLB.out]; omega), HLB.out]
      have hcell := hinv.1.cell (a + k) (by omega)
      have hfr := hinv.1.frozen (a + k)
      clear hlen
      go_wp2
      go_roundw
      case rel => exact ⟨k + 1, by omega, by go_num, put_step hinv hlt HG HLB HLL h⟩
      case measure => simp [intOf]; omega
    · have hk' : k = m := by omega
      subst hk'
      go_wp2
      go_ret2
      exact put_done hinv HLB HLL h

/-- fits, where it does. -/
theorem put_ok (A : Option Addr) (n cap x a m : Nat) (bs : List Nat) (w : World) (hcap : n ≤ cap) (hreach : cap ≤ 140737488351232) (h1 : 1 ≤ m) (h2 : m ≤ 8) (hx : x < 256 ^ m) (h : a + m ≤ n) (hA : Row w A n bs) :
    Calls Try.prog 67 #[.slice A n cap, .int .i64 a, .int .i64 m, .int .u64 x] w (PutTo w (splice bs a (pb x m))) := put_new A n cap x a m bs w hcap (by omega) h1 h2 hx h hA
end Go.Proofs.Ytlopmkmcjcijcaa
