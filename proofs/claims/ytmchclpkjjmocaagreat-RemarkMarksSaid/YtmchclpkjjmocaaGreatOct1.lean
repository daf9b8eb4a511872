/-
  Contracts of octet's small tests and of the document's tests of a place, and of SameBytes at equal bytes.
  Contracts of octet.Get and of the document's Get: the big-endian number of the bytes at a place, or which error.
  Contracts of octet.Cut and octet.Put: a copy of some bytes; a copy with a number put in; or which error.
  Contracts of octet's ones, within, Bits, SetBits and of the document's are, bit, fits, Bits, SetBits.
  Contracts of octet.Put and of the document's fits.
-/
import Derived.Test.YtmchclpkjjmocaaGreatBase
import Derived.Test.YtmchclpkjjmocaaGreatPlain
import Derived.Test.YtmchclpkjjmocaaGreatOwn
namespace Go.Proofs.YtmchclpkjjmocaaGreat
open Go.RowKit
set_option linter.unusedVariables false

theorem numbered_yes (at' width : Int) (w : World) (h1 : 1 ≤ width) (h2 : width ≤ 8) (h3 : 0 ≤ at') :
    Calls Tryz.prog 52 #[.int .i64 at', .int .i64 width] w fun e w' => e = .returned (.bool true) ∧ w = w' := by
  go_enter Tryz.func52, Tryz.ntmps52
  go_wp2
  go_ret
  exact ⟨rfl, rfl⟩
theorem numbered_no (at' width : Int) (w : World) (h : width < 1 ∨ 8 < width ∨ at' < 0) :
    Calls Tryz.prog 52 #[.int .i64 at', .int .i64 width] w fun e w' => e = .returned (.bool false) ∧ w = w' := by
  by_cases h1 : 1 ≤ width
  · by_cases h2 : width ≤ 8
    · have h3 : at' < 0 := by omega
      clear h
      go_enter Tryz.func52, Tryz.ntmps52
      go_wp2
      go_ret
      exact ⟨by simp; omega, rfl⟩
    · clear h
      go_enter Tryz.func52, Tryz.ntmps52
      go_wp2
      go_ret
      exact ⟨rfl, rfl⟩
  · clear h
    go_enter Tryz.func52, Tryz.ntmps52
    go_wp2
    go_ret
    exact ⟨rfl, rfl⟩

theorem holds_yes (A : Option Addr) (n cap : Nat) (a m : Int) (w : World) (hn : n ≤ 9223372036854775807) (ha : 0 ≤ a) (hm : 0 ≤ m) (h : a + m ≤ n) :
    Calls Tryz.prog 53 #[.slice A n cap, .int .i64 a, .int .i64 m] w fun e w' => e = .returned (.bool true) ∧ w = w' := by
  go_enter Tryz.func53, Tryz.ntmps53
  go_wp2
  go_ret
  exact ⟨by simp; omega, rfl⟩
theorem holds_no (A : Option Addr) (n cap : Nat) (a m : Int) (w : World) (hn : n ≤ 9223372036854775807) (ha : 0 ≤ a) (hm : 0 ≤ m) (h : n < a + m) :
    Calls Tryz.prog 53 #[.slice A n cap, .int .i64 a, .int .i64 m] w fun e w' => e = .returned (.bool false) ∧ w = w' := by
  by_cases h1 : a ≤ n
  · go_enter Tryz.func53, Tryz.ntmps53
    go_wp2
    go_ret
    exact ⟨by simp; omega, rfl⟩
  · go_enter Tryz.func53, Tryz.ntmps53
    go_wp2
    go_ret
    exact ⟨rfl, rfl⟩

theorem place_range (A : Option Addr) (n cap : Nat) (a m : Int) (w : World) (h : m < 1 ∨ 8 < m ∨ a < 0) :
    Calls Tryz.prog 65 #[.slice A n cap, .int .i64 a, .int .i64 m] w fun e w' => e = .returned (.int .i64 1) ∧ w = w' := by
  by_cases h1 : m < 1
  · clear h
    go_enter Tryz.func65, Tryz.ntmps65
    go_wp2
    go_ret
    exact ⟨rfl, rfl⟩
  · by_cases h2 : 8 < m
    · clear h
      go_enter Tryz.func65, Tryz.ntmps65
      go_wp2
      go_ret
      exact ⟨rfl, rfl⟩
    · have h3 : a < 0 := by omega
      clear h
      go_enter Tryz.func65, Tryz.ntmps65
      go_wp2
      go_ret
      exact ⟨rfl, rfl⟩
theorem place_short (A : Option Addr) (n cap : Nat) (a m : Int) (w : World) (hn : n ≤ 9223372036854775807) (ha : 0 ≤ a) (ha' : a ≤ 9223372036854775807) (h1 : 1 ≤ m) (h2 : m ≤ 8) (h : n < a + m) :
    Calls Tryz.prog 65 #[.slice A n cap, .int .i64 a, .int .i64 m] w fun e w' => e = .returned (.int .i64 2) ∧ w = w' := by
  go_enter Tryz.func65, Tryz.ntmps65
  go_wp2
  go_ret
  exact ⟨rfl, rfl⟩
theorem place_ok (A : Option Addr) (n cap : Nat) (a m : Int) (w : World) (hn : n ≤ 9223372036854775807) (ha : 0 ≤ a) (h1 : 1 ≤ m) (h2 : m ≤ 8) (h : a + m ≤ n) :
    Calls Tryz.prog 65 #[.slice A n cap, .int .i64 a, .int .i64 m] w fun e w' => e = .returned (.int .i64 0) ∧ w = w' := by
  go_enter Tryz.func65, Tryz.ntmps65
  go_wp2
  go_ret
  exact ⟨rfl, rfl⟩

/-- Equal bytes are the same. -/
theorem same_yes (A B : Option Addr) (n c d : Nat) (bs : List Nat) (w : World) (hn : n ≤ 9223372036854775807) (hA : Row w A n bs) (hB : Row w B n bs) :
    Calls Tryz.prog 8 #[.slice A n c, .slice B n d] w fun e w' => e = .returned (.bool true) ∧ Below w.heap.size w w' := by
  rcases Nat.eq_zero_or_pos n with h0 | h0
  · subst h0
    clear hA hB
    go_enter Tryz.func8, Tryz.ntmps8
    go_wp2
    refine wp_loop_rounds 1 ?_
    rw [rounds_succ]
    go_wp2
    go_ret
    exact ⟨rfl, Below.refl _ _⟩
  · obtain ⟨b, o, rfl, hb, hc⟩ := hA.addr h0
    obtain ⟨b2, o2, rfl, hb2, hc2⟩ := hB.addr h0
    have HC := Lib.hid hc
    have HC2 := Lib.hid hc2
    clear hc hc2 hA hB
    go_enter Tryz.func8, Tryz.ntmps8
    go_wp2
    go_loopw [5] (fun i wr => ∃ k q : Nat, k ≤ n ∧ i = .int .i64 k ∧ wr = w.drewN q) (fun i _ => n - (intOf i).toNat)
    case atStart => exact ⟨0, 0, Nat.zero_le _, rfl, rfl⟩
    case round =>
      obtain ⟨k, q, hk, rfl, rfl⟩ := hrel
      by_cases hlt : k < n
      · have h1 := HC.out k hlt
        have h2 := HC2.out k hlt
        go_wp2
        go_quiet (fail)
        go_wp2
        go_roundw
        case rel => exact ⟨k + 1, q + nq, by omega, by go_num, rfl⟩
        case measure => simp [intOf]; omega
      · go_wp2
        go_ret
        exact ⟨rfl, below_drewN' (Below.refl _ _) _⟩
end Go.Proofs.YtmchclpkjjmocaaGreat

namespace Go.Proofs.YtmchclpkjjmocaaGreat
open Go.RowKit
set_option linter.unusedVariables false

theorem get_range (A : Option Addr) (n cap : Nat) (a m : Int) (w : World) (h : m < 1 ∨ 8 < m ∨ a < 0) :
    Calls Tryz.prog 34 #[.slice A n cap, .int .i64 a, .int .i64 m] w fun e w' => e = .returned (.tuple #[.int .u64 0, .int .i64 1]) ∧ w = w' := by
  have H := Lib.hid h
  clear h
  go_enter Tryz.func34, Tryz.ntmps34
  go_wp2_with (go_at_call 52; refine (numbered_no _ _ _ H.out).mono ?_; rintro e w' ⟨rfl, rfl⟩)
  go_ret2
  exact ⟨rfl, rfl⟩
theorem get_short (A : Option Addr) (n cap : Nat) (a m : Int) (w : World) (hn : n ≤ 9223372036854775807) (h0 : 0 ≤ a) (h1 : 1 ≤ m) (h2 : m ≤ 8) (h : n < a + m) :
    Calls Tryz.prog 34 #[.slice A n cap, .int .i64 a, .int .i64 m] w fun e w' => e = .returned (.tuple #[.int .u64 0, .int .i64 2]) ∧ w = w' := by
  go_enter Tryz.func34, Tryz.ntmps34
  go_wp2_with (first
    | (go_at_call 52; refine (numbered_yes _ _ _ h1 h2 h0).mono ?_; rintro e w' ⟨rfl, rfl⟩)
    | (go_at_call 53; refine (holds_no _ _ _ _ _ _ hn h0 (by omega) h).mono ?_; rintro e w' ⟨rfl, rfl⟩))
  go_ret2
  exact ⟨rfl, rfl⟩
theorem get_ok (A : Option Addr) (n cap a m : Nat) (bs : List Nat) (w : World) (hn : n ≤ 9223372036854775807) (hcap : n ≤ cap) (h1 : 1 ≤ m) (h2 : m ≤ 8) (h : a + m ≤ n) (hA : Row w A n bs) :
    Calls Tryz.prog 34 #[.slice A n cap, .int .i64 a, .int .i64 m] w fun e w' => e = .returned (.tuple #[.int .u64 (be ((bs.drop a).take m)), .int .i64 0]) ∧ w = w' := by
  obtain ⟨b, o, rfl, hb, hc⟩ := hA.addr (by omega)
  have hby : ∀ x ∈ bs.drop a, x < 256 := mem_drop hA.2.1
  have hlen : (bs.drop a).length = n - a := by rw [List.length_drop, hA.1]
  have hcell : ∀ k, k < m → w.cell? ⟨b, o + a + k, none⟩ = some (.int .u8 ((bs.drop a).getD k 0 : Nat)) := fun k hk => by
    rw [show o + a + k = o + (a + k) from by omega, hc _ (by omega), List.getD_eq_getElem?_getD, List.getD_eq_getElem?_getD, List.getElem?_drop]
  generalize bs.drop a = l at *
  have HC := Lib.hid hcell
  have HB := Lib.hid hby
  have HL := Lib.hid hlen
  clear hcell hby hc hA hlen
  go_enter Tryz.func34, Tryz.ntmps34
  go_wp2_with (first
    | (go_at_call 52; refine (numbered_yes _ _ _ (by omega) (by omega) (by omega)).mono ?_; rintro e w' ⟨rfl, rfl⟩)
    | (go_at_call 53; refine (holds_yes _ _ _ _ _ _ hn (by omega) (by omega) (by omega)).mono ?_; rintro e w' ⟨rfl, rfl⟩))
  go_loop [8, 27] (fun v i => ∃ k : Nat, k ≤ m ∧ i = .int .i64 k ∧ v = .int .u64 (be (l.take k) : Nat)) (fun _ i => m - (intOf i).toNat)
  case atStart => exact ⟨0, Nat.zero_le _, rfl, rfl⟩
  case round =>
    obtain ⟨k, hk, rfl, rfl⟩ := hrel
    by_cases hlt : k < m
    · have hx := HC.out k hlt
      have hb7 := be_lt7 (l.take k) (mem_take HB.out) (by rw [List.length_take]; omega)
      have hx2 : l.getD k 0 < 256 := by
        have hl := HL.out
        rw [List.getD_eq_getElem?_getD, List.getElem?_eq_getElem (by omega)]
        exact HB.out _ (List.getElem_mem _)
      have hst := Lib.hid (be_step l k (by have := HL.out; omega))
      have hor := shl8_or _ _ hb7 hx2
      generalize be (l.take k) = q at *
      generalize l.getD k 0 = x at *
      go_wp2
      go_round
      case rel => exact ⟨k + 1, by omega, by go_num, by rw [hst.out]; go_num⟩
      case measure => simp [intOf]; omega
    · have hk' : k = m := by omega
      subst hk'
      go_wp2
      go_ret2
      exact ⟨rfl, rfl⟩

theorem rget_range (A : Option Addr) (n cap : Nat) (a m : Int) (w : World) (h : m < 1 ∨ 8 < m ∨ a < 0) :
    Calls Tryz.prog 63 #[.slice A n cap, .int .i64 a, .int .i64 m] w fun e w' => e = .returned (.tuple #[.int .u64 0, .int .i64 1]) ∧ w = w' := by
  have H := Lib.hid h
  clear h
  go_enter Tryz.func63, Tryz.ntmps63
  go_wp2_with (go_at_call 65; refine (place_range _ _ _ _ _ _ H.out).mono ?_; rintro e w' ⟨rfl, rfl⟩)
  go_ret2
  exact ⟨rfl, rfl⟩
theorem rget_short (A : Option Addr) (n cap : Nat) (a m : Int) (w : World) (hn : n ≤ 9223372036854775807) (h0 : 0 ≤ a) (h0' : a ≤ 9223372036854775807) (h1 : 1 ≤ m) (h2 : m ≤ 8) (h : n < a + m) :
    Calls Tryz.prog 63 #[.slice A n cap, .int .i64 a, .int .i64 m] w fun e w' => e = .returned (.tuple #[.int .u64 0, .int .i64 2]) ∧ w = w' := by
  go_enter Tryz.func63, Tryz.ntmps63
  go_wp2_with (go_at_call 65; refine (place_short _ _ _ _ _ _ hn h0 h0' h1 h2 h).mono ?_; rintro e w' ⟨rfl, rfl⟩)
  go_ret2
  exact ⟨rfl, rfl⟩
theorem rget_ok (A : Option Addr) (n cap a m : Nat) (bs : List Nat) (w : World) (hn : n ≤ 9223372036854775807) (hcap : n ≤ cap) (h1 : 1 ≤ m) (h2 : m ≤ 8) (h : a + m ≤ n) (hA : Row w A n bs) :
    Calls Tryz.prog 63 #[.slice A n cap, .int .i64 a, .int .i64 m] w fun e w' => e = .returned (.tuple #[.int .u64 (be ((bs.drop a).take m)), .int .i64 0]) ∧ w = w' := by
  obtain ⟨b, o, rfl, hb, hc⟩ := hA.addr (by omega)
  have hby : ∀ x ∈ bs.drop a, x < 256 := mem_drop hA.2.1
  have hlen : (bs.drop a).length = n - a := by rw [List.length_drop, hA.1]
  have hcell : ∀ k, k < m → w.cell? ⟨b, o + (a + k), none⟩ = some (.int .u8 ((bs.drop a).getD k 0 : Nat)) := fun k hk => by
    rw [hc _ (by omega), List.getD_eq_getElem?_getD, List.getD_eq_getElem?_getD, List.getElem?_drop]
  generalize bs.drop a = l at *
  have HC := Lib.hid hcell
  have HB := Lib.hid hby
  have HL := Lib.hid hlen
  clear hcell hby hc hA hlen
  go_enter Tryz.func63, Tryz.ntmps63
  go_wp2_with (go_at_call 65; refine (place_ok _ _ _ _ _ _ hn (by omega) (by omega) (by omega) (by omega)).mono ?_; rintro e w' ⟨rfl, rfl⟩)
  go_loop [9, 10] (fun v i => ∃ k : Nat, k ≤ m ∧ i = .int .i64 k ∧ v = .int .u64 (be (l.take k) : Nat)) (fun _ i => m - (intOf i).toNat)
  case atStart => exact ⟨0, Nat.zero_le _, rfl, rfl⟩
  case round =>
    obtain ⟨k, hk, rfl, rfl⟩ := hrel
    by_cases hlt : k < m
    · have hx := HC.out k hlt
      have hb7 := be_lt7 (l.take k) (mem_take HB.out) (by rw [List.length_take]; omega)
      have hx2 : l.getD k 0 < 256 := by
        have hl := HL.out
        rw [List.getD_eq_getElem?_getD, List.getElem?_eq_getElem (by omega)]
        exact HB.out _ (List.getElem_mem _)
      have hst := Lib.hid (be_step l k (by have := HL.out; omega))
      generalize be (l.take k) = q at *
      generalize l.getD k 0 = x at *
      go_wp2
      go_round
      case rel => exact ⟨k + 1, by omega, by go_num, by rw [hst.out]; go_num⟩
      case measure => simp [intOf]; omega
    · have hk' : k = m := by omega
      subst hk'
      go_wp2
      go_ret2
      exact ⟨rfl, rfl⟩
end Go.Proofs.YtmchclpkjjmocaaGreat

namespace Go.Proofs.YtmchclpkjjmocaaGreat
open Go.RowKit
set_option linter.unusedVariables false
set_option maxRecDepth 10000

theorem cut_range (A : Option Addr) (n cap : Nat) (a m : Int) (w : World) (h : a < 0 ∨ m < 0) :
    Calls Tryz.prog 105 #[.slice A n cap, .int .i64 a, .int .i64 m] w fun e w' => e = .returned (.tuple #[.slice none 0 0, .int .i64 1]) ∧ w = w' := by
  by_cases h1 : a < 0
  · clear h
    go_enter Tryz.func105, Tryz.ntmps105
    go_wp2
    go_ret2
    exact ⟨rfl, rfl⟩
  · have h2 : m < 0 := by omega
    clear h
    go_enter Tryz.func105, Tryz.ntmps105
    go_wp2
    go_ret2
    exact ⟨rfl, rfl⟩
theorem cut_short (A : Option Addr) (n cap : Nat) (a m : Int) (w : World) (hn : n ≤ 9223372036854775807) (h0 : 0 ≤ a) (h1 : 0 ≤ m) (h : n < a + m) :
    Calls Tryz.prog 105 #[.slice A n cap, .int .i64 a, .int .i64 m] w fun e w' => e = .returned (.tuple #[.slice none 0 0, .int .i64 2]) ∧ w = w' := by
  go_enter Tryz.func105, Tryz.ntmps105
  go_wp2_with (go_at_call 53; refine (holds_no _ _ _ _ _ _ hn h0 (by omega) h).mono ?_; rintro e w' ⟨rfl, rfl⟩)
  go_ret2
  exact ⟨rfl, rfl⟩

/-- What Cut answers: new memory with these bytes. -/
def CutTo (w : World) (l : List Nat) (e : Ending) (w' : World) : Prop :=
  e = .returned (.tuple #[.slice (some ⟨w.heap.size, 0, none⟩) l.length l.length, .int .i64 0]) ∧ Own w' w.heap.size l ∧ Below w.heap.size w w'

theorem cut_far (A : Option Addr) (n cap a m : Nat) (bs : List Nat) (w : World) (hcap : n ≤ cap) (hreach : n ≤ 140737488355328) (h : a + m ≤ n) (hA : Row w A n bs) :
    Calls Tryz.prog 105 #[.slice A n cap, .int .i64 a, .int .i64 m] w (CutTo w ((bs.drop a).take m)) := by
  have hmk := make_bytes m (by omega)
  obtain ⟨l, hl⟩ : ∃ l, l = (bs.drop a).take m := ⟨_, rfl⟩
  have hlen : l.length = m := by rw [hl, List.length_take, List.length_drop, hA.1]; omega
  have hcs : 0 < m → ∃ b o, A = some ⟨b, o, none⟩ ∧ ∀ j v, (bcells l)[j]? = some v → (w.alloc (.cells (bcells (List.replicate m 0)).toArray 5)).cell? ⟨b, o + a + j, none⟩ = some v := by
    intro h0
    obtain ⟨b, o, rfl, hb, hc⟩ := hA.addr (by omega)
    refine ⟨b, o, rfl, fun j v hj => ?_⟩
    obtain ⟨hj, rfl⟩ := bcells_get hj
    rw [World.cell?_alloc_lt w _ ⟨b, o + a + j, none⟩ hb, show o + a + j = o + (a + j) from by omega, hc _ (by omega)]
    have : l.getD j 0 = bs.getD (a + j) 0 := by
      rw [hl, List.getD_eq_getElem?_getD, List.getD_eq_getElem?_getD, List.getElem?_take, if_pos (by omega), List.getElem?_drop]
    rw [this]
  rw [← hl]
  clear hl hA
  by_cases hac : a = cap
  · subst hac
    obtain ⟨w2, hcp, ho, hb⟩ := copy_new (w.alloc (.cells (bcells (List.replicate m 0)).toArray 5)) w.heap.size m (List.replicate m 0) l A 0 0 (Own.new w _) (by simp) hlen (by omega) (fun h => absurd h (by omega))
    have hfin : CutTo w l (.returned (.tuple #[.slice (some ⟨w.heap.size, 0, none⟩) m m, .int .i64 0])) w2 := ⟨by rw [hlen], ho, ((Below.refl _ _).alloc (Nat.le_refl _) _).trans hb⟩
    clear hcs ho hb hlen
    have HF := Lib.hid hfin
    clear hfin
    go_enter Tryz.func105, Tryz.ntmps105
    go_wp2_with (go_at_call 53; refine (holds_yes _ _ _ _ _ _ (by omega) (by omega) (by omega) (by omega)).mono ?_; rintro e w' ⟨rfl, rfl⟩)
    go_ret2
    exact HF.out
  · obtain ⟨w2, hcp, ho, hb⟩ := copy_new (w.alloc (.cells (bcells (List.replicate m 0)).toArray 5)) w.heap.size m (List.replicate m 0) l (A.map (fun x => x.add a)) (n - a) (cap - a) (Own.new w _) (by simp) hlen (by omega)
      (fun h0 => by obtain ⟨b, o, rfl, hc⟩ := hcs h0; exact ⟨⟨b, o + a, none⟩, by simp [add_flat], fun j v hj => by rw [add_flat]; exact hc j v hj⟩)
    have hfin : CutTo w l (.returned (.tuple #[.slice (some ⟨w.heap.size, 0, none⟩) m m, .int .i64 0])) w2 := ⟨by rw [hlen], ho, ((Below.refl _ _).alloc (Nat.le_refl _) _).trans hb⟩
    clear hcs ho hb hlen
    have HF := Lib.hid hfin
    clear hfin
    go_enter Tryz.func105, Tryz.ntmps105
    go_wp2_with (go_at_call 53; refine (holds_yes _ _ _ _ _ _ (by omega) (by omega) (by omega) (by omega)).mono ?_; rintro e w' ⟨rfl, rfl⟩)
    go_ret2
    exact HF.out
theorem cut_ok (A : Option Addr) (n cap a m : Nat) (bs : List Nat) (w : World) (hcap : n ≤ cap) (hreach : cap ≤ 140737488351232) (h : a + m ≤ n) (hA : Row w A n bs) :
    Calls Tryz.prog 105 #[.slice A n cap, .int .i64 a, .int .i64 m] w (CutTo w ((bs.drop a).take m)) := cut_far A n cap a m bs w hcap (by omega) h hA
end Go.Proofs.YtmchclpkjjmocaaGreat

namespace Go.Proofs.YtmchclpkjjmocaaGreat
open Go.RowKit
set_option linter.unusedVariables false

theorem ones_any (c : Int) (w : World) (h0 : 0 ≤ c) (h1 : c ≤ 64) :
    Calls Tryz.prog 54 #[.int .i64 c] w fun e w' => e = .returned (.int .u64 ((2 ^ c.toNat - 1 : Nat) : Int)) ∧ w = w' := by
  have h := Lib.hid (ones_eq c.toNat (by omega))
  go_enter Tryz.func54, Tryz.ntmps54
  go_wp2
  go_ret
  refine ⟨?_, rfl⟩
  rw [← h.out]
  rfl
theorem within_yes (f c : Int) (w : World) (h0 : 0 ≤ f) (h1 : f ≤ 63) (h2 : 0 ≤ c) (h3 : c ≤ 64 - f) :
    Calls Tryz.prog 55 #[.int .i64 f, .int .i64 c] w fun e w' => e = .returned (.bool true) ∧ w = w' := by
  go_enter Tryz.func55, Tryz.ntmps55
  go_wp2
  go_ret
  exact ⟨rfl, rfl⟩
theorem within_no (f c : Int) (w : World) (h : f < 0 ∨ 63 < f ∨ c < 0 ∨ 64 - f < c) :
    Calls Tryz.prog 55 #[.int .i64 f, .int .i64 c] w fun e w' => e = .returned (.bool false) ∧ w = w' := by
  by_cases h1 : 0 ≤ f
  · by_cases h2 : f ≤ 63
    · by_cases h3 : 0 ≤ c
      · have h4 : 64 - f < c := by omega
        clear h
        go_enter Tryz.func55, Tryz.ntmps55
        go_wp2
        go_ret
        exact ⟨by simp; omega, rfl⟩
      · clear h
        go_enter Tryz.func55, Tryz.ntmps55
        go_wp2
        go_ret
        exact ⟨rfl, rfl⟩
    · clear h
      go_enter Tryz.func55, Tryz.ntmps55
      go_wp2
      go_ret
      exact ⟨rfl, rfl⟩
  · clear h
    go_enter Tryz.func55, Tryz.ntmps55
    go_wp2
    go_ret
    exact ⟨rfl, rfl⟩
theorem bits_ok (n f c : Nat) (w : World) (hn : n ≤ 18446744073709551615) (h1 : f ≤ 63) (h3 : f + c ≤ 64) :
    Calls Tryz.prog 88 #[.int .u64 n, .int .i64 f, .int .i64 c] w (Quiet (.int .u64 ((n / 2 ^ f % 2 ^ c : Nat) : Int)) w) := by
  have h := Lib.hid (and_ones (n / 2 ^ f) c (Nat.le_trans (Nat.div_le_self _ _) hn) (by omega))
  go_enter Tryz.func88, Tryz.ntmps88
  go_wp2_with (first
    | (go_at_call 55; refine (within_yes _ _ _ (by omega) (by omega) (by omega) (by omega)).mono ?_; rintro e w' ⟨rfl, rfl⟩))
  go_quiet ((go_at_call 54; exact quiet_eq (ones_any _ _ (by omega) (by omega))))
  go_wp2
  go_ret
  refine ⟨?_, nq, rfl⟩
  rw [← h.out]
  simp
theorem bits_no (n : Nat) (f c : Int) (w : World) (h : f < 0 ∨ 63 < f ∨ c < 0 ∨ 64 - f < c) :
    Calls Tryz.prog 88 #[.int .u64 n, .int .i64 f, .int .i64 c] w (Quiet (.int .u64 0) w) := by
  have h := Lib.hid h
  go_enter Tryz.func88, Tryz.ntmps88
  go_wp2_with (first
    | (go_at_call 55; refine (within_no _ _ _ h.out).mono ?_; rintro e w' ⟨rfl, rfl⟩))
  go_ret
  exact ⟨rfl, 0, rfl⟩
theorem setbits_ok (n f c x : Nat) (w : World) (hn : n ≤ 18446744073709551615) (h1 : f ≤ 63) (h3 : f + c ≤ 64) :
    Calls Tryz.prog 36 #[.int .u64 n, .int .i64 f, .int .i64 c, .int .u64 x] w fun e w' => e = .returned (.int .u64 (setb n f c x : Nat)) ∧ w = w' := by
  have h := Lib.hid (setb_code n f c x hn h3)
  go_enter Tryz.func36, Tryz.ntmps36
  go_wp2_with (first
    | (go_at_call 55; refine (within_yes _ _ _ (by omega) (by omega) (by omega) (by omega)).mono ?_; rintro e w' ⟨rfl, rfl⟩)
    | (go_at_call 54; refine (ones_any _ _ (by omega) (by omega)).mono ?_; rintro e w' ⟨rfl, rfl⟩))
  go_ret
  refine ⟨?_, rfl⟩
  rw [← h.out]
  rfl
theorem setbits_no (n x : Nat) (f c : Int) (w : World) (h : f < 0 ∨ 63 < f ∨ c < 0 ∨ 64 - f < c) :
    Calls Tryz.prog 36 #[.int .u64 n, .int .i64 f, .int .i64 c, .int .u64 x] w fun e w' => e = .returned (.int .u64 n) ∧ w = w' := by
  have h := Lib.hid h
  go_enter Tryz.func36, Tryz.ntmps36
  go_wp2_with (first
    | (go_at_call 55; refine (within_no _ _ _ h.out).mono ?_; rintro e w' ⟨rfl, rfl⟩))
  go_ret
  exact ⟨rfl, rfl⟩

end Go.Proofs.YtmchclpkjjmocaaGreat

namespace Go.Proofs.YtmchclpkjjmocaaGreat
open Go.RowKit
set_option linter.unusedVariables false
set_option maxRecDepth 10000

theorem put_range (A : Option Addr) (n cap x : Nat) (a m : Int) (w : World) (h : m < 1 ∨ 8 < m ∨ a < 0) :
    Calls Tryz.prog 35 #[.slice A n cap, .int .i64 a, .int .i64 m, .int .u64 x] w fun e w' => e = .returned (.tuple #[.slice none 0 0, .int .i64 1]) ∧ w = w' := by
  have H := Lib.hid h
  clear h
  go_enter Tryz.func35, Tryz.ntmps35
  go_wp2_with (go_at_call 52; refine (numbered_no _ _ _ H.out).mono ?_; rintro e w' ⟨rfl, rfl⟩)
  go_ret2
  exact ⟨rfl, rfl⟩
theorem put_big (A : Option Addr) (n cap x a m : Nat) (w : World) (h1 : 1 ≤ m) (h2 : m ≤ 8) (h : 256 ^ m ≤ x) :
    Calls Tryz.prog 35 #[.slice A n cap, .int .i64 a, .int .i64 m, .int .u64 x] w fun e w' => e = .returned (.tuple #[.slice none 0 0, .int .i64 1]) ∧ w = w' := by
  have hx : 2 ^ (8 * m) - 1 < x := by rw [← pow256]; have : 0 < 256 ^ m := Nat.pow_pos (by decide); omega
  clear h
  go_enter Tryz.func35, Tryz.ntmps35
  go_wp2_with (first
    | (go_at_call 52; refine (numbered_yes _ _ _ (by omega) (by omega) (by omega)).mono ?_; rintro e w' ⟨rfl, rfl⟩)
    | (go_at_call 54; refine (ones_any _ _ (by omega) (by omega)).mono ?_; rintro e w' ⟨rfl, rfl⟩))
  go_ret2
  exact ⟨rfl, rfl⟩
theorem put_short (A : Option Addr) (n cap x a m : Nat) (w : World) (hn : n ≤ 9223372036854775807) (ha : a ≤ 9223372036854775807) (h1 : 1 ≤ m) (h2 : m ≤ 8) (hx : x < 256 ^ m) (h : n < a + m) :
    Calls Tryz.prog 35 #[.slice A n cap, .int .i64 a, .int .i64 m, .int .u64 x] w fun e w' => e = .returned (.tuple #[.slice none 0 0, .int .i64 2]) ∧ w = w' := by
  have hx : ¬ 2 ^ (8 * m) - 1 < x := by rw [← pow256]; omega
  go_enter Tryz.func35, Tryz.ntmps35
  go_wp2_with (first
    | (go_at_call 52; refine (numbered_yes _ _ _ (by omega) (by omega) (by omega)).mono ?_; rintro e w' ⟨rfl, rfl⟩)
    | (go_at_call 54; refine (ones_any _ _ (by omega) (by omega)).mono ?_; rintro e w' ⟨rfl, rfl⟩)
    | (go_at_call 53; refine (holds_no _ _ _ _ _ _ hn (by omega) (by omega) (by omega)).mono ?_; rintro e w' ⟨rfl, rfl⟩))
  go_ret2
  exact ⟨rfl, rfl⟩

/-- What stands while Put writes: k bytes are there. -/
def PutInv (w : World) (bs : List Nat) (a : Nat) (l : List Nat) (k : Nat) (wr : World) : Prop := Own wr w.heap.size (splice bs a (l.take k)) ∧ Below w.heap.size w wr
/-- What Put answers: new memory. -/
def PutTo (w : World) (l : List Nat) (e : Ending) (w' : World) : Prop :=
  e = .returned (.tuple #[.slice (some ⟨w.heap.size, 0, none⟩) l.length l.length, .int .i64 0]) ∧ Own w' w.heap.size l ∧ Below w.heap.size w w'


theorem put_step {w wr : World} {bs l : List Nat} {a k m n x : Nat} (hinv : PutInv w bs a l k wr) (hlt : k < m) (HG : Hid (∀ k, k < m → l.getD k 0 = x / 256 ^ (m - 1 - k) % 256))
    (HLB : Hid (bs.length = n)) (HLL : Hid (l.length = m)) (h : a + m ≤ n) : PutInv w bs a l (k + 1) (wr.setCell ⟨w.heap.size, a + k, none⟩ (.int .u8 ((x : Int) / 2 ^ (8 * (m - 1 - k)) % 256))) := by
  have e1 := HG.out k hlt
  have e2 := HLB.out
  have e3 := HLL.out
  have e : ((x : Int) / 2 ^ (8 * (m - 1 - k)) % 256) = ((l.getD k 0 : Nat) : Int) := by rw [e1, pow256]; simp
  rw [e]
  refine ⟨?_, hinv.2.setCell (Nat.le_refl _) _⟩
  have := hinv.1.set (a + k) (l.getD k 0)
  rw [splice_take (by omega) (by omega)] at this
  exact this
theorem put_done {w wr : World} {bs l : List Nat} {a m n : Nat} (hinv : PutInv w bs a l m wr) (HLB : Hid (bs.length = n)) (HLL : Hid (l.length = m)) (h : a + m ≤ n) :
    PutTo w (splice bs a l) (.returned (.tuple #[.slice (some ⟨w.heap.size, 0, none⟩) n n, .int .i64 0])) wr := by
  have e2 := HLB.out
  have e3 := HLL.out
  refine ⟨by rw [splice_length (by omega), e2], ?_, hinv.2⟩
  have := hinv.1
  rw [List.take_of_length_le (by omega)] at this
  exact this

theorem put_new (A : Option Addr) (n cap x a m : Nat) (bs : List Nat) (w : World) (hcap : n ≤ cap) (hreach : n ≤ 140737488355328) (h1 : 1 ≤ m) (h2 : m ≤ 8) (hx : x < 256 ^ m) (h : a + m ≤ n) (hA : Row w A n bs) :
    Calls Tryz.prog 35 #[.slice A n cap, .int .i64 a, .int .i64 m, .int .u64 x] w (PutTo w (splice bs a (pb x m))) := by
  have hx : ¬ 2 ^ (8 * m) - 1 < x := by rw [← pow256]; omega
  have hmk := make_bytes n (by omega)
  have hlb := hA.1
  have hll := pb_length x m
  obtain ⟨b, o, rfl, hb, hc⟩ := hA.addr (by omega)
  obtain ⟨w2, hcp, ho, hbw⟩ := copy_new (w.alloc (.cells (bcells (List.replicate n 0)).toArray 5)) w.heap.size n (List.replicate n 0) bs (some ⟨b, o, none⟩) n cap (Own.new w _) (by simp) hA.1 (Nat.le_refl _)
    (fun h0 => ⟨⟨b, o, none⟩, rfl, fun j v hj => by
      obtain ⟨hj, rfl⟩ := bcells_get hj
      rw [add_flat, World.cell?_alloc_lt w _ ⟨b, o + j, none⟩ hb]
      exact hc j (by omega)⟩)
  have hst : PutInv w bs a (pb x m) 0 w2 := ⟨by rw [List.take_zero, splice_nil]; exact ho, ((Below.refl _ _).alloc (Nat.le_refl _) _).trans hbw⟩
  have HG := Lib.hid (fun k (hk : k < m) => pb_get x m k hk)
  have HLB := Lib.hid hlb
  have HLL := Lib.hid hll
  generalize pb x m = l at *
  clear ho hbw hc hA hlb hll
  go_enter Tryz.func35, Tryz.ntmps35
  go_wp2_with (first
    | (go_at_call 52; refine (numbered_yes _ _ _ (by omega) (by omega) (by omega)).mono ?_; rintro e w' ⟨rfl, rfl⟩)
    | (go_at_call 54; refine (ones_any _ _ (by omega) (by omega)).mono ?_; rintro e w' ⟨rfl, rfl⟩)
    | (go_at_call 53; refine (holds_yes _ _ _ _ _ _ (by omega) (by omega) (by omega) (by omega)).mono ?_; rintro e w' ⟨rfl, rfl⟩))
  clear hcp hmk
  go_loopw [35] (fun i wr => ∃ k : Nat, k ≤ m ∧ i = .int .i64 k ∧ PutInv w bs a l k wr) (fun i _ => m - (intOf i).toNat)
  case atStart => exact ⟨0, Nat.zero_le _, rfl, hst⟩
  case round =>
    obtain ⟨k, hk, rfl, hinv⟩ := hrel
    by_cases hlt : k < m
    · have hlen : (splice bs a (l.take k)).length = n := by
        rw [splice_length (by rw [List.length_take, HLL.out, HLB.out]; omega), HLB.out]
      have hcell := hinv.1.cell (a + k) (by omega)
      have hfr := hinv.1.frozen (a + k)
      clear hlen
      go_wp2
      go_roundw
      case rel => exact ⟨k + 1, by omega, by go_num, put_step hinv hlt HG HLB HLL h⟩
      case measure => simp [intOf]; omega
    · have hk' : k = m := by omega
      subst hk'
      go_wp2
      go_ret2
      exact put_done hinv HLB HLL h

/-- fits, where it does. -/
theorem put_ok (A : Option Addr) (n cap x a m : Nat) (bs : List Nat) (w : World) (hcap : n ≤ cap) (hreach : cap ≤ 140737488351232) (h1 : 1 ≤ m) (h2 : m ≤ 8) (hx : x < 256 ^ m) (h : a + m ≤ n) (hA : Row w A n bs) :
    Calls Tryz.prog 35 #[.slice A n cap, .int .i64 a, .int .i64 m, .int .u64 x] w (PutTo w (splice bs a (pb x m))) := put_new A n cap x a m bs w hcap (by omega) h1 h2 hx h hA
theorem fits_any (x m : Nat) (w : World) (hm : m ≤ 8) (hx : x ≤ 18446744073709551615) :
    Calls Tryz.prog 64 #[.int .u64 x, .int .i64 m] w fun e w' => e = .returned (.bool (decide (x < 256 ^ m))) ∧ w = w' := by
  go_enter Tryz.func64, Tryz.ntmps64
  go_wp2
  go_loop [0, 5] (fun v j => ∃ k : Nat, k ≤ m ∧ j = .int .i64 k ∧ v = .int .u64 ((x / 256 ^ k : Nat) : Int)) (fun _ j => m - (intOf j).toNat)
  case atStart => exact ⟨0, Nat.zero_le _, rfl, by simp⟩
  case round =>
    obtain ⟨k, hk, rfl, rfl⟩ := hrel
    have hle : x / 256 ^ k ≤ x := Nat.div_le_self _ _
    by_cases hlt : k < m
    · have hst : x / 256 ^ (k + 1) = x / 256 ^ k / 256 := by rw [Nat.pow_succ, Nat.div_div_eq_div_mul]
      have hst := Lib.hid hst
      generalize x / 256 ^ k = q at *
      go_wp2
      go_round
      case rel => exact ⟨k + 1, by omega, by go_num, by rw [hst.out]; go_num⟩
      case measure => simp [intOf]; omega
    · have hk' : k = m := by omega
      subst hk'
      have hz : x / 256 ^ k = 0 ↔ x < 256 ^ k := by rw [Nat.div_eq_zero_iff]; have : 0 < 256 ^ k := Nat.pow_pos (by decide); omega
      have hz := Lib.hid hz
      generalize x / 256 ^ k = q at *
      go_wp2
      go_ret
      refine ⟨?_, rfl⟩
      have hz := hz.out
      by_cases h : x < 256 ^ k
      · have hq := hz.2 h
        simp [h, hq]
      · have hq : ¬ q = 0 := fun hq => h (hz.1 hq)
        have hq' : ((q : Int) == 0) = false := by simp [hq]
        simp [h, hq']
end Go.Proofs.YtmchclpkjjmocaaGreat
