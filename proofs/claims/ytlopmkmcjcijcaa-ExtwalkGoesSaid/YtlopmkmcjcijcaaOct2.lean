/-
  Contracts of octet.Get and of the document's Get: the big-endian number of the bytes at a place, or which error.
-/
import Derived.Test.YtlopmkmcjcijcaaOct1
import Derived.Test.YtlopmkmcjcijcaaPlain
namespace Go.Proofs.Ytlopmkmcjcijcaa
open Go.RowKit
set_option linter.unusedVariables false

theorem get_range (A : Option Addr) (n cap : Nat) (a m : Int) (w : World) (h : m < 1 ∨ 8 < m ∨ a < 0) :
    Calls Try.prog 62 #[.slice A n cap, .int .i64 a, .int .i64 m] w fun e w' => e = .returned (.tuple #[.int .u64 0, .int .i64 1]) ∧ w = w' := by
  have H := Lib.hid h
  clear h
  go_enter Try.func62, Try.ntmps62
  go_wp2_with (go_at_call 85; refine (numbered_no _ _ _ H.out).mono ?_; rintro e w' ⟨rfl, rfl⟩)
  go_ret2
  exact ⟨rfl, rfl⟩
theorem get_short (A : Option Addr) (n cap : Nat) (a m : Int) (w : World) (hn : n ≤ 9223372036854775807) (h0 : 0 ≤ a) (h1 : 1 ≤ m) (h2 : m ≤ 8) (h : n < a + m) :
    Calls Try.prog 62 #[.slice A n cap, .int .i64 a, .int .i64 m] w fun e w' => e = .returned (.tuple #[.int .u64 0, .int .i64 2]) ∧ w = w' := by
  go_enter Try.func62, Try.ntmps62
  go_wp2_with (first
    | (go_at_call 85; refine (numbered_yes _ _ _ h1 h2 h0).mono ?_; rintro e w' ⟨rfl, rfl⟩)
    | (go_at_call 84; refine (holds_no _ _ _ _ _ _ hn h0 (by omega) h).mono ?_; rintro e w' ⟨rfl, rfl⟩))
  go_ret2
  exact ⟨rfl, rfl⟩
theorem get_ok (A : Option Addr) (n cap a m : Nat) (bs : List Nat) (w : World) (hn : n ≤ 9223372036854775807) (hcap : n ≤ cap) (h1 : 1 ≤ m) (h2 : m ≤ 8) (h : a + m ≤ n) (hA : Row w A n bs) :
    Calls Try.prog 62 #[.slice A n cap, .int .i64 a, .int .i64 m] w fun e w' => e = .returned (.tuple #[.int .u64 (be ((bs.drop a).take m)), .int .i64 0]) ∧ w = w' := by
  obtain ⟨b, o, rfl, hb, hc⟩ := hA.addr (by omega)
  have hby : ∀ x ∈ bs.drop a, x < 256 := mem_drop hA.2.1
  have hlen : (bs.drop a).length = n - a := by rw [List.length_drop, hA.1]
  have hcell : ∀ k, k < m → w.cell? ⟨b, o + a + k, none⟩ = some (.int .u8 ((bs.drop a).getD k 0 : Nat)) := fun k hk => by
    rw [show o + a + k = o + (a + k) from by omega, hc _ (by omega), List.getD_eq_getElem?_getD, List.getD_eq_getElem?_getD, List.getElem?_drop]
  generalize bs.drop a = l at *
  have HC := Lib.hid hcell
  have HB := Lib.hid hby
  have HL := Lib.hid hlen
  clear hcell hby hc hA hlen
  go_enter Try.func62, Try.ntmps62
  go_wp2_with (first
    | (go_at_call 85; refine (numbered_yes _ _ _ (by omega) (by omega) (by omega)).mono ?_; rintro e w' ⟨rfl, rfl⟩)
    | (go_at_call 84; refine (holds_yes _ _ _ _ _ _ hn (by omega) (by omega) (by omega)).mono ?_; rintro e w' ⟨rfl, rfl⟩))
  go_loop [8, 27] (fun v i => ∃ k : Nat, k ≤ m ∧ i = .int .i64 k ∧ v = .int .u64 (be (l.take k) : Nat)) (fun _ i => m - (intOf i).toNat)
  case atStart => exact ⟨0, Nat.zero_le _, rfl, rfl⟩
  case round =>
    obtain ⟨k, hk, rfl, rfl⟩ := hrel
    by_cases hlt : k < m
    · have hx := HC.out k hlt
      have hb7 := be_lt7 (l.take k) (mem_take HB.out) (by rw [List.length_take]; omega)
      have hx2 : l.getD k 0 < 256 := by
        have hl := HL.out
        rw [List.getD_eq_getElem?_getD, List.getElem?_eq_getElem (by omega)]
        exact HB.out _ (List.getElem_mem _)
      have hst := Lib.hid (be_step l k (by have := HL.out; omega))
      have hor := shl8_or _ _ hb7 hx2
      generalize be (l.take k) = q at *
      generalize l.getD k 0 = x at *
      go_wp2
      go_round
      case rel => exact ⟨k + 1, by omega, by go_num, by rw [hst.out]; go_num⟩
      case measure => simp [intOf]; omega
    · have hk' : k = m := by omega
      subst hk'
      go_wp2
      go_ret2
      exact ⟨rfl, rfl⟩

theorem rget_range (A : Option Addr) (n cap : Nat) (a m : Int) (w : World) (h : m < 1 ∨ 8 < m ∨ a < 0) :
    Calls Try.prog 88 #[.slice A n cap, .int .i64 a, .int .i64 m] w fun e w' => e = .returned (.tuple #[.int .u64 0, .int .i64 1]) ∧ w = w' := by
  have H := Lib.hid h
  clear h
  go_enter Try.func88, Try.ntmps88
  go_wp2_with (go_at_call 96; refine (place_range _ _ _ _ _ _ H.out).mono ?_; rintro e w' ⟨rfl, rfl⟩)
  go_ret2
  exact ⟨rfl, rfl⟩
theorem rget_short (A : Option Addr) (n cap : Nat) (a m : Int) (w : World) (hn : n ≤ 9223372036854775807) (h0 : 0 ≤ a) (h0' : a ≤ 9223372036854775807) (h1 : 1 ≤ m) (h2 : m ≤ 8) (h : n < a + m) :
    Calls Try.prog 88 #[.slice A n cap, .int .i64 a, .int .i64 m] w fun e w' => e = .returned (.tuple #[.int .u64 0, .int .i64 2]) ∧ w = w' := by
  go_enter Try.func88, Try.ntmps88
  go_wp2_with (go_at_call 96; refine (place_short _ _ _ _ _ _ hn h0 h0' h1 h2 h).mono ?_; rintro e w' ⟨rfl, rfl⟩)
  go_ret2
  exact ⟨rfl, rfl⟩
theorem rget_ok (A : Option Addr) (n cap a m : Nat) (bs : List Nat) (w : World) (hn : n ≤ 9223372036854775807) (hcap : n ≤ cap) (h1 : 1 ≤ m) (h2 : m ≤ 8) (h : a + m ≤ n) (hA : Row w A n bs) :
    Calls Try.prog 88 #[.slice A n cap, .int .i64 a, .int .i64 m] w fun e w' => e = .returned (.tuple #[.int .u64 (be ((bs.drop a).take m)), .int .i64 0]) ∧ w = w' := by
  obtain ⟨b, o, rfl, hb, hc⟩ := hA.addr (by omega)
  have hby : ∀ x ∈ bs.drop a, x < 256 := mem_drop hA.2.1
  have hlen : (bs.drop a).length = n - a := by rw [List.length_drop, hA.1]
  have hcell : ∀ k, k < m → w.cell? ⟨b, o + (a + k), none⟩ = some (.int .u8 ((bs.drop a).getD k 0 : Nat)) := fun k hk => by
    rw [hc _ (by omega), List.getD_eq_getElem?_getD, List.getD_eq_getElem?_getD, List.getElem?_drop]
  generalize bs.drop a = l at *
  have HC := Lib.hid hcell
  have HB := Lib.hid hby
  have HL := Lib.hid hlen
  clear hcell hby hc hA hlen
  go_enter Try.func88, Try.ntmps88
  go_wp2_with (go_at_call 96; refine (place_ok _ _ _ _ _ _ hn (by omega) (by omega) (by omega) (by omega)).mono ?_; rintro e w' ⟨rfl, rfl⟩)
  go_loop [9, 10] (fun v i => ∃ k : Nat, k ≤ m ∧ i = .int .i64 k ∧ v = .int .u64 (be (l.take k) : Nat)) (fun _ i => m - (intOf i).toNat)
  case atStart => exact ⟨0, Nat.zero_le _, rfl, rfl⟩
  case round =>
    obtain ⟨k, hk, rfl, rfl⟩ := hrel
    by_cases hlt : k < m
    · have hx := HC.out k hlt
      have hb7 := be_lt7 (l.take k) (mem_take HB.out) (by rw [List.length_take]; omega)
      have hx2 : l.getD k 0 < 256 := by
        have hl := HL.out
        rw [List.getD_eq_getElem?_getD, List.getElem?_eq_getElem (by omega)]
        exact HB.out _ (List.getElem_mem _)
      have hst := Lib.hid (be_step l k (by have := HL.out; omega))
      generalize be (l.take k) = q at *
      generalize l.getD k 0 = x at *
      go_wp2
      go_round
      case rel => exact ⟨k + 1, by omega, by go_num, by rw [hst.out]; go_num⟩
      case measure => simp [intOf]; omega
    · have hk' : k = m := by omega
      subst hk'
      go_wp2
      go_ret2
      exact ⟨rfl, rfl⟩
end Go.Proofs.Ytlopmkmcjcijcaa
