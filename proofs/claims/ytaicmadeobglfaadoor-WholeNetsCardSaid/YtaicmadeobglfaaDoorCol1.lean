/-
  Contracts of colons' value and group: a digit of a group, and a group of one to four digits.
-/
import Derived.Test.YtaicmadeobglfaaDoorDot1
import Derived.Laws.BitsAllLaws
namespace Go.Proofs.YtaicmadeobglfaaDoor
open Go.RowKit
set_option linter.unusedVariables false

/-- What a digit stands for, and whether it is one. -/
def hxv (c : Nat) : Nat := if 48 ≤ c ∧ c ≤ 57 then c - 48 else if 97 ≤ c ∧ c ≤ 102 then c - 87 else if 65 ≤ c ∧ c ≤ 70 then c - 55 else 0
def hxok (c : Nat) : Bool := decide ((48 ≤ c ∧ c ≤ 57) ∨ (97 ≤ c ∧ c ≤ 102) ∨ (65 ≤ c ∧ c ≤ 70))
theorem hxv_lt (c : Nat) : hxv c < 16 := by unfold hxv; split <;> (try split) <;> (try split) <;> omega
def HexIs (c : Nat) (w : World) (e : Ending) (w' : World) : Prop := e = .returned (.tuple #[.int .u16 (hxv c : Nat), .bool (hxok c)]) ∧ w = w'
theorem hex_is {c n : Nat} {b : Bool} {w : World} (h : hxv c = n) (h2 : hxok c = b) : HexIs c w (.returned (.tuple #[.int .u16 n, .bool b])) w := by
  refine ⟨?_, rfl⟩
  rw [h, h2]
theorem value_any (c : Nat) (w : World) (hc : c ≤ 255) : Calls Tryd.prog 70 #[.int .u8 c] w (HexIs c w) := by
  by_cases h1 : 65 ≤ c ∧ c ≤ 70
  · obtain ⟨a1, a2⟩ := h1
    obtain ⟨d, hd⟩ : ∃ d, d = c + 32 := ⟨_, rfl⟩
    obtain ⟨n, hn⟩ : ∃ n, n = c - 55 := ⟨_, rfl⟩
    have F : Hid (HexIs c w (.returned (.tuple #[.int .u16 n, .bool true])) w) := hex_is (by unfold hxv; rw [if_neg (by omega), if_neg (by omega), if_pos ⟨a1, a2⟩, hn]) (by unfold hxok; simp; omega)
    have w1 : IntKind.u8.wrap ((c : Int) + 32) = (d : Int) := by show ((c : Int) + 32) % 256 = _; omega
    have w2 : IntKind.u8.wrap ((d : Int) - 97) = ((d - 97 : Nat) : Int) := by show ((d : Int) - 97) % 256 = _; omega
    have w3 : IntKind.u16.wrap (((d - 97 : Nat) : Int) + 10) = (n : Int) := by show (((d - 97 : Nat) : Int) + 10) % 65536 = _; omega
    have w4 : IntKind.u16.wrap ((d - 97 : Nat) : Int) = ((d - 97 : Nat) : Int) := by show ((d - 97 : Nat) : Int) % 65536 = _; omega
    have l1 : (97 : Int) ≤ (d : Int) := by omega
    have l2 : (d : Int) ≤ 102 := by omega
    generalize d - 97 = m at w2 w3 w4
    clear hd hn
    go_enter Tryd.func70, Tryd.ntmps70
    go_wp2_with fail
    go_ret2
    exact F.out
  by_cases h2 : 97 ≤ c ∧ c ≤ 102
  · obtain ⟨a1, a2⟩ := h2
    obtain ⟨n, hn⟩ : ∃ n, n = c - 87 := ⟨_, rfl⟩
    have F : Hid (HexIs c w (.returned (.tuple #[.int .u16 n, .bool true])) w) := hex_is (by unfold hxv; rw [if_neg (by omega), if_pos ⟨a1, a2⟩, hn]) (by unfold hxok; simp; omega)
    have w2 : IntKind.u8.wrap ((c : Int) - 97) = ((c - 97 : Nat) : Int) := by show ((c : Int) - 97) % 256 = _; omega
    have w3 : IntKind.u16.wrap (((c - 97 : Nat) : Int) + 10) = (n : Int) := by show (((c - 97 : Nat) : Int) + 10) % 65536 = _; omega
    have w4 : IntKind.u16.wrap ((c - 97 : Nat) : Int) = ((c - 97 : Nat) : Int) := by show ((c - 97 : Nat) : Int) % 65536 = _; omega
    have l3 : (70 : Int) < (c : Int) := by omega
    have l4 : (65 : Int) ≤ (c : Int) := by omega
    generalize c - 97 = m at w2 w3 w4
    clear hn h1
    go_enter Tryd.func70, Tryd.ntmps70
    go_wp2_with fail
    go_ret2
    exact F.out
  by_cases h3 : 48 ≤ c ∧ c ≤ 57
  · obtain ⟨a1, a2⟩ := h3
    obtain ⟨n, hn⟩ : ∃ n, n = c - 48 := ⟨_, rfl⟩
    have F : Hid (HexIs c w (.returned (.tuple #[.int .u16 n, .bool true])) w) := hex_is (by unfold hxv; rw [if_pos ⟨a1, a2⟩, hn]) (by unfold hxok; simp; omega)
    have w2 : IntKind.u8.wrap ((c : Int) - 48) = (n : Int) := by show ((c : Int) - 48) % 256 = _; omega
    have w4 : IntKind.u16.wrap (n : Int) = (n : Int) := by show (n : Int) % 65536 = _; omega
    have l3 : (c : Int) < 65 := by omega
    have l4 : (c : Int) < 97 := by omega
    clear hn h1 h2
    go_enter Tryd.func70, Tryd.ntmps70
    go_wp2_with fail
    go_ret2
    exact F.out
  have F : Hid (HexIs c w (.returned (.tuple #[.int .u16 0, .bool false])) w) := hex_is (n := 0) (by unfold hxv; rw [if_neg h3, if_neg h2, if_neg h1]) (by unfold hxok; rw [decide_eq_false]; omega)
  rcases (by omega : c < 48 ∨ (57 < c ∧ c < 65) ∨ (70 < c ∧ c < 97) ∨ 102 < c) with k | ⟨k, l⟩ | ⟨k, l⟩ | k
  · have l1 : (c : Int) < 48 := by omega
    have l2 : (c : Int) < 65 := by omega
    have l3 : (c : Int) < 97 := by omega
    clear h1 h2 h3 k
    go_enter Tryd.func70, Tryd.ntmps70
    go_wp2_with fail
    go_ret2
    exact F.out
  · have l1 : (57 : Int) < (c : Int) := by omega
    have l2 : (c : Int) < 65 := by omega
    have l3 : (c : Int) < 97 := by omega
    have l4 : (48 : Int) ≤ (c : Int) := by omega
    clear h1 h2 h3 k l
    go_enter Tryd.func70, Tryd.ntmps70
    go_wp2_with fail
    go_ret2
    exact F.out
  · have l1 : (57 : Int) < (c : Int) := by omega
    have l2 : (65 : Int) ≤ (c : Int) := by omega
    have l3 : (c : Int) < 97 := by omega
    have l4 : (48 : Int) ≤ (c : Int) := by omega
    have l5 : (70 : Int) < (c : Int) := by omega
    clear h1 h2 h3 k l
    go_enter Tryd.func70, Tryd.ntmps70
    go_wp2_with fail
    go_ret2
    exact F.out
  · have l1 : (57 : Int) < (c : Int) := by omega
    have l2 : (65 : Int) ≤ (c : Int) := by omega
    have l3 : (102 : Int) < (c : Int) := by omega
    have l4 : (48 : Int) ≤ (c : Int) := by omega
    have l5 : (70 : Int) < (c : Int) := by omega
    have l6 : (97 : Int) ≤ (c : Int) := by omega
    clear h1 h2 h3 k
    go_enter Tryd.func70, Tryd.ntmps70
    go_wp2_with fail
    go_ret2
    exact F.out

def hexnum (l : List UInt8) : Nat := l.foldl (fun n c => n * 16 + hxv c.toNat) 0
def hexAll (l : List UInt8) : Bool := l.all fun c => hxok c.toNat
/-- One to four digits. -/
def grpOk (l : List UInt8) : Bool := decide (1 ≤ l.length) && decide (l.length ≤ 4) && hexAll l
theorem hexnum_snoc (l : List UInt8) (c : UInt8) : hexnum (l ++ [c]) = hexnum l * 16 + hxv c.toNat := by simp [hexnum]
theorem hexAll_snoc (l : List UInt8) (c : UInt8) : hexAll (l ++ [c]) = (hexAll l && hxok c.toNat) := by simp [hexAll]
theorem hexnum_lt (l : List UInt8) : hexnum l < 16 ^ l.length := by
  have key : ∀ n (l : List UInt8), l.length = n → hexnum l < 16 ^ n := by
    intro n
    induction n with
    | zero =>
      intro l hl
      rw [List.eq_nil_of_length_eq_zero hl]
      decide
    | succ n ih =>
      intro l hl
      rcases List.eq_nil_or_concat l with rfl | ⟨m, c, rfl⟩
      · simp at hl
      · rw [List.concat_eq_append] at hl ⊢
        have h1 := ih m (by simpa using hl)
        have h2 := hxv_lt c.toNat
        rw [hexnum_snoc, Nat.pow_succ]
        omega
  exact key _ l rfl
def GrpIs (s : ByteArray) (w : World) (e : Ending) (w' : World) : Prop := e = .returned (.tuple #[.int .u16 ((if grpOk s.data.toList then hexnum s.data.toList else 0 : Nat)), .bool (grpOk s.data.toList)]) ∧ w = w'
theorem grp_no {s : ByteArray} {w : World} (h : grpOk s.data.toList = false) : GrpIs s w (.returned (.tuple #[.int .u16 0, .bool false])) w := by
  refine ⟨?_, rfl⟩
  rw [h]
  rfl
theorem grp_yes {s : ByteArray} {w : World} {n : Nat} (h : grpOk s.data.toList = true) (hn : n = hexnum s.data.toList) : GrpIs s w (.returned (.tuple #[.int .u16 n, .bool true])) w := by
  refine ⟨?_, rfl⟩
  rw [h, if_pos rfl, hn]
theorem not_hex (s : ByteArray) (k : Nat) (hk : k < s.size) (h : hxok s[k].toNat = false) : hexAll s.data.toList = false := by
  rw [← Bool.not_eq_true]
  intro e
  have hm : s[k] ∈ s.data.toList := List.getElem_mem (l := s.data.toList) (n := k) (by rw [size_list]; exact hk)
  have h2 := List.all_eq_true.1 e _ hm
  rw [h] at h2
  cases h2
theorem or4_u16 (a b : Nat) (ha : a < 4096) (hb : b < 16) : bits .or .u16 ((a : Int) * 16) (b : Int) = ((a * 16 + b : Nat) : Int) := by
  have h := u16_or_nat (a * 16) b (by omega) (by omega)
  rw [nat_join 4 (a * 16) b (by omega) (by omega)] at h
  simpa using h
theorem grp_facts (v x : Nat) (hv : v < 4096) (hx : x < 16) : IntKind.u16.wrap ((v : Int) * 16) = (v : Int) * 16 ∧ bits .or .u16 ((v : Int) * 16) (x : Int) = ((v * 16 + x : Nat) : Int) := ⟨by show ((v : Int) * 16) % 65536 = _; omega, or4_u16 v x hv hx⟩

set_option maxHeartbeats 800000 in
theorem group_any (s : ByteArray) (w : World) : Calls Tryd.prog 50 #[.string s] w (GrpIs s w) := by
  by_cases h0 : s.size < 1
  · have F := Lib.hid (grp_no (w := w) (s := s) (by simp only [grpOk, size_list]; rw [decide_eq_false (by omega)]; rfl))
    go_enter Tryd.func50, Tryd.ntmps50
    go_wp2_with fail
    go_ret2
    exact F.out
  by_cases h4 : 4 < s.size
  · have F := Lib.hid (grp_no (w := w) (s := s) (by simp only [grpOk, size_list]; rw [decide_eq_false (show ¬ s.size ≤ 4 by omega), Bool.and_false]; rfl))
    go_enter Tryd.func50, Tryd.ntmps50
    go_wp2_with fail
    go_ret2
    exact F.out
  have ho : Hid (grpOk s.data.toList = hexAll s.data.toList) := by
    show grpOk s.data.toList = _
    simp only [grpOk, size_list]
    rw [decide_eq_true (show 1 ≤ s.size by omega), decide_eq_true (show s.size ≤ 4 by omega)]
    rfl
  have hs4 : s.size ≤ 4 := by omega
  clear h4
  go_enter Tryd.func50, Tryd.ntmps50
  go_wp2_with fail
  go_loop [4, 18] (fun n i => ∃ k v : Nat, k ≤ s.size ∧ i = .int .i64 k ∧ n = .int .u16 v ∧ Hid (v = hexnum (s.data.toList.take k)) ∧ Hid (hexAll (s.data.toList.take k) = true)) (fun _ i => s.size - (intOf i).toNat)
  case atStart => exact ⟨0, 0, Nat.zero_le _, rfl, rfl, rfl, rfl⟩
  case round =>
    obtain ⟨k, v, hk, rfl, rfl, HV, HA⟩ := hrel
    by_cases hlt : k < s.size
    · have T := Lib.hid (take_byte s k hlt)
      have NA := Lib.hid (not_hex s k hlt)
      have hv : v < 4096 := by
        have := hexnum_lt (s.data.toList.take k)
        rw [← HV.out, List.length_take, size_list] at this
        have h2 : 16 ^ min k s.size ≤ 16 ^ 3 := Nat.pow_le_pow_right (by decide) (by omega)
        omega
      have hc255 : s[k].toNat ≤ 255 := by have := s[k].toNat_lt; omega
      have CV := Lib.hid (fun w => value_any s[k].toNat w hc255)
      have hx := hxv_lt s[k].toNat
      obtain ⟨w1, w2⟩ := grp_facts v (hxv s[k].toNat) hv hx
      cases hb : hxok s[k].toNat
      · have F := Lib.hid (grp_no (w := w) (by rw [ho.out]; exact NA.out hb))
        have HB := Lib.hid hb
        clear hb w1 w2
        go_wp2_with fail
        refine (CV.out _).mono ?_
        rintro e w' ⟨rfl, rfl⟩
        rw [HB.out]
        go_wp2_with fail
        go_ret2
        exact F.out
      · have HB := Lib.hid hb
        have E1 : Hid (hexnum (s.data.toList.take (k + 1)) = v * 16 + hxv s[k].toNat) := by
          show _ = _
          rw [T.out, hexnum_snoc, ← HV.out]
        have E2 : Hid (hexAll (s.data.toList.take (k + 1)) = true) := by
          show _ = _
          rw [T.out, hexAll_snoc, HA.out, hb]
          rfl
        have CV2 : Hid (∀ w, Calls Tryd.prog 70 #[.int .u8 (s[k].toNat : Nat)] w fun e w' => e = .returned (.tuple #[.int .u16 (hxv s[k].toNat), .bool true]) ∧ w = w') := Lib.hid (fun w => (CV.out w).mono (by rintro e w' ⟨rfl, rfl⟩; rw [hb]; exact ⟨rfl, rfl⟩))
        clear hb HB CV
        generalize hxv s[k].toNat = x at *
        go_wp2_with fail
        refine (CV2.out _).mono ?_
        rintro e w' ⟨rfl, rfl⟩
        go_wp2_with fail
        go_round
        case rel => exact ⟨k + 1, v * 16 + x, by omega, by go_num, by go_num, E1.out.symm, E2.out⟩
        case measure => simp [intOf]; omega
    · obtain rfl : k = s.size := by omega
      have e : s.data.toList.take s.size = s.data.toList := by rw [← size_list]; exact List.take_length
      have F := Lib.hid (grp_yes (w := w) (s := s) (n := v) (by rw [ho.out, ← e]; exact HA.out) (by rw [HV.out, e]))
      clear e
      go_wp2_with fail
      go_ret2
      exact F.out
end Go.Proofs.YtaicmadeobglfaaDoor
