/-
  The walk of the statement OctetHex, where the bytes that come in are few enough that twice as many have room.
-/
import Derived.Test.YtbnheffeojnjdaaOct10
import Derived.Test.YtbnheffeojnjdaaLive1
namespace Go.Proofs.Ytbnheffeojnjdaa
open Go.RowKit
set_option linter.unusedVariables false

/-- It answers bytes, and an error with its place. -/
def Three (w : World) (l : List Nat) (er at' : Int) (e : Ending) (w' : World) : Prop := ∃ v, e = .returned (.tuple #[v, .agg #[.int .i64 er, .int .i64 at']]) ∧ ByteVal w' v l ∧ Below w.heap.size w w'
theorem three_nil {w : World} {er at' : Int} : ∀ e w', (e = .returned (.tuple #[.slice none 0 0, .agg #[.int .i64 er, .int .i64 at']]) ∧ Below w.heap.size w w') → Three w [] er at' e w' := by
  rintro e w' ⟨rfl, hb⟩
  exact ⟨_, rfl, ByteVal.nil w', hb⟩

theorem first_bad (s : ByteArray) (n : Nat) : Digits s n ∨ ∃ i, i < n ∧ Digits s i ∧ hexv ((sb s).getD i 0) = none := by
  induction n with
  | zero => exact .inl fun j hj => absurd hj (by omega)
  | succ n ih =>
    rcases ih with h | ⟨i, h1, h2, h3⟩
    · by_cases hn : hexv ((sb s).getD n 0) = none
      · exact .inr ⟨n, by omega, h, hn⟩
      · refine .inl fun j hj => ?_
        rcases Nat.lt_or_ge j n with h5 | h5
        · exact h j h5
        · obtain rfl : j = n := by omega
          exact hn
    · exact .inr ⟨i, by omega, h2, h3⟩

theorem unhex_all (s : ByteArray) (w : World) (hs : s.size ≤ 140737488351232) (hp : s.size % 2 < 1) (hd : Digits s s.size) :
    Calls Try.prog 29 #[.string s] w (Three w (unh (sb s) (s.size / 2)) 0 0) :=
  (unhex_ok s w hs hp hd).mono fun e w' ⟨h1, h2, h3⟩ => by
    have hr := h2.row (unh_byte _ _)
    have hl := unh_length (sb s) (s.size / 2)
    refine ⟨_, h1, ⟨some ⟨w.heap.size + 1, 0, none⟩, s.size / 2, by rw [hl], by rw [hl]; exact Nat.le_refl _, hr⟩, h3⟩

theorem unhex_agree (s : ByteArray) (hs : s.size ≤ 140737488351232) :
    ∃ (l : List Nat) (er at' : Int), l.length ≤ 9223372036854775807 ∧ (∀ w, Calls Try.prog 29 #[.string s] w (Three w l er at')) ∧ (∀ w, Calls Try.prog 30 #[.string s] w (Three w l er at')) := by
  rcases first_bad s s.size with h | ⟨i, h1, h2, h3⟩
  · by_cases hp : s.size % 2 < 1
    · exact ⟨_, 0, 0, by rw [unh_length]; omega, fun w => unhex_all s w hs hp h, fun w => (runhex_ok s w hs hp h).mono fun e w' h => h⟩
    · exact ⟨[], 19, s.size, by simp, fun w => (unhex_cut s w (by omega) (by omega) h).mono three_nil, fun w => (runhex_cut s w (by omega) (by omega) h).mono three_nil⟩
  · exact ⟨[], 3, i, by simp, fun w => (unhex_bad s i w (by omega) h1 h2 h3).mono three_nil, fun w => (runhex_bad s i w (by omega) h1 h2 h3).mono three_nil⟩

theorem str_size (L : List Nat) : (str L).size = L.length := by simp [str, ByteArray.size]
theorem sb_str {L : List Nat} (h : ∀ x ∈ L, x < 256) : sb (str L) = L := by
  unfold sb str
  simp only [List.map_map]
  conv => rhs; rw [← List.map_id L]
  apply List.map_congr_left
  intro x hx
  have := h x hx
  simp only [Function.comp, id, UInt8.toNat_ofNat']
  omega
theorem hexs_get (bs : List Nat) (hb : ∀ x ∈ bs, x < 256) (k : Nat) (hk : k < bs.length) : (hexs bs).getD (2 * k) 0 = dg (bs.getD k 0 / 16) ∧ (hexs bs).getD (2 * k + 1) 0 = dg (bs.getD k 0 % 16) := by
  induction bs generalizing k with
  | nil => simp at hk
  | cons x bs ih =>
    have e : hexs (x :: bs) = dg (x / 16) :: dg (x % 16) :: hexs bs := by simp [hexs]
    cases k with
    | zero => rw [e]; exact ⟨rfl, rfl⟩
    | succ k =>
      have := ih (fun y hy => hb y (by simp [hy])) k (by simpa using hk)
      rw [e, show 2 * (k + 1) = 2 * k + 1 + 1 from by omega]
      exact this
theorem unh_hexs (bs : List Nat) (hb : ∀ x ∈ bs, x < 256) : unh (hexs bs) bs.length = bs := by
  apply List.ext_getElem
  · rw [unh_length]
  · intro k h1 h2
    have hx : bs.getD k 0 = bs[k] := by rw [List.getD_eq_getElem?_getD, List.getElem?_eq_getElem h2]; rfl
    have hx2 := hb _ (List.getElem_mem h2)
    have h3 := unh_get (hexs bs) bs.length k h2
    rw [List.getD_eq_getElem?_getD, List.getElem?_eq_getElem h1] at h3
    simp only [Option.getD_some] at h3
    obtain ⟨e1, e2⟩ := hexs_get bs hb k h2
    rw [h3, e1, e2, hexv_dg _ (by omega), hexv_dg _ (by omega), hx]
    simp only [Option.getD_some]
    omega
theorem hexs_digits (bs : List Nat) (hb : ∀ x ∈ bs, x < 256) : Digits (str (hexs bs)) (2 * bs.length) := by
  intro j hj
  rw [sb_str (hexs_byte hb)]
  have hk : j / 2 < bs.length := by omega
  have hx2 : bs.getD (j / 2) 0 < 256 := by
    rw [List.getD_eq_getElem?_getD, List.getElem?_eq_getElem hk]
    exact hb _ (List.getElem_mem hk)
  obtain ⟨e1, e2⟩ := hexs_get bs hb (j / 2) hk
  rcases Nat.mod_two_eq_zero_or_one j with h | h
  · rw [show j = 2 * (j / 2) from by omega, e1, hexv_dg _ (by omega)]; simp
  · rw [show j = 2 * (j / 2) + 1 from by omega, e2, hexv_dg _ (by omega)]; simp
/-- Unhex of Hex. -/
theorem unhex_hex (bs : List Nat) (hb : ∀ x ∈ bs, x < 256) (hn : bs.length ≤ 1048576) (w : World) : Calls Try.prog 29 #[.string (str (hexs bs))] w (Three w bs 0 0) := by
  have hsz : (str (hexs bs)).size = 2 * bs.length := by rw [str_size, hexs_length]
  have h := unhex_all (str (hexs bs)) w (by omega) (by omega) (by rw [hsz]; exact hexs_digits bs hb)
  rw [hsz, sb_str (hexs_byte hb), show 2 * bs.length / 2 = bs.length from by omega, unh_hexs bs hb] at h
  exact h

theorem carry {w w' : World} {p : Addr} {v : Value} (h : w.cell? p = some v) (hb : Below w.heap.size w w') : w'.cell? p = some v := (hb.cell (cell_lt h)).trans h
theorem one_more (w : World) (o : Obj) : Below w.heap.size w (w.alloc o) := (Below.refl _ _).alloc (Nat.le_refl _) o

set_option maxHeartbeats 1600000 in
theorem walk_OctetHex (a0 : Option Addr) (len0 cap0 : Nat) (bs0 : List Nat) (s1 : ByteArray) (w : World) (R0 : Row w a0 len0 bs0) (hl0 : len0 ≤ cap0) (hc0 : cap0 ≤ 1048576) (hs1 : s1.size ≤ 1048576) :
    Calls Try.prog 6 #[.slice a0 len0 cap0, .string s1] w fun e w' => e = .returned (.bool true) ∧ Below w.heap.size w w' := by
  obtain ⟨l, er, at', hl, g1, g2⟩ := unhex_agree s1 (by omega)
  have G1 := Lib.hid g1
  have G2 := Lib.hid g2
  have HL := Lib.hid hl
  have R := Lib.hid R0
  have G3 := Lib.hid (fun w => unhex_hex bs0 R0.2.1 (by rw [R0.1]; omega) w)
  have hV : ByteVal w (.slice a0 len0 cap0) bs0 := ⟨a0, cap0, by rw [R0.1], by rw [R0.1]; exact hl0, by rw [R0.1]; exact R0⟩
  have HV := Lib.hid hV
  have HLB := Lib.hid (show bs0.length ≤ 9223372036854775807 by rw [R0.1]; omega)
  clear g1 g2 hl R0 hV
  have H1 := Lib.hid (fun w (hR : Row w a0 len0 bs0) => hex_ok a0 len0 cap0 bs0 w (by omega) hR)
  have H2 := Lib.hid (fun w (hR : Row w a0 len0 bs0) => rhex_ok a0 len0 cap0 bs0 w (by omega) hR)
  generalize hexs bs0 = hx at *
  go_enter Try.func6, Try.ntmps6
  go_wp2_with fail
  refine (H1.out _ R.out).mono ?_
  rintro e w1 ⟨rfl, b1⟩
  have B1 := Lib.hid b1
  clear b1
  go_wp2_with fail
  refine (H2.out _ (R.out.below B1.out)).mono ?_
  rintro e w2 ⟨rfl, b2⟩
  have B2 := Lib.hid (below_both B1.out b2)
  clear b2 B1
  go_wp2_with fail
  refine (G1.out _).mono ?_
  rintro e w3 ⟨v3, rfl, r3, b3⟩
  have V3 := Lib.hid (r3.below ((Below.refl _ _).alloc (Nat.le_refl _) (.cells #[.int .i64 er, .int .i64 at'] 42)))
  have B3 := Lib.hid (below_both B2.out b3)
  have X0 : Hid ((w3.alloc (.cells #[.int .i64 er, .int .i64 at'] 42)).cell? ⟨w3.heap.size, 0, none⟩ = some (.int .i64 er)) := cell_of_row _ _ _ _ _ _ (heap_alloc_new w3 _)
  have X1 : Hid ((w3.alloc (.cells #[.int .i64 er, .int .i64 at'] 42)).cell? ⟨w3.heap.size, 1, none⟩ = some (.int .i64 at')) := cell_of_row _ _ _ _ _ _ (heap_alloc_new w3 _)
  have B3' : Below w.heap.size w (w3.alloc (.cells #[.int .i64 er, .int .i64 at'] 42)) := B3.out.alloc B3.out.size _
  have B3 := Lib.hid B3'
  clear r3 b3 B2 B3'
  go_wp2_with fail
  refine (G2.out _).mono ?_
  rintro e w4 ⟨v4, rfl, r4, b4⟩
  have m4 := one_more w4 (.cells #[.int .i64 er, .int .i64 at'] 42)
  have V3 := Lib.hid ((V3.out.below b4).below m4)
  have V4 := Lib.hid (r4.below m4)
  have X0 := Lib.hid (carry (carry X0.out b4) m4)
  have X1 := Lib.hid (carry (carry X1.out b4) m4)
  have Y0 : Hid ((w4.alloc (.cells #[.int .i64 er, .int .i64 at'] 42)).cell? ⟨w4.heap.size, 0, none⟩ = some (.int .i64 er)) := cell_of_row _ _ _ _ _ _ (heap_alloc_new w4 _)
  have Y1 : Hid ((w4.alloc (.cells #[.int .i64 er, .int .i64 at'] 42)).cell? ⟨w4.heap.size, 1, none⟩ = some (.int .i64 at')) := cell_of_row _ _ _ _ _ _ (heap_alloc_new w4 _)
  have B4 := Lib.hid (below_both (below_both B3.out b4) m4)
  clear r4 b4 m4 B3
  go_wp2_with fail
  refine (H1.out _ (R.out.below B4.out)).mono ?_
  rintro e w5 ⟨rfl, b5⟩
  have V3 := Lib.hid (V3.out.below b5)
  have V4 := Lib.hid (V4.out.below b5)
  have X0 := Lib.hid (carry X0.out b5)
  have X1 := Lib.hid (carry X1.out b5)
  have Y0 := Lib.hid (carry Y0.out b5)
  have Y1 := Lib.hid (carry Y1.out b5)
  have B5 := Lib.hid (below_both B4.out b5)
  clear b5 B4
  go_wp2_with fail
  refine (G3.out _).mono ?_
  rintro e w6 ⟨v6, rfl, r6, b6⟩
  have m6 := one_more w6 (.cells #[.int .i64 0, .int .i64 0] 42)
  have V3 := Lib.hid ((V3.out.below b6).below m6)
  have V4 := Lib.hid ((V4.out.below b6).below m6)
  have V6 := Lib.hid (r6.below m6)
  have X0 := Lib.hid (carry (carry X0.out b6) m6)
  have X1 := Lib.hid (carry (carry X1.out b6) m6)
  have Y0 := Lib.hid (carry (carry Y0.out b6) m6)
  have Y1 := Lib.hid (carry (carry Y1.out b6) m6)
  have Z0 : Hid ((w6.alloc (.cells #[.int .i64 0, .int .i64 0] 42)).cell? ⟨w6.heap.size, 0, none⟩ = some (.int .i64 0)) := cell_of_row _ _ _ _ _ _ (heap_alloc_new w6 _)
  have Z1 : Hid ((w6.alloc (.cells #[.int .i64 0, .int .i64 0] 42)).cell? ⟨w6.heap.size, 1, none⟩ = some (.int .i64 0)) := cell_of_row _ _ _ _ _ _ (heap_alloc_new w6 _)
  have B6 := Lib.hid (below_both (below_both B5.out b6) m6)
  clear r6 b6 m6 B5
  go_wp2_with fail
  refine (live1 _).mono ?_
  rintro e w7 ⟨rfl, b7⟩
  have V3 := Lib.hid (V3.out.below b7)
  have V4 := Lib.hid (V4.out.below b7)
  have V6 := Lib.hid (V6.out.below b7)
  have X0 := Lib.hid (carry X0.out b7)
  have X1 := Lib.hid (carry X1.out b7)
  have Y0 := Lib.hid (carry Y0.out b7)
  have Y1 := Lib.hid (carry Y1.out b7)
  have Z0 := Lib.hid (carry Z0.out b7)
  have Z1 := Lib.hid (carry Z1.out b7)
  have B7 := Lib.hid (below_both B6.out b7)
  clear b7 B6
  go_wp2_with fail
  refine (same_vals _ _ l _ HL.out V3.out V4.out).mono ?_
  rintro e w8 ⟨rfl, b8⟩
  have V6 := Lib.hid (V6.out.below b8)
  have x0 := carry X0.out b8
  have x1 := carry X1.out b8
  have y0 := carry Y0.out b8
  have y1 := carry Y1.out b8
  have Z0 := Lib.hid (carry Z0.out b8)
  have Z1 := Lib.hid (carry Z1.out b8)
  have B8 := Lib.hid (below_both B7.out b8)
  clear b8 B7 V3 V4 X0 X1 Y0 Y1
  go_wp2_with fail
  refine (same_vals _ _ bs0 _ HLB.out V6.out (HV.out.below B8.out)).mono ?_
  rintro e w9 ⟨rfl, b9⟩
  have z0 := carry Z0.out b9
  have z1 := carry Z1.out b9
  have B9 := Lib.hid (below_both B8.out b9)
  clear b9 B8 V6 Z0 Z1 x0 x1 y0 y1
  go_wp2
  go_ret
  exact ⟨rfl, B9.out⟩
end Go.Proofs.Ytbnheffeojnjdaa
