/-
  The contract of strconv.FormatUint at a number of 16 bits and the base 16. One entry of the table of math/bits lies as its initialiser lays it ('Bru').
-/
import Derived.Test.YtaicmadeobglfaaDoorCPlain
import Derived.Test.YtaicmadeobglfaaDoorOwn
import Derived.Laws.BitsAllLaws
namespace Go.Proofs.YtaicmadeobglfaaDoor
open Go.RowKit
set_option linter.unusedVariables false

/-- The library's table names the only bit of 16. -/
def Bru (w : World) : Prop := w.cell? ⟨5, 15, none⟩ = some (.int .u8 4)
theorem Bru.below {w w' : World} (h : Bru w) (hb : Below w.heap.size w w') : Bru w' := (hb.cell (cell_lt h)).trans h
theorem tz64_16 (w : World) (hB : Bru w) : Calls Tryd.prog 84 #[.int .u64 16] w fun e w' => e = .returned (.int .i64 4) ∧ w = w' := by
  have c0 : w.cell? ⟨5, 15, none⟩ = some (.int .u8 4) := hB
  have n1 : IntKind.u64.wrap (-16) = 18446744073709551600 := by decide
  have n2 : bits .and .u64 16 18446744073709551600 = 16 := by decide
  have n3 : IntKind.u64.wrap 4573923408821661840 = 4573923408821661840 := by decide
  go_enter Tryd.func84, Tryd.ntmps84
  go_wp2_with fail
  go_ret
  exact ⟨rfl, rfl⟩
theorem tz_16 (w : World) (hB : Bru w) : Calls Tryd.prog 79 #[.int .u64 16] w fun e w' => e = .returned (.int .i64 4) ∧ w = w' := by
  have C := Lib.hid (tz64_16 w hB)
  go_enter Tryd.func79, Tryd.ntmps79
  go_wp2_with fail
  refine C.out.mono ?_
  rintro e w' ⟨rfl, rfl⟩
  go_wp2_with fail
  go_ret
  exact ⟨rfl, rfl⟩
theorem pow2_16 (w : World) : Calls Tryd.prog 78 #[.int .i64 16] w fun e w' => e = .returned (.bool true) ∧ w = w' := by
  have n1 : bits .and .i64 16 15 = 0 := by decide
  go_enter Tryd.func78, Tryd.ntmps78
  go_wp2_with fail
  go_ret
  exact ⟨rfl, rfl⟩

def nums (ds : List UInt8) : List Nat := ds.map UInt8.toNat
def dline (ds : List UInt8) : List Nat := List.replicate (65 - ds.length) 0 ++ nums ds
/-- The digits so far, at the end of the row. -/
def ArrD (W : World) (g : Nat) (ds : List UInt8) : Prop := W.heap[g]? = some (.cells (bcells (dline ds)).toArray 118 (0, 0))
theorem drow_len (ds : List UInt8) (h : ds.length ≤ 65) : (dline ds).length = 65 := by simp [dline, nums]; omega
theorem ArrD.lt {W : World} {g : Nat} {ds : List UInt8} (h : ArrD W g ds) : g < W.heap.size := by
  rcases Nat.lt_or_ge g W.heap.size with hlt | hge
  · exact hlt
  · unfold ArrD at h; rw [Array.getElem?_eq_none hge] at h; cases h
theorem ArrD.below {W W' : World} {g : Nat} {ds : List UInt8} (h : ArrD W g ds) (hb : Below W.heap.size W W') : ArrD W' g ds := (hb.block g h.lt).trans h
theorem ArrD.cell {W : World} {g : Nat} {ds : List UInt8} (h : ArrD W g ds) (hl : ds.length ≤ 65) (i : Nat) (hi : i < 65) : W.cell? ⟨g, i, none⟩ = some (.int .u8 ((dline ds).getD i 0 : Nat)) := by
  rw [cell_of_row W g i _ _ _ h]
  have := drow_len ds hl
  generalize dline ds = l at *
  have hi' : i < l.length := by omega
  simp [bcells, hi']
theorem ArrD.frozen {W : World} {g : Nat} {ds : List UInt8} (h : ArrD W g ds) (i : Nat) : W.frozen? ⟨g, i, none⟩ = false := frozen_of_row W g i _ _ h
theorem ArrD.put {W : World} {g p : Nat} {ds : List UInt8} (h : ArrD W g ds) (x : UInt8) (hp : p + 1 + ds.length = 65) : ArrD (W.setCell ⟨g, p, none⟩ (.int .u8 (x.toNat : Nat))) g (x :: ds) := by
  have h1 := heap_setCell_same W g p _ _ (.int .u8 (x.toNat : Nat)) h
  unfold ArrD
  rw [h1]
  have e : (dline ds).set p x.toNat = dline (x :: ds) := by
    have e1 : 65 - ds.length = p + 1 := by omega
    have e2 : 65 - (x :: ds).length = p := by simp; omega
    unfold dline
    rw [e1, e2, List.set_append_left (h := by simp), List.replicate_succ', List.set_append_right (h := by simp)]
    simp [nums]
  rw [← e]
  simp [bcells, List.map_set]
theorem ArrD.row {W : World} {g p : Nat} {ds : List UInt8} (h : ArrD W g ds) (hp : p + ds.length = 65) : Row W (some ⟨g, p, none⟩) (65 - p) (nums ds) := by
  have e : 65 - p = ds.length := by omega
  rw [e]
  refine Row.mk (by simp [nums]) (fun x hx => ?_) fun i hi => ?_
  · obtain ⟨y, _, rfl⟩ := List.mem_map.1 hx
    exact y.toNat_lt
  · rw [h.cell (by omega) (p + i) (by omega)]
    have e2 : (dline ds).getD (p + i) 0 = (nums ds).getD i 0 := by
      unfold dline
      rw [List.getD_eq_getElem?_getD, List.getD_eq_getElem?_getD, List.getElem?_append_right (by simp; omega), List.length_replicate, show p + i - (65 - ds.length) = i from by omega]
    rw [e2]
theorem str_of (ds : List UInt8) : str (nums ds) = ⟨ds.toArray⟩ := by
  unfold str nums
  rw [List.map_map]
  have e : ds.map ((fun x => UInt8.ofNat x) ∘ UInt8.toNat) = ds := by
    conv => rhs; rw [← List.map_id ds]
    exact List.map_congr_left fun x _ => by simp
  rw [e]
theorem gtext_step (g : Nat) (h : g < 65536) : gtext g = if g < 16 then [hexd g] else gtext (g / 16) ++ [hexd (g % 16)] := by
  by_cases h1 : g < 16
  · rw [if_pos h1]; exact if_pos h1
  rw [show (if g < 16 then [hexd g] else gtext (g / 16) ++ [hexd (g % 16)]) = gtext (g / 16) ++ [hexd (g % 16)] from if_neg h1]
  unfold gtext
  rw [if_neg h1]
  by_cases h2 : g < 256
  · have a : g / 16 < 16 := by omega
    rw [if_pos h2, if_pos a]; rfl
  have a : ¬ g / 16 < 16 := by omega
  rw [if_neg h2, if_neg a]
  by_cases h3 : g < 4096
  · have b : g / 16 < 256 := by omega
    rw [if_pos h3, if_pos b]; rfl
  · have b : ¬ g / 16 < 256 := by omega
    have c : g / 16 < 4096 := by omega
    rw [if_neg h3, if_neg b, if_pos c]; rfl
/-- The library's digits. -/
def d36 : ByteArray := ⟨#[48, 49, 50, 51, 52, 53, 54, 55, 56, 57, 97, 98, 99, 100, 101, 102, 103, 104, 105, 106, 107, 108, 109, 110, 111, 112, 113, 114, 115, 116, 117, 118, 119, 120, 121, 122]⟩
theorem d36_at : ∀ k, k < 16 → d36.data[k]? = some (hexd k) := by decide
theorem idx36 (k : Nat) (hk : k < 16) (w : World) : (Instr.index 9 (.string ⟨#[48, 49, 50, 51, 52, 53, 54, 55, 56, 57, 97, 98, 99, 100, 101, 102, 103, 104, 105, 106, 107, 108, 109, 110, 111, 112, 113, 114, 115, 116, 117, 118, 119, 120, 121, 122]⟩) (.int .u64 (k : Int))).run Tryd.prog w = .ok (.int .u8 ((hexd k).toNat : Nat)) w := by
  have h := d36_at k hk
  have hk2 : k < 36 := by omega
  have hs : d36.size = 36 := rfl
  show (Instr.index 9 (.string d36) (.int .u64 (k : Int))).run Tryd.prog w = _
  simp [Instr.index, run_underlying Tryd.underlying9, asIntOf, go_sem, hs, hk2]
  have e : d36[k] = hexd k := by
    have h2 : d36.data[k]? = some (d36[k]) := Array.getElem?_eq_getElem hk2
    rw [h] at h2
    injection h2 with h2
    exact h2.symm
  exact congrArg (fun b : UInt8 => ((b.toNat : Nat) : Int)) e

theorem digits_few {q n g : Nat} (h : 1 ≤ q) (h2 : q * 16 ^ n ≤ g) (hg : g < 65536) : n ≤ 3 := by
  rcases Nat.lt_or_ge 3 n with h3 | h3
  · have h4 : 16 ^ 4 ≤ 16 ^ n := Nat.pow_le_pow_right (by decide) h3
    have h5 : 1 * 16 ^ n ≤ q * 16 ^ n := Nat.mul_le_mul_right _ h
    omega
  · exact h3
theorem wrap_down {p p1 n : Nat} (h : p = p1 + 1) (h2 : p + n = 65) : wrap64 ((p : Int) - 1) = (p1 : Int) := by
  have e : ((p : Int) - 1) = (p1 : Int) := by omega
  rw [e]
  unfold wrap64
  omega
set_option maxRecDepth 10000 in
set_option maxHeartbeats 1600000 in
theorem formatBits_any (g : Nat) (w : World) (hg : g < 65536) (hB : Bru w) :
    Calls Tryd.prog 63 #[.slice none 0 0, .int .u64 g, .int .i64 16, .bool false, .bool false] w fun e w' => e = .returned (.tuple #[.slice none 0 0, .string ⟨(gtext g).toArray⟩]) ∧ Below w.heap.size w w' := by
  have CT := Lib.hid (fun w hB => tz_16 w hB)
  have CP := Lib.hid (fun w => pow2_16 w)
  have HT := Lib.hid hB
  have hg0 := Lib.hid hg
  clear hB
  go_enter Tryd.func63, Tryd.ntmps63
  go_wp2_with fail
  refine (CP.out _).mono ?_
  rintro e w' ⟨rfl, rfl⟩
  go_wp2_with fail
  refine (CT.out _ (HT.out.below ((Below.refl _ _).alloc (Nat.le_refl _) _))).mono ?_
  rintro e w' ⟨rfl, rfl⟩
  go_wp2_with fail
  go_loopw [1, 13] (fun u i wr => ∃ (v p : Nat) (ds : List UInt8), Hid (v < 65536) ∧ u = .int .u64 v ∧ i = .int .i64 p ∧ Hid (p + ds.length = 65) ∧ Hid (ds.length ≤ 3) ∧ Hid (v * 16 ^ ds.length ≤ g) ∧ Hid (gtext g = gtext v ++ ds) ∧ Hid (ArrD wr w.heap.size ds) ∧ Hid (Below w.heap.size w wr)) (fun u _ _ => (intOf u).toNat)
  case atStart => exact ⟨g, 65, [], hg, rfl, rfl, rfl, by show (0 : Nat) ≤ 3; decide, by show g * 1 ≤ g; omega, by show _ = _; simp, heap_alloc_new w _, (Below.refl _ _).alloc (Nat.le_refl _) _⟩
  case round =>
    obtain ⟨v, p, ds, HV0, rfl, rfl, HP, HL, HV, HG, HA, HB⟩ := hrel
    obtain ⟨p1, hp1⟩ : ∃ p1, p = p1 + 1 := ⟨p - 1, by have := HP.out; have := HL.out; omega⟩
    have HP1 : Hid (p1 + 1 + ds.length = 65) := by show _ = _; rw [← hp1]; exact HP.out
    have t1 : wrap64 ((p : Int) - 1) = (p1 : Int) := wrap_down hp1 HP.out
    have t3 : (p1 : Int) < 65 := by have := HP1.out; omega
    have t4 : (0 : Int) ≤ (p1 : Int) := by omega
    have t5 : (p1 : Int) ≤ 65 := by omega
    have f0 := HA.out.frozen p1
    have c0 := HA.out.cell (by have := HL.out; omega) p1 (by have := HP1.out; omega)
    generalize (dline ds).getD p1 0 = old at c0
    by_cases h16 : v < 16
    · have hv16 : ¬ ((16 : Int) ≤ (v : Int)) := by omega
      have hix := idx36 v h16
      have HA2 := Lib.hid (HA.out.put (hexd v) HP1.out)
      have HF : Hid (gtext g = hexd v :: ds) := by show _ = _; rw [HG.out, gtext_step v HV0.out, if_pos h16]; rfl
      have HB2 : Hid (Below w.heap.size w (wr.setCell ⟨w.heap.size, p1, none⟩ (.int .u8 ((hexd v).toNat : Nat)))) := HB.out.setCell (Nat.le_refl _) _
      have hconv := conv_str (c := 65 - p1) (HA2.out.row (p := p1) (by have := HP1.out; simp; omega))
      rw [str_of, ← HF.out] at hconv
      clear h16 hp1
      generalize hexd v = hx at *
      go_wp2_with fail
      go_ret2
      exact ⟨rfl, HB2.out⟩
    · have hv16 : (16 : Int) ≤ (v : Int) := by omega
      obtain ⟨m, hm⟩ : ∃ m, m = v % 16 := ⟨_, rfl⟩
      obtain ⟨q, hq⟩ : ∃ q, q = v / 16 := ⟨_, rfl⟩
      have hand : bits .and .u64 (v : Int) 15 = (m : Int) := by
        have h := u64_and_nat v 15 (by have := HV0.out; omega) (by decide)
        rw [nat_mask4, ← hm] at h
        exact h
      have hdiv : (v : Int) / 16 = (q : Int) := by omega
      have hm16 : m < 16 := by rw [hm]; exact Nat.mod_lt _ (by decide)
      have hix := idx36 m hm16
      have HA2 := Lib.hid (HA.out.put (hexd m) HP1.out)
      have HF : Hid (gtext g = gtext q ++ hexd m :: ds) := by
        show _ = _
        rw [HG.out, gtext_step v HV0.out, if_neg h16, hm, hq, List.append_assoc]
        rfl
      have HV2 : Hid (q * 16 ^ (hexd m :: ds).length ≤ g) := by
        show _ ≤ _
        have h1 : q * 16 ≤ v := by omega
        rw [List.length_cons, Nat.pow_succ, Nat.mul_comm (16 ^ ds.length), ← Nat.mul_assoc]
        exact Nat.le_trans (Nat.mul_le_mul_right _ h1) HV.out
      have HL2 : Hid ((hexd m :: ds).length ≤ 3) := digits_few (by omega : 1 ≤ q) HV2.out hg0.out
      have HB2 : Hid (Below w.heap.size w (wr.setCell ⟨w.heap.size, p1, none⟩ (.int .u8 ((hexd m).toNat : Nat)))) := HB.out.setCell (Nat.le_refl _) _
      have HQ : Hid (q < 65536 ∧ q < v) := by have := HV0.out; exact ⟨by omega, by omega⟩
      have HP2 : Hid (p1 + (hexd m :: ds).length = 65) := by have := HP1.out; show _ = _; rw [List.length_cons]; omega
      clear h16 hp1 hm16 hm hq
      generalize hexd m = hx at *
      go_wp2_with fail
      go_roundw
      case rel => exact ⟨q, p1, hx :: ds, HQ.out.1, rfl, by rw [t1], HP2.out, HL2.out, HV2.out, HF.out, HA2.out, HB2.out⟩
      case measure => have := HQ.out.2; simp [intOf]; omega

theorem iformat_any (g : Nat) (w : World) (hg : g < 65536) (hB : Bru w) :
    Calls Tryd.prog 57 #[.int .u64 g, .int .i64 16] w fun e w' => e = .returned (.string ⟨(gtext g).toArray⟩) ∧ Below w.heap.size w w' := by
  have C := Lib.hid (formatBits_any g w hg hB)
  clear hB hg
  go_enter Tryd.func57, Tryd.ntmps57
  go_wp2_with fail
  refine C.out.mono ?_
  rintro e w' ⟨rfl, hb⟩
  have HB := Lib.hid hb
  clear hb
  go_wp2_with fail
  go_ret
  exact ⟨rfl, HB.out⟩
/-- strconv.FormatUint at a group. -/
theorem format_any (g : Nat) (w : World) (hg : g < 65536) (hB : Bru w) :
    Calls Tryd.prog 38 #[.int .u64 g, .int .i64 16] w fun e w' => e = .returned (.string ⟨(gtext g).toArray⟩) ∧ Below w.heap.size w w' := by
  have C := Lib.hid (iformat_any g w hg hB)
  clear hB hg
  go_enter Tryd.func38, Tryd.ntmps38
  go_wp2_with fail
  refine C.out.mono ?_
  rintro e w' ⟨rfl, hb⟩
  have HB := Lib.hid hb
  clear hb
  go_wp2_with fail
  go_ret
  exact ⟨rfl, HB.out⟩
end Go.Proofs.YtaicmadeobglfaaDoor
