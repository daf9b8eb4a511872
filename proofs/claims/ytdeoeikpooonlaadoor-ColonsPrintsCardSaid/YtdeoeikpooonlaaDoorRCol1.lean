/-
  Contracts of the document's Group, hex, run of layer 6.
-/
import Derived.Test.YtdeoeikpooonlaaDoorCol6
import Derived.Test.YtdeoeikpooonlaaDoorCol5
namespace Go.Proofs.YtdeoeikpooonlaaDoor
open Go.RowKit
set_option linter.unusedVariables false

set_option maxRecDepth 10000 in
set_option maxHeartbeats 800000 in
theorem rgroup_in (X : List Nat) (k : Nat) (w : World) (hX : X.length = 16) (bX : ∀ x ∈ X, x < 256) (hk : k < 8) :
    Calls Tryd.prog 32 #[.agg (bcells X).toArray, .int .i64 k] w fun e w' => e = .returned (.int .u16 (grp X k : Nat)) ∧ Below w.heap.size w w' := by
  have hs : (bcells X).length = 16 := by rw [bcells_length, hX]
  have HA : Hid (ArrB (w.alloc (.cells (bcells X).toArray 37)) w.heap.size X) := heap_alloc_new w _
  obtain ⟨m, hm⟩ : ∃ m, m = 2 * k := ⟨_, rfl⟩
  obtain ⟨x, hx⟩ : ∃ x, x = X.getD m 0 := ⟨_, rfl⟩
  obtain ⟨y, hy⟩ : ∃ y, y = X.getD (m + 1) 0 := ⟨_, rfl⟩
  have bx : x < 256 := by rw [hx]; exact getD_byte bX _
  have by' : y < 256 := by rw [hy]; exact getD_byte bX _
  have E : Hid (grp X k = x * 256 + y) := by show _ = _; rw [hx, hy, hm]; rfl
  have c0 := HA.out.cell m (by omega)
  have c1 := HA.out.cell (m + 1) (by omega)
  rw [← hx] at c0
  rw [← hy] at c1
  have q1 : IntKind.i64.wrap (2 * (k : Int)) = (m : Int) := by rw [show (2 * (k : Int)) = (m : Int) by omega]; exact IntWalk.i64_in _ ⟨by omega, by omega⟩
  have q2 : IntKind.i64.wrap ((m : Int) + 1) = (m : Int) + 1 := IntWalk.i64_in _ ⟨by omega, by omega⟩
  have q3 : IntKind.u16.wrap ((x : Int) * 256) = (x : Int) * 256 := by show ((x : Int) * 256) % 65536 = _; omega
  have q4 : IntKind.u16.wrap (x : Int) = (x : Int) := by show (x : Int) % 65536 = _; omega
  have q5 : IntKind.u16.wrap (y : Int) = (y : Int) := by show (y : Int) % 65536 = _; omega
  have q6 : IntKind.u16.wrap ((x : Int) * 256 + (y : Int)) = ((x * 256 + y : Nat) : Int) := by show ((x : Int) * 256 + (y : Int)) % 65536 = _; omega
  have m15 : (m : Int) + 1 < 16 := by omega
  have m14 : (m : Int) < 16 := by omega
  have k0 : ¬ ((k : Int) < 0) := by omega
  have k8 : (k : Int) ≤ 7 := by omega
  clear hm hx hy bX bx by'
  go_enter Tryd.func32, Tryd.ntmps32
  go_wp2_with fail
  go_region
  all_goals
    go_wp2_with fail
    go_ret
    exact ⟨by rw [E.out]; simp, ((Below.refl _ _).alloc (Nat.le_refl _) _).drew⟩
theorem rgroup_out (X : List Nat) (i : Int) (w : World) (hX : X.length = 16) (hi : i < 0 ∨ 8 ≤ i) :
    Calls Tryd.prog 32 #[.agg (bcells X).toArray, .int .i64 i] w fun e w' => e = .returned (.int .u16 0) ∧ Below w.heap.size w w' := by
  have hs : (bcells X).length = 16 := by rw [bcells_length, hX]
  rcases hi with h | h
  · go_enter Tryd.func32, Tryd.ntmps32
    go_wp2_with fail
    go_ret
    exact ⟨rfl, (Below.refl _ _).alloc (Nat.le_refl _) _⟩
  · have h0 : 0 ≤ i := by omega
    have h7 : 7 < i := by omega
    clear h
    go_enter Tryd.func32, Tryd.ntmps32
    go_wp2_with fail
    go_ret
    exact ⟨rfl, (Below.refl _ _).alloc (Nat.le_refl _) _⟩

/-! hex -/
/-- What comes of the rest of a number and the letters laid. -/
def hxj (n : Nat) (t : List UInt8) : List UInt8 := if n = 0 ∧ t ≠ [] then t else gtext n ++ t
theorem hxj_step {n : Nat} {t : List UInt8} (h : 0 < n ∨ t = []) (h2 : n < 65536) : hxj (n / 16) (hexd (n % 16) :: t) = hxj n t := by
  have hno : ¬ (n = 0 ∧ t ≠ []) := fun ⟨a, b⟩ => by
    rcases h with h | h
    · omega
    · exact b h
  have e1 : hxj n t = gtext n ++ t := by unfold hxj; rw [if_neg hno]
  rw [e1]
  unfold hxj
  by_cases h16 : n < 16
  · rw [if_pos ⟨by omega, by simp⟩, show n % 16 = n by omega]
    unfold gtext
    rw [if_pos h16]
    rfl
  · rw [if_neg (by rintro ⟨a, _⟩; omega), gtext_step n h2, if_neg h16]
    simp
theorem hxj_room {n : Nat} {t : List UInt8} (h : 0 < n ∨ t = []) (hm : ∃ m, t.length + m = 4 ∧ n < 16 ^ m) : ∃ m, (hexd (n % 16) :: t).length + m = 4 ∧ n / 16 < 16 ^ m := by
  obtain ⟨m, h1, h2⟩ := hm
  cases m with
  | zero =>
    rcases h with h | h
    · simp at h2
      omega
    · subst h
      simp at h1
  | succ m =>
    refine ⟨m, by simp; omega, ?_⟩
    rw [Nat.pow_succ] at h2
    omega
theorem hex_cut : ∀ d, d < 16 → (⟨#[48, 49, 50, 51, 52, 53, 54, 55, 56, 57, 97, 98, 99, 100, 101, 102]⟩ : ByteArray).extract d (d + 1) = ⟨#[hexd d]⟩ := by decide
theorem hex_slice (w : World) (d : Nat) (hd : d < 16) : (Instr.slice 9 (.string ⟨#[48, 49, 50, 51, 52, 53, 54, 55, 56, 57, 97, 98, 99, 100, 101, 102]⟩) (some (.int .u16 (d : Int))) (some (.int .u16 ((d : Int) + 1))) none).run Tryd.prog w = .ok (.string ⟨#[hexd d]⟩) w := by
  have h := run_slice_string (P := Tryd.prog) w 9 (⟨#[48, 49, 50, 51, 52, 53, 54, 55, 56, 57, 97, 98, 99, 100, 101, 102]⟩ : ByteArray) .u16 .u16 (d : Int) ((d : Int) + 1) Tryd.underlying9 (by omega) (by omega) (by show (d : Int) + 1 ≤ 16; omega)
  rw [show ((d : Int) + 1).toNat = d + 1 by omega, Int.toNat_natCast, hex_cut d hd] at h
  exact h
theorem hex_zero : Value.string ((⟨#[48, 49, 50, 51, 52, 53, 54, 55, 56, 57, 97, 98, 99, 100, 101, 102]⟩ : ByteArray).extract 0 1 ++ ⟨#[]⟩) = Value.string ⟨([48] : List UInt8).toArray⟩ := congrArg Value.string (by decide)
def strLen : Value → Nat
  | .string b => b.size
  | _ => 0
theorem lst_size (l : List UInt8) : (⟨l.toArray⟩ : ByteArray).size = l.length := by simp [ByteArray.size]
theorem lst_empty (l : List UInt8) : (⟨l.toArray⟩ : ByteArray).toList.isEmpty = l.isEmpty := by rw [Lib.toList_data]
theorem lst_cons (x : UInt8) (l : List UInt8) : (⟨#[x]⟩ : ByteArray) ++ ⟨l.toArray⟩ = ⟨(x :: l).toArray⟩ := by
  apply ByteArray.ext
  simp
set_option maxRecDepth 10000 in
set_option maxHeartbeats 800000 in
theorem rhex_any (x : Nat) (w : World) (hx : x < 65536) :
    Calls Tryd.prog 92 #[.int .u16 x] w fun e w' => e = .returned (.string (gt x)) ∧ w = w' := by
  go_enter Tryd.func92, Tryd.ntmps92
  go_wp2_with fail
  go_loop [0, 3] (fun a s => ∃ (n : Nat) (t : List UInt8), n < 65536 ∧ a = .int .u16 n ∧ s = .string ⟨t.toArray⟩ ∧ Hid (hxj n t = gtext x) ∧ Hid (∃ m, t.length + m = 4 ∧ n < 16 ^ m)) (fun a s => (intOf a).toNat + (1 - strLen s))
  case atStart => exact ⟨x, [], hx, rfl, rfl, by show hxj x [] = _; unfold hxj; rw [if_neg (by simp)]; simp, ⟨4, rfl, hx⟩⟩
  case round =>
    obtain ⟨n, t, hn, rfl, rfl, HX, HM⟩ := hrel
    have et := lst_empty t
    by_cases hzz : n = 0 ∧ t = []
    · obtain ⟨rfl, rfl⟩ := hzz
      have HX1 : Hid (hxj 0 [48] = gtext x) := by
        have h := hxj_step (n := 0) (t := []) (.inr rfl) (by decide)
        show _ = _
        rw [← HX.out, ← h]
        rfl
      have HM1 : Hid (∃ m, ([48] : List UInt8).length + m = 4 ∧ 0 < 16 ^ m) := ⟨3, rfl, by decide⟩
      clear HX HM et
      go_wp2_with fail
      go_round
      case rel => exact ⟨0, [48], by decide, rfl, hex_zero, HX1.out, HM1.out⟩
      case measure => decide
    by_cases hgo : 0 < n ∨ t = []
    · have HX1 : Hid (hxj (n / 16) (hexd (n % 16) :: t) = gtext x) := by show _ = _; rw [hxj_step hgo hn]; exact HX.out
      have HM1 := Lib.hid (hxj_room hgo HM.out)
      have hl : t.length ≤ 4 := by obtain ⟨m, h1, _⟩ := HM.out; omega
      have hD : n % 16 < 16 := Nat.mod_lt _ (by decide)
      have hsl := hex_slice w (n % 16) hD
      have e1 : (n : Int) % 16 = ((n % 16 : Nat) : Int) := by omega
      have e2 : (n : Int) / 16 = ((n / 16 : Nat) : Int) := by omega
      have e3 : IntKind.u16.wrap (((n % 16 : Nat) : Int) + 1) = ((n % 16 + 1 : Nat) : Int) := by show (((n % 16 : Nat) : Int) + 1) % 65536 = _; omega
      have hlt : n / 16 < 65536 := by omega
      have HMS : Hid (0 < n → n / 16 < n) := fun h => by omega
      have hsz : (⟨#[hexd (n % 16)]⟩ : ByteArray).size + (⟨t.toArray⟩ : ByteArray).size ≤ 9223372036854775807 := by rw [lst_size]; show 1 + t.length ≤ _; omega
      have hcat := lst_cons (hexd (n % 16)) t
      have hzz := Lib.hid hzz
      clear HX HM hl
      generalize hexd (n % 16) = L at *
      generalize n % 16 = D at *
      generalize n / 16 = N at *
      rcases hgo with hgo | hgo
      · have h0 : (0 : Int) < (n : Int) := by omega
        have hm := HMS.out hgo
        go_wp2_with fail
        go_round
        case rel => exact ⟨N, L :: t, hlt, rfl, rfl, HX1.out, HM1.out⟩
        case measure => simp [intOf, strLen, lst_size]; omega
      · subst hgo
        by_cases hz : 0 < n
        · have h0 : (0 : Int) < (n : Int) := by omega
          have hm := HMS.out hz
          go_wp2_with fail
          go_round
          case rel => exact ⟨N, [L], hlt, rfl, rfl, HX1.out, HM1.out⟩
          case measure => simp [intOf, strLen, lst_size]; omega
        · exact absurd ⟨Nat.eq_zero_of_not_pos hz, rfl⟩ hzz.out
    · have hn0 : n = 0 := by omega
      subst hn0
      have ht : t ≠ [] := fun e => hgo (.inr e)
      have et2 : (⟨t.toArray⟩ : ByteArray).toList.isEmpty = false := by rw [et]; cases t with
        | nil => exact absurd rfl ht
        | cons x l => rfl
      have et3 : t.isEmpty = false := by cases t with
        | nil => exact absurd rfl ht
        | cons x l => rfl
      have E : Hid (gt x = ⟨t.toArray⟩) := by
        show _ = _
        have h := HX.out
        unfold hxj at h
        rw [if_pos ⟨rfl, ht⟩] at h
        rw [gt, ← h]
      clear et HX
      go_wp2_with fail
      go_ret
      exact ⟨by rw [E.out]; rfl, rfl⟩
end Go.Proofs.YtdeoeikpooonlaaDoor
