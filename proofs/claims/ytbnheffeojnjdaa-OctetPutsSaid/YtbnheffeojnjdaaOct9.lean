/-
  The contract of octet.Hex: two digits a byte.
-/
import Derived.Test.YtbnheffeojnjdaaOct6
import Derived.Test.YtbnheffeojnjdaaOwn
import Derived.Deep.RegionHeld3
import Derived.Deep.DrawnRows
namespace Go.Proofs.Ytbnheffeojnjdaa
open Go.RowKit
set_option linter.unusedVariables false
attribute [local go_sem ↓] Go.wp_at_zero Go.wp_at_succ

/-- Two digits a byte. -/
def hexs (bs : List Nat) : List Nat := bs.flatMap fun x => [dg (x / 16), dg (x % 16)]
theorem hexs_snoc (bs : List Nat) (x : Nat) : hexs (bs ++ [x]) = hexs bs ++ [dg (x / 16), dg (x % 16)] := by simp [hexs]
theorem hexs_length (bs : List Nat) : (hexs bs).length = 2 * bs.length := by
  induction bs with
  | nil => rfl
  | cons x bs ih =>
    have : hexs (x :: bs) = [dg (x / 16), dg (x % 16)] ++ hexs bs := by simp [hexs]
    rw [this, List.length_append, ih]
    simp; omega

theorem hex_cells (x : Nat) (h1 : ((x : Int) / 16).toNat < digs.size) (h2 : ((x : Int) % 16).toNat < digs.size) :
    (#[Value.int .u8 ((digs[((x : Int) / 16).toNat]'h1).toNat : Nat), Value.int .u8 ((digs[((x : Int) % 16).toNat]'h2).toNat : Nat)] : Array Value).toList = bcells [dg (x / 16), dg (x % 16)] := by
  rw [digs_at _ h1, digs_at _ h2, show ((x : Int) / 16).toNat = x / 16 from by omega, show ((x : Int) % 16).toNat = x % 16 from by omega]
  rfl

theorem hexs_byte {bs : List Nat} (h : ∀ x ∈ bs, x < 256) : ∀ y ∈ hexs bs, y < 256 := by
  intro y hy
  simp only [hexs, List.mem_flatMap] at hy
  obtain ⟨x, hx, hy⟩ := hy
  have h1 := h x hx
  simp only [List.mem_cons, List.not_mem_nil, or_false] at hy
  rcases hy with rfl | rfl
  · exact dg_lt (by omega)
  · exact dg_lt (by omega)

set_option maxHeartbeats 800000 in
theorem hex_ok (A : Option Addr) (n cap : Nat) (bs : List Nat) (w : World) (hn : 2 * n ≤ 140737488355328) (hA : Row w A n bs) :
    Calls Try.prog 27 #[.slice A n cap] w fun e w' => e = .returned (.string (str (hexs bs))) ∧ Below w.heap.size w w' := by
  obtain ⟨w1, hmk, ho, hb⟩ := make_cap (B := w.heap.size) (W := w) (w := w) (2 * n) (2 * (n : Int)) (by omega) (by omega) (Below.refl _ _) (Nat.le_refl _)
  have HR := Lib.hid hA
  have HLB := Lib.hid hA.1
  clear hA
  go_enter Try.func27, Try.ntmps27
  go_wp2
  clear hmk
  go_loopw [3, 12] (fun v i wr => ∃ k : Nat, k ≤ n ∧ i = .int .i64 k ∧ OutIs w.heap.size wr v (hexs (bs.take k)) ∧ Below w.heap.size w wr) (fun _ i _ => n - (intOf i).toNat)
  case atStart => exact ⟨0, Nat.zero_le _, rfl, ho, hb⟩
  case round =>
    clear ho hb
    obtain ⟨k, hk, rfl, ho, hb⟩ := hrel
    by_cases hlt : k < n
    · obtain ⟨b, o, rfl, hbw, hcw⟩ := HR.out.addr (by omega)
      have hcx := (hb.cell (p := ⟨b, o + k, none⟩) hbw).trans (hcw k hlt)
      have hx := HR.out.byte k
      have hst := hexs_snoc (bs.take k) (bs.getD k 0)
      rw [← take_succ_getD bs k (by rw [HLB.out]; exact hlt)] at hst
      have hlen := hexs_length (bs.take k)
      rw [List.length_take] at hlen
      have hlen2 : (hexs (bs.take k)).length + 2 ≤ 140737488355328 := by omega
      generalize bs.getD k 0 = x at *
      have hst := Lib.hid hst
      have HO := Lib.hid ho
      have HB := Lib.hid hb
      have HL := Lib.hid hlen2
      clear ho hb hlen hlen2 hcw
      have hand : bits .and .u8 (x : Int) 15 = (x : Int) % 16 := by
        have := u8_and_nat x 15 (by omega) (by omega)
        rw [nat_mask4] at this
        simpa using this
      have b0 : (0 : Int) ≤ (x : Int) / 16 := by omega
      have b1 : (x : Int) / 16 < 16 := by omega
      have b2 : (0 : Int) ≤ (x : Int) % 16 := by omega
      have b3 : (x : Int) % 16 < 16 := by omega
      go_wp2_with fail
      go_region_held3 (fun _ => True) (first | trivial | go_keep)
        ((refine step_append_bytes (by rfl) (.tmp 16) (.tmp 23) (by rfl) (news := [dg (x / 16), dg (x % 16)]) _ 2 (by rfl) (by rfl) (by exact heap_alloc_new wr _) (by exact hex_cells x _ _) (by rfl) (HO.out.alloc _) ((HB.out.alloc HB.out.size _).drew) (by simp; have := HB.out.size; omega) HL.out ?_; intro v' w' ho' hb'))
      all_goals
        go_wp2
        go_roundw
        case rel => exact ⟨k + 1, by omega, by go_num, by rw [hst.out]; exact ho', hb'⟩
        case measure => simp [intOf]; omega
    · have hk' : k = n := by omega
      subst hk'
      rw [List.take_of_length_le (by rw [HLB.out]; exact Nat.le_refl _)] at ho
      obtain ⟨A', c', rfl, hl1, hl2, hrow⟩ := ho.out (hexs_byte HR.out.2.1)
      have hconv := conv_str (c := c') hrow
      clear hrow ho
      go_wp2
      go_ret
      exact ⟨rfl, hb⟩
end Go.Proofs.Ytbnheffeojnjdaa
