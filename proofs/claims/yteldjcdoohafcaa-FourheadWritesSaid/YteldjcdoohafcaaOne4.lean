/-
  Fill answers new memory that the caller holds.
-/
import Derived.Test.YteldjcdoohafcaaOne3
namespace Go.Proofs.Yteldjcdoohafcaa
open Go.RowKit
set_option linter.unusedVariables false

/-- It answers a new block that is these bytes, whole. -/
def OwnTo (w : World) (l : List Nat) (e : Ending) (w' : World) : Prop := ∃ g, w.heap.size ≤ g ∧ e = .returned (.tuple #[.slice (some ⟨g, 0, none⟩) l.length l.length, .int .i64 0]) ∧ Own w' g l ∧ Below w.heap.size w w'
theorem own_put {w : World} {l : List Nat} : ∀ e w', PutTo w l e w' → OwnTo w l e w' := fun e w' ⟨h1, h2, h3⟩ => ⟨w.heap.size, Nat.le_refl _, h1, h2, h3⟩
theorem ofill_own (A : Option Addr) (n cap : Nat) (a : Nat) (bs : List Nat) (w : World) (hcap : n ≤ cap) (hreach : n ≤ 140737488355328) (h2 : a % 2 = 0) (h : a + 2 ≤ n) (hA : Row w A n bs) :
    Calls Try.prog 61 #[.slice A n cap, .int .i64 a] w (OwnTo w (filled bs a)) := by
  have hby := hA.2.1
  have hlen := hA.len
  have C1 := Lib.hid ((put_new A n cap 0 a 2 bs w hcap hreach (by decide) (by decide) (by decide) h hA).mono (two_own (splice_byte hby (pb_byte 0 2))))
  have hl2 : (splice bs a (pb 0 2)).length = n := by rw [splice_two_length (by omega)]; exact hlen
  have hb2 : ∀ x ∈ splice bs a (pb 0 2), x < 256 := splice_byte hby (pb_byte 0 2)
  have HF : Hid (filled bs a = splice (splice bs a (pb 0 2)) a (pb (65535 - orest (wsum 0 (splice bs a (pb 0 2)))) 2)) := rfl
  generalize splice bs a (pb 0 2) = bl at *
  have hol := orest_le (wsum 0 bl)
  obtain ⟨c, hc⟩ : ∃ c, c = 65535 - orest (wsum 0 bl) := ⟨_, rfl⟩
  have hcl : c ≤ 65535 := by omega
  rw [← hc] at HF
  have q : ((a : Int) % 2 != 0) = false := by rw [bne_eq_false_iff_eq]; omega
  have HL2 := Lib.hid hl2
  have C2 : Hid (∀ (w1 : World) (B : Option Addr) (d : Nat), Row w1 B n bl → Calls Try.prog 82 #[.slice B n d] w1 fun e w' => e = .returned (.int .u16 c) ∧ Below w1.heap.size w1 w') := fun w1 B d hR => by
    rw [hc]
    exact (ocheck_any B n d bl w1 (by omega) hR)
  have C3 : Hid (∀ (w1 : World) (B : Option Addr) (d : Nat), n ≤ d → Row w1 B n bl → Calls Try.prog 76 #[.slice B n d, .int .i64 a, .int .i64 2, .int .u64 c] w1 (OwnTo w1 (filled bs a))) := fun w1 B d hd hR => by
    rw [HF.out]
    exact (put_new B n d c a 2 bl w1 hd hreach (by decide) (by decide) (by omega) h hR).mono own_put
  clear hc hol h2 hA
  go_enter Try.func61, Try.ntmps61
  go_wp2_with fail
  refine C1.out.mono ?_
  rintro e w1 ⟨v, rfl, ⟨B, d, rfl, hd, hR⟩, b1⟩
  rw [HL2.out] at hd hR ⊢
  have HR := Lib.hid hR
  have HD := Lib.hid hd
  have B1 := Lib.hid b1
  clear hR hd b1
  go_wp2_with fail
  refine (C2.out _ _ _ HR.out).mono ?_
  rintro e w2 ⟨rfl, b2⟩
  have HR := Lib.hid (HR.out.below b2)
  have B2 := Lib.hid (below_both B1.out b2)
  clear b2 B1
  go_wp2_with fail
  refine (C3.out _ _ _ HD.out HR.out).mono ?_
  rintro e w3 ⟨g, hg, rfl, hv, b3⟩
  have HV := Lib.hid hv
  have B2s := Lib.hid B2.out.size
  have B3 := Lib.hid (below_both B2.out b3)
  clear hv b3 B2
  go_wp2_with fail
  go_ret2
  exact ⟨g, Nat.le_trans B2s.out hg, rfl, HV.out, B3.out⟩
theorem Own.val {w : World} {g : Nat} {l : List Nat} (h : Own w g l) (hb : ∀ x ∈ l, x < 256) : ByteVal w (.slice (some ⟨g, 0, none⟩) l.length l.length) l := ⟨_, _, rfl, Nat.le_refl _, h.row hb⟩
end Go.Proofs.Yteldjcdoohafcaa
