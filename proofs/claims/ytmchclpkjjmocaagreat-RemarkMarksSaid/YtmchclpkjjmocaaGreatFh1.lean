/-
  Contracts of fourhead's size, word, fields.
  The contract of fourhead's Read.
  What All tells of a header that Read refuses.
-/
import Derived.Test.YtmchclpkjjmocaaGreatOct1
import Derived.Test.YtmchclpkjjmocaaGreatArrV
import Derived.IntWalk
import Derived.Laws.BitsAllLaws
import Derived.Laws.BitsLemmas
import Derived.StillTailTactics
import Derived.Deep.CutRange
import Derived.Deep.CutBlock
namespace Go.Proofs.YtmchclpkjjmocaaGreat
open Go.RowKit
set_option linter.unusedVariables false

theorem fhsize_any (A : Option Addr) (n c : Nat) (bs : List Nat) (w : World) (hn : 1 ≤ n) (hn2 : n ≤ 140737488355328) (hR : Row w A n bs) :
    Calls Tryz.prog 39 #[.slice A n c] w fun e w' => e = .returned (.int .i64 (4 * (bs.getD 0 0 % 16) : Nat)) ∧ w = w' := by
  obtain ⟨b, o, rfl, _, hc⟩ := hR.addr (by omega)
  have c0 := hc 0 (by omega)
  have hx := hR.byte 0
  have h1 : (0 : Int) < (n : Int) := by omega
  generalize bs.getD 0 0 = x at *
  have q1 : bits .and .u8 (x : Int) 15 = ((x % 16 : Nat) : Int) := by
    have := u8_and_nat x 15 (by omega) (by decide)
    rw [nat_mask4] at this
    exact this
  have hy : x % 16 < 16 := Nat.mod_lt _ (by decide)
  simp only [Nat.add_zero] at c0
  clear hR hc hx hn hn2
  generalize x % 16 = y at *
  go_enter Tryz.func39, Tryz.ntmps39
  go_wp2_with fail
  go_ret
  exact ⟨by go_num, rfl⟩
theorem be_two (l : List Nat) (k : Nat) (h : k + 2 ≤ l.length) : be ((l.drop k).take 2) = l.getD k 0 * 256 + l.getD (k + 1) 0 := by
  have e : (l.drop k).take 2 = [l.getD k 0, l.getD (k + 1) 0] := by
    apply List.ext_getElem
    · simp; omega
    · intro i h1 h2
      simp at h2
      rcases (by omega : i = 0 ∨ i = 1) with rfl | rfl
      · simp [List.getD_eq_getElem?_getD, List.getElem?_eq_getElem (show k < l.length by omega)]
      · simp [List.getD_eq_getElem?_getD, List.getElem?_eq_getElem (show k + 1 < l.length by omega)]
  rw [e]
  simp [be]
def fhw (bs : List Nat) (k : Nat) : Nat := bs.getD k 0 * 256 + bs.getD (k + 1) 0
theorem fhw_lt {bs : List Nat} (h : ∀ k, bs.getD k 0 < 256) (k : Nat) : fhw bs k < 65536 := by
  have h1 := h k
  have h2 := h (k + 1)
  unfold fhw
  omega
theorem fhword_any (A : Option Addr) (n c k : Nat) (bs : List Nat) (w : World) (hk : k + 2 ≤ n) (hn2 : n ≤ 140737488355328) (hc : n ≤ c) (hR : Row w A n bs) :
    Calls Tryz.prog 75 #[.slice A n c, .int .i64 k] w fun e w' => e = .returned (.int .i64 (fhw bs k : Nat)) ∧ w = w' := by
  have C := Lib.hid (fun w hR => get_ok A n c k 2 bs w (by omega) hc (by decide) (by decide) hk hR)
  rw [be_two bs k (by rw [hR.1]; exact hk)] at C
  have hx := fhw_lt hR.byte k
  have E : bs.getD k 0 * 256 + bs.getD (k + 1) 0 = fhw bs k := rfl
  rw [E] at C
  clear E
  generalize fhw bs k = x at *
  have HR := Lib.hid hR
  clear hR hk hn2 hc
  go_enter Tryz.func75, Tryz.ntmps75
  go_wp2_with fail
  refine (C.out _ HR.out).mono ?_
  rintro e w' ⟨rfl, rfl⟩
  go_wp2_with fail
  go_ret
  exact ⟨rfl, rfl⟩
theorem i64_and13 (v : Nat) (h : v < 65536) : bits .and .i64 (v : Int) 8191 = ((v % 8192 : Nat) : Int) := by
  have h13 : (BitVec.ofInt 64 8191).toNat = 2 ^ 13 - 1 := by decide
  have key : (BitVec.ofInt 64 (v : Int) &&& BitVec.ofInt 64 8191).toNat = ((v : Int) % ((2 ^ 64 : Nat) : Int)).toNat % 2 ^ 13 := by
    rw [BitVec.toNat_and, BitVec.toNat_ofInt, h13, Nat.and_two_pow_sub_one_eq_mod]
  show IntKind.i64.wrap ((BitVec.ofInt 64 (v : Int) &&& BitVec.ofInt 64 8191).toNat : Nat) = ((v % 8192 : Nat) : Int)
  rw [key, IntKind.wrap_i64]
  omega
theorem ArrV.stAll {t : TypeId} {W : World} {g : Nat} {cs : List Value} (h : ArrV t W g cs) (vs : List Value) (hl : vs.length = cs.length) (h1 : ∀ v ∈ vs, v.oneCell' = true) :
    (storeCells ⟨g, 0, none⟩ vs).run Tryz.prog W = .ok () (W.setCells g 0 vs) := by
  have h2 := run_storeCells_cells (P := Tryz.prog) g 0 vs 0 W (fun j hj => by have := (h.there j (by omega)).1; simpa using this) (fun j hj => by have := (h.there j (by omega)).2; simpa using this) h1
  simpa using h2
theorem array_at (w : World) (b o c : Nat) : (Instr.arrayAt 61 (.slice (some ⟨b, o, none⟩) 4 c)).run Tryz.prog w = .ok (.pointer (some ⟨b, o, none⟩)) w := by
  simp [Instr.arrayAt, run_underlying Tryz.underlying61, go_sem]
theorem tyfour : RowTy 63 17 := ⟨⟨_, Tryz.underlying63, rfl⟩, by kernel_rfl⟩
def fhz : List Value := List.replicate 9 (.int .i64 0) ++ List.replicate 8 (.int .u8 0)
/-- The fields of a header. -/
def fhf (bs : List Nat) : List Value :=
  [.int .i64 (bs.getD 0 0 % 16 : Nat), .int .i64 (bs.getD 1 0 : Nat), .int .i64 (fhw bs 2 : Nat), .int .i64 (fhw bs 4 : Nat), .int .i64 (bs.getD 6 0 / 32 : Nat), .int .i64 (fhw bs 6 % 8192 : Nat), .int .i64 (bs.getD 8 0 : Nat), .int .i64 (bs.getD 9 0 : Nat), .int .i64 (fhw bs 10 : Nat),
    .int .u8 (bs.getD 12 0 : Nat), .int .u8 (bs.getD 13 0 : Nat), .int .u8 (bs.getD 14 0 : Nat), .int .u8 (bs.getD 15 0 : Nat), .int .u8 (bs.getD 16 0 : Nat), .int .u8 (bs.getD 17 0 : Nat), .int .u8 (bs.getD 18 0 : Nat), .int .u8 (bs.getD 19 0 : Nat)]
set_option maxRecDepth 10000 in
set_option maxHeartbeats 6400000 in
theorem fhfields_any (A : Option Addr) (n c : Nat) (bs : List Nat) (w : World) (hn : 20 ≤ n) (hn2 : n ≤ 140737488355328) (hc : n ≤ c) (hR : Row w A n bs) :
    Calls Tryz.prog 56 #[.slice A n c] w fun e w' => e = .returned (.agg (fhf bs).toArray) ∧ Below w.heap.size w w' := by
  obtain ⟨b, o, rfl, hb, hcell⟩ := hR.addr (by omega)
  obtain ⟨V, e0⟩ : ∃ V, V = w.alloc (.cells #[.int .i64 0, .int .i64 0, .int .i64 0, .int .i64 0, .int .i64 0, .int .i64 0, .int .i64 0, .int .i64 0, .int .i64 0, .int .u8 0, .int .u8 0, .int .u8 0, .int .u8 0, .int .u8 0, .int .u8 0, .int .u8 0, .int .u8 0] 63) := ⟨_, rfl⟩
  have HA : Hid (ArrV 63 V w.heap.size fhz) := by rw [e0]; exact ArrV.new _ w fhz
  have HB : Hid (Below w.heap.size w V) := by rw [e0]; exact (Below.refl _ _).alloc (Nat.le_refl _) _
  have hR2 := hR.below (HB.out)
  have HR := Lib.hid hR2
  have hcl : ∀ i, i < 20 → V.cell? ⟨b, o + i, none⟩ = some (.int .u8 (bs.getD i 0 : Nat)) := fun i hi => (HB.out.cell (p := ⟨b, o + i, none⟩) hb).trans (hcell i (by omega))
  have W2 : Hid (∀ w, Row w (some ⟨b, o, none⟩) n bs → Calls Tryz.prog 75 #[.slice (some ⟨b, o, none⟩) n c, .int .i64 2] w fun e w' => e = .returned (.int .i64 (fhw bs 2 : Nat)) ∧ w = w') := fun w hR => fhword_any (some ⟨b, o, none⟩) n c 2 bs w (by omega) hn2 hc hR
  have W4 : Hid (∀ w, Row w (some ⟨b, o, none⟩) n bs → Calls Tryz.prog 75 #[.slice (some ⟨b, o, none⟩) n c, .int .i64 4] w fun e w' => e = .returned (.int .i64 (fhw bs 4 : Nat)) ∧ w = w') := fun w hR => fhword_any (some ⟨b, o, none⟩) n c 4 bs w (by omega) hn2 hc hR
  have W6 : Hid (∀ w, Row w (some ⟨b, o, none⟩) n bs → Calls Tryz.prog 75 #[.slice (some ⟨b, o, none⟩) n c, .int .i64 6] w fun e w' => e = .returned (.int .i64 (fhw bs 6 : Nat)) ∧ w = w') := fun w hR => fhword_any (some ⟨b, o, none⟩) n c 6 bs w (by omega) hn2 hc hR
  have W10 : Hid (∀ w, Row w (some ⟨b, o, none⟩) n bs → Calls Tryz.prog 75 #[.slice (some ⟨b, o, none⟩) n c, .int .i64 10] w fun e w' => e = .returned (.int .i64 (fhw bs 10 : Nat)) ∧ w = w') := fun w hR => fhword_any (some ⟨b, o, none⟩) n c 10 bs w (by omega) hn2 hc hR
  have hby := hR.byte
  have hE : fhf bs = [.int .i64 (bs.getD 0 0 % 16 : Nat), .int .i64 (bs.getD 1 0 : Nat), .int .i64 (fhw bs 2 : Nat), .int .i64 (fhw bs 4 : Nat), .int .i64 (bs.getD 6 0 / 32 : Nat), .int .i64 (fhw bs 6 % 8192 : Nat), .int .i64 (bs.getD 8 0 : Nat), .int .i64 (bs.getD 9 0 : Nat), .int .i64 (fhw bs 10 : Nat),
    .int .u8 (bs.getD 12 0 : Nat), .int .u8 (bs.getD 13 0 : Nat), .int .u8 (bs.getD 14 0 : Nat), .int .u8 (bs.getD 15 0 : Nat), .int .u8 (bs.getD 16 0 : Nat), .int .u8 (bs.getD 17 0 : Nat), .int .u8 (bs.getD 18 0 : Nat), .int .u8 (bs.getD 19 0 : Nat)] := rfl
  have y2 := fhw_lt hby 2
  have y4 := fhw_lt hby 4
  have y6 := fhw_lt hby 6
  have y10 := fhw_lt hby 10
  have b0 := hby 0
  have b1 := hby 1
  have b6 := hby 6
  have b8 := hby 8
  have b9 := hby 9
  have HSW : Hid (∀ W, Below w.heap.size w W → W.cell? ⟨b, o, none⟩ = some (.int .u8 (bs.getD 0 0 : Nat)) ∧ W.cell? ⟨b, o + 1, none⟩ = some (.int .u8 (bs.getD 1 0 : Nat)) ∧ W.cell? ⟨b, o + 6, none⟩ = some (.int .u8 (bs.getD 6 0 : Nat)) ∧ W.cell? ⟨b, o + 8, none⟩ = some (.int .u8 (bs.getD 8 0 : Nat)) ∧ W.cell? ⟨b, o + 9, none⟩ = some (.int .u8 (bs.getD 9 0 : Nat)) ∧ W.cell? ⟨b, o + 12, none⟩ = some (.int .u8 (bs.getD 12 0 : Nat)) ∧ W.cell? ⟨b, o + 13, none⟩ = some (.int .u8 (bs.getD 13 0 : Nat)) ∧ W.cell? ⟨b, o + 14, none⟩ = some (.int .u8 (bs.getD 14 0 : Nat)) ∧ W.cell? ⟨b, o + 15, none⟩ = some (.int .u8 (bs.getD 15 0 : Nat)) ∧ W.cell? ⟨b, o + 16, none⟩ = some (.int .u8 (bs.getD 16 0 : Nat)) ∧ W.cell? ⟨b, o + 17, none⟩ = some (.int .u8 (bs.getD 17 0 : Nat)) ∧ W.cell? ⟨b, o + 18, none⟩ = some (.int .u8 (bs.getD 18 0 : Nat)) ∧ W.cell? ⟨b, o + 19, none⟩ = some (.int .u8 (bs.getD 19 0 : Nat)) ∧ Row W (some ⟨b, o, none⟩) n bs) := fun W hW => by
    have k : ∀ i, i < 20 → W.cell? ⟨b, o + i, none⟩ = some (.int .u8 (bs.getD i 0 : Nat)) := fun i hi => (hW.cell (p := ⟨b, o + i, none⟩) hb).trans (hcell i (by omega))
    exact ⟨k 0 (by decide), k 1 (by decide), k 6 (by decide), k 8 (by decide), k 9 (by decide), k 12 (by decide), k 13 (by decide), k 14 (by decide), k 15 (by decide), k 16 (by decide), k 17 (by decide), k 18 (by decide), k 19 (by decide), hR.below hW⟩
  have c0 := hcl 0 (by decide)
  have c1 := hcl 1 (by decide)
  have c6 := hcl 6 (by decide)
  have c8 := hcl 8 (by decide)
  have c9 := hcl 9 (by decide)
  have c12 := hcl 12 (by decide)
  have c13 := hcl 13 (by decide)
  have c14 := hcl 14 (by decide)
  have c15 := hcl 15 (by decide)
  have c16 := hcl 16 (by decide)
  have c17 := hcl 17 (by decide)
  have c18 := hcl 18 (by decide)
  have c19 := hcl 19 (by decide)
  simp only [Nat.add_zero] at c0
  have F : Hid (∀ k, fhf bs = k → True) := fun _ _ => trivial
  obtain ⟨X, hX⟩ : ∃ X, X = fhf bs := ⟨_, rfl⟩
  rw [← hX] at hE ⊢
  generalize bs.getD 0 0 = x0 at *
  generalize bs.getD 1 0 = x1 at *
  generalize bs.getD 6 0 = x6 at *
  generalize bs.getD 8 0 = x8 at *
  generalize bs.getD 9 0 = x9 at *
  generalize bs.getD 12 0 = x12 at *
  generalize bs.getD 13 0 = x13 at *
  generalize bs.getD 14 0 = x14 at *
  generalize bs.getD 15 0 = x15 at *
  generalize bs.getD 16 0 = x16 at *
  generalize bs.getD 17 0 = x17 at *
  generalize bs.getD 18 0 = x18 at *
  generalize bs.getD 19 0 = x19 at *
  generalize fhw bs 2 = v2 at *
  generalize fhw bs 4 = v4 at *
  generalize fhw bs 6 = v6 at *
  generalize fhw bs 10 = v10 at *
  have q1 : bits .and .u8 (x0 : Int) 15 = ((x0 % 16 : Nat) : Int) := by
    have := u8_and_nat x0 15 (by omega) (by decide)
    rw [nat_mask4] at this
    exact this
  have q2 : bits .and .i64 (v6 : Int) 8191 = ((v6 % 8192 : Nat) : Int) := i64_and13 v6 y6
  obtain ⟨y0, hy0⟩ : ∃ y, y = x0 % 16 := ⟨_, rfl⟩
  obtain ⟨d6, hd6⟩ : ∃ y, y = x6 / 32 := ⟨_, rfl⟩
  obtain ⟨o6, ho6⟩ : ∃ y, y = v6 % 8192 := ⟨_, rfl⟩
  rw [← hy0] at q1 hE
  rw [← hd6] at hE
  rw [← ho6] at q2 hE
  have e6 : (x6 : Int) / 32 = (d6 : Int) := by omega
  have ly0 : y0 < 16 := by omega
  have ld6 : d6 < 8 := by omega
  have lo6 : o6 < 8192 := by omega
  have hlit : (#[.int .i64 (y0 : Nat), .int .i64 (x1 : Nat), .int .i64 (v2 : Nat), .int .i64 (v4 : Nat), .int .i64 (d6 : Nat), .int .i64 (o6 : Nat), .int .i64 (x8 : Nat), .int .i64 (x9 : Nat), .int .i64 (v10 : Nat), .int .u8 (x12 : Nat), .int .u8 (x13 : Nat), .int .u8 (x14 : Nat), .int .u8 (x15 : Nat), .int .u8 (x16 : Nat), .int .u8 (x17 : Nat), .int .u8 (x18 : Nat), .int .u8 (x19 : Nat)] : Array Value) = X.toArray := by rw [hE]
  have hone : ∀ v ∈ X, v.oneCell' = true := by
    rw [hE]
    simp [Value.oneCell']
  clear hy0 hd6 ho6
  have n20 : (20 : Int) ≤ (n : Int) := by omega
  have c20 : (20 : Int) ≤ (c : Int) := by omega
  have hXl : X.length = 17 := by rw [hE]; rfl
  have HE := Lib.hid hE
  clear hX hE hcl hcell hR hR2 hby F
  go_enter Tryz.func56, Tryz.ntmps56
  go_upto_region 1 with fail
  rw [← e0]
  clear e0
  have hst := (HA.out.drew).stAll X (by rw [hXl]; rfl) hone
  have hthere := (HA.out.drew).there
  have hT17 : fhz.length = 17 := rfl
  rw [hT17] at hthere
  have hi17 : (Tryz.prog.info? 63).map (·.size) = some X.length := by rw [hXl]; exact tyfour.size
  have ha12 := fun w => array_at w b (o + 12) (c - 12)
  have ha16 := fun w => array_at w b (o + 16) (c - 16)
  have HRd : Hid (Row V.drew (some ⟨b, o, none⟩) n bs) := HR.out
  have HB3 : Below w.heap.size w (V.drew.setCells w.heap.size 0 X) := setCells_below _ (Nat.le_refl _) _ _ _ HB.out.drew
  have hload := HSW.out V.drew HB.out.drew
  have hload2 := Lib.hid (HSW.out _ HB3)
  have HB3 := Lib.hid HB3
  clear HSW
  obtain ⟨d0, d1, d2, d3, d4, d5, d7, d8, d9, d10, d11, d12, d13, d14⟩ := hload
  clear hload2 hthere c0 c1 c6 c8 c9 c12 c13 c14 c15 c16 c17 c18 c19
  have n0 : 0 < n := by omega
  have n1 : 1 < n := by omega
  have n6 : 6 < n := by omega
  have n8 : 8 < n := by omega
  have n9 : 9 < n := by omega
  have m12 : 12 ≤ c := by omega
  have m16 : 16 ≤ c := by omega
  have m20 : 20 ≤ c := by omega
  have i1 : (1 : Int) < (n : Int) := by omega
  have i6 : (6 : Int) < (n : Int) := by omega
  have i8 : (8 : Int) < (n : Int) := by omega
  have i9 : (9 : Int) < (n : Int) := by omega
  have j16 : (16 : Int) ≤ (c : Int) := by omega
  have k12 : ¬ (c = 12) := by omega
  have k16 : ¬ (c = 16) := by omega
  have u0 : IntKind.i64.wrap (y0 : Int) = (y0 : Int) := IntWalk.i64_in _ (by omega)
  have u1 : IntKind.i64.wrap (x1 : Int) = (x1 : Int) := IntWalk.i64_in _ (by omega)
  have u2 : IntKind.i64.wrap (d6 : Int) = (d6 : Int) := IntWalk.i64_in _ (by omega)
  have u3 : IntKind.i64.wrap (x8 : Int) = (x8 : Int) := IntWalk.i64_in _ (by omega)
  have u4 : IntKind.i64.wrap (x9 : Int) = (x9 : Int) := IntWalk.i64_in _ (by omega)
  refine wp_region_still_tail 40 (by kernel_rfl) (by kernel_rfl) ?_
  simp only [List.take_succ_cons, List.take_zero, List.drop_succ_cons, List.drop_zero]
  repeat still_step
  still_call ((W2.out _ HRd.out).mono fun _ _ h => ⟨h.1, h.2.symm⟩)
  repeat still_step
  still_call ((W4.out _ HRd.out).mono fun _ _ h => ⟨h.1, h.2.symm⟩)
  repeat still_step
  still_call ((W6.out _ HRd.out).mono fun _ _ h => ⟨h.1, h.2.symm⟩)
  repeat still_step
  still_call ((W10.out _ HRd.out).mono fun _ _ h => ⟨h.1, h.2.symm⟩)
  repeat still_step
  refine wpStill_nil ?_
  change wpList _ _ _ _ _ V.drew
  go_wp2_with fail
  exact bodyPost_ret (v := .agg X.toArray) (res_cell Tryz.results56 rfl (((HA.out.drew).store X (by rw [hXl]; rfl)).loadVar tyfour hXl)) rfl ⟨rfl, HB3.out⟩
end Go.Proofs.YtmchclpkjjmocaaGreat

namespace Go.Proofs.YtmchclpkjjmocaaGreat
open Go.RowKit
set_option linter.unusedVariables false

/-- What Read tells: the fields, and what is wrong. -/
def fhdef (n : Nat) (bs : List Nat) : Nat :=
  if n = 0 then 1 else if bs.getD 0 0 / 16 ≠ 4 then 2 else if n < 20 then 3 else if bs.getD 0 0 % 16 < 5 then 4 else if n < 4 * (bs.getD 0 0 % 16) then 5 else 0
def fhval (n : Nat) (bs : List Nat) : List Value := if fhdef n bs = 0 then fhf bs else fhz
theorem fhz_one : ∀ v ∈ fhz, v.oneCell' = true := by
  intro v hv
  simp [fhz] at hv
  rcases hv with rfl | rfl <;> rfl
theorem fhf_len (bs : List Nat) : (fhf bs).length = 17 := rfl
theorem fhf_one (bs : List Nat) : ∀ v ∈ fhf bs, v.oneCell' = true := by
  unfold fhf
  simp [Value.oneCell']
def ReadIs (n : Nat) (bs : List Nat) (w : World) (e : Ending) (w' : World) : Prop := e = .returned (.tuple #[.agg (fhval n bs).toArray, .int .i64 (fhdef n bs : Nat)]) ∧ Below w.heap.size w w'
set_option maxRecDepth 10000 in
set_option maxHeartbeats 6400000 in
theorem fhread_any (A : Option Addr) (n c : Nat) (bs : List Nat) (w : World) (hn2 : n ≤ 140737488355328) (hc : n ≤ c) (hR : Row w A n bs) :
    Calls Tryz.prog 37 #[.slice A n c] w (ReadIs n bs w) := by
  obtain ⟨Z, hZ⟩ : ∃ Z, Z = fhz := ⟨_, rfl⟩
  obtain ⟨V, e0⟩ : ∃ V, V = w.alloc (.cells Z.toArray 63) := ⟨_, rfl⟩
  have hZl : Z.length = 17 := by rw [hZ]; rfl
  have hZo : ∀ v ∈ Z, v.oneCell' = true := by rw [hZ]; exact fhz_one
  have hlit : (#[.int .i64 0, .int .i64 0, .int .i64 0, .int .i64 0, .int .i64 0, .int .i64 0, .int .i64 0, .int .i64 0, .int .i64 0, .int .u8 0, .int .u8 0, .int .u8 0, .int .u8 0, .int .u8 0, .int .u8 0, .int .u8 0, .int .u8 0] : Array Value) = Z.toArray := by rw [hZ]; rfl
  have HA : Hid (ArrV 63 V w.heap.size Z) := by show ArrV _ _ _ _; rw [e0]; exact ArrV.new _ w Z
  have HB : Hid (Below w.heap.size w V) := by show Below _ _ _; rw [e0]; exact (Below.refl _ _).alloc (Nat.le_refl _) _
  have HE0 := Lib.hid e0
  have HST : Hid (Below w.heap.size w (V.setCells w.heap.size 0 Z)) := setCells_below _ (Nat.le_refl _) _ _ _ HB.out
  have HLD := Lib.hid ((HA.out.store Z rfl).loadVar tyfour hZl)
  by_cases h0 : n = 0
  · have HF : Hid (fhval n bs = Z ∧ fhdef n bs = 1) := by
      have e : fhdef n bs = 1 := by unfold fhdef; rw [if_pos h0]
      exact ⟨by unfold fhval; rw [e, if_neg (by decide), hZ], e⟩
    subst h0
    clear hZ hR hn2 hc
    go_enter Tryz.func37, Tryz.ntmps37
    go_upto_region 1 with fail
    rw [← HE0.out]
    clear e0
    go_wp2_with (first | refine wpList_store_v rfl 63 (.tmp 2) (.tmp 8) rfl _ rfl tyfour HA.out hZl Z hZl hZo rfl ?_ | refine wpList_store_v rfl 63 (.tmp 2) (.tmp 15) rfl _ rfl tyfour HA.out hZl Z hZl hZo rfl ?_ | refine wpList_store_v rfl 63 (.tmp 2) (.tmp 20) rfl _ rfl tyfour HA.out hZl Z hZl hZo rfl ?_ | refine wpList_store_v rfl 63 (.tmp 2) (.tmp 27) rfl _ rfl tyfour HA.out hZl Z hZl hZo rfl ?_ | refine wpList_store_v rfl 63 (.tmp 2) (.tmp 34) rfl _ rfl tyfour HA.out hZl Z hZl hZo rfl ?_ | fail)
    exact bodyPost_ret (v := .tuple #[.agg Z.toArray, .int .i64 1]) (res_cell_tmp Tryz.results37 rfl HLD.out rfl) rfl ⟨by rw [HF.out.1, HF.out.2]; rfl, HST.out⟩
  have hRV := hR.below HB.out
  obtain ⟨b, o, rfl, hb, hcell⟩ := hRV.addr (by omega)
  have c0 := hcell 0 (by omega)
  simp only [Nat.add_zero] at c0
  have hx := hR.byte 0
  have HRV := Lib.hid hRV
  have HCF := Lib.hid (fun h20 => fhfields_any (some ⟨b, o, none⟩) n c bs V h20 hn2 hc HRV.out)
  have HSZ := Lib.hid (fun h1 => fhsize_any (some ⟨b, o, none⟩) n c bs V h1 hn2 HRV.out)
  have hFH : Hid (fhval n bs = if fhdef n bs = 0 then fhf bs else fhz) := rfl
  have HD : Hid (fhdef n bs = if n = 0 then 1 else if bs.getD 0 0 / 16 ≠ 4 then 2 else if n < 20 then 3 else if bs.getD 0 0 % 16 < 5 then 4 else if n < 4 * (bs.getD 0 0 % 16) then 5 else 0) := rfl
  generalize bs.getD 0 0 = x at *
  have q1 : bits .and .u8 (x : Int) 15 = ((x % 16 : Nat) : Int) := by
    have := u8_and_nat x 15 (by omega) (by decide)
    rw [nat_mask4] at this
    exact this
  obtain ⟨y, hy⟩ : ∃ y, y = x % 16 := ⟨_, rfl⟩
  obtain ⟨v, hv⟩ : ∃ v, v = x / 16 := ⟨_, rfl⟩
  rw [← hy] at q1 HD HSZ
  rw [← hv] at HD
  have e16 : (x : Int) / 16 = (v : Int) := by omega
  have n0 : (0 : Int) < (n : Int) := by omega
  have n0b : ((n : Int) == 0) = false := by simp; omega
  have yl : y < 16 := by omega
  have NE := Lib.hid h0
  clear hy hv hcell hRV hR hb h0
  by_cases h4 : v ≠ 4
  · have HF : Hid (fhval n bs = Z ∧ fhdef n bs = 2) := by
      have e : fhdef n bs = 2 := by rw [HD.out]; rw [if_neg NE.out, if_pos h4]
      exact ⟨by rw [hFH.out, e, if_neg (by decide), hZ], e⟩
    have vb : ((v : Int) == 4) = false := by simp; omega
    clear hZ h4 HD hFH hx hn2 hc
    go_enter Tryz.func37, Tryz.ntmps37
    go_upto_region 1 with fail
    rw [← HE0.out]
    clear e0
    go_wp2_with (first | refine wpList_store_v rfl 63 (.tmp 2) (.tmp 8) rfl _ rfl tyfour HA.out hZl Z hZl hZo rfl ?_ | refine wpList_store_v rfl 63 (.tmp 2) (.tmp 15) rfl _ rfl tyfour HA.out hZl Z hZl hZo rfl ?_ | refine wpList_store_v rfl 63 (.tmp 2) (.tmp 20) rfl _ rfl tyfour HA.out hZl Z hZl hZo rfl ?_ | refine wpList_store_v rfl 63 (.tmp 2) (.tmp 27) rfl _ rfl tyfour HA.out hZl Z hZl hZo rfl ?_ | refine wpList_store_v rfl 63 (.tmp 2) (.tmp 34) rfl _ rfl tyfour HA.out hZl Z hZl hZo rfl ?_ | fail)
    exact bodyPost_ret (v := .tuple #[.agg Z.toArray, .int .i64 2]) (res_cell_tmp Tryz.results37 rfl HLD.out rfl) rfl ⟨by rw [HF.out.1, HF.out.2]; rfl, HST.out⟩
  have h4e : v = 4 := by omega
  have vb : ((v : Int) == 4) = true := by simp; omega
  by_cases h20 : n < 20
  · have HF : Hid (fhval n bs = Z ∧ fhdef n bs = 3) := by
      have e : fhdef n bs = 3 := by rw [HD.out]; rw [if_neg NE.out, if_neg h4, if_pos h20]
      exact ⟨by rw [hFH.out, e, if_neg (by decide), hZ], e⟩
    have nI : (n : Int) < 20 := by omega
    clear hZ h4 h4e HD hFH hx hn2 hc h20
    go_enter Tryz.func37, Tryz.ntmps37
    go_upto_region 1 with fail
    rw [← HE0.out]
    clear e0
    go_wp2_with (first | refine wpList_store_v rfl 63 (.tmp 2) (.tmp 8) rfl _ rfl tyfour HA.out hZl Z hZl hZo rfl ?_ | refine wpList_store_v rfl 63 (.tmp 2) (.tmp 15) rfl _ rfl tyfour HA.out hZl Z hZl hZo rfl ?_ | refine wpList_store_v rfl 63 (.tmp 2) (.tmp 20) rfl _ rfl tyfour HA.out hZl Z hZl hZo rfl ?_ | refine wpList_store_v rfl 63 (.tmp 2) (.tmp 27) rfl _ rfl tyfour HA.out hZl Z hZl hZo rfl ?_ | refine wpList_store_v rfl 63 (.tmp 2) (.tmp 34) rfl _ rfl tyfour HA.out hZl Z hZl hZo rfl ?_ | fail)
    exact bodyPost_ret (v := .tuple #[.agg Z.toArray, .int .i64 3]) (res_cell_tmp Tryz.results37 rfl HLD.out rfl) rfl ⟨by rw [HF.out.1, HF.out.2]; rfl, HST.out⟩
  have nI : (20 : Int) ≤ (n : Int) := by omega
  by_cases h5 : y < 5
  · have HF : Hid (fhval n bs = Z ∧ fhdef n bs = 4) := by
      have e : fhdef n bs = 4 := by rw [HD.out]; rw [if_neg NE.out, if_neg h4, if_neg h20, if_pos h5]
      exact ⟨by rw [hFH.out, e, if_neg (by decide), hZ], e⟩
    have yI : (y : Int) < 5 := by omega
    clear hZ h4 h4e HD hFH hx hn2 hc h20 h5
    go_enter Tryz.func37, Tryz.ntmps37
    go_upto_region 1 with fail
    rw [← HE0.out]
    clear e0
    go_wp2_with (first | refine wpList_store_v rfl 63 (.tmp 2) (.tmp 8) rfl _ rfl tyfour HA.out hZl Z hZl hZo rfl ?_ | refine wpList_store_v rfl 63 (.tmp 2) (.tmp 15) rfl _ rfl tyfour HA.out hZl Z hZl hZo rfl ?_ | refine wpList_store_v rfl 63 (.tmp 2) (.tmp 20) rfl _ rfl tyfour HA.out hZl Z hZl hZo rfl ?_ | refine wpList_store_v rfl 63 (.tmp 2) (.tmp 27) rfl _ rfl tyfour HA.out hZl Z hZl hZo rfl ?_ | refine wpList_store_v rfl 63 (.tmp 2) (.tmp 34) rfl _ rfl tyfour HA.out hZl Z hZl hZo rfl ?_ | fail)
    exact bodyPost_ret (v := .tuple #[.agg Z.toArray, .int .i64 4]) (res_cell_tmp Tryz.results37 rfl HLD.out rfl) rfl ⟨by rw [HF.out.1, HF.out.2]; rfl, HST.out⟩
  have yI : (5 : Int) ≤ (y : Int) := by omega
  have CS : Hid (∀ w, w = V → Calls Tryz.prog 39 #[.slice (some ⟨b, o, none⟩) n c] w fun e w' => e = .returned (.int .i64 (4 * y : Nat)) ∧ w = w') := fun w h => by rw [h]; exact HSZ.out (by omega)
  by_cases h6 : n < 4 * y
  · have HF : Hid (fhval n bs = Z ∧ fhdef n bs = 5) := by
      have e : fhdef n bs = 5 := by rw [HD.out]; rw [if_neg NE.out, if_neg h4, if_neg h20, if_neg h5, if_pos h6]
      exact ⟨by rw [hFH.out, e, if_neg (by decide), hZ], e⟩
    obtain ⟨m, hm⟩ : ∃ m, m = 4 * y := ⟨_, rfl⟩
    rw [← hm] at CS h6
    have mI : (n : Int) < (m : Int) := by omega
    clear hZ h4 h4e HD hFH hx hn2 hc h20 h5 h6 hm
    go_enter Tryz.func37, Tryz.ntmps37
    go_upto_region 1 with fail
    rw [← HE0.out]
    clear e0
    go_wp2_with fail
    refine (CS.out _ rfl).mono ?_
    rintro e w' ⟨rfl, rfl⟩
    go_wp2_with (first | refine wpList_store_v rfl 63 (.tmp 2) (.tmp 8) rfl _ rfl tyfour HA.out hZl Z hZl hZo rfl ?_ | refine wpList_store_v rfl 63 (.tmp 2) (.tmp 15) rfl _ rfl tyfour HA.out hZl Z hZl hZo rfl ?_ | refine wpList_store_v rfl 63 (.tmp 2) (.tmp 20) rfl _ rfl tyfour HA.out hZl Z hZl hZo rfl ?_ | refine wpList_store_v rfl 63 (.tmp 2) (.tmp 27) rfl _ rfl tyfour HA.out hZl Z hZl hZo rfl ?_ | refine wpList_store_v rfl 63 (.tmp 2) (.tmp 34) rfl _ rfl tyfour HA.out hZl Z hZl hZo rfl ?_ | fail)
    exact bodyPost_ret (v := .tuple #[.agg Z.toArray, .int .i64 5]) (res_cell_tmp Tryz.results37 rfl HLD.out rfl) rfl ⟨by rw [HF.out.1, HF.out.2]; rfl, HST.out⟩
  have CF := Lib.hid (HCF.out (by omega))
  have HF : Hid (fhval n bs = fhf bs ∧ fhdef n bs = 0) := by
    have e : fhdef n bs = 0 := by rw [HD.out, if_neg NE.out, if_neg h4, if_neg h20, if_neg h5, if_neg h6]
    exact ⟨by rw [hFH.out, e, if_pos rfl], e⟩
  obtain ⟨X, hX⟩ : ∃ X, X = fhf bs := ⟨_, rfl⟩
  have hXl : X.length = 17 := by rw [hX]; rfl
  have hXo : ∀ v ∈ X, v.oneCell' = true := by rw [hX]; exact fhf_one bs
  rw [← hX] at CF HF
  obtain ⟨m, hm⟩ : ∃ m, m = 4 * y := ⟨_, rfl⟩
  rw [← hm] at CS h6
  have mI : (m : Int) ≤ (n : Int) := by omega
  clear hZ h4 h4e HD hFH hx hn2 hc h20 h5 h6 hm hX
  go_enter Tryz.func37, Tryz.ntmps37
  go_upto_region 1 with fail
  rw [← HE0.out]
  clear e0
  go_wp2_with fail
  refine (CS.out _ rfl).mono ?_
  rintro e w' ⟨rfl, rfl⟩
  go_wp2_with fail
  refine CF.out.mono ?_
  rintro e w2 ⟨rfl, b2⟩
  have HA2 := Lib.hid (HA.out.below b2)
  have HB2 := Lib.hid (below_both HB.out b2)
  clear b2
  go_wp2_with (refine wpList_store_v rfl 63 (.tmp 2) (.tmp 36) rfl _ rfl tyfour HA2.out hZl X hXl hXo rfl ?_)
  exact bodyPost_ret (v := .tuple #[.agg X.toArray, .int .i64 0]) (res_cell_tmp Tryz.results37 rfl ((HA2.out.store X (by rw [hXl, hZl])).loadVar tyfour hXl) rfl) rfl ⟨by rw [HF.out.1, HF.out.2]; rfl, setCells_below _ (Nat.le_refl _) _ _ _ HB2.out⟩
end Go.Proofs.YtmchclpkjjmocaaGreat

namespace Go.Proofs.YtmchclpkjjmocaaGreat
open Go.RowKit
set_option linter.unusedVariables false

theorem fhval_len (n : Nat) (bs : List Nat) : (fhval n bs).length = 17 := by
  unfold fhval
  split <;> rfl
theorem fhval_one (n : Nat) (bs : List Nat) : ∀ v ∈ fhval n bs, v.oneCell' = true := by
  unfold fhval
  split
  · exact fhf_one bs
  · exact fhz_one
/-- The fields are stored into a new variable. -/
theorem four_stored (W : World) (X : List Value) (hX : X.length = 17) (hX1 : ∀ v ∈ X, v.oneCell' = true) :
    (storeCells ⟨W.heap.size, 0, none⟩ X).run Tryz.prog (W.alloc (.cells #[.int .i64 0, .int .i64 0, .int .i64 0, .int .i64 0, .int .i64 0, .int .i64 0, .int .i64 0, .int .i64 0, .int .i64 0, .int .u8 0, .int .u8 0, .int .u8 0, .int .u8 0, .int .u8 0, .int .u8 0, .int .u8 0, .int .u8 0] 63)) = .ok () ((W.alloc (.cells #[.int .i64 0, .int .i64 0, .int .i64 0, .int .i64 0, .int .i64 0, .int .i64 0, .int .i64 0, .int .i64 0, .int .i64 0, .int .u8 0, .int .u8 0, .int .u8 0, .int .u8 0, .int .u8 0, .int .u8 0, .int .u8 0, .int .u8 0] 63)).setCells W.heap.size 0 X) ∧
    ArrV 63 ((W.alloc (.cells #[.int .i64 0, .int .i64 0, .int .i64 0, .int .i64 0, .int .i64 0, .int .i64 0, .int .i64 0, .int .i64 0, .int .i64 0, .int .u8 0, .int .u8 0, .int .u8 0, .int .u8 0, .int .u8 0, .int .u8 0, .int .u8 0, .int .u8 0] 63)).setCells W.heap.size 0 X) W.heap.size X ∧ Below W.heap.size W ((W.alloc (.cells #[.int .i64 0, .int .i64 0, .int .i64 0, .int .i64 0, .int .i64 0, .int .i64 0, .int .i64 0, .int .i64 0, .int .i64 0, .int .u8 0, .int .u8 0, .int .u8 0, .int .u8 0, .int .u8 0, .int .u8 0, .int .u8 0, .int .u8 0] 63)).setCells W.heap.size 0 X) := by
  have h : ArrV 63 (W.alloc (.cells #[.int .i64 0, .int .i64 0, .int .i64 0, .int .i64 0, .int .i64 0, .int .i64 0, .int .i64 0, .int .i64 0, .int .i64 0, .int .u8 0, .int .u8 0, .int .u8 0, .int .u8 0, .int .u8 0, .int .u8 0, .int .u8 0, .int .u8 0] 63)) W.heap.size fhz := ArrV.new _ W fhz
  exact ⟨h.stAll _ (by rw [hX]; rfl) hX1, h.store _ (by rw [hX]; rfl), setCells_below _ (Nat.le_refl _) _ _ _ ((Below.refl _ _).alloc (Nat.le_refl _) _)⟩
set_option maxRecDepth 10000 in
set_option maxHeartbeats 3200000 in
theorem fhall_bad (A : Option Addr) (n c : Nat) (bs : List Nat) (w : World) (hn2 : n ≤ 140737488355328) (hc : n ≤ c) (hR : Row w A n bs) (hd : fhdef n bs ≠ 0) :
    Calls Tryz.prog 89 #[.slice A n c] w fun e w' => ∃ g, e = .returned (.slice (some ⟨g, 0, none⟩) 1 1) ∧ w'.cell? ⟨g, 0, none⟩ = some (.int .i64 (fhdef n bs : Nat)) ∧ Below w.heap.size w w' := by
  have C := Lib.hid (fhread_any A n c bs w hn2 hc hR)
  unfold ReadIs at C
  obtain ⟨X, hX⟩ : ∃ X, X = fhval n bs := ⟨_, rfl⟩
  have hXl : X.length = 17 := by rw [hX]; exact fhval_len n bs
  have hXo : ∀ v ∈ X, v.oneCell' = true := by rw [hX]; exact fhval_one n bs
  rw [← hX] at C
  obtain ⟨d, hdd⟩ : ∃ d, d = fhdef n bs := ⟨_, rfl⟩
  rw [← hdd] at C hd ⊢
  have d0 : ((d : Int) == 0) = false := by simp; omega
  clear hX hdd hR hn2 hc hd
  go_enter Tryz.func89, Tryz.ntmps89
  go_wp2_with fail
  refine C.out.mono ?_
  rintro e w1 ⟨rfl, b1⟩
  obtain ⟨hst, hA, hb⟩ := four_stored w1 X hXl hXo
  have B1 := Lib.hid (below_both b1 hb)
  clear b1 hA hb
  go_upto_region 2 with fail
  clear hst
  obtain ⟨W, eW⟩ : ∃ W, W = (w1.alloc (.cells #[.int .i64 0, .int .i64 0, .int .i64 0, .int .i64 0, .int .i64 0, .int .i64 0, .int .i64 0, .int .i64 0, .int .i64 0, .int .u8 0, .int .u8 0, .int .u8 0, .int .u8 0, .int .u8 0, .int .u8 0, .int .u8 0, .int .u8 0] 63)).setCells w1.heap.size 0 X := ⟨_, rfl⟩
  rw [← eW] at B1 ⊢
  clear eW
  have hN := new_cell W (.int .i64 (d : Nat)) 24 W.heap.size rfl
  go_wp2_with fail
  go_ret
  exact ⟨_, rfl, hN, B1.out.alloc B1.out.size _⟩
end Go.Proofs.YtmchclpkjjmocaaGreat
