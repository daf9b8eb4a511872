/-
  Contracts of span's port, Check, All, Has for the span of all ports; of ports' putWord and Write.
-/
import Derived.Test.YtjpaicdbnadoeaaPo1
import Derived.Test.YtjpaicdbnadoeaaApp
import Derived.Test.YtjpaicdbnadoeaaOct7
namespace Go.Proofs.Ytjpaicdbnadoeaa
open Go.RowKit
set_option linter.unusedVariables false

def spPort (n : Int) : Bool := decide (0 ≤ n ∧ n ≤ 65535)
theorem spport_any (n : Int) (w : World) :
    Calls Try.prog 118 #[.int .i64 n] w fun e w' => e = .returned (.bool (spPort n)) ∧ w = w' := by
  by_cases h1 : 0 ≤ n
  · by_cases h2 : n ≤ 65535
    · have hF : spPort n = true := decide_eq_true ⟨h1, h2⟩
      rw [hF]
      clear hF
      go_enter Try.func118, Try.ntmps118
      go_wp2_with fail
      go_ret
      exact ⟨rfl, rfl⟩
    · have hF : spPort n = false := decide_eq_false fun h => h2 h.2
      rw [hF]
      clear hF
      go_enter Try.func118, Try.ntmps118
      go_wp2_with fail
      go_ret
      exact ⟨rfl, rfl⟩
  · have hF : spPort n = false := decide_eq_false fun h => h1 h.1
    rw [hF]
    clear hF
    go_enter Try.func118, Try.ntmps118
    go_wp2_with fail
    go_ret
    exact ⟨rfl, rfl⟩
theorem tyspan : RowTy 124 2 := ⟨⟨_, Try.underlying124, rfl⟩, by kernel_rfl⟩
theorem spall_any (w : World) : Calls Try.prog 72 #[] w fun e w' => e = .returned (.agg #[.int .i64 0, .int .i64 65535]) ∧ Below w.heap.size w w' := by
  obtain ⟨V, eV⟩ : ∃ V, V = w.alloc (.cells #[.int .i64 0, .int .i64 0] 124) := ⟨_, rfl⟩
  have hA : ArrV 124 V w.heap.size [.int .i64 0, .int .i64 0] := by rw [eV]; exact ArrV.new _ w _
  have hB : Below w.heap.size w V := by rw [eV]; exact (Below.refl _ _).alloc (Nat.le_refl _) _
  have c0 := hA.get 0
  have c1 := hA.get 1
  have f0 := hA.frozen 0
  have f1 := hA.frozen 1
  simp at c0 c1
  have HA := Lib.hid hA
  have HB := Lib.hid hB
  clear hA hB
  go_enter Try.func72, Try.ntmps72
  go_upto_region 1 with fail
  rw [← eV]
  clear eV
  have hst := HA.out.store [.int .i64 0, .int .i64 65535] rfl
  have HST := Lib.hid hst
  have HB2 : Hid (Below w.heap.size w (V.setCells w.heap.size 0 [.int .i64 0, .int .i64 65535])) := setCells_below _ (Nat.le_refl _) _ _ _ HB.out
  clear hst
  go_wp2_with (first | refine wpList_store_v rfl 124 (.tmp 0) (.tmp 1) rfl _ rfl tyspan HA.out rfl [.int .i64 0, .int .i64 65535] rfl (by simp [Value.oneCell']) rfl ?_ | fail)
  exact bodyPost_ret (res_cell Try.results72 rfl (HST.out.loadVar tyspan rfl)) rfl ⟨rfl, HB2.out⟩
theorem spcheck_all (w : World) : Calls Try.prog 100 #[.agg #[.int .i64 0, .int .i64 65535]] w fun e w' => e = .returned (.int .i64 0) ∧ Below w.heap.size w w' := by
  have C0 : Hid (∀ w, Calls Try.prog 118 #[.int .i64 0] w fun e w' => e = .returned (.bool true) ∧ w = w') := fun w => spport_any 0 w
  have C1 : Hid (∀ w, Calls Try.prog 118 #[.int .i64 65535] w fun e w' => e = .returned (.bool true) ∧ w = w') := fun w => spport_any 65535 w
  go_enter Try.func100, Try.ntmps100
  go_upto_region 1 with fail
  obtain ⟨V, eV⟩ : ∃ V, V = w.alloc (.cells #[.int .i64 0, .int .i64 65535] 124) := ⟨_, rfl⟩
  have hA : ArrV 124 V w.heap.size [.int .i64 0, .int .i64 65535] := by rw [eV]; exact ArrV.new _ w _
  have HB : Hid (Below w.heap.size w V) := by show Below _ _ _; rw [eV]; exact (Below.refl _ _).alloc (Nat.le_refl _) _
  have c0 := hA.get 0
  have c1 := hA.get 1
  simp at c0 c1
  rw [← eV]
  clear eV hA
  go_wp2_with fail
  refine (C0.out _).mono ?_
  rintro e w' ⟨rfl, rfl⟩
  go_wp2_with fail
  refine (C1.out _).mono ?_
  rintro e w' ⟨rfl, rfl⟩
  go_wp2_with fail
  go_ret
  exact ⟨rfl, HB.out⟩
theorem sphas_all (n : Int) (w : World) : Calls Try.prog 71 #[.agg #[.int .i64 0, .int .i64 65535], .int .i64 n] w fun e w' => e = .returned (.bool (spPort n)) ∧ Below w.heap.size w w' := by
  have CC := Lib.hid spcheck_all
  go_enter Try.func71, Try.ntmps71
  go_upto_region 1 with fail
  obtain ⟨V, eV⟩ : ∃ V, V = w.alloc (.cells #[.int .i64 0, .int .i64 65535] 124) := ⟨_, rfl⟩
  have hA : ArrV 124 V w.heap.size [.int .i64 0, .int .i64 65535] := by rw [eV]; exact ArrV.new _ w _
  have HB : Hid (Below w.heap.size w V) := by show Below _ _ _; rw [eV]; exact (Below.refl _ _).alloc (Nat.le_refl _) _
  rw [← eV]
  have HA := Lib.hid hA
  clear eV hA
  go_wp2_with (first | refine wpList_load_v rfl 124 (.tmp 2) rfl _ rfl tyspan HA.out rfl ?_ | fail)
  refine (CC.out _).mono ?_
  rintro e w1 ⟨rfl, b1⟩
  have hA := HA.out.below b1
  have c0 := hA.get 0
  have c1 := hA.get 1
  simp at c0 c1
  have B1 := Lib.hid (below_both HB.out b1)
  clear b1 hA HA HB
  by_cases h1 : 0 ≤ n
  · by_cases h2 : n ≤ 65535
    · have hF : spPort n = true := decide_eq_true ⟨h1, h2⟩
      have HF := Lib.hid hF
      clear hF
      go_wp2_with fail
      go_ret
      exact ⟨by rw [HF.out]; rfl, B1.out⟩
    · have hF : spPort n = false := decide_eq_false fun h => h2 h.2
      have HF := Lib.hid hF
      clear hF
      go_wp2_with fail
      go_ret
      exact ⟨by rw [HF.out]; simp; omega, B1.out⟩
  · have hF : spPort n = false := decide_eq_false fun h => h1 h.1
    have HF := Lib.hid hF
    clear hF
    go_wp2_with fail
    go_ret
    exact ⟨by rw [HF.out]; rfl, B1.out⟩
/-- A number put into two bytes. -/
theorem poput_any {B : Nat} (g n c k : Nat) (bs : List Nat) (x : Nat) (w : World) (hl : bs.length = n) (hx : x ≤ 65535) (hk : k + 2 ≤ n) (hn : n ≤ 140737488355328) (ho : OutIs B w (.slice (some ⟨g, 0, none⟩) n c) bs) :
    Calls Try.prog 73 #[.slice (some ⟨g, 0, none⟩) n c, .int .i64 (k : Nat), .int .i64 (x : Nat)] w fun e w' => (∃ r, e = .returned r) ∧ w' = (w.setCell ⟨g, k, none⟩ (.int .u8 (x / 256 : Nat))).setCell ⟨g, k + 1, none⟩ (.int .u8 (x % 256 : Nat)) := by
  have c0 := ho.cell hl k (by omega)
  have f0 := ho.frozen hl k
  have h2 := ho.set hl k (x / 256)
  have c1 := h2.cell (by rw [List.length_set]; exact hl) (k + 1) (by omega)
  have f1 := h2.frozen (by rw [List.length_set]; exact hl) (k + 1)
  obtain ⟨y, hy⟩ : ∃ y, y = x / 256 := ⟨_, rfl⟩
  obtain ⟨z, hz⟩ : ∃ z, z = x % 256 := ⟨_, rfl⟩
  have y1 : (x : Int) / 256 = (y : Int) := by omega
  have y2 : y < 256 := by omega
  have z1 : (x : Int) % 256 = (z : Int) := by omega
  rw [← hy] at c1 f1 ⊢
  rw [← hz]
  have k1 : wrap64 ((k : Int) + 1) = ((k + 1 : Nat) : Int) := by unfold wrap64; omega
  have i1 : (k : Int) < (n : Int) := by omega
  have i2 : ((k + 1 : Nat) : Int) < (n : Int) := by omega
  clear h2 ho hy hz hl hk hn
  go_enter Try.func73, Try.ntmps73
  go_wp2_with fail
  go_end0
  exact ⟨⟨_, rfl⟩, rfl⟩
theorem poput_out {B : Nat} (g n c k : Nat) (bs : List Nat) (x : Nat) (w : World) (hl : bs.length = n) (hx : x ≤ 65535) (hk : k + 2 ≤ n) (hn : n ≤ 140737488355328) (hg : B ≤ g) (ho : OutIs B w (.slice (some ⟨g, 0, none⟩) n c) bs) :
    Calls Try.prog 73 #[.slice (some ⟨g, 0, none⟩) n c, .int .i64 (k : Nat), .int .i64 (x : Nat)] w fun e w' => (∃ r, e = .returned r) ∧ OutIs B w' (.slice (some ⟨g, 0, none⟩) n c) ((bs.set k (x / 256)).set (k + 1) (x % 256)) ∧ Below B w w' := by
  refine (poput_any g n c k bs x w hl hx hk hn ho).mono ?_
  rintro e w' ⟨hr, rfl⟩
  exact ⟨hr, (ho.set hl k (x / 256)).set (by rw [List.length_set]; exact hl) (k + 1) (x % 256), ((Below.refl _ _).setCell (p := ⟨g, k, none⟩) hg _).setCell (p := ⟨g, k + 1, none⟩) hg _⟩
end Go.Proofs.Ytjpaicdbnadoeaa
