/-
  A prefix is read as it was printed; both of one bit more (plain facts, for PrefixBack; nothing is claimed of the program here).
-/
import Derived.Test.YtaicmadeobglfaaDoorLive7
namespace Go.Proofs.YtaicmadeobglfaaDoor
open Go.RowKit Go.Lib
set_option linter.unusedVariables false

theorem onb_zero {m i : Nat} (h : m ≤ 8 * i) : onb m i = 0 := by
  unfold onb
  rw [show m - 8 * i = 0 from by omega]
  rfl
theorem keep_four {A : List Nat} {m : Nat} (h : m ≤ 32) : keepB A m = [(keepB A m).getD 0 0, (keepB A m).getD 1 0, (keepB A m).getD 2 0, (keepB A m).getD 3 0] ++ List.replicate 12 0 := by
  apply List.ext_getElem?
  intro i
  rcases Nat.lt_or_ge i 16 with hi | hi
  · rw [keepB_get A m i hi]
    rcases Nat.lt_or_ge i 4 with h4 | h4
    · match i, h4 with
      | 0, _ => rw [keepB_at A m 0 (by decide)]; rfl
      | 1, _ => rw [keepB_at A m 1 (by decide)]; rfl
      | 2, _ => rw [keepB_at A m 2 (by decide)]; rfl
      | 3, _ => rw [keepB_at A m 3 (by decide)]; rfl
    · rw [onb_zero (m := m) (i := i) (by omega), Nat.and_zero, List.getElem?_append_right (by simpa using h4), List.getElem?_replicate, if_pos (by simp; omega)]
  · rw [List.getElem?_eq_none (by rw [keepB_len]; exact hi), List.getElem?_eq_none (by simp; omega)]
/-- A prefix of so many bits, and what is known of it. -/
structure Pf (V : Int) (M m : Nat) (X : List Nat) : Prop where
  ver : V = 4 ∧ M = 32 ∨ V = 6 ∧ M = 128
  le : m ≤ M
  keep : keepB X m = X
theorem Pf.adr {V : Int} {M m : Nat} {X : List Nat} (h : Pf V M m X) : Adr X := h.keep ▸ keepB_adr m
theorem Pf.sz {V : Int} {M m : Nat} {X : List Nat} (h : Pf V M m X) : psz V = M := by rcases h.ver with ⟨rfl, rfl⟩ | ⟨rfl, rfl⟩ <;> rfl
theorem Pf.m128 {V : Int} {M m : Nat} {X : List Nat} (h : Pf V M m X) : M ≤ 128 := by rcases h.ver with ⟨_, rfl⟩ | ⟨_, rfl⟩ <;> decide
theorem Pf.fits {V : Int} {M m : Nat} {X : List Nat} (h : Pf V M m X) : pfits V (m : Nat) = 0 := by
  unfold pfits
  rw [h.sz]
  have := h.le
  rcases h.ver with ⟨rfl, rfl⟩ | ⟨rfl, rfl⟩
  · rw [if_neg (by decide), if_neg (by omega)]
  · rw [if_neg (by decide), if_neg (by omega)]
theorem Pf.check {V : Int} {M m : Nat} {X : List Nat} (h : Pf V M m X) : pcheck V X (m : Nat) = 0 := by
  unfold pcheck
  rw [if_neg (by rw [h.fits]; decide), Int.toNat_natCast, if_pos h.keep]
theorem Pf.has {V : Int} {M m : Nat} {X : List Nat} (h : Pf V M m X) (Y : List Nat) : phas V X (m : Nat) V Y = decide (keepB Y m = X) := by
  unfold phas
  rw [h.check, Int.toNat_natCast]
  simp
theorem Pf.zero {V : Int} {M : Nat} (h : V = 4 ∧ M = 32 ∨ V = 6 ∧ M = 128) : Pf V M 0 zero16 := ⟨h, Nat.zero_le _, keepB_zero _⟩
theorem Pf.last {V : Int} {M m : Nat} {X : List Nat} (h : Pf V M m X) : plast V X (m : Nat) = fillB X m M := by
  unfold plast
  rw [if_pos h.check, Int.toNat_natCast, h.sz, Int.toNat_natCast]
theorem str_list (a b : ByteArray) : (a ++ b).data.toList = a.data.toList ++ b.data.toList := by rw [ByteArray.data_append, Array.toList_append]
theorem Pf.parse {V : Int} {M m : Nat} {A : List Nat} (h : Pf V M m (keepB A m)) : pparse (pprint V (keepB A m) (m : Nat)).data.toList = (pcells V (keepB A m) (m : Nat), 0) := by
  have h128 := h.m128
  have hle := h.le
  have hm : m ≤ 999 := by omega
  have e0 : pprint V (keepB A m) (m : Nat) = paddr V (keepB A m) ++ ⟨#[47]⟩ ++ ⟨(Lib.decDigits m).toArray⟩ := by unfold pprint; rw [if_pos h.check]; rfl
  have e1 : (pprint V (keepB A m) (m : Nat)).data.toList = (paddr V (keepB A m)).data.toList ++ 47 :: Lib.decDigits m := by
    rw [e0, str_list, str_list]
    show _ ++ [47] ++ Lib.decDigits m = _
    rw [List.append_assoc]
    rfl
  obtain ⟨X, hX⟩ : ∃ X, X = keepB A m := ⟨_, rfl⟩
  have hA : Adr X := hX ▸ keepB_adr m
  have key : (47 : UInt8) ∉ (paddr V X).data.toList ∧ wholeV (paddr V X).data.toList = some (V, X) := by
    rcases h.ver with ⟨rfl, rfl⟩ | ⟨rfl, rfl⟩
    · have p0 := hA.at 0
      have p1 := hA.at 1
      have p2 := hA.at 2
      have p3 := hA.at 3
      have e2 : (paddr 4 X).data.toList = dtext (X.getD 0 0) (X.getD 1 0) (X.getD 2 0) (X.getD 3 0) := by unfold paddr; rw [if_pos rfl]; unfold dstr; rfl
      rw [e2]
      refine ⟨dtext_noslash (by omega) (by omega) (by omega) (by omega), ?_⟩
      unfold wholeV
      rw [dparse_dtext (by omega) (by omega) (by omega) (by omega), if_pos rfl]
      have := keep_four (A := A) (m := m) hle
      rw [← hX] at this
      exact congrArg (fun z => some ((4 : Int), z)) this.symm
    · have e2 : (paddr 6 X).data.toList = colPrint (grps X) := by unfold paddr; rw [if_neg (by decide)]; unfold pstr6; rfl
      rw [e2]
      refine ⟨colPrint_noslash (grps_lt hA.lt), ?_⟩
      unfold wholeV
      rw [dparse_nodot (colPrint_nodot (grps_lt hA.lt)), if_neg (by decide), colParse_print (grps_lt hA.lt) (grps_length X)]
      show some ((6 : Int), addrB (grps X)) = _
      rw [addr_grps hA.len hA.lt]
  rw [← hX] at e1 ⊢
  rw [e1]
  have hc := slash_cut (q := Lib.decDigits m) key.1
  have hd := dec_byte m hm
  refine pparse_ok (V := V) (X := X) (n := m) ?_ ?_ ?_ ?_
  · rw [hc]; exact key.2
  · rw [hc]; rw [numOk_three]; exact hd.1
  · rw [hc]; exact hd.2
  · rw [hX]; exact h.check
theorem Pf.size {V : Int} {m : Nat} {X : List Nat} (hX : Adr X) (hm : m ≤ 999) : (pprint V X (m : Nat)).size < 4294967000 := by
  unfold pprint
  split
  · unfold ptext
    rw [Int.toNat_natCast, ByteArray.size_append, ByteArray.size_append]
    have h1 := paddr_size (V := V) hX
    have h2 := dec_size hm
    have h3 : (⟨(Lib.decDigits m).toArray⟩ : ByteArray).size = (Lib.decDigits m).length := mk_size _
    have h4 : (⟨#[47]⟩ : ByteArray).size = 1 := rfl
    omega
  · show 0 < 4294967000
    decide
/-- The higher half. -/
theorem Pf.low {V : Int} {M m : Nat} {X : List Nat} (h : Pf V M m X) (hlt : m < M) : Pf V M (m + 1) X := ⟨h.ver, hlt, keep_more (Nat.le_succ m) h.keep⟩
theorem Pf.high_bt {V : Int} {M m : Nat} {X : List Nat} (h : Pf V M m X) (hlt : m < M) : highB X m = setB X m := highB_is h.adr h.keep (by have := h.m128; omega)
theorem Pf.past {V : Int} {M m : Nat} {X : List Nat} (h : Pf V M m X) {i : Nat} (hi : m ≤ i) (h1 : i < 128) : bt X i = false := by
  rw [← h.keep, keepB_bt X m i h1]
  simp [Nat.not_lt.2 hi]
theorem Pf.high {V : Int} {M m : Nat} {X : List Nat} (h : Pf V M m X) (hlt : m < M) : Pf V M (m + 1) (highB X m) := by
  have h128 : m < 128 := by have := h.m128; omega
  refine ⟨h.ver, hlt, ?_⟩
  rw [h.high_bt hlt]
  refine (keepB_adr _).ext (setB_adr h.adr) fun i hi => ?_
  rw [keepB_bt _ _ i hi, setB_bt h.adr h128 hi]
  by_cases e : i < m + 1
  · simp [e]
  · have h2 := h.past (i := i) (by omega) hi
    have h3 : ¬ i = m := by omega
    simp [e, h2, h3]
theorem Pf.high_keep {V : Int} {M m : Nat} {X : List Nat} (h : Pf V M m X) (hlt : m < M) : keepB (highB X m) m = X := by
  have h128 : m < 128 := by have := h.m128; omega
  rw [h.high_bt hlt]
  refine (keepB_adr _).ext h.adr fun i hi => ?_
  rw [keepB_bt _ _ i hi, setB_bt h.adr h128 hi]
  by_cases e : i < m
  · have h3 : ¬ i = m := by omega
    simp [e, h3]
  · rw [h.past (Nat.not_lt.1 e) hi]; simp [e]
theorem Pf.apart {V : Int} {M m : Nat} {X : List Nat} (h : Pf V M m X) (hlt : m < M) : X ≠ highB X m := fun e => by
  have h128 : m < 128 := by have := h.m128; omega
  have h1 := congrArg (fun l => bt l m) e
  rw [h.high_bt hlt] at h1
  simp only [setB_bt h.adr h128 h128, h.past (Nat.le_refl m) h128] at h1
  simp at h1
theorem Pf.high_last {V : Int} {M m : Nat} {X : List Nat} (h : Pf V M m X) (hlt : m < M) : plast V (highB X m) ((m + 1 : Nat) : Int) = plast V X (m : Nat) := by
  have h128 : m < 128 := by have := h.m128; omega
  rw [(h.high hlt).last, h.last]
  refine (fillB_adr (h.high hlt).adr _ _).ext (fillB_adr h.adr _ _) fun i hi => ?_
  rw [fillB_bt _ _ _ i hi, fillB_bt _ _ _ i hi, h.high_bt hlt, setB_bt h.adr h128 hi]
  by_cases e : i = m
  · subst e; simp [hlt]
  · have h3 : decide (i < m + 1) = decide (i < m) := by congr 1; apply propext; omega
    simp [e, h3]
theorem Pf.within {V : Int} {M m k : Nat} {X Y : List Nat} (h : Pf V M m X) (g : Pf V M k Y) : pwithin V Y (k : Nat) V X (m : Nat) = (decide (m ≤ k) && decide (keepB Y m = X)) := by
  unfold pwithin
  rw [g.check, h.has]
  simp
/-- Which of both halves an address has. -/
theorem Pf.one_half {V : Int} {M m : Nat} {X : List Nat} (h : Pf V M m X) (hlt : m < M) (B : List Nat) :
    (phas V X (m : Nat) V B = true ∧ phas V X ((m + 1 : Nat) : Int) V B = true ∧ phas V (highB X m) ((m + 1 : Nat) : Int) V B = false) ∨
    (phas V X (m : Nat) V B = true ∧ phas V X ((m + 1 : Nat) : Int) V B = false ∧ phas V (highB X m) ((m + 1 : Nat) : Int) V B = true) ∨
    (phas V X (m : Nat) V B = false ∧ phas V X ((m + 1 : Nat) : Int) V B = false ∧ phas V (highB X m) ((m + 1 : Nat) : Int) V B = false) := by
  have h128 : m < 128 := by have := h.m128; omega
  rw [h.has, (h.low hlt).has, (h.high hlt).has]
  by_cases e : keepB B m = X
  · have hs := keepB_step (X := B) (k := m) h128
    have ha := h.apart hlt
    rw [h.high_bt hlt] at ha ⊢
    cases hb : bt B m
    · left
      rw [hb, e] at hs
      have hs2 : keepB B (m + 1) = X := hs
      rw [hs2]
      simp [e, ha]
    · right; left
      rw [hb, e] at hs
      have hs2 : keepB B (m + 1) = setB X m := hs
      rw [hs2]
      simp [e, Ne.symm ha]
  · right; right
    have h1 : ∀ Z, keepB Z m = X → keepB B (m + 1) ≠ Z := fun Z hZ hE => e (by rw [← keep_keep B (Nat.le_succ m), hE, hZ])
    simp [e, h1 X h.keep, h1 _ (h.high_keep hlt)]
end Go.Proofs.YtaicmadeobglfaaDoor
