/-
  What the program answers over extension headers that were written, with whatever behind them, and over a part of them.
-/
import Derived.Test.YtlopmkmcjcijcaaEwB
import Derived.Test.YtlopmkmcjcijcaaFh13
namespace Go.Proofs.Ytlopmkmcjcijcaa
open Go.RowKit
set_option linter.unusedVariables false

theorem exWell_two {k : Int} {n : Nat} (h : exWell k (n + 2) = true) : n + 2 ≤ 2048 ∧ 6 ≤ n := by
  obtain ⟨h1, _, h4, h5⟩ := exWell_bd h
  refine ⟨h1, ?_⟩
  unfold exWell at h
  by_cases k4 : k = 44
  · have := h4 k4; omega
  · rw [if_neg k4] at h
    by_cases k5 : k = 51
    · have := h5 k5; omega
    · rw [if_neg k5] at h
      have := of_decide_eq_true h
      omega
structure Written (M : List (Int × List Nat)) (p : Int) : Prop where
  p0 : 0 ≤ p
  p1 : p ≤ 255
  pk : exKind p = false
  l8 : M.length ≤ 8
  chk : exCheckF M 0 false = (0, 0)
  each : ∀ m ∈ M, exKind m.1 = true ∧ m.2.length + 2 ≤ 2048 ∧ 6 ≤ m.2.length ∧ ∃ x, exCount m.1 m.2.length = some x
  len : exLen M ≤ 16384
theorem exLen_le : ∀ {M : List (Int × List Nat)}, (∀ m ∈ M, m.2.length + 2 ≤ 2048) → exLen M ≤ 2048 * M.length
  | [], _ => Nat.zero_le _
  | m :: r, h => by
    have h1 := h m (List.mem_cons_self ..)
    have h2 := exLen_le (M := r) fun x hx => h x (List.mem_cons_of_mem _ hx)
    show m.2.length + 2 + exLen r ≤ 2048 * (r.length + 1)
    omega
theorem written_of {M : List (Int × List Nat)} {p : Int} {y : Nat} (h : exCheck M p = (0, y)) : y = 0 ∧ Written M p := by
  obtain ⟨e0, hp, h8, hm⟩ := exCheck_ok (M := M) (proto := p) (by rw [h])
  have e1 : (0, y) = (0, 0) := h.symm.trans e0
  injection e1 with _ e2
  have hc : exCheckF M 0 false = (0, 0) := by
    unfold exCheck at e0
    split at e0
    · cases e0
    · split at e0
      · cases e0
      · exact e0
  have he : ∀ m ∈ M, exKind m.1 = true ∧ m.2.length + 2 ≤ 2048 ∧ 6 ≤ m.2.length ∧ ∃ x, exCount m.1 m.2.length = some x := fun m hmem => by
    obtain ⟨h1, x, hx⟩ := hm m hmem
    have hw : exWell m.1 (m.2.length + 2) = true := by rw [← (exCount_well m.1 m.2.length).1, hx]; rfl
    obtain ⟨h2, h3⟩ := exWell_two hw
    exact ⟨h1, h2, h3, x, hx⟩
  refine ⟨e2, hp.1, hp.2.1, hp.2.2, h8, hc, he, ?_⟩
  have := exLen_le (M := M) fun m hmem => (he m hmem).2.1
  omega
theorem start_nodef (k : Int) : NoDef (Tour.start k) := ⟨rfl, rfl, rfl, rfl⟩
theorem start_frag (k : Int) : (Tour.start k).frag ≠ 2 := by show (0 : Nat) ≠ 2; decide
/-- Over all of them, with whatever behind. -/
theorem walk_whole {M : List (Int × List Nat)} {p : Int} (h : Written M p) (hb : ∀ m ∈ M, ∀ x ∈ m.2, x < 256) (more : List Nat) {n : Nat} (hn : n = (exBytes p M ++ more).length) :
    ∃ t : Tour, (walkF n (exBytes p M ++ more) 9 (Tour.start (exNext p M)) []).1 = t ∧ t.at_ = exLen (exCut M) ∧ t.count = (exCut M).length ∧ NoDef t ∧ t.proto = exNext p (M.drop (exCut M).length) ∧ (walkF n (exBytes p M ++ more) 9 (Tour.start (exNext p M)) []).2 = (exCut M).map exNat := by
  have hl : n = exLen M + more.length := by rw [hn, List.length_append, exBytes_len]
  obtain ⟨h1, _⟩ := walk_written p more n (exBytes p M ++ more) hn.symm ⟨h.pk, h.p0⟩ M 9 (Tour.start (exNext p M)) [] (by have := h.l8; omega) rfl (by show 0 + M.length ≤ 8; have := h.l8; omega) (start_nodef _) (start_frag _) h.chk hb (Nat.zero_le _) (by
    show List.drop 0 _ = List.take (n - 0) _
    rw [List.drop_zero, Nat.sub_zero, List.take_of_length_le (by rw [hn]; exact Nat.le_refl _)])
  obtain ⟨q1, q2, q3, q4, q5⟩ := h1 (by show _ ≤ n - 0; have := (exCut_len M).2; omega)
  exact ⟨_, rfl, by rw [q1]; show 0 + _ = _; rw [Nat.zero_add], by rw [q2]; show 0 + _ = _; rw [Nat.zero_add], q3, q4, by rw [q5]; rfl⟩
/-- Over a part of them. -/
theorem walk_part {M : List (Int × List Nat)} {p : Int} (h : Written M p) (hb : ∀ m ∈ M, ∀ x ∈ m.2, x < 256) {q : Nat} (hq : q < exLen (exCut M)) : (walkF q ((exBytes p M).take q) 9 (Tour.start (exNext p M)) []).1.defects = [10] := by
  have hq2 : q < exLen M := Nat.lt_of_lt_of_le hq (exCut_len M).2
  obtain ⟨_, h2⟩ := walk_written p [] q ((exBytes p M).take q) (by rw [List.length_take, exBytes_len]; omega) ⟨h.pk, h.p0⟩ M 9 (Tour.start (exNext p M)) [] (by have := h.l8; omega) rfl (by show 0 + M.length ≤ 8; have := h.l8; omega) (start_nodef _) (start_frag _) h.chk hb (Nat.zero_le _) (by
    show List.drop 0 _ = List.take (q - 0) _
    rw [List.drop_zero, Nat.sub_zero, List.append_nil])
  exact h2 (by show q - 0 < _; omega) rfl (by have := h.len; omega)
theorem nodef_defects {t : Tour} (h : NoDef t) : t.defects = if t.lng then [14] else [] := by
  obtain ⟨h1, h2, h3, h4⟩ := h
  unfold Tour.defects
  simp [h1, h2, h3, h4]
/-- The bodies in a list of headers that came in, as a list of what was found. -/
theorem exts_read {w : World} {A : Option Addr} {c : Nat} {M : List (Int × List Nat)} (h : ExtsIn w (.slice A M.length c) M) (hk : ∀ m ∈ M, 0 ≤ m.1) (u : Nat) (hu : u ≤ M.length) : ExtRead w (.slice A u c) ((M.take u).map exNat) := by
  obtain ⟨A2, c2, e, h1, h2⟩ := h
  cases e
  have hlen : ((M.take u).map exNat).length = u := by rw [List.length_map, List.length_take]; omega
  refine ⟨A, c, by rw [hlen], by rw [hlen]; omega, fun i m hm => ?_⟩
  rw [List.getElem?_map] at hm
  obtain ⟨m0, hm0, rfl⟩ := Option.map_eq_some_iff.1 hm
  have hiu : i < u := by
    have := (List.getElem?_eq_some_iff.1 hm0).1
    rw [List.length_take] at this
    omega
  rw [List.getElem?_take, if_pos hiu] at hm0
  obtain ⟨_, b, o, bv, ea, hlt, c1, c2, hv⟩ := h2 i m0 hm0
  refine ⟨b, o, bv, ea, hlt, ?_, c2, hv⟩
  rw [c1]
  show some (Value.int .i64 m0.1) = some (.int .i64 ((m0.1.toNat : Nat) : Int))
  rw [Int.toNat_of_nonneg (hk m0 (List.mem_of_getElem? hm0))]
theorem exCut_mem : ∀ {M : List (Int × List Nat)} {m : Int × List Nat}, m ∈ exCut M → m ∈ M
  | [], m, h => by cases h
  | x :: r, m, h => by
    rw [exCut] at h
    split at h
    · rw [List.mem_singleton.1 h]; exact List.mem_cons_self ..
    · rcases List.mem_cons.1 h with h | h
      · rw [h]; exact List.mem_cons_self ..
      · exact List.mem_cons_of_mem _ (exCut_mem h)
theorem exNext_nonneg {M : List (Int × List Nat)} {p : Int} (h : Written M p) : 0 ≤ exNext p M := by
  cases M with
  | nil => exact h.p0
  | cons m r => exact (exKind_byte (h.each m (List.mem_cons_self ..)).1).1
theorem one_defect {w : World} {v : Value} {d : Nat} (h : DefRead w v [d]) : ∃ b o c, v = .slice (some ⟨b, o, none⟩) 1 c ∧ b < w.heap.size ∧ w.cell? ⟨b, o, none⟩ = some (.int .i64 (d : Nat)) := by
  obtain ⟨A, c, rfl, _, h2⟩ := h
  obtain ⟨b, o, rfl, hb, hc⟩ := h2 0 d rfl
  exact ⟨b, o, c, rfl, hb, hc⟩
/-- Go over a part of written headers: cut off. -/
theorem go_part {M : List (Int × List Nat)} {p : Int} (h : Written M p) (hb : ∀ m ∈ M, ∀ x ∈ m.2, x < 256) {q : Nat} (hq : q < exLen (exCut M)) (A : Option Addr) (c : Nat) (w : World) (hc : q ≤ c) (hR : Row w A q ((exBytes p M).take q)) :
    Calls Try.prog 16 #[.int .i64 (exNext p M), .slice A q c] w fun e w' => ∃ b o c', e = .returned (.tuple #[.agg #[.int .i64 0, .int .i64 0, .int .i64 0, .int .i64 0, .int .i64 0], .slice (some ⟨b, o, none⟩) 1 c']) ∧ (b < w'.heap.size ∧ w'.cell? ⟨b, o, none⟩ = some (.int .i64 10)) ∧ Below w.heap.size w w' := by
  have hd := walk_part h hb hq
  have hq2 : q ≤ 140737488351232 := by have := h.len; have := (exCut_len M).2; omega
  refine (exgo_tour (exNext p M) A q c _ w hc hq2 hR).mono ?_
  rintro e w' ⟨v, rfl, hdr, hbl⟩
  rw [hd] at hdr
  obtain ⟨b, o, c', rfl, h1, h2⟩ := one_defect hdr
  refine ⟨b, o, c', ?_, ⟨h1, h2⟩, hbl⟩
  unfold Tour.told
  rw [if_neg (by rw [hd]; simp)]
  rfl
end Go.Proofs.Ytlopmkmcjcijcaa
