/-
  The walk over extension headers that were written. Plain facts.
  What the program answers over extension headers that were written, with whatever behind them, and over a part of them.
-/
import Derived.Test.YtmchclpkjjmocaaGreatREw5
import Derived.Test.YtmchclpkjjmocaaGreatFh13
namespace Go.Proofs.YtmchclpkjjmocaaGreat
open Go.RowKit
set_option linter.unusedVariables false

/-- Does a header tell of a later fragment? -/
def exLater (m : Int × List Nat) : Bool := decide (m.1 = 44 ∧ (0 < m.2.getD 0 0 ∨ 8 ≤ m.2.getD 1 0))
/-- The headers up to the one that tells of a later fragment. -/
def exCut : List (Int × List Nat) → List (Int × List Nat)
  | [] => []
  | m :: r => if exLater m = true then [m] else m :: exCut r
def exLen : List (Int × List Nat) → Nat
  | [] => 0
  | m :: r => m.2.length + 2 + exLen r
def exNat (m : Int × List Nat) : Nat × List Nat := (m.1.toNat, m.2)
theorem exBytes_len (proto : Int) : ∀ M : List (Int × List Nat), (exBytes proto M).length = exLen M
  | [] => rfl
  | (k, b) :: r => by
    rw [exBytes, List.length_append, List.length_append, exBytes_len proto r]
    show 2 + b.length + exLen r = b.length + 2 + exLen r
    omega
theorem exCut_len : ∀ M : List (Int × List Nat), (exCut M).length ≤ M.length ∧ exLen (exCut M) ≤ exLen M
  | [] => ⟨Nat.le_refl _, Nat.le_refl _⟩
  | m :: r => by
    have ih := exCut_len r
    rw [exCut]
    split
    · exact ⟨by simp, by show m.2.length + 2 + 0 ≤ m.2.length + 2 + exLen r; omega⟩
    · exact ⟨by simp; exact ih.1, by show m.2.length + 2 + exLen (exCut r) ≤ m.2.length + 2 + exLen r; omega⟩
theorem exCut_all : ∀ {M : List (Int × List Nat)}, (∀ m ∈ M, exLater m = false) → exCut M = M
  | [], _ => rfl
  | m :: r, h => by
    rw [exCut, if_neg (by rw [h m (List.mem_cons_self ..)]; simp), exCut_all fun x hx => h x (List.mem_cons_of_mem _ hx)]
theorem exCut_at : ∀ {M : List (Int × List Nat)} {i : Nat} {m : Int × List Nat}, M[i]? = some m → exLater m = true → (∀ j x, j < i → M[j]? = some x → exLater x = false) → exCut M = M.take (i + 1)
  | [], i, m, h, _, _ => by simp at h
  | x :: r, 0, m, h, hm, _ => by
    simp at h
    subst h
    rw [exCut, if_pos hm]
    simp
  | x :: r, i + 1, m, h, hm, hb => by
    rw [exCut, if_neg (by rw [hb 0 x (Nat.succ_pos i) rfl]; simp), exCut_at (M := r) (i := i) (m := m) (by simpa using h) hm (fun j y hj hy => hb (j + 1) y (by omega) (by simpa using hy))]
    rfl
theorem exLater_off {b : List Nat} (hb : ∀ x ∈ b, x < 256) (nx x : Nat) : (exLater (44, b) = true ↔ exFrag ([nx, x] ++ b) = 2) ∧ (exLater (44, b) = false → exOff ([nx, x] ++ b) = 0) := by
  have e : fhw ([nx, x] ++ b) 2 = b.getD 0 0 * 256 + b.getD 1 0 := by
    unfold fhw
    rfl
  have h1 := getD_byte hb 1
  have ho : exOff ([nx, x] ++ b) = (b.getD 0 0 * 256 + b.getD 1 0) / 8 := by unfold exOff; rw [e]
  have hl : exLater (44, b) = decide (0 < b.getD 0 0 ∨ 8 ≤ b.getD 1 0) := by unfold exLater; simp
  refine ⟨?_, fun h => ?_⟩
  · rw [← exFrag_iff, ho, hl]
    simp only [decide_eq_true_eq]
    omega
  · rw [hl] at h
    have := of_decide_eq_false h
    rw [ho]
    omega
theorem exSize_fit {k : Int} {d m x : Nat} (hk : exKind k = true) (hm : m = 8 + exUnit k * x) (h : m ≤ d) : exSize k d x = some m := by
  unfold exSize
  rw [if_pos ⟨hk, by omega, by omega⟩, hm]
theorem exSize_cut {k : Int} {d m x y : Nat} (hm : m = 8 + exUnit k * x) (h : d < m) (hy : 8 ≤ d → y = x) : exSize k d y = none := by
  unfold exSize
  rw [if_neg]
  rintro ⟨_, h8, h2⟩
  rw [hy h8] at h2
  omega
theorem exCount_unit {k : Int} {b : List Nat} (h : (exCount k b.length).isSome = true) : b.length + 2 = 8 + exUnit k * (exCount k b.length).getD 0 := by
  obtain ⟨x, hx⟩ := Option.isSome_iff_exists.1 h
  have h2 := exCount_some hx
  rw [hx]
  show _ = 8 + exUnit k * x
  unfold exCount at hx
  have h3 := (exCountF_some hx).2
  have h4 : ((exUnit k * x : Nat) : Int) = (b.length : Int) - 6 := by rw [← h3]; push_cast; exact Int.mul_comm _ _
  omega
def NoDef (t : Tour) : Prop := t.ext = false ∧ t.hop = false ∧ t.many = false ∧ t.twice = false
theorem getD_pre {l : List Nat} {d i : Nat} (h : i < d) : (l.take d).getD i 0 = l.getD i 0 := by
  rw [List.getD_eq_getElem?_getD, List.getD_eq_getElem?_getD, List.getElem?_take, if_pos h]
/-- The walk. -/
theorem walk_written (proto : Int) (more : List Nat) (n : Nat) (bs : List Nat) (hn : bs.length = n) (hp : exKind proto = false ∧ 0 ≤ proto) : ∀ (M : List (Int × List Nat)) (f : Nat) (t : Tour) (S : List (Nat × List Nat)), M.length + 1 ≤ f → t.proto = exNext proto M → t.count + M.length ≤ 8 → NoDef t → t.frag ≠ 2 →
    exCheckF M t.count t.fr = (0, 0) → (∀ m ∈ M, ∀ x ∈ m.2, x < 256) → t.at_ ≤ n → bs.drop t.at_ = (exBytes proto M ++ more).take (n - t.at_) →
    (exLen (exCut M) ≤ n - t.at_ → (walkF n bs f t S).1.at_ = t.at_ + exLen (exCut M) ∧ (walkF n bs f t S).1.count = t.count + (exCut M).length ∧ NoDef (walkF n bs f t S).1 ∧ (walkF n bs f t S).1.proto = exNext proto (M.drop (exCut M).length) ∧ (walkF n bs f t S).2 = S ++ (exCut M).map exNat) ∧
    (n - t.at_ < exLen (exCut M) → t.lng = false → n ≤ 65535 → (walkF n bs f t S).1.defects = [10])
  | [], f, t, S, hf, hpr, hc, hd, hfr, hck, hby, hat, hdrop => by
    obtain ⟨f, rfl⟩ : ∃ g, f = g + 1 := ⟨f - 1, by simp at hf; omega⟩
    have hk : exKind t.proto = false := by rw [hpr]; exact hp.1
    rw [walkF_end hk]
    exact ⟨fun _ => ⟨rfl, rfl, hd, hpr, by simp [exCut]⟩, fun h => absurd h (by simp [exCut, exLen])⟩
  | (k, b) :: r, f, t, S, hf, hpr, hc, hd, hfr, hck, hby, hat, hdrop => by
    obtain ⟨f, rfl⟩ : ∃ g, f = g + 1 := ⟨f - 1, by simp at hf; omega⟩
    have hpk : t.proto = k := hpr
    rw [wrong_step] at hck
    have hE : exWrong (k, b) t.count t.fr = 0 := by
      by_cases h : exWrong (k, b) t.count t.fr = 0
      · exact h
      · rw [if_neg h] at hck
        injection hck with h1 _
    rw [if_pos hE] at hck
    obtain ⟨hk, hw, _⟩ := exWrong_zero hE
    have hsome : (exCount k b.length).isSome = true := by rw [(exCount_well k b.length).1]; exact hw
    have hno : ¬ (k = 0 ∧ 0 < t.count) ∧ ¬ (k = 44 ∧ t.fr = true) := by
      unfold exWrong at hE
      dsimp only at hE
      rw [if_neg (by rw [hk]; simp), if_neg (by rw [hsome]; simp)] at hE
      constructor
      · intro h; rw [if_pos h] at hE; cases hE
      · intro h
        split at hE
        · cases hE
        · cases hE
    have hu := exCount_unit hsome
    obtain ⟨x, hx⟩ : ∃ x, x = (exCount k b.length).getD 0 := ⟨_, rfl⟩
    rw [← hx] at hu
    have hk0 := exKind_byte hk
    obtain ⟨nx, hnx⟩ : ∃ nx, nx = (exNext proto r).toNat := ⟨_, rfl⟩
    have hbb : ∀ y ∈ b, y < 256 := hby (k, b) (List.mem_cons_self ..)
    have hseq : exBytes proto ((k, b) :: r) ++ more = ([nx, x] ++ b) ++ (exBytes proto r ++ more) := by
      rw [exBytes, ← hx, ← hnx, List.append_assoc]
    rw [hseq] at hdrop
    have hml : ([nx, x] ++ b).length = b.length + 2 := by simp
    have hcount8 : ¬ t.count = 8 := by simp at hc; omega
    have hkt : exKind t.proto = true := by rw [hpk]; exact hk
    have hlen : exLen (exCut ((k, b) :: r)) = b.length + 2 + (if exLater (k, b) = true then 0 else exLen (exCut r)) := by
      rw [exCut]
      split
      · rfl
      · rfl
    have hby1 : 2 ≤ n - t.at_ → bs.getD (t.at_ + 1) 0 = x := fun h2 => by
      have e : bs.getD (t.at_ + 1) 0 = (bs.drop t.at_).getD 1 0 := by rw [List.getD_eq_getElem?_getD, List.getD_eq_getElem?_getD, List.getElem?_drop]
      rw [e, hdrop, getD_pre (by omega)]
      rfl
    by_cases hfit : b.length + 2 ≤ n - t.at_
    · have hsz : exSize t.proto (n - t.at_) (bs.getD (t.at_ + 1) 0) = some (b.length + 2) := by
        rw [hby1 (by omega), hpk]
        exact exSize_fit hk hu hfit
      have hhd : (bs.drop t.at_).take (b.length + 2) = [nx, x] ++ b := by
        rw [hdrop, List.take_take, Nat.min_eq_left hfit, List.take_append_of_le_length (by rw [hml]; exact Nat.le_refl _), List.take_of_length_le (by rw [hml]; exact Nat.le_refl _)]
      have hpt : t.proto.toNat = k.toNat := by rw [hpk]
      have hstep : walkF n bs (f + 1) t S = if (t.pass k.toNat ([nx, x] ++ b) (n - t.at_ - (b.length + 2))).frag = 2 then (t.pass k.toNat ([nx, x] ++ b) (n - t.at_ - (b.length + 2)), S ++ [(k.toNat, b)])
          else walkF n bs f (t.pass k.toNat ([nx, x] ++ b) (n - t.at_ - (b.length + 2))) (S ++ [(k.toNat, b)]) := by
        rw [walkF, if_neg (by rw [hkt]; simp), if_neg hcount8, hsz]
        dsimp only
        rw [hhd, hpt]
        rfl
      have hkn : (k.toNat = 0 ↔ k = 0) ∧ (k.toNat = 44 ↔ k = 44) := by omega
      have hmid : t.mid k.toNat ([nx, x] ++ b) (n - t.at_ - (b.length + 2)) = if k = 44 then { t with fr := true, off := exOff ([nx, x] ++ b), frag := exFrag ([nx, x] ++ b), lng := decide (65535 < 8 * exOff ([nx, x] ++ b) + (n - t.at_ - (b.length + 2))) } else t := by
        unfold Tour.mid
        rw [if_neg (fun h => hno.1 ⟨hkn.1.1 h.1, h.2⟩), if_neg (fun h => hno.2 ⟨hkn.2.1 h.1, h.2⟩)]
        by_cases h44 : k = 44
        · rw [if_pos (hkn.2.2 h44), if_pos h44]
        · rw [if_neg (fun h => h44 (hkn.2.1 h)), if_neg h44]
      obtain ⟨T, hT⟩ : ∃ T, T = t.pass k.toNat ([nx, x] ++ b) (n - t.at_ - (b.length + 2)) := ⟨_, rfl⟩
      have hTp : T.proto = exNext proto r := by
        rw [hT]
        show (((nx : Nat)) : Int) = _
        rw [hnx]
        refine Int.toNat_of_nonneg ?_
        cases r with
        | nil => exact hp.2
        | cons m r =>
          obtain ⟨k2, b2⟩ := m
          rw [wrong_step] at hck
          have hE2 : exWrong (k2, b2) (t.count + 1) (t.fr || decide (k = 44)) = 0 := by
            by_cases h : exWrong (k2, b2) (t.count + 1) (t.fr || decide (k = 44)) = 0
            · exact h
            · rw [if_neg h] at hck
              injection hck with h1 _
          exact (exKind_byte (exWrong_zero hE2).1).1
      have hTa : T.at_ = t.at_ + (b.length + 2) := by rw [hT]; show t.at_ + ([nx, x] ++ b).length = _; rw [hml]
      have hTc : T.count = t.count + 1 := by rw [hT]; rfl
      have hTn : NoDef T := by
        rw [hT]
        show NoDef (Tour.pass _ _ _ _)
        unfold Tour.pass
        rw [hmid]
        split <;> exact hd
      have hTf : T.fr = (t.fr || decide (k = 44)) := by
        rw [hT]
        unfold Tour.pass
        rw [hmid]
        split
        · rename_i h; rw [decide_eq_true h, Bool.or_true]
        · rename_i h; rw [decide_eq_false h, Bool.or_false]
      have hTg : T.frag = 2 ↔ exLater (k, b) = true := by
        rw [hT]
        unfold Tour.pass
        rw [hmid]
        split
        · rename_i h
          subst h
          exact (exLater_off hbb nx x).1.symm
        · rename_i h
          have : exLater (k, b) = false := by unfold exLater; simp; intro e; exact absurd e h
          rw [this]
          constructor
          · intro e; exact absurd e hfr
          · intro e; cases e
      have hTl : t.lng = false → n ≤ 65535 → exLater (k, b) = false → T.lng = false := fun hl hn6 hla => by
        rw [hT]
        unfold Tour.pass
        rw [hmid]
        split
        · rename_i h
          subst h
          show decide _ = false
          rw [(exLater_off hbb nx x).2 hla]
          exact decide_eq_false (by omega)
        · exact hl
      rw [← hT] at hstep
      rw [hstep, hlen]
      by_cases hla : exLater (k, b) = true
      · rw [if_pos (hTg.2 hla), if_pos hla]
        have hcut : exCut ((k, b) :: r) = [(k, b)] := by rw [exCut, if_pos hla]
        rw [hcut]
        exact ⟨fun _ => ⟨hTa, hTc, hTn, hTp, rfl⟩, fun h => absurd h (by omega)⟩
      · have hla' : exLater (k, b) = false := by simpa using hla
        rw [if_neg (fun h => hla (hTg.1 h)), if_neg hla]
        have hcut : exCut ((k, b) :: r) = (k, b) :: exCut r := by rw [exCut, if_neg hla]
        rw [hcut]
        have hd2 : bs.drop T.at_ = (exBytes proto r ++ more).take (n - T.at_) := by
          rw [hTa, ← List.drop_drop, hdrop, List.drop_take, List.drop_append_of_le_length (by rw [hml]; exact Nat.le_refl _), List.drop_of_length_le (by rw [hml]; exact Nat.le_refl _), List.nil_append]
          congr 1
          omega
        obtain ⟨ih1, ih2⟩ := walk_written proto more n bs hn hp r f T (S ++ [(k.toNat, b)]) (by simp at hf; omega) hTp (by rw [hTc]; simp at hc; omega) hTn (fun h => hla (hTg.1 h)) (by rw [hTc, hTf]; exact hck) (fun m hm => hby m (List.mem_cons_of_mem _ hm)) (by rw [hTa]; omega) hd2
        refine ⟨fun h => ?_, fun h hl hn6 => ih2 (by rw [hTa]; omega) (hTl hl hn6 hla') hn6⟩
        obtain ⟨q1, q2, q3, q4, q5⟩ := ih1 (by rw [hTa]; omega)
        refine ⟨by rw [q1, hTa]; omega, by rw [q2, hTc, List.length_cons]; omega, q3, by rw [q4, List.length_cons, List.drop_succ_cons], by rw [q5, List.append_assoc]; rfl⟩
    · have hnone : exSize t.proto (n - t.at_) (bs.getD (t.at_ + 1) 0) = none := by
        rw [hpk]
        exact exSize_cut hu (by omega) (fun h8 => hby1 (by omega))
      rw [walkF, if_neg (by rw [hkt]; simp), if_neg hcount8, hnone]
      dsimp only
      refine ⟨fun h => absurd h (by rw [hlen]; omega), fun _ hl _ => ?_⟩
      obtain ⟨h1, h2, h3, h4⟩ := hd
      unfold Tour.defects
      simp [h2, h3, h4, hl]
end Go.Proofs.YtmchclpkjjmocaaGreat

namespace Go.Proofs.YtmchclpkjjmocaaGreat
open Go.RowKit
set_option linter.unusedVariables false

theorem exWell_two {k : Int} {n : Nat} (h : exWell k (n + 2) = true) : n + 2 ≤ 2048 ∧ 6 ≤ n := by
  obtain ⟨h1, _, h4, h5⟩ := exWell_bd h
  refine ⟨h1, ?_⟩
  unfold exWell at h
  by_cases k4 : k = 44
  · have := h4 k4; omega
  · rw [if_neg k4] at h
    by_cases k5 : k = 51
    · have := h5 k5; omega
    · rw [if_neg k5] at h
      have := of_decide_eq_true h
      omega
structure Written (M : List (Int × List Nat)) (p : Int) : Prop where
  p0 : 0 ≤ p
  p1 : p ≤ 255
  pk : exKind p = false
  l8 : M.length ≤ 8
  chk : exCheckF M 0 false = (0, 0)
  each : ∀ m ∈ M, exKind m.1 = true ∧ m.2.length + 2 ≤ 2048 ∧ 6 ≤ m.2.length ∧ ∃ x, exCount m.1 m.2.length = some x
  len : exLen M ≤ 16384
theorem exLen_le : ∀ {M : List (Int × List Nat)}, (∀ m ∈ M, m.2.length + 2 ≤ 2048) → exLen M ≤ 2048 * M.length
  | [], _ => Nat.zero_le _
  | m :: r, h => by
    have h1 := h m (List.mem_cons_self ..)
    have h2 := exLen_le (M := r) fun x hx => h x (List.mem_cons_of_mem _ hx)
    show m.2.length + 2 + exLen r ≤ 2048 * (r.length + 1)
    omega
theorem written_of {M : List (Int × List Nat)} {p : Int} {y : Nat} (h : exCheck M p = (0, y)) : y = 0 ∧ Written M p := by
  obtain ⟨e0, hp, h8, hm⟩ := exCheck_ok (M := M) (proto := p) (by rw [h])
  have e1 : (0, y) = (0, 0) := h.symm.trans e0
  injection e1 with _ e2
  have hc : exCheckF M 0 false = (0, 0) := by
    unfold exCheck at e0
    split at e0
    · cases e0
    · split at e0
      · cases e0
      · exact e0
  have he : ∀ m ∈ M, exKind m.1 = true ∧ m.2.length + 2 ≤ 2048 ∧ 6 ≤ m.2.length ∧ ∃ x, exCount m.1 m.2.length = some x := fun m hmem => by
    obtain ⟨h1, x, hx⟩ := hm m hmem
    have hw : exWell m.1 (m.2.length + 2) = true := by rw [← (exCount_well m.1 m.2.length).1, hx]; rfl
    obtain ⟨h2, h3⟩ := exWell_two hw
    exact ⟨h1, h2, h3, x, hx⟩
  refine ⟨e2, hp.1, hp.2.1, hp.2.2, h8, hc, he, ?_⟩
  have := exLen_le (M := M) fun m hmem => (he m hmem).2.1
  omega
theorem start_nodef (k : Int) : NoDef (Tour.start k) := ⟨rfl, rfl, rfl, rfl⟩
theorem start_frag (k : Int) : (Tour.start k).frag ≠ 2 := by show (0 : Nat) ≠ 2; decide
/-- Over all of them, with whatever behind. -/
theorem walk_whole {M : List (Int × List Nat)} {p : Int} (h : Written M p) (hb : ∀ m ∈ M, ∀ x ∈ m.2, x < 256) (more : List Nat) {n : Nat} (hn : n = (exBytes p M ++ more).length) :
    ∃ t : Tour, (walkF n (exBytes p M ++ more) 9 (Tour.start (exNext p M)) []).1 = t ∧ t.at_ = exLen (exCut M) ∧ t.count = (exCut M).length ∧ NoDef t ∧ t.proto = exNext p (M.drop (exCut M).length) ∧ (walkF n (exBytes p M ++ more) 9 (Tour.start (exNext p M)) []).2 = (exCut M).map exNat := by
  have hl : n = exLen M + more.length := by rw [hn, List.length_append, exBytes_len]
  obtain ⟨h1, _⟩ := walk_written p more n (exBytes p M ++ more) hn.symm ⟨h.pk, h.p0⟩ M 9 (Tour.start (exNext p M)) [] (by have := h.l8; omega) rfl (by show 0 + M.length ≤ 8; have := h.l8; omega) (start_nodef _) (start_frag _) h.chk hb (Nat.zero_le _) (by
    show List.drop 0 _ = List.take (n - 0) _
    rw [List.drop_zero, Nat.sub_zero, List.take_of_length_le (by rw [hn]; exact Nat.le_refl _)])
  obtain ⟨q1, q2, q3, q4, q5⟩ := h1 (by show _ ≤ n - 0; have := (exCut_len M).2; omega)
  exact ⟨_, rfl, by rw [q1]; show 0 + _ = _; rw [Nat.zero_add], by rw [q2]; show 0 + _ = _; rw [Nat.zero_add], q3, q4, by rw [q5]; rfl⟩
/-- Over a part of them. -/
theorem walk_part {M : List (Int × List Nat)} {p : Int} (h : Written M p) (hb : ∀ m ∈ M, ∀ x ∈ m.2, x < 256) {q : Nat} (hq : q < exLen (exCut M)) : (walkF q ((exBytes p M).take q) 9 (Tour.start (exNext p M)) []).1.defects = [10] := by
  have hq2 : q < exLen M := Nat.lt_of_lt_of_le hq (exCut_len M).2
  obtain ⟨_, h2⟩ := walk_written p [] q ((exBytes p M).take q) (by rw [List.length_take, exBytes_len]; omega) ⟨h.pk, h.p0⟩ M 9 (Tour.start (exNext p M)) [] (by have := h.l8; omega) rfl (by show 0 + M.length ≤ 8; have := h.l8; omega) (start_nodef _) (start_frag _) h.chk hb (Nat.zero_le _) (by
    show List.drop 0 _ = List.take (q - 0) _
    rw [List.drop_zero, Nat.sub_zero, List.append_nil])
  exact h2 (by show q - 0 < _; omega) rfl (by have := h.len; omega)
theorem nodef_defects {t : Tour} (h : NoDef t) : t.defects = if t.lng then [14] else [] := by
  obtain ⟨h1, h2, h3, h4⟩ := h
  unfold Tour.defects
  simp [h1, h2, h3, h4]
/-- The bodies in a list of headers that came in, as a list of what was found. -/
theorem exts_read {w : World} {A : Option Addr} {c : Nat} {M : List (Int × List Nat)} (h : ExtsIn w (.slice A M.length c) M) (hk : ∀ m ∈ M, 0 ≤ m.1) (u : Nat) (hu : u ≤ M.length) : ExtRead w (.slice A u c) ((M.take u).map exNat) := by
  obtain ⟨A2, c2, e, h1, h2⟩ := h
  cases e
  have hlen : ((M.take u).map exNat).length = u := by rw [List.length_map, List.length_take]; omega
  refine ⟨A, c, by rw [hlen], by rw [hlen]; omega, fun i m hm => ?_⟩
  rw [List.getElem?_map] at hm
  obtain ⟨m0, hm0, rfl⟩ := Option.map_eq_some_iff.1 hm
  have hiu : i < u := by
    have := (List.getElem?_eq_some_iff.1 hm0).1
    rw [List.length_take] at this
    omega
  rw [List.getElem?_take, if_pos hiu] at hm0
  obtain ⟨_, b, o, bv, ea, hlt, c1, c2, hv⟩ := h2 i m0 hm0
  refine ⟨b, o, bv, ea, hlt, ?_, c2, hv⟩
  rw [c1]
  show some (Value.int .i64 m0.1) = some (.int .i64 ((m0.1.toNat : Nat) : Int))
  rw [Int.toNat_of_nonneg (hk m0 (List.mem_of_getElem? hm0))]
theorem exCut_mem : ∀ {M : List (Int × List Nat)} {m : Int × List Nat}, m ∈ exCut M → m ∈ M
  | [], m, h => by cases h
  | x :: r, m, h => by
    rw [exCut] at h
    split at h
    · rw [List.mem_singleton.1 h]; exact List.mem_cons_self ..
    · rcases List.mem_cons.1 h with h | h
      · rw [h]; exact List.mem_cons_self ..
      · exact List.mem_cons_of_mem _ (exCut_mem h)
theorem exNext_nonneg {M : List (Int × List Nat)} {p : Int} (h : Written M p) : 0 ≤ exNext p M := by
  cases M with
  | nil => exact h.p0
  | cons m r => exact (exKind_byte (h.each m (List.mem_cons_self ..)).1).1
theorem one_defect {w : World} {v : Value} {d : Nat} (h : DefRead w v [d]) : ∃ b o c, v = .slice (some ⟨b, o, none⟩) 1 c ∧ b < w.heap.size ∧ w.cell? ⟨b, o, none⟩ = some (.int .i64 (d : Nat)) := by
  obtain ⟨A, c, rfl, _, h2⟩ := h
  obtain ⟨b, o, rfl, hb, hc⟩ := h2 0 d rfl
  exact ⟨b, o, c, rfl, hb, hc⟩
/-- Go over a part of written headers: cut off. -/
theorem go_part {M : List (Int × List Nat)} {p : Int} (h : Written M p) (hb : ∀ m ∈ M, ∀ x ∈ m.2, x < 256) {q : Nat} (hq : q < exLen (exCut M)) (A : Option Addr) (c : Nat) (w : World) (hc : q ≤ c) (hR : Row w A q ((exBytes p M).take q)) :
    Calls Tryz.prog 93 #[.int .i64 (exNext p M), .slice A q c] w fun e w' => ∃ b o c', e = .returned (.tuple #[.agg #[.int .i64 0, .int .i64 0, .int .i64 0, .int .i64 0, .int .i64 0], .slice (some ⟨b, o, none⟩) 1 c']) ∧ (b < w'.heap.size ∧ w'.cell? ⟨b, o, none⟩ = some (.int .i64 10)) ∧ Below w.heap.size w w' := by
  have hd := walk_part h hb hq
  have hq2 : q ≤ 140737488351232 := by have := h.len; have := (exCut_len M).2; omega
  refine (exgo_tour (exNext p M) A q c _ w hc hq2 hR).mono ?_
  rintro e w' ⟨v, rfl, hdr, hbl⟩
  rw [hd] at hdr
  obtain ⟨b, o, c', rfl, h1, h2⟩ := one_defect hdr
  refine ⟨b, o, c', ?_, ⟨h1, h2⟩, hbl⟩
  unfold Tour.told
  rw [if_neg (by rw [hd]; simp)]
  rfl
end Go.Proofs.YtmchclpkjjmocaaGreat
