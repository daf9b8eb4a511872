/-
  The walk as a list of steps: plain facts of the document's way of layer 11. Nothing of the program.
  The document's Is, Size and first of layer 11; steps in memory.
  The document's way of layer 11.
-/
import Derived.Test.YtmchclpkjjmocaaGreatEw5
import Derived.Deep.LoopGhost
namespace Go.Proofs.YtmchclpkjjmocaaGreat
set_option linter.unusedVariables false

def z3 : Nat × Nat × Nat := (0, 1, 0)
/-- The walk with its steps: where a header is, its kind, how long it is. -/
def walkS (n : Nat) (bs : List Nat) : Nat → Tour → List (Nat × Nat × Nat) → Tour × List (Nat × Nat × Nat)
  | 0, t, S => (t, S)
  | f + 1, t, S =>
    if exKind t.proto = false then (t, S) else if t.count = 8 then ({ t with many := true }, S)
    else match exSize t.proto (n - t.at_) (bs.getD (t.at_ + 1) 0) with
      | none => ({ t with ext := true }, S)
      | some m =>
        if (t.pass t.proto.toNat ((bs.drop t.at_).take m) (n - t.at_ - m)).frag = 2 then (t.pass t.proto.toNat ((bs.drop t.at_).take m) (n - t.at_ - m), S ++ [(t.at_, t.proto.toNat, m)])
        else walkS n bs f (t.pass t.proto.toNat ((bs.drop t.at_).take m) (n - t.at_ - m)) (S ++ [(t.at_, t.proto.toNat, m)])
theorem walkS_end {n f : Nat} {bs : List Nat} {t : Tour} {S : List (Nat × Nat × Nat)} (h : exKind t.proto = false) : walkS n bs (f + 1) t S = (t, S) := by rw [walkS, if_pos h]
theorem walkS_many {n f : Nat} {bs : List Nat} {t : Tour} {S : List (Nat × Nat × Nat)} (h : exKind t.proto = true) (h8 : t.count = 8) : walkS n bs (f + 1) t S = ({ t with many := true }, S) := by rw [walkS, if_neg (by rw [h]; simp), if_pos h8]
theorem walkS_ext {n f : Nat} {bs : List Nat} {t : Tour} {S : List (Nat × Nat × Nat)} (h : exKind t.proto = true) (h8 : ¬ t.count = 8) (hs : exSize t.proto (n - t.at_) (bs.getD (t.at_ + 1) 0) = none) : walkS n bs (f + 1) t S = ({ t with ext := true }, S) := by
  rw [walkS, if_neg (by rw [h]; simp), if_neg h8, hs]
theorem walkS_pass {n f m : Nat} {bs : List Nat} {t : Tour} {S : List (Nat × Nat × Nat)} (h : exKind t.proto = true) (h8 : ¬ t.count = 8) (hs : exSize t.proto (n - t.at_) (bs.getD (t.at_ + 1) 0) = some m) :
    walkS n bs (f + 1) t S = if (t.pass t.proto.toNat ((bs.drop t.at_).take m) (n - t.at_ - m)).frag = 2 then (t.pass t.proto.toNat ((bs.drop t.at_).take m) (n - t.at_ - m), S ++ [(t.at_, t.proto.toNat, m)])
      else walkS n bs f (t.pass t.proto.toNat ((bs.drop t.at_).take m) (n - t.at_ - m)) (S ++ [(t.at_, t.proto.toNat, m)]) := by
  rw [walkS, if_neg (by rw [h]; simp), if_neg h8, hs]
/-- A step as the header that was passed. -/
def stepExt (bs : List Nat) (s : Nat × Nat × Nat) : Nat × List Nat := (s.2.1, ((bs.drop s.1).take s.2.2).drop 2)
theorem walkS_walkF (n : Nat) (bs : List Nat) : ∀ (f : Nat) (t : Tour) (S : List (Nat × Nat × Nat)) (M : List (Nat × List Nat)), M = S.map (stepExt bs) →
    (walkF n bs f t M).1 = (walkS n bs f t S).1 ∧ (walkF n bs f t M).2 = (walkS n bs f t S).2.map (stepExt bs)
  | 0, t, S, M, h => ⟨rfl, h⟩
  | f + 1, t, S, M, h => by
    cases hk : exKind t.proto with
    | false => rw [walkF_end hk, walkS_end hk]; exact ⟨rfl, h⟩
    | true =>
      by_cases h8 : t.count = 8
      · rw [walkF_many hk h8, walkS_many hk h8]; exact ⟨rfl, h⟩
      · cases hs : exSize t.proto (n - t.at_) (bs.getD (t.at_ + 1) 0) with
        | none => rw [walkF_ext hk h8 hs, walkS_ext hk h8 hs]; exact ⟨rfl, h⟩
        | some m =>
          rw [walkF_pass hk h8 hs, walkS_pass hk h8 hs]
          have h2 : M ++ [(t.proto.toNat, ((bs.drop t.at_).take m).drop 2)] = (S ++ [(t.at_, t.proto.toNat, m)]).map (stepExt bs) := by rw [h, List.map_append]; rfl
          split
          · exact ⟨rfl, h2⟩
          · exact walkS_walkF n bs f _ _ _ h2
/-- The first fragment header's place among the steps, or -1. -/
def FirstIs (S : List (Nat × Nat × Nat)) (f : Int) : Prop :=
  (f = -1 ∧ ∀ (i : Nat) (s : Nat × Nat × Nat), S[i]? = some s → s.2.1 ≠ 44) ∨ ∃ (i : Nat) (s : Nat × Nat × Nat), f = (i : Int) ∧ S[i]? = some s ∧ s.2.1 = 44 ∧ ∀ (j : Nat) (s' : Nat × Nat × Nat), j < i → S[j]? = some s' → s'.2.1 ≠ 44
def hopTo (S : List (Nat × Nat × Nat)) : Nat → Bool
  | 0 => false
  | i + 1 => hopTo S i || (decide (1 ≤ i) && decide ((S.getD i z3).2.1 = 0))
def twiceTo (S : List (Nat × Nat × Nat)) (f : Int) : Nat → Bool
  | 0 => false
  | i + 1 => twiceTo S f i || (decide (1 ≤ i) && (decide ((S.getD i z3).2.1 = 44) && decide (f < (i : Int))))
theorem getD_app {S : List (Nat × Nat × Nat)} {s : Nat × Nat × Nat} {i : Nat} (h : i < S.length) : (S ++ [s]).getD i z3 = S.getD i z3 := by
  simp [List.getD_eq_getElem?_getD, List.getElem?_append_left h]
theorem getD_last {S : List (Nat × Nat × Nat)} {s : Nat × Nat × Nat} : (S ++ [s]).getD S.length z3 = s := by
  simp [List.getD_eq_getElem?_getD]
theorem hopTo_app {S : List (Nat × Nat × Nat)} {s : Nat × Nat × Nat} : ∀ i, i ≤ S.length → hopTo (S ++ [s]) i = hopTo S i
  | 0, _ => rfl
  | i + 1, h => by rw [hopTo, hopTo, hopTo_app i (by omega), getD_app (by omega)]
theorem twiceTo_app {S : List (Nat × Nat × Nat)} {s : Nat × Nat × Nat} {f : Int} : ∀ i, i ≤ S.length → twiceTo (S ++ [s]) f i = twiceTo S f i
  | 0, _ => rfl
  | i + 1, h => by rw [twiceTo, twiceTo, twiceTo_app i (by omega), getD_app (by omega)]
theorem twiceTo_none {S : List (Nat × Nat × Nat)} (h : ∀ (i : Nat) (s : Nat × Nat × Nat), S[i]? = some s → s.2.1 ≠ 44) (f : Int) : ∀ i, i ≤ S.length → twiceTo S f i = false
  | 0, _ => rfl
  | i + 1, hi => by
    have h1 : S[i]? = some (S.getD i z3) := by rw [List.getD_eq_getElem?_getD, List.getElem?_eq_getElem (by omega)]; rfl
    rw [twiceTo, twiceTo_none h f i (by omega), decide_eq_false (h _ _ h1)]
    simp
/-- How far the steps have come. -/
def stEnd (S : List (Nat × Nat × Nat)) : Nat := match S.getLast? with
  | none => 0
  | some s => s.1 + s.2.2
structure StepsOk (n : Nat) (bs : List Nat) (t : Tour) (S : List (Nat × Nat × Nat)) (f : Int) : Prop where
  count : t.count = S.length
  at_ : t.at_ = stEnd S
  atn : t.at_ ≤ n
  c8 : t.count ≤ 8
  first : FirstIs S f
  fr : t.fr = decide (0 ≤ f)
  hop : t.hop = hopTo S S.length
  twice : t.twice = twiceTo S f S.length
  zero : f = -1 → t.off = 0 ∧ t.frag = 0 ∧ t.lng = false
  some_ : ∀ (i : Nat) (s : Nat × Nat × Nat), f = (i : Int) → S[i]? = some s → t.off = fhw bs (s.1 + 2) / 8 ∧ t.frag = (if fhw bs (s.1 + 2) / 8 ≠ 0 then 2 else if fhw bs (s.1 + 2) % 2 = 1 then 1 else 0) ∧ t.lng = decide (65535 < 8 * (fhw bs (s.1 + 2) / 8) + (n - s.1 - 8))
  within : ∀ (i : Nat) (s : Nat × Nat × Nat), S[i]? = some s → s.1 + s.2.2 ≤ n ∧ 8 ≤ s.2.2
theorem steps_start (k : Int) (n : Nat) (bs : List Nat) : StepsOk n bs (Tour.start k) [] (-1) :=
  ⟨rfl, rfl, Nat.zero_le _, Nat.zero_le _, .inl ⟨rfl, fun i s h => by simp at h⟩, rfl, rfl, rfl, fun _ => ⟨rfl, rfl, rfl⟩, fun i s h => by omega, fun i s h => by simp at h⟩
theorem head_word {bs : List Nat} {a m : Nat} (h : 4 ≤ m) : fhw ((bs.drop a).take m) 2 = fhw bs (a + 2) := by
  unfold fhw
  rw [take_drop_at (by omega), take_drop_at (by omega)]
theorem snoc_get {S : List (Nat × Nat × Nat)} {s x : Nat × Nat × Nat} {i : Nat} (h : (S ++ [s])[i]? = some x) : (i < S.length ∧ S[i]? = some x) ∨ (i = S.length ∧ x = s) := by
  by_cases hi : i < S.length
  · rw [List.getElem?_append_left hi] at h
    exact .inl ⟨hi, h⟩
  · have h9 : i < (S ++ [s]).length := by
      rcases Nat.lt_or_ge i (S ++ [s]).length with h9 | h9
      · exact h9
      · rw [List.getElem?_eq_none h9] at h; cases h
    rw [List.length_append] at h9
    have h10 : [s].length = 1 := rfl
    have hi2 : i = S.length := by omega
    subst hi2
    rw [List.getElem?_append_right (Nat.le_refl _), Nat.sub_self] at h
    simp at h
    exact .inr ⟨rfl, h.symm⟩
theorem get_lt {S : List (Nat × Nat × Nat)} {s : Nat × Nat × Nat} {i : Nat} (h : S[i]? = some s) : i < S.length := by
  rcases Nat.lt_or_ge i S.length with h9 | h9
  · exact h9
  · rw [List.getElem?_eq_none h9] at h; cases h
theorem first_le {S : List (Nat × Nat × Nat)} {f : Int} (h : FirstIs S f) : f < (S.length : Int) := by
  rcases h with ⟨rfl, _⟩ | ⟨i, s, rfl, h1, _⟩
  · omega
  · have := get_lt h1
    omega
/-- One header more. -/
theorem steps_more {n m k : Nat} {bs : List Nat} {t : Tour} {S : List (Nat × Nat × Nat)} {f : Int} (h : StepsOk n bs t S f) (hl : bs.length = n) (h8 : ¬ t.count = 8) (hm : 8 ≤ m) (hmn : t.at_ + m ≤ n) (h44 : k = 44 → m = 8) :
    StepsOk n bs (t.pass k ((bs.drop t.at_).take m) (n - t.at_ - m)) (S ++ [(t.at_, k, m)]) (if k = 44 ∧ f = -1 then (S.length : Int) else f) ∧ (t.frag ≠ 2 → ((t.pass k ((bs.drop t.at_).take m) (n - t.at_ - m)).frag = 2 ↔ k = 44 ∧ 8 ≤ fhw bs (t.at_ + 2) ∧ (if k = 44 ∧ f = -1 then (S.length : Int) else f) = (S.length : Int))) := by
  have hcnt := h.count
  have hc8 := h.c8
  have hfl := first_le h.first
  have hfr := h.fr
  have hdl : ((bs.drop t.at_).take m).length = m := by rw [List.length_take, List.length_drop]; omega
  have hend : stEnd (S ++ [(t.at_, k, m)]) = t.at_ + m := by unfold stEnd; simp
  have hwi : ∀ (i : Nat) (s : Nat × Nat × Nat), (S ++ [(t.at_, k, m)])[i]? = some s → s.1 + s.2.2 ≤ n ∧ 8 ≤ s.2.2 := fun i s hs => by
    rcases snoc_get hs with ⟨_, h2⟩ | ⟨_, rfl⟩
    · exact h.within i s h2
    · exact ⟨hmn, hm⟩
  have hlen : (S ++ [(t.at_, k, m)]).length = S.length + 1 := by simp
  have hhop : hopTo (S ++ [(t.at_, k, m)]) (S ++ [(t.at_, k, m)]).length = (t.hop || (decide (0 < t.count) && decide (k = 0))) := by
    rw [hlen, hopTo, hopTo_app _ (Nat.le_refl _), getD_last, h.hop, hcnt]
    rfl
  have hexo : exOff ((bs.drop t.at_).take m) = fhw bs (t.at_ + 2) / 8 := by unfold exOff; rw [head_word (by omega)]
  have hexf : exFrag ((bs.drop t.at_).take m) = if fhw bs (t.at_ + 2) / 8 ≠ 0 then 2 else if fhw bs (t.at_ + 2) % 2 = 1 then 1 else 0 := by unfold exFrag; rw [hexo, head_word (by omega)]
  by_cases hk : k = 44
  · subst hk
    have hm8 := h44 rfl
    have hhop2 : hopTo (S ++ [(t.at_, 44, m)]) (S ++ [(t.at_, 44, m)]).length = t.hop := by rw [hhop]; simp
    rcases h.first with ⟨rfl, hno⟩ | ⟨i, s, rfl, hi, hik, hbef⟩
    · have hfr0 : t.fr = false := by rw [hfr]; rfl
      have hmid : t.mid 44 ((bs.drop t.at_).take m) (n - t.at_ - m) = { t with fr := true, off := exOff ((bs.drop t.at_).take m), frag := exFrag ((bs.drop t.at_).take m), lng := decide (65535 < 8 * exOff ((bs.drop t.at_).take m) + (n - t.at_ - m)) } := by
        unfold Tour.mid
        rw [if_neg (by omega), if_neg (by rw [hfr0]; simp), if_pos rfl]
      have hpass : t.pass 44 ((bs.drop t.at_).take m) (n - t.at_ - m) = ⟨((((bs.drop t.at_).take m).getD 0 0 : Nat) : Int), t.at_ + m, exFrag ((bs.drop t.at_).take m), exOff ((bs.drop t.at_).take m), t.count + 1, true, t.ext, t.hop, t.many, t.twice, decide (65535 < 8 * exOff ((bs.drop t.at_).take m) + (n - t.at_ - m))⟩ := by
        unfold Tour.pass
        rw [hmid, hdl]
      rw [if_pos ⟨rfl, rfl⟩, hpass]
      have hfirst : FirstIs (S ++ [(t.at_, 44, m)]) (S.length : Int) := .inr ⟨S.length, (t.at_, 44, m), rfl, by simp, rfl, fun j s' hj hs => by
        rcases snoc_get hs with ⟨_, h2⟩ | ⟨h2, _⟩
        · exact hno j s' h2
        · omega⟩
      refine ⟨⟨?_, hend.symm, hmn, ?_, hfirst, ?_, hhop2.symm, ?_, fun e => ?_, fun i s e hs => ?_, hwi⟩, fun _ => ?_⟩
      · show t.count + 1 = _; rw [hlen, hcnt]
      · show t.count + 1 ≤ 8; omega
      · show true = _; rw [decide_eq_true (by omega)]
      · show t.twice = _
        rw [hlen, twiceTo, twiceTo_app _ (Nat.le_refl _), getD_last, twiceTo_none hno _ _ (Nat.le_refl _), h.twice, twiceTo_none hno _ _ (Nat.le_refl _)]
        simp
      · omega
      · have hi : i = S.length := by omega
        subst hi
        rcases snoc_get hs with ⟨h2, _⟩ | ⟨_, rfl⟩
        · omega
        · refine ⟨hexo, hexf, ?_⟩
          show decide _ = decide _
          rw [hexo, hm8]
      · show exFrag _ = 2 ↔ _
        rw [hexf]
        constructor
        · intro h2
          refine ⟨rfl, ?_, rfl⟩
          rcases Nat.lt_or_ge (fhw bs (t.at_ + 2)) 8 with h3 | h3
          · rw [if_neg (by omega)] at h2
            split at h2 <;> cases h2
          · exact h3
        · rintro ⟨_, h2, _⟩
          rw [if_pos (by omega)]
    · have hfr1 : t.fr = true := by rw [hfr]; exact decide_eq_true (by omega)
      have hmid : t.mid 44 ((bs.drop t.at_).take m) (n - t.at_ - m) = { t with twice := true } := by
        unfold Tour.mid
        rw [if_neg (by omega), if_pos ⟨rfl, hfr1⟩]
      have hpass : t.pass 44 ((bs.drop t.at_).take m) (n - t.at_ - m) = ⟨((((bs.drop t.at_).take m).getD 0 0 : Nat) : Int), t.at_ + m, t.frag, t.off, t.count + 1, t.fr, t.ext, t.hop, t.many, true, t.lng⟩ := by
        unfold Tour.pass
        rw [hmid, hdl]
      have hil := get_lt hi
      rw [if_neg (by omega), hpass]
      have hfirst : FirstIs (S ++ [(t.at_, 44, m)]) (i : Int) := .inr ⟨i, s, rfl, by rw [List.getElem?_append_left hil]; exact hi, hik, fun j s' hj hs => by
        rcases snoc_get hs with ⟨_, h2⟩ | ⟨h2, _⟩
        · exact hbef j s' hj h2
        · omega⟩
      refine ⟨⟨?_, hend.symm, hmn, ?_, hfirst, hfr, hhop2.symm, ?_, fun e => ?_, fun j s' e hs => ?_, hwi⟩, fun h2 => ?_⟩
      · show t.count + 1 = _; rw [hlen, hcnt]
      · show t.count + 1 ≤ 8; omega
      · show true = _
        rw [hlen, twiceTo, getD_last, decide_eq_true (show 1 ≤ S.length by omega), decide_eq_true (show (i : Int) < (S.length : Int) by omega)]
        simp
      · omega
      · have hj : j = i := by omega
        subst hj
        rcases snoc_get hs with ⟨_, h2⟩ | ⟨h2, _⟩
        · exact h.some_ j s' rfl h2
        · omega
      · show t.frag = 2 ↔ _
        constructor
        · intro h3; exact absurd h3 h2
        · rintro ⟨_, _, h3⟩; omega
  · rw [if_neg (fun e => hk e.1)]
    have hfirst : FirstIs (S ++ [(t.at_, k, m)]) f := by
      rcases h.first with ⟨rfl, hno⟩ | ⟨i, s, rfl, hi, hik, hbef⟩
      · refine .inl ⟨rfl, fun i s hs => ?_⟩
        rcases snoc_get hs with ⟨_, h2⟩ | ⟨_, rfl⟩
        · exact hno i s h2
        · exact hk
      · have hil := get_lt hi
        refine .inr ⟨i, s, rfl, by rw [List.getElem?_append_left hil]; exact hi, hik, fun j s' hj hs => ?_⟩
        rcases snoc_get hs with ⟨_, h2⟩ | ⟨_, rfl⟩
        · exact hbef j s' hj h2
        · exact hk
    have htw : twiceTo (S ++ [(t.at_, k, m)]) f (S ++ [(t.at_, k, m)]).length = t.twice := by
      rw [hlen, twiceTo, twiceTo_app _ (Nat.le_refl _), getD_last, decide_eq_false hk, h.twice]
      simp
    have hso : ∀ (i : Nat) (s : Nat × Nat × Nat), f = (i : Int) → (S ++ [(t.at_, k, m)])[i]? = some s → t.off = fhw bs (s.1 + 2) / 8 ∧ t.frag = (if fhw bs (s.1 + 2) / 8 ≠ 0 then 2 else if fhw bs (s.1 + 2) % 2 = 1 then 1 else 0) ∧ t.lng = decide (65535 < 8 * (fhw bs (s.1 + 2) / 8) + (n - s.1 - 8)) := fun i s e hs => by
      rcases snoc_get hs with ⟨_, h2⟩ | ⟨h2, _⟩
      · exact h.some_ i s e h2
      · omega
    by_cases hk0 : k = 0 ∧ 0 < t.count
    · have hpass : t.pass k ((bs.drop t.at_).take m) (n - t.at_ - m) = ⟨((((bs.drop t.at_).take m).getD 0 0 : Nat) : Int), t.at_ + m, t.frag, t.off, t.count + 1, t.fr, t.ext, true, t.many, t.twice, t.lng⟩ := by
        unfold Tour.pass Tour.mid
        rw [if_pos hk0, hdl]
      rw [hpass]
      refine ⟨⟨?_, hend.symm, hmn, ?_, hfirst, hfr, ?_, htw.symm, h.zero, hso, hwi⟩, fun h2 => ⟨fun h3 => absurd h3 h2, fun h3 => absurd h3.1 hk⟩⟩
      · show t.count + 1 = _; rw [hlen, hcnt]
      · show t.count + 1 ≤ 8; omega
      · show true = _; rw [hhop, decide_eq_true hk0.1, decide_eq_true hk0.2]; simp
    · have hpass : t.pass k ((bs.drop t.at_).take m) (n - t.at_ - m) = ⟨((((bs.drop t.at_).take m).getD 0 0 : Nat) : Int), t.at_ + m, t.frag, t.off, t.count + 1, t.fr, t.ext, t.hop, t.many, t.twice, t.lng⟩ := by
        unfold Tour.pass Tour.mid
        rw [if_neg hk0, if_neg (fun e => hk e.1), if_neg hk, hdl]
      rw [hpass]
      refine ⟨⟨?_, hend.symm, hmn, ?_, hfirst, hfr, ?_, htw.symm, h.zero, hso, hwi⟩, fun h2 => ⟨fun h3 => absurd h3 h2, fun h3 => absurd h3.1 hk⟩⟩
      · show t.count + 1 = _; rw [hlen, hcnt]
      · show t.count + 1 ≤ 8; omega
      · show t.hop = _
        rw [hhop]
        by_cases h0 : k = 0
        · rw [decide_eq_false (show ¬ 0 < t.count by omega)]; simp
        · rw [decide_eq_false h0]; simp
end Go.Proofs.YtmchclpkjjmocaaGreat

namespace Go.Proofs.YtmchclpkjjmocaaGreat
open Go.RowKit
set_option linter.unusedVariables false

set_option maxRecDepth 10000 in
theorem rexis_any (k : Int) (w : World) :
    Calls Tryz.prog 98 #[.int .i64 k] w fun e w' => e = .returned (.bool (exKind k)) ∧ w = w' := by
  by_cases h0 : k = 0
  · subst h0
    go_enter Tryz.func98, Tryz.ntmps98
    go_wp2_with fail
    go_ret
    exact ⟨rfl, rfl⟩
  have b0 : (k == 0) = false := beq_false_of_ne h0
  by_cases h43 : k = 43
  · subst h43
    go_enter Tryz.func98, Tryz.ntmps98
    go_wp2_with fail
    go_ret
    exact ⟨rfl, rfl⟩
  have b43 : (k == 43) = false := beq_false_of_ne h43
  by_cases h44 : k = 44
  · subst h44
    go_enter Tryz.func98, Tryz.ntmps98
    go_wp2_with fail
    go_ret
    exact ⟨rfl, rfl⟩
  have b44 : (k == 44) = false := beq_false_of_ne h44
  by_cases h51 : k = 51
  · subst h51
    go_enter Tryz.func98, Tryz.ntmps98
    go_wp2_with fail
    go_ret
    exact ⟨rfl, rfl⟩
  have b51 : (k == 51) = false := beq_false_of_ne h51
  by_cases h60 : k = 60
  · subst h60
    go_enter Tryz.func98, Tryz.ntmps98
    go_wp2_with fail
    go_ret
    exact ⟨rfl, rfl⟩
  have b60 : (k == 60) = false := beq_false_of_ne h60
  by_cases h135 : k = 135
  · subst h135
    go_enter Tryz.func98, Tryz.ntmps98
    go_wp2_with fail
    go_ret
    exact ⟨rfl, rfl⟩
  have b135 : (k == 135) = false := beq_false_of_ne h135
  by_cases h139 : k = 139
  · subst h139
    go_enter Tryz.func98, Tryz.ntmps98
    go_wp2_with fail
    go_ret
    exact ⟨rfl, rfl⟩
  have b139 : (k == 139) = false := beq_false_of_ne h139
  by_cases h140 : k = 140
  · subst h140
    go_enter Tryz.func98, Tryz.ntmps98
    go_wp2_with fail
    go_ret
    exact ⟨rfl, rfl⟩
  have b140 : (k == 140) = false := beq_false_of_ne h140
  have hF : exKind k = false := by unfold exKind; exact decide_eq_false (by omega)
  rw [hF]
  clear hF
  go_enter Tryz.func98, Tryz.ntmps98
  go_wp2_with fail
  go_ret
  exact ⟨rfl, rfl⟩
def RSizeIs (r : Option Nat) (w : World) (e : Ending) (w' : World) : Prop := e = .returned (.tuple #[.int .i64 (r.getD 0 : Nat), .bool r.isSome]) ∧ w = w'
theorem rsize_ints {u x n m : Nat} (hx : x < 256) (hm : m = 8 + u * x) (hu : u = 0 ∨ u = 4 ∨ u = 8) : m ≤ 2048 := by
  rcases hu with rfl | rfl | rfl <;> omega
set_option maxRecDepth 10000 in
set_option maxHeartbeats 3200000 in
theorem rexsize_any (k : Int) (A : Option Addr) (n c : Nat) (bs : List Nat) (w : World) (hn : n ≤ 140737488355328) (hR : Row w A n bs) :
    Calls Tryz.prog 99 #[.int .i64 k, .slice A n c] w (RSizeIs (exSize k n (bs.getD 1 0)) w) := by
  have CI := Lib.hid (rexis_any k)
  have hx := hR.byte 1
  by_cases hk : exKind k = false
  · have hF : exSize k n (bs.getD 1 0) = none := by unfold exSize; rw [if_neg (by rw [hk]; simp)]
    rw [hF]
    rw [hk] at CI
    clear hR hF hk
    go_enter Tryz.func99, Tryz.ntmps99
    go_wp2_with fail
    refine (CI.out _).mono ?_
    rintro e w' ⟨rfl, rfl⟩
    go_wp2_with fail
    go_ret2
    exact ⟨rfl, rfl⟩
  have hk : exKind k = true := by simpa using hk
  by_cases h8 : n < 8
  · have hF : exSize k n (bs.getD 1 0) = none := by unfold exSize; rw [if_neg (by omega)]
    rw [hF]
    rw [hk] at CI
    have nI : (n : Int) < 8 := by omega
    clear hR hF hk h8
    go_enter Tryz.func99, Tryz.ntmps99
    go_wp2_with fail
    refine (CI.out _).mono ?_
    rintro e w' ⟨rfl, rfl⟩
    go_wp2_with fail
    go_ret2
    exact ⟨rfl, rfl⟩
  obtain ⟨b, o, rfl, hb, hcell⟩ := hR.addr (by omega)
  have c1 := hcell 1 (by omega)
  have HFS : Hid (exSize k n (bs.getD 1 0) = if 8 + exUnit k * bs.getD 1 0 ≤ n then some (8 + exUnit k * bs.getD 1 0) else none) := by
    show _ = _
    unfold exSize
    by_cases h : 8 + exUnit k * bs.getD 1 0 ≤ n
    · rw [if_pos ⟨hk, by omega, h⟩, if_pos h]
    · rw [if_neg (fun h2 => h h2.2.2), if_neg h]
  rw [hk] at CI
  rw [HFS.out]
  generalize bs.getD 1 0 = x at *
  have nI : ¬ (n : Int) < 8 := by omega
  have n1 : (1 : Int) < (n : Int) := by omega
  have HN := Lib.hid hn
  clear HFS hR hk h8 hcell hb hn
  by_cases h44 : k = 44
  · subst h44
    have hu : exUnit 44 = 0 := rfl
    rw [hu, Nat.zero_mul, Nat.add_zero]
    rw [if_pos (show 8 ≤ n by omega)]
    go_enter Tryz.func99, Tryz.ntmps99
    go_wp2_with fail
    refine (CI.out _).mono ?_
    rintro e w' ⟨rfl, rfl⟩
    go_wp2_with fail
    go_ret2
    exact ⟨rfl, rfl⟩
  have b44 : (k == 44) = false := beq_false_of_ne h44
  by_cases h51 : k = 51
  · subst h51
    have hu : exUnit 51 = 4 := rfl
    rw [hu]
    obtain ⟨m, hm⟩ : ∃ m, m = 8 + 4 * x := ⟨_, rfl⟩
    have e1 : 4 * ((x : Int) + 2) = (m : Int) := by omega
    have hm9 : m ≤ 2048 := by omega
    rw [← hm]
    clear hu hm
    by_cases hmn : m ≤ n
    · rw [if_pos hmn]
      have mI : ¬ (n : Int) < (m : Int) := by omega
      clear hmn hm9
      go_enter Tryz.func99, Tryz.ntmps99
      go_wp2_with fail
      refine (CI.out _).mono ?_
      rintro e w' ⟨rfl, rfl⟩
      go_wp2_with fail
      go_ret2
      exact ⟨rfl, rfl⟩
    · rw [if_neg hmn]
      have mI : (n : Int) < (m : Int) := by omega
      clear hmn hm9
      go_enter Tryz.func99, Tryz.ntmps99
      go_wp2_with fail
      refine (CI.out _).mono ?_
      rintro e w' ⟨rfl, rfl⟩
      go_wp2_with fail
      go_ret2
      exact ⟨rfl, rfl⟩
  have b51 : (k == 51) = false := beq_false_of_ne h51
  have hu : exUnit k = 8 := by unfold exUnit; rw [if_neg h44, if_neg h51]
  rw [hu]
  obtain ⟨m, hm⟩ : ∃ m, m = 8 + 8 * x := ⟨_, rfl⟩
  have e1 : 8 * ((x : Int) + 1) = (m : Int) := by omega
  have hm9 : m ≤ 2048 := by omega
  rw [← hm]
  clear hu hm
  by_cases hmn : m ≤ n
  · rw [if_pos hmn]
    have mI : ¬ (n : Int) < (m : Int) := by omega
    clear hmn hm9
    go_enter Tryz.func99, Tryz.ntmps99
    go_wp2_with fail
    refine (CI.out _).mono ?_
    rintro e w' ⟨rfl, rfl⟩
    go_wp2_with fail
    go_ret2
    exact ⟨rfl, rfl⟩
  · rw [if_neg hmn]
    have mI : (n : Int) < (m : Int) := by omega
    clear hmn hm9
    go_enter Tryz.func99, Tryz.ntmps99
    go_wp2_with fail
    refine (CI.out _).mono ?_
    rintro e w' ⟨rfl, rfl⟩
    go_wp2_with fail
    go_ret2
    exact ⟨rfl, rfl⟩

/-- The cells of steps. -/
def s3cells (S : List (Nat × Nat × Nat)) : List Value := S.flatMap fun s => [.int .i64 (s.1 : Nat), .int .i64 (s.2.1 : Nat), .int .i64 (s.2.2 : Nat)]
theorem s3cells_length (S : List (Nat × Nat × Nat)) : (s3cells S).length = S.length * 3 := by
  induction S with
  | nil => rfl
  | cons p S ih =>
    show ([Value.int .i64 (p.1 : Nat), .int .i64 (p.2.1 : Nat), .int .i64 (p.2.2 : Nat)] ++ s3cells S).length = (S.length + 1) * 3
    rw [List.length_append, ih]
    show 3 + S.length * 3 = _
    omega
theorem s3cells_snoc (S : List (Nat × Nat × Nat)) (a k m : Nat) : s3cells (S ++ [(a, k, m)]) = s3cells S ++ [.int .i64 (a : Nat), .int .i64 (k : Nat), .int .i64 (m : Nat)] := by simp [s3cells]
theorem s3cells_at : ∀ {S : List (Nat × Nat × Nat)} {i : Nat} {p : Nat × Nat × Nat}, S[i]? = some p → (s3cells S)[3 * i]? = some (.int .i64 (p.1 : Nat)) ∧ (s3cells S)[3 * i + 1]? = some (.int .i64 (p.2.1 : Nat)) ∧ (s3cells S)[3 * i + 2]? = some (.int .i64 (p.2.2 : Nat))
  | [], i, p, h => by simp at h
  | q :: S, 0, p, h => by
    simp at h
    subst h
    exact ⟨rfl, rfl, rfl⟩
  | q :: S, i + 1, p, h => by
    have h2 := s3cells_at (S := S) (i := i) (p := p) (by simpa using h)
    have e : s3cells (q :: S) = .int .i64 (q.1 : Nat) :: .int .i64 (q.2.1 : Nat) :: .int .i64 (q.2.2 : Nat) :: s3cells S := rfl
    rw [e, show 3 * (i + 1) = 3 * i + 1 + 1 + 1 by omega]
    simpa using h2
/-- A slice of steps that the call itself appends to. -/
def Steps (B : Nat) (w : World) (v : Value) (S : List (Nat × Nat × Nat)) : Prop := w.ownsRow B 124 3 v S.length (s3cells S)
theorem Steps.nil (B : Nat) (w : World) : Steps B w (.slice none 0 0) [] := World.ownsRow_nil _ _ _ _
theorem Steps.below {B : Nat} {w w' : World} {v : Value} {S : List (Nat × Nat × Nat)} (h : Steps B w v S) (hb : Below w.heap.size w w') : Steps B w' v S := ownsRow_below h hb
theorem Steps.slice {B : Nat} {w : World} {v : Value} {S : List (Nat × Nat × Nat)} (h : Steps B w v S) : ∃ A c, v = .slice A S.length c ∧ S.length ≤ c ∧ c ≤ maxLen := by
  rcases h.2 with ⟨rfl, h0⟩ | ⟨g, cap, cur, rfl, _, _, h4, h5, _⟩
  · rw [h0]; exact ⟨none, 0, rfl, Nat.le_refl _, Nat.zero_le _⟩
  · exact ⟨_, cap, rfl, h4, h5⟩
/-- What it reads as. -/
def StepRead (w : World) (v : Value) (S : List (Nat × Nat × Nat)) : Prop :=
  ∃ A c, v = .slice A S.length c ∧ S.length ≤ c ∧ ∀ (i : Nat) (s : Nat × Nat × Nat), S[i]? = some s → ∃ b o, A = some ⟨b, o, none⟩ ∧ b < w.heap.size ∧ w.cell? ⟨b, o + i * 3, none⟩ = some (.int .i64 (s.1 : Nat)) ∧ w.cell? ⟨b, o + i * 3 + 1, none⟩ = some (.int .i64 (s.2.1 : Nat)) ∧ w.cell? ⟨b, o + i * 3 + 2, none⟩ = some (.int .i64 (s.2.2 : Nat))
theorem StepRead.below {w w' : World} {v : Value} {S : List (Nat × Nat × Nat)} (h : StepRead w v S) (hb : Below w.heap.size w w') : StepRead w' v S := by
  obtain ⟨A, c, e, h1, h2⟩ := h
  refine ⟨A, c, e, h1, fun i s hs => ?_⟩
  obtain ⟨b, o, ea, hlt, c1, c2, c3⟩ := h2 i s hs
  exact ⟨b, o, ea, Nat.lt_of_lt_of_le hlt hb.size, (hb.cell (p := ⟨b, o + i * 3, none⟩) hlt).trans c1, (hb.cell (p := ⟨b, o + i * 3 + 1, none⟩) hlt).trans c2, (hb.cell (p := ⟨b, o + i * 3 + 2, none⟩) hlt).trans c3⟩
theorem Steps.read {B : Nat} {w : World} {v : Value} {S : List (Nat × Nat × Nat)} (h : Steps B w v S) : StepRead w v S := by
  obtain ⟨A, c, e, hc, _⟩ := h.slice
  refine ⟨A, c, e, hc, fun i s hs => ?_⟩
  have hi := get_lt hs
  obtain ⟨c1, c2, c3⟩ := s3cells_at hs
  rcases h.2 with ⟨rfl, h0⟩ | ⟨g, cap, cur, rfl, hB, hh, h4, h5, hs2, ht⟩
  · omega
  · injection e with e2 e3 e4
    subst e2 e4
    have hlt : g < w.heap.size := by
      rcases Nat.lt_or_ge g w.heap.size with hlt | hge
      · exact hlt
      · rw [Array.getElem?_eq_none hge] at hh; cases hh
    have d1 := World.ownsRow.cellAt h (3 * i) (by omega)
    have d2 := World.ownsRow.cellAt h (3 * i + 1) (by omega)
    have d3 := World.ownsRow.cellAt h (3 * i + 2) (by omega)
    refine ⟨g, 0, rfl, hlt, ?_, ?_, ?_⟩
    · rw [Nat.zero_add, Nat.mul_comm i 3, d1, c1]
    · rw [Nat.zero_add, Nat.mul_comm i 3, d2, c2]
    · rw [Nat.zero_add, Nat.mul_comm i 3, d3, c3]
theorem step_info : (Tryz.prog.info? 124).map (fun i => (i.zero, i.size, i.bytes)) = some (some (.agg #[.int .i64 0, .int .i64 0, .int .i64 0]), 3, 24) := by kernel_rfl
/-- 'append(out, step{..})'. -/
theorem wpList_append_step {ops : Array Oper} {rest : List Oper} {o : Oper} {a : Act} {Q : Exit → Act → World → Prop} (hgd : o.guard = none) (s x : Operand)
    (ho : o.op = .call { callee := .builtin .append, args := #[s, x], argTypes := #[120, 120] })
    {B : Nat} {W wr : World} {v : Value} {S : List (Nat × Nat × Nat)} {p k m : Nat} (hs : a.eval s = v) (hx : a.eval x = .slice (some ⟨wr.heap.size, 0, none⟩) 1 1)
    (hE : Steps B wr v S) (hb : Below B W wr) (hB : B ≤ wr.heap.size) (hlen : S.length ≤ 1000000)
    (h : ∀ v' w', Steps B w' v' (S ++ [(p, k, m)]) → Below B W w' → wpList Tryz.prog ops Q rest (a.put o.dst v') w') : wpList Tryz.prog ops Q (o :: rest) a (wr.alloc (.cells #[.int .i64 (p : Nat), .int .i64 (k : Nat), .int .i64 (m : Nat)] 124)) := by
  obtain ⟨i0, h1, h2, h3, h4⟩ := info_parts step_info
  have hE' : Steps B (wr.alloc (.cells #[.int .i64 (p : Nat), .int .i64 (k : Nat), .int .i64 (m : Nat)] 124)) v S := hE.below ((Below.refl _ _).alloc (Nat.le_refl _) _)
  refine wpList_append_own_at (P := Tryz.prog) (wr.alloc (.cells #[.int .i64 (p : Nat), .int .i64 (k : Nat), .int .i64 (m : Nat)] 124)) hgd s x 120 ho B 124 i0 _ 3 24 Tryz.underlying120 h1 h2 h3 h4 rfl (by decide) v S.length (s3cells S) hs hE'
    ⟨wr.heap.size, 0, none⟩ 1 1 [.int .i64 (p : Nat), .int .i64 (k : Nat), .int .i64 (m : Nat)] hx rfl (fun j u hj => by
      rw [add_flat, cell_of_row _ wr.heap.size (0 + j) _ _ _ (heap_alloc_new wr _), Nat.zero_add, ← Array.getElem?_toList]
      exact hj) (by intro u hu; simp at hu; rcases hu with rfl | rfl | rfl <;> rfl) (by unfold maxLen; omega) (by omega) (by simp; omega) ?_
  intro v' w' ho' hg _ hat
  have hsz := hg.size
  refine h v' w' ?_ ((hb.alloc hB _).grown hg (by simp; omega) (fun k hk => (World.ownsRow.lt hE k hk).1))
  unfold Steps
  rw [s3cells_snoc, List.length_append]
  simpa using ho'
theorem first_found {S : List (Nat × Nat × Nat)} {f : Int} {k : Nat} {s : Nat × Nat × Nat} (h : FirstIs S f) (hk : S[k]? = some s) (h4 : s.2.1 = 44) (hb : ∀ (j : Nat) (x : Nat × Nat × Nat), j < k → S[j]? = some x → x.2.1 ≠ 44) : f = (k : Int) := by
  rcases h with ⟨rfl, hn⟩ | ⟨i, x, rfl, hi, hi4, hbi⟩
  · exact absurd h4 (hn k s hk)
  · rcases Nat.lt_trichotomy i k with h1 | h1 | h1
    · exact absurd hi4 (hb i x h1 hi)
    · rw [h1]
    · exact absurd h4 (hbi k s h1 hk)
theorem first_none {S : List (Nat × Nat × Nat)} {f : Int} (h : FirstIs S f) (hb : ∀ (j : Nat) (x : Nat × Nat × Nat), j < S.length → S[j]? = some x → x.2.1 ≠ 44) : f = -1 := by
  rcases h with ⟨rfl, hn⟩ | ⟨i, x, rfl, hi, hi4, hbi⟩
  · rfl
  · exact absurd hi4 (hb i x (get_lt hi) hi)
theorem no44_next {S : List (Nat × Nat × Nat)} {k : Nat} {s : Nat × Nat × Nat} (hb : ∀ (j : Nat) (x : Nat × Nat × Nat), j < k → S[j]? = some x → x.2.1 ≠ 44) (hk : S[k]? = some s) (h4 : s.2.1 ≠ 44) : ∀ (j : Nat) (x : Nat × Nat × Nat), j < k + 1 → S[j]? = some x → x.2.1 ≠ 44 := fun j x hj hx => by
  rcases Nat.lt_or_ge j k with h | h
  · exact hb j x h hx
  · have e : j = k := by omega
    rw [e, hk] at hx
    injection hx with hx
    rw [← hx]
    exact h4
theorem kind_ne {q : Nat} (h : q ≠ 44) : ((q : Int) == 44) = false := beq_false_of_ne (by omega)
theorem idx_meas2 {j N : Nat} (h : j < N) : N - (j + 1) < N - j := by omega
set_option maxRecDepth 10000 in
theorem rfirst_any (v : Value) (S : List (Nat × Nat × Nat)) (f : Int) (w : World) (hS : StepRead w v S) (hf : FirstIs S f) (hl : S.length ≤ 1000) :
    Calls Tryz.prog 82 #[v] w fun e w' => e = .returned (.int .i64 f) ∧ w = w' := by
  obtain ⟨A, c, rfl, hc, hcell⟩ := hS
  obtain ⟨N, hN⟩ : ∃ N, N = S.length := ⟨_, rfl⟩
  have HCL := Lib.hid hcell
  have HF := Lib.hid hf
  have HN := Lib.hid hN
  rw [← hN] at hl ⊢
  have HL := Lib.hid hl
  clear hcell hf hN hl hc
  go_enter Tryz.func82, Tryz.ntmps82
  go_wp2_with fail
  go_loop [3] (fun i => ∃ k : Nat, k ≤ N ∧ i = .int .i64 (k : Nat) ∧ ∀ (j : Nat) (x : Nat × Nat × Nat), j < k → S[j]? = some x → x.2.1 ≠ 44) (fun i => N - (intOf i).toNat)
  case atStart => exact ⟨0, Nat.zero_le _, rfl, fun j x h => absurd h (Nat.not_lt_zero _)⟩
  case round =>
    obtain ⟨k, hk, rfl, hb⟩ := hrel
    have HB := Lib.hid hb
    by_cases hlt : k < N
    · obtain ⟨s, hs⟩ : ∃ s, S[k]? = some s := ⟨_, List.getElem?_eq_getElem (by rw [← HN.out]; exact hlt)⟩
      obtain ⟨b, o, rfl, _, _, c2, _⟩ := HCL.out k s hs
      have HS := Lib.hid hs
      have kI : (k : Int) < (N : Int) := Int.ofNat_lt.2 hlt
      have k9 : (k : Int) ≤ 1000 := idx_thousand (Nat.le_of_lt hlt) HL.out
      have HLT := Lib.hid hlt
      obtain ⟨q, hq⟩ : ∃ q, q = s.2.1 := ⟨_, rfl⟩
      rw [← hq] at c2
      have HQ := Lib.hid hq
      clear hb hk hlt hs hq
      by_cases h4 : q = 44
      · have HR : Hid (f = (k : Int)) := first_found HF.out HS.out (by rw [← HQ.out]; exact h4) HB.out
        subst h4
        go_wp2_with fail
        go_ret
        exact ⟨by rw [HR.out]; rfl, rfl⟩
      · have HNX : Hid (∀ (j : Nat) (x : Nat × Nat × Nat), j < k + 1 → S[j]? = some x → x.2.1 ≠ 44) := no44_next HB.out HS.out (by rw [← HQ.out]; exact h4)
        have q4 := kind_ne h4
        clear h4
        go_wp2_with fail
        go_round
        case rel => exact ⟨k + 1, HLT.out, by go_num, HNX.out⟩
        case measure => have := idx_meas2 HLT.out; simpa [intOf] using this
    · have hkN : k = N := Nat.le_antisymm hk (Nat.le_of_not_lt hlt)
      have HR : Hid (f = -1) := first_none HF.out (by rw [← HN.out, ← hkN]; exact HB.out)
      have kI : ¬ (k : Int) < (N : Int) := fun h => hlt (Int.ofNat_lt.1 h)
      clear hb hk hlt hkN
      go_wp2_with fail
      go_ret
      exact ⟨by rw [HR.out]; rfl, rfl⟩
end Go.Proofs.YtmchclpkjjmocaaGreat

namespace Go.Proofs.YtmchclpkjjmocaaGreat
open Go.RowKit
set_option linter.unusedVariables false

theorem results_four {fn : Func} {t u v x : Tmp} (h : fn.results = #[.tmp t, .tmp u, .tmp v, .tmp x]) (tmps : Array Value) (P : Program) (w : World) :
    (results fn tmps).run P w = .ok (.tuple #[tmps.getD t undef, tmps.getD u undef, tmps.getD v undef, tmps.getD x undef]) w := by
  simp [results, h]
def WayIs (w : World) (r : Tour × List (Nat × Nat × Nat)) (e : Ending) (w' : World) : Prop := ∃ v, e = .returned (.tuple #[v, .int .i64 r.1.proto, .bool r.1.ext, .bool r.1.many]) ∧ Steps w.heap.size w' v r.2 ∧ Below w.heap.size w w'
/-- What holds where the loop stands. -/
structure WayInv (w : World) (n : Nat) (bs : List Nat) (R : Tour × List (Nat × Nat × Nat)) (f : Nat) (kd out at' : Value) (wr : World) (t : Tour) (S : List (Nat × Nat × Nat)) (fi : Int) : Prop where
  kd : kd = .int .i64 t.proto
  at_ : at' = .int .i64 (t.at_ : Nat)
  out : Steps w.heap.size wr out S
  below : Below w.heap.size w wr
  ok : StepsOk n bs t S fi
  fuel : t.count + f = 9
  frag : t.frag ≠ 2
  ext : t.ext = false
  many : t.many = false
  rest : walkS n bs f t S = R
theorem pass_flags (t : Tour) (k : Nat) (hd : List Nat) (b : Nat) : (t.pass k hd b).ext = t.ext ∧ (t.pass k hd b).many = t.many ∧ (t.pass k hd b).proto = ((hd.getD 0 0 : Nat) : Int) ∧ (t.pass k hd b).at_ = t.at_ + hd.length ∧ (t.pass k hd b).count = t.count + 1 := by
  refine ⟨?_, ?_, rfl, rfl, rfl⟩
  · unfold Tour.pass Tour.mid
    split
    · rfl
    · split
      · rfl
      · split <;> rfl
  · unfold Tour.pass Tour.mid
    split
    · rfl
    · split
      · rfl
      · split <;> rfl
theorem way_ints {p n c m : Nat} (hp : p + m ≤ n) (hm : 8 ≤ m) (hc : n ≤ c) (hn : n ≤ 140737488351232) :
    ¬ c = p ∧ (p : Int) < (n : Int) ∧ wrap64 ((p : Int) + 2) = ((p + 2 : Nat) : Int) ∧ IntKind.i64.wrap ((p : Int) + 2) = ((p + 2 : Nat) : Int) ∧ ((p + 2 : Nat) : Int) < (n : Int) ∧ wrap64 ((p : Int) + 3) = ((p + 3 : Nat) : Int) ∧ IntKind.i64.wrap ((p : Int) + 3) = ((p + 3 : Nat) : Int) ∧ ((p + 3 : Nat) : Int) < (n : Int) ∧ wrap64 ((p : Int) + (m : Int)) = ((p + m : Nat) : Int) := by
  refine ⟨by omega, by omega, ?_, ?_, by omega, ?_, ?_, by omega, ?_⟩
  · rw [show (p : Int) + 2 = ((p + 2 : Nat) : Int) by omega]; exact w64_big (by omega) (by omega)
  · rw [show (p : Int) + 2 = ((p + 2 : Nat) : Int) by omega]; exact IntWalk.i64_in _ (by omega)
  · rw [show (p : Int) + 3 = ((p + 3 : Nat) : Int) by omega]; exact w64_big (by omega) (by omega)
  · rw [show (p : Int) + 3 = ((p + 3 : Nat) : Int) by omega]; exact IntWalk.i64_in _ (by omega)
  · rw [← Int.natCast_add]; exact w64_big (by omega) (by omega)
theorem word_ints {x y z : Nat} (hx : x < 256) (hy : y < 256) (hz : z = x * 256 + y) :
    wrap64 ((x : Int) * 256 + (y : Int)) = (z : Int) ∧ IntKind.i64.wrap ((x : Int) * 256) = ((x * 256 : Nat) : Int) ∧ IntKind.i64.wrap (((x * 256 : Nat) : Int) + (y : Int)) = (z : Int) ∧ (x : Int) * 256 + (y : Int) = (z : Int) ∧ IntKind.i64.wrap (x : Int) = (x : Int) ∧ IntKind.i64.wrap (y : Int) = (y : Int) := by
  subst hz
  refine ⟨by unfold wrap64; omega, ?_, ?_, by omega, ?_, ?_⟩
  · rw [IntWalk.i64_in _ (by omega)]; omega
  · rw [IntWalk.i64_in _ (by omega)]; omega
  · exact IntWalk.i64_in _ (by omega)
  · exact IntWalk.i64_in _ (by omega)
theorem size_44 {n x m : Nat} {k : Int} {q : Nat} (h : exSize k n x = some m) (hk : k = (q : Int)) : q = 44 → m = 8 := by
  rintro rfl
  have h2 := (exSize_some h).2.2.2
  rw [hk] at h2
  rw [h2, show exUnit ((44 : Nat) : Int) = 0 from rfl]
  omega
theorem way_fuel {a b f : Nat} (h : a + (f + 1) = 9) (h2 : b = a + 1) : b + f = 9 := by omega
theorem way_nats {p n m : Nat} (hp : p + m ≤ n) (hm : 8 ≤ m) : p < n ∧ p + 2 < n ∧ p + 3 < n := by omega
theorem way_len {L : Nat} (h : L ≤ 8) : wrap64 (((L + 1 : Nat) : Int) - 1) = (L : Int) ∧ wrap64 ((L : Int) + 1 - 1) = (L : Int) ∧ L + 1 ≤ 1000 := by unfold wrap64; omega
set_option maxRecDepth 10000 in
set_option maxHeartbeats 6400000 in
theorem rexway_any (k : Int) (A : Option Addr) (n c : Nat) (bs : List Nat) (w : World) (hc : n ≤ c) (hc2 : n ≤ 140737488351232) (hR : Row w A n bs) :
    Calls Tryz.prog 81 #[.int .i64 k, .slice A n c] w (WayIs w (walkS n bs 9 (Tour.start k) [])) := by
  obtain ⟨R, hRR⟩ : ∃ R, R = walkS n bs 9 (Tour.start k) [] := ⟨_, rfl⟩
  rw [← hRR]
  have HRR := Lib.hid hRR.symm
  have HR := Lib.hid hR
  have HC := Lib.hid (And.intro hc hc2)
  clear hRR hR hc hc2
  go_enter Tryz.func81, Tryz.ntmps81
  go_wp2_with fail
  go_loopg [0, 8, 9] 9 (fun f kd out at' wr => ∃ t S fi, WayInv w n bs R f kd out at' wr t S fi)
  case atStart => exact ⟨Tour.start k, [], -1, rfl, rfl, Steps.nil _ _, Below.refl _ _, steps_start k n bs, rfl, by show (0 : Nat) ≠ 2; decide, rfl, rfl, HRR.out⟩
  case round =>
    obtain ⟨t, S, fi, hI⟩ := hrel
    obtain ⟨f2, rfl⟩ := walk_fuel hI.fuel hI.ok.c8
    obtain rfl := hI.kd
    obtain rfl := hI.at_
    obtain ⟨A8, d8, e8, hd8, _⟩ := hI.out.slice
    subst e8
    have HI := Lib.hid hI
    have HRW : Hid (Row wr A n bs) := HR.out.below hI.below
    obtain ⟨L, hL⟩ : ∃ L, L = S.length := ⟨_, rfl⟩
    have hcl : t.count = L := by rw [hL]; exact hI.ok.count
    have HCL := Lib.hid (And.intro hL hcl)
    have CI := Lib.hid (rexis_any t.proto)
    rw [← hL] at hd8 ⊢
    clear hI hd8
    cases hk : exKind t.proto with
    | false =>
      have HW : Hid (R = (t, S)) := by show R = _; rw [← HI.out.rest]; exact walkS_end hk
      rw [hk] at CI
      obtain ⟨q, hq⟩ : ∃ q, q = t.proto := ⟨_, rfl⟩
      have HQ := Lib.hid hq
      rw [← hq] at CI ⊢
      obtain ⟨p, hp⟩ : ∃ p, p = t.at_ := ⟨_, rfl⟩
      rw [← hp]
      clear hk hL hcl hq hp
      go_wp2_with fail
      refine (CI.out _).mono ?_
      rintro e w' ⟨rfl, rfl⟩
      go_wp2_with fail
      refine bodyPost_ret (results_four rfl _ _ _) rfl ?_
      exact ⟨_, by rw [HW.out, HQ.out, HI.out.ext, HI.out.many]; rfl, by rw [HW.out]; rw [HCL.out.1]; exact HI.out.out, HI.out.below⟩
    | true =>
      rw [hk] at CI
      obtain ⟨p, hp⟩ : ∃ p, p = t.at_ := ⟨_, rfl⟩
      have hpn : p ≤ n := by rw [hp]; exact HI.out.ok.atn
      obtain ⟨kk, hkk⟩ : ∃ kk : Nat, t.proto = (kk : Int) := ⟨_, exKind_nat hk⟩
      have hkt : t.proto.toNat = kk := by rw [hkk]; rfl
      obtain ⟨sz, hsz⟩ : ∃ sz, sz = exSize t.proto (n - t.at_) (bs.getD (t.at_ + 1) 0) := ⟨_, rfl⟩
      have CSZ : Hid (∀ (W : World) (A' : Option Addr) (l' d' : Nat), l' = n - p → Below wr.heap.size wr W → (n - p = 0 ∨ A' = A.map (fun x => x.add p)) → Calls Tryz.prog 99 #[.int .i64 (kk : Nat), .slice A' l' d'] W (RSizeIs sz W)) := fun W A' l' d' hl hW hA => by
        have h := rexsize_any t.proto A' (n - p) d' (bs.drop p) W (Nat.le_trans (Nat.sub_le _ _) (Nat.le_trans HC.out.2 (by decide))) (row_tail (HRW.out.below hW) p hpn A' hA)
        rw [getD_drop, hp, ← hsz, hkk] at h
        rw [hl, hp]
        exact h
      unfold RSizeIs at CSZ
      have pI2 : (p : Int) ≤ (n : Int) := Int.ofNat_le.2 hpn
      have pI : (p : Int) ≤ (c : Int) := Int.ofNat_le.2 (Nat.le_trans hpn HC.out.1)
      have p0 : (0 : Int) ≤ (p : Int) := Int.natCast_nonneg p
      rw [hkk] at CI ⊢
      rw [← hp]
      have HK := Lib.hid (And.intro hk (And.intro hkk (And.intro hkt hp)))
      have HSZ := Lib.hid hsz
      have HPN := Lib.hid hpn
      clear hk hkk hkt hp hsz hpn hL
      by_cases h8 : t.count = 8
      · have HW : Hid (R = ({ t with many := true }, S)) := by show R = _; rw [← HI.out.rest]; exact walkS_many HK.out.1 h8
        have l8 : ((L : Int) == 8) = true := by rw [← hcl, h8]; rfl
        clear h8 hcl CSZ
        go_wp2_with fail
        refine (CI.out _).mono ?_
        rintro e w' ⟨rfl, rfl⟩
        go_wp2_with fail
        refine bodyPost_ret (results_four rfl _ _ _) rfl ?_
        exact ⟨_, by rw [HW.out, HK.out.2.1.symm]; show _ = Ending.returned (.tuple #[_, .int .i64 t.proto, .bool t.ext, .bool true]); rw [HI.out.ext]; rfl, by rw [HW.out]; rw [HCL.out.1]; exact HI.out.out, HI.out.below⟩
      have l8 : ((L : Int) == 8) = false := by rw [← hcl]; exact cnt_eight h8
      have H8 := Lib.hid h8
      clear h8 hcl
      cases hs : sz with
      | none =>
        have HW : Hid (R = ({ t with ext := true }, S)) := by show R = _; rw [← HI.out.rest]; exact walkS_ext HK.out.1 H8.out (by rw [← HSZ.out, hs])
        rw [hs] at CSZ
        clear hs HSZ
        by_cases hcp : c = p
        · have hz : n - p = 0 := tail_zero HC.out.1 hcp
          subst hcp
          go_wp2_with fail
          refine (CI.out _).mono ?_
          rintro e w' ⟨rfl, rfl⟩
          go_wp2_with fail
          refine (CSZ.out _ _ _ _ (by first | rfl | exact hz.symm) (Below.refl _ _) (.inl hz)).mono ?_
          rintro e w' ⟨rfl, rfl⟩
          go_wp2_with fail
          refine bodyPost_ret (results_four rfl _ _ _) rfl ?_
          exact ⟨_, by rw [HW.out, HK.out.2.1.symm]; show _ = Ending.returned (.tuple #[_, .int .i64 t.proto, .bool true, .bool t.many]); rw [HI.out.many]; rfl, by rw [HW.out]; rw [HCL.out.1]; exact HI.out.out, HI.out.below⟩
        · go_wp2_with fail
          refine (CI.out _).mono ?_
          rintro e w' ⟨rfl, rfl⟩
          go_wp2_with fail
          refine (CSZ.out _ _ _ _ rfl (Below.refl _ _) (.inr rfl)).mono ?_
          rintro e w' ⟨rfl, rfl⟩
          go_wp2_with fail
          refine bodyPost_ret (results_four rfl _ _ _) rfl ?_
          exact ⟨_, by rw [HW.out, HK.out.2.1.symm]; show _ = Ending.returned (.tuple #[_, .int .i64 t.proto, .bool true, .bool t.many]); rw [HI.out.many]; rfl, by rw [HW.out]; rw [HCL.out.1]; exact HI.out.out, HI.out.below⟩
      | some m =>
        rw [hs] at CSZ
        have hsm : exSize t.proto (n - t.at_) (bs.getD (t.at_ + 1) 0) = some m := by rw [← HSZ.out, hs]
        obtain ⟨hxk, hm8, hmn0, hmx⟩ := exSize_some hsm
        clear hxk hmx
        have hmn : p + m ≤ n := by have := HPN.out; rw [← HK.out.2.2.2] at hmn0; omega
        have h44 : kk = 44 → m = 8 := size_44 hsm HK.out.2.1
        have hRN := walkS_pass (n := n) (f := f2) (S := S) HK.out.1 H8.out hsm
        rw [HI.out.rest, HK.out.2.2.1] at hRN
        have hmore := steps_more (k := kk) (m := m) HI.out.ok HRW.out.1 H8.out hm8 (by rw [← HK.out.2.2.2]; exact hmn) h44
        have hfl := pass_flags t kk ((bs.drop t.at_).take m) (n - t.at_ - m)
        have hdl : ((bs.drop t.at_).take m).length = m := by rw [List.length_take, List.length_drop, HRW.out.1, ← HK.out.2.2.2]; omega
        have hd0 : ((bs.drop t.at_).take m).getD 0 0 = bs.getD p 0 := by rw [take_drop_at (by omega), ← HK.out.2.2.2, Nat.add_zero]
        rw [hdl, hd0, ← HK.out.2.2.2] at hfl
        rw [← HK.out.2.2.2] at hmore hRN
        obtain ⟨t2, ht2⟩ : ∃ t2, t2 = t.pass kk ((bs.drop p).take m) (n - p - m) := ⟨_, rfl⟩
        rw [← ht2] at hmore hRN
        rw [← ht2] at hfl
        obtain ⟨fj, hfj⟩ : ∃ fj, fj = (if kk = 44 ∧ fi = -1 then (S.length : Int) else fi) := ⟨_, rfl⟩
        rw [← hfj] at hmore
        obtain ⟨S2, hS2⟩ : ∃ S2, S2 = S ++ [(p, kk, m)] := ⟨_, rfl⟩
        rw [← hS2] at hmore hRN
        have hS2l : S2.length = L + 1 := by rw [hS2, List.length_append, HCL.out.1]; rfl
        have HMO := Lib.hid (And.intro hmore.1 (hmore.2 HI.out.frag))
        have HFL := Lib.hid hfl
        have HRN := Lib.hid hRN
        have HS2 := Lib.hid (And.intro hS2 hS2l)
        have HWI := Lib.hid (way_ints hmn hm8 HC.out.1 HC.out.2)
        have ncp := HWI.out.1
        obtain ⟨hpn0, hpn2, hpn3⟩ := way_nats hmn hm8
        have HCE : Hid (∃ b o, A = some ⟨b, o, none⟩ ∧ ∀ W, Below w.heap.size w W → W.cell? ⟨b, o + p, none⟩ = some (.int .u8 (bs.getD p 0 : Nat)) ∧ W.cell? ⟨b, o + (p + 2), none⟩ = some (.int .u8 (bs.getD (p + 2) 0 : Nat)) ∧ W.cell? ⟨b, o + (p + 3), none⟩ = some (.int .u8 (bs.getD (p + 3) 0 : Nat))) := by
          obtain ⟨b, o, e, hbl, hcell⟩ := HR.out.addr (Nat.lt_of_le_of_lt (Nat.zero_le _) hpn0)
          exact ⟨b, o, e, fun W h => ⟨(h.cell (p := ⟨b, o + p, none⟩) hbl).trans (hcell p hpn0), (h.cell (p := ⟨b, o + (p + 2), none⟩) hbl).trans (hcell (p + 2) hpn2), (h.cell (p := ⟨b, o + (p + 3), none⟩) hbl).trans (hcell (p + 3) hpn3)⟩⟩
        have hx0 := HR.out.byte p
        have hx2 := HR.out.byte (p + 2)
        have hx3 := HR.out.byte (p + 3)
        have HWD : Hid (fhw bs (p + 2) = bs.getD (p + 2) 0 * 256 + bs.getD (p + 3) 0) := rfl
        obtain ⟨x0, e0⟩ : ∃ x, x = bs.getD p 0 := ⟨_, rfl⟩
        obtain ⟨x2, e2⟩ : ∃ x, x = bs.getD (p + 2) 0 := ⟨_, rfl⟩
        obtain ⟨x3, e3⟩ : ∃ x, x = bs.getD (p + 3) 0 := ⟨_, rfl⟩
        obtain ⟨wd, ewd⟩ : ∃ x, x = fhw bs (p + 2) := ⟨_, rfl⟩
        rw [← e2, ← e3, ← ewd] at HWD
        rw [← e0] at HFL hx0
        rw [← e0, ← e2, ← e3] at HCE
        rw [← e2] at hx2
        rw [← e3] at hx3
        rw [← ewd] at HMO
        have HZI := Lib.hid (And.intro hx0 (And.intro hx2 (And.intro hx3 (word_ints hx2 hx3 HWD.out))))
        have HL6 : Hid (S.length ≤ 1000000) := by show S.length ≤ _; rw [← HCL.out.1, ← HCL.out.2]; exact Nat.le_trans HI.out.ok.c8 (by decide)
        have HL8 : Hid (L ≤ 8) := by show L ≤ 8; rw [← HCL.out.2]; exact HI.out.ok.c8
        have OUT : Hid (Steps w.heap.size wr (.slice A8 L d8) S) := by show Steps _ _ _ _; rw [HCL.out.1]; exact HI.out.out
        have CF : Hid (∀ (W : World) (v : Value), Steps w.heap.size W v S2 → Calls Tryz.prog 82 #[v] W fun e w' => e = .returned (.int .i64 fj) ∧ W = w') := fun W v h => rfirst_any v S2 fj W h.read HMO.out.1.first (by rw [HS2.out.2]; exact (way_len HL8.out).2.2)
        clear hs hsm hm8 hmn0 hmn h44 hRN hmore hfl hdl hd0 ht2 hfj hS2 hS2l e0 e2 e3 ewd hpn0 hpn2 hpn3 hx0 hx2 hx3
        go_wp2_with fail
        refine (CI.out _).mono ?_
        rintro e w' ⟨rfl, rfl⟩
        go_wp2_with fail
        refine (CSZ.out _ _ _ _ rfl (Below.refl _ _) (.inr rfl)).mono ?_
        rintro e w' ⟨rfl, rfl⟩
        go_upto_region 9 with fail
        go_upto_region 10 with (at_builtin; refine wpList_append_step (B := w.heap.size) (W := w) (S := S) (p := p) (k := kk) (m := m) rfl (.tmp 32) (.tmp 37) rfl rfl rfl OUT.out HI.out.below HI.out.below.size HL6.out ?_; intro v6 w6 ho6 hb6; have O6 := Lib.hid ho6; have B6 := Lib.hid hb6; clear ho6 hb6)
        obtain ⟨A6, d6, e6, hd6, _⟩ := O6.out.slice
        rw [← HS2.out.1, HS2.out.2] at e6
        rw [← HS2.out.1] at O6
        subst e6
        obtain ⟨b, o, rfl, hce⟩ := HCE.out
        obtain ⟨q0, q2, q3⟩ := hce _ B6.out
        clear hce HCE
        clear hd6 CI CSZ HRW OUT
        obtain ⟨_, pn, i2, i2', l2, i3, i3', l3, im0⟩ := HWI.out
        obtain ⟨hx0, hx2, hx3, z1, z2, z3, z4, z5, z6⟩ := HZI.out
        obtain ⟨zz, hzz⟩ : ∃ zz, zz = p + m := ⟨_, rfl⟩
        have im : wrap64 ((p : Int) + (m : Int)) = (zz : Int) := by rw [im0, hzz]
        rw [← hzz] at HFL
        obtain ⟨L9, L9b, _⟩ := way_len HL8.out
        have HIM := Lib.hid (And.intro im (And.intro L9 L9b))
        clear im0 im hzz HWI HZI L9 L9b
        by_cases h44 : kk = 44
        · subst h44
          by_cases h8w : 8 ≤ wd
          · have w8 : (8 : Int) ≤ (wd : Int) := Int.ofNat_le.2 h8w
            have HFQ : Hid (t2.frag = 2 ↔ fj = (L : Int)) := by
              show _ ↔ _
              rw [HMO.out.2, HCL.out.1]
              exact ⟨fun h => h.2.2, fun h => ⟨rfl, h8w, h⟩⟩
            clear h8w
            go_quiet (fail)
            have O7 : Hid (Steps w.heap.size (w6.drewN nq) (.slice A6 (L + 1) d6) S2) := O6.out
            have B7 : Hid (Below w.heap.size w (w6.drewN nq)) := below_drewN' B6.out nq
            clear i2 i2' l2 i3 i3' l3 z1 z2 z3 z4 z5 z6 hx2 hx3 q2 q3
            obtain ⟨im, L9, L9b⟩ := HIM.out
            go_wp2_with fail
            refine (CF.out _ _ O7.out).mono ?_
            rintro e w' ⟨rfl, rfl⟩
            by_cases hfL : fj = (L : Int)
            · have HW : Hid (R = (t2, S2)) := by show R = _; rw [HRN.out, if_pos (HFQ.out.2 hfL)]
              have fb : (fj == (L : Int)) = true := by rw [hfL]; simp
              clear hfL
              go_wp2_with fail
              refine bodyPost_ret (results_four rfl _ _ _) rfl ?_
              exact ⟨_, by rw [HW.out]; show _ = Ending.returned (.tuple #[_, .int .i64 t2.proto, .bool t2.ext, .bool t2.many]); rw [HFL.out.2.2.1, HFL.out.1, HFL.out.2.1, HI.out.ext, HI.out.many]; rfl, by rw [HW.out]; exact O7.out, B7.out⟩
            · have HNF : Hid (t2.frag ≠ 2) := fun h => hfL (HFQ.out.1 h)
              have fb : (fj == (L : Int)) = false := beq_false_of_ne hfL
              clear hfL
              go_wp2_with fail
              go_roundg f2
              case rel => exact ⟨t2, S2, fj, by rw [HFL.out.2.2.1], by rw [HFL.out.2.2.2.1], O7.out, B7.out, HMO.out.1, by have h := HFL.out.2.2.2.2; have h2 := HI.out.fuel; exact way_fuel h2 h, HNF.out, by rw [HFL.out.1]; exact HI.out.ext, by rw [HFL.out.2.1]; exact HI.out.many, by rw [HRN.out, if_neg HNF.out]⟩
              case measure => exact Nat.lt_succ_self _
          · have w8 : ¬ (8 : Int) ≤ (wd : Int) := fun h => h8w (Int.ofNat_le.1 h)
            have HNF : Hid (t2.frag ≠ 2) := fun h => h8w (HMO.out.2.1 h).2.1
            clear h8w
            go_quiet (fail)
            clear i2 i2' l2 i3 i3' l3 z1 z2 z3 z4 z5 z6 hx2 hx3 q2 q3
            obtain ⟨im, L9, L9b⟩ := HIM.out
            go_wp2_with fail
            go_roundg f2
            case rel => exact ⟨t2, S2, fj, by rw [HFL.out.2.2.1], by first | (rw [HFL.out.2.2.2.1]; done) | rw [HFL.out.2.2.2.1, im], O6.out, below_drewN' B6.out _, HMO.out.1, by have h := HFL.out.2.2.2.2; have h2 := HI.out.fuel; exact way_fuel h2 h, HNF.out, by rw [HFL.out.1]; exact HI.out.ext, by rw [HFL.out.2.1]; exact HI.out.many, by rw [HRN.out, if_neg HNF.out]⟩
            case measure => exact Nat.lt_succ_self _
        · have k4 := kind_ne h44
          have HNF : Hid (t2.frag ≠ 2) := fun h => h44 (HMO.out.2.1 h).1
          clear h44
          go_quiet (fail)
          clear i2 i2' l2 i3 i3' l3 z1 z2 z3 z4 z5 z6 hx2 hx3 q2 q3
          obtain ⟨im, L9, L9b⟩ := HIM.out
          go_wp2_with fail
          go_roundg f2
          case rel => exact ⟨t2, S2, fj, by rw [HFL.out.2.2.1], by first | (rw [HFL.out.2.2.2.1]; done) | rw [HFL.out.2.2.2.1, im], O6.out, below_drewN' B6.out _, HMO.out.1, by have h := HFL.out.2.2.2.2; have h2 := HI.out.fuel; exact way_fuel h2 h, HNF.out, by rw [HFL.out.1]; exact HI.out.ext, by rw [HFL.out.2.1]; exact HI.out.many, by rw [HRN.out, if_neg HNF.out]⟩
          case measure => exact Nat.lt_succ_self _
end Go.Proofs.YtmchclpkjjmocaaGreat
