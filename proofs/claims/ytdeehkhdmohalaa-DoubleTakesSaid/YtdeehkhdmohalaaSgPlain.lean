/-
  Plain facts of a meter of one rate, written ahead of the code of layer 26. Nothing of the program.
-/
import Derived.Test.YtdeehkhdmohalaaBkPlain
import Derived.Test.YtdeehkhdmohalaaRtPlain
namespace Go.Proofs.Ytdeehkhdmohalaa
set_option linter.unusedVariables false

structure Mt where
  kind : Int
  aware : Bool
  rate : Nat
  peak : Nat
  burst : Nat
  extra : Nat
structure Lv where
  one : Nat
  two : Nat
  last : Nat
  seen : Bool
/-- What is wrong with a meter of one rate. -/
def sgCheck (m : Mt) : Int := if m.kind ≠ 1 then 10 else if 1099511627776 < m.rate ∨ m.peak ≠ 0 then 16 else if 4294967296 < m.burst ∨ 4294967296 < m.extra ∨ (m.burst = 0 ∧ m.extra = 0) then 17 else 0
/-- What a colour ahead counts as. -/
def sgCol (aware : Bool) (pre : Int) : Int := if aware = true then (if pre < 0 ∨ 2 < pre then 2 else pre) else 0
def sgOver (m : Mt) (s : Lv) (t : Nat) : Nat := m.rate * rtGap s.last s.seen t - bkPut s.one (1000000000 * m.burst) (m.rate * rtGap s.last s.seen t)
/-- Both buckets at a time, and the time. -/
def sgLater (m : Mt) (s : Lv) (t : Nat) : Lv :=
  ⟨s.one + bkPut s.one (1000000000 * m.burst) (m.rate * rtGap s.last s.seen t), s.two + bkPut s.two (1000000000 * m.extra) (sgOver m s t), rtNow s.last s.seen t, true⟩
def sgTake (x : Lv) (size c : Int) : Lv × Int :=
  if bkCan x.one size = true ∧ c = 0 then (⟨x.one - bkN size, x.two, x.last, x.seen⟩, 0)
  else if bkCan x.two size = true ∧ c ≠ 2 then (⟨x.one, x.two - bkN size, x.last, x.seen⟩, 1)
  else (x, 2)
def sgStep (m : Mt) (s : Lv) (t : Nat) (size pre : Int) : Lv × Int :=
  if sgCheck m ≠ 0 ∨ size < 0 then (s, 2) else sgTake (sgLater m s t) size (sgCol m.aware pre)
def sgNew (m : Mt) : Lv := ⟨1000000000 * m.burst, 1000000000 * m.extra, 0, false⟩

theorem sgCheck_ok {m : Mt} (h : sgCheck m = 0) : m.kind = 1 ∧ m.rate ≤ 1099511627776 ∧ m.peak = 0 ∧ m.burst ≤ 4294967296 ∧ m.extra ≤ 4294967296 := by
  unfold sgCheck at h
  split at h
  · cases h
  · split at h
    · cases h
    · split at h
      · cases h
      · rename_i h1 h2 h3
        refine ⟨Classical.not_not.1 h1, ?_, ?_, ?_, ?_⟩
        · exact Nat.not_lt.1 fun k => h2 (.inl k)
        · exact Classical.not_not.1 fun k => h2 (.inr k)
        · exact Nat.not_lt.1 fun k => h3 (.inl k)
        · exact Nat.not_lt.1 fun k => h3 (.inr (.inl k))
theorem sgCol_in (aware : Bool) (pre : Int) : 0 ≤ sgCol aware pre ∧ sgCol aware pre ≤ 2 := by
  unfold sgCol
  split
  · split <;> omega
  · omega
/-- No bucket passes its rim. -/
theorem sgLater_rim {m : Mt} {s : Lv} (t : Nat) (h1 : s.one ≤ 1000000000 * m.burst) (h2 : s.two ≤ 1000000000 * m.extra) : (sgLater m s t).one ≤ 1000000000 * m.burst ∧ (sgLater m s t).two ≤ 1000000000 * m.extra := by
  have a := (bkPut_le s.one (1000000000 * m.burst) (m.rate * rtGap s.last s.seen t)).2
  have b := (bkPut_le s.two (1000000000 * m.extra) (sgOver m s t)).2
  exact ⟨by show s.one + _ ≤ _; omega, by show s.two + _ ≤ _; omega⟩
theorem bkN_zero : bkN 0 = 0 ∧ ∀ l, bkCan l 0 = true := ⟨by decide, fun l => by unfold bkCan; rw [show bkIs 0 = true by decide, show bkN 0 = 0 by decide]; simp⟩
/-- A packet of no bytes: only the time goes on. -/
theorem sg_idle {m : Mt} {s : Lv} (t : Nat) (h : sgCheck m = 0) : sgStep m s t 0 0 = (sgLater m s t, 0) := by
  have hc : sgCol m.aware 0 = 0 := by unfold sgCol; split <;> simp
  unfold sgStep
  rw [if_neg (by rw [h]; simp), hc]
  unfold sgTake
  rw [if_pos ⟨bkN_zero.2 _, rfl⟩, bkN_zero.1]
  rfl
/-- At the greatest time so far a packet is coloured as it is at its own. -/
theorem sg_greatest (m : Mt) (s : Lv) (t : Nat) (size pre : Int) (h : s.seen = true) : sgStep m s (max s.last t) size pre = sgStep m s t size pre := by
  have e1 : rtNow s.last s.seen (max s.last t) = rtNow s.last s.seen t := by
    unfold rtNow
    rw [h, if_pos rfl, if_pos rfl]
    omega
  have e2 : rtGap s.last s.seen (max s.last t) = rtGap s.last s.seen t := by
    unfold rtGap
    rw [h, if_pos rfl, if_pos rfl]
    omega
  unfold sgStep sgLater sgOver
  rw [e1, e2]
/-- A level whose time is later by d. -/
def Lv.later (s : Lv) (d : Nat) : Lv := ⟨s.one, s.two, if s.seen = true then s.last + d else s.last, s.seen⟩
theorem sg_shift (m : Mt) (s : Lv) (t d : Nat) (size pre : Int) : (sgStep m (s.later d) (t + d) size pre).2 = (sgStep m s t size pre).2 ∧ (sgStep m (s.later d) (t + d) size pre).1 = (sgStep m s t size pre).1.later d := by
  have e2 : rtGap (s.later d).last (s.later d).seen (t + d) = rtGap s.last s.seen t := by
    unfold rtGap Lv.later
    dsimp only
    cases hs : s.seen
    · rfl
    · simp only [if_true]
      omega
  have e1 : rtNow (s.later d).last (s.later d).seen (t + d) = rtNow s.last s.seen t + d := by
    unfold rtNow Lv.later
    dsimp only
    cases hs : s.seen
    · simp
    · simp only [if_true]
      omega
  have e3 : sgLater m (s.later d) (t + d) = (sgLater m s t).later d := by
    unfold sgLater sgOver
    rw [e1, e2]
    unfold Lv.later
    simp
  unfold sgStep
  by_cases h : sgCheck m ≠ 0 ∨ size < 0
  · rw [if_pos h, if_pos h]
    exact ⟨rfl, rfl⟩
  · rw [if_neg h, if_neg h, e3]
    unfold sgTake
    have o1 : ((sgLater m s t).later d).one = (sgLater m s t).one := rfl
    have o2 : ((sgLater m s t).later d).two = (sgLater m s t).two := rfl
    rw [o1, o2]
    split
    · exact ⟨rfl, rfl⟩
    · split <;> exact ⟨rfl, rfl⟩
/-- What a packet is taken from. -/
theorem sg_takes {m : Mt} {s : Lv} {t : Nat} {size pre : Int} (h : sgCheck m = 0) (hs : 0 ≤ size) (h1 : s.one ≤ 1000000000 * m.burst) (h2 : s.two ≤ 1000000000 * m.extra) :
    ∃ c one two, sgStep m s t size pre = (⟨one, two, (sgLater m s t).last, true⟩, c) ∧ 0 ≤ c ∧ c ≤ 2 ∧ one ≤ 1000000000 * m.burst ∧ two ≤ 1000000000 * m.extra ∧
      (c = 0 → bkIs size = true ∧ one + bkN size = (sgLater m s t).one ∧ two = (sgLater m s t).two) ∧ (c = 1 → bkIs size = true ∧ one = (sgLater m s t).one ∧ two + bkN size = (sgLater m s t).two) ∧
      (c = 2 → one = (sgLater m s t).one ∧ two = (sgLater m s t).two) ∧ sgCol m.aware pre ≤ c := by
  obtain ⟨r1, r2⟩ := sgLater_rim (m := m) (s := s) t h1 h2
  obtain ⟨k0, k2⟩ := sgCol_in m.aware pre
  unfold sgStep
  rw [if_neg (by rw [h]; simp; omega)]
  unfold sgTake
  split
  · rename_i hc
    obtain ⟨_, q1, q2⟩ := bkleft_can hc.1
    exact ⟨0, _, _, rfl, by omega, by omega, by omega, r2, fun _ => ⟨q2, by omega, rfl⟩, fun e => (by cases e), fun e => (by cases e), by omega⟩
  · split
    · rename_i hn hc
      obtain ⟨_, q1, q2⟩ := bkleft_can hc.1
      have hc2 := hc.2
      exact ⟨1, _, _, rfl, by omega, by omega, r1, by omega, fun e => (by cases e), fun _ => ⟨q2, rfl, by omega⟩, fun e => (by cases e), by omega⟩
    · exact ⟨2, _, _, rfl, by omega, by omega, r1, r2, fun e => (by cases e), fun e => (by cases e), fun _ => ⟨rfl, rfl⟩, by omega⟩
end Go.Proofs.Ytdeehkhdmohalaa
