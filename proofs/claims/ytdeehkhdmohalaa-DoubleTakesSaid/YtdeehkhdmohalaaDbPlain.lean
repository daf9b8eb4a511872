/-
  Plain facts of a meter of two rates, written ahead of the code of layer 27. Nothing of the program.
-/
import Derived.Test.YtdeehkhdmohalaaSgPlain
namespace Go.Proofs.Ytdeehkhdmohalaa
set_option linter.unusedVariables false

/-- What is wrong with a meter of two rates. -/
def dbCheck (m : Mt) : Int := if m.kind ≠ 2 then 10 else if m.peak < m.rate ∨ 1099511627776 < m.peak then 16 else if m.burst < 1 ∨ 4294967296 < m.burst ∨ m.extra < 1 ∨ 4294967296 < m.extra then 17 else 0
/-- Both buckets at a time, and the time. -/
def dbLater (m : Mt) (s : Lv) (t : Nat) : Lv :=
  ⟨s.one + bkPut s.one (1000000000 * m.burst) (m.rate * rtGap s.last s.seen t), s.two + bkPut s.two (1000000000 * m.extra) (m.peak * rtGap s.last s.seen t), rtNow s.last s.seen t, true⟩
def dbTake (x : Lv) (size c : Int) : Lv × Int :=
  if c = 2 ∨ bkCan x.two size = false then (x, 2)
  else if c = 1 ∨ bkCan x.one size = false then (⟨x.one, x.two - bkN size, x.last, x.seen⟩, 1)
  else (⟨x.one - bkN size, x.two - bkN size, x.last, x.seen⟩, 0)
def dbStep (m : Mt) (s : Lv) (t : Nat) (size pre : Int) : Lv × Int :=
  if dbCheck m ≠ 0 ∨ size < 0 then (s, 2) else dbTake (dbLater m s t) size (sgCol m.aware pre)
theorem dbCheck_ok {m : Mt} (h : dbCheck m = 0) : m.kind = 2 ∧ m.rate ≤ m.peak ∧ m.peak ≤ 1099511627776 ∧ (1 ≤ m.burst ∧ m.burst ≤ 4294967296) ∧ 1 ≤ m.extra ∧ m.extra ≤ 4294967296 := by
  unfold dbCheck at h
  split at h
  · cases h
  · split at h
    · cases h
    · split at h
      · cases h
      · rename_i h1 h2 h3
        refine ⟨Classical.not_not.1 h1, ?_⟩
        omega
theorem dbLater_rim {m : Mt} {s : Lv} (t : Nat) (h1 : s.one ≤ 1000000000 * m.burst) (h2 : s.two ≤ 1000000000 * m.extra) : (dbLater m s t).one ≤ 1000000000 * m.burst ∧ (dbLater m s t).two ≤ 1000000000 * m.extra := by
  have a := (bkPut_le s.one (1000000000 * m.burst) (m.rate * rtGap s.last s.seen t)).2
  have b := (bkPut_le s.two (1000000000 * m.extra) (m.peak * rtGap s.last s.seen t)).2
  exact ⟨by show s.one + _ ≤ _; omega, by show s.two + _ ≤ _; omega⟩
/-- A packet of no bytes: only the time goes on. -/
theorem db_idle {m : Mt} {s : Lv} (t : Nat) (h : dbCheck m = 0) : dbStep m s t 0 0 = (dbLater m s t, 0) := by
  have hc : sgCol m.aware 0 = 0 := by unfold sgCol; split <;> simp
  unfold dbStep
  rw [if_neg (by rw [h]; simp), hc]
  unfold dbTake
  rw [if_neg (by rw [bkN_zero.2]; simp), if_neg (by rw [bkN_zero.2]; simp), bkN_zero.1]
  rfl
/-- What a packet is taken from: green from both, yellow from the second alone, red from none. -/
theorem db_takes {m : Mt} {s : Lv} {t : Nat} {size pre : Int} (h : dbCheck m = 0) (hs : 0 ≤ size) (h1 : s.one ≤ 1000000000 * m.burst) (h2 : s.two ≤ 1000000000 * m.extra) :
    ∃ c one two, dbStep m s t size pre = (⟨one, two, (dbLater m s t).last, true⟩, c) ∧ 0 ≤ c ∧ c ≤ 2 ∧ one ≤ 1000000000 * m.burst ∧ two ≤ 1000000000 * m.extra ∧
      (c = 0 → bkIs size = true ∧ one + bkN size = (dbLater m s t).one ∧ two + bkN size = (dbLater m s t).two) ∧ (c = 1 → bkIs size = true ∧ one = (dbLater m s t).one ∧ two + bkN size = (dbLater m s t).two) ∧
      (c = 2 → one = (dbLater m s t).one ∧ two = (dbLater m s t).two) ∧ sgCol m.aware pre ≤ c := by
  obtain ⟨r1, r2⟩ := dbLater_rim (m := m) (s := s) t h1 h2
  obtain ⟨k0, k2⟩ := sgCol_in m.aware pre
  unfold dbStep
  rw [if_neg (by rw [h]; simp; omega)]
  unfold dbTake
  split
  · exact ⟨2, _, _, rfl, by omega, by omega, r1, r2, fun e => (by cases e), fun e => (by cases e), fun _ => ⟨rfl, rfl⟩, by omega⟩
  · rename_i hn
    have ht : bkCan (dbLater m s t).two size = true := by
      cases hb : bkCan (dbLater m s t).two size
      · exact absurd (.inr hb) hn
      · rfl
    have hc2 : sgCol m.aware pre ≠ 2 := fun e => hn (.inl e)
    obtain ⟨_, q1, q2⟩ := bkleft_can ht
    split
    · exact ⟨1, _, _, rfl, by omega, by omega, r1, by omega, fun e => (by cases e), fun _ => ⟨q2, rfl, by omega⟩, fun e => (by cases e), by omega⟩
    · rename_i hn2
      have ho : bkCan (dbLater m s t).one size = true := by
        cases hb : bkCan (dbLater m s t).one size
        · exact absurd (.inr hb) hn2
        · rfl
      have hc1 : sgCol m.aware pre ≠ 1 := fun e => hn2 (.inl e)
      obtain ⟨_, p1, _⟩ := bkleft_can ho
      exact ⟨0, _, _, rfl, by omega, by omega, by omega, by omega, fun _ => ⟨q2, by omega, by omega⟩, fun e => (by cases e), fun e => (by cases e), by omega⟩
end Go.Proofs.Ytdeehkhdmohalaa
