/-
  Contracts of octet.Cut and octet.Put: a copy of some bytes; a copy with a number put in; or which error.
-/
import Derived.Test.YtlopmkmcjcijcaaOct2
import Derived.Test.YtlopmkmcjcijcaaOwn
namespace Go.Proofs.Ytlopmkmcjcijcaa
open Go.RowKit
set_option linter.unusedVariables false
set_option maxRecDepth 10000

theorem cut_range (A : Option Addr) (n cap : Nat) (a m : Int) (w : World) (h : a < 0 ∨ m < 0) :
    Calls Try.prog 57 #[.slice A n cap, .int .i64 a, .int .i64 m] w fun e w' => e = .returned (.tuple #[.slice none 0 0, .int .i64 1]) ∧ w = w' := by
  by_cases h1 : a < 0
  · clear h
    go_enter Try.func57, Try.ntmps57
    go_wp2
    go_ret2
    exact ⟨rfl, rfl⟩
  · have h2 : m < 0 := by omega
    clear h
    go_enter Try.func57, Try.ntmps57
    go_wp2
    go_ret2
    exact ⟨rfl, rfl⟩
theorem cut_short (A : Option Addr) (n cap : Nat) (a m : Int) (w : World) (hn : n ≤ 9223372036854775807) (h0 : 0 ≤ a) (h1 : 0 ≤ m) (h : n < a + m) :
    Calls Try.prog 57 #[.slice A n cap, .int .i64 a, .int .i64 m] w fun e w' => e = .returned (.tuple #[.slice none 0 0, .int .i64 2]) ∧ w = w' := by
  go_enter Try.func57, Try.ntmps57
  go_wp2_with (go_at_call 84; refine (holds_no _ _ _ _ _ _ hn h0 (by omega) h).mono ?_; rintro e w' ⟨rfl, rfl⟩)
  go_ret2
  exact ⟨rfl, rfl⟩

/-- What Cut answers: new memory with these bytes. -/
def CutTo (w : World) (l : List Nat) (e : Ending) (w' : World) : Prop :=
  e = .returned (.tuple #[.slice (some ⟨w.heap.size, 0, none⟩) l.length l.length, .int .i64 0]) ∧ Own w' w.heap.size l ∧ Below w.heap.size w w'

theorem cut_far (A : Option Addr) (n cap a m : Nat) (bs : List Nat) (w : World) (hcap : n ≤ cap) (hreach : n ≤ 140737488355328) (h : a + m ≤ n) (hA : Row w A n bs) :
    Calls Try.prog 57 #[.slice A n cap, .int .i64 a, .int .i64 m] w (CutTo w ((bs.drop a).take m)) := by
  have hmk := make_bytes m (by omega)
  obtain ⟨l, hl⟩ : ∃ l, l = (bs.drop a).take m := ⟨_, rfl⟩
  have hlen : l.length = m := by rw [hl, List.length_take, List.length_drop, hA.1]; omega
  have hcs : 0 < m → ∃ b o, A = some ⟨b, o, none⟩ ∧ ∀ j v, (bcells l)[j]? = some v → (w.alloc (.cells (bcells (List.replicate m 0)).toArray 5)).cell? ⟨b, o + a + j, none⟩ = some v := by
    intro h0
    obtain ⟨b, o, rfl, hb, hc⟩ := hA.addr (by omega)
    refine ⟨b, o, rfl, fun j v hj => ?_⟩
    obtain ⟨hj, rfl⟩ := bcells_get hj
    rw [World.cell?_alloc_lt w _ ⟨b, o + a + j, none⟩ hb, show o + a + j = o + (a + j) from by omega, hc _ (by omega)]
    have : l.getD j 0 = bs.getD (a + j) 0 := by
      rw [hl, List.getD_eq_getElem?_getD, List.getD_eq_getElem?_getD, List.getElem?_take, if_pos (by omega), List.getElem?_drop]
    rw [this]
  rw [← hl]
  clear hl hA
  by_cases hac : a = cap
  · subst hac
    obtain ⟨w2, hcp, ho, hb⟩ := copy_new (w.alloc (.cells (bcells (List.replicate m 0)).toArray 5)) w.heap.size m (List.replicate m 0) l A 0 0 (Own.new w _) (by simp) hlen (by omega) (fun h => absurd h (by omega))
    have hfin : CutTo w l (.returned (.tuple #[.slice (some ⟨w.heap.size, 0, none⟩) m m, .int .i64 0])) w2 := ⟨by rw [hlen], ho, ((Below.refl _ _).alloc (Nat.le_refl _) _).trans hb⟩
    clear hcs ho hb hlen
    have HF := Lib.hid hfin
    clear hfin
    go_enter Try.func57, Try.ntmps57
    go_wp2_with (go_at_call 84; refine (holds_yes _ _ _ _ _ _ (by omega) (by omega) (by omega) (by omega)).mono ?_; rintro e w' ⟨rfl, rfl⟩)
    go_ret2
    exact HF.out
  · obtain ⟨w2, hcp, ho, hb⟩ := copy_new (w.alloc (.cells (bcells (List.replicate m 0)).toArray 5)) w.heap.size m (List.replicate m 0) l (A.map (fun x => x.add a)) (n - a) (cap - a) (Own.new w _) (by simp) hlen (by omega)
      (fun h0 => by obtain ⟨b, o, rfl, hc⟩ := hcs h0; exact ⟨⟨b, o + a, none⟩, by simp [add_flat], fun j v hj => by rw [add_flat]; exact hc j v hj⟩)
    have hfin : CutTo w l (.returned (.tuple #[.slice (some ⟨w.heap.size, 0, none⟩) m m, .int .i64 0])) w2 := ⟨by rw [hlen], ho, ((Below.refl _ _).alloc (Nat.le_refl _) _).trans hb⟩
    clear hcs ho hb hlen
    have HF := Lib.hid hfin
    clear hfin
    go_enter Try.func57, Try.ntmps57
    go_wp2_with (go_at_call 84; refine (holds_yes _ _ _ _ _ _ (by omega) (by omega) (by omega) (by omega)).mono ?_; rintro e w' ⟨rfl, rfl⟩)
    go_ret2
    exact HF.out
theorem cut_ok (A : Option Addr) (n cap a m : Nat) (bs : List Nat) (w : World) (hcap : n ≤ cap) (hreach : cap ≤ 140737488351232) (h : a + m ≤ n) (hA : Row w A n bs) :
    Calls Try.prog 57 #[.slice A n cap, .int .i64 a, .int .i64 m] w (CutTo w ((bs.drop a).take m)) := cut_far A n cap a m bs w hcap (by omega) h hA
end Go.Proofs.Ytlopmkmcjcijcaa
