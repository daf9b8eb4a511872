/-
  Words for the contracts of this seat: 'Row w A n bs' says that a slice value with address A and length n reads as the bytes bs. Nothing is claimed of the program here.
-/
import Derived.Test.YtemgnaalmgkfiaaProg
import Derived.WalkKit
import Derived.WalkSmall
import Derived.ProofKit
import Derived.OpenShut
import Derived.Lib.Hide
import Derived.Deep.QuietTactic
import Derived.BigQuiet
namespace Go.Proofs.Ytemgnaalmgkfiaa
open Go.RowKit

/-- A slice with address A and length n reads as the bytes bs. -/
def Row (w : World) (A : Option Addr) (n : Nat) (bs : List Nat) : Prop :=
  bs.length = n ∧ (∀ x ∈ bs, x < 256) ∧ ∀ i, i < n → ∃ b o, A = some ⟨b, o, none⟩ ∧ w.cell? ⟨b, o + i, none⟩ = some (.int .u8 (bs.getD i 0 : Nat))

theorem cell_lt {w : World} {p : Addr} {v : Value} (h : w.cell? p = some v) : p.block < w.heap.size := by
  rcases Nat.lt_or_ge p.block w.heap.size with hlt | hge
  · exact hlt
  · rw [World.cell?, Array.getElem?_eq_none hge] at h
    cases h

theorem add_flat (b o j : Nat) : (⟨b, o, none⟩ : Addr).add j = ⟨b, o + j, none⟩ := by
  unfold Addr.add
  split <;> simp_all

theorem Row.len {w : World} {A : Option Addr} {n : Nat} {bs : List Nat} (h : Row w A n bs) : bs.length = n := h.1
theorem Row.byte {w : World} {A : Option Addr} {n : Nat} {bs : List Nat} (h : Row w A n bs) (i : Nat) : bs.getD i 0 < 256 := by
  rcases Nat.lt_or_ge i bs.length with hi | hi
  · rw [List.getD_eq_getElem?_getD, List.getElem?_eq_getElem hi]
    exact h.2.1 _ (List.getElem_mem hi)
  · rw [List.getD_eq_getElem?_getD, List.getElem?_eq_none hi]; decide

/-- Where it has an element, it has an address, and all its cells are known. -/
theorem Row.addr {w : World} {A : Option Addr} {n : Nat} {bs : List Nat} (h : Row w A n bs) (hn : 0 < n) :
    ∃ b o, A = some ⟨b, o, none⟩ ∧ b < w.heap.size ∧ ∀ i, i < n → w.cell? ⟨b, o + i, none⟩ = some (.int .u8 (bs.getD i 0 : Nat)) := by
  obtain ⟨b, o, rfl, hc⟩ := h.2.2 0 hn
  refine ⟨b, o, rfl, cell_lt hc, fun i hi => ?_⟩
  obtain ⟨b', o', he, hc'⟩ := h.2.2 i hi
  injection he with he
  injection he with h1 h2
  subst h1 h2
  exact hc'

theorem Row.mk {w : World} {b o n : Nat} {bs : List Nat} (hl : bs.length = n) (hb : ∀ x ∈ bs, x < 256) (hc : ∀ i, i < n → w.cell? ⟨b, o + i, none⟩ = some (.int .u8 (bs.getD i 0 : Nat))) : Row w (some ⟨b, o, none⟩) n bs :=
  ⟨hl, hb, fun i hi => ⟨b, o, rfl, hc i hi⟩⟩

theorem Row.keep {w w' : World} {A : Option Addr} {n : Nat} {bs : List Nat} (h : Row w A n bs) (hk : ∀ p, p.block < w.heap.size → w'.cell? p = w.cell? p) : Row w' A n bs :=
  ⟨h.1, h.2.1, fun i hi => by
    obtain ⟨b, o, he, hc⟩ := h.2.2 i hi
    exact ⟨b, o, he, (hk _ (cell_lt hc)).trans hc⟩⟩
theorem Row.below {w w' : World} {A : Option Addr} {n : Nat} {bs : List Nat} (h : Row w A n bs) (hb : Below w.heap.size w w') : Row w' A n bs := h.keep fun _ hp => hb.cell hp
theorem Row.drewN {w : World} {A : Option Addr} {n : Nat} {bs : List Nat} (h : Row w A n bs) (k : Nat) : Row (w.drewN k) A n bs := h
theorem Row.alloc {w : World} {A : Option Addr} {n : Nat} {bs : List Nat} (h : Row w A n bs) (o : Obj) : Row (w.alloc o) A n bs := h.keep fun p hp => World.cell?_alloc_lt w o p hp

theorem Row.nil (w : World) (A : Option Addr) : Row w A 0 [] := ⟨rfl, by simp, fun _ h => absurd h (by omega)⟩

/-- A part of it, where it is not empty. -/
theorem Row.part {w : World} {b o n : Nat} {bs : List Nat} (h : Row w (some ⟨b, o, none⟩) n bs) (i m : Nat) (hm : i + m ≤ n) : Row w (some ⟨b, o + i, none⟩) m ((bs.drop i).take m) := by
  have hl := h.1
  refine ⟨by simp; omega, fun x hx => h.2.1 x (List.mem_of_mem_drop (List.mem_of_mem_take hx)), fun j hj => ⟨b, o + i, rfl, ?_⟩⟩
  obtain ⟨b', o', he, hc⟩ := h.2.2 (i + j) (by omega)
  injection he with he
  injection he with h1 h2
  subst h1 h2
  rw [show o + i + j = o + (i + j) from by omega, hc]
  have : (List.take m (List.drop i bs)).getD j 0 = bs.getD (i + j) 0 := by
    rw [List.getD_eq_getElem?_getD, List.getD_eq_getElem?_getD, List.getElem?_take, if_pos hj, List.getElem?_drop]
  rw [this]

theorem below_drewN' {B : Nat} {a w : World} (h : Below B a w) (n : Nat) : Below B a (w.drewN n) := ⟨h.os, h.tape, h.output, h.size, h.block⟩
theorem below_both {a b c : World} (h : Below a.heap.size a b) (k : Below b.heap.size b c) : Below a.heap.size a c := h.trans (k.mono h.size)


/-- It answers v and at most draws. -/
def Quiet (v : Value) (w : World) (e : Ending) (w' : World) : Prop := e = .returned v ∧ ∃ q, w' = w.drewN q
theorem quiet_eq {P : Program} {f : FuncId} {args : Array Value} {w : World} {n : Nat} {v : Value} (h : Calls P f args (w.drewN n) fun e w' => e = .returned v ∧ w.drewN n = w') :
    Calls P f args (w.drewN n) fun e w'' => e = .returned v ∧ ∃ m, w'' = w.drewN m := h.mono fun _ _ ⟨he, hm⟩ => ⟨he, n, hm.symm⟩
theorem quiet_quiet {P : Program} {f : FuncId} {args : Array Value} {w : World} {n : Nat} {v : Value} (h : Calls P f args (w.drewN n) (Quiet v (w.drewN n))) :
    Calls P f args (w.drewN n) fun e w'' => e = .returned v ∧ ∃ m, w'' = w.drewN m := h.mono fun _ _ ⟨he, m, hm⟩ => ⟨he, n + m, by rw [hm, World.drewN_drewN]⟩

theorem new_cell (w : World) (v : Value) (t : TypeId) (g : Nat) (hg : w.heap.size = g) : (w.alloc (.cells #[v] t)).cell? ⟨g, 0, none⟩ = some v := by
  subst hg
  rw [cell_of_row _ _ _ _ _ _ (heap_alloc_new w _)]
  rfl
theorem below_step {B : Nat} {w w1 w2 : World} (h : Below B w w1) (h2 : Below w1.heap.size w1 w2) (hB : B ≤ w.heap.size) : Below B w w2 := h.trans (h2.mono (Nat.le_trans hB h.size))
theorem below_al {w w1 : World} {o : Obj} (h : Below (w.alloc o).heap.size (w.alloc o) w1) : Below w.heap.size w w1 := ((Below.refl _ _).alloc (Nat.le_refl _) _).trans (h.mono (by simp))
theorem below_al2 {w w1 : World} {o o2 : Obj} (h : Below ((w.alloc o).alloc o2).heap.size ((w.alloc o).alloc o2) w1) : Below w.heap.size w w1 := below_al (below_al h)
theorem below_al3 {w w1 : World} {o o2 o3 : Obj} (h : Below (((w.alloc o).alloc o2).alloc o3).heap.size (((w.alloc o).alloc o2).alloc o3) w1) : Below w.heap.size w w1 := below_al (below_al2 h)
end Go.Proofs.Ytemgnaalmgkfiaa
