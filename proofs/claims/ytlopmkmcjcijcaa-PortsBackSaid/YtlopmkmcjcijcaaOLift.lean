/-
  Words and slices of words that come in as arguments.
-/
import Derived.Test.YtlopmkmcjcijcaaLift
namespace Go.Proofs.Ytlopmkmcjcijcaa
open Go.RowKit Go.WideShapes Go.ChangeShapes
set_option linter.unusedVariables false

theorem two_ints {zs : List Int} (h : zs.length = 2) : ∃ a b, zs = [a, b] := by
  match zs, h with
  | [a, b], _ => exact ⟨a, b, rfl⟩
theorem wf_u16 {n : Int} (h : (Lit.int .u16 n).wf = true) : 0 ≤ n ∧ n ≤ 65535 := by
  simp [Lit.wf, IntKind.min, IntKind.max, IntKind.signed, IntKind.bits] at h; omega
theorem nat_u16 {z : Int} (h : (Lit.int .u16 z).wf = true) : ∃ n : Nat, z = (n : Int) ∧ n ≤ 65535 := by
  have := wf_u16 h
  obtain ⟨n, rfl⟩ := Int.eq_ofNat_of_zero_le this.1
  exact ⟨n, rfl, by omega⟩
theorem nat_u8 {z : Int} (h : (Lit.int .u8 z).wf = true) : ∃ n : Nat, z = (n : Int) ∧ n ≤ 255 := by
  have := wf_u8 h
  obtain ⟨n, rfl⟩ := Int.eq_ofNat_of_zero_le this.1
  exact ⟨n, rfl, by omega⟩

/-- A slice value with address A and length n reads as the words ws. -/
def Row16 (w : World) (A : Option Addr) (n : Nat) (ws : List Nat) : Prop :=
  ws.length = n ∧ (∀ x ∈ ws, x ≤ 65535) ∧ ∀ i, i < n → ∃ b o, A = some ⟨b, o, none⟩ ∧ w.cell? ⟨b, o + i, none⟩ = some (.int .u16 (ws.getD i 0 : Nat))
theorem Row16.keep {w w' : World} {A : Option Addr} {n : Nat} {ws : List Nat} (h : Row16 w A n ws) (hk : ∀ p, p.block < w.heap.size → w'.cell? p = w.cell? p) : Row16 w' A n ws :=
  ⟨h.1, h.2.1, fun i hi => by
    obtain ⟨b, o, he, hc⟩ := h.2.2 i hi
    exact ⟨b, o, he, (hk _ (cell_lt hc)).trans hc⟩⟩
theorem Row16.below {w w' : World} {A : Option Addr} {n : Nat} {ws : List Nat} (h : Row16 w A n ws) (hb : Below w.heap.size w w') : Row16 w' A n ws := h.keep fun _ hp => hb.cell hp
theorem Row16.alloc {w : World} {A : Option Addr} {n : Nat} {ws : List Nat} (h : Row16 w A n ws) (o : Obj) : Row16 (w.alloc o) A n ws := h.keep fun p hp => World.cell?_alloc_lt w o p hp
theorem Row16.nil (w : World) (A : Option Addr) : Row16 w A 0 [] := ⟨rfl, by simp, fun _ h => absurd h (by omega)⟩
theorem Row16.addr {w : World} {A : Option Addr} {n : Nat} {ws : List Nat} (h : Row16 w A n ws) (hn : 0 < n) :
    ∃ b o, A = some ⟨b, o, none⟩ ∧ b < w.heap.size ∧ ∀ i, i < n → w.cell? ⟨b, o + i, none⟩ = some (.int .u16 (ws.getD i 0 : Nat)) := by
  obtain ⟨b, o, rfl, hc⟩ := h.2.2 0 hn
  refine ⟨b, o, rfl, cell_lt hc, fun i hi => ?_⟩
  obtain ⟨b', o', he, hc'⟩ := h.2.2 i hi
  injection he with he
  injection he with h1 h2
  subst h1 h2
  exact hc'
theorem Row16.word {w : World} {A : Option Addr} {n : Nat} {ws : List Nat} (h : Row16 w A n ws) (i : Nat) : ws.getD i 0 ≤ 65535 := by
  rcases Nat.lt_or_ge i ws.length with hi | hi
  · rw [List.getD_eq_getElem?_getD, List.getElem?_eq_getElem hi]
    exact h.2.1 _ (List.getElem_mem hi)
  · rw [List.getD_eq_getElem?_getD, List.getElem?_eq_none hi]; decide
theorem Row16.mk {w : World} {b o n : Nat} {ws : List Nat} (hl : ws.length = n) (hb : ∀ x ∈ ws, x ≤ 65535) (hc : ∀ i, i < n → w.cell? ⟨b, o + i, none⟩ = some (.int .u16 (ws.getD i 0 : Nat))) : Row16 w (some ⟨b, o, none⟩) n ws :=
  ⟨hl, hb, fun i hi => ⟨b, o, rfl, hc i hi⟩⟩

section
variable {H : Type} {enc : TypeId × Value → H} {P : Program} {W : World}
theorem open_u16 {r : Reach} {b0 base : Nat} {spare : Nat → Bool} {held : Bool} {t : TypeId} {v : Value} {d : DataW H} {ps : List MemPlace} (ht : P.underlying t = some (.int .u16)) (hval : Value.okWide P W r b0 t v) (hd : DataW.Trod enc P W base spare held t v d ps) :
    ∃ n : Nat, v = .int .u16 n ∧ n ≤ 65535 := by
  obtain ⟨n, h1, _, _, h2⟩ := open_int ht hval hd
  obtain ⟨m, rfl, h3⟩ := nat_u16 h2
  exact ⟨m, h1, h3⟩
theorem row16_of_cells {x : Addr} {len cap : Nat} {zs : List Int} (hl : len ≤ cap) (hz : zs.length = cap) (hcell : ∀ i, i < zs.length → W.cell? (x.add i) = some (.int .u16 (zs.getD i 0))) (hwz : ∀ n ∈ zs, (Lit.int .u16 n).wf = true) :
    ∃ ws : List Nat, Row16 W (some x) len ws := by
  refine ⟨(zs.take len).map Int.toNat, by rw [List.length_map, List.length_take]; omega, ?_, ?_⟩
  · intro y hy
    simp only [List.mem_map] at hy
    obtain ⟨z, hz', rfl⟩ := hy
    have := wf_u16 (hwz z (List.mem_of_mem_take hz'))
    omega
  · intro i hi
    have hci := hcell i (by omega)
    obtain ⟨b, o, sp⟩ := x
    have hsp : sp = none := by
      have h0 := hcell 0 (by omega)
      simpa [Addr.add] using World.cell?_spot h0
    subst hsp
    refine ⟨b, o, rfl, ?_⟩
    rw [add_flat] at hci
    rw [hci]
    have hw := wf_u16 (hwz (zs.getD i 0) (by rw [List.getD_eq_getElem?_getD, List.getElem?_eq_getElem (by omega)]; exact List.getElem_mem _))
    have e1 : ((zs.take len).map Int.toNat).getD i 0 = (zs.getD i 0).toNat := by
      rw [List.getD_eq_getElem?_getD, List.getD_eq_getElem?_getD, List.getElem?_map, List.getElem?_take, if_pos hi, List.getElem?_eq_getElem (by omega)]
      rfl
    rw [e1]
    congr 2
    omega
/-- A slice of words that came in. -/
theorem open_words {t e : TypeId} {a : Option Addr} {len cap : Nat} {d : DataW H} {ps : List MemPlace} (ht : P.underlying t = some (.slice e)) (he : P.underlying e = some (.int .u16)) (hc : P.cellsOf e = 1) (hb : P.bytesOf e = 2)
    (h : DataW.Trod enc P W 0 (fun _ => true) true t (.slice a len cap) d ps) {ts : List TypeId} {ds : List (DataW H)} {j : Nat} {T : TypeId} (hT : T = t) (hj : ts[j]? = some T ∧ ds[j]? = some d)
    (hsz : (DataW.weightsEach P ts ds).all (· ≤ reachBytes) = true) :
    ∃ ws : List Nat, Row16 W a len ws ∧ len ≤ cap ∧ cap ≤ 70368744175616 := by
  subst hT
  obtain ⟨fuel, hf⟩ := h
  rcases open_ints ht he hc hf with ⟨hcs, _⟩ | ⟨x, l, c, zs, hcs, _, hl, hm, hz, hx, hcell, hwz⟩
  · simp [Value.cells] at hcs
    obtain ⟨rfl, rfl, rfl⟩ := hcs
    exact ⟨[], Row16.nil W none, Nat.le_refl _, Nat.zero_le _⟩
  · simp [Value.cells] at hcs
    obtain ⟨rfl, rfl, rfl⟩ := hcs
    simp only [Prod.mk.injEq] at hx
    obtain ⟨rfl, _⟩ := hx
    have h1 := sized_slice hsz hj.1 hj.2 ht
    rw [hb] at h1
    simp only [lits, List.length_map, List.length_take, List.length_drop, reachBytes] at h1
    simp only [if_true] at hz
    obtain ⟨ws, hR⟩ := row16_of_cells hl hz hcell hwz
    exact ⟨ws, hR, hl, by omega⟩
end
end Go.Proofs.Ytlopmkmcjcijcaa
