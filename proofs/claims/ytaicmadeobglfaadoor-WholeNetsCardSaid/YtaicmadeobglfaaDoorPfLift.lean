/-
  Opening arguments that are prefixes, two prefixes, two addresses. Nothing is claimed of the program here.
-/
import Derived.Test.YtaicmadeobglfaaDoorLift
import Derived.Test.YtaicmadeobglfaaDoorLive7
import Derived.Lib.SmallJoins
namespace Go.Proofs.YtaicmadeobglfaaDoor
open Go.ChangeShapes Go.WideShapes Go.ChangeAt Go.RowKit Go.Joins Go.Deep
set_option linter.unusedVariables false
theorem pf_bytes_of {zs : List Int} (hz : ∀ z ∈ zs, (Lit.int .u8 z).wf = true) : ∃ X : List Nat, (zs.map (Value.int .u8)).toArray = (bcells X).toArray ∧ X.length = zs.length ∧ ∀ x ∈ X, x < 256 := by
  refine ⟨zs.map Int.toNat, ?_, by simp, ?_⟩
  · congr 1
    unfold bcells
    rw [List.map_map]
    refine List.map_congr_left fun z hzm => ?_
    have h := hz z hzm
    simp [Lit.wf, IntKind.min, IntKind.max, IntKind.signed, IntKind.bits] at h
    show Value.int .u8 z = Value.int .u8 ((z.toNat : Nat) : Int)
    rw [Int.toNat_of_nonneg h.1]
  · intro x hx
    obtain ⟨z, hzm, rfl⟩ := List.mem_map.1 hx
    have h := hz z hzm
    simp [Lit.wf, IntKind.min, IntKind.max, IntKind.signed, IntKind.bits] at h
    omega
section
variable {H : Type} {enc : TypeId × Value → H} {W : World}
theorem pf_int {base : Nat} {spare : Nat → Bool} {held : Bool} {n : Nat} {c : Value} {y : Option (DataW H × List MemPlace)} (h : DataW.trod enc Tryd.prog W base spare held n 3 [c] = y) (hy : ∃ z, y = some z) : ∃ z : Int, c = .int .i64 z ∧ -9223372036854775808 ≤ z ∧ z ≤ 9223372036854775807 := by
  obtain ⟨z, rfl⟩ := hy
  obtain ⟨a, e, _, wa⟩ := DataW.trod_int Tryd.underlying3 h
  simp at e
  exact ⟨a, e, wf_i64 wa⟩
theorem pf_bytes {l : List Value} (h : ∀ (i : Nat), i < l.length → ∃ k : Nat, l[i]? = some (.int .u8 (k : Nat)) ∧ k < 256) : ∃ bs : List Nat, l = bcells bs ∧ bs.length = l.length ∧ ∀ x ∈ bs, x < 256 := by
  induction l with
  | nil => exact ⟨[], rfl, rfl, fun x hx => by cases hx⟩
  | cons v l ih =>
    obtain ⟨k, e, hk⟩ := h 0 (by simp)
    obtain ⟨bs, e2, e3, e4⟩ := ih (fun i hi => by
      obtain ⟨q, h1, h2⟩ := h (i + 1) (by simpa using hi)
      exact ⟨q, by simpa using h1, h2⟩)
    simp at e
    refine ⟨k :: bs, by rw [e, e2]; rfl, by simp [e3], fun x hx => ?_⟩
    rcases List.mem_cons.1 hx with rfl | hx
    · exact hk
    · exact e4 x hx
theorem pf_a16 {base : Nat} {spare : Nat → Bool} {held : Bool} {n : Nat} {l : List Value} {y : Option (DataW H × List MemPlace)} (h : DataW.trod enc Tryd.prog W base spare held n 22 l = y) (hy : ∃ z, y = some z) (hl : l.length = 16) :
    ∃ bs : List Nat, l = bcells bs ∧ Adr bs := by
  obtain ⟨z, rfl⟩ := hy
  obtain ⟨xs, m, _, _, _, hxl, hel⟩ := DataW.trod_array Tryd.underlying22 h
  rw [pcells_u8] at hel
  obtain ⟨bs, h1, h2, h3⟩ := pf_bytes (l := l) (fun i hi => by
    have h16 : i < 16 := by omega
    have h1 := hel i h16
    have hc : (l.drop (i * 1)).take 1 = [l[i]] := by
      rw [Nat.mul_one, List.drop_eq_getElem_cons hi]
      rfl
    rw [hc, List.getElem?_eq_getElem (by omega)] at h1
    obtain ⟨a, e, _, wa⟩ := DataW.trod_int Tryd.underlying5 h1
    simp at e
    have h2 := wf_u8 wa
    obtain ⟨k, rfl⟩ := Int.eq_ofNat_of_zero_le h2.1
    exact ⟨k, by rw [List.getElem?_eq_getElem hi, e], by omega⟩)
  exact ⟨bs, h1, by rw [h2, hl], h3⟩
/-- A list of cells that is a prefix. -/
structure PfxL (l : List Value) (V : Int) (X : List Nat) (n : Int) : Prop where
  is : l = pcells V X n
  adr : Adr X
  v : -9223372036854775808 ≤ V ∧ V ≤ 9223372036854775807
  n : -9223372036854775808 ≤ n ∧ n ≤ 9223372036854775807
set_option maxRecDepth 10000 in
theorem pf_pfx {base : Nat} {spare : Nat → Bool} {held : Bool} {n : Nat} {l : List Value} {y : Option (DataW H × List MemPlace)} (h : DataW.trod enc Tryd.prog W base spare held n 24 l = y) (hy : ∃ z, y = some z) (hl : l.length = 18) :
    ∃ V X k, PfxL l V X k := by
  obtain ⟨z, rfl⟩ := hy
  obtain ⟨xs, m, _, _, _, hlen, hel⟩ := DataW.trod_struct Tryd.underlying24 h
  have hx3 : xs.length = 3 := hlen
  have hsome : ∀ i, i < 3 → ∃ z, xs[i]? = some z := fun i hi => ⟨_, List.getElem?_eq_getElem (by omega)⟩
  match l, hl with
  | c0 :: rest, hl =>
    have hr : rest.length = 17 := by simpa using hl
    obtain ⟨V, rfl, hV⟩ := pf_int (enc := enc) (hel 0 _ rfl) (hsome 0 (by decide))
    obtain ⟨X, eX, aX⟩ := pf_a16 (enc := enc) (l := rest.take 16) (hel 1 _ rfl) (hsome 1 (by decide)) (by rw [List.length_take, hr]; rfl)
    have hd1 : (rest.drop 16).length = 1 := by rw [List.length_drop, hr]
    match hdr : rest.drop 16, hd1 with
    | [v2], _ =>
      have h2 : DataW.trod enc Tryd.prog W base spare held m 3 (List.take 1 (rest.drop 16)) = xs[2]? := hel 2 _ rfl
      rw [hdr] at h2
      obtain ⟨k, rfl, hk⟩ := pf_int (enc := enc) h2 (hsome 2 (by decide))
      refine ⟨V, X, k, ⟨?_, aX, hV, hk⟩⟩
      unfold pcells
      rw [← eX, List.cons_append, ← hdr, List.take_append_drop]
set_option maxRecDepth 10000 in
theorem open_pfx {r : Reach} {b0 base : Nat} {spare : Nat → Bool} {held : Bool} {v : Value} {d : DataW H} {p : List MemPlace}
    (hv : Value.okWide Tryd.prog W r b0 24 v) (h : DataW.Trod enc Tryd.prog W base spare held 24 v d p) :
    ∃ V X n, v = .agg (pcells V X n).toArray ∧ Adr X ∧ (-9223372036854775808 ≤ V ∧ V ≤ 9223372036854775807) ∧ (-9223372036854775808 ≤ n ∧ n ≤ 9223372036854775807) := by
  obtain ⟨cs, rfl, hsz⟩ := okWide_struct Tryd.underlying24 hv
  rw [pcells_pfx] at hsz
  obtain ⟨fuel, hf⟩ := h
  obtain ⟨l⟩ := cs
  obtain ⟨V, X, n, hp⟩ := pf_pfx (enc := enc) (l := l) hf ⟨_, rfl⟩ (by simpa using hsz)
  exact ⟨V, X, n, by rw [hp.is], hp.adr, hp.v, hp.n⟩
end
end Go.Proofs.YtaicmadeobglfaaDoor
