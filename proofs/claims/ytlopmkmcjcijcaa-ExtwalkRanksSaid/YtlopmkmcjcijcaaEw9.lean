/-
  append where the old slice is read afterwards; plain facts of a walk.
-/
import Derived.Test.YtlopmkmcjcijcaaEw8
namespace Go.Proofs.Ytlopmkmcjcijcaa
open Go.RowKit
set_option linter.unusedVariables false

theorem run_append_keep {B : Nat} {W wr : World} {g n c : Nat} {bs news : List Nat} (cs : Array Value) (m : Nat) (hcs : cs.toList = bcells news) (hm : news.length = m) (hn : bs.length = n) (hown : OutIs B wr (.slice (some ⟨g, 0, none⟩) n c) bs)
    (hbb : ∀ x ∈ bs ++ news, x < 256) (hb : Below B W wr) (hB : B ≤ wr.heap.size) (hlen : bs.length + m ≤ 140737488355328) :
    ∃ v' w', Sem.run Try.prog (Builtin.append_ #[22, 22] 22 #[.slice (some ⟨g, 0, none⟩) n c, .slice (some ⟨wr.heap.size, 0, none⟩) m m]) (wr.alloc (.cells cs 5)) = .ok v' w' ∧ OutIs B w' v' (bs ++ news) ∧ Below B W w' ∧ Row w' (some ⟨g, 0, none⟩) n bs ∧ (wr.alloc (.cells cs 5)).grownBy w' (Value.ownBlock (.slice (some ⟨g, 0, none⟩) n c)) := by
  obtain ⟨v', w', hr, ho, hb'⟩ := append_bytes cs m hcs hm hown hb hB hlen
  obtain ⟨i0, h1, h2, h3, h4⟩ := u8_parts
  refine ⟨v', w', hr, ho, hb', ?_, ?_⟩
  rotate_left
  · obtain ⟨v2, w2, hr2, _, hg2, _⟩ := run_append_own (P := Try.prog) (wr.alloc (.cells cs 5)) B 22 22 5 i0 (.int .u8 0) 1 1 Try.underlying22 h1 h2 h3 h4 rfl (by decide) (.slice (some ⟨g, 0, none⟩) n c) bs.length (bcells bs) (World.ownsRow.alloc hown _)
      ⟨wr.heap.size, 0, none⟩ m m (bcells news) (by rw [bcells_length, hm, Nat.mul_one]) (fun j u hj => by
        rw [add_flat, cell_of_row _ wr.heap.size (0 + j) cs _ _ (heap_alloc_new wr _), Nat.zero_add, ← Array.getElem?_toList, hcs]
        exact hj) (bcells_one news) (by unfold maxLen; omega) (by omega) (by simp; omega)
    rw [hr] at hr2
    injection hr2 with e1 e2
    rw [e2]
    exact hg2
  have hbs : ∀ x ∈ bs, x < 256 := fun x hx => hbb x (List.mem_append_left _ hx)
  have hnews : ∀ j u, (bcells news)[j]? = some u → (wr.alloc (.cells cs 5)).cell? ((⟨wr.heap.size, 0, none⟩ : Addr).add j) = some u := fun j u hj => by
    rw [add_flat, cell_of_row _ wr.heap.size (0 + j) cs _ _ (heap_alloc_new wr _), Nat.zero_add, ← Array.getElem?_toList, hcs]
    exact hj
  have hown2 : (wr.alloc (.cells cs 5)).ownsRow B 5 1 (.slice (some ⟨g, 0, none⟩) n c) bs.length (bcells bs) := World.ownsRow.alloc hown _
  rcases hown2.2 with ⟨h0, _⟩ | ⟨g2, cap, cur, hv, hg, hh, h5, h6, hs, ht⟩
  · cases h0
  · injection hv with hv1 hv2 hv3
    injection hv1 with hv1
    injection hv1 with hv1 hv4
    subst hv1 hv3
    by_cases hroom : n + m ≤ c
    · have hrr := run_append_room (P := Try.prog) (wr.alloc (.cells cs 5)) 22 22 5 i0 Try.underlying22 h1 g n c cur hh ⟨wr.heap.size, 0, none⟩ m m (bcells news) (by rw [bcells_length, hm, h3, Nat.mul_one]) hnews (bcells_one news) hroom (by rw [bcells_length, hs, h3, hm, Nat.mul_one, Nat.mul_one]; exact hroom)
      rw [hrr] at hr
      injection hr with e1 e2
      obtain ⟨A9, c9, e9, _, _, r9⟩ := ho.out hbb
      rw [← e1] at e9
      injection e9 with e9 _ _
      subst e9
      have hp := r9.part 0 n (by rw [List.length_append]; omega)
      rw [List.drop_zero, Nat.add_zero, List.take_append_of_le_length (by omega), List.take_of_length_le (by omega)] at hp
      exact hp
    · have hgr := run_append_grow (P := Try.prog) (wr.alloc (.cells cs 5)) 22 22 5 i0 _ Try.underlying22 h1 h2 ⟨g, 0, none⟩ n c (bcells bs) (by rw [bcells_length, hn, h3, Nat.mul_one]) (hown2.cells (g := g) rfl) ⟨wr.heap.size, 0, none⟩ m m (bcells news) (by rw [bcells_length, hm, h3, Nat.mul_one]) hnews (by omega) (by omega) (growslice_fits (by omega) (by rw [h4]; omega))
      rw [hgr] at hr
      injection hr with e1 e2
      have hold : OutIs B (wr.alloc (.cells cs 5)) (.slice (some ⟨g, 0, none⟩) n c) bs := hown2
      have hk := hold.below (w' := w') (by rw [← e2]; exact (show Below (wr.alloc (.cells cs 5)).heap.size (wr.alloc (.cells cs 5)) (wr.alloc (.cells cs 5)).drew from (Below.refl _ _).drew).alloc (Nat.le_refl _) _)
      obtain ⟨A9, c9, e9, _, _, r9⟩ := hk.out hbs
      injection e9 with e9 _ _
      subst e9
      rw [hn] at r9
      exact r9
/-- A walk's defects, in ascending order, between 10 and 14. -/
theorem defects_asc (t : Tour) : t.defects.Pairwise (· < ·) ∧ (∀ x ∈ t.defects, 10 ≤ x ∧ x ≤ 14) ∧ t.defects.length ≤ 5 := by
  unfold Tour.defects
  cases t.ext <;> cases t.hop <;> cases t.many <;> cases t.twice <;> cases t.lng <;> refine ⟨by decide, by decide, by decide⟩
/-- What holds of a walk wherever it stands. -/
structure TourOk (k : Int) (n : Nat) (t : Tour) : Prop where
  at_ : t.at_ ≤ n
  count : t.count ≤ 8
  start : t.count = 0 → t.proto = k ∧ t.at_ = 0
  frag : (0 < t.off) ↔ t.frag = 2
theorem exFrag_iff (hd : List Nat) : 0 < exOff hd ↔ exFrag hd = 2 := by
  unfold exFrag
  split
  · exact ⟨fun _ => rfl, fun _ => by omega⟩
  · split
    · exact ⟨fun h => by omega, fun h => by cases h⟩
    · exact ⟨fun h => by omega, fun h => by cases h⟩
theorem pass_ok {k : Int} {n q behind : Nat} {t : Tour} {hd : List Nat} (h : TourOk k n t) (h8 : t.count < 8) (hl : t.at_ + hd.length ≤ n) : TourOk k n (t.pass q hd behind) := by
  have hoff : 0 < (t.pass q hd behind).off ↔ (t.pass q hd behind).frag = 2 := by
    unfold Tour.pass Tour.mid
    split
    · exact h.frag
    · split
      · exact h.frag
      · split
        · exact exFrag_iff hd
        · exact h.frag
  exact ⟨hl, by show t.count + 1 ≤ 8; omega, fun h0 => by have : t.count + 1 = 0 := h0; omega, hoff⟩
theorem start_ok (k : Int) (n : Nat) : TourOk k n (Tour.start k) := ⟨Nat.zero_le _, Nat.zero_le _, fun _ => ⟨rfl, rfl⟩, ⟨fun h => absurd (show 0 < 0 from h) (Nat.lt_irrefl 0), fun h => by have h2 : (0 : Nat) = 2 := h; cases h2⟩⟩
theorem walkF_ok {k : Int} {n : Nat} {bs : List Nat} : ∀ (f : Nat) (t : Tour) (M : List (Nat × List Nat)), TourOk k n t → t.count + f = 9 → bs.length = n →
    TourOk k n (walkF n bs f t M).1 ∧ ((walkF n bs f t M).1.defects = [] → exKind (walkF n bs f t M).1.proto = false ∨ (walkF n bs f t M).1.frag = 2)
  | 0, t, M, h, hf, hl => by have := h.count; omega
  | f + 1, t, M, h, hf, hl => by
    cases hk : exKind t.proto with
    | false => rw [walkF_end hk]; exact ⟨h, fun _ => .inl hk⟩
    | true =>
      by_cases h8 : t.count = 8
      · rw [walkF_many hk h8]
        refine ⟨⟨h.at_, h.count, h.start, h.frag⟩, fun hd => ?_⟩
        have : 12 ∈ Tour.defects { t with many := true } := by unfold Tour.defects; simp
        rw [hd] at this
        cases this
      · cases hs : exSize t.proto (n - t.at_) (bs.getD (t.at_ + 1) 0) with
        | none =>
          rw [walkF_ext hk h8 hs]
          refine ⟨⟨h.at_, h.count, h.start, h.frag⟩, fun hd => ?_⟩
          have : 10 ∈ Tour.defects { t with ext := true } := by unfold Tour.defects; simp
          rw [hd] at this
          cases this
        | some m =>
          rw [walkF_pass hk h8 hs]
          have hm := exSize_some hs
          have hat := h.at_
          have hcnt := h.count
          have hdl : ((bs.drop t.at_).take m).length = m := by rw [List.length_take, List.length_drop]; omega
          have hp : TourOk k n (t.pass t.proto.toNat ((bs.drop t.at_).take m) (n - t.at_ - m)) := pass_ok h (by omega) (by rw [hdl]; omega)
          split
          · rename_i hfr
            exact ⟨hp, fun _ => .inr hfr⟩
          · exact walkF_ok f _ _ hp (by show t.count + 1 + f = 9; omega) hl
end Go.Proofs.Ytlopmkmcjcijcaa
