/-
  Plain facts of packets: their records, and what is wrong with them.
  packet: the record as it is built, and its ports (readPorts).
  packet: view, over what the headers say.
  packet.four: what a header of version 4 says.
  packet.six: what a header of version 6 and the headers behind it say.
-/
import Derived.Test.YtmchclpkjjmocaaGreatFh7
import Derived.Test.YtmchclpkjjmocaaGreatSx3
import Derived.Test.YtmchclpkjjmocaaGreatEw5
import Derived.Test.YtmchclpkjjmocaaGreatPo1
import Derived.Test.YtmchclpkjjmocaaGreatArrV
import Derived.Test.YtmchclpkjjmocaaGreatFh4
import Derived.BigQuiet
import Derived.Test.YtmchclpkjjmocaaGreatSx4
import Derived.Test.YtmchclpkjjmocaaGreatEw4
import Derived.BigRegion
namespace Go.Proofs.YtmchclpkjjmocaaGreat
open Go.RowKit
set_option linter.unusedVariables false

structure PkRec where
  v : Nat
  src : List Nat
  dst : List Nat
  proto : Int
  size : Nat
  at_ : Nat
  frag : Nat
  field : Nat
def pk4 (bs : List Nat) : PkRec :=
  ⟨4, (bs.drop 12).take 4 ++ List.replicate 12 0, (bs.drop 16).take 4 ++ List.replicate 12 0, (bs.getD 9 0 : Nat), fhw bs 2, 4 * (bs.getD 0 0 % 16), if fhw bs 6 % 8192 ≠ 0 then 2 else if bs.getD 6 0 / 32 % 2 = 1 then 1 else 0, bs.getD 1 0⟩
def pkRest (bs : List Nat) : List Nat := (bs.drop 40).take (sxPay bs)
def pkTour (bs : List Nat) : Tour := (walkF (pkRest bs).length (pkRest bs) 9 (Tour.start ((sxNext bs : Nat) : Int)) []).1
def pk6 (bs : List Nat) : PkRec :=
  ⟨6, (bs.drop 8).take 16, (bs.drop 24).take 16, (pkTour bs).proto, 40 + sxPay bs, 40 + (pkTour bs).at_, (pkTour bs).frag, sxN (be (bs.take 8)) 0⟩
def pkRec (bs : List Nat) : PkRec := if bs.getD 0 0 / 16 = 4 then pk4 bs else pk6 bs
/-- What is wrong with the headers. -/
def pkHeads (n : Nat) (bs : List Nat) : List Nat := if n = 0 then [1] else if bs.getD 0 0 / 16 = 4 then fhall n bs else if bs.getD 0 0 / 16 = 6 then sxall n bs else [2]
def PkRec.has (r : PkRec) : Bool := decide (¬ (r.frag = 2 ∨ poLeast r.proto = 0))
def PkRec.pay (r : PkRec) (bs : List Nat) : List Nat := (bs.drop r.at_).take (r.size - r.at_)
def PkRec.ports (r : PkRec) (bs : List Nat) : Nat × Nat × Nat := if r.has = true then poRead r.proto (r.size - r.at_) (r.pay bs) (decide (r.frag = 1)) else (0, 0, 0)
/-- All that is wrong. -/
def pkDefs (n : Nat) (bs : List Nat) : List Nat := if pkHeads n bs ≠ [] then pkHeads n bs else if ((pkRec bs).ports bs).2.2 ≠ 0 then [((pkRec bs).ports bs).2.2] else []
theorem pkbad_asc (n m : Nat) (bs : List Nat) (a b : Bool) : (fhbad n m bs a b).Pairwise (· < ·) ∧ ∀ x ∈ fhbad n m bs a b, 1 ≤ x ∧ x ≤ 16 := by
  unfold fhbad
  cases a <;> cases b <;> cases decide (fhw bs 2 < m) <;> cases decide (n < fhw bs 2) <;> cases decide (m ≤ fhw bs 2 ∧ 65535 < 8 * (fhw bs 6 % 8192) + fhw bs 2 - m) <;> refine ⟨by decide, by decide⟩
theorem one_asc {d : Nat} (h : 1 ≤ d ∧ d ≤ 16) : [d].Pairwise (· < ·) ∧ ∀ x ∈ [d], 1 ≤ x ∧ x ≤ 16 := ⟨List.pairwise_singleton _ _, fun x hx => by rw [List.mem_singleton.1 hx]; exact h⟩
theorem pkfhdef_le (n : Nat) (bs : List Nat) : fhdef n bs ≤ 16 := by
  unfold fhdef
  split
  · decide
  · split
    · decide
    · split
      · decide
      · split
        · decide
        · split <;> decide
theorem pksxdef_le (n : Nat) (bs : List Nat) : sxdef n bs ≤ 16 := by
  unfold sxdef
  split
  · decide
  · split
    · decide
    · split <;> decide
theorem pkfour_asc (n : Nat) (bs : List Nat) : (fhall n bs).Pairwise (· < ·) ∧ ∀ x ∈ fhall n bs, 1 ≤ x ∧ x ≤ 16 := by
  unfold fhall
  split
  · exact pkbad_asc _ _ _ _ _
  · exact one_asc ⟨by omega, pkfhdef_le n bs⟩
theorem pksix_asc (n : Nat) (bs : List Nat) : (sxall n bs).Pairwise (· < ·) ∧ ∀ x ∈ sxall n bs, 1 ≤ x ∧ x ≤ 16 := by
  unfold sxall
  split
  · exact one_asc ⟨by omega, pksxdef_le n bs⟩
  · split
    · exact one_asc (by decide)
    · rename_i r _
      obtain ⟨h1, h2, _⟩ := defects_asc (walkF r.length r 9 (Tour.start ((sxNext bs : Nat) : Int)) []).1
      exact ⟨h1, fun x hx => by have := h2 x hx; omega⟩
theorem poRead_le (p : Int) (n : Nat) (bs : List Nat) (f : Bool) : (poRead p n bs f).2.2 ≤ 16 := by
  unfold poRead
  split
  · decide
  · split
    · decide
    · split
      · decide
      · exact Nat.zero_le _
theorem pkPorts_le (r : PkRec) (bs : List Nat) : (r.ports bs).2.2 ≤ 16 := by
  unfold PkRec.ports
  split
  · exact poRead_le _ _ _ _
  · exact Nat.zero_le _
theorem pkHeads_asc (n : Nat) (bs : List Nat) : (pkHeads n bs).Pairwise (· < ·) ∧ ∀ x ∈ pkHeads n bs, 1 ≤ x ∧ x ≤ 16 := by
  unfold pkHeads
  split
  · exact one_asc (by decide)
  · split
    · exact pkfour_asc n bs
    · split
      · exact pksix_asc n bs
      · exact one_asc (by decide)
/-- What is wrong rises by its rank, each once. -/
theorem pkDefs_asc (n : Nat) (bs : List Nat) : (pkDefs n bs).Pairwise (· < ·) ∧ ∀ x ∈ pkDefs n bs, 1 ≤ x ∧ x ≤ 16 := by
  unfold pkDefs
  split
  · exact pkHeads_asc n bs
  · split
    · exact one_asc ⟨by omega, pkPorts_le _ bs⟩
    · exact ⟨List.Pairwise.nil, fun x hx => by cases hx⟩
theorem walkF_proto {n : Nat} {bs : List Nat} (hb : ∀ x ∈ bs, x < 256) : ∀ (f : Nat) (t : Tour) (M : List (Nat × List Nat)), (0 ≤ t.proto ∧ t.proto ≤ 255) → 0 ≤ (walkF n bs f t M).1.proto ∧ (walkF n bs f t M).1.proto ≤ 255
  | 0, t, M, h => h
  | f + 1, t, M, h => by
    rw [walkF]
    split
    · exact h
    · split
      · exact h
      · split
        · exact h
        · rename_i m _
          have hp : 0 ≤ (t.pass t.proto.toNat ((bs.drop t.at_).take m) (n - t.at_ - m)).proto ∧ (t.pass t.proto.toNat ((bs.drop t.at_).take m) (n - t.at_ - m)).proto ≤ 255 := by
            show 0 ≤ ((((bs.drop t.at_).take m).getD 0 0 : Nat) : Int) ∧ ((((bs.drop t.at_).take m).getD 0 0 : Nat) : Int) ≤ 255
            have h2 := getD_byte (l := (bs.drop t.at_).take m) (fun x hx => hb x (List.mem_of_mem_drop (List.mem_of_mem_take hx))) 0
            omega
          split
          · exact hp
          · exact walkF_proto hb f _ _ hp
theorem fhall_nil {n : Nat} {bs : List Nat} (h : fhall n bs = []) : fhdef n bs = 0 ∧ 20 ≤ n ∧ 20 ≤ 4 * (bs.getD 0 0 % 16) ∧ 4 * (bs.getD 0 0 % 16) ≤ fhw bs 2 ∧ fhw bs 2 ≤ n := by
  unfold fhall at h
  by_cases hd : fhdef n bs = 0
  · rw [if_pos hd] at h
    unfold fhbad at h
    simp only [List.append_eq_nil_iff] at h
    obtain ⟨⟨⟨⟨h1, h2⟩, _⟩, _⟩, _⟩ := h
    have g1 : ¬ fhw bs 2 < 4 * (bs.getD 0 0 % 16) := fun e => by rw [decide_eq_true e] at h1; cases h1
    have g2 : ¬ n < fhw bs 2 := fun e => by rw [decide_eq_true e] at h2; cases h2
    have hd2 := hd
    unfold fhdef at hd2
    split at hd2
    · cases hd2
    · split at hd2
      · cases hd2
      · split at hd2
        · cases hd2
        · split at hd2
          · cases hd2
          · split at hd2
            · cases hd2
            · exact ⟨hd, by omega, by omega, by omega, by omega⟩
  · rw [if_neg hd] at h
    cases h
theorem sxall_nil {n : Nat} {bs : List Nat} (hl : bs.length = n) (h : sxall n bs = []) : sxdef n bs = 0 ∧ 40 + sxPay bs ≤ n ∧ sxrest n bs = some (pkRest bs) ∧ (pkRest bs).length = sxPay bs ∧ (pkTour bs).defects = [] := by
  unfold sxall at h
  by_cases hd : sxdef n bs = 0
  · rw [if_neg (fun e => e hd)] at h
    by_cases hp : 40 + sxPay bs ≤ n
    · have hr : sxrest n bs = some (pkRest bs) := by unfold sxrest pkRest; rw [if_pos ⟨hd, hp⟩]
      rw [hr] at h
      refine ⟨hd, hp, hr, ?_, h⟩
      unfold pkRest
      rw [List.length_take, List.length_drop, hl]
      omega
    · have hr : sxrest n bs = none := by unfold sxrest; rw [if_neg (fun e => hp e.2)]
      rw [hr] at h
      cases h
  · rw [if_pos hd] at h
    cases h
/-- Of a packet without a defect. -/
theorem pk_good {n : Nat} {bs : List Nat} (hl : bs.length = n) (hb : ∀ x ∈ bs, x < 256) (h : pkHeads n bs = []) :
    ((pkRec bs).v = 4 ∨ (pkRec bs).v = 6) ∧ 20 ≤ (pkRec bs).at_ ∧ (pkRec bs).at_ ≤ (pkRec bs).size ∧ (pkRec bs).size ≤ n ∧ 0 ≤ (pkRec bs).proto ∧ (pkRec bs).proto ≤ 255 := by
  unfold pkHeads at h
  split at h
  · cases h
  · split at h
    · rename_i h4
      have e : pkRec bs = pk4 bs := by unfold pkRec; rw [if_pos h4]
      rw [e]
      obtain ⟨_, h20, h1, h2, h3⟩ := fhall_nil h
      have := getD_byte hb 9
      refine ⟨.inl rfl, h1, h2, h3, ?_, ?_⟩
      · show (0 : Int) ≤ ((bs.getD 9 0 : Nat) : Int); omega
      · show ((bs.getD 9 0 : Nat) : Int) ≤ 255; omega
    · split at h
      · rename_i h4 h6
        have e : pkRec bs = pk6 bs := by unfold pkRec; rw [if_neg h4]
        rw [e]
        obtain ⟨_, h40, hr, hrl, hd⟩ := sxall_nil hl h
        obtain ⟨ok, _⟩ := walkF_ok (k := ((sxNext bs : Nat) : Int)) (n := (pkRest bs).length) (bs := pkRest bs) 9 (Tour.start ((sxNext bs : Nat) : Int)) [] (start_ok _ _) rfl rfl
        have hat : (pkTour bs).at_ ≤ (pkRest bs).length := ok.at_
        have hnx : sxNext bs < 256 := by unfold sxNext sxN; exact Nat.mod_lt _ (by decide)
        have hpr := walkF_proto (n := (pkRest bs).length) (bs := pkRest bs) (fun x hx => hb x (List.mem_of_mem_drop (List.mem_of_mem_take hx))) 9 (Tour.start ((sxNext bs : Nat) : Int)) [] (by show 0 ≤ ((sxNext bs : Nat) : Int) ∧ ((sxNext bs : Nat) : Int) ≤ 255; omega)
        refine ⟨.inr rfl, by show 20 ≤ 40 + _; omega, by show 40 + (pkTour bs).at_ ≤ 40 + sxPay bs; omega, h40, hpr.1, hpr.2⟩
      · cases h
end Go.Proofs.YtmchclpkjjmocaaGreat

namespace Go.Proofs.YtmchclpkjjmocaaGreat
open Go.RowKit
set_option linter.unusedVariables false
set_option maxRecDepth 8000

def trTail (r : PkRec) (has : Bool) (x y : Nat) (pv : Value) : List Value := [.int .i64 r.proto, .int .i64 (r.size : Nat), .int .i64 (r.at_ : Nat), .int .i64 (r.frag : Nat), .bool has, .int .i64 (x : Nat), .int .i64 (y : Nat), .int .u8 (r.field : Nat), pv]
def trCells (r : PkRec) (has : Bool) (x y : Nat) (pv : Value) : List Value := .int .i64 (r.v : Nat) :: (bcells r.src ++ (bcells r.dst ++ trTail r has x y pv))
def trZ : List Value := [.int .i64 0, .int .u8 0, .int .u8 0, .int .u8 0, .int .u8 0, .int .u8 0, .int .u8 0, .int .u8 0, .int .u8 0, .int .u8 0, .int .u8 0, .int .u8 0, .int .u8 0, .int .u8 0, .int .u8 0, .int .u8 0, .int .u8 0, .int .u8 0, .int .u8 0, .int .u8 0, .int .u8 0, .int .u8 0, .int .u8 0, .int .u8 0, .int .u8 0, .int .u8 0, .int .u8 0, .int .u8 0, .int .u8 0, .int .u8 0, .int .u8 0, .int .u8 0, .int .u8 0, .int .i64 0, .int .i64 0, .int .i64 0, .int .i64 0, .bool false, .int .i64 0, .int .i64 0, .int .u8 0, .slice none 0 0]
theorem tytr : RowTy 52 42 := ⟨⟨_, Tryz.underlying52, rfl⟩, by kernel_rfl⟩
theorem trZ_all : trZ.length = 42 ∧ ∀ v ∈ trZ, v.oneCell' = true := ⟨rfl, by unfold trZ; simp [Value.oneCell']⟩
theorem three_at {a : Value} {S D T : List Value} (hS : S.length = 16) (hD : D.length = 16) (j : Nat) : (a :: (S ++ (D ++ T)))[33 + j]? = T[j]? := by
  rw [show 33 + j = (16 + (16 + j)) + 1 by omega, List.getElem?_cons_succ, List.getElem?_append_right (by omega), hS, Nat.add_sub_cancel_left, List.getElem?_append_right (by omega), hD, Nat.add_sub_cancel_left]
theorem three_set {a : Value} {S D T : List Value} (hS : S.length = 16) (hD : D.length = 16) (j : Nat) (v : Value) : (a :: (S ++ (D ++ T))).set (33 + j) v = a :: (S ++ (D ++ T.set j v)) := by
  rw [show 33 + j = (16 + (16 + j)) + 1 by omega, List.set_cons_succ, List.set_append_right (h := by omega), hS, Nat.add_sub_cancel_left, List.set_append_right (h := by omega), hD, Nat.add_sub_cancel_left]
theorem trCells_all {r : PkRec} (hs : r.src.length = 16) (hd : r.dst.length = 16) {has : Bool} {x y : Nat} {pv : Value} (hpv : pv.oneCell' = true) : (trCells r has x y pv).length = 42 ∧ ∀ v ∈ trCells r has x y pv, v.oneCell' = true := by
  refine ⟨by simp [trCells, trTail, bcells_length, hs, hd], fun v hv => ?_⟩
  unfold trCells at hv
  rcases List.mem_cons.1 hv with rfl | hv
  · rfl
  rcases List.mem_append.1 hv with hv | hv
  · exact bcells_one _ v hv
  rcases List.mem_append.1 hv with hv | hv
  · exact bcells_one _ v hv
  · unfold trTail at hv
    simp at hv
    rcases hv with rfl | rfl | rfl | rfl | rfl | rfl | rfl | rfl | rfl
    all_goals first | rfl | exact hpv
theorem pkhas_iff (r : PkRec) : r.has = true ↔ ¬ r.frag = 2 ∧ ¬ poLeast r.proto = 0 := by
  unfold PkRec.has
  rw [decide_eq_true_iff]
  exact not_or
set_option maxHeartbeats 3200000 in
theorem rdports_any (r : PkRec) (hs : r.src.length = 16) (hd : r.dst.length = 16) (P : Option Addr) (m pc : Nat) (L : List Nat) (W : World) (g : Nat) (hA : ArrV 52 W g (trCells r false 0 0 (.slice P m pc))) (hm : m ≤ pc) (hm2 : m ≤ 140737488355328) (hR : Row W P m L) {x y d : Nat} (hr : (if r.has = true then poRead r.proto m L (decide (r.frag = 1)) else (0, 0, 0)) = (x, y, d)) :
    Calls Tryz.prog 51 #[.pointer (some ⟨g, 0, none⟩)] W fun e w' => e = .returned (.int .i64 (d : Nat)) ∧ ArrV 52 w' g (trCells r r.has x y (.slice P m pc)) ∧ Below g W w' := by
  have hbs : (bcells r.src).length = 16 := by rw [bcells_length, hs]
  have hbd : (bcells r.dst).length = 16 := by rw [bcells_length, hd]
  have c33 := (hA.get 33).trans (three_at hbs hbd 0)
  have c36 := (hA.get 36).trans (three_at hbs hbd 3)
  have c41 := (hA.get 41).trans (three_at hbs hbd 8)
  simp only [trTail, List.getElem?_cons_zero, List.getElem?_cons_succ] at c33 c36 c41
  have hS1 : ∀ (U : World), ArrV 52 U g (trCells r false 0 0 (.slice P m pc)) → ArrV 52 (((U.setCell ⟨g, 37, none⟩ (.bool true)).setCell ⟨g, 38, none⟩ (.int .i64 (x : Nat))).setCell ⟨g, 39, none⟩ (.int .i64 (y : Nat))) g (trCells r true x y (.slice P m pc)) := fun U h => by
    have h1 := ((h.set 37 (.bool true)).set 38 (.int .i64 (x : Nat))).set 39 (.int .i64 (y : Nat))
    unfold trCells at h1 ⊢
    rw [show 37 = 33 + 4 from rfl, three_set hbs hbd, show 38 = 33 + 5 from rfl, three_set hbs hbd, show 39 = 33 + 6 from rfl, three_set hbs hbd] at h1
    exact h1
  have HS1 := Lib.hid hS1
  have HA := Lib.hid hA
  obtain ⟨p, hp⟩ : ∃ p, p = r.proto := ⟨_, rfl⟩
  obtain ⟨f, hf⟩ : ∃ f, f = r.frag := ⟨_, rfl⟩
  rw [← hp] at c33
  rw [← hf] at c36
  by_cases f2 : f = 2
  · have hh : r.has = false := by
      cases h : r.has
      · rfl
      · exact absurd (hf.symm.trans f2) ((pkhas_iff r).1 h).1
    rw [hh] at hr ⊢
    injection hr with h1 h2
    injection h2 with h2 h3
    subst h1 h2 h3
    subst f2
    clear hS1 hA hp hf hR hm hm2 HS1 hbs hbd hs hd
    go_enter Tryz.func51, Tryz.ntmps51
    go_wp2_with fail
    go_ret
    exact ⟨rfl, HA.out, Below.refl _ _⟩
  have fb : ((f : Int) == 2) = false := beq_false_of_ne (by omega)
  have CL := Lib.hid (poleast_any p)
  obtain ⟨l, hl⟩ : ∃ l, l = poLeast p := ⟨_, rfl⟩
  rw [← hl] at CL
  by_cases l0 : l = 0
  · have hh : r.has = false := by
      cases h : r.has
      · rfl
      · exact absurd (by rw [← hp, ← hl, l0]) ((pkhas_iff r).1 h).2
    rw [hh] at hr ⊢
    injection hr with h1 h2
    injection h2 with h2 h3
    subst h1 h2 h3
    subst l0
    clear hS1 hA hp hf hR hm hm2 HS1 hbs hbd hs hd hl f2
    go_enter Tryz.func51, Tryz.ntmps51
    go_wp2_with fail
    refine (CL.out _).mono ?_
    rintro e w' ⟨rfl, rfl⟩
    go_wp2_with fail
    go_ret
    exact ⟨rfl, HA.out, Below.refl _ _⟩
  · have lb : ((l : Int) == 0) = false := beq_false_of_ne (by omega)
    have hh : r.has = true := (pkhas_iff r).2 ⟨by rw [← hf]; exact f2, by rw [← hp, ← hl]; exact l0⟩
    rw [hh, if_pos rfl] at hr
    rw [hh]
    have CR := Lib.hid (fun w (hR : Row w P m L) => poread_any r.proto P m pc L (decide (r.frag = 1)) w hm2 hm hR)
    rw [hr, ← hp, ← hf] at CR
    unfold PoReadIs at CR
    simp only at CR
    obtain ⟨q1, hq1⟩ : ∃ b : Bool, b = decide (f = 1) := ⟨_, rfl⟩
    have hq2 : ((f : Int) == 1) = q1 := by
      rw [hq1]
      by_cases h : f = 1
      · subst h; rfl
      · rw [decide_eq_false h]; exact beq_false_of_ne (by omega)
    rw [← hq1] at CR
    have HR := Lib.hid hR
    have hf37 : ∀ (U : World), ArrV 52 U g (trCells r false 0 0 (.slice P m pc)) → (U.cell? ⟨g, 37, none⟩ = some (.bool false) ∧ U.frozen? ⟨g, 37, none⟩ = false) ∧ ((U.setCell ⟨g, 37, none⟩ (.bool true)).cell? ⟨g, 38, none⟩ = some (.int .i64 0) ∧ (U.setCell ⟨g, 37, none⟩ (.bool true)).frozen? ⟨g, 38, none⟩ = false) ∧
        (((U.setCell ⟨g, 37, none⟩ (.bool true)).setCell ⟨g, 38, none⟩ (.int .i64 (x : Nat))).cell? ⟨g, 39, none⟩ = some (.int .i64 0) ∧ ((U.setCell ⟨g, 37, none⟩ (.bool true)).setCell ⟨g, 38, none⟩ (.int .i64 (x : Nat))).frozen? ⟨g, 39, none⟩ = false) := fun U h => by
      have a1 := (h.get 37).trans (three_at hbs hbd 4)
      have a2 := three_at (a := Value.int .i64 (r.v : Nat)) (T := trTail r false 0 0 (.slice P m pc)) hbs hbd 5
      have a3 := three_at (a := Value.int .i64 (r.v : Nat)) (T := trTail r false 0 0 (.slice P m pc)) hbs hbd 6
      simp only [trTail, List.getElem?_cons_zero, List.getElem?_cons_succ] at a1 a2 a3
      have h1 := h.set 37 (.bool true)
      have h2 := h1.set 38 (.int .i64 (x : Nat))
      refine ⟨⟨a1, h.frozen 37⟩, ⟨?_, h1.frozen 38⟩, ⟨?_, h2.frozen 39⟩⟩
      · rw [h1.get 38, List.getElem?_set_ne (by decide)]
        exact a2
      · rw [h2.get 39, List.getElem?_set_ne (by decide), List.getElem?_set_ne (by decide)]
        exact a3
    have HF := Lib.hid hf37
    clear hS1 hA hp hf hR hm hm2 hbs hbd hs hd hl f2 l0 hr hh hf37 hq1
    go_enter Tryz.func51, Tryz.ntmps51
    go_wp2_with fail
    refine (CL.out _).mono ?_
    rintro e w' ⟨rfl, rfl⟩
    go_upto_region 3 with fail
    go_quiet ((go_at_call 74; exact quiet_quiet (CR.out _ (by exact HR.out))))
    have hU : ArrV 52 (W.drewN nq) g (trCells r false 0 0 (.slice P m pc)) := HA.out
    obtain ⟨U, eU⟩ : ∃ U, U = W.drewN nq := ⟨_, rfl⟩
    rw [← eU] at hU ⊢
    obtain ⟨⟨a1, b1⟩, ⟨a2, b2⟩, ⟨a3, b3⟩⟩ := HF.out U hU
    have HO := Lib.hid (HS1.out U hU)
    have HBL : Hid (Below g W (((U.setCell ⟨g, 37, none⟩ (.bool true)).setCell ⟨g, 38, none⟩ (.int .i64 (x : Nat))).setCell ⟨g, 39, none⟩ (.int .i64 (y : Nat)))) := by
      show Below _ _ _
      have h0 : Below g W U := by rw [eU]; exact below_drewN' (Below.refl _ _) nq
      exact ((h0.setCell (p := ⟨g, 37, none⟩) (Nat.le_refl _) _).setCell (p := ⟨g, 38, none⟩) (Nat.le_refl _) _).setCell (p := ⟨g, 39, none⟩) (Nat.le_refl _) _
    clear eU hU c33 c36 c41 HF HS1
    go_wp2_with fail
    go_ret
    exact ⟨rfl, HO.out, HBL.out⟩
end Go.Proofs.YtmchclpkjjmocaaGreat

namespace Go.Proofs.YtmchclpkjjmocaaGreat
open Go.RowKit
set_option linter.unusedVariables false
set_option maxRecDepth 8000

/-- All that is wrong, or the record, its payload a piece of what came in. -/
def HeadsIs (D : List Nat) (r : PkRec) (has : Bool) (x y : Nat) (pv : Value) (w : World) (e : Ending) (w' : World) : Prop :=
  Below w.heap.size w w' ∧ (D ≠ [] → ∃ v, e = .returned (.tuple #[.agg trZ.toArray, v]) ∧ DefRead w' v D) ∧
    (D = [] → e = .returned (.tuple #[.agg (trCells r has x y pv).toArray, .slice none 0 0]))
theorem tr_lit : (#[.int .i64 0, .int .u8 0, .int .u8 0, .int .u8 0, .int .u8 0, .int .u8 0, .int .u8 0, .int .u8 0, .int .u8 0, .int .u8 0, .int .u8 0, .int .u8 0, .int .u8 0, .int .u8 0, .int .u8 0, .int .u8 0, .int .u8 0, .int .u8 0, .int .u8 0, .int .u8 0, .int .u8 0, .int .u8 0, .int .u8 0, .int .u8 0, .int .u8 0, .int .u8 0, .int .u8 0, .int .u8 0, .int .u8 0, .int .u8 0, .int .u8 0, .int .u8 0, .int .u8 0, .int .i64 0, .int .i64 0, .int .i64 0, .int .i64 0, .bool false, .int .i64 0, .int .i64 0, .int .u8 0, .slice none 0 0] : Array Value) = trZ.toArray := rfl
theorem def_at {W : World} {h : Nat} {d : Nat} {t : TypeId} (hh : W.heap[h]? = some (.cells #[.int .i64 (d : Nat)] t (0, 0))) : DefRead W (.slice (some ⟨h, 0, none⟩) 1 1) [d] := by
  refine ⟨_, 1, rfl, Nat.le_refl _, fun i z hz => ?_⟩
  have hi : i = 0 := by
    have := (List.getElem?_eq_some_iff.1 hz).1
    simp at this
    exact this
  subst hi
  simp at hz
  subst hz
  refine ⟨h, 0, rfl, ?_, by rw [cell_of_row _ _ _ _ _ _ hh]; rfl⟩
  rcases Nat.lt_or_ge h W.heap.size with hlt | hge
  · exact hlt
  · rw [Array.getElem?_eq_none hge] at hh; cases hh
theorem pkcell_far {W : World} {g b o : Nat} {v : Value} (h : W.cell? ⟨b, o, none⟩ = some v) (hne : b ≠ g) (vs : List Value) : (W.setCells g 0 vs).cell? ⟨b, o, none⟩ = some v := by
  have hr : W.rangeAt b o [v] := fun j u hu => by
    cases j with
    | zero => simp at hu; subst hu; simpa using h
    | succ j => simp at hu
  have h2 := World.rangeAt_setCells_apart hr g 0 vs (.inl hne) 0 v rfl
  simpa using h2
/-- The same stored once more. -/
theorem DefRead.again {W : World} {v : Value} {D : List Nat} (h : DefRead W v D) {t : TypeId} {g : Nat} {Z : List Value} (hA : ArrV t W g Z) : DefRead (W.setCells g 0 Z) v D := by
  obtain ⟨A, c, e, hc, hcell⟩ := h
  refine ⟨A, c, e, hc, fun i z hz => ?_⟩
  obtain ⟨b, o, ea, hlt, h1⟩ := hcell i z hz
  refine ⟨b, o, ea, by rw [setCells_size]; exact hlt, ?_⟩
  by_cases hb : b = g
  · subst hb
    rw [(hA.store Z rfl).get, ← hA.get]
    exact h1
  · exact pkcell_far h1 hb Z
set_option maxHeartbeats 3200000 in
theorem view_of (b : Value) (D : List Nat) (r : PkRec) (hs : r.src.length = 16) (hd : r.dst.length = 16) (P : Option Addr) (m pc : Nat) (hm : m ≤ pc) (hm2 : m ≤ 140737488355328) (L : List Nat) {x y d : Nat} (hr : (if r.has = true then poRead r.proto m L (decide (r.frag = 1)) else (0, 0, 0)) = (x, y, d)) (w : World) (hR : Row w P m L)
    (CH : ∀ W, Below w.heap.size w W → Calls Tryz.prog 50 #[b] W (HeadsIs D r false 0 0 (.slice P m pc) W)) :
    Calls Tryz.prog 33 #[b] w (HeadsIs (if D ≠ [] then D else if d ≠ 0 then [d] else []) r r.has x y (.slice P m pc) w) := by
  obtain ⟨Z, hZ⟩ : ∃ Z, Z = trZ := ⟨_, rfl⟩
  obtain ⟨hZl, hZo⟩ := trZ_all
  have hlit := tr_lit
  obtain ⟨V, e0⟩ : ∃ V, V = w.alloc (.cells Z.toArray 52) := ⟨_, rfl⟩
  have CH := Lib.hid CH
  unfold HeadsIs at CH
  unfold HeadsIs
  rw [← hZ] at CH hZl hZo hlit ⊢
  have HA : Hid (ArrV 52 V w.heap.size Z) := by show ArrV _ _ _ _; rw [e0]; exact ArrV.new _ w Z
  have HB : Hid (Below w.heap.size w V) := by show Below _ _ _; rw [e0]; exact (Below.refl _ _).alloc (Nat.le_refl _) _
  obtain ⟨g2, hg2⟩ : ∃ g, g = w.heap.size := ⟨_, rfl⟩
  have HG2 := Lib.hid hg2
  rw [← hg2] at HA
  by_cases hD : D = []
  · have CH1 : Hid (∀ W, Below w.heap.size w W → Calls Tryz.prog 50 #[b] W fun e w' => e = .returned (.tuple #[.agg (trCells r false 0 0 (.slice P m pc)).toArray, .slice none 0 0]) ∧ Below W.heap.size W w') := fun W hW => (CH.out W hW).mono fun e w' h => by
      obtain ⟨h1, _, h3⟩ := h
      exact ⟨h3 hD, h1⟩
    rw [if_neg (fun h => h hD)]
    have HR := Lib.hid hR
    have CP : Hid (∀ (W : World) (g : Nat), ArrV 52 W g (trCells r false 0 0 (.slice P m pc)) → Row W P m L → Calls Tryz.prog 51 #[.pointer (some ⟨g, 0, none⟩)] W fun e w' => e = .returned (.int .i64 (d : Nat)) ∧ ArrV 52 w' g (trCells r r.has x y (.slice P m pc)) ∧ Below g W w') := fun W g h1 h3 => rdports_any r hs hd P m pc L W g h1 hm hm2 h3 hr
    have HXL : Hid (∀ (h : Bool) (x y : Nat), (trCells r h x y (.slice P m pc)).length = 42 ∧ ∀ v ∈ trCells r h x y (.slice P m pc), v.oneCell' = true) := fun h x y => trCells_all hs hd rfl
    have HD := Lib.hid hD
    clear hD hr hs hd hm hm2 CH hR hZ hg2
    by_cases hd0 : d = 0
    · subst hd0
      rw [if_neg (fun h => h rfl)]
      go_enter Tryz.func33, Tryz.ntmps33
      go_upto_region 1 with fail
      rw [← e0, ← HG2.out]
      clear e0
      go_wp2_with fail
      refine (CH1.out _ HB.out).mono ?_
      rintro e w1 ⟨rfl, b1⟩
      have HA1 := Lib.hid (HA.out.below b1)
      have B1 := Lib.hid (below_both HB.out b1)
      obtain ⟨X, hX⟩ : ∃ X, X = trCells r false 0 0 (.slice P m pc) := ⟨_, rfl⟩
      obtain ⟨Xl, Xo⟩ := HXL.out false 0 0
      rw [← hX] at Xl Xo ⊢
      have HX := Lib.hid hX
      clear b1 hX
      go_upto_region 2 with (first | refine wpList_store_v rfl 52 (.tmp 4) (.tmp 10) rfl _ rfl tytr (ArrV.new _ _ Z) hZl X Xl Xo rfl ?_ | fail)
      obtain ⟨V4, e4⟩ : ∃ V, V = (w1.alloc (.cells Z.toArray 52)).setCells w1.heap.size 0 X := ⟨_, rfl⟩
      have hb4 : Below w1.heap.size w1 V4 := by rw [e4]; exact setCells_below _ (Nat.le_refl _) _ _ _ ((Below.refl _ _).alloc (Nat.le_refl _) _)
      have X4 : Hid (ArrV 52 V4 w1.heap.size X) := by
        show ArrV _ _ _ _
        rw [e4]
        exact (ArrV.new _ w1 Z).store X (by rw [Xl, hZl])
      rw [← e4]
      obtain ⟨g4, hg4⟩ : ∃ g, g = w1.heap.size := ⟨_, rfl⟩
      have hlt : g2 < g4 := by rw [hg4]; exact HA1.out.lt
      have A4 := Lib.hid (HA1.out.below hb4)
      have B4 := Lib.hid (below_both B1.out hb4)
      have HG4 : Hid (w.heap.size ≤ g4 ∧ g2 < g4) := ⟨by rw [hg4]; exact B1.out.size, hlt⟩
      rw [← hg4] at X4 ⊢
      clear e4 hb4 HA1 B1 hg4 hlt
      go_wp2_with fail
      refine (CP.out V4 g4 (by rw [← HX.out]; exact X4.out) (HR.out.below B4.out)).mono ?_
      rintro e w5 ⟨rfl, y5, b5⟩
      obtain ⟨Y, hY⟩ : ∃ Y, Y = trCells r r.has x y (.slice P m pc) := ⟨_, rfl⟩
      obtain ⟨Yl, Yo⟩ := HXL.out r.has x y
      rw [← hY] at y5 Yl Yo
      have Y5 := Lib.hid y5
      have HY := Lib.hid hY
      have A5 := Lib.hid (A4.out.belowB b5 HG4.out.2)
      have B5 := Lib.hid (B4.out.trans (b5.mono HG4.out.1))
      clear y5 hY b5 A4 B4 X4
      go_upto_region 7 with fail
      refine wp_region_lit ?_
      go_wp2_with (first | refine wpList_load_v rfl 52 (.tmp 4) rfl _ rfl tytr Y5.out Yl ?_ | refine wpList_store_v rfl 52 (.tmp 2) (.tmp 23) rfl _ rfl tytr A5.out hZl Y Yl Yo rfl ?_ | fail)
      have HS := A5.out.store Y (by rw [Yl, hZl])
      exact bodyPost_ret (v := .tuple #[.agg Y.toArray, .slice none 0 0]) (res_cell_tmp Tryz.results33 rfl (HS.loadVar tytr Yl) rfl) rfl ⟨setCells_below g2 (by rw [HG2.out]; exact Nat.le_refl _) _ _ _ B5.out, fun h => absurd rfl h, fun _ => by rw [HY.out]⟩
    · have db : ((d : Int) != 0) = true := bne_iff_ne.2 (by omega)
      rw [if_pos hd0]
      clear hd0
      go_enter Tryz.func33, Tryz.ntmps33
      go_upto_region 1 with fail
      rw [← e0, ← HG2.out]
      clear e0
      go_wp2_with fail
      refine (CH1.out _ HB.out).mono ?_
      rintro e w1 ⟨rfl, b1⟩
      have HA1 := Lib.hid (HA.out.below b1)
      have B1 := Lib.hid (below_both HB.out b1)
      obtain ⟨X, hX⟩ : ∃ X, X = trCells r false 0 0 (.slice P m pc) := ⟨_, rfl⟩
      obtain ⟨Xl, Xo⟩ := HXL.out false 0 0
      rw [← hX] at Xl Xo ⊢
      have HX := Lib.hid hX
      clear b1 hX
      go_upto_region 2 with (first | refine wpList_store_v rfl 52 (.tmp 4) (.tmp 10) rfl _ rfl tytr (ArrV.new _ _ Z) hZl X Xl Xo rfl ?_ | fail)
      obtain ⟨V4, e4⟩ : ∃ V, V = (w1.alloc (.cells Z.toArray 52)).setCells w1.heap.size 0 X := ⟨_, rfl⟩
      have hb4 : Below w1.heap.size w1 V4 := by rw [e4]; exact setCells_below _ (Nat.le_refl _) _ _ _ ((Below.refl _ _).alloc (Nat.le_refl _) _)
      have X4 : Hid (ArrV 52 V4 w1.heap.size X) := by
        show ArrV _ _ _ _
        rw [e4]
        exact (ArrV.new _ w1 Z).store X (by rw [Xl, hZl])
      rw [← e4]
      obtain ⟨g4, hg4⟩ : ∃ g, g = w1.heap.size := ⟨_, rfl⟩
      have hlt : g2 < g4 := by rw [hg4]; exact HA1.out.lt
      have A4 := Lib.hid (HA1.out.below hb4)
      have B4 := Lib.hid (below_both B1.out hb4)
      have HG4 : Hid (w.heap.size ≤ g4 ∧ g2 < g4) := ⟨by rw [hg4]; exact B1.out.size, hlt⟩
      rw [← hg4] at X4 ⊢
      clear e4 hb4 HA1 B1 hg4 hlt
      go_wp2_with fail
      refine (CP.out V4 g4 (by rw [← HX.out]; exact X4.out) (HR.out.below B4.out)).mono ?_
      rintro e w5 ⟨rfl, y5, b5⟩
      obtain ⟨Y, hY⟩ : ∃ Y, Y = trCells r r.has x y (.slice P m pc) := ⟨_, rfl⟩
      obtain ⟨Yl, Yo⟩ := HXL.out r.has x y
      rw [← hY] at y5 Yl Yo
      have Y5 := Lib.hid y5
      have HY := Lib.hid hY
      have A5 := Lib.hid (A4.out.belowB b5 HG4.out.2)
      have B5 := Lib.hid (B4.out.trans (b5.mono HG4.out.1))
      clear y5 hY b5 A4 B4 X4
      go_upto_region 6 with fail
      have A6 := Lib.hid (A5.out.alloc (.cells #[.int .i64 (d : Nat)] 24))
      have hnew : (w5.alloc (.cells #[.int .i64 (d : Nat)] 24)).heap[w5.heap.size]? = some (.cells #[.int .i64 (d : Nat)] 24 (0, 0)) := heap_alloc_new _ _
      have hne2 : w5.heap.size ≠ g2 := Nat.ne_of_gt A5.out.lt
      have HN : Hid (DefRead ((w5.alloc (.cells #[.int .i64 (d : Nat)] 24)).setCells g2 0 Z) (.slice (some ⟨w5.heap.size, 0, none⟩) 1 1) [d]) := def_at (t := 24) ((heap_setCells_far hne2 _ _ _).trans hnew)
      clear hnew hne2
      go_wp2_with (first | refine wpList_store_v rfl 52 (.tmp 2) (.tmp 20) rfl _ rfl tytr A6.out hZl Z hZl hZo rfl ?_ | fail)
      have HS := A6.out.store Z rfl
      exact bodyPost_ret (v := .tuple #[.agg Z.toArray, .slice (some ⟨w5.heap.size, 0, none⟩) 1 1]) (res_cell_tmp Tryz.results33 rfl (HS.loadVar tytr hZl) rfl) rfl ⟨setCells_below g2 (by rw [HG2.out]; exact Nat.le_refl _) _ _ _ (B5.out.alloc B5.out.size _), fun _ => ⟨_, rfl, HN.out⟩, fun h => by cases h⟩
  · rw [if_pos hD]
    have CH1 : Hid (∀ W, Below w.heap.size w W → Calls Tryz.prog 50 #[b] W fun e w' => ∃ A c, e = .returned (.tuple #[.agg Z.toArray, .slice A D.length c]) ∧ DefRead w' (.slice A D.length c) D ∧ Below W.heap.size W w') := fun W hW => (CH.out W hW).mono fun e w' h => by
      obtain ⟨h1, h2, _⟩ := h
      obtain ⟨v, rfl, hd⟩ := h2 hD
      obtain ⟨A, c, rfl, h4, h5⟩ := hd
      exact ⟨A, c, rfl, ⟨A, c, rfl, h4, h5⟩, h1⟩
    have hl0 : 0 < D.length := List.length_pos_iff.2 hD
    obtain ⟨q, hq⟩ : ∃ q, q = D.length := ⟨_, rfl⟩
    rw [← hq] at CH1 hl0
    have qI : (0 : Int) < (q : Int) := by omega
    have HND := Lib.hid hD
    clear hg2 hD hr hs hd hm hm2 hl0 CH hq hR hZ
    go_enter Tryz.func33, Tryz.ntmps33
    go_upto_region 1 with fail
    rw [← e0, ← HG2.out]
    clear e0
    go_wp2_with fail
    refine (CH1.out _ HB.out).mono ?_
    rintro e w1 ⟨A, c, rfl, d1, b1⟩
    have HA1 := Lib.hid (HA.out.below b1)
    have B1 := Lib.hid (below_both HB.out b1)
    have D1 := Lib.hid d1
    clear d1 b1
    go_upto_region 2 with (first | refine wpList_store_v rfl 52 (.tmp 4) (.tmp 10) rfl _ rfl tytr (ArrV.new _ _ Z) hZl Z hZl hZo rfl ?_ | fail)
    obtain ⟨V4, e4⟩ : ∃ V, V = (w1.alloc (.cells Z.toArray 52)).setCells w1.heap.size 0 Z := ⟨_, rfl⟩
    have hb4 : Below w1.heap.size w1 V4 := by rw [e4]; exact setCells_below _ (Nat.le_refl _) _ _ _ ((Below.refl _ _).alloc (Nat.le_refl _) _)
    rw [← e4]
    have A4 := Lib.hid (HA1.out.below hb4)
    have B4 := Lib.hid (below_both B1.out hb4)
    have D4 := Lib.hid (D1.out.below hb4)
    clear e4 hb4 HA1 B1 D1
    go_wp2_with (first | refine wpList_store_v rfl 52 (.tmp 2) (.tmp 15) rfl _ rfl tytr A4.out hZl Z hZl hZo rfl ?_ | fail)
    have HS := A4.out.store Z rfl
    exact bodyPost_ret (v := .tuple #[.agg Z.toArray, .slice A q c]) (res_cell_tmp Tryz.results33 rfl (HS.loadVar tytr hZl) rfl) rfl ⟨setCells_below g2 (by rw [HG2.out]; exact Nat.le_refl _) _ _ _ B4.out, fun _ => ⟨_, rfl, D4.out.again A4.out⟩, fun h => absurd h HND.out⟩
end Go.Proofs.YtmchclpkjjmocaaGreat

namespace Go.Proofs.YtmchclpkjjmocaaGreat
open Go.RowKit
set_option linter.unusedVariables false
set_option maxRecDepth 8000

def pkPv (A : Option Addr) (c : Nat) (r : PkRec) : Value := .slice (if c = r.at_ then A else A.map (·.add r.at_)) (r.size - r.at_) (c - r.at_)
def z16 : List Value := bcells (List.replicate 16 0)
def z12 : List Value := bcells (List.replicate 12 0)
theorem z_lens : z16.length = 16 ∧ z12.length = 12 := ⟨rfl, rfl⟩
theorem copy_one {a : Value} {S R : List Value} : (a :: (z16 ++ R)).take 1 ++ S ++ (a :: (z16 ++ R)).drop 5 = a :: ((S ++ z12) ++ R) := by
  have e : (a :: (z16 ++ R)).drop 5 = z12 ++ R := rfl
  rw [e]
  simp
theorem copy_two {a : Value} {S D T : List Value} (hS : S.length = 16) : (a :: (S ++ (z16 ++ T))).take 17 ++ D ++ (a :: (S ++ (z16 ++ T))).drop 21 = a :: (S ++ ((D ++ z12) ++ T)) := by
  have e : (S ++ (z16 ++ T)).drop 20 = z12 ++ T := by
    rw [show 20 = 16 + 4 from rfl, ← List.drop_drop, List.drop_left' hS]
    rfl
  rw [List.take_succ_cons, List.take_left' hS, List.drop_succ_cons, e]
  simp
theorem pkfour_of {bs : List Nat} {k : Nat} (h : k + 4 ≤ bs.length) : (bs.drop k).take 4 = [bs.getD k 0, bs.getD (k + 1) 0, bs.getD (k + 2) 0, bs.getD (k + 3) 0] := by
  refine List.ext_getElem (by simp; omega) fun i h1 h2 => ?_
  simp at h2
  match i, h2 with
  | 0, _ => simp [List.getD_eq_getElem?_getD, List.getElem?_eq_getElem (show k < bs.length by omega)]
  | 1, _ => simp [List.getD_eq_getElem?_getD, List.getElem?_eq_getElem (show k + 1 < bs.length by omega)]
  | 2, _ => simp [List.getD_eq_getElem?_getD, List.getElem?_eq_getElem (show k + 2 < bs.length by omega)]
  | 3, _ => simp [List.getD_eq_getElem?_getD, List.getElem?_eq_getElem (show k + 3 < bs.length by omega)]
theorem flag_one {f : Nat} (h : f < 8) : bits .and .i64 (f : Int) 1 = ((f % 2 : Nat) : Int) := by
  match f, h with
  | 0, _ | 1, _ | 2, _ | 3, _ | 4, _ | 5, _ | 6, _ | 7, _ => decide
theorem four_tail (bs : List Nat) (pv : Value) : trTail (pk4 bs) false 0 0 pv = [.int .i64 (bs.getD 9 0 : Nat), .int .i64 (fhw bs 2 : Nat), .int .i64 (4 * (bs.getD 0 0 % 16) : Nat), .int .i64 ((pk4 bs).frag : Nat), .bool false, .int .i64 0, .int .i64 0, .int .u8 (bs.getD 1 0 : Nat), pv] := rfl
theorem pkfour_ints {i m tot n c : Nat} (hi : i < 16) (hm : m = 4 * i) (h1 : m ≤ tot) (h2 : tot ≤ n) (h3 : n ≤ c) : wrap64 (4 * (i : Int)) = (m : Int) ∧ (0 : Int) ≤ (m : Int) ∧ (m : Int) ≤ (tot : Int) ∧ (tot : Int) ≤ (c : Int) ∧ (0 : Int) ≤ (tot : Int) := by
  subst hm
  refine ⟨by unfold wrap64; omega, by omega, by omega, by omega, by omega⟩
set_option maxHeartbeats 6400000 in
theorem pkfour_any (A : Option Addr) (n c : Nat) (bs : List Nat) (w : World) (hn2 : n ≤ 140737488355328) (hc : n ≤ c) (hR : Row w A n bs) :
    Calls Tryz.prog 71 #[.slice A n c] w (HeadsIs (fhall n bs) (pk4 bs) false 0 0 (pkPv A c (pk4 bs)) w) := by
  have CH := Lib.hid (fun w (hR : Row w A n bs) => fhall_any A n c bs w hc hn2 hR)
  unfold AllIs at CH
  obtain ⟨Z, hZ⟩ : ∃ Z, Z = trZ := ⟨_, rfl⟩
  obtain ⟨hZl, hZo⟩ := trZ_all
  have hlit := tr_lit
  obtain ⟨V, e0⟩ : ∃ V, V = w.alloc (.cells Z.toArray 52) := ⟨_, rfl⟩
  unfold HeadsIs
  rw [← hZ] at hZl hZo hlit ⊢
  have HA : Hid (ArrV 52 V w.heap.size Z) := by show ArrV _ _ _ _; rw [e0]; exact ArrV.new _ w Z
  have HB : Hid (Below w.heap.size w V) := by show Below _ _ _; rw [e0]; exact (Below.refl _ _).alloc (Nat.le_refl _) _
  obtain ⟨g2, hg2⟩ : ∃ g, g = w.heap.size := ⟨_, rfl⟩
  have HG2 := Lib.hid hg2
  rw [← hg2] at HA
  have HR := Lib.hid hR
  obtain ⟨D, hDD⟩ : ∃ D, D = fhall n bs := ⟨_, rfl⟩
  rw [← hDD] at CH ⊢
  by_cases hD : D = []
  · have HDEF : Hid (∀ W, Row W A n bs → Calls Tryz.prog 89 #[.slice A n c] W fun e w' => ∃ A9 c9, e = .returned (.slice A9 0 c9) ∧ Below W.heap.size W w') := fun W hW => (CH.out W hW).mono fun e w' h => by
      obtain ⟨v, rfl, hd, hb⟩ := h
      obtain ⟨A9, c9, rfl, _, _⟩ := hd
      rw [hD]
      exact ⟨A9, c9, rfl, hb⟩
    rw [hD] at hDD
    obtain ⟨d0, h20, m20, hmt, htn⟩ := fhall_nil hDD.symm
    have CR := Lib.hid (fun w (hR : Row w A n bs) => fhread_any A n c bs w hn2 hc hR)
    unfold ReadIs at CR
    have hval : fhval n bs = fhf bs := by unfold fhval; rw [if_pos d0]
    rw [hval, d0] at CR
    have hby := hR.byte
    have hF0 : (fhf bs)[0]? = some (.int .i64 (bs.getD 0 0 % 16 : Nat)) := rfl
    have hF1 : (fhf bs)[1]? = some (.int .i64 (bs.getD 1 0 : Nat)) := rfl
    have hF2 : (fhf bs)[2]? = some (.int .i64 (fhw bs 2 : Nat)) := rfl
    have hF4 : (fhf bs)[4]? = some (.int .i64 (bs.getD 6 0 / 32 : Nat)) := rfl
    have hF5 : (fhf bs)[5]? = some (.int .i64 (fhw bs 6 % 8192 : Nat)) := rfl
    have hF7 : (fhf bs)[7]? = some (.int .i64 (bs.getD 9 0 : Nat)) := rfl
    have hsb := pkfour_of (bs := bs) (k := 12) (by rw [hR.1]; omega)
    have hdb := pkfour_of (bs := bs) (k := 16) (by rw [hR.1]; omega)
    obtain ⟨S, hS⟩ : ∃ S, S = bcells ((bs.drop 12).take 4) := ⟨_, rfl⟩
    obtain ⟨T, hT⟩ : ∃ T, T = bcells ((bs.drop 16).take 4) := ⟨_, rfl⟩
    have hS4 : S = ((fhf bs).drop 9).take 4 := by rw [hS, hsb]; rfl
    have hT4 : T = ((fhf bs).drop 13).take 4 := by rw [hT, hdb]; rfl
    have hSl : S.length = 4 := by rw [hS, bcells_length, hsb]; rfl
    have hTl : T.length = 4 := by rw [hT, bcells_length, hdb]; rfl
    have hSo : ∀ v ∈ S, v.oneCell' = true := by rw [hS]; exact bcells_one _
    have hTo : ∀ v ∈ T, v.oneCell' = true := by rw [hT]; exact bcells_one _
    have HFS : Hid (∀ (j : Nat) v, S[j]? = some v → (fhf bs)[9 + j]? = some v) := fun j v h => by
      have hj := (List.getElem?_eq_some_iff.1 h).1
      rw [hS4, List.getElem?_take, if_pos (by omega), List.getElem?_drop] at h
      exact h
    have HFT : Hid (∀ (j : Nat) v, T[j]? = some v → (fhf bs)[13 + j]? = some v) := fun j v h => by
      have hj := (List.getElem?_eq_some_iff.1 h).1
      rw [hT4, List.getElem?_take, if_pos (by omega), List.getElem?_drop] at h
      exact h
    have hFin : ∀ pv, Value.int .i64 4 :: ((S ++ z12) ++ ((T ++ z12) ++ trTail (pk4 bs) false 0 0 pv)) = trCells (pk4 bs) false 0 0 pv := fun pv => by
      rw [hS, hT]
      unfold trCells pk4 z12
      simp only [bcells, List.map_append]
      rfl
    have HFIN := Lib.hid hFin
    have HTAIL := Lib.hid (four_tail bs)
    have hfl : (fhf bs).length = 17 := fhf_len bs
    have hfo := fhf_one bs
    obtain ⟨F, hF⟩ : ∃ F, F = fhf bs := ⟨_, rfl⟩
    have hfr : (pk4 bs).frag = if fhw bs 6 % 8192 ≠ 0 then 2 else if bs.getD 6 0 / 32 % 2 = 1 then 1 else 0 := rfl
    have hat : (pk4 bs).at_ = 4 * (bs.getD 0 0 % 16) := rfl
    have hsz : (pk4 bs).size = fhw bs 2 := rfl
    rw [← hF] at CR hF0 hF1 hF2 hF4 hF5 hF7 HFS HFT hfl hfo
    obtain ⟨ihl, hihl⟩ : ∃ x, x = bs.getD 0 0 % 16 := ⟨_, rfl⟩
    obtain ⟨tos, htos⟩ : ∃ x, x = bs.getD 1 0 := ⟨_, rfl⟩
    obtain ⟨tot, htot⟩ : ∃ x, x = fhw bs 2 := ⟨_, rfl⟩
    obtain ⟨fl, hfl2⟩ : ∃ x, x = bs.getD 6 0 / 32 := ⟨_, rfl⟩
    obtain ⟨off, hoff⟩ : ∃ x, x = fhw bs 6 % 8192 := ⟨_, rfl⟩
    obtain ⟨pr, hpr⟩ : ∃ x, x = bs.getD 9 0 := ⟨_, rfl⟩
    obtain ⟨m, hm⟩ : ∃ m, m = 4 * ihl := ⟨_, rfl⟩
    have hfl8 : fl < 8 := by have := hby 6; omega
    have ht256 : (tos : Int) % 256 = (tos : Int) := by have := hby 1; omega
    rw [← hihl] at hF0 m20 hmt HTAIL hat
    rw [← htos] at hF1 HTAIL
    rw [← htot] at hF2 hmt htn HTAIL hsz
    rw [← hfl2] at hF4 hfr
    rw [← hoff] at hF5 hfr
    rw [← hpr] at hF7 HTAIL
    rw [← hm] at m20 hmt HTAIL hat
    obtain ⟨i1, i2, i3, i4, i5⟩ := pkfour_ints (by omega) hm hmt htn hc
    have hpv : pkPv A c (pk4 bs) = .slice (if c = m then A else A.map (·.add m)) (tot - m) (c - m) := by unfold pkPv; rw [hat, hsz]
    rw [hpv]
    obtain ⟨frI, hfrr⟩ : ∃ x : Int, x = ((pk4 bs).frag : Nat) := ⟨_, rfl⟩
    rw [← hfrr] at HTAIL
    have HFRAG : Hid (frI = ((if off ≠ 0 then 2 else if fl % 2 = 1 then 1 else 0 : Nat) : Int)) := by show _ = _; rw [hfrr, hfr]
    obtain ⟨ZF, hZF⟩ : ∃ ZF, ZF = fhz := ⟨_, rfl⟩
    have hZFl : ZF.length = 17 := by rw [hZF]; rfl
    have hlitF : (#[.int .i64 0, .int .i64 0, .int .i64 0, .int .i64 0, .int .i64 0, .int .i64 0, .int .i64 0, .int .i64 0, .int .i64 0, .int .u8 0, .int .u8 0, .int .u8 0, .int .u8 0, .int .u8 0, .int .u8 0, .int .u8 0, .int .u8 0] : Array Value) = ZF.toArray := by rw [hZF]; rfl
    obtain ⟨Y0, hY0⟩ : ∃ Y, Y = Value.int .i64 0 :: (z16 ++ (z16 ++ [.int .i64 0, .int .i64 0, .int .i64 0, .int .i64 0, .bool false, .int .i64 0, .int .i64 0, .int .u8 (tos : Nat), .slice none 0 0])) := ⟨_, rfl⟩
    have hlitY : Z.set 40 (.int .u8 (tos : Nat)) = Y0 := by rw [hZ, hY0]; rfl
    have hY0l : Y0.length = 42 := by rw [hY0]; rfl
    have hY0o : ∀ v ∈ Y0, v.oneCell' = true := by rw [hY0]; unfold z16 bcells; simp [Value.oneCell']
    have HY0 := Lib.hid hY0
    have HFL := Lib.hid (And.intro hfl hfo)
    clear hDD d0 h20 m20 hmt htn hval hby hsb hdb hS hT hS4 hT4 hFin hihl htos htot hfl2 hoff hpr hm hat hsz hfr hpv hfrr hZF hY0 hF hR hn2 hc hZ hg2 CH
    have CH1 : Hid (∀ W, Row W A n bs → Calls Tryz.prog 89 #[.slice A n c] W fun e w' => ∃ A9 c9, e = .returned (.slice A9 0 c9) ∧ Below W.heap.size W w') := fun W hW => (HDEF.out W hW)
    go_enter Tryz.func71, Tryz.ntmps71
    go_upto_region 1 with fail
    rw [← e0, ← HG2.out]
    clear e0
    go_wp2_with fail
    refine (CH1.out _ (HR.out.below HB.out)).mono ?_
    rintro e w1 ⟨A9, c9, rfl, b1⟩
    have A1 := Lib.hid (HA.out.below b1)
    have B1 := Lib.hid (below_both HB.out b1)
    clear b1 HA HB CH1
    go_wp2_with fail
    refine (CR.out _ (HR.out.below B1.out)).mono ?_
    rintro e w2 ⟨rfl, b2⟩
    have A2 := Lib.hid (A1.out.below b2)
    have B2 := Lib.hid (below_both B1.out b2)
    clear b2 A1 B1 CR
    go_upto_region 5 with (first | refine wpList_store_v rfl 63 (.tmp 5) (.tmp 18) rfl _ rfl tyfour (ArrV.new _ _ ZF) hZFl F HFL.out.1 HFL.out.2 rfl ?_ | fail)
    obtain ⟨V5, e5⟩ : ∃ V, V = (w2.alloc (.cells ZF.toArray 63)).setCells w2.heap.size 0 F := ⟨_, rfl⟩
    have hb5 : Below w2.heap.size w2 V5 := by rw [e5]; exact setCells_below _ (Nat.le_refl _) _ _ _ ((Below.refl _ _).alloc (Nat.le_refl _) _)
    have F5 : Hid (ArrV 63 V5 w2.heap.size F) := by
      show ArrV _ _ _ _
      rw [e5]
      exact (ArrV.new _ w2 ZF).store F (by rw [HFL.out.1, hZFl])
    rw [← e5]
    obtain ⟨g5, hg5⟩ : ∃ g, g = w2.heap.size := ⟨_, rfl⟩
    have A5 := Lib.hid (A2.out.below hb5)
    have B5 := Lib.hid (below_both B2.out hb5)
    have HG5 : Hid (w.heap.size ≤ g5) := by show w.heap.size ≤ g5; rw [hg5]; exact B2.out.size
    rw [← hg5] at F5 ⊢
    clear e5 hb5 hg5 A2 B2 hlitF
    have x1 := (F5.out.get 1).trans hF1
    go_upto_region 6 with (first | refine wpList_store_v rfl 52 (.tmp 7) (.tmp 23) rfl _ rfl tytr (ArrV.new _ _ Z) hZl Y0 hY0l hY0o rfl ?_ | fail)
    obtain ⟨V6, e6⟩ : ∃ V, V = (V5.alloc (.cells Z.toArray 52)).setCells V5.heap.size 0 Y0 := ⟨_, rfl⟩
    have hb6 : Below V5.heap.size V5 V6 := by rw [e6]; exact setCells_below _ (Nat.le_refl _) _ _ _ ((Below.refl _ _).alloc (Nat.le_refl _) _)
    have hY6 : ArrV 52 V6 V5.heap.size Y0 := by
      rw [e6]
      exact (ArrV.new _ V5 Z).store Y0 (by rw [hY0l, hZl])
    rw [← e6]
    obtain ⟨g7, hg7⟩ : ∃ g, g = V5.heap.size := ⟨_, rfl⟩
    have F6 := Lib.hid (F5.out.below hb6)
    have A6 := Lib.hid (A5.out.below hb6)
    have B6 := Lib.hid (below_both B5.out hb6)
    have HG7 : Hid (g5 < g7 ∧ g2 < g7 ∧ w.heap.size ≤ g7) := by
      refine ⟨?_, ?_, ?_⟩
      · rw [hg7]; exact F5.out.lt
      · rw [hg7]; exact A5.out.lt
      · rw [hg7]; exact B5.out.size
    rw [← hg7] at hY6 ⊢
    clear e6 hb6 hg7 F5 A5 B5 hlitY
    have k0 := (F6.out.get 0).trans hF0
    have k2 := (F6.out.get 2).trans hF2
    have k7 := (F6.out.get 7).trans hF7
    rw [HY0.out] at hY6
    have y0 := hY6.get 0
    have fy0 := hY6.frozen 0
    have u1 := hY6.set 0 (.int .i64 4)
    simp only [List.set_cons_zero, List.getElem?_cons_zero] at u1 y0
    have y33 := (u1.get 33).trans (three_at z_lens.1 z_lens.1 0)
    have fy33 := u1.frozen 33
    have u2 := u1.set 33 (.int .i64 (pr : Nat))
    rw [show 33 = 33 + 0 from rfl, three_set z_lens.1 z_lens.1] at u2
    have y34 := (u2.get 34).trans (three_at z_lens.1 z_lens.1 1)
    have fy34 := u2.frozen 34
    have u3 := u2.set 34 (.int .i64 (tot : Nat))
    rw [show 34 = 33 + 1 from rfl, three_set z_lens.1 z_lens.1] at u3
    have y35 := (u3.get 35).trans (three_at z_lens.1 z_lens.1 2)
    have fy35 := u3.frozen 35
    have u4 := u3.set 35 (.int .i64 (m : Nat))
    rw [show 35 = 33 + 2 from rfl, three_set z_lens.1 z_lens.1] at u4
    simp only [List.set_cons_zero, List.set_cons_succ, List.getElem?_cons_zero, List.getElem?_cons_succ, Nat.add_zero, Nat.reduceAdd] at u1 u2 u3 u4 y33 y34 y35 fy33 fy34 fy35
    obtain ⟨W7, eW⟩ : ∃ W, W = (((V6.setCell ⟨g7, 0, none⟩ (.int .i64 4)).setCell ⟨g7, 33, none⟩ (.int .i64 (pr : Nat))).setCell ⟨g7, 34, none⟩ (.int .i64 (tot : Nat))).setCell ⟨g7, 35, none⟩ (.int .i64 (m : Nat)) := ⟨_, rfl⟩
    have n75 : g7 ≠ g5 := Nat.ne_of_gt HG7.out.1
    have n72 : g7 ≠ g2 := Nat.ne_of_gt HG7.out.2.1
    have F7 : ArrV 63 W7 g5 F := by rw [eW]; exact ((((F6.out.other ⟨g7, 0, none⟩ _ n75).other ⟨g7, 33, none⟩ _ n75).other ⟨g7, 34, none⟩ _ n75).other ⟨g7, 35, none⟩ _ n75)
    have A7 : ArrV 52 W7 g2 Z := by rw [eW]; exact ((((A6.out.other ⟨g7, 0, none⟩ _ n72).other ⟨g7, 33, none⟩ _ n72).other ⟨g7, 34, none⟩ _ n72).other ⟨g7, 35, none⟩ _ n72)
    have B7 : Below w.heap.size w W7 := by rw [eW]; exact (((B6.out.setCell (p := ⟨g7, 0, none⟩) HG7.out.2.2 _).setCell (p := ⟨g7, 33, none⟩) HG7.out.2.2 _).setCell (p := ⟨g7, 34, none⟩) HG7.out.2.2 _).setCell (p := ⟨g7, 35, none⟩) HG7.out.2.2 _
    rw [← eW] at u4
    obtain ⟨w8, hcp, hO8, b8⟩ := copy_at Tryz.underlying22 u8one 52 W7.drew g7 1 16 16 _ ⟨g5, 9, none⟩ 4 4 S u4.drew (by rw [hSl]; rfl) (arr_src F7.drew HFS.out) (by rw [hSl]; simp [z_lens.1]) hSo
    rw [hSl] at hcp hO8
    rw [show 1 + 4 = 5 from rfl, copy_one] at hO8
    have F8 : ArrV 63 w8 g5 F := F7.drew.belowB b8 HG7.out.1
    have A8 : ArrV 52 w8 g2 Z := A7.drew.belowB b8 HG7.out.2.1
    have B8 : Below w.heap.size w w8 := B7.drew.trans (b8.mono HG7.out.2.2)
    have hS16 : (S ++ z12).length = 16 := by rw [List.length_append, hSl, z_lens.2]
    have hT16 : (T ++ z12).length = 16 := by rw [List.length_append, hTl, z_lens.2]
    obtain ⟨w9, hcp2, hO9, b9⟩ := copy_at Tryz.underlying22 u8one 52 w8.drew g7 17 16 16 _ ⟨g5, 13, none⟩ 4 4 T hO8.drew (by rw [hTl]; rfl) (arr_src F8.drew HFT.out) (by rw [hTl]; simp [hSl, z_lens.1, z_lens.2]) hTo
    rw [hTl] at hcp2 hO9
    rw [show 17 + 4 = 21 from rfl, copy_two hS16] at hO9
    have F9 := Lib.hid (F8.drew.belowB b9 HG7.out.1)
    have A9' := Lib.hid (A8.drew.belowB b9 HG7.out.2.1)
    have B9 : Hid (Below w.heap.size w w9) := B8.drew.trans (b9.mono HG7.out.2.2)
    have U9 := Lib.hid hO9
    have HST16 := Lib.hid (And.intro hS16 hT16)
    clear F7 A7 B7 F8 A8 B8 b8 b9 hO8 hO9 u1 u2 u3 n75 n72
    go_upto_region 7 with fail
    rw [← eW]
    clear eW u4 y0 fy0 y33 fy33 y34 fy34 y35 fy35 k0 k2 k7 x1
    go_region
    go_wp2_with fail
    go_region
    go_upto_region 9 with fail
    have x4 := (F9.out.get 4).trans hF4
    have x5 := (F9.out.get 5).trans hF5
    by_cases hoff0 : off ≠ 0
    · have ob : ((off : Int) != 0) = true := bne_iff_ne.2 (by omega)
      have y36 := (U9.out.get 36).trans (three_at HST16.out.1 HST16.out.2 3)
      have fy36 := U9.out.frozen 36
      have u10 := U9.out.set 36 (.int .i64 2)
      rw [show 36 = 33 + 3 from rfl, three_set HST16.out.1 HST16.out.2] at u10
      simp only [List.set_cons_zero, List.set_cons_succ, List.getElem?_cons_zero, List.getElem?_cons_succ, Nat.reduceAdd] at u10 y36 fy36
      have hfr : frI = 2 := by rw [HFRAG.out, if_pos hoff0]; rfl
      have n72 : g7 ≠ g2 := Nat.ne_of_gt HG7.out.2.1
      have W10 : Hid (Below w.heap.size w (w9.setCell ⟨g7, 36, none⟩ (.int .i64 2)) ∧ ArrV 52 (w9.setCell ⟨g7, 36, none⟩ (.int .i64 2)) g2 Z) := ⟨B9.out.setCell (p := ⟨g7, 36, none⟩) HG7.out.2.2 _, A9'.out.other ⟨g7, 36, none⟩ _ n72⟩
      clear n72
      obtain ⟨W0, eW⟩ : ∃ W, W = (w9.setCell ⟨g7, 36, none⟩ (.int .i64 2)) := ⟨_, rfl⟩
      rw [← eW] at u10 W10
      have U10 := Lib.hid u10
      clear u10
      go_upto_region 13 with fail
      rw [← eW]
      clear eW y36 fy36 x4 x5
      obtain ⟨W10a, W10b⟩ := W10.out
      have y34 := (U10.out.get 34).trans (three_at HST16.out.1 HST16.out.2 1)
      have y35 := (U10.out.get 35).trans (three_at HST16.out.1 HST16.out.2 2)
      have y41 := (U10.out.get 41).trans (three_at HST16.out.1 HST16.out.2 8)
      have fy41 := U10.out.frozen 41
      have u11 := U10.out.set 41 (.slice (if c = m then A else A.map (·.add m)) (tot - m) (c - m))
      rw [show 41 = 33 + 8 from rfl, three_set HST16.out.1 HST16.out.2] at u11
      simp only [List.set_cons_zero, List.set_cons_succ, List.getElem?_cons_zero, List.getElem?_cons_succ, Nat.reduceAdd] at u11 y34 y35 y41 fy41
      have hfin := HFIN.out (.slice (if c = m then A else A.map (·.add m)) (tot - m) (c - m))
      rw [HTAIL.out, hfr] at hfin
      rw [hfin] at u11
      obtain ⟨Yl, Yo⟩ : (trCells (pk4 bs) false 0 0 (.slice (if c = m then A else A.map (·.add m)) (tot - m) (c - m))).length = 42 ∧ ∀ v ∈ trCells (pk4 bs) false 0 0 (.slice (if c = m then A else A.map (·.add m)) (tot - m) (c - m)), v.oneCell' = true := by
        rw [← hfin]
        refine ⟨by simp [hSl, hTl, z_lens.2], fun v hv => ?_⟩
        have hzz : ∀ v ∈ z12, v.oneCell' = true := bcells_one _
        rcases List.mem_cons.1 hv with rfl | hv
        · rfl
        rcases List.mem_append.1 hv with hv | hv
        · rcases List.mem_append.1 hv with hv | hv
          · exact hSo v hv
          · exact hzz v hv
        rcases List.mem_append.1 hv with hv | hv
        · rcases List.mem_append.1 hv with hv | hv
          · exact hTo v hv
          · exact hzz v hv
        · simp at hv
          rcases hv with rfl | rfl | rfl | rfl | rfl | rfl | rfl | rfl <;> rfl
      have n72 : g7 ≠ g2 := Nat.ne_of_gt HG7.out.2.1
      have A11 := W10b.other ⟨g7, 41, none⟩ (.slice (if c = m then A else A.map (·.add m)) (tot - m) (c - m)) n72
      have B11 := W10a.setCell (p := ⟨g7, 41, none⟩) HG7.out.2.2 (.slice (if c = m then A else A.map (·.add m)) (tot - m) (c - m))
      obtain ⟨Y, hY⟩ : ∃ Y, Y = trCells (pk4 bs) false 0 0 (.slice (if c = m then A else A.map (·.add m)) (tot - m) (c - m)) := ⟨_, rfl⟩
      rw [← hY] at u11 Yl Yo
      obtain ⟨pv, hpv⟩ : ∃ pv : Value, pv = (.slice (if c = m then A else A.map (·.add m)) (tot - m) (c - m)) := ⟨_, rfl⟩
      rw [← hpv] at u11 A11 B11
      obtain ⟨W11, e11⟩ : ∃ W, W = W0.setCell ⟨g7, 41, none⟩ pv := ⟨_, rfl⟩
      rw [← e11] at u11 A11 B11
      have U11 := Lib.hid u11
      have A11 := Lib.hid A11
      have B11 := Lib.hid B11
      have HY := Lib.hid hY
      clear u11 hfin hY n72 W10a W10b hfr
      go_upto_region 14 with fail
      rw [← hpv, ← e11]
      clear hpv e11 y34 y35 y41 fy41
      refine wp_region_lit ?_
      go_wp2_with (first | refine wpList_load_v rfl 52 (.tmp 7) rfl _ rfl tytr U11.out Yl ?_ | refine wpList_store_v rfl 52 (.tmp 2) (.tmp 73) rfl _ rfl tytr A11.out hZl Y Yl Yo rfl ?_ | fail)
      all_goals
        have HS := A11.out.store Y (by rw [Yl, hZl])
        exact bodyPost_ret (v := .tuple #[.agg Y.toArray, .slice none 0 0]) (res_cell_tmp Tryz.results71 rfl (HS.loadVar tytr Yl) rfl) rfl ⟨setCells_below g2 (by rw [HG2.out]; exact Nat.le_refl _) _ _ _ B11.out, by rw [HY.out]; first | rw [if_neg (by assumption)] | (have hcm : c = m := (by assumption); rw [if_pos hcm, hcm, Nat.sub_self])⟩
    · have hoff0 : off = 0 := Decidable.of_not_not hoff0
      have ob : ((off : Int) != 0) = false := by rw [hoff0]; rfl
      have fb := flag_one hfl8
      by_cases hfl1 : fl % 2 = 1
      · have fb2 : (((fl % 2 : Nat) : Int) != 0) = true := bne_iff_ne.2 (by omega)
        have y36 := (U9.out.get 36).trans (three_at HST16.out.1 HST16.out.2 3)
        have fy36 := U9.out.frozen 36
        have u10 := U9.out.set 36 (.int .i64 1)
        rw [show 36 = 33 + 3 from rfl, three_set HST16.out.1 HST16.out.2] at u10
        simp only [List.set_cons_zero, List.set_cons_succ, List.getElem?_cons_zero, List.getElem?_cons_succ, Nat.reduceAdd] at u10 y36 fy36
        have hfr : frI = 1 := by rw [HFRAG.out, if_neg (fun h => h hoff0), if_pos hfl1]; rfl
        have n72 : g7 ≠ g2 := Nat.ne_of_gt HG7.out.2.1
        have W10 : Hid (Below w.heap.size w (w9.setCell ⟨g7, 36, none⟩ (.int .i64 1)) ∧ ArrV 52 (w9.setCell ⟨g7, 36, none⟩ (.int .i64 1)) g2 Z) := ⟨B9.out.setCell (p := ⟨g7, 36, none⟩) HG7.out.2.2 _, A9'.out.other ⟨g7, 36, none⟩ _ n72⟩
        clear n72
        obtain ⟨W0, eW⟩ : ∃ W, W = (w9.setCell ⟨g7, 36, none⟩ (.int .i64 1)) := ⟨_, rfl⟩
        rw [← eW] at u10 W10
        have U10 := Lib.hid u10
        clear u10
        go_upto_region 13 with fail
        rw [← eW]
        clear eW y36 fy36 x4 x5
        obtain ⟨W10a, W10b⟩ := W10.out
        have y34 := (U10.out.get 34).trans (three_at HST16.out.1 HST16.out.2 1)
        have y35 := (U10.out.get 35).trans (three_at HST16.out.1 HST16.out.2 2)
        have y41 := (U10.out.get 41).trans (three_at HST16.out.1 HST16.out.2 8)
        have fy41 := U10.out.frozen 41
        have u11 := U10.out.set 41 (.slice (if c = m then A else A.map (·.add m)) (tot - m) (c - m))
        rw [show 41 = 33 + 8 from rfl, three_set HST16.out.1 HST16.out.2] at u11
        simp only [List.set_cons_zero, List.set_cons_succ, List.getElem?_cons_zero, List.getElem?_cons_succ, Nat.reduceAdd] at u11 y34 y35 y41 fy41
        have hfin := HFIN.out (.slice (if c = m then A else A.map (·.add m)) (tot - m) (c - m))
        rw [HTAIL.out, hfr] at hfin
        rw [hfin] at u11
        obtain ⟨Yl, Yo⟩ : (trCells (pk4 bs) false 0 0 (.slice (if c = m then A else A.map (·.add m)) (tot - m) (c - m))).length = 42 ∧ ∀ v ∈ trCells (pk4 bs) false 0 0 (.slice (if c = m then A else A.map (·.add m)) (tot - m) (c - m)), v.oneCell' = true := by
          rw [← hfin]
          refine ⟨by simp [hSl, hTl, z_lens.2], fun v hv => ?_⟩
          have hzz : ∀ v ∈ z12, v.oneCell' = true := bcells_one _
          rcases List.mem_cons.1 hv with rfl | hv
          · rfl
          rcases List.mem_append.1 hv with hv | hv
          · rcases List.mem_append.1 hv with hv | hv
            · exact hSo v hv
            · exact hzz v hv
          rcases List.mem_append.1 hv with hv | hv
          · rcases List.mem_append.1 hv with hv | hv
            · exact hTo v hv
            · exact hzz v hv
          · simp at hv
            rcases hv with rfl | rfl | rfl | rfl | rfl | rfl | rfl | rfl <;> rfl
        have n72 : g7 ≠ g2 := Nat.ne_of_gt HG7.out.2.1
        have A11 := W10b.other ⟨g7, 41, none⟩ (.slice (if c = m then A else A.map (·.add m)) (tot - m) (c - m)) n72
        have B11 := W10a.setCell (p := ⟨g7, 41, none⟩) HG7.out.2.2 (.slice (if c = m then A else A.map (·.add m)) (tot - m) (c - m))
        obtain ⟨Y, hY⟩ : ∃ Y, Y = trCells (pk4 bs) false 0 0 (.slice (if c = m then A else A.map (·.add m)) (tot - m) (c - m)) := ⟨_, rfl⟩
        rw [← hY] at u11 Yl Yo
        obtain ⟨pv, hpv⟩ : ∃ pv : Value, pv = (.slice (if c = m then A else A.map (·.add m)) (tot - m) (c - m)) := ⟨_, rfl⟩
        rw [← hpv] at u11 A11 B11
        obtain ⟨W11, e11⟩ : ∃ W, W = W0.setCell ⟨g7, 41, none⟩ pv := ⟨_, rfl⟩
        rw [← e11] at u11 A11 B11
        have U11 := Lib.hid u11
        have A11 := Lib.hid A11
        have B11 := Lib.hid B11
        have HY := Lib.hid hY
        clear u11 hfin hY n72 W10a W10b hfr
        go_upto_region 14 with fail
        rw [← hpv, ← e11]
        clear hpv e11 y34 y35 y41 fy41
        refine wp_region_lit ?_
        go_wp2_with (first | refine wpList_load_v rfl 52 (.tmp 7) rfl _ rfl tytr U11.out Yl ?_ | refine wpList_store_v rfl 52 (.tmp 2) (.tmp 73) rfl _ rfl tytr A11.out hZl Y Yl Yo rfl ?_ | fail)
        all_goals
          have HS := A11.out.store Y (by rw [Yl, hZl])
          exact bodyPost_ret (v := .tuple #[.agg Y.toArray, .slice none 0 0]) (res_cell_tmp Tryz.results71 rfl (HS.loadVar tytr Yl) rfl) rfl ⟨setCells_below g2 (by rw [HG2.out]; exact Nat.le_refl _) _ _ _ B11.out, by rw [HY.out]; first | rw [if_neg (by assumption)] | (have hcm : c = m := (by assumption); rw [if_pos hcm, hcm, Nat.sub_self])⟩
      · have fb2 : (((fl % 2 : Nat) : Int) != 0) = false := by
          have : fl % 2 = 0 := by omega
          rw [this]; rfl
        have u10 := U9.out
        have hfr : frI = 0 := by rw [HFRAG.out, if_neg (fun h => h hoff0), if_neg hfl1]; rfl
        have W10 : Hid (Below w.heap.size w w9 ∧ ArrV 52 w9 g2 Z) := ⟨B9.out, A9'.out⟩
        obtain ⟨W0, eW⟩ : ∃ W, W = w9 := ⟨_, rfl⟩
        rw [← eW] at u10 W10
        have U10 := Lib.hid u10
        clear u10
        go_upto_region 13 with fail
        rw [← eW]
        clear eW x4 x5
        obtain ⟨W10a, W10b⟩ := W10.out
        have y34 := (U10.out.get 34).trans (three_at HST16.out.1 HST16.out.2 1)
        have y35 := (U10.out.get 35).trans (three_at HST16.out.1 HST16.out.2 2)
        have y41 := (U10.out.get 41).trans (three_at HST16.out.1 HST16.out.2 8)
        have fy41 := U10.out.frozen 41
        have u11 := U10.out.set 41 (.slice (if c = m then A else A.map (·.add m)) (tot - m) (c - m))
        rw [show 41 = 33 + 8 from rfl, three_set HST16.out.1 HST16.out.2] at u11
        simp only [List.set_cons_zero, List.set_cons_succ, List.getElem?_cons_zero, List.getElem?_cons_succ, Nat.reduceAdd] at u11 y34 y35 y41 fy41
        have hfin := HFIN.out (.slice (if c = m then A else A.map (·.add m)) (tot - m) (c - m))
        rw [HTAIL.out, hfr] at hfin
        rw [hfin] at u11
        obtain ⟨Yl, Yo⟩ : (trCells (pk4 bs) false 0 0 (.slice (if c = m then A else A.map (·.add m)) (tot - m) (c - m))).length = 42 ∧ ∀ v ∈ trCells (pk4 bs) false 0 0 (.slice (if c = m then A else A.map (·.add m)) (tot - m) (c - m)), v.oneCell' = true := by
          rw [← hfin]
          refine ⟨by simp [hSl, hTl, z_lens.2], fun v hv => ?_⟩
          have hzz : ∀ v ∈ z12, v.oneCell' = true := bcells_one _
          rcases List.mem_cons.1 hv with rfl | hv
          · rfl
          rcases List.mem_append.1 hv with hv | hv
          · rcases List.mem_append.1 hv with hv | hv
            · exact hSo v hv
            · exact hzz v hv
          rcases List.mem_append.1 hv with hv | hv
          · rcases List.mem_append.1 hv with hv | hv
            · exact hTo v hv
            · exact hzz v hv
          · simp at hv
            rcases hv with rfl | rfl | rfl | rfl | rfl | rfl | rfl | rfl <;> rfl
        have n72 : g7 ≠ g2 := Nat.ne_of_gt HG7.out.2.1
        have A11 := W10b.other ⟨g7, 41, none⟩ (.slice (if c = m then A else A.map (·.add m)) (tot - m) (c - m)) n72
        have B11 := W10a.setCell (p := ⟨g7, 41, none⟩) HG7.out.2.2 (.slice (if c = m then A else A.map (·.add m)) (tot - m) (c - m))
        obtain ⟨Y, hY⟩ : ∃ Y, Y = trCells (pk4 bs) false 0 0 (.slice (if c = m then A else A.map (·.add m)) (tot - m) (c - m)) := ⟨_, rfl⟩
        rw [← hY] at u11 Yl Yo
        obtain ⟨pv, hpv⟩ : ∃ pv : Value, pv = (.slice (if c = m then A else A.map (·.add m)) (tot - m) (c - m)) := ⟨_, rfl⟩
        rw [← hpv] at u11 A11 B11
        obtain ⟨W11, e11⟩ : ∃ W, W = W0.setCell ⟨g7, 41, none⟩ pv := ⟨_, rfl⟩
        rw [← e11] at u11 A11 B11
        have U11 := Lib.hid u11
        have A11 := Lib.hid A11
        have B11 := Lib.hid B11
        have HY := Lib.hid hY
        clear u11 hfin hY n72 W10a W10b hfr
        go_upto_region 14 with fail
        rw [← hpv, ← e11]
        clear hpv e11 y34 y35 y41 fy41
        refine wp_region_lit ?_
        go_wp2_with (first | refine wpList_load_v rfl 52 (.tmp 7) rfl _ rfl tytr U11.out Yl ?_ | refine wpList_store_v rfl 52 (.tmp 2) (.tmp 73) rfl _ rfl tytr A11.out hZl Y Yl Yo rfl ?_ | fail)
        all_goals
          have HS := A11.out.store Y (by rw [Yl, hZl])
          exact bodyPost_ret (v := .tuple #[.agg Y.toArray, .slice none 0 0]) (res_cell_tmp Tryz.results71 rfl (HS.loadVar tytr Yl) rfl) rfl ⟨setCells_below g2 (by rw [HG2.out]; exact Nat.le_refl _) _ _ _ B11.out, by rw [HY.out]; first | rw [if_neg (by assumption)] | (have hcm : c = m := (by assumption); rw [if_pos hcm, hcm, Nat.sub_self])⟩
  · have CH1 : Hid (∀ W, Row W A n bs → Calls Tryz.prog 89 #[.slice A n c] W fun e w' => ∃ A9 c9, e = .returned (.slice A9 D.length c9) ∧ DefRead w' (.slice A9 D.length c9) D ∧ Below W.heap.size W w') := fun W hW => (CH.out W hW).mono fun e w' h => by
      obtain ⟨v, rfl, hd, hb⟩ := h
      obtain ⟨A9, c9, rfl, h4, h5⟩ := hd
      exact ⟨A9, c9, rfl, ⟨A9, c9, rfl, h4, h5⟩, hb⟩
    have hl0 : 0 < D.length := List.length_pos_iff.2 hD
    obtain ⟨q, hq⟩ : ∃ q, q = D.length := ⟨_, rfl⟩
    rw [← hq] at CH1 hl0
    have qI : (0 : Int) < (q : Int) := by omega
    have HND := Lib.hid hD
    clear hg2 hD hDD hl0 CH hq hR hZ hn2 hc
    go_enter Tryz.func71, Tryz.ntmps71
    go_upto_region 1 with fail
    rw [← e0, ← HG2.out]
    clear e0
    go_wp2_with fail
    refine (CH1.out _ (HR.out.below HB.out)).mono ?_
    rintro e w1 ⟨A9, c9, rfl, d1, b1⟩
    have A4 := Lib.hid (HA.out.below b1)
    have B4 := Lib.hid (below_both HB.out b1)
    have D4 := Lib.hid d1
    clear d1 b1 HA HB
    go_wp2_with (first | refine wpList_store_v rfl 52 (.tmp 2) (.tmp 13) rfl _ rfl tytr A4.out hZl Z hZl hZo rfl ?_ | fail)
    have HS := A4.out.store Z rfl
    exact bodyPost_ret (v := .tuple #[.agg Z.toArray, .slice A9 q c9]) (res_cell_tmp Tryz.results71 rfl (HS.loadVar tytr hZl) rfl) rfl ⟨setCells_below g2 (by rw [HG2.out]; exact Nat.le_refl _) _ _ _ B4.out, fun _ => ⟨_, rfl, D4.out.again A4.out⟩, fun h => absurd h HND.out⟩
end Go.Proofs.YtmchclpkjjmocaaGreat

namespace Go.Proofs.YtmchclpkjjmocaaGreat
open Go.RowKit
set_option linter.unusedVariables false
set_option maxRecDepth 8000

theorem copy_src {a : Value} {S R : List Value} (hS : S.length = 16) : (a :: (z16 ++ R)).take 1 ++ S ++ (a :: (z16 ++ R)).drop 17 = a :: (S ++ R) := by
  have e : (a :: (z16 ++ R)).drop 17 = R := rfl
  rw [e]
  simp
theorem copy_dst {a : Value} {S D T : List Value} (hS : S.length = 16) : (a :: (S ++ (z16 ++ T))).take 17 ++ D ++ (a :: (S ++ (z16 ++ T))).drop 33 = a :: (S ++ (D ++ T)) := by
  have e : (S ++ (z16 ++ T)).drop 32 = T := by
    rw [show 32 = 16 + 16 from rfl, ← List.drop_drop, List.drop_left' hS]
    rfl
  rw [List.take_succ_cons, List.take_left' hS, List.drop_succ_cons, e]
  simp
theorem six_tail (bs : List Nat) (pv : Value) : trTail (pk6 bs) false 0 0 pv = [.int .i64 (pkTour bs).proto, .int .i64 (40 + sxPay bs : Nat), .int .i64 (40 + (pkTour bs).at_ : Nat), .int .i64 ((pkTour bs).frag : Nat), .bool false, .int .i64 0, .int .i64 0, .int .u8 (sxN (be (bs.take 8)) 0 : Nat), pv] := rfl
theorem sixp_ints {p a n c s m : Nat} (hs : s = 40 + p) (hm : m = 40 + a) (h1 : a ≤ p) (h2 : s ≤ n) (h3 : n ≤ c) (h4 : n ≤ 140737488355328) : wrap64 (40 + (p : Int)) = (s : Int) ∧ wrap64 (40 + (a : Int)) = (m : Int) ∧ (0 : Int) ≤ (m : Int) ∧ (m : Int) ≤ (s : Int) ∧ (s : Int) ≤ (c : Int) ∧ (0 : Int) ≤ (s : Int) ∧ IntKind.i64.wrap (40 + (p : Int)) = (s : Int) ∧ IntKind.i64.wrap (40 + (a : Int)) = (m : Int) := by
  have e1 : (40 : Int) + (p : Int) = (s : Int) := by omega
  have e2 : (40 : Int) + (a : Int) = (m : Int) := by omega
  rw [e1, e2]
  exact ⟨w64_big (by omega) (by omega), w64_big (by omega) (by omega), by omega, by omega, by omega, by omega, IntWalk.i64_in _ (by omega), IntWalk.i64_in _ (by omega)⟩
set_option maxHeartbeats 6400000 in
theorem pksix_any (A : Option Addr) (n c : Nat) (bs : List Nat) (w : World) (hn2 : n ≤ 140737488351232) (hc : n ≤ c) (hR : Row w A n bs) :
    Calls Tryz.prog 72 #[.slice A n c] w (HeadsIs (sxall n bs) (pk6 bs) false 0 0 (pkPv A c (pk6 bs)) w) := by
  have hn3 : n ≤ 140737488355328 := Nat.le_trans hn2 (by decide)
  have CH := Lib.hid (fun w (hR : Row w A n bs) => sxall_any A n c bs w hn3 hc hR)
  unfold SxAllIs at CH
  obtain ⟨Z, hZ⟩ : ∃ Z, Z = trZ := ⟨_, rfl⟩
  obtain ⟨hZl, hZo⟩ := trZ_all
  have hlit := tr_lit
  obtain ⟨V, e0⟩ : ∃ V, V = w.alloc (.cells Z.toArray 52) := ⟨_, rfl⟩
  unfold HeadsIs
  rw [← hZ] at hZl hZo hlit ⊢
  have HA : Hid (ArrV 52 V w.heap.size Z) := by show ArrV _ _ _ _; rw [e0]; exact ArrV.new _ w Z
  have HB : Hid (Below w.heap.size w V) := by show Below _ _ _; rw [e0]; exact (Below.refl _ _).alloc (Nat.le_refl _) _
  obtain ⟨g2, hg2⟩ : ∃ g, g = w.heap.size := ⟨_, rfl⟩
  have HG2 := Lib.hid hg2
  rw [← hg2] at HA
  have HR := Lib.hid hR
  obtain ⟨D, hDD⟩ : ∃ D, D = sxall n bs := ⟨_, rfl⟩
  rw [← hDD] at CH ⊢
  by_cases hD : D = []
  · have CH1 : Hid (∀ W, Row W A n bs → Calls Tryz.prog 90 #[.slice A n c] W fun e w' => ∃ A9 c9, e = .returned (.slice A9 0 c9) ∧ Below W.heap.size W w') := fun W hW => (CH.out W hW).mono fun e w' h => by
      obtain ⟨v, rfl, hd, hb⟩ := h
      obtain ⟨A9, c9, rfl, _, _⟩ := hd
      rw [hD]
      exact ⟨A9, c9, rfl, hb⟩
    rw [hD] at hDD
    obtain ⟨d0, h40, hrest, hrl, hdf⟩ := sxall_nil hR.1 hDD.symm
    have CR := Lib.hid (fun w (hR : Row w A n bs) => sxread_any A n c bs w hn3 hc hR)
    unfold SxReadIs at CR
    have hval : sxval n bs = sxF bs := by unfold sxval; rw [if_pos d0]
    rw [hval, d0] at CR
    have CT : Hid (∀ W, Row W A n bs → Calls Tryz.prog 92 #[.slice A n c] W fun e w' => ∃ A8 c8, e = .returned (.tuple #[.slice A8 (sxPay bs) c8, .bool true]) ∧ sxPay bs ≤ c8 ∧ Row w' A8 (sxPay bs) (pkRest bs) ∧ Below W.heap.size W w') := fun W hW => by
      have h := sxrest_any A n c bs W hn3 hc hW
      unfold SxRestIs at h
      rw [hrest] at h
      refine h.mono ?_
      rintro e w' ⟨v, rfl, ⟨A8, c8, rfl, h1, h2⟩, hb⟩
      rw [Option.getD_some, hrl] at h1 h2 ⊢
      exact ⟨A8, c8, rfl, h1, h2, hb⟩
    have CG : Hid (∀ (A8 : Option Addr) (c8 : Nat) (W : World), sxPay bs ≤ c8 → Row W A8 (sxPay bs) (pkRest bs) → Calls Tryz.prog 93 #[.int .i64 (sxNext bs : Nat), .slice A8 (sxPay bs) c8] W fun e w' => ∃ v, e = .returned (.tuple #[.agg #[.int .i64 (pkTour bs).proto, .int .i64 ((pkTour bs).at_ : Nat), .int .i64 ((pkTour bs).frag : Nat), .int .i64 ((pkTour bs).off : Nat), .int .i64 ((pkTour bs).count : Nat)], v]) ∧ Below W.heap.size W w') := fun A8 c8 W h1 h2 => by
      have h := exgo_tour ((sxNext bs : Nat) : Int) A8 (sxPay bs) c8 (pkRest bs) W h1 (by omega) h2
      rw [show (walkF (sxPay bs) (pkRest bs) 9 (Tour.start ((sxNext bs : Nat) : Int)) []).1 = pkTour bs by unfold pkTour; rw [hrl]] at h
      unfold GoIs at h
      refine h.mono ?_
      rintro e w' ⟨v, rfl, _, hb⟩
      refine ⟨v, ?_, hb⟩
      unfold Tour.told
      rw [if_pos hdf]
      rfl
    have hby := hR.byte
    obtain ⟨ok, _⟩ := walkF_ok (k := ((sxNext bs : Nat) : Int)) (n := (pkRest bs).length) (bs := pkRest bs) 9 (Tour.start ((sxNext bs : Nat) : Int)) [] (start_ok _ _) rfl rfl
    have hatl : (pkTour bs).at_ ≤ sxPay bs := by have h := ok.at_; rw [hrl] at h; unfold pkTour; rw [hrl]; exact h
    have hF0 : (sxF bs)[0]? = some (.int .i64 (sxN (be (bs.take 8)) 0 : Nat)) := rfl
    have hF2 : (sxF bs)[2]? = some (.int .i64 (sxPay bs : Nat)) := rfl
    have hF3 : (sxF bs)[3]? = some (.int .i64 (sxNext bs : Nat)) := rfl
    have l1 : ((bs.drop 8).take 16).length = 16 := by rw [List.length_take, List.length_drop, hR.1]; omega
    have l2 : ((bs.drop 24).take 16).length = 16 := by rw [List.length_take, List.length_drop, hR.1]; omega
    obtain ⟨hfl, hfo⟩ := six_all (be (bs.take 8)) l1 l2
    have hfl : (sxF bs).length = 37 := hfl
    have hfo : ∀ v ∈ sxF bs, v.oneCell' = true := hfo
    obtain ⟨S, hS⟩ : ∃ S, S = bcells ((bs.drop 8).take 16) := ⟨_, rfl⟩
    obtain ⟨T, hT⟩ : ∃ T, T = bcells ((bs.drop 24).take 16) := ⟨_, rfl⟩
    have hSl : S.length = 16 := by rw [hS, bcells_length, l1]
    have hTl : T.length = 16 := by rw [hT, bcells_length, l2]
    have hSo : ∀ v ∈ S, v.oneCell' = true := by rw [hS]; exact bcells_one _
    have hTo : ∀ v ∈ T, v.oneCell' = true := by rw [hT]; exact bcells_one _
    have hFe : sxF bs = sxNums (be (bs.take 8)) ++ S ++ T := by rw [hS, hT]; rfl
    have hN5 : (sxNums (be (bs.take 8))).length = 5 := rfl
    have HFS : Hid (∀ (j : Nat) v, S[j]? = some v → (sxF bs)[5 + j]? = some v) := fun j v h => by
      have hj := (List.getElem?_eq_some_iff.1 h).1
      rw [hFe, List.append_assoc, List.getElem?_append_right (by omega), hN5, Nat.add_sub_cancel_left, List.getElem?_append_left hj]
      exact h
    have HFT : Hid (∀ (j : Nat) v, T[j]? = some v → (sxF bs)[21 + j]? = some v) := fun j v h => by
      have hj := (List.getElem?_eq_some_iff.1 h).1
      rw [hFe, List.getElem?_append_right (by rw [List.length_append, hN5, hSl]; omega), List.length_append, hN5, hSl, Nat.add_sub_cancel_left]
      exact h
    have hFin : ∀ pv, Value.int .i64 6 :: (S ++ (T ++ trTail (pk6 bs) false 0 0 pv)) = trCells (pk6 bs) false 0 0 pv := fun pv => by rw [hS, hT]; rfl
    have HFIN := Lib.hid hFin
    have HTAIL := Lib.hid (six_tail bs)
    have hat : (pk6 bs).at_ = 40 + (pkTour bs).at_ := rfl
    have hsz : (pk6 bs).size = 40 + sxPay bs := rfl
    have hcl : sxN (be (bs.take 8)) 0 < 256 := by unfold sxN; exact Nat.mod_lt _ (by decide)
    obtain ⟨F, hF⟩ : ∃ F, F = sxF bs := ⟨_, rfl⟩
    rw [← hF] at CR hF0 hF2 hF3 HFS HFT hfl hfo
    obtain ⟨cls, hcls⟩ : ∃ x, x = sxN (be (bs.take 8)) 0 := ⟨_, rfl⟩
    obtain ⟨pay, hpay⟩ : ∃ x, x = sxPay bs := ⟨_, rfl⟩
    obtain ⟨nx, hnx⟩ : ∃ x, x = sxNext bs := ⟨_, rfl⟩
    obtain ⟨pr, hpr⟩ : ∃ x, x = (pkTour bs).proto := ⟨_, rfl⟩
    obtain ⟨ta, hta⟩ : ∃ x, x = (pkTour bs).at_ := ⟨_, rfl⟩
    obtain ⟨tf, htf⟩ : ∃ x, x = (pkTour bs).frag := ⟨_, rfl⟩
    obtain ⟨tot, htot⟩ : ∃ x, x = 40 + pay := ⟨_, rfl⟩
    obtain ⟨m, hm⟩ : ∃ x, x = 40 + ta := ⟨_, rfl⟩
    rw [← hcls] at hF0 HTAIL hcl
    rw [← hpay] at hF2 HTAIL CT CG hsz hatl h40
    rw [← hnx] at hF3 CG
    rw [← hpr] at HTAIL CG
    rw [← hta] at HTAIL CG hat hatl
    rw [← htf] at HTAIL CG
    rw [← htot] at HTAIL hsz h40
    rw [← hm] at HTAIL hat
    obtain ⟨i1, i2, i3, i4, i5, i6, i7, i8⟩ := sixp_ints htot hm hatl h40 hc hn3
    have hpv : pkPv A c (pk6 bs) = .slice (if c = m then A else A.map (·.add m)) (tot - m) (c - m) := by unfold pkPv; rw [hat, hsz]
    rw [hpv]
    have ct256 : (cls : Int) % 256 = (cls : Int) := by omega
    obtain ⟨ZF, hZF⟩ : ∃ ZF, ZF = sxZ := ⟨_, rfl⟩
    have hZFl : ZF.length = 37 := by rw [hZF]; rfl
    have hlitF : (#[.int .i64 0, .int .i64 0, .int .i64 0, .int .i64 0, .int .i64 0, .int .u8 0, .int .u8 0, .int .u8 0, .int .u8 0, .int .u8 0, .int .u8 0, .int .u8 0, .int .u8 0, .int .u8 0, .int .u8 0, .int .u8 0, .int .u8 0, .int .u8 0, .int .u8 0, .int .u8 0, .int .u8 0, .int .u8 0, .int .u8 0, .int .u8 0, .int .u8 0, .int .u8 0, .int .u8 0, .int .u8 0, .int .u8 0, .int .u8 0, .int .u8 0, .int .u8 0, .int .u8 0, .int .u8 0, .int .u8 0, .int .u8 0, .int .u8 0] : Array Value) = ZF.toArray := by rw [hZF]; rfl
    obtain ⟨Y0, hY0⟩ : ∃ Y, Y = Value.int .i64 0 :: (z16 ++ (z16 ++ [.int .i64 0, .int .i64 0, .int .i64 0, .int .i64 0, .bool false, .int .i64 0, .int .i64 0, .int .u8 (cls : Nat), .slice none 0 0])) := ⟨_, rfl⟩
    have hlitY : Z.set 40 (.int .u8 (cls : Nat)) = Y0 := by rw [hZ, hY0]; rfl
    have hY0l : Y0.length = 42 := by rw [hY0]; rfl
    have hY0o : ∀ v ∈ Y0, v.oneCell' = true := by rw [hY0]; unfold z16 bcells; simp [Value.oneCell']
    have HY0 := Lib.hid hY0
    have HFL := Lib.hid (And.intro hfl hfo)
    clear hDD d0 h40 hrest hrl hdf hval hby ok hatl l1 l2 hS hT hFe hN5 hFin hat hsz hcls hpay hnx hpr hta htf htot hm hpv hZF hY0 hF hR hn2 hn3 hc hZ hg2 CH hcl
    go_enter Tryz.func72, Tryz.ntmps72
    go_upto_region 1 with fail
    rw [← e0, ← HG2.out]
    clear e0
    go_wp2_with fail
    refine (CH1.out _ (HR.out.below HB.out)).mono ?_
    rintro e w1 ⟨A9, c9, rfl, b1⟩
    have A1 := Lib.hid (HA.out.below b1)
    have B1 := Lib.hid (below_both HB.out b1)
    clear b1 HA HB CH1
    go_wp2_with fail
    refine (CR.out _ (HR.out.below B1.out)).mono ?_
    rintro e w2 ⟨rfl, b2⟩
    have A2 := Lib.hid (A1.out.below b2)
    have B2 := Lib.hid (below_both B1.out b2)
    clear b2 A1 B1 CR
    go_upto_region 5 with (first | refine wpList_store_v rfl 95 (.tmp 5) (.tmp 22) rfl _ rfl tysix (ArrV.new _ _ ZF) hZFl F HFL.out.1 HFL.out.2 rfl ?_ | fail)
    obtain ⟨V5, e5⟩ : ∃ V, V = (w2.alloc (.cells ZF.toArray 95)).setCells w2.heap.size 0 F := ⟨_, rfl⟩
    have hb5 : Below w2.heap.size w2 V5 := by rw [e5]; exact setCells_below _ (Nat.le_refl _) _ _ _ ((Below.refl _ _).alloc (Nat.le_refl _) _)
    have F5 : Hid (ArrV 95 V5 w2.heap.size F) := by
      show ArrV _ _ _ _
      rw [e5]
      exact (ArrV.new _ w2 ZF).store F (by rw [HFL.out.1, hZFl])
    rw [← e5]
    obtain ⟨g5, hg5⟩ : ∃ g, g = w2.heap.size := ⟨_, rfl⟩
    have A5 := Lib.hid (A2.out.below hb5)
    have B5 := Lib.hid (below_both B2.out hb5)
    rw [← hg5] at F5 ⊢
    clear e5 hb5 hg5 A2 B2 hlitF
    go_wp2_with fail
    refine (CT.out _ (HR.out.below B5.out)).mono ?_
    rintro e w6 ⟨A8, c8, rfl, hc8, r8, b6⟩
    have F6 := Lib.hid (F5.out.below b6)
    have A6 := Lib.hid (A5.out.below b6)
    have B6 := Lib.hid (below_both B5.out b6)
    have x3 := (F6.out.get 3).trans hF3
    clear F5 A5 B5 CT b6
    go_wp2_with fail
    refine (CG.out _ _ _ hc8 r8).mono ?_
    rintro e w7 ⟨v7, rfl, b7⟩
    have F7 := Lib.hid (F6.out.below b7)
    have A7 := Lib.hid (A6.out.below b7)
    have B7 := Lib.hid (below_both B6.out b7)
    clear F6 A6 B6 CG b7 x3 hc8 r8
    have k0 := (F7.out.get 0).trans hF0
    obtain ⟨of, hof⟩ : ∃ x, x = (pkTour bs).off := ⟨_, rfl⟩
    obtain ⟨ct, hct⟩ : ∃ x, x = (pkTour bs).count := ⟨_, rfl⟩
    rw [← hof, ← hct]
    clear hof hct
    obtain ⟨V8, e8⟩ : ∃ V, V = w7.alloc (.cells #[.int .i64 pr, .int .i64 (ta : Nat), .int .i64 (tf : Nat), .int .i64 (of : Nat), .int .i64 (ct : Nat)] 99) := ⟨_, rfl⟩
    have hb8 : Below w7.heap.size w7 V8 := by rw [e8]; exact (Below.refl _ _).alloc (Nat.le_refl _) _
    have G8 : Hid (ArrV 99 V8 w7.heap.size [.int .i64 pr, .int .i64 (ta : Nat), .int .i64 (tf : Nat), .int .i64 (of : Nat), .int .i64 (ct : Nat)]) := by
      show ArrV _ _ _ _
      rw [e8]
      exact ArrV.new _ w7 _
    have F8 := Lib.hid (F7.out.below hb8)
    have A8' := Lib.hid (A7.out.below hb8)
    have B8 := Lib.hid (below_both B7.out hb8)
    go_upto_region 7 with fail
    rw [← e8]
    obtain ⟨g9, hg9⟩ : ∃ g, g = w7.heap.size := ⟨_, rfl⟩
    have HG9 : Hid (g5 < g9) := by show g5 < g9; rw [hg9]; exact F7.out.lt
    rw [← hg9] at G8 ⊢
    clear e8 hb8 hg9 F7 A7 B7 k0
    have k0 := (F8.out.get 0).trans hF0
    go_upto_region 8 with (first | refine wpList_store_v rfl 52 (.tmp 11) (.tmp 39) rfl _ rfl tytr (ArrV.new _ _ Z) hZl Y0 hY0l hY0o rfl ?_ | fail)
    obtain ⟨U8, e8⟩ : ∃ V, V = (V8.alloc (.cells Z.toArray 52)).setCells V8.heap.size 0 Y0 := ⟨_, rfl⟩
    have hb9 : Below V8.heap.size V8 U8 := by rw [e8]; exact setCells_below _ (Nat.le_refl _) _ _ _ ((Below.refl _ _).alloc (Nat.le_refl _) _)
    have hY8 : ArrV 52 U8 V8.heap.size Y0 := by
      rw [e8]
      exact (ArrV.new _ V8 Z).store Y0 (by rw [hY0l, hZl])
    rw [← e8]
    obtain ⟨g7, hg7⟩ : ∃ g, g = V8.heap.size := ⟨_, rfl⟩
    have F9 := Lib.hid (F8.out.below hb9)
    have G9 := Lib.hid (G8.out.below hb9)
    have A9' := Lib.hid (A8'.out.below hb9)
    have B9 := Lib.hid (below_both B8.out hb9)
    have HG7 : Hid (g5 < g7 ∧ g2 < g7 ∧ w.heap.size ≤ g7 ∧ g9 < g7) := by
      refine ⟨?_, ?_, ?_, ?_⟩
      · rw [hg7]; exact F8.out.lt
      · rw [hg7]; exact A8'.out.lt
      · rw [hg7]; exact B8.out.size
      · rw [hg7]; exact G8.out.lt
    rw [← hg7] at hY8 ⊢
    clear e8 hb9 hg7 F8 G8 A8' B8 hlitY k0
    have k2 := (F9.out.get 2).trans hF2
    have p0 := G9.out.get 0
    have p1 := G9.out.get 1
    have p2 := G9.out.get 2
    simp only [List.getElem?_cons_zero, List.getElem?_cons_succ] at p0 p1 p2
    rw [HY0.out] at hY8
    have y0 := hY8.get 0
    have fy0 := hY8.frozen 0
    have u1 := hY8.set 0 (.int .i64 6)
    simp only [List.set_cons_zero, List.getElem?_cons_zero] at u1 y0
    have y33 := (u1.get 33).trans (three_at z_lens.1 z_lens.1 0)
    have fy33 := u1.frozen 33
    have u2 := u1.set 33 (.int .i64 pr)
    rw [show 33 = 33 + 0 from rfl, three_set z_lens.1 z_lens.1] at u2
    have y34 := (u2.get 34).trans (three_at z_lens.1 z_lens.1 1)
    have fy34 := u2.frozen 34
    have u3 := u2.set 34 (.int .i64 (tot : Nat))
    rw [show 34 = 33 + 1 from rfl, three_set z_lens.1 z_lens.1] at u3
    have y35 := (u3.get 35).trans (three_at z_lens.1 z_lens.1 2)
    have fy35 := u3.frozen 35
    have u4 := u3.set 35 (.int .i64 (m : Nat))
    rw [show 35 = 33 + 2 from rfl, three_set z_lens.1 z_lens.1] at u4
    have y36 := (u4.get 36).trans (three_at z_lens.1 z_lens.1 3)
    have fy36 := u4.frozen 36
    have u5 := u4.set 36 (.int .i64 (tf : Nat))
    rw [show 36 = 33 + 3 from rfl, three_set z_lens.1 z_lens.1] at u5
    simp only [List.set_cons_zero, List.set_cons_succ, List.getElem?_cons_zero, List.getElem?_cons_succ, Nat.add_zero, Nat.reduceAdd] at u1 u2 u3 u4 u5 y33 y34 y35 y36 fy33 fy34 fy35 fy36
    clear u1 u2 u3 u4
    have n75 : g7 ≠ g5 := Nat.ne_of_gt HG7.out.1
    have n79 : g7 ≠ g9 := Nat.ne_of_gt HG7.out.2.2.2
    have F_0 := F9.out
    have G_0 := G9.out
    have F_1 := F_0.other ⟨g7, 0, none⟩ (.int .i64 6) n75
    have G_1 := G_0.other ⟨g7, 0, none⟩ (.int .i64 6) n79
    have F_2 := F_1.other ⟨g7, 33, none⟩ (.int .i64 pr) n75
    have G_2 := G_1.other ⟨g7, 33, none⟩ (.int .i64 pr) n79
    have F_3 := F_2.other ⟨g7, 34, none⟩ (.int .i64 (tot : Nat)) n75
    have G_3 := G_2.other ⟨g7, 34, none⟩ (.int .i64 (tot : Nat)) n79
    have F_4 := F_3.other ⟨g7, 35, none⟩ (.int .i64 (m : Nat)) n75
    have G_4 := G_3.other ⟨g7, 35, none⟩ (.int .i64 (m : Nat)) n79
    have F_5 := F_4.other ⟨g7, 36, none⟩ (.int .i64 (tf : Nat)) n75
    have G_5 := G_4.other ⟨g7, 36, none⟩ (.int .i64 (tf : Nat)) n79
    have S_0 : Hid (U8.drew.cell? ⟨g9, 0, none⟩ = some (.int .i64 pr) ∧ U8.drew.cell? ⟨g9, 1, none⟩ = some (.int .i64 (ta : Nat)) ∧ U8.drew.cell? ⟨g9, 2, none⟩ = some (.int .i64 (tf : Nat)) ∧ U8.drew.cell? ⟨g5, 2, none⟩ = some (.int .i64 (pay : Nat))) := ⟨G_0.drew.get 0, G_0.drew.get 1, G_0.drew.get 2, (F_0.drew.get 2).trans hF2⟩
    have S_1 : Hid ((U8.setCell ⟨g7, 0, none⟩ (.int .i64 6)).drew.cell? ⟨g9, 0, none⟩ = some (.int .i64 pr) ∧ (U8.setCell ⟨g7, 0, none⟩ (.int .i64 6)).drew.cell? ⟨g9, 1, none⟩ = some (.int .i64 (ta : Nat)) ∧ (U8.setCell ⟨g7, 0, none⟩ (.int .i64 6)).drew.cell? ⟨g9, 2, none⟩ = some (.int .i64 (tf : Nat)) ∧ (U8.setCell ⟨g7, 0, none⟩ (.int .i64 6)).drew.cell? ⟨g5, 2, none⟩ = some (.int .i64 (pay : Nat))) := ⟨G_1.drew.get 0, G_1.drew.get 1, G_1.drew.get 2, (F_1.drew.get 2).trans hF2⟩
    have S_2 : Hid (((U8.setCell ⟨g7, 0, none⟩ (.int .i64 6)).setCell ⟨g7, 33, none⟩ (.int .i64 pr)).drew.cell? ⟨g9, 0, none⟩ = some (.int .i64 pr) ∧ ((U8.setCell ⟨g7, 0, none⟩ (.int .i64 6)).setCell ⟨g7, 33, none⟩ (.int .i64 pr)).drew.cell? ⟨g9, 1, none⟩ = some (.int .i64 (ta : Nat)) ∧ ((U8.setCell ⟨g7, 0, none⟩ (.int .i64 6)).setCell ⟨g7, 33, none⟩ (.int .i64 pr)).drew.cell? ⟨g9, 2, none⟩ = some (.int .i64 (tf : Nat)) ∧ ((U8.setCell ⟨g7, 0, none⟩ (.int .i64 6)).setCell ⟨g7, 33, none⟩ (.int .i64 pr)).drew.cell? ⟨g5, 2, none⟩ = some (.int .i64 (pay : Nat))) := ⟨G_2.drew.get 0, G_2.drew.get 1, G_2.drew.get 2, (F_2.drew.get 2).trans hF2⟩
    have S_3 : Hid ((((U8.setCell ⟨g7, 0, none⟩ (.int .i64 6)).setCell ⟨g7, 33, none⟩ (.int .i64 pr)).setCell ⟨g7, 34, none⟩ (.int .i64 (tot : Nat))).drew.cell? ⟨g9, 0, none⟩ = some (.int .i64 pr) ∧ (((U8.setCell ⟨g7, 0, none⟩ (.int .i64 6)).setCell ⟨g7, 33, none⟩ (.int .i64 pr)).setCell ⟨g7, 34, none⟩ (.int .i64 (tot : Nat))).drew.cell? ⟨g9, 1, none⟩ = some (.int .i64 (ta : Nat)) ∧ (((U8.setCell ⟨g7, 0, none⟩ (.int .i64 6)).setCell ⟨g7, 33, none⟩ (.int .i64 pr)).setCell ⟨g7, 34, none⟩ (.int .i64 (tot : Nat))).drew.cell? ⟨g9, 2, none⟩ = some (.int .i64 (tf : Nat)) ∧ (((U8.setCell ⟨g7, 0, none⟩ (.int .i64 6)).setCell ⟨g7, 33, none⟩ (.int .i64 pr)).setCell ⟨g7, 34, none⟩ (.int .i64 (tot : Nat))).drew.cell? ⟨g5, 2, none⟩ = some (.int .i64 (pay : Nat))) := ⟨G_3.drew.get 0, G_3.drew.get 1, G_3.drew.get 2, (F_3.drew.get 2).trans hF2⟩
    have S_4 : Hid (((((U8.setCell ⟨g7, 0, none⟩ (.int .i64 6)).setCell ⟨g7, 33, none⟩ (.int .i64 pr)).setCell ⟨g7, 34, none⟩ (.int .i64 (tot : Nat))).setCell ⟨g7, 35, none⟩ (.int .i64 (m : Nat))).drew.cell? ⟨g9, 0, none⟩ = some (.int .i64 pr) ∧ ((((U8.setCell ⟨g7, 0, none⟩ (.int .i64 6)).setCell ⟨g7, 33, none⟩ (.int .i64 pr)).setCell ⟨g7, 34, none⟩ (.int .i64 (tot : Nat))).setCell ⟨g7, 35, none⟩ (.int .i64 (m : Nat))).drew.cell? ⟨g9, 1, none⟩ = some (.int .i64 (ta : Nat)) ∧ ((((U8.setCell ⟨g7, 0, none⟩ (.int .i64 6)).setCell ⟨g7, 33, none⟩ (.int .i64 pr)).setCell ⟨g7, 34, none⟩ (.int .i64 (tot : Nat))).setCell ⟨g7, 35, none⟩ (.int .i64 (m : Nat))).drew.cell? ⟨g9, 2, none⟩ = some (.int .i64 (tf : Nat)) ∧ ((((U8.setCell ⟨g7, 0, none⟩ (.int .i64 6)).setCell ⟨g7, 33, none⟩ (.int .i64 pr)).setCell ⟨g7, 34, none⟩ (.int .i64 (tot : Nat))).setCell ⟨g7, 35, none⟩ (.int .i64 (m : Nat))).drew.cell? ⟨g5, 2, none⟩ = some (.int .i64 (pay : Nat))) := ⟨G_4.drew.get 0, G_4.drew.get 1, G_4.drew.get 2, (F_4.drew.get 2).trans hF2⟩
    have S_5 : Hid ((((((U8.setCell ⟨g7, 0, none⟩ (.int .i64 6)).setCell ⟨g7, 33, none⟩ (.int .i64 pr)).setCell ⟨g7, 34, none⟩ (.int .i64 (tot : Nat))).setCell ⟨g7, 35, none⟩ (.int .i64 (m : Nat))).setCell ⟨g7, 36, none⟩ (.int .i64 (tf : Nat))).drew.cell? ⟨g9, 0, none⟩ = some (.int .i64 pr) ∧ (((((U8.setCell ⟨g7, 0, none⟩ (.int .i64 6)).setCell ⟨g7, 33, none⟩ (.int .i64 pr)).setCell ⟨g7, 34, none⟩ (.int .i64 (tot : Nat))).setCell ⟨g7, 35, none⟩ (.int .i64 (m : Nat))).setCell ⟨g7, 36, none⟩ (.int .i64 (tf : Nat))).drew.cell? ⟨g9, 1, none⟩ = some (.int .i64 (ta : Nat)) ∧ (((((U8.setCell ⟨g7, 0, none⟩ (.int .i64 6)).setCell ⟨g7, 33, none⟩ (.int .i64 pr)).setCell ⟨g7, 34, none⟩ (.int .i64 (tot : Nat))).setCell ⟨g7, 35, none⟩ (.int .i64 (m : Nat))).setCell ⟨g7, 36, none⟩ (.int .i64 (tf : Nat))).drew.cell? ⟨g9, 2, none⟩ = some (.int .i64 (tf : Nat)) ∧ (((((U8.setCell ⟨g7, 0, none⟩ (.int .i64 6)).setCell ⟨g7, 33, none⟩ (.int .i64 pr)).setCell ⟨g7, 34, none⟩ (.int .i64 (tot : Nat))).setCell ⟨g7, 35, none⟩ (.int .i64 (m : Nat))).setCell ⟨g7, 36, none⟩ (.int .i64 (tf : Nat))).drew.cell? ⟨g5, 2, none⟩ = some (.int .i64 (pay : Nat))) := ⟨G_5.drew.get 0, G_5.drew.get 1, G_5.drew.get 2, (F_5.drew.get 2).trans hF2⟩
    obtain ⟨W8, eW⟩ : ∃ W, W = (((((U8.setCell ⟨g7, 0, none⟩ (.int .i64 6)).setCell ⟨g7, 33, none⟩ (.int .i64 pr)).setCell ⟨g7, 34, none⟩ (.int .i64 (tot : Nat))).setCell ⟨g7, 35, none⟩ (.int .i64 (m : Nat))).setCell ⟨g7, 36, none⟩ (.int .i64 (tf : Nat))) := ⟨_, rfl⟩
    have HF8 : Hid (ArrV 95 W8 g5 F) := by show ArrV _ _ _ _; rw [eW]; exact F_5
    have n72 : g7 ≠ g2 := Nat.ne_of_gt HG7.out.2.1
    have HA8 : Hid (ArrV 52 W8 g2 Z) := by show ArrV _ _ _ _; rw [eW]; exact (((((A9'.out.other ⟨g7, 0, none⟩ (.int .i64 6) n72).other ⟨g7, 33, none⟩ (.int .i64 pr) n72).other ⟨g7, 34, none⟩ (.int .i64 (tot : Nat)) n72).other ⟨g7, 35, none⟩ (.int .i64 (m : Nat)) n72).other ⟨g7, 36, none⟩ (.int .i64 (tf : Nat)) n72)
    have HB8 : Hid (Below w.heap.size w W8) := by show Below _ _ _; rw [eW]; exact (((((B9.out.setCell (p := ⟨g7, 0, none⟩) HG7.out.2.2.1 (.int .i64 6)).setCell (p := ⟨g7, 33, none⟩) HG7.out.2.2.1 (.int .i64 pr)).setCell (p := ⟨g7, 34, none⟩) HG7.out.2.2.1 (.int .i64 (tot : Nat))).setCell (p := ⟨g7, 35, none⟩) HG7.out.2.2.1 (.int .i64 (m : Nat))).setCell (p := ⟨g7, 36, none⟩) HG7.out.2.2.1 (.int .i64 (tf : Nat)))
    have HU5 : Hid (ArrV 52 W8 g7 _) := Lib.hid (by rw [eW]; exact u5)
    have EW := Lib.hid eW
    have HSO := Lib.hid (And.intro hSo hTo)
    have HZO := Lib.hid hZo
    have HI := Lib.hid (And.intro i3 (And.intro i4 (And.intro i5 i6)))
    clear F_0 G_0 F_1 G_1 F_2 G_2 F_3 G_3 F_4 G_4 F_5 G_5 n75 n79 n72 p0 p1 p2 k2 hF0 hF2 hF3 i3 i4 i5 i6 ct256 u5 F9 G9 A9' B9 eW hfo hlit hfl hSo hTo hZo hY0o
    go_region_held3 (fun w' => w'.cell? ⟨g9, 0, none⟩ = some (.int .i64 pr) ∧ w'.cell? ⟨g9, 1, none⟩ = some (.int .i64 (ta : Nat)) ∧ w'.cell? ⟨g9, 2, none⟩ = some (.int .i64 (tf : Nat)) ∧ w'.cell? ⟨g5, 2, none⟩ = some (.int .i64 (pay : Nat)))
      (first | with_reducible exact S_0.out | with_reducible exact S_1.out | with_reducible exact S_2.out | with_reducible exact S_3.out | with_reducible exact S_4.out | with_reducible exact S_5.out)
      (first | fail)
    rename_i hh0
    clear hh0
    rw [← EW.out]
    clear S_0 S_1 S_2 S_3 S_4 S_5 y0 fy0 y33 fy33 y34 fy34 y35 fy35 y36 fy36 i1 i2 i7 i8
    obtain ⟨X8, hX⟩ : ∃ X, X = W8.drew := ⟨_, rfl⟩
    have u5 := HU5.out.drew
    rw [← hX] at u5
    have F7 : ArrV 95 X8 g5 F := by rw [hX]; exact HF8.out.drew
    have A7 : ArrV 52 X8 g2 Z := by rw [hX]; exact HA8.out.drew
    have B7 : Below w.heap.size w X8 := by rw [hX]; exact HB8.out.drew
    rw [← hX]
    clear hX EW HU5 HF8 HA8 HB8
    obtain ⟨w8, hcp, hO8, b8⟩ := copy_at Tryz.underlying22 u8one 52 X8.drew g7 1 16 16 _ ⟨g5, 5, none⟩ 16 16 S u5.drew (by rw [hSl]; rfl) (arr_src F7.drew HFS.out) (by rw [hSl]; simp [z_lens.1]) HSO.out.1
    rw [hSl] at hcp hO8
    rw [show 1 + 16 = 17 from rfl, copy_src hSl] at hO8
    have F8 : ArrV 95 w8 g5 F := F7.drew.belowB b8 HG7.out.1
    have A8' : ArrV 52 w8 g2 Z := A7.drew.belowB b8 HG7.out.2.1
    have B8 : Below w.heap.size w w8 := B7.drew.trans (b8.mono HG7.out.2.2.1)
    obtain ⟨w9, hcp2, hO9, b9⟩ := copy_at Tryz.underlying22 u8one 52 w8.drew g7 17 16 16 _ ⟨g5, 21, none⟩ 16 16 T hO8.drew (by rw [hTl]; rfl) (arr_src F8.drew HFT.out) (by rw [hTl]; simp [hSl, z_lens.1]) HSO.out.2
    rw [hTl] at hcp2 hO9
    rw [show 17 + 16 = 33 from rfl, copy_dst hSl] at hO9
    have A9' := Lib.hid (A8'.drew.belowB b9 HG7.out.2.1)
    have B9 : Hid (Below w.heap.size w w9) := B8.drew.trans (b9.mono HG7.out.2.2.1)
    have U9 := Lib.hid hO9
    clear F7 A7 B7 F8 A8' B8 b8 b9 hO8 hO9 u5
    go_upto_region 9 with fail
    go_region
    go_wp2_with fail
    go_region
    have y34 := (U9.out.get 34).trans (three_at hSl hTl 1)
    have y35 := (U9.out.get 35).trans (three_at hSl hTl 2)
    have y41 := (U9.out.get 41).trans (three_at hSl hTl 8)
    have fy41 := U9.out.frozen 41
    have u11 := U9.out.set 41 (.slice (if c = m then A else A.map (·.add m)) (tot - m) (c - m))
    rw [show 41 = 33 + 8 from rfl, three_set hSl hTl] at u11
    simp only [List.set_cons_zero, List.set_cons_succ, List.getElem?_cons_zero, List.getElem?_cons_succ, Nat.reduceAdd] at u11 y34 y35 y41 fy41
    have hfin := HFIN.out (.slice (if c = m then A else A.map (·.add m)) (tot - m) (c - m))
    rw [HTAIL.out] at hfin
    rw [hfin] at u11
    obtain ⟨Yl, Yo⟩ : (trCells (pk6 bs) false 0 0 (.slice (if c = m then A else A.map (·.add m)) (tot - m) (c - m))).length = 42 ∧ ∀ v ∈ trCells (pk6 bs) false 0 0 (.slice (if c = m then A else A.map (·.add m)) (tot - m) (c - m)), v.oneCell' = true := by
      rw [← hfin]
      refine ⟨by simp [hSl, hTl], fun v hv => ?_⟩
      rcases List.mem_cons.1 hv with rfl | hv
      · rfl
      rcases List.mem_append.1 hv with hv | hv
      · exact HSO.out.1 v hv
      rcases List.mem_append.1 hv with hv | hv
      · exact HSO.out.2 v hv
      · simp at hv
        rcases hv with rfl | rfl | rfl | rfl | rfl | rfl | rfl | rfl | rfl <;> rfl
    have n72 : g7 ≠ g2 := Nat.ne_of_gt HG7.out.2.1
    have A11 := A9'.out.other ⟨g7, 41, none⟩ (.slice (if c = m then A else A.map (·.add m)) (tot - m) (c - m)) n72
    have B11 := B9.out.setCell (p := ⟨g7, 41, none⟩) HG7.out.2.2.1 (.slice (if c = m then A else A.map (·.add m)) (tot - m) (c - m))
    obtain ⟨Y, hY⟩ : ∃ Y, Y = trCells (pk6 bs) false 0 0 (.slice (if c = m then A else A.map (·.add m)) (tot - m) (c - m)) := ⟨_, rfl⟩
    rw [← hY] at u11 Yl Yo
    obtain ⟨pv, hpv⟩ : ∃ pv : Value, pv = (.slice (if c = m then A else A.map (·.add m)) (tot - m) (c - m)) := ⟨_, rfl⟩
    rw [← hpv] at u11 A11 B11
    obtain ⟨W11, e11⟩ : ∃ W, W = w9.setCell ⟨g7, 41, none⟩ pv := ⟨_, rfl⟩
    rw [← e11] at u11 A11 B11
    have U11 := Lib.hid u11
    have A11 := Lib.hid A11
    have B11 := Lib.hid B11
    have HY := Lib.hid hY
    have hZo := HZO.out
    obtain ⟨i3, i4, i5, i6⟩ := HI.out
    clear u11 hfin hY n72 A9' B9
    go_upto_region 12 with fail
    rw [← hpv, ← e11]
    clear hpv e11 y34 y35 y41 fy41
    refine wp_region_lit ?_
    go_wp2_with (first | refine wpList_load_v rfl 52 (.tmp 11) rfl _ rfl tytr U11.out Yl ?_ | refine wpList_store_v rfl 52 (.tmp 2) (.tmp 81) rfl _ rfl tytr A11.out hZl Y Yl Yo rfl ?_ | fail)
    all_goals
      have HS := A11.out.store Y (by rw [Yl, hZl])
      exact bodyPost_ret (v := .tuple #[.agg Y.toArray, .slice none 0 0]) (res_cell_tmp Tryz.results72 rfl (HS.loadVar tytr Yl) rfl) rfl ⟨setCells_below g2 (by rw [HG2.out]; exact Nat.le_refl _) _ _ _ B11.out, by rw [HY.out]; first | rw [if_neg (by assumption)] | (have hcm : c = m := (by assumption); rw [if_pos hcm, hcm, Nat.sub_self])⟩
  · have CH1 : Hid (∀ W, Row W A n bs → Calls Tryz.prog 90 #[.slice A n c] W fun e w' => ∃ A9 c9, e = .returned (.slice A9 D.length c9) ∧ DefRead w' (.slice A9 D.length c9) D ∧ Below W.heap.size W w') := fun W hW => (CH.out W hW).mono fun e w' h => by
      obtain ⟨v, rfl, hd, hb⟩ := h
      obtain ⟨A9, c9, rfl, h4, h5⟩ := hd
      exact ⟨A9, c9, rfl, ⟨A9, c9, rfl, h4, h5⟩, hb⟩
    have hl0 : 0 < D.length := List.length_pos_iff.2 hD
    obtain ⟨q, hq⟩ : ∃ q, q = D.length := ⟨_, rfl⟩
    rw [← hq] at CH1 hl0
    have qI : (0 : Int) < (q : Int) := by omega
    have HND := Lib.hid hD
    clear hg2 hD hDD hl0 CH hq hR hZ hn2 hn3 hc
    go_enter Tryz.func72, Tryz.ntmps72
    go_upto_region 1 with fail
    rw [← e0, ← HG2.out]
    clear e0
    go_wp2_with fail
    refine (CH1.out _ (HR.out.below HB.out)).mono ?_
    rintro e w1 ⟨A9, c9, rfl, d1, b1⟩
    have A4 := Lib.hid (HA.out.below b1)
    have B4 := Lib.hid (below_both HB.out b1)
    have D4 := Lib.hid d1
    clear d1 b1 HA HB
    go_wp2_with (first | refine wpList_store_v rfl 52 (.tmp 2) (.tmp 17) rfl _ rfl tytr A4.out hZl Z hZl hZo rfl ?_ | fail)
    have HS := A4.out.store Z rfl
    exact bodyPost_ret (v := .tuple #[.agg Z.toArray, .slice A9 q c9]) (res_cell_tmp Tryz.results72 rfl (HS.loadVar tytr hZl) rfl) rfl ⟨setCells_below g2 (by rw [HG2.out]; exact Nat.le_refl _) _ _ _ B4.out, fun _ => ⟨_, rfl, D4.out.again A4.out⟩, fun h => absurd h HND.out⟩
end Go.Proofs.YtmchclpkjjmocaaGreat
