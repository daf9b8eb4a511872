/-
  Plain facts of packets: their records, and what is wrong with them.
  packet: the record as it is built, and its ports (readPorts).
  packet: view, over what the headers say.
-/
import Derived.Test.YtjpaicdbnadoeaaFh7
import Derived.Test.YtjpaicdbnadoeaaSx3
import Derived.Test.YtjpaicdbnadoeaaEw5
import Derived.Test.YtjpaicdbnadoeaaPo1
import Derived.Test.YtjpaicdbnadoeaaArrV
import Derived.Test.YtjpaicdbnadoeaaFh4
import Derived.BigQuiet
namespace Go.Proofs.Ytjpaicdbnadoeaa
open Go.RowKit
set_option linter.unusedVariables false

structure PkRec where
  v : Nat
  src : List Nat
  dst : List Nat
  proto : Int
  size : Nat
  at_ : Nat
  frag : Nat
  field : Nat
def pk4 (bs : List Nat) : PkRec :=
  ⟨4, (bs.drop 12).take 4 ++ List.replicate 12 0, (bs.drop 16).take 4 ++ List.replicate 12 0, (bs.getD 9 0 : Nat), fhw bs 2, 4 * (bs.getD 0 0 % 16), if fhw bs 6 % 8192 ≠ 0 then 2 else if bs.getD 6 0 / 32 % 2 = 1 then 1 else 0, bs.getD 1 0⟩
def pkRest (bs : List Nat) : List Nat := (bs.drop 40).take (sxPay bs)
def pkTour (bs : List Nat) : Tour := (walkF (pkRest bs).length (pkRest bs) 9 (Tour.start ((sxNext bs : Nat) : Int)) []).1
def pk6 (bs : List Nat) : PkRec :=
  ⟨6, (bs.drop 8).take 16, (bs.drop 24).take 16, (pkTour bs).proto, 40 + sxPay bs, 40 + (pkTour bs).at_, (pkTour bs).frag, sxN (be (bs.take 8)) 0⟩
def pkRec (bs : List Nat) : PkRec := if bs.getD 0 0 / 16 = 4 then pk4 bs else pk6 bs
/-- What is wrong with the headers. -/
def pkHeads (n : Nat) (bs : List Nat) : List Nat := if n = 0 then [1] else if bs.getD 0 0 / 16 = 4 then fhall n bs else if bs.getD 0 0 / 16 = 6 then sxall n bs else [2]
def PkRec.has (r : PkRec) : Bool := decide (¬ (r.frag = 2 ∨ poLeast r.proto = 0))
def PkRec.pay (r : PkRec) (bs : List Nat) : List Nat := (bs.drop r.at_).take (r.size - r.at_)
def PkRec.ports (r : PkRec) (bs : List Nat) : Nat × Nat × Nat := if r.has = true then poRead r.proto (r.size - r.at_) (r.pay bs) (decide (r.frag = 1)) else (0, 0, 0)
/-- All that is wrong. -/
def pkDefs (n : Nat) (bs : List Nat) : List Nat := if pkHeads n bs ≠ [] then pkHeads n bs else if ((pkRec bs).ports bs).2.2 ≠ 0 then [((pkRec bs).ports bs).2.2] else []
theorem pkbad_asc (n m : Nat) (bs : List Nat) (a b : Bool) : (fhbad n m bs a b).Pairwise (· < ·) ∧ ∀ x ∈ fhbad n m bs a b, 1 ≤ x ∧ x ≤ 16 := by
  unfold fhbad
  cases a <;> cases b <;> cases decide (fhw bs 2 < m) <;> cases decide (n < fhw bs 2) <;> cases decide (m ≤ fhw bs 2 ∧ 65535 < 8 * (fhw bs 6 % 8192) + fhw bs 2 - m) <;> refine ⟨by decide, by decide⟩
theorem one_asc {d : Nat} (h : 1 ≤ d ∧ d ≤ 16) : [d].Pairwise (· < ·) ∧ ∀ x ∈ [d], 1 ≤ x ∧ x ≤ 16 := ⟨List.pairwise_singleton _ _, fun x hx => by rw [List.mem_singleton.1 hx]; exact h⟩
theorem pkfhdef_le (n : Nat) (bs : List Nat) : fhdef n bs ≤ 16 := by
  unfold fhdef
  split
  · decide
  · split
    · decide
    · split
      · decide
      · split
        · decide
        · split <;> decide
theorem pksxdef_le (n : Nat) (bs : List Nat) : sxdef n bs ≤ 16 := by
  unfold sxdef
  split
  · decide
  · split
    · decide
    · split <;> decide
theorem pkfour_asc (n : Nat) (bs : List Nat) : (fhall n bs).Pairwise (· < ·) ∧ ∀ x ∈ fhall n bs, 1 ≤ x ∧ x ≤ 16 := by
  unfold fhall
  split
  · exact pkbad_asc _ _ _ _ _
  · exact one_asc ⟨by omega, pkfhdef_le n bs⟩
theorem pksix_asc (n : Nat) (bs : List Nat) : (sxall n bs).Pairwise (· < ·) ∧ ∀ x ∈ sxall n bs, 1 ≤ x ∧ x ≤ 16 := by
  unfold sxall
  split
  · exact one_asc ⟨by omega, pksxdef_le n bs⟩
  · split
    · exact one_asc (by decide)
    · rename_i r _
      obtain ⟨h1, h2, _⟩ := defects_asc (walkF r.length r 9 (Tour.start ((sxNext bs : Nat) : Int)) []).1
      exact ⟨h1, fun x hx => by have := h2 x hx; omega⟩
theorem poRead_le (p : Int) (n : Nat) (bs : List Nat) (f : Bool) : (poRead p n bs f).2.2 ≤ 16 := by
  unfold poRead
  split
  · decide
  · split
    · decide
    · split
      · decide
      · exact Nat.zero_le _
theorem pkPorts_le (r : PkRec) (bs : List Nat) : (r.ports bs).2.2 ≤ 16 := by
  unfold PkRec.ports
  split
  · exact poRead_le _ _ _ _
  · exact Nat.zero_le _
theorem pkHeads_asc (n : Nat) (bs : List Nat) : (pkHeads n bs).Pairwise (· < ·) ∧ ∀ x ∈ pkHeads n bs, 1 ≤ x ∧ x ≤ 16 := by
  unfold pkHeads
  split
  · exact one_asc (by decide)
  · split
    · exact pkfour_asc n bs
    · split
      · exact pksix_asc n bs
      · exact one_asc (by decide)
/-- What is wrong rises by its rank, each once. -/
theorem pkDefs_asc (n : Nat) (bs : List Nat) : (pkDefs n bs).Pairwise (· < ·) ∧ ∀ x ∈ pkDefs n bs, 1 ≤ x ∧ x ≤ 16 := by
  unfold pkDefs
  split
  · exact pkHeads_asc n bs
  · split
    · exact one_asc ⟨by omega, pkPorts_le _ bs⟩
    · exact ⟨List.Pairwise.nil, fun x hx => by cases hx⟩
theorem walkF_proto {n : Nat} {bs : List Nat} (hb : ∀ x ∈ bs, x < 256) : ∀ (f : Nat) (t : Tour) (M : List (Nat × List Nat)), (0 ≤ t.proto ∧ t.proto ≤ 255) → 0 ≤ (walkF n bs f t M).1.proto ∧ (walkF n bs f t M).1.proto ≤ 255
  | 0, t, M, h => h
  | f + 1, t, M, h => by
    rw [walkF]
    split
    · exact h
    · split
      · exact h
      · split
        · exact h
        · rename_i m _
          have hp : 0 ≤ (t.pass t.proto.toNat ((bs.drop t.at_).take m) (n - t.at_ - m)).proto ∧ (t.pass t.proto.toNat ((bs.drop t.at_).take m) (n - t.at_ - m)).proto ≤ 255 := by
            show 0 ≤ ((((bs.drop t.at_).take m).getD 0 0 : Nat) : Int) ∧ ((((bs.drop t.at_).take m).getD 0 0 : Nat) : Int) ≤ 255
            have h2 := getD_byte (l := (bs.drop t.at_).take m) (fun x hx => hb x (List.mem_of_mem_drop (List.mem_of_mem_take hx))) 0
            omega
          split
          · exact hp
          · exact walkF_proto hb f _ _ hp
theorem fhall_nil {n : Nat} {bs : List Nat} (h : fhall n bs = []) : fhdef n bs = 0 ∧ 20 ≤ n ∧ 20 ≤ 4 * (bs.getD 0 0 % 16) ∧ 4 * (bs.getD 0 0 % 16) ≤ fhw bs 2 ∧ fhw bs 2 ≤ n := by
  unfold fhall at h
  by_cases hd : fhdef n bs = 0
  · rw [if_pos hd] at h
    unfold fhbad at h
    simp only [List.append_eq_nil_iff] at h
    obtain ⟨⟨⟨⟨h1, h2⟩, _⟩, _⟩, _⟩ := h
    have g1 : ¬ fhw bs 2 < 4 * (bs.getD 0 0 % 16) := fun e => by rw [decide_eq_true e] at h1; cases h1
    have g2 : ¬ n < fhw bs 2 := fun e => by rw [decide_eq_true e] at h2; cases h2
    have hd2 := hd
    unfold fhdef at hd2
    split at hd2
    · cases hd2
    · split at hd2
      · cases hd2
      · split at hd2
        · cases hd2
        · split at hd2
          · cases hd2
          · split at hd2
            · cases hd2
            · exact ⟨hd, by omega, by omega, by omega, by omega⟩
  · rw [if_neg hd] at h
    cases h
theorem sxall_nil {n : Nat} {bs : List Nat} (hl : bs.length = n) (h : sxall n bs = []) : sxdef n bs = 0 ∧ 40 + sxPay bs ≤ n ∧ sxrest n bs = some (pkRest bs) ∧ (pkRest bs).length = sxPay bs ∧ (pkTour bs).defects = [] := by
  unfold sxall at h
  by_cases hd : sxdef n bs = 0
  · rw [if_neg (fun e => e hd)] at h
    by_cases hp : 40 + sxPay bs ≤ n
    · have hr : sxrest n bs = some (pkRest bs) := by unfold sxrest pkRest; rw [if_pos ⟨hd, hp⟩]
      rw [hr] at h
      refine ⟨hd, hp, hr, ?_, h⟩
      unfold pkRest
      rw [List.length_take, List.length_drop, hl]
      omega
    · have hr : sxrest n bs = none := by unfold sxrest; rw [if_neg (fun e => hp e.2)]
      rw [hr] at h
      cases h
  · rw [if_pos hd] at h
    cases h
/-- Of a packet without a defect. -/
theorem pk_good {n : Nat} {bs : List Nat} (hl : bs.length = n) (hb : ∀ x ∈ bs, x < 256) (h : pkHeads n bs = []) :
    ((pkRec bs).v = 4 ∨ (pkRec bs).v = 6) ∧ 20 ≤ (pkRec bs).at_ ∧ (pkRec bs).at_ ≤ (pkRec bs).size ∧ (pkRec bs).size ≤ n ∧ 0 ≤ (pkRec bs).proto ∧ (pkRec bs).proto ≤ 255 := by
  unfold pkHeads at h
  split at h
  · cases h
  · split at h
    · rename_i h4
      have e : pkRec bs = pk4 bs := by unfold pkRec; rw [if_pos h4]
      rw [e]
      obtain ⟨_, h20, h1, h2, h3⟩ := fhall_nil h
      have := getD_byte hb 9
      refine ⟨.inl rfl, h1, h2, h3, ?_, ?_⟩
      · show (0 : Int) ≤ ((bs.getD 9 0 : Nat) : Int); omega
      · show ((bs.getD 9 0 : Nat) : Int) ≤ 255; omega
    · split at h
      · rename_i h4 h6
        have e : pkRec bs = pk6 bs := by unfold pkRec; rw [if_neg h4]
        rw [e]
        obtain ⟨_, h40, hr, hrl, hd⟩ := sxall_nil hl h
        obtain ⟨ok, _⟩ := walkF_ok (k := ((sxNext bs : Nat) : Int)) (n := (pkRest bs).length) (bs := pkRest bs) 9 (Tour.start ((sxNext bs : Nat) : Int)) [] (start_ok _ _) rfl rfl
        have hat : (pkTour bs).at_ ≤ (pkRest bs).length := ok.at_
        have hnx : sxNext bs < 256 := by unfold sxNext sxN; exact Nat.mod_lt _ (by decide)
        have hpr := walkF_proto (n := (pkRest bs).length) (bs := pkRest bs) (fun x hx => hb x (List.mem_of_mem_drop (List.mem_of_mem_take hx))) 9 (Tour.start ((sxNext bs : Nat) : Int)) [] (by show 0 ≤ ((sxNext bs : Nat) : Int) ∧ ((sxNext bs : Nat) : Int) ≤ 255; omega)
        refine ⟨.inr rfl, by show 20 ≤ 40 + _; omega, by show 40 + (pkTour bs).at_ ≤ 40 + sxPay bs; omega, h40, hpr.1, hpr.2⟩
      · cases h
end Go.Proofs.Ytjpaicdbnadoeaa

namespace Go.Proofs.Ytjpaicdbnadoeaa
open Go.RowKit
set_option linter.unusedVariables false
set_option maxRecDepth 8000

def trTail (r : PkRec) (has : Bool) (x y : Nat) (pv : Value) : List Value := [.int .i64 r.proto, .int .i64 (r.size : Nat), .int .i64 (r.at_ : Nat), .int .i64 (r.frag : Nat), .bool has, .int .i64 (x : Nat), .int .i64 (y : Nat), .int .u8 (r.field : Nat), pv]
def trCells (r : PkRec) (has : Bool) (x y : Nat) (pv : Value) : List Value := .int .i64 (r.v : Nat) :: (bcells r.src ++ (bcells r.dst ++ trTail r has x y pv))
def trZ : List Value := [.int .i64 0, .int .u8 0, .int .u8 0, .int .u8 0, .int .u8 0, .int .u8 0, .int .u8 0, .int .u8 0, .int .u8 0, .int .u8 0, .int .u8 0, .int .u8 0, .int .u8 0, .int .u8 0, .int .u8 0, .int .u8 0, .int .u8 0, .int .u8 0, .int .u8 0, .int .u8 0, .int .u8 0, .int .u8 0, .int .u8 0, .int .u8 0, .int .u8 0, .int .u8 0, .int .u8 0, .int .u8 0, .int .u8 0, .int .u8 0, .int .u8 0, .int .u8 0, .int .u8 0, .int .i64 0, .int .i64 0, .int .i64 0, .int .i64 0, .bool false, .int .i64 0, .int .i64 0, .int .u8 0, .slice none 0 0]
theorem tytr : RowTy 82 42 := ⟨⟨_, Try.underlying82, rfl⟩, by kernel_rfl⟩
theorem trZ_all : trZ.length = 42 ∧ ∀ v ∈ trZ, v.oneCell' = true := ⟨rfl, by unfold trZ; simp [Value.oneCell']⟩
theorem three_at {a : Value} {S D T : List Value} (hS : S.length = 16) (hD : D.length = 16) (j : Nat) : (a :: (S ++ (D ++ T)))[33 + j]? = T[j]? := by
  rw [show 33 + j = (16 + (16 + j)) + 1 by omega, List.getElem?_cons_succ, List.getElem?_append_right (by omega), hS, Nat.add_sub_cancel_left, List.getElem?_append_right (by omega), hD, Nat.add_sub_cancel_left]
theorem three_set {a : Value} {S D T : List Value} (hS : S.length = 16) (hD : D.length = 16) (j : Nat) (v : Value) : (a :: (S ++ (D ++ T))).set (33 + j) v = a :: (S ++ (D ++ T.set j v)) := by
  rw [show 33 + j = (16 + (16 + j)) + 1 by omega, List.set_cons_succ, List.set_append_right (h := by omega), hS, Nat.add_sub_cancel_left, List.set_append_right (h := by omega), hD, Nat.add_sub_cancel_left]
theorem trCells_all {r : PkRec} (hs : r.src.length = 16) (hd : r.dst.length = 16) {has : Bool} {x y : Nat} {pv : Value} (hpv : pv.oneCell' = true) : (trCells r has x y pv).length = 42 ∧ ∀ v ∈ trCells r has x y pv, v.oneCell' = true := by
  refine ⟨by simp [trCells, trTail, bcells_length, hs, hd], fun v hv => ?_⟩
  unfold trCells at hv
  rcases List.mem_cons.1 hv with rfl | hv
  · rfl
  rcases List.mem_append.1 hv with hv | hv
  · exact bcells_one _ v hv
  rcases List.mem_append.1 hv with hv | hv
  · exact bcells_one _ v hv
  · unfold trTail at hv
    simp at hv
    rcases hv with rfl | rfl | rfl | rfl | rfl | rfl | rfl | rfl | rfl
    all_goals first | rfl | exact hpv
theorem pkhas_iff (r : PkRec) : r.has = true ↔ ¬ r.frag = 2 ∧ ¬ poLeast r.proto = 0 := by
  unfold PkRec.has
  rw [decide_eq_true_iff]
  exact not_or
set_option maxHeartbeats 3200000 in
theorem rdports_any (r : PkRec) (hs : r.src.length = 16) (hd : r.dst.length = 16) (P : Option Addr) (m pc : Nat) (L : List Nat) (W : World) (g : Nat) (hA : ArrV 82 W g (trCells r false 0 0 (.slice P m pc))) (hm : m ≤ pc) (hm2 : m ≤ 140737488355328) (hR : Row W P m L) {x y d : Nat} (hr : (if r.has = true then poRead r.proto m L (decide (r.frag = 1)) else (0, 0, 0)) = (x, y, d)) :
    Calls Try.prog 85 #[.pointer (some ⟨g, 0, none⟩)] W fun e w' => e = .returned (.int .i64 (d : Nat)) ∧ ArrV 82 w' g (trCells r r.has x y (.slice P m pc)) ∧ Below g W w' := by
  have hbs : (bcells r.src).length = 16 := by rw [bcells_length, hs]
  have hbd : (bcells r.dst).length = 16 := by rw [bcells_length, hd]
  have c33 := (hA.get 33).trans (three_at hbs hbd 0)
  have c36 := (hA.get 36).trans (three_at hbs hbd 3)
  have c41 := (hA.get 41).trans (three_at hbs hbd 8)
  simp only [trTail, List.getElem?_cons_zero, List.getElem?_cons_succ] at c33 c36 c41
  have hS1 : ∀ (U : World), ArrV 82 U g (trCells r false 0 0 (.slice P m pc)) → ArrV 82 (((U.setCell ⟨g, 37, none⟩ (.bool true)).setCell ⟨g, 38, none⟩ (.int .i64 (x : Nat))).setCell ⟨g, 39, none⟩ (.int .i64 (y : Nat))) g (trCells r true x y (.slice P m pc)) := fun U h => by
    have h1 := ((h.set 37 (.bool true)).set 38 (.int .i64 (x : Nat))).set 39 (.int .i64 (y : Nat))
    unfold trCells at h1 ⊢
    rw [show 37 = 33 + 4 from rfl, three_set hbs hbd, show 38 = 33 + 5 from rfl, three_set hbs hbd, show 39 = 33 + 6 from rfl, three_set hbs hbd] at h1
    exact h1
  have HS1 := Lib.hid hS1
  have HA := Lib.hid hA
  obtain ⟨p, hp⟩ : ∃ p, p = r.proto := ⟨_, rfl⟩
  obtain ⟨f, hf⟩ : ∃ f, f = r.frag := ⟨_, rfl⟩
  rw [← hp] at c33
  rw [← hf] at c36
  by_cases f2 : f = 2
  · have hh : r.has = false := by
      cases h : r.has
      · rfl
      · exact absurd (hf.symm.trans f2) ((pkhas_iff r).1 h).1
    rw [hh] at hr ⊢
    injection hr with h1 h2
    injection h2 with h2 h3
    subst h1 h2 h3
    subst f2
    clear hS1 hA hp hf hR hm hm2 HS1 hbs hbd hs hd
    go_enter Try.func85, Try.ntmps85
    go_wp2_with fail
    go_ret
    exact ⟨rfl, HA.out, Below.refl _ _⟩
  have fb : ((f : Int) == 2) = false := beq_false_of_ne (by omega)
  have CL := Lib.hid (poleast_any p)
  obtain ⟨l, hl⟩ : ∃ l, l = poLeast p := ⟨_, rfl⟩
  rw [← hl] at CL
  by_cases l0 : l = 0
  · have hh : r.has = false := by
      cases h : r.has
      · rfl
      · exact absurd (by rw [← hp, ← hl, l0]) ((pkhas_iff r).1 h).2
    rw [hh] at hr ⊢
    injection hr with h1 h2
    injection h2 with h2 h3
    subst h1 h2 h3
    subst l0
    clear hS1 hA hp hf hR hm hm2 HS1 hbs hbd hs hd hl f2
    go_enter Try.func85, Try.ntmps85
    go_wp2_with fail
    refine (CL.out _).mono ?_
    rintro e w' ⟨rfl, rfl⟩
    go_wp2_with fail
    go_ret
    exact ⟨rfl, HA.out, Below.refl _ _⟩
  · have lb : ((l : Int) == 0) = false := beq_false_of_ne (by omega)
    have hh : r.has = true := (pkhas_iff r).2 ⟨by rw [← hf]; exact f2, by rw [← hp, ← hl]; exact l0⟩
    rw [hh, if_pos rfl] at hr
    rw [hh]
    have CR := Lib.hid (fun w (hR : Row w P m L) => poread_any r.proto P m pc L (decide (r.frag = 1)) w hm2 hm hR)
    rw [hr, ← hp, ← hf] at CR
    unfold PoReadIs at CR
    simp only at CR
    obtain ⟨q1, hq1⟩ : ∃ b : Bool, b = decide (f = 1) := ⟨_, rfl⟩
    have hq2 : ((f : Int) == 1) = q1 := by
      rw [hq1]
      by_cases h : f = 1
      · subst h; rfl
      · rw [decide_eq_false h]; exact beq_false_of_ne (by omega)
    rw [← hq1] at CR
    have HR := Lib.hid hR
    have hf37 : ∀ (U : World), ArrV 82 U g (trCells r false 0 0 (.slice P m pc)) → (U.cell? ⟨g, 37, none⟩ = some (.bool false) ∧ U.frozen? ⟨g, 37, none⟩ = false) ∧ ((U.setCell ⟨g, 37, none⟩ (.bool true)).cell? ⟨g, 38, none⟩ = some (.int .i64 0) ∧ (U.setCell ⟨g, 37, none⟩ (.bool true)).frozen? ⟨g, 38, none⟩ = false) ∧
        (((U.setCell ⟨g, 37, none⟩ (.bool true)).setCell ⟨g, 38, none⟩ (.int .i64 (x : Nat))).cell? ⟨g, 39, none⟩ = some (.int .i64 0) ∧ ((U.setCell ⟨g, 37, none⟩ (.bool true)).setCell ⟨g, 38, none⟩ (.int .i64 (x : Nat))).frozen? ⟨g, 39, none⟩ = false) := fun U h => by
      have a1 := (h.get 37).trans (three_at hbs hbd 4)
      have a2 := three_at (a := Value.int .i64 (r.v : Nat)) (T := trTail r false 0 0 (.slice P m pc)) hbs hbd 5
      have a3 := three_at (a := Value.int .i64 (r.v : Nat)) (T := trTail r false 0 0 (.slice P m pc)) hbs hbd 6
      simp only [trTail, List.getElem?_cons_zero, List.getElem?_cons_succ] at a1 a2 a3
      have h1 := h.set 37 (.bool true)
      have h2 := h1.set 38 (.int .i64 (x : Nat))
      refine ⟨⟨a1, h.frozen 37⟩, ⟨?_, h1.frozen 38⟩, ⟨?_, h2.frozen 39⟩⟩
      · rw [h1.get 38, List.getElem?_set_ne (by decide)]
        exact a2
      · rw [h2.get 39, List.getElem?_set_ne (by decide), List.getElem?_set_ne (by decide)]
        exact a3
    have HF := Lib.hid hf37
    clear hS1 hA hp hf hR hm hm2 hbs hbd hs hd hl f2 l0 hr hh hf37 hq1
    go_enter Try.func85, Try.ntmps85
    go_wp2_with fail
    refine (CL.out _).mono ?_
    rintro e w' ⟨rfl, rfl⟩
    go_upto_region 3 with fail
    go_quiet ((go_at_call 30; exact quiet_quiet (CR.out _ (by exact HR.out))))
    have hU : ArrV 82 (W.drewN nq) g (trCells r false 0 0 (.slice P m pc)) := HA.out
    obtain ⟨U, eU⟩ : ∃ U, U = W.drewN nq := ⟨_, rfl⟩
    rw [← eU] at hU ⊢
    obtain ⟨⟨a1, b1⟩, ⟨a2, b2⟩, ⟨a3, b3⟩⟩ := HF.out U hU
    have HO := Lib.hid (HS1.out U hU)
    have HBL : Hid (Below g W (((U.setCell ⟨g, 37, none⟩ (.bool true)).setCell ⟨g, 38, none⟩ (.int .i64 (x : Nat))).setCell ⟨g, 39, none⟩ (.int .i64 (y : Nat)))) := by
      show Below _ _ _
      have h0 : Below g W U := by rw [eU]; exact below_drewN' (Below.refl _ _) nq
      exact ((h0.setCell (p := ⟨g, 37, none⟩) (Nat.le_refl _) _).setCell (p := ⟨g, 38, none⟩) (Nat.le_refl _) _).setCell (p := ⟨g, 39, none⟩) (Nat.le_refl _) _
    clear eU hU c33 c36 c41 HF HS1
    go_wp2_with fail
    go_ret
    exact ⟨rfl, HO.out, HBL.out⟩
end Go.Proofs.Ytjpaicdbnadoeaa

namespace Go.Proofs.Ytjpaicdbnadoeaa
open Go.RowKit
set_option linter.unusedVariables false
set_option maxRecDepth 8000

/-- All that is wrong, or the record, its payload a piece of what came in. -/
def HeadsIs (D : List Nat) (r : PkRec) (has : Bool) (x y : Nat) (pv : Value) (w : World) (e : Ending) (w' : World) : Prop :=
  Below w.heap.size w w' ∧ (D ≠ [] → ∃ v, e = .returned (.tuple #[.agg trZ.toArray, v]) ∧ DefRead w' v D) ∧
    (D = [] → e = .returned (.tuple #[.agg (trCells r has x y pv).toArray, .slice none 0 0]))
theorem tr_lit : (#[.int .i64 0, .int .u8 0, .int .u8 0, .int .u8 0, .int .u8 0, .int .u8 0, .int .u8 0, .int .u8 0, .int .u8 0, .int .u8 0, .int .u8 0, .int .u8 0, .int .u8 0, .int .u8 0, .int .u8 0, .int .u8 0, .int .u8 0, .int .u8 0, .int .u8 0, .int .u8 0, .int .u8 0, .int .u8 0, .int .u8 0, .int .u8 0, .int .u8 0, .int .u8 0, .int .u8 0, .int .u8 0, .int .u8 0, .int .u8 0, .int .u8 0, .int .u8 0, .int .u8 0, .int .i64 0, .int .i64 0, .int .i64 0, .int .i64 0, .bool false, .int .i64 0, .int .i64 0, .int .u8 0, .slice none 0 0] : Array Value) = trZ.toArray := rfl
theorem def_at {W : World} {h : Nat} {d : Nat} {t : TypeId} (hh : W.heap[h]? = some (.cells #[.int .i64 (d : Nat)] t (0, 0))) : DefRead W (.slice (some ⟨h, 0, none⟩) 1 1) [d] := by
  refine ⟨_, 1, rfl, Nat.le_refl _, fun i z hz => ?_⟩
  have hi : i = 0 := by
    have := (List.getElem?_eq_some_iff.1 hz).1
    simp at this
    exact this
  subst hi
  simp at hz
  subst hz
  refine ⟨h, 0, rfl, ?_, by rw [cell_of_row _ _ _ _ _ _ hh]; rfl⟩
  rcases Nat.lt_or_ge h W.heap.size with hlt | hge
  · exact hlt
  · rw [Array.getElem?_eq_none hge] at hh; cases hh
theorem pkcell_far {W : World} {g b o : Nat} {v : Value} (h : W.cell? ⟨b, o, none⟩ = some v) (hne : b ≠ g) (vs : List Value) : (W.setCells g 0 vs).cell? ⟨b, o, none⟩ = some v := by
  have hr : W.rangeAt b o [v] := fun j u hu => by
    cases j with
    | zero => simp at hu; subst hu; simpa using h
    | succ j => simp at hu
  have h2 := World.rangeAt_setCells_apart hr g 0 vs (.inl hne) 0 v rfl
  simpa using h2
/-- The same stored once more. -/
theorem DefRead.again {W : World} {v : Value} {D : List Nat} (h : DefRead W v D) {t : TypeId} {g : Nat} {Z : List Value} (hA : ArrV t W g Z) : DefRead (W.setCells g 0 Z) v D := by
  obtain ⟨A, c, e, hc, hcell⟩ := h
  refine ⟨A, c, e, hc, fun i z hz => ?_⟩
  obtain ⟨b, o, ea, hlt, h1⟩ := hcell i z hz
  refine ⟨b, o, ea, by rw [setCells_size]; exact hlt, ?_⟩
  by_cases hb : b = g
  · subst hb
    rw [(hA.store Z rfl).get, ← hA.get]
    exact h1
  · exact pkcell_far h1 hb Z
set_option maxHeartbeats 3200000 in
theorem view_of (b : Value) (D : List Nat) (r : PkRec) (hs : r.src.length = 16) (hd : r.dst.length = 16) (P : Option Addr) (m pc : Nat) (hm : m ≤ pc) (hm2 : m ≤ 140737488355328) (L : List Nat) {x y d : Nat} (hr : (if r.has = true then poRead r.proto m L (decide (r.frag = 1)) else (0, 0, 0)) = (x, y, d)) (w : World) (hR : Row w P m L)
    (CH : ∀ W, Below w.heap.size w W → Calls Try.prog 84 #[b] W (HeadsIs D r false 0 0 (.slice P m pc) W)) :
    Calls Try.prog 51 #[b] w (HeadsIs (if D ≠ [] then D else if d ≠ 0 then [d] else []) r r.has x y (.slice P m pc) w) := by
  obtain ⟨Z, hZ⟩ : ∃ Z, Z = trZ := ⟨_, rfl⟩
  obtain ⟨hZl, hZo⟩ := trZ_all
  have hlit := tr_lit
  obtain ⟨V, e0⟩ : ∃ V, V = w.alloc (.cells Z.toArray 82) := ⟨_, rfl⟩
  have CH := Lib.hid CH
  unfold HeadsIs at CH
  unfold HeadsIs
  rw [← hZ] at CH hZl hZo hlit ⊢
  have HA : Hid (ArrV 82 V w.heap.size Z) := by show ArrV _ _ _ _; rw [e0]; exact ArrV.new _ w Z
  have HB : Hid (Below w.heap.size w V) := by show Below _ _ _; rw [e0]; exact (Below.refl _ _).alloc (Nat.le_refl _) _
  obtain ⟨g2, hg2⟩ : ∃ g, g = w.heap.size := ⟨_, rfl⟩
  have HG2 := Lib.hid hg2
  rw [← hg2] at HA
  by_cases hD : D = []
  · have CH1 : Hid (∀ W, Below w.heap.size w W → Calls Try.prog 84 #[b] W fun e w' => e = .returned (.tuple #[.agg (trCells r false 0 0 (.slice P m pc)).toArray, .slice none 0 0]) ∧ Below W.heap.size W w') := fun W hW => (CH.out W hW).mono fun e w' h => by
      obtain ⟨h1, _, h3⟩ := h
      exact ⟨h3 hD, h1⟩
    rw [if_neg (fun h => h hD)]
    have HR := Lib.hid hR
    have CP : Hid (∀ (W : World) (g : Nat), ArrV 82 W g (trCells r false 0 0 (.slice P m pc)) → Row W P m L → Calls Try.prog 85 #[.pointer (some ⟨g, 0, none⟩)] W fun e w' => e = .returned (.int .i64 (d : Nat)) ∧ ArrV 82 w' g (trCells r r.has x y (.slice P m pc)) ∧ Below g W w') := fun W g h1 h3 => rdports_any r hs hd P m pc L W g h1 hm hm2 h3 hr
    have HXL : Hid (∀ (h : Bool) (x y : Nat), (trCells r h x y (.slice P m pc)).length = 42 ∧ ∀ v ∈ trCells r h x y (.slice P m pc), v.oneCell' = true) := fun h x y => trCells_all hs hd rfl
    have HD := Lib.hid hD
    clear hD hr hs hd hm hm2 CH hR hZ hg2
    by_cases hd0 : d = 0
    · subst hd0
      rw [if_neg (fun h => h rfl)]
      go_enter Try.func51, Try.ntmps51
      go_upto_region 1 with fail
      rw [← e0, ← HG2.out]
      clear e0
      go_wp2_with fail
      refine (CH1.out _ HB.out).mono ?_
      rintro e w1 ⟨rfl, b1⟩
      have HA1 := Lib.hid (HA.out.below b1)
      have B1 := Lib.hid (below_both HB.out b1)
      obtain ⟨X, hX⟩ : ∃ X, X = trCells r false 0 0 (.slice P m pc) := ⟨_, rfl⟩
      obtain ⟨Xl, Xo⟩ := HXL.out false 0 0
      rw [← hX] at Xl Xo ⊢
      have HX := Lib.hid hX
      clear b1 hX
      go_upto_region 2 with (first | refine wpList_store_v rfl 82 (.tmp 4) (.tmp 10) rfl _ rfl tytr (ArrV.new _ _ Z) hZl X Xl Xo rfl ?_ | fail)
      obtain ⟨V4, e4⟩ : ∃ V, V = (w1.alloc (.cells Z.toArray 82)).setCells w1.heap.size 0 X := ⟨_, rfl⟩
      have hb4 : Below w1.heap.size w1 V4 := by rw [e4]; exact setCells_below _ (Nat.le_refl _) _ _ _ ((Below.refl _ _).alloc (Nat.le_refl _) _)
      have X4 : Hid (ArrV 82 V4 w1.heap.size X) := by
        show ArrV _ _ _ _
        rw [e4]
        exact (ArrV.new _ w1 Z).store X (by rw [Xl, hZl])
      rw [← e4]
      obtain ⟨g4, hg4⟩ : ∃ g, g = w1.heap.size := ⟨_, rfl⟩
      have hlt : g2 < g4 := by rw [hg4]; exact HA1.out.lt
      have A4 := Lib.hid (HA1.out.below hb4)
      have B4 := Lib.hid (below_both B1.out hb4)
      have HG4 : Hid (w.heap.size ≤ g4 ∧ g2 < g4) := ⟨by rw [hg4]; exact B1.out.size, hlt⟩
      rw [← hg4] at X4 ⊢
      clear e4 hb4 HA1 B1 hg4 hlt
      go_wp2_with fail
      refine (CP.out V4 g4 (by rw [← HX.out]; exact X4.out) (HR.out.below B4.out)).mono ?_
      rintro e w5 ⟨rfl, y5, b5⟩
      obtain ⟨Y, hY⟩ : ∃ Y, Y = trCells r r.has x y (.slice P m pc) := ⟨_, rfl⟩
      obtain ⟨Yl, Yo⟩ := HXL.out r.has x y
      rw [← hY] at y5 Yl Yo
      have Y5 := Lib.hid y5
      have HY := Lib.hid hY
      have A5 := Lib.hid (A4.out.belowB b5 HG4.out.2)
      have B5 := Lib.hid (B4.out.trans (b5.mono HG4.out.1))
      clear y5 hY b5 A4 B4 X4
      go_upto_region 7 with fail
      refine wp_region_lit ?_
      go_wp2_with (first | refine wpList_load_v rfl 82 (.tmp 4) rfl _ rfl tytr Y5.out Yl ?_ | refine wpList_store_v rfl 82 (.tmp 2) (.tmp 23) rfl _ rfl tytr A5.out hZl Y Yl Yo rfl ?_ | fail)
      have HS := A5.out.store Y (by rw [Yl, hZl])
      exact bodyPost_ret (v := .tuple #[.agg Y.toArray, .slice none 0 0]) (res_cell_tmp Try.results51 rfl (HS.loadVar tytr Yl) rfl) rfl ⟨setCells_below g2 (by rw [HG2.out]; exact Nat.le_refl _) _ _ _ B5.out, fun h => absurd rfl h, fun _ => by rw [HY.out]⟩
    · have db : ((d : Int) != 0) = true := bne_iff_ne.2 (by omega)
      rw [if_pos hd0]
      clear hd0
      go_enter Try.func51, Try.ntmps51
      go_upto_region 1 with fail
      rw [← e0, ← HG2.out]
      clear e0
      go_wp2_with fail
      refine (CH1.out _ HB.out).mono ?_
      rintro e w1 ⟨rfl, b1⟩
      have HA1 := Lib.hid (HA.out.below b1)
      have B1 := Lib.hid (below_both HB.out b1)
      obtain ⟨X, hX⟩ : ∃ X, X = trCells r false 0 0 (.slice P m pc) := ⟨_, rfl⟩
      obtain ⟨Xl, Xo⟩ := HXL.out false 0 0
      rw [← hX] at Xl Xo ⊢
      have HX := Lib.hid hX
      clear b1 hX
      go_upto_region 2 with (first | refine wpList_store_v rfl 82 (.tmp 4) (.tmp 10) rfl _ rfl tytr (ArrV.new _ _ Z) hZl X Xl Xo rfl ?_ | fail)
      obtain ⟨V4, e4⟩ : ∃ V, V = (w1.alloc (.cells Z.toArray 82)).setCells w1.heap.size 0 X := ⟨_, rfl⟩
      have hb4 : Below w1.heap.size w1 V4 := by rw [e4]; exact setCells_below _ (Nat.le_refl _) _ _ _ ((Below.refl _ _).alloc (Nat.le_refl _) _)
      have X4 : Hid (ArrV 82 V4 w1.heap.size X) := by
        show ArrV _ _ _ _
        rw [e4]
        exact (ArrV.new _ w1 Z).store X (by rw [Xl, hZl])
      rw [← e4]
      obtain ⟨g4, hg4⟩ : ∃ g, g = w1.heap.size := ⟨_, rfl⟩
      have hlt : g2 < g4 := by rw [hg4]; exact HA1.out.lt
      have A4 := Lib.hid (HA1.out.below hb4)
      have B4 := Lib.hid (below_both B1.out hb4)
      have HG4 : Hid (w.heap.size ≤ g4 ∧ g2 < g4) := ⟨by rw [hg4]; exact B1.out.size, hlt⟩
      rw [← hg4] at X4 ⊢
      clear e4 hb4 HA1 B1 hg4 hlt
      go_wp2_with fail
      refine (CP.out V4 g4 (by rw [← HX.out]; exact X4.out) (HR.out.below B4.out)).mono ?_
      rintro e w5 ⟨rfl, y5, b5⟩
      obtain ⟨Y, hY⟩ : ∃ Y, Y = trCells r r.has x y (.slice P m pc) := ⟨_, rfl⟩
      obtain ⟨Yl, Yo⟩ := HXL.out r.has x y
      rw [← hY] at y5 Yl Yo
      have Y5 := Lib.hid y5
      have HY := Lib.hid hY
      have A5 := Lib.hid (A4.out.belowB b5 HG4.out.2)
      have B5 := Lib.hid (B4.out.trans (b5.mono HG4.out.1))
      clear y5 hY b5 A4 B4 X4
      go_upto_region 6 with fail
      have A6 := Lib.hid (A5.out.alloc (.cells #[.int .i64 (d : Nat)] 26))
      have hnew : (w5.alloc (.cells #[.int .i64 (d : Nat)] 26)).heap[w5.heap.size]? = some (.cells #[.int .i64 (d : Nat)] 26 (0, 0)) := heap_alloc_new _ _
      have hne2 : w5.heap.size ≠ g2 := Nat.ne_of_gt A5.out.lt
      have HN : Hid (DefRead ((w5.alloc (.cells #[.int .i64 (d : Nat)] 26)).setCells g2 0 Z) (.slice (some ⟨w5.heap.size, 0, none⟩) 1 1) [d]) := def_at (t := 26) ((heap_setCells_far hne2 _ _ _).trans hnew)
      clear hnew hne2
      go_wp2_with (first | refine wpList_store_v rfl 82 (.tmp 2) (.tmp 20) rfl _ rfl tytr A6.out hZl Z hZl hZo rfl ?_ | fail)
      have HS := A6.out.store Z rfl
      exact bodyPost_ret (v := .tuple #[.agg Z.toArray, .slice (some ⟨w5.heap.size, 0, none⟩) 1 1]) (res_cell_tmp Try.results51 rfl (HS.loadVar tytr hZl) rfl) rfl ⟨setCells_below g2 (by rw [HG2.out]; exact Nat.le_refl _) _ _ _ (B5.out.alloc B5.out.size _), fun _ => ⟨_, rfl, HN.out⟩, fun h => by cases h⟩
  · rw [if_pos hD]
    have CH1 : Hid (∀ W, Below w.heap.size w W → Calls Try.prog 84 #[b] W fun e w' => ∃ A c, e = .returned (.tuple #[.agg Z.toArray, .slice A D.length c]) ∧ DefRead w' (.slice A D.length c) D ∧ Below W.heap.size W w') := fun W hW => (CH.out W hW).mono fun e w' h => by
      obtain ⟨h1, h2, _⟩ := h
      obtain ⟨v, rfl, hd⟩ := h2 hD
      obtain ⟨A, c, rfl, h4, h5⟩ := hd
      exact ⟨A, c, rfl, ⟨A, c, rfl, h4, h5⟩, h1⟩
    have hl0 : 0 < D.length := List.length_pos_iff.2 hD
    obtain ⟨q, hq⟩ : ∃ q, q = D.length := ⟨_, rfl⟩
    rw [← hq] at CH1 hl0
    have qI : (0 : Int) < (q : Int) := by omega
    have HND := Lib.hid hD
    clear hg2 hD hr hs hd hm hm2 hl0 CH hq hR hZ
    go_enter Try.func51, Try.ntmps51
    go_upto_region 1 with fail
    rw [← e0, ← HG2.out]
    clear e0
    go_wp2_with fail
    refine (CH1.out _ HB.out).mono ?_
    rintro e w1 ⟨A, c, rfl, d1, b1⟩
    have HA1 := Lib.hid (HA.out.below b1)
    have B1 := Lib.hid (below_both HB.out b1)
    have D1 := Lib.hid d1
    clear d1 b1
    go_upto_region 2 with (first | refine wpList_store_v rfl 82 (.tmp 4) (.tmp 10) rfl _ rfl tytr (ArrV.new _ _ Z) hZl Z hZl hZo rfl ?_ | fail)
    obtain ⟨V4, e4⟩ : ∃ V, V = (w1.alloc (.cells Z.toArray 82)).setCells w1.heap.size 0 Z := ⟨_, rfl⟩
    have hb4 : Below w1.heap.size w1 V4 := by rw [e4]; exact setCells_below _ (Nat.le_refl _) _ _ _ ((Below.refl _ _).alloc (Nat.le_refl _) _)
    rw [← e4]
    have A4 := Lib.hid (HA1.out.below hb4)
    have B4 := Lib.hid (below_both B1.out hb4)
    have D4 := Lib.hid (D1.out.below hb4)
    clear e4 hb4 HA1 B1 D1
    go_wp2_with (first | refine wpList_store_v rfl 82 (.tmp 2) (.tmp 15) rfl _ rfl tytr A4.out hZl Z hZl hZo rfl ?_ | fail)
    have HS := A4.out.store Z rfl
    exact bodyPost_ret (v := .tuple #[.agg Z.toArray, .slice A q c]) (res_cell_tmp Try.results51 rfl (HS.loadVar tytr hZl) rfl) rfl ⟨setCells_below g2 (by rw [HG2.out]; exact Nat.le_refl _) _ _ _ B4.out, fun _ => ⟨_, rfl, D4.out.again A4.out⟩, fun h => absurd h HND.out⟩
end Go.Proofs.Ytjpaicdbnadoeaa
