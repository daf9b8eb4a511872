/-
  The contracts of sixhead's Rest and All.
-/
import Derived.Test.YtmchclpkjjmocaaGreatSx1
import Derived.Test.YtmchclpkjjmocaaGreatEw4
namespace Go.Proofs.YtmchclpkjjmocaaGreat
open Go.RowKit
set_option linter.unusedVariables false

theorem sxread_any (A : Option Addr) (n c : Nat) (bs : List Nat) (w : World) (hn2 : n ≤ 140737488355328) (hc : n ≤ c) (hR : Row w A n bs) : Calls Tryz.prog 91 #[.slice A n c] w (SxReadIs n bs w) := by
  by_cases h : sxdef n bs = 0
  · exact sxread_ok A n c bs w hn2 hc hR h
  · exact sxread_bad A n c bs w hn2 hR h
theorem sxval_all (n : Nat) (bs : List Nat) (hl : bs.length = n) : (sxval n bs).length = 37 ∧ ∀ v ∈ sxval n bs, v.oneCell' = true := by
  unfold sxval
  split
  · rename_i h
    have h40 : 40 ≤ n := by
      unfold sxdef at h
      split at h
      · cases h
      · split at h
        · cases h
        · split at h
          · cases h
          · omega
    exact six_all _ (part_len hl (by omega)) (part_len hl (by omega))
  · exact sxZ_one
theorem six_stored (W : World) (X : List Value) (hX : X.length = 37) (hX1 : ∀ v ∈ X, v.oneCell' = true) :
    (storeCells ⟨W.heap.size, 0, none⟩ X).run Tryz.prog (W.alloc (.cells (Value.int .i64 0 :: Value.int .i64 0 :: Value.int .i64 0 :: Value.int .i64 0 :: Value.int .i64 0 :: Value.int .u8 0 :: Value.int .u8 0 :: Value.int .u8 0 :: Value.int .u8 0 :: Value.int .u8 0 :: Value.int .u8 0 :: Value.int .u8 0 :: Value.int .u8 0 :: Value.int .u8 0 :: Value.int .u8 0 :: Value.int .u8 0 :: Value.int .u8 0 :: Value.int .u8 0 :: Value.int .u8 0 :: Value.int .u8 0 :: Value.int .u8 0 :: Value.int .u8 0 :: Value.int .u8 0 :: Value.int .u8 0 :: Value.int .u8 0 :: Value.int .u8 0 :: Value.int .u8 0 :: Value.int .u8 0 :: Value.int .u8 0 :: Value.int .u8 0 :: Value.int .u8 0 :: Value.int .u8 0 :: Value.int .u8 0 :: Value.int .u8 0 :: Value.int .u8 0 :: Value.int .u8 0 :: Value.int .u8 0 :: [] : List Value).toArray 95)) = .ok () ((W.alloc (.cells (Value.int .i64 0 :: Value.int .i64 0 :: Value.int .i64 0 :: Value.int .i64 0 :: Value.int .i64 0 :: Value.int .u8 0 :: Value.int .u8 0 :: Value.int .u8 0 :: Value.int .u8 0 :: Value.int .u8 0 :: Value.int .u8 0 :: Value.int .u8 0 :: Value.int .u8 0 :: Value.int .u8 0 :: Value.int .u8 0 :: Value.int .u8 0 :: Value.int .u8 0 :: Value.int .u8 0 :: Value.int .u8 0 :: Value.int .u8 0 :: Value.int .u8 0 :: Value.int .u8 0 :: Value.int .u8 0 :: Value.int .u8 0 :: Value.int .u8 0 :: Value.int .u8 0 :: Value.int .u8 0 :: Value.int .u8 0 :: Value.int .u8 0 :: Value.int .u8 0 :: Value.int .u8 0 :: Value.int .u8 0 :: Value.int .u8 0 :: Value.int .u8 0 :: Value.int .u8 0 :: Value.int .u8 0 :: Value.int .u8 0 :: [] : List Value).toArray 95)).setCells W.heap.size 0 X) ∧
    ArrV 95 ((W.alloc (.cells (Value.int .i64 0 :: Value.int .i64 0 :: Value.int .i64 0 :: Value.int .i64 0 :: Value.int .i64 0 :: Value.int .u8 0 :: Value.int .u8 0 :: Value.int .u8 0 :: Value.int .u8 0 :: Value.int .u8 0 :: Value.int .u8 0 :: Value.int .u8 0 :: Value.int .u8 0 :: Value.int .u8 0 :: Value.int .u8 0 :: Value.int .u8 0 :: Value.int .u8 0 :: Value.int .u8 0 :: Value.int .u8 0 :: Value.int .u8 0 :: Value.int .u8 0 :: Value.int .u8 0 :: Value.int .u8 0 :: Value.int .u8 0 :: Value.int .u8 0 :: Value.int .u8 0 :: Value.int .u8 0 :: Value.int .u8 0 :: Value.int .u8 0 :: Value.int .u8 0 :: Value.int .u8 0 :: Value.int .u8 0 :: Value.int .u8 0 :: Value.int .u8 0 :: Value.int .u8 0 :: Value.int .u8 0 :: Value.int .u8 0 :: [] : List Value).toArray 95)).setCells W.heap.size 0 X) W.heap.size X ∧ Below W.heap.size W ((W.alloc (.cells (Value.int .i64 0 :: Value.int .i64 0 :: Value.int .i64 0 :: Value.int .i64 0 :: Value.int .i64 0 :: Value.int .u8 0 :: Value.int .u8 0 :: Value.int .u8 0 :: Value.int .u8 0 :: Value.int .u8 0 :: Value.int .u8 0 :: Value.int .u8 0 :: Value.int .u8 0 :: Value.int .u8 0 :: Value.int .u8 0 :: Value.int .u8 0 :: Value.int .u8 0 :: Value.int .u8 0 :: Value.int .u8 0 :: Value.int .u8 0 :: Value.int .u8 0 :: Value.int .u8 0 :: Value.int .u8 0 :: Value.int .u8 0 :: Value.int .u8 0 :: Value.int .u8 0 :: Value.int .u8 0 :: Value.int .u8 0 :: Value.int .u8 0 :: Value.int .u8 0 :: Value.int .u8 0 :: Value.int .u8 0 :: Value.int .u8 0 :: Value.int .u8 0 :: Value.int .u8 0 :: Value.int .u8 0 :: Value.int .u8 0 :: [] : List Value).toArray 95)).setCells W.heap.size 0 X) := by
  have h : ArrV 95 (W.alloc (.cells (Value.int .i64 0 :: Value.int .i64 0 :: Value.int .i64 0 :: Value.int .i64 0 :: Value.int .i64 0 :: Value.int .u8 0 :: Value.int .u8 0 :: Value.int .u8 0 :: Value.int .u8 0 :: Value.int .u8 0 :: Value.int .u8 0 :: Value.int .u8 0 :: Value.int .u8 0 :: Value.int .u8 0 :: Value.int .u8 0 :: Value.int .u8 0 :: Value.int .u8 0 :: Value.int .u8 0 :: Value.int .u8 0 :: Value.int .u8 0 :: Value.int .u8 0 :: Value.int .u8 0 :: Value.int .u8 0 :: Value.int .u8 0 :: Value.int .u8 0 :: Value.int .u8 0 :: Value.int .u8 0 :: Value.int .u8 0 :: Value.int .u8 0 :: Value.int .u8 0 :: Value.int .u8 0 :: Value.int .u8 0 :: Value.int .u8 0 :: Value.int .u8 0 :: Value.int .u8 0 :: Value.int .u8 0 :: Value.int .u8 0 :: [] : List Value).toArray 95)) W.heap.size sxZ := ArrV.new _ W sxZ
  exact ⟨h.stAll _ (by rw [hX]; rfl) hX1, h.store _ (by rw [hX]; rfl), setCells_below _ (Nat.le_refl _) _ _ _ ((Below.refl _ _).alloc (Nat.le_refl _) _)⟩
/-- How long what is behind the header is, and its protocol. -/
def sxPay (bs : List Nat) : Nat := sxN (be (bs.take 8)) 2
def sxNext (bs : List Nat) : Nat := sxN (be (bs.take 8)) 3
def sxrest (n : Nat) (bs : List Nat) : Option (List Nat) := if sxdef n bs = 0 ∧ 40 + sxPay bs ≤ n then some ((bs.drop 40).take (sxPay bs)) else none
def SxRestIs (r : Option (List Nat)) (w : World) (e : Ending) (w' : World) : Prop := ∃ v, e = .returned (.tuple #[v, .bool r.isSome]) ∧ ByteVal w' v (r.getD []) ∧ Below w.heap.size w w'
theorem sxval_two {n : Nat} {bs : List Nat} (h : sxdef n bs = 0) : (sxval n bs)[2]? = some (.int .i64 (sxPay bs : Nat)) ∧ (sxval n bs)[3]? = some (.int .i64 (sxNext bs : Nat)) := by
  unfold sxval
  rw [if_pos h]
  exact ⟨rfl, rfl⟩
theorem sxPay_le (bs : List Nat) : sxPay bs ≤ 65535 := by
  show be (bs.take 8) / 2 ^ 16 % 2 ^ 16 ≤ 65535
  have := Nat.mod_lt (be (bs.take 8) / 2 ^ 16) (show 0 < 2 ^ 16 by decide)
  omega
theorem six_world (W : World) (X : List Value) (V : World) (e : V = (W.alloc (.cells (Value.int .i64 0 :: Value.int .i64 0 :: Value.int .i64 0 :: Value.int .i64 0 :: Value.int .i64 0 :: Value.int .u8 0 :: Value.int .u8 0 :: Value.int .u8 0 :: Value.int .u8 0 :: Value.int .u8 0 :: Value.int .u8 0 :: Value.int .u8 0 :: Value.int .u8 0 :: Value.int .u8 0 :: Value.int .u8 0 :: Value.int .u8 0 :: Value.int .u8 0 :: Value.int .u8 0 :: Value.int .u8 0 :: Value.int .u8 0 :: Value.int .u8 0 :: Value.int .u8 0 :: Value.int .u8 0 :: Value.int .u8 0 :: Value.int .u8 0 :: Value.int .u8 0 :: Value.int .u8 0 :: Value.int .u8 0 :: Value.int .u8 0 :: Value.int .u8 0 :: Value.int .u8 0 :: Value.int .u8 0 :: Value.int .u8 0 :: Value.int .u8 0 :: Value.int .u8 0 :: Value.int .u8 0 :: Value.int .u8 0 :: [] : List Value).toArray 95)).setCells W.heap.size 0 X) (hA : ArrV 95 ((W.alloc (.cells (Value.int .i64 0 :: Value.int .i64 0 :: Value.int .i64 0 :: Value.int .i64 0 :: Value.int .i64 0 :: Value.int .u8 0 :: Value.int .u8 0 :: Value.int .u8 0 :: Value.int .u8 0 :: Value.int .u8 0 :: Value.int .u8 0 :: Value.int .u8 0 :: Value.int .u8 0 :: Value.int .u8 0 :: Value.int .u8 0 :: Value.int .u8 0 :: Value.int .u8 0 :: Value.int .u8 0 :: Value.int .u8 0 :: Value.int .u8 0 :: Value.int .u8 0 :: Value.int .u8 0 :: Value.int .u8 0 :: Value.int .u8 0 :: Value.int .u8 0 :: Value.int .u8 0 :: Value.int .u8 0 :: Value.int .u8 0 :: Value.int .u8 0 :: Value.int .u8 0 :: Value.int .u8 0 :: Value.int .u8 0 :: Value.int .u8 0 :: Value.int .u8 0 :: Value.int .u8 0 :: Value.int .u8 0 :: Value.int .u8 0 :: [] : List Value).toArray 95)).setCells W.heap.size 0 X) W.heap.size X) (hb : Below W.heap.size W ((W.alloc (.cells (Value.int .i64 0 :: Value.int .i64 0 :: Value.int .i64 0 :: Value.int .i64 0 :: Value.int .i64 0 :: Value.int .u8 0 :: Value.int .u8 0 :: Value.int .u8 0 :: Value.int .u8 0 :: Value.int .u8 0 :: Value.int .u8 0 :: Value.int .u8 0 :: Value.int .u8 0 :: Value.int .u8 0 :: Value.int .u8 0 :: Value.int .u8 0 :: Value.int .u8 0 :: Value.int .u8 0 :: Value.int .u8 0 :: Value.int .u8 0 :: Value.int .u8 0 :: Value.int .u8 0 :: Value.int .u8 0 :: Value.int .u8 0 :: Value.int .u8 0 :: Value.int .u8 0 :: Value.int .u8 0 :: Value.int .u8 0 :: Value.int .u8 0 :: Value.int .u8 0 :: Value.int .u8 0 :: Value.int .u8 0 :: Value.int .u8 0 :: Value.int .u8 0 :: Value.int .u8 0 :: Value.int .u8 0 :: Value.int .u8 0 :: [] : List Value).toArray 95)).setCells W.heap.size 0 X)) : ArrV 95 V W.heap.size X ∧ Below W.heap.size W V := by
  rw [e]
  exact ⟨hA, hb⟩
set_option maxRecDepth 10000 in
set_option maxHeartbeats 3200000 in
theorem sxrest_any (A : Option Addr) (n c : Nat) (bs : List Nat) (w : World) (hn2 : n ≤ 140737488355328) (hc : n ≤ c) (hR : Row w A n bs) :
    Calls Tryz.prog 92 #[.slice A n c] w (SxRestIs (sxrest n bs) w) := by
  have CR := Lib.hid (sxread_any A n c bs w hn2 hc hR)
  unfold SxReadIs at CR
  obtain ⟨hXl, hXo⟩ := sxval_all n bs hR.1
  have HV2 : Hid (sxdef n bs = 0 → (sxval n bs)[2]? = some (.int .i64 (sxPay bs : Nat))) := fun h => (sxval_two h).1
  obtain ⟨X, hX⟩ : ∃ X, X = sxval n bs := ⟨_, rfl⟩
  rw [← hX] at CR hXl hXo HV2
  have HP := sxPay_le bs
  have HRI : Hid (sxrest n bs = if sxdef n bs = 0 ∧ 40 + sxPay bs ≤ n then some ((bs.drop 40).take (sxPay bs)) else none) := rfl
  rw [HRI.out]
  clear HRI hX
  obtain ⟨P, hP⟩ : ∃ P, P = sxPay bs := ⟨_, rfl⟩
  rw [← hP] at HP HV2 ⊢
  by_cases h : sxdef n bs = 0
  · have hV2 := HV2.out h
    rw [h] at CR
    have HR := Lib.hid hR
    have HHV := Lib.hid hV2
    have HN := Lib.hid (And.intro hn2 hc)
    by_cases hP2 : 40 + P ≤ n
    · rw [if_pos ⟨h, hP2⟩]
      have CC : Hid (∀ w, Row w A n bs → Calls Tryz.prog 105 #[.slice A n c, .int .i64 40, .int .i64 (P : Nat)] w (CutTo w ((bs.drop 40).take P))) := fun w hR => cut_far A n c 40 P bs w hc hn2 hP2 hR
      unfold CutTo at CC
      obtain ⟨l, hl⟩ : ∃ l, l = (bs.drop 40).take P := ⟨_, rfl⟩
      have hlb : ∀ x ∈ l, x < 256 := fun x hx => by rw [hl] at hx; exact hR.2.1 x (List.mem_of_mem_drop (List.mem_of_mem_take hx))
      rw [← hl] at CC ⊢
      have HLB := Lib.hid hlb
      clear h HV2 hV2 hP2 hP hR hn2 hc hl hlb
      go_enter Tryz.func92, Tryz.ntmps92
      go_wp2_with fail
      refine CR.out.mono ?_
      rintro e w1 ⟨rfl, b1⟩
      obtain ⟨hst, hA, hb⟩ := six_stored w1 X hXl hXo
      go_upto_region 2 with fail
      clear hst
      obtain ⟨V, eV⟩ : ∃ V, V = (w1.alloc (.cells (Value.int .i64 0 :: Value.int .i64 0 :: Value.int .i64 0 :: Value.int .i64 0 :: Value.int .i64 0 :: Value.int .u8 0 :: Value.int .u8 0 :: Value.int .u8 0 :: Value.int .u8 0 :: Value.int .u8 0 :: Value.int .u8 0 :: Value.int .u8 0 :: Value.int .u8 0 :: Value.int .u8 0 :: Value.int .u8 0 :: Value.int .u8 0 :: Value.int .u8 0 :: Value.int .u8 0 :: Value.int .u8 0 :: Value.int .u8 0 :: Value.int .u8 0 :: Value.int .u8 0 :: Value.int .u8 0 :: Value.int .u8 0 :: Value.int .u8 0 :: Value.int .u8 0 :: Value.int .u8 0 :: Value.int .u8 0 :: Value.int .u8 0 :: Value.int .u8 0 :: Value.int .u8 0 :: Value.int .u8 0 :: Value.int .u8 0 :: Value.int .u8 0 :: Value.int .u8 0 :: Value.int .u8 0 :: Value.int .u8 0 :: [] : List Value).toArray 95)).setCells w1.heap.size 0 X := ⟨_, rfl⟩
      obtain ⟨hA2, hb2⟩ := six_world w1 X V eV hA hb
      have B1 := Lib.hid (below_both b1 hb2)
      have c2 := (hA2.get 2).trans HHV.out
      rw [← eV]
      clear eV hA hb b1 hb2 hA2
      obtain ⟨g, hg⟩ : ∃ g, g = w1.heap.size := ⟨_, rfl⟩
      rw [← hg] at c2 ⊢
      clear hg
      go_wp2_with fail
      refine (CC.out _ (HR.out.below B1.out)).mono ?_
      rintro e w2 ⟨rfl, ho, b2⟩
      have HO := Lib.hid ho
      have B2 := Lib.hid (below_both B1.out b2)
      clear ho b2 c2
      go_wp2_with fail
      go_ret2
      exact ⟨_, rfl, ⟨_, _, rfl, Nat.le_refl _, HO.out.row HLB.out⟩, B2.out⟩
    · rw [if_neg (fun e => hP2 e.2)]
      have CC : Hid (∀ w, Calls Tryz.prog 105 #[.slice A n c, .int .i64 40, .int .i64 (P : Nat)] w fun e w' => e = .returned (.tuple #[.slice none 0 0, .int .i64 2]) ∧ w = w') := fun w => cut_short A n c 40 (P : Nat) w (Nat.le_trans hn2 (by decide)) (by decide) (Int.natCast_nonneg P) (by omega)
      clear h HV2 hV2 hP2 hP hR hn2 hc
      go_enter Tryz.func92, Tryz.ntmps92
      go_wp2_with fail
      refine CR.out.mono ?_
      rintro e w1 ⟨rfl, b1⟩
      obtain ⟨hst, hA, hb⟩ := six_stored w1 X hXl hXo
      go_upto_region 2 with fail
      clear hst
      obtain ⟨V, eV⟩ : ∃ V, V = (w1.alloc (.cells (Value.int .i64 0 :: Value.int .i64 0 :: Value.int .i64 0 :: Value.int .i64 0 :: Value.int .i64 0 :: Value.int .u8 0 :: Value.int .u8 0 :: Value.int .u8 0 :: Value.int .u8 0 :: Value.int .u8 0 :: Value.int .u8 0 :: Value.int .u8 0 :: Value.int .u8 0 :: Value.int .u8 0 :: Value.int .u8 0 :: Value.int .u8 0 :: Value.int .u8 0 :: Value.int .u8 0 :: Value.int .u8 0 :: Value.int .u8 0 :: Value.int .u8 0 :: Value.int .u8 0 :: Value.int .u8 0 :: Value.int .u8 0 :: Value.int .u8 0 :: Value.int .u8 0 :: Value.int .u8 0 :: Value.int .u8 0 :: Value.int .u8 0 :: Value.int .u8 0 :: Value.int .u8 0 :: Value.int .u8 0 :: Value.int .u8 0 :: Value.int .u8 0 :: Value.int .u8 0 :: Value.int .u8 0 :: Value.int .u8 0 :: [] : List Value).toArray 95)).setCells w1.heap.size 0 X := ⟨_, rfl⟩
      obtain ⟨hA2, hb2⟩ := six_world w1 X V eV hA hb
      have B1 := Lib.hid (below_both b1 hb2)
      have c2 := (hA2.get 2).trans HHV.out
      rw [← eV]
      clear eV hA hb b1 hb2 hA2
      obtain ⟨g, hg⟩ : ∃ g, g = w1.heap.size := ⟨_, rfl⟩
      rw [← hg] at c2 ⊢
      clear hg
      go_wp2_with fail
      refine (CC.out _).mono ?_
      rintro e w2 ⟨rfl, rfl⟩
      go_wp2_with fail
      go_ret2
      exact ⟨_, rfl, ByteVal.nil _, B1.out⟩
  · rw [if_neg (fun e => h e.1)]
    obtain ⟨d, hd⟩ : ∃ d, d = sxdef n bs := ⟨_, rfl⟩
    rw [← hd] at CR h
    have d0 : ((d : Int) != 0) = true := bne_iff_ne.2 (by omega)
    clear h HV2 hP hR hn2 hc hd
    go_enter Tryz.func92, Tryz.ntmps92
    go_wp2_with fail
    refine CR.out.mono ?_
    rintro e w1 ⟨rfl, b1⟩
    obtain ⟨hst, hA, hb⟩ := six_stored w1 X hXl hXo
    go_upto_region 2 with fail
    clear hst
    obtain ⟨V, eV⟩ : ∃ V, V = (w1.alloc (.cells (Value.int .i64 0 :: Value.int .i64 0 :: Value.int .i64 0 :: Value.int .i64 0 :: Value.int .i64 0 :: Value.int .u8 0 :: Value.int .u8 0 :: Value.int .u8 0 :: Value.int .u8 0 :: Value.int .u8 0 :: Value.int .u8 0 :: Value.int .u8 0 :: Value.int .u8 0 :: Value.int .u8 0 :: Value.int .u8 0 :: Value.int .u8 0 :: Value.int .u8 0 :: Value.int .u8 0 :: Value.int .u8 0 :: Value.int .u8 0 :: Value.int .u8 0 :: Value.int .u8 0 :: Value.int .u8 0 :: Value.int .u8 0 :: Value.int .u8 0 :: Value.int .u8 0 :: Value.int .u8 0 :: Value.int .u8 0 :: Value.int .u8 0 :: Value.int .u8 0 :: Value.int .u8 0 :: Value.int .u8 0 :: Value.int .u8 0 :: Value.int .u8 0 :: Value.int .u8 0 :: Value.int .u8 0 :: Value.int .u8 0 :: [] : List Value).toArray 95)).setCells w1.heap.size 0 X := ⟨_, rfl⟩
    obtain ⟨hA2, hb2⟩ := six_world w1 X V eV hA hb
    have B1 := Lib.hid (below_both b1 hb2)
    rw [← eV]
    clear eV hA hb b1 hb2 hA2
    go_wp2_with fail
    go_ret2
    exact ⟨_, rfl, ByteVal.nil _, B1.out⟩
/-- All that is wrong with a packet's headers. -/
def sxall (n : Nat) (bs : List Nat) : List Nat := if sxdef n bs ≠ 0 then [sxdef n bs] else match sxrest n bs with
  | none => [7]
  | some r => (walkF r.length r 9 (Tour.start ((sxNext bs : Nat) : Int)) []).1.defects
def SxAllIs (L : List Nat) (w : World) (e : Ending) (w' : World) : Prop := ∃ v, e = .returned v ∧ DefRead w' v L ∧ Below w.heap.size w w'
theorem def_one (W : World) (d : Nat) : DefRead (W.alloc (.cells #[.int .i64 (d : Nat)] 24)) (.slice (some ⟨W.heap.size, 0, none⟩) 1 1) [d] := by
  refine ⟨_, 1, rfl, Nat.le_refl _, fun i x hx => ?_⟩
  match i, hx with
  | 0, hx =>
    simp at hx
    subst hx
    exact ⟨_, 0, rfl, by simp, new_cell W _ _ _ rfl⟩
theorem sx_told (t : Tour) : ∃ x0 x1 x2 x3 x4 : Int, t.told = [.int .i64 x0, .int .i64 x1, .int .i64 x2, .int .i64 x3, .int .i64 x4] := by
  unfold Tour.told
  split
  · exact ⟨_, _, _, _, _, rfl⟩
  · exact ⟨_, _, _, _, _, rfl⟩
theorem sxrest_len {n : Nat} {bs r : List Nat} (h : sxrest n bs = some r) : r.length ≤ 65535 ∧ sxdef n bs = 0 := by
  unfold sxrest at h
  split at h
  · rename_i h2
    injection h with h
    subst h
    exact ⟨by rw [List.length_take]; exact Nat.le_trans (Nat.min_le_left _ _) (sxPay_le bs), h2.1⟩
  · cases h
set_option maxRecDepth 10000 in
set_option maxHeartbeats 3200000 in
theorem sxall_any (A : Option Addr) (n c : Nat) (bs : List Nat) (w : World) (hn2 : n ≤ 140737488355328) (hc : n ≤ c) (hR : Row w A n bs) :
    Calls Tryz.prog 90 #[.slice A n c] w (SxAllIs (sxall n bs) w) := by
  have CR := Lib.hid (sxread_any A n c bs w hn2 hc hR)
  unfold SxReadIs at CR
  have CT := Lib.hid (fun w hR => sxrest_any A n c bs w hn2 hc hR)
  unfold SxRestIs at CT
  obtain ⟨hXl, hXo⟩ := sxval_all n bs hR.1
  have HV3 : Hid (sxdef n bs = 0 → (sxval n bs)[3]? = some (.int .i64 (sxNext bs : Nat))) := fun h => (sxval_two h).2
  obtain ⟨X, hX⟩ : ∃ X, X = sxval n bs := ⟨_, rfl⟩
  rw [← hX] at CR hXl hXo HV3
  have HR := Lib.hid hR
  clear hX
  by_cases h : sxdef n bs = 0
  · have hV3 := HV3.out h
    rw [h] at CR
    have HHV := Lib.hid hV3
    obtain ⟨nx, hnx⟩ : ∃ nx, nx = sxNext bs := ⟨_, rfl⟩
    rw [← hnx] at HHV
    cases hr : sxrest n bs with
    | none =>
      have hF : sxall n bs = [7] := by unfold sxall; rw [if_neg (fun e => e h), hr]
      rw [hF]
      rw [hr] at CT
      clear h HV3 hV3 hR hn2 hc hF hr hnx
      go_enter Tryz.func90, Tryz.ntmps90
      go_wp2_with fail
      refine CR.out.mono ?_
      rintro e w1 ⟨rfl, b1⟩
      obtain ⟨hst, hA, hb⟩ := six_stored w1 X hXl hXo
      go_upto_region 2 with fail
      clear hst
      obtain ⟨V, eV⟩ : ∃ V, V = (w1.alloc (.cells (Value.int .i64 0 :: Value.int .i64 0 :: Value.int .i64 0 :: Value.int .i64 0 :: Value.int .i64 0 :: Value.int .u8 0 :: Value.int .u8 0 :: Value.int .u8 0 :: Value.int .u8 0 :: Value.int .u8 0 :: Value.int .u8 0 :: Value.int .u8 0 :: Value.int .u8 0 :: Value.int .u8 0 :: Value.int .u8 0 :: Value.int .u8 0 :: Value.int .u8 0 :: Value.int .u8 0 :: Value.int .u8 0 :: Value.int .u8 0 :: Value.int .u8 0 :: Value.int .u8 0 :: Value.int .u8 0 :: Value.int .u8 0 :: Value.int .u8 0 :: Value.int .u8 0 :: Value.int .u8 0 :: Value.int .u8 0 :: Value.int .u8 0 :: Value.int .u8 0 :: Value.int .u8 0 :: Value.int .u8 0 :: Value.int .u8 0 :: Value.int .u8 0 :: Value.int .u8 0 :: Value.int .u8 0 :: Value.int .u8 0 :: [] : List Value).toArray 95)).setCells w1.heap.size 0 X := ⟨_, rfl⟩
      obtain ⟨hA2, hb2⟩ := six_world w1 X V eV hA hb
      have B1 := Lib.hid (below_both b1 hb2)
      rw [← eV]
      clear eV hA hb b1 hb2 hA2
      go_wp2_with fail
      refine (CT.out _ (HR.out.below B1.out)).mono ?_
      rintro e w2 ⟨v2, rfl, r2, b2⟩
      have B2 := Lib.hid (below_both B1.out b2)
      clear r2 b2
      go_wp2_with fail
      go_ret
      exact ⟨_, rfl, def_one w2 7, B2.out.alloc B2.out.size _⟩
    | some r =>
      have hF : sxall n bs = (walkF r.length r 9 (Tour.start ((nx : Nat) : Int)) []).1.defects := by unfold sxall; rw [if_neg (fun e => e h), hr, hnx]
      rw [hF]
      rw [hr] at CT
      have hrl := (sxrest_len hr).1
      have CG : Hid (∀ (A : Option Addr) (c : Nat) (w : World), r.length ≤ c → Row w A r.length r → Calls Tryz.prog 93 #[.int .i64 (nx : Nat), .slice A r.length c] w (GoIs w (walkF r.length r 9 (Tour.start ((nx : Nat) : Int)) []).1)) := fun A c w h1 h2 => exgo_tour (nx : Nat) A r.length c r w h1 (Nat.le_trans hrl (by decide)) h2
      obtain ⟨t, ht⟩ : ∃ t, t = (walkF r.length r 9 (Tour.start ((nx : Nat) : Int)) []).1 := ⟨_, rfl⟩
      rw [← ht] at CG ⊢
      unfold GoIs at CG
      obtain ⟨x0, x1, x2, x3, x4, hx⟩ := sx_told t
      rw [hx] at CG
      obtain ⟨D, hD⟩ : ∃ D, D = t.defects := ⟨_, rfl⟩
      rw [← hD] at CG ⊢
      clear h HV3 hV3 hR hn2 hc hF hr hnx ht hx hD hrl
      go_enter Tryz.func90, Tryz.ntmps90
      go_wp2_with fail
      refine CR.out.mono ?_
      rintro e w1 ⟨rfl, b1⟩
      obtain ⟨hst, hA, hb⟩ := six_stored w1 X hXl hXo
      go_upto_region 2 with fail
      clear hst
      obtain ⟨V, eV⟩ : ∃ V, V = (w1.alloc (.cells (Value.int .i64 0 :: Value.int .i64 0 :: Value.int .i64 0 :: Value.int .i64 0 :: Value.int .i64 0 :: Value.int .u8 0 :: Value.int .u8 0 :: Value.int .u8 0 :: Value.int .u8 0 :: Value.int .u8 0 :: Value.int .u8 0 :: Value.int .u8 0 :: Value.int .u8 0 :: Value.int .u8 0 :: Value.int .u8 0 :: Value.int .u8 0 :: Value.int .u8 0 :: Value.int .u8 0 :: Value.int .u8 0 :: Value.int .u8 0 :: Value.int .u8 0 :: Value.int .u8 0 :: Value.int .u8 0 :: Value.int .u8 0 :: Value.int .u8 0 :: Value.int .u8 0 :: Value.int .u8 0 :: Value.int .u8 0 :: Value.int .u8 0 :: Value.int .u8 0 :: Value.int .u8 0 :: Value.int .u8 0 :: Value.int .u8 0 :: Value.int .u8 0 :: Value.int .u8 0 :: Value.int .u8 0 :: Value.int .u8 0 :: [] : List Value).toArray 95)).setCells w1.heap.size 0 X := ⟨_, rfl⟩
      obtain ⟨hA2, hb2⟩ := six_world w1 X V eV hA hb
      have B1 := Lib.hid (below_both b1 hb2)
      have HA2 := Lib.hid hA2
      rw [← eV]
      clear eV hA hb b1 hb2 hA2
      obtain ⟨g, hg⟩ : ∃ g, g = w1.heap.size := ⟨_, rfl⟩
      rw [← hg] at HA2 ⊢
      clear hg
      go_wp2_with fail
      refine (CT.out _ (HR.out.below B1.out)).mono ?_
      rintro e w2 ⟨v2, rfl, ⟨A2, d2, rfl, hd2, hr2⟩, b2⟩
      have B2 := Lib.hid (below_both B1.out b2)
      have c3 := ((HA2.out.below b2).get 3).trans HHV.out
      have HR2 : Hid (Row w2 A2 r.length r) := hr2
      have HD2 : Hid (r.length ≤ d2) := hd2
      clear hd2 hr2 b2
      go_wp2_with fail
      refine (CG.out _ _ _ HD2.out HR2.out).mono ?_
      rintro e w3 ⟨v3, rfl, d3, b3⟩
      have D3 := Lib.hid d3
      have B3 := Lib.hid (below_both B2.out b3)
      clear d3 b3
      go_wp2_with fail
      go_ret
      exact ⟨_, rfl, D3.out.below ((Below.refl _ _).alloc (Nat.le_refl _) _), B3.out.alloc B3.out.size _⟩
  · obtain ⟨d, hd⟩ : ∃ d, d = sxdef n bs := ⟨_, rfl⟩
    have hF : sxall n bs = [d] := by unfold sxall; rw [if_pos h, hd]
    rw [hF]
    rw [← hd] at CR h
    have d0 : ((d : Int) != 0) = true := bne_iff_ne.2 (by omega)
    clear h HV3 hR hn2 hc hd hF
    go_enter Tryz.func90, Tryz.ntmps90
    go_wp2_with fail
    refine CR.out.mono ?_
    rintro e w1 ⟨rfl, b1⟩
    obtain ⟨hst, hA, hb⟩ := six_stored w1 X hXl hXo
    go_upto_region 2 with fail
    clear hst
    obtain ⟨V, eV⟩ : ∃ V, V = (w1.alloc (.cells (Value.int .i64 0 :: Value.int .i64 0 :: Value.int .i64 0 :: Value.int .i64 0 :: Value.int .i64 0 :: Value.int .u8 0 :: Value.int .u8 0 :: Value.int .u8 0 :: Value.int .u8 0 :: Value.int .u8 0 :: Value.int .u8 0 :: Value.int .u8 0 :: Value.int .u8 0 :: Value.int .u8 0 :: Value.int .u8 0 :: Value.int .u8 0 :: Value.int .u8 0 :: Value.int .u8 0 :: Value.int .u8 0 :: Value.int .u8 0 :: Value.int .u8 0 :: Value.int .u8 0 :: Value.int .u8 0 :: Value.int .u8 0 :: Value.int .u8 0 :: Value.int .u8 0 :: Value.int .u8 0 :: Value.int .u8 0 :: Value.int .u8 0 :: Value.int .u8 0 :: Value.int .u8 0 :: Value.int .u8 0 :: Value.int .u8 0 :: Value.int .u8 0 :: Value.int .u8 0 :: Value.int .u8 0 :: Value.int .u8 0 :: [] : List Value).toArray 95)).setCells w1.heap.size 0 X := ⟨_, rfl⟩
    obtain ⟨hA2, hb2⟩ := six_world w1 X V eV hA hb
    have B1 := Lib.hid (below_both b1 hb2)
    rw [← eV]
    clear eV hA hb b1 hb2 hA2
    go_wp2_with fail
    go_ret
    exact ⟨_, rfl, def_one V d, B1.out.alloc B1.out.size _⟩
end Go.Proofs.YtmchclpkjjmocaaGreat
