/-
  The contract of fourhead's option.
  The contract of fourhead's Options.
  The contract of what All notes with.
  The contract of fourhead's All.
-/
import Derived.Test.YtmchclpkjjmocaaGreatFh1
import Derived.Test.YtmchclpkjjmocaaGreatOct1
import Derived.Test.YtmchclpkjjmocaaGreatExts
import Derived.Test.YtmchclpkjjmocaaGreatOne1
namespace Go.Proofs.YtmchclpkjjmocaaGreat
open Go.RowKit
set_option linter.unusedVariables false

theorem res_cell_tmp2 {P : Program} {fn : Func} {p u u2 : Tmp} {ty : TypeId} {tmps : Array Value} {w : World} {a : Addr} {v x y : Value} (h : fn.results = #[.cell p ty, .tmp u, .tmp u2]) (hp : tmps.getD p undef = .pointer (some a))
    (hl : (Go.loadVar ty a).run P w = .ok v w) (hx : tmps.getD u undef = x) (hy : tmps.getD u2 undef = y) : (results fn tmps).run P w = .ok (.tuple #[v, x, y]) w := by
  subst hx hy
  simp only [results, h]
  have hq : tmps[p]?.getD undef = .pointer (some a) := by rw [← hp]; simp
  simp [Result.andThen, asAddr, hq, hl]
/-- The first option of some bytes: its kind, how many bytes it takes, and its body. -/
def optOne (l : List Nat) : Option (Nat × Nat × List Nat) :=
  if l.getD 0 0 = 1 then some (1, 1, []) else if l.length < 2 then none else if l.getD 1 0 < 2 ∨ l.length < l.getD 1 0 then none else some (l.getD 0 0, l.getD 1 0, (l.drop 2).take (l.getD 1 0 - 2))
/-- What option answers. -/
def OptIs (w : World) (r : Option (Nat × Nat × List Nat)) (e : Ending) (w' : World) : Prop :=
  Below w.heap.size w w' ∧ match r with
  | none => e = .returned (.tuple #[.agg #[.int .i64 0, .slice none 0 0], .int .i64 0, .bool false])
  | some (k, n, b) => ∃ bv, e = .returned (.tuple #[.agg #[.int .i64 (k : Nat), bv], .int .i64 (n : Nat), .bool true]) ∧ bv.oneCell' = true ∧ ∃ A c, bv = .slice A b.length c ∧ b.length ≤ c ∧ Row w' A b.length b ∧ ∀ ad, A = some ad → w.heap.size ≤ ad.block ∧ ad.block < w'.heap.size
theorem tyext : RowTy 112 2 := ⟨⟨_, Tryz.underlying112, rfl⟩, by kernel_rfl⟩
set_option maxRecDepth 10000 in
set_option maxHeartbeats 3200000 in
theorem fhoption_any (A : Option Addr) (n c : Nat) (l : List Nat) (w : World) (hn : 1 ≤ n) (hc : n ≤ c) (hc2 : n ≤ 140737488355328) (hR : Row w A n l) :
    Calls Tryz.prog 108 #[.slice A n c] w (OptIs w (optOne l)) := by
  obtain ⟨V, e0⟩ : ∃ V, V = w.alloc (.cells #[.int .i64 0, .slice none 0 0] 112) := ⟨_, rfl⟩
  have hA : ArrV 112 V w.heap.size [.int .i64 0, .slice none 0 0] := by rw [e0]; exact ArrV.new _ w _
  have hB : Below w.heap.size w V := by rw [e0]; exact (Below.refl _ _).alloc (Nat.le_refl _) _
  have HA := Lib.hid hA
  have HB := Lib.hid hB
  have hsz : w.heap.size < V.heap.size := hA.lt
  have hRV := hR.below hB
  obtain ⟨b, o, rfl, hb, hcell⟩ := hRV.addr (by omega)
  have c0 := hcell 0 (by omega)
  simp only [Nat.add_zero] at c0
  have hx := hR.byte 0
  have hl := hR.1
  have n0 : (0 : Int) < (n : Int) := by omega
  have HE0 := Lib.hid e0
  clear hA hB
  by_cases h1 : l.getD 0 0 = 1
  · have hO : optOne l = some (1, 1, []) := by unfold optOne; rw [if_pos h1]
    rw [hO]
    rw [h1] at c0
    have f0 := HA.out.frozen 0
    have f1 := HA.out.frozen 1
    have g0 := HA.out.get 0
    have g1 := HA.out.get 1
    simp at g0 g1
    clear hcell hRV hR hl h1 hO hx
    go_enter Tryz.func108, Tryz.ntmps108
    go_upto_region 1 with fail
    rw [← HE0.out]
    clear e0
    go_wp2_with fail
    exact bodyPost_ret (v := .tuple #[.agg #[.int .i64 1, .slice none 0 0], .int .i64 1, .bool true]) (res_cell_tmp2 Tryz.results108 rfl (((HA.out.set 0 (.int .i64 1)).set 1 (.slice none 0 0)).loadVar tyext rfl) rfl rfl) rfl
      ⟨(HB.out.setCell (p := ⟨w.heap.size, 0, none⟩) (Nat.le_refl _) _).setCell (p := ⟨w.heap.size, 1, none⟩) (Nat.le_refl _) _, .slice none 0 0, rfl, rfl, none, 0, rfl, Nat.le_refl _, Row.nil _ _, fun ad h => by cases h⟩
  have x1 : ((l.getD 0 0 : Int) == 1) = false := beq_false_of_ne (by omega)
  by_cases h2 : n < 2
  · have hO : optOne l = none := by unfold optOne; rw [if_neg h1, if_pos (by omega)]
    rw [hO]
    have f0 := HA.out.frozen 0
    have f1 := HA.out.frozen 1
    have g0 := HA.out.get 0
    have g1 := HA.out.get 1
    simp at g0 g1
    have n2 : (n : Int) < 2 := by omega
    generalize l.getD 0 0 = x at *
    clear hcell hRV hR hl h1 hO
    go_enter Tryz.func108, Tryz.ntmps108
    go_upto_region 1 with fail
    rw [← HE0.out]
    clear e0
    go_wp2_with fail
    exact bodyPost_ret (v := .tuple #[.agg #[.int .i64 0, .slice none 0 0], .int .i64 0, .bool false]) (res_cell_tmp2 Tryz.results108 rfl (((HA.out.set 0 (.int .i64 0)).set 1 (.slice none 0 0)).loadVar tyext rfl) rfl rfl) rfl
      ⟨(HB.out.setCell (p := ⟨w.heap.size, 0, none⟩) (Nat.le_refl _) _).setCell (p := ⟨w.heap.size, 1, none⟩) (Nat.le_refl _) _, rfl⟩
  have n2 : ¬ (n : Int) < 2 := by omega
  have c1 := hcell 1 (by omega)
  have hy := hR.byte 1
  have n1 : (1 : Int) < (n : Int) := by omega
  by_cases h3 : l.getD 1 0 < 2 ∨ n < l.getD 1 0
  · have hO : optOne l = none := by unfold optOne; rw [if_neg h1, if_neg (by omega), if_pos (by rw [hl]; exact h3)]
    rw [hO]
    have CC : Hid (∃ z : Int, (z != 0) = true ∧ ∀ w, Calls Tryz.prog 105 #[.slice (some ⟨b, o, none⟩) n c, .int .i64 2, .int .i64 ((l.getD 1 0 : Int) - 2)] w fun e w' => e = .returned (.tuple #[.slice none 0 0, .int .i64 z]) ∧ w = w') := by
      by_cases h4 : l.getD 1 0 < 2
      · exact ⟨1, by decide, fun w => cut_range _ n c 2 _ w (by omega)⟩
      · exact ⟨2, by decide, fun w => cut_short _ n c 2 _ w (by omega) (by decide) (by omega) (by omega)⟩
    obtain ⟨z, z0, CC⟩ := CC.out
    have CC := Lib.hid CC
    have f0 := HA.out.frozen 0
    have f1 := HA.out.frozen 1
    have g0 := HA.out.get 0
    have g1 := HA.out.get 1
    simp at g0 g1
    generalize l.getD 0 0 = x at *
    generalize l.getD 1 0 = y at *
    clear hcell hRV hR hl h1 h2 h3 hO
    go_enter Tryz.func108, Tryz.ntmps108
    go_upto_region 1 with fail
    rw [← HE0.out]
    clear e0
    go_wp2_with fail
    refine (CC.out _).mono ?_
    rintro e w' ⟨rfl, rfl⟩
    go_wp2_with fail
    exact bodyPost_ret (v := .tuple #[.agg #[.int .i64 0, .slice none 0 0], .int .i64 0, .bool false]) (res_cell_tmp2 Tryz.results108 rfl (((HA.out.set 0 (.int .i64 0)).set 1 (.slice none 0 0)).loadVar tyext rfl) rfl rfl) rfl
      ⟨(HB.out.setCell (p := ⟨w.heap.size, 0, none⟩) (Nat.le_refl _) _).setCell (p := ⟨w.heap.size, 1, none⟩) (Nat.le_refl _) _, rfl⟩
  · have hO : optOne l = some (l.getD 0 0, l.getD 1 0, (l.drop 2).take (l.getD 1 0 - 2)) := by unfold optOne; rw [if_neg h1, if_neg (by omega), if_neg (by rw [hl]; exact h3)]
    rw [hO]
    obtain ⟨t, ht⟩ : ∃ t, t = (l.drop 2).take (l.getD 1 0 - 2) := ⟨_, rfl⟩
    have CC : Hid (∀ w, Row w (some ⟨b, o, none⟩) n l → Calls Tryz.prog 105 #[.slice (some ⟨b, o, none⟩) n c, .int .i64 2, .int .i64 ((l.getD 1 0 : Int) - 2)] w (CutTo w t)) := fun w h => by
      have h5 := cut_far (some ⟨b, o, none⟩) n c 2 (l.getD 1 0 - 2) l w hc hc2 (by omega) h
      rw [← ht] at h5
      have e : ((l.getD 1 0 - 2 : Nat) : Int) = (l.getD 1 0 : Int) - 2 := by omega
      rw [e] at h5
      exact h5
    have HTB : Hid (∀ x ∈ t, x < 256) := fun x hx => by rw [ht] at hx; exact hR.2.1 x (List.mem_of_mem_drop (List.mem_of_mem_take hx))
    rw [← ht]
    have HRV := Lib.hid hRV
    generalize l.getD 0 0 = x at *
    generalize l.getD 1 0 = y at *
    clear hcell hRV hR hl h1 h2 h3 hO ht
    go_enter Tryz.func108, Tryz.ntmps108
    go_upto_region 1 with fail
    rw [← HE0.out]
    clear e0
    go_wp2_with fail
    refine (CC.out _ HRV.out).mono ?_
    rintro e w2 ⟨rfl, ho, hb2⟩
    have HA2 := Lib.hid (HA.out.below hb2)
    have HB2 := Lib.hid (HB.out.trans (hb2.mono (Nat.le_of_lt hsz)))
    have HO := Lib.hid ho
    have ho2 := ho.lt
    have hne : V.heap.size ≠ w.heap.size := by omega
    have f0 := HA2.out.frozen 0
    have f1 := HA2.out.frozen 1
    have g0 := HA2.out.get 0
    have g1 := HA2.out.get 1
    simp at g0 g1
    clear ho hb2 c0 c1
    go_wp2_with fail
    exact bodyPost_ret (v := .tuple #[.agg #[.int .i64 (x : Nat), .slice (some ⟨V.heap.size, 0, none⟩) t.length t.length], .int .i64 (y : Nat), .bool true]) (res_cell_tmp2 Tryz.results108 rfl (((HA2.out.set 0 (.int .i64 (x : Nat))).set 1 (.slice (some ⟨V.heap.size, 0, none⟩) t.length t.length)).loadVar tyext rfl) rfl rfl) rfl
      ⟨(HB2.out.setCell (p := ⟨w.heap.size, 0, none⟩) (Nat.le_refl _) _).setCell (p := ⟨w.heap.size, 1, none⟩) (Nat.le_refl _) _, _, rfl, rfl, _, _, rfl, Nat.le_refl _,
        Own.row (((heap_setCell_other _ _ _ _ hne).trans ((heap_setCell_other _ _ _ _ hne).trans HO.out))) HTB.out, fun ad h => by cases h; exact ⟨Nat.le_of_lt hsz, by simpa using ho2⟩⟩
end Go.Proofs.YtmchclpkjjmocaaGreat

namespace Go.Proofs.YtmchclpkjjmocaaGreat
open Go.RowKit
set_option linter.unusedVariables false

/-- The options with which some bytes begin, or none where one is wrong. -/
def optsF : Nat → List Nat → Option (List (Nat × List Nat))
  | 0, _ => some []
  | f + 1, l => if l.length = 0 ∨ l.getD 0 0 = 0 then some [] else match optOne l with
    | none => none
    | some (k, n, b) => (optsF f (l.drop n)).map fun M => (k, b) :: M
theorem optOne_bd {l : List Nat} {k n : Nat} {b : List Nat} (h0 : 0 < l.length) (h : optOne l = some (k, n, b)) : 1 ≤ n ∧ n ≤ l.length ∧ b.length ≤ l.length := by
  unfold optOne at h
  split at h
  · injection h with h; injection h with h1 h2; injection h2 with h2 h3
    subst h1 h2 h3
    exact ⟨by decide, h0, Nat.zero_le _⟩
  · split at h
    · cases h
    · split at h
      · cases h
      · injection h with h; injection h with h1 h2; injection h2 with h2 h3
        subst h1 h2 h3
        refine ⟨by omega, by omega, ?_⟩
        rw [List.length_take, List.length_drop]
        omega
theorem optsF_nil (f : Nat) : optsF f [] = some [] := by
  cases f <;> simp [optsF]
/-- What Options tells. -/
def fhopts (n : Nat) (bs : List Nat) : Option (List (Nat × List Nat)) := if fhdef n bs = 0 then optsF 60 ((bs.drop 20).take (4 * (bs.getD 0 0 % 16) - 20)) else none
def OptsIs (w : World) (r : Option (List (Nat × List Nat))) (e : Ending) (w' : World) : Prop :=
  Below w.heap.size w w' ∧ match r with
  | none => e = .returned (.tuple #[.slice none 0 0, .bool false])
  | some M => ∃ v, e = .returned (.tuple #[v, .bool true]) ∧ Exts w.heap.size w' v M
def sliceLen : Value → Nat
  | .slice _ m _ => m
  | _ => 0
/-- Where the loop stands: the options so far, and what is left of the bytes. -/
def OptsInv (w : World) (r : Option (List (Nat × List Nat))) (out rest : Value) (W : World) : Prop :=
  ∃ (L : List (Nat × List Nat)) (R : List Nat) (A : Option Addr) (m c f : Nat), Exts w.heap.size W out L ∧ rest = .slice A m c ∧ m ≤ c ∧ m ≤ 140737488355328 ∧ Row w A m R ∧ Below w.heap.size w W ∧ m ≤ f ∧ L.length + m ≤ 60 ∧ r = (optsF f R).map fun M => L ++ M
theorem row_from {w : World} {b o m c k : Nat} {R : List Nat} (h : Row w (some ⟨b, o, none⟩) m R) (hk : k ≤ m) (hc : m ≤ c) : Row w (if c = k then some ⟨b, o, none⟩ else some ⟨b, o + k, none⟩) (m - k) (R.drop k) := by
  split
  · have hmk : m = k := by omega
    subst hmk
    rw [Nat.sub_self, List.drop_of_length_le (by rw [h.1]; exact Nat.le_refl _)]
    exact Row.nil _ _
  · have hp := h.part k (m - k) (by omega)
    rw [List.take_of_length_le (by rw [List.length_drop, h.1]; exact Nat.le_refl _)] at hp
    exact hp
theorem row_piece {w : World} {b o m c k : Nat} {R : List Nat} (z : Nat) (h : Row w (some ⟨b, o, none⟩) m R) (hk : k ≤ z) (hz : z ≤ m) (hc : m ≤ c) : Row w (if c = k then some ⟨b, o, none⟩ else some ⟨b, o + k, none⟩) (z - k) ((R.drop k).take (z - k)) := by
  split
  · have hmk : z - k = 0 := by omega
    rw [hmk, List.take_zero]
    exact Row.nil _ _
  · exact h.part k (z - k) (by omega)
set_option maxRecDepth 10000 in
set_option maxHeartbeats 6400000 in
theorem fhoptions_any (A : Option Addr) (n c : Nat) (bs : List Nat) (w : World) (hc : n ≤ c) (hc2 : n ≤ 140737488355328) (hR : Row w A n bs) :
    Calls Tryz.prog 103 #[.slice A n c] w (OptsIs w (fhopts n bs)) := by
  have C := Lib.hid (fhread_any A n c bs w (by omega) hc hR)
  unfold ReadIs at C
  obtain ⟨X, hX⟩ : ∃ X, X = fhval n bs := ⟨_, rfl⟩
  have hXl : X.length = 17 := by rw [hX]; exact fhval_len n bs
  have hXo : ∀ v ∈ X, v.oneCell' = true := by rw [hX]; exact fhval_one n bs
  rw [← hX] at C
  clear hX
  by_cases h0 : fhdef n bs ≠ 0
  · have hF : fhopts n bs = none := by unfold fhopts; rw [if_neg h0]
    rw [hF]
    obtain ⟨d, hdd⟩ : ∃ d, d = fhdef n bs := ⟨_, rfl⟩
    rw [← hdd] at C h0
    have d0 : ((d : Int) != 0) = true := by simp; omega
    clear hdd hR hc2 hc h0 hF
    go_enter Tryz.func103, Tryz.ntmps103
    go_wp2_with fail
    refine C.out.mono ?_
    rintro e w1 ⟨rfl, b1⟩
    obtain ⟨hst, hA, hb⟩ := four_stored w1 X hXl hXo
    have B1 := Lib.hid (below_both b1 hb)
    clear b1 hA hb
    go_upto_region 2 with fail
    clear hst
    obtain ⟨W, eW⟩ : ∃ W, W = (w1.alloc (.cells #[.int .i64 0, .int .i64 0, .int .i64 0, .int .i64 0, .int .i64 0, .int .i64 0, .int .i64 0, .int .i64 0, .int .i64 0, .int .u8 0, .int .u8 0, .int .u8 0, .int .u8 0, .int .u8 0, .int .u8 0, .int .u8 0, .int .u8 0] 63)).setCells w1.heap.size 0 X := ⟨_, rfl⟩
    rw [← eW] at B1 ⊢
    clear eW
    go_wp2_with fail
    go_ret2
    exact ⟨B1.out, rfl⟩
  have h0 : fhdef n bs = 0 := Decidable.of_not_not h0
  rw [h0] at C
  have hm0 : n ≠ 0 ∧ ¬ n < 20 ∧ ¬ bs.getD 0 0 % 16 < 5 ∧ ¬ n < 4 * (bs.getD 0 0 % 16) := by
    have hd := h0
    unfold fhdef at hd
    split at hd
    · cases hd
    split at hd
    · cases hd
    split at hd
    · cases hd
    split at hd
    · cases hd
    split at hd
    · cases hd
    exact ⟨by assumption, by assumption, by assumption, by assumption⟩
  have hF : fhopts n bs = optsF 60 ((bs.drop 20).take (4 * (bs.getD 0 0 % 16) - 20)) := by unfold fhopts; rw [if_pos h0]
  rw [hF]
  have HSZ := Lib.hid (fun w hR => fhsize_any A n c bs w (by omega) (by omega) hR)
  obtain ⟨b, o, rfl, _, _⟩ := hR.addr (by omega)
  have m60 : 4 * (bs.getD 0 0 % 16) ≤ 60 := by omega
  obtain ⟨m, hm⟩ : ∃ m, 4 * (bs.getD 0 0 % 16) = m := ⟨_, rfl⟩
  rw [hm] at HSZ hm0 m60 ⊢
  obtain ⟨k0, k1, k2, k3⟩ := hm0
  have m20 : 20 ≤ m := by omega
  have hmn : m ≤ n := by omega
  have HP := Lib.hid (row_piece m hR m20 hmn hc)
  obtain ⟨R, hRR⟩ : ∃ R, R = (bs.drop 20).take (m - 20) := ⟨_, rfl⟩
  rw [← hRR] at HP ⊢
  obtain ⟨r, hr⟩ : ∃ r, r = optsF 60 R := ⟨_, rfl⟩
  rw [← hr]
  have HR := Lib.hid hR
  have HC := Lib.hid (And.intro hc hc2)
  have HMN := Lib.hid hmn
  have HM6 := Lib.hid m60
  have HR0 := Lib.hid hr
  have mI : (m : Int) ≤ (n : Int) := by omega
  have mcI : (m : Int) ≤ (c : Int) := by omega
  have m2I : (20 : Int) ≤ (m : Int) := by omega
  have c2I : (20 : Int) ≤ (c : Int) := by omega
  have sI : ((m : Int) - 20).toNat = m - 20 := by omega
  have sI2 : ((c : Int) - 20).toNat = c - 20 := by omega
  clear hm k0 k1 k2 k3 h0 hR hc hc2 m60 hF hRR hmn m20 hr
  go_enter Tryz.func103, Tryz.ntmps103
  go_wp2_with fail
  refine C.out.mono ?_
  rintro e w1 ⟨rfl, b1⟩
  obtain ⟨hst, hA, hb⟩ := four_stored w1 X hXl hXo
  have B1 := Lib.hid (below_both b1 hb)
  clear b1 hA hb
  go_upto_region 2 with fail
  clear hst
  obtain ⟨W, eW⟩ : ∃ W, W = (w1.alloc (.cells #[.int .i64 0, .int .i64 0, .int .i64 0, .int .i64 0, .int .i64 0, .int .i64 0, .int .i64 0, .int .i64 0, .int .i64 0, .int .u8 0, .int .u8 0, .int .u8 0, .int .u8 0, .int .u8 0, .int .u8 0, .int .u8 0, .int .u8 0] 63)).setCells w1.heap.size 0 X := ⟨_, rfl⟩
  rw [← eW] at B1 ⊢
  clear eW
  go_wp2_with fail
  refine (HSZ.out _ (HR.out.below B1.out)).mono ?_
  rintro e w' ⟨rfl, rfl⟩
  go_wp2_with fail
  all_goals
    first | rw [if_pos ‹c = 20›] at HP | rw [if_neg ‹¬ c = 20›] at HP
    have HS : Hid (OptsInv w r (.slice none 0 0) (.slice _ (m - 20) (c - 20)) W) := ⟨[], R, _, m - 20, c - 20, 60, Exts.nil _ _, rfl, by have := HC.out; have := HMN.out; omega, by have := HC.out; omega, HP.out, B1.out, by have := HM6.out; omega, by have := HM6.out; simp; omega, by rw [HR0.out]; simp⟩
    go_loopw [6, 7] (fun out rest V => OptsInv w r out rest V) (fun out rest V => sliceLen rest)
    case atStart =>
      first
        | exact HS.out
        | (have h20 : m - 20 = 0 := by have := HC.out; have := HMN.out; omega
           refine ⟨[], R, _, m - 20, 0, 60, Exts.nil _ _, rfl, by omega, by omega, HP.out, B1.out, by omega, by simp; omega, by rw [HR0.out]; simp⟩)
        | fail
    case round =>
      clear HS
      obtain ⟨L, R, A, m1, c1, f, hE, rfl, h1, h2, hRw, hW, h3, h4, hr⟩ := hrel
      have HE := Lib.hid hE
      have HW := Lib.hid hW
      by_cases hz : m1 = 0
      · have e : r = some L := by
          obtain rfl : R = [] := List.eq_nil_of_length_eq_zero (by rw [hRw.1, hz])
          rw [hr, optsF_nil]
          simp
        subst hz
        subst e
        clear hr h1 h2 h3 h4 hRw hE hW
        go_wp2_with fail
        go_ret2
        exact ⟨HW.out, _, rfl, HE.out⟩
      · obtain ⟨b2, o2, rfl, hb2, hcell⟩ := (hRw.below hW).addr (by omega)
        have c0 := hcell 0 (by omega)
        simp only [Nat.add_zero] at c0
        have mp : (0 : Int) < (m1 : Int) := by omega
        clear hcell
        by_cases hx : R.getD 0 0 = 0
        · have e : r = some L := by
            obtain ⟨f2, rfl⟩ : ∃ f2, f = f2 + 1 := ⟨f - 1, by omega⟩
            rw [hr, optsF, if_pos (.inr hx)]
            simp
          rw [hx] at c0
          subst e
          clear hr h1 h2 h3 h4 hRw hE hW hx hb2
          go_wp2_with fail
          go_ret2
          exact ⟨HW.out, _, rfl, HE.out⟩
        · have CO := Lib.hid (fhoption_any (some ⟨b2, o2, none⟩) m1 c1 R _ (by omega) h1 h2 (hRw.below hW))
          obtain ⟨f2, rfl⟩ : ∃ f2, f = f2 + 1 := ⟨f - 1, by omega⟩
          have x0 : ((R.getD 0 0 : Int) != 0) = true := bne_iff_ne.2 (by omega)
          have hRl := hRw.1
          rw [optsF, if_neg (by omega)] at hr
          cases hO : optOne R with
          | none =>
            rw [hO] at hr CO
            have e : r = none := hr
            subst e
            generalize R.getD 0 0 = x at *
            clear hr h1 h2 h3 h4 hRw hE hx hb2 hO hRl hW
            go_wp2_with fail
            refine CO.out.mono ?_
            rintro e w2 ⟨b2, rfl⟩
            have HW2 := Lib.hid (below_both HW.out b2)
            clear b2
            have h9 := new_cell w2 (.int .i64 0) 112 w2.heap.size rfl
            go_wp2_with fail
            go_ret2
            exact ⟨HW2.out.alloc HW2.out.size _, rfl⟩
          | some q =>
            obtain ⟨k, nn, bb⟩ := q
            rw [hO] at hr CO
            obtain ⟨q1, q2, q3⟩ := optOne_bd (by omega) hO
            obtain ⟨M', hM'⟩ : ∃ M', M' = optsF f2 (R.drop nn) := ⟨_, rfl⟩
            have hr2 : r = (optsF f2 (R.drop nn)).map fun M => (L ++ [(k, bb)]) ++ M := by
              rw [hr]
              show ((optsF f2 (R.drop nn)).map fun M => (k, bb) :: M).map (fun M => L ++ M) = _
              rw [Option.map_map]
              congr 1
              funext M
              simp
            have HP2 := Lib.hid (row_from hRw (k := nn) (by omega) h1)
            have HN := Lib.hid (And.intro q1 (And.intro (hRl ▸ q2) (And.intro h3 (And.intro h4 (And.intro h1 h2)))))
            have HR2 := Lib.hid hr2
            have nI : (nn : Int) ≤ (m1 : Int) := by omega
            have ncI : (nn : Int) ≤ (c1 : Int) := by omega
            have s1 : ((m1 : Int) - (nn : Int)).toNat = m1 - nn := by omega
            have s2 : ((c1 : Int) - (nn : Int)).toNat = c1 - nn := by omega
            generalize R.getD 0 0 = x at *
            clear hr h1 h2 h3 h4 hRw hE hx hb2 hO hRl hW hr2 q1 q2 q3 hM' M'
            go_wp2_with fail
            refine CO.out.mono ?_
            rintro e w2 ⟨b2, bv, rfl, hone, A2, c2, rfl, hc2, hrw2, had⟩
            have HW2 := Lib.hid (below_both HW.out b2)
            have HE2 := Lib.hid (HE.out.below b2)
            have HBD : Hid (BodyAt w2 u6.ownBlock (.slice A2 bb.length c2) bb) := ⟨A2, c2, rfl, hc2, hrw2, fun ad h => ⟨fun e => by
              have h7 := (HE.out.lt _ e).2
              have h8 := (had ad h).1
              omega, (had ad h).2⟩⟩
            have hl6 : Hid (L.length ≤ 1000000) := by show L.length ≤ 1000000; have := HN.out; omega
            clear b2 hrw2 had hc2
            go_upto_region 10 with fail
            obtain ⟨bv, hbv⟩ : ∃ bv, bv = Value.slice A2 bb.length c2 := ⟨_, rfl⟩
            rw [← hbv] at HBD hone ⊢
            clear hbv
            obtain ⟨W3, eW3⟩ : ∃ W3, W3 = w2.alloc (.cells #[.int .i64 (k : Nat), bv] 112) := ⟨_, rfl⟩
            have hA3 : ArrV 112 W3 w2.heap.size [.int .i64 (k : Nat), bv] := by rw [eW3]; exact ArrV.new _ w2 _
            have hB3 : Below w2.heap.size w2 W3 := by rw [eW3]; exact (Below.refl _ _).alloc (Nat.le_refl _) _
            have d0 := hA3.get 0
            have d1 := hA3.get 1
            simp at d0 d1
            have HW3 := Lib.hid (below_both HW2.out hB3)
            have HE3 := Lib.hid (HE2.out.below hB3)
            have HBD3 := Lib.hid (HBD.out.below hB3)
            rw [← eW3]
            have HON := Lib.hid hone
            clear eW3 hA3 hB3 hone
            go_wp2_with (at_builtin; refine wpList_append_ext (B := w.heap.size) (W := w) (wr := W3) rfl (.tmp 39) (.tmp 41) rfl rfl rfl HE3.out HBD3.out HON.out HW3.out HW3.out.size hl6.out ?_; intro v6 w6 ho6 hb6; have O6 := Lib.hid ho6; have B6 := Lib.hid hb6; clear ho6 hb6)
            all_goals
              go_roundw
              case rel =>
                exact ⟨L ++ [(k, bb)], R.drop nn, _, m1 - nn, c1 - nn, f2, O6.out, rfl, by have := HN.out; omega, by have := HN.out; omega, HP2.out, B6.out, by have := HN.out; omega, by have := HN.out; simp; omega, HR2.out⟩
              case measure =>
                have := HN.out
                simp [sliceLen]
                omega
end Go.Proofs.YtmchclpkjjmocaaGreat

namespace Go.Proofs.YtmchclpkjjmocaaGreat
open Go.RowKit
set_option linter.unusedVariables false

theorem ownsRow_other {B : Nat} {w : World} {e : TypeId} {s : Nat} {v : Value} {n : Nat} {xs : List Value} (h : w.ownsRow B e s v n xs) (p : Addr) (u : Value) (hp : p.block < B) : (w.setCell p u).ownsRow B e s v n xs := by
  refine ⟨h.1, ?_⟩
  rcases h.2 with h2 | ⟨g, cap, cur, hv, hg, hh, r⟩
  · exact .inl h2
  · exact .inr ⟨g, cap, cur, hv, hg, (heap_setCell_other w p g u (by omega)).trans hh, r⟩
/-- Where the notes stand: the variable that holds them, the header's fields beside, and nothing that was there has changed. -/
structure NoteSt (B g gf : Nat) (W0 : World) (X : List Value) (L : List Nat) (w : World) : Prop where
  box : ∃ v, ArrV 56 w g [v] ∧ Defs B w v L
  fv : ArrV 63 w gf X
  below : Below W0.heap.size W0 w
  gB : g < B
  fB : gf < B
  gf : g ≠ gf
  g0 : W0.heap.size ≤ g
  Bw : B ≤ w.heap.size
  len : L.length ≤ 1000
set_option maxRecDepth 10000 in
set_option maxHeartbeats 3200000 in
theorem fhnote_any (B g gf d : Nat) (W0 : World) (X : List Value) (L : List Nat) (b : Bool) (w : World) (hN : NoteSt B g gf W0 X L w) (hL : L.length < 1000) :
    Calls Tryz.prog 102 #[.int .i64 d, .bool b, .pointer (some ⟨g, 0, none⟩)] w fun e w' => (∃ r, e = .returned r) ∧ NoteSt B g gf W0 X (L ++ if b then [d] else []) w' := by
  cases b with
  | false =>
    go_enter Tryz.func102, Tryz.ntmps102
    go_wp2_with fail
    go_end0
    exact ⟨⟨_, rfl⟩, by simpa using hN⟩
  | true =>
    have HN := Lib.hid hN
    obtain ⟨v, hA, hD⟩ := hN.box
    have c0 := hA.get 0
    simp at c0
    have HA := Lib.hid hA
    have HD := Lib.hid hD
    have HL := Lib.hid hL
    clear hA hD hN hL
    go_enter Tryz.func102, Tryz.ntmps102
    go_wp2_with (at_builtin; refine wpList_append_def (B := B) (W := w) (wr := w) rfl (.tmp 6) (.tmp 8) rfl rfl rfl HD.out (Below.refl _ _) HN.out.Bw (by have := HL.out; omega) ?_; intro v6 w6 ho6 hb6 hs6; obtain ⟨A9, c9, rfl, _, _⟩ := ho6.slice; have O6 := Lib.hid ho6; have B6 := Lib.hid hb6; have A6 := HA.out.belowB hb6 HN.out.gB; have c6 := A6.get 0; have f6 := A6.frozen 0; simp at c6; have A6 := Lib.hid A6; have s6 := Lib.hid hs6; clear ho6 hb6 hs6)
    go_end0
    have e : (L ++ [d]).length = L.length + 1 := by simp
    have ho := O6.out
    rw [e] at ho
    have h := HN.out
    have hlen : (L ++ [d]).length ≤ 1000 := by have := HL.out; omega
    exact ⟨⟨_, rfl⟩, ⟨_, by simpa using A6.out.set 0 (.slice A9 (L.length + 1) c9), ownsRow_other ho _ _ h.gB⟩, (h.fv.belowB B6.out h.fB).other _ _ h.gf, (h.below.trans (B6.out.mono (Nat.le_trans h.g0 (Nat.le_of_lt h.gB)))).setCell (p := ⟨g, 0, none⟩) h.g0 _, h.gB, h.fB, h.gf, h.g0, by
      have h1 := s6.out
      have h2 := h.Bw
      simp
      omega, hlen⟩
end Go.Proofs.YtmchclpkjjmocaaGreat

namespace Go.Proofs.YtmchclpkjjmocaaGreat
open Go.RowKit
set_option linter.unusedVariables false

/-- What All tells of a header that Read tells: its length is m. -/
def fhbad (n m : Nat) (bs : List Nat) (opt good : Bool) : List Nat :=
  (if decide (fhw bs 2 < m) then [6] else []) ++ (if decide (n < fhw bs 2) then [7] else []) ++ (if !opt then [8] else []) ++ (if !good then [9] else []) ++ (if decide (m ≤ fhw bs 2 ∧ 65535 < 8 * (fhw bs 6 % 8192) + fhw bs 2 - m) then [14] else [])
def fhall (n : Nat) (bs : List Nat) : List Nat :=
  if fhdef n bs = 0 then fhbad n (4 * (bs.getD 0 0 % 16)) bs (fhopts n bs).isSome (decide (orest (wsum 0 (bs.take (4 * (bs.getD 0 0 % 16)))) = 65535)) else [fhdef n bs]
theorem fhdef_pos {n : Nat} {bs : List Nat} (h : fhdef n bs = 0) : 1 ≤ n := by
  unfold fhdef at h
  split at h
  · cases h
  · omega
theorem opts_two {w : World} {r : Option (List (Nat × List Nat))} {e : Ending} {w' : World} (h : OptsIs w r e w') : ∃ v, e = .returned (.tuple #[v, .bool r.isSome]) ∧ Below w.heap.size w w' := by
  obtain ⟨hb, h⟩ := h
  cases r with
  | none => exact ⟨_, h, hb⟩
  | some M =>
    obtain ⟨v, e, _⟩ := h
    exact ⟨v, e, hb⟩
theorem NoteSt.keep {B g gf : Nat} {W0 : World} {X : List Value} {L : List Nat} {u u' : World} (h : NoteSt B g gf W0 X L u) (hb : Below u.heap.size u u') : NoteSt B g gf W0 X L u' := by
  obtain ⟨v, hv, hd⟩ := h.box
  exact ⟨⟨v, hv.below hb, hd.below hb⟩, h.fv.below hb, h.below.trans (hb.mono h.below.size), h.gB, h.fB, h.gf, h.g0, Nat.le_trans h.Bw hb.size, h.len⟩
theorem NoteSt.drewN {B g gf : Nat} {W0 : World} {X : List Value} {L : List Nat} {u : World} (h : NoteSt B g gf W0 X L u) (k : Nat) : NoteSt B g gf W0 X L (u.drewN k) :=
  ⟨h.box, h.fv, below_drewN' h.below k, h.gB, h.fB, h.gf, h.g0, h.Bw, h.len⟩
def AllIs (w : World) (l : List Nat) (e : Ending) (w' : World) : Prop := ∃ v, e = .returned v ∧ DefRead w' v l ∧ Below w.heap.size w w'
theorem fhbad_len (n m : Nat) (bs : List Nat) (a b : Bool) : (fhbad n m bs a b).length ≤ 5 := by
  unfold fhbad
  simp only [List.length_append]
  have h : ∀ (c : Bool) (x : Nat), (if c then [x] else []).length ≤ 1 := by intro c x; cases c <;> simp
  have h1 := h (decide (fhw bs 2 < m)) 6
  have h2 := h (decide (n < fhw bs 2)) 7
  have h3 := h (!a) 8
  have h4 := h (!b) 9
  have h5 := h (decide (m ≤ fhw bs 2 ∧ 65535 < 8 * (fhw bs 6 % 8192) + fhw bs 2 - m)) 14
  omega
set_option maxRecDepth 10000 in
set_option maxHeartbeats 6400000 in
theorem fhall_ok (A : Option Addr) (n c : Nat) (bs : List Nat) (w : World) (hc : n ≤ c) (hc2 : n ≤ 140737488355328) (hR : Row w A n bs) (hd : fhdef n bs = 0) :
    Calls Tryz.prog 89 #[.slice A n c] w (AllIs w (fhall n bs)) := by
  have C := Lib.hid (fhread_any A n c bs w (by omega) hc hR)
  unfold ReadIs at C
  obtain ⟨X, hX⟩ : ∃ X, X = fhval n bs := ⟨_, rfl⟩
  have hXl : X.length = 17 := by rw [hX]; exact fhval_len n bs
  have hXo : ∀ v ∈ X, v.oneCell' = true := by rw [hX]; exact fhval_one n bs
  have hXf : X = fhf bs := by rw [hX]; unfold fhval; rw [if_pos hd]
  rw [← hX, hd] at C
  clear hX
  have hF : fhall n bs = fhbad n (4 * (bs.getD 0 0 % 16)) bs (fhopts n bs).isSome (decide (orest (wsum 0 (bs.take (4 * (bs.getD 0 0 % 16)))) = 65535)) := by unfold fhall; rw [if_pos hd]
  rw [hF]
  have CO := Lib.hid (fun w hR => fhoptions_any A n c bs w hc hc2 hR)
  have HSZ := Lib.hid (fun w hR => fhsize_any A n c bs w (fhdef_pos hd) (by omega) hR)
  obtain ⟨m, hm⟩ : ∃ m, 4 * (bs.getD 0 0 % 16) = m := ⟨_, rfl⟩
  have hm60 : m ≤ 60 := by omega
  have hmn : 20 ≤ m ∧ m ≤ n := by
    rw [← hm]
    unfold fhdef at hd
    split at hd
    · cases hd
    split at hd
    · cases hd
    split at hd
    · cases hd
    split at hd
    · cases hd
    split at hd
    · cases hd
    omega
  rw [hm] at HSZ ⊢
  obtain ⟨b, o, rfl, _, _⟩ := hR.addr (by omega)
  obtain ⟨good, hgood⟩ : ∃ good, decide (orest (wsum 0 (bs.take m)) = 65535) = good := ⟨_, rfl⟩
  have CG : Hid (∀ w, Row w (some ⟨b, o, none⟩) n bs → Calls Tryz.prog 104 #[.slice (some ⟨b, o, none⟩) m c] w fun e w' => e = .returned (.bool good) ∧ Below w.heap.size w w') := fun w h => by
    have hp := h.part 0 m (by omega)
    rw [List.drop_zero, Nat.add_zero] at hp
    exact ogood_any (some ⟨b, o, none⟩) m c (bs.take m) good w (by omega) hp hgood
  rw [hgood]
  obtain ⟨os, hos⟩ : ∃ os, os = (fhopts n bs).isSome := ⟨_, rfl⟩
  have CO : Hid (∀ w, Row w (some ⟨b, o, none⟩) n bs → Calls Tryz.prog 103 #[.slice (some ⟨b, o, none⟩) n c] w fun e w' => ∃ v, e = .returned (.tuple #[v, .bool os]) ∧ Below w.heap.size w w') := fun w h => by
    rw [hos]
    exact (CO.out w h).mono fun _ _ h => opts_two h
  rw [← hos]
  have X0 : Hid (X[2]? = some (.int .i64 (fhw bs 2 : Nat)) ∧ X[5]? = some (.int .i64 (fhw bs 6 % 8192 : Nat))) := by rw [hXf]; exact ⟨rfl, rfl⟩
  have ht := fhw_lt hR.byte 2
  have ho : fhw bs 6 % 8192 < 8192 := Nat.mod_lt _ (by decide)
  have HFB : Hid (∀ x, fhbad n m bs x good = (if decide (fhw bs 2 < m) then [6] else []) ++ (if decide (n < fhw bs 2) then [7] else []) ++ (if !x then [8] else []) ++ (if !good then [9] else []) ++ (if decide (m ≤ fhw bs 2 ∧ 65535 < 8 * (fhw bs 6 % 8192) + fhw bs 2 - m) then [14] else [])) := fun x => rfl
  have HR := Lib.hid hR
  obtain ⟨F, hFF⟩ : ∃ F, F = fhbad n m bs os good := ⟨_, rfl⟩
  rw [← hFF]
  rw [HFB.out] at hFF
  generalize fhw bs 6 % 8192 = q at *
  generalize fhw bs 2 = t at *
  have HFF := Lib.hid hFF
  have mI : (m : Int) ≤ (n : Int) := by omega
  have mcI : (m : Int) ≤ (c : Int) := by omega
  have mc : m ≤ c := by omega
  have m60 : (m : Int) ≤ 60 := by omega
  have m0 : (0 : Int) ≤ (m : Int) := by omega
  have t16 : (t : Int) < 65536 := by omega
  have t0 : (0 : Int) ≤ (t : Int) := by omega
  have q13 : (q : Int) < 8192 := by omega
  have q0 : (0 : Int) ≤ (q : Int) := by omega
  have HN := Lib.hid (And.intro hc (And.intro hc2 (And.intro hm60 hmn)))
  clear hF hm hm60 hmn hgood hos hXf HFB hFF hR hc hc2 hd ht ho
  go_enter Tryz.func89, Tryz.ntmps89
  go_wp2_with fail
  refine C.out.mono ?_
  rintro e w1 ⟨rfl, b1⟩
  obtain ⟨hst, hA, hb⟩ := four_stored w1 X hXl hXo
  have B1 := Lib.hid (below_both b1 hb)
  have W1 : Hid (w.heap.size ≤ w1.heap.size) := b1.size
  have A1 := Lib.hid hA
  clear b1 hA hb
  go_upto_region 2 with fail
  clear hst
  obtain ⟨W, eW⟩ : ∃ W, W = (w1.alloc (.cells #[.int .i64 0, .int .i64 0, .int .i64 0, .int .i64 0, .int .i64 0, .int .i64 0, .int .i64 0, .int .i64 0, .int .i64 0, .int .u8 0, .int .u8 0, .int .u8 0, .int .u8 0, .int .u8 0, .int .u8 0, .int .u8 0, .int .u8 0] 63)).setCells w1.heap.size 0 X := ⟨_, rfl⟩
  rw [← eW] at B1 A1 ⊢
  clear eW
  generalize w1.heap.size = gf at *
  have hmf : ∀ (fn : Fn) (first cap : Array Value) (w : World), (Instr.makeFunc fn first cap).run Tryz.prog w = .ok (.func fn first cap) w := fun _ _ _ _ => rfl
  go_upto_region 6 with fail
  obtain ⟨g, hg⟩ : ∃ g, g = W.heap.size := ⟨_, rfl⟩
  obtain ⟨V, eV⟩ : ∃ V, V = W.alloc (.cells #[.slice none 0 0] 56) := ⟨_, rfl⟩
  have hbv : Below W.heap.size W V := by rw [eV]; exact (Below.refl _ _).alloc (Nat.le_refl _) _
  have hav : ArrV 56 V g [.slice none 0 0] := by rw [eV, hg]; exact ArrV.new _ W _
  have NV : Hid (NoteSt V.heap.size g gf w X [] V) := ⟨⟨_, hav, Defs.nil _ _⟩, A1.out.below hbv, below_both B1.out hbv, hav.lt, (A1.out.below hbv).lt, by have := A1.out.lt; omega, by rw [hg]; exact B1.out.size, Nat.le_refl _, Nat.zero_le _⟩
  rw [← eV, ← hg]
  clear eV hg hbv hav B1 A1 W1
  go_wp2_with fail
  refine (CO.out _ (HR.out.below NV.out.below)).mono ?_
  rintro e w2 ⟨ov, rfl, hb2⟩
  have NS := Lib.hid (NV.out.keep hb2)
  generalize V.heap.size = B at *
  clear hb2 NV CO C
  have c2 := (NS.out.fv.get 2).trans X0.out.1
  have i1 : IntKind.i64.wrap ((t : Int) - (m : Int)) = (t : Int) - (m : Int) := IntWalk.i64_in _ (by omega)
  go_upto_region 7 with fail
  go_quiet ((go_at_call 39; exact quiet_eq (HSZ.out _ (HR.out.below (NS.out.drewN _).below))))
  obtain ⟨w3, ew3⟩ : ∃ w3, w3 = w2.drewN nq := ⟨_, rfl⟩
  have NS3 : Hid (NoteSt B g gf w X [] w3) := by rw [ew3]; exact NS.out.drewN nq
  rw [← ew3]
  clear ew3 NS c2
  go_wp2_with fail
  have E3 : Hid (([] : List Nat).length ≤ 0) := Nat.le_refl _
  have one : ∀ (b : Bool) (x : Nat), (if b then [x] else []).length ≤ 1 := by intro b x; cases b <;> simp
  refine (fhnote_any B g gf 6 w X [] _ _ NS3.out (by have := E3.out; omega)).mono ?_
  rintro e w4 ⟨⟨r4, rfl⟩, ns⟩
  have NS4 := Lib.hid ns
  obtain ⟨L4, hL4⟩ : ∃ L, L = ([] ++ if (decide ((t : Int) - (m : Int) < 0)) then [6] else []) := ⟨_, rfl⟩
  rw [← hL4] at NS4
  have E4 : Hid (L4.length ≤ 1) := by
    show L4.length ≤ 1
    rw [hL4, List.length_append]
    have h1 := one (decide ((t : Int) - (m : Int) < 0)) 6
    have h2 := E3.out
    omega
  have HL4 := Lib.hid hL4
  clear ns hL4 NS3
  have c4 := (NS4.out.fv.get 2).trans X0.out.1
  go_wp2_with fail
  refine (fhnote_any B g gf 7 w X L4 _ _ NS4.out (by have := E4.out; omega)).mono ?_
  rintro e w5 ⟨⟨r5, rfl⟩, ns⟩
  have NS5 := Lib.hid ns
  obtain ⟨L5, hL5⟩ : ∃ L, L = (L4 ++ if (decide (n < t)) then [7] else []) := ⟨_, rfl⟩
  rw [← hL5] at NS5
  have E5 : Hid (L5.length ≤ 2) := by
    show L5.length ≤ 2
    rw [hL5, List.length_append]
    have h1 := one (decide (n < t)) 7
    have h2 := E4.out
    omega
  have HL5 := Lib.hid hL5
  clear ns hL5 NS4
  clear c4
  go_wp2_with fail
  refine (fhnote_any B g gf 8 w X L5 _ _ NS5.out (by have := E5.out; omega)).mono ?_
  rintro e w6 ⟨⟨r6, rfl⟩, ns⟩
  have NS6 := Lib.hid ns
  obtain ⟨L6, hL6⟩ : ∃ L, L = (L5 ++ if (!os) then [8] else []) := ⟨_, rfl⟩
  rw [← hL6] at NS6
  have E6 : Hid (L6.length ≤ 3) := by
    show L6.length ≤ 3
    rw [hL6, List.length_append]
    have h1 := one (!os) 8
    have h2 := E5.out
    omega
  have HL6 := Lib.hid hL6
  clear ns hL6 NS5
  go_wp2_with fail
  refine (HSZ.out _ (HR.out.below NS6.out.below)).mono ?_
  rintro e w' ⟨rfl, rfl⟩
  go_wp2_with fail
  refine (CG.out _ (HR.out.below NS6.out.below)).mono ?_
  rintro e w9 ⟨rfl, hb9⟩
  have NS6 := Lib.hid (NS6.out.keep hb9)
  clear hb9
  go_wp2_with fail
  refine (fhnote_any B g gf 9 w X L6 _ _ NS6.out (by have := E6.out; omega)).mono ?_
  rintro e w7 ⟨⟨r7, rfl⟩, ns⟩
  have NS7 := Lib.hid ns
  obtain ⟨L7, hL7⟩ : ∃ L, L = (L6 ++ if (!good) then [9] else []) := ⟨_, rfl⟩
  rw [← hL7] at NS7
  have E7 : Hid (L7.length ≤ 4) := by
    show L7.length ≤ 4
    rw [hL7, List.length_append]
    have h1 := one (!good) 9
    have h2 := E6.out
    omega
  have HL7 := Lib.hid hL7
  clear ns hL7 NS6
  have c7 := (NS7.out.fv.get 2).trans X0.out.1
  have d7 := (NS7.out.fv.get 5).trans X0.out.2
  have FIN : Hid (∀ (z : Bool) (u : World), z = decide (m ≤ t ∧ 65535 < 8 * q + t - m) → NoteSt B g gf w X (L7 ++ if z then [14] else []) u → ∃ A c, ArrV 56 u g [.slice A F.length c] ∧ DefRead u (.slice A F.length c) F ∧ Below w.heap.size w u) := fun z u hz hn => by
    have e : (L7 ++ if z then [14] else []) = F := by
      rw [hz, HFF.out, HL7.out, HL6.out, HL5.out, HL4.out, show decide ((t : Int) - (m : Int) < 0) = decide (t < m) from decide_eq_decide.2 (by omega), List.nil_append]
    rw [e] at hn
    obtain ⟨v, hv, hdf⟩ := hn.box
    have hr := hdf.read
    obtain ⟨A, c, rfl, _⟩ := hr
    exact ⟨A, c, hv, hdf.read, hn.below⟩
  by_cases hge : m ≤ t
  · have g0 : (0 : Int) ≤ (t : Int) - (m : Int) := by omega
    obtain ⟨x, hx⟩ : ∃ x : Nat, x = 8 * q := ⟨_, rfl⟩
    obtain ⟨y, hy⟩ : ∃ y : Nat, y = 8 * q + t - m := ⟨_, rfl⟩
    have i8 : wrap64 (8 * (q : Int)) = (x : Int) := by unfold wrap64; omega
    have i9 : wrap64 ((x : Int) + ((t : Int) - (m : Int))) = (y : Int) := by unfold wrap64; omega
    have hz : decide (65535 < (y : Int)) = decide (m ≤ t ∧ 65535 < 8 * q + t - m) := by
      rw [decide_eq_decide]
      omega
    obtain ⟨z, hz2⟩ : ∃ z, z = decide (65535 < (y : Int)) := ⟨_, rfl⟩
    have HZ := Lib.hid (hz2.trans hz)
    have hz3 := hz2.symm
    clear hz hge hx hy q13 q0 t16 hz2 i1
    go_wp2_with fail
    refine (fhnote_any B g gf 14 w X L7 _ _ NS7.out (by have := E7.out; omega)).mono ?_
    rintro e w8 ⟨⟨r8, rfl⟩, ns⟩
    obtain ⟨A8, c8, ha8, hd8, hb8⟩ := FIN.out _ _ HZ.out ns
    have cb := ha8.get 0
    simp at cb
    have HD8 := Lib.hid hd8
    have HB8 := Lib.hid hb8
    clear ns ha8 hd8 hb8 FIN NS7 c7 d7
    go_wp2_with fail
    go_ret
    exact ⟨_, rfl, HD8.out, HB8.out⟩
  · have g0 : ¬ (0 : Int) ≤ (t : Int) - (m : Int) := by omega
    have gI : (t : Int) < (m : Int) := by omega
    have gt : t < m := by omega
    have HZ : Hid (false = decide (m ≤ t ∧ 65535 < 8 * q + t - m)) := by
      show false = _
      rw [decide_eq_false (by omega)]
    clear hge q13 q0 t16 i1
    go_wp2_with fail
    refine (fhnote_any B g gf 14 w X L7 _ _ NS7.out (by have := E7.out; omega)).mono ?_
    rintro e w8 ⟨⟨r8, rfl⟩, ns⟩
    obtain ⟨A8, c8, ha8, hd8, hb8⟩ := FIN.out _ _ HZ.out ns
    have cb := ha8.get 0
    simp at cb
    have HD8 := Lib.hid hd8
    have HB8 := Lib.hid hb8
    clear ns ha8 hd8 hb8 FIN NS7 c7 d7
    go_wp2_with fail
    go_ret
    exact ⟨_, rfl, HD8.out, HB8.out⟩
theorem fhall_any (A : Option Addr) (n c : Nat) (bs : List Nat) (w : World) (hc : n ≤ c) (hc2 : n ≤ 140737488355328) (hR : Row w A n bs) :
    Calls Tryz.prog 89 #[.slice A n c] w (AllIs w (fhall n bs)) := by
  by_cases hd : fhdef n bs = 0
  · exact fhall_ok A n c bs w hc hc2 hR hd
  · have hF : fhall n bs = [fhdef n bs] := by unfold fhall; rw [if_neg hd]
    rw [hF]
    refine (fhall_bad A n c bs w (by omega) hc hR hd).mono ?_
    rintro e w' ⟨g, rfl, hg, hb⟩
    refine ⟨_, rfl, ⟨_, 1, rfl, Nat.le_refl _, fun i x hx => ?_⟩, hb⟩
    have hi : i = 0 := by
      rcases i with _ | i
      · rfl
      · simp at hx
    subst hi
    simp at hx
    subst hx
    exact ⟨g, 0, rfl, cell_lt hg, hg⟩
end Go.Proofs.YtmchclpkjjmocaaGreat
