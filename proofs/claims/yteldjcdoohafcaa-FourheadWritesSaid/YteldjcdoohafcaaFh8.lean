/-
  The contract of fourhead's Options.
-/
import Derived.Test.YteldjcdoohafcaaFh7
namespace Go.Proofs.Yteldjcdoohafcaa
open Go.RowKit
set_option linter.unusedVariables false

/-- The options with which some bytes begin, or none where one is wrong. -/
def optsF : Nat → List Nat → Option (List (Nat × List Nat))
  | 0, _ => some []
  | f + 1, l => if l.length = 0 ∨ l.getD 0 0 = 0 then some [] else match optOne l with
    | none => none
    | some (k, n, b) => (optsF f (l.drop n)).map fun M => (k, b) :: M
theorem optOne_bd {l : List Nat} {k n : Nat} {b : List Nat} (h0 : 0 < l.length) (h : optOne l = some (k, n, b)) : 1 ≤ n ∧ n ≤ l.length ∧ b.length ≤ l.length := by
  unfold optOne at h
  split at h
  · injection h with h; injection h with h1 h2; injection h2 with h2 h3
    subst h1 h2 h3
    exact ⟨by decide, h0, Nat.zero_le _⟩
  · split at h
    · cases h
    · split at h
      · cases h
      · injection h with h; injection h with h1 h2; injection h2 with h2 h3
        subst h1 h2 h3
        refine ⟨by omega, by omega, ?_⟩
        rw [List.length_take, List.length_drop]
        omega
theorem optsF_nil (f : Nat) : optsF f [] = some [] := by
  cases f <;> simp [optsF]
/-- What Options tells. -/
def fhopts (n : Nat) (bs : List Nat) : Option (List (Nat × List Nat)) := if fhdef n bs = 0 then optsF 60 ((bs.drop 20).take (4 * (bs.getD 0 0 % 16) - 20)) else none
def OptsIs (w : World) (r : Option (List (Nat × List Nat))) (e : Ending) (w' : World) : Prop :=
  Below w.heap.size w w' ∧ match r with
  | none => e = .returned (.tuple #[.slice none 0 0, .bool false])
  | some M => ∃ v, e = .returned (.tuple #[v, .bool true]) ∧ Exts w.heap.size w' v M
def sliceLen : Value → Nat
  | .slice _ m _ => m
  | _ => 0
/-- Where the loop stands: the options so far, and what is left of the bytes. -/
def OptsInv (w : World) (r : Option (List (Nat × List Nat))) (out rest : Value) (W : World) : Prop :=
  ∃ (L : List (Nat × List Nat)) (R : List Nat) (A : Option Addr) (m c f : Nat), Exts w.heap.size W out L ∧ rest = .slice A m c ∧ m ≤ c ∧ m ≤ 140737488355328 ∧ Row w A m R ∧ Below w.heap.size w W ∧ m ≤ f ∧ L.length + m ≤ 60 ∧ r = (optsF f R).map fun M => L ++ M
theorem row_from {w : World} {b o m c k : Nat} {R : List Nat} (h : Row w (some ⟨b, o, none⟩) m R) (hk : k ≤ m) (hc : m ≤ c) : Row w (if c = k then some ⟨b, o, none⟩ else some ⟨b, o + k, none⟩) (m - k) (R.drop k) := by
  split
  · have hmk : m = k := by omega
    subst hmk
    rw [Nat.sub_self, List.drop_of_length_le (by rw [h.1]; exact Nat.le_refl _)]
    exact Row.nil _ _
  · have hp := h.part k (m - k) (by omega)
    rw [List.take_of_length_le (by rw [List.length_drop, h.1]; exact Nat.le_refl _)] at hp
    exact hp
theorem row_piece {w : World} {b o m c k : Nat} {R : List Nat} (z : Nat) (h : Row w (some ⟨b, o, none⟩) m R) (hk : k ≤ z) (hz : z ≤ m) (hc : m ≤ c) : Row w (if c = k then some ⟨b, o, none⟩ else some ⟨b, o + k, none⟩) (z - k) ((R.drop k).take (z - k)) := by
  split
  · have hmk : z - k = 0 := by omega
    rw [hmk, List.take_zero]
    exact Row.nil _ _
  · exact h.part k (z - k) (by omega)
set_option maxRecDepth 10000 in
set_option maxHeartbeats 6400000 in
theorem fhoptions_any (A : Option Addr) (n c : Nat) (bs : List Nat) (w : World) (hc : n ≤ c) (hc2 : n ≤ 140737488355328) (hR : Row w A n bs) :
    Calls Try.prog 16 #[.slice A n c] w (OptsIs w (fhopts n bs)) := by
  have C := Lib.hid (fhread_any A n c bs w (by omega) hc hR)
  unfold ReadIs at C
  obtain ⟨X, hX⟩ : ∃ X, X = fhval n bs := ⟨_, rfl⟩
  have hXl : X.length = 17 := by rw [hX]; exact fhval_len n bs
  have hXo : ∀ v ∈ X, v.oneCell' = true := by rw [hX]; exact fhval_one n bs
  rw [← hX] at C
  clear hX
  by_cases h0 : fhdef n bs ≠ 0
  · have hF : fhopts n bs = none := by unfold fhopts; rw [if_neg h0]
    rw [hF]
    obtain ⟨d, hdd⟩ : ∃ d, d = fhdef n bs := ⟨_, rfl⟩
    rw [← hdd] at C h0
    have d0 : ((d : Int) != 0) = true := by simp; omega
    clear hdd hR hc2 hc h0 hF
    go_enter Try.func16, Try.ntmps16
    go_wp2_with fail
    refine C.out.mono ?_
    rintro e w1 ⟨rfl, b1⟩
    obtain ⟨hst, hA, hb⟩ := four_stored w1 X hXl hXo
    have B1 := Lib.hid (below_both b1 hb)
    clear b1 hA hb
    go_upto_region 2 with fail
    clear hst
    obtain ⟨W, eW⟩ : ∃ W, W = (w1.alloc (.cells #[.int .i64 0, .int .i64 0, .int .i64 0, .int .i64 0, .int .i64 0, .int .i64 0, .int .i64 0, .int .i64 0, .int .i64 0, .int .u8 0, .int .u8 0, .int .u8 0, .int .u8 0, .int .u8 0, .int .u8 0, .int .u8 0, .int .u8 0] 25)).setCells w1.heap.size 0 X := ⟨_, rfl⟩
    rw [← eW] at B1 ⊢
    clear eW
    go_wp2_with fail
    go_ret2
    exact ⟨B1.out, rfl⟩
  have h0 : fhdef n bs = 0 := Decidable.of_not_not h0
  rw [h0] at C
  have hm0 : n ≠ 0 ∧ ¬ n < 20 ∧ ¬ bs.getD 0 0 % 16 < 5 ∧ ¬ n < 4 * (bs.getD 0 0 % 16) := by
    have hd := h0
    unfold fhdef at hd
    split at hd
    · cases hd
    split at hd
    · cases hd
    split at hd
    · cases hd
    split at hd
    · cases hd
    split at hd
    · cases hd
    exact ⟨by assumption, by assumption, by assumption, by assumption⟩
  have hF : fhopts n bs = optsF 60 ((bs.drop 20).take (4 * (bs.getD 0 0 % 16) - 20)) := by unfold fhopts; rw [if_pos h0]
  rw [hF]
  have HSZ := Lib.hid (fun w hR => fhsize_any A n c bs w (by omega) (by omega) hR)
  obtain ⟨b, o, rfl, _, _⟩ := hR.addr (by omega)
  have m60 : 4 * (bs.getD 0 0 % 16) ≤ 60 := by omega
  obtain ⟨m, hm⟩ : ∃ m, 4 * (bs.getD 0 0 % 16) = m := ⟨_, rfl⟩
  rw [hm] at HSZ hm0 m60 ⊢
  obtain ⟨k0, k1, k2, k3⟩ := hm0
  have m20 : 20 ≤ m := by omega
  have hmn : m ≤ n := by omega
  have HP := Lib.hid (row_piece m hR m20 hmn hc)
  obtain ⟨R, hRR⟩ : ∃ R, R = (bs.drop 20).take (m - 20) := ⟨_, rfl⟩
  rw [← hRR] at HP ⊢
  obtain ⟨r, hr⟩ : ∃ r, r = optsF 60 R := ⟨_, rfl⟩
  rw [← hr]
  have HR := Lib.hid hR
  have HC := Lib.hid (And.intro hc hc2)
  have HMN := Lib.hid hmn
  have HM6 := Lib.hid m60
  have HR0 := Lib.hid hr
  have mI : (m : Int) ≤ (n : Int) := by omega
  have mcI : (m : Int) ≤ (c : Int) := by omega
  have m2I : (20 : Int) ≤ (m : Int) := by omega
  have c2I : (20 : Int) ≤ (c : Int) := by omega
  have sI : ((m : Int) - 20).toNat = m - 20 := by omega
  have sI2 : ((c : Int) - 20).toNat = c - 20 := by omega
  clear hm k0 k1 k2 k3 h0 hR hc hc2 m60 hF hRR hmn m20 hr
  go_enter Try.func16, Try.ntmps16
  go_wp2_with fail
  refine C.out.mono ?_
  rintro e w1 ⟨rfl, b1⟩
  obtain ⟨hst, hA, hb⟩ := four_stored w1 X hXl hXo
  have B1 := Lib.hid (below_both b1 hb)
  clear b1 hA hb
  go_upto_region 2 with fail
  clear hst
  obtain ⟨W, eW⟩ : ∃ W, W = (w1.alloc (.cells #[.int .i64 0, .int .i64 0, .int .i64 0, .int .i64 0, .int .i64 0, .int .i64 0, .int .i64 0, .int .i64 0, .int .i64 0, .int .u8 0, .int .u8 0, .int .u8 0, .int .u8 0, .int .u8 0, .int .u8 0, .int .u8 0, .int .u8 0] 25)).setCells w1.heap.size 0 X := ⟨_, rfl⟩
  rw [← eW] at B1 ⊢
  clear eW
  go_wp2_with fail
  refine (HSZ.out _ (HR.out.below B1.out)).mono ?_
  rintro e w' ⟨rfl, rfl⟩
  go_wp2_with fail
  all_goals
    first | rw [if_pos ‹c = 20›] at HP | rw [if_neg ‹¬ c = 20›] at HP
    have HS : Hid (OptsInv w r (.slice none 0 0) (.slice _ (m - 20) (c - 20)) W) := ⟨[], R, _, m - 20, c - 20, 60, Exts.nil _ _, rfl, by have := HC.out; have := HMN.out; omega, by have := HC.out; omega, HP.out, B1.out, by have := HM6.out; omega, by have := HM6.out; simp; omega, by rw [HR0.out]; simp⟩
    go_loopw [6, 7] (fun out rest V => OptsInv w r out rest V) (fun out rest V => sliceLen rest)
    case atStart =>
      first
        | exact HS.out
        | (have h20 : m - 20 = 0 := by have := HC.out; have := HMN.out; omega
           refine ⟨[], R, _, m - 20, 0, 60, Exts.nil _ _, rfl, by omega, by omega, HP.out, B1.out, by omega, by simp; omega, by rw [HR0.out]; simp⟩)
        | fail
    case round =>
      clear HS
      obtain ⟨L, R, A, m1, c1, f, hE, rfl, h1, h2, hRw, hW, h3, h4, hr⟩ := hrel
      have HE := Lib.hid hE
      have HW := Lib.hid hW
      by_cases hz : m1 = 0
      · have e : r = some L := by
          obtain rfl : R = [] := List.eq_nil_of_length_eq_zero (by rw [hRw.1, hz])
          rw [hr, optsF_nil]
          simp
        subst hz
        subst e
        clear hr h1 h2 h3 h4 hRw hE hW
        go_wp2_with fail
        go_ret2
        exact ⟨HW.out, _, rfl, HE.out⟩
      · obtain ⟨b2, o2, rfl, hb2, hcell⟩ := (hRw.below hW).addr (by omega)
        have c0 := hcell 0 (by omega)
        simp only [Nat.add_zero] at c0
        have mp : (0 : Int) < (m1 : Int) := by omega
        clear hcell
        by_cases hx : R.getD 0 0 = 0
        · have e : r = some L := by
            obtain ⟨f2, rfl⟩ : ∃ f2, f = f2 + 1 := ⟨f - 1, by omega⟩
            rw [hr, optsF, if_pos (.inr hx)]
            simp
          rw [hx] at c0
          subst e
          clear hr h1 h2 h3 h4 hRw hE hW hx hb2
          go_wp2_with fail
          go_ret2
          exact ⟨HW.out, _, rfl, HE.out⟩
        · have CO := Lib.hid (fhoption_any (some ⟨b2, o2, none⟩) m1 c1 R _ (by omega) h1 h2 (hRw.below hW))
          obtain ⟨f2, rfl⟩ : ∃ f2, f = f2 + 1 := ⟨f - 1, by omega⟩
          have x0 : ((R.getD 0 0 : Int) != 0) = true := bne_iff_ne.2 (by omega)
          have hRl := hRw.1
          rw [optsF, if_neg (by omega)] at hr
          cases hO : optOne R with
          | none =>
            rw [hO] at hr CO
            have e : r = none := hr
            subst e
            generalize R.getD 0 0 = x at *
            clear hr h1 h2 h3 h4 hRw hE hx hb2 hO hRl hW
            go_wp2_with fail
            refine CO.out.mono ?_
            rintro e w2 ⟨b2, rfl⟩
            have HW2 := Lib.hid (below_both HW.out b2)
            clear b2
            have h9 := new_cell w2 (.int .i64 0) 59 w2.heap.size rfl
            go_wp2_with fail
            go_ret2
            exact ⟨HW2.out.alloc HW2.out.size _, rfl⟩
          | some q =>
            obtain ⟨k, nn, bb⟩ := q
            rw [hO] at hr CO
            obtain ⟨q1, q2, q3⟩ := optOne_bd (by omega) hO
            obtain ⟨M', hM'⟩ : ∃ M', M' = optsF f2 (R.drop nn) := ⟨_, rfl⟩
            have hr2 : r = (optsF f2 (R.drop nn)).map fun M => (L ++ [(k, bb)]) ++ M := by
              rw [hr]
              show ((optsF f2 (R.drop nn)).map fun M => (k, bb) :: M).map (fun M => L ++ M) = _
              rw [Option.map_map]
              congr 1
              funext M
              simp
            have HP2 := Lib.hid (row_from hRw (k := nn) (by omega) h1)
            have HN := Lib.hid (And.intro q1 (And.intro (hRl ▸ q2) (And.intro h3 (And.intro h4 (And.intro h1 h2)))))
            have HR2 := Lib.hid hr2
            have nI : (nn : Int) ≤ (m1 : Int) := by omega
            have ncI : (nn : Int) ≤ (c1 : Int) := by omega
            have s1 : ((m1 : Int) - (nn : Int)).toNat = m1 - nn := by omega
            have s2 : ((c1 : Int) - (nn : Int)).toNat = c1 - nn := by omega
            generalize R.getD 0 0 = x at *
            clear hr h1 h2 h3 h4 hRw hE hx hb2 hO hRl hW hr2 q1 q2 q3 hM' M'
            go_wp2_with fail
            refine CO.out.mono ?_
            rintro e w2 ⟨b2, bv, rfl, hone, A2, c2, rfl, hc2, hrw2, had⟩
            have HW2 := Lib.hid (below_both HW.out b2)
            have HE2 := Lib.hid (HE.out.below b2)
            have HBD : Hid (BodyAt w2 u6.ownBlock (.slice A2 bb.length c2) bb) := ⟨A2, c2, rfl, hc2, hrw2, fun ad h => ⟨fun e => by
              have h7 := (HE.out.lt _ e).2
              have h8 := (had ad h).1
              omega, (had ad h).2⟩⟩
            have hl6 : Hid (L.length ≤ 1000000) := by show L.length ≤ 1000000; have := HN.out; omega
            clear b2 hrw2 had hc2
            go_upto_region 10 with fail
            obtain ⟨bv, hbv⟩ : ∃ bv, bv = Value.slice A2 bb.length c2 := ⟨_, rfl⟩
            rw [← hbv] at HBD hone ⊢
            clear hbv
            obtain ⟨W3, eW3⟩ : ∃ W3, W3 = w2.alloc (.cells #[.int .i64 (k : Nat), bv] 59) := ⟨_, rfl⟩
            have hA3 : ArrV 59 W3 w2.heap.size [.int .i64 (k : Nat), bv] := by rw [eW3]; exact ArrV.new _ w2 _
            have hB3 : Below w2.heap.size w2 W3 := by rw [eW3]; exact (Below.refl _ _).alloc (Nat.le_refl _) _
            have d0 := hA3.get 0
            have d1 := hA3.get 1
            simp at d0 d1
            have HW3 := Lib.hid (below_both HW2.out hB3)
            have HE3 := Lib.hid (HE2.out.below hB3)
            have HBD3 := Lib.hid (HBD.out.below hB3)
            rw [← eW3]
            have HON := Lib.hid hone
            clear eW3 hA3 hB3 hone
            go_wp2_with (at_builtin; refine wpList_append_ext (B := w.heap.size) (W := w) (wr := W3) rfl (.tmp 39) (.tmp 41) rfl rfl rfl HE3.out HBD3.out HON.out HW3.out HW3.out.size hl6.out ?_; intro v6 w6 ho6 hb6; have O6 := Lib.hid ho6; have B6 := Lib.hid hb6; clear ho6 hb6)
            all_goals
              go_roundw
              case rel =>
                exact ⟨L ++ [(k, bb)], R.drop nn, _, m1 - nn, c1 - nn, f2, O6.out, rfl, by have := HN.out; omega, by have := HN.out; omega, HP2.out, B6.out, by have := HN.out; omega, by have := HN.out; simp; omega, HR2.out⟩
              case measure =>
                have := HN.out
                simp [sliceLen]
                omega
end Go.Proofs.Yteldjcdoohafcaa
