/-
  The contract of fourhead's All.
-/
import Derived.Test.YteldjcdoohafcaaFh9
namespace Go.Proofs.Yteldjcdoohafcaa
open Go.RowKit
set_option linter.unusedVariables false

/-- What All tells of a header that Read tells: its length is m. -/
def fhbad (n m : Nat) (bs : List Nat) (opt good : Bool) : List Nat :=
  (if decide (fhw bs 2 < m) then [6] else []) ++ (if decide (n < fhw bs 2) then [7] else []) ++ (if !opt then [8] else []) ++ (if !good then [9] else []) ++ (if decide (m ≤ fhw bs 2 ∧ 65535 < 8 * (fhw bs 6 % 8192) + fhw bs 2 - m) then [14] else [])
def fhall (n : Nat) (bs : List Nat) : List Nat :=
  if fhdef n bs = 0 then fhbad n (4 * (bs.getD 0 0 % 16)) bs (fhopts n bs).isSome (decide (orest (wsum 0 (bs.take (4 * (bs.getD 0 0 % 16)))) = 65535)) else [fhdef n bs]
theorem fhdef_pos {n : Nat} {bs : List Nat} (h : fhdef n bs = 0) : 1 ≤ n := by
  unfold fhdef at h
  split at h
  · cases h
  · omega
theorem opts_two {w : World} {r : Option (List (Nat × List Nat))} {e : Ending} {w' : World} (h : OptsIs w r e w') : ∃ v, e = .returned (.tuple #[v, .bool r.isSome]) ∧ Below w.heap.size w w' := by
  obtain ⟨hb, h⟩ := h
  cases r with
  | none => exact ⟨_, h, hb⟩
  | some M =>
    obtain ⟨v, e, _⟩ := h
    exact ⟨v, e, hb⟩
theorem NoteSt.keep {B g gf : Nat} {W0 : World} {X : List Value} {L : List Nat} {u u' : World} (h : NoteSt B g gf W0 X L u) (hb : Below u.heap.size u u') : NoteSt B g gf W0 X L u' := by
  obtain ⟨v, hv, hd⟩ := h.box
  exact ⟨⟨v, hv.below hb, hd.below hb⟩, h.fv.below hb, h.below.trans (hb.mono h.below.size), h.gB, h.fB, h.gf, h.g0, Nat.le_trans h.Bw hb.size, h.len⟩
theorem NoteSt.drewN {B g gf : Nat} {W0 : World} {X : List Value} {L : List Nat} {u : World} (h : NoteSt B g gf W0 X L u) (k : Nat) : NoteSt B g gf W0 X L (u.drewN k) :=
  ⟨h.box, h.fv, below_drewN' h.below k, h.gB, h.fB, h.gf, h.g0, h.Bw, h.len⟩
def AllIs (w : World) (l : List Nat) (e : Ending) (w' : World) : Prop := ∃ v, e = .returned v ∧ DefRead w' v l ∧ Below w.heap.size w w'
theorem fhbad_len (n m : Nat) (bs : List Nat) (a b : Bool) : (fhbad n m bs a b).length ≤ 5 := by
  unfold fhbad
  simp only [List.length_append]
  have h : ∀ (c : Bool) (x : Nat), (if c then [x] else []).length ≤ 1 := by intro c x; cases c <;> simp
  have h1 := h (decide (fhw bs 2 < m)) 6
  have h2 := h (decide (n < fhw bs 2)) 7
  have h3 := h (!a) 8
  have h4 := h (!b) 9
  have h5 := h (decide (m ≤ fhw bs 2 ∧ 65535 < 8 * (fhw bs 6 % 8192) + fhw bs 2 - m)) 14
  omega
set_option maxRecDepth 10000 in
set_option maxHeartbeats 6400000 in
theorem fhall_ok (A : Option Addr) (n c : Nat) (bs : List Nat) (w : World) (hc : n ≤ c) (hc2 : n ≤ 140737488355328) (hR : Row w A n bs) (hd : fhdef n bs = 0) :
    Calls Try.prog 21 #[.slice A n c] w (AllIs w (fhall n bs)) := by
  have C := Lib.hid (fhread_any A n c bs w (by omega) hc hR)
  unfold ReadIs at C
  obtain ⟨X, hX⟩ : ∃ X, X = fhval n bs := ⟨_, rfl⟩
  have hXl : X.length = 17 := by rw [hX]; exact fhval_len n bs
  have hXo : ∀ v ∈ X, v.oneCell' = true := by rw [hX]; exact fhval_one n bs
  have hXf : X = fhf bs := by rw [hX]; unfold fhval; rw [if_pos hd]
  rw [← hX, hd] at C
  clear hX
  have hF : fhall n bs = fhbad n (4 * (bs.getD 0 0 % 16)) bs (fhopts n bs).isSome (decide (orest (wsum 0 (bs.take (4 * (bs.getD 0 0 % 16)))) = 65535)) := by unfold fhall; rw [if_pos hd]
  rw [hF]
  have CO := Lib.hid (fun w hR => fhoptions_any A n c bs w hc hc2 hR)
  have HSZ := Lib.hid (fun w hR => fhsize_any A n c bs w (fhdef_pos hd) (by omega) hR)
  obtain ⟨m, hm⟩ : ∃ m, 4 * (bs.getD 0 0 % 16) = m := ⟨_, rfl⟩
  have hm60 : m ≤ 60 := by omega
  have hmn : 20 ≤ m ∧ m ≤ n := by
    rw [← hm]
    unfold fhdef at hd
    split at hd
    · cases hd
    split at hd
    · cases hd
    split at hd
    · cases hd
    split at hd
    · cases hd
    split at hd
    · cases hd
    omega
  rw [hm] at HSZ ⊢
  obtain ⟨b, o, rfl, _, _⟩ := hR.addr (by omega)
  obtain ⟨good, hgood⟩ : ∃ good, decide (orest (wsum 0 (bs.take m)) = 65535) = good := ⟨_, rfl⟩
  have CG : Hid (∀ w, Row w (some ⟨b, o, none⟩) n bs → Calls Try.prog 57 #[.slice (some ⟨b, o, none⟩) m c] w fun e w' => e = .returned (.bool good) ∧ Below w.heap.size w w') := fun w h => by
    have hp := h.part 0 m (by omega)
    rw [List.drop_zero, Nat.add_zero] at hp
    exact ogood_any (some ⟨b, o, none⟩) m c (bs.take m) good w (by omega) hp hgood
  rw [hgood]
  obtain ⟨os, hos⟩ : ∃ os, os = (fhopts n bs).isSome := ⟨_, rfl⟩
  have CO : Hid (∀ w, Row w (some ⟨b, o, none⟩) n bs → Calls Try.prog 16 #[.slice (some ⟨b, o, none⟩) n c] w fun e w' => ∃ v, e = .returned (.tuple #[v, .bool os]) ∧ Below w.heap.size w w') := fun w h => by
    rw [hos]
    exact (CO.out w h).mono fun _ _ h => opts_two h
  rw [← hos]
  have X0 : Hid (X[2]? = some (.int .i64 (fhw bs 2 : Nat)) ∧ X[5]? = some (.int .i64 (fhw bs 6 % 8192 : Nat))) := by rw [hXf]; exact ⟨rfl, rfl⟩
  have ht := fhw_lt hR.byte 2
  have ho : fhw bs 6 % 8192 < 8192 := Nat.mod_lt _ (by decide)
  have HFB : Hid (∀ x, fhbad n m bs x good = (if decide (fhw bs 2 < m) then [6] else []) ++ (if decide (n < fhw bs 2) then [7] else []) ++ (if !x then [8] else []) ++ (if !good then [9] else []) ++ (if decide (m ≤ fhw bs 2 ∧ 65535 < 8 * (fhw bs 6 % 8192) + fhw bs 2 - m) then [14] else [])) := fun x => rfl
  have HR := Lib.hid hR
  obtain ⟨F, hFF⟩ : ∃ F, F = fhbad n m bs os good := ⟨_, rfl⟩
  rw [← hFF]
  rw [HFB.out] at hFF
  generalize fhw bs 6 % 8192 = q at *
  generalize fhw bs 2 = t at *
  have HFF := Lib.hid hFF
  have mI : (m : Int) ≤ (n : Int) := by omega
  have mcI : (m : Int) ≤ (c : Int) := by omega
  have mc : m ≤ c := by omega
  have m60 : (m : Int) ≤ 60 := by omega
  have m0 : (0 : Int) ≤ (m : Int) := by omega
  have t16 : (t : Int) < 65536 := by omega
  have t0 : (0 : Int) ≤ (t : Int) := by omega
  have q13 : (q : Int) < 8192 := by omega
  have q0 : (0 : Int) ≤ (q : Int) := by omega
  have HN := Lib.hid (And.intro hc (And.intro hc2 (And.intro hm60 hmn)))
  clear hF hm hm60 hmn hgood hos hXf HFB hFF hR hc hc2 hd ht ho
  go_enter Try.func21, Try.ntmps21
  go_wp2_with fail
  refine C.out.mono ?_
  rintro e w1 ⟨rfl, b1⟩
  obtain ⟨hst, hA, hb⟩ := four_stored w1 X hXl hXo
  have B1 := Lib.hid (below_both b1 hb)
  have W1 : Hid (w.heap.size ≤ w1.heap.size) := b1.size
  have A1 := Lib.hid hA
  clear b1 hA hb
  go_upto_region 2 with fail
  clear hst
  obtain ⟨W, eW⟩ : ∃ W, W = (w1.alloc (.cells #[.int .i64 0, .int .i64 0, .int .i64 0, .int .i64 0, .int .i64 0, .int .i64 0, .int .i64 0, .int .i64 0, .int .i64 0, .int .u8 0, .int .u8 0, .int .u8 0, .int .u8 0, .int .u8 0, .int .u8 0, .int .u8 0, .int .u8 0] 25)).setCells w1.heap.size 0 X := ⟨_, rfl⟩
  rw [← eW] at B1 A1 ⊢
  clear eW
  generalize w1.heap.size = gf at *
  have hmf : ∀ (fn : Fn) (first cap : Array Value) (w : World), (Instr.makeFunc fn first cap).run Try.prog w = .ok (.func fn first cap) w := fun _ _ _ _ => rfl
  go_upto_region 6 with fail
  obtain ⟨g, hg⟩ : ∃ g, g = W.heap.size := ⟨_, rfl⟩
  obtain ⟨V, eV⟩ : ∃ V, V = W.alloc (.cells #[.slice none 0 0] 35) := ⟨_, rfl⟩
  have hbv : Below W.heap.size W V := by rw [eV]; exact (Below.refl _ _).alloc (Nat.le_refl _) _
  have hav : ArrV 35 V g [.slice none 0 0] := by rw [eV, hg]; exact ArrV.new _ W _
  have NV : Hid (NoteSt V.heap.size g gf w X [] V) := ⟨⟨_, hav, Defs.nil _ _⟩, A1.out.below hbv, below_both B1.out hbv, hav.lt, (A1.out.below hbv).lt, by have := A1.out.lt; omega, by rw [hg]; exact B1.out.size, Nat.le_refl _, Nat.zero_le _⟩
  rw [← eV, ← hg]
  clear eV hg hbv hav B1 A1 W1
  go_wp2_with fail
  refine (CO.out _ (HR.out.below NV.out.below)).mono ?_
  rintro e w2 ⟨ov, rfl, hb2⟩
  have NS := Lib.hid (NV.out.keep hb2)
  generalize V.heap.size = B at *
  clear hb2 NV CO C
  have c2 := (NS.out.fv.get 2).trans X0.out.1
  have i1 : IntKind.i64.wrap ((t : Int) - (m : Int)) = (t : Int) - (m : Int) := IntWalk.i64_in _ (by omega)
  go_upto_region 7 with fail
  go_quiet ((go_at_call 50; exact quiet_eq (HSZ.out _ (HR.out.below (NS.out.drewN _).below))))
  obtain ⟨w3, ew3⟩ : ∃ w3, w3 = w2.drewN nq := ⟨_, rfl⟩
  have NS3 : Hid (NoteSt B g gf w X [] w3) := by rw [ew3]; exact NS.out.drewN nq
  rw [← ew3]
  clear ew3 NS c2
  go_wp2_with fail
  have E3 : Hid (([] : List Nat).length ≤ 0) := Nat.le_refl _
  have one : ∀ (b : Bool) (x : Nat), (if b then [x] else []).length ≤ 1 := by intro b x; cases b <;> simp
  refine (fhnote_any B g gf 6 w X [] _ _ NS3.out (by have := E3.out; omega)).mono ?_
  rintro e w4 ⟨⟨r4, rfl⟩, ns⟩
  have NS4 := Lib.hid ns
  obtain ⟨L4, hL4⟩ : ∃ L, L = ([] ++ if (decide ((t : Int) - (m : Int) < 0)) then [6] else []) := ⟨_, rfl⟩
  rw [← hL4] at NS4
  have E4 : Hid (L4.length ≤ 1) := by
    show L4.length ≤ 1
    rw [hL4, List.length_append]
    have h1 := one (decide ((t : Int) - (m : Int) < 0)) 6
    have h2 := E3.out
    omega
  have HL4 := Lib.hid hL4
  clear ns hL4 NS3
  have c4 := (NS4.out.fv.get 2).trans X0.out.1
  go_wp2_with fail
  refine (fhnote_any B g gf 7 w X L4 _ _ NS4.out (by have := E4.out; omega)).mono ?_
  rintro e w5 ⟨⟨r5, rfl⟩, ns⟩
  have NS5 := Lib.hid ns
  obtain ⟨L5, hL5⟩ : ∃ L, L = (L4 ++ if (decide (n < t)) then [7] else []) := ⟨_, rfl⟩
  rw [← hL5] at NS5
  have E5 : Hid (L5.length ≤ 2) := by
    show L5.length ≤ 2
    rw [hL5, List.length_append]
    have h1 := one (decide (n < t)) 7
    have h2 := E4.out
    omega
  have HL5 := Lib.hid hL5
  clear ns hL5 NS4
  clear c4
  go_wp2_with fail
  refine (fhnote_any B g gf 8 w X L5 _ _ NS5.out (by have := E5.out; omega)).mono ?_
  rintro e w6 ⟨⟨r6, rfl⟩, ns⟩
  have NS6 := Lib.hid ns
  obtain ⟨L6, hL6⟩ : ∃ L, L = (L5 ++ if (!os) then [8] else []) := ⟨_, rfl⟩
  rw [← hL6] at NS6
  have E6 : Hid (L6.length ≤ 3) := by
    show L6.length ≤ 3
    rw [hL6, List.length_append]
    have h1 := one (!os) 8
    have h2 := E5.out
    omega
  have HL6 := Lib.hid hL6
  clear ns hL6 NS5
  go_wp2_with fail
  refine (HSZ.out _ (HR.out.below NS6.out.below)).mono ?_
  rintro e w' ⟨rfl, rfl⟩
  go_wp2_with fail
  refine (CG.out _ (HR.out.below NS6.out.below)).mono ?_
  rintro e w9 ⟨rfl, hb9⟩
  have NS6 := Lib.hid (NS6.out.keep hb9)
  clear hb9
  go_wp2_with fail
  refine (fhnote_any B g gf 9 w X L6 _ _ NS6.out (by have := E6.out; omega)).mono ?_
  rintro e w7 ⟨⟨r7, rfl⟩, ns⟩
  have NS7 := Lib.hid ns
  obtain ⟨L7, hL7⟩ : ∃ L, L = (L6 ++ if (!good) then [9] else []) := ⟨_, rfl⟩
  rw [← hL7] at NS7
  have E7 : Hid (L7.length ≤ 4) := by
    show L7.length ≤ 4
    rw [hL7, List.length_append]
    have h1 := one (!good) 9
    have h2 := E6.out
    omega
  have HL7 := Lib.hid hL7
  clear ns hL7 NS6
  have c7 := (NS7.out.fv.get 2).trans X0.out.1
  have d7 := (NS7.out.fv.get 5).trans X0.out.2
  have FIN : Hid (∀ (z : Bool) (u : World), z = decide (m ≤ t ∧ 65535 < 8 * q + t - m) → NoteSt B g gf w X (L7 ++ if z then [14] else []) u → ∃ A c, ArrV 35 u g [.slice A F.length c] ∧ DefRead u (.slice A F.length c) F ∧ Below w.heap.size w u) := fun z u hz hn => by
    have e : (L7 ++ if z then [14] else []) = F := by
      rw [hz, HFF.out, HL7.out, HL6.out, HL5.out, HL4.out, show decide ((t : Int) - (m : Int) < 0) = decide (t < m) from decide_eq_decide.2 (by omega), List.nil_append]
    rw [e] at hn
    obtain ⟨v, hv, hdf⟩ := hn.box
    have hr := hdf.read
    obtain ⟨A, c, rfl, _⟩ := hr
    exact ⟨A, c, hv, hdf.read, hn.below⟩
  by_cases hge : m ≤ t
  · have g0 : (0 : Int) ≤ (t : Int) - (m : Int) := by omega
    obtain ⟨x, hx⟩ : ∃ x : Nat, x = 8 * q := ⟨_, rfl⟩
    obtain ⟨y, hy⟩ : ∃ y : Nat, y = 8 * q + t - m := ⟨_, rfl⟩
    have i8 : wrap64 (8 * (q : Int)) = (x : Int) := by unfold wrap64; omega
    have i9 : wrap64 ((x : Int) + ((t : Int) - (m : Int))) = (y : Int) := by unfold wrap64; omega
    have hz : decide (65535 < (y : Int)) = decide (m ≤ t ∧ 65535 < 8 * q + t - m) := by
      rw [decide_eq_decide]
      omega
    obtain ⟨z, hz2⟩ : ∃ z, z = decide (65535 < (y : Int)) := ⟨_, rfl⟩
    have HZ := Lib.hid (hz2.trans hz)
    have hz3 := hz2.symm
    clear hz hge hx hy q13 q0 t16 hz2 i1
    go_wp2_with fail
    refine (fhnote_any B g gf 14 w X L7 _ _ NS7.out (by have := E7.out; omega)).mono ?_
    rintro e w8 ⟨⟨r8, rfl⟩, ns⟩
    obtain ⟨A8, c8, ha8, hd8, hb8⟩ := FIN.out _ _ HZ.out ns
    have cb := ha8.get 0
    simp at cb
    have HD8 := Lib.hid hd8
    have HB8 := Lib.hid hb8
    clear ns ha8 hd8 hb8 FIN NS7 c7 d7
    go_wp2_with fail
    go_ret
    exact ⟨_, rfl, HD8.out, HB8.out⟩
  · have g0 : ¬ (0 : Int) ≤ (t : Int) - (m : Int) := by omega
    have gI : (t : Int) < (m : Int) := by omega
    have gt : t < m := by omega
    have HZ : Hid (false = decide (m ≤ t ∧ 65535 < 8 * q + t - m)) := by
      show false = _
      rw [decide_eq_false (by omega)]
    clear hge q13 q0 t16 i1
    go_wp2_with fail
    refine (fhnote_any B g gf 14 w X L7 _ _ NS7.out (by have := E7.out; omega)).mono ?_
    rintro e w8 ⟨⟨r8, rfl⟩, ns⟩
    obtain ⟨A8, c8, ha8, hd8, hb8⟩ := FIN.out _ _ HZ.out ns
    have cb := ha8.get 0
    simp at cb
    have HD8 := Lib.hid hd8
    have HB8 := Lib.hid hb8
    clear ns ha8 hd8 hb8 FIN NS7 c7 d7
    go_wp2_with fail
    go_ret
    exact ⟨_, rfl, HD8.out, HB8.out⟩
theorem fhall_any (A : Option Addr) (n c : Nat) (bs : List Nat) (w : World) (hc : n ≤ c) (hc2 : n ≤ 140737488355328) (hR : Row w A n bs) :
    Calls Try.prog 21 #[.slice A n c] w (AllIs w (fhall n bs)) := by
  by_cases hd : fhdef n bs = 0
  · exact fhall_ok A n c bs w hc hc2 hR hd
  · have hF : fhall n bs = [fhdef n bs] := by unfold fhall; rw [if_neg hd]
    rw [hF]
    refine (fhall_bad A n c bs w (by omega) hc hR hd).mono ?_
    rintro e w' ⟨g, rfl, hg, hb⟩
    refine ⟨_, rfl, ⟨_, 1, rfl, Nat.le_refl _, fun i x hx => ?_⟩, hb⟩
    have hi : i = 0 := by
      rcases i with _ | i
      · rfl
      · simp at hx
    subst hi
    simp at hx
    subst hx
    exact ⟨g, 0, rfl, cell_lt hg, hg⟩
end Go.Proofs.Yteldjcdoohafcaa
