/-
  The walk of the statement WholeNumbers.
-/
import Derived.Test.YtfnbbhnigndifaaWNum1
import Derived.Test.YtfnbbhnigndifaaWid2
import Derived.Test.YtfnbbhnigndifaaOct4
import Derived.Test.YtfnbbhnigndifaaOct5
import Derived.Deep.RegionHeld3
import Derived.Deep.CutRange
import Derived.Deep.CutBlock
namespace Go.Proofs.Ytfnbbhnigndifaa
open Go.RowKit
set_option linter.unusedVariables false
attribute [local go_sem ↓] Go.wp_at_zero Go.wp_at_succ

theorem nats_of {zs : List Int} (hz : ∀ z ∈ zs, (Lit.int .u8 z).wf = true) : ∃ X : List Nat, (zs.map (Value.int .u8)) = bcells X ∧ X.length = zs.length ∧ ∀ x ∈ X, x < 256 := by
  induction zs with
  | nil => exact ⟨[], rfl, rfl, by simp⟩
  | cons z zs ih =>
    obtain ⟨X, h1, h2, h3⟩ := ih fun y hy => hz y (List.mem_cons_of_mem _ hy)
    obtain ⟨n, rfl, hn⟩ := nat_u8 (hz z (List.mem_cons_self ..))
    refine ⟨n :: X, ?_, by simp [h2], ?_⟩
    · rw [List.map_cons, h1]
      rfl
    · intro x hx
      rcases List.mem_cons.1 hx with rfl | hx
      · omega
      · exact h3 x hx
/-- Two words lie in block g. -/
def Duow (W : World) (g : Nat) (a b : Nat) : Prop := W.heap[g]? = some (.cells #[.int .u64 a, .int .u64 b] 33 (0, 0))
theorem Duow.cells {W : World} {g a b : Nat} (h : Duow W g a b) : W.cell? ⟨g, 0, none⟩ = some (.int .u64 a) ∧ W.cell? ⟨g, 1, none⟩ = some (.int .u64 b) := ⟨cell_of_row W g 0 _ _ _ h, cell_of_row W g 1 _ _ _ h⟩
theorem Duow.lt {W : World} {g a b : Nat} (h : Duow W g a b) : g < W.heap.size := cell_lt h.cells.1
theorem Duow.below {W W' : World} {g a b : Nat} (h : Duow W g a b) (hb : Below W.heap.size W W') : Duow W' g a b := (hb.block g h.lt).trans h
theorem Duow.alloc {W : World} {g a b : Nat} (h : Duow W g a b) (o : Obj) : Duow (W.alloc o) g a b := (Below.heap_alloc W o g h.lt).trans h
theorem Duow.other {W : World} {g a b : Nat} (h : Duow W g a b) (p : Addr) (v : Value) (hp : p.block ≠ g) : Duow (W.setCell p v) g a b := (heap_setCell_other W p g v (Ne.symm hp)).trans h

/-- What stands while the bytes are added. -/
structure NInv (w : World) (g0 g1 gs gl gz : Nat) (X Y : List Nat) (sh sl lh ll S k : Nat) (W : World) : Prop where
  x : Arr16 W g0 X
  y : Arr16 W g1 Y
  sum : Duow W gs sh sl
  low : Duow W gl lh ll
  z : Arr16 W gz (zrow S k)
  bel : Below w.heap.size w W
theorem NInv.drew {w W : World} {g0 g1 gs gl gz : Nat} {X Y : List Nat} {sh sl lh ll S k : Nat} (h : NInv w g0 g1 gs gl gz X Y sh sl lh ll S k W) : NInv w g0 g1 gs gl gz X Y sh sl lh ll S k W.drew := ⟨h.x, h.y, h.sum, h.low, h.z, h.bel.drew⟩
theorem NInv.drewN {w W : World} {g0 g1 gs gl gz : Nat} {X Y : List Nat} {sh sl lh ll S k : Nat} (h : NInv w g0 g1 gs gl gz X Y sh sl lh ll S k W) (n : Nat) : NInv w g0 g1 gs gl gz X Y sh sl lh ll S k (W.drewN n) := ⟨h.x, h.y, h.sum, h.low, h.z, below_drewN' h.bel n⟩
theorem NInv.put {w W : World} {g0 g1 gs gl gz : Nat} {X Y : List Nat} {sh sl lh ll S S2 k p d a : Nat} (h : NInv w g0 g1 gs gl gz X Y sh sl lh ll S k W) (hk : k < 16) (hp : p = 15 - k) (hd : d = (a + S / 256 ^ k) % 256) (hS : S2 = a * 256 ^ k + S)
    (n0 : gz ≠ g0) (n1 : gz ≠ g1) (ns : gz ≠ gs) (nl : gz ≠ gl) (hw : w.heap.size ≤ gz) : NInv w g0 g1 gs gl gz X Y sh sl lh ll S2 (k + 1) (W.setCell ⟨gz, p, none⟩ (.int .u8 (d : Nat))) := by
  refine ⟨h.x.other _ _ n0, h.y.other _ _ n1, h.sum.other _ _ ns, h.low.other _ _ nl, ?_, h.bel.setCell hw _⟩
  have := h.z.set p d
  rw [hp, hd, zrow_set S a k hk, ← hS] at this
  rw [hp, hd]
  exact this

theorem NInv.below {w W W' : World} {g0 g1 gs gl gz : Nat} {X Y : List Nat} {sh sl lh ll S k : Nat} (h : NInv w g0 g1 gs gl gz X Y sh sl lh ll S k W) (hb : Below W.heap.size W W') : NInv w g0 g1 gs gl gz X Y sh sl lh ll S k W' :=
  ⟨h.x.below hb, h.y.below hb, h.sum.below hb, h.low.below hb, h.z.below hb, below_both h.bel hb⟩
theorem NInv.alloc {w W : World} {g0 g1 gs gl gz : Nat} {X Y : List Nat} {sh sl lh ll S k : Nat} (h : NInv w g0 g1 gs gl gz X Y sh sl lh ll S k W) (o : Obj) : NInv w g0 g1 gs gl gz X Y sh sl lh ll S k (W.alloc o) :=
  ⟨h.x.alloc o, h.y.alloc o, h.sum.alloc o, h.low.alloc o, h.z.alloc o, h.bel.alloc h.bel.size o⟩
theorem small_prod {a n : Nat} (ha : a ≤ 18446744073709551615) (hn : n ≤ 255) : a * n < 18446744073709551616 * 18446744073709551616 := by
  have := Nat.mul_le_mul ha hn
  omega
theorem carry_flag {c S : Nat} (hc : c = S / 256 ^ 16) (h1 : c ≤ 1) : (c = 0 ∧ decide (w128 ≤ S) = false) ∨ (c = 1 ∧ decide (w128 ≤ S) = true) := by
  have e : 256 ^ 16 = w128 := by decide
  rw [e] at hc
  have hw : 0 < w128 := by decide
  rcases Nat.lt_or_ge S w128 with h | h
  · exact .inl ⟨by rw [hc, Nat.div_eq_of_lt h], decide_eq_false (by omega)⟩
  · refine .inr ⟨?_, decide_eq_true h⟩
    have : 1 ≤ S / w128 := (Nat.le_div_iff_mul_le hw).2 (by omega)
    omega
/-- What Put answers of sixteen bytes. -/
def PutIs (w : World) (L : List Nat) (e : Ending) (w' : World) : Prop := e = .returned (.tuple #[.slice (some ⟨w.heap.size, 0, none⟩) 16 16, .int .i64 0]) ∧ Own w' w.heap.size L ∧ Below w.heap.size w w'
theorem eight_pow {x : Nat} (h : x ≤ 18446744073709551615) : x < 256 ^ 8 := by
  have e : 256 ^ 8 = 18446744073709551616 := by decide
  omega
theorem first_half (x : Nat) (w' : World) (hx : x ≤ 18446744073709551615) :
    Calls Try.prog 12 #[.slice (some ⟨w'.heap.size, 0, none⟩) 16 16, .int .i64 0, .int .i64 8, .int .u64 x] (w'.alloc (.cells (bcells (List.replicate 16 0)).toArray 5)) (PutIs (w'.alloc (.cells (bcells (List.replicate 16 0)).toArray 5)) (pb x 8 ++ List.replicate 8 0)) := by
  have hO : Own (w'.alloc (.cells (bcells (List.replicate 16 0)).toArray 5)) w'.heap.size (List.replicate 16 0) := Own.new _ _
  have h := put_ok (some ⟨w'.heap.size, 0, none⟩) 16 16 x 0 8 (List.replicate 16 0) _ (by decide) (by decide) (by decide) (by decide) (eight_pow hx) (by decide) (hO.row (by intro y hy; rw [List.mem_replicate] at hy; omega))
  have e : splice (List.replicate 16 0) 0 (pb x 8) = pb x 8 ++ List.replicate 8 0 := by
    unfold splice
    rw [pb_length]
    rfl
  have e2 : (pb x 8 ++ List.replicate 8 0).length = 16 := by rw [List.length_append, pb_length]; rfl
  rw [e] at h
  unfold PutTo at h
  rw [e2] at h
  exact h
theorem second_half (y x : Nat) (w' : World) (g : Nat) (hx : x ≤ 18446744073709551615) (hO : Own w' g (pb y 8 ++ List.replicate 8 0)) :
    Calls Try.prog 12 #[.slice (some ⟨g, 0, none⟩) 16 16, .int .i64 8, .int .i64 8, .int .u64 x] w' (PutIs w' (pb y 8 ++ pb x 8)) := by
  have e0 : (pb y 8 ++ List.replicate 8 0).length = 16 := by rw [List.length_append, pb_length]; rfl
  have hR : Row w' (some ⟨g, 0, none⟩) 16 (pb y 8 ++ List.replicate 8 0) := by
    have := hO.row (by
      intro z hz
      rcases List.mem_append.1 hz with hz | hz
      · exact pb_byte _ _ z hz
      · rw [List.mem_replicate] at hz; omega)
    rw [e0] at this
    exact this
  have h := put_ok (some ⟨g, 0, none⟩) 16 16 x 8 8 _ w' (by decide) (by decide) (by decide) (by decide) (eight_pow hx) (by decide) hR
  have e : splice (pb y 8 ++ List.replicate 8 0) 8 (pb x 8) = pb y 8 ++ pb x 8 := by
    unfold splice
    rw [pb_length, List.take_append_of_le_length (by rw [pb_length]; decide), List.drop_eq_nil_of_le (by rw [e0]; decide), List.take_of_length_le (by rw [pb_length]; decide), List.append_nil]
  have e2 : (pb y 8 ++ pb x 8).length = 16 := by rw [List.length_append, pb_length, pb_length]
  rw [e] at h
  unfold PutTo at h
  rw [e2] at h
  exact h
theorem own_row16 {W : World} {g S : Nat} (h : Own W g (pb S 16)) : Row W (some ⟨g, 0, none⟩) 16 (pb S 16) := by
  have := h.row (pb_byte S 16)
  rw [pb_length] at this
  exact this
theorem z_row {w W : World} {g0 g1 gs gl gz : Nat} {X Y : List Nat} {sh sl lh ll S : Nat} (h : NInv w g0 g1 gs gl gz X Y sh sl lh ll S 16 W) : Row W (some ⟨gz, 0, none⟩) 16 (pb S 16) := by
  have hz := h.z
  rw [zrow_all] at hz
  exact hz.row (pb_length S 16) (pb_byte S 16)
theorem u64_same {t : Nat} (h : t ≤ 18446744073709551615) : IntKind.u64.wrap (t : Int) = (t : Int) := IntWalk.u64_in _ ⟨by omega, by omega⟩
theorem low_int {t : Nat} (h : t ≤ 18446744073709551615) : (t : Int) ≤ 18446744073709551615 := by omega
theorem add_facts (c x y : Nat) (hc : c ≤ 1) (hx : x < 256) (hy : y < 256) : ∃ xy u d c2 : Nat, d = (x + y + c) % 256 ∧ c2 = (x + y + c) / 256 ∧
    IntKind.i64.wrap ((x : Int) + (y : Int)) = (xy : Int) ∧ IntKind.i64.wrap ((c : Int) + (xy : Int)) = (u : Int) ∧ wrap64 ((x : Int) + (y : Int)) = (xy : Int) ∧ wrap64 ((c : Int) + (xy : Int)) = (u : Int) ∧
    wrap64 (x : Int) = (x : Int) ∧ wrap64 (y : Int) = (y : Int) ∧ IntKind.i64.wrap (x : Int) = (x : Int) ∧ IntKind.i64.wrap (y : Int) = (y : Int) ∧
    (u : Int) % 256 = (d : Int) ∧ IntKind.u8.wrap (d : Int) = (d : Int) ∧ (u : Int) / 256 = (c2 : Int) ∧ (d : Int) ≤ 255 ∧ (u : Int) ≤ 511 := by
  have e1 : (x : Int) + (y : Int) = ((x + y : Nat) : Int) := by omega
  have e2 : (c : Int) + ((x + y : Nat) : Int) = ((x + y + c : Nat) : Int) := by omega
  refine ⟨x + y, x + y + c, _, _, rfl, rfl, ?_, ?_, ?_, ?_, ?_, ?_, ?_, ?_, ?_, ?_, ?_, ?_, ?_⟩
  · rw [e1]; exact IntWalk.i64_in _ ⟨by omega, by omega⟩
  · rw [e2]; exact IntWalk.i64_in _ ⟨by omega, by omega⟩
  · rw [e1]; exact IntWalk.wrap64_in _ ⟨by omega, by omega⟩
  · rw [e2]; exact IntWalk.wrap64_in _ ⟨by omega, by omega⟩
  · exact IntWalk.wrap64_in _ ⟨by omega, by omega⟩
  · exact IntWalk.wrap64_in _ ⟨by omega, by omega⟩
  · exact IntWalk.i64_in _ ⟨by omega, by omega⟩
  · exact IntWalk.i64_in _ ⟨by omega, by omega⟩
  · omega
  · exact IntWalk.u8_in _ ⟨by omega, by omega⟩
  · omega
  · omega
  · omega
theorem back_one {p k : Nat} (hp : p = 15 - k) (hk : k < 16) : (p : Int) - 1 = 15 - ((k + 1 : Nat) : Int) := by omega
theorem less_one (p : Nat) : (intOf (.int .i64 ((p : Int) - 1)) + 1).toNat < (intOf (.int .i64 (p : Int)) + 1).toNat := by simp only [intOf]; omega
theorem not_eight {p k : Nat} (hp : p = 15 - k) (hk : ¬ k < 8) : (p : Int) < 8 := by omega
theorem eight_le {k : Nat} (h : k < 8) : 8 * k ≤ 63 := by omega
theorem eight_le2 {k : Nat} (h : k < 8) : 8 * k + 8 ≤ 64 := by omega
theorem mul_facts (t x n k p : Nat) (ht : t ≤ 255) (hx : x < 256) (hn : n ≤ 255) (hp : p = 15 - k) (hk : k < 8) : ∃ m u r t2 f : Nat, r = (x * n + t) % 256 ∧ t2 = (x * n + t) / 256 ∧ f = 8 * k ∧
    (15 : Int) - (p : Int) = (k : Int) ∧ 8 * (k : Int) = (f : Int) ∧ (x : Int) * (n : Int) = (m : Int) ∧ (t : Int) + (m : Int) = (u : Int) ∧ wrap64 (n : Int) = (n : Int) ∧ wrap64 (m : Int) = (m : Int) ∧ wrap64 (u : Int) = (u : Int) ∧
    (u : Int) % 256 = (r : Int) ∧ IntKind.u64.wrap (r : Int) = (r : Int) ∧ (u : Int) / 256 = (t2 : Int) ∧ (u : Int) ≤ 65280 ∧ (f : Int) ≤ 56 ∧ (r : Int) ≤ 255 ∧ (8 : Int) ≤ (p : Int) ∧ (m : Int) ≤ 65025 ∧ wrap64 (k : Int) = (k : Int) ∧ wrap64 (f : Int) = (f : Int) ∧ wrap64 (t2 : Int) = (t2 : Int) := by
  have hm : x * n ≤ 255 * 255 := Nat.mul_le_mul (by omega) hn
  have em : (x : Int) * (n : Int) = ((x * n : Nat) : Int) := by simp
  refine ⟨x * n, x * n + t, _, _, _, rfl, rfl, rfl, by omega, by omega, em, ?_⟩
  generalize x * n = m at *
  exact ⟨by omega, IntWalk.wrap64_in _ ⟨by omega, by omega⟩, IntWalk.wrap64_in _ ⟨by omega, by omega⟩, IntWalk.wrap64_in _ ⟨by omega, by omega⟩, by omega, IntWalk.u64_in _ ⟨by omega, by omega⟩, by omega, by omega, by omega, by omega, by omega, by omega, IntWalk.wrap64_in _ ⟨by omega, by omega⟩, IntWalk.wrap64_in _ ⟨by omega, by omega⟩, IntWalk.wrap64_in _ ⟨by omega, by omega⟩⟩

set_option maxRecDepth 10000 in
set_option maxHeartbeats 6400000 in
theorem walk_WholeNumbers (zs0 zs1 : List Int) (n : Nat) (w : World) (hn0 : zs0.length = 16) (hz0 : ∀ z ∈ zs0, (Lit.int .u8 z).wf = true) (hn1 : zs1.length = 16) (hz1 : ∀ z ∈ zs1, (Lit.int .u8 z).wf = true) (hn : n ≤ 255) :
    Calls Try.prog 4 #[.agg (zs0.map (Value.int .u8)).toArray, .agg (zs1.map (Value.int .u8)).toArray, .int .u8 n] w fun e w' => e = .returned (.bool true) ∧ Below w.heap.size w w' := by
  obtain ⟨X, eX, hX, bX⟩ := nats_of hz0
  obtain ⟨Y, eY, hY, bY⟩ := nats_of hz1
  rw [eX, eY]
  rw [hn0] at hX
  rw [hn1] at hY
  clear eX eY hz0 hz1 hn0 hn1 zs0 zs1
  obtain ⟨ah, hah⟩ : ∃ v, v = be (X.take 8) := ⟨_, rfl⟩
  obtain ⟨al, hal⟩ : ∃ v, v = be (X.drop 8) := ⟨_, rfl⟩
  obtain ⟨bh, hbh⟩ : ∃ v, v = be (Y.take 8) := ⟨_, rfl⟩
  obtain ⟨bl, hbl⟩ : ∃ v, v = be (Y.drop 8) := ⟨_, rfl⟩
  have lah : ah ≤ 18446744073709551615 := by rw [hah]; exact be_lt8 _ (mem_take bX) (by rw [List.length_take]; omega)
  have lal : al ≤ 18446744073709551615 := by rw [hal]; exact be_lt8 _ (mem_drop bX) (by rw [List.length_drop]; omega)
  have lbh : bh ≤ 18446744073709551615 := by rw [hbh]; exact be_lt8 _ (mem_take bY) (by rw [List.length_take]; omega)
  have lbl : bl ≤ 18446744073709551615 := by rw [hbl]; exact be_lt8 _ (mem_drop bY) (by rw [List.length_drop]; omega)
  obtain ⟨S, hS⟩ : ∃ v, v = wnum ah al + wnum bh bl := ⟨_, rfl⟩
  have hS2 : S = sfx X 16 + sfx Y 16 := by rw [hS, hah, hal, hbh, hbl, halves_be hX, halves_be hY]
  obtain ⟨v, hv⟩ : ∃ v, v = decide (w128 ≤ S) := ⟨_, rfl⟩
  have hal8 : al = sfx X 8 := hal
  obtain ⟨sh, hsh⟩ : ∃ v, v = whi S := ⟨_, rfl⟩
  obtain ⟨sl, hsl⟩ : ∃ v, v = wlo S := ⟨_, rfl⟩
  obtain ⟨lh, hlh⟩ : ∃ v, v = whi (al * n) := ⟨_, rfl⟩
  obtain ⟨ll, hll⟩ : ∃ v, v = wlo (al * n) := ⟨_, rfl⟩
  have C1 : Hid (∀ w, Calls Try.prog 7 #[.agg (bcells X).toArray] w fun e w' => e = .returned (.tuple #[.agg #[.int .u64 ah, .int .u64 al], .bool true]) ∧ Below w.heap.size w w') := fun w => read_any X ah al w hX bX hah hal
  have C2 : Hid (∀ w, Calls Try.prog 7 #[.agg (bcells Y).toArray] w fun e w' => e = .returned (.tuple #[.agg #[.int .u64 bh, .int .u64 bl], .bool true]) ∧ Below w.heap.size w w') := fun w => read_any Y bh bl w hY bY hbh hbl
  have C3 : Hid (∀ w, Calls Try.prog 9 #[.agg #[.int .u64 ah, .int .u64 al], .agg #[.int .u64 bh, .int .u64 bl]] w fun e w' => e = .returned (.tuple #[.agg #[.int .u64 sh, .int .u64 sl], .bool v]) ∧ Below w.heap.size w w') := fun w => by
    rw [hsh, hsl]
    exact add_raw ah al bh bl S v w lah lal lbh lbl hS hv
  have C4 : Hid (∀ w, Calls Try.prog 10 #[.int .u64 al, .int .u64 n] w fun e w' => e = .returned (.agg #[.int .u64 lh, .int .u64 ll]) ∧ Below w.heap.size w w') := fun w => by
    rw [hlh, hll]
    exact mul_any al n w lal (by omega)
  have hsX : (bcells X).length = 16 := by rw [bcells_length, hX]
  have hsY : (bcells Y).length = 16 := by rw [bcells_length, hY]
  have A0 : Hid (Arr16 ((w.alloc (.cells (bcells X).toArray 30)).alloc (.cells (bcells Y).toArray 30)) w.heap.size X) := heap_alloc2_old w _ _
  have A1 : Hid (Arr16 ((w.alloc (.cells (bcells X).toArray 30)).alloc (.cells (bcells Y).toArray 30)) (w.heap.size + 1) Y) := heap_alloc2_new w _ _
  have BB : Hid (Below w.heap.size w ((w.alloc (.cells (bcells X).toArray 30)).alloc (.cells (bcells Y).toArray 30))) := ((Below.refl _ _).alloc (Nat.le_refl _) _).alloc (by simp) _
  have H1 := Lib.hid (And.intro hS2 (And.intro hv (And.intro hsh (And.intro hsl (And.intro hlh hll)))))
  have H2 := Lib.hid hal8
  have hal64 := Lib.hid lal
  have HX := Lib.hid (And.intro hX bX)
  have HY := Lib.hid (And.intro hY bY)
  clear hah hal hbh hbl lah lal lbh lbl hS hS2 hv hal8 hsh hsl hlh hll bX bY hX hY
  go_enter Try.func4, Try.ntmps4
  go_upto_region 2 with fail
  refine wp_region_lit ?_
  go_wp2_with (refine wpList_load_16 rfl (.tmp 3) rfl _ rfl A0.out HX.out.1 ?_)
  refine (C1.out _).mono ?_
  rintro e w1 ⟨rfl, b1⟩
  have A0 := Lib.hid ((A0.out.below b1).alloc (.cells #[.int .u64 ah, .int .u64 al] 33))
  have A1 := Lib.hid ((A1.out.below b1).alloc (.cells #[.int .u64 ah, .int .u64 al] 33))
  have BB := Lib.hid ((below_both BB.out b1).alloc (below_both BB.out b1).size (.cells #[.int .u64 ah, .int .u64 al] 33))
  have D1 : Hid (Duow (w1.alloc (.cells #[.int .u64 ah, .int .u64 al] 33)) w1.heap.size ah al) := heap_alloc_new w1 _
  clear b1
  go_upto_region 3 with fail
  refine wp_region_lit ?_
  go_wp2_with (refine wpList_load_16 rfl (.tmp 4) rfl _ rfl A1.out HY.out.1 ?_)
  refine (C2.out _).mono ?_
  rintro e w2 ⟨rfl, b2⟩
  have A0 := Lib.hid ((A0.out.below b2).alloc (.cells #[.int .u64 bh, .int .u64 bl] 33))
  have A1 := Lib.hid ((A1.out.below b2).alloc (.cells #[.int .u64 bh, .int .u64 bl] 33))
  have D1 := Lib.hid ((D1.out.below b2).alloc (.cells #[.int .u64 bh, .int .u64 bl] 33))
  have BB := Lib.hid ((below_both BB.out b2).alloc (below_both BB.out b2).size (.cells #[.int .u64 bh, .int .u64 bl] 33))
  have D2 : Hid (Duow (w2.alloc (.cells #[.int .u64 bh, .int .u64 bl] 33)) w2.heap.size bh bl) := heap_alloc_new w2 _
  clear b2
  obtain ⟨d0, d1⟩ := D1.out.cells
  obtain ⟨e0, e1⟩ := D2.out.cells
  go_wp2_with fail
  refine (C3.out _).mono ?_
  rintro e w3 ⟨rfl, b3⟩
  clear d0 d1 e0 e1 D2
  have A0 := Lib.hid ((A0.out.below b3).alloc (.cells #[.int .u64 sh, .int .u64 sl] 33))
  have A1 := Lib.hid ((A1.out.below b3).alloc (.cells #[.int .u64 sh, .int .u64 sl] 33))
  have D1 := Lib.hid ((D1.out.below b3).alloc (.cells #[.int .u64 sh, .int .u64 sl] 33))
  have BB := Lib.hid ((below_both BB.out b3).alloc (below_both BB.out b3).size (.cells #[.int .u64 sh, .int .u64 sl] 33))
  have D3 : Hid (Duow (w3.alloc (.cells #[.int .u64 sh, .int .u64 sl] 33)) w3.heap.size sh sl) := heap_alloc_new w3 _
  clear b3
  obtain ⟨d0, d1⟩ := D1.out.cells
  go_wp2_with fail
  refine (C4.out _).mono ?_
  rintro e w4 ⟨rfl, b4⟩
  clear d0 d1 D1
  have A0 := Lib.hid ((A0.out.below b4).alloc (.cells #[.int .u64 lh, .int .u64 ll] 33))
  have A1 := Lib.hid ((A1.out.below b4).alloc (.cells #[.int .u64 lh, .int .u64 ll] 33))
  have D3 := Lib.hid ((D3.out.below b4).alloc (.cells #[.int .u64 lh, .int .u64 ll] 33))
  have BB := Lib.hid ((below_both BB.out b4).alloc (below_both BB.out b4).size (.cells #[.int .u64 lh, .int .u64 ll] 33))
  have D4 : Hid (Duow (w4.alloc (.cells #[.int .u64 lh, .int .u64 ll] 33)) w4.heap.size lh ll) := heap_alloc_new w4 _
  have g1 : Hid (w4.heap.size < (w4.alloc (.cells #[.int .u64 lh, .int .u64 ll] 33)).heap.size) := by show _ < _; simp
  have g3 : Hid (w3.heap.size < (w4.alloc (.cells #[.int .u64 lh, .int .u64 ll] 33)).heap.size) := D3.out.lt
  have g4 : Hid (w.heap.size + 1 < (w4.alloc (.cells #[.int .u64 lh, .int .u64 ll] 33)).heap.size) := A1.out.lt
  clear b4
  go_upto_block 0 with fail
  have hUs : Hid ((w4.alloc (.cells #[.int .u64 lh, .int .u64 ll] 33)).heap.size = w4.heap.size + 1) := by show _ = _; simp
  generalize w4.alloc (.cells #[.int .u64 lh, .int .u64 ll] 33) = U at *
  have HI : Hid (NInv w w.heap.size (w.heap.size + 1) w3.heap.size w4.heap.size (w4.heap.size + 1) X Y sh sl lh ll 0 0 (U.alloc (.cells #[.int .u8 0, .int .u8 0, .int .u8 0, .int .u8 0, .int .u8 0, .int .u8 0, .int .u8 0, .int .u8 0, .int .u8 0, .int .u8 0, .int .u8 0, .int .u8 0, .int .u8 0, .int .u8 0, .int .u8 0, .int .u8 0] 30))) := by
    refine ⟨A0.out.alloc _, A1.out.alloc _, D3.out.alloc _, D4.out.alloc _, ?_, BB.out.alloc BB.out.size _⟩
    rw [zrow_zero]
    have h := heap_alloc_new U (.cells #[.int .u8 0, .int .u8 0, .int .u8 0, .int .u8 0, .int .u8 0, .int .u8 0, .int .u8 0, .int .u8 0, .int .u8 0, .int .u8 0, .int .u8 0, .int .u8 0, .int .u8 0, .int .u8 0, .int .u8 0, .int .u8 0] 30)
    rw [hUs.out] at h
    exact h
  have hU : Hid (w.heap.size ≤ w4.heap.size + 1) := by rw [← hUs.out]; exact BB.out.size
  rw [hUs.out] at g1 g3 g4
  clear hUs
  generalize U.alloc (.cells #[.int .u8 0, .int .u8 0, .int .u8 0, .int .u8 0, .int .u8 0, .int .u8 0, .int .u8 0, .int .u8 0, .int .u8 0, .int .u8 0, .int .u8 0, .int .u8 0, .int .u8 0, .int .u8 0, .int .u8 0, .int .u8 0] 30) = V at *
  generalize w4.heap.size = gl at *
  generalize w3.heap.size = gs at *
  clear A0 A1 D3 D4 BB C1 C2 C3 C4
  go_wp2_with fail
  go_loopw [16, 17, 18] (fun cv tv iv wr => ∃ (k c t S1 : Nat) (q : Int), k ≤ 16 ∧ iv = .int .i64 q ∧ cv = .int .i64 (c : Nat) ∧ tv = .int .i64 (t : Nat) ∧ Hid (q = 15 - (k : Int)) ∧ Hid (S1 = sfx X k + sfx Y k) ∧ Hid (c = S1 / 256 ^ k) ∧
    Hid (t = sfx X (min k 8) * n / 256 ^ (min k 8)) ∧ NInv w w.heap.size (w.heap.size + 1) gs gl (gl + 1) X Y sh sl lh ll S1 k wr) (fun _ _ i _ => (intOf i + 1).toNat)
  case atStart =>
    refine ⟨0, 0, 0, 0, 15, by decide, rfl, rfl, rfl, by rfl, ?_, ?_, ?_, HI.out⟩
    · show 0 = sfx X 0 + sfx Y 0
      rw [sfx_zero HX.out.1, sfx_zero HY.out.1]
    · show 0 = 0 / 256 ^ 0
      rfl
    · show 0 = sfx X (min 0 8) * n / 256 ^ (min 0 8)
      rw [Nat.zero_min, sfx_zero HX.out.1, Nat.zero_mul, Nat.zero_div]
  case round =>
    obtain ⟨k, c, t, S1, q, hk, rfl, rfl, rfl, hq, hS1, hc, ht, HI0⟩ := hrel
    have HI := Lib.hid HI0
    clear HI0
    have hc1 : c ≤ 1 := by rw [hc.out, hS1.out]; exact sum_carry HX.out.1 HY.out.1 HX.out.2 HY.out.2 hk
    have ht1 : t ≤ 255 := by rw [ht.out]; exact mul_carry HX.out.1 HX.out.2 hn (by omega)
    by_cases hlt : k < 16
    · obtain ⟨p, hp⟩ : ∃ p, p = 15 - k := ⟨_, rfl⟩
      have hqp : q = (p : Int) := by rw [hq.out]; omega
      subst hqp
      have hp15 : p ≤ 15 := by omega
      have hpx : p < X.length := by rw [HX.out.1]; omega
      have hpy : p < Y.length := by rw [HY.out.1]; omega
      have cx := HI.out.x.cell p hpx
      have cy := HI.out.y.cell p hpy
      have cz := HI.out.z.cell p (by rw [zrow_len _ _ hk]; omega)
      have fz := HI.out.z.frozen p
      obtain ⟨x, hx⟩ : ∃ x, X.getD p 0 = x := ⟨_, rfl⟩
      obtain ⟨y, hy⟩ : ∃ y, Y.getD p 0 = y := ⟨_, rfl⟩
      have hx8 : x < 256 := by
        rw [← hx, List.getD_eq_getElem?_getD, List.getElem?_eq_getElem hpx]
        exact HX.out.2 _ (List.getElem_mem hpx)
      have hy8 : y < 256 := by
        rw [← hy, List.getD_eq_getElem?_getD, List.getElem?_eq_getElem hpy]
        exact HY.out.2 _ (List.getElem_mem hpy)
      rw [hx] at cx
      rw [hy] at cy
      generalize (zrow S1 k).getD p 0 = z0 at cz
      obtain ⟨xy, u, d, c2, hd, hc2, o1, o2, o1', o2', ox, oy, ox', oy', o3, o4, o5, o6, o7⟩ := add_facts c x y hc1 hx8 hy8
      -- what stands behind
      have E1 : Hid (sfx X (k + 1) + sfx Y (k + 1) = (x + y) * 256 ^ k + S1) := by
        show _ = _
        rw [sum_step HX.out.1 HY.out.1 hlt, ← hp, hx, hy, hS1.out]
      have E2 : Hid (d = ((x + y) + S1 / 256 ^ k) % 256) := by
        show _ = _
        rw [hd, ← hc.out]
      have E3 : Hid (c2 = ((x + y) * 256 ^ k + S1) / 256 ^ (k + 1)) := by
        show _ = _
        rw [carry_step, ← hc.out, hc2]
      have HP := Lib.hid hp
      have HXX := Lib.hid hx
      clear hd hc2 hx hy hp
      have ne0 : gl + 1 ≠ gl := by omega
      have ne1 : gl ≠ gl + 1 := fun e => ne0 e.symm
      have HN : Hid (NInv w w.heap.size (w.heap.size + 1) gs gl (gl + 1) X Y sh sl lh ll ((x + y) * 256 ^ k + S1) (k + 1) (wr.drew.setCell ⟨gl + 1, p, none⟩ (.int .u8 d))) :=
        HI.out.drew.put hlt HP.out E2.out rfl (by have := g4.out; omega) (by have := g4.out; omega) (by have := g3.out; omega) ne0 hU.out
      obtain ⟨l0, l1⟩ := HI.out.low.cells
      have hpx2 := Lib.hid hpx
      have hpy2 := Lib.hid hpy
      have hx82 := Lib.hid hx8
      have hy82 := Lib.hid hy8
      have hlt2 := Lib.hid hlt
      clear hpx hpy hx8 hy8 hlt hk
      go_upto_region 11 with fail
      go_region
      have ox2 := Lib.hid ox
      have ne2 := Lib.hid ne0
      clear o1 o2 o1' o2' ox oy ox' oy' hsX hsY ne0 ne1 cx cy
      go_upto_region 14 with fail
      have HN : Hid (NInv w w.heap.size (w.heap.size + 1) gs gl (gl + 1) X Y sh sl lh ll ((x + y) * 256 ^ k + S1) (k + 1) (wr.setCell ⟨gl + 1, p, none⟩ (.int .u8 d)).drew) := HN.out
      clear cz fz o3 o4 o5 o6 o7 HI
      generalize (wr.setCell ⟨gl + 1, p, none⟩ (.int .u8 d)).drew = V2 at *
      obtain ⟨l0, l1⟩ := HN.out.low.cells
      have kx := HN.out.x.cell p hpx2.out
      rw [HXX.out] at kx
      by_cases h8 : k < 8
      · obtain ⟨m, u2, r, t2, f, hr, ht2, hf, s1, s2, s3, s4, n1, n2, n3, s5, s6, s7, s8, s9, s10, s11, s12, n4, n5, n6⟩ := mul_facts t x n k p ht1 hx82.out hn HP.out h8
        have hmk : min k 8 = k := Nat.min_eq_left (Nat.le_of_lt h8)
        have htk : t = sfx X k * n / 256 ^ k := by have := ht.out; rw [hmk] at this; exact this
        have CB : Hid (∀ w, Calls Try.prog 11 #[.int .u64 ll, .int .i64 f, .int .i64 8] w (Quiet (.int .u64 (r : Nat)) w)) := fun w => by
          have h := bits_ok ll f 8 w (by rw [H1.out.2.2.2.2.2]; exact wlo_le _) (by rw [hf]; exact eight_le h8) (by rw [hf]; exact eight_le2 h8)
          have e : ll / 2 ^ f % 2 ^ 8 = r := by
            rw [H1.out.2.2.2.2.2, H2.out, hf, mul_digit HX.out.1 HX.out.2 n h8, ← HP.out, HXX.out, ← htk, hr]
          rw [e] at h
          exact h
        have HT : Hid (t2 = sfx X (min (k + 1) 8) * n / 256 ^ (min (k + 1) 8)) := by
          show _ = _
          rw [Nat.min_eq_left (show k + 1 ≤ 8 from h8), nmul_step HX.out.1 n hlt2.out, carry_step, ← htk, ← HP.out, HXX.out, ht2]
        have h82 := Lib.hid h8
        have ox := ox2.out
        have hn2 := Lib.hid hn
        clear hr ht2 hf hmk htk h8 s8 s9 s10 s12 hc1 ht1 hn
        have S1' := Lib.hid s1
        have S2' := Lib.hid s2
        have S5' := Lib.hid s5
        have S6' := Lib.hid s6
        have S7' := Lib.hid s7
        have N4' := Lib.hid n4
        have N5' := Lib.hid n5
        have N3' := Lib.hid n3
        have N6' := Lib.hid n6
        clear n6 s1 s2 s5 s6 s7 n4 n5
        go_upto_region 16 with fail
        clear s3 s4 n1 n2 n3 ox kx
        have s1 := S1'.out
        have s2 := S2'.out
        have n4 := N4'.out
        have n5 := N5'.out
        go_wp2_with fail
        refine (CB.out _).mono ?_
        rintro e w' ⟨rfl, ⟨nq, rfl⟩⟩
        clear s1 s2 n4 n5 l0 l1
        have s5 := S5'.out
        have s6 := S6'.out
        have s7 := S7'.out
        have n3 := N3'.out
        go_wp2_with fail
        go_roundw
        case rel => exact ⟨k + 1, c2, t2, (x + y) * 256 ^ k + S1, (p : Int) - 1, hlt2.out, rfl, rfl, by rw [N6'.out], back_one HP.out hlt2.out, E1.out.symm, E3.out, HT.out, HN.out.drewN nq⟩
        case measure => exact less_one p
      · have h9 : (p : Int) < 8 := not_eight HP.out h8
        have HT : Hid (t = sfx X (min (k + 1) 8) * n / 256 ^ (min (k + 1) 8)) := by
          have h := ht.out
          have h10 : 8 ≤ k := Nat.le_of_not_lt h8
          rw [Nat.min_eq_right h10] at h
          show _ = _
          rw [Nat.min_eq_right (Nat.le_succ_of_le h10)]
          exact h
        clear h8
        go_wp2_with fail
        go_roundw
        case rel => exact ⟨k + 1, c2, t, (x + y) * 256 ^ k + S1, (p : Int) - 1, hlt2.out, rfl, rfl, rfl, back_one HP.out hlt2.out, E1.out.symm, E3.out, HT.out, HN.out⟩
        case measure => exact less_one p
    · obtain rfl : k = 16 := by omega
      have hq1 : q = -1 := by rw [hq.out]; rfl
      subst hq1
      obtain rfl : S1 = S := by rw [hS1.out, H1.out.1]
      obtain rfl : t = lh := by
        rw [ht.out, H1.out.2.2.2.2.1, H2.out, show min 16 8 = 8 from rfl]
        exact (whi_small (small_prod (by rw [← H2.out]; exact hal64.out) hn)).symm
      have HT64 : Hid (t ≤ 18446744073709551615) := by
        show t ≤ _
        rw [H1.out.2.2.2.2.1]
        exact whi_le _
      have hcv : (c = 0 ∧ v = false) ∨ (c = 1 ∧ v = true) := by
        rw [H1.out.2.1]
        exact carry_flag hc.out hc1
      have hcv := Lib.hid hcv
      have HB := Lib.hid HI.out.bel
      obtain ⟨a0, a1⟩ := HI.out.sum.cells
      have hmk : ∀ w, (Instr.makeSlice 22 (.int .i64 16) (.int .i64 16)).run Try.prog w = .ok (.slice (some ⟨w.heap.size, 0, none⟩) 16 16) (w.alloc (.cells (bcells (List.replicate 16 0)).toArray 5)) := fun w => make_bytes 16 (by decide) w
      have CP0 : Hid (∀ w' : World, Calls Try.prog 12 #[.slice (some ⟨w'.heap.size, 0, none⟩) 16 16, .int .i64 0, .int .i64 8, .int .u64 sh] (w'.alloc (.cells (bcells [0, 0, 0, 0, 0, 0, 0, 0, 0, 0, 0, 0, 0, 0, 0, 0]).toArray 5)).drew (PutIs (w'.alloc (.cells (bcells [0, 0, 0, 0, 0, 0, 0, 0, 0, 0, 0, 0, 0, 0, 0, 0]).toArray 5)).drew (pb sh 8 ++ List.replicate 8 0))) := fun w' => first_half sh w'.drew (by rw [H1.out.2.2.1]; exact whi_le _)
      have CP1 : Hid (∀ w' g, Own w' g (pb sh 8 ++ List.replicate 8 0) → Calls Try.prog 12 #[.slice (some ⟨g, 0, none⟩) 16 16, .int .i64 8, .int .i64 8, .int .u64 sl] w' (PutIs w' (pb S1 16))) := fun w' g hO => by
        have h := second_half sh sl w' g (by rw [H1.out.2.2.2.1]; exact wlo_le _) hO
        rw [pb_halves, ← H1.out.2.2.1, ← H1.out.2.2.2.1]
        exact h
      have hn2 := Lib.hid hn
      clear hk hlt hc1 ht1 hsX hsY hn a0 a1
      go_wp2_with fail
      have HD := Lib.hid HI.out.drew
      have HD2 : Hid (NInv w w.heap.size (w.heap.size + 1) gs gl (gl + 1) X Y sh sl t ll S1 16 (wr.alloc (.cells (bcells [0, 0, 0, 0, 0, 0, 0, 0, 0, 0, 0, 0, 0, 0, 0, 0]).toArray 5)).drew) := HI.out.drew.alloc _
      have hMk := Lib.hid HD2.out.sum.cells
      clear HI
      have h0 : wr.drew.cell? ⟨gs, 0, none⟩ = some (.int .u64 sh) ∧ wr.drew.cell? ⟨gs, 1, none⟩ = some (.int .u64 sl) := HD.out.sum.cells
      go_region_held3 (fun w' => w'.cell? ⟨gs, 0, none⟩ = some (.int .u64 sh) ∧ w'.cell? ⟨gs, 1, none⟩ = some (.int .u64 sl))
        (first | exact h0 | exact hMk.out | exact hTwo | go_keep)
        (first
          | (go_at_call 12; ((refine (CP0.out _).mono ?_); rintro e w' ⟨rfl, hO', hb'⟩; have hTwo : w'.cell? ⟨gs, 0, none⟩ = some (.int .u64 sh) ∧ w'.cell? ⟨gs, 1, none⟩ = some (.int .u64 sl) := (HD2.out.below hb').sum.cells; have HE := Lib.hid (HD2.out.below hb'); have HO := Lib.hid hO'))
          | fail)
      all_goals
        obtain ⟨b0, b1⟩ := hTwo
        clear h0
        have HO1 := HO.out
        rw [show (wr.alloc (.cells (bcells [0, 0, 0, 0, 0, 0, 0, 0, 0, 0, 0, 0, 0, 0, 0, 0]).toArray 5)).drew.heap.size = wr.heap.size + 1 from by simp [World.drew]] at HO1
        have HO := Lib.hid HO1
        clear HO1
        go_wp2_with fail
        refine (CP1.out _ _ HO.out).mono ?_
        rintro e w8 ⟨rfl, hO2, b8⟩
        have HF := Lib.hid (HE.out.below b8)
        have HO2 := Lib.hid hO2
        clear b0 b1 hO2 b8 HO HE hmk
        go_wp2_with fail
        have hw := u64_same HT64.out
        have HD8 : Hid (NInv w w.heap.size (w.heap.size + 1) gs gl (gl + 1) X Y sh sl t ll S1 16 w8.drew) := HF.out.drew
        have HO8 : Hid (Own w8.drew w'.heap.size (pb S1 16)) := HO2.out
        generalize w'.heap.size = g9 at *
        clear HF HO2 HD HD2 hMk CP0 CP1
        obtain ⟨tx, htx⟩ : ∃ tx, tx = str (pb S1 16) := ⟨_, rfl⟩
        have HCV : Hid (∀ w', Below w8.drew.heap.size w8.drew w' → w'.cell? ⟨gl, 0, none⟩ = some (.int .u64 t) ∧ (convert 22 9 (.slice (some ⟨g9, 0, none⟩) 16 16)).run Try.prog w' = .ok (.string tx) w' ∧ (convert 22 9 (.slice (some ⟨gl + 1, 0, none⟩) 16 16)).run Try.prog w' = .ok (.string tx) w') := by
          intro w' hb
          rw [htx]
          exact ⟨(HD8.out.below hb).low.cells.1, conv_str (own_row16 (Own.below HO8.out hb HO8.out.lt)), conv_str (z_row (HD8.out.below hb))⟩
        have h0 := HCV.out _ (Below.refl _ _)
        clear htx
        rcases hcv.out with ⟨rfl, rfl⟩ | ⟨rfl, rfl⟩
        all_goals
          clear hcv hq hS1 hc ht H1 H2 HX HY hal64 g1 g3 g4 hU HT64 hn2 HB
          go_region_held3 (fun w' => w'.cell? ⟨gl, 0, none⟩ = some (.int .u64 t) ∧ (convert 22 9 (.slice (some ⟨g9, 0, none⟩) 16 16)).run Try.prog w' = .ok (.string tx) w' ∧ (convert 22 9 (.slice (some ⟨gl + 1, 0, none⟩) 16 16)).run Try.prog w' = .ok (.string tx) w')
            (first | exact h0 | exact hTwo | go_keep)
            (first
            | (go_at_call 13; ((refine (awake_any _).mono ?_); rintro e w9 ⟨rfl, hb9⟩; have HG := Lib.hid (HD8.out.below hb9); have hTwo := HCV.out w9 hb9; clear hb9))
            | fail)
          all_goals
            go_wp2_with fail
            go_ret
            exact ⟨by simp, HG.out.bel⟩
end Go.Proofs.Ytfnbbhnigndifaa
