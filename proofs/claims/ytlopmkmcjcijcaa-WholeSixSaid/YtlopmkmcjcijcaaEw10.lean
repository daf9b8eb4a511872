/-
  The examples of layer 11 come out as they must: the contract of weighbridgelaw11.live.
-/
import Derived.Test.YtlopmkmcjcijcaaEw5
namespace Go.Proofs.Ytlopmkmcjcijcaa
open Go.RowKit
set_option linter.unusedVariables false

def Z6 : List Nat := [0, 0, 0, 0, 0, 0]
def F6 : List Nat := [0, 9, 0, 0, 0, 7]
def B16 : List Nat := [44, 0, 0, 0, 0, 0, 0, 0, 17, 0, 0, 9, 0, 0, 0, 7]
def B19 : List Nat := [44, 0, 0, 0, 0, 0, 0, 0, 17, 0, 0, 9, 0, 0, 0, 7, 1, 2, 3]
def HF : List (Int × List Nat) := [(0, Z6), (44, F6)]
def FH : List (Int × List Nat) := [(44, F6), (0, Z6)]
theorem chk_HF : exCheck HF 17 = (0, 0) := by decide +kernel
theorem byt_HF : exBytes 17 HF = B16 := by decide +kernel
theorem chk_FH : exCheck FH 17 = (6, 1) := by decide +kernel
theorem chk_nil : exCheck [] 44 = (1, 0) := by decide +kernel
theorem go_19 : (walkF 19 B19 9 (Tour.start 0) []).1.defects = [] ∧ (walkF 19 B19 9 (Tour.start 0) []).1.walk = [.int .i64 17, .int .i64 16, .int .i64 2, .int .i64 1, .int .i64 2] := ⟨by decide +kernel, by kernel_rfl⟩
theorem go_16 : (walkF 16 B16 9 (Tour.start 60) []).1.defects = [] ∧ (walkF 16 B16 9 (Tour.start 60) []).1.walk = [.int .i64 17, .int .i64 16, .int .i64 2, .int .i64 1, .int .i64 2] := ⟨by decide +kernel, by kernel_rfl⟩
theorem go_9 : (walkF 9 (B16.take 9) 9 (Tour.start 0) []).1.defects = [10] := by decide +kernel
theorem ls_16 : ((walkF 16 B16 9 (Tour.start 0) []).2).length = 2 ∧ ∀ m ∈ (walkF 16 B16 9 (Tour.start 0) []).2, m.2.length ≤ 140737488355328 := ⟨by decide +kernel, by decide +kernel⟩
theorem exts_two {V : World} (k1 k2 : Int) (A1 A2 : Option Addr) (c1 c2 : Nat) (l1 l2 : List Nat) (r1 : Row V A1 l1.length l1) (r2 : Row V A2 l2.length l2) (h1 : l1.length ≤ c1) (h2 : l2.length ≤ c2) (b1 : l1.length ≤ 140737488355328) (b2 : l2.length ≤ 140737488355328) :
    ExtsIn (V.alloc (.cells #[.int .i64 k1, .slice A1 l1.length c1, .int .i64 k2, .slice A2 l2.length c2] 45)) (.slice (some ⟨V.heap.size, 0, none⟩) 2 2) [(k1, l1), (k2, l2)] := by
  have hA : ArrV 45 (V.alloc (.cells #[.int .i64 k1, .slice A1 l1.length c1, .int .i64 k2, .slice A2 l2.length c2] 45)) V.heap.size [.int .i64 k1, .slice A1 l1.length c1, .int .i64 k2, .slice A2 l2.length c2] := ArrV.new _ V _
  refine ⟨_, 2, rfl, Nat.le_refl _, fun i m hm => ?_⟩
  match i, hm with
  | 0, hm =>
    have e : (k1, l1) = m := by simpa using hm
    subst e
    exact ⟨b1, _, 0, _, rfl, hA.lt, (hA.get 0).trans rfl, (hA.get 1).trans rfl, ⟨A1, c1, rfl, h1, r1.alloc _⟩⟩
  | 1, hm =>
    have e : (k2, l2) = m := by simpa using hm
    subst e
    exact ⟨b2, _, 0, _, rfl, hA.lt, (hA.get 2).trans rfl, (hA.get 3).trans rfl, ⟨A2, c2, rfl, h2, r2.alloc _⟩⟩
theorem l11_write1 (v : Value) (w : World) (h : ExtsIn w v HF) : Calls Try.prog 27 #[v, .int .i64 17] w fun e w' => ∃ g c, e = .returned (.tuple #[.slice (some ⟨g, 0, none⟩) 16 c, .agg #[.int .i64 0, .int .i64 0]]) ∧ OutIs w.heap.size w' (.slice (some ⟨g, 0, none⟩) 16 c) B16 ∧ 16 ≤ c ∧ Below w.heap.size w w' := by
  refine (exwrite_any v HF 17 w h (by decide)).mono ?_
  rintro e w' ⟨hb, _, h3⟩
  obtain ⟨v', he, ho⟩ := h3 (by rw [chk_HF])
  rw [byt_HF] at ho
  obtain ⟨g, c, e2, _, hc, _⟩ := ho.block (by decide)
  subst e2
  exact ⟨g, c, he, ho, hc, hb⟩
theorem l11_write2 (v : Value) (w : World) (h : ExtsIn w v FH) : Calls Try.prog 27 #[v, .int .i64 17] w fun e w' => e = .returned (.tuple #[.slice none 0 0, .agg #[.int .i64 6, .int .i64 1]]) ∧ Below w.heap.size w w' := by
  refine (exwrite_any v FH 17 w h (by decide)).mono ?_
  rintro e w' ⟨hb, h2, _⟩
  have he := h2 (by rw [chk_FH]; decide)
  rw [chk_FH] at he
  exact ⟨he, hb⟩
theorem l11_write3 (w : World) : Calls Try.prog 27 #[.slice none 0 0, .int .i64 44] w fun e w' => e = .returned (.tuple #[.slice none 0 0, .agg #[.int .i64 1, .int .i64 0]]) ∧ Below w.heap.size w w' := by
  refine (exwrite_any (.slice none 0 0) [] 44 w ⟨none, 0, rfl, Nat.le_refl _, fun i m hm => by simp at hm⟩ (by decide)).mono ?_
  rintro e w' ⟨hb, h2, _⟩
  have he := h2 (by rw [chk_nil]; decide)
  rw [chk_nil] at he
  exact ⟨he, hb⟩
theorem l11_go19 (A : Option Addr) (c : Nat) (w : World) (hc : 19 ≤ c) (h : Row w A 19 B19) : Calls Try.prog 16 #[.int .i64 0, .slice A 19 c] w fun e w' => ∃ A' c', e = .returned (.tuple #[.agg #[.int .i64 17, .int .i64 16, .int .i64 2, .int .i64 1, .int .i64 2], .slice A' 0 c']) ∧ Below w.heap.size w w' := by
  refine (exgo_tour 0 A 19 c B19 w hc (by decide) h).mono ?_
  rintro e w' ⟨v, he, ⟨A', c', ev, _, _⟩, hb⟩
  rw [go_19.1] at ev
  subst ev
  have et : (walkF 19 B19 9 (Tour.start 0) []).1.told = [.int .i64 17, .int .i64 16, .int .i64 2, .int .i64 1, .int .i64 2] := by unfold Tour.told; rw [if_pos go_19.1, go_19.2]
  rw [et] at he
  exact ⟨A', c', he, hb⟩
theorem l11_go16 (A : Option Addr) (c : Nat) (w : World) (hc : 16 ≤ c) (h : Row w A 16 B16) : Calls Try.prog 16 #[.int .i64 60, .slice A 16 c] w fun e w' => ∃ A' c', e = .returned (.tuple #[.agg #[.int .i64 17, .int .i64 16, .int .i64 2, .int .i64 1, .int .i64 2], .slice A' 0 c']) ∧ Below w.heap.size w w' := by
  refine (exgo_tour 60 A 16 c B16 w hc (by decide) h).mono ?_
  rintro e w' ⟨v, he, ⟨A', c', ev, _, _⟩, hb⟩
  rw [go_16.1] at ev
  subst ev
  have et : (walkF 16 B16 9 (Tour.start 60) []).1.told = [.int .i64 17, .int .i64 16, .int .i64 2, .int .i64 1, .int .i64 2] := by unfold Tour.told; rw [if_pos go_16.1, go_16.2]
  rw [et] at he
  exact ⟨A', c', he, hb⟩
theorem l11_go9 (g c : Nat) (w : World) (hc : 16 ≤ c) (h : Row w (some ⟨g, 0, none⟩) 16 B16) : Calls Try.prog 16 #[.int .i64 0, .slice (some ⟨g, 0, none⟩) 9 c] w fun e w' => ∃ b o c', e = .returned (.tuple #[.agg #[.int .i64 0, .int .i64 0, .int .i64 0, .int .i64 0, .int .i64 0], .slice (some ⟨b, o, none⟩) 1 c']) ∧ (b < w'.heap.size ∧ w'.cell? ⟨b, o, none⟩ = some (.int .i64 10)) ∧ Below w.heap.size w w' := by
  have hp := h.part 0 9 (by decide)
  rw [List.drop_zero, Nat.add_zero] at hp
  refine (exgo_tour 0 (some ⟨g, 0, none⟩) 9 c (B16.take 9) w (by omega) (by decide) hp).mono ?_
  rintro e w' ⟨v, he, ⟨A', c', ev, _, hcell⟩, hb⟩
  have et : (walkF 9 (B16.take 9) 9 (Tour.start 0) []).1.told = walkZ := by unfold Tour.told; rw [if_neg (by rw [go_9]; decide)]
  rw [go_9] at ev hcell
  obtain ⟨b, o, ea, hlt, hc9⟩ := hcell 0 10 rfl
  subst ea
  subst ev
  rw [et] at he
  exact ⟨b, o, c', he, ⟨hlt, hc9⟩, hb⟩
theorem l11_list (A : Option Addr) (c : Nat) (w : World) (hc : 16 ≤ c) (h : Row w A 16 B16) : Calls Try.prog 25 #[.int .i64 0, .slice A 16 c] w fun e w' => ∃ A' c', e = .returned (.slice A' 2 c') ∧ Below w.heap.size w w' := by
  refine (exlist_any 0 A 16 c B16 w hc (by decide) h (by rw [ls_16.1]; decide) ls_16.2).mono ?_
  rintro e w' ⟨v, he, hE, hb⟩
  obtain ⟨A', c', ev, _, _⟩ := hE.slice
  rw [ls_16.1] at ev
  subst ev
  exact ⟨A', c', he, hb⟩
theorem wpList_append_keep {ops : Array Oper} {rest : List Oper} {o : Oper} {a : Act} {Q : Exit → Act → World → Prop} (hgd : o.guard = none) (s x : Operand)
    (ho : o.op = .call { callee := .builtin .append, args := #[s, x], argTypes := #[22, 22] }) (hot : o.type = 22)
    {B : Nat} {W wr : World} {g n c : Nat} {bs news : List Nat} (cs : Array Value) (m : Nat) (hs : a.eval s = .slice (some ⟨g, 0, none⟩) n c) (hx : a.eval x = .slice (some ⟨wr.heap.size, 0, none⟩) m m)
    (hcs : cs.toList = bcells news) (hm : news.length = m) (hn : bs.length = n) (hown : OutIs B wr (.slice (some ⟨g, 0, none⟩) n c) bs) (hbb : ∀ x ∈ bs ++ news, x < 256) (hb : Below B W wr) (hB : B ≤ wr.heap.size) (hlen : bs.length + m ≤ 140737488355328)
    (h : ∀ v' w', OutIs B w' v' (bs ++ news) → Below B W w' → Row w' (some ⟨g, 0, none⟩) n bs → (wr.alloc (.cells cs 5)).grownBy w' (some g) → wpList Try.prog ops Q rest (a.put o.dst v') w') : wpList Try.prog ops Q (o :: rest) a (wr.alloc (.cells cs 5)) := by
  refine wpList_plain hgd fun K hK => ?_
  obtain ⟨v', w', hr, h2, h3, h4, h5⟩ := run_append_keep cs m hcs hm hn hown hbb hb hB hlen
  unfold Oper.wp execOp
  simp only [ho, hot, resolve, invoke, builtin, Sem.run_bind, Sem.run_pure, Result.andThen_ok, List.map_toArray, List.map_cons, List.map_nil, hs, hx, hr]
  exact hK _ _ (h v' w' h2 h3 h4 h5)
theorem arr_grown {t : TypeId} {wr w' : World} {cs : Array Value} {g k : Nat} {l : List Value} (h : ArrV t wr g l) (hk : k < g) (hg : (wr.alloc (.cells cs 5)).grownBy w' (some k)) : ArrV t w' g l := by
  have h1 := h.alloc (.cells cs 5)
  exact (hg.block g h1.lt (fun e => by first | (injection e with e; omega) | omega)).trans h1
theorem live_world (w V : World) (hV : V = (((w.alloc (.cells (bcells [0, 0, 0, 0, 0, 0]).toArray 5)).alloc (.cells #[.int .i64 0, .slice (some ⟨w.heap.size, 0, none⟩) 6 6] 45)).alloc (.cells #[.int .u8 0, .int .u8 9, .int .u8 0, .int .u8 0, .int .u8 0, .int .u8 7] 5)).alloc (.cells #[.int .i64 44, .slice (some ⟨w.heap.size + 1 + 1, 0, none⟩) 6 6] 45)) : ArrV 45 V (w.heap.size + 1) [.int .i64 0, .slice (some ⟨w.heap.size, 0, none⟩) 6 6] ∧ ArrV 45 V (w.heap.size + 1 + 1 + 1) [.int .i64 44, .slice (some ⟨w.heap.size + 1 + 1, 0, none⟩) 6 6] ∧
    Row V (some ⟨w.heap.size, 0, none⟩) 6 Z6 ∧ Row V (some ⟨w.heap.size + 1 + 1, 0, none⟩) 6 F6 ∧ Below w.heap.size w V := by
  have s1 : ∀ (x : World) (o : Obj), (x.alloc o).heap.size = x.heap.size + 1 := fun x o => by simp
  have r0 : Row (w.alloc (.cells (bcells [0, 0, 0, 0, 0, 0]).toArray 5)) (some ⟨w.heap.size, 0, none⟩) 6 Z6 := (Own.new w Z6).row (by decide)
  have a1 := ArrV.new 45 (w.alloc (.cells (bcells [0, 0, 0, 0, 0, 0]).toArray 5)) [.int .i64 0, .slice (some ⟨w.heap.size, 0, none⟩) 6 6]
  rw [s1] at a1
  obtain ⟨x2, h2⟩ : ∃ x, x = (w.alloc (.cells (bcells [0, 0, 0, 0, 0, 0]).toArray 5)).alloc (.cells #[.int .i64 0, .slice (some ⟨w.heap.size, 0, none⟩) 6 6] 45) := ⟨_, rfl⟩
  have z2 : x2.heap.size = w.heap.size + 1 + 1 := by rw [h2, s1, s1]
  have r0 := r0.alloc (.cells #[.int .i64 0, .slice (some ⟨w.heap.size, 0, none⟩) 6 6] 45)
  have b2 : Below w.heap.size w x2 := by rw [h2]; exact ((Below.refl _ _).alloc (Nat.le_refl _) _).alloc (by rw [s1]; exact Nat.le_succ _) _
  have a1 : ArrV 45 x2 (w.heap.size + 1) [.int .i64 0, .slice (some ⟨w.heap.size, 0, none⟩) 6 6] := by rw [h2]; exact a1
  rw [← h2] at hV r0
  have r2 : Row (x2.alloc (.cells (bcells F6).toArray 5)) (some ⟨x2.heap.size, 0, none⟩) 6 F6 := (Own.new x2 F6).row (by decide)
  have a3 := ArrV.new 45 (x2.alloc (.cells (bcells F6).toArray 5)) [.int .i64 44, .slice (some ⟨w.heap.size + 1 + 1, 0, none⟩) 6 6]
  rw [s1, z2] at a3
  rw [z2] at r2
  have hV : V = (x2.alloc (.cells (bcells F6).toArray 5)).alloc (.cells #[.int .i64 44, .slice (some ⟨w.heap.size + 1 + 1, 0, none⟩) 6 6] 45) := hV
  subst hV
  exact ⟨(a1.alloc _).alloc _, a3, (r0.alloc _).alloc _, r2.alloc _, (b2.alloc b2.size _).alloc (by rw [s1]; exact Nat.le_succ_of_le b2.size) _⟩
set_option maxRecDepth 10000 in
set_option maxHeartbeats 6400000 in
theorem live11 (w : World) : Calls Try.prog 20 #[] w fun e w' => e = .returned (.bool true) ∧ Below w.heap.size w w' := by
  have hmk : (Instr.makeSlice 22 (.int .i64 6) (.int .i64 6)).run Try.prog w = .ok (.slice (some ⟨w.heap.size, 0, none⟩) 6 6) (w.alloc (.cells (bcells (List.replicate 6 0)).toArray 5)) := make_bytes 6 (by decide) w
  go_enter Try.func20, Try.ntmps20
  go_upto_region 3 with fail
  obtain ⟨V, eV⟩ : ∃ V, V = (((w.alloc (.cells (bcells [0, 0, 0, 0, 0, 0]).toArray 5)).alloc (.cells #[.int .i64 0, .slice (some ⟨w.heap.size, 0, none⟩) 6 6] 45)).alloc (.cells #[.int .u8 0, .int .u8 9, .int .u8 0, .int .u8 0, .int .u8 0, .int .u8 7] 5)).alloc (.cells #[.int .i64 44, .slice (some ⟨w.heap.size + 1 + 1, 0, none⟩) 6 6] 45) := ⟨_, rfl⟩
  obtain ⟨ha1, ha3, hr0, hr2, hb⟩ := live_world w V eV
  rw [← eV]
  have BV := Lib.hid hb
  obtain ⟨g3, hg3⟩ : ∃ g, g = w.heap.size + 1 + 1 + 1 := ⟨_, rfl⟩
  rw [← hg3] at ha3 ⊢
  obtain ⟨g2, hg2⟩ : ∃ g, g = w.heap.size + 1 + 1 := ⟨_, rfl⟩
  rw [← hg2] at ha3 hr2 ⊢
  obtain ⟨g1, hg1⟩ : ∃ g, g = w.heap.size + 1 := ⟨_, rfl⟩
  rw [← hg1] at ha1 ⊢
  obtain ⟨g0, hg0⟩ : ∃ g, g = w.heap.size := ⟨_, rfl⟩
  rw [← hg0] at ha1 hr0 ⊢
  have d0 := ha1.get 0
  have d1 := ha1.get 1
  have d2 := ha3.get 0
  have d3 := ha3.get 1
  simp at d0 d1 d2 d3
  have H1 := Lib.hid ha1
  have H3 := Lib.hid ha3
  have R0 := Lib.hid hr0
  have R2 := Lib.hid hr2
  have CW : Hid (Calls Try.prog 27 #[.slice (some ⟨V.heap.size, 0, none⟩) 2 2, .int .i64 17] (V.alloc (.cells #[.int .i64 0, .slice (some ⟨g0, 0, none⟩) 6 6, .int .i64 44, .slice (some ⟨g2, 0, none⟩) 6 6] 45)) fun e w' => ∃ g c, e = .returned (.tuple #[.slice (some ⟨g, 0, none⟩) 16 c, .agg #[.int .i64 0, .int .i64 0]]) ∧ OutIs V.heap.size w' (.slice (some ⟨g, 0, none⟩) 16 c) B16 ∧ 16 ≤ c ∧ Below V.heap.size V w') := by
    refine (l11_write1 _ _ (exts_two 0 44 (some ⟨g0, 0, none⟩) (some ⟨g2, 0, none⟩) 6 6 Z6 F6 hr0 hr2 (by decide) (by decide) (by decide) (by decide))).mono ?_
    rintro e w' ⟨g, c, he, ho, hc, hb⟩
    exact ⟨g, c, he, ho.mono (by simp), hc, below_al hb⟩
  clear hmk eV ha1 ha3 hr0 hr2 hb hg0 hg1 hg2 hg3
  go_wp2_with fail
  refine CW.out.mono ?_
  rintro e w1 ⟨g4, c4, rfl, ho, hc4, hb1⟩
  have hg4lt : g4 < w1.heap.size := by
    obtain ⟨k, hk, e⟩ : ∃ k, k < w1.heap.size ∧ k = g4 := ⟨g4, (World.ownsRow.lt ho g4 rfl).2, rfl⟩
    rw [← e]; exact hk
  go_upto_region 6 with fail
  obtain ⟨V3, e3⟩ : ∃ V, V = w1.alloc (.cells #[.int .i64 0, .int .i64 0] 39) := ⟨_, rfl⟩
  have hF : ArrV 39 V3 w1.heap.size [.int .i64 0, .int .i64 0] := by rw [e3]; exact ArrV.new _ w1 _
  have hb3 : Below w1.heap.size w1 V3 := by rw [e3]; exact (Below.refl _ _).alloc (Nat.le_refl _) _
  have B3 := Lib.hid (below_both hb1 hb3)
  have O3 := Lib.hid (ho.below hb3)
  have BW := Lib.hid (below_both BV.out B3.out)
  have HF5 := Lib.hid hF
  rw [← e3]
  obtain ⟨g5, hg5⟩ : ∃ g, g = w1.heap.size := ⟨_, rfl⟩
  rw [← hg5] at HF5 hg4lt ⊢
  have HNE : Hid (g4 < g5) := hg4lt
  have HC4 := Lib.hid hc4
  have HBB : Hid (∀ x ∈ B16 ++ [1, 2, 3], x < 256) := by show ∀ x ∈ B16 ++ [1, 2, 3], x < 256; decide
  clear e3 hF hb3 ho hb1 hg5 hg4lt hc4 d0 d1 d2 d3 CW
  go_wp2_with (at_builtin; refine wpList_append_keep (B := V.heap.size) (W := V) rfl (.tmp 30) (.tmp 31) rfl rfl (bs := B16) (news := [1, 2, 3]) #[.int .u8 1, .int .u8 2, .int .u8 3] 3 rfl rfl rfl rfl rfl O3.out HBB.out B3.out B3.out.size (by decide) ?_
               intro v6 w6 ho6 hb6 hr6 hg6
               obtain ⟨A6, c6, rfl, hc6, _, hr19⟩ := ho6.out HBB.out
               have F6' : Hid (ArrV 39 w6 g5 [.int .i64 0, .int .i64 0]) := arr_grown HF5.out HNE.out hg6
               have R16 := Lib.hid hr6
               have R19 := Lib.hid hr19
               have B6 := Lib.hid hb6
               have HC6 := Lib.hid hc6
               clear ho6 hb6 hr6 hg6 hr19 hc6)
  refine (l11_go19 A6 c6 w6 (show 19 ≤ c6 from HC6.out) (show Row w6 A6 19 B19 from R19.out)).mono ?_
  rintro e w7 ⟨A7, c7, rfl, b7⟩
  go_upto_region 7 with fail
  obtain ⟨V7, e7⟩ : ∃ V, V = w7.alloc (.cells #[.int .i64 17, .int .i64 16, .int .i64 2, .int .i64 1, .int .i64 2] 24) := ⟨_, rfl⟩
  have hW : ArrV 24 V7 w7.heap.size [.int .i64 17, .int .i64 16, .int .i64 2, .int .i64 1, .int .i64 2] := by rw [e7]; exact ArrV.new _ w7 _
  have hb7 : Below w6.heap.size w6 V7 := below_both b7 (by rw [e7]; exact (Below.refl _ _).alloc (Nat.le_refl _) _)
  have F7 := Lib.hid (F6'.out.below hb7)
  have R7 := Lib.hid (R16.out.below hb7)
  have B7 := Lib.hid (B6.out.trans (hb7.mono B6.out.size))
  have W7 := Lib.hid hW
  rw [← e7]
  obtain ⟨g7, hg7⟩ : ∃ g, g = w7.heap.size := ⟨_, rfl⟩
  rw [← hg7] at W7 ⊢
  clear e7 hW hb7 b7 hg7 F6' R16 R19 B6 HC6 O3 B3 HF5
  have c9I : (9 : Int) ≤ (c4 : Int) := by have := HC4.out; omega
  go_wp2_with fail
  refine (l11_go16 _ c4 V7 HC4.out R7.out).mono ?_
  rintro e w8 ⟨A8, c8, rfl, b8⟩
  go_upto_region 8 with fail
  obtain ⟨V8, e8⟩ : ∃ V, V = w8.alloc (.cells #[.int .i64 17, .int .i64 16, .int .i64 2, .int .i64 1, .int .i64 2] 24) := ⟨_, rfl⟩
  have hb8 : Below V7.heap.size V7 V8 := below_both b8 (by rw [e8]; exact (Below.refl _ _).alloc (Nat.le_refl _) _)
  have F8 := Lib.hid (F7.out.below hb8)
  have R8 := Lib.hid (R7.out.below hb8)
  have B8 := Lib.hid (B7.out.trans (hb8.mono B7.out.size))
  have W8 := Lib.hid (W7.out.below hb8)
  rw [← e8]
  generalize w8.heap.size = g8 at *
  clear e8 hb8 b8 F7 R7 B7 W7
  go_wp2_with fail
  refine (l11_go9 g4 c4 V8 HC4.out R8.out).mono ?_
  rintro e w9 ⟨b9, o9, c9, rfl, hd9, hb9⟩
  go_upto_region 9 with fail
  obtain ⟨V9, e9⟩ : ∃ V, V = w9.alloc (.cells #[.int .i64 0, .int .i64 0, .int .i64 0, .int .i64 0, .int .i64 0] 24) := ⟨_, rfl⟩
  have hbx : Below w9.heap.size w9 V9 := by rw [e9]; exact (Below.refl _ _).alloc (Nat.le_refl _) _
  have hb9 := below_both hb9 hbx
  have F9 := Lib.hid (F8.out.below hb9)
  have R9 := Lib.hid (R8.out.below hb9)
  have B9 := Lib.hid (B8.out.trans (hb9.mono B8.out.size))
  have W9 := Lib.hid (W8.out.below hb9)
  have D9 := Lib.hid (cell_keep hd9 hbx)
  have h1 := H1.out.below B9.out
  have h3 := H3.out.below B9.out
  have d0 := h1.get 0
  have d1 := h1.get 1
  have d2 := h3.get 0
  have d3 := h3.get 1
  simp at d0 d1 d2 d3
  rw [← e9]
  generalize w9.heap.size = g9 at *
  have CW2 : Hid (Calls Try.prog 27 #[.slice (some ⟨V9.heap.size, 0, none⟩) 2 2, .int .i64 17] (V9.alloc (.cells #[.int .i64 44, .slice (some ⟨g2, 0, none⟩) 6 6, .int .i64 0, .slice (some ⟨g0, 0, none⟩) 6 6] 45)) fun e w' => e = .returned (.tuple #[.slice none 0 0, .agg #[.int .i64 6, .int .i64 1]]) ∧ Below V9.heap.size V9 w') := by
    refine (l11_write2 _ _ (exts_two 44 0 (some ⟨g2, 0, none⟩) (some ⟨g0, 0, none⟩) 6 6 F6 Z6 (R2.out.below B9.out) (R0.out.below B9.out) (by decide) (by decide) (by decide) (by decide))).mono ?_
    rintro e w' ⟨he, hb⟩
    exact ⟨he, below_al hb⟩
  clear e9 hbx hb9 hd9 h1 h3 F8 R8 B8 W8 H1 H3 R0 R2
  go_wp2_with fail
  refine CW2.out.mono ?_
  rintro e w10 ⟨rfl, b10⟩
  go_upto_region 10 with fail
  obtain ⟨V10, e10⟩ : ∃ V, V = w10.alloc (.cells #[.int .i64 6, .int .i64 1] 39) := ⟨_, rfl⟩
  have hX : ArrV 39 V10 w10.heap.size [.int .i64 6, .int .i64 1] := by rw [e10]; exact ArrV.new _ w10 _
  have hb10 : Below V9.heap.size V9 V10 := below_both b10 (by rw [e10]; exact (Below.refl _ _).alloc (Nat.le_refl _) _)
  have FA := Lib.hid (F9.out.below hb10)
  have RA := Lib.hid (R9.out.below hb10)
  have BA := Lib.hid (B9.out.trans (hb10.mono B9.out.size))
  have WA := Lib.hid (W9.out.below hb10)
  have DA := Lib.hid (cell_keep D9.out hb10)
  have XA := Lib.hid hX
  rw [← e10]
  generalize w10.heap.size = g10 at *
  clear e10 hX hb10 b10 F9 R9 B9 W9 D9 d0 d1 d2 d3 CW2
  go_wp2_with fail
  refine (l11_write3 _).mono ?_
  rintro e w11 ⟨rfl, b11⟩
  go_upto_region 11 with fail
  obtain ⟨V11, e11⟩ : ∃ V, V = w11.alloc (.cells #[.int .i64 1, .int .i64 0] 39) := ⟨_, rfl⟩
  have hY : ArrV 39 V11 w11.heap.size [.int .i64 1, .int .i64 0] := by rw [e11]; exact ArrV.new _ w11 _
  have hb11 : Below V10.heap.size V10 V11 := below_both b11 (by rw [e11]; exact (Below.refl _ _).alloc (Nat.le_refl _) _)
  have hF := FA.out.below hb11
  have RB := Lib.hid (RA.out.below hb11)
  have BB := Lib.hid (BA.out.trans (hb11.mono BA.out.size))
  have hW := WA.out.below hb11
  have hD := cell_keep DA.out hb11
  have hX := XA.out.below hb11
  have f0 := hF.get 0
  have f1 := hF.get 1
  have x0 := hX.get 0
  have x1 := hX.get 1
  have y0 := hY.get 0
  have y1 := hY.get 1
  have w0 := hW.get 0
  have w1' := hW.get 1
  have w2' := hW.get 2
  have w3' := hW.get 3
  have w4' := hW.get 4
  have dd := hD.2
  simp at f0 f1 x0 x1 y0 y1 w0 w1' w2' w3' w4'
  rw [← e11]
  generalize w11.heap.size = g11 at *
  have I51 : Hid (∀ w, Calls Try.prog 22 #[.int .i64 51] w fun e w' => e = .returned (.bool true) ∧ w = w') := fun w => exis_any 51 w
  have I50 : Hid (∀ w, Calls Try.prog 22 #[.int .i64 50] w fun e w' => e = .returned (.bool false) ∧ w = w') := fun w => exis_any 50 w
  clear e11 hY hb11 b11 hF hW hD hX FA RA BA WA DA XA
  go_wp2_with fail
  refine (I51.out _).mono ?_
  rintro e w' ⟨rfl, rfl⟩
  go_wp2_with fail
  refine (I50.out _).mono ?_
  rintro e w' ⟨rfl, rfl⟩
  go_wp2_with fail
  refine (l11_list _ c4 _ HC4.out RB.out).mono ?_
  rintro e w12 ⟨A12, c12, rfl, b12⟩
  go_wp2_with fail
  go_ret
  exact ⟨rfl, below_both (below_both BV.out BB.out) b12⟩
end Go.Proofs.Ytlopmkmcjcijcaa
