/-
  The examples of layer 11 come out as they must: the contract of weighbridgelaw11.live.
-/
import Derived.Test.YtcjaidpmfjnhpaaEw5
namespace Go.Proofs.Ytcjaidpmfjnhpaa
open Go.RowKit
set_option linter.unusedVariables false

def Z6 : List Nat := [0, 0, 0, 0, 0, 0]
def F6 : List Nat := [0, 9, 0, 0, 0, 7]
def B16 : List Nat := [44, 0, 0, 0, 0, 0, 0, 0, 17, 0, 0, 9, 0, 0, 0, 7]
def B19 : List Nat := [44, 0, 0, 0, 0, 0, 0, 0, 17, 0, 0, 9, 0, 0, 0, 7, 1, 2, 3]
def HF : List (Int × List Nat) := [(0, Z6), (44, F6)]
def FH : List (Int × List Nat) := [(44, F6), (0, Z6)]
theorem chk_HF : exCheck HF 17 = (0, 0) := by decide +kernel
theorem byt_HF : exBytes 17 HF = B16 := by decide +kernel
theorem chk_FH : exCheck FH 17 = (6, 1) := by decide +kernel
theorem chk_nil : exCheck [] 44 = (1, 0) := by decide +kernel
theorem go_19 : (walkF 19 B19 9 (Tour.start 0) []).1.defects = [] ∧ (walkF 19 B19 9 (Tour.start 0) []).1.walk = [.int .i64 17, .int .i64 16, .int .i64 2, .int .i64 1, .int .i64 2] := ⟨by decide +kernel, by kernel_rfl⟩
theorem go_16 : (walkF 16 B16 9 (Tour.start 60) []).1.defects = [] ∧ (walkF 16 B16 9 (Tour.start 60) []).1.walk = [.int .i64 17, .int .i64 16, .int .i64 2, .int .i64 1, .int .i64 2] := ⟨by decide +kernel, by kernel_rfl⟩
theorem go_9 : (walkF 9 (B16.take 9) 9 (Tour.start 0) []).1.defects = [10] := by decide +kernel
theorem ls_16 : ((walkF 16 B16 9 (Tour.start 0) []).2).length = 2 ∧ ∀ m ∈ (walkF 16 B16 9 (Tour.start 0) []).2, m.2.length ≤ 140737488355328 := ⟨by decide +kernel, by decide +kernel⟩
theorem exts_two {V : World} (k1 k2 : Int) (A1 A2 : Option Addr) (c1 c2 : Nat) (l1 l2 : List Nat) (r1 : Row V A1 l1.length l1) (r2 : Row V A2 l2.length l2) (h1 : l1.length ≤ c1) (h2 : l2.length ≤ c2) (b1 : l1.length ≤ 140737488355328) (b2 : l2.length ≤ 140737488355328) :
    ExtsIn (V.alloc (.cells #[.int .i64 k1, .slice A1 l1.length c1, .int .i64 k2, .slice A2 l2.length c2] 130)) (.slice (some ⟨V.heap.size, 0, none⟩) 2 2) [(k1, l1), (k2, l2)] := by
  have hA : ArrV 130 (V.alloc (.cells #[.int .i64 k1, .slice A1 l1.length c1, .int .i64 k2, .slice A2 l2.length c2] 130)) V.heap.size [.int .i64 k1, .slice A1 l1.length c1, .int .i64 k2, .slice A2 l2.length c2] := ArrV.new _ V _
  refine ⟨_, 2, rfl, Nat.le_refl _, fun i m hm => ?_⟩
  match i, hm with
  | 0, hm =>
    have e : (k1, l1) = m := by simpa using hm
    subst e
    exact ⟨b1, _, 0, _, rfl, hA.lt, (hA.get 0).trans rfl, (hA.get 1).trans rfl, ⟨A1, c1, rfl, h1, r1.alloc _⟩⟩
  | 1, hm =>
    have e : (k2, l2) = m := by simpa using hm
    subst e
    exact ⟨b2, _, 0, _, rfl, hA.lt, (hA.get 2).trans rfl, (hA.get 3).trans rfl, ⟨A2, c2, rfl, h2, r2.alloc _⟩⟩
theorem l11_go19 (A : Option Addr) (c : Nat) (w : World) (hc : 19 ≤ c) (h : Row w A 19 B19) : Calls Try.prog 80 #[.int .i64 0, .slice A 19 c] w fun e w' => ∃ A' c', e = .returned (.tuple #[.agg #[.int .i64 17, .int .i64 16, .int .i64 2, .int .i64 1, .int .i64 2], .slice A' 0 c']) ∧ Below w.heap.size w w' := by
  refine (exgo_tour 0 A 19 c B19 w hc (by decide) h).mono ?_
  rintro e w' ⟨v, he, ⟨A', c', ev, _, _⟩, hb⟩
  rw [go_19.1] at ev
  subst ev
  have et : (walkF 19 B19 9 (Tour.start 0) []).1.told = [.int .i64 17, .int .i64 16, .int .i64 2, .int .i64 1, .int .i64 2] := by unfold Tour.told; rw [if_pos go_19.1, go_19.2]
  rw [et] at he
  exact ⟨A', c', he, hb⟩
theorem l11_go16 (A : Option Addr) (c : Nat) (w : World) (hc : 16 ≤ c) (h : Row w A 16 B16) : Calls Try.prog 80 #[.int .i64 60, .slice A 16 c] w fun e w' => ∃ A' c', e = .returned (.tuple #[.agg #[.int .i64 17, .int .i64 16, .int .i64 2, .int .i64 1, .int .i64 2], .slice A' 0 c']) ∧ Below w.heap.size w w' := by
  refine (exgo_tour 60 A 16 c B16 w hc (by decide) h).mono ?_
  rintro e w' ⟨v, he, ⟨A', c', ev, _, _⟩, hb⟩
  rw [go_16.1] at ev
  subst ev
  have et : (walkF 16 B16 9 (Tour.start 60) []).1.told = [.int .i64 17, .int .i64 16, .int .i64 2, .int .i64 1, .int .i64 2] := by unfold Tour.told; rw [if_pos go_16.1, go_16.2]
  rw [et] at he
  exact ⟨A', c', he, hb⟩
theorem l11_go9 (g c : Nat) (w : World) (hc : 16 ≤ c) (h : Row w (some ⟨g, 0, none⟩) 16 B16) : Calls Try.prog 80 #[.int .i64 0, .slice (some ⟨g, 0, none⟩) 9 c] w fun e w' => ∃ b o c', e = .returned (.tuple #[.agg #[.int .i64 0, .int .i64 0, .int .i64 0, .int .i64 0, .int .i64 0], .slice (some ⟨b, o, none⟩) 1 c']) ∧ (b < w'.heap.size ∧ w'.cell? ⟨b, o, none⟩ = some (.int .i64 10)) ∧ Below w.heap.size w w' := by
  have hp := h.part 0 9 (by decide)
  rw [List.drop_zero, Nat.add_zero] at hp
  refine (exgo_tour 0 (some ⟨g, 0, none⟩) 9 c (B16.take 9) w (by omega) (by decide) hp).mono ?_
  rintro e w' ⟨v, he, ⟨A', c', ev, _, hcell⟩, hb⟩
  have et : (walkF 9 (B16.take 9) 9 (Tour.start 0) []).1.told = walkZ := by unfold Tour.told; rw [if_neg (by rw [go_9]; decide)]
  rw [go_9] at ev hcell
  obtain ⟨b, o, ea, hlt, hc9⟩ := hcell 0 10 rfl
  subst ea
  subst ev
  rw [et] at he
  exact ⟨b, o, c', he, ⟨hlt, hc9⟩, hb⟩
theorem wpList_append_keep {ops : Array Oper} {rest : List Oper} {o : Oper} {a : Act} {Q : Exit → Act → World → Prop} (hgd : o.guard = none) (s x : Operand)
    (ho : o.op = .call { callee := .builtin .append, args := #[s, x], argTypes := #[22, 22] }) (hot : o.type = 22)
    {B : Nat} {W wr : World} {g n c : Nat} {bs news : List Nat} (cs : Array Value) (m : Nat) (hs : a.eval s = .slice (some ⟨g, 0, none⟩) n c) (hx : a.eval x = .slice (some ⟨wr.heap.size, 0, none⟩) m m)
    (hcs : cs.toList = bcells news) (hm : news.length = m) (hn : bs.length = n) (hown : OutIs B wr (.slice (some ⟨g, 0, none⟩) n c) bs) (hbb : ∀ x ∈ bs ++ news, x < 256) (hb : Below B W wr) (hB : B ≤ wr.heap.size) (hlen : bs.length + m ≤ 140737488355328)
    (h : ∀ v' w', OutIs B w' v' (bs ++ news) → Below B W w' → Row w' (some ⟨g, 0, none⟩) n bs → (wr.alloc (.cells cs 5)).grownBy w' (some g) → wpList Try.prog ops Q rest (a.put o.dst v') w') : wpList Try.prog ops Q (o :: rest) a (wr.alloc (.cells cs 5)) := by
  refine wpList_plain hgd fun K hK => ?_
  obtain ⟨v', w', hr, h2, h3, h4, h5⟩ := run_append_keep cs m hcs hm hn hown hbb hb hB hlen
  unfold Oper.wp execOp
  simp only [ho, hot, resolve, invoke, builtin, Sem.run_bind, Sem.run_pure, Result.andThen_ok, List.map_toArray, List.map_cons, List.map_nil, hs, hx, hr]
  exact hK _ _ (h v' w' h2 h3 h4 h5)
theorem arr_grown {t : TypeId} {wr w' : World} {cs : Array Value} {g k : Nat} {l : List Value} (h : ArrV t wr g l) (hk : k < g) (hg : (wr.alloc (.cells cs 5)).grownBy w' (some k)) : ArrV t w' g l := by
  have h1 := h.alloc (.cells cs 5)
  exact (hg.block g h1.lt (fun e => by first | (injection e with e; omega) | omega)).trans h1
theorem live_world (w V : World) (hV : V = (((w.alloc (.cells (bcells [0, 0, 0, 0, 0, 0]).toArray 5)).alloc (.cells #[.int .i64 0, .slice (some ⟨w.heap.size, 0, none⟩) 6 6] 130)).alloc (.cells #[.int .u8 0, .int .u8 9, .int .u8 0, .int .u8 0, .int .u8 0, .int .u8 7] 5)).alloc (.cells #[.int .i64 44, .slice (some ⟨w.heap.size + 1 + 1, 0, none⟩) 6 6] 130)) : ArrV 130 V (w.heap.size + 1) [.int .i64 0, .slice (some ⟨w.heap.size, 0, none⟩) 6 6] ∧ ArrV 130 V (w.heap.size + 1 + 1 + 1) [.int .i64 44, .slice (some ⟨w.heap.size + 1 + 1, 0, none⟩) 6 6] ∧
    Row V (some ⟨w.heap.size, 0, none⟩) 6 Z6 ∧ Row V (some ⟨w.heap.size + 1 + 1, 0, none⟩) 6 F6 ∧ Below w.heap.size w V := by
  have s1 : ∀ (x : World) (o : Obj), (x.alloc o).heap.size = x.heap.size + 1 := fun x o => by simp
  have r0 : Row (w.alloc (.cells (bcells [0, 0, 0, 0, 0, 0]).toArray 5)) (some ⟨w.heap.size, 0, none⟩) 6 Z6 := (Own.new w Z6).row (by decide)
  have a1 := ArrV.new 130 (w.alloc (.cells (bcells [0, 0, 0, 0, 0, 0]).toArray 5)) [.int .i64 0, .slice (some ⟨w.heap.size, 0, none⟩) 6 6]
  rw [s1] at a1
  obtain ⟨x2, h2⟩ : ∃ x, x = (w.alloc (.cells (bcells [0, 0, 0, 0, 0, 0]).toArray 5)).alloc (.cells #[.int .i64 0, .slice (some ⟨w.heap.size, 0, none⟩) 6 6] 130) := ⟨_, rfl⟩
  have z2 : x2.heap.size = w.heap.size + 1 + 1 := by rw [h2, s1, s1]
  have r0 := r0.alloc (.cells #[.int .i64 0, .slice (some ⟨w.heap.size, 0, none⟩) 6 6] 130)
  have b2 : Below w.heap.size w x2 := by rw [h2]; exact ((Below.refl _ _).alloc (Nat.le_refl _) _).alloc (by rw [s1]; exact Nat.le_succ _) _
  have a1 : ArrV 130 x2 (w.heap.size + 1) [.int .i64 0, .slice (some ⟨w.heap.size, 0, none⟩) 6 6] := by rw [h2]; exact a1
  rw [← h2] at hV r0
  have r2 : Row (x2.alloc (.cells (bcells F6).toArray 5)) (some ⟨x2.heap.size, 0, none⟩) 6 F6 := (Own.new x2 F6).row (by decide)
  have a3 := ArrV.new 130 (x2.alloc (.cells (bcells F6).toArray 5)) [.int .i64 44, .slice (some ⟨w.heap.size + 1 + 1, 0, none⟩) 6 6]
  rw [s1, z2] at a3
  rw [z2] at r2
  have hV : V = (x2.alloc (.cells (bcells F6).toArray 5)).alloc (.cells #[.int .i64 44, .slice (some ⟨w.heap.size + 1 + 1, 0, none⟩) 6 6] 130) := hV
  subst hV
  exact ⟨(a1.alloc _).alloc _, a3, (r0.alloc _).alloc _, r2.alloc _, (b2.alloc b2.size _).alloc (by rw [s1]; exact Nat.le_succ_of_le b2.size) _⟩
end Go.Proofs.Ytcjaidpmfjnhpaa
