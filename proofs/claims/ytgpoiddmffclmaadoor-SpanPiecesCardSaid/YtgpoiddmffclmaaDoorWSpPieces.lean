/-
  The walk of SpanPieces.
-/
import Derived.Test.YtgpoiddmffclmaaDoorSpPc2
import Derived.Test.YtgpoiddmffclmaaDoorKv
import Derived.Test.YtgpoiddmffclmaaDoorPairs
import Derived.Test.YtgpoiddmffclmaaDoorLive08
import Derived.StillTailTactics
import Derived.BigQuiet
import Derived.Deep.CutBlock
import Derived.Deep.RegionHeld3
namespace Go.Proofs.YtgpoiddmffclmaaDoor
open Go.RowKit Go.Shelf
set_option linter.unusedVariables false

/-- Two ints in a variable. -/
def PB (W : World) (g : Nat) (a b : Int) : Prop := W.heap[g]? = some (.cells #[.int .i64 a, .int .i64 b] 34 (0, 0))
theorem PB.new (w : World) (a b : Int) : PB (w.alloc (.cells #[.int .i64 a, .int .i64 b] 34)) w.heap.size a b := heap_alloc_new w _
theorem PB.c0 {W : World} {g : Nat} {a b : Int} (h : PB W g a b) : W.cell? ⟨g, 0, none⟩ = some (.int .i64 a) := cell_of_row W _ _ _ _ _ h
theorem PB.c1 {W : World} {g : Nat} {a b : Int} (h : PB W g a b) : W.cell? ⟨g, 1, none⟩ = some (.int .i64 b) := cell_of_row W _ _ _ _ _ h
theorem PB.lt {W : World} {g : Nat} {a b : Int} (h : PB W g a b) : g < W.heap.size := cell_lt (p := ⟨g, 0, none⟩) h.c0
theorem PB.f {W : World} {g : Nat} {a b : Int} (h : PB W g a b) (i : Nat) : W.frozen? ⟨g, i, none⟩ = false := frozen_of_row W _ i _ _ h
theorem PB.next {W W' : World} {g : Nat} {a b : Int} (h : PB W g a b) (hb : Below W.heap.size W W') : PB W' g a b := (hb.block g h.lt).trans h
theorem PB.s0 {W : World} {g : Nat} {a b : Int} (h : PB W g a b) (x : Int) : PB (W.setCell ⟨g, 0, none⟩ (.int .i64 x)) g x b := heap_setCell_same W g 0 _ _ _ h
theorem PB.s1 {W : World} {g : Nat} {a b : Int} (h : PB W g a b) (x : Int) : PB (W.setCell ⟨g, 1, none⟩ (.int .i64 x)) g a x := heap_setCell_same W g 1 _ _ _ h
theorem u16_conv {a : Int} (h : 0 ≤ a ∧ a ≤ 65535) : wrap64 a = a ∧ IntKind.i64.wrap a = a := ⟨by unfold wrap64; omega, by rw [IntKind.wrap_i64]; omega⟩
/-- 'append(out, s)' as one operation of a drawn region. -/
theorem oper_appendSp {o : Oper} {a : Act} {K : Act → World → Prop} {Q : Exit → Act → World → Prop} (s x : Operand)
    (ho : o.op = .call { callee := .builtin .append, args := #[s, x], argTypes := #[25, 25] })
    {B : Nat} {W wr : World} {v : Value} {L : List Sp} {p q : Int} (hs : a.eval s = v) (hx : a.eval x = .slice (some ⟨wr.heap.size, 0, none⟩) 1 1)
    (hown : OutSp B wr v L) (hb : Below B W wr) (hB : B ≤ wr.heap.size) (hlen : L.length + 1 ≤ 8796093022207)
    (h : ∀ v' w', OutSp B w' v' (L ++ [(p, q)]) → Below B W w' → K (a.put o.dst v') w') : o.wp Tryd.prog a (wr.alloc (.cells #[.int .i64 p, .int .i64 q] 27)) K Q := by
  obtain ⟨i0, h1, h2, h3, h4⟩ := info_parts span_info
  have hown' : (wr.alloc (.cells #[.int .i64 p, .int .i64 q] 27)).ownsRow B 27 2 v L.length (scells L) := World.ownsRow.alloc hown _
  obtain ⟨v', w', hr, g2, g3, _, _⟩ := run_append_own_at (P := Tryd.prog) (wr.alloc (.cells #[.int .i64 p, .int .i64 q] 27)) B 25 o.type 27 i0 _ 2 16 Tryd.underlying25 h1 h2 h3 h4 rfl (by decide) v L.length (scells L) hown'
    ⟨wr.heap.size, 0, none⟩ 1 1 [.int .i64 p, .int .i64 q] rfl (fun j u hj => by
      rw [add_flat, cell_of_row _ wr.heap.size (0 + j) _ _ _ (heap_alloc_new wr _), Nat.zero_add, ← Array.getElem?_toList]
      exact hj) (scells_one [(p, q)]) (by unfold maxLen; omega) (by omega) (by simp; omega)
  unfold Oper.wp execOp
  simp only [ho, resolve, invoke, builtin, Sem.run_bind, Sem.run_pure, Result.andThen_ok, List.map_toArray, List.map_cons, List.map_nil, hs, hx, hr]
  refine h _ _ ?_ ((hb.alloc hB _).grown g3 (by simp; omega) (fun k hk => (hown'.lt k hk).1))
  unfold OutSp
  rw [List.length_append, scells_append]
  exact g2

theorem oper_appendSp_drew {o : Oper} {a : Act} {K : Act → World → Prop} {Q : Exit → Act → World → Prop} (s x : Operand)
    (ho : o.op = .call { callee := .builtin .append, args := #[s, x], argTypes := #[25, 25] })
    {B : Nat} {W wr : World} {v : Value} {L : List Sp} {p q : Int} (hs : a.eval s = v) (hx : a.eval x = .slice (some ⟨wr.heap.size, 0, none⟩) 1 1)
    (hown : OutSp B wr v L) (hb : Below B W wr) (hB : B ≤ wr.heap.size) (hlen : L.length + 1 ≤ 8796093022207)
    (h : ∀ v' w', OutSp B w' v' (L ++ [(p, q)]) → Below B W w' → K (a.put o.dst v') w') : o.wp Tryd.prog a (wr.alloc (.cells #[.int .i64 p, .int .i64 q] 27)).drew K Q :=
  oper_appendSp s x ho (wr := wr.drew) hs hx hown hb.drew hB hlen h

theorem one_u16 : OneTy 23 := fun w => by simp [isAgg, run_underlying Tryd.underlying23, go_sem]
theorem tyspan : RowTy 27 2 := ⟨⟨_, Tryd.underlying27, rfl⟩, by kernel_rfl⟩
/-- A cell, and two cells of one value, in each world of a class. -/
theorem quietAt_at {C : World → Prop} {o : Oper} {a : Act} {W : World} {t : TypeId} {x : Operand} {p : Addr} {v : Value} (ho : o.op = .load t x) (hx : a.eval x = .pointer (some p)) (ht : OneTy t) (hc : W.cell? p = some v) :
    Oper.quietAt Tryd.prog o a C W v := by
  have hload : (Instr.loadAt t (.pointer (some p))).run Tryd.prog W = .ok v W := by
    simp [Instr.loadAt, Instr.sureAddr, loadVar, go_sem, ht W, hc]
  unfold Oper.quietAt execOp
  simp only [ho, hx, Sem.run_bind, Sem.run_pure, hload, Result.andThen_ok]
  exact ⟨rfl, rfl⟩
theorem quietAt_pair {C : World → Prop} {o : Oper} {a : Act} {W : World} {t : TypeId} {x : Operand} {g off : Nat} {u v : Value} (ho : o.op = .load t x) (hx : a.eval x = .pointer (some ⟨g, off, none⟩)) (ht : RowTy t 2) (h0 : W.cell? ⟨g, off, none⟩ = some u) (h1 : W.cell? ⟨g, off + 1, none⟩ = some v) :
    Oper.quietAt Tryd.prog o a C W (.agg #[u, v]) := by
  obtain ⟨d, hd, hr⟩ := ht.desc
  have hload : (Instr.loadAt t (.pointer (some ⟨g, off, none⟩))).run Tryd.prog W = .ok (.agg #[u, v]) W := run_loadAt_mid W g off t [u, v] d (fun j v' hj => by
    match j, hj with
    | 0, hj => simp at hj; subst hj; exact h0
    | 1, hj => simp at hj; subst hj; exact h1) hd hr ht.size
  unfold Oper.quietAt execOp
  simp only [ho, hx, Sem.run_bind, Sem.run_pure, hload, Result.andThen_ok]
  exact ⟨rfl, rfl⟩
theorem cnt_wrap9 {c : Nat} (h : (c : Int) ≤ 8796093022206) : IntKind.i64.wrap ((c : Int) + 1) = (c : Int) + 1 := by rw [IntKind.wrap_i64]; omega
theorem wsp_meas {N k : Nat} (h : k < N) : N - (intOf (.int .i64 ((k + 1 : Nat) : Int))).toNat < N - (intOf (.int .i64 (k : Int))).toNat := by
  simp [intOf]
  omega
set_option maxRecDepth 10000 in
set_option maxHeartbeats 6400000 in
theorem wsp_walk (A : Option Addr) (m cap : Nat) (P : List Sp) (x y : Int) (w : World) (hT : Tabs w) (hR : RowP w A m P) (hm : m ≤ 35184372087808) (hx : 0 ≤ x ∧ x ≤ 65535) (hy : 0 ≤ y ∧ y ≤ 65535) :
    Calls Tryd.prog 3 #[.slice A m cap, .agg #[.int .u16 x, .int .u16 y]] w fun e w' => e = .returned (.bool true) ∧ Below w.heap.size w w' := by
  have T := Lib.hid hT
  have R := Lib.hid hR
  have HPL := Lib.hid hR.1
  have HPB := Lib.hid hR.2.1
  have hmi : (m : Int) ≤ 35184372087808 := by omega
  have N0 : Hid ((w.alloc (.cells #[.int .u16 x, .int .u16 y] 24)).heap[w.heap.size]? = some (.cells #[.int .u16 x, .int .u16 y] 24 (0, 0))) := heap_alloc_new w _
  have B0 : Hid (Below w.heap.size w (w.alloc (.cells #[.int .u16 x, .int .u16 y] 24))) := (Below.refl _ _).alloc (Nat.le_refl _) _
  obtain ⟨hx1, hx2⟩ := hx
  obtain ⟨hy1, hy2⟩ := hy
  clear hT hR hm
  go_enter Tryd.func3, Tryd.ntmps3
  go_upto_block 0 with fail
  have HS1 : Hid (w.heap.size < (w.alloc (.cells #[.int .u16 x, .int .u16 y] 24)).heap.size) := by show _ < _; simp
  generalize w.alloc (.cells #[.int .u16 x, .int .u16 y] 24) = w0 at *
  go_cut [5] from 6 to 58 (fun vo wx => ∃ k : Nat, k ≤ m ∧ k ≤ 40 ∧ OutSp w0.heap.size wx vo (spsTo P k) ∧ Below w0.heap.size w0 wx)
  case first =>
    go_wp2_with fail
    go_loopw [5, 6] (fun vo i wr => ∃ k : Nat, k ≤ m ∧ k ≤ 40 ∧ i = .int .i64 (k : Int) ∧ OutSp w0.heap.size wr vo (spsTo P k) ∧ Below w0.heap.size w0 wr) (fun _ i _ => m - (intOf i).toNat)
    case atStart => exact ⟨0, Nat.zero_le _, Nat.zero_le _, rfl, OutSp.nil _ _, Below.refl _ _⟩
    case round =>
      obtain ⟨k, hk, hk4, rfl, ho, hb⟩ := hrel
      have HO := Lib.hid ho
      have B := Lib.hid hb
      have hk4i : (k : Int) ≤ 40 := by omega
      clear ho hb
      by_cases hlt : k < m ∧ k < 40
      · obtain ⟨hlt, hlt4⟩ := hlt
        obtain ⟨b, o, rfl, hb1, hc⟩ := (R.out.below B0.out).addr (by omega)
        have hc0 := (B.out.cell (p := ⟨b, o + k * 2, none⟩) hb1).trans (hc k hlt).1
        have hc1 := (B.out.cell (p := ⟨b, o + k * 2 + 1, none⟩) hb1).trans (hc k hlt).2
        have hst := spsTo_step (P := P) (k := k) (by rw [HPL.out]; exact hlt)
        have hpb := HPB.out _ (sp_getD_mem (L := P) (i := k) (by rw [HPL.out]; exact hlt))
        have hle := spsTo_length (P := P) (k := k) (by rw [HPL.out]; exact hk)
        have HC := Lib.hid (fun (W : World) (h : Below w0.heap.size w0 W) => And.intro ((h.cell (p := ⟨b, o + k * 2, none⟩) hb1).trans (hc k hlt).1) ((h.cell (p := ⟨b, o + k * 2 + 1, none⟩) hb1).trans (hc k hlt).2))
        obtain ⟨p, hp⟩ : ∃ p, p = P.getD k (0, 0) := ⟨_, rfl⟩
        rw [← hp] at hc0 hc1 hst hpb HC
        obtain ⟨p1, p2⟩ := p
        have HC : Hid (∀ W : World, Below w0.heap.size w0 W → W.cell? ⟨b, o + k * 2, none⟩ = some (.int .u16 p1) ∧ W.cell? ⟨b, o + k * 2 + 1, none⟩ = some (.int .u16 p2)) := HC.out
        have hc0 : wr.cell? ⟨b, o + k * 2, none⟩ = some (.int .u16 p1) := hc0
        have hc1 : wr.cell? ⟨b, o + k * 2 + 1, none⟩ = some (.int .u16 p2) := hc1
        obtain ⟨⟨g1, g2⟩, g3, g4⟩ := hpb
        have HST := Lib.hid (show spsTo P (k + 1) = spsTo P k ++ [(min p1 p2, max p1 p2)] from hst)
        have HLE := Lib.hid (show (spsTo P k).length + 1 ≤ 8796093022207 by omega)
        have c1 := u16_conv (a := min p1 p2) (by omega)
        have c2 := u16_conv (a := max p1 p2) (by omega)
        obtain ⟨c1a, c1b⟩ := c1
        obtain ⟨c2a, c2b⟩ := c2
        have hlt4i : (k : Int) < 40 := by omega
        have u := self_wrap (k := k) (by omega)
        have hki : (k : Int) < (m : Int) := by omega
        clear hp hc hb1 hst hle g1 g2 g3 g4
        go_wp2_with fail
        have hc0 : wr.drew.cell? ⟨b, o + k * 2, none⟩ = some (.int .u16 p1) := hc0
        have hc1 : wr.drew.cell? ⟨b, o + k * 2 + 1, none⟩ = some (.int .u16 p2) := hc1
        have hS := And.intro hc0 hc1
        clear hc0 hc1
        go_region_held3 (fun w' => w'.cell? ⟨b, o + k * 2, none⟩ = some (.int .u16 p1) ∧ w'.cell? ⟨b, o + k * 2 + 1, none⟩ = some (.int .u16 p2))
          (first | exact hS | go_keep)
          (first
            | (rw [if_pos (by rfl)]; refine oper_appendSp_drew (.tmp 31) (.tmp 57) (by rfl) (L := spsTo P k) (p := min p1 p2) (q := max p1 p2) (by rfl) (by rfl) HO.out B.out B.out.size HLE.out ?_; intro v' w' ho' hb'; have HO9 := Lib.hid ho'; have HB9 := Lib.hid hb'; have hS := HC.out _ hb'; clear ho' hb')
            | fail)
        all_goals
          go_wp2_with fail
          go_roundw
          case rel => exact ⟨k + 1, hlt, hlt4, by go_num, by rw [HST.out]; exact HO9.out, HB9.out⟩
          case measure => simp [intOf]; omega
      · rcases (by omega : ¬ k < m ∨ (k < m ∧ k = 40)) with hex | ⟨hex, rfl⟩
        · have hex2 : ¬ (k : Int) < (m : Int) := by omega
          clear hlt hex
          go_wp2_with fail
          go_meet
          exact ⟨k, hk, hk4, HO.out, B.out⟩
        · have hex2 : (40 : Int) < (m : Int) := by omega
          clear hlt hex
          go_wp2_with fail
          go_meet
          exact ⟨40, hk, hk4, HO.out, B.out⟩
  case rest =>
    obtain ⟨k, hk, hk4, ho, hb⟩ := hcut
    have HO := Lib.hid ho
    have B := Lib.hid hb
    clear ho hb
    have hLok := spsTo_ok HPB.out k
    have hLl := spsTo_length (P := P) (k := k) (by rw [HPL.out]; exact hk)
    obtain ⟨L, hL⟩ : ∃ L, L = spsTo P k := ⟨_, rfl⟩
    rw [← hL] at HO hLok hLl
    have HOK := Lib.hid hLok
    obtain ⟨AL, cL, hu, hRL⟩ := HO.out.row hLok
    rw [hLl] at hu hRL
    have HRL := Lib.hid hRL
    have HLL := Lib.hid hLl
    have HK4 := Lib.hid hk4
    have C7 := Lib.hid (sstarts_ok AL k cL L wc (by omega) hRL hLok)
    have B1 := Lib.hid (B.out)
    subst hu
    clear hLok hLl hL hRL HO B hk4
    clear hk
    go_wp2_with fail
    refine C7.out.mono ?_
    rintro e w1 ⟨v7, st, rfl, h7, ho, hb⟩
    have H7 := Lib.hid h7
    have V7 := Lib.hid (ho.val fun z hz => by have := h7.bounds HOK.out z hz; omega)
    have B2 := Lib.hid (below_both B1.out hb)
    have HRL := Lib.hid (HRL.out.below hb)
    have C9 := Lib.hid (sunion_ok AL k cL L w1 (by have := HK4.out; omega) HRL.out HOK.out)
    clear h7 ho hb C7 B1
    go_wp2_with fail
    refine C9.out.mono ?_
    rintro e w2 ⟨v9, S, rfl, h9, ho, hb⟩
    have H9 := Lib.hid h9
    have V9 := Lib.hid (ho.val fun s hs => by have := fold_ok S [] (by simp) (fun s hs => HOK.out s (h9.perm.mem_iff.1 hs)) s hs; unfold OkS at this; unfold I64; omega)
    have B3 := Lib.hid (below_both B2.out hb)
    have V7 := Lib.hid (V7.out.below hb)
    have HRL := Lib.hid (HRL.out.below hb)
    obtain ⟨A7, c7, hv7, _, hR7⟩ := V7.out
    obtain ⟨q7, hq7⟩ : ∃ q, q = st.length := ⟨_, rfl⟩
    have hpos := H7.out.pos
    rw [← hq7] at hv7 hR7 hpos
    have hz := H7.out.zero HOK.out
    obtain ⟨b7, o7, hA7, hb7, hc7⟩ := hR7.addr hpos
    have hc70 := hc7 0 hpos
    rw [hz, Nat.add_zero] at hc70
    have R7 := Lib.hid hR7
    have HQ7 := Lib.hid hq7
    have hne : ((q7 : Int) == 0) = false := by rw [beq_eq_false_iff_ne]; omega
    have hposi : (0 : Int) < (q7 : Int) := by omega
    subst hv7
    subst hA7
    clear ho hb h9 hq7 hR7 hpos hz hc7 hb7 C9 B2 V7
    go_upto_block 2 with fail
    have P0 := Lib.hid (PB.new w2 0 0)
    have HNB := Lib.hid (fun (W : World) (h : Below w0.heap.size w0 W) => And.intro ((h.cell (p := ⟨w.heap.size, 0, none⟩) HS1.out).trans (cell_of_row w0 _ 0 _ _ _ N0.out)) ((h.cell (p := ⟨w.heap.size, 1, none⟩) HS1.out).trans (cell_of_row w0 _ 1 _ _ _ N0.out)))
    have HNB : Hid (∀ W : World, Below w0.heap.size w0 W → W.cell? ⟨w.heap.size, 0, none⟩ = some (.int .u16 x) ∧ W.cell? ⟨w.heap.size, 1, none⟩ = some (.int .u16 y)) := HNB.out
    have B4 := Lib.hid (B3.out.alloc B3.out.size (.cells #[.int .i64 0, .int .i64 0] 34))
    have D0 : Hid (Below w2.heap.size w2 (w2.alloc (.cells #[.int .i64 0, .int .i64 0] 34))) := (Below.refl _ _).alloc (Nat.le_refl _) _
    have hq7i : (q7 : Int) ≤ 65536 := by
      have h1 := starts_len H7.out HOK.out
      have h4 := HQ7.out
      omega
    obtain ⟨cx1, cx2⟩ := u16_conv (a := x) ⟨hx1, hx2⟩
    obtain ⟨cy1, cy2⟩ := u16_conv (a := y) ⟨hy1, hy2⟩
    go_cut [] from 12 to 108 (fun wx => Hid (PB wx w2.heap.size (pidx st x q7 : Nat) (pidx st y q7 : Nat)) ∧ Hid (Below w2.heap.size w2 wx))
    case first =>
      go_wp2_with fail
      go_loopw [12] (fun i wr => ∃ k : Nat, k ≤ q7 ∧ i = .int .i64 (k : Int) ∧ PB wr w2.heap.size (pidx st x k : Nat) (pidx st y k : Nat) ∧ Below w2.heap.size w2 wr) (fun i _ => q7 - (intOf i).toNat)
      case atStart => exact ⟨0, Nat.zero_le _, rfl, P0.out, D0.out⟩
      case round =>
        clear P0 D0 B4
        obtain ⟨i, hi, rfl, hp, hd⟩ := hrel
        have PP := Lib.hid hp
        have D := Lib.hid hd
        clear hp hd
        by_cases hil : i < q7
        · have hili : (i : Int) < (q7 : Int) := by omega
          obtain ⟨b', o', he, hlt7, hc7⟩ := R7.out.addr (by omega)
          injection he with he
          injection he with e1 e2
          subst e1 e2
          have hci := (D.out.cell (p := ⟨b7, o7 + i, none⟩) hlt7).trans (hc7 i hil)
          have HCI := Lib.hid (fun (W : World) (h : Below w2.heap.size w2 W) => (h.cell (p := ⟨b7, o7 + i, none⟩) hlt7).trans (hc7 i hil))
          obtain ⟨z, hze⟩ : ∃ z, z = st.getD i 0 := ⟨_, rfl⟩
          rw [← hze] at hci HCI
          have HZ := Lib.hid hze
          have ui := self_wrap (k := i) (by omega)
          clear hc7 hlt7 hze hci
          go_wp2_with fail
          go_loopw [13] (fun j wr => ∃ k : Nat, k ≤ 2 ∧ j = .int .i64 (k : Int) ∧ PB wr w2.heap.size ((if 1 ≤ k then pidx st x (i + 1) else pidx st x i : Nat)) ((if 2 ≤ k then pidx st y (i + 1) else pidx st y i : Nat)) ∧ Below w2.heap.size w2 wr) (fun j _ => 2 - (intOf j).toNat)
          case atStart => exact ⟨0, Nat.zero_le _, rfl, PP.out, D.out⟩
          case round =>
            clear PP D
            obtain ⟨j, hj, rfl, hp, hd⟩ := hrel
            have PP := Lib.hid hp
            have D := Lib.hid hd
            have hcz := HCI.out _ hd
            have hnb := HNB.out _ (below_both B3.out hd)
            obtain ⟨hn0, hn1⟩ := hnb
            clear hp hd
            rcases (by omega : j = 0 ∨ j = 1 ∨ j = 2) with rfl | rfl | rfl
            · have PP : Hid (PB wr w2.heap.size (pidx st x i : Nat) (pidx st y i : Nat)) := PP
              by_cases hz : z ≤ x
              · have hpx : pidx st x (i + 1) = i := by show (if st.getD i 0 ≤ x then i else pidx st x i) = i; rw [if_pos (by rw [← HZ.out]; exact hz)]
                have P2 := Lib.hid (PP.out.s0 (i : Int))
                have P3 : Hid (PB (wr.setCell ⟨w2.heap.size, 0, none⟩ (.int .i64 (i : Int))) w2.heap.size (pidx st x (i + 1) : Nat) (pidx st y i : Nat)) := by show PB _ _ _ _; rw [hpx]; exact P2.out
                have D2 := Lib.hid (D.out.setCell (p := ⟨w2.heap.size, 0, none⟩) (Nat.le_refl _) (.int .i64 (i : Int)))
                have q0 := PP.out.c0; have q1 := PP.out.c1; have f0 := PP.out.f 0; have f1 := PP.out.f 1
                clear hpx P2
                go_wp2_with fail
                go_quiet (fail)
                go_wp2_with fail
                go_roundw
                case rel => exact ⟨0 + 1, by omega, by go_num, P3.out, below_drewN' D2.out _⟩
                case measure => simp [intOf]
              · have hpx : pidx st x (i + 1) = pidx st x i := by show (if st.getD i 0 ≤ x then i else pidx st x i) = _; rw [if_neg (by rw [← HZ.out]; exact hz)]
                have hz2 : x < z := by omega
                have P3 : Hid (PB wr w2.heap.size (pidx st x (i + 1) : Nat) (pidx st y i : Nat)) := by show PB _ _ _ _; rw [hpx]; exact PP.out
                clear hpx hz
                go_wp2_with fail
                go_quiet (fail)
                go_wp2_with fail
                go_roundw
                case rel => exact ⟨0 + 1, by omega, by go_num, P3.out, below_drewN' D.out _⟩
                case measure => simp [intOf]
            · have PP : Hid (PB wr w2.heap.size (pidx st x (i + 1) : Nat) (pidx st y i : Nat)) := PP
              by_cases hz : z ≤ y
              · have hpx : pidx st y (i + 1) = i := by show (if st.getD i 0 ≤ y then i else pidx st y i) = i; rw [if_pos (by rw [← HZ.out]; exact hz)]
                have P2 := Lib.hid (PP.out.s1 (i : Int))
                have P3 : Hid (PB (wr.setCell ⟨w2.heap.size, 1, none⟩ (.int .i64 (i : Int))) w2.heap.size (pidx st x (i + 1) : Nat) (pidx st y (i + 1) : Nat)) := by show PB _ _ _ _; rw [hpx]; exact P2.out
                have D2 := Lib.hid (D.out.setCell (p := ⟨w2.heap.size, 1, none⟩) (Nat.le_refl _) (.int .i64 (i : Int)))
                have q0 := PP.out.c0; have q1 := PP.out.c1; have f0 := PP.out.f 0; have f1 := PP.out.f 1
                clear hpx P2
                go_wp2_with fail
                go_quiet (fail)
                go_wp2_with fail
                go_roundw
                case rel => exact ⟨1 + 1, by omega, by go_num, P3.out, below_drewN' D2.out _⟩
                case measure => simp [intOf]
              · have hpx : pidx st y (i + 1) = pidx st y i := by show (if st.getD i 0 ≤ y then i else pidx st y i) = _; rw [if_neg (by rw [← HZ.out]; exact hz)]
                have hz2 : y < z := by omega
                have P3 : Hid (PB wr w2.heap.size (pidx st x (i + 1) : Nat) (pidx st y (i + 1) : Nat)) := by show PB _ _ _ _; rw [hpx]; exact PP.out
                clear hpx hz
                go_wp2_with fail
                go_quiet (fail)
                go_wp2_with fail
                go_roundw
                case rel => exact ⟨1 + 1, by omega, by go_num, P3.out, below_drewN' D.out _⟩
                case measure => simp [intOf]
            · have PP : Hid (PB wr w2.heap.size (pidx st x (i + 1) : Nat) (pidx st y (i + 1) : Nat)) := PP
              clear hcz hn0 hn1
              go_wp2_with fail
              go_roundw
              case rel => exact ⟨i + 1, hil, by go_num, PP.out, D.out⟩
              case measure => simp [intOf]; omega
        · obtain rfl : i = q7 := by omega
          have hilx : ¬ (i : Int) < (i : Int) := by omega
          go_wp2_with fail
          go_meet
          exact ⟨PP.out, D.out⟩
    case rest =>
      obtain ⟨PP, D⟩ := hcut
      obtain ⟨W5, hW5⟩ : ∃ W, W = wc := ⟨_, rfl⟩
      rw [← hW5] at PP D ⊢
      clear hW5
      obtain ⟨A9, c9, hv9, _, hR9⟩ := V9.out
      have UL : Hid ((uni S).length ≤ 40) := by
        show _ ≤ _
        have h1 := (cnt_union H9.out HOK.out x).2.2
        have h3 := HLL.out
        have h4 := HK4.out
        omega
      have HUX := Lib.hid (cnt_union H9.out HOK.out x)
      have HUY := Lib.hid (cnt_union H9.out HOK.out y)
      obtain ⟨U, hU⟩ : ∃ U, U = uni S := ⟨_, rfl⟩
      rw [← hU] at hv9 hR9 UL HUX HUY
      obtain ⟨q9, hq9⟩ : ∃ q, q = U.length := ⟨_, rfl⟩
      rw [← hq9] at hv9 hR9 UL HUX HUY
      have R9 := Lib.hid (hR9.below D.out)
      have RL := Lib.hid (HRL.out.below D.out)
      have HQ9 := Lib.hid hq9
      have hq9i : (q9 : Int) ≤ 40 := by have := UL.out; omega
      have BW := Lib.hid (below_both B3.out D.out)
      have hN := HNB.out _ BW.out
      have HN0 := Lib.hid hN.1
      have HN1 := Lib.hid hN.2
      have CX := Lib.hid (fun w a b => shas_any a b x w)
      have CY := Lib.hid (fun w a b => shas_any a b y w)
      have HPX := Lib.hid (fun (s : Sp) (hs : s ∈ L) (he : pidx st x q7 = pidx st y q7) => piece_has H7.out HOK.out ⟨hx1, hx2⟩ ⟨hy1, hy2⟩ (by rw [HQ7.out] at he; exact he) hs)
      obtain ⟨pX, hpX⟩ : ∃ p, p = pidx st x q7 := ⟨_, rfl⟩
      obtain ⟨pY, hpY⟩ : ∃ p, p = pidx st y q7 := ⟨_, rfl⟩
      rw [← hpX, ← hpY] at PP HPX
      have BB0 := Lib.hid (below_both B0.out BW.out)
      have HP0 := Lib.hid PP.out.c0
      have HP1 := Lib.hid PP.out.c1
      have HPL9 := Lib.hid PP.out.lt
      have HNL := Lib.hid (show w.heap.size < W5.heap.size from Nat.lt_of_lt_of_le HS1.out (Nat.le_trans B3.out.size D.out.size))
      have hax := anyS_zero L x
      have hay := anyS_zero L y
      subst hv9
      clear hR9 hU hq9 V9 hN hpX hpY hne hposi D PP HNB R7 hc70 R N0 B3
      go_upto_block 6 with fail
      have K4 := Lib.hid (KV.low (Below.refl W5.heap.size W5) 34 [.int .i64 0, .int .i64 0])
      go_cut [] from 15 to 133 (fun wx => Hid (KV W5 [(34, W5.heap.size, [.int .i64 (cnt U x q9 : Nat), .int .i64 (cnt U y q9 : Nat)])] wx))
      case first =>
        go_wp2_with fail
        go_loopw [15] (fun j w4 => ∃ k : Nat, k ≤ 2 ∧ j = .int .i64 (k : Int) ∧ Hid (KV W5 [(34, W5.heap.size, [.int .i64 ((if 1 ≤ k then cnt U x q9 else 0 : Nat)), .int .i64 ((if 2 ≤ k then cnt U y q9 else 0 : Nat))])] w4)) (fun j _ => 2 - (intOf j).toNat)
        case atStart => exact ⟨0, Nat.zero_le _, rfl, K4.out⟩
        case round =>
          clear K4
          obtain ⟨j, hj, rfl, K4⟩ := hrel
          rcases (by omega : j = 0 ∨ j = 1 ∨ j = 2) with rfl | rfl | rfl
          · have K4 : Hid (KV W5 [(34, W5.heap.size, [.int .i64 (cnt U x 0 : Nat), .int .i64 (0 : Nat)])] wr) := K4
            go_wp2_with fail
            go_loopw [16] (fun v w5 => ∃ k : Nat, k ≤ q9 ∧ v = .int .i64 (k : Int) ∧ Hid (KV W5 [(34, W5.heap.size, [.int .i64 (cnt U x k : Nat), .int .i64 (0 : Nat)])] w5)) (fun v _ => q9 - (intOf v).toNat)
            case atStart => exact ⟨0, Nat.zero_le _, rfl, K4.out⟩
            case round =>
              clear K4
              obtain ⟨k, hk, rfl, K5⟩ := hrel
              by_cases hkl : k < q9
              · have HKL := Lib.hid hkl
                have hkli : (k : Int) < (q9 : Int) := Int.ofNat_lt.2 hkl
                obtain ⟨b9, o9, rfl, hb9, hc9⟩ := R9.out.addr (by omega)
                have hst := cnt_step (L := U) (x := x) (k := k) (by rw [← HQ9.out]; exact hkl)
                have hle := cnt_le U x k
                have HC0 := Lib.hid (hc9 k hkl).1
                have HC1 := Lib.hid (hc9 k hkl).2
                have HB9 := Lib.hid hb9
                have CZ := Lib.hid (fun w => CX.out w (U.getD k (0, 0)).1 (U.getD k (0, 0)).2)
                obtain ⟨u, hu⟩ : ∃ u, u = U.getD k (0, 0) := ⟨_, rfl⟩
                rw [← hu] at hst CZ HC0 HC1
                obtain ⟨u1, u2⟩ := u
                have CZ : Hid (∀ w, Calls Tryd.prog 6 #[.agg #[.int .i64 u1, .int .i64 u2], .int .i64 x] w fun e w' => e = .returned (.bool (hasS (u1, u2) x)) ∧ Below w.heap.size w w') := CZ.out
                have HC0 : Hid (W5.cell? ⟨b9, o9 + k * 2, none⟩ = some (.int .i64 u1)) := HC0
                have HC1 : Hid (W5.cell? ⟨b9, o9 + k * 2 + 1, none⟩ = some (.int .i64 u2)) := HC1
                obtain ⟨cc, hcc⟩ : ∃ cc, cc = cnt U x k := ⟨_, rfl⟩
                rw [← hcc] at hst hle K5
                have HCW := Lib.hid (cnt_wrap9 (c := cc) (by omega))
                have HUK := Lib.hid (self_wrap (k := k) (by omega))
                obtain ⟨hh, hhe⟩ : ∃ h, h = hasS (u1, u2) x := ⟨_, rfl⟩
                rw [← hhe] at hst CZ
                have HST := Lib.hid hst
                clear hu hb9 hc9 hcc hle hkl hk hst hhe
                go_upto_region 26 with fail
                refine wp_quiet_kv (C := KV W5 [(34, W5.heap.size, [.int .i64 (cc : Nat), .int .i64 (0 : Nat)])]) (by kernel_rfl) (by kernel_rfl) K5.out.drew ?_
                repeat (first
                  | go_big_quiet_skip
                  | (go_big_quiet_want; apply Exists.intro; refine ⟨fun w' hw' => (by first | exact quietAt_pair rfl rfl tyspan ((hw'.bel.cell (p := ⟨b9, o9 + k * 2, none⟩) HB9.out).trans HC0.out) ((hw'.bel.cell (p := ⟨b9, o9 + k * 2 + 1, none⟩) HB9.out).trans HC1.out) | exact quietAt_at rfl rfl one_u16 ((hw'.bel.cell (p := ⟨w.heap.size, 0, none⟩) HNL.out).trans HN0.out) | fail), ?_⟩; simp only [Act.put, List.setIfInBounds_toArray, List.set_cons_zero, List.set_cons_succ]; go_big_quiet_on)
                  | (go_big_quiet_want; go_big_quiet_op; go_big_quiet_on)
                  | (go_big_quiet_want; go_big_quiet_op; apply Exists.intro; refine ⟨fun w' hw' => (by first | (with_reducible refine (CZ.out w').mono ?_; rintro e w'' ⟨rfl, hb⟩; exact ⟨rfl, hw'.below hb⟩) | fail), ?_⟩; go_big_quiet_on)
                  | (go_big_quiet_want; go_big_quiet_op; apply Exists.intro; refine ⟨fun w' hw' => rfl, ?_⟩; go_big_quiet_on))
                refine wpQuiet_nil ?_
                intro w6 hw6
                have K6 := Lib.hid hw6
                clear hw6 K5
                cases hh with
                | false =>
                  have HST := Lib.hid (show cnt U x (k + 1) = cc by have := HST.out; simpa using this)
                  have u := HUK.out
                  go_wp2_with fail
                  go_roundw
                  case rel => exact ⟨k + 1, HKL.out, by go_num, by rw [HST.out]; exact K6⟩
                  case measure => have := HKL.out; simp [intOf]; omega
                | true =>
                  have HST := Lib.hid (show cnt U x (k + 1) = cc + 1 by have := HST.out; simpa using this)
                  have q0 := (K6.out.at 0 rfl).get 0
                  have q1 := (K6.out.at 0 rfl).get 1
                  have f0 := (K6.out.at 0 rfl).frozen 0
                  have f1 := (K6.out.at 0 rfl).frozen 1
                  simp at q0 q1
                  have K7 := Lib.hid (K6.out.put 0 rfl 0 (.int .i64 ((cc : Int) + 1)))
                  have u := HUK.out
                  have hcw := HCW.out
                  go_wp2_with fail
                  go_roundw
                  case rel => exact ⟨k + 1, HKL.out, by go_num, by rw [HST.out]; exact K7.out⟩
                  case measure => have := HKL.out; simp [intOf]; omega
              · obtain rfl : k = q9 := by omega
                go_wp2_with fail
                go_roundw
                case rel => exact ⟨0 + 1, by omega, by go_num, K5.out⟩
                case measure => simp [intOf]
          · have K4 : Hid (KV W5 [(34, W5.heap.size, [.int .i64 (cnt U x q9 : Nat), .int .i64 (cnt U y 0 : Nat)])] wr) := K4
            go_wp2_with fail
            go_loopw [16] (fun v w5 => ∃ k : Nat, k ≤ q9 ∧ v = .int .i64 (k : Int) ∧ Hid (KV W5 [(34, W5.heap.size, [.int .i64 (cnt U x q9 : Nat), .int .i64 (cnt U y k : Nat)])] w5)) (fun v _ => q9 - (intOf v).toNat)
            case atStart => exact ⟨0, Nat.zero_le _, rfl, K4.out⟩
            case round =>
              clear K4
              obtain ⟨k, hk, rfl, K5⟩ := hrel
              by_cases hkl : k < q9
              · have HKL := Lib.hid hkl
                have hkli : (k : Int) < (q9 : Int) := Int.ofNat_lt.2 hkl
                obtain ⟨b9, o9, rfl, hb9, hc9⟩ := R9.out.addr (by omega)
                have hst := cnt_step (L := U) (x := y) (k := k) (by rw [← HQ9.out]; exact hkl)
                have hle := cnt_le U y k
                have HC0 := Lib.hid (hc9 k hkl).1
                have HC1 := Lib.hid (hc9 k hkl).2
                have HB9 := Lib.hid hb9
                have CZ := Lib.hid (fun w => CY.out w (U.getD k (0, 0)).1 (U.getD k (0, 0)).2)
                obtain ⟨u, hu⟩ : ∃ u, u = U.getD k (0, 0) := ⟨_, rfl⟩
                rw [← hu] at hst CZ HC0 HC1
                obtain ⟨u1, u2⟩ := u
                have CZ : Hid (∀ w, Calls Tryd.prog 6 #[.agg #[.int .i64 u1, .int .i64 u2], .int .i64 y] w fun e w' => e = .returned (.bool (hasS (u1, u2) y)) ∧ Below w.heap.size w w') := CZ.out
                have HC0 : Hid (W5.cell? ⟨b9, o9 + k * 2, none⟩ = some (.int .i64 u1)) := HC0
                have HC1 : Hid (W5.cell? ⟨b9, o9 + k * 2 + 1, none⟩ = some (.int .i64 u2)) := HC1
                obtain ⟨cc, hcc⟩ : ∃ cc, cc = cnt U y k := ⟨_, rfl⟩
                rw [← hcc] at hst hle K5
                have HCW := Lib.hid (cnt_wrap9 (c := cc) (by omega))
                have HUK := Lib.hid (self_wrap (k := k) (by omega))
                obtain ⟨hh, hhe⟩ : ∃ h, h = hasS (u1, u2) y := ⟨_, rfl⟩
                rw [← hhe] at hst CZ
                have HST := Lib.hid hst
                clear hu hb9 hc9 hcc hle hkl hk hst hhe
                go_upto_region 26 with fail
                refine wp_quiet_kv (C := KV W5 [(34, W5.heap.size, [.int .i64 (cnt U x q9 : Nat), .int .i64 (cc : Nat)])]) (by kernel_rfl) (by kernel_rfl) K5.out.drew ?_
                repeat (first
                  | go_big_quiet_skip
                  | (go_big_quiet_want; apply Exists.intro; refine ⟨fun w' hw' => (by first | exact quietAt_pair rfl rfl tyspan ((hw'.bel.cell (p := ⟨b9, o9 + k * 2, none⟩) HB9.out).trans HC0.out) ((hw'.bel.cell (p := ⟨b9, o9 + k * 2 + 1, none⟩) HB9.out).trans HC1.out) | exact quietAt_at rfl rfl one_u16 ((hw'.bel.cell (p := ⟨w.heap.size, 1, none⟩) HNL.out).trans HN1.out) | fail), ?_⟩; simp only [Act.put, List.setIfInBounds_toArray, List.set_cons_zero, List.set_cons_succ]; go_big_quiet_on)
                  | (go_big_quiet_want; go_big_quiet_op; go_big_quiet_on)
                  | (go_big_quiet_want; go_big_quiet_op; apply Exists.intro; refine ⟨fun w' hw' => (by first | (with_reducible refine (CZ.out w').mono ?_; rintro e w'' ⟨rfl, hb⟩; exact ⟨rfl, hw'.below hb⟩) | fail), ?_⟩; go_big_quiet_on)
                  | (go_big_quiet_want; go_big_quiet_op; apply Exists.intro; refine ⟨fun w' hw' => rfl, ?_⟩; go_big_quiet_on))
                refine wpQuiet_nil ?_
                intro w6 hw6
                have K6 := Lib.hid hw6
                clear hw6 K5
                cases hh with
                | false =>
                  have HST := Lib.hid (show cnt U y (k + 1) = cc by have := HST.out; simpa using this)
                  have u := HUK.out
                  go_wp2_with fail
                  go_roundw
                  case rel => exact ⟨k + 1, HKL.out, by go_num, by rw [HST.out]; exact K6⟩
                  case measure => have := HKL.out; simp [intOf]; omega
                | true =>
                  have HST := Lib.hid (show cnt U y (k + 1) = cc + 1 by have := HST.out; simpa using this)
                  have q0 := (K6.out.at 0 rfl).get 0
                  have q1 := (K6.out.at 0 rfl).get 1
                  have f0 := (K6.out.at 0 rfl).frozen 0
                  have f1 := (K6.out.at 0 rfl).frozen 1
                  simp at q0 q1
                  have K7 := Lib.hid (K6.out.put 0 rfl 1 (.int .i64 ((cc : Int) + 1)))
                  have u := HUK.out
                  have hcw := HCW.out
                  go_wp2_with fail
                  go_roundw
                  case rel => exact ⟨k + 1, HKL.out, by go_num, by rw [HST.out]; exact K7.out⟩
                  case measure => have := HKL.out; simp [intOf]; omega
              · obtain rfl : k = q9 := by omega
                go_wp2_with fail
                go_roundw
                case rel => exact ⟨1 + 1, by omega, by go_num, K5.out⟩
                case measure => simp [intOf]
          · have K4 : Hid (KV W5 [(34, W5.heap.size, [.int .i64 (cnt U x q9 : Nat), .int .i64 (cnt U y q9 : Nat)])] wr) := K4
            go_wp2_with fail
            go_meet
            exact K4
      case rest =>
        have K6 := hcut
        obtain ⟨cX, hcX⟩ : ∃ c, c = cnt U x q9 := ⟨_, rfl⟩
        obtain ⟨cY, hcY⟩ : ∃ c, c = cnt U y q9 := ⟨_, rfl⟩
        rw [← hcX, ← hcY] at K6
        rw [← hcX] at HUX
        rw [← hcY] at HUY
        clear hcut hcX hcY K4
        go_wp2_with fail
        have K7 := Lib.hid (K6.out.new 36 [.bool false, .bool false])
        generalize hg : wc.heap.size = g17 at *
        generalize W5.heap.size = g14 at K6 K7 ⊢
        go_loopw [18] (fun v w6 => ∃ i : Nat, i ≤ k ∧ v = .int .i64 (i : Int) ∧ Hid (KV W5 [(34, g14, [.int .i64 (cX : Nat), .int .i64 (cY : Nat)]), (36, g17, [.bool (anyS L x i), .bool (anyS L y i)])] w6)) (fun v _ => k - (intOf v).toNat)
        case atStart => exact ⟨0, Nat.zero_le _, rfl, K7.out⟩
        case round =>
          clear K7 K6
          obtain ⟨i, hi, rfl, K8⟩ := hrel
          by_cases hil : i < k
          · have HIL := Lib.hid hil
            have hili : (i : Int) < (k : Int) := Int.ofNat_lt.2 hil
            have hk40 : (k : Int) ≤ 40 := by have := HK4.out; omega
            obtain ⟨bL, oL, rfl, hbL, hcL⟩ := RL.out.addr (by omega)
            have hax := anyS_step (L := L) (x := x) (k := i) (by rw [HLL.out]; exact hil)
            have hay := anyS_step (L := L) (x := y) (k := i) (by rw [HLL.out]; exact hil)
            have hpx := HPX.out _ (sp_getD_mem (L := L) (i := i) (by rw [HLL.out]; exact hil))
            have HC0 := Lib.hid (hcL i hil).1
            have HC1 := Lib.hid (hcL i hil).2
            have HBL := Lib.hid hbL
            have CZ := Lib.hid (fun w => CX.out w (L.getD i (0, 0)).1 (L.getD i (0, 0)).2)
            have CV := Lib.hid (fun w => CY.out w (L.getD i (0, 0)).1 (L.getD i (0, 0)).2)
            obtain ⟨u, hu⟩ : ∃ u, u = L.getD i (0, 0) := ⟨_, rfl⟩
            rw [← hu] at hax hay hpx CZ CV HC0 HC1
            obtain ⟨u1, u2⟩ := u
            have CZ : Hid (∀ w, Calls Tryd.prog 6 #[.agg #[.int .i64 u1, .int .i64 u2], .int .i64 x] w fun e w' => e = .returned (.bool (hasS (u1, u2) x)) ∧ Below w.heap.size w w') := CZ.out
            have CV : Hid (∀ w, Calls Tryd.prog 6 #[.agg #[.int .i64 u1, .int .i64 u2], .int .i64 y] w fun e w' => e = .returned (.bool (hasS (u1, u2) y)) ∧ Below w.heap.size w w') := CV.out
            have HC0 : Hid (W5.cell? ⟨bL, oL + i * 2, none⟩ = some (.int .i64 u1)) := HC0
            have HC1 : Hid (W5.cell? ⟨bL, oL + i * 2 + 1, none⟩ = some (.int .i64 u2)) := HC1
            have HUI := Lib.hid (self_wrap (k := i) (by have := HK4.out; omega))
            obtain ⟨a, hae⟩ : ∃ h, h = hasS (u1, u2) x := ⟨_, rfl⟩
            obtain ⟨b, hbe⟩ : ∃ h, h = hasS (u1, u2) y := ⟨_, rfl⟩
            rw [← hae] at hax hpx CZ
            rw [← hbe] at hay hpx CV
            obtain ⟨s0, hs0⟩ : ∃ h, h = anyS L x i := ⟨_, rfl⟩
            obtain ⟨t0, ht0⟩ : ∃ h, h = anyS L y i := ⟨_, rfl⟩
            rw [← hs0, ← ht0] at K8
            rw [← hs0] at hax
            rw [← ht0] at hay
            have HAX := Lib.hid hax
            have HAY := Lib.hid hay
            clear hu hbL hcL hil hi hax hay hae hbe hs0 ht0
            go_upto_region 32 with fail
            refine wp_quiet_kv (C := KV W5 [(34, g14, [.int .i64 (cX : Nat), .int .i64 (cY : Nat)]), (36, g17, [.bool s0, .bool t0])]) (by kernel_rfl) (by kernel_rfl) K8.out.drew ?_
            repeat (first
              | go_big_quiet_skip
              | (go_big_quiet_want; apply Exists.intro; refine ⟨fun w' hw' => (by first | exact quietAt_pair rfl rfl tyspan ((hw'.bel.cell (p := ⟨bL, oL + i * 2, none⟩) HBL.out).trans HC0.out) ((hw'.bel.cell (p := ⟨bL, oL + i * 2 + 1, none⟩) HBL.out).trans HC1.out) | exact quietAt_at rfl rfl one_u16 ((hw'.bel.cell (p := ⟨w.heap.size, 0, none⟩) HNL.out).trans HN0.out) | exact quietAt_at rfl rfl one_u16 ((hw'.bel.cell (p := ⟨w.heap.size, 1, none⟩) HNL.out).trans HN1.out) | fail), ?_⟩; simp only [Act.put, List.setIfInBounds_toArray, List.set_cons_zero, List.set_cons_succ]; go_big_quiet_on)
              | (go_big_quiet_want; go_big_quiet_op; go_big_quiet_on)
              | (go_big_quiet_want; go_big_quiet_op; apply Exists.intro; refine ⟨fun w' hw' => (by first | (with_reducible refine (CZ.out w').mono ?_; rintro e w'' ⟨rfl, hb⟩; exact ⟨rfl, hw'.below hb⟩) | (with_reducible refine (CV.out w').mono ?_; rintro e w'' ⟨rfl, hb⟩; exact ⟨rfl, hw'.below hb⟩) | fail), ?_⟩; go_big_quiet_on)
              | (go_big_quiet_want; go_big_quiet_op; apply Exists.intro; refine ⟨fun w' hw' => rfl, ?_⟩; go_big_quiet_on))
            refine wpQuiet_nil ?_
            intro w6 hw6
            have K9 := Lib.hid hw6
            clear hw6 K8
            have p0 := (K9.out.bel.cell (p := ⟨w2.heap.size, 0, none⟩) HPL9.out).trans HP0.out
            have p1 := (K9.out.bel.cell (p := ⟨w2.heap.size, 1, none⟩) HPL9.out).trans HP1.out
            have q0 := (K9.out.at 1 rfl).get 0
            have q1 := (K9.out.at 1 rfl).get 1
            have f0 := (K9.out.at 1 rfl).frozen 0
            have f1 := (K9.out.at 1 rfl).frozen 1
            simp at q0 q1
            have u := HUI.out
            by_cases hpe : pX = pY
            · obtain rfl := hpx hpe
              subst hpe
              clear hpx HPX
              cases s0 <;> cases t0
              all_goals
                go_wp2_with fail
                go_roundw
                case rel => exact ⟨i + 1, HIL.out, by go_num, by rw [HAX.out, HAY.out]; exact K9.out.store 1 rfl [.bool _, .bool _] rfl⟩
                case measure => have := HIL.out; simp [intOf]; omega
            · have hpb : ((pX : Int) == (pY : Int)) = false := by rw [beq_eq_false_iff_ne]; exact fun h => hpe (Int.ofNat_inj.1 h)
              clear hpe hpx HPX
              cases s0 <;> cases t0
              all_goals
                go_wp2_with fail
                go_roundw
                case rel => exact ⟨i + 1, HIL.out, by go_num, by rw [HAX.out, HAY.out]; exact K9.out.store 1 rfl [.bool _, .bool _] rfl⟩
                case measure => have := HIL.out; simp [intOf]; omega
          · obtain rfl : i = k := by omega
            have hux := HUX.out
            have huy := HUY.out
            rw [HLL.out] at hux huy
            obtain ⟨s0, hs0⟩ : ∃ h, h = anyS L x i := ⟨_, rfl⟩
            obtain ⟨t0, ht0⟩ : ∃ h, h = anyS L y i := ⟨_, rfl⟩
            rw [← hs0] at hux
            rw [← ht0] at huy
            rw [← hs0, ← ht0] at K8
            have hlen : (q9 : Int) ≤ (i : Int) := by have := hux.2.2; omega
            have hnl : ¬ (i : Int) < (i : Int) := Int.lt_irrefl _
            obtain ⟨hx3, hx4, _⟩ := hux
            obtain ⟨hy3, hy4, _⟩ := huy
            have HCX : Hid (cX = 0 ∧ s0 = false ∨ cX = 1 ∧ s0 = true) := by
              rcases (by omega : cX = 0 ∨ cX = 1) with rfl | rfl
              · exact .inl ⟨rfl, hx4.symm⟩
              · exact .inr ⟨rfl, hx4.symm⟩
            have HCY : Hid (cY = 0 ∧ t0 = false ∨ cY = 1 ∧ t0 = true) := by
              rcases (by omega : cY = 0 ∨ cY = 1) with rfl | rfl
              · exact .inl ⟨rfl, hy4.symm⟩
              · exact .inr ⟨rfl, hy4.symm⟩
            clear hx3 hx4 hy3 hy4 hs0 ht0 hil hi HUX HUY
            rcases HCX.out with ⟨rfl, rfl⟩ | ⟨rfl, rfl⟩ <;> rcases HCY.out with ⟨rfl, rfl⟩ | ⟨rfl, rfl⟩
            all_goals
              go_wp2_with fail
              refine (live08 _ (T.out.below (below_both BB0.out K8.out.bel))).mono ?_
              rintro e w9 ⟨rfl, b9⟩
              have K9 := Lib.hid (K8.out.below b9)
              have q0 := (K9.out.at 0 rfl).get 0
              have q1 := (K9.out.at 0 rfl).get 1
              have q2 := (K9.out.at 1 rfl).get 0
              have q3 := (K9.out.at 1 rfl).get 1
              simp at q0 q1 q2 q3
              clear b9 K8
              go_wp2_with fail
              go_ret
              exact ⟨by simp, below_both BB0.out K9.out.bel⟩
theorem rowP_of {w : World} {A : Option Addr} {n : Nat} {L : List (Int × Int)} (h : RowQ .u16 w A n L) : RowP w A n L := by
  refine ⟨h.1, fun s hs => ?_, h.2.2⟩
  obtain ⟨h1, h2⟩ := h.2.1 s hs
  simp [Lit.wf, IntKind.min, IntKind.max, IntKind.signed, IntKind.bits] at h1 h2
  omega
theorem walk_SpanPieces (A : Option Addr) (len cap : Nat) (L : List (Int × Int)) (zs : List Int) (w : World) (hT : Tabs w) (hR : RowQ .u16 w A len L) (hb : len * 4 ≤ 140737488351232) (hn : zs.length = 2) (hz : ∀ z ∈ zs, (Lit.int .u16 z).wf = true) :
    Calls Tryd.prog 3 #[.slice A len cap, .agg (zs.map (Value.int .u16)).toArray] w fun e w' => e = .returned (.bool true) ∧ Below w.heap.size w w' := by
  match zs, hn with
  | [x, y], _ =>
    have hx := hz x (by simp)
    have hy := hz y (by simp)
    simp [Lit.wf, IntKind.min, IntKind.max, IntKind.signed, IntKind.bits] at hx hy
    exact wsp_walk A len cap L x y w hT (rowP_of hR) (by omega) (by omega) (by omega)
end Go.Proofs.YtgpoiddmffclmaaDoor
