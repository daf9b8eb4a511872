/-
  Plain facts of WholeCarried: packets of both versions, and a later fragment, with one payload.
  Rows of bytes that a call holds, among its variables: made by a callee, and grown by append. Of whatever function.
  The walk of the statement WholeCarried.
-/
import Derived.Test.YtcjaidpmfjnhpaaPk11
import Derived.Test.YtcjaidpmfjnhpaaFh11
import Derived.Test.YtcjaidpmfjnhpaaWS1
import Derived.Test.YtcjaidpmfjnhpaaApp
import Derived.Test.YtcjaidpmfjnhpaaKv
import Derived.Test.YtcjaidpmfjnhpaaSx7
import Derived.Test.YtcjaidpmfjnhpaaPar
namespace Go.Proofs.Ytcjaidpmfjnhpaa
open Go.RowKit
set_option linter.unusedVariables false

def fourC (p n o : Nat) : FourV := ⟨5, 0, ((20 + n : Nat) : Int), 0, 0, ((o : Nat) : Int), 0, ((p : Nat) : Int), 0, [0, 0, 0, 0], [0, 0, 0, 0]⟩
theorem fourC_fits {p n o : Nat} (hp : p < 256) (hn : n ≤ 1000) (ho : o ≤ 5) : (fourC p n o).fits := fun k hk => by
  match k, hk with
  | 0, _ => exact ⟨by show (5 : Int) ≤ 5; decide, by show (5 : Int) ≤ 15; decide⟩
  | 1, _ => exact ⟨by show (0 : Int) ≤ 0; decide, by show (0 : Int) ≤ 255; decide⟩
  | 2, _ => exact ⟨by show (0 : Int) ≤ ((20 + n : Nat) : Int); omega, by show ((20 + n : Nat) : Int) ≤ 65535; omega⟩
  | 3, _ => exact ⟨by show (0 : Int) ≤ 0; decide, by show (0 : Int) ≤ 65535; decide⟩
  | 4, _ => exact ⟨by show (0 : Int) ≤ 0; decide, by show (0 : Int) ≤ 7; decide⟩
  | 5, _ => exact ⟨by show (0 : Int) ≤ ((o : Nat) : Int); omega, by show ((o : Nat) : Int) ≤ 8191; omega⟩
  | 6, _ => exact ⟨by show (0 : Int) ≤ 0; decide, by show (0 : Int) ≤ 255; decide⟩
  | 7, _ => exact ⟨by show (0 : Int) ≤ ((p : Nat) : Int); omega, by show ((p : Nat) : Int) ≤ 255; omega⟩
  | 8, _ => exact ⟨by show (0 : Int) ≤ 0; decide, by show (0 : Int) ≤ 65535; decide⟩
theorem fourC_bytes (p n o : Nat) : (fourC p n o).bytes [] = [69, 0, (20 + n) / 256, (20 + n) % 256, 0, 0, o / 256, o % 256, 0, p, 0, 0, 0, 0, 0, 0, 0, 0, 0, 0] := by
  show [64 + 5, 0, (20 + n) / 256, (20 + n) % 256, 0 / 256, 0 % 256, 0 * 32 + o / 256, o % 256, 0, p, 0 / 256, 0 % 256, 0, 0, 0, 0, 0, 0, 0, 0] = _
  rw [Nat.zero_mul, Nat.zero_add]
/-- What a packet of version 4 with this payload is. -/
structure Carried (p n o : Nat) (S P : List Nat) : Prop where
  len : S.length = 20
  byte : ∀ x ∈ S ++ P, x < 256
  all : (S ++ P).length = 20 + n
  heads : pkHeads (20 + n) (S ++ P) = []
  four : (S ++ P).getD 0 0 / 16 = 4
  proto : (pk4 (S ++ P)).proto = (p : Int)
  size : (pk4 (S ++ P)).size = 20 + n
  at_ : (pk4 (S ++ P)).at_ = 20
  frag : (pk4 (S ++ P)).frag = if o = 0 then 0 else 2
  pay : (pk4 (S ++ P)).pay (S ++ P) = P
theorem carried_four {p n o : Nat} {P H : List Nat} (hH : H = (fourC p n o).bytes []) (hp : p < 256) (hP : P.length = n) (hPb : ∀ x ∈ P, x < 256) (hn : n ≤ 1000) (ho : o ≤ 5) :
    H.length = 20 ∧ (∀ x ∈ H, x < 256) ∧ fhdef 20 H = 0 ∧ 4 * (H.getD 0 0 % 16) = 20 ∧ Carried p n o (fhseal H 20) P := by
  rw [fourC_bytes] at hH
  have hl : H.length = 20 := by rw [hH]; rfl
  have hHb : ∀ x ∈ H, x < 256 := by
    rw [hH]
    simp only [List.mem_cons, List.not_mem_nil, or_false]
    rintro x (h | h | h | h | h | h | h | h | h | h | h | h | h | h | h | h | h | h | h | h) <;> omega
  have g0 : H.getD 0 0 = 69 := by rw [hH]; rfl
  have hd : fhdef 20 H = 0 := by unfold fhdef; rw [g0]; rfl
  obtain ⟨S, hS⟩ : ∃ S, S = fhseal H 20 := ⟨_, rfl⟩
  have hSl : S.length = 20 := by rw [hS]; exact fhseal_length H 20 20 hl (by decide) (by decide)
  have hSb : ∀ x ∈ S, x < 256 := by rw [hS]; exact fhseal_byte 20 hHb
  have same : ∀ i, i < 20 → i ≠ 10 → i ≠ 11 → (S ++ P).getD i 0 = H.getD i 0 := fun i h1 h2 h3 => by
    rw [List.getD_eq_getElem?_getD, List.getElem?_append_left (by omega), ← List.getD_eq_getElem?_getD, hS]
    exact fhseal_out H 20 20 i hl (by decide) (by decide) (by omega) h1
  have s0 : (S ++ P).getD 0 0 = 69 := by rw [same 0 (by decide) (by decide) (by decide), g0]
  have s2 : fhw (S ++ P) 2 = 20 + n := by
    unfold fhw
    rw [same 2 (by decide) (by decide) (by decide), same 3 (by decide) (by decide) (by decide), hH]
    show (20 + n) / 256 * 256 + (20 + n) % 256 = _
    omega
  have s6 : fhw (S ++ P) 6 = o := by
    unfold fhw
    rw [same 6 (by decide) (by decide) (by decide), same 7 (by decide) (by decide) (by decide), hH]
    show o / 256 * 256 + o % 256 = _
    omega
  have s6b : (S ++ P).getD 6 0 = 0 := by
    rw [same 6 (by decide) (by decide) (by decide), hH]
    show o / 256 = 0
    omega
  have s9 : (S ++ P).getD 9 0 = p := by rw [same 9 (by decide) (by decide) (by decide), hH]; rfl
  have sd : fhdef (20 + n) (S ++ P) = 0 := by
    unfold fhdef
    rw [s0, if_neg (by omega), if_neg (by decide), if_neg (by omega), if_neg (by decide), if_neg (by omega)]
  have st : (S ++ P).take 20 = S := by rw [← hSl]; exact List.take_left
  have sg : orest (wsum 0 S) = 65535 := by
    rw [hS]
    unfold fhseal
    rw [List.take_of_length_le (by omega), List.drop_eq_nil_of_le (by omega), List.append_nil]
    exact filled_good (by decide) (by omega)
  rw [← hS]
  refine ⟨hl, hHb, hd, by rw [g0], ⟨hSl, fun x hx => (List.mem_append.1 hx).elim (hSb x) (hPb x), by rw [List.length_append, hSl, hP], ?_, by rw [s0], ?_, ?_, ?_, ?_, ?_⟩⟩
  · unfold pkHeads
    rw [if_neg (by omega), s0, if_pos (by decide)]
    unfold fhall
    rw [if_pos sd, s0]
    show fhbad (20 + n) 20 (S ++ P) _ (decide (orest (wsum 0 ((S ++ P).take 20)) = 65535)) = []
    have ho2 : fhopts (20 + n) (S ++ P) = some [] := by
      unfold fhopts
      rw [if_pos sd, s0]
      show optsF 60 (((S ++ P).drop 20).take 0) = _
      rw [List.take_zero]
      exact optsF_nil 60
    rw [ho2, st, sg]
    unfold fhbad
    rw [s2, s6]
    simp
    omega
  · show (((S ++ P).getD 9 0 : Nat) : Int) = _
    rw [s9]
  · show fhw (S ++ P) 2 = _
    exact s2
  · show 4 * ((S ++ P).getD 0 0 % 16) = _
    rw [s0]
  · show (if fhw (S ++ P) 6 % 8192 ≠ 0 then 2 else if (S ++ P).getD 6 0 / 32 % 2 = 1 then 1 else 0) = _
    rw [s6, s6b]
    by_cases h : o = 0
    · subst h
      rfl
    · rw [if_pos (by omega), if_neg h]
  · show (((S ++ P).drop (4 * ((S ++ P).getD 0 0 % 16))).take (fhw (S ++ P) 2 - 4 * ((S ++ P).getD 0 0 % 16))) = P
    rw [s0, s2]
    show ((S ++ P).drop 20).take (20 + n - 20) = P
    rw [← hSl, List.drop_left, hSl, Nat.add_sub_cancel_left, ← hP, List.take_length]
/-- What is read of it. -/
theorem carried_rec {p n o : Nat} {S P : List Nat} (h : Carried p n o S P) : pkRec (S ++ P) = pk4 (S ++ P) := by unfold pkRec; rw [if_pos h.four]
theorem carried_ports {p n : Nat} {S P : List Nat} (h : Carried p n 0 S P) : (pkRec (S ++ P)).ports (S ++ P) = poRead p n P false ∧ (pkRec (S ++ P)).has = decide (0 < poLeast p) := by
  rw [carried_rec h]
  have hf := h.frag
  rw [if_pos rfl] at hf
  have hh : (pk4 (S ++ P)).has = decide (0 < poLeast p) := by
    unfold PkRec.has
    rw [hf, h.proto]
    exact decide_eq_decide.2 (by omega)
  refine ⟨?_, hh⟩
  unfold PkRec.ports
  rw [hh, h.proto, h.size, h.at_, h.pay, hf, Nat.add_sub_cancel_left]
  by_cases h0 : 0 < poLeast p
  · rw [if_pos (decide_eq_true h0)]
    rfl
  · rw [if_neg (by simpa using h0)]
    unfold poRead
    rw [if_pos (by omega)]
theorem carried_late {p n : Nat} {S P : List Nat} (h : Carried p n 5 S P) : (pkRec (S ++ P)).ports (S ++ P) = (0, 0, 0) ∧ (pkRec (S ++ P)).has = false ∧ (pkRec (S ++ P)).frag = 2 := by
  rw [carried_rec h]
  have hf := h.frag
  rw [if_neg (by decide)] at hf
  have hh : (pk4 (S ++ P)).has = false := by
    unfold PkRec.has
    rw [hf]
    simp
  refine ⟨?_, hh, hf⟩
  unfold PkRec.ports
  rw [hh, if_neg (by simp)]
/-- The packet of version 6. -/
theorem carried_six {p n : Nat} {P : List Nat} (hp : p < 256) (hx : exKind p = false) (hP : P.length = n) (hPb : ∀ x ∈ P, x < 256) (hn : n ≤ 1000) :
    (sixP p n).bytes.length = 40 ∧ (∀ x ∈ (sixP p n).bytes ++ P, x < 256) ∧ ((sixP p n).bytes ++ P).length = 40 + n ∧ pkHeads (40 + n) ((sixP p n).bytes ++ P) = [] ∧
      (pkRec ((sixP p n).bytes ++ P)).size = 40 + n ∧ (pkRec ((sixP p n).bytes ++ P)).ports ((sixP p n).bytes ++ P) = poRead p n P false ∧ (pkRec ((sixP p n).bytes ++ P)).has = decide (0 < poLeast p) := by
  have hW : Written [] (p : Int) := ⟨by omega, by omega, hx, by simp, rfl, (fun m hm => (by cases hm)), (by show 0 ≤ 16384; decide)⟩
  have hf : No44 [] := fun m hm => by cases hm
  have hbN : ∀ m ∈ ([] : List (Int × List Nat)), ∀ x ∈ m.2, x < 256 := fun m hm => by cases hm
  obtain ⟨q1, q2, q3, q4, q5, q6, q7, q8⟩ := packet_read hW hbN hf P (by omega) (next := p) (len := n) rfl (by show n = 0 + P.length; omega)
  have e0 : exBytes (p : Int) [] ++ P = P := rfl
  rw [e0] at q4 q5 q6 q7 q8
  have hb40 : (sixP p n).bytes.length = 40 := by unfold SixV.bytes; rw [List.length_append, List.length_append, pb_length]; rfl
  have hbb : ∀ x ∈ (sixP p n).bytes, x < 256 := fun z hz => by
    unfold SixV.bytes sixP at hz
    rcases List.mem_append.1 hz with h | h
    · rcases List.mem_append.1 h with h | h
      · exact pb_byte _ _ z h
      · exact (by decide : ∀ x ∈ List.replicate 16 0, x < 256) z h
    · exact (by decide : ∀ x ∈ List.replicate 16 0, x < 256) z h
  obtain ⟨B, hB⟩ : ∃ B, B = (sixP p n).bytes ++ P := ⟨_, rfl⟩
  have hall : ∀ x ∈ B, x < 256 := by rw [hB]; exact fun x hx => (List.mem_append.1 hx).elim (hbb x) (hPb x)
  rw [← hB] at q4 q5 q6 q7 q8
  have h6 : B.getD 0 0 / 16 = 6 := by
    unfold sxdef at q5
    split at q5
    · cases q5
    · split at q5
      · cases q5
      · rename_i h
        exact Classical.not_not.1 h
  have hh : pkHeads (40 + n) B = [] := by
    unfold pkHeads
    rw [if_neg (by omega), if_neg (by omega), if_pos h6]
    exact q8
  have hr : pkRec B = pk6 B := by unfold pkRec; rw [if_neg (by omega)]
  obtain ⟨v2, v3⟩ := sxval_two q5
  rw [q6] at v2 v3
  have hpay : sxPay B = n := by
    rw [sixP_two] at v2
    simp only [Option.some.injEq, Value.int.injEq, true_and] at v2
    exact (Int.ofNat_inj.1 v2).symm
  have hnext : sxNext B = p := by
    rw [sixP_three] at v3
    simp only [Option.some.injEq, Value.int.injEq, true_and] at v3
    exact (Int.ofNat_inj.1 v3).symm
  have hrest : pkRest B = P := by
    unfold pkRest
    rw [hpay, hB, ← hb40, List.drop_left, ← hP, List.take_length]
  obtain ⟨t, t1, t2, t3, _⟩ := walk_plain hW hbN hf P (n := P.length) rfl
  rw [e0] at t1
  have ht : pkTour B = t := by
    unfold pkTour
    rw [hrest, hnext]
    exact t1
  have htold : t.walk = [.int .i64 (p : Int), .int .i64 ((0 : Nat) : Int), .int .i64 0, .int .i64 0, .int .i64 ((0 : Nat) : Int)] := by
    have := t3
    unfold Tour.told at this
    rw [if_pos t2] at this
    exact this
  unfold Tour.walk at htold
  simp only [List.cons.injEq, Value.int.injEq, true_and, and_true] at htold
  obtain ⟨w1, w2, w3, _, _⟩ := htold
  have a0 : (pk6 B).at_ = 40 := by
    show 40 + (pkTour B).at_ = 40
    rw [ht]
    omega
  have s0 : (pk6 B).size = 40 + n := by
    show 40 + sxPay B = _
    rw [hpay]
  have f0 : (pk6 B).frag = 0 := by
    show (pkTour B).frag = 0
    rw [ht]
    omega
  have p0 : (pk6 B).proto = (p : Int) := by
    show (pkTour B).proto = _
    rw [ht]
    exact w1
  have y0 : (pk6 B).pay B = P := by
    unfold PkRec.pay
    rw [a0, s0, Nat.add_sub_cancel_left, hB, ← hb40, List.drop_left, ← hP, List.take_length]
  have has : (pk6 B).has = decide (0 < poLeast p) := by
    unfold PkRec.has
    rw [f0, p0]
    exact decide_eq_decide.2 (by omega)
  rw [← hB]
  refine ⟨hb40, hall, q4, hh, by rw [hr]; exact s0, ?_, by rw [hr]; exact has⟩
  rw [hr]
  unfold PkRec.ports
  rw [has, p0, s0, a0, y0, f0, Nat.add_sub_cancel_left]
  by_cases h0 : 0 < poLeast p
  · rw [if_pos (decide_eq_true h0)]
    rfl
  · rw [if_neg (by simpa using h0)]
    unfold poRead
    rw [if_pos (by omega)]
/-- What is told of such a packet. -/
theorem told_of {n : Nat} {B : List Nat} {q : Nat × Nat × Nat} (hh : pkHeads n B = []) (hq : (pkRec B).ports B = q) : pkTold n B = q.2.2 ∧ (q.2.2 = 0 → pkDefs n B = []) := by
  have e : pkDefs n B = if q.2.2 ≠ 0 then [q.2.2] else [] := by
    unfold pkDefs
    rw [if_neg (fun h => h hh), hq]
  unfold pkTold
  rw [e]
  by_cases h : q.2.2 = 0
  · rw [if_neg (fun k => k h), h]
    exact ⟨rfl, fun _ => rfl⟩
  · rw [if_pos h]
    exact ⟨rfl, fun k => absurd k h⟩
theorem head_at {n : Nat} {B : List Nat} (hl : B.length = n) (hb : ∀ x ∈ B, x < 256) (hd : pkDefs n B = []) (j : Nat) : (pkHead n B)[33 + j]? = (hdTail (pkRec B) (pkRec B).has ((pkRec B).ports B).1 ((pkRec B).ports B).2.1)[j]? := by
  have hh := pkHeads_nil hd
  have ok := pkRec_ok hl hb hh
  unfold pkHead
  rw [if_pos hd]
  exact three_at (by rw [bcells_length, ok.sl]) (by rw [bcells_length, ok.dl]) j
end Go.Proofs.Ytcjaidpmfjnhpaa

namespace Go.Proofs.Ytcjaidpmfjnhpaa
open Go.RowKit
set_option linter.unusedVariables false
set_option maxRecDepth 8000

structure RowIn (l : List Nat) (c : Nat) (cur : List Value) : Prop where
  le : l.length ≤ c
  mx : c ≤ maxLen
  tk : cur.take l.length = bcells l
  len : cur.length = c
theorem KV.more {w W : World} {L : List (TypeId × Nat × List Value)} (h : KV w L W) {t : TypeId} {g : Nat} {cs : List Value} (ha : ArrV t W g cs) (hg : w.heap.size ≤ g) (hne : ∀ (i : Nat) p, L[i]? = some p → p.2.1 ≠ g) : KV w (L ++ [(t, g, cs)]) W := by
  have hn : ∀ (i : Nat) p, (L ++ [(t, g, cs)])[i]? = some p → L[i]? = some p ∨ (i = L.length ∧ p = (t, g, cs)) := fun i p hp => by
    rcases Nat.lt_or_ge i L.length with hi | hi
    · rw [List.getElem?_append_left hi] at hp; exact .inl hp
    · rw [List.getElem?_append_right hi] at hp
      rcases Nat.eq_zero_or_pos (i - L.length) with e | e
      · rw [e] at hp; injection hp with hp; exact .inr ⟨by omega, hp.symm⟩
      · rw [List.getElem?_eq_none (by simp; omega)] at hp; cases hp
  refine ⟨fun i p hp => ?_, fun i p hp => ?_, fun i j p q hp hq hij => ?_, h.bel⟩
  · rcases hn i p hp with h1 | ⟨_, rfl⟩
    · exact h.arr i p h1
    · exact ha
  · rcases hn i p hp with h1 | ⟨_, rfl⟩
    · exact h.own i p h1
    · exact hg
  · rcases hn i p hp with h1 | ⟨e1, rfl⟩
    · rcases hn j q hq with h2 | ⟨_, rfl⟩
      · exact h.apart i j p q h1 h2 hij
      · exact hne i p h1
    · rcases hn j q hq with h2 | ⟨e2, rfl⟩
      · exact Ne.symm (hne j q h2)
      · exact absurd (e1.trans e2.symm) hij
/-- A row that a callee made. -/
theorem KV.owned {w W W' : World} {L : List (TypeId × Nat × List Value)} (h : KV w L W) (hb : Below W.heap.size W W') {v : Value} {l : List Nat} (ho : OutIs W.heap.size W' v l) (h0 : 0 < l.length) :
    ∃ g c cur, v = .slice (some ⟨g, 0, none⟩) l.length c ∧ RowIn l c cur ∧ KV w (L ++ [(5, g, cur)]) W' := by
  rcases ho.2 with ⟨_, hn⟩ | ⟨g, cap, cur, rfl, hg, hh, hn, hm, hs, ht⟩
  · omega
  · refine ⟨g, cap, cur.toList, rfl, ⟨hn, hm, by simpa using ht, by simpa using hs⟩, (h.below hb).more (by simpa [ArrV] using hh) (Nat.le_trans h.bel.size hg) fun i p hp => ?_⟩
    have := (h.arr i p hp).lt
    omega
theorem KV.held {w W : World} {L : List (TypeId × Nat × List Value)} (h : KV w L W) {i g c : Nat} {cur : List Value} {l : List Nat} (hi : L[i]? = some (5, g, cur)) (hr : RowIn l c cur) : OutIs w.heap.size W (.slice (some ⟨g, 0, none⟩) l.length c) l :=
  ⟨by rw [bcells_length, Nat.mul_one], .inr ⟨g, c, cur.toArray, rfl, h.own i _ hi, h.at i hi, hr.le, hr.mx, by simpa using hr.len, by simpa using hr.tk⟩⟩
theorem KV.rowOf {w W : World} {L : List (TypeId × Nat × List Value)} (h : KV w L W) {i g c : Nat} {cur : List Value} {l : List Nat} (hi : L[i]? = some (5, g, cur)) (hr : RowIn l c cur) (hb : ∀ x ∈ l, x < 256) : Row W (some ⟨g, 0, none⟩) l.length l := by
  obtain ⟨A, c', e, _, _, h3⟩ := (h.held hi hr).out hb
  injection e with e1 _ _
  rw [e1]
  exact h3
theorem KV.grown {w wr w' : World} {L : List (TypeId × Nat × List Value)} {g : Nat} {cur : List Value} {t : TypeId} (h : KV w (L ++ [(t, g, cur)]) wr) (hg : wr.grownBy w' (some g)) : KV w L w' := by
  have hat : ∀ (i : Nat) p, L[i]? = some p → (L ++ [(t, g, cur)])[i]? = some p := fun i p hp => by
    rw [List.getElem?_append_left (by rcases Nat.lt_or_ge i L.length with h2 | h2; exact h2; rw [List.getElem?_eq_none h2] at hp; cases hp)]
    exact hp
  have hlast : (L ++ [(t, g, cur)])[L.length]? = some (t, g, cur) := by simp
  refine ⟨fun i p hp => ?_, fun i p hp => h.own i p (hat i p hp), fun i j p q hp hq => h.apart i j p q (hat i p hp) (hat j q hq), h.bel.grown hg h.bel.size (fun k hk => ?_)⟩
  · have hi : i < L.length := by rcases Nat.lt_or_ge i L.length with h2 | h2; exact h2; rw [List.getElem?_eq_none h2] at hp; cases hp
    have h1 := h.arr i p (hat i p hp)
    have hne := h.apart i L.length p (t, g, cur) (hat i p hp) hlast (by omega)
    exact (hg.block p.2.1 h1.lt (fun e => hne (by injection e))).trans h1
  · injection hk with hk
    rw [← hk]
    exact h.own _ _ hlast
theorem run_append_kv {w wr : World} {L : List (TypeId × Nat × List Value)} {g c : Nat} {cur : List Value} {l cs : List Nat} {A : Option Addr} {m cc : Nat} (h : KV w (L ++ [(5, g, cur)]) wr) (hr : RowIn l c cur) (hA : Row wr A m cs) (hlen : l.length + m ≤ 140737488355328) :
    ∃ v' w', Sem.run Try.prog (Builtin.append_ #[22, 22] 22 #[.slice (some ⟨g, 0, none⟩) l.length c, .slice A m cc]) wr = .ok v' w' ∧ OutIs w.heap.size w' v' (l ++ cs) ∧ KV w L w' := by
  have hlast : (L ++ [(5, g, cur)])[L.length]? = some (5, g, cur) := by simp
  have hown := h.held hlast hr
  obtain ⟨i0, h1, h2, h3, h4⟩ := u8_parts
  cases A with
  | none =>
    have hm : m = 0 := by
      rcases Nat.eq_zero_or_pos m with h | h
      · exact h
      · obtain ⟨b, o, e, _⟩ := hA.addr h
        cases e
    subst hm
    obtain rfl : cs = [] := List.eq_nil_of_length_eq_zero hA.1
    refine ⟨_, wr, ?_, by simpa using hown, h.grown ⟨rfl, rfl, rfl, Nat.le_refl _, fun _ _ _ => rfl⟩⟩
    simp [Builtin.append_, run_underlying Try.underlying22, sizeOf, typeInfo, h1, Builtin.lenOf, Builtin.firstCells, loadCells, hr.le, storeCells]
  | some ad =>
    obtain ⟨v', w', hrun, ho, hg, _⟩ := run_append_own (P := Try.prog) wr w.heap.size 22 22 5 i0 (.int .u8 0) 1 1 Try.underlying22 h1 h2 h3 h4 rfl (by decide) (.slice (some ⟨g, 0, none⟩) l.length c) l.length (bcells l) hown
      ad m cc (bcells cs) (by rw [bcells_length, hA.1, Nat.mul_one]) (fun j u hj => by
        obtain ⟨hj, rfl⟩ := bcells_get hj
        obtain ⟨b, o, e, _, hc⟩ := hA.addr (by have := hA.1; omega)
        injection e with e
        subst e
        rw [add_flat]
        exact hc j (by have := hA.1; omega)) (bcells_one cs) (by unfold maxLen; omega) (by omega) h.bel.size
    refine ⟨v', w', hrun, ?_, h.grown hg⟩
    unfold OutIs
    rw [List.length_append, hA.1]
    simpa [bcells] using ho
/-- The same as a law for the walk. -/
theorem wpList_append_kv {ops : Array Oper} {rest : List Oper} {o : Oper} {a : Act} {Q : Exit → Act → World → Prop} (hgd : o.guard = none) (s x : Operand)
    (ho : o.op = .call { callee := .builtin .append, args := #[s, x], argTypes := #[22, 22] }) (hty : o.type = 22)
    {w wr : World} {L : List (TypeId × Nat × List Value)} {g c : Nat} {cur : List Value} {l cs : List Nat} {A : Option Addr} {m cc : Nat} (hs : a.eval s = .slice (some ⟨g, 0, none⟩) l.length c) (hx : a.eval x = .slice A m cc) (hK : KV w (L ++ [(5, g, cur)]) wr) (hr : RowIn l c cur) (hA : Row wr A m cs) (hlen : l.length + m ≤ 140737488355328)
    (h : ∀ v' w', OutIs w.heap.size w' v' (l ++ cs) → KV w L w' → wpList Try.prog ops Q rest (a.put o.dst v') w') : wpList Try.prog ops Q (o :: rest) a wr := by
  refine wpList_plain hgd fun K hk => ?_
  obtain ⟨v', w', hrun, h2, h3⟩ := run_append_kv (cc := cc) hK hr hA hlen
  unfold Oper.wp execOp
  simp only [ho, hty, resolve, invoke, builtin, Sem.run_bind, Sem.run_pure, Result.andThen_ok, List.map_toArray, List.map_cons, List.map_nil, hs, hx, hrun]
  exact hk _ _ (h v' w' h2 h3)
end Go.Proofs.Ytcjaidpmfjnhpaa

namespace Go.Proofs.Ytcjaidpmfjnhpaa
open Go.RowKit
set_option linter.unusedVariables false

theorem car_ints {p n N4 N6 : Nat} (hp : p ≤ 255) (hn : n ≤ 1000) (h4 : N4 = 20 + n) (h6 : N6 = 40 + n) : IntKind.i64.wrap (p : Int) = (p : Int) ∧ wrap64 (p : Int) = (p : Int) ∧ wrap64 (20 + (n : Int)) = (N4 : Int) ∧ IntKind.i64.wrap (20 + (n : Int)) = (N4 : Int) ∧ wrap64 ((N4 : Int) + 20) = (N6 : Int) ∧ IntKind.i64.wrap ((N4 : Int) + 20) = (N6 : Int) := by
  refine ⟨?_, ?_, ?_, ?_, ?_, ?_⟩ <;> first | (unfold wrap64; omega) | (rw [IntKind.wrap_i64]; omega)
theorem four_zero {p n N4 : Nat} (h : N4 = 20 + n) : (#[.int .i64 5, .int .i64 0, .int .i64 (N4 : Nat), .int .i64 0, .int .i64 0, .int .i64 0, .int .i64 0, .int .i64 (p : Nat), .int .i64 0, .int .u8 0, .int .u8 0, .int .u8 0, .int .u8 0, .int .u8 0, .int .u8 0, .int .u8 0, .int .u8 0] : Array Value) = (fourC p n 0).cells.toArray := by subst h; rfl
theorem four_five {p n N4 : Nat} (h : N4 = 20 + n) : (#[.int .i64 5, .int .i64 0, .int .i64 (N4 : Nat), .int .i64 0, .int .i64 0, .int .i64 5, .int .i64 0, .int .i64 (p : Nat), .int .i64 0, .int .u8 0, .int .u8 0, .int .u8 0, .int .u8 0, .int .u8 0, .int .u8 0, .int .u8 0, .int .u8 0] : Array Value) = (fourC p n 5).cells.toArray := by subst h; rfl
theorem six_lit {p n : Nat} : (#[.int .i64 0, .int .i64 0, .int .i64 (n : Nat), .int .i64 (p : Nat), .int .i64 0, .int .u8 0, .int .u8 0, .int .u8 0, .int .u8 0, .int .u8 0, .int .u8 0, .int .u8 0, .int .u8 0, .int .u8 0, .int .u8 0, .int .u8 0, .int .u8 0, .int .u8 0, .int .u8 0, .int .u8 0, .int .u8 0, .int .u8 0, .int .u8 0, .int .u8 0, .int .u8 0, .int .u8 0, .int .u8 0, .int .u8 0, .int .u8 0, .int .u8 0, .int .u8 0, .int .u8 0, .int .u8 0, .int .u8 0, .int .u8 0, .int .u8 0, .int .u8 0] : Array Value) = (sixP p n).cells.toArray := rfl
theorem zero4_byte : ∀ x ∈ [0, 0, 0, 0], x < 256 := by decide
theorem four_write {p n o : Nat} (hp : p < 256) (hn : n ≤ 1000) (ho : o ≤ 5) (w : World) :
    Calls Try.prog 18 #[.agg (fourC p n o).cells.toArray, .slice none 0 0] w fun e w' => ∃ v, e = .returned (.tuple #[v, .int .i64 0]) ∧ OutIs w.heap.size w' v ((fourC p n o).bytes []) ∧ Below w.heap.size w w' := by
  have h := fhwrite_any (fourC p n o) none 0 0 [] w rfl rfl zero4_byte zero4_byte (by decide) (Row.nil _ _)
  refine h.mono ?_
  rintro e w' ⟨hb, _, _, h3⟩
  obtain ⟨v, he, ho⟩ := h3 (fourC_fits hp hn ho) (by show (0 : Int) = 4 * 5 - 20; decide)
  exact ⟨v, he, ho, hb⟩
theorem six_write {p n : Nat} (hp : p < 256) (hn : n ≤ 1000) (w : World) :
    Calls Try.prog 20 #[.agg (sixP p n).cells.toArray] w fun e w' => ∃ v, e = .returned (.tuple #[v, .int .i64 0]) ∧ OutIs w.heap.size w' v (sixP p n).bytes ∧ Below w.heap.size w w' := by
  have hfit := sixP_fits p n (by omega) (by omega)
  have h := sxwrite_own (sixP p n) w rfl rfl (by show ∀ x ∈ List.replicate 16 0, x < 256; decide) (by show ∀ x ∈ List.replicate 16 0, x < 256; decide) (sixP_k p n (by omega) (by omega))
  rw [if_pos hfit, if_pos hfit] at h
  refine h.mono ?_
  rintro e w' ⟨v, he, _, hb, ho⟩
  exact ⟨v, he, ho hfit, hb⟩
theorem car_bound {n : Nat} (hn : n ≤ 1000) : 20 + n ≤ 140737488351232 ∧ 40 + n ≤ 140737488351232 ∧ n ≤ 140737488355328 ∧ ¬ (1000 : Int) < (n : Int) := ⟨by omega, by omega, by omega, by omega⟩
theorem car_lens {n : Nat} (hn : n ≤ 1000) : 0 < 20 ∧ 0 < 20 ∧ 0 < 20 ∧ 0 < 20 ∧ 0 < 40 ∧ 20 + n ≤ 140737488355328 ∧ 20 + n ≤ 140737488355328 ∧ 40 + n ≤ 140737488355328 := ⟨by decide, by decide, by decide, by decide, by decide, by omega, by omega, by omega⟩
theorem car_byte {p : Nat} (hp : p ≤ 255) : p < 256 := by omega
theorem lo_int (lo : Nat) : decide (0 < lo) = decide ((0 : Int) < (lo : Int)) := decide_eq_decide.2 (by omega)
theorem lo_zero {lo : Nat} (h : ¬ (0 : Int) < (lo : Int)) : lo = 0 := by omega
theorem lo_pos {lo : Nat} (h : (0 : Int) < (lo : Int)) : 0 < lo := by omega
theorem d_ne {d : Nat} (h : ¬ d = 0) : ((d : Int) != 0) = true ∧ ((d : Int) == 0) = false := ⟨by rw [bne_iff_ne]; omega, by rw [beq_eq_false_iff_ne]; omega⟩
set_option maxRecDepth 10000 in
theorem car_out (b : Bool) (p : Nat) (a : Option Addr) (n cap : Nat) (w : World) (h : (b = false ∧ 1000 < n) ∨ (b = true ∧ n ≤ 1000 ∧ exKind p = true)) (hp : p ≤ 255) :
    Calls Try.prog 4 #[.int .u8 p, .slice a n cap] w fun e w' => e = .returned (.bool true) ∧ Below w.heap.size w w' := by
  have CN : Hid (∀ w, Calls Try.prog 15 #[.int .i64 15] w fun e w' => e = .returned (.string ⟨#[112, 111, 114, 116, 115]⟩) ∧ Below w.heap.size w w') := fun w => pkname_any 15 w (by decide) (by decide)
  rcases h with ⟨rfl, h⟩ | ⟨rfl, h, hx⟩
  · have i1 : (1000 : Int) < (n : Int) := by omega
    clear h hp
    go_enter Try.func4, Try.ntmps4
    go_wp2_with fail
    refine (CN.out _).mono ?_
    rintro e w1 ⟨rfl, b1⟩
    have B1 := Lib.hid b1
    clear b1
    go_wp2_with fail
    go_ret
    exact ⟨by first | rfl | simp, B1.out⟩
  · have i1 : ¬ (1000 : Int) < (n : Int) := by omega
    obtain ⟨u1, u2, _⟩ := car_ints (n := n) hp h rfl rfl
    have CE : Hid (∀ w, Calls Try.prog 17 #[.int .i64 (p : Nat)] w fun e w' => e = .returned (.bool true) ∧ w = w') := fun w => by rw [← hx]; exact exis_any p w
    clear h hp hx
    go_enter Try.func4, Try.ntmps4
    go_wp2_with fail
    refine (CE.out _).mono ?_
    rintro e w1 ⟨rfl, rfl⟩
    go_wp2_with fail
    refine (CN.out _).mono ?_
    rintro e w1 ⟨rfl, b1⟩
    have B1 := Lib.hid b1
    clear b1
    go_wp2_with fail
    go_ret
    exact ⟨by first | rfl | simp, B1.out⟩
set_option maxRecDepth 10000 in
set_option maxHeartbeats 12800000 in
theorem car_in (p : Nat) (a : Option Addr) (n cap : Nat) (P : List Nat) (w : World) (hp : p ≤ 255) (R : Row w a n P) (hl : n ≤ cap) (hn : n ≤ 1000) (hx : exKind p = false) :
    Calls Try.prog 4 #[.int .u8 p, .slice a n cap] w fun e w' => e = .returned (.bool true) ∧ Below w.heap.size w w' := by
  have hP := R.1
  have hPb := R.2.1
  obtain ⟨N4, hN4⟩ : ∃ v, v = 20 + n := ⟨_, rfl⟩
  obtain ⟨N6, hN6⟩ : ∃ v, v = 40 + n := ⟨_, rfl⟩
  obtain ⟨u1, u2, u3, u4, u5, u6⟩ := car_ints hp hn hN4 hN6
  obtain ⟨H0, hH0⟩ : ∃ H, H = (fourC p n 0).bytes [] := ⟨_, rfl⟩
  obtain ⟨H5, hH5⟩ : ∃ H, H = (fourC p n 5).bytes [] := ⟨_, rfl⟩
  obtain ⟨l0, b0, d0, m0, K0⟩ := carried_four hH0 (car_byte hp) hP hPb hn (by decide)
  obtain ⟨l5, b5, d5, m5, K5⟩ := carried_four hH5 (car_byte hp) hP hPb hn (by decide)
  obtain ⟨l6, b6, a6, h6, z6, q6, s6⟩ := carried_six (car_byte hp) hx hP hPb hn
  obtain ⟨q4, s4⟩ := carried_ports K0
  obtain ⟨qL, sL, fL⟩ := carried_late K5
  obtain ⟨S0, hS0⟩ : ∃ S, S = fhseal H0 20 := ⟨_, rfl⟩
  obtain ⟨S5, hS5⟩ : ∃ S, S = fhseal H5 20 := ⟨_, rfl⟩
  obtain ⟨S6, hS6⟩ : ∃ S, S = (sixP p n).bytes := ⟨_, rfl⟩
  rw [← hS0] at K0 q4 s4
  rw [← hS5] at K5 qL sL fL
  rw [← hS6] at l6 b6 a6 h6 z6 q6 s6
  have W0 : Hid (∀ w, Calls Try.prog 18 #[.agg #[.int .i64 5, .int .i64 0, .int .i64 (N4 : Nat), .int .i64 0, .int .i64 0, .int .i64 0, .int .i64 0, .int .i64 (p : Nat), .int .i64 0, .int .u8 0, .int .u8 0, .int .u8 0, .int .u8 0, .int .u8 0, .int .u8 0, .int .u8 0, .int .u8 0], .slice none 0 0] w fun e w' => ∃ v, e = .returned (.tuple #[v, .int .i64 0]) ∧ OutIs w.heap.size w' v H0 ∧ Below w.heap.size w w') := fun w => by
    rw [four_zero hN4, hH0]
    exact four_write (car_byte hp) hn (by decide) w
  have W5 : Hid (∀ w, Calls Try.prog 18 #[.agg #[.int .i64 5, .int .i64 0, .int .i64 (N4 : Nat), .int .i64 0, .int .i64 0, .int .i64 5, .int .i64 0, .int .i64 (p : Nat), .int .i64 0, .int .u8 0, .int .u8 0, .int .u8 0, .int .u8 0, .int .u8 0, .int .u8 0, .int .u8 0, .int .u8 0], .slice none 0 0] w fun e w' => ∃ v, e = .returned (.tuple #[v, .int .i64 0]) ∧ OutIs w.heap.size w' v H5 ∧ Below w.heap.size w w') := fun w => by
    rw [four_five hN4, hH5]
    exact four_write (car_byte hp) hn (by decide) w
  have W6 : Hid (∀ w, Calls Try.prog 20 #[.agg #[.int .i64 0, .int .i64 0, .int .i64 (n : Nat), .int .i64 (p : Nat), .int .i64 0, .int .u8 0, .int .u8 0, .int .u8 0, .int .u8 0, .int .u8 0, .int .u8 0, .int .u8 0, .int .u8 0, .int .u8 0, .int .u8 0, .int .u8 0, .int .u8 0, .int .u8 0, .int .u8 0, .int .u8 0, .int .u8 0, .int .u8 0, .int .u8 0, .int .u8 0, .int .u8 0, .int .u8 0, .int .u8 0, .int .u8 0, .int .u8 0, .int .u8 0, .int .u8 0, .int .u8 0, .int .u8 0, .int .u8 0, .int .u8 0, .int .u8 0, .int .u8 0]] w fun e w' => ∃ v, e = .returned (.tuple #[v, .int .i64 0]) ∧ OutIs w.heap.size w' v S6 ∧ Below w.heap.size w w') := fun w => by
    rw [six_lit, hS6]
    exact six_write (car_byte hp) hn w
  have X0 : Hid (∀ (g c : Nat) w, H0.length ≤ c → Row w (some ⟨g, 0, none⟩) H0.length H0 → Calls Try.prog 19 #[.slice (some ⟨g, 0, none⟩) H0.length c] w fun e w' => ∃ v, e = .returned (.tuple #[v, .int .i64 0]) ∧ OutIs w.heap.size w' v S0 ∧ Below w.heap.size w w') := fun g c w hc hR => by
    have h := fhseal_ok _ _ c H0 w (by rw [l0]; decide) hc hR (by rw [l0]; exact d0)
    rw [m0, ← hS0] at h
    exact h
  have X5 : Hid (∀ (g c : Nat) w, H5.length ≤ c → Row w (some ⟨g, 0, none⟩) H5.length H5 → Calls Try.prog 19 #[.slice (some ⟨g, 0, none⟩) H5.length c] w fun e w' => ∃ v, e = .returned (.tuple #[v, .int .i64 0]) ∧ OutIs w.heap.size w' v S5 ∧ Below w.heap.size w w') := fun g c w hc hR => by
    have h := fhseal_ok _ _ c H5 w (by rw [l5]; decide) hc hR (by rw [l5]; exact d5)
    rw [m5, ← hS5] at h
    exact h
  obtain ⟨q, hq⟩ : ∃ q, q = poRead p n P false := ⟨_, rfl⟩
  rw [← hq] at q4 q6
  obtain ⟨t4, g4⟩ := told_of K0.heads q4
  obtain ⟨t6, g6⟩ := told_of h6 q6
  obtain ⟨tL, gL⟩ := told_of K5.heads qL
  obtain ⟨B4, hB4⟩ : ∃ B, B = S0 ++ P := ⟨_, rfl⟩
  obtain ⟨B5, hB5⟩ : ∃ B, B = S5 ++ P := ⟨_, rfl⟩
  obtain ⟨B6, hB6⟩ : ∃ B, B = S6 ++ P := ⟨_, rfl⟩
  have k4 := K0.all
  have k5 := K5.all
  have y4 := K0.byte
  have y5 := K5.byte
  have e4 : (pkRec (S0 ++ P)).size = 20 + n := by rw [carried_rec K0]; exact K0.size
  rw [← hB4] at k4 y4 t4 g4 q4 s4 e4
  rw [← hB5] at k5 y5 tL gL qL sL fL
  rw [← hB6] at a6 b6 t6 g6 q6 s6 z6 h6
  obtain ⟨X, hX⟩ : ∃ X, X = pkHead B4.length B4 := ⟨_, rfl⟩
  obtain ⟨Y, hY⟩ : ∃ Y, Y = pkHead B6.length B6 := ⟨_, rfl⟩
  obtain ⟨V, hV⟩ : ∃ V, V = pkHead B5.length B5 := ⟨_, rfl⟩
  obtain ⟨Xl, Xo⟩ := pkHead_all rfl y4
  obtain ⟨Yl, Yo⟩ := pkHead_all rfl b6
  obtain ⟨Vl, Vo⟩ := pkHead_all rfl y5
  rw [← hX] at Xl Xo
  rw [← hY] at Yl Yo
  rw [← hV] at Vl Vo
  obtain ⟨d, hd⟩ : ∃ d, d = q.2.2 := ⟨_, rfl⟩
  have P4 : Hid (∀ A c W, B4.length ≤ c → Row W A B4.length B4 → Calls Try.prog 5 #[.slice A B4.length c] W fun e w' => e = .returned (.tuple #[.agg X.toArray, .int .i64 (d : Nat)]) ∧ Below W.heap.size W w') := fun A c W hc hR => by
    have h := pkparse_any A _ c B4 W (by rw [k4]; exact (car_bound hn).1) hc hR
    rw [k4, t4, ← hd, ← k4, ← hX] at h
    exact h
  have P6 : Hid (∀ A c W, B6.length ≤ c → Row W A B6.length B6 → Calls Try.prog 5 #[.slice A B6.length c] W fun e w' => e = .returned (.tuple #[.agg Y.toArray, .int .i64 (d : Nat)]) ∧ Below W.heap.size W w') := fun A c W hc hR => by
    have h := pkparse_any A _ c B6 W (by rw [a6]; exact (car_bound hn).2.1) hc hR
    rw [a6, t6, ← hd, ← a6, ← hY] at h
    exact h
  have P5 : Hid (∀ A c W, B5.length ≤ c → Row W A B5.length B5 → Calls Try.prog 5 #[.slice A B5.length c] W fun e w' => e = .returned (.tuple #[.agg V.toArray, .int .i64 0]) ∧ Below W.heap.size W w') := fun A c W hc hR => by
    have h := pkparse_any A _ c B5 W (by rw [k5]; exact (car_bound hn).1) hc hR
    rw [k5, tL, ← k5, ← hV] at h
    exact h
  have v37 : V[37]? = some (.bool false) := by
    have := head_at rfl y5 (by rw [k5]; exact gL rfl) 4
    rw [← hV, sL] at this
    exact this
  have v36 : V[36]? = some (.int .i64 2) := by
    have := head_at rfl y5 (by rw [k5]; exact gL rfl) 3
    rw [← hV] at this
    rw [this]
    show some (Value.int .i64 ((pkRec B5).frag : Nat)) = _
    rw [fL]
    rfl
  obtain ⟨has, hhas⟩ : ∃ b, b = decide (0 < poLeast p) := ⟨_, rfl⟩
  rw [← hhas] at s4 s6
  have HXY : Hid (d = 0 → (X[37]? = some (.bool has) ∧ X[38]? = some (.int .i64 (q.1 : Nat)) ∧ X[39]? = some (.int .i64 (q.2.1 : Nat)) ∧ X[34]? = some (.int .i64 (N4 : Nat))) ∧ (Y[37]? = some (.bool has) ∧ Y[38]? = some (.int .i64 (q.1 : Nat)) ∧ Y[39]? = some (.int .i64 (q.2.1 : Nat)) ∧ Y[34]? = some (.int .i64 (N6 : Nat)))) := fun h0 => by
    have x := head_at rfl y4 (by rw [k4]; exact g4 (hd ▸ h0))
    have y := head_at rfl b6 (by rw [a6]; exact g6 (hd ▸ h0))
    rw [← hX, q4, s4] at x
    rw [← hY, q6, s6] at y
    refine ⟨⟨x 4, x 5, x 6, ?_⟩, y 4, y 5, y 6, ?_⟩
    · rw [x 1]
      show some (Value.int .i64 ((pkRec B4).size : Nat)) = _
      rw [e4, hN4]
    · rw [y 1]
      show some (Value.int .i64 ((pkRec B6).size : Nat)) = _
      rw [z6, hN6]
  have CE : Hid (∀ w, Calls Try.prog 17 #[.int .i64 (p : Nat)] w fun e w' => e = .returned (.bool false) ∧ w = w') := fun w => by rw [← hx]; exact exis_any p w
  obtain ⟨lo, hlo⟩ : ∃ v, v = poLeast p := ⟨_, rfl⟩
  have CLe : Hid (∀ w, Calls Try.prog 22 #[.int .i64 (p : Nat)] w fun e w' => e = .returned (.int .i64 (lo : Nat)) ∧ Below w.heap.size w w') := fun w => by
    rw [hlo]
    exact (poleast_any p w).mono fun e w' h => ⟨h.1, by rw [← h.2]; exact Below.refl _ _⟩
  rw [← hlo] at hhas
  obtain ⟨q0, q1, q2⟩ := q
  obtain rfl : d = q2 := hd
  have CR : Hid (∀ w, Row w a n P → Calls Try.prog 21 #[.int .i64 (p : Nat), .slice a n cap, .bool false] w fun e w' => e = .returned (.tuple #[.int .i64 (q0 : Nat), .int .i64 (q1 : Nat), .int .i64 (d : Nat)]) ∧ Below w.heap.size w w') := fun w hR => by
    have h := poread_any p a n cap P false w (car_bound hn).2.2.1 hl hR
    rw [← hq] at h
    exact h.mono fun e w' h => ⟨h.1, by obtain ⟨m, hm⟩ := h.2; rw [hm]; exact below_drewN' (Below.refl _ _) m⟩
  have i1 : ¬ (1000 : Int) < (n : Int) := (car_bound hn).2.2.2
  have HR := Lib.hid R
  have HB4 := Lib.hid hB4
  have HB5 := Lib.hid hB5
  have HB6 := Lib.hid hB6
  have HY4 := Lib.hid y4
  have HY5 := Lib.hid y5
  have HY6 := Lib.hid b6
  have HHB : Hid ((∀ x ∈ H0, x < 256) ∧ (∀ x ∈ H5, x < 256)) := ⟨b0, b5⟩
  have HLN : Hid (0 < H0.length ∧ 0 < H5.length ∧ 0 < S0.length ∧ 0 < S5.length ∧ 0 < S6.length ∧ S0.length + n ≤ 140737488355328 ∧ S5.length + n ≤ 140737488355328 ∧ S6.length + n ≤ 140737488355328) := by
    show _ ∧ _
    rw [l0, l5, K0.len, K5.len, l6]
    exact car_lens hn
  have hlitZ := hd_lit
  obtain ⟨Z, hZ⟩ : ∃ Z, Z = hdCells RZ false 0 0 := ⟨_, rfl⟩
  have hZl : Z.length = 40 := by rw [hZ]; rfl
  rw [← hZ] at hlitZ
  have HXL : Hid (X.length = 40 ∧ ∀ v ∈ X, v.oneCell' = true) := ⟨Xl, Xo⟩
  have HYL : Hid (Y.length = 40 ∧ ∀ v ∈ Y, v.oneCell' = true) := ⟨Yl, Yo⟩
  have HVL : Hid (V.length = 40 ∧ ∀ v ∈ V, v.oneCell' = true) := ⟨Vl, Vo⟩
  have HLZ := Lib.hid hlitZ
  have HZL := Lib.hid hZl
  have HH := Lib.hid hhas
  have HV36 := Lib.hid v36
  have HV37 := Lib.hid v37
  clear hN4 hN6 hlitZ hZl Xl Xo Yl Yo Vl Vo hhas hZ hP hPb hH0 hH5 l0 b0 d0 m0 K0 l5 b5 d5 m5 K5 l6 b6 a6 h6 z6 q6 s6 q4 s4 qL sL fL hS0 hS5 hS6 t4 g4 t6 g6 tL gL hB4 hB5 hB6 k4 k5 y4 y5 e4 hX hY hV hq hlo v36 v37 R hl hn hx hp
  go_enter Try.func4, Try.ntmps4
  have KZ := Lib.hid (KV.nil w)
  go_wp2_with fail
  refine (CE.out _).mono ?_
  rintro e w1 ⟨rfl, rfl⟩
  have KA := Lib.hid (KV.one w 44 [.int .i64 5, .int .i64 0, .int .i64 (N4 : Nat), .int .i64 0, .int .i64 0, .int .i64 0, .int .i64 0, .int .i64 (p : Nat), .int .i64 0, .int .u8 0, .int .u8 0, .int .u8 0, .int .u8 0, .int .u8 0, .int .u8 0, .int .u8 0, .int .u8 0])
  go_upto_region 4 with fail
  refine wp_region_lit ?_
  go_upto_region 5 with (first | refine wpList_load_v rfl 44 (.tmp 5) rfl _ rfl tyfour (KA.out.at (cs := [.int .i64 5, .int .i64 0, .int .i64 (N4 : Nat), .int .i64 0, .int .i64 0, .int .i64 0, .int .i64 0, .int .i64 (p : Nat), .int .i64 0, .int .u8 0, .int .u8 0, .int .u8 0, .int .u8 0, .int .u8 0, .int .u8 0, .int .u8 0, .int .u8 0]) 0 rfl) rfl ?_ | fail)
  refine (W0.out _).mono ?_
  rintro e w1 ⟨v1, rfl, o1, b1⟩
  obtain ⟨g1, c1, r1, rfl, ri1, k1⟩ := KA.out.owned b1 o1 HLN.out.1
  have KB := Lib.hid k1
  have RI1 := Lib.hid ri1
  clear o1 b1 k1 ri1 KA KZ
  have f5 := (KB.out.at 0 rfl).frozen 5
  have m5 := (KB.out.at 0 rfl).get 5
  simp at m5
  have KC := Lib.hid (KB.out.put 0 rfl 5 (.int .i64 5))
  go_upto_region 6 with fail
  clear f5 m5 KB
  generalize World.setCell _ _ _ = V1 at *
  refine wp_region_lit ?_
  go_upto_region 7 with (first | refine wpList_load_v rfl 44 (.tmp 5) rfl _ rfl tyfour (KC.out.at (cs := [.int .i64 5, .int .i64 0, .int .i64 (N4 : Nat), .int .i64 0, .int .i64 0, .int .i64 5, .int .i64 0, .int .i64 (p : Nat), .int .i64 0, .int .u8 0, .int .u8 0, .int .u8 0, .int .u8 0, .int .u8 0, .int .u8 0, .int .u8 0, .int .u8 0]) 0 rfl) rfl ?_ | fail)
  refine (W5.out _).mono ?_
  rintro e w2 ⟨v2, rfl, o2, b2⟩
  obtain ⟨g2, c2, r2, rfl, ri2, k2⟩ := KC.out.owned b2 o2 HLN.out.2.1
  have KD := Lib.hid k2
  have RI2 := Lib.hid ri2
  clear o2 b2 k2 ri2 KC
  go_wp2_with fail
  refine (X0.out _ _ _ RI1.out.le (KD.out.rowOf (i := 1) rfl RI1.out HHB.out.1)).mono ?_
  rintro e w3 ⟨v3, rfl, o3, b3⟩
  obtain ⟨g3, c3, r3, rfl, ri3, k3⟩ := KD.out.owned b3 o3 HLN.out.2.2.1
  have KE := Lib.hid k3
  have RI3 := Lib.hid ri3
  clear o3 b3 k3 ri3 KD RI1
  go_wp2_with fail
  refine (X5.out _ _ _ RI2.out.le (KE.out.rowOf (i := 2) rfl RI2.out HHB.out.2)).mono ?_
  rintro e w4 ⟨v4, rfl, o4, b4⟩
  obtain ⟨g4, c4, r4, rfl, ri4, k4⟩ := KE.out.owned b4 o4 HLN.out.2.2.2.1
  have KF := Lib.hid k4
  have RI4 := Lib.hid ri4
  clear o4 b4 k4 ri4 KE RI2
  go_wp2_with fail
  refine (W6.out _).mono ?_
  rintro e w5 ⟨v5, rfl, o5, b5⟩
  obtain ⟨g5, c5, r5, rfl, ri5, k5⟩ := KF.out.owned b5 o5 HLN.out.2.2.2.2.1
  have RI5 := Lib.hid ri5
  have KG : Hid (KV w ([(5, g4, r4), (5, g5, r5)] ++ [(5, g3, r3)]) w5) := k5.pick [4, 5, 3] (by simp) rfl (by
    intro q hq
    simp at hq
    rcases hq with rfl | rfl | rfl <;> rfl)
  clear o5 b5 k5 ri5 KF
  go_upto_region 14 with fail
  refine wp_region_lit ?_
  have RP4 := Lib.hid (HR.out.below KG.out.bel)
  go_upto_region 15 with (first
    | (at_builtin; refine wpList_append_kv rfl (.tmp 84) (.tmp 85) rfl rfl rfl rfl KG.out RI3.out RP4.out HLN.out.2.2.2.2.2.1 ?_; intro v w6 ho hk; rw [← HB4.out] at ho; obtain ⟨A, c, rfl, h1, h2, h3⟩ := ho.out HY4.out; have H1 := Lib.hid h1; have R1 := Lib.hid h3; have KH := Lib.hid hk; clear ho hk h1 h2 h3)
    | fail)
  refine (P4.out _ _ _ H1.out R1.out).mono ?_
  rintro e w7 ⟨rfl, b7⟩
  have hlitZ := HLZ.out
  have KI := Lib.hid (KH.out.below b7)
  clear b7 KH H1 R1 KG RP4
  go_upto_region 15 with (first | refine wpList_store_v rfl 25 (.tmp 12) (.tmp 88) rfl _ rfl tyhead (ArrV.new _ _ Z) HZL.out X HXL.out.1 HXL.out.2 rfl ?_ | fail)
  have KJ := Lib.hid ((KI.out.new 25 Z).store 2 rfl X (by rw [HXL.out.1, HZL.out]))
  clear hlitZ
  generalize w7.heap.size = gx4 at *
  generalize World.setCells _ _ _ _ = U4 at *
  clear KI
  have KK : Hid (KV w ([(5, g4, r4), (25, gx4, X)] ++ [(5, g5, r5)]) U4) := KJ.out.pick [0, 2, 1] (by simp) rfl (by
    intro q hq
    simp at hq
    rcases hq with rfl | rfl | rfl <;> rfl)
  clear KJ
  go_upto_region 15 with fail
  refine wp_region_lit ?_
  have RP6 := Lib.hid (HR.out.below KK.out.bel)
  go_upto_region 16 with (first
    | (at_builtin; refine wpList_append_kv rfl (.tmp 91) (.tmp 92) rfl rfl rfl rfl KK.out RI5.out RP6.out HLN.out.2.2.2.2.2.2.2 ?_; intro v w6 ho hk; rw [← HB6.out] at ho; obtain ⟨A, c, rfl, h1, h2, h3⟩ := ho.out HY6.out; have H1 := Lib.hid h1; have R1 := Lib.hid h3; have KH := Lib.hid hk; clear ho hk h1 h2 h3)
    | fail)
  refine (P6.out _ _ _ H1.out R1.out).mono ?_
  rintro e w7 ⟨rfl, b7⟩
  have hlitZ := HLZ.out
  have KI := Lib.hid (KH.out.below b7)
  clear b7 KH H1 R1 KK RP6
  go_upto_region 16 with (first | refine wpList_store_v rfl 25 (.tmp 14) (.tmp 95) rfl _ rfl tyhead (ArrV.new _ _ Z) HZL.out Y HYL.out.1 HYL.out.2 rfl ?_ | fail)
  have KJ := Lib.hid ((KI.out.new 25 Z).store 2 rfl Y (by rw [HYL.out.1, HZL.out]))
  clear hlitZ
  generalize w7.heap.size = gx6 at *
  generalize World.setCells _ _ _ _ = U6 at *
  clear KI
  have KL : Hid (KV w ([(25, gx4, X), (25, gx6, Y)] ++ [(5, g4, r4)]) U6) := KJ.out.pick [1, 2, 0] (by simp) rfl (by
    intro q hq
    simp at hq
    rcases hq with rfl | rfl | rfl <;> rfl)
  clear KJ
  go_upto_region 16 with fail
  refine wp_region_lit ?_
  have RP5 := Lib.hid (HR.out.below KL.out.bel)
  go_upto_region 17 with (first
    | (at_builtin; refine wpList_append_kv rfl (.tmp 98) (.tmp 99) rfl rfl rfl rfl KL.out RI4.out RP5.out HLN.out.2.2.2.2.2.2.1 ?_; intro v w6 ho hk; rw [← HB5.out] at ho; obtain ⟨A, c, rfl, h1, h2, h3⟩ := ho.out HY5.out; have H1 := Lib.hid h1; have R1 := Lib.hid h3; have KH := Lib.hid hk; clear ho hk h1 h2 h3)
    | fail)
  refine (P5.out _ _ _ H1.out R1.out).mono ?_
  rintro e w7 ⟨rfl, b7⟩
  have hlitZ := HLZ.out
  have KI := Lib.hid (KH.out.below b7)
  clear b7 KH H1 R1 KL RP5
  go_upto_region 17 with (first | refine wpList_store_v rfl 25 (.tmp 16) (.tmp 102) rfl _ rfl tyhead (ArrV.new _ _ Z) HZL.out V HVL.out.1 HVL.out.2 rfl ?_ | fail)
  have KJ := Lib.hid ((KI.out.new 25 Z).store 2 rfl V (by rw [HVL.out.1, HZL.out]))
  clear hlitZ
  generalize w7.heap.size = gx5 at *
  generalize World.setCells _ _ _ _ = U5 at *
  clear KI
  have KM : Hid (KV w [(25, gx4, X), (25, gx6, Y), (25, gx5, V)] U5) := KJ.out
  have RQ := Lib.hid (HR.out.below KM.out.bel)
  clear KJ
  go_wp2_with fail
  refine (CR.out _ RQ.out).mono ?_
  rintro e w8 ⟨rfl, b8⟩
  have KN := Lib.hid (KM.out.below b8)
  clear b8 KM RQ
  have n37 := ((KN.out.at 2 rfl).get 37).trans HV37.out
  have n36 := ((KN.out.at 2 rfl).get 36).trans HV36.out
  go_upto_region 20 with fail
  clear n37 n36
  by_cases hd0 : d = 0
  · obtain ⟨⟨x37, x38, x39, x34⟩, y37, y38, y39, y34⟩ := HXY.out hd0
    try dsimp only at x38 x39 y38 y39
    subst hd0
    have hle : has = decide ((0 : Int) < (lo : Int)) := by
      rw [HH.out]
      exact lo_int lo
    clear HH
    cases has with
    | false =>
      have hz : lo = 0 := lo_zero (of_decide_eq_false hle.symm)
      subst hz
      clear hle
      refine wp_quiet_kv (C := KV w [(25, gx4, X), (25, gx6, Y), (25, gx5, V)]) (by kernel_rfl) (by kernel_rfl) KN.out.drew ?_
      repeat (first
        | go_big_quiet_skip
        | (go_big_quiet_want; apply Exists.intro; refine ⟨fun w' hw' => (by first | exact quietAt_cell rfl rfl one_bool (hw'.at 0 rfl) x37 | exact quietAt_cell rfl rfl one_bool (hw'.at 1 rfl) y37 | exact quietAt_cell rfl rfl one_int (hw'.at 0 rfl) x38 | exact quietAt_cell rfl rfl one_int (hw'.at 1 rfl) y38 | exact quietAt_cell rfl rfl one_int (hw'.at 0 rfl) x39 | exact quietAt_cell rfl rfl one_int (hw'.at 1 rfl) y39 | exact quietAt_cell rfl rfl one_int (hw'.at 0 rfl) x34 | exact quietAt_cell rfl rfl one_int (hw'.at 1 rfl) y34 | fail), ?_⟩; simp only [Act.put, List.setIfInBounds_toArray, List.set_cons_zero, List.set_cons_succ]; go_big_quiet_on)
        | (go_big_quiet_want; go_big_quiet_op; go_big_quiet_on)
        | (go_big_quiet_want; go_big_quiet_op; apply Exists.intro; refine ⟨fun w' hw' => (by first | (with_reducible refine (CLe.out w').mono ?_; rintro e w'' ⟨rfl, hb⟩; exact ⟨rfl, hw'.below hb⟩) | fail), ?_⟩; go_big_quiet_on)
        | (go_big_quiet_want; go_big_quiet_op; apply Exists.intro; refine ⟨fun w' hw' => rfl, ?_⟩; go_big_quiet_on))
      refine wpQuiet_nil ?_
      intro w1 hw1
      go_wp2_with fail
      go_ret
      exact ⟨by first | rfl | simp, hw1.bel⟩
    | true =>
      have hz : (0 : Int) < (lo : Int) := of_decide_eq_true hle.symm
      have hz2 : 0 < lo := lo_pos hz
      clear hle
      refine wp_quiet_kv (C := KV w [(25, gx4, X), (25, gx6, Y), (25, gx5, V)]) (by kernel_rfl) (by kernel_rfl) KN.out.drew ?_
      repeat (first
        | go_big_quiet_skip
        | (go_big_quiet_want; apply Exists.intro; refine ⟨fun w' hw' => (by first | exact quietAt_cell rfl rfl one_bool (hw'.at 0 rfl) x37 | exact quietAt_cell rfl rfl one_bool (hw'.at 1 rfl) y37 | exact quietAt_cell rfl rfl one_int (hw'.at 0 rfl) x38 | exact quietAt_cell rfl rfl one_int (hw'.at 1 rfl) y38 | exact quietAt_cell rfl rfl one_int (hw'.at 0 rfl) x39 | exact quietAt_cell rfl rfl one_int (hw'.at 1 rfl) y39 | exact quietAt_cell rfl rfl one_int (hw'.at 0 rfl) x34 | exact quietAt_cell rfl rfl one_int (hw'.at 1 rfl) y34 | fail), ?_⟩; simp only [Act.put, List.setIfInBounds_toArray, List.set_cons_zero, List.set_cons_succ]; go_big_quiet_on)
        | (go_big_quiet_want; go_big_quiet_op; go_big_quiet_on)
        | (go_big_quiet_want; go_big_quiet_op; apply Exists.intro; refine ⟨fun w' hw' => (by first | (with_reducible refine (CLe.out w').mono ?_; rintro e w'' ⟨rfl, hb⟩; exact ⟨rfl, hw'.below hb⟩) | fail), ?_⟩; go_big_quiet_on)
        | (go_big_quiet_want; go_big_quiet_op; apply Exists.intro; refine ⟨fun w' hw' => rfl, ?_⟩; go_big_quiet_on))
      refine wpQuiet_nil ?_
      intro w1 hw1
      go_wp2_with fail
      go_ret
      exact ⟨by first | rfl | simp, hw1.bel⟩
  · obtain ⟨h1, h2⟩ := d_ne hd0
    clear hd0
    refine wp_quiet_kv (C := KV w [(25, gx4, X), (25, gx6, Y), (25, gx5, V)]) (by kernel_rfl) (by kernel_rfl) KN.out.drew ?_
    repeat (first
      | go_big_quiet_skip
      | (go_big_quiet_want; go_big_quiet_op; go_big_quiet_on)
      | (go_big_quiet_want; go_big_quiet_op; apply Exists.intro; refine ⟨fun w' hw' => rfl, ?_⟩; go_big_quiet_on))
    refine wpQuiet_nil ?_
    intro w1 hw1
    go_wp2_with fail
    go_ret
    exact ⟨by first | rfl | simp, hw1.bel⟩
theorem walk_WholeCarried (p : Nat) (a : Option Addr) (n cap : Nat) (P : List Nat) (w : World) (hp : p ≤ 255) (R : Row w a n P) (hl : n ≤ cap) (hc : cap ≤ 140737488351232) :
    Calls Try.prog 4 #[.int .u8 p, .slice a n cap] w fun e w' => e = .returned (.bool true) ∧ Below w.heap.size w w' := by
  by_cases hn : n ≤ 1000
  · cases hx : exKind p with
    | true => exact car_out true p a n cap w (.inr ⟨rfl, hn, hx⟩) hp
    | false => exact car_in p a n cap P w hp R hl hn hx
  · exact car_out false p a n cap w (.inl ⟨rfl, by omega⟩) hp
end Go.Proofs.Ytcjaidpmfjnhpaa
