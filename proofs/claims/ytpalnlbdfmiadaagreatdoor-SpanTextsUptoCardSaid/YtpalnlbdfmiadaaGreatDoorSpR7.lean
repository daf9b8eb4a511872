/-
  A span's text as the document has it: digits one by one, and a text cut at its dashes (plain facts; nothing is claimed of the program here).
  The contract of the document's Number at any most of up to nine letters, beside decimal's own texts.
  The contract of the document's Cut, for texts of at most 2^40 bytes, beside decimal's own texts.
  The document's Print and Parse of layer 8.
  The document's Parse of layer 8.
-/
import Derived.Test.YtpalnlbdfmiadaaGreatDoorSp14
import Derived.Test.YtpalnlbdfmiadaaGreatDoorWPlain3
import Derived.Test.YtpalnlbdfmiadaaGreatDoorSpDec
import Derived.Deep.OwnRows
import Derived.Lib.Split
import Derived.Test.YtpalnlbdfmiadaaGreatDoorRtext
import Derived.Test.YtpalnlbdfmiadaaGreatDoorPar
namespace Go.Proofs.YtpalnlbdfmiadaaGreatDoor
open Go.Lib
set_option linter.unusedVariables false

theorem cut_many (c : UInt8) (l : List UInt8) : (cutL c l).length ≤ l.length + 1 := by
  induction l with
  | nil => simp [cutL]
  | cons x l ih =>
    unfold cutL
    split
    · simpa using ih
    · rw [onHead_length (cutL_pos _ _), List.length_cons]; omega
theorem dtail_snoc (N : Nat) : ∀ K, dtail N (K + 1) = dtail (N / 10) K ++ [48 + N % 10]
  | 0 => by simp [dtail]
  | K + 1 => by
    show (48 + N / 10 ^ (K + 1) % 10) :: dtail N (K + 1) = (48 + N / 10 / 10 ^ K % 10) :: dtail (N / 10) K ++ [48 + N % 10]
    rw [dtail_snoc N K, Nat.div_div_eq_div_mul, Nat.pow_succ, Nat.mul_comm]
    rfl
theorem dtail_digits : ∀ (K N : Nat), HasDigits N K → (dtail N K).map (fun x => UInt8.ofNat x) = decDigits N
  | 0, N, h => absurd h.one (by omega)
  | 1, N, h => by
    have h0 := h.zero
    have hN : N < 10 := by omega
    rw [dec_small hN, dtail_snoc]
    simp [dtail, Nat.mod_eq_of_lt hN]
  | K + 2, N, h => by
    have h1 := h.more 1 (by omega) (by omega)
    have hN : ¬ N < 10 := by omega
    have hd : HasDigits (N / 10) (K + 1) := by
      refine ⟨by omega, ?_, fun j h1 h2 => ?_⟩
      · rw [Nat.div_div_eq_div_mul, ← Nat.pow_succ']
        exact h.zero
      · rw [Nat.div_div_eq_div_mul, ← Nat.pow_succ']
        exact h.more (j + 1) (by omega) (by omega)
    rw [dec_step hN, dtail_snoc, List.map_append, dtail_digits (K + 1) (N / 10) hd]
    rfl
theorem ix_none {c : UInt8} : ∀ {l : List UInt8}, c ∉ l → index l [c] = -1
  | [], _ => index_nil c
  | x :: l, h => by
    have h1 : x ≠ c := fun e => h (by simp [e])
    have h2 : c ∉ l := fun e => h (by simp [e])
    rw [index_next l h1, ix_none h2]
    rfl
theorem ix_at {c : UInt8} (q : List UInt8) : ∀ {p : List UInt8}, c ∉ p → index (p ++ c :: q) [c] = (p.length : Int)
  | [], _ => index_here c q
  | x :: p, h => by
    have h1 : x ≠ c := fun e => h (by simp [e])
    have h2 : c ∉ p := fun e => h (by simp [e])
    show index (x :: (p ++ c :: q)) [c] = _
    rw [index_next _ h1, ix_at q h2, if_neg (by omega)]
    simp
theorem cut_none {l : List UInt8} (h : (45 : UInt8) ∉ l) : Lib.cut l [45] = (l, [], false) := by
  unfold Lib.cut
  rw [ix_none h]
  rfl
theorem cut_at {p : List UInt8} (q : List UInt8) (h : (45 : UInt8) ∉ p) : Lib.cut (p ++ 45 :: q) [45] = (p, q, true) := by
  unfold Lib.cut
  rw [ix_at q h, if_pos (by omega), Int.toNat_natCast]
  simp
theorem first_dash {l : List UInt8} (h : (45 : UInt8) ∈ l) : ∃ p q, l = p ++ 45 :: q ∧ (45 : UInt8) ∉ p := by
  induction l with
  | nil => cases h
  | cons x l ih =>
    by_cases e : x = 45
    · exact ⟨[], l, by rw [e]; rfl, by simp⟩
    · obtain ⟨p, q, h1, h2⟩ := ih (by rcases List.mem_cons.1 h with h | h; exact absurd h.symm e; exact h)
      exact ⟨x :: p, q, by rw [h1]; rfl, by intro h3; rcases List.mem_cons.1 h3 with h3 | h3; exact e h3.symm; exact h2 h3⟩
theorem dash_no {q : List UInt8} (h : (45 : UInt8) ∈ q) (m : Nat) : numOkM m q = false := by
  have h1 : allDig q = false := by
    rw [← Bool.not_eq_true]
    intro e
    have h2 := List.all_eq_true.1 e _ h
    revert h2
    decide
  unfold numOkM
  rw [h1, Bool.and_false]
/-- What the document's Parse tells of the parts. -/
def rsp (ps : List (List UInt8)) : Sp × Int := if 2 < ps.length ∨ numOkM 5 (ps.headD []) = false ∨ numOkM 5 (ps.getLastD []) = false then ((0, 0), 3) else if chkS ((numv (ps.headD []) : Nat), (numv (ps.getLastD []) : Nat)) = 0 then (((numv (ps.headD []) : Nat), (numv (ps.getLastD []) : Nat)), 0) else ((0, 0), chkS ((numv (ps.headD []) : Nat), (numv (ps.getLastD []) : Nat)))
theorem rsp_two {a b : List UInt8} {ps : List (List UInt8)} (h1 : ps.length ≤ 2) (ha : ps.headD [] = a) (hb : ps.getLastD [] = b) : rsp ps = sparse2 a b := by
  unfold rsp sparse2
  rw [ha, hb]
  cases e1 : numOkM 5 a
  · rw [if_pos (.inr (.inl rfl))]; rfl
  · cases e2 : numOkM 5 b
    · rw [if_pos (.inr (.inr rfl))]; rfl
    · rw [if_neg (by simp; omega)]
      rfl
theorem sparse_rsp {l : List UInt8} (h : l ≠ [42]) : sparse l = rsp (cutL 45 l) := by
  unfold sparse
  rw [if_neg h]
  by_cases hd : (45 : UInt8) ∈ l
  · obtain ⟨p, q, rfl, hp⟩ := first_dash hd
    rw [cut_at q hp, cutL_part q hp]
    show sparse2 p q = _
    by_cases hq : (45 : UInt8) ∈ q
    · obtain ⟨p2, q2, rfl, hp2⟩ := first_dash hq
      have e1 := dash_no hq 5
      have e2 : sparse2 p (p2 ++ 45 :: q2) = ((0, 0), 3) := by
        unfold sparse2
        rw [e1]
        cases numOkM 5 p <;> rfl
      rw [e2, cutL_part q2 hp2]
      unfold rsp
      have h3 := cutL_one 45 q2
      rw [if_pos (.inl (by simp only [List.length_cons]; omega))]
    · rw [cutL_whole hq]
      exact (rsp_two (ps := [p, q]) (Nat.le_refl 2) rfl rfl).symm
  · rw [cut_none hd, cutL_whole hd]
    exact (rsp_two (ps := [l]) (Nat.le_succ 1) rfl rfl).symm
theorem dec_all : ∀ (n : Nat), allDig (decDigits n) = true ∧ numv (decDigits n) = n ∧ 1 ≤ (decDigits n).length ∧ (1 ≤ n → (decDigits n).headD 0 ≠ 48) := by
  intro n
  induction n using Nat.strongRecOn with
  | _ n ih =>
    by_cases h : n < 10
    · rw [dec_small h]
      refine ⟨?_, ?_, by simp, fun h1 e => ?_⟩
      · show (isDig (UInt8.ofNat (48 + n)) && true) = true
        rw [isDig_of h]
        rfl
      · show 10 * 0 + ((UInt8.ofNat (48 + n)).toNat - 48) = n
        rw [dig_of h]
        omega
      · have e2 := congrArg UInt8.toNat e
        have e3 : (UInt8.ofNat (48 + n)).toNat = 48 := e2
        rw [dig_of h] at e3
        omega
    · obtain ⟨h1, h2, h3, h4⟩ := ih (n / 10) (by omega)
      have hm : n % 10 < 10 := Nat.mod_lt _ (by decide)
      rw [dec_step h]
      refine ⟨?_, ?_, by simp, fun _ e => ?_⟩
      · rw [allDig_snoc, h1, isDig_of hm]; rfl
      · rw [numv_snoc, h2, dig_of hm]; omega
      · refine h4 (by omega) ?_
        cases hd : decDigits (n / 10) with
        | nil => rw [hd] at h3; simp at h3
        | cons x r => rw [hd] at e; exact e
theorem dec_num {n : Nat} (hn : n ≤ 65535) : numOkM 5 (decDigits n) = true := by
  obtain ⟨h1, h2, h3, h4⟩ := dec_all n
  have h5 := dec_le 4 n (by omega)
  unfold numOkM
  rw [h1, decide_eq_true h3, decide_eq_true h5]
  by_cases h : n < 10
  · rw [dec_small h]; rfl
  · have := h4 (by omega)
    simp only [Bool.and_true, Bool.true_and, Bool.or_eq_true, bne_iff_ne]
    exact .inr this
theorem dec_nodash (n : Nat) : (45 : UInt8) ∉ decDigits n := fun h => by
  have h2 := List.all_eq_true.1 (dec_all n).1 _ h
  revert h2
  decide
theorem dec_nostar (n : Nat) : decDigits n ≠ [42] := fun h => by
  have h2 := (dec_all n).1
  rw [h] at h2
  revert h2
  decide
theorem sparse_sprint {x1 x2 : Int} (h : chkS (x1, x2) = 0) : sparse (sprint (x1, x2)) = ((x1, x2), 0) := by
  have hok := chkS_ok.1 h
  have hx : (0 ≤ x1 ∧ x1 ≤ x2) ∧ x2 ≤ 65535 := by unfold OkS at hok; dsimp only at hok; omega
  obtain ⟨⟨h0, h1⟩, h2⟩ := hx
  obtain ⟨n1, rfl⟩ := Int.eq_ofNat_of_zero_le h0
  obtain ⟨n2, rfl⟩ := Int.eq_ofNat_of_zero_le (show 0 ≤ x2 by omega)
  have k1 := dec_num (n := n1) (by omega)
  have k2 := dec_num (n := n2) (by omega)
  have v1 := (dec_all n1).2.1
  have v2 := (dec_all n2).2.1
  have key : sparse2 (decDigits n1) (decDigits n2) = (((n1 : Int), (n2 : Int)), 0) := by
    unfold sparse2
    rw [if_pos k1, if_pos k2, v1, v2, if_pos h]
  unfold sprint
  rw [if_neg (by simp [h])]
  by_cases ha : ((n1 : Int), (n2 : Int)) = ((0 : Int), (65535 : Int))
  · rw [if_pos ha, ha]
    rfl
  · rw [if_neg ha]
    dsimp only
    rw [Int.toNat_natCast, Int.toNat_natCast]
    by_cases he : (n1 : Int) = (n2 : Int)
    · rw [if_pos he]
      have e2 : n1 = n2 := by omega
      subst e2
      unfold sparse
      rw [if_neg (dec_nostar n1), cut_none (dec_nodash n1)]
      exact key
    · rw [if_neg he]
      unfold sparse
      rw [if_neg ?_, cut_at _ (dec_nodash n1)]
      · exact key
      · intro e
        have h3 : (45 : UInt8) ∈ decDigits n1 ++ 45 :: decDigits n2 := by simp
        rw [e] at h3
        revert h3
        decide
end Go.Proofs.YtpalnlbdfmiadaaGreatDoor

namespace Go.Proofs.YtpalnlbdfmiadaaGreatDoor
open Go.RowKit Go.Shelf
set_option linter.unusedVariables false

def RNumIsM (m : Nat) (s : ByteArray) (w : World) (e : Ending) (w' : World) : Prop := e = .returned (.int .i64 (if numOkM m s.data.toList then (numv s.data.toList : Nat) else -1 : Int)) ∧ w = w'
theorem rnumM_no {m : Nat} {s : ByteArray} {w : World} (h : numOkM m s.data.toList = false) : RNumIsM m s w (.returned (.int .i64 (-1))) w := by
  refine ⟨?_, rfl⟩
  rw [h]
  rfl
theorem rnumM_yes {m : Nat} {s : ByteArray} {w : World} {n : Nat} (h : numOkM m s.data.toList = true) (hn : n = numv s.data.toList) : RNumIsM m s w (.returned (.int .i64 n)) w := by
  refine ⟨?_, rfl⟩
  rw [h, if_pos rfl, hn]
set_option maxHeartbeats 800000 in
theorem rnumberM_any (m : Nat) (s : ByteArray) (w : World) (hm : m ≤ 9) : Calls Tryz.prog 14 #[.string s, .int .i64 m] w (RNumIsM m s w) := by
  by_cases h0 : s.size < 1
  · have F := Lib.hid (rnumM_no (m := m) (w := w) (s := s) (by simp only [numOkM, size_list]; rw [decide_eq_false (by omega)]; rfl))
    go_enter Tryz.func14, Tryz.ntmps14
    go_wp2_with fail
    go_ret
    exact F.out
  by_cases h3 : m < s.size
  · have F := Lib.hid (rnumM_no (m := m) (w := w) (s := s) (by simp only [numOkM, size_list]; rw [decide_eq_false (show ¬ s.size ≤ m by omega), Bool.and_false]; rfl))
    go_enter Tryz.func14, Tryz.ntmps14
    go_wp2_with fail
    go_ret
    exact F.out
  have hp : 0 < s.size := by omega
  have hd0 := head_zero s hp
  by_cases hz : 1 < s.size ∧ s[0].toNat = 48
  · obtain ⟨hz1, hz2⟩ := hz
    have F := Lib.hid (rnumM_no (m := m) (w := w) (s := s) (by
      simp only [numOkM, size_list]
      rw [decide_eq_false (show ¬ s.size ≤ 1 by omega), hd0.2 hz2]
      simp))
    have q : ((s[0].toNat : Int) == 48) = true := by simp; omega
    clear hd0 hz2
    go_enter Tryz.func14, Tryz.ntmps14
    go_wp2_with fail
    go_ret
    exact F.out
  have ho : Hid (numOkM m s.data.toList = allDig s.data.toList) := numOkM_of m s hp (by omega) (by
    by_cases h1 : s.size ≤ 1
    · exact .inl h1
    · exact .inr fun e => hz ⟨by omega, hd0.1 e⟩)
  have HZ := Lib.hid hz
  clear hd0 hz
  have hs3 : s.size ≤ m := by omega
  clear h0 h3
  go_enter Tryz.func14, Tryz.ntmps14
  by_cases h1 : 1 < s.size
  all_goals
    (try (have q : ((s[0].toNat : Int) == 48) = false := by have := HZ.out; simp; omega))
    go_wp2_with fail
    go_loop [5, 6] (fun n i => ∃ k v : Nat, k ≤ s.size ∧ i = .int .i64 k ∧ n = .int .i64 v ∧ Hid (v = numv (s.data.toList.take k)) ∧ Hid (allDig (s.data.toList.take k) = true)) (fun _ i => s.size - (intOf i).toNat)
    case atStart => exact ⟨0, 0, Nat.zero_le _, rfl, rfl, rfl, rfl⟩
    case round =>
      obtain ⟨k, v, hk, rfl, rfl, HV, HA⟩ := hrel
      have hv : v ≤ 999999999 := by
        have := numv_lt _ HA.out
        rw [← HV.out, List.length_take, size_list] at this
        have h2 : 10 ^ min k s.size ≤ 10 ^ 9 := Nat.pow_le_pow_right (by decide) (by omega)
        omega
      by_cases hlt : k < s.size
      · have T := Lib.hid (take_byte s k hlt)
        have NA := Lib.hid (not_all s k hlt)
        obtain ⟨c, hc⟩ : ∃ c, s[k].toNat = c := ⟨_, rfl⟩
        by_cases hd : 48 ≤ c ∧ c ≤ 57
        · obtain ⟨hd1, hd2⟩ := hd
          have ND : Hid (isDig s[k] = true) := by
            show isDig s[k] = true
            unfold isDig
            rw [hc]
            simp
            omega
          have HC := Lib.hid hc
          go_wp2_with fail
          go_round
          case rel =>
            have R1 : 10 * v + (c - 48) = numv (s.data.toList.take (k + 1)) := by rw [T.out, numv_snoc, HC.out, HV.out]
            have R2 : allDig (s.data.toList.take (k + 1)) = true := by
              rw [T.out, allDig_snoc, HA.out, ND.out]
              rfl
            have R3 : (v : Int) * 10 + ((c : Int) - 48) = ((10 * v + (c - 48) : Nat) : Int) := by omega
            have R4 : (k : Int) + 1 = ((k + 1 : Nat) : Int) := rfl
            rw [R3, R4]
            first
              | exact ⟨k + 1, 10 * v + (c - 48), by omega, rfl, rfl, R1, R2⟩
              | exact ⟨_, _, _, ⟨k + 1, by omega, rfl, 10 * v + (c - 48), rfl, R1, R2⟩, rfl, rfl, rfl⟩
              | exact ⟨_, _, _, ⟨k + 1, 10 * v + (c - 48), by omega, rfl, rfl, R1, R2⟩, rfl, rfl, rfl⟩
              | fail
          case measure => simp [intOf]; omega
        · have F := Lib.hid (rnumM_no (m := m) (w := w) (by rw [ho.out]; exact NA.out (by rw [hc]; exact hd)))
          by_cases hd1 : c < 48
          · clear hd
            go_wp2_with fail
            go_ret
            exact F.out
          · have hd2 : 57 < c := by omega
            have hd3 : 48 ≤ c := by omega
            clear hd hd1
            go_wp2_with fail
            go_ret
            exact F.out
      · obtain rfl : k = s.size := by omega
        have e : s.data.toList.take s.size = s.data.toList := by rw [← size_list]; exact List.take_length
        have F := Lib.hid (rnumM_yes (m := m) (w := w) (s := s) (n := v) (by rw [ho.out, ← e]; exact HA.out) (by rw [HV.out, e]))
        clear e
        go_wp2_with fail
        go_ret
        exact F.out
end Go.Proofs.YtpalnlbdfmiadaaGreatDoor

namespace Go.Proofs.YtpalnlbdfmiadaaGreatDoor
open Go.RowKit
set_option linter.unusedVariables false

/-- A slice of texts that the call itself appends to. -/
def OutS (B : Nat) (w : World) (v : Value) (ps : List ByteArray) : Prop := w.ownsRow B 9 1 v ps.length (ps.map Value.string)
theorem OutS.nil (B : Nat) (w : World) : OutS B w (.slice none 0 0) [] := World.ownsRow_nil _ _ _ _
theorem OutS.alloc {B : Nat} {w : World} {v : Value} {ps : List ByteArray} (h : OutS B w v ps) (o : Obj) : OutS B (w.alloc o) v ps := World.ownsRow.alloc h o
/-- Where it is not empty: its block and its texts. -/
theorem OutS.out {B : Nat} {w : World} {v : Value} {ps : List ByteArray} (h : OutS B w v ps) (h0 : 0 < ps.length) : ∃ g c, v = .slice (some ⟨g, 0, none⟩) ps.length c ∧ B ≤ g ∧ ∀ (j : Nat) x, ps[j]? = some x → w.cell? ⟨g, j, none⟩ = some (.string x) := by
  rcases h.2 with ⟨_, h2⟩ | ⟨g, cap, cur, hv, hB, hg, hn, hm, hs, ht⟩
  · omega
  · refine ⟨g, cap, hv, hB, fun j x hj => ?_⟩
    rw [cell_of_row w g j cur _ _ hg, ← Array.getElem?_toList]
    have hjl : j < ps.length := by
      rcases Nat.lt_or_ge j ps.length with hlt | hge
      · exact hlt
      · rw [List.getElem?_eq_none hge] at hj; cases hj
    have e1 : cur.toList[j]? = (ps.map Value.string)[j]? := by rw [← ht, List.getElem?_take, if_pos (by simpa using hjl)]
    rw [e1]
    simp [hj]
theorem string_info : (Tryz.prog.info? 9).map (fun i => (i.zero, i.size, i.bytes)) = some (some (.string ByteArray.empty), 1, 16) := by kernel_rfl
theorem str_parts : ∃ i0, Tryz.prog.info? 9 = some i0 ∧ i0.zero = some (.string ByteArray.empty) ∧ i0.size = 1 ∧ i0.bytes = 16 := by
  obtain ⟨i0, h1, h2, h3, h4⟩ := info_parts string_info
  exact ⟨i0, h1, h2, h3, h4⟩
/-- 'append(out, x)'. -/
theorem wpList_append_text {ops : Array Oper} {rest : List Oper} {o : Oper} {a : Act} {Q : Exit → Act → World → Prop} (hgd : o.guard = none) (s x : Operand)
    (ho : o.op = .call { callee := .builtin .append, args := #[s, x], argTypes := #[37, 37] })
    {B : Nat} {W wr : World} {v : Value} {ps : List ByteArray} (t : ByteArray) (hs : a.eval s = v) (hx : a.eval x = .slice (some ⟨wr.heap.size, 0, none⟩) 1 1)
    (hown : OutS B wr v ps) (hb : Below B W wr) (hB : B ≤ wr.heap.size) (hlen : (ps.length + 1) * 16 ≤ 140737488355328)
    (h : ∀ v' w', OutS B w' v' (ps ++ [t]) → Below B W w' → wpList Tryz.prog ops Q rest (a.put o.dst v') w') : wpList Tryz.prog ops Q (o :: rest) a (wr.alloc (.cells #[.string t] 9)) := by
  obtain ⟨i0, h1, h2, h3, h4⟩ := str_parts
  have hown' : (wr.alloc (.cells #[.string t] 9)).ownsRow B 9 1 v ps.length (ps.map Value.string) := World.ownsRow.alloc hown _
  refine wpList_append_own (P := Tryz.prog) (wr.alloc (.cells #[.string t] 9)) hgd s x 37 ho B 9 i0 (.string ByteArray.empty) 1 16 Tryz.underlying37 h1 h2 h3 h4 rfl (by decide) v ps.length (ps.map Value.string) hs hown'
    ⟨wr.heap.size, 0, none⟩ 1 1 [.string t] hx rfl (fun j u hj => by
      rw [add_flat, cell_of_row _ wr.heap.size (0 + j) _ _ _ (heap_alloc_new wr _), Nat.zero_add, ← Array.getElem?_toList]
      exact hj) (by simp [Value.oneCell']) (by unfold maxLen; omega) hlen (by simp; omega) ?_
  intro v' w' ho hg _
  refine h v' w' ?_ ((hb.alloc hB _).grown hg (by simp; omega) (fun k hk => (hown'.lt k hk).1))
  unfold OutS
  rw [List.length_append, List.length_singleton]
  simpa using ho

theorem not_mem_snoc {c : UInt8} {l : List UInt8} {x : UInt8} (h : c ∉ l) (hx : x ≠ c) : c ∉ l ++ [x] := by
  intro hm
  rcases List.mem_append.1 hm with hm | hm
  · exact h hm
  · rw [List.mem_singleton] at hm; exact hx hm.symm
theorem split_at {l : List UInt8} {k : Nat} {x : UInt8} (h : l.take (k + 1) = l.take k ++ [x]) : l = l.take k ++ x :: l.drop (k + 1) := by
  have e := List.take_append_drop (k + 1) l
  rw [h, List.append_assoc, List.singleton_append] at e
  exact e.symm
/-- What Cut answers. -/
def CutIs (w : World) (c : UInt8) (s : ByteArray) (e : Ending) (w' : World) : Prop := ∃ (v : Value) (ps : List ByteArray), ps.map (·.data.toList) = cutL c s.data.toList ∧ e = .returned v ∧ OutS w.heap.size w' v ps ∧ Below w.heap.size w w'

set_option maxRecDepth 10000 in
set_option maxHeartbeats 1600000 in
theorem rcut_any (s : ByteArray) (c : UInt8) (w : World) (hs : s.size ≤ 1099511627776) :
    Calls Tryz.prog 13 #[.string s, .int .u8 (c.toNat : Nat)] w (CutIs w c s) := by
  go_enter Tryz.func13, Tryz.ntmps13
  go_wp2_with fail
  go_loopw [5, 6, 7] (fun v f i wr => ∃ (k n : Nat) (ps : List ByteArray), k ≤ s.size ∧ n ≤ k ∧ i = .int .i64 k ∧ f = .int .i64 n ∧ ps.length ≤ k ∧ OutS w.heap.size wr v ps ∧ Below w.heap.size w wr ∧
    Hid (ps.map (·.data.toList) ++ cutL c (s.data.toList.drop n) = cutL c s.data.toList) ∧ Hid (c ∉ (s.data.toList.take k).drop n)) (fun _ _ i _ => s.size - (intOf i).toNat)
  case atStart => exact ⟨0, 0, [], Nat.zero_le _, Nat.le_refl _, rfl, rfl, Nat.le_refl _, OutS.nil _ _, Below.refl _ _, rfl, by show c ∉ (s.data.toList.take 0).drop 0; simp⟩
  case round =>
    obtain ⟨k, n, ps, hk, hn, rfl, rfl, hps, hO, hB, HC, HM⟩ := hrel
    have HO := Lib.hid hO
    have HB := Lib.hid hB
    clear hO hB
    by_cases hlt : k < s.size
    · have T := Lib.hid (take_byte s k hlt)
      have hlen := size_list s
      by_cases hx : s[k] = c
      · have q : ((s[k].toNat : Int) == (c.toNat : Int)) = true := by rw [hx]; simp
        have HC2 : Hid ((ps ++ [s.extract n k]).map (·.data.toList) ++ cutL c (s.data.toList.drop (k + 1)) = cutL c s.data.toList) := by
          show _ = _
          have e1 : s.data.toList.drop n = (s.data.toList.take k).drop n ++ c :: s.data.toList.drop (k + 1) := by
            have e2 := congrArg (List.drop n) (split_at T.out)
            rw [hx, List.drop_append_of_le_length (by rw [List.length_take]; omega)] at e2
            exact e2
          have e4 : (s.extract n k).data.toList = (s.data.toList.take k).drop n := by
            rw [Lib.extract_data, List.drop_take]
          rw [← HC.out, e1, cutL_part _ HM.out, List.map_append, List.map_cons, List.map_nil, e4]
          simp
        have HM2 : Hid (c ∉ (s.data.toList.take (k + 1)).drop (k + 1)) := by
          show c ∉ _
          rw [List.drop_eq_nil_of_le (by rw [List.length_take]; omega)]
          simp
        clear hx hlen
        go_wp2_with (at_builtin; refine wpList_append_text (B := w.heap.size) (W := w) rfl (.tmp 19) (.tmp 24) rfl (s.extract n k) rfl rfl HO.out HB.out HB.out.size (by omega) ?_; intro v' w' ho' hb')
        go_roundw
        case rel => exact ⟨k + 1, k + 1, ps ++ [s.extract n k], by omega, Nat.le_refl _, by go_num, by go_num, by simp; omega, ho', hb', HC2.out, HM2.out⟩
        case measure => simp [intOf]; omega
      · have hx2 : s[k].toNat ≠ c.toNat := fun e => hx (UInt8.toNat_inj.1 e)
        have q : ((s[k].toNat : Int) == (c.toNat : Int)) = false := by rw [beq_eq_false_iff_ne]; omega
        have HM2 : Hid (c ∉ (s.data.toList.take (k + 1)).drop n) := by
          show c ∉ _
          rw [T.out, List.drop_append_of_le_length (by rw [List.length_take]; omega)]
          exact not_mem_snoc HM.out hx
        clear hx hx2 hlen
        go_wp2_with fail
        go_roundw
        case rel => exact ⟨k + 1, n, ps, by omega, by omega, by go_num, rfl, by omega, HO.out, HB.out, HC.out, HM2.out⟩
        case measure => simp [intOf]; omega
    · obtain rfl : k = s.size := by omega
      have HC2 : Hid ((ps ++ [s.extract n s.size]).map (·.data.toList) = cutL c s.data.toList) := by
        show _ = _
        have e0 : s.data.toList.take s.size = s.data.toList := by rw [← size_list]; exact List.take_length
        have hm := HM.out
        rw [e0] at hm
        rw [← HC.out, cutL_whole hm, List.map_append, List.map_cons, List.map_nil, Lib.extract_to_end]
      go_wp2_with (at_builtin; refine wpList_append_text (B := w.heap.size) (W := w) rfl (.tmp 28) (.tmp 32) rfl (s.extract n s.size) rfl rfl HO.out HB.out HB.out.size (by omega) ?_; intro v' w' ho' hb')
      go_ret
      exact ⟨v', _, HC2.out, rfl, ho', hb'⟩
end Go.Proofs.YtpalnlbdfmiadaaGreatDoor

namespace Go.Proofs.YtpalnlbdfmiadaaGreatDoor
open Go.RowKit Go.Shelf Go.Lib
set_option linter.unusedVariables false

theorem rtext_port (n : Nat) (w : World) (hn : n ≤ 65535) :
    Calls Tryz.prog 17 #[.agg #[.int .u64 0, .int .u64 (n : Nat)]] w fun e w' => e = .returned (.string ⟨(decDigits n).toArray⟩) ∧ Below w.heap.size w w' := by
  obtain ⟨K, hK, hK39⟩ := has_digits n (by unfold w128; omega)
  have h := rtext_any 0 n n K w (show n = wnum 0 n by unfold wnum; omega) (by decide) (by omega) hK hK39
  refine (show Calls Tryz.prog 17 #[.agg #[.int .u64 ((0 : Nat) : Int), .int .u64 (n : Nat)]] w _ from h).mono ?_
  rintro e w' ⟨rfl, hb⟩
  refine ⟨?_, hb⟩
  unfold str
  rw [dtail_digits K n hK]
theorem port_u64 {n : Nat} (h : n ≤ 65535) : IntKind.u64.wrap (n : Int) = (n : Int) := by rw [IntKind.wrap_u64]; omega
set_option maxRecDepth 10000 in
set_option maxHeartbeats 1600000 in
theorem rsprint_any (x1 x2 : Int) (w : World) : Calls Tryz.prog 7 #[.agg #[.int .i64 x1, .int .i64 x2]] w fun e w' => e = .returned (.string ⟨(sprint (x1, x2)).toArray⟩) ∧ Below w.heap.size w w' := by
  have CK := Lib.hid (fun w => rscheck_any x1 x2 w)
  have S0 := Lib.hid (SB.new w x1 x2)
  have B0 : Hid (Below w.heap.size w (w.alloc (.cells #[.int .i64 x1, .int .i64 x2] 23))) := (Below.refl _ _).alloc (Nat.le_refl _) _
  by_cases hc : chkS (x1, x2) = 0
  · have hok := chkS_ok.1 hc
    have hx : (0 ≤ x1 ∧ x1 ≤ x2) ∧ x2 ≤ 65535 := by unfold OkS at hok; dsimp only at hok; omega
    obtain ⟨⟨h0, h1⟩, h2⟩ := hx
    rw [hc] at CK
    have HE := Lib.hid (show sprint (x1, x2) = if (x1, x2) = (0, 65535) then [42] else if x1 = x2 then Lib.decDigits x1.toNat else Lib.decDigits x1.toNat ++ 45 :: Lib.decDigits x2.toNat by unfold sprint; rw [if_neg (by simp [hc])])
    obtain ⟨n1, rfl⟩ := Int.eq_ofNat_of_zero_le h0
    obtain ⟨n2, rfl⟩ := Int.eq_ofNat_of_zero_le (show 0 ≤ x2 by omega)
    have hn1 : n1 ≤ 65535 := by omega
    have hn2 : n2 ≤ 65535 := by omega
    have I1 := Lib.hid (fun w => rtext_port n1 w hn1)
    have I2 := Lib.hid (fun w => rtext_port n2 w hn2)
    have u1 := port_u64 hn1
    have u2 := port_u64 hn2
    have HN : Hid (n1 ≤ n2 ∧ n2 ≤ 65535) := ⟨by omega, hn2⟩
    simp only [Int.toNat_natCast] at HE
    clear hok hc h0 h1 h2 hn1 hn2
    go_enter Tryz.func7, Tryz.ntmps7
    go_wp2_with fail
    have s0 := S0.out.c0; have s1 := S0.out.c1
    go_wp2_with fail
    refine (CK.out _).mono ?_
    rintro e w1 ⟨rfl, hb⟩
    have S := Lib.hid (S0.out.next hb)
    have B := Lib.hid (below_both B0.out hb)
    clear hb s0 s1 B0 S0 CK
    have s0 := S.out.c0; have s1 := S.out.c1
    by_cases hall : n1 = 0 ∧ n2 = 65535
    · obtain ⟨rfl, rfl⟩ := hall
      go_wp2_with fail
      go_ret
      exact ⟨by rw [HE.out]; rfl, B.out⟩
    · have hfork : n1 ≠ 0 ∨ (n1 = 0 ∧ n2 ≠ 65535) := by omega
      have hq : ¬ (((n1 : Nat) : Int), ((n2 : Nat) : Int)) = ((0 : Int), (65535 : Int)) := by simp; omega
      have HQ := Lib.hid hq
      have heqb : ((n1 : Int) == 0 && (n2 : Int) == 65535) = false := by
        rw [Bool.and_eq_false_iff]
        rcases hfork with h | ⟨_, h⟩
        · left; rw [beq_eq_false_iff_ne]; omega
        · right; rw [beq_eq_false_iff_ne]; omega
      have hz1 := dec_port (n := (n1 : Int)) (by have := HN.out; omega)
      have hz2 := dec_port (n := (n2 : Int)) (by have := HN.out; omega)
      simp only [Int.toNat_natCast] at hz1 hz2
      have H1 : Hid ((⟨(Lib.decDigits n1).toArray⟩ : ByteArray) = ⟨(Lib.decDigits n1).toArray⟩) := rfl
      obtain ⟨t1, ht1⟩ : ∃ t : ByteArray, t = ⟨(Lib.decDigits n1).toArray⟩ := ⟨_, rfl⟩
      obtain ⟨t2, ht2⟩ : ∃ t : ByteArray, t = ⟨(Lib.decDigits n2).toArray⟩ := ⟨_, rfl⟩
      rw [← ht1] at I1 hz1
      rw [← ht2] at I2 hz2
      have z1 : t1.size + (⟨#[45]⟩ : ByteArray).size ≤ 9223372036854775807 := by show t1.size + 1 ≤ _; omega
      have z2 : (t1 ++ ⟨#[45]⟩ : ByteArray).size + t2.size ≤ 9223372036854775807 := by rw [ByteArray.size_append]; show t1.size + 1 + t2.size ≤ _; omega
      have z3 : t1.size + 1 ≤ 9223372036854775807 := by omega
      have z4 : t1.size + 1 + t2.size ≤ 9223372036854775807 := by omega
      have z5 : ¬ (9223372036854775807 < t1.size + 1) := by omega
      have z6 : ¬ (9223372036854775807 < t1.size + 1 + t2.size) := by omega
      by_cases hee : n1 = n2
      · have HE2 : Hid ((⟨(sprint ((n1 : Int), (n2 : Int))).toArray⟩ : ByteArray) = t1) := by show _ = _; rw [HE.out, if_neg HQ.out, if_pos (by rw [hee]), ht1]
        have hei : ((n1 : Int) == (n2 : Int)) = true := by rw [hee]; simp
        clear HE hq ht1 ht2 hz1 hz2 H1 hee z1 z2 z3 z4 z5 z6
        rcases hfork with hf | ⟨rfl, hf⟩
        all_goals
          go_wp2_with fail
          refine (I1.out _).mono ?_
          rintro e w3 ⟨rfl, hb⟩
          have S3 := Lib.hid (S.out.next hb)
          have B3 := Lib.hid (below_both B.out hb)
          clear hb s0 s1
          have s0 := S3.out.c0; have s1 := S3.out.c1
          go_wp2_with fail
          go_ret
          exact ⟨by rw [HE2.out]; rfl, B3.out⟩
      · have HE2 : Hid ((⟨(sprint ((n1 : Int), (n2 : Int))).toArray⟩ : ByteArray) = t1 ++ ⟨#[45]⟩ ++ t2) := by show _ = _; rw [HE.out, if_neg HQ.out, if_neg (by omega), cat3, ht1, ht2]
        have hei : ((n1 : Int) == (n2 : Int)) = false := by rw [beq_eq_false_iff_ne]; omega
        clear HE hq ht1 ht2 hz1 hz2 H1
        rcases hfork with hf | ⟨rfl, hf⟩
        all_goals
          go_wp2_with fail
          refine (I1.out _).mono ?_
          rintro e w3 ⟨rfl, hb⟩
          have S3 := Lib.hid (S.out.next hb)
          have B3 := Lib.hid (below_both B.out hb)
          clear hb s0 s1
          have s0 := S3.out.c0; have s1 := S3.out.c1
          go_wp2_with fail
          refine (I2.out _).mono ?_
          rintro e w4 ⟨rfl, hb⟩
          have B4 := Lib.hid (below_both B3.out hb)
          clear hb s0 s1
          go_wp2_with fail
          go_ret
          exact ⟨by rw [HE2.out]; rfl, B4.out⟩
  · have HE := Lib.hid (show sprint (x1, x2) = [] by unfold sprint; rw [if_pos hc])
    have hcb : (chkS (x1, x2) == 0) = false := by rw [beq_eq_false_iff_ne]; exact hc
    generalize chkS (x1, x2) = c at *
    go_enter Tryz.func7, Tryz.ntmps7
    go_wp2_with fail
    have s0 := S0.out.c0; have s1 := S0.out.c1
    go_wp2_with fail
    refine (CK.out _).mono ?_
    rintro e w1 ⟨rfl, hb⟩
    have B := Lib.hid (below_both B0.out hb)
    clear hb
    go_wp2_with fail
    go_ret
    exact ⟨by rw [HE.out]; rfl, B.out⟩
end Go.Proofs.YtpalnlbdfmiadaaGreatDoor

namespace Go.Proofs.YtpalnlbdfmiadaaGreatDoor
open Go.RowKit Go.Shelf Go.Lib
set_option linter.unusedVariables false

theorem quietAt_atS {C : World → Prop} {o : Oper} {a : Act} {W : World} {t : TypeId} {x : Operand} {p : Addr} {v : Value} (ho : o.op = .load t x) (hx : a.eval x = .pointer (some p)) (ht : OneTy t) (hc : W.cell? p = some v) :
    Oper.quietAt Tryz.prog o a C W v := by
  have hload : (Instr.loadAt t (.pointer (some p))).run Tryz.prog W = .ok v W := by
    simp [Instr.loadAt, Instr.sureAddr, loadVar, go_sem, ht W, hc]
  unfold Oper.quietAt execOp
  simp only [ho, hx, Sem.run_bind, Sem.run_pure, hload, Result.andThen_ok]
  exact ⟨rfl, rfl⟩
theorem one_text : OneTy 9 := fun w => by simp [isAgg, run_underlying Tryz.underlying9, go_sem]
theorem tyspan2 : RowTy 23 2 := ⟨⟨_, Tryz.underlying23, rfl⟩, by kernel_rfl⟩
theorem allocspan (W : World) : (Instr.alloc 23 true (.tuple #[])).run Tryz.prog W = .ok (.pointer (some ⟨W.heap.size, 0, none⟩)) (W.alloc (.cells [Value.int .i64 0, Value.int .i64 0].toArray 23)) := by
  simp [go_sem]
def numI (m : Nat) (s : ByteArray) : Int := if numOkM m s.data.toList then (numv s.data.toList : Nat) else -1
theorem numI_no {m : Nat} {s : ByteArray} (h : numOkM m s.data.toList = false) : numI m s = -1 := by unfold numI; rw [h]; rfl
theorem numI_yes {m : Nat} {s : ByteArray} (h : numOkM m s.data.toList = true) : numI m s = (numv s.data.toList : Nat) := by unfold numI; rw [if_pos h]
theorem numI_neg {m : Nat} {s : ByteArray} : numI m s < 0 ↔ numOkM m s.data.toList = false := by
  constructor
  · intro h
    cases e : numOkM m s.data.toList
    · rfl
    · rw [numI_yes e] at h; omega
  · intro h
    rw [numI_no h]
    decide
theorem last_wrap {n j : Nat} (h : n = j + 1) (hn : n ≤ 1099511627777) : IntKind.i64.wrap ((n : Int) - 1) = (j : Int) ∧ IntKind.i64.wrap (j : Int) = (j : Int) ∧ (j : Int) < (n : Int) ∧ (0 : Int) < (n : Int) ∧ wrap64 ((n : Int) - 1) = (j : Int) := by
  refine ⟨?_, ?_, by omega, by omega, ?_⟩
  · rw [IntKind.wrap_i64]; omega
  · rw [IntKind.wrap_i64]; omega
  · unfold wrap64; omega
theorem head_last {l : List (List UInt8)} {ps : List ByteArray} {j : Nat} (h : ps.map (·.data.toList) = l) (hj : ps.length = j + 1) :
    ∃ a b, ps[0]? = some a ∧ ps[j]? = some b ∧ l.headD [] = a.data.toList ∧ l.getLastD [] = b.data.toList ∧ l.length = j + 1 := by
  subst h
  have h0 : 0 < ps.length := by omega
  have h1 : j < ps.length := by omega
  refine ⟨ps[0], ps[j], List.getElem?_eq_getElem h0, List.getElem?_eq_getElem h1, ?_, ?_, by rw [List.length_map, hj]⟩
  · cases ps with
    | nil => simp at h0
    | cons x r => rfl
  · rw [List.getLastD_eq_getLast?, List.getLast?_eq_getElem?, List.length_map, hj, Nat.add_sub_cancel, List.getElem?_map, List.getElem?_eq_getElem h1]
    rfl
theorem rsp_form {ps : List (List UInt8)} {a b : ByteArray} {n : Nat} (hn : ps.length = n) (ha : ps.headD [] = a.data.toList) (hb : ps.getLastD [] = b.data.toList) (h : 2 < n ∨ numI 5 a < 0 ∨ numI 5 b < 0) : rsp ps = ((0, 0), 3) := by
  unfold rsp
  rw [ha, hb, hn, if_pos]
  rcases h with h | h | h
  · exact .inl h
  · exact .inr (.inl (numI_neg.1 h))
  · exact .inr (.inr (numI_neg.1 h))
theorem rsp_two' {ps : List (List UInt8)} {a b : ByteArray} {n : Nat} (hn : ps.length = n) (ha : ps.headD [] = a.data.toList) (hb : ps.getLastD [] = b.data.toList) (h : ¬ (2 < n ∨ numI 5 a < 0 ∨ numI 5 b < 0)) : rsp ps = if chkS (numI 5 a, numI 5 b) = 0 then ((numI 5 a, numI 5 b), 0) else ((0, 0), chkS (numI 5 a, numI 5 b)) := by
  have h2 : ¬ 2 < n := fun e => h (.inl e)
  have ea : numOkM 5 a.data.toList = true := by
    cases e : numOkM 5 a.data.toList
    · exact absurd (.inr (.inl (numI_neg.2 e))) h
    · rfl
  have eb : numOkM 5 b.data.toList = true := by
    cases e : numOkM 5 b.data.toList
    · exact absurd (.inr (.inr (numI_neg.2 e))) h
    · rfl
  unfold rsp
  rw [ha, hb, hn, numI_yes ea, numI_yes eb, if_neg]
  rintro (h3 | h3 | h3)
  · exact h2 h3
  · rw [ea] at h3; cases h3
  · rw [eb] at h3; cases h3
theorem form_cases {n : Nat} {lo hi : Int} (h : 2 < n ∨ lo < 0 ∨ hi < 0) : (2 : Int) < (n : Int) ∨ (¬ (2 : Int) < (n : Int) ∧ lo < 0) ∨ (¬ (2 : Int) < (n : Int) ∧ ¬ lo < 0 ∧ hi < 0) := by omega
theorem form_not {n : Nat} {lo hi : Int} (h : ¬ (2 < n ∨ lo < 0 ∨ hi < 0)) : ¬ (2 : Int) < (n : Int) ∧ ¬ lo < 0 ∧ ¬ hi < 0 := by omega
def RParseIs (w : World) (r : Sp × Int) (e : Ending) (w' : World) : Prop := e = .returned (.tuple #[.agg #[.int .i64 r.1.1, .int .i64 r.1.2], .int .i64 r.2]) ∧ Below w.heap.size w w'
set_option maxRecDepth 10000 in
set_option maxHeartbeats 3200000 in
theorem rsparse_star (w : World) : Calls Tryz.prog 5 #[.string ⟨#[42]⟩] w (RParseIs w ((0, 65535), 0)) := by
  have S := Lib.hid (SB.new w 0 65535)
  have B : Hid (Below w.heap.size w (w.alloc (.cells #[.int .i64 0, .int .i64 65535] 23))) := (Below.refl _ _).alloc (Nat.le_refl _) _
  go_enter Tryz.func5, Tryz.ntmps5
  have hr0 := S.out.c0; have hr1 := S.out.c1
  go_wp2_with fail
  exact bodyPost_ret (v := .tuple #[.agg #[.int .i64 0, .int .i64 65535], .int .i64 0]) (by simp [results, Tryz.results5, go_sem, hr0, hr1]) rfl ⟨rfl, B.out⟩
set_option maxRecDepth 10000 in
set_option maxHeartbeats 6400000 in
theorem rsparse_else (s : ByteArray) (w : World) (hs : s.size ≤ 1099511627776) (he : (s.toList == [42]) = false) :
    Calls Tryz.prog 5 #[.string s] w (RParseIs w (rsp (cutL 45 s.data.toList))) := by
  have CU : Hid (∀ w, Calls Tryz.prog 13 #[.string s, .int .u8 45] w (CutIs w 45 s)) := fun w => rcut_any s 45 w hs
  have CK := Lib.hid (fun x y w => rscheck_any x y w)
  have S := Lib.hid (SB.new w 0 0)
  have B : Hid (Below w.heap.size w (w.alloc (.cells #[.int .i64 0, .int .i64 0] 23))) := (Below.refl _ _).alloc (Nat.le_refl _) _
  have HCL : Hid ((cutL 45 s.data.toList).length ≤ 1099511627777) := by
    show _ ≤ _
    have h1 := cut_many 45 s.data.toList
    rw [size_list] at h1
    omega
  clear hs
  go_enter Tryz.func5, Tryz.ntmps5
  go_wp2_with fail
  refine (CU.out _).mono ?_
  rintro e w1 ⟨v, ps, hps, rfl, hO, hb⟩
  have B1 := Lib.hid (below_both B.out hb)
  have S1 := Lib.hid (S.out.next hb)
  clear hb B S
  have h1 := cutL_one 45 s.data.toList
  have hpl : 0 < ps.length := by rw [← hps, List.length_map] at h1; omega
  obtain ⟨g, c, rfl, _, hcs⟩ := hO.out hpl
  obtain ⟨j, hj⟩ : ∃ j, ps.length = j + 1 := ⟨ps.length - 1, by omega⟩
  obtain ⟨a, b, ha, hb, hh, hl, hn⟩ := head_last hps hj
  have hnle := HCL.out
  rw [hn] at hnle
  have c0 := hcs 0 a ha
  have c1 := hcs j b hb
  rw [hj]
  obtain ⟨n, hnj⟩ : ∃ n, n = j + 1 := ⟨_, rfl⟩
  rw [← hnj] at hn hnle ⊢
  obtain ⟨u1, u2, u3, u4, u5⟩ := last_wrap hnj hnle
  have u6 : 0 < n := by rw [hnj]; exact Nat.succ_pos j
  have u7 : j < n := by rw [hnj]; exact Nat.lt_succ_self j
  obtain ⟨lo, hlo⟩ : ∃ x, x = numI 5 a := ⟨_, rfl⟩
  obtain ⟨hi, hhi⟩ : ∃ x, x = numI 5 b := ⟨_, rfl⟩
  have CN1 : Hid (∀ w, Calls Tryz.prog 14 #[.string a, .int .i64 5] w fun e w' => e = .returned (.int .i64 lo) ∧ w = w') := fun w => by
    rw [hlo]; exact rnumberM_any 5 a w (by decide)
  have CN2 : Hid (∀ w, Calls Tryz.prog 14 #[.string b, .int .i64 5] w fun e w' => e = .returned (.int .i64 hi) ∧ w = w') := fun w => by
    rw [hhi]; exact rnumberM_any 5 b w (by decide)
  have HF : Hid ((2 < n ∨ lo < 0 ∨ hi < 0) → rsp (cutL 45 s.data.toList) = ((0, 0), 3)) := fun h => rsp_form hn hh hl (by rw [← hlo, ← hhi]; exact h)
  have HG : Hid (¬ (2 < n ∨ lo < 0 ∨ hi < 0) → rsp (cutL 45 s.data.toList) = if chkS (lo, hi) = 0 then ((lo, hi), 0) else ((0, 0), chkS (lo, hi))) := fun h => by
    have := rsp_two' hn hh hl (by rw [← hlo, ← hhi]; exact h)
    rw [← hlo, ← hhi] at this
    exact this
  have C0 := Lib.hid c0
  have C1 := Lib.hid c1
  have HG1 : Hid (g < w1.heap.size) := cell_lt c0
  generalize rsp (cutL 45 s.data.toList) = r at *
  clear h1 hpl hO hcs ha hb hh hl hn hnle hps hj hlo hhi c0 c1 HCL CU hnj
  go_upto_region 4 with fail
  have K0 := Lib.hid (KV.nil w1)
  refine wp_region_par (w := w1) [.quiet (.slice (some ⟨g, 0, none⟩) n c), .quiet (.pointer (some ⟨g, 0, none⟩)), .quiet (.string a), .quiet (.int .i64 lo), .quiet (.slice (some ⟨g, 0, none⟩) n c), .quiet (.slice (some ⟨g, 0, none⟩) n c), .quiet (.int .i64 (n : Int)), .quiet (.int .i64 (j : Int)), .quiet (.pointer (some ⟨g, j, none⟩)), .quiet (.string b), .quiet (.int .i64 hi), .quiet (.agg #[.int .i64 lo, .int .i64 hi]), .alloc 23 [.int .i64 0, .int .i64 0] (some (13, [.int .i64 lo, .int .i64 hi])), .store 12] [] (by kernel_rfl) (by kernel_rfl) K0.out.drew (fun b9 => ?_) ?_
  · clear K0
    refine pWalk_quiet rfl (fun E W hw' => quietAt_run rfl) ?_
    simp only [Act.put, List.setIfInBounds_toArray, List.set_cons_zero, List.set_cons_succ]
    refine pWalk_quiet rfl (fun E W hw' => quietAt_run (by simp [go_sem, u6])) ?_
    simp only [Act.put, List.setIfInBounds_toArray, List.set_cons_zero, List.set_cons_succ]
    refine pWalk_quiet rfl (fun E W hw' => quietAt_atS rfl rfl one_text ((hw'.bel.cell (p := ⟨g, 0, none⟩) HG1.out).trans C0.out)) ?_
    simp only [Act.put, List.setIfInBounds_toArray, List.set_cons_zero, List.set_cons_succ]
    refine pWalk_quiet rfl (fun E W hw' => quietAt_call (f := 14) (args := #[.string a, .int .i64 5]) (by simp [go_sem]) ((CN1.out W).mono fun e w'' h => ⟨h.1, h.2 ▸ hw'⟩)) ?_
    simp only [Act.put, List.setIfInBounds_toArray, List.set_cons_zero, List.set_cons_succ]
    refine pWalk_quiet rfl (fun E W hw' => quietAt_run rfl) ?_
    simp only [Act.put, List.setIfInBounds_toArray, List.set_cons_zero, List.set_cons_succ]
    refine pWalk_quiet rfl (fun E W hw' => quietAt_run rfl) ?_
    simp only [Act.put, List.setIfInBounds_toArray, List.set_cons_zero, List.set_cons_succ]
    refine pWalk_quiet rfl (fun E W hw' => quietAt_run (by simp [go_sem])) ?_
    simp only [Act.put, List.setIfInBounds_toArray, List.set_cons_zero, List.set_cons_succ]
    refine pWalk_quiet rfl (fun E W hw' => quietAt_run (by simp [go_sem, u1])) ?_
    simp only [Act.put, List.setIfInBounds_toArray, List.set_cons_zero, List.set_cons_succ]
    refine pWalk_quiet rfl (fun E W hw' => quietAt_run (by simp [go_sem, u3])) ?_
    simp only [Act.put, List.setIfInBounds_toArray, List.set_cons_zero, List.set_cons_succ]
    refine pWalk_quiet rfl (fun E W hw' => quietAt_atS rfl rfl one_text ((hw'.bel.cell (p := ⟨g, j, none⟩) HG1.out).trans C1.out)) ?_
    simp only [Act.put, List.setIfInBounds_toArray, List.set_cons_zero, List.set_cons_succ]
    refine pWalk_quiet rfl (fun E W hw' => quietAt_call (f := 14) (args := #[.string b, .int .i64 5]) (by simp [go_sem]) ((CN2.out W).mono fun e w'' h => ⟨h.1, h.2 ▸ hw'⟩)) ?_
    simp only [Act.put, List.setIfInBounds_toArray, List.set_cons_zero, List.set_cons_succ]
    refine pWalk_quiet rfl (fun E W hw' => quietAt_run (by simp [go_sem])) ?_
    simp only [Act.put, List.setIfInBounds_toArray, List.set_cons_zero, List.set_cons_succ]
    refine pWalk_var rfl rfl allocspan ?_
    simp only [Act.put, List.setIfInBounds_toArray, List.set_cons_zero, List.set_cons_succ]
    refine pWalk_put rfl rfl rfl rfl rfl tyspan2 rfl rfl (by simp [Value.oneCell']) ?_
    trivial
  · intro b' κ E w3 hK hB
    obtain ⟨l2, g2⟩ := hB.at_ 12 _ _ _ rfl rfl
    simp only [List.length_nil] at l2
    obtain ⟨g9, e9⟩ : ∃ x, x = b' 12 := ⟨_, rfl⟩
    have K4 : Hid (KV w1 [(23, g9, [.int .i64 lo, .int .i64 hi])] w3) := by
      rw [e9]
      refine hK.pick [κ 12] (by simp) rfl ?_
      intro q hq
      simp at hq
      subst hq
      exact g2
    clear l2 g2 hK hB K0
    simp only [List.length_cons, List.length_nil, lexAct, pval, List.getElem?_cons_zero, List.getElem?_cons_succ, Option.bind_some, Act.put, List.setIfInBounds_toArray, List.set_cons_zero, List.set_cons_succ]
    rw [← e9]
    clear e9 CN1 CN2 C0 C1 HG1
    have d0 := (K4.out.at 0 rfl).get 0
    have d1 := (K4.out.at 0 rfl).get 1
    simp at d0 d1
    have S3 := Lib.hid (S1.out.next K4.out.bel)
    have B3 := Lib.hid (below_both B1.out K4.out.bel)
    clear S1 B1
    have hc0 := S3.out.c0; have hc1 := S3.out.c1; have hf0 := S3.out.f 0; have hf1 := S3.out.f 1
    by_cases hform : 2 < n ∨ lo < 0 ∨ hi < 0
    · have HR := Lib.hid (HF.out hform)
      have hr0 := (S3.out.two 0 0).c0
      have hr1 := (S3.out.two 0 0).c1
      have B9 := Lib.hid ((B3.out.setCell (p := ⟨w.heap.size, 0, none⟩) (Nat.le_refl _) (.int .i64 0)).setCell (p := ⟨w.heap.size, 1, none⟩) (Nat.le_refl _) (.int .i64 0))
      have h3 := form_cases hform
      clear HF HG hform u1 u2 u3 u4 u5 u6 u7
      rcases h3 with h | ⟨h, h2⟩ | ⟨h, h2, h3⟩
      all_goals
        go_wp2_with fail
        exact bodyPost_ret (v := .tuple #[.agg #[.int .i64 0, .int .i64 0], .int .i64 3]) (by simp [results, Tryz.results5, go_sem, hr0, hr1]) rfl ⟨by rw [HR.out], B9.out⟩
    · have HR := Lib.hid (HG.out hform)
      obtain ⟨e1, e2, e3⟩ := form_not hform
      clear HF HG hform u1 u2 u3 u4 u5 u6 u7
      go_wp2_with fail
      refine (CK.out lo hi _).mono ?_
      rintro e w4 ⟨rfl, hb4⟩
      have K5 := Lib.hid (K4.out.below hb4)
      have S4 := Lib.hid (S3.out.next hb4)
      have B4 := Lib.hid (below_both B3.out hb4)
      clear hb4 d0 d1 hc0 hc1 hf0 hf1 S3 B3 K4
      have d0 := (K5.out.at 0 rfl).get 0
      have d1 := (K5.out.at 0 rfl).get 1
      simp at d0 d1
      have hc0 := S4.out.c0; have hc1 := S4.out.c1; have hf0 := S4.out.f 0; have hf1 := S4.out.f 1
      by_cases hz : chkS (lo, hi) = 0
      · have HR2 : Hid (r = ((lo, hi), 0)) := by show _ = _; rw [HR.out, if_pos hz]
        have hr0 := (S4.out.two lo hi).c0
        have hr1 := (S4.out.two lo hi).c1
        have B9 := Lib.hid ((B4.out.setCell (p := ⟨w.heap.size, 0, none⟩) (Nat.le_refl _) (.int .i64 lo)).setCell (p := ⟨w.heap.size, 1, none⟩) (Nat.le_refl _) (.int .i64 hi))
        rw [hz]
        clear HR hz
        go_wp2_with fail
        exact bodyPost_ret (v := .tuple #[.agg #[.int .i64 lo, .int .i64 hi], .int .i64 0]) (by simp [results, Tryz.results5, go_sem, hr0, hr1]) rfl ⟨by rw [HR2.out], B9.out⟩
      · have HR2 : Hid (r = ((0, 0), chkS (lo, hi))) := by show _ = _; rw [HR.out, if_neg hz]
        have hzb : (chkS (lo, hi) == 0) = false := by rw [beq_eq_false_iff_ne]; exact hz
        have hr0 := (S4.out.two 0 0).c0
        have hr1 := (S4.out.two 0 0).c1
        have B9 := Lib.hid ((B4.out.setCell (p := ⟨w.heap.size, 0, none⟩) (Nat.le_refl _) (.int .i64 0)).setCell (p := ⟨w.heap.size, 1, none⟩) (Nat.le_refl _) (.int .i64 0))
        generalize chkS (lo, hi) = k at *
        clear HR
        go_wp2_with fail
        exact bodyPost_ret (v := .tuple #[.agg #[.int .i64 0, .int .i64 0], .int .i64 k]) (by simp [results, Tryz.results5, go_sem, hr0, hr1]) rfl ⟨by rw [HR2.out], B9.out⟩
theorem rsparse_any (s : ByteArray) (w : World) (hs : s.size ≤ 1099511627776) : Calls Tryz.prog 5 #[.string s] w fun e w' => e = .returned (.tuple #[.agg #[.int .i64 (sparse s.data.toList).1.1, .int .i64 (sparse s.data.toList).1.2], .int .i64 (sparse s.data.toList).2]) ∧ Below w.heap.size w w' := by
  by_cases he : s.data.toList = [42]
  · have e : s = ⟨#[42]⟩ := ByteArray.ext (Array.ext' he)
    subst e
    exact rsparse_star w
  · have h1 : (s.toList == [42]) = false := by rw [toList_data, beq_eq_false_iff_ne]; exact he
    rw [sparse_rsp he]
    exact rsparse_else s w hs h1
end Go.Proofs.YtpalnlbdfmiadaaGreatDoor
