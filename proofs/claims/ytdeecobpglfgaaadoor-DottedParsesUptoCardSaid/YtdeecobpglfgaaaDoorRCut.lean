/-
  Contracts of the document's Cut, Number and Parse of layer 5, for texts of at most 2^40 bytes.
-/
import Derived.Test.YtdeecobpglfgaaaDoorWDSorts
namespace Go.Proofs.YtdeecobpglfgaaaDoor
open Go.RowKit
set_option linter.unusedVariables false

/-- A slice of texts that the call itself appends to. -/
def OutS (B : Nat) (w : World) (v : Value) (ps : List ByteArray) : Prop := w.ownsRow B 9 1 v ps.length (ps.map Value.string)
theorem OutS.nil (B : Nat) (w : World) : OutS B w (.slice none 0 0) [] := World.ownsRow_nil _ _ _ _
theorem OutS.alloc {B : Nat} {w : World} {v : Value} {ps : List ByteArray} (h : OutS B w v ps) (o : Obj) : OutS B (w.alloc o) v ps := World.ownsRow.alloc h o
/-- Where it is not empty: its block and its texts. -/
theorem OutS.out {B : Nat} {w : World} {v : Value} {ps : List ByteArray} (h : OutS B w v ps) (h0 : 0 < ps.length) : ∃ g c, v = .slice (some ⟨g, 0, none⟩) ps.length c ∧ B ≤ g ∧ ∀ (j : Nat) x, ps[j]? = some x → w.cell? ⟨g, j, none⟩ = some (.string x) := by
  rcases h.2 with ⟨_, h2⟩ | ⟨g, cap, cur, hv, hB, hg, hn, hm, hs, ht⟩
  · omega
  · refine ⟨g, cap, hv, hB, fun j x hj => ?_⟩
    rw [cell_of_row w g j cur _ _ hg, ← Array.getElem?_toList]
    have hjl : j < ps.length := by
      rcases Nat.lt_or_ge j ps.length with hlt | hge
      · exact hlt
      · rw [List.getElem?_eq_none hge] at hj; cases hj
    have e1 : cur.toList[j]? = (ps.map Value.string)[j]? := by rw [← ht, List.getElem?_take, if_pos (by simpa using hjl)]
    rw [e1]
    simp [hj]
theorem str_parts : ∃ i0, Tryd.prog.info? 9 = some i0 ∧ i0.zero = some (.string ByteArray.empty) ∧ i0.size = 1 ∧ i0.bytes = 16 := by
  obtain ⟨i0, h1, h2, h3, h4⟩ := info_parts string_info
  exact ⟨i0, h1, h2, h3, h4⟩
/-- 'append(out, x)'. -/
theorem wpList_append_text {ops : Array Oper} {rest : List Oper} {o : Oper} {a : Act} {Q : Exit → Act → World → Prop} (hgd : o.guard = none) (s x : Operand)
    (ho : o.op = .call { callee := .builtin .append, args := #[s, x], argTypes := #[70, 70] })
    {B : Nat} {W wr : World} {v : Value} {ps : List ByteArray} (t : ByteArray) (hs : a.eval s = v) (hx : a.eval x = .slice (some ⟨wr.heap.size, 0, none⟩) 1 1)
    (hown : OutS B wr v ps) (hb : Below B W wr) (hB : B ≤ wr.heap.size) (hlen : (ps.length + 1) * 16 ≤ 140737488355328)
    (h : ∀ v' w', OutS B w' v' (ps ++ [t]) → Below B W w' → wpList Tryd.prog ops Q rest (a.put o.dst v') w') : wpList Tryd.prog ops Q (o :: rest) a (wr.alloc (.cells #[.string t] 9)) := by
  obtain ⟨i0, h1, h2, h3, h4⟩ := str_parts
  have hown' : (wr.alloc (.cells #[.string t] 9)).ownsRow B 9 1 v ps.length (ps.map Value.string) := World.ownsRow.alloc hown _
  refine wpList_append_own (P := Tryd.prog) (wr.alloc (.cells #[.string t] 9)) hgd s x 70 ho B 9 i0 (.string ByteArray.empty) 1 16 Tryd.underlying70 h1 h2 h3 h4 rfl (by decide) v ps.length (ps.map Value.string) hs hown'
    ⟨wr.heap.size, 0, none⟩ 1 1 [.string t] hx rfl (fun j u hj => by
      rw [add_flat, cell_of_row _ wr.heap.size (0 + j) _ _ _ (heap_alloc_new wr _), Nat.zero_add, ← Array.getElem?_toList]
      exact hj) (by simp [Value.oneCell']) (by unfold maxLen; omega) hlen (by simp; omega) ?_
  intro v' w' ho hg _
  refine h v' w' ?_ ((hb.alloc hB _).grown hg (by simp; omega) (fun k hk => (hown'.lt k hk).1))
  unfold OutS
  rw [List.length_append, List.length_singleton]
  simpa using ho

theorem not_mem_snoc {c : UInt8} {l : List UInt8} {x : UInt8} (h : c ∉ l) (hx : x ≠ c) : c ∉ l ++ [x] := by
  intro hm
  rcases List.mem_append.1 hm with hm | hm
  · exact h hm
  · rw [List.mem_singleton] at hm; exact hx hm.symm
theorem split_at {l : List UInt8} {k : Nat} {x : UInt8} (h : l.take (k + 1) = l.take k ++ [x]) : l = l.take k ++ x :: l.drop (k + 1) := by
  have e := List.take_append_drop (k + 1) l
  rw [h, List.append_assoc, List.singleton_append] at e
  exact e.symm
/-- What Cut answers. -/
def CutIs (w : World) (c : UInt8) (s : ByteArray) (e : Ending) (w' : World) : Prop := ∃ (v : Value) (ps : List ByteArray), ps.map (·.data.toList) = cutL c s.data.toList ∧ e = .returned v ∧ OutS w.heap.size w' v ps ∧ Below w.heap.size w w'

set_option maxRecDepth 10000 in
set_option maxHeartbeats 1600000 in
theorem rcut_any (s : ByteArray) (c : UInt8) (w : World) (hs : s.size ≤ 1099511627776) :
    Calls Tryd.prog 62 #[.string s, .int .u8 (c.toNat : Nat)] w (CutIs w c s) := by
  go_enter Tryd.func62, Tryd.ntmps62
  go_wp2_with fail
  go_loopw [5, 6, 7] (fun v f i wr => ∃ (k n : Nat) (ps : List ByteArray), k ≤ s.size ∧ n ≤ k ∧ i = .int .i64 k ∧ f = .int .i64 n ∧ ps.length ≤ k ∧ OutS w.heap.size wr v ps ∧ Below w.heap.size w wr ∧
    Hid (ps.map (·.data.toList) ++ cutL c (s.data.toList.drop n) = cutL c s.data.toList) ∧ Hid (c ∉ (s.data.toList.take k).drop n)) (fun _ _ i _ => s.size - (intOf i).toNat)
  case atStart => exact ⟨0, 0, [], Nat.zero_le _, Nat.le_refl _, rfl, rfl, Nat.le_refl _, OutS.nil _ _, Below.refl _ _, rfl, by show c ∉ (s.data.toList.take 0).drop 0; simp⟩
  case round =>
    obtain ⟨k, n, ps, hk, hn, rfl, rfl, hps, hO, hB, HC, HM⟩ := hrel
    have HO := Lib.hid hO
    have HB := Lib.hid hB
    clear hO hB
    by_cases hlt : k < s.size
    · have T := Lib.hid (take_byte s k hlt)
      have hlen := size_list s
      by_cases hx : s[k] = c
      · have q : ((s[k].toNat : Int) == (c.toNat : Int)) = true := by rw [hx]; simp
        have HC2 : Hid ((ps ++ [s.extract n k]).map (·.data.toList) ++ cutL c (s.data.toList.drop (k + 1)) = cutL c s.data.toList) := by
          show _ = _
          have e1 : s.data.toList.drop n = (s.data.toList.take k).drop n ++ c :: s.data.toList.drop (k + 1) := by
            have e2 := congrArg (List.drop n) (split_at T.out)
            rw [hx, List.drop_append_of_le_length (by rw [List.length_take]; omega)] at e2
            exact e2
          have e4 : (s.extract n k).data.toList = (s.data.toList.take k).drop n := by
            rw [Lib.extract_data, List.drop_take]
          rw [← HC.out, e1, cutL_part _ HM.out, List.map_append, List.map_cons, List.map_nil, e4]
          simp
        have HM2 : Hid (c ∉ (s.data.toList.take (k + 1)).drop (k + 1)) := by
          show c ∉ _
          rw [List.drop_eq_nil_of_le (by rw [List.length_take]; omega)]
          simp
        clear hx hlen
        go_wp2_with (at_builtin; refine wpList_append_text (B := w.heap.size) (W := w) rfl (.tmp 19) (.tmp 24) rfl (s.extract n k) rfl rfl HO.out HB.out HB.out.size (by omega) ?_; intro v' w' ho' hb')
        go_roundw
        case rel => exact ⟨k + 1, k + 1, ps ++ [s.extract n k], by omega, Nat.le_refl _, by go_num, by go_num, by simp; omega, ho', hb', HC2.out, HM2.out⟩
        case measure => simp [intOf]; omega
      · have hx2 : s[k].toNat ≠ c.toNat := fun e => hx (UInt8.toNat_inj.1 e)
        have q : ((s[k].toNat : Int) == (c.toNat : Int)) = false := by rw [beq_eq_false_iff_ne]; omega
        have HM2 : Hid (c ∉ (s.data.toList.take (k + 1)).drop n) := by
          show c ∉ _
          rw [T.out, List.drop_append_of_le_length (by rw [List.length_take]; omega)]
          exact not_mem_snoc HM.out hx
        clear hx hx2 hlen
        go_wp2_with fail
        go_roundw
        case rel => exact ⟨k + 1, n, ps, by omega, by omega, by go_num, rfl, by omega, HO.out, HB.out, HC.out, HM2.out⟩
        case measure => simp [intOf]; omega
    · obtain rfl : k = s.size := by omega
      have HC2 : Hid ((ps ++ [s.extract n s.size]).map (·.data.toList) = cutL c s.data.toList) := by
        show _ = _
        have e0 : s.data.toList.take s.size = s.data.toList := by rw [← size_list]; exact List.take_length
        have hm := HM.out
        rw [e0] at hm
        rw [← HC.out, cutL_whole hm, List.map_append, List.map_cons, List.map_nil, Lib.extract_to_end]
      go_wp2_with (at_builtin; refine wpList_append_text (B := w.heap.size) (W := w) rfl (.tmp 28) (.tmp 32) rfl (s.extract n s.size) rfl rfl HO.out HB.out HB.out.size (by omega) ?_; intro v' w' ho' hb')
      go_ret
      exact ⟨v', _, HC2.out, rfl, ho', hb'⟩
end Go.Proofs.YtdeecobpglfgaaaDoor
