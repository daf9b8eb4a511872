/-
  The contract of strings.SplitN at a sign of one byte and a number of parts from 2 to 64: for a text of whatever length.
-/
import Derived.Test.YtaicmadeobglfaaDoorBase
import Derived.Test.YtaicmadeobglfaaDoorDPlain
import Derived.Shelf.Lay
import Derived.Shelf.Strings.Search3
import Derived.Lib.Split
import Derived.Lib.Strings
import Derived.Laws.Strings3
import Derived.Deep.OwnRows
import Derived.Deep.LoopGhost
namespace Go.Proofs.YtaicmadeobglfaaDoor
open Go.RowKit Go.Shelf
set_option linter.unusedVariables false
shelf_lay Lays.n143 Nm 143 at Tryd as lays143

theorem byte_index (l : List UInt8) (c : UInt8) : Lib.indexByte l c = Lib.index l [c] := by
  induction l with
  | nil => rfl
  | cons x l ih =>
    by_cases h : x = c
    · subst h
      rw [index_here]
      simp [Lib.indexByte]
    · rw [index_next l h, ← ih]
      simp [Lib.indexByte, h]
theorem index_one (s : ByteArray) (c : UInt8) (w : World) :
    Calls Tryd.prog 68 #[.string s, .string ⟨#[c]⟩] w fun e w' => e = .returned (.int .i64 (Lib.index s.data.toList [c])) ∧ w = w' := by
  refine (show Calls Tryd.prog 68 #[.string s, .string ⟨#[c]⟩] w _ from Any.strings_Index_one lays143 s c w).mono ?_
  rintro e w' ⟨rfl, rfl⟩
  rw [byte_index]
  exact ⟨rfl, rfl⟩
/-- No such sign: whole. -/
theorem cutK_miss {c : UInt8} {l : List UInt8} (k : Nat) (h : Lib.index l [c] = -1) : cutK c l k = [l] := by
  rw [← splitK_cut]
  cases k <;> simp [Lib.splitK, h]
theorem cutK_hit {c : UInt8} {l : List UInt8} (k i : Nat) (h : Lib.index l [c] = i) : cutK c l (k + 1) = l.take i :: cutK c (l.drop (i + 1)) k := by
  rw [← splitK_cut, ← splitK_cut, Lib.splitK]
  have h2 : ¬ ((i : Int) = -1) := by omega
  simp [h, h2]
theorem index_where (l : List UInt8) (c : UInt8) : Lib.index l [c] = -1 ∨ ∃ i : Nat, Lib.index l [c] = i ∧ i < l.length := by
  induction l with
  | nil => exact .inl rfl
  | cons x l ih =>
    by_cases h : x = c
    · subst h
      exact .inr ⟨0, by rw [index_here]; rfl, by simp⟩
    · rw [index_next l h]
      rcases ih with e | ⟨i, e, hi⟩
      · exact .inl (by rw [if_pos e])
      · refine .inr ⟨i + 1, ?_, by simpa using hi⟩
        rw [e, if_neg (by omega)]
        rfl
theorem size_list (s : ByteArray) : s.data.toList.length = s.size := by rw [Array.length_toList]; rfl
theorem cut_most (c : UInt8) (l : List UInt8) : (cutL c l).length ≤ l.length + 1 := by
  induction l with
  | nil => simp [cutL]
  | cons x l ih =>
    unfold cutL
    split
    · simpa using ih
    · rw [onHead_length (cutL_pos _ _), List.length_cons]; omega
theorem cutK_min (c : UInt8) (l : List UInt8) (n : Nat) (hn : 1 ≤ n) : cutK c l (min n (l.length + 1) - 1) = cutK c l (n - 1) := by
  have h := cut_most c l
  by_cases h2 : n ≤ l.length + 1
  · rw [Nat.min_eq_left h2]
  · rw [Nat.min_eq_right (by omega), cutK_all c l _ (by omega), cutK_all c l _ (by omega)]

/-- A new block holds the texts, and nothing old has changed. -/
def TextsAt (w w' : World) (g : Nat) (ps : List ByteArray) : Prop := (∀ (j : Nat) x, ps[j]? = some x → w'.cell? ⟨g, j, none⟩ = some (.string x)) ∧ Below w.heap.size w w'
/-- What SplitN answers. -/
def SplitIs (w : World) (c : UInt8) (s : ByteArray) (n : Nat) (e : Ending) (w' : World) : Prop :=
  ∃ (ps : List ByteArray) (N : Nat), ps.map (·.data.toList) = cutK c s.data.toList (n - 1) ∧ ps.length ≤ N ∧ e = .returned (.slice (some ⟨w.heap.size, 0, none⟩) ps.length N) ∧ TextsAt w w' w.heap.size ps

theorem string_info : (Tryd.prog.info? 9).map (fun i => (i.zero, i.size, i.bytes)) = some (some (.string ByteArray.empty), 1, 16) := by kernel_rfl
theorem texts_new (w : World) (ps : List ByteArray) (N : Nat) : TextsAt w (w.alloc (.cells (Lib.cellsOf ps N) 9)) w.heap.size ps := by
  refine ⟨fun j x h => ?_, (Below.refl _ _).alloc (Nat.le_refl _) _⟩
  rw [cell_of_row _ w.heap.size j _ _ _ (heap_alloc_new w _)]
  have hj : j < ps.length := by
    rcases Nat.lt_or_ge j ps.length with hlt | hge
    · exact hlt
    · rw [List.getElem?_eq_none hge] at h; cases h
  unfold Lib.cellsOf
  rw [List.getElem?_toArray, List.getElem?_append_left (by simpa using hj), List.getElem?_map, h]
  rfl

set_option maxHeartbeats 4000000 in
set_option maxRecDepth 100000 in
theorem genSplit_one (s : ByteArray) (c : UInt8) (n : Nat) (w : World) (hs : s.size ≤ 140737488355328) (hn : 2 ≤ n) (hn2 : n ≤ 64) :
    Calls Tryd.prog 47 #[.string s, .string ⟨#[c]⟩, .int .i64 0, .int .i64 n] w (SplitIs w c s n) := by
  obtain ⟨N, hN⟩ : ∃ N : Nat, N = min n (s.size + 1) := ⟨_, rfl⟩
  have hmin : min (n : Int) ((s.size : Int) + 1) = (N : Int) := by omega
  have hNs : (N : Int) ≤ (s.size : Int) + 1 := by omega
  have hN1 : (1 : Int) ≤ (N : Int) := by omega
  have HN := Lib.hid hN
  clear hN
  have hsep : (⟨#[c]⟩ : ByteArray).toList.isEmpty = false := by
    rw [Lib.toList_data]
    rfl
  have hne : ((n : Int) == 0) = false := beq_eq_false_iff_ne.2 (by omega)
  have hsz1 : (⟨#[c]⟩ : ByteArray).size = 1 := rfl
  have hmk := run_make_row' (P := Tryd.prog) 68 9 (.string ByteArray.empty) 16 Tryd.underlying68 string_info rfl .i64 .i64 N (by omega) (by omega)
  go_enter Tryd.func47, Tryd.ntmps47
  go_wp2_with fail
  clear hmk
  go_loopg [0, 10] (N - 1) (fun g s0 s10 wr => ∃ (done : List ByteArray) (rest : ByteArray), s0 = .string rest ∧ s10 = .int .i64 done.length ∧ done.length ≤ N - 1 ∧ g = N - 1 - done.length ∧ rest.size ≤ s.size ∧
    wr = w.alloc (.cells (Lib.cellsOf done N) 9) ∧ Hid (done.map (·.data.toList) ++ cutK c rest.data.toList (N - 1 - done.length) = cutK c s.data.toList (N - 1)))
  case atStart => exact ⟨[], s, rfl, rfl, Nat.zero_le _, rfl, Nat.le_refl _, by rw [Lib.cellsOf_nil], rfl⟩
  case round =>
    obtain ⟨done, rest, rfl, rfl, hd, rfl, hrs, rfl, HS⟩ := hrel
    have hnext : (Lib.cellsOf done N)[done.length]? = some (.string ByteArray.empty) := Lib.cellsOf_next (by omega)
    -- however the loop is left: the rest is the last part
    have fin : Hid (cutK c rest.data.toList (N - 1 - done.length) = [rest.data.toList] → SplitIs w c s n (.returned (.slice (some ⟨w.heap.size, 0, none⟩) (done.length + 1) N)) (w.alloc (.cells ((Lib.cellsOf done N).setIfInBounds done.length (.string rest)) 9))) := by
      intro h
      refine ⟨done ++ [rest], N, ?_, by simp; omega, by simp, ?_⟩
      · have e := HS.out
        rw [h] at e
        have e2 := HN.out
        rw [List.map_append, List.map_cons, List.map_nil, e, e2, ← size_list s, cutK_min c _ n (by omega)]
      · rw [Lib.cellsOf_set (by omega)]
        exact texts_new w _ N
    by_cases hlt : done.length < N - 1
    · have hltz : ((done.length : Nat) : Int) < (N : Int) - 1 := by omega
      rcases index_where rest.data.toList c with hix | ⟨i, hix, hi⟩
      · have HX := Lib.hid (cutK_miss (N - 1 - done.length) hix)
        have CI : Hid (∀ w, Calls Tryd.prog 68 #[.string rest, .string ⟨#[c]⟩] w fun e w' => e = .returned (.int .i64 (-1)) ∧ w = w') := fun w => by rw [← hix]; exact index_one rest c w
        clear hix
        go_wp2_with fail
        refine (CI.out _).mono ?_
        rintro e w' ⟨rfl, rfl⟩
        go_wp2_with fail
        go_ret
        exact fin.out HX.out
      · rw [size_list] at hi
        have HX := Lib.hid (cutK_hit (N - 1 - (done.length + 1)) i hix)
        have CI : Hid (∀ w, Calls Tryd.prog 68 #[.string rest, .string ⟨#[c]⟩] w fun e w' => e = .returned (.int .i64 (i : Int)) ∧ w = w') := fun w => by rw [← hix]; exact index_one rest c w
        clear hix
        have c0 : ¬ ((i : Int) < 0) := by omega
        have c1 : (0 : Int) ≤ (i : Int) + 1 := by omega
        have c2 : (i : Int) + 1 ≤ (rest.size : Int) := by omega
        have c3 : (i : Int) ≤ (rest.size : Int) := by omega
        go_wp2_with fail
        refine (CI.out _).mono ?_
        rintro e w' ⟨rfl, rfl⟩
        go_wp2_with fail
        go_roundg (N - 1 - (done.length + 1))
        case measure => omega
        case rel =>
          refine ⟨done ++ [rest.extract 0 i], rest.extract (i + 1) rest.size, ?_, by simp, by simp; omega, by simp, by rw [ByteArray.size_extract]; omega, by rw [← Lib.cellsOf_set (by omega)], ?_⟩
          · rfl
          · have e := HX.out
            have e2 := HS.out
            show (done ++ [rest.extract 0 i]).map (·.data.toList) ++ cutK c (rest.extract (i + 1) rest.size).data.toList (N - 1 - (done ++ [rest.extract 0 i]).length) = _
            rw [Lib.extract_to_end, List.map_append, List.map_cons, List.map_nil, Lib.extract_from_zero, ← e2, show N - 1 - done.length = (N - 1 - (done.length + 1)) + 1 from by omega, e]
            simp
    · have hltz : ¬ (((done.length : Nat) : Int) < (N : Int) - 1) := by omega
      go_wp2_with fail
      go_ret
      exact fin.out (by rw [show N - 1 - done.length = 0 by omega]; cases rest.data.toList <;> rfl)

set_option maxRecDepth 100000 in
theorem splitN_one (s : ByteArray) (c : UInt8) (n : Nat) (w : World) (hs : s.size ≤ 140737488355328) (hn : 2 ≤ n) (hn2 : n ≤ 64) :
    Calls Tryd.prog 32 #[.string s, .string ⟨#[c]⟩, .int .i64 n] w (SplitIs w c s n) := by
  have C := Lib.hid (genSplit_one s c n w hs hn hn2)
  go_enter Tryd.func32, Tryd.ntmps32
  go_wp2_with fail
  refine C.out.mono ?_
  rintro e w' ⟨ps, N, h1, h2, rfl, h3⟩
  have H := Lib.hid (show SplitIs w c s n (.returned (.slice (some ⟨w.heap.size, 0, none⟩) ps.length N)) w' from ⟨ps, N, h1, h2, rfl, h3⟩)
  clear h1 h2 h3
  go_wp2_with fail
  go_ret
  exact H.out
end Go.Proofs.YtaicmadeobglfaaDoor
