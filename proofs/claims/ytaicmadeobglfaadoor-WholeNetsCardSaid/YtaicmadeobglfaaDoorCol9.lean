/-
  The contracts of strings.LastIndexByte and strings.Cut as colons calls them; of colons' spread.
-/
import Derived.Test.YtaicmadeobglfaaDoorCol5
import Derived.Test.YtaicmadeobglfaaDoorCol8
import Derived.Test.YtaicmadeobglfaaDoorDot2
import Derived.Shelf.Lay
import Derived.Shelf.Strings.LastIndex
import Derived.Shelf.Strings.Cut
namespace Go.Proofs.YtaicmadeobglfaaDoor
open Go.RowKit Go.Shelf
set_option linter.unusedVariables false
shelf_lay Lays.n149 Nm 149 at Tryd as lays149
shelf_lay Lays.n145 Nm 145 at Tryd as lays145

/-- The library's variable of that name holds a number. -/
def MaxL (w : World) : Prop := ∃ m, w.cell? ⟨0, 0, none⟩ = some (.int .i64 m)
theorem MaxL.below {w w' : World} (h : MaxL w) (hb : Below w.heap.size w w') : MaxL w' := by
  obtain ⟨m, hm⟩ := h
  exact ⟨m, (hb.cell (cell_lt hm)).trans hm⟩
theorem last_any (s : ByteArray) (w : World) (hs : s.size ≤ 140737488355328) :
    Calls Tryd.prog 48 #[.string s, .int .u8 58] w fun e w' => e = .returned (.int .i64 ((colAt s.data.toList : Nat) - 1 : Int)) ∧ w = w' := by
  refine (show Calls Tryd.prog 48 #[.string s, .int .u8 58] w _ from Any.strings_LastIndexByte lays149 s 58 (by omega) w).mono ?_
  rintro e w' ⟨rfl, rfl⟩
  have := colAt_last s
  exact ⟨by rw [show ((colAt s.data.toList : Nat) - 1 : Int) = Lib.lastIndexByte s 58 by omega], rfl⟩
theorem cut_any (s : ByteArray) (w : World) (hs : s.size < 4294967281) (hm : MaxL w) :
    Calls Tryd.prog 14 #[.string s, .string ⟨#[58, 58]⟩] w fun e w' => e = .returned (.tuple #[.string ⟨(Lib.cut s.data.toList [58, 58]).1.toArray⟩, .string ⟨(Lib.cut s.data.toList [58, 58]).2.1.toArray⟩, .bool (Lib.cut s.data.toList [58, 58]).2.2]) ∧ Below w.heap.size w w' := by
  obtain ⟨m, hm⟩ := hm
  refine (show Calls Tryd.prog 14 #[.string s, .string ⟨#[58, 58]⟩] w _ from Any.strings_Cut lays145 s ⟨#[58, 58]⟩ m w hs hm).mono ?_
  rintro e w' ⟨rfl, n, rfl⟩
  exact ⟨rfl, below_drewN' (Below.refl _ _) n⟩

theorem drop_list (s : ByteArray) (a : Nat) (h : a ≤ s.size) : (s.extract a s.size).data.toList = s.data.toList.drop a := by
  simp [ByteArray.data_extract]
  exact List.take_of_length_le (by rw [List.length_drop, size_list]; exact Nat.le_refl _)
theorem take_list (s : ByteArray) (a : Nat) : (s.extract 0 a).data.toList = s.data.toList.take a := by
  simp [ByteArray.data_extract]
theorem spread_glue (s : ByteArray) (a : Nat) (gs : List Nat) : s.extract 0 a ++ gstr gs = ⟨(s.data.toList.take a ++ gsjoin gs).toArray⟩ := by
  apply ByteArray.ext
  rw [ByteArray.data_append, ← Array.toList_inj]
  simp [gstr, ByteArray.data_extract]
theorem Bru.alloc {W : World} (h : Bru W) (o : Obj) : Bru (W.alloc o) := h.below ((Below.refl _ _).alloc (Nat.le_refl _) o)
/-- A number of an address as two groups. -/
theorem two_groups {a b c d : Nat} (ha : a ≤ 255) (hb : b ≤ 255) (hc : c ≤ 255) (hd : d ≤ 255) :
    IntKind.u16.wrap ((dnum a b c d : Int) / 65536) = ((a * 256 + b : Nat) : Int) ∧ IntKind.u16.wrap (dnum a b c d : Int) = ((c * 256 + d : Nat) : Int) := by
  unfold dnum
  constructor
  · show (((a * 16777216 + b * 65536 + c * 256 + d : Nat) : Int) / 65536) % 65536 = _; omega
  · show ((a * 16777216 + b * 65536 + c * 256 + d : Nat) : Int) % 65536 = _; omega
theorem one_less {A : Nat} {n : Nat} (h : A ≤ n) (hn : n ≤ 140737488355328) : wrap64 (A : Int) = (A : Int) := by
  unfold wrap64
  omega

set_option maxRecDepth 10000 in
set_option maxHeartbeats 3200000 in
theorem spread_any (s : ByteArray) (w : World) (hs : s.size ≤ 140737488355328) (hB : Bru w) :
    Calls Tryd.prog 33 #[.string s] w fun e w' => e = .returned (.string ⟨(spreadT s.data.toList).toArray⟩) ∧ Below w.heap.size w w' := by
  have C1 := Lib.hid (last_any s w hs)
  have hle := colAt_le s.data.toList
  rw [size_list] at hle
  have HSP : Hid (∀ A, A = colAt s.data.toList → spreadT s.data.toList = if (dparse (s.data.toList.drop A)).2 = 0 then s.data.toList.take A ++ gsjoin [(dparse (s.data.toList.drop A)).1.1 * 256 + (dparse (s.data.toList.drop A)).1.2.1, (dparse (s.data.toList.drop A)).1.2.2.1 * 256 + (dparse (s.data.toList.drop A)).1.2.2.2] else s.data.toList) := by
    rintro A rfl
    rfl
  obtain ⟨A, hA⟩ : ∃ A, A = colAt s.data.toList := ⟨_, rfl⟩
  have HSP := Lib.hid (HSP.out A hA)
  rw [← hA] at hle C1
  have HT := Lib.hid hB
  have q1 := one_less hle hs
  have hA0 : (0 : Int) ≤ (A : Int) := by omega
  have hAs : (A : Int) ≤ (s.size : Int) := by omega
  have C2 : Hid (∀ w, Calls Tryd.prog 23 #[.string (s.extract A s.size)] w fun e w' => e = .returned (dval (s.data.toList.drop A)) ∧ Below w.heap.size w w') := fun w => by
    have h := parse_any (s.extract A s.size) w (by rw [ByteArray.size_extract]; omega)
    refine h.mono ?_
    rintro e w' ⟨rfl, hb⟩
    rw [drop_list s A hle]
    exact ⟨rfl, hb⟩
  have HLE := Lib.hid hle
  have HS := Lib.hid hs
  have hd := dparse_le (s.data.toList.drop A)
  unfold dval at C2
  clear hA hle hs hB
  generalize (dparse (s.data.toList.drop A)).1.1 = a at *
  generalize (dparse (s.data.toList.drop A)).1.2.1 = b at *
  generalize (dparse (s.data.toList.drop A)).1.2.2.1 = c at *
  generalize (dparse (s.data.toList.drop A)).1.2.2.2 = d at *
  generalize (dparse (s.data.toList.drop A)).2 = E at *
  have HD := Lib.hid hd
  clear hd
  by_cases hE : E = 0
  · subst hE
    have HF : Hid (s.extract 0 A ++ gstr [a * 256 + b, c * 256 + d] = ⟨(spreadT s.data.toList).toArray⟩) := by
      show _ = _
      rw [HSP.out, if_pos rfl, spread_glue]
    go_enter Tryd.func33, Tryd.ntmps33
    go_wp2_with fail
    refine C1.out.mono ?_
    rintro e w1 ⟨rfl, rfl⟩
    go_wp2_with fail
    refine (C2.out _).mono ?_
    rintro e w1 ⟨rfl, b1⟩
    have B1 := Lib.hid b1
    have B1 := Lib.hid (B1.out.alloc B1.out.size (.cells #[.int .u8 a, .int .u8 b, .int .u8 c, .int .u8 d] 35))
    clear b1 C1 C2
    have CN := Lib.hid (fun w => dnum_any a b c d w HD.out.1 HD.out.2.1 HD.out.2.2.1 HD.out.2.2.2)
    obtain ⟨x, hx⟩ : ∃ x, x = a * 256 + b := ⟨_, rfl⟩
    obtain ⟨y, hy⟩ : ∃ y, y = c * 256 + d := ⟨_, rfl⟩
    obtain ⟨u1, u2⟩ := two_groups HD.out.1 HD.out.2.1 HD.out.2.2.1 HD.out.2.2.2
    rw [← hx] at u1 HF
    rw [← hy] at u2 HF
    have HXY : Hid (∀ g ∈ [x, y], g < 65536) := by
      have hd := HD.out
      show ∀ g ∈ [x, y], g < 65536
      intro g hg
      simp at hg
      omega
    generalize dnum a b c d = N at *
    clear hx hy
    go_wp2_with fail
    refine (CN.out _).mono ?_
    rintro e w2 ⟨rfl, b2⟩
    have B2 := Lib.hid (below_both B1.out b2)
    have CJ : Hid (∀ W g, Bru W → W.heap[g]? = some (.cells #[.int .u16 (x : Nat), .int .u16 (y : Nat)] 59 (0, 0)) → Calls Tryd.prog 28 #[.slice (some ⟨g, 0, none⟩) 2 2] W fun e w' => e = .returned (.string (gstr [x, y])) ∧ Below W.heap.size W w') := fun W g hB hh =>
      cjoin_any (some ⟨g, 0, none⟩) 2 [x, y] W hB (by simp) HXY.out (fun i hi => by
        refine ⟨g, 0, rfl, ?_⟩
        rw [cell_of_row W g _ _ _ _ hh]
        match i, hi with
        | 0, _ => rfl
        | 1, _ => rfl)
    have r1 := fun w => run_string_add_sum (P := Tryd.prog) w (s.extract 0 A) (gstr [x, y]) (by
      have h1 := gstr_size (gs := [x, y]) HXY.out (by simp)
      have h2 := HS.out
      have h3 := HLE.out
      rw [ByteArray.size_extract]
      omega)
    have HB2 := Lib.hid (HT.out.below B2.out)
    clear b2 CN B1 HT
    go_wp2_with fail
    go_region_with (first
      | (go_at_call 28; refine (CJ.out _ _ (Bru.alloc (W := w2.drew) HB2.out _) (heap_alloc_new _ _)).mono ?_; rintro e w' ⟨rfl, hb'⟩; have B3 := Lib.hid (below_both (B2.out.drew.alloc B2.out.drew.size _) hb'))
      | fail)
    all_goals
      go_wp2_with fail
      go_ret
      exact ⟨by rw [← HF.out]; rfl, B3.out⟩
  · have HF : Hid (s = ⟨(spreadT s.data.toList).toArray⟩) := by
      show _ = _
      rw [HSP.out, if_neg hE]
    have hEb : ((E : Int) == 0) = false := by simpa using hE
    clear hE
    go_enter Tryd.func33, Tryd.ntmps33
    go_wp2_with fail
    refine C1.out.mono ?_
    rintro e w1 ⟨rfl, rfl⟩
    go_wp2_with fail
    refine (C2.out _).mono ?_
    rintro e w1 ⟨rfl, b1⟩
    have B1 := Lib.hid b1
    have B1 := Lib.hid (B1.out.alloc B1.out.size (.cells #[.int .u8 a, .int .u8 b, .int .u8 c, .int .u8 d] 35))
    clear b1 C1 C2
    go_wp2_with fail
    go_ret
    exact ⟨by rw [← HF.out]; rfl, B1.out⟩
end Go.Proofs.YtaicmadeobglfaaDoor
