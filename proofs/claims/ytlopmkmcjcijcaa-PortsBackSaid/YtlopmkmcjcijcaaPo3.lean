/-
  Contracts of ports' Write.
-/
import Derived.Test.YtlopmkmcjcijcaaPo2
namespace Go.Proofs.Ytlopmkmcjcijcaa
open Go.RowKit
set_option linter.unusedVariables false

/-- A header's bytes. -/
def poHead (p : Int) (src dst n : Nat) : List Nat :=
  [src / 256, src % 256, dst / 256, dst % 256] ++ (if p = 6 then [0, 0, 0, 0, 0, 0, 0, 0, 80, 0, 0, 0, 0, 0, 0, 0] else if p = 17 then [(8 + n) / 256, (8 + n) % 256, 0, 0] else [0, 0, 0, 0, 0, 0, 0, 0])
theorem poHead_byte (p : Int) (src dst n : Nat) (hs : src ≤ 65535) (hd : dst ≤ 65535) (hn : n ≤ 65527) : ∀ x ∈ poHead p src dst n, x < 256 := by
  intro x hx
  unfold poHead at hx
  rcases List.mem_append.1 hx with h | h
  · simp at h
    omega
  · split at h
    · simp at h
      omega
    · split at h
      · simp at h
        omega
      · simp at h
        omega
theorem poHead_len {p : Int} (h0 : poLeast p ≠ 0) (src dst n : Nat) : (poHead p src dst n).length = poLeast p := by
  unfold poLeast at h0 ⊢
  unfold poHead
  split
  · rfl
  · split
    · rfl
    · split
      · rfl
      · rename_i h1 h2 h3; rw [if_neg h1, if_neg h2, if_neg h3] at h0; exact absurd rfl h0
/-- Which error. -/
def poErr (p src dst : Int) (n : Nat) : Nat := if poLeast p = 0 then 10 else if spPort src = false ∨ spPort dst = false then 1 else if 65535 - poLeast p < n then 18 else 0
theorem spPort_nat {n : Int} (h : spPort n = true) : ∃ k : Nat, n = (k : Int) ∧ k ≤ 65535 := by
  have h := of_decide_eq_true h
  exact ⟨n.toNat, by omega, by omega⟩
theorem powrite_bad (p src dst : Int) (A : Option Addr) (n c : Nat) (w : World) (hn : n ≤ 140737488355328) (h : poErr p src dst n ≠ 0) :
    Calls Try.prog 45 #[.int .i64 p, .int .i64 src, .int .i64 dst, .slice A n c] w fun e w' => e = .returned (.tuple #[.slice none 0 0, .int .i64 (poErr p src dst n : Nat)]) ∧ Below w.heap.size w w' := by
  have CL := Lib.hid (fun w => poleast_any p w)
  have CA := Lib.hid spall_any
  have CS := Lib.hid (fun w => sphas_all src w)
  have CD := Lib.hid (fun w => sphas_all dst w)
  have hll := poLeast_le p
  by_cases h0 : poLeast p = 0
  · have hF : poErr p src dst n = 10 := by unfold poErr; rw [if_pos h0]
    rw [hF]
    rw [h0] at CL
    clear hF hll h0 h
    go_enter Try.func45, Try.ntmps45
    go_wp2_with fail
    refine (CL.out _).mono ?_
    rintro e w' ⟨rfl, rfl⟩
    go_wp2_with fail
    go_ret2
    exact ⟨rfl, Below.refl _ _⟩
  have HE : Hid (poErr p src dst n = if spPort src = false ∨ spPort dst = false then 1 else if 65535 - poLeast p < n then 18 else 0) := by show _ = _; unfold poErr; rw [if_neg h0]
  rw [HE.out] at h ⊢
  generalize poLeast p = l at *
  have l0 : ((l : Int) == 0) = false := beq_false_of_ne (by omega)
  clear HE h0
  cases hs : spPort src with
  | false =>
    rw [hs] at CS
    rw [if_pos (.inl rfl)]
    clear hs h
    go_enter Try.func45, Try.ntmps45
    go_wp2_with fail
    refine (CL.out _).mono ?_
    rintro e w' ⟨rfl, rfl⟩
    go_wp2_with fail
    refine (CA.out _).mono ?_
    rintro e w1 ⟨rfl, b1⟩
    have B1 := Lib.hid b1
    clear b1
    go_wp2_with fail
    refine (CS.out _).mono ?_
    rintro e w2 ⟨rfl, b2⟩
    have B2 := Lib.hid (below_both B1.out b2)
    clear b2
    go_wp2_with fail
    go_ret2
    exact ⟨rfl, B2.out⟩
  | true =>
  rw [hs] at CS h
  cases hd : spPort dst with
  | false =>
    rw [hd] at CD
    rw [if_pos (.inr rfl)]
    clear hs hd h
    go_enter Try.func45, Try.ntmps45
    go_wp2_with fail
    refine (CL.out _).mono ?_
    rintro e w' ⟨rfl, rfl⟩
    go_wp2_with fail
    refine (CA.out _).mono ?_
    rintro e w1 ⟨rfl, b1⟩
    have B1 := Lib.hid b1
    clear b1
    go_wp2_with fail
    refine (CS.out _).mono ?_
    rintro e w2 ⟨rfl, b2⟩
    have B2 := Lib.hid (below_both B1.out b2)
    clear b2
    go_wp2_with fail
    refine (CA.out _).mono ?_
    rintro e w3 ⟨rfl, b3⟩
    have B3 := Lib.hid (below_both B2.out b3)
    clear b3
    go_wp2_with fail
    refine (CD.out _).mono ?_
    rintro e w4 ⟨rfl, b4⟩
    have B4 := Lib.hid (below_both B3.out b4)
    clear b4
    go_wp2_with fail
    go_ret2
    exact ⟨rfl, B4.out⟩
  | true =>
    rw [hd, if_neg (by simp)] at h
    rw [hd] at CD
    rw [if_neg (by simp)]
    have hln : 65535 - l < n := by
      rcases Nat.lt_or_ge (65535 - l) n with h1 | h1
      · exact h1
      · rw [if_neg (by omega)] at h; exact absurd rfl h
    rw [if_pos hln]
    have a1 : wrap64 (65535 - (l : Int)) = ((65535 - l : Nat) : Int) := by unfold wrap64; omega
    have a2 : ((65535 - l : Nat) : Int) < (n : Int) := by omega
    obtain ⟨m, hm⟩ : ∃ m, m = 65535 - l := ⟨_, rfl⟩
    rw [← hm] at a1 a2
    clear hs hd h hm hln hll
    go_enter Try.func45, Try.ntmps45
    go_wp2_with fail
    refine (CL.out _).mono ?_
    rintro e w' ⟨rfl, rfl⟩
    go_wp2_with fail
    refine (CA.out _).mono ?_
    rintro e w1 ⟨rfl, b1⟩
    have B1 := Lib.hid b1
    clear b1
    go_wp2_with fail
    refine (CS.out _).mono ?_
    rintro e w2 ⟨rfl, b2⟩
    have B2 := Lib.hid (below_both B1.out b2)
    clear b2
    go_wp2_with fail
    refine (CA.out _).mono ?_
    rintro e w3 ⟨rfl, b3⟩
    have B3 := Lib.hid (below_both B2.out b3)
    clear b3
    go_wp2_with fail
    refine (CD.out _).mono ?_
    rintro e w4 ⟨rfl, b4⟩
    have B4 := Lib.hid (below_both B3.out b4)
    clear b4
    go_wp2_with fail
    go_ret2
    exact ⟨rfl, B4.out⟩
set_option maxRecDepth 10000 in
set_option maxHeartbeats 3200000 in
theorem powrite_6 (src dst : Nat) (A : Option Addr) (n c : Nat) (bs : List Nat) (w : World) (hs : src ≤ 65535) (hd : dst ≤ 65535) (hn : n ≤ 65515) (hc : n ≤ c) (hR : Row w A n bs) :
    Calls Try.prog 45 #[.int .i64 6, .int .i64 (src : Nat), .int .i64 (dst : Nat), .slice A n c] w (OutTo w (poHead 6 src dst n ++ bs)) := by
  have CL : Hid (∀ w, Calls Try.prog 43 #[.int .i64 6] w fun e w' => e = .returned (.int .i64 20) ∧ w = w') := fun w => poleast_any 6 w
  have CA := Lib.hid spall_any
  have CS : Hid (∀ w, Calls Try.prog 72 #[.agg #[.int .i64 0, .int .i64 65535], .int .i64 (src : Nat)] w fun e w' => e = .returned (.bool true) ∧ Below w.heap.size w w') := fun w => by
    have h := sphas_all (src : Int) w
    rw [show spPort (src : Int) = true from decide_eq_true ⟨by omega, by omega⟩] at h
    exact h
  have CD : Hid (∀ w, Calls Try.prog 72 #[.agg #[.int .i64 0, .int .i64 65535], .int .i64 (dst : Nat)] w fun e w' => e = .returned (.bool true) ∧ Below w.heap.size w w') := fun w => by
    have h := sphas_all (dst : Int) w
    rw [show spPort (dst : Int) = true from decide_eq_true ⟨by omega, by omega⟩] at h
    exact h
  have hmk : ∀ w : World, (Instr.makeSlice 22 (.int .i64 20) (.int .i64 20)).run Try.prog w = .ok (.slice (some ⟨w.heap.size, 0, none⟩) 20 20) (w.alloc (.cells (bcells (List.replicate 20 0)).toArray 5)) := fun w => make_bytes 20 (by decide) w
  have a1 : ¬ ((65515 : Int) < (n : Int)) := by omega
  have HS := Lib.hid (And.intro hs hd)
  have HN := Lib.hid hn
  have HR := Lib.hid hR
  have HW : Hid (∀ (B : Nat) (V : World) (bs : List Nat) (k x : Nat) (g c : Nat), bs.length = 20 → x ≤ 65535 → k + 2 ≤ 20 → B ≤ g → OutIs B V (.slice (some ⟨g, 0, none⟩) 20 c) bs → Calls Try.prog 74 #[.slice (some ⟨g, 0, none⟩) 20 c, .int .i64 (k : Nat), .int .i64 (x : Nat)] V fun e w' => (∃ r, e = .returned r) ∧ OutIs B w' (.slice (some ⟨g, 0, none⟩) 20 c) ((bs.set k (x / 256)).set (k + 1) (x % 256)) ∧ Below B V w') := fun B V bs k x g c h1 h2 h3 h4 h5 => poput_out g 20 c k bs x V h1 h2 h3 (by decide) h4 h5
  clear hs hd hn hR
  go_enter Try.func45, Try.ntmps45
  go_wp2_with fail
  refine (CL.out _).mono ?_
  rintro e w' ⟨rfl, rfl⟩
  go_wp2_with fail
  refine (CA.out _).mono ?_
  rintro e w1 ⟨rfl, b1⟩
  have B1 := Lib.hid b1
  clear b1
  go_wp2_with fail
  refine (CS.out _).mono ?_
  rintro e w2 ⟨rfl, b2⟩
  have B2 := Lib.hid (below_both B1.out b2)
  clear b2
  go_wp2_with fail
  refine (CA.out _).mono ?_
  rintro e w3 ⟨rfl, b3⟩
  have B3 := Lib.hid (below_both B2.out b3)
  clear b3
  go_wp2_with fail
  refine (CD.out _).mono ?_
  rintro e w4 ⟨rfl, b4⟩
  have B4 := Lib.hid (below_both B3.out b4)
  clear b4 CL CA CS CD B1 B2 B3
  go_upto_region 9 with fail
  obtain ⟨V, eV⟩ : ∃ V, V = w4.alloc (.cells (bcells [0, 0, 0, 0, 0, 0, 0, 0, 0, 0, 0, 0, 0, 0, 0, 0, 0, 0, 0, 0]).toArray 5) := ⟨_, rfl⟩
  have O0 : Hid (OutIs w4.heap.size V (.slice (some ⟨w4.heap.size, 0, none⟩) 20 20) (List.replicate 20 0)) := by
    show OutIs _ _ _ _
    rw [eV]
    exact OutIs.laid w4 (List.replicate 20 0) w4.heap.size (Nat.le_refl _) (by decide)
  have BV : Hid (Below w.heap.size w V) := by show Below _ _ _; rw [eV]; exact B4.out.alloc B4.out.size _
  have BG : Hid (w.heap.size ≤ w4.heap.size) := B4.out.size
  rw [← eV]
  obtain ⟨g, hg⟩ : ∃ g, g = w4.heap.size := ⟨_, rfl⟩
  rw [← hg] at O0 BG ⊢
  clear eV hg hmk
  go_wp2_with fail
  refine (HW.out g V (List.replicate 20 0) 0 src g 20 rfl HS.out.1 (by decide) (Nat.le_refl _) O0.out).mono ?_
  rintro e w5 ⟨⟨r5, rfl⟩, o5, b5⟩
  have O5 := Lib.hid o5
  have B5 := Lib.hid (BV.out.trans (b5.mono BG.out))
  clear o5 b5
  go_wp2_with fail
  refine (HW.out g w5 _ 2 dst g 20 (by simp) HS.out.2 (by decide) (Nat.le_refl _) O5.out).mono ?_
  rintro e w6 ⟨⟨r6, rfl⟩, o6, b6⟩
  have O6 := Lib.hid o6
  have B6 := Lib.hid (B5.out.trans (b6.mono BG.out))
  clear o6 b6
  have c12 := O6.out.cell (by simp) 12 (by decide)
  have f12 := O6.out.frozen (by simp) 12
  have O7 : Hid (OutIs g (w6.setCell ⟨g, 12, none⟩ (.int .u8 80)) (.slice (some ⟨g, 0, none⟩) 20 20) (poHead 6 src dst n)) := O6.out.set (by simp) 12 80
  have B7 : Hid (Below w.heap.size w (w6.setCell ⟨g, 12, none⟩ (.int .u8 80))) := B6.out.setCell (p := ⟨g, 12, none⟩) BG.out _
  go_upto_region 16 with fail
  obtain ⟨U, eU⟩ : ∃ U, U = w6.setCell ⟨g, 12, none⟩ (.int .u8 80) := ⟨_, rfl⟩
  rw [← eU] at O7 B7 ⊢
  clear eU c12 f12 O6 O5 O0 HW
  have R7 := Lib.hid (HR.out.below B7.out)
  have HT : Hid ((poHead 6 src dst n).length + n ≤ 140737488355328) := by show (poHead 6 src dst n).length + n ≤ _; rw [poHead_len (by decide)]; have := HN.out; show 20 + n ≤ _; omega
  have HGU : Hid (g ≤ U.heap.size) := by
    obtain ⟨k, hk, e⟩ : ∃ k, k < U.heap.size ∧ k = g := ⟨g, (World.ownsRow.lt O7.out g rfl).2, rfl⟩
    show g ≤ _
    omega
  have BUU : Hid (Below g U U) := Below.refl _ _
  go_wp2_with (at_builtin; refine wpList_append_row_any (B := g) (W := U) rfl (.tmp 59) (.tmp 60) rfl rfl rfl rfl O7.out R7.out BUU.out HGU.out HT.out ?_; intro v' w' ho' hb'; have O8 := Lib.hid ho'; have B8 := Lib.hid hb'; clear ho' hb')
  go_ret2
  exact ⟨_, rfl, O8.out.mono BG.out, B7.out.trans (B8.out.mono BG.out)⟩
set_option maxRecDepth 10000 in
set_option maxHeartbeats 3200000 in
theorem powrite_17 (src dst : Nat) (A : Option Addr) (n c : Nat) (bs : List Nat) (w : World) (hs : src ≤ 65535) (hd : dst ≤ 65535) (hn : n ≤ 65527) (hc : n ≤ c) (hR : Row w A n bs) :
    Calls Try.prog 45 #[.int .i64 17, .int .i64 (src : Nat), .int .i64 (dst : Nat), .slice A n c] w (OutTo w (poHead 17 src dst n ++ bs)) := by
  have CL : Hid (∀ w, Calls Try.prog 43 #[.int .i64 17] w fun e w' => e = .returned (.int .i64 8) ∧ w = w') := fun w => poleast_any 17 w
  have CA := Lib.hid spall_any
  have CS : Hid (∀ w, Calls Try.prog 72 #[.agg #[.int .i64 0, .int .i64 65535], .int .i64 (src : Nat)] w fun e w' => e = .returned (.bool true) ∧ Below w.heap.size w w') := fun w => by
    have h := sphas_all (src : Int) w
    rw [show spPort (src : Int) = true from decide_eq_true ⟨by omega, by omega⟩] at h
    exact h
  have CD : Hid (∀ w, Calls Try.prog 72 #[.agg #[.int .i64 0, .int .i64 65535], .int .i64 (dst : Nat)] w fun e w' => e = .returned (.bool true) ∧ Below w.heap.size w w') := fun w => by
    have h := sphas_all (dst : Int) w
    rw [show spPort (dst : Int) = true from decide_eq_true ⟨by omega, by omega⟩] at h
    exact h
  have hmk : ∀ w : World, (Instr.makeSlice 22 (.int .i64 8) (.int .i64 8)).run Try.prog w = .ok (.slice (some ⟨w.heap.size, 0, none⟩) 8 8) (w.alloc (.cells (bcells (List.replicate 8 0)).toArray 5)) := fun w => make_bytes 8 (by decide) w
  have a1 : ¬ ((65527 : Int) < (n : Int)) := by omega
  have HS := Lib.hid (And.intro hs hd)
  have HN := Lib.hid hn
  have HR := Lib.hid hR
  have HW : Hid (∀ (B : Nat) (V : World) (bs : List Nat) (k x : Nat) (g c : Nat), bs.length = 8 → x ≤ 65535 → k + 2 ≤ 8 → B ≤ g → OutIs B V (.slice (some ⟨g, 0, none⟩) 8 c) bs → Calls Try.prog 74 #[.slice (some ⟨g, 0, none⟩) 8 c, .int .i64 (k : Nat), .int .i64 (x : Nat)] V fun e w' => (∃ r, e = .returned r) ∧ OutIs B w' (.slice (some ⟨g, 0, none⟩) 8 c) ((bs.set k (x / 256)).set (k + 1) (x % 256)) ∧ Below B V w') := fun B V bs k x g c h1 h2 h3 h4 h5 => poput_out g 8 c k bs x V h1 h2 h3 (by decide) h4 h5
  clear hs hd hn hR
  go_enter Try.func45, Try.ntmps45
  go_wp2_with fail
  refine (CL.out _).mono ?_
  rintro e w' ⟨rfl, rfl⟩
  go_wp2_with fail
  refine (CA.out _).mono ?_
  rintro e w1 ⟨rfl, b1⟩
  have B1 := Lib.hid b1
  clear b1
  go_wp2_with fail
  refine (CS.out _).mono ?_
  rintro e w2 ⟨rfl, b2⟩
  have B2 := Lib.hid (below_both B1.out b2)
  clear b2
  go_wp2_with fail
  refine (CA.out _).mono ?_
  rintro e w3 ⟨rfl, b3⟩
  have B3 := Lib.hid (below_both B2.out b3)
  clear b3
  go_wp2_with fail
  refine (CD.out _).mono ?_
  rintro e w4 ⟨rfl, b4⟩
  have B4 := Lib.hid (below_both B3.out b4)
  clear b4 CL CA CS CD B1 B2 B3
  go_upto_region 9 with fail
  obtain ⟨V, eV⟩ : ∃ V, V = w4.alloc (.cells (bcells [0, 0, 0, 0, 0, 0, 0, 0]).toArray 5) := ⟨_, rfl⟩
  have O0 : Hid (OutIs w4.heap.size V (.slice (some ⟨w4.heap.size, 0, none⟩) 8 8) (List.replicate 8 0)) := by
    show OutIs _ _ _ _
    rw [eV]
    exact OutIs.laid w4 (List.replicate 8 0) w4.heap.size (Nat.le_refl _) (by decide)
  have BV : Hid (Below w.heap.size w V) := by show Below _ _ _; rw [eV]; exact B4.out.alloc B4.out.size _
  have BG : Hid (w.heap.size ≤ w4.heap.size) := B4.out.size
  rw [← eV]
  obtain ⟨g, hg⟩ : ∃ g, g = w4.heap.size := ⟨_, rfl⟩
  rw [← hg] at O0 BG ⊢
  clear eV hg hmk
  go_wp2_with fail
  refine (HW.out g V (List.replicate 8 0) 0 src g 8 rfl HS.out.1 (by decide) (Nat.le_refl _) O0.out).mono ?_
  rintro e w5 ⟨⟨r5, rfl⟩, o5, b5⟩
  have O5 := Lib.hid o5
  have B5 := Lib.hid (BV.out.trans (b5.mono BG.out))
  clear o5 b5
  go_wp2_with fail
  refine (HW.out g w5 _ 2 dst g 8 (by simp) HS.out.2 (by decide) (Nat.le_refl _) O5.out).mono ?_
  rintro e w6 ⟨⟨r6, rfl⟩, o6, b6⟩
  have O6 := Lib.hid o6
  have B6 := Lib.hid (B5.out.trans (b6.mono BG.out))
  clear o6 b6
  have x1 : wrap64 (8 + (n : Int)) = ((8 + n : Nat) : Int) := by unfold wrap64; have := HN.out; omega
  go_wp2_with fail
  refine (HW.out g w6 _ 4 (8 + n) g 8 (by simp) (by have := HN.out; omega) (by decide) (Nat.le_refl _) O6.out).mono ?_
  rintro e U ⟨⟨r7, rfl⟩, o7, b7⟩
  have O7 : Hid (OutIs g U (.slice (some ⟨g, 0, none⟩) 8 8) (poHead 17 src dst n)) := o7
  have B7 := Lib.hid (B6.out.trans (b7.mono BG.out))
  clear o7 b7 x1 O6 O5 O0 HW
  have R7 := Lib.hid (HR.out.below B7.out)
  have HT : Hid ((poHead 17 src dst n).length + n ≤ 140737488355328) := by show (poHead 17 src dst n).length + n ≤ _; rw [poHead_len (by decide)]; have := HN.out; show 8 + n ≤ _; omega
  have HGU : Hid (g ≤ U.heap.size) := by
    obtain ⟨k, hk, e⟩ : ∃ k, k < U.heap.size ∧ k = g := ⟨g, (World.ownsRow.lt O7.out g rfl).2, rfl⟩
    show g ≤ _
    omega
  have BUU : Hid (Below g U U) := Below.refl _ _
  go_wp2_with (at_builtin; refine wpList_append_row_any (B := g) (W := U) rfl (.tmp 59) (.tmp 60) rfl rfl rfl rfl O7.out R7.out BUU.out HGU.out HT.out ?_; intro v' w' ho' hb'; have O8 := Lib.hid ho'; have B8 := Lib.hid hb'; clear ho' hb')
  go_ret2
  exact ⟨_, rfl, O8.out.mono BG.out, B7.out.trans (B8.out.mono BG.out)⟩
set_option maxRecDepth 10000 in
set_option maxHeartbeats 3200000 in
theorem powrite_132 (src dst : Nat) (A : Option Addr) (n c : Nat) (bs : List Nat) (w : World) (hs : src ≤ 65535) (hd : dst ≤ 65535) (hn : n ≤ 65523) (hc : n ≤ c) (hR : Row w A n bs) :
    Calls Try.prog 45 #[.int .i64 132, .int .i64 (src : Nat), .int .i64 (dst : Nat), .slice A n c] w (OutTo w (poHead 132 src dst n ++ bs)) := by
  have CL : Hid (∀ w, Calls Try.prog 43 #[.int .i64 132] w fun e w' => e = .returned (.int .i64 12) ∧ w = w') := fun w => poleast_any 132 w
  have CA := Lib.hid spall_any
  have CS : Hid (∀ w, Calls Try.prog 72 #[.agg #[.int .i64 0, .int .i64 65535], .int .i64 (src : Nat)] w fun e w' => e = .returned (.bool true) ∧ Below w.heap.size w w') := fun w => by
    have h := sphas_all (src : Int) w
    rw [show spPort (src : Int) = true from decide_eq_true ⟨by omega, by omega⟩] at h
    exact h
  have CD : Hid (∀ w, Calls Try.prog 72 #[.agg #[.int .i64 0, .int .i64 65535], .int .i64 (dst : Nat)] w fun e w' => e = .returned (.bool true) ∧ Below w.heap.size w w') := fun w => by
    have h := sphas_all (dst : Int) w
    rw [show spPort (dst : Int) = true from decide_eq_true ⟨by omega, by omega⟩] at h
    exact h
  have hmk : ∀ w : World, (Instr.makeSlice 22 (.int .i64 12) (.int .i64 12)).run Try.prog w = .ok (.slice (some ⟨w.heap.size, 0, none⟩) 12 12) (w.alloc (.cells (bcells (List.replicate 12 0)).toArray 5)) := fun w => make_bytes 12 (by decide) w
  have a1 : ¬ ((65523 : Int) < (n : Int)) := by omega
  have HS := Lib.hid (And.intro hs hd)
  have HN := Lib.hid hn
  have HR := Lib.hid hR
  have HW : Hid (∀ (B : Nat) (V : World) (bs : List Nat) (k x : Nat) (g c : Nat), bs.length = 12 → x ≤ 65535 → k + 2 ≤ 12 → B ≤ g → OutIs B V (.slice (some ⟨g, 0, none⟩) 12 c) bs → Calls Try.prog 74 #[.slice (some ⟨g, 0, none⟩) 12 c, .int .i64 (k : Nat), .int .i64 (x : Nat)] V fun e w' => (∃ r, e = .returned r) ∧ OutIs B w' (.slice (some ⟨g, 0, none⟩) 12 c) ((bs.set k (x / 256)).set (k + 1) (x % 256)) ∧ Below B V w') := fun B V bs k x g c h1 h2 h3 h4 h5 => poput_out g 12 c k bs x V h1 h2 h3 (by decide) h4 h5
  clear hs hd hn hR
  go_enter Try.func45, Try.ntmps45
  go_wp2_with fail
  refine (CL.out _).mono ?_
  rintro e w' ⟨rfl, rfl⟩
  go_wp2_with fail
  refine (CA.out _).mono ?_
  rintro e w1 ⟨rfl, b1⟩
  have B1 := Lib.hid b1
  clear b1
  go_wp2_with fail
  refine (CS.out _).mono ?_
  rintro e w2 ⟨rfl, b2⟩
  have B2 := Lib.hid (below_both B1.out b2)
  clear b2
  go_wp2_with fail
  refine (CA.out _).mono ?_
  rintro e w3 ⟨rfl, b3⟩
  have B3 := Lib.hid (below_both B2.out b3)
  clear b3
  go_wp2_with fail
  refine (CD.out _).mono ?_
  rintro e w4 ⟨rfl, b4⟩
  have B4 := Lib.hid (below_both B3.out b4)
  clear b4 CL CA CS CD B1 B2 B3
  go_upto_region 9 with fail
  obtain ⟨V, eV⟩ : ∃ V, V = w4.alloc (.cells (bcells [0, 0, 0, 0, 0, 0, 0, 0, 0, 0, 0, 0]).toArray 5) := ⟨_, rfl⟩
  have O0 : Hid (OutIs w4.heap.size V (.slice (some ⟨w4.heap.size, 0, none⟩) 12 12) (List.replicate 12 0)) := by
    show OutIs _ _ _ _
    rw [eV]
    exact OutIs.laid w4 (List.replicate 12 0) w4.heap.size (Nat.le_refl _) (by decide)
  have BV : Hid (Below w.heap.size w V) := by show Below _ _ _; rw [eV]; exact B4.out.alloc B4.out.size _
  have BG : Hid (w.heap.size ≤ w4.heap.size) := B4.out.size
  rw [← eV]
  obtain ⟨g, hg⟩ : ∃ g, g = w4.heap.size := ⟨_, rfl⟩
  rw [← hg] at O0 BG ⊢
  clear eV hg hmk
  go_wp2_with fail
  refine (HW.out g V (List.replicate 12 0) 0 src g 12 rfl HS.out.1 (by decide) (Nat.le_refl _) O0.out).mono ?_
  rintro e w5 ⟨⟨r5, rfl⟩, o5, b5⟩
  have O5 := Lib.hid o5
  have B5 := Lib.hid (BV.out.trans (b5.mono BG.out))
  clear o5 b5
  go_wp2_with fail
  refine (HW.out g w5 _ 2 dst g 12 (by simp) HS.out.2 (by decide) (Nat.le_refl _) O5.out).mono ?_
  rintro e w6 ⟨⟨r6, rfl⟩, o6, b6⟩
  have O6 := Lib.hid o6
  have B6 := Lib.hid (B5.out.trans (b6.mono BG.out))
  clear o6 b6
  have O7 : Hid (OutIs g w6 (.slice (some ⟨g, 0, none⟩) 12 12) (poHead 132 src dst n)) := O6.out
  have B7 := Lib.hid B6.out
  clear O6 O5 O0 HW
  have R7 := Lib.hid (HR.out.below B7.out)
  have HT : Hid ((poHead 132 src dst n).length + n ≤ 140737488355328) := by show (poHead 132 src dst n).length + n ≤ _; rw [poHead_len (by decide)]; have := HN.out; show 12 + n ≤ _; omega
  have HGU : Hid (g ≤ w6.heap.size) := by
    obtain ⟨k, hk, e⟩ : ∃ k, k < w6.heap.size ∧ k = g := ⟨g, (World.ownsRow.lt O7.out g rfl).2, rfl⟩
    show g ≤ _
    omega
  have BUU : Hid (Below g w6 w6) := Below.refl _ _
  go_wp2_with (at_builtin; refine wpList_append_row_any (B := g) (W := w6) rfl (.tmp 59) (.tmp 60) rfl rfl rfl rfl O7.out R7.out BUU.out HGU.out HT.out ?_; intro v' w' ho' hb'; have O8 := Lib.hid ho'; have B8 := Lib.hid hb'; clear ho' hb')
  go_ret2
  exact ⟨_, rfl, O8.out.mono BG.out, B7.out.trans (B8.out.mono BG.out)⟩
end Go.Proofs.Ytlopmkmcjcijcaa
