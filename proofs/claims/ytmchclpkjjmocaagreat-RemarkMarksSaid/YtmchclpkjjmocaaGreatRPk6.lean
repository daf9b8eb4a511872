/-
  What the document's parts, whole of layer 14 tell; three results of which the first lies in a variable.
  The document's parts of layer 14, at a header of version 4 without a defect.
  The document's parts of layer 14, at a header of version 6 without a defect.
  The document's parts of layer 14, where the headers are wrong.
  The document's whole told by one record and all its defects; All, Parse, Point, Key, Name of layer 14, where whole does what it should.
  The document's Point and Key of layer 14, where its Parse does what it should.
  The document's whole of layer 14: a packet's record with its ports, or all that is wrong, where parts does what it should.
  The document's parts and whole of layer 14 put together, and All, Parse, Point, Key.
-/
import Derived.Test.YtmchclpkjjmocaaGreatPk11
import Derived.Test.YtmchclpkjjmocaaGreatRFh4
import Derived.Test.YtmchclpkjjmocaaGreatPut
import Derived.Test.YtmchclpkjjmocaaGreatRSx2
import Derived.Test.YtmchclpkjjmocaaGreatPtS
import Derived.Test.YtmchclpkjjmocaaGreatPo4
namespace Go.Proofs.YtmchclpkjjmocaaGreat
open Go.RowKit
set_option linter.unusedVariables false

/-- What the document's parts tells: the record but for its ports, the payload, all that is wrong with the headers. -/
def PrIs (D : List Nat) (r : PkRec) (pv : Value) (w : World) (e : Ending) (w' : World) : Prop := Below w.heap.size w w' ∧ (D ≠ [] → ∃ v, e = .returned (.tuple #[.agg (hdCells RZ false 0 0).toArray, .slice none 0 0, v]) ∧ DefRead w' v D) ∧ (D = [] → e = .returned (.tuple #[.agg (hdCells r false 0 0).toArray, pv, .slice none 0 0]))
def WrIs (D : List Nat) (r : PkRec) (x y : Nat) (w : World) (e : Ending) (w' : World) : Prop := Below w.heap.size w w' ∧ (D ≠ [] → ∃ v, e = .returned (.tuple #[.agg (hdCells RZ false 0 0).toArray, v]) ∧ DefRead w' v D) ∧ (D = [] → e = .returned (.tuple #[.agg (hdCells r r.has x y).toArray, .slice none 0 0]))
theorem PkRec.Ok.zero {r : PkRec} {x y : Nat} (h : r.Ok x y) : r.Ok 0 0 := ⟨h.sl, h.dl, h.sb, h.db, h.v, h.proto, h.size, h.at_, h.frag, h.field, by decide, by decide⟩
theorem list_tab {l : List Value} : l = (List.range l.length).map (fun i => l.getD i (.bool false)) := by
  refine List.ext_getElem (by simp) fun i h1 h2 => ?_
  simp [List.getD_eq_getElem?_getD, List.getElem?_eq_getElem h1]
/-- A row of forty cells, each by its number. -/
theorem fortyF {l : List Value} (h : l.length = 40) : ∃ f : Nat → Value, (#[f 0, f 1, f 2, f 3, f 4, f 5, f 6, f 7, f 8, f 9, f 10, f 11, f 12, f 13, f 14, f 15, f 16, f 17, f 18, f 19, f 20, f 21, f 22, f 23, f 24, f 25, f 26, f 27, f 28, f 29, f 30, f 31, f 32, f 33, f 34, f 35, f 36, f 37, f 38, f 39]: Array Value) = l.toArray ∧ ∀ i, i < 40 → l[i]? = some (f i) := by
  refine ⟨fun i => l.getD i (.bool false), ?_, fun i hi => ?_⟩
  · have e := list_tab (l := l)
    rw [h] at e
    exact congrArg List.toArray e.symm
  · simp [List.getD_eq_getElem?_getD, List.getElem?_eq_getElem (show i < l.length by omega)]
/-- Three results, of which the first lies in a variable. -/
theorem res_cell_two {P : Program} {fn : Func} {p u v : Tmp} {ty : TypeId} {tmps : Array Value} {w : World} {a : Addr} {x y z : Value} (h : fn.results = #[.cell p ty, .tmp u, .tmp v]) (hp : tmps.getD p undef = .pointer (some a))
    (hl : (Go.loadVar ty a).run P w = .ok x w) (hy : tmps.getD u undef = y) (hz : tmps.getD v undef = z) : (results fn tmps).run P w = .ok (.tuple #[x, y, z]) w := by
  simp only [results, h]
  have hq : tmps[p]?.getD undef = .pointer (some a) := by rw [← hp]; simp
  have hq2 : tmps[u]?.getD undef = y := by rw [← hy]; simp
  have hq3 : tmps[v]?.getD undef = z := by rw [← hz]; simp
  simp [asAddr, hq, hq2, hq3, hl]
end Go.Proofs.YtmchclpkjjmocaaGreat

namespace Go.Proofs.YtmchclpkjjmocaaGreat
open Go.RowKit
set_option linter.unusedVariables false
set_option maxRecDepth 8000

/-- Two variables of later blocks. -/
theorem kv_pair {w W : World} {t t' : TypeId} {g g' : Nat} {cs ds : List Value} (h1 : ArrV t W g cs) (h2 : ArrV t' W g' ds) (hb : Below w.heap.size w W) (hg : w.heap.size ≤ g) (hg' : w.heap.size ≤ g') (hne : g' ≠ g) : KV w [(t, g, cs), (t', g', ds)] W := by
  refine ⟨fun i p hp => ?_, fun i p hp => ?_, fun i j p q hp hq hij => ?_, hb⟩
  · match i, hp with
    | 0, hp => cases hp; exact h1
    | 1, hp => cases hp; exact h2
  · match i, hp with
    | 0, hp => cases hp; exact hg
    | 1, hp => cases hp; exact hg'
  · match i, j, hp, hq, hij with
    | 0, 0, _, _, h => exact absurd rfl h
    | 1, 1, _, _, h => exact absurd rfl h
    | 0, 1, hp, hq, _ => cases hp; cases hq; exact Ne.symm hne
    | 1, 0, hp, hq, _ => cases hp; cases hq; exact hne
/-- The record, ahead of its addresses. -/
def hd4 (bs : List Nat) : Nat → List Value
  | 0 => [.int .i64 4, .int .u8 0, .int .u8 0, .int .u8 0, .int .u8 0, .int .u8 0, .int .u8 0, .int .u8 0, .int .u8 0, .int .u8 0, .int .u8 0, .int .u8 0, .int .u8 0, .int .u8 0, .int .u8 0, .int .u8 0, .int .u8 0, .int .u8 0, .int .u8 0, .int .u8 0, .int .u8 0, .int .u8 0, .int .u8 0, .int .u8 0, .int .u8 0, .int .u8 0, .int .u8 0, .int .u8 0, .int .u8 0, .int .u8 0, .int .u8 0, .int .u8 0, .int .u8 0, .int .i64 (bs.getD 9 0 : Nat), .int .i64 (fhw bs 2 : Nat), .int .i64 (4 * (bs.getD 0 0 % 16) : Nat), .int .i64 0, .bool false, .int .i64 0, .int .i64 0]
  | k + 1 => ((hd4 bs k).set (1 + k) (.int .u8 (bs.getD (12 + k) 0 : Nat))).set (17 + k) (.int .u8 (bs.getD (16 + k) 0 : Nat))
theorem hd4_len (bs : List Nat) : ∀ k, (hd4 bs k).length = 40
  | 0 => rfl
  | k + 1 => by unfold hd4; rw [List.length_set, List.length_set]; exact hd4_len bs k
theorem hd4_done {bs : List Nat} (h : 20 ≤ bs.length) : (hd4 bs 4).set 36 (.int .i64 ((pk4 bs).frag : Nat)) = hdCells (pk4 bs) false 0 0 := by
  unfold hdCells pk4 hdTail
  rw [pkfour_of (bs := bs) (k := 12) (by omega), pkfour_of (bs := bs) (k := 16) (by omega)]
  rfl
set_option maxHeartbeats 6400000 in
theorem rparts_four (A : Option Addr) (n c : Nat) (bs : List Nat) (w : World) (hn2 : n ≤ 140737488351232) (hc : n ≤ c) (hR : Row w A n bs) (hgood : fhall n bs = []) :
    Calls Tryz.prog 40 #[.slice A n c] w fun e w' => Below w.heap.size w w' ∧ e = .returned (.tuple #[.agg (hdCells (pk4 bs) false 0 0).toArray, pkPv A c (pk4 bs), .slice none 0 0]) := by
  obtain ⟨Z, hZ⟩ : ∃ Z, Z = hdCells RZ false 0 0 := ⟨_, rfl⟩
  obtain ⟨hZl, hZo⟩ := hdCells_all rz_ok
  have hlit := hd_lit
  obtain ⟨V, e0⟩ : ∃ V, V = w.alloc (.cells Z.toArray 37) := ⟨_, rfl⟩
  rw [← hZ] at hZl hZo hlit
  have HA : Hid (ArrV 37 V w.heap.size Z) := by show ArrV _ _ _ _; rw [e0]; exact ArrV.new _ w Z
  have HB : Hid (Below w.heap.size w V) := by show Below _ _ _; rw [e0]; exact (Below.refl _ _).alloc (Nat.le_refl _) _
  obtain ⟨g2, hg2⟩ : ∃ g, g = w.heap.size := ⟨_, rfl⟩
  have HG2 := Lib.hid hg2
  rw [← hg2] at HA
  obtain ⟨d0, h20, m20, hmt, htn⟩ := fhall_nil hgood
  have h4 : bs.getD 0 0 / 16 = 4 := by
    unfold fhdef at d0
    by_cases h : bs.getD 0 0 / 16 = 4
    · exact h
    · rw [if_neg (by omega), if_pos h] at d0; cases d0
  have hby := hR.byte
  have hlen := hR.1
  obtain ⟨b, o, rfl, hb, hcell⟩ := hR.addr (by omega)
  have c0 := (HB.out.cell (p := ⟨b, o, none⟩) hb).trans (hcell 0 (by omega))
  have HR := Lib.hid (hR.below HB.out)
  obtain ⟨P, hP⟩ : ∃ P : Option Addr, P = some ⟨b, o, none⟩ := ⟨_, rfl⟩
  have CH := Lib.hid (fun w (hR : Row w (some ⟨b, o, none⟩) n bs) => rfhall_any (some ⟨b, o, none⟩) n c bs w hc (by omega) hR)
  unfold AllIs at CH
  have CH1 : Hid (∀ W, Row W (some ⟨b, o, none⟩) n bs → Calls Tryz.prog 58 #[.slice (some ⟨b, o, none⟩) n c] W fun e w' => ∃ A9 c9, e = .returned (.slice A9 0 c9) ∧ Below W.heap.size W w') := fun W hW => (CH.out W hW).mono fun e w' h => by
    obtain ⟨v, rfl, hd, hb⟩ := h
    obtain ⟨A9, c9, rfl, _, _⟩ := hd
    rw [hgood]
    exact ⟨A9, c9, rfl, hb⟩
  have CR := Lib.hid (fun w (hR : Row w (some ⟨b, o, none⟩) n bs) => rfhread_any (some ⟨b, o, none⟩) n c bs w (by omega) hc hR)
  unfold ReadIs at CR
  have hval : fhval n bs = fhf bs := by unfold fhval; rw [if_pos d0]
  rw [hval, d0] at CR
  have hF0 : (fhf bs)[0]? = some (.int .i64 (bs.getD 0 0 % 16 : Nat)) := rfl
  have hF2 : (fhf bs)[2]? = some (.int .i64 (fhw bs 2 : Nat)) := rfl
  have hF4 : (fhf bs)[4]? = some (.int .i64 (bs.getD 6 0 / 32 : Nat)) := rfl
  have hF5 : (fhf bs)[5]? = some (.int .i64 (fhw bs 6 % 8192 : Nat)) := rfl
  have hF7 : (fhf bs)[7]? = some (.int .i64 (bs.getD 9 0 : Nat)) := rfl
  have HF9 : Hid (∀ k, k < 4 → (fhf bs)[9 + k]? = some (.int .u8 (bs.getD (12 + k) 0 : Nat)) ∧ (fhf bs)[13 + k]? = some (.int .u8 (bs.getD (16 + k) 0 : Nat))) := fun k hk => by
    match k, hk with
    | 0, _ | 1, _ | 2, _ | 3, _ => exact ⟨rfl, rfl⟩
  have hfl : (fhf bs).length = 17 := fhf_len bs
  have hfo := fhf_one bs
  have hfr : (pk4 bs).frag = if fhw bs 6 % 8192 ≠ 0 then 2 else if bs.getD 6 0 / 32 % 2 = 1 then 1 else 0 := rfl
  have hat : (pk4 bs).at_ = 4 * (bs.getD 0 0 % 16) := rfl
  have hsz : (pk4 bs).size = fhw bs 2 := rfl
  have hdone := hd4_done (bs := bs) (by omega)
  have hY0 : hd4 bs 0 = [.int .i64 4, .int .u8 0, .int .u8 0, .int .u8 0, .int .u8 0, .int .u8 0, .int .u8 0, .int .u8 0, .int .u8 0, .int .u8 0, .int .u8 0, .int .u8 0, .int .u8 0, .int .u8 0, .int .u8 0, .int .u8 0, .int .u8 0, .int .u8 0, .int .u8 0, .int .u8 0, .int .u8 0, .int .u8 0, .int .u8 0, .int .u8 0, .int .u8 0, .int .u8 0, .int .u8 0, .int .u8 0, .int .u8 0, .int .u8 0, .int .u8 0, .int .u8 0, .int .u8 0, .int .i64 (bs.getD 9 0 : Nat), .int .i64 (fhw bs 2 : Nat), .int .i64 (4 * (bs.getD 0 0 % 16) : Nat), .int .i64 0, .bool false, .int .i64 0, .int .i64 0] := rfl
  have hYo : ∀ v ∈ hdCells (pk4 bs) false 0 0, v.oneCell' = true := by
    intro v hv
    unfold hdCells at hv
    rcases List.mem_cons.1 hv with rfl | hv
    · rfl
    rcases List.mem_append.1 hv with hv | hv
    · exact bcells_one _ v hv
    rcases List.mem_append.1 hv with hv | hv
    · exact bcells_one _ v hv
    · unfold hdTail at hv
      simp at hv
      rcases hv with rfl | rfl | rfl | rfl | rfl | rfl | rfl <;> rfl
  have hYl : (hdCells (pk4 bs) false 0 0).length = 40 := by rw [← hdone, List.length_set]; exact hd4_len bs 4
  have hpv : pkPv (some ⟨b, o, none⟩) c (pk4 bs) = .slice (if c = (pk4 bs).at_ then some ⟨b, o, none⟩ else (some (⟨b, o, none⟩ : Addr)).map (·.add (pk4 bs).at_)) ((pk4 bs).size - (pk4 bs).at_) (c - (pk4 bs).at_) := rfl
  rw [hat, hsz] at hpv
  rw [hpv]
  obtain ⟨F, hF⟩ : ∃ F, F = fhf bs := ⟨_, rfl⟩
  rw [← hF] at CR hF0 hF2 hF4 hF5 hF7 HF9 hfl hfo
  obtain ⟨ihl, hihl⟩ : ∃ x, x = bs.getD 0 0 % 16 := ⟨_, rfl⟩
  obtain ⟨tot, htot⟩ : ∃ x, x = fhw bs 2 := ⟨_, rfl⟩
  obtain ⟨fl, hfl2⟩ : ∃ x, x = bs.getD 6 0 / 32 := ⟨_, rfl⟩
  obtain ⟨off, hoff⟩ : ∃ x, x = fhw bs 6 % 8192 := ⟨_, rfl⟩
  obtain ⟨pr, hpr⟩ : ∃ x, x = bs.getD 9 0 := ⟨_, rfl⟩
  obtain ⟨m, hm⟩ : ∃ m, m = 4 * ihl := ⟨_, rfl⟩
  have hfl8 : fl < 8 := by have := hby 6; omega
  rw [← hihl] at hF0 m20 hmt hY0
  rw [← htot] at hF2 hmt htn hY0
  rw [← hfl2] at hF4 hfr
  rw [← hoff] at hF5 hfr
  rw [← hpr] at hF7 hY0
  rw [← hm] at m20 hmt hY0
  rw [← hihl, ← htot, ← hm]
  have hm0 : m ≠ 0 := by omega
  obtain ⟨PV, hPV⟩ : ∃ P : Option Addr, P = if c = m then some ⟨b, o, none⟩ else (some (⟨b, o, none⟩ : Addr)).map (·.add m) := ⟨_, rfl⟩
  rw [← hPV]
  have HPV : Hid (PV = if c = m then some ⟨b, o, none⟩ else some ⟨b, o + m, none⟩) := by
    show PV = _
    rw [hPV]
    by_cases hcm : c = m <;> simp [hcm, Addr.add, hm0]
  clear hPV hm0
  obtain ⟨i1, i2, i3, i4, i5⟩ := pkfour_ints (by omega) hm hmt htn hc
  have x16 : (bs.getD 0 0 : Int) / 16 = 4 := by omega
  obtain ⟨x, hxx⟩ : ∃ x, x = bs.getD 0 0 := ⟨_, rfl⟩
  rw [← hxx] at c0 x16
  have n0 : (0 : Int) < (n : Int) := by omega
  have n0b : ((n : Int) == 0) = false := beq_false_of_ne (by omega)
  obtain ⟨ZF, hZF⟩ : ∃ ZF, ZF = fhz := ⟨_, rfl⟩
  have hZFl : ZF.length = 17 := by rw [hZF]; rfl
  have hlitF : (#[.int .i64 0, .int .i64 0, .int .i64 0, .int .i64 0, .int .i64 0, .int .i64 0, .int .i64 0, .int .i64 0, .int .i64 0, .int .u8 0, .int .u8 0, .int .u8 0, .int .u8 0, .int .u8 0, .int .u8 0, .int .u8 0, .int .u8 0] : Array Value) = ZF.toArray := by rw [hZF]; rfl
  obtain ⟨H0, hH0⟩ : ∃ H, H = hd4 bs 0 := ⟨_, rfl⟩
  have hH0l : H0.length = 40 := by rw [hH0]; rfl
  rw [← hH0] at hY0
  have hlitY : (#[.int .i64 4, .int .u8 0, .int .u8 0, .int .u8 0, .int .u8 0, .int .u8 0, .int .u8 0, .int .u8 0, .int .u8 0, .int .u8 0, .int .u8 0, .int .u8 0, .int .u8 0, .int .u8 0, .int .u8 0, .int .u8 0, .int .u8 0, .int .u8 0, .int .u8 0, .int .u8 0, .int .u8 0, .int .u8 0, .int .u8 0, .int .u8 0, .int .u8 0, .int .u8 0, .int .u8 0, .int .u8 0, .int .u8 0, .int .u8 0, .int .u8 0, .int .u8 0, .int .u8 0, .int .i64 (pr : Nat), .int .i64 (tot : Nat), .int .i64 (m : Nat), .int .i64 0, .bool false, .int .i64 0, .int .i64 0] : Array Value) = H0.toArray := by rw [hY0]
  have HLIT := Lib.hid hlit
  have hH0o : ∀ v ∈ H0, v.oneCell' = true := by rw [hY0]; simp [Value.oneCell']
  have HH0 := Lib.hid hH0
  have HFL := Lib.hid (And.intro hfl hfo)
  have HY := Lib.hid (And.intro hYl hYo)
  have HDONE := Lib.hid hdone
  have H435 : Hid ((hd4 bs 4)[34]? = some (.int .i64 (tot : Nat)) ∧ (hd4 bs 4)[35]? = some (.int .i64 (m : Nat)) ∧ (hd4 bs 4)[36]? = some (.int .i64 0) ∧ (hd4 bs 4).set 36 (.int .i64 0) = hd4 bs 4) := by
    rw [htot, hm, hihl]
    exact ⟨rfl, rfl, rfl, rfl⟩
  have HFRAG := Lib.hid hfr
  have HN := Lib.hid (And.intro hb hfl8)
  clear hgood h20 m20 hmt htn hval hby hlen hihl htot hfl2 hoff hpr hm hat hsz hfr hpv hZF hY0 hF hR hn2 hc hZ hg2 CH hH0 hxx hP hcell h4 d0 hdone hYo hYl
  go_enter Tryz.func40, Tryz.ntmps40
  go_upto_region 1 with fail
  rw [← e0, ← HG2.out]
  clear e0
  go_wp2_with fail
  refine (CH1.out _ HR.out).mono ?_
  rintro e w1 ⟨A9, c9, rfl, b1⟩
  have A1 := Lib.hid (HA.out.below b1)
  have B1 := Lib.hid (below_both HB.out b1)
  have R1 := Lib.hid (HR.out.below b1)
  clear b1 HA HB CH1 HR c0
  go_wp2_with fail
  refine (CR.out _ R1.out).mono ?_
  rintro e w2 ⟨rfl, b2⟩
  have A2 := Lib.hid (A1.out.below b2)
  have B2 := Lib.hid (below_both B1.out b2)
  clear b2 A1 B1 CR R1
  go_upto_region 8 with (first | refine wpList_store_v rfl 63 (.tmp 6) (.tmp 36) rfl _ rfl tyfour (ArrV.new _ _ ZF) hZFl F HFL.out.1 HFL.out.2 rfl ?_ | fail)
  obtain ⟨V5, e5⟩ : ∃ V, V = (w2.alloc (.cells ZF.toArray 63)).setCells w2.heap.size 0 F := ⟨_, rfl⟩
  obtain ⟨f5, hb5⟩ := ArrV.laid 63 w2 ZF F (by rw [HFL.out.1, hZFl])
  rw [← e5] at f5 hb5
  rw [← e5]
  obtain ⟨g5, hg5⟩ : ∃ g, g = w2.heap.size := ⟨_, rfl⟩
  have A5 := Lib.hid (A2.out.below hb5)
  have B5 := Lib.hid (below_both B2.out hb5)
  have HG5 : Hid (w.heap.size ≤ g5) := by show w.heap.size ≤ g5; rw [hg5]; exact B2.out.size
  rw [← hg5] at f5 ⊢
  have F5 := Lib.hid f5
  clear e5 hb5 hg5 A2 B2 hlitF f5
  clear hlit
  have x0 := (F5.out.get 0).trans hF0
  have x2 := (F5.out.get 2).trans hF2
  have x7 := (F5.out.get 7).trans hF7
  go_upto_region 9 with (first | refine wpList_store_v rfl 37 (.tmp 8) (.tmp 45) rfl _ rfl tyhead (ArrV.new _ _ _) (by rfl) H0 hH0l hH0o rfl ?_ | fail)
  rw [HLIT.out]
  obtain ⟨V6, e6⟩ : ∃ V, V = (V5.alloc (.cells Z.toArray 37)).setCells V5.heap.size 0 H0 := ⟨_, rfl⟩
  obtain ⟨h6, hb6⟩ := ArrV.laid 37 V5 Z H0 (by rw [hH0l, hZl])
  rw [← e6] at h6 hb6
  rw [← e6]
  obtain ⟨g7, hg7⟩ : ∃ g, g = V5.heap.size := ⟨_, rfl⟩
  have F6 := Lib.hid (F5.out.below hb6)
  have A6 := Lib.hid (A5.out.below hb6)
  have B6 := Lib.hid (below_both B5.out hb6)
  have HG7 : Hid (g7 ≠ g5 ∧ g7 ≠ g2 ∧ w.heap.size ≤ g7) := by
    refine ⟨?_, ?_, ?_⟩
    · rw [hg7]; exact Ne.symm (Nat.ne_of_lt F5.out.lt)
    · rw [hg7]; exact Ne.symm (Nat.ne_of_lt A5.out.lt)
    · rw [hg7]; exact B5.out.size
  rw [← hg7] at h6 ⊢
  rw [HH0.out] at h6
  have H6 := Lib.hid h6
  clear e6 hb6 hg7 F5 A5 B5 hlitY x0 x2 x7 h6
  go_wp2_with fail
  go_loopw [9] (fun i W => ∃ k : Nat, k ≤ 4 ∧ i = .int .i64 k ∧ ArrV 37 W g7 (hd4 bs k) ∧ ArrV 63 W g5 F ∧ ArrV 37 W g2 Z ∧ Below w.heap.size w W) (fun i W => 4 - (intOf i).toNat)
  case atStart => exact ⟨0, by omega, rfl, H6.out, F6.out, A6.out, B6.out⟩
  case round =>
    clear H6 F6 A6 B6
    obtain ⟨k, hk, rfl, hH, hF, hA, hB⟩ := hrel
    by_cases hlt : k < 4
    · have c9 := (hF.get (9 + k)).trans (HF9.out k hlt).1
      have c13 := (hF.get (13 + k)).trans (HF9.out k hlt).2
      have HFN : Hid (hd4 bs (k + 1) = ((hd4 bs k).set (1 + k) (.int .u8 (bs.getD (12 + k) 0 : Nat))).set (17 + k) (.int .u8 (bs.getD (16 + k) 0 : Nat))) := rfl
      obtain ⟨p, hp⟩ : ∃ p, p = bs.getD (12 + k) 0 := ⟨_, rfl⟩
      obtain ⟨q, hq⟩ : ∃ q, q = bs.getD (16 + k) 0 := ⟨_, rfl⟩
      rw [← hp] at c9 HFN
      rw [← hq] at c13 HFN
      obtain ⟨u, hu⟩ : ∃ u, (hd4 bs k)[1 + k]? = some u := ⟨_, List.getElem?_eq_getElem (by rw [hd4_len]; omega)⟩
      obtain ⟨v2, hv2⟩ : ∃ u, (hd4 bs k)[17 + k]? = some u := ⟨_, List.getElem?_eq_getElem (by rw [hd4_len]; omega)⟩
      have t1 := (hH.get (1 + k)).trans hu
      have t17 := (hH.get (17 + k)).trans hv2
      have f1 := hH.frozen (1 + k)
      have f17 := hH.frozen (17 + k)
      have hbg : g7 ≠ g5 := HG7.out.1
      have hgb : g5 ≠ g7 := Ne.symm hbg
      have HREL : Hid (ArrV 37 (((wr.setCell ⟨g7, 1 + k, none⟩ (.int .u8 (p : Nat))).setCell ⟨g7, 17 + k, none⟩ (.int .u8 (q : Nat))).drew) g7 (hd4 bs (k + 1)) ∧ ArrV 63 (((wr.setCell ⟨g7, 1 + k, none⟩ (.int .u8 (p : Nat))).setCell ⟨g7, 17 + k, none⟩ (.int .u8 (q : Nat))).drew) g5 F ∧ ArrV 37 (((wr.setCell ⟨g7, 1 + k, none⟩ (.int .u8 (p : Nat))).setCell ⟨g7, 17 + k, none⟩ (.int .u8 (q : Nat))).drew) g2 Z ∧
          Below w.heap.size w (((wr.setCell ⟨g7, 1 + k, none⟩ (.int .u8 (p : Nat))).setCell ⟨g7, 17 + k, none⟩ (.int .u8 (q : Nat))).drew)) := by
        refine ⟨?_, ?_, ?_, ?_⟩
        · rw [HFN.out]
          exact ((hH.set (1 + k) _).set (17 + k) _).drew
        · exact ((hF.other _ _ HG7.out.1).other _ _ HG7.out.1).drew
        · exact ((hA.other _ _ HG7.out.2.1).other _ _ HG7.out.2.1).drew
        · exact ((hB.setCell (p := ⟨g7, 1 + k, none⟩) HG7.out.2.2 _).setCell (p := ⟨g7, 17 + k, none⟩) HG7.out.2.2 _).drew
      clear hu hv2 hp hq hH hF hA hB hk
      have hk4 : k = 0 ∨ k = 1 ∨ k = 2 ∨ k = 3 := by omega
      clear hlt
      rcases hk4 with rfl | rfl | rfl | rfl
      all_goals
        simp only [Nat.reduceAdd, Nat.add_zero] at c9 c13 t1 t17 f1 f17 HREL
        go_upto_region 12 with fail
        go_region
        all_goals
          go_wp2_with fail
          go_roundw
          case rel => exact ⟨_, by decide, by go_num, HREL.out.1, HREL.out.2.1, HREL.out.2.2.1, HREL.out.2.2.2⟩
          case measure => simp [intOf]
    · obtain rfl : k = 4 := by omega
      clear hk hlt
      have x4 := (hF.get 4).trans hF4
      have x5 := (hF.get 5).trans hF5
      obtain ⟨U, eU⟩ : ∃ U, U = wr := ⟨_, rfl⟩
      rw [← eU] at hH hF hA hB x4 x5 ⊢
      clear eU
      by_cases hoff0 : off = 0
      · have ob : ¬ (0 : Int) < (off : Int) := by omega
        have ob2 : (off : Int) ≤ 0 := by omega
        obtain ⟨q, hq⟩ : ∃ q, q = fl % 2 := ⟨_, rfl⟩
        have r1 : (fl : Int) % 2 = (q : Int) := by omega
        have r2 : (fl : Int).tmod 2 = (q : Int) := by rw [Int.tmod_eq_emod_of_nonneg (by omega)]; omega
        by_cases hq1 : q = 1
        · have hfr : (pk4 bs).frag = 1 := by rw [HFRAG.out, if_neg (fun h => h hoff0), if_pos (by omega)]
          have qb : ((q : Int) == 1) = true := by rw [hq1]; rfl
          have hdn : (hd4 bs 4).set 36 (.int .i64 1) = hdCells (pk4 bs) false 0 0 := by
            have h := HDONE.out
            rw [hfr] at h
            exact h
          have u1 := hH.set 36 (.int .i64 1)
          rw [hdn] at u1
          have y36 := (hH.get 36).trans H435.out.2.2.1
          have fy36 := hH.frozen 36
          have A7 := hA.other ⟨g7, 36, none⟩ (.int .i64 1) HG7.out.2.1
          have B7 := hB.setCell (p := ⟨g7, 36, none⟩) HG7.out.2.2 (.int .i64 1)
          obtain ⟨W7, e7⟩ : ∃ W, W = U.setCell ⟨g7, 36, none⟩ (.int .i64 1) := ⟨_, rfl⟩
          rw [← e7] at u1 A7 B7
          have q34 : W7.cell? ⟨g7, 34, none⟩ = some (.int .i64 (tot : Nat)) := by
            rw [u1.get 34, ← hdn, List.getElem?_set_ne (by decide)]
            exact H435.out.1
          have q35 : W7.cell? ⟨g7, 35, none⟩ = some (.int .i64 (m : Nat)) := by
            rw [u1.get 35, ← hdn, List.getElem?_set_ne (by decide)]
            exact H435.out.2.1
          have U7 := Lib.hid u1
          have A7 := Lib.hid A7
          have B7 := Lib.hid B7
          have r34 : W7.drew.cell? ⟨g7, 34, none⟩ = some (.int .i64 (tot : Nat)) := q34
          have r35 : W7.drew.cell? ⟨g7, 35, none⟩ = some (.int .i64 (m : Nat)) := q35
          clear hH hF hA hB u1 hdn hq hq1 hoff0 hfr
          go_upto_region 17 with fail
          rw [← e7]
          clear e7 x4 x5 y36 fy36
          obtain ⟨Y, hY⟩ : ∃ Y, Y = hdCells (pk4 bs) false 0 0 := ⟨_, rfl⟩
          rw [← hY] at U7 HY
          have HYE := Lib.hid hY
          clear hY
          have K7 := Lib.hid (kv_pair A7.out U7.out B7.out (by rw [HG2.out]; exact Nat.le_refl _) HG7.out.2.2 HG7.out.2.1)
          have M34 := Lib.hid q34
          have Y34 : Hid (Y[34]? = some (.int .i64 (tot : Nat)) ∧ Y[35]? = some (.int .i64 (m : Nat))) := ⟨(U7.out.get 34).symm.trans q34, (U7.out.get 35).symm.trans q35⟩
          clear q34 q35 r34 r35
          refine wp_region_put (C0 := KV w [(37, g2, Z), (37, g7, Y)]) (C1 := KV w [(37, g2, Y), (37, g7, Y)]) [some (.agg Y.toArray), some (.slice (some ⟨b, o, none⟩) n c), some (.pointer (some ⟨g7, 35, none⟩)), some (.int .i64 (m : Nat)), some (.pointer (some ⟨g7, 34, none⟩)), some (.int .i64 (tot : Nat)), some (.slice PV (tot - m) (c - m)), none, some (.slice PV (tot - m) (c - m)), some (.slice none 0 0)] 7 [0] (by kernel_rfl) (by kernel_rfl) K7.out.drew ?_ (fun W9 hW9 => ?_)
          · refine putWalk_quiet rfl (fun W hw' => quietAt_part (off := 0) (n := 40) (vs := Y) rfl rfl tyhead (hw'.at 1 rfl) (by rw [List.drop_zero, List.take_of_length_le (Nat.le_of_eq HY.out.1)]) HY.out.1) (fun hna => absurd hna (by decide)) ?_
            simp only [Act.put, List.setIfInBounds_toArray, List.set_cons_zero, List.set_cons_succ]
            refine putWalk_quiet rfl (fun W hw' => quietAt_run rfl) (fun hna => fun W hw' => quietAt_run rfl) ?_
            simp only [Act.put, List.setIfInBounds_toArray, List.set_cons_zero, List.set_cons_succ]
            refine putWalk_quiet rfl (fun W hw' => quietAt_run rfl) (fun hna => fun W hw' => quietAt_run rfl) ?_
            simp only [Act.put, List.setIfInBounds_toArray, List.set_cons_zero, List.set_cons_succ]
            refine putWalk_quiet rfl (fun W hw' => quietAt_cell (j := 35) rfl rfl one_int (hw'.at 1 rfl) Y34.out.2) (fun hna => fun W hw' => quietAt_cell (j := 35) rfl rfl one_int (hw'.at 1 rfl) Y34.out.2) ?_
            simp only [Act.put, List.setIfInBounds_toArray, List.set_cons_zero, List.set_cons_succ]
            refine putWalk_quiet rfl (fun W hw' => quietAt_run rfl) (fun hna => fun W hw' => quietAt_run rfl) ?_
            simp only [Act.put, List.setIfInBounds_toArray, List.set_cons_zero, List.set_cons_succ]
            refine putWalk_quiet rfl (fun W hw' => quietAt_cell (j := 34) rfl rfl one_int (hw'.at 1 rfl) Y34.out.1) (fun hna => fun W hw' => quietAt_cell (j := 34) rfl rfl one_int (hw'.at 1 rfl) Y34.out.1) ?_
            simp only [Act.put, List.setIfInBounds_toArray, List.set_cons_zero, List.set_cons_succ]
            refine putWalk_quiet rfl (fun W hw' => quietAt_run (by rw [HPV.out]; by_cases hcm : c = m <;> first | (simp [go_sem, i2, i3, i4, i5, hcm]; done) | (have k4 : tot ≤ m := (by omega); have k3 : m ≤ tot := (by omega); simp [go_sem, hcm, k3, k4]))) (fun hna => fun W hw' => quietAt_run (by rw [HPV.out]; by_cases hcm : c = m <;> first | (simp [go_sem, i2, i3, i4, i5, hcm]; done) | (have k4 : tot ≤ m := (by omega); have k3 : m ≤ tot := (by omega); simp [go_sem, hcm, k3, k4]))) ?_
            simp only [Act.put, List.setIfInBounds_toArray, List.set_cons_zero, List.set_cons_succ]
            refine putWalk_put rfl (put_store 0 rfl rfl rfl rfl tyhead hZl HY.out.1 HY.out.2) ?_
            simp only [Act.put]
            refine putWalk_quiet rfl (fun W hw' => quietAt_run rfl) (fun hna => fun W hw' => quietAt_run rfl) ?_
            simp only [Act.put, List.setIfInBounds_toArray, List.set_cons_zero, List.set_cons_succ]
            refine putWalk_quiet rfl (fun W hw' => quietAt_run rfl) (fun hna => fun W hw' => quietAt_run rfl) ?_
            trivial
          · simp only [List.length_cons, List.length_nil, lexAct, pval, toK, List.map_cons, List.map_nil, List.getElem?_cons_zero, List.getElem?_cons_succ, Option.bind_some, Act.put, List.setIfInBounds_toArray, List.set_cons_zero, List.set_cons_succ]
            have hHS : ArrV 37 W9 g2 Y := hW9.at 0 rfl
            go_wp2_with fail
            exact bodyPost_ret (v := .tuple #[.agg Y.toArray, .slice PV (tot - m) (c - m), .slice none 0 0]) (res_cell_two Tryz.results40 rfl (hHS.loadVar tyhead HY.out.1) rfl rfl) rfl ⟨hW9.bel, by rw [HYE.out]⟩
        · have hfr : (pk4 bs).frag = 0 := by rw [HFRAG.out, if_neg (fun h => h hoff0), if_neg (by omega)]
          have qb : ((q : Int) == 1) = false := beq_false_of_ne (by omega)
          have hdn : hd4 bs 4 = hdCells (pk4 bs) false 0 0 := by
            have h := HDONE.out
            rw [hfr] at h
            exact H435.out.2.2.2.symm.trans h
          have u1 := hH
          rw [hdn] at u1
          have A7 := hA
          have B7 := hB
          obtain ⟨W7, e7⟩ : ∃ W, W = U := ⟨_, rfl⟩
          rw [← e7] at u1 A7 B7
          have q34 : W7.cell? ⟨g7, 34, none⟩ = some (.int .i64 (tot : Nat)) := by
            rw [e7, hH.get 34]
            exact H435.out.1
          have q35 : W7.cell? ⟨g7, 35, none⟩ = some (.int .i64 (m : Nat)) := by
            rw [e7, hH.get 35]
            exact H435.out.2.1
          have U7 := Lib.hid u1
          have A7 := Lib.hid A7
          have B7 := Lib.hid B7
          have r34 : W7.drew.cell? ⟨g7, 34, none⟩ = some (.int .i64 (tot : Nat)) := q34
          have r35 : W7.drew.cell? ⟨g7, 35, none⟩ = some (.int .i64 (m : Nat)) := q35
          clear hH hF hA hB u1 hdn hq hq1 hoff0 hfr
          go_upto_region 17 with fail
          rw [← e7]
          clear e7 x4 x5
          obtain ⟨Y, hY⟩ : ∃ Y, Y = hdCells (pk4 bs) false 0 0 := ⟨_, rfl⟩
          rw [← hY] at U7 HY
          have HYE := Lib.hid hY
          clear hY
          have K7 := Lib.hid (kv_pair A7.out U7.out B7.out (by rw [HG2.out]; exact Nat.le_refl _) HG7.out.2.2 HG7.out.2.1)
          have M34 := Lib.hid q34
          have Y34 : Hid (Y[34]? = some (.int .i64 (tot : Nat)) ∧ Y[35]? = some (.int .i64 (m : Nat))) := ⟨(U7.out.get 34).symm.trans q34, (U7.out.get 35).symm.trans q35⟩
          clear q34 q35 r34 r35
          refine wp_region_put (C0 := KV w [(37, g2, Z), (37, g7, Y)]) (C1 := KV w [(37, g2, Y), (37, g7, Y)]) [some (.agg Y.toArray), some (.slice (some ⟨b, o, none⟩) n c), some (.pointer (some ⟨g7, 35, none⟩)), some (.int .i64 (m : Nat)), some (.pointer (some ⟨g7, 34, none⟩)), some (.int .i64 (tot : Nat)), some (.slice PV (tot - m) (c - m)), none, some (.slice PV (tot - m) (c - m)), some (.slice none 0 0)] 7 [0] (by kernel_rfl) (by kernel_rfl) K7.out.drew ?_ (fun W9 hW9 => ?_)
          · refine putWalk_quiet rfl (fun W hw' => quietAt_part (off := 0) (n := 40) (vs := Y) rfl rfl tyhead (hw'.at 1 rfl) (by rw [List.drop_zero, List.take_of_length_le (Nat.le_of_eq HY.out.1)]) HY.out.1) (fun hna => absurd hna (by decide)) ?_
            simp only [Act.put, List.setIfInBounds_toArray, List.set_cons_zero, List.set_cons_succ]
            refine putWalk_quiet rfl (fun W hw' => quietAt_run rfl) (fun hna => fun W hw' => quietAt_run rfl) ?_
            simp only [Act.put, List.setIfInBounds_toArray, List.set_cons_zero, List.set_cons_succ]
            refine putWalk_quiet rfl (fun W hw' => quietAt_run rfl) (fun hna => fun W hw' => quietAt_run rfl) ?_
            simp only [Act.put, List.setIfInBounds_toArray, List.set_cons_zero, List.set_cons_succ]
            refine putWalk_quiet rfl (fun W hw' => quietAt_cell (j := 35) rfl rfl one_int (hw'.at 1 rfl) Y34.out.2) (fun hna => fun W hw' => quietAt_cell (j := 35) rfl rfl one_int (hw'.at 1 rfl) Y34.out.2) ?_
            simp only [Act.put, List.setIfInBounds_toArray, List.set_cons_zero, List.set_cons_succ]
            refine putWalk_quiet rfl (fun W hw' => quietAt_run rfl) (fun hna => fun W hw' => quietAt_run rfl) ?_
            simp only [Act.put, List.setIfInBounds_toArray, List.set_cons_zero, List.set_cons_succ]
            refine putWalk_quiet rfl (fun W hw' => quietAt_cell (j := 34) rfl rfl one_int (hw'.at 1 rfl) Y34.out.1) (fun hna => fun W hw' => quietAt_cell (j := 34) rfl rfl one_int (hw'.at 1 rfl) Y34.out.1) ?_
            simp only [Act.put, List.setIfInBounds_toArray, List.set_cons_zero, List.set_cons_succ]
            refine putWalk_quiet rfl (fun W hw' => quietAt_run (by rw [HPV.out]; by_cases hcm : c = m <;> first | (simp [go_sem, i2, i3, i4, i5, hcm]; done) | (have k4 : tot ≤ m := (by omega); have k3 : m ≤ tot := (by omega); simp [go_sem, hcm, k3, k4]))) (fun hna => fun W hw' => quietAt_run (by rw [HPV.out]; by_cases hcm : c = m <;> first | (simp [go_sem, i2, i3, i4, i5, hcm]; done) | (have k4 : tot ≤ m := (by omega); have k3 : m ≤ tot := (by omega); simp [go_sem, hcm, k3, k4]))) ?_
            simp only [Act.put, List.setIfInBounds_toArray, List.set_cons_zero, List.set_cons_succ]
            refine putWalk_put rfl (put_store 0 rfl rfl rfl rfl tyhead hZl HY.out.1 HY.out.2) ?_
            simp only [Act.put]
            refine putWalk_quiet rfl (fun W hw' => quietAt_run rfl) (fun hna => fun W hw' => quietAt_run rfl) ?_
            simp only [Act.put, List.setIfInBounds_toArray, List.set_cons_zero, List.set_cons_succ]
            refine putWalk_quiet rfl (fun W hw' => quietAt_run rfl) (fun hna => fun W hw' => quietAt_run rfl) ?_
            trivial
          · simp only [List.length_cons, List.length_nil, lexAct, pval, toK, List.map_cons, List.map_nil, List.getElem?_cons_zero, List.getElem?_cons_succ, Option.bind_some, Act.put, List.setIfInBounds_toArray, List.set_cons_zero, List.set_cons_succ]
            have hHS : ArrV 37 W9 g2 Y := hW9.at 0 rfl
            go_wp2_with fail
            exact bodyPost_ret (v := .tuple #[.agg Y.toArray, .slice PV (tot - m) (c - m), .slice none 0 0]) (res_cell_two Tryz.results40 rfl (hHS.loadVar tyhead HY.out.1) rfl rfl) rfl ⟨hW9.bel, by rw [HYE.out]⟩
      · have ob : (0 : Int) < (off : Int) := by omega
        have hfr : (pk4 bs).frag = 2 := by rw [HFRAG.out, if_pos hoff0]
        have hdn : (hd4 bs 4).set 36 (.int .i64 2) = hdCells (pk4 bs) false 0 0 := by
          have h := HDONE.out
          rw [hfr] at h
          exact h
        have u1 := hH.set 36 (.int .i64 2)
        rw [hdn] at u1
        have y36 := (hH.get 36).trans H435.out.2.2.1
        have fy36 := hH.frozen 36
        have A7 := hA.other ⟨g7, 36, none⟩ (.int .i64 2) HG7.out.2.1
        have B7 := hB.setCell (p := ⟨g7, 36, none⟩) HG7.out.2.2 (.int .i64 2)
        obtain ⟨W7, e7⟩ : ∃ W, W = U.setCell ⟨g7, 36, none⟩ (.int .i64 2) := ⟨_, rfl⟩
        rw [← e7] at u1 A7 B7
        have q34 : W7.cell? ⟨g7, 34, none⟩ = some (.int .i64 (tot : Nat)) := by
          rw [u1.get 34, ← hdn, List.getElem?_set_ne (by decide)]
          exact H435.out.1
        have q35 : W7.cell? ⟨g7, 35, none⟩ = some (.int .i64 (m : Nat)) := by
          rw [u1.get 35, ← hdn, List.getElem?_set_ne (by decide)]
          exact H435.out.2.1
        have U7 := Lib.hid u1
        have A7 := Lib.hid A7
        have B7 := Lib.hid B7
        have r34 : W7.drew.cell? ⟨g7, 34, none⟩ = some (.int .i64 (tot : Nat)) := q34
        have r35 : W7.drew.cell? ⟨g7, 35, none⟩ = some (.int .i64 (m : Nat)) := q35
        clear hH hF hA hB u1 hdn hoff0 hfr
        go_upto_region 17 with fail
        rw [← e7]
        clear e7 x4 x5 y36 fy36
        obtain ⟨Y, hY⟩ : ∃ Y, Y = hdCells (pk4 bs) false 0 0 := ⟨_, rfl⟩
        rw [← hY] at U7 HY
        have HYE := Lib.hid hY
        clear hY
        have K7 := Lib.hid (kv_pair A7.out U7.out B7.out (by rw [HG2.out]; exact Nat.le_refl _) HG7.out.2.2 HG7.out.2.1)
        have M34 := Lib.hid q34
        have Y34 : Hid (Y[34]? = some (.int .i64 (tot : Nat)) ∧ Y[35]? = some (.int .i64 (m : Nat))) := ⟨(U7.out.get 34).symm.trans q34, (U7.out.get 35).symm.trans q35⟩
        clear q34 q35 r34 r35
        refine wp_region_put (C0 := KV w [(37, g2, Z), (37, g7, Y)]) (C1 := KV w [(37, g2, Y), (37, g7, Y)]) [some (.agg Y.toArray), some (.slice (some ⟨b, o, none⟩) n c), some (.pointer (some ⟨g7, 35, none⟩)), some (.int .i64 (m : Nat)), some (.pointer (some ⟨g7, 34, none⟩)), some (.int .i64 (tot : Nat)), some (.slice PV (tot - m) (c - m)), none, some (.slice PV (tot - m) (c - m)), some (.slice none 0 0)] 7 [0] (by kernel_rfl) (by kernel_rfl) K7.out.drew ?_ (fun W9 hW9 => ?_)
        · refine putWalk_quiet rfl (fun W hw' => quietAt_part (off := 0) (n := 40) (vs := Y) rfl rfl tyhead (hw'.at 1 rfl) (by rw [List.drop_zero, List.take_of_length_le (Nat.le_of_eq HY.out.1)]) HY.out.1) (fun hna => absurd hna (by decide)) ?_
          simp only [Act.put, List.setIfInBounds_toArray, List.set_cons_zero, List.set_cons_succ]
          refine putWalk_quiet rfl (fun W hw' => quietAt_run rfl) (fun hna => fun W hw' => quietAt_run rfl) ?_
          simp only [Act.put, List.setIfInBounds_toArray, List.set_cons_zero, List.set_cons_succ]
          refine putWalk_quiet rfl (fun W hw' => quietAt_run rfl) (fun hna => fun W hw' => quietAt_run rfl) ?_
          simp only [Act.put, List.setIfInBounds_toArray, List.set_cons_zero, List.set_cons_succ]
          refine putWalk_quiet rfl (fun W hw' => quietAt_cell (j := 35) rfl rfl one_int (hw'.at 1 rfl) Y34.out.2) (fun hna => fun W hw' => quietAt_cell (j := 35) rfl rfl one_int (hw'.at 1 rfl) Y34.out.2) ?_
          simp only [Act.put, List.setIfInBounds_toArray, List.set_cons_zero, List.set_cons_succ]
          refine putWalk_quiet rfl (fun W hw' => quietAt_run rfl) (fun hna => fun W hw' => quietAt_run rfl) ?_
          simp only [Act.put, List.setIfInBounds_toArray, List.set_cons_zero, List.set_cons_succ]
          refine putWalk_quiet rfl (fun W hw' => quietAt_cell (j := 34) rfl rfl one_int (hw'.at 1 rfl) Y34.out.1) (fun hna => fun W hw' => quietAt_cell (j := 34) rfl rfl one_int (hw'.at 1 rfl) Y34.out.1) ?_
          simp only [Act.put, List.setIfInBounds_toArray, List.set_cons_zero, List.set_cons_succ]
          refine putWalk_quiet rfl (fun W hw' => quietAt_run (by rw [HPV.out]; by_cases hcm : c = m <;> first | (simp [go_sem, i2, i3, i4, i5, hcm]; done) | (have k4 : tot ≤ m := (by omega); have k3 : m ≤ tot := (by omega); simp [go_sem, hcm, k3, k4]))) (fun hna => fun W hw' => quietAt_run (by rw [HPV.out]; by_cases hcm : c = m <;> first | (simp [go_sem, i2, i3, i4, i5, hcm]; done) | (have k4 : tot ≤ m := (by omega); have k3 : m ≤ tot := (by omega); simp [go_sem, hcm, k3, k4]))) ?_
          simp only [Act.put, List.setIfInBounds_toArray, List.set_cons_zero, List.set_cons_succ]
          refine putWalk_put rfl (put_store 0 rfl rfl rfl rfl tyhead hZl HY.out.1 HY.out.2) ?_
          simp only [Act.put]
          refine putWalk_quiet rfl (fun W hw' => quietAt_run rfl) (fun hna => fun W hw' => quietAt_run rfl) ?_
          simp only [Act.put, List.setIfInBounds_toArray, List.set_cons_zero, List.set_cons_succ]
          refine putWalk_quiet rfl (fun W hw' => quietAt_run rfl) (fun hna => fun W hw' => quietAt_run rfl) ?_
          trivial
        · simp only [List.length_cons, List.length_nil, lexAct, pval, toK, List.map_cons, List.map_nil, List.getElem?_cons_zero, List.getElem?_cons_succ, Option.bind_some, Act.put, List.setIfInBounds_toArray, List.set_cons_zero, List.set_cons_succ]
          have hHS : ArrV 37 W9 g2 Y := hW9.at 0 rfl
          go_wp2_with fail
          exact bodyPost_ret (v := .tuple #[.agg Y.toArray, .slice PV (tot - m) (c - m), .slice none 0 0]) (res_cell_two Tryz.results40 rfl (hHS.loadVar tyhead HY.out.1) rfl rfl) rfl ⟨hW9.bel, by rw [HYE.out]⟩
end Go.Proofs.YtmchclpkjjmocaaGreat

namespace Go.Proofs.YtmchclpkjjmocaaGreat
open Go.RowKit
set_option linter.unusedVariables false
set_option maxRecDepth 8000

theorem allocwalk (W : World) : (Instr.alloc 99 true (.tuple #[])).run Tryz.prog W = .ok (.pointer (some ⟨W.heap.size, 0, none⟩)) (W.alloc (.cells walkZ.toArray 99)) := by
  unfold walkZ
  simp [go_sem]
theorem rsix_ints {p a n c s m : Nat} (hs : s = 40 + p) (hm : m = 40 + a) (h1 : a ≤ p) (h2 : s ≤ n) (h3 : n ≤ c) (h4 : n ≤ 140737488351232) : wrap64 (40 + (p : Int)) = (s : Int) ∧ wrap64 (40 + (a : Int)) = (m : Int) ∧ (0 : Int) ≤ (m : Int) ∧ (m : Int) ≤ (s : Int) ∧ (s : Int) ≤ (c : Int) ∧ (0 : Int) ≤ (s : Int) ∧ (40 : Int) ≤ (s : Int) ∧ IntKind.i64.wrap (40 + (p : Int)) = (s : Int) ∧ IntKind.i64.wrap (40 + (a : Int)) = (m : Int) ∧ s - 40 = p := by
  subst hs hm
  refine ⟨by unfold wrap64; omega, by unfold wrap64; omega, by omega, by omega, by omega, by omega, by omega, ?_, ?_, by omega⟩
  · rw [IntWalk.i64_in _ (by omega)]; omega
  · rw [IntWalk.i64_in _ (by omega)]; omega
set_option maxHeartbeats 6400000 in
theorem rparts_six (A : Option Addr) (n c : Nat) (bs : List Nat) (w : World) (hn2 : n ≤ 140737488351232) (hc : n ≤ c) (hR : Row w A n bs) (h6 : bs.getD 0 0 / 16 = 6) (hgood : sxall n bs = []) :
    Calls Tryz.prog 40 #[.slice A n c] w fun e w' => Below w.heap.size w w' ∧ e = .returned (.tuple #[.agg (hdCells (pk6 bs) false 0 0).toArray, pkPv A c (pk6 bs), .slice none 0 0]) := by
  have hn3 : n ≤ 140737488355328 := Nat.le_trans hn2 (by decide)
  obtain ⟨Z, hZ⟩ : ∃ Z, Z = hdCells RZ false 0 0 := ⟨_, rfl⟩
  obtain ⟨hZl, hZo⟩ := hdCells_all rz_ok
  have hlit := hd_lit
  obtain ⟨V, e0⟩ : ∃ V, V = w.alloc (.cells Z.toArray 37) := ⟨_, rfl⟩
  rw [← hZ] at hZl hZo hlit
  obtain ⟨g2, hg2⟩ : ∃ g, g = w.heap.size := ⟨_, rfl⟩
  have HG2 := Lib.hid hg2
  have K0 : Hid (KV w [(37, g2, Z)] V) := by show KV _ _ _; rw [e0, hg2]; exact KV.low (Below.refl _ _) _ _
  obtain ⟨d0, h40, hrest, hrl, hdf⟩ := sxall_nil hR.1 hgood
  have n0 : (0 : Int) < (n : Int) := by omega
  have n0b : ((n : Int) == 0) = false := beq_false_of_ne (by omega)
  have hby := hR.byte
  have hlen := hR.1
  have hbb := hR.2.1
  obtain ⟨b, o, rfl, hb, hcell⟩ := hR.addr (by omega)
  have c0 := (K0.out.bel.cell (p := ⟨b, o, none⟩) hb).trans (hcell 0 (by omega))
  have HR := Lib.hid hR
  have CH := Lib.hid (fun w (hR : Row w (some ⟨b, o, none⟩) n bs) => rsxall_any (some ⟨b, o, none⟩) n c bs w hn3 hc hR)
  unfold SxAllIs at CH
  have CH1 : Hid (∀ W, Row W (some ⟨b, o, none⟩) n bs → Calls Tryz.prog 59 #[.slice (some ⟨b, o, none⟩) n c] W fun e w' => ∃ A9 c9, e = .returned (.slice A9 0 c9) ∧ Below W.heap.size W w') := fun W hW => (CH.out W hW).mono fun e w' h => by
    obtain ⟨v, rfl, hd, hb⟩ := h
    obtain ⟨A9, c9, rfl, _, _⟩ := hd
    rw [hgood]
    exact ⟨A9, c9, rfl, hb⟩
  have CR := Lib.hid (fun w (hR : Row w (some ⟨b, o, none⟩) n bs) => rsxread_any (some ⟨b, o, none⟩) n c bs w hn3 hc hR)
  unfold SxReadIs at CR
  have hval : sxval n bs = sxF bs := by unfold sxval; rw [if_pos d0]
  rw [hval, d0] at CR
  obtain ⟨PA, hPA⟩ : ∃ PA : Option Addr, PA = if c = 40 then some ⟨b, o, none⟩ else some ⟨b, o + 40, none⟩ := ⟨_, rfl⟩
  have hrow : ∀ W, Row W (some ⟨b, o, none⟩) n bs → Row W PA (sxPay bs) (pkRest bs) := fun W hW => by
    rw [hPA]
    by_cases hca : c = 40
    · rw [if_pos hca]
      have h0 : sxPay bs = 0 := by omega
      have h1 : pkRest bs = [] := by unfold pkRest; rw [h0, List.take_zero]
      rw [h0, h1]
      exact Row.nil _ _
    · rw [if_neg hca]
      exact hW.part 40 (sxPay bs) (by omega)
  have CG : Hid (∀ W, Row W (some ⟨b, o, none⟩) n bs → Calls Tryz.prog 61 #[.int .i64 (sxNext bs : Nat), .slice PA (sxPay bs) (c - 40)] W fun e w' => e = .returned (.tuple #[.agg (pkTour bs).walk.toArray, .slice none 0 0]) ∧ Below W.heap.size W w') := fun W hW => by
    have h := rexgo_nil (sxNext bs : Nat) PA (sxPay bs) (c - 40) (pkRest bs) W (by omega) (by omega) (hrow W hW)
    have e := (walkS_walkF (sxPay bs) (pkRest bs) 9 (Tour.start ((sxNext bs : Nat) : Int)) [] [] rfl).1
    rw [← e] at h
    have e2 : (walkF (sxPay bs) (pkRest bs) 9 (Tour.start ((sxNext bs : Nat) : Int)) []).1 = pkTour bs := by unfold pkTour; rw [hrl]
    rw [e2] at h
    refine h.mono fun e w' h => ?_
    obtain ⟨v, h1, _, h3, h4⟩ := h
    rw [h4 hdf] at h1
    refine ⟨?_, h3⟩
    rw [h1]
    unfold Tour.told
    rw [if_pos hdf]
  obtain ⟨ok, _⟩ := walkF_ok (k := ((sxNext bs : Nat) : Int)) (n := (pkRest bs).length) (bs := pkRest bs) 9 (Tour.start ((sxNext bs : Nat) : Int)) [] (start_ok _ _) rfl rfl
  have hat : (pkTour bs).at_ ≤ sxPay bs := by rw [← hrl]; exact ok.at_
  have hF3 : (sxF bs)[3]? = some (.int .i64 (sxNext bs : Nat)) := rfl
  have hF2 : (sxF bs)[2]? = some (.int .i64 (sxPay bs : Nat)) := rfl
  have hFS : Hid (∀ (j : Nat) v, (bcells ((bs.drop 8).take 16))[j]? = some v → (sxF bs)[5 + j]? = some v) := fun j v h => by
    unfold sxF
    have hj := (List.getElem?_eq_some_iff.1 h).1
    rw [List.append_assoc, List.getElem?_append_right (by show 5 ≤ 5 + j; omega), show 5 + j - (sxNums (be (bs.take 8))).length = j by show 5 + j - 5 = j; omega, List.getElem?_append_left hj]
    exact h
  have hsl : (bcells ((bs.drop 8).take 16)).length = 16 := by rw [bcells_length, List.length_take, List.length_drop]; omega
  have hdl : (bcells ((bs.drop 24).take 16)).length = 16 := by rw [bcells_length, List.length_take, List.length_drop]; omega
  have hFT : Hid (∀ (j : Nat) v, (bcells ((bs.drop 24).take 16))[j]? = some v → (sxF bs)[21 + j]? = some v) := fun j v h => by
    unfold sxF
    have hj := (List.getElem?_eq_some_iff.1 h).1
    have e5 : (sxNums (be (bs.take 8))).length = 5 := rfl
    rw [List.getElem?_append_right (by rw [List.length_append, hsl, e5]; omega), List.length_append, hsl, e5, show 21 + j - (5 + 16) = j by omega]
    exact h
  have hFl : (sxF bs).length = 37 := by
    unfold sxF
    rw [List.length_append, List.length_append, hsl, hdl]
    rfl
  have hFo : ∀ v ∈ sxF bs, v.oneCell' = true := by
    intro v hv
    unfold sxF at hv
    rcases List.mem_append.1 hv with hv | hv
    · rcases List.mem_append.1 hv with hv | hv
      · unfold sxNums at hv
        simp at hv
        rcases hv with rfl | rfl | rfl | rfl | rfl <;> rfl
      · exact bcells_one _ v hv
    · exact bcells_one _ v hv
  have hSo := bcells_one ((bs.drop 8).take 16)
  have hTo := bcells_one ((bs.drop 24).take 16)
  have hY : hdCells (pk6 bs) false 0 0 = .int .i64 6 :: (bcells ((bs.drop 8).take 16) ++ (bcells ((bs.drop 24).take 16) ++ [.int .i64 (pkTour bs).proto, .int .i64 (40 + sxPay bs : Nat), .int .i64 (40 + (pkTour bs).at_ : Nat), .int .i64 ((pkTour bs).frag : Nat), .bool false, .int .i64 0, .int .i64 0])) := rfl
  have hpv : pkPv (some ⟨b, o, none⟩) c (pk6 bs) = .slice (if c = 40 + (pkTour bs).at_ then some ⟨b, o, none⟩ else (some (⟨b, o, none⟩ : Addr)).map (·.add (40 + (pkTour bs).at_))) (40 + sxPay bs - (40 + (pkTour bs).at_)) (c - (40 + (pkTour bs).at_)) := rfl
  rw [hpv]
  have hwl : (pkTour bs).walk = [.int .i64 (pkTour bs).proto, .int .i64 ((pkTour bs).at_ : Nat), .int .i64 ((pkTour bs).frag : Nat), .int .i64 ((pkTour bs).off : Nat), .int .i64 ((pkTour bs).count : Nat)] := rfl
  rw [hwl] at CG
  obtain ⟨F, hF⟩ : ∃ F, F = sxF bs := ⟨_, rfl⟩
  obtain ⟨S, hS⟩ : ∃ S, S = bcells ((bs.drop 8).take 16) := ⟨_, rfl⟩
  obtain ⟨T, hT⟩ : ∃ T, T = bcells ((bs.drop 24).take 16) := ⟨_, rfl⟩
  obtain ⟨p, hp⟩ : ∃ p, p = sxPay bs := ⟨_, rfl⟩
  obtain ⟨nx, hnx⟩ : ∃ x, x = sxNext bs := ⟨_, rfl⟩
  obtain ⟨pr, hpr⟩ : ∃ x, x = (pkTour bs).proto := ⟨_, rfl⟩
  obtain ⟨at0, hat0⟩ : ∃ x, x = (pkTour bs).at_ := ⟨_, rfl⟩
  obtain ⟨fg, hfg⟩ : ∃ x, x = (pkTour bs).frag := ⟨_, rfl⟩
  obtain ⟨of0, hof0⟩ : ∃ x, x = (pkTour bs).off := ⟨_, rfl⟩
  obtain ⟨ct, hct⟩ : ∃ x, x = (pkTour bs).count := ⟨_, rfl⟩
  obtain ⟨s0, hs0⟩ : ∃ s, s = 40 + p := ⟨_, rfl⟩
  obtain ⟨m, hm⟩ : ∃ m, m = 40 + at0 := ⟨_, rfl⟩
  rw [← hF] at CR hF2 hF3 hFS hFT hFl hFo
  rw [← hS] at hFS hsl hSo hY
  rw [← hT] at hFT hdl hTo hY
  rw [← hp] at CG hF2 hat h40 hY
  rw [← hp]
  rw [← hnx] at CG hF3
  rw [← hpr, ← hat0, ← hfg, ← hof0, ← hct] at CG
  rw [← hpr, ← hat0, ← hfg] at hY
  rw [← hat0] at hat
  rw [← hat0]
  rw [← hs0] at h40 hY
  rw [← hs0]
  rw [← hm] at hY
  rw [← hm]
  obtain ⟨i1, i2, i3, i4, i5, i6, i7, i8, i9, i10⟩ := rsix_ints hs0 hm hat h40 hc hn2
  have hm0 : m ≠ 0 := by rw [hm]; exact Nat.ne_of_gt (Nat.lt_of_lt_of_le (by decide) (Nat.le_add_right 40 _))
  obtain ⟨PV, hPV⟩ : ∃ P : Option Addr, P = if c = m then some ⟨b, o, none⟩ else (some (⟨b, o, none⟩ : Addr)).map (·.add m) := ⟨_, rfl⟩
  rw [← hPV]
  have HPV : Hid (PV = if c = m then some ⟨b, o, none⟩ else some ⟨b, o + m, none⟩) := by
    show PV = _
    rw [hPV]
    by_cases hcm : c = m <;> simp [hcm, Addr.add, hm0]
  clear hPV hm0
  obtain ⟨Y, hYY⟩ : ∃ Y, Y = hdCells (pk6 bs) false 0 0 := ⟨_, rfl⟩
  rw [← hYY] at hY
  rw [← hYY]
  have HPA := Lib.hid hPA
  have x16 : (bs.getD 0 0 : Int) / 16 = 6 := by omega
  obtain ⟨x, hxx⟩ : ∃ x, x = bs.getD 0 0 := ⟨_, rfl⟩
  rw [← hxx] at c0 x16
  obtain ⟨ZF, hZF⟩ : ∃ ZF, ZF = sxZ := ⟨_, rfl⟩
  have hZFl : ZF.length = 37 := by rw [hZF]; rfl
  have HFL := Lib.hid (And.intro hFl hFo)
  have HST := Lib.hid (And.intro hsl (And.intro hdl (And.intro hSo hTo)))
  have HYE := Lib.hid hY
  have HF2 := Lib.hid hF2
  have HF3 := Lib.hid hF3
  have HM := Lib.hid (And.intro hs0 (And.intro hm (And.intro h40 (And.intro hc hat))))
  have CH2 := CH1
  clear hgood h6 hn2 hn3 hc hR d0 h40 hrest hrl hdf hby hlen hbb hcell CH CH1 hval hPA hrow ok hat hF2 hF3 hsl hdl hFl hFo hSo hTo hpv hwl hF hS hT hp hnx hpr hat0 hfg hof0 hct hs0 hm hYY hxx hY hZ hg2
  go_enter Tryz.func40, Tryz.ntmps40
  go_upto_region 1 with fail
  rw [← e0, ← HG2.out]
  clear e0
  go_wp2_with fail
  refine (CH2.out _ (HR.out.below K0.out.bel)).mono ?_
  rintro e w1 ⟨A9, c9, rfl, b1⟩
  have K1 := Lib.hid (K0.out.below b1)
  clear b1 K0 c0 CH2
  go_wp2_with fail
  refine (CR.out _ (HR.out.below K1.out.bel)).mono ?_
  rintro e w2 ⟨rfl, b2⟩
  have K2 := Lib.hid (K1.out.below b2)
  clear b2 K1 CR
  have hlitF : (#[.int .i64 0, .int .i64 0, .int .i64 0, .int .i64 0, .int .i64 0, .int .u8 0, .int .u8 0, .int .u8 0, .int .u8 0, .int .u8 0, .int .u8 0, .int .u8 0, .int .u8 0, .int .u8 0, .int .u8 0, .int .u8 0, .int .u8 0, .int .u8 0, .int .u8 0, .int .u8 0, .int .u8 0, .int .u8 0, .int .u8 0, .int .u8 0, .int .u8 0, .int .u8 0, .int .u8 0, .int .u8 0, .int .u8 0, .int .u8 0, .int .u8 0, .int .u8 0, .int .u8 0, .int .u8 0, .int .u8 0, .int .u8 0, .int .u8 0] : Array Value) = ZF.toArray := by rw [hZF]; rfl
  clear hZF
  go_upto_region 23 with (first | refine wpList_store_v rfl 95 (.tmp 11) (.tmp 95) rfl _ rfl tysix (ArrV.new _ _ ZF) hZFl F HFL.out.1 HFL.out.2 rfl ?_ | fail)
  have k3 := (K2.out.new 95 ZF).store 1 rfl F (by rw [HFL.out.1, hZFl])
  obtain ⟨V3, e3⟩ : ∃ V, V = (w2.alloc (.cells ZF.toArray 95)).setCells w2.heap.size 0 F := ⟨_, rfl⟩
  rw [← e3] at k3
  rw [← e3]
  obtain ⟨g11, hg11⟩ : ∃ g, g = w2.heap.size := ⟨_, rfl⟩
  rw [← hg11] at k3
  rw [← hg11]
  have K3 : Hid (KV w [(37, g2, Z), (95, g11, F)] V3) := k3
  clear e3 hg11 K2 k3 hlitF
  have hRW : ∀ E W, KV w ([(37, g2, Z), (95, g11, F)] ++ E) W → Row W (some ⟨b, o, none⟩) n bs := fun E W h => HR.out.below h.bel
  have HRW := Lib.hid hRW
  clear hRW
  refine wp_region_par (w := w) [.quiet (.pointer (some ⟨g11, 3, none⟩)), .quiet (.int .i64 (nx : Nat)), .quiet (.slice (some ⟨b, o, none⟩) n c), .quiet (.pointer (some ⟨g11, 2, none⟩)), .quiet (.int .i64 (p : Nat)), .quiet (.int .i64 (s0 : Nat)), .quiet (.slice PA p (c - 40)), .quiet (.tuple #[.agg #[.int .i64 pr, .int .i64 (at0 : Nat), .int .i64 (fg : Nat), .int .i64 (of0 : Nat), .int .i64 (ct : Nat)], .slice none 0 0]), .quiet (.tuple #[.agg #[.int .i64 pr, .int .i64 (at0 : Nat), .int .i64 (fg : Nat), .int .i64 (of0 : Nat), .int .i64 (ct : Nat)], .slice none 0 0]), .quiet (.agg #[.int .i64 pr, .int .i64 (at0 : Nat), .int .i64 (fg : Nat), .int .i64 (of0 : Nat), .int .i64 (ct : Nat)]), .quiet (.slice none 0 0), .alloc 99 walkZ (some (12, [.int .i64 pr, .int .i64 (at0 : Nat), .int .i64 (fg : Nat), .int .i64 (of0 : Nat), .int .i64 (ct : Nat)])), .store 11, .quiet (.slice none 0 0)] [(37, g2, Z), (95, g11, F)] (by kernel_rfl) (by kernel_rfl) K3.out.drew (fun bk => ?_) ?_
  · clear K3
    refine pWalk_quiet rfl (fun E W hw' => quietAt_run rfl) ?_
    simp only [Act.put, List.setIfInBounds_toArray, List.set_cons_zero, List.set_cons_succ]
    refine pWalk_quiet rfl (fun E W hw' => quietAt_cell (j := 3) rfl rfl one_int (hw'.at 1 rfl) HF3.out) ?_
    simp only [Act.put, List.setIfInBounds_toArray, List.set_cons_zero, List.set_cons_succ]
    refine pWalk_quiet rfl (fun E W hw' => quietAt_run rfl) ?_
    simp only [Act.put, List.setIfInBounds_toArray, List.set_cons_zero, List.set_cons_succ]
    refine pWalk_quiet rfl (fun E W hw' => quietAt_run rfl) ?_
    simp only [Act.put, List.setIfInBounds_toArray, List.set_cons_zero, List.set_cons_succ]
    refine pWalk_quiet rfl (fun E W hw' => quietAt_cell (j := 2) rfl rfl one_int (hw'.at 1 rfl) HF2.out) ?_
    simp only [Act.put, List.setIfInBounds_toArray, List.set_cons_zero, List.set_cons_succ]
    refine pWalk_quiet rfl (fun E W hw' => quietAt_run (by simp [go_sem, i8])) ?_
    simp only [Act.put, List.setIfInBounds_toArray, List.set_cons_zero, List.set_cons_succ]
    refine pWalk_quiet rfl (fun E W hw' => quietAt_run (by
      rw [HPA.out]
      by_cases hcm : c = 40
      · have k4 : s0 ≤ 40 := (by omega)
        have k3 : 40 ≤ s0 := (by omega)
        have k5 : p = 0 := (by have := HM.out.1; omega)
        have k6 : s0 = 40 := (by omega)
        simp [go_sem, hcm, k5, k6]
      · have k3 : 40 ≤ s0 := (by omega)
        have k4 : s0 ≤ c := (by omega)
        simp [go_sem, hcm, i7, i5, i10])) ?_
    simp only [Act.put, List.setIfInBounds_toArray, List.set_cons_zero, List.set_cons_succ]
    refine pWalk_quiet rfl (fun E W hw' => quietAt_call (f := 61) (args := #[.int .i64 (nx : Nat), .slice PA p (c - 40)]) (by simp [go_sem]) ((CG.out W (HRW.out E W hw')).mono fun e w'' h => ⟨h.1, hw'.below h.2⟩)) ?_
    simp only [Act.put, List.setIfInBounds_toArray, List.set_cons_zero, List.set_cons_succ]
    refine pWalk_quiet rfl (fun E W hw' => quietAt_run rfl) ?_
    simp only [Act.put, List.setIfInBounds_toArray, List.set_cons_zero, List.set_cons_succ]
    refine pWalk_quiet rfl (fun E W hw' => quietAt_run (by simp [go_sem])) ?_
    simp only [Act.put, List.setIfInBounds_toArray, List.set_cons_zero, List.set_cons_succ]
    refine pWalk_quiet rfl (fun E W hw' => quietAt_run (by simp [go_sem])) ?_
    simp only [Act.put, List.setIfInBounds_toArray, List.set_cons_zero, List.set_cons_succ]
    refine pWalk_var rfl rfl allocwalk ?_
    simp only [Act.put, List.setIfInBounds_toArray, List.set_cons_zero, List.set_cons_succ]
    refine pWalk_put rfl rfl rfl rfl rfl tywalk rfl rfl (by simp [Value.oneCell']) ?_
    simp only [Act.put]
    refine pWalk_quiet rfl (fun E W hw' => quietAt_run rfl) ?_
    trivial
  · intro bk κ E w3 hK hB
    obtain ⟨l2, gg⟩ := hB.at_ 11 _ _ _ rfl rfl
    simp only [List.length_cons, List.length_nil] at l2
    obtain ⟨g13, e13⟩ : ∃ x, x = bk 11 := ⟨_, rfl⟩
    have K4 : Hid (KV w [(37, g2, Z), (95, g11, F), (99, g13, [.int .i64 pr, .int .i64 (at0 : Nat), .int .i64 (fg : Nat), .int .i64 (of0 : Nat), .int .i64 (ct : Nat)])] w3) := by
      rw [e13]
      refine hK.pick [0, 1, κ 11] ?_ rfl ?_
      · simp
        omega
      · intro q hq
        simp at hq
        rcases hq with rfl | rfl | rfl
        · rfl
        · rfl
        · exact gg
    clear l2 gg hK hB K3 CG HRW
    simp only [List.length_cons, List.length_nil, lexAct, pval, List.getElem?_cons_zero, List.getElem?_cons_succ, Option.bind_some, Act.put, List.setIfInBounds_toArray, List.set_cons_zero, List.set_cons_succ]
    rw [← e13]
    clear e13
    have HLIT := Lib.hid hlit
    clear hlit
    have q2 := ((K4.out.at 1 rfl).get 2).trans HF2.out
    have v0 := (K4.out.at 2 rfl).get 0
    have v1 := (K4.out.at 2 rfl).get 1
    have v2 := (K4.out.at 2 rfl).get 2
    simp only [List.getElem?_cons_zero, List.getElem?_cons_succ] at v0 v1 v2
    obtain ⟨Sl, Tl, So, To⟩ := HST.out
    have hYl : Y.length = 40 := by rw [HYE.out]; simp [Sl, Tl]
    have hYo : ∀ v ∈ Y, v.oneCell' = true := by
      intro v hv
      rw [HYE.out] at hv
      rcases List.mem_cons.1 hv with rfl | hv
      · rfl
      rcases List.mem_append.1 hv with hv | hv
      · exact So v hv
      rcases List.mem_append.1 hv with hv | hv
      · exact To v hv
      · simp at hv
        rcases hv with rfl | rfl | rfl | rfl | rfl | rfl <;> rfl
    have Y34 : Hid (Y[34]? = some (.int .i64 (s0 : Nat)) ∧ Y[35]? = some (.int .i64 (m : Nat))) := by
      show _ ∧ _
      rw [HYE.out]
      exact ⟨three_at Sl Tl 1, three_at Sl Tl 2⟩
    have HYL := Lib.hid (And.intro hYl hYo)
    obtain ⟨s_0, s_1, s_2, s_3, s_4, s_5, s_6, s_7, s_8, s_9, s_10, s_11, s_12, s_13, s_14, s_15, hS⟩ := sixteenV Sl
    obtain ⟨t_0, t_1, t_2, t_3, t_4, t_5, t_6, t_7, t_8, t_9, t_10, t_11, t_12, t_13, t_14, t_15, hT⟩ := sixteenV Tl
    have hlitY : (#[.int .i64 6, s_0, s_1, s_2, s_3, s_4, s_5, s_6, s_7, s_8, s_9, s_10, s_11, s_12, s_13, s_14, s_15, t_0, t_1, t_2, t_3, t_4, t_5, t_6, t_7, t_8, t_9, t_10, t_11, t_12, t_13, t_14, t_15, .int .i64 pr, .int .i64 (s0 : Nat), .int .i64 (m : Nat), .int .i64 (fg : Nat), .bool false, .int .i64 0, .int .i64 0] : Array Value) = Y.toArray := by rw [HYE.out, hS, hT]; rfl
    subst hS
    subst hT
    clear So To HST
    go_upto_region 25 with (first | refine wpList_load_part rfl 35 (.tmp 108) rfl _ 5 rfl ty16 (K4.out.at 1 rfl) hFS.out Sl ?_ | refine wpList_load_part rfl 35 (.tmp 110) rfl _ 21 rfl ty16 (K4.out.at 1 rfl) hFT.out Tl ?_ | refine wpList_store_v rfl 37 (.tmp 15) (.tmp 122) rfl _ rfl tyhead (ArrV.new _ _ _) (by rfl) Y HYL.out.1 HYL.out.2 rfl ?_ | fail)
    rw [HLIT.out]
    have k5 := (K4.out.new 37 Z).store 3 rfl Y (by rw [HYL.out.1, hZl])
    obtain ⟨V5, e5⟩ : ∃ V, V = (w3.alloc (.cells Z.toArray 37)).setCells w3.heap.size 0 Y := ⟨_, rfl⟩
    rw [← e5] at k5
    rw [← e5]
    obtain ⟨g15, hg15⟩ : ∃ g, g = w3.heap.size := ⟨_, rfl⟩
    rw [← hg15] at k5
    rw [← hg15]
    have K5 : Hid (KV w [(37, g2, Z), (37, g15, Y)] V5) := by
      refine KV.pick k5 [0, 3] (by decide) rfl ?_
      intro q hq
      simp at hq
      rcases hq with rfl | rfl <;> rfl
    clear e5 hg15 k5 K4 q2 v0 v1 v2 hlitY hYl hYo
    refine wp_region_put (C0 := KV w [(37, g2, Z), (37, g15, Y)]) (C1 := KV w [(37, g2, Y), (37, g15, Y)]) [some (.agg Y.toArray), some (.slice (some ⟨b, o, none⟩) n c), some (.pointer (some ⟨g15, 35, none⟩)), some (.int .i64 (m : Nat)), some (.pointer (some ⟨g15, 34, none⟩)), some (.int .i64 (s0 : Nat)), some (.slice PV (s0 - m) (c - m)), none, some (.slice PV (s0 - m) (c - m)), some (.slice none 0 0)] 7 [0] (by kernel_rfl) (by kernel_rfl) K5.out.drew ?_ (fun W9 hW9 => ?_)
    · refine putWalk_quiet rfl (fun W hw' => quietAt_part (off := 0) (n := 40) (vs := Y) rfl rfl tyhead (hw'.at 1 rfl) (by rw [List.drop_zero, List.take_of_length_le (Nat.le_of_eq HYL.out.1)]) HYL.out.1) (fun hna => absurd hna (by decide)) ?_
      simp only [Act.put, List.setIfInBounds_toArray, List.set_cons_zero, List.set_cons_succ]
      refine putWalk_quiet rfl (fun W hw' => quietAt_run rfl) (fun hna => fun W hw' => quietAt_run rfl) ?_
      simp only [Act.put, List.setIfInBounds_toArray, List.set_cons_zero, List.set_cons_succ]
      refine putWalk_quiet rfl (fun W hw' => quietAt_run rfl) (fun hna => fun W hw' => quietAt_run rfl) ?_
      simp only [Act.put, List.setIfInBounds_toArray, List.set_cons_zero, List.set_cons_succ]
      refine putWalk_quiet rfl (fun W hw' => quietAt_cell (j := 35) rfl rfl one_int (hw'.at 1 rfl) Y34.out.2) (fun hna => fun W hw' => quietAt_cell (j := 35) rfl rfl one_int (hw'.at 1 rfl) Y34.out.2) ?_
      simp only [Act.put, List.setIfInBounds_toArray, List.set_cons_zero, List.set_cons_succ]
      refine putWalk_quiet rfl (fun W hw' => quietAt_run rfl) (fun hna => fun W hw' => quietAt_run rfl) ?_
      simp only [Act.put, List.setIfInBounds_toArray, List.set_cons_zero, List.set_cons_succ]
      refine putWalk_quiet rfl (fun W hw' => quietAt_cell (j := 34) rfl rfl one_int (hw'.at 1 rfl) Y34.out.1) (fun hna => fun W hw' => quietAt_cell (j := 34) rfl rfl one_int (hw'.at 1 rfl) Y34.out.1) ?_
      simp only [Act.put, List.setIfInBounds_toArray, List.set_cons_zero, List.set_cons_succ]
      refine putWalk_quiet rfl (fun W hw' => quietAt_run (by rw [HPV.out]; by_cases hcm : c = m <;> first | (simp [go_sem, i3, i4, i5, i6, hcm]; done) | (have k4 : s0 ≤ m := (by omega); have k3 : m ≤ s0 := (by omega); simp [go_sem, hcm, k3, k4]))) (fun hna => fun W hw' => quietAt_run (by rw [HPV.out]; by_cases hcm : c = m <;> first | (simp [go_sem, i3, i4, i5, i6, hcm]; done) | (have k4 : s0 ≤ m := (by omega); have k3 : m ≤ s0 := (by omega); simp [go_sem, hcm, k3, k4]))) ?_
      simp only [Act.put, List.setIfInBounds_toArray, List.set_cons_zero, List.set_cons_succ]
      refine putWalk_put rfl (put_store 0 rfl rfl rfl rfl tyhead hZl HYL.out.1 HYL.out.2) ?_
      simp only [Act.put]
      refine putWalk_quiet rfl (fun W hw' => quietAt_run rfl) (fun hna => fun W hw' => quietAt_run rfl) ?_
      simp only [Act.put, List.setIfInBounds_toArray, List.set_cons_zero, List.set_cons_succ]
      refine putWalk_quiet rfl (fun W hw' => quietAt_run rfl) (fun hna => fun W hw' => quietAt_run rfl) ?_
      trivial
    · simp only [List.length_cons, List.length_nil, lexAct, pval, toK, List.map_cons, List.map_nil, List.getElem?_cons_zero, List.getElem?_cons_succ, Option.bind_some, Act.put, List.setIfInBounds_toArray, List.set_cons_zero, List.set_cons_succ]
      have hHS : ArrV 37 W9 g2 Y := hW9.at 0 rfl
      go_wp2_with fail
      exact bodyPost_ret (v := .tuple #[.agg Y.toArray, .slice PV (s0 - m) (c - m), .slice none 0 0]) (res_cell_two Tryz.results40 rfl (hHS.loadVar tyhead HYL.out.1) rfl rfl) rfl ⟨hW9.bel, rfl⟩
end Go.Proofs.YtmchclpkjjmocaaGreat

namespace Go.Proofs.YtmchclpkjjmocaaGreat
open Go.RowKit
set_option linter.unusedVariables false
set_option maxRecDepth 8000

set_option maxHeartbeats 6400000 in
theorem rparts_bad (A : Option Addr) (n c : Nat) (bs : List Nat) (w : World) (hn2 : n ≤ 140737488351232) (hc : n ≤ c) (hR : Row w A n bs) (r : PkRec) (pv : Value) (hbad : pkHeads n bs ≠ []) :
    Calls Tryz.prog 40 #[.slice A n c] w (PrIs (pkHeads n bs) r pv w) := by
  obtain ⟨Z, hZ⟩ : ∃ Z, Z = hdCells RZ false 0 0 := ⟨_, rfl⟩
  obtain ⟨hZl, hZo⟩ := hdCells_all rz_ok
  have hlit := hd_lit
  obtain ⟨V, e0⟩ : ∃ V, V = w.alloc (.cells Z.toArray 37) := ⟨_, rfl⟩
  suffices h : Calls Tryz.prog 40 #[.slice A n c] w fun e w' => Below w.heap.size w w' ∧ ∃ v, e = .returned (.tuple #[.agg Z.toArray, .slice none 0 0, v]) ∧ DefRead w' v (pkHeads n bs) from
    h.mono fun e w' h => ⟨h.1, fun _ => by rw [← hZ]; exact h.2, fun g => absurd g hbad⟩
  rw [← hZ] at hZl hZo hlit
  have HA : Hid (ArrV 37 V w.heap.size Z) := by show ArrV _ _ _ _; rw [e0]; exact ArrV.new _ w Z
  have HB : Hid (Below w.heap.size w V) := by show Below _ _ _; rw [e0]; exact (Below.refl _ _).alloc (Nat.le_refl _) _
  obtain ⟨g2, hg2⟩ : ∃ g, g = w.heap.size := ⟨_, rfl⟩
  have HG2 := Lib.hid hg2
  rw [← hg2] at HA
  by_cases h0 : n = 0
  · have hD : pkHeads n bs = [1] := by unfold pkHeads; rw [if_pos h0]
    rw [hD]
    subst h0
    clear hD hbad hR hn2 hc hZ hg2
    go_enter Tryz.func40, Tryz.ntmps40
    go_upto_region 1 with fail
    rw [← e0, ← HG2.out]
    clear e0
    go_upto_region 2 with fail
    have A6 := Lib.hid (HA.out.alloc (.cells #[.int .i64 (1 : Nat)] 24))
    have hnew : (V.alloc (.cells #[.int .i64 (1 : Nat)] 24)).heap[V.heap.size]? = some (.cells #[.int .i64 (1 : Nat)] 24 (0, 0)) := heap_alloc_new _ _
    have hne2 : V.heap.size ≠ g2 := Nat.ne_of_gt HA.out.lt
    have HN : Hid (DefRead ((V.alloc (.cells #[.int .i64 (1 : Nat)] 24)).setCells g2 0 Z) (.slice (some ⟨V.heap.size, 0, none⟩) 1 1) [1]) := def_at (t := 24) ((heap_setCells_far hne2 _ _ _).trans hnew)
    clear hnew hne2
    go_wp2_with (first | refine wpList_store_v rfl 37 (.tmp 2) (.tmp 19) rfl _ rfl tyhead A6.out hZl Z hZl hZo rfl ?_ | fail)
    have HS := A6.out.store Z rfl
    exact bodyPost_ret (v := .tuple #[.agg Z.toArray, .slice none 0 0, .slice (some ⟨V.heap.size, 0, none⟩) 1 1]) (res_cell_two Tryz.results40 rfl (HS.loadVar tyhead hZl) rfl rfl) rfl ⟨setCells_below g2 (by rw [HG2.out]; exact Nat.le_refl _) _ _ _ (HB.out.alloc HB.out.size _), _, rfl, HN.out⟩
  have hx := hR.byte 0
  have hR2 := hR
  obtain ⟨b, o, rfl, hb, hcell⟩ := hR2.addr (by omega)
  have c0 := (HB.out.cell (p := ⟨b, o, none⟩) hb).trans (hcell 0 (by omega))
  have HR := Lib.hid (hR.below HB.out)
  obtain ⟨x, hxx⟩ : ∃ x, x = bs.getD 0 0 := ⟨_, rfl⟩
  obtain ⟨v, hv⟩ : ∃ v, v = x / 16 := ⟨_, rfl⟩
  have hDD : pkHeads n bs = if v = 4 then fhall n bs else if v = 6 then sxall n bs else [2] := by unfold pkHeads; rw [if_neg h0, hv, hxx]
  rw [← hxx] at c0 hx
  have e16 : (x : Int) / 16 = (v : Int) := by omega
  have v16 : (v : Int) % 256 = (v : Int) := by omega
  have n0 : (0 : Int) < (n : Int) := by omega
  have n0b : ((n : Int) == 0) = false := beq_false_of_ne (by omega)
  by_cases h4 : v = 4
  · have CA := Lib.hid (fun w (hR : Row w (some ⟨b, o, none⟩) n bs) => rfhall_any (some ⟨b, o, none⟩) n c bs w hc (by omega) hR)
    unfold AllIs at CA
    rw [if_pos h4] at hDD
    rw [← hDD] at CA
    obtain ⟨D, hD⟩ : ∃ D, D = pkHeads n bs := ⟨_, rfl⟩
    rw [← hD] at CA hbad ⊢
    have CH1 : Hid (∀ W, Row W (some ⟨b, o, none⟩) n bs → Calls Tryz.prog 58 #[.slice (some ⟨b, o, none⟩) n c] W fun e w' => ∃ A9 c9, e = .returned (.slice A9 D.length c9) ∧ DefRead w' (.slice A9 D.length c9) D ∧ Below W.heap.size W w') := fun W hW => (CA.out W hW).mono fun e w' h => by
      obtain ⟨v, rfl, hd, hb⟩ := h
      obtain ⟨A9, c9, rfl, h4, h5⟩ := hd
      exact ⟨A9, c9, rfl, ⟨A9, c9, rfl, h4, h5⟩, hb⟩
    have hl0 : 0 < D.length := List.length_pos_iff.2 hbad
    obtain ⟨q, hq⟩ : ∃ q, q = D.length := ⟨_, rfl⟩
    rw [← hq] at CH1 hl0
    have qI : (0 : Int) < (q : Int) := by omega
    have v4 : ((v : Int) == 4) = true := by rw [h4]; rfl
    clear hD hDD hq hl0 h4 h0 hx hxx hv hcell hb hR hR2 hn2 hc hZ hg2 hbad CA
    go_enter Tryz.func40, Tryz.ntmps40
    go_upto_region 1 with fail
    rw [← e0, ← HG2.out]
    clear e0
    go_wp2_with fail
    refine (CH1.out _ HR.out).mono ?_
    rintro e w1 ⟨A9, c9, rfl, d1, b1⟩
    have A4 := Lib.hid (HA.out.below b1)
    have B4 := Lib.hid (below_both HB.out b1)
    have D4 := Lib.hid d1
    clear d1 b1 HA HB c0
    go_wp2_with (first | refine wpList_store_v rfl 37 (.tmp 2) (.tmp 31) rfl _ rfl tyhead A4.out hZl Z hZl hZo rfl ?_ | fail)
    have HS := A4.out.store Z rfl
    exact bodyPost_ret (v := .tuple #[.agg Z.toArray, .slice none 0 0, .slice A9 q c9]) (res_cell_two Tryz.results40 rfl (HS.loadVar tyhead hZl) rfl rfl) rfl ⟨setCells_below g2 (by rw [HG2.out]; exact Nat.le_refl _) _ _ _ B4.out, _, rfl, D4.out.again A4.out⟩
  rw [if_neg h4] at hDD
  have v4 : ((v : Int) == 4) = false := beq_false_of_ne (by omega)
  by_cases h6 : v = 6
  · have CA := Lib.hid (fun w (hR : Row w (some ⟨b, o, none⟩) n bs) => rsxall_any (some ⟨b, o, none⟩) n c bs w (by omega) hc hR)
    unfold SxAllIs at CA
    rw [if_pos h6] at hDD
    rw [← hDD] at CA
    obtain ⟨D, hD⟩ : ∃ D, D = pkHeads n bs := ⟨_, rfl⟩
    rw [← hD] at CA hbad ⊢
    have CH1 : Hid (∀ W, Row W (some ⟨b, o, none⟩) n bs → Calls Tryz.prog 59 #[.slice (some ⟨b, o, none⟩) n c] W fun e w' => ∃ A9 c9, e = .returned (.slice A9 D.length c9) ∧ DefRead w' (.slice A9 D.length c9) D ∧ Below W.heap.size W w') := fun W hW => (CA.out W hW).mono fun e w' h => by
      obtain ⟨v, rfl, hd, hb⟩ := h
      obtain ⟨A9, c9, rfl, h4, h5⟩ := hd
      exact ⟨A9, c9, rfl, ⟨A9, c9, rfl, h4, h5⟩, hb⟩
    have hl0 : 0 < D.length := List.length_pos_iff.2 hbad
    obtain ⟨q, hq⟩ : ∃ q, q = D.length := ⟨_, rfl⟩
    rw [← hq] at CH1 hl0
    have qI : (0 : Int) < (q : Int) := by omega
    have v6 : ((v : Int) == 6) = true := by rw [h6]; rfl
    clear hD hDD hq hl0 h4 h6 h0 hx hxx hv hcell hb hR hR2 hn2 hc hZ hg2 hbad CA
    go_enter Tryz.func40, Tryz.ntmps40
    go_upto_region 1 with fail
    rw [← e0, ← HG2.out]
    clear e0
    go_wp2_with fail
    refine (CH1.out _ HR.out).mono ?_
    rintro e w1 ⟨A9, c9, rfl, d1, b1⟩
    have A4 := Lib.hid (HA.out.below b1)
    have B4 := Lib.hid (below_both HB.out b1)
    have D4 := Lib.hid d1
    clear d1 b1 HA HB c0
    go_wp2_with (first | refine wpList_store_v rfl 37 (.tmp 2) (.tmp 90) rfl _ rfl tyhead A4.out hZl Z hZl hZo rfl ?_ | fail)
    have HS := A4.out.store Z rfl
    exact bodyPost_ret (v := .tuple #[.agg Z.toArray, .slice none 0 0, .slice A9 q c9]) (res_cell_two Tryz.results40 rfl (HS.loadVar tyhead hZl) rfl rfl) rfl ⟨setCells_below g2 (by rw [HG2.out]; exact Nat.le_refl _) _ _ _ B4.out, _, rfl, D4.out.again A4.out⟩
  rw [if_neg h6] at hDD
  have v6 : ((v : Int) == 6) = false := beq_false_of_ne (by omega)
  rw [hDD]
  clear hDD h4 h6 h0 hx hxx hv hcell hb hR hR2 hn2 hc hZ hg2 hbad
  go_enter Tryz.func40, Tryz.ntmps40
  go_upto_region 1 with fail
  rw [← e0, ← HG2.out]
  clear e0
  go_upto_region 26 with fail
  have A6 := Lib.hid (HA.out.alloc (.cells #[.int .i64 (2 : Nat)] 24))
  have hnew : (V.alloc (.cells #[.int .i64 (2 : Nat)] 24)).heap[V.heap.size]? = some (.cells #[.int .i64 (2 : Nat)] 24 (0, 0)) := heap_alloc_new _ _
  have hne2 : V.heap.size ≠ g2 := Nat.ne_of_gt HA.out.lt
  have HN : Hid (DefRead ((V.alloc (.cells #[.int .i64 (2 : Nat)] 24)).setCells g2 0 Z) (.slice (some ⟨V.heap.size, 0, none⟩) 1 1) [2]) := def_at (t := 24) ((heap_setCells_far hne2 _ _ _).trans hnew)
  clear hnew hne2
  go_wp2_with (first | refine wpList_store_v rfl 37 (.tmp 2) (.tmp 130) rfl _ rfl tyhead A6.out hZl Z hZl hZo rfl ?_ | fail)
  have HS := A6.out.store Z rfl
  exact bodyPost_ret (v := .tuple #[.agg Z.toArray, .slice none 0 0, .slice (some ⟨V.heap.size, 0, none⟩) 1 1]) (res_cell_two Tryz.results40 rfl (HS.loadVar tyhead hZl) rfl rfl) rfl ⟨setCells_below g2 (by rw [HG2.out]; exact Nat.le_refl _) _ _ _ (HB.out.alloc HB.out.size _), _, rfl, HN.out⟩
end Go.Proofs.YtmchclpkjjmocaaGreat

namespace Go.Proofs.YtmchclpkjjmocaaGreat
open Go.RowKit
set_option linter.unusedVariables false
set_option maxRecDepth 8000

/-- What the document's whole tells of a packet. -/
def WhIs (n : Nat) (bs : List Nat) (w : World) (e : Ending) (w' : World) : Prop := ∃ A9 c9, e = .returned (.tuple #[.agg (pkHead n bs).toArray, .slice A9 (pkDefs n bs).length c9]) ∧ Below w.heap.size w w' ∧ DefRead w' (.slice A9 (pkDefs n bs).length c9) (pkDefs n bs)
theorem pkHead_bad {n : Nat} {bs : List Nat} (h : pkDefs n bs ≠ []) : pkHead n bs = hdCells RZ false 0 0 := by unfold pkHead; rw [if_neg h]
end Go.Proofs.YtmchclpkjjmocaaGreat

namespace Go.Proofs.YtmchclpkjjmocaaGreat
open Go.RowKit
set_option linter.unusedVariables false
set_option maxRecDepth 8000

set_option maxHeartbeats 3200000 in
theorem rpkparse_of (A : Option Addr) (n c : Nat) (bs : List Nat) (w : World) (hR : Row w A n bs) (CW : ∀ W, Row W A n bs → Calls Tryz.prog 26 #[.slice A n c] W (WhIs n bs W)) :
    Calls Tryz.prog 16 #[.slice A n c] w fun e w' => e = .returned (.tuple #[.agg (pkHead n bs).toArray, .int .i64 (pkTold n bs : Nat)]) ∧ Below w.heap.size w w' := by
  obtain ⟨Z, hZ⟩ : ∃ Z, Z = hdCells RZ false 0 0 := ⟨_, rfl⟩
  obtain ⟨hZl, hZo⟩ := hdCells_all rz_ok
  have hlit := hd_lit
  obtain ⟨V, e0⟩ : ∃ V, V = w.alloc (.cells Z.toArray 37) := ⟨_, rfl⟩
  obtain ⟨Xl, Xo⟩ := pkHead_all hR.1 hR.2.1
  have CV : Hid (∀ W, Below w.heap.size w W → Calls Tryz.prog 26 #[.slice A n c] W fun e w' => ∃ A9 c9, e = .returned (.tuple #[.agg (pkHead n bs).toArray, .slice A9 (pkDefs n bs).length c9]) ∧ Below W.heap.size W w' ∧ DefRead w' (.slice A9 (pkDefs n bs).length c9) (pkDefs n bs)) := fun W h => CW W (hR.below h)
  have hT : pkDefs n bs ≠ [] → pkHead n bs = hdCells RZ false 0 0 := pkHead_bad
  have hT0 : pkDefs n bs = [] → pkTold n bs = 0 := pkTold_nil
  have hTd : ∀ d l, pkDefs n bs = d :: l → pkTold n bs = d := fun d l h => by unfold pkTold; rw [h]; rfl
  obtain ⟨X, hX⟩ : ∃ X, X = pkHead n bs := ⟨_, rfl⟩
  obtain ⟨D, hDD⟩ : ∃ D, D = pkDefs n bs := ⟨_, rfl⟩
  obtain ⟨d, hd⟩ : ∃ d, d = pkTold n bs := ⟨_, rfl⟩
  rw [← hX] at CV Xl Xo hT ⊢
  rw [← hDD] at CV hT hT0 hTd
  rw [← hd] at hT0 hTd ⊢
  rw [← hZ] at hZl hZo hlit hT
  have HA : Hid (ArrV 37 V w.heap.size Z) := by show ArrV _ _ _ _; rw [e0]; exact ArrV.new _ w Z
  have HB : Hid (Below w.heap.size w V) := by show Below _ _ _; rw [e0]; exact (Below.refl _ _).alloc (Nat.le_refl _) _
  obtain ⟨g2, hg2⟩ : ∃ g, g = w.heap.size := ⟨_, rfl⟩
  have HG2 := Lib.hid hg2
  rw [← hg2] at HA
  clear hX hDD hd hR hZ hg2 CW
  by_cases hD : D = []
  · subst hD
    have hd0 := hT0 rfl
    subst hd0
    clear hT hT0 hTd
    have CW : Hid (∀ W, Below w.heap.size w W → Calls Tryz.prog 26 #[.slice A n c] W fun e w' => ∃ A9 c9, e = .returned (.tuple #[.agg X.toArray, .slice A9 0 c9]) ∧ Below W.heap.size W w') := fun W h => (CV.out W h).mono fun e w' h => by
      obtain ⟨A9, c9, rfl, hb, _⟩ := h
      exact ⟨A9, c9, rfl, hb⟩
    go_enter Tryz.func16, Tryz.ntmps16
    go_upto_region 1 with fail
    rw [← e0, ← HG2.out]
    clear e0
    go_wp2_with fail
    refine (CW.out _ HB.out).mono ?_
    rintro e w1 ⟨A9, c9, rfl, b1⟩
    have A1 := Lib.hid (HA.out.below b1)
    have B1 := Lib.hid (below_both HB.out b1)
    clear b1
    go_upto_region 2 with (first | refine wpList_store_v rfl 37 (.tmp 4) (.tmp 9) rfl _ rfl tyhead (ArrV.new _ _ Z) hZl X Xl Xo rfl ?_ | fail)
    obtain ⟨V4, e4⟩ : ∃ V, V = (w1.alloc (.cells Z.toArray 37)).setCells w1.heap.size 0 X := ⟨_, rfl⟩
    have hb4 : Below w1.heap.size w1 V4 := by rw [e4]; exact setCells_below _ (Nat.le_refl _) _ _ _ ((Below.refl _ _).alloc (Nat.le_refl _) _)
    have X4 : Hid (ArrV 37 V4 w1.heap.size X) := by
      show ArrV _ _ _ _
      rw [e4]
      exact (ArrV.new _ w1 Z).store X (by rw [Xl, hZl])
    rw [← e4]
    obtain ⟨g4, hg4⟩ : ∃ g, g = w1.heap.size := ⟨_, rfl⟩
    have A4 := Lib.hid (A1.out.below hb4)
    have B4 := Lib.hid (below_both B1.out hb4)
    rw [← hg4] at X4 ⊢
    clear e4 hb4 A1 B1 hg4
    go_wp2_with (first | refine wpList_load_v rfl 37 (.tmp 4) rfl _ rfl tyhead X4.out Xl ?_ | refine wpList_store_v rfl 37 (.tmp 2) (.tmp 18) rfl _ rfl tyhead A4.out hZl X Xl Xo rfl ?_ | fail)
    have HS := A4.out.store X (by rw [Xl, hZl])
    exact bodyPost_ret (v := .tuple #[.agg X.toArray, .int .i64 (0 : Nat)]) (res_cell_tmp Tryz.results16 rfl (HS.loadVar tyhead Xl) rfl) rfl ⟨rfl, setCells_below g2 (by rw [HG2.out]; exact Nat.le_refl _) _ _ _ B4.out⟩
  · obtain ⟨d', l, rfl⟩ := List.exists_cons_of_ne_nil hD
    have hdd := hTd _ _ rfl
    subst hdd
    have hXZ := hT hD
    subst hXZ
    obtain ⟨q, hq⟩ : ∃ q, q = (d :: l).length := ⟨_, rfl⟩
    have hl0 : 0 < q := by rw [hq]; simp
    have CV : Hid (∀ W, Below w.heap.size w W → Calls Tryz.prog 26 #[.slice A n c] W fun e w' => ∃ b o c9, e = .returned (.tuple #[.agg X.toArray, .slice (some ⟨b, o, none⟩) q c9]) ∧ Below W.heap.size W w' ∧ w'.cell? ⟨b, o, none⟩ = some (.int .i64 (d : Nat)) ∧ b < w'.heap.size) := fun W h => (CV.out W h).mono fun e w' h => by
      obtain ⟨A9, c9, rfl, hb, h2⟩ := h
      obtain ⟨A8, c8, e8, _, h5⟩ := h2
      cases e8
      obtain ⟨b, o, ea, hlt, h1⟩ := h5 0 d rfl
      rw [Nat.add_zero] at h1
      rw [← hq]
      exact ⟨b, o, c9, by rw [ea], hb, h1, hlt⟩
    have qI : (0 : Int) < (q : Int) := by omega
    clear hT hT0 hTd hD hq hl0
    go_enter Tryz.func16, Tryz.ntmps16
    go_upto_region 1 with fail
    rw [← e0, ← HG2.out]
    clear e0
    go_wp2_with fail
    refine (CV.out _ HB.out).mono ?_
    rintro e w1 ⟨b, o, c9, rfl, b1, c0, hlt⟩
    have A1 := Lib.hid (HA.out.below b1)
    have B1 := Lib.hid (below_both HB.out b1)
    have C0 := Lib.hid (And.intro c0 hlt)
    clear b1 c0 hlt
    go_upto_region 2 with (first | refine wpList_store_v rfl 37 (.tmp 4) (.tmp 9) rfl _ rfl tyhead (ArrV.new _ _ X) hZl X Xl Xo rfl ?_ | fail)
    obtain ⟨V4, e4⟩ : ∃ V, V = (w1.alloc (.cells X.toArray 37)).setCells w1.heap.size 0 X := ⟨_, rfl⟩
    have hb4 : Below w1.heap.size w1 V4 := by rw [e4]; exact setCells_below _ (Nat.le_refl _) _ _ _ ((Below.refl _ _).alloc (Nat.le_refl _) _)
    have hA4 := A1.out.below hb4
    have A4 := Lib.hid hA4
    have B4 := Lib.hid (below_both B1.out hb4)
    have c1 : V4.cell? ⟨b, o, none⟩ = some (.int .i64 (d : Nat)) := (hb4.cell (p := ⟨b, o, none⟩) C0.out.2).trans C0.out.1
    have c2 : (V4.drew.setCells g2 0 X).cell? ⟨b, o, none⟩ = some (.int .i64 (d : Nat)) := by
      have h1 : DefRead V4 (.slice (some ⟨b, o, none⟩) 1 1) [d] := ⟨_, 1, rfl, Nat.le_refl _, fun i z hz => by
        have hi : i = 0 := by
          have := (List.getElem?_eq_some_iff.1 hz).1
          simp at this
          exact this
        subst hi
        simp at hz
        subst hz
        exact ⟨b, o, rfl, Nat.lt_of_lt_of_le C0.out.2 hb4.size, c1⟩⟩
      obtain ⟨A8, c8, e8, _, h5⟩ := (show DefRead V4.drew _ _ from h1).again hA4.drew
      cases e8
      obtain ⟨b', o', ea, _, h1⟩ := h5 0 d rfl
      cases ea
      rw [Nat.add_zero] at h1
      exact h1
    have hst := hA4.drew.stAll X rfl Xo
    rw [← e4]
    clear e4 hb4 A1 B1 hA4 C0
    go_upto_region 3 with fail
    go_region
    go_wp2_with fail
    have HS := A4.out.drew.store X rfl
    exact bodyPost_ret (v := .tuple #[.agg X.toArray, .int .i64 (d : Nat)]) (res_cell_tmp Tryz.results16 rfl (HS.loadVar tyhead Xl) rfl) rfl ⟨rfl, setCells_below g2 (by rw [HG2.out]; exact Nat.le_refl _) _ _ _ B4.out.drew⟩
end Go.Proofs.YtmchclpkjjmocaaGreat

namespace Go.Proofs.YtmchclpkjjmocaaGreat
open Go.RowKit
set_option linter.unusedVariables false
set_option maxRecDepth 8000

end Go.Proofs.YtmchclpkjjmocaaGreat

namespace Go.Proofs.YtmchclpkjjmocaaGreat
open Go.RowKit
set_option linter.unusedVariables false
set_option maxRecDepth 8000

/-- The class of a header of version 6, of its first two bytes. -/
theorem six_class {bs : List Nat} (hl : 8 ≤ bs.length) (hb : ∀ x ∈ bs, x < 256) : sxN (be (bs.take 8)) 0 = bs.getD 0 0 % 16 * 16 + bs.getD 1 0 / 16 := by
  match bs, hl, hb with
  | a :: b :: l, hl, hb =>
    have ha := hb a (by simp)
    have hbb := hb b (by simp)
    have hy := be_lt (l.take 6) (fun x hx => hb x (by simp [List.mem_of_mem_take hx]))
    have e6 : (l.take 6).length = 6 := by rw [List.length_take]; simp at hl; omega
    show be (a :: b :: l.take 6) / 2 ^ 52 % 2 ^ 8 = a % 16 * 16 + b / 16
    rw [be_cons, be_cons, List.length_cons, e6]
    rw [e6] at hy
    generalize be (l.take 6) = y at *
    omega
/-- A packet without a defect: its version, and the byte of its code point by its first two bytes. -/
theorem pk_class {n : Nat} {bs : List Nat} (hl : bs.length = n) (hb : ∀ x ∈ bs, x < 256) (h : pkDefs n bs = []) :
    20 ≤ n ∧ (((pkRec bs).v = 4 ∧ (pkRec bs).field = bs.getD 1 0) ∨ ((pkRec bs).v = 6 ∧ (pkRec bs).field = bs.getD 0 0 % 16 * 16 + bs.getD 1 0 / 16)) := by
  have hh := pkHeads_nil h
  obtain ⟨_, h1, h2, h3, _⟩ := pk_good hl hb hh
  have h20 : 20 ≤ n := by omega
  refine ⟨h20, ?_⟩
  unfold pkRec
  split
  · exact .inl ⟨rfl, rfl⟩
  · exact .inr ⟨rfl, six_class (by omega) hb⟩
theorem rpt_ints {x y u v f : Nat} (hx : x < 256) (hy : y < 256) (hu : u = x % 16) (hv : v = y / 16) (hf : f = u * 16 + v) :
    IntKind.i64.wrap (x : Int) = (x : Int) ∧ IntKind.i64.wrap (y : Int) = (y : Int) ∧ wrap64 (x : Int) = (x : Int) ∧ wrap64 (y : Int) = (y : Int) ∧ (x : Int).tmod 16 = (u : Int) ∧ (x : Int) % 16 = (u : Int) ∧ (y : Int).tdiv 16 = (v : Int) ∧ (y : Int) / 16 = (v : Int) ∧ IntKind.i64.wrap ((u : Int) * 16) = (u : Int) * 16 ∧ IntKind.i64.wrap ((u : Int) * 16 + (v : Int)) = (f : Int) ∧ (f : Int) % 256 = (f : Int) ∧ (y : Int) % 256 = (y : Int) ∧ IntKind.i64.wrap (u : Int) = (u : Int) ∧ IntKind.i64.wrap (v : Int) = (v : Int) := by
  subst hu hv hf
  refine ⟨IntWalk.i64_in _ (by omega), IntWalk.i64_in _ (by omega), by unfold wrap64; omega, by unfold wrap64; omega, ?_, by omega, ?_, by omega, IntWalk.i64_in _ (by omega), ?_, by omega, by omega, IntWalk.i64_in _ (by omega), IntWalk.i64_in _ (by omega)⟩
  · rw [Int.tmod_eq_emod_of_nonneg (by omega)]; omega
  · rw [Int.tdiv_eq_ediv_of_nonneg (by omega)]; omega
  · rw [IntWalk.i64_in _ (by omega)]; omega
set_option maxHeartbeats 3200000 in
theorem rpkpoint_of (A : Option Addr) (n c : Nat) (bs : List Nat) (w : World) (hR : Row w A n bs) (CP : ∀ W, Row W A n bs → Calls Tryz.prog 16 #[.slice A n c] W fun e w' => e = .returned (.tuple #[.agg (pkHead n bs).toArray, .int .i64 (pkTold n bs : Nat)]) ∧ Below W.heap.size W w') :
    Calls Tryz.prog 17 #[.slice A n c] w fun e w' => e = .returned (pkPoint n bs) ∧ Below w.heap.size w w' := by
  obtain ⟨Z, hZ⟩ : ∃ Z, Z = hdCells RZ false 0 0 := ⟨_, rfl⟩
  obtain ⟨hZl, hZo⟩ := hdCells_all rz_ok
  have hlit := hd_lit
  rw [← hZ] at hZl hZo hlit
  obtain ⟨Xl, Xo⟩ := pkHead_all hR.1 hR.2.1
  have CV := Lib.hid CP
  have HR := Lib.hid hR
  by_cases hD : pkDefs n bs = []
  · obtain ⟨h20, hcl⟩ := pk_class hR.1 hR.2.1 hD
    have hfl := (pkRec_ok hR.1 hR.2.1 (pkHeads_nil hD)).field
    have ht : pkTold n bs = 0 := pkTold_nil hD
    have hr : pkPoint n bs = .tuple #[.int .i64 ((pkRec bs).field / 4 : Nat), .int .i64 ((pkRec bs).field % 4 : Nat), .bool true] := by unfold pkPoint; rw [if_pos hD]
    have hX0 : (pkHead n bs)[0]? = some (.int .i64 ((pkRec bs).v : Nat)) := by unfold pkHead; rw [if_pos hD]; rfl
    have hx := hR.byte 0
    have hy := hR.byte 1
    obtain ⟨b, o, rfl, hb, hcell⟩ := hR.addr (by omega)
    have c0 := hcell 0 (by omega)
    have c1 := hcell 1 (by omega)
    simp only [Nat.add_zero] at c0
    rw [hr]
    rw [ht] at CV
    obtain ⟨X, hX⟩ : ∃ X, X = pkHead n bs := ⟨_, rfl⟩
    obtain ⟨f, hf⟩ : ∃ f, f = (pkRec bs).field := ⟨_, rfl⟩
    obtain ⟨v, hv⟩ : ∃ v, v = (pkRec bs).v := ⟨_, rfl⟩
    obtain ⟨x, hxx⟩ : ∃ x, x = bs.getD 0 0 := ⟨_, rfl⟩
    obtain ⟨y, hyy⟩ : ∃ y, y = bs.getD 1 0 := ⟨_, rfl⟩
    rw [← hX] at CV Xl Xo hX0
    rw [← hv] at hX0 hcl
    rw [← hf] at hcl hfl ⊢
    rw [← hxx] at hx c0 hcl
    rw [← hyy] at hy c1 hcl
    have CS := Lib.hid (fun w => rptsplit_any f w hfl)
    have n0 : (0 : Int) < (n : Int) := by omega
    have n1 : (1 : Int) < (n : Int) := by omega
    have HX0 := Lib.hid hX0
    have C01 := Lib.hid (And.intro c0 c1)
    have HB := Lib.hid hb
    clear hX hf hv hxx hyy hr ht hD h20 hX0 hcell hZ CP c0 c1 hb hR
    rcases hcl with ⟨rfl, hfy⟩ | ⟨rfl, hff⟩
    · subst hfy
      obtain ⟨_, i2, _, i4, _, _, _, _, _, _, _, i12, _⟩ := rpt_ints (x := x) (y := f) hx hy rfl rfl rfl
      clear hx hy hfl
      go_enter Tryz.func17, Tryz.ntmps17
      go_wp2_with fail
      refine (CV.out _ HR.out).mono ?_
      rintro e w1 ⟨rfl, b1⟩
      have B1 := Lib.hid b1
      clear b1
      go_upto_region 2 with (first | refine wpList_store_v rfl 37 (.tmp 5) (.tmp 13) rfl _ rfl tyhead (ArrV.new _ _ Z) hZl X Xl Xo rfl ?_ | fail)
      obtain ⟨V4, e4⟩ : ∃ V, V = (w1.alloc (.cells Z.toArray 37)).setCells w1.heap.size 0 X := ⟨_, rfl⟩
      obtain ⟨x4, hb4⟩ := ArrV.laid 37 w1 Z X (by rw [Xl, hZl])
      rw [← e4] at x4 hb4
      have q0 := (x4.get 0).trans HX0.out
      rw [← e4]
      obtain ⟨g4, hg4⟩ : ∃ g, g = w1.heap.size := ⟨_, rfl⟩
      have b4 := below_both B1.out hb4
      have c0 := (b4.cell (p := ⟨b, o, none⟩) HB.out).trans C01.out.1
      have c1 := (b4.cell (p := ⟨b, o + 1, none⟩) HB.out).trans C01.out.2
      have B4 := Lib.hid b4
      rw [← hg4] at q0 ⊢
      clear e4 hb4 x4 B1 hg4 b4
      go_wp2_with fail
      refine (CS.out _).mono ?_
      rintro e w' ⟨rfl, rfl⟩
      go_wp2_with fail
      go_ret3
      exact ⟨rfl, B4.out⟩
    · obtain ⟨u, hu⟩ : ∃ u, u = x % 16 := ⟨_, rfl⟩
      obtain ⟨v, hv⟩ : ∃ v, v = y / 16 := ⟨_, rfl⟩
      rw [← hu, ← hv] at hff
      obtain ⟨i1, i2, i3, i4, i5, i6, i7, i8, i9, i10, i11, i12, i13, i14⟩ := rpt_ints hx hy hu hv hff
      clear hx hy hfl hu hv hff
      go_enter Tryz.func17, Tryz.ntmps17
      go_wp2_with fail
      refine (CV.out _ HR.out).mono ?_
      rintro e w1 ⟨rfl, b1⟩
      have B1 := Lib.hid b1
      clear b1
      go_upto_region 2 with (first | refine wpList_store_v rfl 37 (.tmp 5) (.tmp 13) rfl _ rfl tyhead (ArrV.new _ _ Z) hZl X Xl Xo rfl ?_ | fail)
      obtain ⟨V4, e4⟩ : ∃ V, V = (w1.alloc (.cells Z.toArray 37)).setCells w1.heap.size 0 X := ⟨_, rfl⟩
      obtain ⟨x4, hb4⟩ := ArrV.laid 37 w1 Z X (by rw [Xl, hZl])
      rw [← e4] at x4 hb4
      have q0 := (x4.get 0).trans HX0.out
      rw [← e4]
      obtain ⟨g4, hg4⟩ : ∃ g, g = w1.heap.size := ⟨_, rfl⟩
      have b4 := below_both B1.out hb4
      have c0 := (b4.cell (p := ⟨b, o, none⟩) HB.out).trans C01.out.1
      have c1 := (b4.cell (p := ⟨b, o + 1, none⟩) HB.out).trans C01.out.2
      have B4 := Lib.hid b4
      rw [← hg4] at q0 ⊢
      clear e4 hb4 x4 B1 hg4 b4
      go_upto_region 6 with fail
      go_quiet (fail)
      go_wp2_with fail
      refine (CS.out _).mono ?_
      rintro e w' ⟨rfl, rfl⟩
      go_wp2_with fail
      go_ret3
      exact ⟨rfl, below_drewN' B4.out _⟩
  · have hne : pkTold n bs ≠ 0 := fun h => hD (pkTold_zero.1 h)
    have hr : pkPoint n bs = .tuple #[.int .i64 0, .int .i64 0, .bool false] := by unfold pkPoint; rw [if_neg hD]
    rw [hr]
    obtain ⟨X, hX⟩ : ∃ X, X = pkHead n bs := ⟨_, rfl⟩
    obtain ⟨d, hd⟩ : ∃ d, d = pkTold n bs := ⟨_, rfl⟩
    rw [← hX, ← hd] at CV
    rw [← hX] at Xl Xo
    rw [← hd] at hne
    have db : ((d : Int) != 0) = true := bne_iff_ne.2 (by omega)
    clear hX hd hr hD hne hZ CP hR
    go_enter Tryz.func17, Tryz.ntmps17
    go_wp2_with fail
    refine (CV.out _ HR.out).mono ?_
    rintro e w1 ⟨rfl, b1⟩
    have B1 := Lib.hid b1
    clear b1
    go_upto_region 2 with (first | refine wpList_store_v rfl 37 (.tmp 5) (.tmp 13) rfl _ rfl tyhead (ArrV.new _ _ Z) hZl X Xl Xo rfl ?_ | fail)
    obtain ⟨V4, e4⟩ : ∃ V, V = (w1.alloc (.cells Z.toArray 37)).setCells w1.heap.size 0 X := ⟨_, rfl⟩
    obtain ⟨x4, hb4⟩ := ArrV.laid 37 w1 Z X (by rw [Xl, hZl])
    rw [← e4] at x4 hb4
    rw [← e4]
    have B4 := Lib.hid (below_both B1.out hb4)
    clear e4 hb4 x4 B1
    go_wp2_with fail
    go_ret3
    exact ⟨rfl, B4.out⟩
end Go.Proofs.YtmchclpkjjmocaaGreat

namespace Go.Proofs.YtmchclpkjjmocaaGreat
open Go.RowKit
set_option linter.unusedVariables false
set_option maxRecDepth 8000

end Go.Proofs.YtmchclpkjjmocaaGreat

namespace Go.Proofs.YtmchclpkjjmocaaGreat
open Go.RowKit
set_option linter.unusedVariables false
set_option maxRecDepth 8000

set_option maxHeartbeats 6400000 in
theorem rwhole_of (b : Value) (D : List Nat) (r : PkRec) (P : Option Addr) (m pc : Nat) (hm2 : m ≤ 140737488355328) (L : List Nat) {x y d : Nat} (hok : r.Ok x y) (hr : (if r.has = true then poRead r.proto m L (decide (r.frag = 1)) else (0, 0, 0)) = (x, y, d)) (w : World) (hR : Row w P m L)
    (CH : ∀ W, Below w.heap.size w W → Calls Tryz.prog 40 #[b] W (PrIs D r (.slice P m pc) W)) :
    Calls Tryz.prog 26 #[b] w (WrIs (if D ≠ [] then D else if d ≠ 0 then [d] else []) r x y w) := by
  obtain ⟨Z, hZ⟩ : ∃ Z, Z = hdCells RZ false 0 0 := ⟨_, rfl⟩
  obtain ⟨hZl, hZo⟩ := hdCells_all rz_ok
  have hlit := hd_lit
  obtain ⟨V, e0⟩ : ∃ V, V = w.alloc (.cells Z.toArray 37) := ⟨_, rfl⟩
  have CH := Lib.hid CH
  unfold PrIs at CH
  unfold WrIs
  rw [← hZ] at CH hZl hZo hlit ⊢
  have HA : Hid (ArrV 37 V w.heap.size Z) := by show ArrV _ _ _ _; rw [e0]; exact ArrV.new _ w Z
  have HB : Hid (Below w.heap.size w V) := by show Below _ _ _; rw [e0]; exact (Below.refl _ _).alloc (Nat.le_refl _) _
  obtain ⟨g2, hg2⟩ : ∃ g, g = w.heap.size := ⟨_, rfl⟩
  have HG2 := Lib.hid hg2
  rw [← hg2] at HA
  by_cases hD : D = []
  · have CH1 : Hid (∀ W, Below w.heap.size w W → Calls Tryz.prog 40 #[b] W fun e w' => e = .returned (.tuple #[.agg (hdCells r false 0 0).toArray, .slice P m pc, .slice none 0 0]) ∧ Below W.heap.size W w') := fun W hW => (CH.out W hW).mono fun e w' h => ⟨h.2.2 hD, h.1⟩
    rw [if_neg (fun h => h hD)]
    have hbs : (bcells r.src).length = 16 := by rw [bcells_length, hok.sl]
    have hbd : (bcells r.dst).length = 16 := by rw [bcells_length, hok.dl]
    have hX0 : hdCells r false 0 0 = .int .i64 (r.v : Nat) :: (bcells r.src ++ (bcells r.dst ++ hdTail r false 0 0)) := rfl
    obtain ⟨Xl, Xo⟩ := hdCells_all (has := false) hok.zero
    have h33 : (hdCells r false 0 0)[33]? = some (.int .i64 r.proto) := three_at hbs hbd 0
    have h36 : (hdCells r false 0 0)[36]? = some (.int .i64 (r.frag : Nat)) := three_at hbs hbd 3
    have h37 : (hdCells r false 0 0)[37]? = some (.bool false) := three_at hbs hbd 4
    have h38 : (hdCells r false 0 0)[38]? = some (.int .i64 0) := three_at hbs hbd 5
    have h39 : (hdCells r false 0 0)[39]? = some (.int .i64 0) := three_at hbs hbd 6
    have hset : (((hdCells r false 0 0).set 37 (.bool true)).set 38 (.int .i64 (x : Nat))).set 39 (.int .i64 (y : Nat)) = hdCells r true x y := by
      unfold hdCells
      rw [show 37 = 33 + 4 from rfl, three_set hbs hbd, show 38 = 33 + 5 from rfl, three_set hbs hbd, show 39 = 33 + 6 from rfl, three_set hbs hbd]
      rfl
    obtain ⟨p, hp⟩ : ∃ p, p = r.proto := ⟨_, rfl⟩
    obtain ⟨f, hf⟩ : ∃ f, f = r.frag := ⟨_, rfl⟩
    have CL := Lib.hid (rpoleast_any p)
    have hhas : r.has = true ↔ ¬ f = 2 ∧ ¬ poLeast p = 0 := by rw [hf, hp]; exact pkhas_iff r
    have hnot : ¬ (¬ f = 2 ∧ ¬ poLeast p = 0) → x = 0 ∧ y = 0 ∧ d = 0 ∧ hdCells r r.has x y = hdCells r false 0 0 := fun h => by
      have hh : r.has = false := by
        cases g : r.has
        · rfl
        · exact absurd (hhas.1 g) h
      rw [hh] at hr
      injection hr with h1 h2
      injection h2 with h2 h3
      subst h1 h2 h3
      rw [hh]
      exact ⟨rfl, rfl, rfl, rfl⟩
    obtain ⟨l, hl⟩ : ∃ l, l = poLeast p := ⟨_, rfl⟩
    rw [← hl] at CL hnot hhas
    obtain ⟨X, hX⟩ : ∃ X, X = hdCells r false 0 0 := ⟨_, rfl⟩
    rw [← hX] at CH1 Xl Xo h33 h36 h37 h38 h39 hset hnot
    rw [← hp] at h33
    rw [← hf] at h36
    have HX33 := Lib.hid h33
    have HX36 := Lib.hid h36
    have HR := Lib.hid hR
    by_cases f2 : f = 2
    · obtain ⟨rfl, rfl, rfl, he⟩ := hnot (fun h => h.1 f2)
      rw [he, if_neg (fun h => h rfl)]
      subst f2
      clear hnot hhas he hset h33 h36 h37 h38 h39 hX hX0 hp hf hl hr hok hD CH CL hZ hg2 hR hbs hbd
      go_enter Tryz.func26, Tryz.ntmps26
      go_upto_region 1 with fail
      rw [← e0, ← HG2.out]
      clear e0
      go_wp2_with fail
      refine (CH1.out _ HB.out).mono ?_
      rintro e w1 ⟨rfl, b1⟩
      have HA1 := Lib.hid (HA.out.below b1)
      have B1 := Lib.hid (below_both HB.out b1)
      clear b1
      go_upto_region 2 with (first | refine wpList_store_v rfl 37 (.tmp 4) (.tmp 13) rfl _ rfl tyhead (ArrV.new _ _ Z) hZl X Xl Xo rfl ?_ | fail)
      obtain ⟨V4, e4⟩ : ∃ V, V = (w1.alloc (.cells Z.toArray 37)).setCells w1.heap.size 0 X := ⟨_, rfl⟩
      obtain ⟨x4, hb4⟩ := ArrV.laid 37 w1 Z X (by rw [Xl, hZl])
      rw [← e4] at x4 hb4
      rw [← e4]
      have X4 := Lib.hid x4
      have q36 := (x4.get 36).trans HX36.out
      obtain ⟨g4, hg4⟩ : ∃ g, g = w1.heap.size := ⟨_, rfl⟩
      have A4 := Lib.hid (HA1.out.below hb4)
      have B4 := Lib.hid (below_both B1.out hb4)
      rw [← hg4] at X4 q36 ⊢
      clear e4 hb4 x4 HA1 B1 hg4
      go_wp2_with (first | refine wpList_load_v rfl 37 (.tmp 4) rfl _ rfl tyhead X4.out Xl ?_ | refine wpList_store_v rfl 37 (.tmp 2) (.tmp 30) rfl _ rfl tyhead A4.out hZl X Xl Xo rfl ?_ | fail)
      have HS := A4.out.store X (by rw [Xl, hZl])
      exact bodyPost_ret (v := .tuple #[.agg X.toArray, .slice none 0 0]) (res_cell_tmp Tryz.results26 rfl (HS.loadVar tyhead Xl) rfl) rfl ⟨setCells_below g2 (by rw [HG2.out]; exact Nat.le_refl _) _ _ _ B4.out, fun h => absurd rfl h, fun _ => rfl⟩
    have fb : ((f : Int) == 2) = false := beq_false_of_ne (by omega)
    by_cases l0 : l = 0
    · obtain ⟨rfl, rfl, rfl, he⟩ := hnot (fun h => h.2 l0)
      rw [he, if_neg (fun h => h rfl)]
      subst l0
      clear hnot hhas he hset h33 h36 h37 h38 h39 hX hX0 hp hf hl hr hok hD CH f2 hZ hg2 hR hbs hbd
      go_enter Tryz.func26, Tryz.ntmps26
      go_upto_region 1 with fail
      rw [← e0, ← HG2.out]
      clear e0
      go_wp2_with fail
      refine (CH1.out _ HB.out).mono ?_
      rintro e w1 ⟨rfl, b1⟩
      have HA1 := Lib.hid (HA.out.below b1)
      have B1 := Lib.hid (below_both HB.out b1)
      clear b1
      go_upto_region 2 with (first | refine wpList_store_v rfl 37 (.tmp 4) (.tmp 13) rfl _ rfl tyhead (ArrV.new _ _ Z) hZl X Xl Xo rfl ?_ | fail)
      obtain ⟨V4, e4⟩ : ∃ V, V = (w1.alloc (.cells Z.toArray 37)).setCells w1.heap.size 0 X := ⟨_, rfl⟩
      obtain ⟨x4, hb4⟩ := ArrV.laid 37 w1 Z X (by rw [Xl, hZl])
      rw [← e4] at x4 hb4
      rw [← e4]
      have X4 := Lib.hid x4
      have q36 := (x4.get 36).trans HX36.out
      have q33 := (x4.get 33).trans HX33.out
      obtain ⟨g4, hg4⟩ : ∃ g, g = w1.heap.size := ⟨_, rfl⟩
      have A4 := Lib.hid (HA1.out.below hb4)
      have B4 := Lib.hid (below_both B1.out hb4)
      rw [← hg4] at X4 q36 q33 ⊢
      clear e4 hb4 x4 HA1 B1 hg4
      go_wp2_with fail
      refine (CL.out _).mono ?_
      rintro e w' ⟨rfl, rfl⟩
      go_wp2_with (first | refine wpList_load_v rfl 37 (.tmp 4) rfl _ rfl tyhead X4.out Xl ?_ | refine wpList_store_v rfl 37 (.tmp 2) (.tmp 30) rfl _ rfl tyhead A4.out hZl X Xl Xo rfl ?_ | fail)
      have HS := A4.out.store X (by rw [Xl, hZl])
      exact bodyPost_ret (v := .tuple #[.agg X.toArray, .slice none 0 0]) (res_cell_tmp Tryz.results26 rfl (HS.loadVar tyhead Xl) rfl) rfl ⟨setCells_below g2 (by rw [HG2.out]; exact Nat.le_refl _) _ _ _ B4.out, fun h => absurd rfl h, fun _ => rfl⟩
    have lb : ((l : Int) == 0) = false := beq_false_of_ne (by omega)
    have hh : r.has = true := hhas.2 ⟨f2, l0⟩
    rw [hh, if_pos rfl] at hr
    have CR := Lib.hid (fun w (hR : Row w P m L) => rporead_any r.proto P m pc L (decide (r.frag = 1)) w hm2 hR)
    rw [hr, ← hp, ← hf] at CR
    unfold PoReadIs Quiet at CR
    simp only at CR
    obtain ⟨q1, hq1⟩ : ∃ b : Bool, b = decide (f = 1) := ⟨_, rfl⟩
    have hq2 : ((f : Int) == 1) = q1 := by
      rw [hq1]
      by_cases h : f = 1
      · subst h; rfl
      · rw [decide_eq_false h]; exact beq_false_of_ne (by omega)
    rw [← hq1] at CR
    obtain ⟨Yl, Yo⟩ := hdCells_all (has := r.has) hok
    rw [hh] at Yl Yo ⊢
    obtain ⟨Y, hY⟩ : ∃ Y, Y = hdCells r true x y := ⟨_, rfl⟩
    rw [← hY] at hset Yl Yo ⊢
    have HSET := Lib.hid hset
    have H37 := Lib.hid (And.intro h37 (And.intro h38 h39))
    by_cases hd0 : d = 0
    · subst hd0
      rw [if_neg (fun h => h rfl)]
      clear hnot hhas hset h33 h36 h37 h38 h39 hX hX0 hp hf hl hr hok hD CH f2 l0 hZ hg2 hR hbs hbd hh hq1 hY
      go_enter Tryz.func26, Tryz.ntmps26
      go_upto_region 1 with fail
      rw [← e0, ← HG2.out]
      clear e0
      go_wp2_with fail
      refine (CH1.out _ HB.out).mono ?_
      rintro e w1 ⟨rfl, b1⟩
      have HA1 := Lib.hid (HA.out.below b1)
      have B1 := Lib.hid (below_both HB.out b1)
      clear b1
      go_upto_region 2 with (first | refine wpList_store_v rfl 37 (.tmp 4) (.tmp 13) rfl _ rfl tyhead (ArrV.new _ _ Z) hZl X Xl Xo rfl ?_ | fail)
      obtain ⟨V4, e4⟩ : ∃ V, V = (w1.alloc (.cells Z.toArray 37)).setCells w1.heap.size 0 X := ⟨_, rfl⟩
      obtain ⟨x4, hb4⟩ := ArrV.laid 37 w1 Z X (by rw [Xl, hZl])
      rw [← e4] at x4 hb4
      rw [← e4]
      have q36 := (x4.get 36).trans HX36.out
      have q33 := (x4.get 33).trans HX33.out
      obtain ⟨g4, hg4⟩ : ∃ g, g = w1.heap.size := ⟨_, rfl⟩
      have HG4 : Hid (w.heap.size ≤ g4 ∧ g4 ≠ g2) := by
        refine ⟨by rw [hg4]; exact B1.out.size, ?_⟩
        have := HA1.out.lt
        rw [hg4]
        exact Nat.ne_of_gt this
      have A4 := Lib.hid (HA1.out.below hb4)
      have B4 := Lib.hid (below_both B1.out hb4)
      rw [← hg4] at x4 q36 q33 ⊢
      have X4 := Lib.hid x4
      clear e4 hb4 HA1 B1 hg4 x4
      go_wp2_with fail
      refine (CL.out _).mono ?_
      rintro e w' ⟨rfl, rfl⟩
      go_wp2_with fail
      refine (CR.out _ (HR.out.below B4.out)).mono ?_
      rintro e w' ⟨rfl, nq, rfl⟩
      obtain ⟨U, eU⟩ : ∃ U, U = V4.drewN nq := ⟨_, rfl⟩
      have hU : ArrV 37 U g4 X := by rw [eU]; exact X4.out
      have hA : ArrV 37 U g2 Z := by rw [eU]; exact A4.out
      have hBU : Below w.heap.size w U := by rw [eU]; exact below_drewN' B4.out nq
      rw [← eU]
      have h1 := hU.set 37 (.bool true)
      have h2 := h1.set 38 (.int .i64 (x : Nat))
      have h3 := h2.set 39 (.int .i64 (y : Nat))
      rw [HSET.out] at h3
      have a1 := (hU.get 37).trans H37.out.1
      have f1 := hU.frozen 37
      have a2 : (U.setCell ⟨g4, 37, none⟩ (.bool true)).cell? ⟨g4, 38, none⟩ = some (.int .i64 0) := by
        rw [h1.get 38, List.getElem?_set_ne (by decide)]
        exact H37.out.2.1
      have f2 := h1.frozen 38
      have a3 : ((U.setCell ⟨g4, 37, none⟩ (.bool true)).setCell ⟨g4, 38, none⟩ (.int .i64 (x : Nat))).cell? ⟨g4, 39, none⟩ = some (.int .i64 0) := by
        rw [h2.get 39, List.getElem?_set_ne (by decide), List.getElem?_set_ne (by decide)]
        exact H37.out.2.2
      have f3 := h2.frozen 39
      have A5 := ((hA.other ⟨g4, 37, none⟩ (.bool true) HG4.out.2).other ⟨g4, 38, none⟩ (.int .i64 (x : Nat)) HG4.out.2).other ⟨g4, 39, none⟩ (.int .i64 (y : Nat)) HG4.out.2
      have B5 := ((hBU.setCell (p := ⟨g4, 37, none⟩) HG4.out.1 (.bool true)).setCell (p := ⟨g4, 38, none⟩) HG4.out.1 (.int .i64 (x : Nat))).setCell (p := ⟨g4, 39, none⟩) HG4.out.1 (.int .i64 (y : Nat))
      obtain ⟨U5, e5⟩ : ∃ W, W = ((U.setCell ⟨g4, 37, none⟩ (.bool true)).setCell ⟨g4, 38, none⟩ (.int .i64 (x : Nat))).setCell ⟨g4, 39, none⟩ (.int .i64 (y : Nat)) := ⟨_, rfl⟩
      rw [← e5] at A5 B5 h3
      have A5 := Lib.hid A5
      have B5 := Lib.hid B5
      have Y5 := Lib.hid h3
      clear eU hA hBU h1 h2 h3 hU q33 q36
      go_upto_region 10 with fail
      rw [← e5]
      clear e5 a1 a2 a3 f1 f2 f3
      go_wp2_with (first | refine wpList_load_v rfl 37 (.tmp 4) rfl _ rfl tyhead Y5.out Yl ?_ | refine wpList_store_v rfl 37 (.tmp 2) (.tmp 52) rfl _ rfl tyhead A5.out hZl Y Yl Yo rfl ?_ | fail)
      have HS := A5.out.store Y (by rw [Yl, hZl])
      exact bodyPost_ret (v := .tuple #[.agg Y.toArray, .slice none 0 0]) (res_cell_tmp Tryz.results26 rfl (HS.loadVar tyhead Yl) rfl) rfl ⟨setCells_below g2 (by rw [HG2.out]; exact Nat.le_refl _) _ _ _ B5.out, fun h => absurd rfl h, fun _ => rfl⟩
    · have db : ((d : Int) != 0) = true := bne_iff_ne.2 (by omega)
      rw [if_pos hd0]
      clear hd0 hnot hhas hset h33 h36 h37 h38 h39 hX hX0 hp hf hl hr hok hD CH f2 l0 hZ hg2 hR hbs hbd hh hq1 hY
      go_enter Tryz.func26, Tryz.ntmps26
      go_upto_region 1 with fail
      rw [← e0, ← HG2.out]
      clear e0
      go_wp2_with fail
      refine (CH1.out _ HB.out).mono ?_
      rintro e w1 ⟨rfl, b1⟩
      have HA1 := Lib.hid (HA.out.below b1)
      have B1 := Lib.hid (below_both HB.out b1)
      clear b1
      go_upto_region 2 with (first | refine wpList_store_v rfl 37 (.tmp 4) (.tmp 13) rfl _ rfl tyhead (ArrV.new _ _ Z) hZl X Xl Xo rfl ?_ | fail)
      obtain ⟨V4, e4⟩ : ∃ V, V = (w1.alloc (.cells Z.toArray 37)).setCells w1.heap.size 0 X := ⟨_, rfl⟩
      obtain ⟨x4, hb4⟩ := ArrV.laid 37 w1 Z X (by rw [Xl, hZl])
      rw [← e4] at x4 hb4
      rw [← e4]
      have q36 := (x4.get 36).trans HX36.out
      have q33 := (x4.get 33).trans HX33.out
      obtain ⟨g4, hg4⟩ : ∃ g, g = w1.heap.size := ⟨_, rfl⟩
      have A4 := Lib.hid (HA1.out.below hb4)
      have B4 := Lib.hid (below_both B1.out hb4)
      rw [← hg4] at q36 q33 ⊢
      clear e4 hb4 HA1 B1 hg4 x4
      go_wp2_with fail
      refine (CL.out _).mono ?_
      rintro e w' ⟨rfl, rfl⟩
      go_wp2_with fail
      refine (CR.out _ (HR.out.below B4.out)).mono ?_
      rintro e w' ⟨rfl, nq, rfl⟩
      obtain ⟨U, eU⟩ : ∃ U, U = V4.drewN nq := ⟨_, rfl⟩
      have hA : ArrV 37 U g2 Z := by rw [eU]; exact A4.out
      have hBU : Below w.heap.size w U := by rw [eU]; exact below_drewN' B4.out nq
      rw [← eU]
      have A5 := Lib.hid hA
      have B5 := Lib.hid hBU
      clear eU hA hBU q33 q36
      go_upto_region 8 with fail
      have A6 := Lib.hid (A5.out.alloc (.cells #[.int .i64 (d : Nat)] 24))
      have hnew : (U.alloc (.cells #[.int .i64 (d : Nat)] 24)).heap[U.heap.size]? = some (.cells #[.int .i64 (d : Nat)] 24 (0, 0)) := heap_alloc_new _ _
      have hne2 : U.heap.size ≠ g2 := Nat.ne_of_gt A5.out.lt
      have HN : Hid (DefRead ((U.alloc (.cells #[.int .i64 (d : Nat)] 24)).setCells g2 0 Z) (.slice (some ⟨U.heap.size, 0, none⟩) 1 1) [d]) := def_at (t := 24) ((heap_setCells_far hne2 _ _ _).trans hnew)
      clear hnew hne2
      go_wp2_with (first | refine wpList_store_v rfl 37 (.tmp 2) (.tmp 44) rfl _ rfl tyhead A6.out hZl Z hZl hZo rfl ?_ | fail)
      have HS := A6.out.store Z rfl
      exact bodyPost_ret (v := .tuple #[.agg Z.toArray, .slice (some ⟨U.heap.size, 0, none⟩) 1 1]) (res_cell_tmp Tryz.results26 rfl (HS.loadVar tyhead hZl) rfl) rfl ⟨setCells_below g2 (by rw [HG2.out]; exact Nat.le_refl _) _ _ _ (B5.out.alloc B5.out.size _), fun _ => ⟨_, rfl, HN.out⟩, fun h => by cases h⟩
  · rw [if_pos hD]
    have CH1 : Hid (∀ W, Below w.heap.size w W → Calls Tryz.prog 40 #[b] W fun e w' => ∃ A c, e = .returned (.tuple #[.agg Z.toArray, .slice none 0 0, .slice A D.length c]) ∧ DefRead w' (.slice A D.length c) D ∧ Below W.heap.size W w') := fun W hW => (CH.out W hW).mono fun e w' h => by
      obtain ⟨h1, h2, _⟩ := h
      obtain ⟨v, rfl, hd⟩ := h2 hD
      obtain ⟨A, c, rfl, h4, h5⟩ := hd
      exact ⟨A, c, rfl, ⟨A, c, rfl, h4, h5⟩, h1⟩
    have hl0 : 0 < D.length := List.length_pos_iff.2 hD
    obtain ⟨q, hq⟩ : ∃ q, q = D.length := ⟨_, rfl⟩
    rw [← hq] at CH1 hl0
    have qI : (0 : Int) < (q : Int) := by omega
    have HND := Lib.hid hD
    clear hg2 hD hr hok hm2 hl0 CH hq hR hZ
    go_enter Tryz.func26, Tryz.ntmps26
    go_upto_region 1 with fail
    rw [← e0, ← HG2.out]
    clear e0
    go_wp2_with fail
    refine (CH1.out _ HB.out).mono ?_
    rintro e w1 ⟨A, c, rfl, d1, b1⟩
    have HA1 := Lib.hid (HA.out.below b1)
    have B1 := Lib.hid (below_both HB.out b1)
    have D1 := Lib.hid d1
    clear d1 b1
    go_upto_region 2 with (first | refine wpList_store_v rfl 37 (.tmp 4) (.tmp 13) rfl _ rfl tyhead (ArrV.new _ _ Z) hZl Z hZl hZo rfl ?_ | fail)
    obtain ⟨V4, e4⟩ : ∃ V, V = (w1.alloc (.cells Z.toArray 37)).setCells w1.heap.size 0 Z := ⟨_, rfl⟩
    obtain ⟨x4, hb4⟩ := ArrV.laid 37 w1 Z Z rfl
    rw [← e4] at x4 hb4
    rw [← e4]
    have A4 := Lib.hid (HA1.out.below hb4)
    have B4 := Lib.hid (below_both B1.out hb4)
    have D4 := Lib.hid (D1.out.below hb4)
    clear e4 hb4 x4 HA1 B1 D1
    go_wp2_with (first | refine wpList_store_v rfl 37 (.tmp 2) (.tmp 19) rfl _ rfl tyhead A4.out hZl Z hZl hZo rfl ?_ | fail)
    have HS := A4.out.store Z rfl
    exact bodyPost_ret (v := .tuple #[.agg Z.toArray, .slice A q c]) (res_cell_tmp Tryz.results26 rfl (HS.loadVar tyhead hZl) rfl) rfl ⟨setCells_below g2 (by rw [HG2.out]; exact Nat.le_refl _) _ _ _ B4.out, fun _ => ⟨_, rfl, D4.out.again A4.out⟩, fun h => absurd h HND.out⟩
end Go.Proofs.YtmchclpkjjmocaaGreat

namespace Go.Proofs.YtmchclpkjjmocaaGreat
open Go.RowKit
set_option linter.unusedVariables false

theorem rparts_from (A : Option Addr) (n c : Nat) (bs : List Nat) (w : World) (hn2 : n ≤ 140737488351232) (hc : n ≤ c) (hR : Row w A n bs)
    (H6 : bs.getD 0 0 / 16 = 6 → sxall n bs = [] → Calls Tryz.prog 40 #[.slice A n c] w fun e w' => Below w.heap.size w w' ∧ e = .returned (.tuple #[.agg (hdCells (pk6 bs) false 0 0).toArray, pkPv A c (pk6 bs), .slice none 0 0])) :
    Calls Tryz.prog 40 #[.slice A n c] w (PrIs (pkHeads n bs) (pkRec bs) (pkPv A c (pkRec bs)) w) := by
  by_cases hh : pkHeads n bs = []
  · have hh2 := hh
    unfold pkHeads at hh2
    split at hh2
    · cases hh2
    · split at hh2
      · rename_i h0 h4
        have e : pkRec bs = pk4 bs := by unfold pkRec; rw [if_pos h4]
        rw [hh, e]
        exact (rparts_four A n c bs w hn2 hc hR hh2).mono fun e w' h => ⟨h.1, fun g => absurd rfl g, fun _ => h.2⟩
      · split at hh2
        · rename_i h0 h4 h6
          have e : pkRec bs = pk6 bs := by unfold pkRec; rw [if_neg h4]
          rw [hh, e]
          exact (H6 h6 hh2).mono fun e w' h => ⟨h.1, fun g => absurd rfl g, fun _ => h.2⟩
        · cases hh2
  · exact rparts_bad A n c bs w hn2 hc hR _ _ hh
theorem rwhole_from (A : Option Addr) (n c : Nat) (bs : List Nat) (w : World) (hn2 : n ≤ 140737488351232) (hc : n ≤ c) (hR : Row w A n bs)
    (HP : ∀ W, Row W A n bs → Calls Tryz.prog 40 #[.slice A n c] W (PrIs (pkHeads n bs) (pkRec bs) (pkPv A c (pkRec bs)) W)) :
    Calls Tryz.prog 26 #[.slice A n c] w (WhIs n bs w) := by
  have key : ∀ (x y : Nat), Calls Tryz.prog 26 #[.slice A n c] w (WrIs (pkDefs n bs) (pkRec bs) ((pkRec bs).ports bs).1 ((pkRec bs).ports bs).2.1 w) → Calls Tryz.prog 26 #[.slice A n c] w (WhIs n bs w) := fun x y h => h.mono fun e w' h => by
    obtain ⟨hb, h1, h2⟩ := h
    by_cases hD : pkDefs n bs = []
    · refine ⟨none, 0, ?_, hb, ?_⟩
      · rw [h2 hD]
        unfold pkHead
        rw [if_pos hD, hD]
        rfl
      · rw [hD]
        exact ⟨none, 0, rfl, Nat.le_refl _, fun i x h => by cases h⟩
    · obtain ⟨v, rfl, hd⟩ := h1 hD
      obtain ⟨A9, c9, rfl, h4, h5⟩ := hd
      exact ⟨A9, c9, by unfold pkHead; rw [if_neg hD], hb, A9, c9, rfl, h4, h5⟩
  refine key 0 0 ?_
  by_cases hh : pkHeads n bs = []
  · obtain ⟨_, g20, gas, gsn, _, _⟩ := pk_good hR.1 hR.2.1 hh
    have hrow : Row w (if c = (pkRec bs).at_ then A else A.map (·.add (pkRec bs).at_)) ((pkRec bs).size - (pkRec bs).at_) ((pkRec bs).pay bs) := by
      obtain ⟨b, o, rfl, _⟩ := hR.addr (by omega)
      by_cases hca : c = (pkRec bs).at_
      · rw [if_pos hca]
        have h0 : (pkRec bs).size - (pkRec bs).at_ = 0 := by omega
        have h1 : (pkRec bs).pay bs = [] := by unfold PkRec.pay; rw [h0, List.take_zero]
        rw [h0, h1]
        exact Row.nil _ _
      · rw [if_neg hca]
        have h := hR.part (pkRec bs).at_ ((pkRec bs).size - (pkRec bs).at_) (by omega)
        unfold PkRec.pay
        simpa [Addr.add, show (pkRec bs).at_ ≠ 0 by omega] using h
    have hok := pkRec_ok hR.1 hR.2.1 hh
    exact rwhole_of (.slice A n c) (pkHeads n bs) (pkRec bs) _ _ (c - (pkRec bs).at_) (by omega) _ hok (d := ((pkRec bs).ports bs).2.2) rfl w hrow (fun W h => HP W (hR.below h))
  · have hv := rwhole_of (.slice A n c) (pkHeads n bs) RZ none 0 0 (by decide) [] (x := 0) (y := 0) (d := 0) rz_ok rfl w (Row.nil _ _) (fun W h => (HP W (hR.below h)).mono fun e w' h => ⟨h.1, h.2.1, fun g => absurd g hh⟩)
    have e : pkDefs n bs = pkHeads n bs := by unfold pkDefs; rw [if_pos hh]
    rw [if_pos hh] at hv
    rw [e]
    exact hv.mono fun e w' h => ⟨h.1, h.2.1, fun g => absurd g hh⟩
theorem rpkparts_any (A : Option Addr) (n c : Nat) (bs : List Nat) (w : World) (hn2 : n ≤ 140737488351232) (hc : n ≤ c) (hR : Row w A n bs) :
    Calls Tryz.prog 40 #[.slice A n c] w (PrIs (pkHeads n bs) (pkRec bs) (pkPv A c (pkRec bs)) w) :=
  rparts_from A n c bs w hn2 hc hR fun h6 hg => rparts_six A n c bs w hn2 hc hR h6 hg
theorem rpkwhole_any (A : Option Addr) (n c : Nat) (bs : List Nat) (w : World) (hn2 : n ≤ 140737488351232) (hc : n ≤ c) (hR : Row w A n bs) :
    Calls Tryz.prog 26 #[.slice A n c] w (WhIs n bs w) :=
  rwhole_from A n c bs w hn2 hc hR fun W h => rpkparts_any A n c bs W hn2 hc h
theorem rpkparse_any (A : Option Addr) (n c : Nat) (bs : List Nat) (w : World) (hn2 : n ≤ 140737488351232) (hc : n ≤ c) (hR : Row w A n bs) :
    Calls Tryz.prog 16 #[.slice A n c] w fun e w' => e = .returned (.tuple #[.agg (pkHead n bs).toArray, .int .i64 (pkTold n bs : Nat)]) ∧ Below w.heap.size w w' :=
  rpkparse_of A n c bs w hR fun W h => rpkwhole_any A n c bs W hn2 hc h
theorem rpkpoint_any (A : Option Addr) (n c : Nat) (bs : List Nat) (w : World) (hn2 : n ≤ 140737488351232) (hc : n ≤ c) (hR : Row w A n bs) :
    Calls Tryz.prog 17 #[.slice A n c] w fun e w' => e = .returned (pkPoint n bs) ∧ Below w.heap.size w w' :=
  rpkpoint_of A n c bs w hR fun W h => rpkparse_any A n c bs W hn2 hc h
end Go.Proofs.YtmchclpkjjmocaaGreat
