/-
  Plain facts of a packet of version 6 with extension headers and a payload: how it is read, and gone over. Without fragments.
-/
import Derived.Test.YtcjaidpmfjnhpaaEwC
import Derived.Test.YtcjaidpmfjnhpaaSx6
import Derived.Test.YtcjaidpmfjnhpaaSx3
import Derived.Test.YtcjaidpmfjnhpaaWXWrites
namespace Go.Proofs.Ytcjaidpmfjnhpaa
open Go.RowKit
set_option linter.unusedVariables false
set_option maxRecDepth 8000

/-- What no header of kind 44 changes. -/
def SameFrag (t u : Tour) : Prop := u.lng = t.lng ∧ u.frag = t.frag ∧ u.off = t.off ∧ u.fr = t.fr
theorem SameFrag.trans {t u v : Tour} (h : SameFrag t u) (h2 : SameFrag u v) : SameFrag t v := ⟨h2.1.trans h.1, h2.2.1.trans h.2.1, h2.2.2.1.trans h.2.2.1, h2.2.2.2.trans h.2.2.2⟩
theorem ws_pass_frag {t : Tour} {k : Nat} (hk : k ≠ 44) (hd : List Nat) (b : Nat) : SameFrag t (t.pass k hd b) := by
  unfold SameFrag Tour.pass Tour.mid
  by_cases h : k = 0 ∧ 0 < t.count
  · rw [if_pos h]; exact ⟨rfl, rfl, rfl, rfl⟩
  · rw [if_neg h, if_neg (fun e => hk e.1), if_neg hk]; exact ⟨rfl, rfl, rfl, rfl⟩
theorem walkF_list {n : Nat} {bs : List Nat} : ∀ (f : Nat) (t : Tour) (S : List (Nat × List Nat)), ∃ R, (walkF n bs f t S).2 = S ++ R ∧ ((∀ r ∈ R, r.1 ≠ 44) → SameFrag t (walkF n bs f t S).1)
  | 0, t, S => ⟨[], by simp [walkF], fun _ => ⟨rfl, rfl, rfl, rfl⟩⟩
  | f + 1, t, S => by
    rw [walkF]
    split
    · exact ⟨[], by simp, fun _ => ⟨rfl, rfl, rfl, rfl⟩⟩
    · split
      · exact ⟨[], by simp, fun _ => ⟨rfl, rfl, rfl, rfl⟩⟩
      · split
        · exact ⟨[], by simp, fun _ => ⟨rfl, rfl, rfl, rfl⟩⟩
        · rename_i m _
          split
          · exact ⟨_, rfl, fun h => ws_pass_frag (h _ (List.mem_singleton.2 rfl)) _ _⟩
          · obtain ⟨R, h1, h2⟩ := walkF_list (n := n) (bs := bs) f (t.pass t.proto.toNat ((bs.drop t.at_).take m) (n - t.at_ - m)) (S ++ [(t.proto.toNat, ((bs.drop t.at_).take m).drop 2)])
            refine ⟨(t.proto.toNat, ((bs.drop t.at_).take m).drop 2) :: R, by rw [h1]; simp, fun h => ?_⟩
            exact (ws_pass_frag (h _ (List.mem_cons_self ..)) _ _).trans (h2 (fun r hr => h r (List.mem_cons_of_mem _ hr)))
def No44 (M : List (Int × List Nat)) : Prop := ∀ m ∈ M, m.1 ≠ 44
theorem exCut_none {M : List (Int × List Nat)} (h : No44 M) : exCut M = M := by
  have h2 := exCut_all (M := M) fun m hm => by
    unfold exLater
    exact decide_eq_false (fun e => h m hm e.1)
  exact h2
/-- The walk over all of them, without fragments. -/
theorem walk_plain {M : List (Int × List Nat)} {p : Int} (h : Written M p) (hb : ∀ m ∈ M, ∀ x ∈ m.2, x < 256) (hf : No44 M) (more : List Nat) {n : Nat} (hn : n = (exBytes p M ++ more).length) :
    ∃ t : Tour, (walkF n (exBytes p M ++ more) 9 (Tour.start (exNext p M)) []).1 = t ∧ t.defects = [] ∧ t.told = [.int .i64 p, .int .i64 (exLen M : Nat), .int .i64 0, .int .i64 0, .int .i64 (M.length : Nat)] ∧ (walkF n (exBytes p M ++ more) 9 (Tour.start (exNext p M)) []).2 = M.map exNat := by
  obtain ⟨t, h1, h2, h3, h4, h5, h6⟩ := walk_whole h hb more hn
  rw [exCut_none hf] at h2 h3 h5 h6
  obtain ⟨R, r1, r2⟩ := walkF_list (n := n) (bs := exBytes p M ++ more) 9 (Tour.start (exNext p M)) []
  rw [List.nil_append, h6] at r1
  have hs := r2 (fun r hr => by
    rw [← r1] at hr
    obtain ⟨m, hm, rfl⟩ := List.mem_map.1 hr
    have hk := exKind_byte (h.each m hm).1
    have := hf m hm
    show m.1.toNat ≠ 44
    omega)
  rw [h1] at hs
  obtain ⟨s1, s2, s3, s4⟩ := hs
  have hd : t.defects = [] := by rw [nodef_defects h4, if_neg (by rw [s1]; simp [Tour.start])]
  refine ⟨t, h1, hd, ?_, h6⟩
  unfold Tour.told Tour.walk
  rw [if_pos hd, h2, h3, h5, s2, s3, List.drop_length]
  rfl
/-- The header ahead of them. -/
def sixP (next : Nat) (pay : Nat) : SixV := ⟨fun j => match j with | 2 => (pay : Int) | 3 => (next : Int) | _ => 0, List.replicate 16 0, List.replicate 16 0⟩
theorem sixP_two (next pay : Nat) : (sixP next pay).cells[2]? = some (.int .i64 (pay : Nat)) := rfl
theorem sixP_three (next pay : Nat) : (sixP next pay).cells[3]? = some (.int .i64 (next : Nat)) := rfl
theorem sixP_k (next pay : Nat) (h1 : next ≤ 255) (h2 : pay ≤ 65535) (j : Nat) : -9223372036854775808 ≤ (sixP next pay).k j ∧ (sixP next pay).k j ≤ 9223372036854775807 := by
  unfold sixP
  dsimp only
  split <;> omega
theorem sixP_fits (next pay : Nat) (h1 : next ≤ 255) (h2 : pay ≤ 65535) : (sixP next pay).fitsTo 5 = true := by
  have e : ∀ (a b c d e : Bool), a = true → b = true → c = true → d = true → e = true → ((((((true && a) && b) && c) && d) && e)) = true := by intro a b c d e ha hb hc hd he; rw [ha, hb, hc, hd, he]; rfl
  refine e _ _ _ _ _ ?_ ?_ ?_ ?_ ?_
  · exact decide_eq_true (by show (0 : Int) ≤ 0 ∧ (0 : Int) < 2 ^ 8; decide)
  · exact decide_eq_true (by show (0 : Int) ≤ 0 ∧ (0 : Int) < 2 ^ 20; decide)
  · exact decide_eq_true (by show (0 : Int) ≤ (pay : Int) ∧ (pay : Int) < 2 ^ 16; omega)
  · exact decide_eq_true (by show (0 : Int) ≤ (next : Int) ∧ (next : Int) < 2 ^ 8; omega)
  · exact decide_eq_true (by show (0 : Int) ≤ 0 ∧ (0 : Int) < 2 ^ 8; decide)
/-- A whole packet: how it is read. -/
theorem packet_read {M : List (Int × List Nat)} {p : Int} (h : Written M p) (hb : ∀ m ∈ M, ∀ x ∈ m.2, x < 256) (hf : No44 M) (pay : List Nat) (hpay : pay.length ≤ 1000) {next len : Nat} (hnx : (next : Int) = exNext p M) (hln : len = exLen M + pay.length) :
    (sixP next len).fitsTo 5 = true ∧ len ≤ 65535 ∧ next ≤ 255 ∧ ((sixP next len).bytes ++ (exBytes p M ++ pay)).length = 40 + len ∧
    sxdef (40 + len) ((sixP next len).bytes ++ (exBytes p M ++ pay)) = 0 ∧ sxval (40 + len) ((sixP next len).bytes ++ (exBytes p M ++ pay)) = (sixP next len).cells ∧
    sxrest (40 + len) ((sixP next len).bytes ++ (exBytes p M ++ pay)) = some (exBytes p M ++ pay) ∧ sxall (40 + len) ((sixP next len).bytes ++ (exBytes p M ++ pay)) = [] := by
  have hlen := h.len
  have hnb : next ≤ 255 := by
    have := exNext_byte (M := M) ⟨h.p0, h.p1⟩ (fun m hm => (h.each m hm).1)
    omega
  have hl5 : len ≤ 65535 := by omega
  have hfit := sixP_fits next len hnb hl5
  have htl : (exBytes p M ++ pay).length = len := by rw [List.length_append, exBytes_len, hln]
  obtain ⟨e1, e2, e3⟩ := sx_written hfit rfl rfl htl
  obtain ⟨v2, v3⟩ := sxval_two e2
  rw [e3] at v2 v3
  have hp : sxPay ((sixP next len).bytes ++ (exBytes p M ++ pay)) = len := by
    rw [sixP_two] at v2
    simp only [Option.some.injEq, Value.int.injEq, true_and] at v2
    exact (Int.ofNat_inj.1 v2).symm
  have hx : sxNext ((sixP next len).bytes ++ (exBytes p M ++ pay)) = next := by
    rw [sixP_three] at v3
    simp only [Option.some.injEq, Value.int.injEq, true_and] at v3
    exact (Int.ofNat_inj.1 v3).symm
  have hb40 : (sixP next len).bytes.length = 40 := by unfold SixV.bytes; rw [List.length_append, List.length_append, pb_length]; rfl
  have hrest : sxrest (40 + len) ((sixP next len).bytes ++ (exBytes p M ++ pay)) = some (exBytes p M ++ pay) := by
    unfold sxrest
    rw [if_pos ⟨e2, by rw [hp]; exact Nat.le_refl _⟩, hp, ← hb40, List.drop_left, ← htl, List.take_length]
  refine ⟨hfit, hl5, hnb, e1, e2, e3, hrest, ?_⟩
  unfold sxall
  rw [if_neg (fun h => h e2), hrest, hx, hnx]
  obtain ⟨t, t1, t2, _, _⟩ := walk_plain h hb hf pay (n := (exBytes p M ++ pay).length) rfl
  show (walkF _ _ 9 _ []).1.defects = []
  rw [t1]
  exact t2
/-- One header more in front. -/
def hop60 : Int × List Nat := (60, [0, 0, 0, 0, 0, 0])
theorem check_shift : ∀ {M : List (Int × List Nat)} (i : Nat), (∀ m ∈ M, m.1 ≠ 0) → (∀ m ∈ M, m.1 ≠ 44) → (exCheckF M (i + 1) false).1 = (exCheckF M i false).1
  | [], i, h0, h4 => rfl
  | (k, b) :: r, i, h0, h4 => by
    have k0 : k ≠ 0 := h0 (k, b) (List.mem_cons_self ..)
    have k4 : k ≠ 44 := h4 (k, b) (List.mem_cons_self ..)
    unfold exCheckF
    split
    · rfl
    · split
      · rfl
      · rw [if_neg (fun e => k0 e.1), if_neg (fun e => k4 e.1), if_neg (fun e => k0 e.1), if_neg (fun e => k4 e.1)]
        have e : (false || decide (k = 44)) = false := by simp [k4]
        rw [e]
        exact check_shift (i + 1) (fun m hm => h0 m (List.mem_cons_of_mem _ hm)) (fun m hm => h4 m (List.mem_cons_of_mem _ hm))
theorem check_front {M : List (Int × List Nat)} {p : Int} (h7 : M.length < 8) (h0 : ∀ m ∈ M, m.1 ≠ 0) (h4 : No44 M) : (exCheck (hop60 :: M) p).1 = (exCheck M p).1 := by
  unfold exCheck
  split
  · rfl
  · rw [if_neg (by show ¬ 8 < M.length + 1; omega), if_neg (by omega)]
    show (exCheckF ((60, [0, 0, 0, 0, 0, 0]) :: M) 0 false).1 = _
    rw [exCheckF, if_neg (by decide), if_neg (by decide), if_neg (by decide), if_neg (by decide)]
    exact check_shift 0 h0 h4
end Go.Proofs.Ytcjaidpmfjnhpaa
