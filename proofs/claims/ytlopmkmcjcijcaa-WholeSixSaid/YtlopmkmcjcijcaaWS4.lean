/-
  What the program answers over a packet of WholeSix.
-/
import Derived.Test.YtlopmkmcjcijcaaWS3
namespace Go.Proofs.Ytlopmkmcjcijcaa
open Go.RowKit
set_option linter.unusedVariables false
set_option maxRecDepth 8000

/-- The answers over a packet with so many headers, p behind them, and a payload. -/
structure Pack6 (M : List (Int × List Nat)) (p : Int) (pay : List Nat) (next len : Nat) (PA TA : List Nat) (X : List Value) : Prop where
  pa : PA = (sixP next len).bytes ++ (exBytes p M ++ pay)
  ta : TA = exBytes p M ++ pay
  xl : X.length = 37
  xo : ∀ v ∈ X, v.oneCell' = true
  x3 : X[3]? = some (.int .i64 (next : Nat))
  tl : TA.length = len
  l5 : len ≤ 65535
  read : ∀ (A : Option Addr) (c : Nat) (W : World), 40 + len ≤ c → Row W A (40 + len) PA → Calls Try.prog 31 #[.slice A (40 + len) c] W fun e w' => e = .returned (.tuple #[.agg X.toArray, .int .i64 0]) ∧ Below W.heap.size W w'
  rest : ∀ (A : Option Addr) (c : Nat) (W : World), 40 + len ≤ c → Row W A (40 + len) PA → Calls Try.prog 33 #[.slice A (40 + len) c] W fun e w' => ∃ A' c', e = .returned (.tuple #[.slice A' len c', .bool true]) ∧ len ≤ c' ∧ Row w' A' len TA ∧ Below W.heap.size W w'
  all : ∀ (A : Option Addr) (c : Nat) (W : World), 40 + len ≤ c → Row W A (40 + len) PA → Calls Try.prog 36 #[.slice A (40 + len) c] W fun e w' => ∃ A' c', e = .returned (.slice A' 0 c') ∧ Below W.heap.size W w'
  go : ∀ (A : Option Addr) (c : Nat) (W : World), len ≤ c → Row W A len TA → Calls Try.prog 16 #[.int .i64 (next : Nat), .slice A len c] W fun e w' => ∃ A' c', e = .returned (.tuple #[.agg #[.int .i64 p, .int .i64 (exLen M : Nat), .int .i64 0, .int .i64 0, .int .i64 (M.length : Nat)], .slice A' 0 c']) ∧ Below W.heap.size W w'
  list : ∀ (A : Option Addr) (c : Nat) (W : World), len ≤ c → Row W A len TA → Calls Try.prog 25 #[.int .i64 (next : Nat), .slice A len c] W fun e w' => ∃ A' c', e = .returned (.slice A' M.length c') ∧ Below W.heap.size W w'
theorem pack_six {M : List (Int × List Nat)} {p : Int} (h : Written M p) (hb : ∀ m ∈ M, ∀ x ∈ m.2, x < 256) (hf : No44 M) (pay : List Nat) (hpb : ∀ x ∈ pay, x < 256) (hpay : pay.length ≤ 1000) {next len : Nat} (hnx : (next : Int) = exNext p M) (hln : len = exLen M + pay.length) :
    ∃ PA TA X, Pack6 M p pay next len PA TA X := by
  obtain ⟨f1, l5, f2, f3, f4, f5, f6, f7⟩ := packet_read h hb hf pay hpay hnx hln
  obtain ⟨t, t1, t2, t3, t4⟩ := walk_plain h hb hf pay (n := len) (by rw [List.length_append, exBytes_len, hln])
  have htl : (exBytes p M ++ pay).length = len := by rw [List.length_append, exBytes_len, hln]
  obtain ⟨xl, xo⟩ := SixV.cells_all (f := sixP next len) rfl rfl
  have hTb : ∀ x ∈ exBytes p M ++ pay, x < 256 := fun x hx => by
    rcases List.mem_append.1 hx with h1 | h1
    · exact exBytes_byte ⟨h.p0, h.p1⟩ (fun m hm => ⟨(h.each m hm).1, (h.each m hm).2.2.2⟩) hb x h1
    · exact hpb x h1
  refine ⟨_, _, (sixP next len).cells, rfl, rfl, xl, xo, rfl, htl, l5, fun A c W hc hR => ?_, fun A c W hc hR => ?_, fun A c W hc hR => ?_, fun A c W hc hR => ?_, fun A c W hc hR => ?_⟩
  · have h1 := sxread_any A (40 + len) c _ W (by omega) hc hR
    unfold SxReadIs at h1
    rw [f4, f5] at h1
    exact h1
  · have h1 := sxrest_any A (40 + len) c _ W (by omega) hc hR
    unfold SxRestIs at h1
    rw [f6] at h1
    refine h1.mono ?_
    rintro e w' ⟨v, rfl, ⟨A', c', rfl, hc', hr'⟩, hb'⟩
    rw [Option.getD_some, htl] at hc' hr' ⊢
    exact ⟨A', c', rfl, hc', hr', hb'⟩
  · have h1 := sxall_any A (40 + len) c _ W (by omega) hc hR
    unfold SxAllIs at h1
    rw [f7] at h1
    refine h1.mono ?_
    rintro e w' ⟨v, rfl, ⟨A', c', rfl, _, _⟩, hb'⟩
    exact ⟨A', c', rfl, hb'⟩
  · have h1 := exgo_tour (next : Int) A len c _ W hc (by omega) hR
    rw [hnx, t1] at h1
    unfold GoIs at h1
    rw [t2, t3] at h1
    rw [hnx]
    refine h1.mono ?_
    rintro e w' ⟨v, rfl, ⟨A', c', rfl, _, _⟩, hb'⟩
    exact ⟨A', c', rfl, hb'⟩
  · have h1 := exlist_any (next : Int) A len c _ W hc (by omega) hR (by rw [hnx, t4, List.length_map]; have := h.l8; omega) (fun m hm => by
      rw [hnx, t4] at hm
      obtain ⟨m0, h0, rfl⟩ := List.mem_map.1 hm
      have := (h.each m0 h0).2.1
      show m0.2.length ≤ _
      omega)
    rw [hnx, t4] at h1
    unfold ListIs at h1
    rw [hnx]
    refine h1.mono ?_
    rintro e w' ⟨v, rfl, hE, hb'⟩
    obtain ⟨A', c', e1, _, _⟩ := hE.slice
    rw [List.length_map] at e1
    exact ⟨A', c', by rw [e1], hb'⟩
end Go.Proofs.Ytlopmkmcjcijcaa
