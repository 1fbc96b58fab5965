/- Proved here: small rules on what has been looked at; times that are far. No condition on the program. -/
import Derived.Test.YtpbkoigdfjajkaaDtM
namespace Go.Proofs.Ytpbkoigdfjajkaa
open Go.RowKit
set_option linter.unusedVariables false
set_option linter.unusedSimpArgs false

theorem Seen.rest {n W : Nat} {R S : List (List Int)} {nb : Nat → Nat → List (Int × Int)} (h : Seen n W R S nb n 0 0) (hm : ∀ i k, i < n → k < W → ∀ p, p ∈ nb i k ↔ Nb n W i k p) : ∀ i k j m, i < n → k < W → j < n → m < W → Adj i k j m → at2 S i k ≤ at2 S j m + at2 R i k := by
  intro i k j m hi hk hj hm' ha
  have hp := (hm i k hi hk _).2 (ha.nb hj hm')
  obtain ⟨t, ht, he⟩ := List.getElem_of_mem hp
  have := h i k hi hk t ht (Or.inl hi)
  rw [getD_lt ht, he] at this
  simpa using this
theorem Seen.row {n W : Nat} {R S : List (List Int)} {nb : Nat → Nat → List (Int × Int)} {i : Nat} (h : Seen n W R S nb i W 0) : Seen n W R S nb (i + 1) 0 0 := by
  intro a b ha hb t ht hc
  exact h a b ha hb t ht (by omega)
theorem Seen.place {n W : Nat} {R S : List (List Int)} {nb : Nat → Nat → List (Int × Int)} {i k q : Nat} (h : Seen n W R S nb i k q) (hq : (nb i k).length ≤ q) : Seen n W R S nb i (k + 1) 0 := by
  intro a b ha hb t ht hc
  refine h a b ha hb t ht ?_
  by_cases e : a = i ∧ b = k
  · obtain ⟨rfl, rfl⟩ := e
    exact Or.inr ⟨rfl, Or.inr ⟨rfl, by omega⟩⟩
  · omega
theorem Seen.one {n W : Nat} {R S : List (List Int)} {nb : Nat → Nat → List (Int × Int)} {i k q : Nat} (h : Seen n W R S nb i k q) (hs : at2 S i k ≤ at2 S ((nb i k).getD q (0, 0)).1.toNat ((nb i k).getD q (0, 0)).2.toNat + at2 R i k) : Seen n W R S nb i k (q + 1) := by
  intro a b ha hb t ht hc
  by_cases e : a = i ∧ b = k ∧ t = q
  · obtain ⟨rfl, rfl, rfl⟩ := e; exact hs
  · exact h a b ha hb t ht (by omega)
theorem Seen.zero {n W : Nat} {R S : List (List Int)} {nb : Nat → Nat → List (Int × Int)} : Seen n W R S nb 0 0 0 := by
  intro a b ha hb t ht hc
  omega
/-- A place of the list that is beside. -/
theorem nbS_get {n W i k q : Nat} (hi : i < n) (hk : k < W) (hq : q < (nbS n W i k).length) : ∃ j m : Nat, (nbS n W i k).getD q (0, 0) = ((j : Int), (m : Int)) ∧ j < n ∧ m < W ∧ Adj i k j m := by
  rw [getD_lt hq]
  exact Nb.adj ((nbS_mem (by omega) (by omega) (by omega) (by omega) _).1 (List.getElem_mem hq))
theorem bs_at {w : World} {a : Option Addr} {n c : Nat} {s : List (Int × Int)} (h : RG 2 bsE w (.slice a n c) s) {q : Nat} (hq : q < n) : ∃ g o, a = some ⟨g, o, none⟩ ∧ g < w.heap.size ∧ w.cell? ⟨g, o + q * 2, none⟩ = some (.int .i64 (s.getD q (0, 0)).1) ∧ w.cell? ⟨g, o + q * 2 + 1, none⟩ = some (.int .i64 (s.getD q (0, 0)).2) := by
  have hn : n = s.length := h.len
  obtain ⟨g, o, c2, he, hg, hx⟩ := h.pos (by omega)
  injection he with he1 he2 he3
  subst he1
  have h0 := hx q (by omega) 0 (by omega)
  have h1 := hx q (by omega) 1 (by omega)
  rw [Nat.add_zero] at h0
  rw [getD_lt (show q < s.length by omega)]
  exact ⟨g, o, rfl, hg, h0, h1⟩


theorem far_st {n W : Nat} {R L : List (List Int)} (hR : ∀ i k, i < n → k < W → 0 ≤ at2 R i k ∧ at2 R i k ≤ 1000000) (hn0 : 0 < n) (hn : n ≤ 16) (hL : ∀ i k, i < n → k < W → at2 L i k = if 1 ≤ i then 1152921504606846976 else at2 R i k) : ST n W R L := by
  refine ⟨fun i k hi hk => ?_, fun i k hi hk => ?_, fun k hk => ?_, fun T hT i k hi hk => ?_⟩
  · rw [hL i k hi hk]; have := hR i k hi hk; split <;> omega
  · rw [hL i k hi hk]; have := hR i k hi hk; split <;> omega
  · rw [hL 0 k hn0 hk, if_neg (by omega)]; exact Int.le_refl _
  · rw [hL i k hi hk]
    by_cases e : 1 ≤ i
    · rw [if_pos e]
      have := rest_bd hT (fun i k hi hk => (hR i k hi hk).2) i k hi hk
      omega
    · rw [if_neg e, show i = 0 by omega]; exact hT.top k hk

end Go.Proofs.Ytpbkoigdfjajkaa
