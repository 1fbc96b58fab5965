/- Proved here: the first number that is not 0 (cmp.Or), of the program. -/
import Derived.Test.YtceljakmjddgbabLwS
namespace Go.Proofs.Ytceljakmjddgbab
open Go.RowKit
set_option linter.unusedVariables false
set_option linter.unusedSimpArgs false

/-- The first that is not 0. -/
def orL : List Int → Int
  | [] => 0
  | x :: t => if x = 0 then orL t else x
theorem orL_drop {xs : List Int} {k : Nat} (h : k < xs.length) : orL (xs.drop k) = if xs[k] = 0 then orL (xs.drop (k + 1)) else xs[k] := by
  rw [List.drop_eq_getElem_cons h, orL]

set_option maxRecDepth 10000 in
set_option maxHeartbeats 3200000 in
theorem impl_or {w : World} {g n : Nat} {xs : List Int} (hn : n ≤ 1000) (hl : n = xs.length) (h : ∀ j (hj : j < xs.length), w.cell? ⟨g, j, none⟩ = some (.int .i64 xs[j])) :
    Calls Try.prog 42 #[.slice (some ⟨g, 0, none⟩) n n] w fun e w' => e = .returned (.int .i64 (orL xs)) ∧ w' = w := by
  obtain ⟨G, hG⟩ : ∃ G, G = orL xs := ⟨_, rfl⟩
  rw [← hG]
  have H : Hid (n = xs.length ∧ G = orL xs ∧ ∀ j (hj : j < xs.length), w.cell? ⟨g, j, none⟩ = some (.int .i64 xs[j])) := ⟨hl, hG, h⟩
  clear hl hG h
  go_enter Try.func42, Try.ntmps42
  go_wp2
  go_loopw [8] (fun i wr => ∃ k : Nat, k ≤ n ∧ i = .int .i64 k ∧ wr = w ∧ Hid (G = orL (xs.drop k))) (fun i _ => n - (intOf i).toNat)
  case atStart => exact ⟨0, Nat.zero_le _, rfl, rfl, H.out.2.1⟩
  case round =>
    obtain ⟨k, hk, rfl, rfl, hR⟩ := hrel
    by_cases hlt : k < n
    · have hjl : k < xs.length := by rw [← H.out.1]; exact hlt
      have c0 := H.out.2.2 k hjl
      obtain ⟨x, hx⟩ : ∃ x, x = xs[k] := ⟨_, rfl⟩
      rw [← hx] at c0
      have HN : Hid (G = if x = 0 then orL (xs.drop (k + 1)) else x) := by unfold Hid; rw [hR.out, orL_drop hjl, hx]
      clear hx hR
      have b0 : (0 : Int) ≤ (k : Int) := by omega
      have b1 : (k : Int) < (n : Int) := by omega
      by_cases h0 : x = 0
      · have HN2 : Hid (G = orL (xs.drop (k + 1))) := by have e := HN.out; rw [if_pos h0] at e; exact e
        have hA : (x != 0) = false := by rw [h0]; rfl
        clear HN h0
        go_wp2
        go_roundw
        case rel => exact ⟨k + 1, by omega, by go_num, by first | rfl | trivial, HN2.out⟩
        case measure => simp [intOf]; omega
      · have HN2 : Hid (G = x) := by have e := HN.out; rw [if_neg h0] at e; exact e
        have hA : (x != 0) = true := by simpa using h0
        clear HN h0
        go_wp2
        go_returns
        exact ⟨by rw [HN2.out]; rfl, rfl⟩
    · have HN2 : Hid (G = 0) := by unfold Hid; rw [hR.out, List.drop_eq_nil_of_le (by rw [← H.out.1]; omega)]; rfl
      go_wp2
      go_returns
      exact ⟨by rw [HN2.out]; rfl, rfl⟩

end Go.Proofs.Ytceljakmjddgbab
