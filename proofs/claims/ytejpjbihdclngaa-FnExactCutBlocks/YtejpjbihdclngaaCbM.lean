/- Proved here: blocks that are cut: the arithmetic alone. -/
import Derived.Test.YtejpjbihdclngaaBkM
import Derived.Test.YtejpjbihdclngaaMsM
namespace Go.Proofs.Ytejpjbihdclngaa
open Go.RowKit
set_option linter.unusedVariables false
set_option linter.unusedSimpArgs false

/-- A number as a byte. -/
def u8i (x : Int) : UInt8 := UInt8.ofNat (x % 256).toNat
theorem u8i_nat (x : Int) : ((u8i x).toNat : Int) = x % 256 := by
  unfold u8i
  rw [UInt8.toNat_ofNat_of_lt' (by show (x % 256).toNat < 256; omega)]; omega
/-- What stands ahead of a block's sum; the block. -/
def hdB (A B C N : Int) (l : Bool) (d : List UInt8) : List UInt8 := [u8i (5 + (d.length : Int)), u8i A, u8i B, u8i N, u8i C, u8i (if l then 1 else 0)] ++ d
def blB (A B C N : Int) (l : Bool) (d : List UInt8) : List UInt8 := hdB A B C N l d ++ [hiB (suV ((hdB A B C N l d).drop 1)), loB (suV ((hdB A B C N l d).drop 1))]
theorem hdB_len (A B C N : Int) (l : Bool) (d : List UInt8) : (hdB A B C N l d).length = 6 + d.length := by unfold hdB; rw [List.length_append]; rfl
theorem blB_len (A B C N : Int) (l : Bool) (d : List UInt8) : (blB A B C N l d).length = 8 + d.length := by unfold blB; rw [List.length_append, hdB_len]; show 6 + d.length + 2 = _; omega
/-- The piece k, whether it is the last, its block, the first k blocks, how many there are. -/
def piB (s : List UInt8) (k : Nat) : List UInt8 := (s.take (32 * k + 32)).drop (32 * k)
def lsB (s : List UInt8) (k : Nat) : Bool := decide (s.length ≤ 32 * k + 32)
def cbB (A B C : Int) (s : List UInt8) (k : Nat) : List UInt8 := blB A B C ((k : Int) + 1) (lsB s k) (piB s k)
def cbR (A B C : Int) (s : List UInt8) : Nat → List (List UInt8)
  | 0 => []
  | k + 1 => cbR A B C s k ++ [cbB A B C s k]
def cbN (s : List UInt8) : Nat := (s.length - 1) / 32 + 1
def cbL (A B C : Int) (s : List UInt8) : List (List UInt8) := if mgF A B C s.length = 0 then cbR A B C s (cbN s) else []
theorem piB_len (s : List UInt8) (k : Nat) : (piB s k).length ≤ 32 := by unfold piB; rw [List.length_drop, List.length_take]; omega
theorem cbR_len (A B C : Int) (s : List UInt8) : ∀ k, (cbR A B C s k).length = k
  | 0 => rfl
  | k + 1 => by rw [cbR, List.length_append, cbR_len A B C s k]; rfl
/-- Where the blocks end. -/
theorem cb_end {s : List UInt8} {k : Nat} (h1 : k = 1 ∨ (1 ≤ k ∧ 32 * (k - 1) < s.length)) (h2 : s.length ≤ 32 * k) : k = cbN s := by unfold cbN; omega
theorem cbR_get (A B C : Int) (s : List UInt8) : ∀ k i, i < k → (cbR A B C s k).getD i [] = cbB A B C s i
  | 0, i, h => absurd h (Nat.not_lt_zero _)
  | k + 1, i, h => by
    rw [cbR, List.getD_eq_getElem?_getD]
    by_cases hi : i < k
    · rw [List.getElem?_append_left (by rw [cbR_len]; exact hi), ← List.getD_eq_getElem?_getD]
      exact cbR_get A B C s k i hi
    · have e : i = k := by omega
      subst e
      rw [List.getElem?_append_right (by rw [cbR_len]; exact Nat.le_refl _), cbR_len]; simp
theorem piB_cut {s : List UInt8} {k j : Nat} (h : j = min (32 * k + 32) s.length) : (s.take j).drop (32 * k) = piB s k := by
  unfold piB
  rcases Nat.le_total (32 * k + 32) s.length with h1 | h1
  · rw [h, Nat.min_eq_left h1]
  · rw [h, Nat.min_eq_right h1, List.take_length, List.take_of_length_le h1]
theorem drop_more (s : List UInt8) (k p : Nat) : (s.drop k).drop p = s.drop (k + p) := by rw [List.drop_drop]
theorem piB_take (s : List UInt8) (k : Nat) : (s.drop (32 * k)).take 32 = piB s k := by unfold piB; rw [List.drop_take]; congr 1; omega
theorem hd_flat (A B C N : Int) (l : Bool) (d : List UInt8) : ([u8i (5 + (d.length : Int)), u8i A, u8i B, u8i N, u8i C, u8i (if l then 1 else 0)] : List UInt8).flatMap byC = [.int .u8 ((5 + (d.length : Int)) % 256), .int .u8 (A % 256), .int .u8 (B % 256), .int .u8 (N % 256), .int .u8 (C % 256), .int .u8 ((if l then 1 else 0) % 256)] := by
  rw [by_flat]
  simp only [List.map_cons, List.map_nil, u8i_nat]

end Go.Proofs.Ytejpjbihdclngaa
