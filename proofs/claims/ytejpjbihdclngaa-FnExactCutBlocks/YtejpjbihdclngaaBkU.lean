/- Proved here: blockSum of the program: the two bytes of the sum of all bytes but the first. -/
import Derived.Test.YtejpjbihdclngaaBkM
import Derived.Test.YtejpjbihdclngaaLwS
namespace Go.Proofs.Ytejpjbihdclngaa
open Go.RowKit
set_option linter.unusedVariables false
set_option linter.unusedSimpArgs false

set_option maxRecDepth 10000 in
set_option maxHeartbeats 3200000 in
theorem impl_bsum {w : World} {v : Value} {s : List UInt8} (h1 : 2 ≤ s.length) (h2 : s.length ≤ 1048576) (h : RBc w v s) :
    Calls Try.prog 56 #[v] w fun e w' => ∃ g, e = .returned (.slice (some ⟨g, 0, none⟩) 2 2) ∧ OBy w' w.heap.size (.slice (some ⟨g, 0, none⟩) 2 2) [hiB (suV (s.drop 1)), loB (suV (s.drop 1))] ∧ Below w.heap.size w w' := by
  obtain ⟨a, c, rfl, hc⟩ := h.form
  obtain ⟨g, o, c2, he, hg, _⟩ := h.by.pos (by omega)
  simp only [Value.slice.injEq] at he
  obtain ⟨rfl, _, _⟩ := he
  obtain ⟨n, hnn⟩ : ∃ n, n = s.length := ⟨_, rfl⟩
  rw [← hnn] at h h1 h2 hc ⊢
  obtain ⟨S, hS⟩ : ∃ S, S = suV (s.drop 1) := ⟨_, rfl⟩
  rw [← hS]
  have H : Hid (RBy w (.slice (some ⟨g, o, none⟩) n c) s ∧ n = s.length ∧ S = suV (s.drop 1)) := ⟨h.by, hnn, hS⟩
  clear h hnn hS
  have hcn : ¬ c - 1 = 0 := by omega
  obtain ⟨m, hm⟩ : ∃ m, m = n - 1 := ⟨_, rfl⟩
  have hmn : ((n : Int) - 1) = (m : Int) := by omega
  have HD : Hid (∀ k, k < m → w.cell? ⟨g, o + 1 + k, none⟩ = some (.int .u8 (byN (s.drop 1) k))) := by
    intro k hk
    have := (by_cellN H.out.1 (k := k + 1) (by omega)).1
    rw [show o + 1 + k = o + (k + 1) by omega, this]
    unfold byN
    rw [List.getD_eq_getElem?_getD, List.getD_eq_getElem?_getD, List.getElem?_drop, show 1 + k = k + 1 by omega]
  have HL : Hid (m = (s.drop 1).length) := by unfold Hid; rw [List.length_drop, ← H.out.2.1, hm]
  have HMN : Hid (m = n - 1) := hm
  have e1 : n - 1 = m := hm.symm
  clear hm
  go_enter Try.func56, Try.ntmps56
  go_wp2
  go_loopw [3, 9] (fun q i wr => ∃ k : Nat, k ≤ m ∧ i = .int .i64 k ∧ q = .int .u16 (suK (s.drop 1) k : Int) ∧ w = wr) (fun _ i _ => m - (intOf i).toNat)
  case atStart => exact ⟨0, Nat.zero_le _, rfl, rfl, rfl⟩
  case round =>
    obtain ⟨k, hk, rfl, rfl, rfl⟩ := hrel
    obtain ⟨Z, hZ⟩ : ∃ Z : Nat, Z = suK (s.drop 1) k := ⟨_, rfl⟩
    have hZb : Z < 65536 := by rw [hZ]; exact suK_lt _ _
    rw [← hZ]
    by_cases hlt : k < m
    · have c0 := HD.out k hlt
      obtain ⟨x, hx⟩ : ∃ x, x = byN (s.drop 1) k := ⟨_, rfl⟩
      have hxb := byN_bd (s.drop 1) k
      rw [← hx] at c0 hxb
      have HN : Hid ((suK (s.drop 1) (k + 1) : Int) = ((Z : Int) + x) % 65536) := by
        unfold Hid; rw [suK, ← hZ, hx]; unfold byN; omega
      have hw1 : IntKind.u16.wrap x = x := by rw [IntKind.wrap_u16]; omega
      have hw2 : IntKind.u16.wrap ((Z : Int) + x) = ((Z : Int) + x) % 65536 := IntKind.wrap_u16 _
      clear hx hZ
      have b0 : (0 : Int) ≤ (k : Int) := by omega
      have b1 : (k : Int) < (m : Int) := by omega
      go_wp2
      go_roundw
      case rel => exact ⟨k + 1, by omega, by go_num, by rw [HN.out], by first | rfl | trivial⟩
      case measure => simp [intOf]; omega
    · have HE : Hid (S = Z) := by unfold Hid; rw [H.out.2.2, hZ, suV, ← HL.out, show k = m by omega]
      have hw1 : IntKind.u8.wrap ((Z : Int) / 256) = (Z : Int) / 256 := by rw [IntKind.wrap_u8]; omega
      have hw2 : IntKind.u8.wrap (Z : Int) = (Z : Int) % 256 := IntKind.wrap_u8 _
      clear hZ
      go_wp2
      go_returns
      refine ⟨_, rfl, ?_, by (repeat' (first | (with_reducible exact Below.refl _ _) | (with_reducible assumption) | (with_reducible refine Below.setCell ?_ ?_ _) | (with_reducible refine Below.alloc ?_ ?_ _) | (with_reducible refine below_drewN ?_ _) | (with_reducible refine Below.drew ?_) | (with_reducible exact Nat.le_refl _) | omega | (simp; done) | (simp; omega)))⟩
      rw [HE.out]
      have := World.ownsRow_lit (e := 5) (size := 1) (base := w.heap.size) w #[.int .u8 ((Z : Int) / 256), .int .u8 ((Z : Int) % 256)] 2 (Nat.le_refl _) (by decide) (by simp)
      have e9 : [hiB Z, loB Z].flatMap byC = [.int .u8 ((Z : Int) / 256), .int .u8 ((Z : Int) % 256)] := by
        show [Value.int .u8 ((hiB Z).toNat : Int), Value.int .u8 ((loB Z).toNat : Int)] = _
        rw [hiB_nat hZb, loB_nat]; rfl
      show World.ownsRow _ _ _ _ _ _ _
      rw [e9]
      exact this

end Go.Proofs.Ytejpjbihdclngaa
