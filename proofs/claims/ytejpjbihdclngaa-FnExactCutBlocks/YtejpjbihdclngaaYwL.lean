/- Proved here: how the laws' package marks lists of lists of bytes. -/
import Derived.Test.YtejpjbihdclngaaYwO
import Derived.Test.YtejpjbihdclngaaYwK
namespace Go.Proofs.Ytejpjbihdclngaa
open Go.ChangeShapes Go.WideShapes Go.ChangeAt Go.RowKit Go.Joins Go.Deep
set_option linter.unusedVariables false
set_option linter.unusedSimpArgs false
/-- Nothing has turned but the rows' own cells. -/
structure OnlyY (vs : List Value) (m : Nat) (w w' : World) : Prop where
  os : w'.os = w.os
  tape : w'.tape = w.tape
  output : w'.output = w.output
  size : w'.heap.size = w.heap.size
  block : ∀ k, (∀ i, i < m → (rat vs i).ownBlock ≠ some k) → w'.heap[k]? = w.heap[k]?
theorem OnlyY.refl (vs : List Value) (m : Nat) (w : World) : OnlyY vs m w w := ⟨rfl, rfl, rfl, rfl, fun _ _ => rfl⟩
theorem OnlyY.chg {vs : List Value} {m : Nat} {w w' : World} {B Z : Nat} (h : OnlyY vs m w w') (hv : ∀ i, i < m → ∀ g, (rat vs i).ownBlock = some g → B ≤ g ∧ g < Z) : Chg B Z w w' :=
  ⟨h.os, h.tape, h.output, by rw [h.size]; exact Nat.le_refl _, fun k hk hb => h.block k fun i hi e => by have := hv i hi k e; omega⟩
/-- The first j rows marked, from z on. -/
def mkGY (z : Int) (ls : List (List UInt8)) : Nat → List (List UInt8)
  | 0 => ls
  | j + 1 => (mkGY z ls j).set j (marksY (z + (totY ls j : Int)) (ls.getD j []).length)
theorem mkGY_len (z : Int) (ls : List (List UInt8)) (j : Nat) : (mkGY z ls j).length = ls.length := by
  induction j with
  | zero => rfl
  | succ j ih => rw [mkGY, List.length_set, ih]
theorem mkGY_after (z : Int) (ls : List (List UInt8)) {j i : Nat} (h : j ≤ i) : (mkGY z ls j).getD i [] = ls.getD i [] := by
  induction j with
  | zero => rfl
  | succ j ih =>
    rw [mkGY, List.getD_eq_getElem?_getD, List.getElem?_set_ne (by omega), ← List.getD_eq_getElem?_getD]
    exact ih (by omega)
theorem mkGY_at (z : Int) (ls : List (List UInt8)) {j i : Nat} (h : i < j) (hi : i < ls.length) : (mkGY z ls j).getD i [] = marksY (z + (totY ls i : Int)) (ls.getD i []).length := by
  induction j with
  | zero => omega
  | succ j ih =>
    rw [mkGY]
    by_cases e : i = j
    · subst e
      rw [List.getD_eq_getElem?_getD, List.getElem?_set_self (by rw [mkGY_len]; exact hi)]
      rfl
    · rw [List.getD_eq_getElem?_getD, List.getElem?_set_ne (by omega), ← List.getD_eq_getElem?_getD]
      exact ih (by omega)

set_option maxRecDepth 10000 in
set_option maxHeartbeats 4000000 in
theorem markRows_onY {w : World} {B : Nat} {v : Value} {ls : List (List UInt8)} {vs : List Value} (z0 : Int) (hn : SmY ls) (hz0 : 0 ≤ z0) (hz1 : z0 ≤ 1000000000) (h : RoY w B v ls vs) :
    Calls Try.prog 53 #[v, .int .i64 z0] w fun e w' => e = .returned (.int .i64 (z0 + (totY ls ls.length : Int))) ∧ RoY w' B v (mkGY z0 ls ls.length) vs ∧ OnlyY vs ls.length w w' := by
  obtain ⟨a, c, rfl⟩ := h.form
  obtain ⟨m, hm⟩ : ∃ m, m = ls.length := ⟨_, rfl⟩
  rw [← hm] at h ⊢
  have H : Hid (RoY w B (.slice a m c) ls vs) := h
  have HM : Hid (m = ls.length ∧ SmY ls) := ⟨hm, hn⟩
  have hl : m ≤ 1048576 := by rw [hm]; exact hn.len
  clear h hm hn
  go_enter Try.func53, Try.ntmps53
  go_wp2_with (fail)
  go_loopw [1, 5] (fun q i wr => ∃ (j : Nat) (z : Int), j ≤ m ∧ i = .int .i64 j ∧ q = .int .i64 z ∧ 0 ≤ z ∧ z ≤ 2000000000 ∧ Hid (z = z0 + (totY ls j : Int) ∧ RoY wr B (.slice a m c) (mkGY z0 ls j) vs ∧ OnlyY vs m w wr)) (fun _ i _ => m - (intOf i).toNat)
  case atStart => exact ⟨0, z0, Nat.zero_le _, rfl, rfl, hz0, by omega, by simp [totY], H.out, OnlyY.refl _ _ _⟩
  case round =>
    clear H
    obtain ⟨j, z, hj, rfl, rfl, hz0', hz1', hR⟩ := hrel
    by_cases hlt : j < m
    · have hjl : j < (mkGY z0 ls j).length := by rw [mkGY_len, ← HM.out.1]; exact hlt
      obtain ⟨gr, cr, he, hgB, hgl, hjr⟩ := hR.out.2.1.pos (by omega)
      simp only [Value.slice.injEq] at he
      obtain ⟨rfl, hx1, hx2⟩ := he
      clear hx1 hx2
      have r0 := hjr j hjl
      have hrw := hR.out.2.1.bx j hjl
      rw [mkGY_after z0 ls (Nat.le_refl j)] at hrw
      have hbj := HM.out.2.row j
      have ht1 := HM.out.2.upto (show j + 1 ≤ ls.length by rw [← HM.out.1]; omega)
      obtain ⟨u, hu⟩ : ∃ u, u = rat vs j := ⟨_, rfl⟩
      rw [← hu] at r0 hrw
      obtain ⟨L, hL⟩ : ∃ L, L = (ls.getD j []).length := ⟨_, rfl⟩
      have HC : Hid (Calls Try.prog 30 #[u, .int .i64 z] wr fun e w' => e = .returned (.int .i64 (z + (L : Int))) ∧ RoY w' B (.slice (some ⟨gr, 0, none⟩) m c) (mkGY z0 ls (j + 1)) vs ∧ OnlyY vs m w w') := by
        refine (mark1Y z (by omega) hz0' (by omega) hrw).mono ?_
        rintro e w' ⟨rfl, h1, g, _, hgo, hon⟩
        have hO : ∀ k, u.ownBlock ≠ some k → w'.heap[k]? = wr.heap[k]? := fun k hk => by
          rcases hgo with e | e
          · exact hon.block k fun e2 => hk (by rw [e, e2])
          · rw [e]
        refine ⟨by rw [hL], ?_, ⟨hon.os.trans hR.out.2.2.os, hon.tape.trans hR.out.2.2.tape, hon.output.trans hR.out.2.2.output, hon.size.trans hR.out.2.2.size, fun k hk => (hO k (by rw [hu]; exact hk j hlt)).trans (hR.out.2.2.block k hk)⟩⟩
        rw [mkGY]
        refine hR.out.2.1.turn hjl ?_ (by rw [← hu]; exact hO)
        rw [← hu, ← hR.out.1]
        exact h1
      have HT : Hid (z + (L : Int) = z0 + (totY ls (j + 1) : Int)) := by unfold Hid; rw [hR.out.1, hL]; simp only [totY]; omega
      have hLt : z + (L : Int) = z0 + (totY ls (j + 1) : Int) := HT.out
      obtain ⟨ua, uc, huf⟩ := hrw.form
      rw [← hL] at huf
      subst huf
      clear hjr hR hrw hu hL hbj
      have hz2 : 0 ≤ z + (L : Int) ∧ z + (L : Int) ≤ 2000000000 := by omega
      clear hLt ht1
      have b0 : (0 : Int) ≤ (j : Int) := by omega
      have b1 : (j : Int) < (m : Int) := by omega
      go_wp2_with (fail)
      refine HC.out.mono ?_
      rintro e w' ⟨rfl, hP, hO⟩
      have R : Hid (z + (L : Int) = z0 + (totY ls (j + 1) : Int) ∧ RoY w' B (.slice (some ⟨gr, 0, none⟩) m c) (mkGY z0 ls (j + 1)) vs ∧ OnlyY vs m w w') := ⟨HT.out, hP, hO⟩
      clear hP hO HC HT
      go_wp2
      go_roundw
      case rel => exact ⟨j + 1, _, by omega, by go_num, rfl, hz2.1, hz2.2, R.out⟩
      case measure => simp [intOf]; omega
    · have ej : m = j := by omega
      subst ej
      have HR : Hid _ := hR.out
      clear hR
      go_wp2
      go_returns
      exact ⟨by rw [HR.out.1]; rfl, HR.out.2.1, HR.out.2.2⟩

theorem markByteSS_to {w : World} {B Z : Nat} {v : Value} {ls : List (List UInt8)} {vs : List Value} (z : Int) (hn : SmY ls) (hz0 : 0 ≤ z) (hz1 : z ≤ 1000000000) (h : RoY w B v ls vs) (hZ : LtY v vs ls.length Z) :
    Calls Try.prog 53 #[v, .int .i64 z] w fun e w' => e = .returned (.int .i64 (z + (totY ls ls.length : Int))) ∧ RoY w' B v (mkGY z ls ls.length) vs ∧ Chg B Z w w' := by
  refine (markRows_onY z hn hz0 hz1 h).mono ?_
  rintro e w' ⟨rfl, h1, h2⟩
  exact ⟨rfl, h1, h2.chg fun i hi g hg => ⟨(rowBlk (h.bx i hi) hg).1, hZ.2 i hi g hg⟩⟩


end Go.Proofs.Ytejpjbihdclngaa
