/- Proved here: how the laws' package marks lists of lists of numbers, and answers with a code and such a list. -/
import Derived.Test.YtkdpifplhhcpaaaGrO
import Derived.Test.YtkdpifplhhcpaaaIntM
import Derived.Test.YtkdpifplhhcpaaaLwS
import Derived.Test.YtkdpifplhhcpaaaIntH
namespace Go.Proofs.Ytkdpifplhhcpaaa
open Go.RowKit
set_option linter.unusedVariables false
set_option linter.unusedSimpArgs false

/-- Nothing has turned but the rows' own cells. -/
structure OnlyR (vs : List Value) (m : Nat) (w w' : World) : Prop where
  os : w'.os = w.os
  tape : w'.tape = w.tape
  output : w'.output = w.output
  size : w'.heap.size = w.heap.size
  block : ∀ k, (∀ i, i < m → (rat vs i).ownBlock ≠ some k) → w'.heap[k]? = w.heap[k]?
theorem OnlyR.refl (vs : List Value) (m : Nat) (w : World) : OnlyR vs m w w := ⟨rfl, rfl, rfl, rfl, fun _ _ => rfl⟩
theorem OnlyR.chg {vs : List Value} {m : Nat} {w w' : World} {B Z : Nat} (h : OnlyR vs m w w') (hv : ∀ i, i < m → ∀ g, (rat vs i).ownBlock = some g → B ≤ g ∧ g < Z) : Chg B Z w w' :=
  ⟨h.os, h.tape, h.output, by rw [h.size]; exact Nat.le_refl _, fun k hk hb => h.block k fun i hi e => by have := hv i hi k e; omega⟩
/-- The first j rows marked, from z on. -/
def mkG (z : Int) (ls : List (List Int)) : Nat → List (List Int)
  | 0 => ls
  | j + 1 => (mkG z ls j).set j (marks (z + (totR ls j : Int)) (ls.getD j []).length)
theorem mkG_len (z : Int) (ls : List (List Int)) (j : Nat) : (mkG z ls j).length = ls.length := by
  induction j with
  | zero => rfl
  | succ j ih => rw [mkG, List.length_set, ih]
theorem mkG_after (z : Int) (ls : List (List Int)) {j i : Nat} (h : j ≤ i) : (mkG z ls j).getD i [] = ls.getD i [] := by
  induction j with
  | zero => rfl
  | succ j ih =>
    rw [mkG, List.getD_eq_getElem?_getD, List.getElem?_set_ne (by omega), ← List.getD_eq_getElem?_getD]
    exact ih (by omega)
theorem mkG_at (z : Int) (ls : List (List Int)) {j i : Nat} (h : i < j) (hi : i < ls.length) : (mkG z ls j).getD i [] = marks (z + (totR ls i : Int)) (ls.getD i []).length := by
  induction j with
  | zero => omega
  | succ j ih =>
    rw [mkG]
    by_cases e : i = j
    · subst e
      rw [List.getD_eq_getElem?_getD, List.getElem?_set_self (by rw [mkG_len]; exact hi)]
      rfl
    · rw [List.getD_eq_getElem?_getD, List.getElem?_set_ne (by omega), ← List.getD_eq_getElem?_getD]
      exact ih (by omega)

set_option maxRecDepth 10000 in
set_option maxHeartbeats 4000000 in
theorem markRows_on {w : World} {B : Nat} {v : Value} {ls : List (List Int)} {vs : List Value} (z0 : Int) (hn : SmR ls) (hz0 : 0 ≤ z0) (hz1 : z0 ≤ 1000000000) (h : RI w B v ls vs) :
    Calls Try.prog 38 #[v, .int .i64 z0] w fun e w' => e = .returned (.int .i64 (z0 + (totR ls ls.length : Int))) ∧ RI w' B v (mkG z0 ls ls.length) vs ∧ OnlyR vs ls.length w w' := by
  obtain ⟨a, c, rfl⟩ := h.form
  obtain ⟨m, hm⟩ : ∃ m, m = ls.length := ⟨_, rfl⟩
  rw [← hm] at h ⊢
  have H : Hid (RI w B (.slice a m c) ls vs) := h
  have HM : Hid (m = ls.length ∧ SmR ls) := ⟨hm, hn⟩
  have hl : m ≤ 1048576 := by rw [hm]; exact hn.len
  clear h hm hn
  go_enter Try.func38, Try.ntmps38
  go_wp2_with (fail)
  go_loopw [1, 5] (fun q i wr => ∃ (j : Nat) (z : Int), j ≤ m ∧ i = .int .i64 j ∧ q = .int .i64 z ∧ 0 ≤ z ∧ z ≤ 2000000000 ∧ Hid (z = z0 + (totR ls j : Int) ∧ RI wr B (.slice a m c) (mkG z0 ls j) vs ∧ OnlyR vs m w wr)) (fun _ i _ => m - (intOf i).toNat)
  case atStart => exact ⟨0, z0, Nat.zero_le _, rfl, rfl, hz0, by omega, by simp [totR], H.out, OnlyR.refl _ _ _⟩
  case round =>
    clear H
    obtain ⟨j, z, hj, rfl, rfl, hz0', hz1', hR⟩ := hrel
    by_cases hlt : j < m
    · have hjl : j < (mkG z0 ls j).length := by rw [mkG_len, ← HM.out.1]; exact hlt
      obtain ⟨gr, cr, he, hgB, hgl, hjr⟩ := hR.out.2.1.pos (by omega)
      simp only [Value.slice.injEq] at he
      obtain ⟨rfl, hx1, hx2⟩ := he
      clear hx1 hx2
      have r0 := hjr j hjl
      have hrw := hR.out.2.1.bx j hjl
      rw [mkG_after z0 ls (Nat.le_refl j)] at hrw
      have hbj := HM.out.2.row j
      have ht1 := HM.out.2.upto (show j + 1 ≤ ls.length by rw [← HM.out.1]; omega)
      obtain ⟨u, hu⟩ : ∃ u, u = rat vs j := ⟨_, rfl⟩
      rw [← hu] at r0 hrw
      obtain ⟨L, hL⟩ : ∃ L, L = (ls.getD j []).length := ⟨_, rfl⟩
      have HC : Hid (Calls Try.prog 27 #[u, .int .i64 z] wr fun e w' => e = .returned (.int .i64 (z + (L : Int))) ∧ RI w' B (.slice (some ⟨gr, 0, none⟩) m c) (mkG z0 ls (j + 1)) vs ∧ OnlyR vs m w w') := by
        refine (markI z (by omega) hz0' (by omega) hrw).mono ?_
        rintro e w' ⟨rfl, h1, g, _, hgo, hon⟩
        have hO : ∀ k, u.ownBlock ≠ some k → w'.heap[k]? = wr.heap[k]? := fun k hk => by
          rcases hgo with e | e
          · exact hon.block k fun e2 => hk (by rw [e, e2])
          · rw [e]
        refine ⟨by rw [hL], ?_, ⟨hon.os.trans hR.out.2.2.os, hon.tape.trans hR.out.2.2.tape, hon.output.trans hR.out.2.2.output, hon.size.trans hR.out.2.2.size, fun k hk => (hO k (by rw [hu]; exact hk j hlt)).trans (hR.out.2.2.block k hk)⟩⟩
        rw [mkG]
        refine hR.out.2.1.turn hjl ?_ (by rw [← hu]; exact hO)
        rw [← hu, ← hR.out.1]
        exact h1
      have HT : Hid (z + (L : Int) = z0 + (totR ls (j + 1) : Int)) := by unfold Hid; rw [hR.out.1, hL]; simp only [totR]; omega
      have hLt : z + (L : Int) = z0 + (totR ls (j + 1) : Int) := HT.out
      obtain ⟨ua, uc, huf⟩ := hrw.form
      rw [← hL] at huf
      subst huf
      clear hjr hR hrw hu hL hbj
      have hz2 : 0 ≤ z + (L : Int) ∧ z + (L : Int) ≤ 2000000000 := by omega
      clear hLt ht1
      have b0 : (0 : Int) ≤ (j : Int) := by omega
      have b1 : (j : Int) < (m : Int) := by omega
      go_wp2_with (fail)
      refine HC.out.mono ?_
      rintro e w' ⟨rfl, hP, hO⟩
      have R : Hid (z + (L : Int) = z0 + (totR ls (j + 1) : Int) ∧ RI w' B (.slice (some ⟨gr, 0, none⟩) m c) (mkG z0 ls (j + 1)) vs ∧ OnlyR vs m w w') := ⟨HT.out, hP, hO⟩
      clear hP hO HC HT
      go_wp2
      go_roundw
      case rel => exact ⟨j + 1, _, by omega, by go_num, rfl, hz2.1, hz2.2, R.out⟩
      case measure => simp [intOf]; omega
    · have ej : m = j := by omega
      subst ej
      have HR : Hid _ := hR.out
      clear hR
      go_wp2
      go_returns
      exact ⟨by rw [HR.out.1]; rfl, HR.out.2.1, HR.out.2.2⟩

set_option maxRecDepth 10000 in
set_option maxHeartbeats 4000000 in
theorem heldRows_is {w : World} {B : Nat} {v : Value} {ls : List (List Int)} {vs : List Value} (z0 : Int) (hn : SmR ls) (hz0 : 0 ≤ z0) (hz1 : z0 ≤ 1000000000) (h : RI w B v (mkG z0 ls ls.length) vs) :
    Calls Try.prog 62 #[v, .int .i64 z0] w fun e w' => e = .returned (.int .i64 (z0 + (totR ls ls.length : Int))) ∧ w' = w := by
  obtain ⟨a, c, hv⟩ := h.form
  rw [mkG_len] at hv
  subst hv
  obtain ⟨m, hm⟩ : ∃ m, m = ls.length := ⟨_, rfl⟩
  rw [← hm] at h ⊢
  have H : Hid (RI w B (.slice a m c) (mkG z0 ls m) vs) := h
  have HM : Hid (m = ls.length ∧ SmR ls) := ⟨hm, hn⟩
  have hl : m ≤ 1048576 := by rw [hm]; exact hn.len
  clear h hm hn
  go_enter Try.func62, Try.ntmps62
  go_wp2_with (fail)
  go_loopw [1, 5] (fun q i wr => ∃ (j : Nat) (z : Int), j ≤ m ∧ i = .int .i64 j ∧ q = .int .i64 z ∧ 0 ≤ z ∧ z ≤ 2000000000 ∧ Hid (z = z0 + (totR ls j : Int) ∧ wr = w)) (fun _ i _ => m - (intOf i).toNat)
  case atStart => exact ⟨0, z0, Nat.zero_le _, rfl, rfl, hz0, by omega, by simp [totR], rfl⟩
  case round =>
    obtain ⟨j, z, hj, rfl, rfl, hz0', hz1', hR⟩ := hrel
    obtain ⟨hzj, rfl⟩ := hR.out
    have HZ : Hid (z = z0 + (totR ls j : Int)) := hzj
    clear hR hzj
    by_cases hlt : j < m
    · have hjl : j < (mkG z0 ls m).length := by rw [mkG_len, ← HM.out.1]; exact hlt
      obtain ⟨gr, cr, he, hgB, hgl, hjr⟩ := H.out.pos (by omega)
      simp only [Value.slice.injEq] at he
      obtain ⟨rfl, hx1, hx2⟩ := he
      clear hx1 hx2
      have r0 := hjr j hjl
      have hrw := H.out.bx j hjl
      rw [mkG_at z0 ls hlt (by rw [← HM.out.1]; exact hlt)] at hrw
      have hbj := HM.out.2.row j
      have ht1 := HM.out.2.upto (show j + 1 ≤ ls.length by rw [← HM.out.1]; omega)
      obtain ⟨u, hu⟩ : ∃ u, u = rat vs j := ⟨_, rfl⟩
      rw [← hu] at r0 hrw
      obtain ⟨L, hL⟩ : ∃ L, L = (ls.getD j []).length := ⟨_, rfl⟩
      rw [← hL, ← HZ.out] at hrw
      have HC : Hid (Calls Try.prog 55 #[u, .int .i64 z] wr fun e w' => e = .returned (.int .i64 (z + (L : Int))) ∧ w' = wr) := heldI z (by omega) hz0' (by omega) hrw
      have HT : Hid (z + (L : Int) = z0 + (totR ls (j + 1) : Int)) := by unfold Hid; rw [HZ.out, hL]; simp only [totR]; omega
      have hLt : z + (L : Int) = z0 + (totR ls (j + 1) : Int) := HT.out
      obtain ⟨ua, uc, huf⟩ := hrw.form
      rw [marks_length] at huf
      subst huf
      clear hjr hrw hu hL hbj
      have hz2 : 0 ≤ z + (L : Int) ∧ z + (L : Int) ≤ 2000000000 := by omega
      have hz3 : ¬ z + (L : Int) < 0 := by omega
      clear hLt ht1
      have b0 : (0 : Int) ≤ (j : Int) := by omega
      have b1 : (j : Int) < (m : Int) := by omega
      go_wp2_with (fail)
      refine HC.out.mono ?_
      rintro e w' ⟨rfl, rfl⟩
      go_wp2
      go_roundw
      case rel => exact ⟨j + 1, _, by omega, by go_num, rfl, hz2.1, hz2.2, HT.out, trivial⟩
      case measure => simp [intOf]; omega
    · have ej : m = j := by omega
      subst ej
      go_wp2
      go_returns
      exact ⟨by rw [HZ.out]; rfl, rfl⟩

theorem markInt64SS_to {w : World} {B Z : Nat} {v : Value} {ls : List (List Int)} {vs : List Value} (z : Int) (hn : SmR ls) (hz0 : 0 ≤ z) (hz1 : z ≤ 1000000000) (h : RI w B v ls vs) (hZ : LtR v vs ls.length Z) :
    Calls Try.prog 38 #[v, .int .i64 z] w fun e w' => e = .returned (.int .i64 (z + (totR ls ls.length : Int))) ∧ RI w' B v (mkG z ls ls.length) vs ∧ Chg B Z w w' := by
  refine (markRows_on z hn hz0 hz1 h).mono ?_
  rintro e w' ⟨rfl, h1, h2⟩
  exact ⟨rfl, h1, h2.chg fun i hi g hg => ⟨(rowBlk (h.bx i hi) hg).1, hZ.2 i hi g hg⟩⟩

end Go.Proofs.Ytkdpifplhhcpaaa
