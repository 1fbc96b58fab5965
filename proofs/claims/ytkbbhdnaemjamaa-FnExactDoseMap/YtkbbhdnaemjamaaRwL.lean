/- Proved here: what the laws' package's small functions on lists of lists of numbers do: are two alike; write the numbers 1, 2, .. into one; does one hold them. -/
import Derived.Test.YtkbbhdnaemjamaaRwM
import Derived.Test.YtkbbhdnaemjamaaInts
namespace Go.Proofs.Ytkbbhdnaemjamaa
open Go.RowKit
set_option linter.unusedVariables false
set_option linter.unusedSimpArgs false

/-- Nothing has turned but the rows' own cells. -/
structure OnlyV (vs : List Value) (m : Nat) (w w' : World) : Prop where
  os : w'.os = w.os
  tape : w'.tape = w.tape
  output : w'.output = w.output
  size : w'.heap.size = w.heap.size
  block : ∀ k, (∀ i, i < m → (rat vs i).ownBlock ≠ some k) → w'.heap[k]? = w.heap[k]?
theorem OnlyV.refl (vs : List Value) (m : Nat) (w : World) : OnlyV vs m w w := ⟨rfl, rfl, rfl, rfl, fun _ _ => rfl⟩
/-- How many numbers the first i rows have. -/
def totI (ls : List (List Int)) : Nat → Nat
  | 0 => 0
  | i + 1 => totI ls i + (ls.getD i []).length
/-- The first j rows marked. -/
def mkR (ls : List (List Int)) : Nat → List (List Int)
  | 0 => ls
  | j + 1 => (mkR ls j).set j (marks (1 + (totI ls j : Int)) (ls.getD j []).length)
theorem mkR_len (ls : List (List Int)) (j : Nat) : (mkR ls j).length = ls.length := by
  induction j with
  | zero => rfl
  | succ j ih => rw [mkR, List.length_set, ih]
theorem mkR_after (ls : List (List Int)) {j i : Nat} (h : j ≤ i) : (mkR ls j).getD i [] = ls.getD i [] := by
  induction j with
  | zero => rfl
  | succ j ih =>
    rw [mkR, List.getD_eq_getElem?_getD, List.getElem?_set_ne (by omega), ← List.getD_eq_getElem?_getD]
    exact ih (by omega)
theorem mkR_at (ls : List (List Int)) {j i : Nat} (h : i < j) (hi : i < ls.length) : (mkR ls j).getD i [] = marks (1 + (totI ls i : Int)) (ls.getD i []).length := by
  induction j with
  | zero => omega
  | succ j ih =>
    rw [mkR]
    by_cases e : i = j
    · subst e
      rw [List.getD_eq_getElem?_getD, List.getElem?_set_self (by rw [mkR_len]; exact hi)]
      rfl
    · rw [List.getD_eq_getElem?_getD, List.getElem?_set_ne (by omega), ← List.getD_eq_getElem?_getD]
      exact ih (by omega)

set_option maxRecDepth 10000 in
set_option maxHeartbeats 4000000 in
theorem markRR {w : World} {B : Nat} {v : Value} {ls : List (List Int)} {vs : List Value} (hl : ls.length ≤ 1000) (ht : Hid (∀ i, i ≤ ls.length → totI ls i ≤ 20000000)) (hb : Hid (∀ i, (ls.getD i []).length ≤ 1048576)) (h : RI w B v ls vs) :
    Calls Try.prog 58 #[v, .int .i64 1] w fun e w' => e = .returned (.int .i64 (1 + (totI ls ls.length : Int))) ∧ RI w' B v (mkR ls ls.length) vs ∧ OnlyV vs ls.length w w' := by
  obtain ⟨a, c, rfl⟩ := h.form
  obtain ⟨m, hm⟩ : ∃ m, m = ls.length := ⟨_, rfl⟩
  rw [← hm] at hl ht h ⊢
  have H : Hid (RI w B (.slice a m c) ls vs) := h
  have HM : Hid (m = ls.length) := hm
  clear h hm
  go_enter Try.func58, Try.ntmps58
  go_wp2_with (fail)
  go_loopw [1, 5] (fun q i wr => ∃ (j : Nat) (z : Int), j ≤ m ∧ i = .int .i64 j ∧ q = .int .i64 z ∧ 0 ≤ z ∧ z ≤ 100000000 ∧ Hid (z = 1 + (totI ls j : Int) ∧ RI wr B (.slice a m c) (mkR ls j) vs ∧ OnlyV vs m w wr)) (fun _ i _ => m - (intOf i).toNat)
  case atStart => exact ⟨0, 1, Nat.zero_le _, rfl, rfl, by omega, by omega, by simp [totI], H.out, OnlyV.refl _ _ _⟩
  case round =>
    clear H
    obtain ⟨j, z, hj, rfl, rfl, hz0, hz1, hR⟩ := hrel
    by_cases hlt : j < m
    · have hjl : j < (mkR ls j).length := by rw [mkR_len, ← HM.out]; exact hlt
      obtain ⟨gr, cr, he, hgB, hgl, hjr⟩ := hR.out.2.1.pos (by omega)
      simp only [Value.slice.injEq] at he
      obtain ⟨rfl, hx1, hx2⟩ := he
      clear hx1 hx2
      have r0 := hjr j hjl
      have hrw := hR.out.2.1.bx j hjl
      rw [mkR_after ls (Nat.le_refl j)] at hrw
      have hbj := hb.out j
      have ht1 := ht.out (j + 1) (by omega)
      obtain ⟨u, hu⟩ : ∃ u, u = rat vs j := ⟨_, rfl⟩
      rw [← hu] at r0 hrw
      obtain ⟨L, hL⟩ : ∃ L, L = (ls.getD j []).length := ⟨_, rfl⟩
      have HC : Hid (Calls Try.prog 77 #[u, .int .i64 z] wr fun e w' => e = .returned (.int .i64 (z + (L : Int))) ∧ RI w' B (.slice (some ⟨gr, 0, none⟩) m c) (mkR ls (j + 1)) vs ∧ OnlyV vs m w w') := by
        refine (markI z (by omega) hz0 (by omega) hrw).mono ?_
        rintro e w' ⟨rfl, h1, g, _, hgo, hon⟩
        have hO : ∀ k, u.ownBlock ≠ some k → w'.heap[k]? = wr.heap[k]? := fun k hk => by
          rcases hgo with e | e
          · exact hon.block k fun e2 => hk (by rw [e, e2])
          · rw [e]
        refine ⟨by rw [hL], ?_, ⟨hon.os.trans hR.out.2.2.os, hon.tape.trans hR.out.2.2.tape, hon.output.trans hR.out.2.2.output, hon.size.trans hR.out.2.2.size, fun k hk => (hO k (by rw [hu]; exact hk j hlt)).trans (hR.out.2.2.block k hk)⟩⟩
        rw [mkR]
        refine hR.out.2.1.turn hjl ?_ (by rw [← hu]; exact hO)
        rw [← hu, ← hR.out.1]
        exact h1
      have HT : Hid (z + (L : Int) = 1 + (totI ls (j + 1) : Int)) := by unfold Hid; rw [hR.out.1, hL]; simp only [totI]; omega
      have hLt : z + (L : Int) = 1 + (totI ls (j + 1) : Int) := HT.out
      obtain ⟨ua, uc, huf⟩ := hrw.form
      rw [← hL] at huf
      subst huf
      clear hjr hR hrw hu hL hbj
      have hz2 : 0 ≤ z + (L : Int) ∧ z + (L : Int) ≤ 100000000 := by omega
      clear hLt
      have b0 : (0 : Int) ≤ (j : Int) := by omega
      have b1 : (j : Int) < (m : Int) := by omega
      go_wp2_with (fail)
      refine HC.out.mono ?_
      rintro e w' ⟨rfl, hP, hO⟩
      have R : Hid (z + (L : Int) = 1 + (totI ls (j + 1) : Int) ∧ RI w' B (.slice (some ⟨gr, 0, none⟩) m c) (mkR ls (j + 1)) vs ∧ OnlyV vs m w w') := ⟨HT.out, hP, hO⟩
      clear hP hO HC HT
      go_wp2
      go_roundw
      case rel => exact ⟨j + 1, _, by omega, by go_num, rfl, hz2.1, hz2.2, R.out⟩
      case measure => simp [intOf]; omega
    · have ej : m = j := by omega
      subst ej
      have HR : Hid _ := hR.out
      clear hR
      go_wp2
      go_returns
      exact ⟨by rw [HR.out.1]; rfl, HR.out.2.1, HR.out.2.2⟩

set_option maxRecDepth 10000 in
set_option maxHeartbeats 4000000 in
theorem heldRR {w : World} {B : Nat} {v : Value} {ls : List (List Int)} {vs : List Value} (hl : ls.length ≤ 1000) (ht : Hid (∀ i, i ≤ ls.length → totI ls i ≤ 20000000)) (hb : Hid (∀ i, (ls.getD i []).length ≤ 1048576)) (h : RI w B v (mkR ls ls.length) vs) :
    Calls Try.prog 59 #[v, .int .i64 1] w fun e w' => e = .returned (.int .i64 (1 + (totI ls ls.length : Int))) ∧ w' = w := by
  obtain ⟨a, c, hv⟩ := h.form
  rw [mkR_len] at hv
  subst hv
  obtain ⟨m, hm⟩ : ∃ m, m = ls.length := ⟨_, rfl⟩
  rw [← hm] at hl ht h ⊢
  have H : Hid (RI w B (.slice a m c) (mkR ls m) vs) := h
  have HM : Hid (m = ls.length) := hm
  clear h hm
  go_enter Try.func59, Try.ntmps59
  go_wp2_with (fail)
  go_loopw [1, 5] (fun q i wr => ∃ (j : Nat) (z : Int), j ≤ m ∧ i = .int .i64 j ∧ q = .int .i64 z ∧ 0 ≤ z ∧ z ≤ 100000000 ∧ Hid (z = 1 + (totI ls j : Int) ∧ wr = w)) (fun _ i _ => m - (intOf i).toNat)
  case atStart => exact ⟨0, 1, Nat.zero_le _, rfl, rfl, by omega, by omega, by simp [totI], rfl⟩
  case round =>
    obtain ⟨j, z, hj, rfl, rfl, hz0, hz1, hR⟩ := hrel
    obtain ⟨hzj, rfl⟩ := hR.out
    have HZ : Hid (z = 1 + (totI ls j : Int)) := hzj
    clear hR hzj
    by_cases hlt : j < m
    · have hjl : j < (mkR ls m).length := by rw [mkR_len, ← HM.out]; exact hlt
      obtain ⟨gr, cr, he, hgB, hgl, hjr⟩ := H.out.pos (by omega)
      simp only [Value.slice.injEq] at he
      obtain ⟨rfl, hx1, hx2⟩ := he
      clear hx1 hx2
      have r0 := hjr j hjl
      have hrw := H.out.bx j hjl
      rw [mkR_at ls hlt (by rw [← HM.out]; exact hlt)] at hrw
      have hbj := hb.out j
      have ht1 := ht.out (j + 1) (by omega)
      obtain ⟨u, hu⟩ : ∃ u, u = rat vs j := ⟨_, rfl⟩
      rw [← hu] at r0 hrw
      obtain ⟨L, hL⟩ : ∃ L, L = (ls.getD j []).length := ⟨_, rfl⟩
      rw [← hL, ← HZ.out] at hrw
      have HC : Hid (Calls Try.prog 78 #[u, .int .i64 z] wr fun e w' => e = .returned (.int .i64 (z + (L : Int))) ∧ w' = wr) := heldI z (by omega) hz0 (by omega) hrw
      have HT : Hid (z + (L : Int) = 1 + (totI ls (j + 1) : Int)) := by unfold Hid; rw [HZ.out, hL]; simp only [totI]; omega
      have hLt : z + (L : Int) = 1 + (totI ls (j + 1) : Int) := HT.out
      obtain ⟨ua, uc, huf⟩ := hrw.form
      rw [marks_length] at huf
      subst huf
      clear hjr hrw hu hL hbj
      have hz2 : 0 ≤ z + (L : Int) ∧ z + (L : Int) ≤ 100000000 := by omega
      have hz3 : ¬ z + (L : Int) < 0 := by omega
      clear hLt
      have b0 : (0 : Int) ≤ (j : Int) := by omega
      have b1 : (j : Int) < (m : Int) := by omega
      go_wp2_with (fail)
      refine HC.out.mono ?_
      rintro e w' ⟨rfl, rfl⟩
      go_wp2
      go_roundw
      case rel => exact ⟨j + 1, _, by omega, by go_num, rfl, hz2.1, hz2.2, HT.out, trivial⟩
      case measure => simp [intOf]; omega
    · have ej : m = j := by omega
      subst ej
      go_wp2
      go_returns
      exact ⟨by rw [HZ.out]; rfl, rfl⟩

set_option maxRecDepth 10000 in
set_option maxHeartbeats 4000000 in
theorem eqRR {w : World} {A B : Nat} {va vb : Value} {ls : List (List Int)} {us vs : List Value} (hl : ls.length ≤ 1000) (hb : Hid (∀ i, (ls.getD i []).length ≤ 1048576)) (h : RI w A va ls us) (k : RI w B vb ls vs) :
    Calls Try.prog 57 #[va, vb] w fun e w' => e = .returned (.bool true) ∧ Below w.heap.size w w' := by
  obtain ⟨a, c, rfl⟩ := h.form
  obtain ⟨b, d, rfl⟩ := k.form
  obtain ⟨m, hm⟩ : ∃ m, m = ls.length := ⟨_, rfl⟩
  have HM : Hid (m = ls.length) := hm
  rw [← hm] at hl h k ⊢
  have H : Hid (RI w A (.slice a m c) ls us ∧ RI w B (.slice b m d) ls vs) := ⟨h, k⟩
  clear h k hm
  go_enter Try.func57, Try.ntmps57
  go_wp2_with (fail)
  go_loopw [5] (fun i wr => ∃ j : Nat, j ≤ m ∧ i = .int .i64 j ∧ Hid (Below w.heap.size w wr)) (fun i _ => m - (intOf i).toNat)
  case atStart => exact ⟨0, Nat.zero_le _, rfl, Below.refl _ _⟩
  case round =>
    obtain ⟨j, hj, rfl, hR⟩ := hrel
    by_cases hlt : j < m
    · have hjl : j < ls.length := by rw [← HM.out]; exact hlt
      have hP := H.out.1.below hR.out
      have hQ := H.out.2.below hR.out
      obtain ⟨g1, c1, he, _, hg1, hj1⟩ := hP.pos (by omega)
      simp only [Value.slice.injEq] at he
      obtain ⟨rfl, hx1, hx2⟩ := he
      clear hx1 hx2
      obtain ⟨g2, c2, he, _, hg2, hj2⟩ := hQ.pos (by omega)
      simp only [Value.slice.injEq] at he
      obtain ⟨rfl, hx1, hx2⟩ := he
      clear hx1 hx2
      have r1 := hj1 j hjl
      have r2 := hj2 j hjl
      have k1 := hP.bx j hjl
      have k2 := hQ.bx j hjl
      obtain ⟨u1, hu1⟩ : ∃ u, u = rat us j := ⟨_, rfl⟩
      obtain ⟨u2, hu2⟩ : ∃ u, u = rat vs j := ⟨_, rfl⟩
      rw [← hu1] at r1 k1
      rw [← hu2] at r2 k2
      obtain ⟨x1, y1, e1⟩ := k1.form
      obtain ⟨x2, y2, e2⟩ := k2.form
      have hbj := hb.out j
      have HC : Hid (∀ W, Below wr.heap.size wr W → Calls Try.prog 76 #[u1, u2] W fun e w' => e = .returned (.bool true) ∧ Below W.heap.size W w') := fun W hW => by
        refine (eqI (by omega) (k1.below' hW) (k2.below' hW)).mono ?_
        rintro e w' ⟨rfl, n, rfl⟩
        exact ⟨rfl, below_drewN (Below.refl _ _) n⟩
      obtain ⟨L, hL⟩ : ∃ L, L = (ls.getD j []).length := ⟨_, rfl⟩
      rw [← hL] at e1 e2
      subst e1 e2
      clear hP hQ hj1 hj2 k1 k2 hu1 hu2 hbj hL
      have b0 : (0 : Int) ≤ (j : Int) := by omega
      have b1 : (j : Int) < (m : Int) := by omega
      go_wp2_with (fail)
      (refine wp_region_und (by kernel_rfl) (by kernel_rfl) (fun hund => ?_); (repeat (go_big_quiet_step (first | (go_at_call 76; with_reducible refine und_call ?_ (HC.out _ (Und.below _)); exact Nat.le_refl _)))); with_reducible refine wpQuiet_nil ?_; clear hund; intro W1 hb1; obtain ⟨hc1, hf1⟩ := bcell hb1)
      have HB : Hid (Below w.heap.size w W1) := hR.out.trans (hb1.mono hR.out.size)
      clear hb1 hc1 hf1
      go_wp2
      go_roundw
      case rel => exact ⟨j + 1, by omega, by go_num, HB.out⟩
      case measure => simp [intOf]; omega
    · have HR : Hid _ := hR.out
      clear hR
      go_wp2
      go_returns
      exact ⟨rfl, HR.out⟩

end Go.Proofs.Ytkbbhdnaemjamaa
