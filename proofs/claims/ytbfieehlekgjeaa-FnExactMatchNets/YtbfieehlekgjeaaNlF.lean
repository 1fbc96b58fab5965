/- Proved here: the program's fault of a device and of a netlist: dvF, nlF. -/
import Derived.Test.YtbfieehlekgjeaaNlT
import Derived.BigQuiet
namespace Go.Proofs.Ytbfieehlekgjeaa
open Go.RowKit
set_option linter.unusedVariables false
set_option linter.unusedSimpArgs false

def pinBad (N x : Int) : Bool := decide (x < 0) || decide (N ≤ x)
theorem pinBad_f {N x : Int} (h : pinBad N x = false) : 0 ≤ x ∧ x < N := by
  unfold pinBad at h
  simp at h
  omega
/-- The fault of a device. -/
def dvF (N : Int) (d : Dv) : Int := if d.k < 0 ∨ 100 < d.k then 1 else if 4 < d.p.length then 2 else if d.p.any (pinBad N) then 1 else 0
def firstD (N : Int) : List Dv → Int
  | [] => 0
  | d :: t => if dvF N d = 0 then firstD N t else dvF N d
/-- The fault of a netlist. -/
def nlF (N : Int) (s : List Dv) : Int := if 7 < N ∨ 12 < s.length then 2 else if N < 0 then 1 else firstD N s
theorem drop_get {α : Type} {s : List α} {k : Nat} (hk : k < s.length) : s.drop k = s[k] :: s.drop (k + 1) := List.drop_eq_getElem_cons hk
theorem firstD_hit {N : Int} {s : List Dv} {k : Nat} (hk : k < s.length) (h : ¬ dvF N s[k] = 0) (hp : firstD N (s.drop k) = firstD N s) : firstD N s = dvF N s[k] := by
  rw [← hp, drop_get hk, firstD, if_neg h]
theorem firstD_miss {N : Int} {s : List Dv} {k : Nat} (hk : k < s.length) (h : dvF N s[k] = 0) (hp : firstD N (s.drop k) = firstD N s) : firstD N (s.drop (k + 1)) = firstD N s := by
  rw [← hp, drop_get hk, firstD, if_pos h]
theorem any_all {s : List Int} {f : Int → Bool} (h : ∀ k, k < s.length → f (s.getD k 0) = false) : s.any f = false := by
  rw [List.any_eq_false]
  intro x hx
  obtain ⟨k, hk, rfl⟩ := List.getElem_of_mem hx
  have := h k hk
  rw [List.getD_eq_getElem?_getD, List.getElem?_eq_getElem hk] at this
  simpa using this
theorem any_hit {s : List Int} {f : Int → Bool} {k : Nat} (hk : k < s.length) (h : f (s.getD k 0) = true) : s.any f = true := by
  rw [List.any_eq_true]
  refine ⟨s[k], List.getElem_mem hk, ?_⟩
  rw [List.getD_eq_getElem?_getD, List.getElem?_eq_getElem hk] at h
  simpa using h

set_option maxHeartbeats 800000 in
theorem impl_insideD (n a b : Int) (w : World) : Calls Try.prog 72 #[.int .i64 n, .int .i64 a, .int .i64 b] w fun e w' => e = .returned (.bool (decide (a ≤ n ∧ n ≤ b))) ∧ w' = w := by
  have H : Hid ((¬ a ≤ n → decide (a ≤ n ∧ n ≤ b) = false) ∧ (a ≤ n → n ≤ b → decide (a ≤ n ∧ n ≤ b) = true) ∧ (a ≤ n → ¬ n ≤ b → decide (a ≤ n ∧ n ≤ b) = false)) := by
    unfold Hid
    exact ⟨fun h => by simp [h], fun h1 h2 => by simp [h1, h2], fun h1 h2 => by simp [h1, h2]⟩
  generalize decide (a ≤ n ∧ n ≤ b) = r at H ⊢
  by_cases h1 : a ≤ n
  · by_cases h2 : n ≤ b
    · obtain rfl := H.out.2.1 h1 h2
      go_enter Try.func72, Try.ntmps72
      go_wp2
      go_returns
      exact ⟨rfl, rfl⟩
    · obtain rfl := H.out.2.2 h1 h2
      go_enter Try.func72, Try.ntmps72
      go_wp2
      go_returns
      exact ⟨rfl, rfl⟩
  · obtain rfl := H.out.1 h1
    go_enter Try.func72, Try.ntmps72
    go_wp2
    go_returns
    exact ⟨rfl, rfl⟩

set_option maxRecDepth 10000 in
set_option maxHeartbeats 3200000 in
theorem impl_device (N : Int) (r : Rd) (d : Dv) (w : World) (hd : d.p.length ≤ 1048576) (h : Rd1 w r d) :
    Calls Try.prog 46 #[.agg #[.int .i64 r.k, .slice r.a r.n r.c], .int .i64 N] w fun e w' => e = .returned (.int .i64 (dvF N d)) ∧ Below w.heap.size w w' := by
  obtain ⟨K, A, n, c⟩ := r
  have hn : n = d.p.length := h.p.len
  obtain ⟨C, hC⟩ : ∃ C, C = dvF N d := ⟨_, rfl⟩
  have H : Hid (RdI w (.slice A n c) d.p ∧ n = d.p.length ∧ K = d.k ∧ C = dvF N d) := ⟨h.p, hn, h.k, hC⟩
  rw [← hn] at hd
  rw [← hC]
  clear h hn hC
  dsimp only
  have hin := fun W => impl_insideD K 0 100 W
  by_cases hk : 0 ≤ K ∧ K ≤ 100
  · have hdec : decide (0 ≤ K ∧ K ≤ 100) = true := decide_eq_true hk
    rw [hdec] at hin
    have HI : Hid _ := hin
    have HK : Hid (¬ (d.k < 0 ∨ 100 < d.k)) := by unfold Hid; rw [← H.out.2.2.1]; omega
    clear hin hdec hk
    by_cases h4 : (4 : Int) < (n : Int)
    · have HC : Hid (C = 2) := by unfold Hid; rw [H.out.2.2.2, dvF, if_neg HK.out, if_pos (by rw [← H.out.2.1]; omega)]
      go_enter Try.func46, Try.ntmps46
      go_wp2_with (fail)
      refine (HI.out _).mono ?_
      rintro e w1 ⟨rfl, rfl⟩
      go_wp2
      go_returns
      exact ⟨by rw [HC.out]; rfl, by (repeat' (first | (with_reducible exact Below.refl _ _) | (with_reducible assumption) | (with_reducible refine Below.setCell ?_ ?_ _) | (with_reducible refine Below.alloc ?_ ?_ _) | (with_reducible refine below_drewN ?_ _) | (with_reducible refine Below.drew ?_) | (with_reducible exact Nat.le_refl _) | omega | (simp; done) | (simp; omega)))⟩
    have HC : Hid (C = if d.p.any (pinBad N) then 1 else 0) := by unfold Hid; rw [H.out.2.2.2, dvF, if_neg HK.out, if_neg (by rw [← H.out.2.1]; omega)]
    go_enter Try.func46, Try.ntmps46
    go_wp2_with (fail)
    refine (HI.out _).mono ?_
    rintro e w1 ⟨rfl, rfl⟩
    go_wp2
    go_loopw [18] (fun i wr => ∃ j : Nat, j ≤ n ∧ i = .int .i64 j ∧ Hid (Below w.heap.size w wr ∧ ∀ k, k < j → pinBad N (d.p.getD k 0) = false)) (fun i _ => n - (intOf i).toNat)
    case atStart => exact ⟨0, Nat.zero_le _, rfl, by (repeat' (first | (with_reducible exact Below.refl _ _) | (with_reducible assumption) | (with_reducible refine Below.setCell ?_ ?_ _) | (with_reducible refine Below.alloc ?_ ?_ _) | (with_reducible refine below_drewN ?_ _) | (with_reducible refine Below.drew ?_) | (with_reducible exact Nat.le_refl _) | omega | (simp; done) | (simp; omega))), fun k hk => by omega⟩
    case round =>
      obtain ⟨j, hjn, rfl, hR⟩ := hrel
      by_cases hlt : j < n
      · have hjl : j < d.p.length := by rw [← H.out.2.1]; exact hlt
        obtain ⟨g, o, c2, he, hg, hj⟩ := (H.out.1.below hR.out.1).ri (by rw [← H.out.2.1]; omega)
        simp only [Value.slice.injEq] at he
        obtain ⟨rfl, hx1, hx2⟩ := he
        clear hx1 hx2
        have c0 := hj j hjl
        obtain ⟨x, hx⟩ : ∃ x, x = d.p.getD j 0 := ⟨_, rfl⟩
        rw [← hx] at c0
        have HX : Hid (x = d.p.getD j 0 ∧ j < d.p.length) := ⟨hx, hjl⟩
        clear hx hj hjl
        have b0 : (0 : Int) ≤ (j : Int) := by omega
        have b1 : (j : Int) < (n : Int) := by omega
        have HR : Hid (Below w.heap.size w wr ∧ ∀ k, k < j → pinBad N (d.p.getD k 0) = false) := hR.out
        clear hR
        by_cases hneg : x < 0
        · have HE : Hid (C = 1) := by
            unfold Hid
            rw [HC.out, if_pos (any_hit HX.out.2 (by rw [← HX.out.1]; unfold pinBad; simp [hneg]))]
          go_wp2
          go_returns
          exact ⟨by rw [HE.out]; rfl, HR.out.1⟩
        by_cases hge : x ≥ N
        · have HE : Hid (C = 1) := by
            unfold Hid
            rw [HC.out, if_pos (any_hit HX.out.2 (by rw [← HX.out.1]; unfold pinBad; simp; omega))]
          go_wp2
          go_returns
          exact ⟨by rw [HE.out]; rfl, HR.out.1⟩
        have HP : Hid (∀ k, k < j + 1 → pinBad N (d.p.getD k 0) = false) := fun k hk => by
          rcases (by omega : k < j ∨ k = j) with e | rfl
          · exact HR.out.2 k e
          · rw [← HX.out.1]; unfold pinBad; simp; omega
        go_wp2
        go_roundw
        case rel => exact ⟨j + 1, by omega, by go_num, HR.out.1, HP.out⟩
        case measure => simp [intOf]; omega
      · have HE : Hid (C = 0) := by
          unfold Hid
          rw [HC.out, any_all (fun k hk => hR.out.2 k (by rw [← H.out.2.1] at hk; omega))]
          rfl
        have HB : Hid (Below w.heap.size w wr) := hR.out.1
        clear hR
        go_wp2
        go_returns
        exact ⟨by rw [HE.out]; rfl, HB.out⟩
  · have hdec : decide (0 ≤ K ∧ K ≤ 100) = false := decide_eq_false hk
    rw [hdec] at hin
    have HI : Hid _ := hin
    have HC : Hid (C = 1) := by unfold Hid; rw [H.out.2.2.2, dvF, if_pos (by rw [← H.out.2.2.1]; omega)]
    clear hin hdec hk
    go_enter Try.func46, Try.ntmps46
    go_wp2_with (fail)
    refine (HI.out _).mono ?_
    rintro e w1 ⟨rfl, rfl⟩
    go_wp2
    go_returns
    exact ⟨by rw [HC.out]; rfl, by (repeat' (first | (with_reducible exact Below.refl _ _) | (with_reducible assumption) | (with_reducible refine Below.setCell ?_ ?_ _) | (with_reducible refine Below.alloc ?_ ?_ _) | (with_reducible refine below_drewN ?_ _) | (with_reducible refine Below.drew ?_) | (with_reducible exact Nat.le_refl _) | omega | (simp; done) | (simp; omega)))⟩

set_option maxRecDepth 10000 in
set_option maxHeartbeats 3200000 in
theorem impl_nl (N : Int) {w : World} {v : Value} {s : List Dv} (hn : s.length ≤ 1048576) (hsm : ∀ j (h : j < s.length), smD 1048576 s[j]) (h : RD w v s) :
    Calls Try.prog 16 #[.agg #[.int .i64 N, v]] w fun e w' => e = .returned (.int .i64 (nlF N s)) ∧ Below w.heap.size w w' := by
  obtain ⟨a, c, rfl⟩ := h.form
  obtain ⟨n, hnn⟩ : ∃ n, n = s.length := ⟨_, rfl⟩
  obtain ⟨C, hC⟩ : ∃ C, C = nlF N s := ⟨_, rfl⟩
  rw [← hnn] at hn h ⊢
  rw [← hC]
  have H : Hid (RD w (.slice a n c) s ∧ n = s.length ∧ C = nlF N s ∧ ∀ j (h : j < s.length), smD 1048576 s[j]) := ⟨h, hnn, hC, hsm⟩
  clear h hnn hC hsm
  by_cases h7 : (7 : Int) < N
  · have HC : Hid (C = 2) := by unfold Hid; rw [H.out.2.2.1, nlF, if_pos (Or.inl h7)]
    go_enter Try.func16, Try.ntmps16
    go_wp2
    go_returns
    exact ⟨by rw [HC.out]; rfl, by (repeat' (first | (with_reducible exact Below.refl _ _) | (with_reducible assumption) | (with_reducible refine Below.setCell ?_ ?_ _) | (with_reducible refine Below.alloc ?_ ?_ _) | (with_reducible refine below_drewN ?_ _) | (with_reducible refine Below.drew ?_) | (with_reducible exact Nat.le_refl _) | omega | (simp; done) | (simp; omega)))⟩
  by_cases h12 : (12 : Int) < (n : Int)
  · have HC : Hid (C = 2) := by unfold Hid; rw [H.out.2.2.1, nlF, if_pos (Or.inr (by rw [← H.out.2.1]; omega))]
    go_enter Try.func16, Try.ntmps16
    go_wp2
    go_returns
    exact ⟨by rw [HC.out]; rfl, by (repeat' (first | (with_reducible exact Below.refl _ _) | (with_reducible assumption) | (with_reducible refine Below.setCell ?_ ?_ _) | (with_reducible refine Below.alloc ?_ ?_ _) | (with_reducible refine below_drewN ?_ _) | (with_reducible refine Below.drew ?_) | (with_reducible exact Nat.le_refl _) | omega | (simp; done) | (simp; omega)))⟩
  have HG : Hid (¬ (7 < N ∨ 12 < s.length)) := by unfold Hid; rw [← H.out.2.1]; omega
  by_cases h0 : N < 0
  · have HC : Hid (C = 1) := by unfold Hid; rw [H.out.2.2.1, nlF, if_neg HG.out, if_pos h0]
    go_enter Try.func16, Try.ntmps16
    go_wp2
    go_returns
    exact ⟨by rw [HC.out]; rfl, by (repeat' (first | (with_reducible exact Below.refl _ _) | (with_reducible assumption) | (with_reducible refine Below.setCell ?_ ?_ _) | (with_reducible refine Below.alloc ?_ ?_ _) | (with_reducible refine below_drewN ?_ _) | (with_reducible refine Below.drew ?_) | (with_reducible exact Nat.le_refl _) | omega | (simp; done) | (simp; omega)))⟩
  have HC : Hid (C = firstD N s) := by unfold Hid; rw [H.out.2.2.1, nlF, if_neg HG.out, if_neg h0]
  go_enter Try.func16, Try.ntmps16
  go_wp2
  go_loopw [21] (fun i wr => ∃ k : Nat, k ≤ n ∧ i = .int .i64 k ∧ Hid (firstD N (s.drop k) = firstD N s ∧ Below w.heap.size w wr ∧ wr.heap[w.heap.size]? = some (.cells #[.int .i64 N, .slice a n c] 42))) (fun i _ => n - (intOf i).toNat)
  case atStart => exact ⟨0, Nat.zero_le _, rfl, rfl, by (repeat' (first | (with_reducible exact Below.refl _ _) | (with_reducible assumption) | (with_reducible refine Below.setCell ?_ ?_ _) | (with_reducible refine Below.alloc ?_ ?_ _) | (with_reducible refine below_drewN ?_ _) | (with_reducible refine Below.drew ?_) | (with_reducible exact Nat.le_refl _) | omega | (simp; done) | (simp; omega))), heap_alloc_new w _⟩
  case round =>
    obtain ⟨k, hk, rfl, hR⟩ := hrel
    by_cases hlt : k < n
    · have hkl : k < s.length := by rw [← H.out.2.1]; exact hlt
      obtain ⟨g, o, c2, he, hg, x, hx, c0, c1⟩ := (H.out.1.below hR.out.2.1).at hkl
      simp only [Value.slice.injEq] at he
      obtain ⟨rfl, hx1, hx2⟩ := he
      clear hx1 hx2
      obtain ⟨y, hy⟩ : ∃ y, y = dvF N s[k] := ⟨_, rfl⟩
      have HCL : Hid (∀ W, Below wr.heap.size wr W → Calls Try.prog 46 #[.agg #[.int .i64 x.k, .slice x.a x.n x.c], .int .i64 N] W fun e w' => e = .returned (.int .i64 y) ∧ Below W.heap.size W w') := fun W hW => by
        rw [hy]
        exact impl_device N x s[k] W (by have := H.out.2.2.2 k hkl; unfold smD at this; omega) (hx.below hW)
      have HY : Hid (y = dvF N s[k] ∧ k < s.length) := ⟨hy, hkl⟩
      have HR : Hid _ := hR.out
      obtain ⟨p0, p1, pf, plt⟩ := two_at hR.out.2.2
      clear hx hy hR
      have b0 : (0 : Int) ≤ (k : Int) := by omega
      have b1 : (k : Int) < (n : Int) := by omega
      go_wp2_with (fail)
      refine (HCL.out _ (by (repeat' (first | (with_reducible exact Below.refl _ _) | (with_reducible assumption) | (with_reducible refine Below.setCell ?_ ?_ _) | (with_reducible refine Below.alloc ?_ ?_ _) | (with_reducible refine below_drewN ?_ _) | (with_reducible refine Below.drew ?_) | (with_reducible exact Nat.le_refl _) | omega | (simp; done) | (simp; omega))))).mono ?_
      rintro e w4 ⟨rfl, hb4⟩
      have hb4' : Below wr.heap.size wr w4 := Below.trans (by (repeat' (first | (with_reducible exact Below.refl _ _) | (with_reducible assumption) | (with_reducible refine Below.setCell ?_ ?_ _) | (with_reducible refine Below.alloc ?_ ?_ _) | (with_reducible refine below_drewN ?_ _) | (with_reducible refine Below.drew ?_) | (with_reducible exact Nat.le_refl _) | omega | (simp; done) | (simp; omega)))) (hb4.mono (by simp))
      have HB4 : Hid (Below w.heap.size w w4 ∧ w4.heap[w.heap.size]? = some (.cells #[.int .i64 N, .slice (some ⟨g, o, none⟩) n c] 42)) := ⟨HR.out.2.1.trans (hb4'.mono HR.out.2.1.size), (hb4'.block _ plt).trans HR.out.2.2⟩
      clear hb4 hb4' c0 c1 p0 p1 pf plt
      by_cases hy0 : y = 0
      · have HM : Hid (firstD N (s.drop (k + 1)) = firstD N s) := firstD_miss hkl (by rw [← HY.out.1]; exact hy0) HR.out.1
        subst hy0
        go_wp2
        go_roundw
        case rel => exact ⟨k + 1, by omega, by go_num, HM.out, HB4.out⟩
        case measure => simp [intOf]; omega
      · have HE : Hid (C = y) := by unfold Hid; rw [HC.out, HY.out.1]; exact firstD_hit hkl (by rw [← HY.out.1]; exact hy0) HR.out.1
        go_wp2
        go_returns
        exact ⟨by rw [HE.out]; rfl, HB4.out.1⟩
    · have e : Hid (C = 0) := by
        unfold Hid
        rw [HC.out, ← hR.out.1, List.drop_eq_nil_of_le (by rw [← H.out.2.1]; omega)]
        rfl
      have HB : Hid (Below w.heap.size w wr) := hR.out.2.1
      clear hR
      go_wp2
      go_returns
      exact ⟨by rw [e.out]; rfl, HB.out⟩

end Go.Proofs.Ytbfieehlekgjeaa
