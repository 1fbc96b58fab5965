/- Proved here: the fault of defects and classes, of the program. (And ahead of it: Proved here: ClassesFault of the program: vcF.) -/
import Derived.Test.YtjacmneopijiaaaVtM
import Derived.Test.YtjacmneopijiaaaSFault
import Derived.Test.YtjacmneopijiaaaVtI
import Derived.Test.YtjacmneopijiaaaVkM
import Derived.Test.YtjacmneopijiaaaVdI
namespace Go.Proofs.Ytjacmneopijiaaa
open Go.RowKit
set_option linter.unusedVariables false
set_option linter.unusedSimpArgs false

theorem vcI_six {w : World} {k : Nat} {a b c d e f : Value} {T : TypeId} (h : w.heap[k]? = some (.cells #[a, b, c, d, e, f] T)) :
    w.cell? ⟨k, 0, none⟩ = some a ∧ w.cell? ⟨k, 1, none⟩ = some b ∧ w.cell? ⟨k, 2, none⟩ = some c ∧ w.cell? ⟨k, 3, none⟩ = some d ∧ w.cell? ⟨k, 4, none⟩ = some e ∧ w.cell? ⟨k, 5, none⟩ = some f ∧ k < w.heap.size := by
  refine ⟨by simp [World.cell?, h], by simp [World.cell?, h], by simp [World.cell?, h], by simp [World.cell?, h], by simp [World.cell?, h], by simp [World.cell?, h], ?_⟩
  rcases Nat.lt_or_ge k w.heap.size with h' | h'
  · exact h'
  · rw [Array.getElem?_eq_none h'] at h; cases h

set_option maxRecDepth 10000 in
set_option maxHeartbeats 3200000 in
theorem impl_wrong (m : Cls) (w : World) :
    Calls Try.prog 41 #[.agg #[.int .i64 m.k, .int .i64 m.lo, .int .i64 m.hi, .int .i64 m.nm, .int .i64 m.q.n, .int .i64 m.q.d]] w fun e w' => e = .returned (.bool (vcBad m)) ∧ Below w.heap.size w w' := by
  obtain ⟨r1, h1⟩ : ∃ r, r = decide (-1 ≤ m.k ∧ m.k ≤ 9) := ⟨_, rfl⟩
  obtain ⟨r2, h2⟩ : ∃ r, r = decide (m.hi < m.lo) := ⟨_, rfl⟩
  obtain ⟨r3, h3⟩ : ∃ r, r = decide (1 ≤ m.nm ∧ m.nm ≤ 99) := ⟨_, rfl⟩
  obtain ⟨C, hC⟩ : ∃ C, C = codeF m.q.n m.q.d := ⟨_, rfl⟩
  obtain ⟨r5, h5⟩ : ∃ r, r = decide (0 ≤ m.q.n ∧ m.q.n ≤ m.q.d) := ⟨_, rfl⟩
  have HE : Hid (vcBad m = vcR r1 r2 r3 (C != 0) r5) := by unfold Hid vcBad; rw [h1, h2, h3, hC, h5, codeF_ne]
  obtain ⟨k, lo, hi, nm, n, d⟩ := m
  simp only at h1 h2 h3 hC h5 ⊢
  have H1 : Hid (∀ W, Calls Try.prog 63 #[.int .i64 k, .int .i64 (-1), .int .i64 9] W fun e w' => e = .returned (.bool r1) ∧ w' = W) := fun W => impl_insC _ _ _ _ h1 W
  have H3 : Hid (∀ W, Calls Try.prog 63 #[.int .i64 nm, .int .i64 1, .int .i64 99] W fun e w' => e = .returned (.bool r3) ∧ w' = W) := fun W => impl_insC _ _ _ _ h3 W
  have H4 : Hid (∀ W, Calls Try.prog 68 #[.agg #[.int .i64 n, .int .i64 d]] W fun e w' => e = .returned (.int .i64 C) ∧ Below W.heap.size W w') := fun W => by rw [hC]; exact impl_fault n d W
  have H5 : Hid (∀ W, Calls Try.prog 63 #[.int .i64 n, .int .i64 0, .int .i64 d] W fun e w' => e = .returned (.bool r5) ∧ w' = W) := fun W => impl_insC _ _ _ _ h5 W
  have H2 : Hid (r2 = decide (hi < lo)) := h2
  clear h1 h2 h3 h5 hC
  go_enter Try.func41, Try.ntmps41
  go_wp2_with (fail)
  refine (H1.out _).mono ?_
  rintro e w1 ⟨rfl, rfl⟩
  cases r1 with
  | false =>
    go_wp2
    go_returns
    exact ⟨by rw [HE.out]; rfl, by (repeat' (first | (with_reducible exact Below.refl _ _) | (with_reducible assumption) | (with_reducible refine Below.setCell ?_ ?_ _) | (with_reducible refine Below.alloc ?_ ?_ _) | (with_reducible refine below_drewN ?_ _) | (with_reducible refine Below.drew ?_) | (with_reducible exact Nat.le_refl _) | omega | (simp; done) | (simp; omega)))⟩
  | true =>
  by_cases hlo : hi < lo
  · have HR : Hid (r2 = true) := by unfold Hid; rw [H2.out]; simp [hlo]
    go_wp2
    go_returns
    exact ⟨by rw [HE.out, HR.out]; rfl, by (repeat' (first | (with_reducible exact Below.refl _ _) | (with_reducible assumption) | (with_reducible refine Below.setCell ?_ ?_ _) | (with_reducible refine Below.alloc ?_ ?_ _) | (with_reducible refine below_drewN ?_ _) | (with_reducible refine Below.drew ?_) | (with_reducible exact Nat.le_refl _) | omega | (simp; done) | (simp; omega)))⟩
  have HR : Hid (r2 = false) := by unfold Hid; rw [H2.out]; simp [hlo]
  have hlo2 : decide (hi < lo) = false := by simp [hlo]
  clear H2
  go_wp2_with (fail)
  refine (H3.out _).mono ?_
  rintro e w3 ⟨rfl, rfl⟩
  cases r3 with
  | false =>
    go_wp2
    go_returns
    exact ⟨by rw [HE.out, HR.out]; rfl, by (repeat' (first | (with_reducible exact Below.refl _ _) | (with_reducible assumption) | (with_reducible refine Below.setCell ?_ ?_ _) | (with_reducible refine Below.alloc ?_ ?_ _) | (with_reducible refine below_drewN ?_ _) | (with_reducible refine Below.drew ?_) | (with_reducible exact Nat.le_refl _) | omega | (simp; done) | (simp; omega)))⟩
  | true =>
  go_wp2_with (fail)
  obtain ⟨V, hV⟩ : ∃ V, V = w.alloc (.cells #[.int .i64 k, .int .i64 lo, .int .i64 hi, .int .i64 nm, .int .i64 n, .int .i64 d] 66) := ⟨_, rfl⟩
  rw [← hV]
  have kV : V.heap[w.heap.size]? = some (.cells #[.int .i64 k, .int .i64 lo, .int .i64 hi, .int .i64 nm, .int .i64 n, .int .i64 d] 66) := by rw [hV]; exact heap_alloc_new w _
  have bV : Below w.heap.size w V := by rw [hV]; (repeat' (first | (with_reducible exact Below.refl _ _) | (with_reducible assumption) | (with_reducible refine Below.setCell ?_ ?_ _) | (with_reducible refine Below.alloc ?_ ?_ _) | (with_reducible refine below_drewN ?_ _) | (with_reducible refine Below.drew ?_) | (with_reducible exact Nat.le_refl _) | omega | (simp; done) | (simp; omega)))
  clear hV
  refine (H4.out _).mono ?_
  rintro e w4 ⟨rfl, hb4⟩
  have HB : Hid (Below w.heap.size w w4) := bV.trans (hb4.mono bV.size)
  have k4 := (hb4.block w.heap.size (vcI_six kV).2.2.2.2.2.2).trans kV
  obtain ⟨p0, p1, p2, p3, p4, p5, pl⟩ := vcI_six k4
  clear hb4 k4 kV bV
  by_cases hc : C = 0
  · have HC0 : Hid ((C != 0) = false) := by unfold Hid; simp [hc]
    have hc2 : (C != 0) = false := by simp [hc]
    have HE2 : Hid (vcBad ⟨k, lo, hi, nm, ⟨n, d⟩⟩ = !r5) := by unfold Hid; rw [HE.out, HR.out, hc2]; rfl
    clear HE HC0 H4
    subst hc
    go_wp2_with (fail)
    refine (H5.out _).mono ?_
    rintro e w5 ⟨rfl, rfl⟩
    cases r5 with
    | false =>
      go_wp2
      go_returns
      exact ⟨by rw [HE2.out]; rfl, HB.out⟩
    | true =>
      go_wp2
      go_returns
      exact ⟨by rw [HE2.out]; rfl, HB.out⟩
  · have hc2 : (C != 0) = true := by simp [hc]
    have HE2 : Hid (vcBad ⟨k, lo, hi, nm, ⟨n, d⟩⟩ = true) := by unfold Hid; rw [HE.out, HR.out, hc2]; rfl
    clear HE
    go_wp2
    go_returns
    exact ⟨by rw [HE2.out]; rfl, HB.out⟩

set_option maxRecDepth 10000 in
set_option maxHeartbeats 3200000 in
theorem impl_ixWr {w : World} {v : Value} {s : List Cls} (hn : s.length ≤ 1048576) (h : RG 6 vcC w v s) :
    Calls Try.prog 67 #[v, .func (Fn.func 41) #[] #[]] w fun e w' => ∃ r : Int, e = .returned (.int .i64 r) ∧ decide (0 ≤ r) = s.any vcBad ∧ Below w.heap.size w w' := by
  obtain ⟨a, c, rfl⟩ := h.form
  obtain ⟨n, hnn⟩ : ∃ n, n = s.length := ⟨_, rfl⟩
  rw [← hnn] at h hn ⊢
  obtain ⟨G, hG⟩ : ∃ G, G = s.any vcBad := ⟨_, rfl⟩
  rw [← hG]
  have H : Hid (RG 6 vcC w (.slice a n c) s ∧ n = s.length ∧ G = s.any vcBad) := ⟨h, hnn, hG⟩
  clear h hnn hG
  go_enter Try.func67, Try.ntmps67
  go_wp2
  go_loopw [8] (fun i wr => ∃ k : Nat, k ≤ n ∧ i = .int .i64 k ∧ Hid (G = (s.drop k).any vcBad ∧ Below w.heap.size w wr)) (fun i _ => n - (intOf i).toNat)
  case atStart => exact ⟨0, Nat.zero_le _, rfl, H.out.2.2, Below.refl _ _⟩
  case round =>
    obtain ⟨k, hk, rfl, hR⟩ := hrel
    by_cases hlt : k < n
    · have hjl : k < s.length := by rw [← H.out.2.1]; exact hlt
      obtain ⟨g, o, c2, he, hg, hj⟩ := (H.out.1.below hR.out.2).pos (by omega)
      simp only [Value.slice.injEq] at he
      obtain ⟨rfl, hx1, hx2⟩ := he
      clear hx1 hx2
      obtain ⟨c0, c1, c2', c3, c4, c5⟩ := vcC_at (hj k hjl)
      obtain ⟨m, hm⟩ : ∃ m, m = s[k] := ⟨_, rfl⟩
      rw [← hm] at c0 c1 c2' c3 c4 c5
      obtain ⟨q, hq⟩ : ∃ q, q = vcBad m := ⟨_, rfl⟩
      have HQ : Hid (G = (q || (s.drop (k + 1)).any vcBad)) := by unfold Hid; rw [hR.out.1, any_dropV hjl, hq, hm]
      have HC : Hid (∀ W, Calls Try.prog 41 #[.agg #[.int .i64 m.k, .int .i64 m.lo, .int .i64 m.hi, .int .i64 m.nm, .int .i64 m.q.n, .int .i64 m.q.d]] W fun e w' => e = .returned (.bool q) ∧ Below W.heap.size W w') := fun W => by rw [hq]; exact impl_wrong m W
      clear hj hm hq
      have b0 : (0 : Int) ≤ (k : Int) := by omega
      have b1 : (k : Int) < (n : Int) := by omega
      go_wp2_with (fail)
      refine (HC.out _).mono ?_
      rintro e w5 ⟨rfl, hb5⟩
      have HB : Hid (Below w.heap.size w w5) := hR.out.2.trans (hb5.mono hR.out.2.size)
      clear HC hb5 hR c0 c1 c2' c3 c4 c5
      cases q with
      | true =>
        go_wp2
        go_returns
        exact ⟨(k : Int), rfl, by rw [HQ.out, decide_eq_true b0]; rfl, HB.out⟩
      | false =>
        go_wp2
        go_roundw
        case rel => exact ⟨k + 1, by omega, by go_num, HQ.out, HB.out⟩
        case measure => simp [intOf]; omega
    · have HM : Hid (G = false) := by
        unfold Hid; rw [hR.out.1, List.drop_eq_nil_of_le (by rw [← H.out.2.1]; omega)]; rfl
      go_wp2
      go_returns
      exact ⟨-1, rfl, by rw [HM.out]; rfl, hR.out.2⟩

set_option maxHeartbeats 1600000 in
theorem impl_anyWr {w : World} {v : Value} {s : List Cls} (hn : s.length ≤ 1048576) (h : RG 6 vcC w v s) :
    Calls Try.prog 40 #[v, .func (Fn.func 41) #[] #[]] w fun e w' => e = .returned (.bool (s.any vcBad)) ∧ Below w.heap.size w w' := by
  obtain ⟨a, c, rfl⟩ := h.form
  have HC : Hid (Calls Try.prog 67 #[.slice a s.length c, .func (Fn.func 41) #[] #[]] w fun e w' => ∃ r : Int, e = .returned (.int .i64 r) ∧ decide (0 ≤ r) = s.any vcBad ∧ Below w.heap.size w w') := impl_ixWr hn h
  obtain ⟨n, hnn⟩ : ∃ n, n = s.length := ⟨_, rfl⟩
  obtain ⟨B, hB⟩ : ∃ B, B = s.any vcBad := ⟨_, rfl⟩
  rw [← hnn, ← hB] at HC
  rw [← hnn, ← hB]
  clear h hnn hn hB
  go_enter Try.func40, Try.ntmps40
  go_wp2_with (fail)
  refine HC.out.mono ?_
  rintro e w5 ⟨r, rfl, hr, hb⟩
  have HR : Hid (decide (0 ≤ r) = B ∧ Below w.heap.size w w5) := ⟨hr, hb⟩
  clear HC hr hb
  go_wp2
  go_returns
  exact ⟨by rw [← HR.out.1]; rfl, HR.out.2⟩



set_option maxRecDepth 10000 in
set_option maxHeartbeats 1600000 in
theorem impl_vcF {w : World} {v : Value} {s : List Cls} (hn : s.length ≤ 1048576) (h : RG 6 vcC w v s) :
    Calls Try.prog 17 #[v] w fun e w' => e = .returned (.int .i64 (vcF s)) ∧ Below w.heap.size w w' := by
  obtain ⟨a, c, rfl⟩ := h.form
  obtain ⟨B, hB⟩ : ∃ B, B = s.any vcBad := ⟨_, rfl⟩
  obtain ⟨n, hnn⟩ : ∃ n, n = s.length := ⟨_, rfl⟩
  have HE : Hid (vcF s = if 20 < n then 2 else if B then 1 else 0) := by unfold Hid vcF; rw [hB, hnn]
  have HC : Hid (∀ W, Below w.heap.size w W → Calls Try.prog 40 #[.slice a n c, .func (Fn.func 41) #[] #[]] W fun e w' => e = .returned (.bool B) ∧ Below W.heap.size W w') := fun W hW => by
    rw [hB, hnn]; exact impl_anyWr hn (h.below hW)
  rw [← hnn] at hn ⊢
  rw [HE.out]
  clear h hnn hB HE
  by_cases h0 : 20 < n
  · have h1 : (20 : Int) < (n : Int) := by omega
    rw [if_pos h0]
    go_enter Try.func17, Try.ntmps17
    go_wp2
    go_returns
    exact ⟨rfl, Below.refl _ _⟩
  · have h1 : ¬ (20 : Int) < (n : Int) := by omega
    rw [if_neg h0]
    clear h0
    go_enter Try.func17, Try.ntmps17
    go_wp2_with (fail)
    refine (HC.out _ (by (repeat' (first | (with_reducible exact Below.refl _ _) | (with_reducible assumption) | (with_reducible refine Below.setCell ?_ ?_ _) | (with_reducible refine Below.alloc ?_ ?_ _) | (with_reducible refine below_drewN ?_ _) | (with_reducible refine Below.drew ?_) | (with_reducible exact Nat.le_refl _) | omega | (simp; done) | (simp; omega))))).mono ?_
    rintro e w1 ⟨rfl, hb1⟩
    cases B with
    | true =>
      go_wp2
      go_returns
      exact ⟨rfl, hb1⟩
    | false =>
      go_wp2
      go_returns
      exact ⟨rfl, hb1⟩

end Go.Proofs.Ytjacmneopijiaaa

namespace Go.Proofs.Ytjacmneopijiaaa
open Go.RowKit
set_option linter.unusedVariables false
set_option linter.unusedSimpArgs false

set_option maxHeartbeats 1600000 in
theorem impl_vx {w : World} {v u : Value} {s : List Dft} {cs : List Cls} (hn : s.length ≤ 1048576) (hm : cs.length ≤ 1048576) (h : RG 4 vdC w v s) (k : RG 6 vcC w u cs) :
    Calls Try.prog 47 #[v, u] w fun e w' => e = .returned (.int .i64 (vxF s cs)) ∧ Below w.heap.size w w' := by
  obtain ⟨a, c, rfl⟩ := h.form
  obtain ⟨a2, c2, rfl⟩ := k.form
  obtain ⟨n, hnn⟩ : ∃ n, n = s.length := ⟨_, rfl⟩
  obtain ⟨m, hmm⟩ : ∃ n, n = cs.length := ⟨_, rfl⟩
  obtain ⟨F, hF⟩ : ∃ F, F = vdF s := ⟨_, rfl⟩
  obtain ⟨G, hG⟩ : ∃ F, F = vcF cs := ⟨_, rfl⟩
  obtain ⟨E, hE⟩ : ∃ E, E = vxF s cs := ⟨_, rfl⟩
  have HE : Hid (E = if F = 0 then G else F) := by unfold Hid; rw [hE, hF, hG]; rfl
  have H1 : Hid (∀ X, Below w.heap.size w X → Calls Try.prog 12 #[.slice a n c] X fun e w' => e = .returned (.int .i64 F) ∧ Below X.heap.size X w') := fun X hX => by rw [hF, hnn]; exact impl_vdF hn (h.below hX)
  have H2 : Hid (∀ X, Below w.heap.size w X → Calls Try.prog 17 #[.slice a2 m c2] X fun e w' => e = .returned (.int .i64 G) ∧ Below X.heap.size X w') := fun X hX => by rw [hG, hmm]; exact impl_vcF hm (k.below hX)
  rw [← hnn, ← hmm, ← hE]
  clear hE hF hG h k hn hm hnn hmm
  go_enter Try.func47, Try.ntmps47
  go_wp2_with (fail)
  refine (H1.out _ (Below.refl _ _)).mono ?_
  rintro e w1 ⟨rfl, hb1⟩
  have HB : Hid (Below w.heap.size w w1) := hb1
  clear hb1
  by_cases hf : F = 0
  · have HG : Hid (E = G) := by unfold Hid; rw [HE.out, if_pos hf]
    clear HE
    subst hf
    go_wp2_with (fail)
    refine (H2.out _ HB.out).mono ?_
    rintro e w2 ⟨rfl, hb2⟩
    have HB2 : Hid (Below w.heap.size w w2) := HB.out.trans (hb2.mono HB.out.size)
    clear hb2
    go_wp2
    go_returns
    exact ⟨by rw [HG.out]; rfl, HB2.out⟩
  · have HG : Hid (E = F) := by unfold Hid; rw [HE.out, if_neg hf]
    have hf2 : (F != 0) = true := by simp [hf]
    clear HE
    go_wp2
    go_returns
    exact ⟨by rw [HG.out]; rfl, HB.out⟩

end Go.Proofs.Ytjacmneopijiaaa
