/- Proved here: the fault of defects and classes, of the model. (And ahead of it: Proved here: ClassesFault of the model: vcF.) -/
import Derived.Test.YtjacmneopijiaaaVtM
import Derived.Test.YtjacmneopijiaaaSFault
import Derived.Deep.DeepCutAuto
import Derived.Test.YtjacmneopijiaaaVkM
import Derived.Test.YtjacmneopijiaaaVdS
namespace Go.Proofs.Ytjacmneopijiaaa
open Go.RowKit
set_option linter.unusedVariables false
set_option linter.unusedSimpArgs false

theorem vcS_six {w : World} {k : Nat} {a b c d e f : Value} {T : TypeId} (h : w.heap[k]? = some (.cells #[a, b, c, d, e, f] T)) :
    w.cell? ⟨k, 0, none⟩ = some a ∧ w.cell? ⟨k, 1, none⟩ = some b ∧ w.cell? ⟨k, 2, none⟩ = some c ∧ w.cell? ⟨k, 3, none⟩ = some d ∧ w.cell? ⟨k, 4, none⟩ = some e ∧ w.cell? ⟨k, 5, none⟩ = some f ∧ k < w.heap.size := by
  refine ⟨by simp [World.cell?, h], by simp [World.cell?, h], by simp [World.cell?, h], by simp [World.cell?, h], by simp [World.cell?, h], by simp [World.cell?, h], ?_⟩
  rcases Nat.lt_or_ge k w.heap.size with h' | h'
  · exact h'
  · rw [Array.getElem?_eq_none h'] at h; cases h

set_option maxRecDepth 10000 in
set_option maxHeartbeats 6400000 in
theorem spec_vcF {w : World} {v : Value} {s : List Cls} (hn : s.length ≤ 1048576) (h : RG 6 vcC w v s) :
    Calls Try.prog 15 #[v] w fun e w' => e = .returned (.int .i64 (vcF s)) ∧ Below w.heap.size w w' := by
  obtain ⟨a, c, rfl⟩ := h.form
  obtain ⟨N, hnn⟩ : ∃ n, n = s.length := ⟨_, rfl⟩
  obtain ⟨C, hC⟩ : ∃ C, C = vcF s := ⟨_, rfl⟩
  rw [← hnn] at h hn ⊢
  rw [← hC]
  have H : Hid (RG 6 vcC w (.slice a N c) s ∧ N = s.length ∧ C = vcF s) := ⟨h, hnn, hC⟩
  clear h hnn hC
  by_cases h1 : (20 : Int) < (N : Int)
  · have HC : Hid (C = 2) := by unfold Hid; rw [H.out.2.2]; unfold vcF; rw [if_pos (by rw [← H.out.2.1]; omega)]
    clear H
    go_enter Try.func15, Try.ntmps15
    go_wp2
    go_returns
    exact ⟨by rw [HC.out]; rfl, Below.refl _ _⟩
  have HC : Hid (C = if s.any vcBad then 1 else 0) := by unfold Hid; rw [H.out.2.2]; unfold vcF; rw [if_neg (by rw [← H.out.2.1]; omega)]
  go_enter Try.func15, Try.ntmps15
  go_wp2
  go_loopw [3] (fun i wr => ∃ j : Nat, j ≤ N ∧ i = .int .i64 j ∧ Hid ((C = if (s.drop j).any vcBad then 1 else 0) ∧ Below w.heap.size w wr)) (fun i _ => N - (intOf i).toNat)
  case atStart => exact ⟨0, Nat.zero_le _, rfl, HC.out, Below.refl _ _⟩
  case round =>
    obtain ⟨j, hk, rfl, hR⟩ := hrel
    by_cases hlt : j < N
    · have hjl : j < s.length := by rw [← H.out.2.1]; exact hlt
      obtain ⟨g, o, c2, he, hg, hj⟩ := (H.out.1.below hR.out.2).pos (by omega)
      simp only [Value.slice.injEq] at he
      obtain ⟨rfl, hx1, hx2⟩ := he
      clear hx1 hx2
      obtain ⟨c0, c1, c2', c3, c4, c5⟩ := vcC_at (hj j hjl)
      obtain ⟨m, hm⟩ : ∃ m, m = s[j] := ⟨_, rfl⟩
      rw [← hm] at c0 c1 c2' c3 c4 c5
      have HN0 : Hid (C = if vcBad m || (s.drop (j + 1)).any vcBad then 1 else 0) := by unfold Hid; rw [hR.out.1, any_dropV hjl, hm]
      have HB : Hid (Below w.heap.size w wr) := hR.out.2
      clear hR hj hm
      obtain ⟨r1, e1⟩ : ∃ r, r = decide (-1 ≤ m.k ∧ m.k ≤ 9) := ⟨_, rfl⟩
      obtain ⟨r2, e2⟩ : ∃ r, r = decide (m.hi < m.lo) := ⟨_, rfl⟩
      obtain ⟨r3, e3⟩ : ∃ r, r = decide (1 ≤ m.nm ∧ m.nm ≤ 99) := ⟨_, rfl⟩
      obtain ⟨F, hF⟩ : ∃ C, C = codeF m.q.n m.q.d := ⟨_, rfl⟩
      obtain ⟨r5, e5⟩ : ∃ r, r = decide (0 ≤ m.q.n ∧ m.q.n ≤ m.q.d) := ⟨_, rfl⟩
      have HN : Hid (C = if vcR r1 r2 r3 (F != 0) r5 || (s.drop (j + 1)).any vcBad then 1 else 0) := by
        have hq : vcBad m = vcR r1 r2 r3 (F != 0) r5 := by unfold vcBad; rw [e1, e2, e3, hF, e5, codeF_ne]
        rw [← hq]; exact HN0.out
      clear HN0
      obtain ⟨k, lo, hi, nm, n, d⟩ := m
      simp only at e1 e2 e3 hF e5 c0 c1 c2' c3 c4 c5
      have H1 : Hid (∀ W, Calls Try.prog 35 #[.int .i64 k, .int .i64 (-1), .int .i64 9] W fun e w' => e = .returned (.bool r1) ∧ w' = W) := fun W => by rw [e1]; exact spec_in10 _ _ _ W
      have H3 : Hid (∀ W, Calls Try.prog 35 #[.int .i64 nm, .int .i64 1, .int .i64 99] W fun e w' => e = .returned (.bool r3) ∧ w' = W) := fun W => by rw [e3]; exact spec_in10 _ _ _ W
      have H4 : Hid (∀ W, Calls Try.prog 38 #[.agg #[.int .i64 n, .int .i64 d]] W fun e w' => e = .returned (.int .i64 F) ∧ Below W.heap.size W w') := fun W => by rw [hF]; exact spec_fault n d W
      have H2 : Hid (r2 = decide (hi < lo)) := e2
      have H5 : Hid (r5 = decide (0 ≤ n ∧ n ≤ d)) := e5
      clear e1 e2 e3 e5 hF
      have b0 : (0 : Int) ≤ (j : Int) := by omega
      have b1 : (j : Int) < (N : Int) := by omega
      go_wp2_with (fail)
      obtain ⟨V, hV⟩ : ∃ V, V = wr.alloc (.cells #[.int .i64 k, .int .i64 lo, .int .i64 hi, .int .i64 nm, .int .i64 n, .int .i64 d] 66) := ⟨_, rfl⟩
      rw [← hV]
      have kV : V.heap[wr.heap.size]? = some (.cells #[.int .i64 k, .int .i64 lo, .int .i64 hi, .int .i64 nm, .int .i64 n, .int .i64 d] 66) := by rw [hV]; exact heap_alloc_new wr _
      have bV : Below wr.heap.size wr V := by rw [hV]; (repeat' (first | (with_reducible exact Below.refl _ _) | (with_reducible assumption) | (with_reducible refine Below.setCell ?_ ?_ _) | (with_reducible refine Below.alloc ?_ ?_ _) | (with_reducible refine below_drewN ?_ _) | (with_reducible refine Below.drew ?_) | (with_reducible exact Nat.le_refl _) | omega | (simp; done) | (simp; omega)))
      have HBV : Hid (Below w.heap.size w V) := HB.out.trans (bV.mono HB.out.size)
      have HKV : Hid (V.heap[wr.heap.size]? = some (.cells #[.int .i64 k, .int .i64 lo, .int .i64 hi, .int .i64 nm, .int .i64 n, .int .i64 d] 66)) := kV
      obtain ⟨p0, p1, p2, p3, p4, p5, pl⟩ := vcS_six kV
      clear hV kV bV c0 c1 c2' c3 c4 c5 hg HB
      refine (H1.out _).mono ?_
      rintro e w1 ⟨rfl, rfl⟩
      cases r1 with
      | false =>
        have HZ : Hid (C = 1) := by unfold Hid; rw [HN.out, show vcR false r2 r3 (F != 0) r5 = true from rfl]; rfl
        go_wp2
        go_returns
        exact ⟨by rw [HZ.out]; rfl, HBV.out⟩
      | true =>
      by_cases hlo : hi < lo
      · have HR : Hid (r2 = true) := by unfold Hid; rw [H2.out]; simp [hlo]
        have HZ : Hid (C = 1) := by unfold Hid; rw [HN.out, HR.out, show vcR true true r3 (F != 0) r5 = true from rfl]; rfl
        go_wp2
        go_returns
        exact ⟨by rw [HZ.out]; rfl, HBV.out⟩
      have HR : Hid (r2 = false) := by unfold Hid; rw [H2.out]; simp [hlo]
      have hlo2 : decide (hi < lo) = false := by simp [hlo]
      clear H2
      go_wp2_with (fail)
      refine (H3.out _).mono ?_
      rintro e w3 ⟨rfl, rfl⟩
      cases r3 with
      | false =>
        have HZ : Hid (C = 1) := by unfold Hid; rw [HN.out, HR.out, show vcR true false false (F != 0) r5 = true from rfl]; rfl
        go_wp2
        go_returns
        exact ⟨by rw [HZ.out]; rfl, HBV.out⟩
      | true =>
      go_wp2_with (fail)
      refine (H4.out _).mono ?_
      rintro e w4 ⟨rfl, hb4⟩
      have HBW : Hid (Below w.heap.size w w4) := HBV.out.trans (hb4.mono HBV.out.size)
      obtain ⟨p0, p1, p2, p3, p4, p5, pl⟩ := vcS_six ((hb4.block wr.heap.size pl).trans HKV.out)
      clear hb4 HBV
      by_cases hc : F = 0
      · have hc2 : (F != 0) = false := by simp [hc]
        have HN2 : Hid (C = if (!r5) || (s.drop (j + 1)).any vcBad then 1 else 0) := by
          unfold Hid; rw [HN.out, HR.out, hc2]; rfl
        clear HN HR H4
        subst hc
        clear hc2
        by_cases hn0 : n < 0
        · have HZ : Hid (C = 1) := by
            have h9 : r5 = false := by rw [H5.out]; simp; omega
            unfold Hid; rw [HN2.out, h9]; rfl
          go_wp2
          go_returns
          exact ⟨by rw [HZ.out]; rfl, HBW.out⟩
        have hn1 : decide (n < 0) = false := by simp [hn0]
        by_cases hd0 : d < n
        · have HZ : Hid (C = 1) := by
            have h9 : r5 = false := by rw [H5.out]; simp; omega
            unfold Hid; rw [HN2.out, h9]; rfl
          go_wp2
          go_returns
          exact ⟨by rw [HZ.out]; rfl, HBW.out⟩
        have hd1 : decide (d < n) = false := by simp [hd0]
        have HZ : Hid (C = if (s.drop (j + 1)).any vcBad then 1 else 0) := by
          have h9 : r5 = true := by rw [H5.out]; simp; omega
          unfold Hid; rw [HN2.out, h9]; rfl
        go_wp2
        go_roundw
        case rel => exact ⟨j + 1, by omega, by go_num, HZ.out, HBW.out⟩
        case measure => simp [intOf]; omega
      · have hc2 : (F != 0) = true := by simp [hc]
        have HZ : Hid (C = 1) := by unfold Hid; rw [HN.out, HR.out, hc2]; rfl
        go_wp2
        go_returns
        exact ⟨by rw [HZ.out]; rfl, HBW.out⟩
    · have HM : Hid (C = 0) := by
        unfold Hid; rw [hR.out.1, List.drop_eq_nil_of_le (by rw [← H.out.2.1]; omega)]; rfl
      go_wp2
      go_returns
      exact ⟨by rw [HM.out]; rfl, hR.out.2⟩

end Go.Proofs.Ytjacmneopijiaaa

namespace Go.Proofs.Ytjacmneopijiaaa
open Go.RowKit
set_option linter.unusedVariables false
set_option linter.unusedSimpArgs false

set_option maxHeartbeats 1600000 in
theorem spec_vx {w : World} {v u : Value} {s : List Dft} {cs : List Cls} (hn : s.length ≤ 1048576) (hm : cs.length ≤ 1048576) (h : RG 4 vdC w v s) (k : RG 6 vcC w u cs) :
    Calls Try.prog 46 #[v, u] w fun e w' => e = .returned (.int .i64 (vxF s cs)) ∧ Below w.heap.size w w' := by
  obtain ⟨a, c, rfl⟩ := h.form
  obtain ⟨a2, c2, rfl⟩ := k.form
  obtain ⟨n, hnn⟩ : ∃ n, n = s.length := ⟨_, rfl⟩
  obtain ⟨m, hmm⟩ : ∃ n, n = cs.length := ⟨_, rfl⟩
  obtain ⟨F, hF⟩ : ∃ F, F = vdF s := ⟨_, rfl⟩
  obtain ⟨G, hG⟩ : ∃ F, F = vcF cs := ⟨_, rfl⟩
  obtain ⟨E, hE⟩ : ∃ E, E = vxF s cs := ⟨_, rfl⟩
  have HE : Hid (E = if F = 0 then G else F) := by unfold Hid; rw [hE, hF, hG]; rfl
  have H1 : Hid (∀ X, Below w.heap.size w X → Calls Try.prog 10 #[.slice a n c] X fun e w' => e = .returned (.int .i64 F) ∧ Below X.heap.size X w') := fun X hX => by rw [hF, hnn]; exact spec_vdF hn (h.below hX)
  have H2 : Hid (∀ X, Below w.heap.size w X → Calls Try.prog 15 #[.slice a2 m c2] X fun e w' => e = .returned (.int .i64 G) ∧ Below X.heap.size X w') := fun X hX => by rw [hG, hmm]; exact spec_vcF hm (k.below hX)
  rw [← hnn, ← hmm, ← hE]
  clear hE hF hG h k hn hm hnn hmm
  go_enter Try.func46, Try.ntmps46
  go_wp2_with (fail)
  refine (H1.out _ (Below.refl _ _)).mono ?_
  rintro e w1 ⟨rfl, hb1⟩
  have HB : Hid (Below w.heap.size w w1) := hb1
  clear hb1
  by_cases hf : F = 0
  · have HG : Hid (E = G) := by unfold Hid; rw [HE.out, if_pos hf]
    clear HE
    subst hf
    go_wp2_with (fail)
    refine (H2.out _ HB.out).mono ?_
    rintro e w2 ⟨rfl, hb2⟩
    have HB2 : Hid (Below w.heap.size w w2) := HB.out.trans (hb2.mono HB.out.size)
    clear hb2
    go_wp2
    go_returns
    exact ⟨by rw [HG.out]; rfl, HB2.out⟩
  · have HG : Hid (E = F) := by unfold Hid; rw [HE.out, if_neg hf]
    have hf2 : (F != 0) = true := by simp [hf]
    clear HE
    go_wp2
    go_returns
    exact ⟨by rw [HG.out]; rfl, HB.out⟩

end Go.Proofs.Ytjacmneopijiaaa
