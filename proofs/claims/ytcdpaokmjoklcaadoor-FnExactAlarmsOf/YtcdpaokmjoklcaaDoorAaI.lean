/- Proved here: AlarmsOf of the program, where the table of its run rules lies as the program lays it: aaC, aaL. -/
import Derived.Test.YtcdpaokmjoklcaaDoorAaH
import Derived.Test.YtcdpaokmjoklcaaDoorAaR
import Derived.Test.YtcdpaokmjoklcaaDoorCuT
import Derived.Test.YtcdpaokmjoklcaaDoorCfI16
import Derived.Deep.DeepCutAuto
import Derived.Deep.MidRow
namespace Go.Proofs.YtcdpaokmjoklcaaDoor
open Go.RowKit
set_option linter.unusedVariables false
set_option linter.unusedSimpArgs false

/-- The table of the run rules, as it lies in memory. -/
def rrC : List Value := [.int .i64 1, .int .i64 0, .int .i64 3, .int .i64 1, .int .i64 1, .int .i64 2, .int .i64 0, .int .i64 2, .int .i64 3, .int .i64 2, .int .i64 3, .int .i64 0, .int .i64 1, .int .i64 5, .int .i64 4, .int .i64 4, .int .i64 0, .int .i64 0, .int .i64 8, .int .i64 8, .int .i64 5, .int .i64 1, .int .i64 0, .int .i64 5, .int .i64 5, .int .i64 6, .int .i64 2, .int .i64 0, .int .i64 13, .int .i64 13]
def Tab16 (w : World) : Prop := ∃ (t : TypeId) (fr : Nat × Nat), w.heap[0]? = some (.cells rrC.toArray t fr)
theorem Tab16.next {w w' : World} (h : Tab16 w) (hb : Below w.heap.size w w') : Tab16 w' := by
  obtain ⟨t, fr, h⟩ := h
  refine ⟨t, fr, ?_⟩
  rw [hb.block 0 (by
    rcases Nat.lt_or_ge 0 w.heap.size with h' | h'
    · exact h'
    · rw [Array.getElem?_eq_none h'] at h; cases h)]
  exact h
theorem Tab16.low {w w' : World} {lo : Nat} (h : Tab16 w) (h0 : 0 < lo) (hb : Below lo w w') : Tab16 w' := by
  obtain ⟨t, fr, h⟩ := h
  exact ⟨t, fr, (hb.block 0 h0).trans h⟩
theorem Tab16.range {w : World} (h : Tab16 w) : w.rangeAt 0 0 rrC := by
  obtain ⟨t, fr, h⟩ := h
  intro i v hv
  simp only [World.cell?, h]
  simpa using hv
theorem AlT.nextI {w wr wr' : World} {o : Obj} {lo : Nat} {v : Value} {cur : List Alm} (h : AlT w wr o lo v cur) (hb : Below wr.heap.size wr wr') : AlT w wr' o lo v cur :=
  ⟨h.bl.trans (hb.mono h.bl.size), (hb.block _ (ltOf h.bx)).trans h.bx, ownsRow_keep h.su fun g hg => hb.block g (OG.lt h.su g hg).2, h.lo1, Nat.le_trans h.lo2 hb.size⟩
theorem ix_rule (w : World) (j : Nat) (hj : j < 6) : (Instr.index 44 (.agg rrC.toArray) (.int .i64 j)).run Tryd.prog w = .ok (.agg #[.int .i64 ((j : Int) + 1), .int .i64 (rS j : Nat), .int .i64 (rK j : Nat), .int .i64 (rP j : Nat), .int .i64 (rM j : Nat)]) w := by
  rcases (by omega : j = 0 ∨ j = 1 ∨ j = 2 ∨ j = 3 ∨ j = 4 ∨ j = 5) with rfl | rfl | rfl | rfl | rfl | rfl <;> kernel_rfl
theorem rule_bd (j : Nat) (hj : j < 6) : rS j ≤ 2 ∧ rK j ≤ 3 ∧ (1 ≤ rP j ∧ rP j ≤ 13) ∧ (1 ≤ rM j ∧ rM j ≤ 13) := by
  rcases (by omega : j = 0 ∨ j = 1 ∨ j = 2 ∨ j = 3 ∨ j = 4 ∨ j = 5) with rfl | rfl | rfl | rfl | rfl | rfl <;> simp [rS, rK, rP, rM]

theorem sr_cap {w : World} {B : Nat} {a : Option Addr} {n c : Nat} {X : List Int} (h : IS w B (.slice a n c) X) (hp : 0 < X.length) : X.length ≤ c := by
  rcases h.2 with ⟨_, h0⟩ | ⟨g, cap, cur, he, hB, hg, hn, hm, hs, ht⟩
  · omega
  · injection he with e1 e2 e3
    rw [e3]
    exact hn

set_option maxRecDepth 10000 in
set_option maxHeartbeats 25600000 in
theorem impl_aa (ce sg : Int) {w : World} {v : Value} {s : List Int} (htab : Tab16 w) (hn : s.length ≤ 1048576) (h : RdI w v s) :
    Calls Tryd.prog 6 #[v, .int .i64 ce, .int .i64 sg] w fun e w' => ∃ v, e = .returned (.agg #[.int .i64 (aaC ce sg s), v]) ∧ OG 38 2 alC w' w.heap.size v (aaL ce sg s) ∧ Below w.heap.size w w' := by
  obtain ⟨i0, hi, hz0, hz1, hz2⟩ := info_parts info_Alarm
  obtain ⟨a, c, rfl⟩ := h.form
  obtain ⟨n, hnn⟩ : ∃ n, n = s.length := ⟨_, rfl⟩
  obtain ⟨C, hC⟩ : ∃ C, C = aaC ce sg s := ⟨_, rfl⟩
  obtain ⟨LL, hLL⟩ : ∃ L, L = aaL ce sg s := ⟨_, rfl⟩
  rw [← hnn] at hn h ⊢
  rw [← hC, ← hLL]
  obtain ⟨q0, hq0⟩ : ∃ b, b = decide (-1000000 ≤ ce ∧ ce ≤ 1000000) := ⟨_, rfl⟩
  obtain ⟨q1, hq1⟩ : ∃ b, b = decide (1 ≤ sg ∧ sg ≤ 100000) := ⟨_, rfl⟩
  have HC : Hid (C = (if chF s = 0 then (if q0 && q1 then 0 else 3) else chF s) ∧ LL = if C = 0 then alA (alH ce sg s) s.length else []) := by
    refine ⟨?_, by rw [hLL, hC]; rfl⟩
    rw [hC, aaC, hq0, hq1]; simp only [Bool.and_eq_true, decide_eq_true_eq]
  obtain ⟨Fa, hFa⟩ : ∃ F, F = ceF ce s := ⟨_, rfl⟩
  have HFF : Hid (Fa = (if chF s = 0 then (if q0 then 0 else 3) else chF s)) := by unfold Hid; rw [hFa, ceF, hq0]; simp only [decide_eq_true_eq]
  have HF : Hid (∀ W, Below w.heap.size w W → Calls Tryd.prog 17 #[.slice a n c, .int .i64 ce] W fun e w' => e = .returned (.int .i64 Fa) ∧ w' = W) := fun W hW => by rw [hFa]; exact impl_ce ce (by omega) (h.below hW)
  have H1 : Hid (∀ W, Calls Tryd.prog 18 #[.int .i64 sg, .int .i64 1, .int .i64 100000] W fun e w' => e = .returned (.bool q1) ∧ w' = W) := impl_insC sg 1 100000 q1 hq1
  have H : Hid (RdI w (.slice a n c) s ∧ n = s.length ∧ q0 = decide (-1000000 ≤ ce ∧ ce ≤ 1000000) ∧ q1 = decide (1 ≤ sg ∧ sg ≤ 100000) ∧ Tab16 w) := ⟨h, hnn, hq0, hq1, htab⟩
  clear h hnn hC hLL hFa hq0 hq1 htab
  obtain ⟨W0, hW0⟩ : ∃ W, W = w.alloc (.cells #[.int .i64 0, .slice none 0 0] 25) := ⟨_, rfl⟩
  have HW0 : Hid (Below w.heap.size w W0 ∧ W0.heap[w.heap.size]? = some (.cells #[.int .i64 0, .slice none 0 0] 25) ∧ W0.heap.size = w.heap.size + 1) := by
    rw [hW0]; exact ⟨by (repeat' (first | (with_reducible exact Below.refl _ _) | (with_reducible assumption) | (with_reducible refine Below.setCell ?_ ?_ _) | (with_reducible refine Below.alloc ?_ ?_ _) | (with_reducible refine below_drewN ?_ _) | (with_reducible refine Below.drew ?_) | (with_reducible exact Nat.le_refl _) | omega | (simp; done) | (simp; omega))), heap_alloc_new _ _, by simp⟩
  go_enter Tryd.func6, Tryd.ntmps6
  go_wp2_with (fail)
  rw [← hW0]
  clear hW0
  refine (HF.out _ HW0.out.1).mono ?_
  rintro e w1 ⟨rfl, hw⟩
  subst w1
  clear HF
  by_cases hF0 : Fa = 0
  case neg =>
    have HZ : Hid (C = Fa ∧ LL = []) := by
      have h1 := HC.out
      have h2 := HFF.out
      by_cases h3 : chF s = 0
      · rw [if_pos h3] at h1 h2
        cases q0
        · simp only [Bool.false_and, Bool.false_eq_true, if_false] at h1 h2
          exact ⟨by rw [h1.1, h2], by rw [h1.2, h1.1, if_neg (by decide)]⟩
        · simp only [if_true] at h2
          exact absurd h2 hF0
      · rw [if_neg h3] at h1 h2
        exact ⟨by rw [h1.1, h2], by rw [h1.2, h1.1, if_neg h3]⟩
    have hA : (Fa != 0) = true := by simpa using hF0
    clear HC HFF
    obtain ⟨p0, p1, pf0, pf1, pl⟩ := ew_two HW0.out.2.1
    clear H
    go_wp2
    try simp only [Exit.inBlock, Exit.then]
    refine bodyPost_ret (by simp [results, Tryd.results6, go_sem, p0, p1, pl]; try rfl) rfl ⟨.slice none 0 0, by rw [HZ.out.1], by rw [HZ.out.2]; exact al_nil _ _, ?_⟩
    have hb := HW0.out.1
    (repeat' (first | (with_reducible exact Below.refl _ _) | (with_reducible assumption) | (with_reducible refine Below.setCell ?_ ?_ _) | (with_reducible refine Below.alloc ?_ ?_ _) | (with_reducible refine below_drewN ?_ _) | (with_reducible refine Below.drew ?_) | (with_reducible exact Nat.le_refl _) | omega | (simp; done) | (simp; omega)))
  have hA : (Fa != 0) = false := by rw [hF0]; rfl
  have HF0 : Hid (chF s = 0 ∧ q0 = true) := by
    have h2 := HFF.out
    rw [hF0] at h2
    by_cases h3 : chF s = 0
    · rw [if_pos h3] at h2
      cases q0
      · simp at h2
      · exact ⟨h3, rfl⟩
    · rw [if_neg h3] at h2; exact absurd h2.symm h3
  clear HFF hF0
  go_wp2_with (fail)
  refine (H1.out _).mono ?_
  rintro e w1 ⟨rfl, hw⟩
  subst w1
  cases q1
  · have HZ : Hid (C = 3 ∧ LL = []) := by
      have h1 := HC.out; rw [if_pos HF0.out.1] at h1; simp only [Bool.and_false, Bool.false_and, Bool.and_true, Bool.true_and, Bool.false_eq_true, if_false] at h1; exact ⟨h1.1, by rw [h1.2, h1.1, if_neg (by decide)]⟩
    clear HC
    obtain ⟨p0, p1, pf0, pf1, pl⟩ := ew_two HW0.out.2.1
    clear H
    go_wp2
    try simp only [Exit.inBlock, Exit.then]
    refine bodyPost_ret (by simp [results, Tryd.results6, go_sem, p0, p1, pl]; try rfl) rfl ⟨.slice none 0 0, by rw [HZ.out.1], by rw [HZ.out.2]; exact al_nil _ _, ?_⟩
    have hb := HW0.out.1
    (repeat' (first | (with_reducible exact Below.refl _ _) | (with_reducible assumption) | (with_reducible refine Below.setCell ?_ ?_ _) | (with_reducible refine Below.alloc ?_ ?_ _) | (with_reducible refine below_drewN ?_ _) | (with_reducible refine Below.drew ?_) | (with_reducible exact Nat.le_refl _) | omega | (simp; done) | (simp; omega)))
  have HZ : Hid (C = 0 ∧ LL = alA (alH ce sg s) n) := by
    have h1 := HC.out; rw [if_pos HF0.out.1, HF0.out.2] at h1; simp only [Bool.and_true, if_true] at h1; exact ⟨h1.1, by rw [h1.2, h1.1, if_pos rfl, H.out.2.1]⟩
  have hce : -1000000 ≤ ce ∧ ce ≤ 1000000 := by have h1 := H.out.2.2.1; rw [HF0.out.2] at h1; simpa using h1.symm
  have hsg : 1 ≤ sg ∧ sg ≤ 100000 := by simpa using H.out.2.2.2.1.symm
  have hg := chL_good HF0.out.1
  have hn200 : n ≤ 200 := by rw [H.out.2.1]; exact hg.1
  have HSR : Hid (Calls Tryd.prog 19 #[.slice a n c, .int .i64 ce] W0 fun e w' => ∃ vq : Value × Value × Value, e = .returned (.agg #[vq.1, vq.2.1, vq.2.2]) ∧ (IS w' W0.heap.size vq.1 (rgL (se0 ce s) n) ∧ IS w' W0.heap.size vq.2.1 (rgL (se1 s) n) ∧ IS w' W0.heap.size vq.2.2 (rgL (se2 s) n)) ∧ Below W0.heap.size W0 w') := by
    have h1 := impl_sr ce hce hg.1 hg.2 (H.out.1.below HW0.out.1)
    rw [← H.out.2.1] at h1
    exact h1
  clear hg HC HF0 H1
  go_wp2_with (fail)
  refine HSR.out.mono ?_
  rintro e w2 ⟨⟨v0, v1, v2⟩, rfl, ⟨hI0, hI1, hI2⟩, hb2⟩
  simp only at hI0 hI1 hI2
  obtain ⟨a0, k0, hf0⟩ := hI0.form
  obtain ⟨a1, k1, hf1⟩ := hI1.form
  obtain ⟨a2, k2, hf2⟩ := hI2.form
  rw [rgL_len] at hf0 hf1 hf2
  subst hf0 hf1 hf2
  obtain ⟨KQ, hKQ⟩ : ∃ K, K = w2.heap.size := ⟨_, rfl⟩
  obtain ⟨W3, hW3⟩ : ∃ W, W = w2.alloc (.cells #[.slice a0 n k0, .slice a1 n k1, .slice a2 n k2] 40) := ⟨_, rfl⟩
  have HW3 : Hid (Below w.heap.size w W3 ∧ W3.heap[w.heap.size]? = some (.cells #[.int .i64 0, .slice none 0 0] 25) ∧ W3.heap[KQ]? = some (.cells #[.slice a0 n k0, .slice a1 n k1, .slice a2 n k2] 40) ∧ W3.heap.size = KQ + 1 ∧ w.heap.size < KQ ∧ Tab16 W3 ∧ IS W3 0 (.slice a0 n k0) (rgL (se0 ce s) n) ∧ IS W3 0 (.slice a1 n k1) (rgL (se1 s) n) ∧ IS W3 0 (.slice a2 n k2) (rgL (se2 s) n)) := by
    have hB2 : Below w.heap.size w w2 := HW0.out.1.trans (hb2.mono HW0.out.1.size)
    have hs2 : w.heap.size < w2.heap.size := by have := hb2.size; have := HW0.out.2.2; omega
    have hB3 : Below w2.heap.size w2 W3 := by rw [hW3]; (repeat' (first | (with_reducible exact Below.refl _ _) | (with_reducible assumption) | (with_reducible refine Below.setCell ?_ ?_ _) | (with_reducible refine Below.alloc ?_ ?_ _) | (with_reducible refine below_drewN ?_ _) | (with_reducible refine Below.drew ?_) | (with_reducible exact Nat.le_refl _) | omega | (simp; done) | (simp; omega)))
    refine ⟨hB2.trans (hB3.mono (by omega)), ?_, by rw [hW3, hKQ]; exact heap_alloc_new _ _, by rw [hW3, hKQ]; simp, by rw [hKQ]; exact hs2, H.out.2.2.2.2.next (hB2.trans (hB3.mono (by omega))), ?_, ?_, ?_⟩
    · rw [hB3.block _ hs2, hb2.block _ (ltOf HW0.out.2.1)]; exact HW0.out.2.1
    · exact (hI0.low (Nat.zero_le _)).kept fun g hg => hB3.block g (World.ownsRow.lt hI0 g hg).2
    · exact (hI1.low (Nat.zero_le _)).kept fun g hg => hB3.block g (World.ownsRow.lt hI1 g hg).2
    · exact (hI2.low (Nat.zero_le _)).kept fun g hg => hB3.block g (World.ownsRow.lt hI2 g hg).2
  clear hI0 hI1 hI2 hb2 HSR HW0
  go_upto_region 7 with fail
  rw [← hW3, ← hKQ]
  clear hW3 hKQ
  obtain ⟨lo, hlo⟩ : ∃ lo, lo = KQ + 1 := ⟨_, rfl⟩
  have HLO : Hid (lo = W3.heap.size ∧ lo = KQ + 1) := ⟨by rw [HW3.out.2.2.2.1]; exact hlo, hlo⟩
  have HS : Hid (AlT w W3 (.cells #[.int .i64 0, .slice none 0 0] 25) lo (.slice none 0 0) [] ∧ Below lo W3 W3) :=
    ⟨⟨HW3.out.1, HW3.out.2.1, al_nil _ _, by have := HW3.out.2.2.2.2.1; omega, by rw [HLO.out.1]; exact Nat.le_refl _⟩, Below.refl _ _⟩
  clear hlo
  go_wp2
  go_loopw [9, 29] (fun l i wr => ∃ (k : Nat) (v : Value), k ≤ n ∧ v = l ∧ i = .int .i64 k ∧ Hid (AlT w wr (.cells #[.int .i64 0, .slice none 0 0] 25) lo v (alA (alH ce sg s) k) ∧ Below lo W3 wr)) (fun _ i _ => n - (intOf i).toNat)
  case atStart => exact ⟨0, _, Nat.zero_le _, rfl, rfl, HS.out⟩
  case round =>
    clear HS
    obtain ⟨k, v, hk, rfl, rfl, hQ⟩ := hrel
    by_cases hlt : k < n
    · have b1 : (k : Int) < (n : Int) := by omega
      have hrg : wr.rangeAt 0 0 rrC := (HW3.out.2.2.2.2.2.1.low (by have := HLO.out.2; omega) hQ.out.2).range
      have hinf : (Tryd.prog.info? 44).map (·.size) = some rrC.length := by kernel_rfl
      go_wp2_with (refine wpList_load_mid rfl 44 _ rfl 0 0 rfl rrC _ hrg Tryd.underlying44 rfl hinf ?_)
      clear hrg
      obtain ⟨RC, hRC⟩ : ∃ R, R = rrC.toArray := ⟨_, rfl⟩
      try rw [← hRC]
      have HIX : Hid (∀ (W : World) (j : Nat), j < 6 → (Instr.index 44 (.agg RC) (.int .i64 j)).run Tryd.prog W = .ok (.agg #[.int .i64 ((j : Int) + 1), .int .i64 (rS j : Nat), .int .i64 (rK j : Nat), .int .i64 (rP j : Nat), .int .i64 (rM j : Nat)]) W) := fun W j hj => by rw [hRC]; exact ix_rule W j hj
      clear hRC
      go_loopw [9, 33] (fun l i wr => ∃ (j : Nat) (v : Value), j ≤ 6 ∧ v = l ∧ i = .int .i64 j ∧ Hid (AlT w wr (.cells #[.int .i64 0, .slice none 0 0] 25) lo v (alA (alH ce sg s) k ++ alP (alH ce sg s) k j) ∧ Below lo W3 wr)) (fun _ i _ => 6 - (intOf i).toNat)
      case atStart => exact ⟨0, _, by omega, rfl, rfl, by rw [alP, List.append_nil]; exact hQ.out.1, hQ.out.2⟩
      case round =>
        clear hQ
        obtain ⟨j, v, hj, rfl, rfl, hQ⟩ := hrel
        obtain ⟨cur, hcur⟩ : ∃ c, c = alA (alH ce sg s) k ++ alP (alH ce sg s) k j := ⟨_, rfl⟩
        obtain ⟨m, hm⟩ : ∃ m, m = cur.length := ⟨_, rfl⟩
        have hmb : m ≤ 1300 := by rw [hm, hcur, List.length_append]; have h1 := alA_len (alH ce sg s) k; have h2 := alP_len (alH ce sg s) k j; omega
        rw [← hcur] at hQ
        obtain ⟨va6, vc6, hvf⟩ := hQ.out.1.form
        rw [← hm] at hvf
        subst hvf
        by_cases hltj : j < 6
        · have b2 : (j : Int) < 6 := by omega
          have b3 : (0 : Int) ≤ (j : Int) := by omega
          have qI := fun W : World => HIX.out W j hltj
          obtain ⟨hS2, hK3, hP13, hM13⟩ := rule_bd j hltj
          obtain ⟨S, hS⟩ : ∃ S : Nat, S = rS j := ⟨_, rfl⟩
          obtain ⟨K, hK⟩ : ∃ S : Nat, S = rK j := ⟨_, rfl⟩
          obtain ⟨P, hP⟩ : ∃ S : Nat, S = rP j := ⟨_, rfl⟩
          obtain ⟨M, hM⟩ : ∃ S : Nat, S = rM j := ⟨_, rfl⟩
          rw [← hS, ← hK, ← hP, ← hM] at qI
          rw [← hS] at hS2
          rw [← hK] at hK3
          rw [← hP] at hP13
          rw [← hM] at hM13
          obtain ⟨R, hR⟩ : ∃ R : Int, R = (j : Int) + 1 := ⟨_, rfl⟩
          rw [← hR] at qI
          obtain ⟨u, hu⟩ : ∃ u, u = alH ce sg s k j := ⟨_, rfl⟩
          have HU : Hid (u = hoB (seF ce s S) ((K : Int) * sg) P M k) := by unfold Hid; rw [hu, alH, hS, hK, hP, hM]
          have HNX : Hid (alA (alH ce sg s) k ++ alP (alH ce sg s) k (j + 1) = cur ++ (if u then [⟨(k : Int), R⟩] else []) ∧ m = cur.length) := by
            refine ⟨?_, hm⟩
            rw [alP, ← List.append_assoc, ← hcur, hR, hu]
          obtain ⟨RO, hRO⟩ : ∃ o, o = Obj.cells #[.int .i64 R, .int .i64 (S : Nat), .int .i64 (K : Nat), .int .i64 (P : Nat), .int .i64 (M : Nat)] 43 := ⟨_, rfl⟩
          obtain ⟨V, hV⟩ : ∃ V, V = wr.alloc RO := ⟨_, rfl⟩
          obtain ⟨K2, hK2⟩ : ∃ K, K = wr.heap.size := ⟨_, rfl⟩
          have hbV : Below wr.heap.size wr V := by rw [hV]; (repeat' (first | (with_reducible exact Below.refl _ _) | (with_reducible assumption) | (with_reducible refine Below.setCell ?_ ?_ _) | (with_reducible refine Below.alloc ?_ ?_ _) | (with_reducible refine below_drewN ?_ _) | (with_reducible refine Below.drew ?_) | (with_reducible exact Nat.le_refl _) | omega | (simp; done) | (simp; omega)))
          have HV : Hid (AlT w V (.cells #[.int .i64 0, .slice none 0 0] 25) lo (.slice va6 m vc6) cur ∧ Below lo W3 V ∧ V.heap[K2]? = some RO) := ⟨hQ.out.1.nextI hbV, hQ.out.2.trans (hbV.mono hQ.out.1.lo2), by rw [hV, hK2]; exact heap_alloc_new _ _⟩
          have kV := HV.out.2.2
          rw [hRO] at kV
          have p0 := cellOf kV 0 rfl
          have p1 := cellOf kV 1 rfl
          have p2 := cellOf kV 2 rfl
          have p3 := cellOf kV 3 rfl
          have p4 := cellOf kV 4 rfl
          have pl := ltOf kV
          have hsr : ∃ (gs cs : Nat), V.cell? ⟨KQ, S, none⟩ = some (.slice (some ⟨gs, 0, none⟩) n cs) ∧ n ≤ cs ∧ gs < V.heap.size ∧ ∀ p, p < n → V.cell? ⟨gs, 0 + p, none⟩ = some (.int .i64 (seF ce s S p)) := by
            have hks := (HV.out.2.1.block KQ (by have := HLO.out.2; omega)).trans HW3.out.2.2.1
            have one : ∀ (f : Nat → Int) (a9 : Option Addr) (c9 : Nat), IS W3 0 (.slice a9 n c9) (rgL f n) → ∃ (gs : Nat), a9 = some ⟨gs, 0, none⟩ ∧ n ≤ c9 ∧ gs < V.heap.size ∧ ∀ p, p < n → V.cell? ⟨gs, 0 + p, none⟩ = some (.int .i64 (f p)) := by
              intro f a9 c9 h9
              obtain ⟨gs, cap, he, _, hgl, hcells⟩ := h9.pos (by rw [rgL_len]; omega)
              have hcap := sr_cap h9 (by rw [rgL_len]; omega)
              injection he with e1 e2 e3
              refine ⟨gs, e1, by rw [rgL_len] at hcap; exact hcap, Nat.lt_of_lt_of_le hgl (by have := HV.out.2.1.size; omega), fun p hp => ?_⟩
              have h10 := hcells p (by rw [rgL_len]; exact hp)
              rw [rgL_get f hp] at h10
              have h11 := HV.out.2.1.block gs (by rw [HLO.out.1]; exact hgl)
              simp only [World.cell?, Nat.zero_add] at h10 ⊢
              rw [h11]; exact h10
            rcases (by omega : S = 0 ∨ S = 1 ∨ S = 2) with rfl | rfl | rfl
            · obtain ⟨gs, rfl, h2, h3, h4⟩ := one (se0 ce s) a0 k0 HW3.out.2.2.2.2.2.2.1
              exact ⟨gs, k0, cellOf hks 0 rfl, h2, h3, h4⟩
            · obtain ⟨gs, rfl, h2, h3, h4⟩ := one (se1 s) a1 k1 HW3.out.2.2.2.2.2.2.2.1
              exact ⟨gs, k1, cellOf hks 1 rfl, h2, h3, h4⟩
            · obtain ⟨gs, rfl, h2, h3, h4⟩ := one (se2 s) a2 k2 HW3.out.2.2.2.2.2.2.2.2
              exact ⟨gs, k2, cellOf hks 2 rfl, h2, h3, h4⟩
          obtain ⟨gs, cs, cS, hcs, hgs, hfs⟩ := hsr
          have HFS : Hid (∀ p, p < n → V.cell? ⟨gs, 0 + p, none⟩ = some (.int .i64 (seF ce s S p))) := hfs
          have hKl : KQ < V.heap.size := by have h1 := HLO.out.2; have h2 := HV.out.1.lo2; omega
          obtain ⟨k9, hk9⟩ : ∃ k9 : Nat, k9 = k + 1 := ⟨_, rfl⟩
          have hk9b : 0 < k9 ∧ k9 ≤ n ∧ k9 ≤ cs := by omega
          have HH : Hid (∀ (W : World) (vb : Value), Below V.heap.size V W → RdI W vb (bsL sg) → Calls Tryd.prog 20 #[.agg #[.int .i64 R, .int .i64 (S : Nat), .int .i64 (K : Nat), .int .i64 (P : Nat), .int .i64 (M : Nat)], .slice (some ⟨gs, 0, none⟩) k9 cs, vb] W fun e w' => e = .returned (.bool u) ∧ Below W.heap.size W w') := fun W vb hW hvb => by
            have h1 := impl_ho R S sg K P M (seF ce s S) hK3 hP13 hM13 hsg (n := k9) (c := cs) (g := gs) (o := 0) (by omega) (by omega) (Nat.lt_of_lt_of_le hgs hW.size) (fun p hp => by
              have h2 := HFS.out p (by omega)
              have h3 := hW.block gs hgs
              simp only [World.cell?] at h2 ⊢
              rw [h3]; exact h2) hvb
            rw [show k9 - 1 = k by omega, ← HU.out] at h1
            exact h1
          have e1 : IntKind.i64.wrap ((k : Int) + 1) = (k9 : Int) := by rw [IntKind.wrap_i64]; omega
          have e2 : IntKind.i64.wrap (2 * sg) = 2 * sg := by rw [IntKind.wrap_i64]; omega
          have e3 : IntKind.i64.wrap (3 * sg) = 3 * sg := by rw [IntKind.wrap_i64]; omega
          have s0 : (0 : Int) ≤ (S : Int) := by omega
          have s1 : (S : Int) < 3 := by omega
          have s2 : (k9 : Int) ≤ (cs : Int) := by omega
          have s3 : (0 : Int) ≤ (k9 : Int) := by omega
          have s4 : k9 ≤ cs := by omega
          have HK9 : Hid (k9 = k + 1 ∧ K2 = wr.heap.size) := ⟨hk9, hK2⟩
          have HRO : Hid (RO = Obj.cells #[.int .i64 R, .int .i64 (S : Nat), .int .i64 (K : Nat), .int .i64 (P : Nat), .int .i64 (M : Nat)] 43) := hRO
          clear hQ hm hcur hS hK hP hM hR hu hbV kV hfs hk9
          go_upto_region 14 with fail
          try rw [← hRO]
          rw [← hV, ← hK2]
          clear hV hK2 qI hRO
          refine wp_region_float (by kernel_rfl) (fun hS => ?_)
          refine fl_take (i := 0) (d := 36) (v := .agg #[.int .i64 R, .int .i64 (S : Nat), .int .i64 (K : Nat), .int .i64 (P : Nat), .int .i64 (M : Nat)]) rfl rfl rfl (by kernel_rfl) (by kernel_rfl) (by kernel_rfl) hS ?_ ?_
          · intro w' hk; go_simp
          simp only [Act.put, List.setIfInBounds_toArray, List.set_cons_zero, List.set_cons_succ]
          refine fl_take (i := 1) (d := 37) (v := .pointer (some ⟨K2, 1, none⟩)) rfl rfl rfl (by kernel_rfl) (by kernel_rfl) (by kernel_rfl) hS ?_ ?_
          · intro w' hk; go_simp
          simp only [Act.put, List.setIfInBounds_toArray, List.set_cons_zero, List.set_cons_succ]
          refine fl_take (i := 2) (d := 38) (v := .int .i64 (S : Nat)) rfl rfl rfl (by kernel_rfl) (by kernel_rfl) (by kernel_rfl) hS ?_ ?_
          · intro w' hk; go_simp
          simp only [Act.put, List.setIfInBounds_toArray, List.set_cons_zero, List.set_cons_succ]
          refine fl_take (i := 3) (d := 39) (v := .pointer (some ⟨KQ, S, none⟩)) rfl rfl rfl (by kernel_rfl) (by kernel_rfl) (by kernel_rfl) hS ?_ ?_
          · intro w' hk; go_simp
          simp only [Act.put, List.setIfInBounds_toArray, List.set_cons_zero, List.set_cons_succ]
          refine fl_take (i := 4) (d := 40) (v := .slice (some ⟨gs, 0, none⟩) n cs) rfl rfl rfl (by kernel_rfl) (by kernel_rfl) (by kernel_rfl) hS ?_ ?_
          · intro w' hk; go_simp
          simp only [Act.put, List.setIfInBounds_toArray, List.set_cons_zero, List.set_cons_succ]
          refine fl_take (i := 5) (d := 41) (v := .int .i64 (k : Nat)) rfl rfl rfl (by kernel_rfl) (by kernel_rfl) (by kernel_rfl) hS ?_ ?_
          · intro w' hk; go_simp
          simp only [Act.put, List.setIfInBounds_toArray, List.set_cons_zero, List.set_cons_succ]
          refine fl_take (i := 6) (d := 42) (v := .int .i64 (k9 : Nat)) rfl rfl rfl (by kernel_rfl) (by kernel_rfl) (by kernel_rfl) hS ?_ ?_
          · intro w' hk; go_simp
          simp only [Act.put, List.setIfInBounds_toArray, List.set_cons_zero, List.set_cons_succ]
          refine fl_take (i := 7) (d := 43) (v := .slice (some ⟨gs, 0, none⟩) k9 cs) rfl rfl rfl (by kernel_rfl) (by kernel_rfl) (by kernel_rfl) hS ?_ ?_
          · intro w' hk; go_simp
          simp only [Act.put, List.setIfInBounds_toArray, List.set_cons_zero, List.set_cons_succ]
          refine fl_take (i := 8) (d := 44) (v := .int .i64 sg) rfl rfl rfl (by kernel_rfl) (by kernel_rfl) (by kernel_rfl) hS ?_ ?_
          · intro w' hk; go_simp
          simp only [Act.put, List.setIfInBounds_toArray, List.set_cons_zero, List.set_cons_succ]
          refine fl_take (i := 9) (d := 45) (v := .int .i64 sg) rfl rfl rfl (by kernel_rfl) (by kernel_rfl) (by kernel_rfl) hS ?_ ?_
          · intro w' hk; go_simp
          simp only [Act.put, List.setIfInBounds_toArray, List.set_cons_zero, List.set_cons_succ]
          refine fl_take (i := 10) (d := 46) (v := .int .i64 (2 * sg)) rfl rfl rfl (by kernel_rfl) (by kernel_rfl) (by kernel_rfl) hS ?_ ?_
          · intro w' hk; go_simp
          simp only [Act.put, List.setIfInBounds_toArray, List.set_cons_zero, List.set_cons_succ]
          refine fl_take (i := 11) (d := 47) (v := .int .i64 sg) rfl rfl rfl (by kernel_rfl) (by kernel_rfl) (by kernel_rfl) hS ?_ ?_
          · intro w' hk; go_simp
          simp only [Act.put, List.setIfInBounds_toArray, List.set_cons_zero, List.set_cons_succ]
          refine fl_take (i := 12) (d := 48) (v := .int .i64 (3 * sg)) rfl rfl rfl (by kernel_rfl) (by kernel_rfl) (by kernel_rfl) hS ?_ ?_
          · intro w' hk; go_simp
          simp only [Act.put, List.setIfInBounds_toArray, List.set_cons_zero, List.set_cons_succ]
          refine wpAnyH_all (rs := [13]) (by kernel_rfl) (by simp) ?_
          intro i hi9
          obtain rfl : i = 13 := by simpa using hi9
          obtain ⟨y4, hy4⟩ : ∃ y, y = V.drew := ⟨_, rfl⟩
          refine op_val (d := 49) (v := .slice (some ⟨y4.heap.size, 0, none⟩) 4 4) (w' := y4.alloc (.cells #[.int .i64 0, .int .i64 sg, .int .i64 (2 * sg), .int .i64 (3 * sg)] 2)) rfl rfl rfl (by rw [hy4]; go_simp; try rfl) ?_
          simp only [Act.put, List.setIfInBounds_toArray, List.set_cons_zero, List.set_cons_succ]
          have hk8 := heap_alloc_new y4 (.cells #[.int .i64 0, .int .i64 sg, .int .i64 (2 * sg), .int .i64 (3 * sg)] 2)
          have hK8 : KS V (y4.alloc (.cells #[.int .i64 0, .int .i64 sg, .int .i64 (2 * sg), .int .i64 (3 * sg)] 2)) := by rw [hy4]; exact hS.alloc _
          have hIS : IS (y4.alloc (.cells #[.int .i64 0, .int .i64 sg, .int .i64 (2 * sg), .int .i64 (3 * sg)] 2)) 0 (.slice (some ⟨y4.heap.size, 0, none⟩) 4 4) (bsL sg) := World.ownsRow_lit y4 #[.int .i64 0, .int .i64 sg, .int .i64 (2 * sg), .int .i64 (3 * sg)] 4 (Nat.zero_le _) (by decide) (by simp)
          obtain ⟨gb, hgb⟩ : ∃ g, g = y4.heap.size := ⟨_, rfl⟩
          rw [← hgb] at hIS ⊢
          clear hk8
          generalize y4.alloc (.cells #[.int .i64 0, .int .i64 sg, .int .i64 (2 * sg), .int .i64 (3 * sg)] 2) = y5 at hK8 hIS ⊢
          refine ⟨hK8, ?_⟩
          have HO9 : Hid (Calls Tryd.prog 20 #[.agg #[.int .i64 R, .int .i64 (S : Nat), .int .i64 (K : Nat), .int .i64 (P : Nat), .int .i64 (M : Nat)], .slice (some ⟨gs, 0, none⟩) k9 cs, .slice (some ⟨gb, 0, none⟩) 4 4] y5 fun e w' => e = .returned (.bool u) ∧ Below y5.heap.size y5 w') := HH.out y5 _ hK8.2 (IS.rg hIS)
          clear hIS hgb hy4
          refine wpAnyH_all (rs := [14]) (by kernel_rfl) (by simp) ?_
          intro i hi9
          obtain rfl : i = 14 := by simpa using hi9
          refine op_call (d := 50) rfl rfl rfl (by go_simp) (HO9.out.mono ?_)
          rintro e y6 ⟨rfl, hb6⟩
          have hK9 : KS V y6 := hK8.call hb6
          refine ⟨_, rfl, hK9, ?_⟩
          simp only [Act.put, List.setIfInBounds_toArray, List.set_cons_zero, List.set_cons_succ]
          refine wpAnyH_done (by kernel_rfl) (NoPanic.normal ?_) _
          have HY : Hid (AlT w y6 (.cells #[.int .i64 0, .slice none 0 0] 25) lo (.slice va6 m vc6) cur ∧ Below lo W3 y6 ∧ y6.heap[K2]? = some RO) := ⟨HV.out.1.nextI hK9.2, HV.out.2.1.trans (hK9.2.mono HV.out.1.lo2), (hK9.2.block K2 pl).trans HV.out.2.2⟩
          clear HO9 hK9 hK8 hb6 hS HV p0 p1 p2 p3 p4 pl HH HFS cS hgs hKl HU
          have kY := HY.out.2.2
          rw [HRO.out] at kY
          have p0 := cellOf kY 0 rfl
          have pl := ltOf kY
          clear kY
          cases u
          · have HF : Hid (AlT w y6 (.cells #[.int .i64 0, .slice none 0 0] 25) lo (.slice va6 m vc6) (alA (alH ce sg s) k ++ alP (alH ce sg s) k (j + 1)) ∧ Below lo W3 y6) := by
              refine ⟨?_, HY.out.2.1⟩
              rw [HNX.out.1]
              simp only [Bool.false_eq_true, if_false, List.append_nil]
              exact HY.out.1
            clear HY HNX HRO HK9
            go_wp2
            go_roundw
            case rel => exact ⟨j + 1, _, by omega, rfl, by go_num, HF.out⟩
            case measure => simp [intOf]; omega
          · have HOW : Hid (y6.ownsRow lo 38 2 (.slice va6 m vc6) m (cur.flatMap alC)) := HY.out.1.own HNX.out.2
            have hws := HY.out.1.lo2
            go_wp2_with (at_builtin; refine wpList_append_own _ rfl _ _ 23 rfl lo 38 i0 (.agg #[.int .i64 0, .int .i64 0]) 2 16 Tryd.underlying23 hi hz0 hz1 hz2 rfl (by decide) _ _ _ rfl (World.ownsRow.alloc HOW.out _) ⟨y6.heap.size, 0, none⟩ 1 1 [.int .i64 (k : Int), .int .i64 R] rfl rfl (World.news_of_block (cs := #[.int .i64 (k : Int), .int .i64 R]) (t := 38) (fr := (0, 0)) (heap_alloc_new y6 _)) (by simp [Value.oneCell']) (by unfold maxLen; omega) (by omega) (by simp; omega) ?_; intro v6 w6 hown6 hgrow6 _)
            have HF : Hid (AlT w w6 (.cells #[.int .i64 0, .slice none 0 0] 25) lo v6 (alA (alH ce sg s) k ++ alP (alH ce sg s) k (j + 1)) ∧ Below lo W3 w6) := by
              refine ⟨?_, (HY.out.2.1.alloc hws _).grown hgrow6 (by simp; omega) (fun q hq => HY.out.1.lt q hq)⟩
              rw [HNX.out.1]
              simp only [if_true]
              exact (HY.out.1.push HNX.out.2 hown6 hgrow6).1
            clear hown6 hgrow6 HY HNX HOW HRO HK9
            go_wp2
            go_roundw
            case rel => exact ⟨j + 1, _, by omega, rfl, by go_num, HF.out⟩
            case measure => simp [intOf]; omega
        · have b2 : ¬ (j : Int) < 6 := by omega
          have HF : Hid (AlT w wr (.cells #[.int .i64 0, .slice none 0 0] 25) lo (.slice va6 m vc6) (alA (alH ce sg s) (k + 1)) ∧ Below lo W3 wr) := by
            have h1 := hQ.out
            rw [hcur, show j = 6 by omega] at h1
            exact h1
          clear hQ hcur hm
          go_wp2
          go_roundw
          case rel => exact ⟨k + 1, _, by omega, rfl, by go_num, HF.out⟩
          case measure => simp [intOf]; omega
    · have HE : Hid (C = 0 ∧ LL = alA (alH ce sg s) k) := ⟨HZ.out.1, by rw [HZ.out.2, show k = n by omega]⟩
      obtain ⟨q0, q1, qf0, qf1, ql⟩ := ew_two hQ.out.1.bx
      have HQ : Hid (AlT w wr (.cells #[.int .i64 0, .slice none 0 0] 25) lo v (alA (alH ce sg s) k)) := hQ.out.1
      obtain ⟨va6, vc6, hvf⟩ := HQ.out.form
      subst hvf
      clear hQ
      go_wp2
      try simp only [Exit.inBlock, Exit.then]
      refine bodyPost_ret (by simp [results, Tryd.results6, go_sem, q0, q1, ql]; try rfl) rfl ⟨_, by rw [HE.out.1], by rw [HE.out.2]; exact HQ.out.done, ?_⟩
      have hb := HQ.out.bl
      (repeat' (first | (with_reducible exact Below.refl _ _) | (with_reducible assumption) | (with_reducible refine Below.setCell ?_ ?_ _) | (with_reducible refine Below.alloc ?_ ?_ _) | (with_reducible refine below_drewN ?_ _) | (with_reducible refine Below.drew ?_) | (with_reducible exact Nat.le_refl _) | omega | (simp; done) | (simp; omega)))

end Go.Proofs.YtcdpaokmjoklcaaDoor
