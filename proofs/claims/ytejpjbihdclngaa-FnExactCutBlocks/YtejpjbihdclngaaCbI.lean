/- Proved here: CutBlocks of the program: mgF, cbL. -/
import Derived.Test.YtejpjbihdclngaaCbB
import Derived.Test.YtejpjbihdclngaaYwO
import Derived.Test.YtejpjbihdclngaaMsI
import Derived.Maps.AppendAt
namespace Go.Proofs.Ytejpjbihdclngaa
open Go.RowKit Go.Maps
set_option linter.unusedVariables false
set_option linter.unusedSimpArgs false

/-- Where the cutting stands: the answer's place, the block under way, the rows. -/
structure CB (w wr : World) (K : Nat) (ko : Obj) (v : Value) (ls : List (List UInt8)) (vs : List Value) : Prop where
  bl : Below w.heap.size w wr
  b1 : wr.heap[w.heap.size + 1]? = some (.cells #[.int .i64 0, .slice none 0 0] 42)
  bk : wr.heap[K]? = some ko
  kk : w.heap.size + 2 ≤ K
  ro : RoY wr (K + 1) v ls vs
theorem CB.next {w wr wr' : World} {K : Nat} {ko : Obj} {v : Value} {ls : List (List UInt8)} {vs : List Value} (h : CB w wr K ko v ls vs) (hb : Below wr.heap.size wr wr') : CB w wr' K ko v ls vs :=
  ⟨h.bl.trans (hb.mono h.bl.size), (hb.block _ (ltOf h.b1)).trans h.b1, (hb.block _ (ltOf h.bk)).trans h.bk, h.kk, h.ro.below hb⟩
theorem CB.set {w wr : World} {K : Nat} {cs : Array Value} {T : TypeId} {v : Value} {ls : List (List UInt8)} {vs : List Value} (h : CB w wr K (.cells cs T) v ls vs) (i : Nat) (u : Value) : CB w (wr.setCell ⟨K, i, none⟩ u) K (.cells (cs.setIfInBounds i u) T) v ls vs := by
  have hk := h.kk
  refine ⟨h.bl.setCell (p := ⟨K, i, none⟩) (by simp; omega) _, ?_, heap_setCell_same _ _ i _ _ _ h.bk, hk, h.ro.kept (fun q hq => ?_) (fun j hj q hq => ?_)⟩
  · rw [heap_setCell_other _ _ _ _ (by simp; omega)]; exact h.b1
  · exact heap_setCell_other _ _ _ _ (by have := (rowBlk h.ro.o hq).1; simp; omega)
  · exact heap_setCell_other _ _ _ _ (by have := (rowBlk (h.ro.bx j hj) hq).1; simp; omega)
theorem CB.push {w wr W w1 : World} {K m : Nat} {ko ob : Obj} {v v' u : Value} {ls : List (List UInt8)} {vs : List Value} {l : List UInt8} (h : CB w wr K ko v ls vs) (hb : Below wr.heap.size wr W) (hu : OBy W wr.heap.size u l) (hm : m = ls.length)
    (ho : w1.ownsRow (K + 1) 22 1 v' (m + 1) (vs ++ [u])) (hg : (W.alloc ob).grownBy w1 v.ownBlock) : CB w w1 K ko v' (ls ++ [l]) (vs ++ [u]) := by
  have hk := h.kk
  have hs := ltOf h.bk
  have hW := h.next hb
  have hsz := hb.size
  have hlt : ∀ q, v.ownBlock = some q → K + 1 ≤ q := fun q hq => (rowBlk h.ro.o hq).1
  have hbl : ∀ j, j ≤ K → w1.heap[j]? = W.heap[j]? := fun j hj => by
    rw [hg.block _ (by simp; omega) (fun e => by have := hlt _ e.symm; omega), Below.heap_alloc _ _ _ (by omega)]
  refine ⟨(hW.bl.alloc hW.bl.size _).grown hg (by have := hW.bl.size; simp; omega) (fun q hq => by have := hlt q hq; omega), (hbl _ (by omega)).trans hW.b1, (hbl _ (Nat.le_refl _)).trans hW.bk, hk, h.ro.push hb (by omega) hu (by rw [← hm]; exact ho) hg⟩
theorem two_C {w : World} {k : Nat} {a b : Value} {T : TypeId} (h : w.heap[k]? = some (.cells #[a, b] T)) :
    w.cell? ⟨k, 0, none⟩ = some a ∧ w.cell? ⟨k, 1, none⟩ = some b ∧ w.frozen? ⟨k, 0, none⟩ = false ∧ w.frozen? ⟨k, 1, none⟩ = false ∧ k < w.heap.size := ⟨cellOf h 0 rfl, cellOf h 1 rfl, frozOf h 0, frozOf h 1, ltOf h⟩
theorem four_C {w : World} {k : Nat} {a b c d : Value} {T : TypeId} (h : w.heap[k]? = some (.cells #[a, b, c, d] T)) :
    w.cell? ⟨k, 0, none⟩ = some a ∧ w.cell? ⟨k, 1, none⟩ = some b ∧ w.cell? ⟨k, 2, none⟩ = some c ∧ w.cell? ⟨k, 3, none⟩ = some d ∧ k < w.heap.size := ⟨cellOf h 0 rfl, cellOf h 1 rfl, cellOf h 2 rfl, cellOf h 3 rfl, ltOf h⟩
/-- The rest behind so many pieces. -/
def RestB (w : World) (g o n c : Nat) (s : List UInt8) (k : Nat) : Prop := RBy w (.slice (some ⟨g, o, none⟩) n c) (s.drop (32 * k)) ∧ n = s.length - 32 * k ∧ n ≤ c
theorem RestB.cut {w : World} {g o n c : Nat} {s : List UInt8} {k : Nat} (h : RestB w g o n c s k) {p : Nat} (hp : p = min n 32) (c' : Nat) : RBy w (.slice (some ⟨g, o, none⟩) p c') (piB s k) := by
  have h1 := RBy.cut h.1 0 p c' (Nat.zero_le _) (by omega)
  have e : ((s.drop (32 * k)).take p).drop 0 = piB s k := by
    rw [List.drop_zero, ← piB_take]
    have h2 := h.2.1
    rcases Nat.le_total 32 n with h3 | h3
    · rw [hp, Nat.min_eq_right h3]
    · rw [hp, Nat.min_eq_left h3, List.take_of_length_le (by rw [List.length_drop]; omega), List.take_of_length_le (by rw [List.length_drop]; omega)]
  rw [e] at h1
  exact h1
set_option maxRecDepth 10000 in
set_option maxHeartbeats 3200000 in
theorem impl_cb (A B C : Int) {w : World} {g o c : Nat} {s : List UInt8} (hn : s.length ≤ 1048576) (h : RBy w (.slice (some ⟨g, o, none⟩) s.length c) s) (hc : s.length ≤ c) :
    Calls Try.prog 20 #[.agg #[.int .i64 A, .int .i64 B, .int .i64 C, .slice (some ⟨g, o, none⟩) s.length c]] w fun e w' => ∃ v vs, e = .returned (.agg #[.int .i64 (mgF A B C s.length), v]) ∧ RoY w' w.heap.size v (cbL A B C s) vs ∧ Below w.heap.size w w' := by
  obtain ⟨i0, hi, hz0, hz1, hz2⟩ := info_parts info_rowY
  obtain ⟨n, hnn⟩ : ∃ n, n = s.length := ⟨_, rfl⟩
  rw [← hnn] at h hn hc ⊢
  obtain ⟨Cd, hCd⟩ : ∃ X, X = mgF A B C n := ⟨_, rfl⟩
  obtain ⟨LL, hLL⟩ : ∃ X, X = cbL A B C s := ⟨_, rfl⟩
  rw [← hCd, ← hLL]
  have HMG : Hid (∀ W, Below w.heap.size w W → Calls Try.prog 17 #[.agg #[.int .i64 A, .int .i64 B, .int .i64 C, .slice (some ⟨g, o, none⟩) n c]] W fun e w' => e = .returned (.int .i64 Cd) ∧ Below W.heap.size W w') := fun W hW => by
    have h9 := impl_mg A B C (s := s) (h.below hW); rw [← hnn, ← hCd] at h9; exact h9
  have H : Hid (RBy w (.slice (some ⟨g, o, none⟩) n c) s ∧ n = s.length ∧ Cd = mgF A B C n ∧ LL = cbL A B C s) := ⟨h, hnn, hCd, hLL⟩
  clear h hnn hCd hLL
  obtain ⟨W0, hW0⟩ : ∃ W, W = (w.alloc (.cells #[.int .i64 A, .int .i64 B, .int .i64 C, .slice (some ⟨g, o, none⟩) n c] 36)).alloc (.cells #[.int .i64 0, .slice none 0 0] 42) := ⟨_, rfl⟩
  have HW0 : Hid (Below w.heap.size w W0 ∧ W0.heap[w.heap.size]? = some (.cells #[.int .i64 A, .int .i64 B, .int .i64 C, .slice (some ⟨g, o, none⟩) n c] 36) ∧ W0.heap[w.heap.size + 1]? = some (.cells #[.int .i64 0, .slice none 0 0] 42) ∧ W0.heap.size = w.heap.size + 2) := by
    rw [hW0]
    refine ⟨by (repeat' (first | (with_reducible exact Below.refl _ _) | (with_reducible assumption) | (with_reducible refine Below.setCell ?_ ?_ _) | (with_reducible refine Below.alloc ?_ ?_ _) | (with_reducible refine below_drewN ?_ _) | (with_reducible refine Below.drew ?_) | (with_reducible exact Nat.le_refl _) | omega | (simp; done) | (simp; omega))), (Below.heap_alloc _ _ _ (by simp)).trans (heap_alloc_new w _), ?_, by simp⟩
    have := heap_alloc_new (w.alloc (.cells #[.int .i64 A, .int .i64 B, .int .i64 C, .slice (some ⟨g, o, none⟩) n c] 36)) (.cells #[.int .i64 0, .slice none 0 0] 42)
    simpa using this
  go_enter Try.func20, Try.ntmps20
  go_upto_region 1 with fail
  rw [← hW0]
  clear hW0
  obtain ⟨m0, m1, m2, m3, ml⟩ := four_C HW0.out.2.1
  go_wp2_with (fail)
  refine (HMG.out W0 HW0.out.1).mono ?_
  rintro e w1 ⟨rfl, hb⟩
  have HW1 : Hid (Below w.heap.size w w1 ∧ w1.heap[w.heap.size]? = some (.cells #[.int .i64 A, .int .i64 B, .int .i64 C, .slice (some ⟨g, o, none⟩) n c] 36) ∧ w1.heap[w.heap.size + 1]? = some (.cells #[.int .i64 0, .slice none 0 0] 42) ∧ w.heap.size + 2 ≤ w1.heap.size) :=
    ⟨HW0.out.1.trans (hb.mono HW0.out.1.size), (hb.block _ (ltOf HW0.out.2.1)).trans HW0.out.2.1, (hb.block _ (ltOf HW0.out.2.2.1)).trans HW0.out.2.2.1, by have := hb.size; have := HW0.out.2.2.2; omega⟩
  clear hb HW0 HMG m0 m1 m2 m3 ml
  by_cases hC0 : Cd = 0
  case neg =>
    have HZ : Hid (LL = []) := by unfold Hid; rw [H.out.2.2.2, cbL, ← H.out.2.1, ← H.out.2.2.1, if_neg hC0]
    have hA : (Cd != 0) = true := by simpa using hC0
    obtain ⟨p0, p1, pf0, pf1, pl⟩ := two_C HW1.out.2.2.1
    clear H
    go_wp2
    try simp only [Exit.inBlock, Exit.then]
    refine bodyPost_ret (by simp [results, Try.results20, go_sem, p0, p1, pl]; try rfl) rfl ⟨.slice none 0 0, [], rfl, by rw [HZ.out]; exact RoY.nil _ _, ?_⟩
    have hb := HW1.out.1
    (repeat' (first | (with_reducible exact Below.refl _ _) | (with_reducible assumption) | (with_reducible refine Below.setCell ?_ ?_ _) | (with_reducible refine Below.alloc ?_ ?_ _) | (with_reducible refine below_drewN ?_ _) | (with_reducible refine Below.drew ?_) | (with_reducible exact Nat.le_refl _) | omega | (simp; done) | (simp; omega)))
  have hA : (Cd != 0) = false := by rw [hC0]; rfl
  have hgd := mgF_good (H.out.2.2.1.symm.trans hC0)
  have hn2 : n ≤ 2000 := hgd.2.2.2.2.2.2
  have HLL : Hid (LL = cbR A B C s (cbN s)) := by unfold Hid; rw [H.out.2.2.2, cbL, ← H.out.2.1, ← H.out.2.2.1, if_pos hC0]
  have HC0 : Hid (Cd = 0) := hC0
  clear hC0 hgd
  obtain ⟨m0, m1, m2, m3, ml⟩ := four_C HW1.out.2.1
  obtain ⟨K, hK⟩ : ∃ K, K = w1.heap.size := ⟨_, rfl⟩
  obtain ⟨W2, hW2⟩ : ∃ W, W = w1.alloc (.cells #[.int .i64 A, .int .i64 B, .int .i64 0, .bool false, .int .i64 C, .slice none 0 0] 48) := ⟨_, rfl⟩
  have HS : Hid (CB w W2 K (.cells #[.int .i64 A, .int .i64 B, .int .i64 0, .bool false, .int .i64 C, .slice none 0 0] 48) (.slice none 0 0) (cbR A B C s 0) []) := by
    have hs := HW1.out.2.2.2
    rw [hW2, hK]
    exact ⟨HW1.out.1.alloc HW1.out.1.size _, (Below.heap_alloc _ _ _ (by omega)).trans HW1.out.2.2.1, heap_alloc_new _ _, hs, RoY.nil _ _⟩
  have HM2 : Hid (W2.heap[w.heap.size]? = some (.cells #[.int .i64 A, .int .i64 B, .int .i64 C, .slice (some ⟨g, o, none⟩) n c] 36)) := by
    unfold Hid; have hs := HW1.out.2.2.2; rw [hW2]; exact (Below.heap_alloc _ _ _ (by omega)).trans HW1.out.2.1
  go_upto_region 6 with fail
  rw [← hW2, ← hK]
  clear hW2 hK HW1 m0 m1 m2 m3 ml
  obtain ⟨m0, m1, m2, m3, ml⟩ := four_C HM2.out
  have HR0 : Hid (RestB w g o n c s 0) := ⟨by rw [Nat.mul_zero, List.drop_zero]; exact H.out.1, by rw [Nat.mul_zero, Nat.sub_zero]; exact H.out.2.1, hc⟩
  go_wp2
  clear m0 m1 m2 m3 ml
  go_loopw [4, 6] (fun vo re wr => ∃ (k : Nat) (l : Bool) (v dv : Value) (vs : List Value) (rg ro rn rc : Nat), v = vo ∧ re = .slice (some ⟨rg, ro, none⟩) rn rc ∧ l = decide (1 ≤ k ∧ n ≤ 32 * k) ∧ (k = 0 ∨ k = 1 ∨ 32 * (k - 1) < n) ∧ k ≤ 64 ∧ Hid (RestB w rg ro rn rc s k ∧ CB w wr K (.cells #[.int .i64 A, .int .i64 B, .int .i64 (k : Int), .bool l, .int .i64 C, dv] 48) v (cbR A B C s k) vs)) (fun _ _ wr => 65 - (match wr.cell? ⟨K, 2, none⟩ with | some (.int _ x) => x.toNat | _ => 0))
  case atStart => exact ⟨0, false, .slice none 0 0, .slice none 0 0, [], g, o, n, c, rfl, rfl, by simp, Or.inl rfl, by omega, HR0.out, HS.out⟩
  case round =>
    clear HS HR0 HM2
    obtain ⟨k, l, v, dv, vs, rg, ro, rn, rc, rfl, rfl, hl, hk3, hk64, hQ⟩ := hrel
    obtain ⟨va, vc, hvf⟩ := hQ.out.2.ro.form
    rw [cbR_len] at hvf
    subst hvf
    cases l with
    | true =>
      have hl2 : 1 ≤ k ∧ n ≤ 32 * k := by simpa using hl.symm
      have HE : Hid (LL = cbR A B C s k) := by
        unfold Hid; rw [HLL.out, ← cb_end (s := s) (k := k) (by have := H.out.2.1; omega) (by have := H.out.2.1; omega)]
      have HQ : Hid (CB w wr K (.cells #[.int .i64 A, .int .i64 B, .int .i64 (k : Int), .bool true, .int .i64 C, dv] 48) (.slice va k vc) (cbR A B C s k) vs) := hQ.out.2
      clear hQ hl hl2 H HLL hk3
      obtain ⟨x0, x1, x2, x3, x4, x5, xf0, xf1, xf2, xf3, xf4, xf5, xl⟩ := six_C (HQ.out.bk)
      obtain ⟨p0, p1, pf0, pf1, pl⟩ := two_C HQ.out.b1
      go_wp2
      try simp only [Exit.inBlock, Exit.then]
      refine bodyPost_ret (by simp [results, Try.results20, go_sem, p0, p1, pl]; try rfl) rfl ⟨.slice va k vc, vs, by rw [HC0.out], ?_, ?_⟩
      · rw [HE.out]
        have hk := HQ.out.kk
        refine RoY.low (B := K + 1) (HQ.out.ro.kept (fun q hq => ?_) (fun j hj q hq => ?_)) (by omega)
        · have := (rowBlk HQ.out.ro.o hq).1
          rw [heap_setCell_other _ _ _ _ (by simp; omega), heap_setCell_other _ _ _ _ (by simp; omega)]
        · have := (rowBlk (HQ.out.ro.bx j hj) hq).1
          rw [heap_setCell_other _ _ _ _ (by simp; omega), heap_setCell_other _ _ _ _ (by simp; omega)]
      · have hb := HQ.out.bl
        (repeat' (first | (with_reducible exact Below.refl _ _) | (with_reducible assumption) | (with_reducible refine Below.setCell ?_ ?_ _) | (with_reducible refine Below.alloc ?_ ?_ _) | (with_reducible refine below_drewN ?_ _) | (with_reducible refine Below.drew ?_) | (with_reducible exact Nat.le_refl _) | omega | (simp; done) | (simp; omega)))
    | false =>
      have hl2 : ¬ (1 ≤ k ∧ n ≤ 32 * k) := by simpa using hl.symm
      have HRE : Hid (RestB w rg ro rn rc s k) := hQ.out.1
      have HQ : Hid (CB w wr K (.cells #[.int .i64 A, .int .i64 B, .int .i64 (k : Int), .bool false, .int .i64 C, dv] 48) (.slice va k vc) (cbR A B C s k) vs) := hQ.out.2
      have HRN : Hid (rn = n - 32 * k ∧ rn ≤ rc ∧ (1 ≤ k → 32 * k < n)) := ⟨by rw [H.out.2.1]; exact HRE.out.2.1, HRE.out.2.2, fun h => by omega⟩
      have hrc : rn ≤ rc := HRE.out.2.2
      have HNS : Hid (n = s.length) := H.out.2.1
      clear hQ hl hl2 H HLL
      obtain ⟨x0, x1, x2, x3, x4, x5, xf0, xf1, xf2, xf3, xf4, xf5, xl⟩ := six_C (HQ.out.bk)
      have hkw : IntKind.i64.wrap ((k : Int) + 1) = (k : Int) + 1 := by rw [IntKind.wrap_i64]; omega
      by_cases hla : rn ≤ 32
      · have hm1 : ¬ (32 : Int) < (rn : Int) := by omega
        have hm2 : (rn : Int) ≤ 32 := by omega
        have HLS : Hid (lsB s k = true) := by unfold Hid; rw [lsB, ← HNS.out]; have := HRN.out.1; exact decide_eq_true (by omega)
        have HNK : Hid (n ≤ 32 * k + 32 ∧ (k = 0 ∨ 32 * k < n)) := by unfold Hid; have := HRN.out; omega
        by_cases hrp : rc = rn
        · have hrp' : rn = rc := hrp.symm
          clear hrp
          subst hrp'
          have HB1 : Hid (∀ W, Below w.heap.size w W → Calls Try.prog 51 #[.agg #[.int .i64 A, .int .i64 B, .int .i64 ((k : Int) + 1), .bool true, .int .i64 C, .slice (some ⟨rg, ro, none⟩) rn rn]] W fun e w' => ∃ v', e = .returned v' ∧ OBy w' W.heap.size v' (cbB A B C s k) ∧ Below W.heap.size W w') := fun W hW => by
            have h1 := RG.below (HRE.out.cut (p := rn) (by omega) rn) hW
            have h2 := impl_bb A B ((k : Int) + 1) true C (piB_len s k) h1 (fun m c e => by simp at e)
            unfold cbB; rw [HLS.out]; exact h2
          go_wp2_with (fail)
          try simp only [show (max (32 : Int) 0).toNat = 32 from rfl, Nat.sub_self]
          obtain ⟨w5, hw5⟩ : ∃ W, W = ((wr.setCell ⟨K, 5, none⟩ (.slice (some ⟨rg, ro, none⟩) rn rn)).setCell ⟨K, 2, none⟩ (.int .i64 ((k : Int) + 1))).setCell ⟨K, 3, none⟩ (.bool true) := ⟨_, rfl⟩
          have HQ5 : Hid (CB w w5 K (.cells #[.int .i64 A, .int .i64 B, .int .i64 ((k : Int) + 1), .bool true, .int .i64 C, .slice (some ⟨rg, ro, none⟩) rn rn] 48) (.slice va k vc) (cbR A B C s k) vs) := by rw [hw5]; exact ((HQ.out.set 5 _).set 2 _).set 3 _
          rw [← hw5]
          have X2 : Hid (wr.cell? ⟨K, 2, none⟩ = some (.int .i64 (k : Int))) := x2
          clear hw5 HQ x0 x1 x2 x3 x4 x5 xf0 xf1 xf2 xf3 xf4 xf5 xl
          refine (HB1.out w5 HQ5.out.bl).mono ?_
          rintro e w6 ⟨v', rfl, ho, hb⟩
          obtain ⟨a', c', rfl⟩ := own_formC ho
          obtain ⟨bn, hbn⟩ : ∃ b, b = (cbB A B C s k).length := ⟨_, rfl⟩
          have HU : Hid (OBy w6 w5.heap.size (.slice a' bn c') (cbB A B C s k) ∧ Below w5.heap.size w5 w6) := ⟨by rw [hbn]; exact ho, hb⟩
          rw [← hbn]
          clear hbn ho hb
          have HOW : Hid (w6.ownsRow (K + 1) 22 1 (.slice va k vc) k vs) := by
            have h9 := (HQ5.out.next HU.out.2).ro.o
            rw [cbR_len] at h9; exact h9
          have hs6 : K + 1 ≤ w6.heap.size := by have := ltOf (HQ5.out.next HU.out.2).bk; omega
          go_wp2_with (at_builtin; go_loud (refine wpList_append_own _ rfl _ _ 40 rfl (K + 1) 22 i0 (.slice none 0 0) 1 24 Try.underlying40 hi hz0 hz1 hz2 rfl (by decide) (.slice va k vc) k vs rfl (World.ownsRow.alloc HOW.out _) ⟨w6.heap.size, 0, none⟩ 1 1 [.slice a' bn c'] rfl rfl (World.news_of_block (cs := #[.slice a' bn c']) (t := 22) (fr := (0, 0)) (heap_alloc_new w6 _)) (by simp [Value.oneCell']) (by unfold maxLen; omega) (by omega) (by simp; omega) ?_); intro v7 w7 hown7 hgrow7 _)
          have HM : Hid (CB w w7 K (.cells #[.int .i64 A, .int .i64 B, .int .i64 ((k : Int) + 1), .bool true, .int .i64 C, .slice (some ⟨rg, ro, none⟩) rn rn] 48) v7 (cbR A B C s (k + 1)) (vs ++ [.slice a' bn c'])) := HQ5.out.push HU.out.2 HU.out.1 (cbR_len A B C s k).symm hown7 hgrow7
          clear hown7 hgrow7 HQ5 HU HOW HB1
          have HRR : Hid (RestB w rg ro 0 0 s (k + 1)) := by
            have h9 := HRN.out
            have e : s.drop (32 * (k + 1)) = [] := List.drop_eq_nil_of_le (by have := HNS.out; have := HNK.out; omega)
            refine ⟨by rw [e]; exact RG.nil _ _ _ _ _, by have := HNS.out; have := HNK.out; omega, Nat.zero_le _⟩
          have y2 := cellOf HM.out.bk 2 rfl
          have x2 := X2.out
          go_roundw
          case rel => exact ⟨k + 1, true, v7, _, _, rg, ro, 0, 0, rfl, rfl, by have := HNK.out; simp; omega, by have := HNK.out; omega, by have := HNK.out; omega, HRR.out, HM.out⟩
          case measure => simp [y2, x2]; omega
        · have hrp2 : ¬ rc - rn = 0 := by omega
          have HB1 : Hid (∀ W, Below w.heap.size w W → Calls Try.prog 51 #[.agg #[.int .i64 A, .int .i64 B, .int .i64 ((k : Int) + 1), .bool true, .int .i64 C, .slice (some ⟨rg, ro, none⟩) rn rc]] W fun e w' => ∃ v', e = .returned v' ∧ OBy w' W.heap.size v' (cbB A B C s k) ∧ Below W.heap.size W w') := fun W hW => by
            have h1 := RG.below (HRE.out.cut (p := rn) (by omega) rc) hW
            have h2 := impl_bb A B ((k : Int) + 1) true C (piB_len s k) h1 (fun m c e => by simp at e)
            unfold cbB; rw [HLS.out]; exact h2
          go_wp2_with (fail)
          try simp only [show (max (32 : Int) 0).toNat = 32 from rfl, Nat.sub_self]
          obtain ⟨w5, hw5⟩ : ∃ W, W = ((wr.setCell ⟨K, 5, none⟩ (.slice (some ⟨rg, ro, none⟩) rn rc)).setCell ⟨K, 2, none⟩ (.int .i64 ((k : Int) + 1))).setCell ⟨K, 3, none⟩ (.bool true) := ⟨_, rfl⟩
          have HQ5 : Hid (CB w w5 K (.cells #[.int .i64 A, .int .i64 B, .int .i64 ((k : Int) + 1), .bool true, .int .i64 C, .slice (some ⟨rg, ro, none⟩) rn rc] 48) (.slice va k vc) (cbR A B C s k) vs) := by rw [hw5]; exact ((HQ.out.set 5 _).set 2 _).set 3 _
          rw [← hw5]
          have X2 : Hid (wr.cell? ⟨K, 2, none⟩ = some (.int .i64 (k : Int))) := x2
          clear hw5 HQ x0 x1 x2 x3 x4 x5 xf0 xf1 xf2 xf3 xf4 xf5 xl
          refine (HB1.out w5 HQ5.out.bl).mono ?_
          rintro e w6 ⟨v', rfl, ho, hb⟩
          obtain ⟨a', c', rfl⟩ := own_formC ho
          obtain ⟨bn, hbn⟩ : ∃ b, b = (cbB A B C s k).length := ⟨_, rfl⟩
          have HU : Hid (OBy w6 w5.heap.size (.slice a' bn c') (cbB A B C s k) ∧ Below w5.heap.size w5 w6) := ⟨by rw [hbn]; exact ho, hb⟩
          rw [← hbn]
          clear hbn ho hb
          have HOW : Hid (w6.ownsRow (K + 1) 22 1 (.slice va k vc) k vs) := by
            have h9 := (HQ5.out.next HU.out.2).ro.o
            rw [cbR_len] at h9; exact h9
          have hs6 : K + 1 ≤ w6.heap.size := by have := ltOf (HQ5.out.next HU.out.2).bk; omega
          go_wp2_with (at_builtin; go_loud (refine wpList_append_own _ rfl _ _ 40 rfl (K + 1) 22 i0 (.slice none 0 0) 1 24 Try.underlying40 hi hz0 hz1 hz2 rfl (by decide) (.slice va k vc) k vs rfl (World.ownsRow.alloc HOW.out _) ⟨w6.heap.size, 0, none⟩ 1 1 [.slice a' bn c'] rfl rfl (World.news_of_block (cs := #[.slice a' bn c']) (t := 22) (fr := (0, 0)) (heap_alloc_new w6 _)) (by simp [Value.oneCell']) (by unfold maxLen; omega) (by omega) (by simp; omega) ?_); intro v7 w7 hown7 hgrow7 _)
          have HM : Hid (CB w w7 K (.cells #[.int .i64 A, .int .i64 B, .int .i64 ((k : Int) + 1), .bool true, .int .i64 C, .slice (some ⟨rg, ro, none⟩) rn rc] 48) v7 (cbR A B C s (k + 1)) (vs ++ [.slice a' bn c'])) := HQ5.out.push HU.out.2 HU.out.1 (cbR_len A B C s k).symm hown7 hgrow7
          clear hown7 hgrow7 HQ5 HU HOW HB1
          have HRR : Hid (RestB w rg (ro + rn) 0 (rc - rn) s (k + 1)) := by
            have h9 := HRN.out
            have e : s.drop (32 * (k + 1)) = [] := List.drop_eq_nil_of_le (by have := HNS.out; have := HNK.out; omega)
            refine ⟨by rw [e]; exact RG.nil _ _ _ _ _, by have := HNS.out; have := HNK.out; omega, Nat.zero_le _⟩
          have y2 := cellOf HM.out.bk 2 rfl
          have x2 := X2.out
          go_roundw
          case rel => exact ⟨k + 1, true, v7, _, _, rg, (ro + rn), 0, (rc - rn), rfl, rfl, by have := HNK.out; simp; omega, by have := HNK.out; omega, by have := HNK.out; omega, HRR.out, HM.out⟩
          case measure => simp [y2, x2]; omega
      · have hm1 : (32 : Int) < (rn : Int) := by omega
        have HLS : Hid (lsB s k = false) := by unfold Hid; rw [lsB, ← HNS.out]; have := HRN.out.1; exact decide_eq_false (by omega)
        have HNK : Hid (32 * k + 32 < n) := by unfold Hid; have := HRN.out; omega
        have hq0 : (((rn - 32 : Nat) : Int) == 0) = false := by simp; omega
        have hrp : ¬ rc = 32 := by omega
        have hrp2 : ¬ rc - 32 = 0 := by omega
        have HB1 : Hid (∀ W, Below w.heap.size w W → Calls Try.prog 51 #[.agg #[.int .i64 A, .int .i64 B, .int .i64 ((k : Int) + 1), .bool false, .int .i64 C, .slice (some ⟨rg, ro, none⟩) 32 rc]] W fun e w' => ∃ v', e = .returned v' ∧ OBy w' W.heap.size v' (cbB A B C s k) ∧ Below W.heap.size W w') := fun W hW => by
          have h1 := RG.below (HRE.out.cut (p := 32) (by omega) rc) hW
          have h2 := impl_bb A B ((k : Int) + 1) false C (piB_len s k) h1 (fun m c e => by simp at e)
          unfold cbB; rw [HLS.out]; exact h2
        go_wp2_with (fail)
        try simp only [show (max (32 : Int) 0).toNat = 32 from rfl, Nat.sub_self]
        obtain ⟨w5, hw5⟩ : ∃ W, W = ((wr.setCell ⟨K, 5, none⟩ (.slice (some ⟨rg, ro, none⟩) 32 rc)).setCell ⟨K, 2, none⟩ (.int .i64 ((k : Int) + 1))).setCell ⟨K, 3, none⟩ (.bool false) := ⟨_, rfl⟩
        have HQ5 : Hid (CB w w5 K (.cells #[.int .i64 A, .int .i64 B, .int .i64 ((k : Int) + 1), .bool false, .int .i64 C, .slice (some ⟨rg, ro, none⟩) 32 rc] 48) (.slice va k vc) (cbR A B C s k) vs) := by rw [hw5]; exact ((HQ.out.set 5 _).set 2 _).set 3 _
        rw [← hw5]
        have X2 : Hid (wr.cell? ⟨K, 2, none⟩ = some (.int .i64 (k : Int))) := x2
        clear hw5 HQ x0 x1 x2 x3 x4 x5 xf0 xf1 xf2 xf3 xf4 xf5 xl
        refine (HB1.out w5 HQ5.out.bl).mono ?_
        rintro e w6 ⟨v', rfl, ho, hb⟩
        obtain ⟨a', c', rfl⟩ := own_formC ho
        obtain ⟨bn, hbn⟩ : ∃ b, b = (cbB A B C s k).length := ⟨_, rfl⟩
        have HU : Hid (OBy w6 w5.heap.size (.slice a' bn c') (cbB A B C s k) ∧ Below w5.heap.size w5 w6) := ⟨by rw [hbn]; exact ho, hb⟩
        rw [← hbn]
        clear hbn ho hb
        have HOW : Hid (w6.ownsRow (K + 1) 22 1 (.slice va k vc) k vs) := by
          have h9 := (HQ5.out.next HU.out.2).ro.o
          rw [cbR_len] at h9; exact h9
        have hs6 : K + 1 ≤ w6.heap.size := by have := ltOf (HQ5.out.next HU.out.2).bk; omega
        go_wp2_with (at_builtin; go_loud (refine wpList_append_own _ rfl _ _ 40 rfl (K + 1) 22 i0 (.slice none 0 0) 1 24 Try.underlying40 hi hz0 hz1 hz2 rfl (by decide) (.slice va k vc) k vs rfl (World.ownsRow.alloc HOW.out _) ⟨w6.heap.size, 0, none⟩ 1 1 [.slice a' bn c'] rfl rfl (World.news_of_block (cs := #[.slice a' bn c']) (t := 22) (fr := (0, 0)) (heap_alloc_new w6 _)) (by simp [Value.oneCell']) (by unfold maxLen; omega) (by omega) (by simp; omega) ?_); intro v7 w7 hown7 hgrow7 _)
        have HM : Hid (CB w w7 K (.cells #[.int .i64 A, .int .i64 B, .int .i64 ((k : Int) + 1), .bool false, .int .i64 C, .slice (some ⟨rg, ro, none⟩) 32 rc] 48) v7 (cbR A B C s (k + 1)) (vs ++ [.slice a' bn c'])) := HQ5.out.push HU.out.2 HU.out.1 (cbR_len A B C s k).symm hown7 hgrow7
        clear hown7 hgrow7 HQ5 HU HOW HB1
        have HRR : Hid (RestB w rg (ro + 32) (rn - 32) (rc - 32) s (k + 1)) := by
          have h9 := HRN.out
          have h8 := RBy.cut HRE.out.1 32 rn (rc - 32) (by omega) (Nat.le_refl _)
          rw [List.take_of_length_le (by rw [List.length_drop, ← HNS.out]; omega), drop_more] at h8
          exact ⟨by rw [show 32 * (k + 1) = 32 * k + 32 by omega]; exact h8, by have := HNS.out; have := HNK.out; omega, by omega⟩
        have y2 := cellOf HM.out.bk 2 rfl
        have x2 := X2.out
        go_roundw
        case rel => exact ⟨k + 1, false, v7, _, _, rg, (ro + 32), (rn - 32), (rc - 32), rfl, rfl, by have := HNK.out; simp; omega, by have := HNK.out; omega, by have := HNK.out; omega, HRR.out, HM.out⟩
        case measure => simp [y2, x2]; omega

end Go.Proofs.Ytejpjbihdclngaa
