/- Proved here: the code of a step and of a recipe, of the program. -/
import Derived.Test.YtnljomeacnjmmaaDoorXuI
namespace Go.Proofs.YtnljomeacnjmmaaDoor
open Go.ChangeShapes Go.WideShapes Go.ChangeAt Go.RowKit Go.Joins
set_option linter.unusedVariables false
set_option linter.unusedSimpArgs false


set_option maxRecDepth 10000 in
set_option maxHeartbeats 6400000 in
theorem impl_stp (x : Rs) (c : Sp) (rs : List Rs) (ah : List Sp) (ps : List Pm) {W : World} {pa aa : Option Addr} {pn pc an ac : Nat} (ht : Hid (Tab W)) (hpn : pn ≤ 1500000) (han : an ≤ 1500000) (hc : smSp 1048576 c) (hx : Rs1 W x c) (hp : RG 4 pmC W (.slice pa pn pc) ps) (ha : RG 5 rsC W (.slice aa an ac) rs) (hnm : rs.map (·.nm) = tnm ah) :
    Calls Tryd.prog 32 #[.agg #[.string x.nm, .int .i64 x.t.k, .int .i64 x.t.n, .string x.t.s, .slice x.sa x.sn x.sc], .slice aa an ac, .slice pa pn pc] W fun e w' => e = .returned (.int .i64 (stpK ps ah c)) ∧ Below W.heap.size W w' := by
  obtain ⟨K, hK⟩ : ∃ K, K = stpK ps ah c := ⟨_, rfl⟩
  obtain ⟨M, hM⟩ : ∃ M, M = nameK x.nm := ⟨_, rfl⟩
  obtain ⟨A, hA⟩ : ∃ A, A = atL (rs.map (·.nm)) x.nm := ⟨_, rfl⟩
  obtain ⟨T, hT⟩ : ∃ T, T = timK ps x.t := ⟨_, rfl⟩
  have h1 := hc.nm
  have h2 := hc.t
  have h3 := hc.n
  unfold smV at h2
  have hl : x.sn = c.ss.length := hx.ss.len
  have HKK : Hid (K = if M = 0 then (if 0 ≤ A then 1 else if 8 < x.sn then 2 else if T = 0 then setsK ps c.ss else T) else M) := by
    unfold Hid; rw [hK, hM, hA, hT, hnm, hx.nm, hx.t, hl]; rfl
  have HM : Hid (∀ X, Calls Tryd.prog 30 #[.string x.nm] X fun e w' => e = .returned (.int .i64 M) ∧ w' = X) := fun X => by rw [hM]; exact impl_name x.nm X (by rw [hx.nm]; omega)
  have HA : Hid (∀ X, Below W.heap.size W X → X.heap[W.heap.size]? = some (.cells #[.string x.nm, .int .i64 x.t.k, .int .i64 x.t.n, .string x.t.s, .slice x.sa x.sn x.sc] 64) → Calls Tryd.prog 53 #[.slice aa an ac, .func (Fn.func 54) #[] #[.pointer (some ⟨W.heap.size, 0, none⟩)]] X fun e w' => e = .returned (.bool (decide (0 ≤ A))) ∧ Below X.heap.size X w') := fun X hb hX => by rw [hA]; exact impl_hasRecipeStep rs x (by omega) (ha.below hb) hX
  have HT : Hid (∀ X, Below W.heap.size W X → Calls Tryd.prog 55 #[.agg #[.int .i64 x.t.k, .int .i64 x.t.n, .string x.t.s], .slice pa pn pc] X fun e w' => e = .returned (.int .i64 T) ∧ Below X.heap.size X w') := fun X hb => by rw [hT]; exact impl_tim x.t ps (ht.out.step hb) hpn (by rw [hx.t]; omega) (hp.below hb)
  have HF : Hid (∀ (i : Nat) (hi : i < c.ss.length), ∀ X, Below W.heap.size W X → Calls Tryd.prog 56 #[.agg #[.string c.ss[i].nm, .int .i64 c.ss[i].v.k, .int .i64 c.ss[i].v.n, .string c.ss[i].v.s], .slice x.sa i x.sc, .slice pa pn pc] X fun e w' => e = .returned (.int .i64 (sefK ps (c.ss.take i) c.ss[i])) ∧ Below X.heap.size X w') := fun i hi X hb => impl_sef c.ss[i] (c.ss.take i) ps (ht.out.step hb) hpn (by omega) (hc.ss i hi) (hp.below hb) (take_rg (hx.ss.below hb) (by omega))
  have HS : Hid (RG 4 seC W (.slice x.sa x.sn x.sc) c.ss ∧ x.sn = c.ss.length ∧ x.sn ≤ x.sc) := ⟨hx.ss, hl, hx.cp⟩
  have hcap := hx.cp
  have hsn : x.sn ≤ 1048576 := by omega
  rw [← hK]
  have HB0 : Hid (Below W.heap.size W (W.alloc (.cells #[.string x.nm, .int .i64 x.t.k, .int .i64 x.t.n, .string x.t.s, .slice x.sa x.sn x.sc] 64))) := by unfold Hid; (repeat' (first | (with_reducible exact Below.refl _ _) | (with_reducible assumption) | (with_reducible refine Below.setCell ?_ ?_ _) | (with_reducible refine Below.alloc ?_ ?_ _) | (with_reducible refine below_drewN ?_ _) | (with_reducible refine Below.drew ?_) | (with_reducible exact Nat.le_refl _) | omega | (simp; done) | (simp; omega)))
  have HK0 : Hid ((W.alloc (.cells #[.string x.nm, .int .i64 x.t.k, .int .i64 x.t.n, .string x.t.s, .slice x.sa x.sn x.sc] 64)).heap[W.heap.size]? = some (.cells #[.string x.nm, .int .i64 x.t.k, .int .i64 x.t.n, .string x.t.s, .slice x.sa x.sn x.sc] 64)) := heap_alloc_new _ _
  clear hK hM hA hT h1 h2 h3 hl hc hx hp ha hnm ht
  go_enter Tryd.func32, Tryd.ntmps32
  go_wp2_with (fail)
  refine (HM.out _).mono ?_
  rintro e w1 ⟨rfl, rfl⟩
  clear HM
  by_cases hm : M = 0
  case neg =>
    have hKK := HKK.out
    rw [if_neg hm] at hKK
    clear HKK
    subst hKK
    go_wp2
    go_returns
    exact ⟨rfl, HB0.out⟩
  have HK2 : Hid (K = if 0 ≤ A then 1 else if 8 < x.sn then 2 else if T = 0 then setsK ps c.ss else T) := by
    have hKK := HKK.out
    rw [if_pos hm] at hKK
    exact hKK
  clear HKK
  subst hm
  go_wp2_with (fail)
  obtain ⟨W0, hW0⟩ : ∃ V, V = W.alloc (.cells #[.string x.nm, .int .i64 x.t.k, .int .i64 x.t.n, .string x.t.s, .slice x.sa x.sn x.sc] 64) := ⟨_, rfl⟩
  rw [← hW0] at HB0 HK0 ⊢
  clear hW0
  refine (HA.out _ HB0.out HK0.out).mono ?_
  rintro e w2 ⟨rfl, hb2⟩
  have HB2 : Hid (Below W.heap.size W w2 ∧ w2.heap[W.heap.size]? = some (.cells #[.string x.nm, .int .i64 x.t.k, .int .i64 x.t.n, .string x.t.s, .slice x.sa x.sn x.sc] 64)) := ⟨HB0.out.trans (hb2.mono HB0.out.size), (hb2.block _ (ltQ HK0.out)).trans HK0.out⟩
  clear hb2 HB0 HA HK0
  by_cases ha : 0 ≤ A
  · have hKK := HK2.out
    rw [if_pos ha] at hKK
    clear HK2
    subst hKK
    have da : decide (0 ≤ A) = true := decide_eq_true ha
    go_wp2
    go_returns
    exact ⟨rfl, HB2.out.1⟩
  have HK3 : Hid (K = if 8 < x.sn then 2 else if T = 0 then setsK ps c.ss else T) := by
    have hKK := HK2.out
    rw [if_neg ha] at hKK
    exact hKK
  clear HK2
  have da : decide (0 ≤ A) = false := decide_eq_false ha
  obtain ⟨q0, q1, q2, q3, q4, qf, ql⟩ := five_at HB2.out.2
  clear qf
  by_cases h8 : 8 < x.sn
  · have hKK := HK3.out
    rw [if_pos h8] at hKK
    clear HK3
    subst hKK
    go_wp2
    go_returns
    exact ⟨rfl, HB2.out.1⟩
  have HK4 : Hid (K = if T = 0 then setsK ps c.ss else T) := by
    have hKK := HK3.out
    rw [if_neg h8] at hKK
    exact hKK
  clear HK3
  go_wp2_with (fail)
  refine (HT.out _ HB2.out.1).mono ?_
  rintro e w3 ⟨rfl, hb3⟩
  have HB3 : Hid (Below W.heap.size W w3 ∧ w3.heap[W.heap.size]? = some (.cells #[.string x.nm, .int .i64 x.t.k, .int .i64 x.t.n, .string x.t.s, .slice x.sa x.sn x.sc] 64)) := ⟨HB2.out.1.trans (hb3.mono HB2.out.1.size), (hb3.block _ (ltQ HB2.out.2)).trans HB2.out.2⟩
  clear hb3 HB2 HT q0 q1 q2 q3 q4 ql da ha
  by_cases htt : T = 0
  case neg =>
    have hKK := HK4.out
    rw [if_neg htt] at hKK
    clear HK4
    subst hKK
    go_wp2
    go_returns
    exact ⟨rfl, HB3.out.1⟩
  have HK5 : Hid (K = setsK ps c.ss) := by
    have hKK := HK4.out
    rw [if_pos htt] at hKK
    exact hKK
  clear HK4
  subst htt
  obtain ⟨q0, q1, q2, q3, q4, qf, ql⟩ := five_at HB3.out.2
  clear qf
  go_wp2
  clear q0 q1 q2 q3 q4 ql
  go_loopw [35] (fun i wr => ∃ t : Nat, t ≤ x.sn ∧ i = .int .i64 t ∧ Hid (Below W.heap.size W wr ∧ wr.heap[W.heap.size]? = some (.cells #[.string x.nm, .int .i64 x.t.k, .int .i64 x.t.n, .string x.t.s, .slice x.sa x.sn x.sc] 64) ∧ ∀ i, i < t → sefK ps (c.ss.take i) (c.ss.getD i seD) = 0)) (fun i _ => x.sn - (intOf i).toNat)
  case atStart => exact ⟨0, Nat.zero_le _, rfl, HB3.out.1, HB3.out.2, fun i hi => by omega⟩
  case round =>
    clear HB3
    obtain ⟨t, ht, rfl, hR⟩ := hrel
    by_cases hlt : t < x.sn
    · have htl : t < c.ss.length := by rw [← HS.out.2.1]; exact hlt
      obtain ⟨g, o, c2, he, hg, hj⟩ := (HS.out.1.below hR.out.1).pos (by omega)
      simp only [Value.slice.injEq] at he
      obtain ⟨hx0, hx1, hx2⟩ := he
      clear hx1 hx2
      obtain ⟨c0, c1, c2, c3⟩ := seC_at (hj t htl)
      obtain ⟨y, hy⟩ : ∃ y, y = c.ss[t] := ⟨_, rfl⟩
      rw [← hy] at c0 c1 c2 c3
      obtain ⟨q, hq⟩ : ∃ q, q = sefK ps (c.ss.take t) c.ss[t] := ⟨_, rfl⟩
      have HQ : Hid ((¬ q = 0 → K = q) ∧ (q = 0 → ∀ i, i < t + 1 → sefK ps (c.ss.take i) (c.ss.getD i seD) = 0)) := by
        refine ⟨fun e => ?_, fun e i hi => ?_⟩
        · rw [HK5.out, hq]; rw [hq] at e; exact setsK_stop htl hR.out.2.2 e
        · rcases (by omega : i < t ∨ i = t) with h | rfl
          · exact hR.out.2.2 i h
          · rw [getD_at htl, ← hq]; exact e
      obtain ⟨V, hV⟩ : ∃ V, V = wr.alloc (.cells #[.string y.nm, .int .i64 y.v.k, .int .i64 y.v.n, .string y.v.s] 67) := ⟨_, rfl⟩
      have hVB : Below W.heap.size W V := by rw [hV]; exact hR.out.1.alloc hR.out.1.size _
      have hVX : V.heap[W.heap.size]? = some (.cells #[.string x.nm, .int .i64 x.t.k, .int .i64 x.t.n, .string x.t.s, .slice x.sa x.sn x.sc] 64) := by rw [hV]; exact (Below.heap_alloc _ _ _ (ltQ hR.out.2.1)).trans hR.out.2.1
      have hVY : V.heap[wr.heap.size]? = some (.cells #[.string y.nm, .int .i64 y.v.k, .int .i64 y.v.n, .string y.v.s] 67) := by rw [hV]; exact heap_alloc_new _ _
      have hcall : Hid (∀ X : Und V.heap.size V, Calls Tryd.prog 56 #[.agg #[.string y.nm, .int .i64 y.v.k, .int .i64 y.v.n, .string y.v.s], .slice (some ⟨g, o, none⟩) t x.sc, .slice pa pn pc] X.W fun e w' => e = .returned (.int .i64 q) ∧ Below X.W.heap.size X.W w') := fun X => by
        have := HF.out t htl X.W (hVB.trans (X.below.mono hVB.size))
        rw [← hy, hx0] at this
        rw [hq, ← hy]; exact this
      have HV : Hid (V = wr.alloc (.cells #[.string y.nm, .int .i64 y.v.k, .int .i64 y.v.n, .string y.v.s] 67)) := hV
      have HVB : Hid (Below W.heap.size W V ∧ V.heap[W.heap.size]? = some (.cells #[.string x.nm, .int .i64 x.t.k, .int .i64 x.t.n, .string x.t.s, .slice x.sa x.sn x.sc] 64)) := ⟨hVB, hVX⟩
      obtain ⟨v0, v1, v2, v3, vf, vl⟩ := quad_at hVY
      obtain ⟨r0, r1, r2, r3, r4, rf, rl⟩ := five_at hVX
      rw [hx0] at r4
      have r0w := five_at hR.out.2.1
      clear hj hy hq hV hVB hVX hVY vf rf HF hR r0w
      have b0 : (0 : Int) ≤ (t : Int) := by omega
      have b1 : (t : Int) < (x.sn : Int) := by omega
      have hsa : x.sa = some ⟨g, o, none⟩ := hx0
      clear hx0
      go_wp2_with (fail)
      rw [← HV.out]
      (refine wp_region_und (by kernel_rfl) (by kernel_rfl) (fun hund => ?_); (repeat (go_big_quiet_step (first | (go_at_call 56; with_reducible refine und_call ?_ (hcall.out _); exact Nat.le_refl _)))); with_reducible refine wpQuiet_nil ?_; clear hund; intro W1 hb1; obtain ⟨hc1, hf1⟩ := undcell hb1)
      have HB : Hid (Below W.heap.size W W1 ∧ W1.heap[W.heap.size]? = some (.cells #[.string x.nm, .int .i64 x.t.k, .int .i64 x.t.n, .string x.t.s, .slice x.sa x.sn x.sc] 64)) := ⟨HVB.out.1.trans (hb1.mono HVB.out.1.size), (hb1.block _ (ltQ HVB.out.2)).trans HVB.out.2⟩
      clear hb1 hc1 hf1 hcall HV HVB v0 v1 v2 v3 vl r0 r1 r2 r3 r4 rl c0 c1 c2 c3
      by_cases hq0 : q = 0
      · have HG : Hid (∀ i, i < t + 1 → sefK ps (c.ss.take i) (c.ss.getD i seD) = 0) := HQ.out.2 hq0
        clear HQ
        subst hq0
        go_wp2
        go_roundw
        case rel => exact ⟨t + 1, by omega, by go_num, HB.out.1, HB.out.2, HG.out⟩
        case measure => simp [intOf]; omega
      · have hKq := HQ.out.1 hq0
        clear HQ
        subst hKq
        go_wp2
        go_returns
        exact ⟨rfl, HB.out.1⟩
    · have hk0 : K = 0 := by
        rw [HK5.out]
        exact fnz_zero (fun i hi => hR.out.2.2 i (by have := HS.out.2.1; omega))
      have HB : Hid (Below W.heap.size W wr) := hR.out.1
      clear hR
      clear HK5
      subst hk0
      go_wp2
      go_returns
      exact ⟨rfl, HB.out⟩

end Go.Proofs.YtnljomeacnjmmaaDoor
