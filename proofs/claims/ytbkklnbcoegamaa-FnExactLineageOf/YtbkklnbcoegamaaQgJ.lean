/- Proved here: LineageOf of the program. -/
import Derived.Test.YtbkklnbcoegamaaIxM
import Derived.Test.YtbkklnbcoegamaaQwJ
namespace Go.Proofs.Ytbkklnbcoegamaa
open Go.RowKit Go.Maps
set_option linter.unusedVariables false
set_option linter.unusedSimpArgs false

set_option maxRecDepth 10000 in
set_option maxHeartbeats 3200000 in
theorem impl_ln {st : Int} {w : World} {vw vl vs : Value} {b : Bk} (id : Int) (hst : b.st = st) (hidw : (Lit.int .i64 id).wf = true) (hs : smBk 1048576 b) (h : RdX w vw vl vs b) :
    Calls Try.prog 22 #[.agg #[.int .i64 st, vw, vl, vs], .int .i64 id] w fun e w' => ∃ v, e = .returned (.agg #[.int .i64 (bgC b id), v]) ∧ IS w' w.heap.size v (lnL b id) ∧ Below w.heap.size w w' := by
  obtain ⟨i0, hi0, hz0, hz1, hz2⟩ := info_parts info_i64
  obtain ⟨wa, wc, e1⟩ := h.wn.form
  obtain ⟨la, lc, e2⟩ := h.ls.rlo.form
  obtain ⟨xa, xc, e3⟩ := h.sc.form
  subst e1 e2 e3
  obtain ⟨wn, hwn⟩ : ∃ n, n = b.wn.length := ⟨_, rfl⟩
  obtain ⟨ln, hln⟩ : ∃ n, n = b.ls.length := ⟨_, rfl⟩
  obtain ⟨xn, hxn⟩ : ∃ n, n = b.sc.length := ⟨_, rfl⟩
  rw [← hwn, ← hln, ← hxn] at h ⊢
  obtain ⟨C, hC⟩ : ∃ K, K = bgC b id := ⟨_, rfl⟩
  obtain ⟨RL, hRL⟩ : ∃ K, K = lnL b id := ⟨_, rfl⟩
  rw [← hC, ← hRL]
  obtain ⟨W, hW⟩ : ∃ W, W = (w.alloc (.cells #[.int .i64 st, .slice wa wn wc, .slice la ln lc, .slice xa xn xc] 31)).alloc (.cells #[.int .i64 0, .slice none 0 0] 48) := ⟨_, rfl⟩
  have HW : Hid (Below w.heap.size w W ∧ W.heap[w.heap.size]? = some (.cells #[.int .i64 st, .slice wa wn wc, .slice la ln lc, .slice xa xn xc] 31) ∧ W.heap[w.heap.size + 1]? = some (.cells #[.int .i64 0, .slice none 0 0] 48)) := by
    rw [hW]
    refine ⟨by (repeat' (first | (with_reducible exact Below.refl _ _) | (with_reducible assumption) | (with_reducible refine Below.setCell ?_ ?_ _) | (with_reducible refine Below.alloc ?_ ?_ _) | (with_reducible refine below_drewN ?_ _) | (with_reducible refine Below.drew ?_) | (with_reducible exact Nat.le_refl _) | omega | (simp; done) | (simp; omega))), (Below.heap_alloc _ _ _ (by simp)).trans (heap_alloc_new w _), ?_⟩
    have := heap_alloc_new (w.alloc (.cells #[.int .i64 st, .slice wa wn wc, .slice la ln lc, .slice xa xn xc] 31)) (.cells #[.int .i64 0, .slice none 0 0] 48); simpa using this
  obtain ⟨Y, hY⟩ : ∃ Y, Y = W.alloc (.cells #[.int .i64 id] 2) := ⟨_, rfl⟩
  have HY : Hid (Below W.heap.size W Y ∧ Y.heap[W.heap.size]? = some (.cells #[.int .i64 id] 2)) := by rw [hY]; exact ⟨by (repeat' (first | (with_reducible exact Below.refl _ _) | (with_reducible assumption) | (with_reducible refine Below.setCell ?_ ?_ _) | (with_reducible refine Below.alloc ?_ ?_ _) | (with_reducible refine below_drewN ?_ _) | (with_reducible refine Below.drew ?_) | (with_reducible exact Nat.le_refl _) | omega | (simp; done) | (simp; omega))), heap_alloc_new _ _⟩
  have HB : Hid (Calls Try.prog 36 #[.agg #[.int .i64 st, .slice wa wn wc, .slice la ln lc, .slice xa xn xc], .slice (some ⟨W.heap.size, 0, none⟩) 1 1] Y fun e w' => ∃ p, e = .returned (.tuple #[.pointer p, .int .i64 C]) ∧ (C ≠ 0 → p = none) ∧ (C = 0 → ∃ K, p = some ⟨K, 0, none⟩ ∧ OBx w' Y.heap.size K b) ∧ Below Y.heap.size Y w') := by
    rw [hC, ← ofC_one]
    exact impl_opf hst hs ((h.below HW.out.1).below HY.out.1) (rd_oneW HY.out.2) (by simp) (fun x hx => by simp only [List.mem_singleton] at hx; subst hx; exact hidw)
  have HR0 : Hid (C = bgC b id ∧ RL = lnL b id ∧ ln = b.ls.length) := ⟨hC, hRL, hln⟩
  have hWs : W.heap.size = w.heap.size + 2 := by rw [hW]; simp
  clear h hs hst hwn hln hxn hC hRL hidw
  go_enter Try.func22, Try.ntmps22
  go_wp2_with (fail)
  rw [← hW]
  clear hW
  try rw [← hWs]
  rw [← hY]
  clear hY hWs
  refine HB.out.mono ?_
  rintro e w1 ⟨p, rfl, hpn, hps, hb1⟩
  have hBY : Below W.heap.size W w1 := HY.out.1.trans (hb1.mono HY.out.1.size)
  have m0 := (hBY.block _ (ltOfQ HW.out.2.1)).trans HW.out.2.1
  have m1 := (hBY.block _ (ltOfQ HW.out.2.2)).trans HW.out.2.2
  have HE : Hid (Below w.heap.size w w1) := HW.out.1.trans (hBY.mono HW.out.1.size)
  have HM : Hid (w1.heap[w.heap.size + 1]? = some (.cells #[.int .i64 0, .slice none 0 0] 48)) := m1
  have r0 := cellOfQ m1 0 rfl
  have r1 := cellOfQ m1 1 rfl
  have rl := ltOfQ m1
  have rf0 := frozOfQ m1 0
  have rf1 := frozOfQ m1 1
  clear hb1 HB HW HY m0 m1 hBY
  by_cases hC0 : C = 0
  case neg =>
    have HR : Hid (C = C ∧ RL = []) := by
      have e : bgC b id ≠ 0 := by rw [← HR0.out.1]; exact hC0
      exact ⟨rfl, by rw [HR0.out.2.1, lnL, if_pos e]⟩
    have hCb : (C == 0) = false := beq_eq_false_iff_ne.2 hC0
    clear hps hpn
    go_wp2
    try simp only [Exit.inBlock, Exit.then]
    refine bodyPost_ret (by simp [results, Try.results22, go_sem, r0, r1, rl, rf0, rf1]; try rfl) rfl ⟨.slice none 0 0, rfl, by rw [HR.out.2]; exact is_nilG _ _, ?_⟩
    have hb := HE.out
    (repeat' (first | (with_reducible exact Below.refl _ _) | (with_reducible assumption) | (with_reducible refine Below.setCell ?_ ?_ _) | (with_reducible refine Below.alloc ?_ ?_ _) | (with_reducible refine below_drewN ?_ _) | (with_reducible refine Below.drew ?_) | (with_reducible exact Nat.le_refl _) | omega | (simp; done) | (simp; omega)))
  have HC0 : Hid (bgC b id = 0) := by unfold Hid; rw [← HR0.out.1]; exact hC0
  obtain ⟨K, rfl, hob⟩ := hps hC0
  clear hpn hps
  have HS : Hid ((0 : Int) = 0 ∧ True) := ⟨rfl, trivial⟩
  subst hC0
  obtain ⟨hG, i, hi, hfi, hid⟩ := bgC_cases HC0.out
  have HGB : Hid (GBk b) := hG
  have hln30 : ln ≤ 30 := by rw [HR0.out.2.2]; exact hG.ls
  have HT : Hid (RL = lnF b.ls 30 i ∧ i < b.ls.length ∧ id = idA b.ls i) := ⟨by rw [HR0.out.2.1, lnL, if_neg (fun e => e HC0.out), hfi, Int.toNat_natCast], hi, by rw [idA_at hi]; exact hid.symm⟩
  have hi30 : i ≤ 30 := by have := HR0.out.2.2; omega
  obtain ⟨bp, bm, vw', vl', vs', f0, rs, m, hob, _, _⟩ := hob
  obtain ⟨G, cG, hvl, hG1, hG2, hat⟩ := hob.row (by omega)
  subst hvl
  have HOB : Hid (OB w1 Y.heap.size K bp bm vw' (.slice (some ⟨G, 0, none⟩) b.ls.length cG) vs' f0 b rs) := hob
  have HPA : Hid (∀ j, j < b.ls.length → w1.cell? ⟨G, j * 5 + 1, none⟩ = some (.int .i64 (paA b.ls j))) := fun j hj => by
    have hjr : j < rs.length := by rw [hob.pb.len]; exact hj
    have := (hat j hjr).c.2.1
    rw [(hob.pb.nm j hjr hj).2.1, ← paA_at hj] at this
    exact this
  have HGL : Hid (G < w1.heap.size) := hG2
  clear hfi hid hi hG hob hat hG1 hG2 r0 r1 rl rf0 rf1
  go_wp2
  go_loopw [1, 7] (fun x l wr => ∃ (y : Int) (ml : Nat) (va : Option Addr) (vc : Nat), ml ≤ 31 ∧ x = .int .i64 y ∧ l = .slice va ml vc ∧ Hid (∃ (P : List Int), ml = P.length ∧ IS wr w1.heap.size (.slice va ml vc) P ∧ Below w1.heap.size w1 wr ∧ ((y = 0 ∧ P = RL) ∨ ∃ j f, j < b.ls.length ∧ j ≤ f ∧ f ≤ 30 ∧ ml + f ≤ 30 ∧ y = idA b.ls j ∧ RL = P ++ lnF b.ls f j))) (fun _ l _ => 32 - slN l)
  case atStart => exact ⟨id, 0, none, 0, by omega, rfl, rfl, [], rfl, is_nilG _ _, Below.refl _ _, Or.inr ⟨i, 30, HT.out.2.1, hi30, by omega, by omega, HT.out.2.2, by rw [HT.out.1]; rfl⟩⟩
  case round =>
    obtain ⟨y, ml, va, vc, hml, rfl, rfl, hR⟩ := hrel
    obtain ⟨P, hmP, hIS, hBB, hcase⟩ := hR.out
    clear hR
    have HE2 : Hid (Below w.heap.size w wr) := HE.out.trans (hBB.mono HE.out.size)
    rcases hcase with ⟨rfl, hPR⟩ | ⟨j, f, hjl, hjf, hf, hmf, hy, hTot⟩
    · have HQ : Hid (RL = P ∧ IS wr w1.heap.size (.slice va ml vc) P ∧ w.heap.size + 1 < w1.heap.size ∧ w.heap.size ≤ w1.heap.size) := ⟨hPR.symm, hIS, ltOfQ HM.out, HE.out.size⟩
      have m1 := (hBB.block _ (ltOfQ HM.out)).trans HM.out
      have r0 := cellOfQ m1 0 rfl
      have r1 := cellOfQ m1 1 rfl
      have rl := ltOfQ m1
      have rf0 := frozOfQ m1 0
      have rf1 := frozOfQ m1 1
      have HE : Hid (Below w.heap.size w wr) := HE2.out
      clear hIS hBB m1 hPR hmP
      go_wp2
      try simp only [Exit.inBlock, Exit.then]
      refine bodyPost_ret (by simp [results, Try.results22, go_sem, r0, r1, rl, rf0, rf1]; try rfl) rfl ⟨.slice va ml vc, rfl, by rw [HQ.out.1]; exact is_doneG HQ.out.2.1 HQ.out.2.2.1 HQ.out.2.2.2, ?_⟩
      have hb := HE.out
      (repeat' (first | (with_reducible exact Below.refl _ _) | (with_reducible assumption) | (with_reducible refine Below.setCell ?_ ?_ _) | (with_reducible refine Below.alloc ?_ ?_ _) | (with_reducible refine below_drewN ?_ _) | (with_reducible refine Below.drew ?_) | (with_reducible exact Nat.le_refl _) | omega | (simp; done) | (simp; omega)))
    · have hy1 : 1 ≤ y ∧ y ≤ 1000000 := by rw [hy, idA_at hjl]; exact HGB.out.id j hjl
      have hyne : (y == 0) = false := beq_eq_false_iff_ne.2 (by omega)
      have hy0 : ¬ y = 0 := by omega
      obtain ⟨pa, hpa⟩ : ∃ p, p = paA b.ls j := ⟨_, rfl⟩
      have hcp := HPA.out j hjl
      rw [← hpa] at hcp
      have HN : Hid (∀ wq : World, ((pa = 0 ∧ P ++ [y] = RL) ∨ ∃ j2 f2, j2 < b.ls.length ∧ j2 ≤ f2 ∧ f2 ≤ 30 ∧ (ml + 1) + f2 ≤ 30 ∧ pa = idA b.ls j2 ∧ RL = (P ++ [y]) ++ lnF b.ls f2 j2)) := fun _ => by
        by_cases hp0 : pa = 0
        · exact Or.inl ⟨hp0, by rw [hTot, lnF_end (by rw [← hpa]; exact hp0), hy]⟩
        · obtain ⟨p, hpj, hfp, hip⟩ := pa_at HGB.out hjl (by rw [← hpa]; exact hp0)
          rw [← hpa] at hfp hip
          obtain ⟨f2, rfl⟩ : ∃ f2, f = f2 + 1 := ⟨f - 1, by omega⟩
          exact Or.inr ⟨p, f2, by omega, by omega, by omega, by omega, hip.symm, by rw [hTot, lnF_next (by rw [← hpa]; exact hp0), ← hpa, hfp, Int.toNat_natCast, hy]; simp⟩
      obtain ⟨W1, hW1⟩ : ∃ X9, X9 = wr.alloc (.cells #[.int .i64 y] 2) := ⟨_, rfl⟩
      have HOW : Hid (W1.ownsRow w1.heap.size 2 1 (.slice va ml vc) ml (P.map (Value.int .i64)) ∧ Below w1.heap.size w1 W1 ∧ w1.heap.size ≤ W1.heap.size ∧ W1 = wr.alloc (.cells #[.int .i64 y] 2) ∧ ml = P.length) := by
        have hb7 : Below wr.heap.size wr W1 := by rw [hW1]; (repeat' (first | (with_reducible exact Below.refl _ _) | (with_reducible assumption) | (with_reducible refine Below.setCell ?_ ?_ _) | (with_reducible refine Below.alloc ?_ ?_ _) | (with_reducible refine below_drewN ?_ _) | (with_reducible refine Below.drew ?_) | (with_reducible exact Nat.le_refl _) | omega | (simp; done) | (simp; omega)))
        have h9 := hIS.kept fun q hq => hb7.block q (IS.lt hIS q hq).2
        unfold IS at h9
        rw [← hmP] at h9
        have hc9 := hBB.trans (hb7.mono hBB.size)
        exact ⟨h9, hc9, hc9.size, hW1, hmP⟩
      have HL : Hid (∀ W, Below w1.heap.size w1 W → Calls Try.prog 37 #[.pointer (some ⟨K, 0, none⟩), .int .i64 y] W fun e w' => e = .returned (.pointer (some ⟨G, j * 5, none⟩)) ∧ Below W.heap.size W w') := fun W hW =>
        impl_lot b.ls.length rfl (HOB.out.below hW) hjl y (by rw [hy, idA_at hjl])
      have HCP : Hid (w1.cell? ⟨G, j * 5 + 1, none⟩ = some (.int .i64 pa)) := hcp
      have hml2 : ml + 1 ≤ 31 := by omega
      clear hIS hBB hTot hmP hpa hcp hjf hf hmf hy hjl
      go_wp2_with (at_builtin; go_loud (rw [← hW1]; refine wpList_append_own_at _ rfl _ _ 24 rfl w1.heap.size 2 i0 (.int .i64 0) 1 8 Try.underlying24 hi0 hz0 hz1 hz2 rfl (by decide) (.slice va ml vc) ml _ rfl HOW.out.1 ⟨wr.heap.size, 0, none⟩ 1 1 [.int .i64 y] rfl rfl (World.news_of_block (cs := #[.int .i64 y]) (t := 2) (fr := (0, 0)) (by rw [HOW.out.2.2.2.1]; exact heap_alloc_new wr _)) (by simp [Value.oneCell']) (by unfold maxLen; omega) (by omega) HOW.out.2.2.1 ?_); intro v6 w7 hown6 hgrow6 _ hloc6; go_loud (obtain ⟨va6, vc6, rfl⟩ := own_formG hown6))
      have R : Hid (ml + 1 = (P ++ [y]).length ∧ IS w7 w1.heap.size (.slice va6 (ml + 1) vc6) (P ++ [y]) ∧ Below w1.heap.size w1 w7) := by
        have hlow : ∀ q, (Value.slice va ml vc).ownBlock = some q → w1.heap.size ≤ q := fun q hq => (World.ownsRow.lt HOW.out.1 q hq).1
        have hb9 : Below w1.heap.size W1 w7 := (Below.refl _ _).grown hgrow6 HOW.out.2.2.1 hlow
        refine ⟨by rw [List.length_append, HOW.out.2.2.2.2]; rfl, ?_, HOW.out.2.1.trans hb9⟩
        unfold IS; rw [List.length_append, ← HOW.out.2.2.2.2, List.map_append]; exact hown6
      clear hown6 hgrow6 hloc6 HOW hW1
      go_wp2_with (fail)
      refine (HL.out _ R.out.2.2).mono ?_
      rintro e w8 ⟨rfl, hb8⟩
      have R8 : Hid (ml + 1 = (P ++ [y]).length ∧ IS w8 w1.heap.size (.slice va6 (ml + 1) vc6) (P ++ [y]) ∧ Below w1.heap.size w1 w8) := ⟨R.out.1, R.out.2.1.kept fun q hq => hb8.block q (IS.lt R.out.2.1 q hq).2, R.out.2.2.trans (hb8.mono R.out.2.2.size)⟩
      have k1 := (R8.out.2.2.cell (p := ⟨G, j * 5 + 1, none⟩) HGL.out).trans HCP.out
      have kl : G < w8.heap.size := Nat.lt_of_lt_of_le HGL.out R8.out.2.2.size
      clear R hb8 HL
      go_wp2
      go_roundw
      case rel => exact ⟨pa, ml + 1, va6, vc6, hml2, rfl, rfl, P ++ [y], R8.out.1, R8.out.2.1, R8.out.2.2, HN.out w⟩
      case measure => simp [slN]; omega

end Go.Proofs.Ytbkklnbcoegamaa
