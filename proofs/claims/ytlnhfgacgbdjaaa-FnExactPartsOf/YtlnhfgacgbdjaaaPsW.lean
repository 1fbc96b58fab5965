/- Proved here: l4List of the model: the parts, each in the one form, by their first boxes. -/
import Derived.Test.YtlnhfgacgbdjaaaPsG
import Derived.Test.YtlnhfgacgbdjaaaSOp
import Derived.Deep.AppendLies
import Derived.Deep.RegionLaw
namespace Go.Proofs.Ytlnhfgacgbdjaaa
open Go.RowKit
set_option linter.unusedVariables false
set_option linter.unusedSimpArgs false

set_option maxRecDepth 10000 in
set_option maxHeartbeats 8000000 in
theorem spec_l4List {w : World} {a : Option Addr} {n c : Nat} {s : List Bx} {F : Nat → Nat} (hn : n ≤ 150) (hr : Rise s) (hL : Lab (Tc s n 0) n F) (hG : Good s) (h : RB w (.slice a n c) s) :
    Calls Try.prog 20 #[.slice a n c] w fun e w' => ∃ v vs, e = .returned v ∧ PL w' w.heap.size v (partsL s F n n) vs ∧ Below w.heap.size w w' := by
  have hlen : s.length = n := by obtain ⟨_, _, e⟩ := h.form; injection e with _ e2 _; exact e2.symm
  have H : Hid (RB w (.slice a n c) s ∧ Lab (Tc s n 0) n F ∧ Good s ∧ n = s.length) := ⟨h, hL, hG, hlen.symm⟩
  have hcall := spec_l4Parts hn hr hL h
  clear h hr hL hG hlen
  obtain ⟨i0, hi, hz0, hz1, hz2⟩ := info_parts info_shape
  obtain ⟨i1, hi1, hq0, hq1, hq2⟩ := info_parts info_box
  go_enter Try.func20, Try.ntmps20
  go_wp2_with (fail)
  refine hcall.mono ?_
  rintro e w1 ⟨v1, xs, rfl, hxs, hxl, hxa, hb1⟩
  obtain ⟨fo, fc, hv1⟩ := hxs.form
  rw [hxl] at hv1
  subst hv1
  have H1 : Hid (IS w1 w.heap.size (.slice fo n fc) xs ∧ xs.length = n ∧ (∀ a, a < n → xs.getD a 0 = outA F n a) ∧ Below w.heap.size w w1) := ⟨hxs, hxl, hxa, hb1⟩
  have hw1 := hb1.size
  clear hxs hxl hxa hb1
  go_wp2_with (fail)
  go_loopw [4, 5] (fun v i wr => ∃ (k : Nat) (vs : List Value), k ≤ n ∧ i = .int .i64 k ∧ Hid (PG wr w1.heap.size v (rowsL s F k) vs ∧ Below w1.heap.size w1 wr)) (fun _ i _ => n - (intOf i).toNat)
  case atStart =>
    refine ⟨0, [], Nat.zero_le _, rfl, ⟨World.ownsRow_made _ #[] 0 (Nat.le_refl _) (by unfold maxLen; omega) rfl, fun i hi => absurd hi (by simp [rowsL, firstsL]), fun i j _ hi => absurd hi (by simp [rowsL, firstsL])⟩, by (repeat' (first | (with_reducible exact Below.refl _ _) | (with_reducible assumption) | (with_reducible refine Below.setCell ?_ ?_ _) | (with_reducible refine Below.alloc ?_ ?_ _) | (with_reducible refine below_drewN ?_ _) | (with_reducible refine Below.drew ?_) | (with_reducible exact Nat.le_refl _) | omega | (simp; done) | (simp; omega)))⟩
  case round =>
    obtain ⟨i, vs, hin, rfl, hR⟩ := hrel
    by_cases hlt : i < n
    · obtain ⟨gi, ci, he, _, hgi, hji⟩ := (H1.out.1.below' hR.out.2).pos (by rw [H1.out.2.1]; omega)
      simp only [Value.slice.injEq] at he
      obtain ⟨rfl, hx1, hx2⟩ := he
      clear hx1 hx2
      have z0 := hji i (by rw [H1.out.2.1]; exact hlt)
      rw [H1.out.2.2.1 i hlt] at z0
      have hle := H.out.2.1.le i hlt
      rw [show outA F n i = ((cnt F (F i) : Nat) : Int) by unfold outA; rw [if_pos (by omega)]] at z0
      obtain ⟨g, o, c2, he, hg, hj⟩ := ((H.out.1.below H1.out.2.2.2).below hR.out.2).pos (by rw [← H.out.2.2.2]; omega)
      simp only [Value.slice.injEq] at he
      obtain ⟨rfl, hx1, hx2⟩ := he
      clear hx1 hx2
      obtain ⟨c0, c1, c2, c3⟩ := hj i (by rw [← H.out.2.2.2]; exact hlt)
      obtain ⟨b, hb⟩ : ∃ b, b = bat s i := ⟨_, rfl⟩
      rw [← hb] at c0 c1 c2 c3
      have hrl := rowsL_len s F i
      have hcl := cnt_le F i
      have hcf := cnt_le F (F i)
      have b0 : (0 : Int) ≤ (i : Int) := by omega
      have b1 : (i : Int) < (n : Int) := by omega
      have hwsz := hR.out.2.size
      have HIS : Hid (IS wr w.heap.size (.slice (some ⟨gi, 0, none⟩) n fc) xs ∧ Below w1.heap.size w1 wr) := ⟨H1.out.1.below' hR.out.2, hR.out.2⟩
      have hrows : ∀ k, ((rowsL s F i).getD k []).length ≤ 150 := fun k => by have := rowsL_row s F i k; omega
      have isNB : ∀ W, IS W w.heap.size (.slice (some ⟨gi, 0, none⟩) n fc) xs → ∀ cs, W.heap[gi]? ≠ some (.cells cs 44 (0, 0)) := fun W hW cs hcs => by
        rcases hW.2 with ⟨h', _⟩ | ⟨g2, cap2, cur2, he, hB2, hg2, hr2⟩
        · cases h'
        · simp only [Value.slice.injEq, Option.some.injEq, Addr.mk.injEq, and_true] at he
          obtain ⟨rfl, _, _⟩ := he
          rw [hcs] at hg2
          simp only [Option.some.injEq, Obj.cells.injEq] at hg2
          exact absurd hg2.2.1 (by decide)
      clear hwsz
      by_cases hF : F i = i
      · have hnew := rowsL_new H.out.2.1 (s := s) hlt hF
        rw [hF] at z0
        have hof := hR.out.1.form
        obtain ⟨ra, rc, rfl⟩ := hof
        obtain ⟨k, hk⟩ : ∃ k, k = cnt F i := ⟨_, rfl⟩
        rw [← hk] at z0 hrl hcl
        have HP0 : Hid _ := hR.out
        have HC : Hid (BAt wr g (o + i * 4) b) := ⟨c0, c1, c2, c3⟩
        have HN : Hid (rowsL s F (i + 1) = rowsL s F i ++ [[bat s i]]) := hnew
        have hwr := hR.out.2.size
        have HB : Hid (b = bat s i) := hb
        have HRL : Hid ((rowsL s F i).length = k) := hrl
        rw [hrl]
        clear hR hj hji hk hnew c0 c1 c2 c3 hrows hb hrl
        rw [HRL.out] at HP0
        go_wp2_with (at_builtin; refine wpList_append_own _ rfl _ _ 24 rfl w1.heap.size 28 i0 (.slice none 0 0) 1 24 Try.underlying24 hi hz0 hz1 hz2 rfl (by decide) _ _ _ rfl (World.ownsRow.alloc HP0.out.1.o _) ⟨wr.heap.size, 0, none⟩ 1 1 [.slice none 0 0] rfl rfl (World.news_of_block (cs := #[.slice none 0 0]) (t := 28) (fr := (0, 0)) (heap_alloc_new wr _)) (by simp [Value.oneCell']) (by rw [HRL.out]; unfold maxLen; omega) (by rw [HRL.out]; omega) (by simp; omega) ?_; intro v2 wq hown2 hgrow2 _)
        have hP2 := HP0.out.1.push hown2 hgrow2
        have hb2 : Below w1.heap.size w1 wq := (HP0.out.2.alloc hwr _).grown hgrow2 (by simp; omega) (fun q hq => (HP0.out.1.rowBlk hq).1)
        have kp : ∀ q, q < wr.heap.size → (∀ cs, wr.heap[q]? ≠ some (.cells cs 28 (0, 0))) → wq.heap[q]? = wr.heap[q]? := by
          intro q hq hn
          rw [hgrow2.block q (by simp; omega) fun e => ?_]
          · exact Below.heap_alloc _ _ _ hq
          · obtain ⟨_, _, cs, hcs⟩ := HP0.out.1.rowBlk e.symm; exact hn cs hcs
        have hisq : IS wq w.heap.size (.slice (some ⟨gi, 0, none⟩) n fc) xs := H1.out.1.below' hb2
        have hgiw1 : gi < w1.heap.size := (World.ownsRow.lt H1.out.1 gi rfl).2
        have z0 : wq.cell? ⟨gi, i, none⟩ = some (.int .i64 (k : Int)) := by
          rw [World.cell?_of_block (a := ⟨gi, i, none⟩) (hb2.block gi hgiw1), ← World.cell?_of_block (a := ⟨gi, i, none⟩) (HP0.out.2.block gi hgiw1)]; exact z0
        have HIB : Hid _ := isNB wq hisq
        obtain ⟨g', o', c', he, hg', hj'⟩ := ((H.out.1.below H1.out.2.2.2).below hb2).pos (by rw [← H.out.2.2.2]; omega)
        simp only [Value.slice.injEq, Option.some.injEq, Addr.mk.injEq, and_true] at he
        obtain ⟨⟨rfl, rfl⟩, hx1, hx2⟩ := he
        clear hx1 hx2
        have hbt := hj' i (by rw [← H.out.2.2.2]; exact hlt)
        rw [← HB.out] at hbt
        obtain ⟨c0, c1, c2, c3⟩ := hbt
        have hgi : gi < wq.heap.size := Nat.lt_of_lt_of_le hgiw1 hb2.size
        have hg : g < wq.heap.size := hg'
        have hb : b = bat s i := HB.out
        obtain ⟨LS, hLSe⟩ : ∃ LS, LS = rowsL s F i ++ [[]] := ⟨_, rfl⟩
        obtain ⟨VS, hVSe⟩ : ∃ VS, VS = vs ++ [Value.slice none 0 0] := ⟨_, rfl⟩
        rw [← hLSe, ← hVSe] at hP2
        have hLl : LS.length = k + 1 := by rw [hLSe, List.length_append, HRL.out]; rfl
        have hkl : k < LS.length := by omega
        have hgk : LS.getD k [] = [] := by
          rw [hLSe, List.getD_eq_getElem?_getD, List.getElem?_append_right (by rw [HRL.out]; exact Nat.le_refl _), HRL.out]; simp
        have hrow : (LS.getD k []).length ≤ 150 := by rw [hgk]; simp
        have hst : rowsL s F (i + 1) = LS.set k (LS.getD k [] ++ [bat s i]) := by
          rw [hgk, HN.out, hLSe, List.set_append_right _ _ (by rw [HRL.out]; exact Nat.le_refl _), HRL.out]; simp
        obtain ⟨ra2, rc, hv2⟩ := hP2.form
        subst hv2
        have HPG : Hid _ := And.intro hP2 hb2
        have hLS : LS.length ≤ 150 := by omega
        clear hown2 hgrow2 hP2 hb2 kp hisq hj' hLSe hVSe hgk isNB HP0 HC HN HRL HB hLl HIS
        obtain ⟨gr, crr, he, hgrB, hgr, hjr⟩ := PG.pos HPG.out.1 (by omega)
        simp only [Value.slice.injEq] at he
        obtain ⟨rfl, hx1, hx2⟩ := he
        clear hx1 hx2
        have r0 := hjr k hkl
        obtain ⟨l, hl⟩ : ∃ l, l = LS.getD k [] := ⟨_, rfl⟩
        obtain ⟨u, hu⟩ : ∃ u, u = vat VS k := ⟨_, rfl⟩
        rw [← hu] at r0
        have hlb : l.length ≤ 150 := by rw [hl]; exact hrow
        have hwsz := HPG.out.2.size
        have HOW : Hid (∀ W, Below wq.heap.size wq W → W.ownsRow w1.heap.size 44 4 u l.length (bflat l)) := by
          intro W hW
          have := (HPG.out.1.bx k hkl).below hW
          rw [hl, hu]; exact this
        have HFZ : Hid (∀ w5, (wq.drew.alloc (.cells #[.int .i64 b.x0, .int .i64 b.y0, .int .i64 b.x1, .int .i64 b.y1] 44)).grownBy w5 u.ownBlock → w5.cell? ⟨gr, k, none⟩ = some u ∧ w5.frozen? ⟨gr, k, none⟩ = false ∧ gr < w5.heap.size ∧ w5.cell? ⟨gi, i, none⟩ = some (.int .i64 (k : Int))) := by
          intro w5 h5
          have hub : ∀ q, u.ownBlock = some q → ∃ cs, wq.heap[q]? = some (.cells cs 44 (0, 0)) := fun q hq => by rw [hu] at hq; exact ((HPG.out.1.bx k hkl).blk hq).2.2
          have kp : ∀ q, q < wq.heap.size → (∀ cs, wq.heap[q]? ≠ some (.cells cs 44 (0, 0))) → w5.heap[q]? = wq.heap[q]? := by
            intro q hq hn
            rw [h5.block q (by simp; omega) fun e => ?_]
            · exact Below.heap_alloc _ _ _ (by simpa using hq)
            · obtain ⟨cs, hcs⟩ := hub q e.symm; exact hn cs hcs
          have e1 : w5.heap[gr]? = wq.heap[gr]? := kp gr hgr fun cs hcs => by
            obtain ⟨_, _, cs', h3⟩ := HPG.out.1.rowBlk (g := gr) rfl
            exact kinds h3 hcs rfl
          have e2 : w5.heap[gi]? = wq.heap[gi]? := kp gi hgi fun cs hcs => HIB.out cs hcs
          have h1 : w5.ownsRow w1.heap.size 28 1 (.slice (some ⟨gr, 0, none⟩) LS.length rc) LS.length VS := row_kept HPG.out.1.o fun g hgg => by
            simp only [Value.ownBlock, Option.some.injEq] at hgg
            subst hgg; exact e1
          refine ⟨(World.cell?_of_block e1).trans r0, World.ownsRow.frozenAt h1 k, (World.ownsRow.lt h1 gr rfl).2, (World.cell?_of_block e2).trans z0⟩
        have HEND : Hid (∀ w5 g5 c5, w5.ownsRow w1.heap.size 44 4 (.slice (some ⟨g5, 0, none⟩) (l.length + 1) c5) (l.length + 1) (bflat l ++ bcells b) → (wq.drew.alloc (.cells #[.int .i64 b.x0, .int .i64 b.y0, .int .i64 b.x1, .int .i64 b.y1] 44)).grownBy w5 u.ownBlock → (u.ownBlock = some g5 ∨ g5 = wq.heap.size + 1) →
            PG (w5.setCell ⟨gr, k, none⟩ (.slice (some ⟨g5, 0, none⟩) (l.length + 1) c5)) w1.heap.size (.slice (some ⟨gr, 0, none⟩) LS.length rc) (rowsL s F (i + 1)) (VS.set k (.slice (some ⟨g5, 0, none⟩) (l.length + 1) c5)) ∧ Below w1.heap.size w1 (w5.setCell ⟨gr, k, none⟩ (.slice (some ⟨g5, 0, none⟩) (l.length + 1) c5))) := by
          intro w5 g5 c5 ho h5 hat
          rw [hu] at h5 hat
          have hW : Below wq.heap.size wq wq.drew := (Below.refl _ _).drew
          have h1 := HPG.out.1.put hW hkl hl.symm ho h5 (by rcases hat with h | h; exact Or.inl h; exact Or.inr (Or.inl h))
          refine ⟨by rw [hst, ← hl, ← hb]; exact h1, ?_⟩
          have h2 := ((HPG.out.2.drew).alloc hwsz (.cells #[.int .i64 b.x0, .int .i64 b.y0, .int .i64 b.x1, .int .i64 b.y1] 44)).grown h5 (by simp; omega) (fun q hq => ((HPG.out.1.bx k hkl).blk hq).1)
          exact h2.setCell hgrB _
        clear hjr hl hu hst hb hrow
        obtain ⟨m, hm⟩ : ∃ m, m = LS.length := ⟨_, rfl⟩
        have hm150 : m ≤ 150 := by omega
        rw [← hm] at hkl HEND ⊢
        have HX : Hid (m = LS.length) := hm
        clear hm hLS
        have d2 : (0 : Int) ≤ (k : Int) := by omega
        have d3 : (k : Int) < (m : Int) := by omega
        go_region_law (refine step_append_lies _ rfl (.tmp 37) (.tmp 42) 28 rfl w1.heap.size 44 i1 (.agg #[.int .i64 0, .int .i64 0, .int .i64 0, .int .i64 0]) 4 32 Try.underlying28 hi1 hq0 hq1 hq2 rfl (by decide) u l.length (bflat l) (by simp [Act.eval, Act.put]) (HOW.out _ (by (repeat' (first | (with_reducible exact Below.refl _ _) | (with_reducible assumption) | (with_reducible refine Below.setCell ?_ ?_ _) | (with_reducible refine Below.alloc ?_ ?_ _) | (with_reducible refine below_drewN ?_ _) | (with_reducible refine Below.drew ?_) | (with_reducible exact Nat.le_refl _) | omega | (simp; done) | (simp; omega))))) ⟨wq.heap.size, 0, none⟩ 1 1 (bcells b) (by simp [Act.eval, Act.put]) rfl (World.news_of_block (cs := #[.int .i64 b.x0, .int .i64 b.y0, .int .i64 b.x1, .int .i64 b.y1]) (t := 44) (fr := (0, 0)) (heap_alloc_new _ _)) (by simp [bcells, Value.oneCell']) (by decide) (by unfold maxLen; omega) (by omega) (by simp; omega) (wq.heap.size + 1) (by simp) ?_; intro g5 c5 w5 hown5 hgrow5 hat5 hlt5; obtain ⟨q0, q1, q2, q3⟩ := HFZ.out w5 hgrow5)
        all_goals
          have R : Hid _ := HEND.out w5 g5 c5 hown5 hgrow5 hat5
          clear hown5 hgrow5 hat5
          go_wp2
          go_roundw
          case rel => exact ⟨i + 1, _, by omega, by go_num, R.out⟩
          case measure => simp [intOf]; omega
      · obtain ⟨hkl, hst⟩ := rowsL_more H.out.2.1 (s := s) hlt hF
        obtain ⟨k, hk⟩ : ∃ k, k = cnt F (F i) := ⟨_, rfl⟩
        rw [← hk] at z0 hkl hst hcf
        obtain ⟨wq, hwq⟩ : ∃ wq, wq = wr := ⟨_, rfl⟩
        rw [← hwq] at hR z0 c0 c1 c2 c3 hgi hg HIS ⊢
        have HIB : Hid _ := isNB wq HIS.out.1
        have hrow := hrows k
        clear hwq hj hji hk isNB hrows
        have hof := hR.out.1.form
        obtain ⟨ra, rc, rfl⟩ := hof
        generalize rowsL s F i = LS at hR hst hkl hrl hrow ⊢
        obtain ⟨VS, hVS⟩ : ∃ VS, VS = vs := ⟨_, rfl⟩
        rw [← hVS] at hR
        clear hVS
        have HPG : Hid _ := hR.out
        have hLS : LS.length ≤ 150 := by omega
        have d1 : ((k : Int) == (LS.length : Int)) = false := by simp; omega
        clear hR hrl hcl hcf
        obtain ⟨gr, crr, he, hgrB, hgr, hjr⟩ := PG.pos HPG.out.1 (by omega)
        simp only [Value.slice.injEq] at he
        obtain ⟨rfl, hx1, hx2⟩ := he
        clear hx1 hx2
        have r0 := hjr k hkl
        obtain ⟨l, hl⟩ : ∃ l, l = LS.getD k [] := ⟨_, rfl⟩
        obtain ⟨u, hu⟩ : ∃ u, u = vat VS k := ⟨_, rfl⟩
        rw [← hu] at r0
        have hlb : l.length ≤ 150 := by rw [hl]; exact hrow
        have hwsz := HPG.out.2.size
        have HOW : Hid (∀ W, Below wq.heap.size wq W → W.ownsRow w1.heap.size 44 4 u l.length (bflat l)) := by
          intro W hW
          have := (HPG.out.1.bx k hkl).below hW
          rw [hl, hu]; exact this
        have HFZ : Hid (∀ w5, (wq.drew.alloc (.cells #[.int .i64 b.x0, .int .i64 b.y0, .int .i64 b.x1, .int .i64 b.y1] 44)).grownBy w5 u.ownBlock → w5.cell? ⟨gr, k, none⟩ = some u ∧ w5.frozen? ⟨gr, k, none⟩ = false ∧ gr < w5.heap.size ∧ w5.cell? ⟨gi, i, none⟩ = some (.int .i64 (k : Int))) := by
          intro w5 h5
          have hub : ∀ q, u.ownBlock = some q → ∃ cs, wq.heap[q]? = some (.cells cs 44 (0, 0)) := fun q hq => by rw [hu] at hq; exact ((HPG.out.1.bx k hkl).blk hq).2.2
          have kp : ∀ q, q < wq.heap.size → (∀ cs, wq.heap[q]? ≠ some (.cells cs 44 (0, 0))) → w5.heap[q]? = wq.heap[q]? := by
            intro q hq hn
            rw [h5.block q (by simp; omega) fun e => ?_]
            · exact Below.heap_alloc _ _ _ (by simpa using hq)
            · obtain ⟨cs, hcs⟩ := hub q e.symm; exact hn cs hcs
          have e1 : w5.heap[gr]? = wq.heap[gr]? := kp gr hgr fun cs hcs => by
            obtain ⟨_, _, cs', h3⟩ := HPG.out.1.rowBlk (g := gr) rfl
            exact kinds h3 hcs rfl
          have e2 : w5.heap[gi]? = wq.heap[gi]? := kp gi hgi fun cs hcs => HIB.out cs hcs
          have h1 : w5.ownsRow w1.heap.size 28 1 (.slice (some ⟨gr, 0, none⟩) LS.length rc) LS.length VS := row_kept HPG.out.1.o fun g hgg => by
            simp only [Value.ownBlock, Option.some.injEq] at hgg
            subst hgg; exact e1
          refine ⟨(World.cell?_of_block e1).trans r0, World.ownsRow.frozenAt h1 k, (World.ownsRow.lt h1 gr rfl).2, (World.cell?_of_block e2).trans z0⟩
        have HEND : Hid (∀ w5 g5 c5, w5.ownsRow w1.heap.size 44 4 (.slice (some ⟨g5, 0, none⟩) (l.length + 1) c5) (l.length + 1) (bflat l ++ bcells b) → (wq.drew.alloc (.cells #[.int .i64 b.x0, .int .i64 b.y0, .int .i64 b.x1, .int .i64 b.y1] 44)).grownBy w5 u.ownBlock → (u.ownBlock = some g5 ∨ g5 = wq.heap.size + 1) →
            PG (w5.setCell ⟨gr, k, none⟩ (.slice (some ⟨g5, 0, none⟩) (l.length + 1) c5)) w1.heap.size (.slice (some ⟨gr, 0, none⟩) LS.length rc) (rowsL s F (i + 1)) (VS.set k (.slice (some ⟨g5, 0, none⟩) (l.length + 1) c5)) ∧ Below w1.heap.size w1 (w5.setCell ⟨gr, k, none⟩ (.slice (some ⟨g5, 0, none⟩) (l.length + 1) c5))) := by
          intro w5 g5 c5 ho h5 hat
          rw [hu] at h5 hat
          have hW : Below wq.heap.size wq wq.drew := (Below.refl _ _).drew
          have h1 := HPG.out.1.put hW hkl hl.symm ho h5 (by rcases hat with h | h; exact Or.inl h; exact Or.inr (Or.inl h))
          refine ⟨by rw [hst, ← hl, ← hb]; exact h1, ?_⟩
          have h2 := ((HPG.out.2.drew).alloc hwsz (.cells #[.int .i64 b.x0, .int .i64 b.y0, .int .i64 b.x1, .int .i64 b.y1] 44)).grown h5 (by simp; omega) (fun q hq => ((HPG.out.1.bx k hkl).blk hq).1)
          exact h2.setCell hgrB _
        clear hjr hl hu hst hb hrow
        obtain ⟨m, hm⟩ : ∃ m, m = LS.length := ⟨_, rfl⟩
        have hm150 : m ≤ 150 := by omega
        rw [← hm] at hkl HEND ⊢
        have HX : Hid (m = LS.length) := hm
        clear hm hLS
        have d2 : (0 : Int) ≤ (k : Int) := by omega
        have d3 : (k : Int) < (m : Int) := by omega
        rw [HX.out.symm] at d1
        go_wp2_with (fail)
        go_region_law (refine step_append_lies _ rfl (.tmp 37) (.tmp 42) 28 rfl w1.heap.size 44 i1 (.agg #[.int .i64 0, .int .i64 0, .int .i64 0, .int .i64 0]) 4 32 Try.underlying28 hi1 hq0 hq1 hq2 rfl (by decide) u l.length (bflat l) (by simp [Act.eval, Act.put]) (HOW.out _ (by (repeat' (first | (with_reducible exact Below.refl _ _) | (with_reducible assumption) | (with_reducible refine Below.setCell ?_ ?_ _) | (with_reducible refine Below.alloc ?_ ?_ _) | (with_reducible refine below_drewN ?_ _) | (with_reducible refine Below.drew ?_) | (with_reducible exact Nat.le_refl _) | omega | (simp; done) | (simp; omega))))) ⟨wq.heap.size, 0, none⟩ 1 1 (bcells b) (by simp [Act.eval, Act.put]) rfl (World.news_of_block (cs := #[.int .i64 b.x0, .int .i64 b.y0, .int .i64 b.x1, .int .i64 b.y1]) (t := 44) (fr := (0, 0)) (heap_alloc_new _ _)) (by simp [bcells, Value.oneCell']) (by decide) (by unfold maxLen; omega) (by omega) (by simp; omega) (wq.heap.size + 1) (by simp) ?_; intro g5 c5 w5 hown5 hgrow5 hat5 hlt5; obtain ⟨q0, q1, q2, q3⟩ := HFZ.out w5 hgrow5)
        all_goals
          have R : Hid _ := HEND.out w5 g5 c5 hown5 hgrow5 hat5
          clear hown5 hgrow5 hat5
          go_wp2
          go_roundw
          case rel => exact ⟨i + 1, _, by omega, by go_num, R.out⟩
          case measure => simp [intOf]; omega
    · have ei : n = i := by omega
      subst ei
      have hof := hR.out.1.form
      obtain ⟨ra, rc, rfl⟩ := hof
      have HRW : Hid (∀ l ∈ rowsL s F n, l.length ≤ 150 ∧ ∀ q ∈ l, q.x0 < q.x1) := by
        intro l hl
        unfold rowsL at hl
        obtain ⟨p, hp, rfl⟩ := List.mem_map.1 hl
        refine ⟨by have := selB_len s F p n; omega, fun q hq => ?_⟩
        obtain ⟨t, ht, _, rfl⟩ := selB_mem hq
        exact (H.out.2.2.1.at (k := t) (by rw [← H.out.2.2.2]; exact ht) rfl).1
      have HPE : Hid ((rowsL s F n).map (fun l => opOf (takesK 1) l []) = partsL s F n n) := rowsL_parts s F n
      have hcl := cnt_le F n
      have hrl := rowsL_len s F n
      generalize rowsL s F n = LS at hR HRW HPE hrl ⊢
      obtain ⟨m, hm⟩ : ∃ m, m = LS.length := ⟨_, rfl⟩
      have HM : Hid (m = LS.length) := hm
      have hm150 : m ≤ 150 := by omega
      have H0 : Hid _ := hR.out
      rw [← hm] at H0 ⊢
      clear hR hm hrl hcl hlt
      go_wp2_with (fail)
      go_loopw [6] (fun i wr => ∃ (k : Nat) (us : List Value), k ≤ m ∧ i = .int .i64 k ∧ Hid (PG wr w1.heap.size (.slice ra m rc) (mixO LS k) us ∧ Below w1.heap.size w1 wr)) (fun i _ => m - (intOf i).toNat)
      case atStart => exact ⟨0, vs, Nat.zero_le _, rfl, by have := H0.out; unfold Hid; simpa [mixO] using this⟩
      case round =>
        clear H0
        obtain ⟨k, us, hk, rfl, hR⟩ := hrel
        by_cases hlt : k < m
        · have hkl : k < LS.length := by rw [← HM.out]; exact hlt
          have hml : (mixO LS k).length = m := by rw [mixO_len, HM.out]
          obtain ⟨wq, hwq⟩ : ∃ wq, wq = wr := ⟨_, rfl⟩
          rw [← hwq] at hR ⊢
          clear hwq
          obtain ⟨gr, crr, he, hgrB, hgr, hjr⟩ := PG.pos hR.out.1 (by omega)
          simp only [Value.slice.injEq] at he
          obtain ⟨rfl, hx1, hx2⟩ := he
          clear hx1 hx2
          have r0 := hjr k (by omega)
          obtain ⟨l, hl⟩ : ∃ l, l = LS.getD k [] := ⟨_, rfl⟩
          have hbk := hR.out.1.bx k (by omega)
          rw [mixO_at LS k hkl, ← hl] at hbk
          have hlm : l ∈ LS := by rw [hl, List.getD_eq_getElem?_getD, List.getElem?_eq_getElem hkl]; exact List.getElem_mem hkl
          obtain ⟨hl150, hlx⟩ := HRW.out l hlm
          obtain ⟨ua, uc, hu⟩ := hbk.form
          rw [hu] at r0 hbk
          have HOP : Hid (∀ W, Below wq.heap.size wq W → Calls Try.prog 30 #[.int .i64 1, .slice ua l.length uc, .slice none 0 0] W fun e w' => ∃ v', e = .returned v' ∧ (∃ pa pc, v' = .slice pa (opOf (takesK 1) l []).length pc) ∧ (w'.cell? ⟨gr, k, none⟩ = some (.slice ua l.length uc) ∧ w'.frozen? ⟨gr, k, none⟩ = false ∧ gr < w'.heap.size) ∧ Hid (PG (w'.setCell ⟨gr, k, none⟩ v') w1.heap.size (.slice (some ⟨gr, 0, none⟩) m rc) (mixO LS (k + 1)) (us.set k v') ∧ Below w1.heap.size w1 (w'.setCell ⟨gr, k, none⟩ v'))) := by
            intro W hW
            refine (spec_op 1 ua none uc 0 l [] W (by simp; omega) (hbk.rb.below hW) (BS.nil W 0).rb).mono ?_
            rintro e w' ⟨v', rfl, hbs, hnn, hbl⟩
            have hbw : Below wq.heap.size wq w' := hW.trans (hbl.mono hW.size)
            have hrb := hR.out.1.rowBlk (g := gr) rfl
            have e1 : w'.heap[gr]? = wq.heap[gr]? := hbw.block gr hgr
            have h1 : w'.ownsRow w1.heap.size 28 1 (.slice (some ⟨gr, 0, none⟩) (mixO LS k).length rc) (mixO LS k).length us := row_kept (by have := hR.out.1.o; rwa [hml] at this ⊢) fun g hgg => by
              simp only [Value.ownBlock, Option.some.injEq] at hgg
              subst hgg; exact e1
            refine ⟨v', rfl, hbs.form, ⟨(World.cell?_of_block e1).trans r0, World.ownsRow.frozenAt h1 k, (World.ownsRow.lt h1 gr rfl).2⟩, ?_, ?_⟩
            · rw [← mixO_step LS k hkl, ← hl]
              exact hR.out.1.swap hbw (by omega) (hbs.low hW.size)
            · exact (hR.out.2.trans (hbw.mono hR.out.2.size)).setCell hgrB _
          have hwsz := hR.out.2.size
          clear hjr hl hbk hlm hlx hu hR hml hkl
          have d2 : (0 : Int) ≤ (k : Int) := by omega
          have d3 : (k : Int) < (m : Int) := by omega
          go_wp2_with (fail)
          refine (HOP.out _ (Below.refl _ _)).mono ?_
          rintro e w3 ⟨v3, rfl, ⟨pa, pc, rfl⟩, ⟨q0, q1, q2⟩, R⟩
          clear HOP r0
          go_wp2
          go_roundw
          case rel => exact ⟨k + 1, _, by omega, by go_num, R⟩
          case measure => simp [intOf]; omega
        · have ek : m = k := by omega
          subst ek
          have HO : Hid (PG wr w1.heap.size (.slice ra m rc) (partsL s F n n) us ∧ Below w1.heap.size w1 wr) := by
            have := hR.out
            rwa [mixO_end LS m (by rw [HM.out]; exact Nat.le_refl _), HPE.out] at this
          clear hR
          go_wp2
          go_returns
          exact ⟨_, us, rfl, HO.out.1.pl.low hw1, H1.out.2.2.2.trans (HO.out.2.mono hw1)⟩

end Go.Proofs.Ytlnhfgacgbdjaaa
