/- Proved here: SmallOf of the model: smC, smL. -/
import Derived.Test.YtlnhfgacgbdjaaaSmI
import Derived.Test.YtlnhfgacgbdjaaaPsW
namespace Go.Proofs.Ytlnhfgacgbdjaaa
open Go.RowKit
set_option linter.unusedVariables false
set_option linter.unusedSimpArgs false

theorem PL.keepG {w w' : World} {B : Nat} {v : Value} {ls : List (List Bx)} {vs : List Value} (h : PL w B v ls vs) (hb : ∀ g, B ≤ g → g < w.heap.size → w'.heap[g]? = w.heap[g]?) : PL w' B v ls vs := by
  refine ⟨row_kept h.o fun g hg => hb g (World.ownsRow.lt h.o g hg).1 (World.ownsRow.lt h.o g hg).2, fun i hi => (h.bx i hi).kept fun g hg => hb g ((h.bx i hi).lt hg) ((h.bx i hi).blk hg).1, h.ds⟩
/-- A list that was begun ahead of the parts, and goes on behind them. -/
structure SQ (w1 w2 wr : World) (v : Value) (l : List Bx) : Prop where
  o : BS wr w1.heap.size v l
  bl : Below w1.heap.size w1 wr
  sz : w2.heap.size ≤ wr.heap.size
  kp : ∀ g, w1.heap.size < g → g < w2.heap.size → wr.heap[g]? = w2.heap[g]?
  at' : ∀ g, v.ownBlock = some g → g = w1.heap.size ∨ w2.heap.size ≤ g
theorem SQ.next {w1 w2 wr w' : World} {v : Value} {l : List Bx} (h : SQ w1 w2 wr v l) (hb : Below wr.heap.size wr w') : SQ w1 w2 w' v l :=
  ⟨h.o.below hb, h.bl.trans (hb.mono h.bl.size), Nat.le_trans h.sz hb.size, fun g h1 h2 => (hb.block g (by have := h.sz; omega)).trans (h.kp g h1 h2), h.at'⟩
theorem SQ.push {w1 w2 wr w5 : World} {v : Value} {out l : List Bx} {g5 c5 : Nat} (h : SQ w1 w2 wr v out) (ho : w5.ownsRow w1.heap.size 44 4 (.slice (some ⟨g5, 0, none⟩) (out.length + l.length) c5) (out.length + l.length) (bflat out ++ bflat l)) (hg : wr.grownBy w5 v.ownBlock) (hat : v.ownBlock = some g5 ∨ g5 = wr.heap.size) : SQ w1 w2 w5 (.slice (some ⟨g5, 0, none⟩) (out.length + l.length) c5) (out ++ l) := by
  have hs := h.sz
  have hb := h.bl.size
  refine ⟨?_, h.bl.grown hg hb (fun q hq => (World.ownsRow.lt h.o q hq).1), Nat.le_trans hs hg.size, fun g h1 h2 => ?_, fun g hgg => ?_⟩
  · unfold BS
    rw [bflat_append, List.length_append]
    exact ho
  · rw [hg.block g (by omega) fun e => ?_]
    · exact h.kp g h1 h2
    · have := h.at' g e.symm
      omega
  · simp only [Value.ownBlock, Option.some.injEq] at hgg
    subst hgg
    rcases hat with e | e
    · exact h.at' g5 e
    · exact Or.inr (by omega)

set_option maxRecDepth 10000 in
set_option maxHeartbeats 4000000 in
theorem spec_small (x : Int) {w : World} {a : Option Addr} {s : List Bx} (hn : s.length ≤ 1048576) (h : RB w (.slice a s.length s.length) s) :
    Calls Try.prog 14 #[.slice a s.length s.length, .int .i64 x] w fun e w' => ∃ vs, e = .returned (.agg #[.int .i64 (smC s x), vs]) ∧ BS w' w.heap.size vs (smL s x) ∧ Below w.heap.size w w' := by
  have H : Hid (RB w (.slice a s.length s.length) s ∧ s.length ≤ 1048576) := ⟨h, hn⟩
  clear h hn
  obtain ⟨r, hr⟩ : ∃ r, r = (decide (1 ≤ x) && decide (x ≤ 1000000000)) := ⟨_, rfl⟩
  obtain ⟨y, hy⟩ : ∃ y, y = shapeK s := ⟨_, rfl⟩
  have HZ : Hid (y = shapeK s) := hy
  clear hy
  by_cases hy0 : y = 0
  rotate_left
  · have HE : Hid (smC s x = y ∧ smL s x = []) := by
      unfold Hid smC smL
      rw [HZ.out] at hy0
      rw [if_neg hy0, if_neg hy0]
      exact ⟨HZ.out.symm, rfl⟩
    clear hr
    go_enter Try.func14, Try.ntmps14
    go_wp2_with (fail)
    refine (spec_shape (H.out.1.below ((Below.refl _ _).alloc (Nat.le_refl _) _))).mono ?_
    rintro e w1 ⟨rfl, hb1⟩
    rw [← HZ.out]
    obtain ⟨hk1, hlt1, hB1⟩ := resT hb1
    have HB1 : Hid (Below w.heap.size w w1) := hB1
    obtain ⟨r0, r1, f0, f1, hltR⟩ := cellsT hk1
    clear hb1 hk1 hB1
    go_wp2
    refine bodyPost_ret (by simp [results, Try.results14, go_sem, r0, r1, hltR]; rfl) rfl ⟨.slice none 0 0, ?_, ?_, ?_⟩
    · rw [HE.out.1]
    · rw [HE.out.2]; exact BS.nil _ _
    · have hb := HB1.out
      (repeat' (first | (with_reducible exact Below.refl _ _) | (with_reducible assumption) | (with_reducible refine Below.setCell ?_ ?_ _) | (with_reducible refine Below.alloc ?_ ?_ _) | (with_reducible refine below_drewN ?_ _) | (with_reducible refine Below.drew ?_) | (with_reducible exact Nat.le_refl _) | omega | (simp; done) | (simp; omega)))
  have hs0 : shapeK s = 0 := by rw [← HZ.out]; exact hy0
  cases r with
  | false =>
    have HE : Hid (smC s x = 3 ∧ smL s x = []) := by
      have hno : ¬ (1 ≤ x ∧ x ≤ 1000000000) := fun e => by
        rw [decide_eq_true e.1, decide_eq_true e.2] at hr
        cases hr
      unfold Hid smC smL
      rw [if_pos hs0, if_pos hs0, if_neg hno, if_neg hno]
      exact ⟨rfl, rfl⟩
    have hno : x < 1 ∨ (¬ x < 1 ∧ 1000000000 < x) := by
      by_cases e : x < 1
      · exact Or.inl e
      · refine Or.inr ⟨e, ?_⟩
        have : ¬ (1 ≤ x ∧ x ≤ 1000000000) := fun e => by
          rw [decide_eq_true e.1, decide_eq_true e.2] at hr
          cases hr
        omega
    clear hr hs0
    subst hy0
    rcases hno with n1 | ⟨n1, n2⟩
    all_goals
      go_enter Try.func14, Try.ntmps14
      go_wp2_with (fail)
      refine (spec_shape (H.out.1.below ((Below.refl _ _).alloc (Nat.le_refl _) _))).mono ?_
      rintro e w1 ⟨rfl, hb1⟩
      rw [← HZ.out]
      obtain ⟨hk1, hlt1, hB1⟩ := resT hb1
      have HB1 : Hid (Below w.heap.size w w1) := hB1
      obtain ⟨r0, r1, f0, f1, hltR⟩ := cellsT hk1
      clear hb1 hk1 hB1
      go_wp2
      refine bodyPost_ret (by simp [results, Try.results14, go_sem, r0, r1, hltR]; rfl) rfl ⟨.slice none 0 0, ?_, ?_, ?_⟩
      · rw [HE.out.1]
      · rw [HE.out.2]; exact BS.nil _ _
      · have hb := HB1.out
        (repeat' (first | (with_reducible exact Below.refl _ _) | (with_reducible assumption) | (with_reducible refine Below.setCell ?_ ?_ _) | (with_reducible refine Below.alloc ?_ ?_ _) | (with_reducible refine below_drewN ?_ _) | (with_reducible refine Below.drew ?_) | (with_reducible exact Nat.le_refl _) | omega | (simp; done) | (simp; omega)))
  | true =>
    have hq : 1 ≤ x ∧ x ≤ 1000000000 := by simpa using hr.symm
    have n1 : ¬ x < 1 := by omega
    have n2 : ¬ 1000000000 < x := by omega
    obtain ⟨L, hL⟩ : ∃ L, L = partsV s := ⟨_, rfl⟩
    obtain ⟨m, hm⟩ : ∃ m, m = L.length := ⟨_, rfl⟩
    obtain ⟨O, hO⟩ : ∃ O, O = opOf (takesK 1) (smB x L m) [] := ⟨_, rfl⟩
    have HE : Hid (smC s x = toldC O.length ∧ smL s x = toldL O) := by
      have e : O = smO s x := by rw [hO, hm, hL]; rfl
      unfold Hid smC smL
      rw [if_pos hs0, if_pos hs0, if_pos hq, if_pos hq, e]
      exact ⟨rfl, rfl⟩
    have hsz := shapeK_zeroP hs0
    have hbz := boxesK_zero hsz.1
    have HPI : Hid (∀ {W : World}, RB W (.slice a s.length s.length) s → Calls Try.prog 20 #[.slice a s.length s.length] W fun e w' => ∃ v vs, e = .returned v ∧ PL w' W.heap.size v L vs ∧ Below W.heap.size W w') := fun {W} hW => by
      refine (spec_l4List hbz.1 (rise_of (fun b hb => ⟨(hbz.2 b hb).1, (hbz.2 b hb).2.1⟩) hsz.2) (partF_lab s) hbz.2 hW).mono ?_
      rintro e w' ⟨v, vs, rfl, hpl, hb⟩
      refine ⟨v, vs, rfl, ?_, hb⟩
      rw [hL]; unfold partsV; rw [if_pos hs0]; exact hpl
    have HLP : Hid (∀ i, Good (L.getD i [])) := fun i => by rw [hL]; exact parts_good s i
    have HLT : Hid (∀ i, tot L i ≤ 45000) := fun i => by rw [hL]; exact parts_all s i
    have HLN : Hid (∀ i, i < m → L.getD i [] ≠ []) := fun i hi => by rw [hL]; exact parts_ne s i (by rw [← hL, ← hm]; exact hi)
    have hm150 : m ≤ 150 := by rw [hm, hL]; unfold partsV; rw [if_pos hs0]; have := partsL_len s (partF s) s.length s.length; have := hbz.1; omega
    have HOP : Hid (∀ {W : World} {oa : Option Addr} {oc : Nat}, RB W (.slice oa (smB x L m).length oc) (smB x L m) → Calls Try.prog 30 #[.int .i64 1, .slice oa (smB x L m).length oc, .slice none 0 0] W fun e w' => ∃ v', e = .returned v' ∧ BS w' W.heap.size v' O ∧ Below W.heap.size W w') := fun {W oa oc} hW => by
      rw [hO]
      refine (spec_op 1 oa none oc 0 (smB x L m) [] W (by have := smB_len x L m; have := HLT.out m; simp; omega) hW (BS.nil W 0).rb).mono ?_
      rintro e w' ⟨v', rfl, h1, _, h2⟩
      exact ⟨v', rfl, h1, h2⟩
    have HM : Hid (m = L.length) := hm
    clear hO hL hm hs0 hr hsz hbz
    subst hy0
    obtain ⟨i0, hi, hz0, hz1, hz2⟩ := info_parts info_box
    go_enter Try.func14, Try.ntmps14
    go_wp2_with (fail)
    refine (spec_shape (H.out.1.below ((Below.refl _ _).alloc (Nat.le_refl _) _))).mono ?_
    rintro e w1 ⟨rfl, hb1⟩
    rw [← HZ.out]
    obtain ⟨hk1, hlt1, hB1⟩ := resT hb1
    have HB1 : Hid (Below w.heap.size w w1) := hB1
    have HK1 : Hid _ := hk1
    clear hb1 hk1 hB1
    go_wp2_with (fail)
    obtain ⟨W1, hW1⟩ : ∃ W1, W1 = w1.alloc (.cells #[] 44) := ⟨_, rfl⟩
    rw [← hW1]
    have hbW : Below w1.heap.size w1 W1 := by rw [hW1]; exact (Below.refl _ _).alloc (Nat.le_refl _) _
    have hW1s : W1.heap.size = w1.heap.size + 1 := by rw [hW1]; simp
    have HS1 : Hid (BS W1 w1.heap.size (.slice (some ⟨w1.heap.size, 0, none⟩) 0 0) []) := by rw [hW1]; exact BS.lit0 w1 _ (Nat.le_refl _)
    have HBW : Hid (Below w1.heap.size w1 W1) := hbW
    clear hW1 hbW
    refine (HPI.out ((H.out.1.below HB1.out).below HBW.out)).mono ?_
    rintro e w2 ⟨v2, vs, rfl, hpl, hb2⟩
    obtain ⟨pa, pc, hv2⟩ := hpl.form
    rw [← HM.out] at hv2
    subst hv2
    have P2 : Hid (PL w2 W1.heap.size (.slice pa m pc) L vs ∧ Below w1.heap.size w1 w2 ∧ BS w2 w1.heap.size (.slice (some ⟨w1.heap.size, 0, none⟩) 0 0) []) := ⟨hpl, HBW.out.trans (hb2.mono HBW.out.size), HS1.out.below hb2⟩
    have hw2 := hb2.size
    clear hpl hb2
    go_wp2_with (fail)
    go_loopw [6, 8] (fun v i wr => ∃ k : Nat, k ≤ m ∧ i = .int .i64 k ∧ Hid (SQ w1 w2 wr v (smB x L k))) (fun _ i _ => m - (intOf i).toNat)
    case atStart => exact ⟨0, Nat.zero_le _, rfl, P2.out.2.2, P2.out.2.1, Nat.le_refl _, fun g _ _ => rfl, fun g hg => by simp only [Value.ownBlock, Option.some.injEq] at hg; exact Or.inl hg.symm⟩
    case round =>
      obtain ⟨k, hk, rfl, hR⟩ := hrel
      by_cases hlt : k < m
      · have hP := P2.out.1.keepG (w' := wr) fun g h1 h2 => hR.out.kp g (by omega) h2
        obtain ⟨gr, cr, he, _, hgr, hjr⟩ := hP.pm.pos (by rw [← HM.out]; omega)
        simp only [Value.slice.injEq] at he
        obtain ⟨rfl, hx1, hx2⟩ := he
        clear hx1 hx2
        have r0 := hjr k (by rw [← HM.out]; exact hlt)
        obtain ⟨l, hl⟩ : ∃ l, l = L.getD k [] := ⟨_, rfl⟩
        have hbc := hP.bx k (by rw [← HM.out]; exact hlt)
        rw [← hl] at hbc
        obtain ⟨gl, cl, hv, hgl, hcl⟩ := hbc.some (by rw [hl]; exact HLN.out k hlt)
        have hv' : vat vs k = .slice (some ⟨gl, 0, none⟩) l.length cl := hv
        rw [hv'] at r0
        have hrb := hbc.rb
        rw [hv] at hrb
        have hl0 : 0 < l.length := List.length_pos_iff.2 (by rw [hl]; exact HLN.out k hlt)
        have hll : l.length ≤ 45000 := by
          have := HLT.out (k + 1)
          simp only [tot] at this
          rw [hl]; omega
        have HCA : Hid (Calls Try.prog 28 #[.slice (some ⟨gl, 0, none⟩) l.length cl] wr fun e w' => e = .returned (.int .i64 (areaS l)) ∧ Below wr.heap.size wr w') := spec_area hll (by rw [hl]; exact HLP.out k) hrb
        have HST : Hid (smB x L (k + 1) = if areaS l < x then smB x L k ++ l else smB x L k) := by unfold Hid; rw [hl]; rfl
        have hsl : (smB x L k).length ≤ 45000 := Nat.le_trans (smB_len x L k) (HLT.out k)
        have HCL : Hid (∀ W, Below wr.heap.size wr W → ∀ j u, (bflat l)[j]? = some u → W.cell? ((⟨gl, 0, none⟩ : Addr).add j) = some u) := fun W hW j u hu => by
          rw [hW.cell (p := (⟨gl, 0, none⟩ : Addr).add j) (by unfold Addr.add; split <;> exact hgl)]; exact hcl j u hu
        have HR : Hid _ := hR.out
        clear hP hjr hbc hv hv' hrb hcl hl hR
        generalize smB x L k = out at HST HR hsl
        obtain ⟨A, hA⟩ : ∃ A, A = areaS l := ⟨_, rfl⟩
        rw [← hA] at HCA HST
        clear hA
        have b0 : (0 : Int) ≤ (k : Int) := by omega
        have b1 : (k : Int) < (m : Int) := by omega
        go_wp2_with (fail)
        refine HCA.out.mono ?_
        rintro e w3 ⟨rfl, hb3⟩
        have H3 : Hid (SQ w1 w2 w3 u6 out ∧ Below wr.heap.size wr w3) := ⟨HR.out.next hb3, hb3⟩
        have r1 : w3.cell? ⟨gr, k, none⟩ = some (.slice (some ⟨gl, 0, none⟩) l.length cl) := (hb3.cell (p := ⟨gr, k, none⟩) hgr).trans r0
        have hw3 := H3.out.1.sz
        have hw13 := H3.out.1.bl.size
        clear hb3 HR HCA r0
        by_cases hax : A < x
        · have hof := H3.out.1.o.form
          obtain ⟨oa, oc, rfl⟩ := hof
          go_wp2_with (at_builtin; refine wpList_append_lies _ rfl _ _ 28 rfl w1.heap.size 44 i0 (.agg #[.int .i64 0, .int .i64 0, .int .i64 0, .int .i64 0]) 4 32 Try.underlying28 hi hz0 hz1 hz2 rfl (by decide) _ _ _ rfl H3.out.1.o ⟨gl, 0, none⟩ l.length cl (bflat l) rfl (bflat_length l) (HCL.out _ H3.out.2) (bflat_one l) hl0 (by unfold maxLen; omega) (by omega) hw13 _ rfl ?_; intro g5 c5 w5 hown5 hgrow5 hat5 hlt5)
          have R : Hid (SQ w1 w2 w5 (.slice (some ⟨g5, 0, none⟩) (out.length + l.length) c5) (smB x L (k + 1))) := by
            unfold Hid
            rw [HST.out, if_pos hax]
            exact H3.out.1.push hown5 hgrow5 hat5
          clear hown5 hgrow5 hat5 HST H3
          go_wp2
          go_roundw
          case rel => exact ⟨k + 1, by omega, by go_num, R.out⟩
          case measure => simp [intOf]; omega
        · have R : Hid (SQ w1 w2 w3 u6 (smB x L (k + 1))) := by
            unfold Hid
            rw [HST.out, if_neg hax]
            exact H3.out.1
          clear HST H3
          go_wp2
          go_roundw
          case rel => exact ⟨k + 1, by omega, by go_num, R.out⟩
          case measure => simp [intOf]; omega
      · have ek : m = k := by omega
        subst ek
        have HR : Hid _ := hR.out
        have hof := hR.out.o.form
        obtain ⟨oa, oc, rfl⟩ := hof
        clear hR
        go_wp2_with (fail)
        refine (HOP.out HR.out.o.rb).mono ?_
        rintro e w7 ⟨v7, rfl, ho7, hb7⟩
        obtain ⟨a2, c2, rfl⟩ := ho7.form
        have hw13 := HR.out.bl.size
        have HO : Hid (BS w7 w1.heap.size (.slice a2 O.length c2) O) := ho7.low hw13
        have HB2 : Hid (Below w1.heap.size w1 w7) := HR.out.bl.trans (hb7.mono hw13)
        clear ho7 hb7 HR
        go_wp2_with (fail)
        refine (spec_told a2 _ c2 w7).mono ?_
        rintro e w8 ⟨rfl, hb8⟩
        have hk8 := (hb8.block _ (Nat.lt_of_lt_of_le hlt1 HB2.out.size)).trans ((HB2.out.block _ hlt1).trans HK1.out)
        obtain ⟨r0, r1, f0, f1, hltR⟩ := cellsT hk8
        have HR : Hid (BS w8 w1.heap.size (toldV (.slice a2 O.length c2) O.length) (toldL O) ∧ Below w.heap.size w w8) := ⟨(told_bs HO.out).below hb8, HB1.out.trans ((HB2.out.mono (Nat.le_of_lt hlt1)).trans (hb8.mono (Nat.le_of_lt (Nat.lt_of_lt_of_le hlt1 HB2.out.size))))⟩
        clear hb8 hk8
        obtain ⟨a3, c3, h3⟩ := HR.out.1.form
        rw [h3] at HR ⊢
        clear h3
        go_wp2
        refine bodyPost_ret (by simp [results, Try.results14, go_sem, r0, r1, hltR]; rfl) rfl ⟨.slice a3 (toldL O).length c3, ?_, ?_, ?_⟩
        · rw [HE.out.1]
        · rw [HE.out.2]
          refine (HR.out.1.kept fun g hg => ?_).low (Nat.le_of_lt hlt1)
          have hge := (World.ownsRow.lt HR.out.1 g hg).1
          rw [heap_setCell_other _ _ _ _ (by simp; omega), heap_setCell_other _ _ _ _ (by simp; omega)]
        · have hb := HR.out.2
          (repeat' (first | (with_reducible exact Below.refl _ _) | (with_reducible assumption) | (with_reducible refine Below.setCell ?_ ?_ _) | (with_reducible refine Below.alloc ?_ ?_ _) | (with_reducible refine below_drewN ?_ _) | (with_reducible refine Below.drew ?_) | (with_reducible exact Nat.le_refl _) | omega | (simp; done) | (simp; omega)))

end Go.Proofs.Ytlnhfgacgbdjaaa
