/- Proved here: SmallOf of the program: smC, smL. -/
import Derived.Test.YtlnhfgacgbdjaaaSmM
namespace Go.Proofs.Ytlnhfgacgbdjaaa
open Go.RowKit
set_option linter.unusedVariables false
set_option linter.unusedSimpArgs false

theorem op_ne {l : List Bx} {b : Bx} (hb : b ∈ l) (h : b.x0 < b.x1 ∧ b.y0 < b.y1) : opOf (takesK 1) l [] ≠ [] := by
  intro e
  have h1 : inK (rowK l b.y0) b.x0 = true := (inK_cov _ _).2 ⟨b, List.mem_filter.2 ⟨hb, by simp; omega⟩, by omega, h.1⟩
  have h2 := (opOf_cell (takesK 1) rfl l [] b.x0 b.y0).2 (by rw [h1]; cases inK (rowK [] b.y0) b.x0 <;> rfl)
  rw [e] at h2
  obtain ⟨q, hq, _⟩ := h2
  simp [rowK] at hq
theorem parts_ne (s : List Bx) (i : Nat) (hi : i < (partsV s).length) : (partsV s).getD i [] ≠ [] := by
  have key : ∀ k, k ≤ s.length → shapeK s = 0 → ∀ l ∈ partsL s (partF s) s.length k, l ≠ [] := by
    intro k hk h
    have hg : Good s := (boxesK_zero (shapeK_zeroP h).1).2
    induction k with
    | zero => intro l hl; cases hl
    | succ k ih =>
      intro l hl
      simp only [partsL] at hl
      split at hl
      · rename_i hF
        rcases List.mem_append.1 hl with h2 | h2
        · exact ih (by omega) l h2
        · have e : l = opOf (takesK 1) (selB s (partF s) k s.length) [] := by simpa using h2
          rw [e]
          have hb := selB_first (s := s) (F := partF s) (p := k) (k := s.length) (a := k) (by omega) hF
          have hv := hg (bat s k) (by rw [bat_get (by omega : k < s.length)]; exact List.getElem_mem _)
          exact op_ne hb ⟨hv.1, hv.2.1⟩
      · exact ih (by omega) l hl
  unfold partsV at hi ⊢
  split
  · rename_i h
    rw [if_pos h] at hi
    rw [List.getD_eq_getElem?_getD, List.getElem?_eq_getElem hi]
    exact key _ (Nat.le_refl _) h _ (List.getElem_mem hi)
  · rename_i h
    rw [if_neg h] at hi
    exact absurd hi (by simp)
theorem bflat_one (l : List Bx) : ∀ u ∈ bflat l, u.oneCell' = true := by
  intro u hu
  unfold bflat at hu
  obtain ⟨b, _, hb⟩ := List.mem_flatMap.1 hu
  simp only [bcells, List.mem_cons, List.not_mem_nil, or_false] at hb
  rcases hb with rfl | rfl | rfl | rfl <;> simp [Value.oneCell']
/-- What SmallOf answers. -/
noncomputable def smO (s : List Bx) (x : Int) : List Bx := opOf (takesK 1) (smB x (partsV s) (partsV s).length) []
noncomputable def smC (s : List Bx) (x : Int) : Int := if shapeK s = 0 then (if 1 ≤ x ∧ x ≤ 1000000000 then toldC (smO s x).length else 3) else shapeK s
noncomputable def smL (s : List Bx) (x : Int) : List Bx := if shapeK s = 0 then (if 1 ≤ x ∧ x ≤ 1000000000 then toldL (smO s x) else []) else []
theorem BC.some {w : World} {B : Nat} {v : Value} {l : List Bx} (h : BC w B v l) (hl : l ≠ []) : ∃ g c, v = .slice (some ⟨g, 0, none⟩) l.length c ∧ g < w.heap.size ∧ ∀ j u, (bflat l)[j]? = some u → w.cell? ((⟨g, 0, none⟩ : Addr).add j) = some u := by
  obtain ⟨a, c, c', rfl, h⟩ := h
  rcases h.2 with ⟨_, h0⟩ | ⟨g, cap, cur, e, hB, hg, hr⟩
  · exact absurd (List.length_eq_zero_iff.1 h0) hl
  · simp only [Value.slice.injEq, true_and] at e
    obtain ⟨rfl, rfl⟩ := e
    exact ⟨g, c', rfl, (World.ownsRow.lt h g rfl).2, World.ownsRow.cells h rfl⟩

set_option maxHeartbeats 800000 in
theorem impl_withinS (n a b : Int) (r : Bool) (hr : r = (decide (a ≤ n) && decide (n ≤ b))) (w : World) : Calls Try.prog 31 #[.int .i64 n, .int .i64 a, .int .i64 b] w fun e w' => e = .returned (.bool r) ∧ w' = w := by
  have H : Hid ((¬ a ≤ n → r = false) ∧ (a ≤ n → n ≤ b → r = true) ∧ (a ≤ n → ¬ n ≤ b → r = false)) := by
    unfold Hid; rw [hr]
    exact ⟨fun h => by simp [h], fun h1 h2 => by simp [h1, h2], fun h1 h2 => by simp [h1, h2]⟩
  clear hr
  by_cases h1 : a ≤ n
  · by_cases h2 : n ≤ b
    · obtain rfl := H.out.2.1 h1 h2
      go_enter Try.func31, Try.ntmps31
      go_wp2
      go_returns
      exact ⟨rfl, rfl⟩
    · obtain rfl := H.out.2.2 h1 h2
      go_enter Try.func31, Try.ntmps31
      go_wp2
      go_returns
      exact ⟨rfl, rfl⟩
  · obtain rfl := H.out.1 h1
    go_enter Try.func31, Try.ntmps31
    go_wp2
    go_returns
    exact ⟨rfl, rfl⟩


set_option maxRecDepth 10000 in
set_option maxHeartbeats 4000000 in
theorem impl_small (x : Int) {w : World} {a : Option Addr} {s : List Bx} (hn : s.length ≤ 1048576) (h : RB w (.slice a s.length s.length) s) :
    Calls Try.prog 15 #[.slice a s.length s.length, .int .i64 x] w fun e w' => ∃ vs, e = .returned (.agg #[.int .i64 (smC s x), vs]) ∧ BC w' w.heap.size vs (smL s x) ∧ Below w.heap.size w w' := by
  have H : Hid (RB w (.slice a s.length s.length) s ∧ s.length ≤ 1048576) := ⟨h, hn⟩
  clear h hn
  obtain ⟨r, hr⟩ : ∃ r, r = (decide (1 ≤ x) && decide (x ≤ 1000000000)) := ⟨_, rfl⟩
  have HIN : Hid (∀ w, Calls Try.prog 31 #[.int .i64 x, .int .i64 1, .int .i64 1000000000] w fun e w' => e = .returned (.bool r) ∧ w' = w) := impl_withinS x 1 1000000000 r hr
  obtain ⟨y, hy⟩ : ∃ y, y = shapeK s := ⟨_, rfl⟩
  have HZ : Hid (y = shapeK s) := hy
  clear hy
  by_cases hy0 : y = 0
  rotate_left
  · have HE : Hid (smC s x = y ∧ smL s x = []) := by
      unfold Hid smC smL
      rw [HZ.out] at hy0
      rw [if_neg hy0, if_neg hy0]
      exact ⟨HZ.out.symm, rfl⟩
    clear hr
    go_enter Try.func15, Try.ntmps15
    go_wp2_with (fail)
    refine (impl_shape (by have := H.out.2; omega) (Nat.le_refl _) (H.out.1.below ((Below.refl _ _).alloc (Nat.le_refl _) _))).mono ?_
    rintro e w1 ⟨rfl, hb1⟩
    rw [← HZ.out]
    obtain ⟨hk1, hlt1, hB1⟩ := resT hb1
    have HB1 : Hid (Below w.heap.size w w1) := hB1
    obtain ⟨r0, r1, f0, f1, hltR⟩ := cellsT hk1
    clear hb1 hk1 hB1
    go_wp2
    refine bodyPost_ret (by simp [results, Try.results15, go_sem, r0, r1, hltR]; rfl) rfl ⟨.slice none 0 0, ?_, ?_, ?_⟩
    · rw [HE.out.1]
    · rw [HE.out.2]; exact (BS.nil _ _).bc
    · have hb := HB1.out
      (repeat' (first | (with_reducible exact Below.refl _ _) | (with_reducible assumption) | (with_reducible refine Below.setCell ?_ ?_ _) | (with_reducible refine Below.alloc ?_ ?_ _) | (with_reducible refine below_drewN ?_ _) | (with_reducible refine Below.drew ?_) | (with_reducible exact Nat.le_refl _) | omega | (simp; done) | (simp; omega)))
  have hs0 : shapeK s = 0 := by rw [← HZ.out]; exact hy0
  cases r with
  | false =>
    have HE : Hid (smC s x = 3 ∧ smL s x = []) := by
      have hno : ¬ (1 ≤ x ∧ x ≤ 1000000000) := fun e => by
        rw [decide_eq_true e.1, decide_eq_true e.2] at hr
        cases hr
      unfold Hid smC smL
      rw [if_pos hs0, if_pos hs0, if_neg hno, if_neg hno]
      exact ⟨rfl, rfl⟩
    clear hr hs0
    subst hy0
    go_enter Try.func15, Try.ntmps15
    go_wp2_with (fail)
    refine (impl_shape (by have := H.out.2; omega) (Nat.le_refl _) (H.out.1.below ((Below.refl _ _).alloc (Nat.le_refl _) _))).mono ?_
    rintro e w1 ⟨rfl, hb1⟩
    rw [← HZ.out]
    obtain ⟨hk1, hlt1, hB1⟩ := resT hb1
    have HB1 : Hid (Below w.heap.size w w1) := hB1
    obtain ⟨r0, r1, f0, f1, hltR⟩ := cellsT hk1
    clear hb1 hk1 hB1
    go_wp2_with (fail)
    refine (HIN.out w1).mono ?_
    rintro e w0 ⟨rfl, hw0⟩
    subst w0
    go_wp2
    refine bodyPost_ret (by simp [results, Try.results15, go_sem, r0, r1, hltR]; rfl) rfl ⟨.slice none 0 0, ?_, ?_, ?_⟩
    · rw [HE.out.1]
    · rw [HE.out.2]; exact (BS.nil _ _).bc
    · have hb := HB1.out
      (repeat' (first | (with_reducible exact Below.refl _ _) | (with_reducible assumption) | (with_reducible refine Below.setCell ?_ ?_ _) | (with_reducible refine Below.alloc ?_ ?_ _) | (with_reducible refine below_drewN ?_ _) | (with_reducible refine Below.drew ?_) | (with_reducible exact Nat.le_refl _) | omega | (simp; done) | (simp; omega)))
  | true =>
    have hq : 1 ≤ x ∧ x ≤ 1000000000 := by simpa using hr.symm
    obtain ⟨L, hL⟩ : ∃ L, L = partsV s := ⟨_, rfl⟩
    obtain ⟨m, hm⟩ : ∃ m, m = L.length := ⟨_, rfl⟩
    obtain ⟨O, hO⟩ : ∃ O, O = opOf (takesK 1) (smB x L m) [] := ⟨_, rfl⟩
    have HE : Hid (smC s x = toldC O.length ∧ smL s x = toldL O) := by
      have e : O = smO s x := by rw [hO, hm, hL]; rfl
      unfold Hid smC smL
      rw [if_pos hs0, if_pos hs0, if_pos hq, if_pos hq, e]
      exact ⟨rfl, rfl⟩
    have hsz := shapeK_zeroP hs0
    have hbz := boxesK_zero hsz.1
    have HPI : Hid (∀ {W : World}, RB W (.slice a s.length s.length) s → Calls Try.prog 23 #[.slice a s.length s.length] W fun e w' => ∃ v vs, e = .returned v ∧ PL w' W.heap.size v L vs ∧ Below W.heap.size W w') := fun {W} hW => by
      refine (impl_partsIn (by have := hbz.1; omega) (Nat.le_refl _) hbz.2 (Band.form (fun b hb => ⟨(hbz.2 b hb).1, (hbz.2 b hb).2.1⟩) hsz.2) hW).mono ?_
      rintro e w' ⟨v, G, vs, rfl, hG, hpl, hb⟩
      refine ⟨v, vs, rfl, ?_, hb⟩
      rw [partsL_uniq rfl hG] at hpl
      rw [hL]; unfold partsV; rw [if_pos hs0]; exact hpl
    have HLP : Hid (∀ i, Good (L.getD i [])) := fun i => by rw [hL]; exact parts_good s i
    have HLT : Hid (∀ i, tot L i ≤ 45000) := fun i => by rw [hL]; exact parts_all s i
    have HLN : Hid (∀ i, i < m → L.getD i [] ≠ []) := fun i hi => by rw [hL]; exact parts_ne s i (by rw [← hL, ← hm]; exact hi)
    have hm150 : m ≤ 150 := by rw [hm, hL]; unfold partsV; rw [if_pos hs0]; have := partsL_len s (partF s) s.length s.length; have := hbz.1; omega
    have HOF : Hid (∀ {W : World} {v : Value}, RB W v (smB x L m) → Calls Try.prog 34 #[v] W fun e w' => ∃ v', e = .returned v' ∧ BC w' W.heap.size v' O ∧ Below W.heap.size W w') := fun {W v} hW => by
      rw [hO]
      exact impl_oneForm (by have := smB_len x L m; have := HLT.out m; omega) (fun q hq => (smB_good HLP.out m q hq).1) hW
    have HM : Hid (m = L.length) := hm
    clear hO hL hm hs0 hr hsz hbz
    subst hy0
    obtain ⟨i0, hi, hz0, hz1, hz2⟩ := info_parts info_box
    go_enter Try.func15, Try.ntmps15
    go_wp2_with (fail)
    refine (impl_shape (by have := H.out.2; omega) (Nat.le_refl _) (H.out.1.below ((Below.refl _ _).alloc (Nat.le_refl _) _))).mono ?_
    rintro e w1 ⟨rfl, hb1⟩
    rw [← HZ.out]
    obtain ⟨hk1, hlt1, hB1⟩ := resT hb1
    have HB1 : Hid (Below w.heap.size w w1) := hB1
    have HK1 : Hid _ := hk1
    clear hb1 hk1 hB1
    go_wp2_with (fail)
    refine (HIN.out w1).mono ?_
    rintro e w0 ⟨rfl, hw0⟩
    subst w0
    go_wp2_with (fail)
    refine (HPI.out (H.out.1.below HB1.out)).mono ?_
    rintro e w2 ⟨v2, vs, rfl, hpl, hb2⟩
    obtain ⟨pa, pc, hv2⟩ := hpl.form
    rw [← HM.out] at hv2
    subst hv2
    have P2 : Hid (PL w2 w1.heap.size (.slice pa m pc) L vs ∧ Below w1.heap.size w1 w2) := ⟨hpl, hb2⟩
    have hw2 := hb2.size
    clear hpl hb2
    go_wp2_with (fail)
    go_loopw [6, 22] (fun v i wr => ∃ k : Nat, k ≤ m ∧ i = .int .i64 k ∧ Hid (BS wr w2.heap.size v (smB x L k) ∧ Below w2.heap.size w2 wr)) (fun _ i _ => m - (intOf i).toNat)
    case atStart => exact ⟨0, Nat.zero_le _, rfl, BS.nil _ _, Below.refl _ _⟩
    case round =>
      obtain ⟨k, hk, rfl, hR⟩ := hrel
      by_cases hlt : k < m
      · have hP := P2.out.1.below hR.out.2
        obtain ⟨gr, cr, he, _, hgr, hjr⟩ := hP.pm.pos (by rw [← HM.out]; omega)
        simp only [Value.slice.injEq] at he
        obtain ⟨rfl, hx1, hx2⟩ := he
        clear hx1 hx2
        have r0 := hjr k (by rw [← HM.out]; exact hlt)
        obtain ⟨l, hl⟩ : ∃ l, l = L.getD k [] := ⟨_, rfl⟩
        have hbc := hP.bx k (by rw [← HM.out]; exact hlt)
        rw [← hl] at hbc
        obtain ⟨gl, cl, hv, hgl, hcl⟩ := hbc.some (by rw [hl]; exact HLN.out k hlt)
        have hv' : vat vs k = .slice (some ⟨gl, 0, none⟩) l.length cl := hv
        rw [hv'] at r0
        have hrb := hbc.rb
        rw [hv] at hrb
        have hll : l.length ≤ 45000 := by
          have := HLT.out (k + 1)
          simp only [tot] at this
          rw [hl]; omega
        have HCA : Hid (Calls Try.prog 32 #[.slice (some ⟨gl, 0, none⟩) l.length cl] wr fun e w' => e = .returned (.int .i64 (areaS l)) ∧ Below wr.heap.size wr w') := impl_cells hll (by rw [hl]; exact HLP.out k) hrb
        have HST : Hid (smB x L (k + 1) = if areaS l < x then smB x L k ++ l else smB x L k) := by unfold Hid; rw [hl]; rfl
        have hsl : (smB x L k).length ≤ 45000 := Nat.le_trans (smB_len x L k) (HLT.out k)
        have HCL : Hid (∀ W, Below wr.heap.size wr W → ∀ j u, (bflat l)[j]? = some u → W.cell? ((⟨gl, 0, none⟩ : Addr).add j) = some u) := fun W hW j u hu => by
          rw [hW.cell (p := (⟨gl, 0, none⟩ : Addr).add j) (by unfold Addr.add; split <;> exact hgl)]; exact hcl j u hu
        have HR : Hid _ := hR.out
        have hwsz := hR.out.2.size
        clear hP hjr hbc hv hv' hrb hcl hl hR
        generalize smB x L k = out at HST HR hsl
        obtain ⟨A, hA⟩ : ∃ A, A = areaS l := ⟨_, rfl⟩
        rw [← hA] at HCA HST
        clear hA
        have b0 : (0 : Int) ≤ (k : Int) := by omega
        have b1 : (k : Int) < (m : Int) := by omega
        go_wp2_with (fail)
        refine HCA.out.mono ?_
        rintro e w3 ⟨rfl, hb3⟩
        have H3 : Hid (BS w3 w2.heap.size u6 out ∧ Below w2.heap.size w2 w3 ∧ Below wr.heap.size wr w3) := ⟨HR.out.1.below hb3, HR.out.2.trans (hb3.mono hwsz), hb3⟩
        have hw3 := H3.out.2.1.size
        clear hb3 HR HCA r0
        by_cases hax : A < x
        · have hof := H3.out.1.form
          obtain ⟨oa, oc, rfl⟩ := hof
          go_wp2_with (at_builtin; refine wpList_append_own _ rfl _ _ 28 rfl w2.heap.size 44 i0 (.agg #[.int .i64 0, .int .i64 0, .int .i64 0, .int .i64 0]) 4 32 Try.underlying28 hi hz0 hz1 hz2 rfl (by decide) _ _ _ rfl H3.out.1 ⟨gl, 0, none⟩ l.length cl (bflat l) rfl (bflat_length l) (HCL.out _ H3.out.2.2) (bflat_one l) (by unfold maxLen; omega) (by omega) hw3 ?_; intro v5 w5 hown5 hgrow5 _)
          have R : Hid (BS w5 w2.heap.size v5 (smB x L (k + 1)) ∧ Below w2.heap.size w2 w5) := by
            unfold Hid
            rw [HST.out, if_pos hax]
            refine ⟨?_, H3.out.2.1.grown hgrow5 hw3 (fun q hq => (World.ownsRow.lt H3.out.1 q hq).1)⟩
            unfold BS
            rw [bflat_append, List.length_append]
            exact hown5
          clear hown5 hgrow5 HST H3
          go_wp2
          go_roundw
          case rel => exact ⟨k + 1, by omega, by go_num, R.out⟩
          case measure => simp [intOf]; omega
        · have R : Hid (BS w3 w2.heap.size u6 (smB x L (k + 1)) ∧ Below w2.heap.size w2 w3) := by
            unfold Hid
            rw [HST.out, if_neg hax]
            exact ⟨H3.out.1, H3.out.2.1⟩
          clear HST H3
          go_wp2
          go_roundw
          case rel => exact ⟨k + 1, by omega, by go_num, R.out⟩
          case measure => simp [intOf]; omega
      · have ek : m = k := by omega
        subst ek
        have HR : Hid _ := hR.out
        have hof := hR.out.1.form
        obtain ⟨oa, oc, rfl⟩ := hof
        have hw3 := hR.out.2.size
        clear hR
        go_wp2_with (fail)
        refine (HOF.out HR.out.1.rb).mono ?_
        rintro e w7 ⟨v7, rfl, ho7, hb7⟩
        obtain ⟨a2, c2, rfl⟩ : ∃ a2 c2, v7 = .slice a2 O.length c2 := by obtain ⟨x, y, z, e, _⟩ := ho7; exact ⟨x, z, e⟩
        have HO : Hid (BC w7 w1.heap.size (.slice a2 O.length c2) O) := ho7.low (by omega)
        have HB2 : Hid (Below w1.heap.size w1 w7) := P2.out.2.trans ((HR.out.2.trans (hb7.mono hw3)).mono hw2)
        clear ho7 hb7 HR
        go_wp2_with (fail)
        refine (impl_answer a2 _ c2 w7).mono ?_
        rintro e w8 ⟨rfl, hb8⟩
        have hk8 := (hb8.block _ (Nat.lt_of_lt_of_le hlt1 HB2.out.size)).trans ((HB2.out.block _ hlt1).trans HK1.out)
        obtain ⟨r0, r1, f0, f1, hltR⟩ := cellsT hk8
        have HR : Hid (BC w8 w1.heap.size (toldV (.slice a2 O.length c2) O.length) (toldL O) ∧ Below w.heap.size w w8) := ⟨(told_bc HO.out).below hb8, HB1.out.trans ((HB2.out.mono (Nat.le_of_lt hlt1)).trans (hb8.mono (Nat.le_of_lt (Nat.lt_of_lt_of_le hlt1 HB2.out.size))))⟩
        clear hb8 hk8
        obtain ⟨a3, c3, h3⟩ : ∃ a3 c3, toldV (.slice a2 O.length c2) O.length = .slice a3 (toldL O).length c3 := by obtain ⟨x, y, z, e, _⟩ := HR.out.1; exact ⟨x, z, e⟩
        rw [h3] at HR ⊢
        clear h3
        go_wp2
        refine bodyPost_ret (by simp [results, Try.results15, go_sem, r0, r1, hltR]; rfl) rfl ⟨.slice a3 (toldL O).length c3, ?_, ?_, ?_⟩
        · rw [HE.out.1]
        · rw [HE.out.2]
          refine (HR.out.1.kept fun g hg => ?_).low (Nat.le_of_lt hlt1)
          have hge := HR.out.1.lt hg
          rw [heap_setCell_other _ _ _ _ (by simp; omega), heap_setCell_other _ _ _ _ (by simp; omega)]
        · have hb := HR.out.2
          (repeat' (first | (with_reducible exact Below.refl _ _) | (with_reducible assumption) | (with_reducible refine Below.setCell ?_ ?_ _) | (with_reducible refine Below.alloc ?_ ?_ _) | (with_reducible refine below_drewN ?_ _) | (with_reducible refine Below.drew ?_) | (with_reducible exact Nat.le_refl _) | omega | (simp; done) | (simp; omega)))

end Go.Proofs.Ytlnhfgacgbdjaaa
