/- Proved here: 'whatever comes, a talk says a thing three times at most, and ends: behind nine ticks it is done or has failed, if it had begun', for every code of bytes, without a condition. -/
import Derived.Test.YtejpjbihdclngaaTrunI
import Derived.Test.YtejpjbihdclngaaTrunS
import Derived.Test.YtejpjbihdclngaaTalkD
import Derived.Test.YtejpjbihdclngaaTalkE
import Derived.Test.YtejpjbihdclngaaLwC
import Derived.Test.YtejpjbihdclngaaLwI
import Derived.Test.YtejpjbihdclngaaCpA
import Derived.Test.YtejpjbihdclngaaOpN
import Derived.Test.YtejpjbihdclngaaRows
import Derived.Deep.RegionHeld3
import Derived.Deep.QuietTactic
import Derived.BigQuiet
import Derived.OpenShut
import Derived.ChangeOld
import Derived.Below
import Derived.Deep.Cut
namespace Go.Proofs.Ytejpjbihdclngaa
open Go.ChangeShapes Go.WideShapes Go.ChangeAt Go.RowKit
set_option linter.unusedVariables false
set_option linter.unusedSimpArgs false

theorem below_allocT (w : World) (o : Obj) : Below w.heap.size w (w.alloc o) := (Below.refl _ _).alloc (Nat.le_refl _) _
theorem is_bel {w w' : World} {B : Nat} {v : Value} {s : List Int} (h : IS w B v s) (hb : Below w.heap.size w w') : IS w' B v s := h.kept fun g hg => hb.block g (World.ownsRow.lt h g hg).2
/-- Where the law stands: the events, the answer and its list. -/
structure TA (w V : World) (K : Nat) (o : Obj) (v1 v2 : Value) (s L : List Int) : Prop where
  bl : Below w.heap.size w V
  ev : IS V w.heap.size v1 s
  ans : V.heap[K]? = some o
  li : IS V w.heap.size v2 L
theorem TA.next {w V V' : World} {K : Nat} {o : Obj} {v1 v2 : Value} {s L : List Int} (h : TA w V K o v1 v2 s L) (hb : Below V.heap.size V V') : TA w V' K o v1 v2 s L :=
  ⟨h.bl.trans (hb.mono h.bl.size), is_bel h.ev hb, (hb.block K (ltOf h.ans)).trans h.ans, is_bel h.li hb⟩
theorem news_is {w : World} {B g n c : Nat} {xs : List Int} (h : IS w B (.slice (some ⟨g, 0, none⟩) n c) xs) : ∀ j u, (xs.map (Value.int .i64))[j]? = some u → w.cell? ((⟨g, 0, none⟩ : Addr).add j) = some u := by
  intro j u hu
  have hj : j < xs.length := by
    rcases Nat.lt_or_ge j xs.length with h' | h'
    · exact h'
    · rw [List.getElem?_eq_none (by simpa using h')] at hu; cases hu
  obtain ⟨g', c', e, _, _, hc⟩ := h.pos (by omega)
  simp only [Value.slice.injEq, Option.some.injEq, Addr.mk.injEq] at e
  obtain ⟨⟨rfl, _, _⟩, _, _⟩ := e
  have hadd : (⟨g, 0, none⟩ : Addr).add j = ⟨g, j, none⟩ := by unfold Addr.add; split <;> simp_all
  rw [hadd, hc j hj]
  rw [List.getElem?_map, List.getElem?_eq_getElem hj] at hu
  simp at hu
  rw [← hu, List.getD_eq_getElem?_getD, List.getElem?_eq_getElem hj]
  rfl
theorem one_is (xs : List Int) : ∀ u ∈ xs.map (Value.int .i64), u.oneCell' = true := by
  intro u hu; obtain ⟨z, _, rfl⟩ := List.mem_map.1 hu; rfl
theorem join_is {w : World} {B : Nat} {v : Value} {xs ys : List Int} (h : w.ownsRow B 2 1 v (xs.length + ys.length) (xs.map (Value.int .i64) ++ ys.map (Value.int .i64))) : IS w B v (xs ++ ys) := by
  unfold IS
  rw [List.length_append, List.map_append]
  exact h
theorem tk_field {C P T Q : Int} {a : Option Addr} {n c : Nat} (w : World) : (Instr.field 29 (.agg #[.int .i64 C, .int .i64 P, .int .i64 T, .int .i64 Q, .slice a n c]) 1).run Try.prog w = .ok (.agg #[.int .i64 P, .int .i64 T, .int .i64 Q]) w := by kernel_rfl
theorem tk_field0 {P T Q : Int} (w : World) : (Instr.field 27 (.agg #[.int .i64 P, .int .i64 T, .int .i64 Q]) 0).run Try.prog w = .ok (.int .i64 P) w := by kernel_rfl
theorem lit_is (w : World) (B : Nat) (hB : B ≤ w.heap.size) : IS (w.alloc (.cells #[] 2)) B (.slice (some ⟨w.heap.size, 0, none⟩) 0 0) [] := by
  have := World.ownsRow_lit (e := 2) (size := 1) (base := B) w #[] 0 hB (by decide) (by simp)
  exact this
theorem rep_snoc (k : Nat) : List.replicate k (4 : Int) ++ [4] = List.replicate (k + 1) 4 := by rw [List.replicate_succ']

set_option maxRecDepth 10000 in
set_option maxHeartbeats 6400000 in
theorem law_ta (ca : Option Addr) (n cap : Nat) (bs : Nat → Int) (w : World) (hnn : n ≤ maxLen) (hB : ∀ j, 0 ≤ bs j ∧ bs j ≤ 255)
    (hC : 0 < n → ∃ g off, ca = some ⟨g, off, none⟩ ∧ g < w.heap.size ∧ ∀ j, j < n → w.cell? ⟨g, off + j, none⟩ = some (.int .u8 (bs j))) :
    Calls Try.prog 3 #[.slice ca n cap] w fun e w' => e = .returned (.bool true) ∧ Below w.heap.size w w' := by
  by_cases hbig : (1048576 : Int) < n
  · go_enter Try.func3, Try.ntmps3
    go_wp2_with (fail)
    clear hB hC
    refine (big_any _ _ _ _ hnn).mono ?_
    rintro e w' ⟨rfl, hww⟩
    obtain rfl : w = w' := hww.symm
    go_wp2
    go_returns
    exact ⟨rfl, Below.refl _ _⟩
  have hbig' : decide ((1048576 : Int) < n) = false := by simpa using hbig
  have H : Hid (n ≤ 140737488351232 ∧ (∀ j, 0 ≤ bs j ∧ bs j ≤ 255) ∧ (0 < n → ∃ g off, ca = some ⟨g, off, none⟩ ∧ g < w.heap.size ∧ ∀ j, j < n → w.cell? ⟨g, off + j, none⟩ = some (.int .u8 (bs j)))) := ⟨by omega, hB, hC⟩
  clear hB hC
  obtain ⟨i0, hi, hz0, hz1, hz2⟩ := info_parts info_i64
  go_enter Try.func3, Try.ntmps3
  go_wp2_with (fail)
  refine (big_any _ _ _ _ hnn).mono ?_
  rintro e w' ⟨rfl, hww⟩
  obtain rfl : w = w' := hww.symm
  go_wp2_with (fail)
  refine (drawTk_any ca n cap bs _ H.out.1 H.out.2.1 H.out.2.2).mono ?_
  rintro e w1 ⟨v1, s, rfl, i1, l1, hb1⟩
  obtain ⟨a1, c1, rfl⟩ := i1.form
  obtain ⟨m, hm⟩ : ∃ m, m = s.length := ⟨_, rfl⟩
  rw [← hm] at i1 l1 ⊢
  have L1 : Hid (IS w1 w.heap.size (.slice a1 m c1) s ∧ Below w.heap.size w w1 ∧ m = s.length) := ⟨i1, hb1, hm⟩
  obtain ⟨C, hCe⟩ : ∃ C, C = rnC s := ⟨_, rfl⟩
  obtain ⟨P, hPe⟩ : ∃ C, C = (rnK s).p := ⟨_, rfl⟩
  obtain ⟨T, hTe⟩ : ∃ C, C = (rnK s).t := ⟨_, rfl⟩
  obtain ⟨Q, hQe⟩ : ∃ C, C = (rnK s).w := ⟨_, rfl⟩
  obtain ⟨L, hLe⟩ : ∃ C, C = rnL s := ⟨_, rfl⟩
  have HE : Hid (C = rnC s ∧ P = (rnK s).p ∧ L = rnL s) := ⟨hCe, hPe, hLe⟩
  have HIM : Hid (∀ W, RdI W (.slice a1 m c1) s → Calls Try.prog 11 #[.slice a1 m c1] W fun e w' => ∃ (v : Value) (_ : Unit), e = .returned (.agg #[.int .i64 C, .int .i64 P, .int .i64 T, .int .i64 Q, v]) ∧ IS w' W.heap.size v L ∧ Below W.heap.size W w') := fun W hW => by
    rw [hCe, hPe, hTe, hQe, hLe]; exact impl_rn (by omega) hW
  have HSP : Hid (∀ W, RdI W (.slice a1 m c1) s → Calls Try.prog 12 #[.slice a1 m c1] W fun e w' => ∃ (v : Value) (_ : Unit), e = .returned (.agg #[.int .i64 C, .int .i64 P, .int .i64 T, .int .i64 Q, v]) ∧ IS w' W.heap.size v L ∧ Below W.heap.size W w') := fun W hW => by
    rw [hCe, hPe, hTe, hQe, hLe]; exact spec_rn (by omega) hW
  clear i1 hb1 H hbig hbig' hm hCe hPe hTe hQe hLe
  go_wp2_with (fail)
  refine (HIM.out w1 (IS.rg L1.out.1)).mono ?_
  rintro e w2 ⟨v2, _, rfl, i2, hb2⟩
  obtain ⟨a2, c2, hf2⟩ := i2.form
  obtain ⟨k, hk⟩ : ∃ m, m = L.length := ⟨_, rfl⟩
  rw [← hk] at hf2
  subst hf2
  have HK : Hid (k = L.length) := hk
  clear hk
  obtain ⟨V, hV⟩ : ∃ V, V = w2.alloc (.cells #[.int .i64 C, .int .i64 P, .int .i64 T, .int .i64 Q, .slice a2 k c2] 29) := ⟨_, rfl⟩
  obtain ⟨K, hK⟩ : ∃ K, K = w2.heap.size := ⟨_, rfl⟩
  have HV : Hid (TA w V K (.cells #[.int .i64 C, .int .i64 P, .int .i64 T, .int .i64 Q, .slice a2 k c2] 29) (.slice a1 m c1) (.slice a2 k c2) s L) := by
    rw [hV, hK]
    have hal := below_allocT w2 (.cells #[.int .i64 C, .int .i64 P, .int .i64 T, .int .i64 Q, .slice a2 k c2] 29)
    exact ⟨(L1.out.2.1.trans (hb2.mono L1.out.2.1.size)).trans (hal.mono (Nat.le_trans L1.out.2.1.size hb2.size)), is_bel (is_bel L1.out.1 hb2) hal, heap_alloc_new _ _, (is_bel i2 hal).low L1.out.2.1.size⟩
  have HM : Hid (m = s.length) := L1.out.2.2
  clear hb2 i2 L1 HIM
  go_upto_region 5 with fail
  rw [← hV, ← hK]
  clear hV hK
  go_wp2_with (fail)
  refine (HSP.out V (IS.rg HV.out.ev)).mono ?_
  rintro e w3 ⟨v3, _, rfl, i3, hb3⟩
  obtain ⟨a3, c3, hf3⟩ := i3.form
  rw [← HK.out] at hf3
  subst hf3
  obtain ⟨V3, hV3⟩ : ∃ V, V = w3.alloc (.cells #[.int .i64 C, .int .i64 P, .int .i64 T, .int .i64 Q, .slice a3 k c3] 29) := ⟨_, rfl⟩
  obtain ⟨K3, hK3⟩ : ∃ K, K = w3.heap.size := ⟨_, rfl⟩
  have HV3 : Hid (TA w V3 K (.cells #[.int .i64 C, .int .i64 P, .int .i64 T, .int .i64 Q, .slice a2 k c2] 29) (.slice a1 m c1) (.slice a2 k c2) s L ∧ V3.heap[K3]? = some (.cells #[.int .i64 C, .int .i64 P, .int .i64 T, .int .i64 Q, .slice a3 k c3] 29) ∧ IS V3 V.heap.size (.slice a3 k c3) L) := by
    rw [hV3, hK3]
    have hal := below_allocT w3 (.cells #[.int .i64 C, .int .i64 P, .int .i64 T, .int .i64 Q, .slice a3 k c3] 29)
    exact ⟨(HV.out.next hb3).next hal, heap_alloc_new _ _, is_bel i3 hal⟩
  clear hb3 i3 HV HSP
  go_upto_region 6 with fail
  rw [← hV3, ← hK3]
  clear hV3 hK3
  obtain ⟨r0, r1, r2, r3, r4, rf0, rf1, rf2, rf3, rf4, rl⟩ := five_R (HV3.out.1.ans)
  obtain ⟨q0, q1, q2, q3, q4, qf0, qf1, qf2, qf3, qf4, ql⟩ := five_R (HV3.out.2.1)
  go_wp2_with (fail)
  refine (numsI (by rw [← HK.out]; have := HE.out.2.2; have := rnL_len s; rw [← HE.out.2.2, ← HK.out] at this; omega) HV3.out.1.li HV3.out.2.2).mono ?_
  rintro e w4 ⟨rfl, mm, hw4⟩
  have HV4 : Hid (TA w w4 K (.cells #[.int .i64 C, .int .i64 P, .int .i64 T, .int .i64 Q, .slice a2 k c2] 29) (.slice a1 m c1) (.slice a2 k c2) s L) := by rw [hw4]; exact HV3.out.1.next (below_drewN (Below.refl _ _) _)
  clear hw4 HV3 r0 r1 r2 r3 r4 rf0 rf1 rf2 rf3 rf4 rl q0 q1 q2 q3 q4 qf0 qf1 qf2 qf3 qf4 ql
  obtain ⟨r0, r1, r2, r3, r4, rf0, rf1, rf2, rf3, rf4, rl⟩ := five_R (HV4.out.ans)
  by_cases hC0 : C = 0
  case neg =>
    have hC1 : (C != 0) = true := by simpa using hC0
    go_wp2
    go_returns
    exact ⟨rfl, HV4.out.bl⟩
  have hC1 : (C != 0) = false := by rw [hC0]; rfl
  by_cases hm9 : (190 : Int) < (m : Int)
  · go_wp2
    go_returns
    exact ⟨rfl, HV4.out.bl⟩
  have hend := talk_end s (by rw [← HM.out]; omega)
  rw [← HE.out.2.1, ← HE.out.2.2, ← HK.out] at hend
  obtain ⟨E1, hE1⟩ : ∃ E, E = (rnK (s ++ List.replicate 9 4)).p := ⟨_, rfl⟩
  rw [← hE1] at hend
  have hk3 : k ≤ 3 := hend.1
  have HND : Hid ((P = 2 → E1 = 2) ∧ (P = 0 → E1 = 0 ∧ k = 0) ∧ (P ≠ 2 → P ≠ 0 → E1 = 3)) := ⟨hend.2.2.1, hend.2.2.2.1, hend.2.2.2.2⟩
  have HE1 : Hid (E1 = (rnK (s ++ List.replicate 9 4)).p) := hE1
  clear hend hE1 HE
  have hsz4 : w.heap.size ≤ w4.heap.size := HV4.out.bl.size
  have HNW : Hid (∀ ad, a1 = some ad → ∀ j u, (s.map (Value.int .i64))[j]? = some u → (w4.alloc (.cells #[] 2)).cell? (ad.add j) = some u) := by
    intro ad had j u hu
    rcases HV4.out.ev.2 with ⟨e9, _⟩ | ⟨g, cp, cur, e9, hB9, _⟩
    · simp only [Value.slice.injEq] at e9; rw [e9.1] at had; cases had
    · simp only [Value.slice.injEq] at e9
      obtain ⟨e8, _, _⟩ := e9
      rw [e8] at had
      obtain rfl := Option.some.inj had
      have h7 := is_bel HV4.out.ev (below_allocT w4 (.cells #[] 2))
      rw [e8] at h7
      exact news_is h7 j u hu
  have HNO : Hid (a1 = none → m = 0 ∧ c1 = 0) := by
    intro h0
    rcases HV4.out.ev.2 with ⟨e9, _⟩ | ⟨g, cp, cur, e9, _⟩
    · simp only [Value.slice.injEq] at e9; exact ⟨e9.2.1, e9.2.2⟩
    · simp only [Value.slice.injEq] at e9; rw [e9.1] at h0; cases h0
  have HLN : Hid ((s.map (Value.int .i64)).length = m * 1) := by unfold Hid; rw [List.length_map, HM.out]; omega
  go_wp2_with (at_builtin; refine appAny rfl _ _ 24 rfl w4.heap.size 2 i0 (.int .i64 0) 1 8 Try.underlying24 hi hz0 hz1 hz2 rfl (by decide) (.slice (some ⟨w4.heap.size, 0, none⟩) 0 0) 0 [] rfl (lit_is w4 _ (Nat.le_refl _)) a1 m c1 (s.map (Value.int .i64)) rfl HLN.out HNO.out HNW.out (one_is s) (by unfold maxLen; omega) (by omega) (by simp) ?_; intro v5 w5 hown5 hgrow5 hv5)
  have H5 : Hid (IS w5 w4.heap.size v5 (s ++ List.replicate 0 4) ∧ Below w4.heap.size w4 w5) := by
    refine ⟨?_, ((below_allocT w4 _).grown hgrow5 (by simp) (fun q hq => by cases hq; exact Nat.le_refl _))⟩
    unfold IS
    simp only [List.nil_append, Nat.zero_add, List.replicate_zero, List.append_nil] at hown5 ⊢
    rw [← HM.out]; exact hown5
  clear hown5 hgrow5 hv5 HNW HNO HLN r0 r1 r2 r3 r4 rf0 rf1 rf2 rf3 rf4 rl
  go_wp2
  go_loopw [6, 7] (fun vo i wr => ∃ (j : Nat) (v : Value), j ≤ 9 ∧ v = vo ∧ i = .int .i64 (j : Int) ∧ Hid (IS wr w4.heap.size v (s ++ List.replicate j 4) ∧ Below w4.heap.size w4 wr)) (fun _ i _ => 9 - (intOf i).toNat)
  case atStart => exact ⟨0, v5, by omega, rfl, rfl, H5.out⟩
  case round =>
    clear H5
    obtain ⟨j, v, hj, rfl, rfl, hR⟩ := hrel
    obtain ⟨oa, oc, hof⟩ := hR.out.1.form
    obtain ⟨mm2, hmm⟩ : ∃ x, x = (s ++ List.replicate j (4 : Int)).length := ⟨_, rfl⟩
    have hmb : mm2 = m + j := by rw [hmm, List.length_append, List.length_replicate, HM.out]
    rw [← hmm] at hof
    subst hof
    obtain ⟨cur, hcur⟩ : ∃ c, c = s ++ List.replicate j (4 : Int) := ⟨_, rfl⟩
    rw [← hcur] at hR hmm
    have HR : Hid (IS wr w4.heap.size (.slice oa mm2 oc) cur ∧ Below w4.heap.size w4 wr ∧ mm2 = cur.length ∧ cur = s ++ List.replicate j 4) := ⟨hR.out.1, hR.out.2, hmm, hcur⟩
    have hmb2 : mm2 ≤ 300 := by omega
    have HMB : Hid (mm2 = m + j) := hmb
    clear hR hmm hcur hmb
    have hszr := HR.out.2.1.size
    by_cases hlt : (j : Int) < 9
    · have HOW : Hid (wr.ownsRow w4.heap.size 2 1 (.slice oa mm2 oc) mm2 (cur.map (Value.int .i64))) := by
        have h9 := HR.out.1; unfold IS at h9; rw [← HR.out.2.2.1] at h9; exact h9
      go_wp2_with (at_builtin; refine wpList_append_own _ rfl _ _ 24 rfl w4.heap.size 2 i0 (.int .i64 0) 1 8 Try.underlying24 hi hz0 hz1 hz2 rfl (by decide) _ _ _ rfl (World.ownsRow.alloc HOW.out _) ⟨wr.heap.size, 0, none⟩ 1 1 [.int .i64 4] rfl rfl (World.news_of_block (cs := #[.int .i64 4]) (t := 2) (fr := (0, 0)) (heap_alloc_new wr _)) (by simp [Value.oneCell']) (by unfold maxLen; omega) (by omega) (by simp; omega) ?_; intro v6 w6 hown6 hgrow6 _)
      have R6 : Hid (IS w6 w4.heap.size v6 (s ++ List.replicate (j + 1) 4) ∧ Below w4.heap.size w4 w6) := by
        refine ⟨?_, (HR.out.2.1.alloc (Nat.le_trans HR.out.2.1.size (Nat.le_refl _)) _).grown hgrow6 (by have := HR.out.2.1.size; simp; omega) (fun q hq => (World.ownsRow.lt HR.out.1 q hq).1)⟩
        rw [← rep_snoc, ← List.append_assoc, ← HR.out.2.2.2]
        unfold IS
        rw [List.length_append, List.map_append, ← HR.out.2.2.1]
        exact hown6
      clear hown6 hgrow6 HR HOW
      go_wp2
      go_roundw
      case rel => exact ⟨j + 1, v6, by omega, rfl, by go_num, R6.out⟩
      case measure => simp [intOf]; omega
    · obtain rfl : j = 9 := by omega
      have HIM2 : Hid (Calls Try.prog 11 #[.slice oa mm2 oc] wr fun e w' => ∃ (C2 T2 Q2 : Int) (v : Value), e = .returned (.agg #[.int .i64 C2, .int .i64 E1, .int .i64 T2, .int .i64 Q2, v]) ∧ IS w' wr.heap.size v (rnL cur) ∧ Below wr.heap.size wr w') := by
        refine (impl_rn (s := cur) (by rw [← HR.out.2.2.1]; omega) (IS.rg HR.out.1)).mono ?_
        rintro e w' ⟨v, _, h1, h2, h3⟩
        rw [← HR.out.2.2.2] at HE1
        rw [HE1.out]
        exact ⟨_, _, _, _, h1, h2, h3⟩
      go_wp2_with (fail)
      refine HIM2.out.mono ?_
      rintro e w7 ⟨C2, T2, Q2, v7, rfl, i7, hb7⟩
      obtain ⟨a7, c7, rfl⟩ := i7.form
      have HV7 : Hid (TA w w7 K (.cells #[.int .i64 C, .int .i64 P, .int .i64 T, .int .i64 Q, .slice a2 k c2] 29) (.slice a1 m c1) (.slice a2 k c2) s L) := HV4.out.next (HR.out.2.1.trans (hb7.mono HR.out.2.1.size))
      clear HIM2 HR HV4 HE1 HMB hb7 i7
      obtain ⟨z7, hz7⟩ : ∃ x, x = (rnL cur).length := ⟨_, rfl⟩
      rw [← hz7]
      clear hz7
      have hfd := tk_field (C := C2) (P := E1) (T := T2) (Q := Q2) (a := a7) (n := z7) (c := c7)
      have hfe := tk_field0 (P := E1) (T := T2) (Q := Q2)
      obtain ⟨r0, r1, r2, r3, r4, rf0, rf1, rf2, rf3, rf4, rl⟩ := five_R (HV7.out.ans)
      by_cases hP2 : P = 2
      · have he : E1 = 2 := HND.out.1 hP2
        subst hP2 he
        go_wp2
        go_returns
        exact ⟨rfl, HV7.out.bl⟩
      by_cases hP0 : P = 0
      · have he := HND.out.2.1 hP0
        obtain ⟨he1, he2⟩ := he
        subst hP0 he1 he2
        go_wp2
        go_returns
        exact ⟨rfl, HV7.out.bl⟩
      have he : E1 = 3 := HND.out.2.2 hP2 hP0
      have hp2 : (P == 2) = false := by simpa using hP2
      have hp0 : (P == 0) = false := by simpa using hP0
      subst he
      go_wp2
      go_returns
      exact ⟨rfl, HV7.out.bl⟩

theorem own : ownKnob Try.prog.godebug = none := by kernel_rfl
theorem laidOut : laidOutB Try.prog = true := by kernel_rfl

/-- A slice of bytes that came in: nil, or a row of cells. -/
def IsRow (k : IntKind) (w : World) (a : Option Addr) (len cap : Nat) (zs : List Int) : Prop :=
  (a = none ∧ len = 0 ∧ cap = 0 ∧ zs = []) ∨
  ∃ x, a = some x ∧ len ≤ cap ∧ cap ≤ maxLen ∧ zs.length = cap ∧ (∀ i, i < zs.length → w.cell? (x.add i) = some (.int k (zs.getD i 0))) ∧ ∀ n ∈ zs, (Lit.int k n).wf = true

theorem byte_bd (zs : List Int) (h : ∀ n ∈ zs, (Lit.int .u8 n).wf = true) (j : Nat) : 0 ≤ zs.getD j 0 ∧ zs.getD j 0 ≤ 255 := by
  rcases Nat.lt_or_ge j zs.length with hj | hj
  · have hm : zs.getD j 0 ∈ zs := by simp [List.getElem?_eq_getElem hj]
    have := h _ hm
    simpa [Lit.wf, IntKind.min, IntKind.max, IntKind.signed, IntKind.bits] using this
  · simp [List.getElem?_eq_none hj]

theorem walk (a0 : Option Addr) (len0 cap0 : Nat) (z0 : List Int) (w : World) (w0 : IsRow .u8 w a0 len0 cap0 z0) :
    Calls Try.prog 3 #[.slice a0 len0 cap0] w fun e w' => e = .returned (.bool true) ∧ Below w.heap.size w w' := by
  rcases w0 with ⟨rfl, rfl, rfl, rfl⟩ | ⟨x, rfl, hl, hm, hz, hc, hw⟩
  · exact law_ta none 0 0 (fun _ => 0) w (Nat.zero_le _) (fun _ => by omega) (fun h => by omega)
  · refine law_ta (some x) len0 cap0 (fun j => z0.getD j 0) w (Nat.le_trans hl hm) (byte_bd z0 hw) (fun hp => ?_)
    have hx0 := hc 0 (by omega)
    obtain ⟨g, off, sp⟩ := x
    have hsp : sp = none := by
      cases sp with
      | none => rfl
      | some t =>
        exfalso
        simp [World.cell?, Addr.add] at hx0
        split at hx0 <;> cases hx0
    subst hsp
    have hadd : ∀ j, (⟨g, off, none⟩ : Addr).add j = ⟨g, off + j, none⟩ := fun j => by unfold Addr.add; split <;> simp_all
    refine ⟨g, off, rfl, ?_, fun j hj => ?_⟩
    · rw [hadd] at hx0; exact lt_of_cell hx0
    · have := hc j (by omega)
      rw [hadd] at this
      exact this

set_option maxRecDepth 100000 in
theorem ta18_lifted (os : Os) (started : os.Started) (H : Type) (enc : TypeId × Value → H) :
    ReturnsInHanded {} Try.checked os 3 .any (Rows.fnTalksSpec.pre6 enc Try.prog Try.f3 Rows.fnTalksRow.domain false) (Rows.fnTalksSpec.post enc Try.prog Try.f3 false true false false) := by
  refine returnsInHanded_of_change (C := Try.checked) own started (by kernel_rfl) Try.func3
    (ChangeSpec.witness6 (enc := enc) (C := Try.checked) false ⟨#[], #[.slice none 0 0], []⟩ 8 (by kernel_rfl) (by kernel_rfl) (by kernel_rfl) (by kernel_rfl)) ?_
  intro W base args ds gs before hval0 hW hcnd _
  have hval : ∀ (j : Nat) t v, Try.f3.params[j]? = some t → args[j]? = some v → Value.okWide Try.prog W .any base t v := hval0
  have hW' := hW
  obtain ⟨p, q, hA0, hV, rfl, hfz, hnd⟩ := hW
  have hA : DataW.TrodAll enc Try.prog W 0 (fun _ => true) true Try.f3.params.toList args.toList ds p := hA0
  rw [Try.params3] at hA hval
  obtain ⟨v0, vs0, d0, ds0, p0, q0, hargs, rfl, rfl, h0, r0⟩ := trodAll_cons hA
  obtain ⟨rfl, rfl, rfl⟩ := trodAll_nil r0
  obtain rfl : args = #[v0] := by cases args; simp_all
  obtain ⟨rfl, rfl⟩ := trodVars_none hV
  obtain ⟨a0, len0, cap0, rfl⟩ := okWide_slice Try.underlying22 (hval 0 22 v0 rfl rfl)
  have k0 := h0
  have lt0 : ∀ x ∈ p0, x.block < W.heap.size := by obtain ⟨m, hm⟩ := k0; exact DataW.trod_lt m _ _ _ hm
  obtain ⟨z0, w0⟩ : ∃ zs, IsRow .u8 W a0 len0 cap0 zs := by
    obtain ⟨fuel, hf⟩ := h0
    rcases open_ints Try.underlying22 Try.underlying5 (by kernel_rfl) hf with ⟨hcs, _⟩ | ⟨x, l, c, zs, hcs, _, hl, hm, hz, _, hcell, hwz⟩
    · simp [Value.cells] at hcs
      obtain ⟨rfl, rfl, rfl⟩ := hcs
      exact ⟨[], .inl ⟨rfl, rfl, rfl, rfl⟩⟩
    · simp [Value.cells] at hcs
      obtain ⟨rfl, rfl, rfl⟩ := hcs
      exact ⟨zs, .inr ⟨_, rfl, hl, hm, by simpa using hz, hcell, hwz⟩⟩
  clear hA0 hval0
  refine (walk a0 len0 cap0 z0 W w0).mono fun e W' ⟨he, bel⟩ => ?_
  subst he
  exact ⟨_, rfl, _, _, _, [], _, [], hW', trodAll_mk1 (shut_bool Try.underlying4 _), (trodAll_cons_mk (Below.trod laidOut (by kernel_rfl) (of_decide_eq_true (by kernel_rfl)) k0 bel lt0) trodAll_mk0), rfl, bel.frame _, fun h => by cases h⟩

theorem ta18_over : Rows.fnTalksRow.holds Try.pinned (OpenSpec.ofChange Rows.fnTalksSpec) :=
  OpenClaim.holds_of_wide 3 Try.f3 rfl rfl rfl rfl rfl rfl rfl ⟨rfl, rfl, rfl, rfl, rfl⟩ rfl rfl rfl rfl rfl (by kernel_rfl) Try.func3 (by kernel_rfl)
    (of_decide_eq_true (by kernel_rfl)) (by unfold Func.isWrapper; first | (rw [if_pos (by decide +kernel)]; kernel_rfl) | (rw [if_neg (by decide +kernel)]; exact ⟨rfl, rfl⟩))
    (fun os started H enc _ => ta18_lifted os started H enc)

theorem ta18_proved : Rows.FnTalksSaid := ta18_over
#print axioms ta18_proved

end Go.Proofs.Ytejpjbihdclngaa
