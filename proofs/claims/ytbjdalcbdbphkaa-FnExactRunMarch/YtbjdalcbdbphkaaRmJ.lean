/- Proved here: a march over a memory, of the program. -/
import Derived.Test.YtbjdalcbdbphkaaRmG
import Derived.Test.YtbjdalcbdbphkaaRmP
import Derived.Test.YtbjdalcbdbphkaaRmI
import Derived.Test.YtbjdalcbdbphkaaCeQ
import Derived.Deep.Cut
namespace Go.Proofs.Ytbjdalcbdbphkaa
open Go.RowKit
set_option linter.unusedVariables false
set_option linter.unusedSimpArgs false

set_option maxRecDepth 10000 in
set_option maxHeartbeats 25600000 in
theorem impl_mar {W : World} {va : Value} {s : List Elm} {n : Nat} {f : Mf} (hs : mfF s = 0) (h : REl W va s) (hn : 1 ≤ n ∧ n ≤ 12) (hc : f.c < 12) (hv : f.v = 0 ∨ f.v = 1) (R : Option (Int × Nat)) (hR : R = rnM f (m0M f) (sM n s) 0) :
    Calls Try.prog 43 #[va, .int .i64 n, .agg #[.int .i64 f.k, .int .i64 (f.c : Int), .int .i64 f.b, .int .i64 f.v]] W fun e w' => e = .returned (.agg #[.int .i64 0, .bool (mrF R), .int .i64 (mrS R), .int .i64 (mrC R)]) ∧ Below W.heap.size W w' := by
  obtain ⟨a, c, rfl⟩ := h.form
  obtain ⟨N, hN⟩ : ∃ N, N = s.length := ⟨_, rfl⟩
  rw [← hN] at h ⊢
  have HOK : Hid _ := mfF_ok hs
  have hN12 : N ≤ 12 := by rw [hN]; exact HOK.out.2.1
  obtain ⟨Z, hZ⟩ : ∃ Z, Z = (W.alloc (.cells #[.int .i64 f.k, .int .i64 (f.c : Int), .int .i64 f.b, .int .i64 f.v] 31)).alloc (.cells #[.int .i64 0, .bool false, .int .i64 0, .int .i64 0] 27) := ⟨_, rfl⟩
  obtain ⟨K, hK⟩ : ∃ K, K = W.heap.size + 1 := ⟨_, rfl⟩
  have HZ : Hid (Below W.heap.size W Z ∧ Z.heap[K]? = some (.cells #[.int .i64 0, .bool false, .int .i64 0, .int .i64 0] 27) ∧ Z.heap.size = W.heap.size + 2 ∧ W.heap.size < K) := by
    rw [hZ, hK]
    refine ⟨by (repeat' (first | (with_reducible exact Below.refl _ _) | (with_reducible assumption) | (with_reducible refine Below.setCell ?_ ?_ _) | (with_reducible refine Below.alloc ?_ ?_ _) | (with_reducible refine below_drewN ?_ _) | (with_reducible refine Below.drew ?_) | (with_reducible exact Nat.le_refl _) | omega | (simp; done) | (simp; omega))), ?_, by simp, by omega⟩
    have h9 := heap_alloc_new (W.alloc (.cells #[.int .i64 f.k, .int .i64 (f.c : Int), .int .i64 f.b, .int .i64 f.v] 31)) (.cells #[.int .i64 0, .bool false, .int .i64 0, .int .i64 0] 27)
    simpa using h9
  have H : Hid (REl W (.slice a N c) s ∧ N = s.length ∧ f.c < 12 ∧ (f.v = 0 ∨ f.v = 1) ∧ R = rnM f (m0M f) (sM n s) 0) := ⟨h, hN, hc, hv, hR⟩
  have HNM : Hid (Calls Try.prog 82 #[.agg #[.int .i64 f.k, .int .i64 (f.c : Int), .int .i64 f.b, .int .i64 f.v]] Z fun e w' => e = .returned (.agg #[.int .i64 f.k, .int .i64 (f.c : Int), .int .i64 f.b, .int .i64 f.v, .int .i64 (m0M f 0), .int .i64 (m0M f 1), .int .i64 (m0M f 2), .int .i64 (m0M f 3), .int .i64 (m0M f 4), .int .i64 (m0M f 5), .int .i64 (m0M f 6), .int .i64 (m0M f 7), .int .i64 (m0M f 8), .int .i64 (m0M f 9), .int .i64 (m0M f 10), .int .i64 (m0M f 11)]) ∧ Below Z.heap.size Z w') := impl_nm f hc Z
  obtain ⟨M, hM⟩ : ∃ M, M = m0M f := ⟨_, rfl⟩
  rw [← hM] at HNM
  have HM : Hid (M = m0M f) := hM
  clear h hN hc hv hR hs hM
  have bn1 : (1 : Int) ≤ (n : Int) := by omega
  have bn2 : (n : Int) ≤ 12 := by omega
  go_enter Try.func43, Try.ntmps43
  go_wp2_with (fail)
  rw [← hZ, ← hK]
  refine HNM.out.mono ?_
  rintro e w1 ⟨rfl, hb1⟩
  obtain ⟨g, hg⟩ : ∃ g, g = w1.heap.size := ⟨_, rfl⟩
  obtain ⟨V, hV⟩ : ∃ V, V = w1.alloc (.cells #[.int .i64 f.k, .int .i64 (f.c : Int), .int .i64 f.b, .int .i64 f.v, .int .i64 (M 0), .int .i64 (M 1), .int .i64 (M 2), .int .i64 (M 3), .int .i64 (M 4), .int .i64 (M 5), .int .i64 (M 6), .int .i64 (M 7), .int .i64 (M 8), .int .i64 (M 9), .int .i64 (M 10), .int .i64 (M 11)] 110) := ⟨_, rfl⟩
  have HV : Hid (Below W.heap.size W V ∧ V.heap[K]? = some (.cells #[.int .i64 0, .bool false, .int .i64 0, .int .i64 0] 27) ∧ K < g ∧ ∃ m, CB V g 110 (mbL f m) ∧ Bit m ∧ rnM f m (sM n (s.drop 0)) 0 = R) := by
    have hK1 := ltOfQ HZ.out.2.1
    rw [hV, hg]
    refine ⟨(HZ.out.1.trans (hb1.mono HZ.out.1.size)).alloc (by have h9 := hb1.size; have h8 := HZ.out.1.size; omega) _, ?_, Nat.lt_of_lt_of_le hK1 hb1.size, M, CB.of_arr (heap_alloc_new _ _), by rw [HM.out]; exact m0_bit H.out.2.2.2.1, by rw [HM.out]; exact H.out.2.2.2.2.symm⟩
    rw [heap_alloc_old _ _ (Nat.lt_of_lt_of_le hK1 hb1.size), hb1.block _ hK1]; exact HZ.out.2.1
  have hWK : W.heap.size < K := HZ.out.2.2.2
  clear hb1 HNM HZ hZ hK HM
  go_upto_region 2 with (fail)
  rw [← hV, ← hg]
  clear hV hg
  go_wp2
  go_loopw [8, 19] (fun q i wr => ∃ (t : Nat) (st : Int), t ≤ N ∧ q = .int .i64 st ∧ i = .int .i64 t ∧ (0 ≤ st ∧ st ≤ t * 96) ∧ Hid (Below W.heap.size W wr ∧ wr.heap[K]? = some (.cells #[.int .i64 0, .bool false, .int .i64 0, .int .i64 0] 27) ∧ K < g ∧ ∃ m, CB wr g 110 (mbL f m) ∧ Bit m ∧ rnM f m (sM n (s.drop t)) st = R)) (fun _ i _ => N - (intOf i).toNat)
  case atStart => exact ⟨0, 0, Nat.zero_le _, rfl, rfl, by omega, HV.out⟩
  case round =>
    clear HV
    obtain ⟨t, st, ht, rfl, rfl, hst, hR⟩ := hrel
    by_cases hlt : t < N
    · have htl : t < s.length := by rw [← H.out.2.1]; exact hlt
      obtain ⟨ge, oe, c2, he, hgeW, r, hx, c0W, c1W⟩ := H.out.1.at htl
      simp only [Value.slice.injEq] at he
      obtain ⟨rfl, hx1, hx2⟩ := he
      clear hx1 hx2
      obtain ⟨⟨d, ua, un, uc⟩, hr9⟩ : ∃ r9 : Erd, r9 = r := ⟨_, rfl⟩
      subst hr9
      simp only at c0W c1W
      have c0 := (hR.out.1.cell (p := ⟨ge, oe + t * 2, none⟩) hgeW).trans c0W
      have c1 := (hR.out.1.cell (p := ⟨ge, oe + t * 2 + 1, none⟩) hgeW).trans c1W
      have hge : ge < wr.heap.size := Nat.lt_of_lt_of_le hgeW hR.out.1.size
      clear c0W c1W
      obtain ⟨b, hb⟩ : ∃ b, b = wr.heap.size := ⟨_, rfl⟩
      obtain ⟨V, hV⟩ : ∃ V, V = wr.alloc (.cells #[.bool d, .slice ua un uc] 68) := ⟨_, rfl⟩
      have hVb : Below wr.heap.size wr V := by rw [hV]; (repeat' (first | (with_reducible exact Below.refl _ _) | (with_reducible assumption) | (with_reducible refine Below.setCell ?_ ?_ _) | (with_reducible refine Below.alloc ?_ ?_ _) | (with_reducible refine below_drewN ?_ _) | (with_reducible refine Below.drew ?_) | (with_reducible exact Nat.le_refl _) | omega | (simp; done) | (simp; omega)))
      have HE : Hid (d = s[t].k ∧ RdI W (.slice ua un uc) s[t].p ∧ un = s[t].p.length ∧ (0 < s[t].p.length ∧ s[t].p.length ≤ 8 ∧ s[t].p.any (oo 0 3) = false)) := ⟨hx.k, hx.p, hx.p.len, HOK.out.2.2 t htl⟩
      have HRW : Hid (Below W.heap.size W wr) := hR.out.1
      have HV : Hid (Below wr.heap.size wr V ∧ V.heap[K]? = some (.cells #[.int .i64 0, .bool false, .int .i64 0, .int .i64 0] 27) ∧ K < g ∧ g < b ∧ V.heap[b]? = some (.cells #[.bool d, .slice ua un uc] 68) ∧ ∃ m, CB V g 110 (mbL f m) ∧ Bit m ∧ rnM f m (sE s[t] n 0 ++ sM n (s.drop (t + 1))) st = R) := by
        obtain ⟨m, hm1, hm2, hm3⟩ := hR.out.2.2.2
        have hg9 : g < wr.heap.size := (hm1.at (mbL_f f m).1).2.2
        refine ⟨hVb, by rw [hVb.block _ (by have h9 := hR.out.2.2.1; omega)]; exact hR.out.2.1, hR.out.2.2.1, by rw [hb]; exact hg9, by rw [hV, hb]; exact heap_alloc_new _ _, m, hm1.below hVb, hm2, by rw [← sM_step htl]; exact hm3⟩
      have b0 : (0 : Int) ≤ (t : Int) := by omega
      have b1 : (t : Int) < (N : Int) := by omega
      clear hx hR hVb
      go_upto_region 5 with (fail)
      rw [← hV, ← hb]
      obtain ⟨V9, hV9⟩ : ∃ V9, V9 = V := ⟨_, rfl⟩
      have HV9 : Hid (Below W.heap.size W V9) := by rw [hV9]; exact HRW.out.trans (HV.out.1.mono HRW.out.size)
      clear hV hb c0 c1 hge hV9
      go_wp2
      go_loopw [8, 24] (fun q i wy => ∃ (k : Nat) (st2 : Int), k ≤ n ∧ q = .int .i64 st2 ∧ i = .int .i64 k ∧ (0 ≤ st2 ∧ st2 ≤ t * 96 + k * 8) ∧ Hid (Below W.heap.size W V9 ∧ Below W.heap.size W wy ∧ wy.heap[K]? = some (.cells #[.int .i64 0, .bool false, .int .i64 0, .int .i64 0] 27) ∧ K < g ∧ g < b ∧ wy.heap[b]? = some (.cells #[.bool d, .slice ua un uc] 68) ∧ RdI wy (.slice ua un uc) s[t].p ∧ ∃ m, CB wy g 110 (mbL f m) ∧ Bit m ∧ rnM f m (sE s[t] n k ++ sM n (s.drop (t + 1))) st2 = R)) (fun _ i _ => n - (intOf i).toNat)
      case atStart => exact ⟨0, st, Nat.zero_le _, rfl, rfl, by omega, HV9.out, HRW.out.trans (HV.out.1.mono HRW.out.size), HV.out.2.1, HV.out.2.2.1, HV.out.2.2.2.1, HV.out.2.2.2.2.1, HE.out.2.1.below (HRW.out.trans (HV.out.1.mono HRW.out.size)), HV.out.2.2.2.2.2⟩
      case round =>
        clear HV
        obtain ⟨k, st2, hk, rfl, rfl, hst2, hR⟩ := hrel
        by_cases hkn : k < n
        · have hcn := cN_lt (d := d) hkn
          obtain ⟨i9, hi9⟩ : ∃ i, i = cN d n k := ⟨_, rfl⟩
          have HSE : Hid (sE s[t] n k = sO s[t].p i9 ++ sE s[t] n (k + 1)) := by unfold Hid; rw [sE_step hkn, hi9, HE.out.1]
          obtain ⟨V2, hV2⟩ : ∃ V2, V2 = wr := ⟨_, rfl⟩
          have HCA : Hid (Calls Try.prog 83 #[.agg #[.bool d, .slice ua un uc], .int .i64 k, .int .i64 n] wr fun e w' => e = .returned (.int .i64 (i9 : Int)) ∧ Below wr.heap.size wr w') := by rw [hi9]; exact impl_cat d ua un uc hkn hn.2 wr
          rw [← hi9] at hcn
          have HR9 : Hid (Below W.heap.size W wr ∧ wr.heap[K]? = some (.cells #[.int .i64 0, .bool false, .int .i64 0, .int .i64 0] 27) ∧ K < g ∧ g < b ∧ wr.heap[b]? = some (.cells #[.bool d, .slice ua un uc] 68) ∧ RdI wr (.slice ua un uc) s[t].p ∧ ∃ m, CB wr g 110 (mbL f m) ∧ Bit m ∧ rnM f m (sE s[t] n k ++ sM n (s.drop (t + 1))) st2 = R) := hR.out.2
          have e0 : wr.cell? ⟨b, 0, none⟩ = some (.bool d) := cellOfQ HR9.out.2.2.2.2.1 0 rfl
          have e1 : wr.cell? ⟨b, 1, none⟩ = some (.slice ua un uc) := cellOfQ HR9.out.2.2.2.2.1 1 rfl
          have el := ltOfQ HR9.out.2.2.2.2.1
          have b2 : (0 : Int) ≤ (k : Int) := by omega
          have b3 : (k : Int) < (n : Int) := by omega
          have hun8 : un ≤ 8 := by rw [HE.out.2.2.1]; exact HE.out.2.2.2.2.1
          clear hi9 hR hV2
          go_wp2_with (fail)
          refine HCA.out.mono ?_
          rintro e w5 ⟨rfl, hb5⟩
          have HR5 : Hid (Below W.heap.size W w5 ∧ w5.heap[K]? = some (.cells #[.int .i64 0, .bool false, .int .i64 0, .int .i64 0] 27) ∧ K < g ∧ g < b ∧ w5.heap[b]? = some (.cells #[.bool d, .slice ua un uc] 68) ∧ RdI w5 (.slice ua un uc) s[t].p ∧ ∃ m, CB w5 g 110 (mbL f m) ∧ Bit m ∧ rnM f m (sO (s[t].p.drop 0) i9 ++ (sE s[t] n (k + 1) ++ sM n (s.drop (t + 1)))) st2 = R) := by
            obtain ⟨m, hm1, hm2, hm3⟩ := HR9.out.2.2.2.2.2.2
            refine ⟨HR9.out.1.trans (hb5.mono HR9.out.1.size), by rw [hb5.block _ (ltOfQ HR9.out.2.1)]; exact HR9.out.2.1, HR9.out.2.2.1, HR9.out.2.2.2.1, by rw [hb5.block _ el]; exact HR9.out.2.2.2.2.1, HR9.out.2.2.2.2.2.1.below hb5, m, hm1.below hb5, hm2, ?_⟩
            rw [← hm3, HSE.out]; simp [List.append_assoc]
          have e1' : w5.cell? ⟨b, 1, none⟩ = some (.slice ua un uc) := cellOfQ HR5.out.2.2.2.2.1 1 rfl
          have el' := ltOfQ HR5.out.2.2.2.2.1
          clear e0 e1 el hb5 HCA HR9 HSE
          go_wp2
          clear e1' el'
          go_loopw [8, 34] (fun q i wz => ∃ (o : Nat) (st3 : Int), o ≤ un ∧ q = .int .i64 st3 ∧ i = .int .i64 o ∧ (0 ≤ st3 ∧ st3 ≤ t * 96 + k * 8 + o) ∧ Hid (Below W.heap.size W wz ∧ wz.heap[K]? = some (.cells #[.int .i64 0, .bool false, .int .i64 0, .int .i64 0] 27) ∧ K < g ∧ g < b ∧ wz.heap[b]? = some (.cells #[.bool d, .slice ua un uc] 68) ∧ RdI wz (.slice ua un uc) s[t].p ∧ ∃ m, CB wz g 110 (mbL f m) ∧ Bit m ∧ rnM f m (sO (s[t].p.drop o) i9 ++ (sE s[t] n (k + 1) ++ sM n (s.drop (t + 1)))) st3 = R)) (fun _ i _ => un - (intOf i).toNat)
          case atStart => exact ⟨0, st2, Nat.zero_le _, rfl, rfl, by omega, HR5.out⟩
          case round =>
            clear HR5
            obtain ⟨o, st3, ho, rfl, rfl, hst3, hR⟩ := hrel
            by_cases hou : o < un
            · have hop : o < s[t].p.length := by rw [← HE.out.2.2.1]; exact hou
              obtain ⟨go, oo', hua, hgo, o0⟩ := rd_at hR.out.2.2.2.2.2.1 hou
              have hopb := oo_at HE.out.2.2.2.2.2 hop
              obtain ⟨m, hm1, hm2, hm3⟩ := hR.out.2.2.2.2.2.2
              rw [sO_step hop] at hm3
              obtain ⟨op, hopv⟩ : ∃ op, op = s[t].p.getD o 0 := ⟨_, rfl⟩
              rw [← hopv] at o0 hopb hm3
              subst hua
              obtain ⟨q, hq⟩ : ∃ q, q = okM m op i9 := ⟨_, rfl⟩
              have HDO : Hid (Calls Try.prog 84 #[.pointer (some ⟨g, 0, none⟩), .int .i64 op, .int .i64 (i9 : Int)] wr fun e w' => e = .returned (.bool q) ∧ CB w' g 110 (mbL f (nxM f m op i9)) ∧ Only g wr w') := by rw [hq]; exact impl_do op i9 (by omega) hopb H.out.2.2.1 hm2 hm1
              have HRN : Hid ((q = true → rnM f (nxM f m op i9) (sO (s[t].p.drop (o + 1)) i9 ++ (sE s[t] n (k + 1) ++ sM n (s.drop (t + 1)))) (st3 + 1) = R) ∧ (q = false → R = some (st3, i9))) := by
                rw [List.cons_append, rnM] at hm3
                refine ⟨fun e => ?_, fun e => ?_⟩
                · rw [if_pos (by rw [← hq]; exact e)] at hm3; exact hm3
                · rw [if_neg (by rw [← hq, e]; decide)] at hm3; exact hm3.symm
              have HB9 : Hid (Bit (nxM f m op i9)) := nx_bit hm2 H.out.2.2.2.1 op i9
              have HRR : Hid (Below W.heap.size W wr ∧ wr.heap[K]? = some (.cells #[.int .i64 0, .bool false, .int .i64 0, .int .i64 0] 27) ∧ K < g ∧ g < b ∧ wr.heap[b]? = some (.cells #[.bool d, .slice (some ⟨go, oo', none⟩) un uc] 68) ∧ RdI wr (.slice (some ⟨go, oo', none⟩) un uc) s[t].p) := ⟨hR.out.1, hR.out.2.1, hR.out.2.2.1, hR.out.2.2.2.1, hR.out.2.2.2.2.1, hR.out.2.2.2.2.2.1⟩
              have b4 : (0 : Int) ≤ (o : Int) := by omega
              have b5 : (o : Int) < (un : Int) := by omega
              clear hR hm1 hm2 hm3 hq hopv hop
              go_wp2_with (fail)
              refine HDO.out.mono ?_
              rintro e w6 ⟨rfl, hcb, honly⟩
              have HR6 : Hid (Below W.heap.size W w6 ∧ w6.heap[K]? = some (.cells #[.int .i64 0, .bool false, .int .i64 0, .int .i64 0] 27) ∧ K < g ∧ g < b ∧ w6.heap[b]? = some (.cells #[.bool d, .slice (some ⟨go, oo', none⟩) un uc] 68) ∧ CB w6 g 110 (mbL f (nxM f m op i9)) ∧ Only g wr w6) := by
                refine ⟨HRR.out.1.trans (honly.below (by have h9 := HRR.out.2.2.1; omega)), by rw [honly.block _ (by have h9 := HRR.out.2.2.1; omega)]; exact HRR.out.2.1, HRR.out.2.2.1, HRR.out.2.2.2.1, by rw [honly.block _ (by have h9 := HRR.out.2.2.2.1; omega)]; exact HRR.out.2.2.2.2.1, hcb, honly⟩
              clear hcb honly HDO o0 hgo
              cases q
              case false =>
                have HN : Hid (R = some (st3, i9)) := HRN.out.2 rfl
                have z0 := cellOfQ HR6.out.2.1 0 rfl
                have z1 := cellOfQ HR6.out.2.1 1 rfl
                have z2 := cellOfQ HR6.out.2.1 2 rfl
                have z3 := cellOfQ HR6.out.2.1 3 rfl
                have zl := ltOfQ HR6.out.2.1
                have f0 := frozOfQ HR6.out.2.1 0
                have f1 := frozOfQ HR6.out.2.1 1
                have f2 := frozOfQ HR6.out.2.1 2
                have f3 := frozOfQ HR6.out.2.1 3
                have HB : Hid (Below W.heap.size W w6) := HR6.out.1
                clear HRN HRR HR6
                go_wp2
                try simp only [Exit.inBlock, Exit.then]
                refine bodyPost_ret (by simp [results, Try.results43, go_sem, z0, z1, z2, z3, zl, f0, f1, f2, f3]; try rfl) rfl ⟨by rw [HN.out]; rfl, ?_⟩
                have hb := HB.out
                (repeat' (first | (with_reducible exact Below.refl _ _) | (with_reducible assumption) | (with_reducible refine Below.setCell ?_ ?_ _) | (with_reducible refine Below.alloc ?_ ?_ _) | (with_reducible refine below_drewN ?_ _) | (with_reducible refine Below.drew ?_) | (with_reducible exact Nat.le_refl _) | omega | (simp; done) | (simp; omega)))
              case true =>
                have HP : Hid (Below W.heap.size W w6 ∧ w6.heap[K]? = some (.cells #[.int .i64 0, .bool false, .int .i64 0, .int .i64 0] 27) ∧ K < g ∧ g < b ∧ w6.heap[b]? = some (.cells #[.bool d, .slice (some ⟨go, oo', none⟩) un uc] 68) ∧ RdI w6 (.slice (some ⟨go, oo', none⟩) un uc) s[t].p ∧ ∃ m, CB w6 g 110 (mbL f m) ∧ Bit m ∧ rnM f m (sO (s[t].p.drop (o + 1)) i9 ++ (sE s[t] n (k + 1) ++ sM n (s.drop (t + 1)))) (st3 + 1) = R) := by
                  refine ⟨HR6.out.1, HR6.out.2.1, HR6.out.2.2.1, HR6.out.2.2.2.1, HR6.out.2.2.2.2.1, HE.out.2.1.below HR6.out.1, _, HR6.out.2.2.2.2.2.1, HB9.out, HRN.out.1 rfl⟩
                clear HRN HRR HR6 HB9
                go_wp2
                go_roundw
                case rel => exact ⟨o + 1, st3 + 1, by omega, by go_num, by go_num, by omega, HP.out⟩
                case measure => simp [intOf]; omega
            · have HP : Hid (Below W.heap.size W wr ∧ wr.heap[K]? = some (.cells #[.int .i64 0, .bool false, .int .i64 0, .int .i64 0] 27) ∧ K < g ∧ g < b ∧ wr.heap[b]? = some (.cells #[.bool d, .slice ua un uc] 68) ∧ RdI wr (.slice ua un uc) s[t].p ∧ ∃ m, CB wr g 110 (mbL f m) ∧ Bit m ∧ rnM f m (sE s[t] n (k + 1) ++ sM n (s.drop (t + 1))) st3 = R) := by
                obtain ⟨m, hm1, hm2, hm3⟩ := hR.out.2.2.2.2.2.2
                rw [List.drop_eq_nil_of_le (by rw [← HE.out.2.2.1]; omega)] at hm3
                exact ⟨hR.out.1, hR.out.2.1, hR.out.2.2.1, hR.out.2.2.2.1, hR.out.2.2.2.2.1, hR.out.2.2.2.2.2.1, m, hm1, hm2, hm3⟩
              clear hR
              go_wp2
              go_roundw
              case rel => exact ⟨k + 1, st3, by omega, rfl, by go_num, by omega, HV9.out, HP.out⟩
              case measure => simp [intOf]; omega
        · obtain rfl : k = n := by omega
          have HP : Hid (Below W.heap.size W wr ∧ wr.heap[K]? = some (.cells #[.int .i64 0, .bool false, .int .i64 0, .int .i64 0] 27) ∧ K < g ∧ ∃ m, CB wr g 110 (mbL f m) ∧ Bit m ∧ rnM f m (sM k (s.drop (t + 1))) st2 = R) := by
            obtain ⟨m, hm1, hm2, hm3⟩ := hR.out.2.2.2.2.2.2.2
            rw [sE_end, List.nil_append] at hm3
            exact ⟨hR.out.2.1, hR.out.2.2.1, hR.out.2.2.2.1, m, hm1, hm2, hm3⟩
          clear hR
          go_wp2
          go_roundw
          case rel => exact ⟨t + 1, st2, by omega, rfl, by go_num, by omega, HP.out⟩
          case measure => simp [intOf]; omega
    · have HN : Hid (R = none) := by
        obtain ⟨m, hm1, hm2, hm3⟩ := hR.out.2.2.2
        rw [List.drop_eq_nil_of_le (by rw [← H.out.2.1]; omega)] at hm3
        exact hm3.symm
      have z0 := cellOfQ hR.out.2.1 0 rfl
      have z1 := cellOfQ hR.out.2.1 1 rfl
      have z2 := cellOfQ hR.out.2.1 2 rfl
      have z3 := cellOfQ hR.out.2.1 3 rfl
      have zl := ltOfQ hR.out.2.1
      have f0 := frozOfQ hR.out.2.1 0
      have f1 := frozOfQ hR.out.2.1 1
      have f2 := frozOfQ hR.out.2.1 2
      have f3 := frozOfQ hR.out.2.1 3
      have HB : Hid (Below W.heap.size W wr) := hR.out.1
      clear hR
      go_wp2
      try simp only [Exit.inBlock, Exit.then]
      refine bodyPost_ret (by simp [results, Try.results43, go_sem, z0, z1, z2, z3, zl, f0, f1, f2, f3]; try rfl) rfl ⟨by rw [HN.out]; rfl, ?_⟩
      have hb := HB.out
      (repeat' (first | (with_reducible exact Below.refl _ _) | (with_reducible assumption) | (with_reducible refine Below.setCell ?_ ?_ _) | (with_reducible refine Below.alloc ?_ ?_ _) | (with_reducible refine below_drewN ?_ _) | (with_reducible refine Below.drew ?_) | (with_reducible exact Nat.le_refl _) | omega | (simp; done) | (simp; omega)))

end Go.Proofs.Ytbjdalcbdbphkaa
