/- Proved here: a march over a memory with a stuck bit, of the model. -/
import Derived.Test.YtbjdalcbdbphkaaRmTa
import Derived.Test.YtbjdalcbdbphkaaUnd
import Derived.Deep.Cut
namespace Go.Proofs.Ytbjdalcbdbphkaa
open Go.RowKit
set_option linter.unusedVariables false
set_option linter.unusedSimpArgs false

set_option maxRecDepth 10000 in
set_option maxHeartbeats 51200000 in
theorem spec_mar1 {W : World} {va : Value} {s : List Elm} {n : Nat} {f : Mf} (hkk : f.k = 1) (hs : mfF s = 0) (h : REl W va s) (hn : 1 ≤ n ∧ n ≤ 12) (hc : f.c < n) (hv : f.v = 0 ∨ f.v = 1) (R : Option (Int × Nat)) (hR : R = rnM f (m0M f) (sM n s) 0) :
    Calls Try.prog 39 #[va, .int .i64 n, .agg #[.int .i64 f.k, .int .i64 (f.c : Int), .int .i64 f.b, .int .i64 f.v]] W fun e w' => e = .returned (.agg #[.int .i64 0, .bool (mrF R), .int .i64 (mrS R), .int .i64 (mrC R)]) ∧ Below W.heap.size W w' := by
  have HKK : Hid _ := hkk
  clear hkk
  obtain ⟨i0, hi0, hz0, hz1, hz2⟩ := info_parts info_i64
  obtain ⟨a, c, rfl⟩ := h.form
  obtain ⟨N, hN⟩ : ∃ N, N = s.length := ⟨_, rfl⟩
  rw [← hN] at h ⊢
  have HOK : Hid _ := mfF_ok hs
  have hN12 : N ≤ 12 := by rw [hN]; exact HOK.out.2.1
  obtain ⟨Z, hZ⟩ : ∃ Z, Z = (W.alloc (.cells #[.int .i64 f.k, .int .i64 (f.c : Int), .int .i64 f.b, .int .i64 f.v] 31)).alloc (.cells #[.int .i64 0, .bool false, .int .i64 0, .int .i64 0] 27) := ⟨_, rfl⟩
  obtain ⟨K, hK⟩ : ∃ K, K = W.heap.size + 1 := ⟨_, rfl⟩
  have HZ : Hid (Below W.heap.size W Z ∧ Z.heap[K]? = some (.cells #[.int .i64 0, .bool false, .int .i64 0, .int .i64 0] 27) ∧ Z.heap.size = W.heap.size + 2 ∧ W.heap.size < K ∧ Z.heap[W.heap.size]? = some (.cells #[.int .i64 f.k, .int .i64 (f.c : Int), .int .i64 f.b, .int .i64 f.v] 31)) := by
    rw [hZ, hK]
    refine ⟨by (repeat' (first | (with_reducible exact Below.refl _ _) | (with_reducible assumption) | (with_reducible refine Below.setCell ?_ ?_ _) | (with_reducible refine Below.alloc ?_ ?_ _) | (with_reducible refine below_drewN ?_ _) | (with_reducible refine Below.drew ?_) | (with_reducible exact Nat.le_refl _) | omega | (simp; done) | (simp; omega))), ?_, by simp, by omega, ?_⟩
    · have h9 := heap_alloc_new (W.alloc (.cells #[.int .i64 f.k, .int .i64 (f.c : Int), .int .i64 f.b, .int .i64 f.v] 31)) (.cells #[.int .i64 0, .bool false, .int .i64 0, .int .i64 0] 27)
      simpa using h9
    · rw [heap_alloc_old _ _ (by simp)]; exact heap_alloc_new _ _
  have H : Hid (REl W (.slice a N c) s ∧ N = s.length ∧ f.c < n ∧ (f.v = 0 ∨ f.v = 1) ∧ R = rnM f (m0M f) (sM n s) 0) := ⟨h, hN, hc, hv, hR⟩
  clear h hN hv hR hs
  have bn1 : (1 : Int) ≤ (n : Int) := by omega
  have bn2 : (n : Int) ≤ 12 := by omega
  have hA1 : (0 : Int) ≤ (n : Int) := by omega
  go_enter Try.func39, Try.ntmps39
  go_upto_region 2 with (at_make; rw [← hZ]; refine wpList_make_full _ rfl _ _ 38 rfl Z.heap.size 2 i0 (.int .i64 0) 1 Try.underlying38 hi0 hz0 hz1 _ _ _ _ n rfl rfl rfl rfl (by rw [hz2]; omega) (by unfold maxLen; omega) (Nat.le_refl _) ?_; intro w2 hown2 hgrow2)
  obtain ⟨g, hg⟩ : ∃ g, g = Z.heap.size := ⟨_, rfl⟩
  rw [← hg] at hown2
  have hg2 : W.heap.size + 1 + 1 = g := by rw [hg, HZ.out.2.2.1]
  rw [hg2, ← hK]
  clear hg2
  have HK : Hid (W.heap.size < K ∧ K < g) := ⟨HZ.out.2.2.2.1, by rw [hg, HZ.out.2.2.1, hK]; omega⟩
  have hm2 : MW W w2 K g n f (fun _ => 0) := by
    have b2 : Below Z.heap.size Z w2 := (Below.refl _ _).grown hgrow2 (Nat.le_refl _) (fun k h => by cases h)
    refine ⟨HZ.out.1.trans (b2.mono HZ.out.1.size), by rw [b2.block _ (ltOfQ HZ.out.2.1)]; exact HZ.out.2.1, by rw [b2.block _ (ltOfQ HZ.out.2.2.2.2)]; exact HZ.out.2.2.2.2, ?_, fun _ => Or.inl rfl⟩
    have h9 : IS w2 g (.slice (some ⟨g, 0, none⟩) n n) (List.replicate n 0) := IS.made hown2
    rw [show (List.range n).map (fun _ => (0 : Int)) = List.replicate n 0 by rw [List.map_const', List.length_range]]
    exact h9
  obtain ⟨k0, hk0⟩ : ∃ k, k = f.k := ⟨_, rfl⟩
  obtain ⟨u0, hu0⟩ : ∃ k, k = f.v := ⟨_, rfl⟩
  obtain ⟨c0, hc0⟩ : ∃ k, k = f.c := ⟨_, rfl⟩
  have p0 : w2.cell? ⟨W.heap.size, 0, none⟩ = some (.int .i64 k0) := by rw [hk0]; exact cellOfQ hm2.bf 0 rfl
  have p1 : w2.cell? ⟨W.heap.size, 1, none⟩ = some (.int .i64 (c0 : Int)) := by rw [hc0]; exact cellOfQ hm2.bf 1 rfl
  have p3 : w2.cell? ⟨W.heap.size, 3, none⟩ = some (.int .i64 u0) := by rw [hu0]; exact cellOfQ hm2.bf 3 rfl
  have pl := ltOfQ hm2.bf
  have HM2 : Hid (MW W w2 K g n f (fun _ => 0) ∧ k0 = f.k ∧ c0 = f.c ∧ u0 = f.v) := ⟨hm2, hk0, hc0, hu0⟩
  have hcn0 : c0 < n := by rw [hc0]; exact hc
  clear hown2 hgrow2 hg hZ hK HZ hk0 hu0 hc0
  have hk1 : k0 = 1 := by rw [HM2.out.2.1]; exact HKK.out
  clear HKK
  obtain ⟨n0, n1, gl⟩ := hm2.is.bit (i := c0) hcn0
  obtain ⟨V, hV⟩ : ∃ V, V = w2.setCell ⟨g, c0, none⟩ (.int .i64 u0) := ⟨_, rfl⟩
  have HV : Hid (∃ m, MW W V K g n f m ∧ rnM f m (sM n (s.drop 0)) 0 = R) := by
    refine ⟨up (fun _ => 0) c0 u0, ?_, ?_⟩
    · rw [hV]
      refine HM2.out.1.go HK.out.1 HK.out.2 (HM2.out.1.is.up c0 u0) (fun q h1 h2 => heap_setCell_other _ _ _ _ (by exact h2)) ((Below.refl g w2).setCell (by exact Nat.le_refl g) _) (up_bit (fun _ => Or.inl rfl) (by rw [HM2.out.2.2.2]; exact H.out.2.2.2.1))
    · have h9 : m0M f = up (fun _ => 0) c0 u0 := by unfold m0M; rw [if_pos (by rw [← HM2.out.2.1]; exact hk1), HM2.out.2.2.1, HM2.out.2.2.2]
      rw [← h9]; exact H.out.2.2.2.2.symm
  have q0 : (0 : Int) ≤ (c0 : Int) := by omega
  have q1 : (c0 : Int) < (n : Int) := by omega
  clear hm2 HM2 hc
  subst hk1
  go_upto_region 4 with (fail)
  rw [← hV]
  clear hV n0 n1 gl p0 p1 p3 pl q0 q1 hcn0
  go_wp2
  go_loopw [8, 9] (fun q i wr => ∃ (t : Nat) (st : Int), t ≤ N ∧ q = .int .i64 st ∧ i = .int .i64 t ∧ (0 ≤ st ∧ st ≤ t * 96) ∧ Hid (∃ m, MW W wr K g n f m ∧ rnM f m (sM n (s.drop t)) st = R)) (fun _ i _ => N - (intOf i).toNat)
  case atStart => exact ⟨0, 0, Nat.zero_le _, rfl, rfl, by omega, HV.out⟩
  case round =>
    clear HV
    obtain ⟨t, st, ht, rfl, rfl, hst, hR⟩ := hrel
    by_cases hlt : t < N
    · have htl : t < s.length := by rw [← H.out.2.1]; exact hlt
      obtain ⟨ge, oe, c2, he, hgeW, r, hx, c0W, c1W⟩ := H.out.1.at htl
      simp only [Value.slice.injEq] at he
      obtain ⟨rfl, hx1, hx2⟩ := he
      clear hx1 hx2
      obtain ⟨⟨d, ua, un, uc⟩, hr9⟩ : ∃ r9 : Erd, r9 = r := ⟨_, rfl⟩
      subst hr9
      simp only at c0W c1W
      have HC : Hid (ge < W.heap.size ∧ W.cell? ⟨ge, oe + t * 2, none⟩ = some (.bool d) ∧ W.cell? ⟨ge, oe + t * 2 + 1, none⟩ = some (.slice ua un uc)) := ⟨hgeW, c0W, c1W⟩
      clear c0W c1W
      have HE : Hid (d = s[t].k ∧ RdI W (.slice ua un uc) s[t].p ∧ un = s[t].p.length ∧ (0 < s[t].p.length ∧ s[t].p.length ≤ 8 ∧ s[t].p.any (oo 0 3) = false)) := ⟨hx.k, hx.p, hx.p.len, HOK.out.2.2 t htl⟩
      have hun8 : un ≤ 8 := by rw [HE.out.2.2.1]; exact HE.out.2.2.2.2.1
      have HV : Hid (∃ m, MW W wr K g n f m ∧ rnM f m (sE s[t] n 0 ++ sM n (s.drop (t + 1))) st = R) := by
        obtain ⟨m, hm1, hm3⟩ := hR.out
        exact ⟨m, hm1, by rw [← sM_step htl]; exact hm3⟩
      have b0 : (0 : Int) ≤ (t : Int) := by omega
      have b1 : (t : Int) < (N : Int) := by omega
      clear hx hR
      go_wp2
      go_loopw [8, 10] (fun q i wy => ∃ (k : Nat) (st2 : Int), k ≤ n ∧ q = .int .i64 st2 ∧ i = .int .i64 k ∧ (0 ≤ st2 ∧ st2 ≤ t * 96 + k * 8) ∧ Hid (∃ m, MW W wy K g n f m ∧ rnM f m (sE s[t] n k ++ sM n (s.drop (t + 1))) st2 = R)) (fun _ i _ => n - (intOf i).toNat)
      case atStart => exact ⟨0, st, Nat.zero_le _, rfl, rfl, by omega, HV.out⟩
      case round =>
        clear HV
        obtain ⟨k, st2, hk, rfl, rfl, hst2, hR⟩ := hrel
        by_cases hkn : k < n
        · obtain ⟨mm, hmm, hmr⟩ := hR.out
          have e0c : wr.cell? ⟨ge, oe + t * 2, none⟩ = some (.bool d) := (hmm.bl.cell (p := ⟨ge, oe + t * 2, none⟩) HC.out.1).trans HC.out.2.1
          have e1c : wr.cell? ⟨ge, oe + t * 2 + 1, none⟩ = some (.slice ua un uc) := (hmm.bl.cell (p := ⟨ge, oe + t * 2 + 1, none⟩) HC.out.1).trans HC.out.2.2
          have hge : ge < wr.heap.size := Nat.lt_of_lt_of_le hgeW hmm.bl.size
          have b2 : (0 : Int) ≤ (k : Int) := by omega
          have b3 : (k : Int) < (n : Int) := by omega
          have HSE : Hid (sE s[t] n k = sO s[t].p (cN d n k) ++ sE s[t] n (k + 1)) := by unfold Hid; rw [sE_step hkn, HE.out.1]
          have hcn := cN_lt (d := d) hkn
          have HR4 : Hid (∃ m, MW W wr K g n f m ∧ rnM f m (sO (s[t].p.drop 0) (cN d n k) ++ (sE s[t] n (k + 1) ++ sM n (s.drop (t + 1)))) st2 = R) := by
            refine ⟨mm, hmm, ?_⟩
            rw [← hmr, HSE.out]; simp [List.append_assoc]
          clear hR hmm hmr HSE
          cases d
          · have HR5 : Hid (∃ m, MW W wr K g n f m ∧ rnM f m (sO (s[t].p.drop 0) k ++ (sE s[t] n (k + 1) ++ sM n (s.drop (t + 1)))) st2 = R) := HR4.out
            clear HR4 hcn
            go_wp2
            clear hge
            clear e1c e0c
            go_loopw [8, 12] (fun q i wz => ∃ (o : Nat) (st3 : Int), o ≤ un ∧ q = .int .i64 st3 ∧ i = .int .i64 o ∧ (0 ≤ st3 ∧ st3 ≤ t * 96 + k * 8 + o) ∧ Hid (∃ m, MW W wz K g n f m ∧ rnM f m (sO (s[t].p.drop o) k ++ (sE s[t] n (k + 1) ++ sM n (s.drop (t + 1)))) st3 = R)) (fun _ i _ => un - (intOf i).toNat)
            case atStart => exact ⟨0, st2, Nat.zero_le _, rfl, rfl, by omega, HR5.out⟩
            case round =>
              clear HR5
              obtain ⟨o, st3, ho, rfl, rfl, hst3, hR⟩ := hrel
              obtain ⟨m, hm1, hm3⟩ := hR.out
              have e1c : wr.cell? ⟨ge, oe + t * 2 + 1, none⟩ = some (.slice ua un uc) := (hm1.bl.cell (p := ⟨ge, oe + t * 2 + 1, none⟩) HC.out.1).trans HC.out.2.2
              by_cases hou : o < un
              · have hop : o < s[t].p.length := by rw [← HE.out.2.2.1]; exact hou
                obtain ⟨go, oo', hua, hgo, o0⟩ := rd_at (HE.out.2.1.below hm1.bl) hou
                have hopb := oo_at HE.out.2.2.2.2.2 hop
                rw [sO_step hop] at hm3
                obtain ⟨op, hopv⟩ : ∃ op, op = s[t].p.getD o 0 := ⟨_, rfl⟩
                rw [← hopv] at o0 hopb hm3
                subst hua
                obtain ⟨n0, n1, gl⟩ := hm1.is.bit (i := k) (by omega)
                obtain ⟨x, hx⟩ : ∃ x, x = m k := ⟨_, rfl⟩
                rw [← hx] at n0
                have HX : Hid (x = m k ∧ (x = 0 ∨ x = 1)) := ⟨hx, by rw [hx]; exact hm1.bit k⟩
                have HRN : Hid ((okM m op k = true → rnM f (nxM f m op k) (sO (s[t].p.drop (o + 1)) k ++ (sE s[t] n (k + 1) ++ sM n (s.drop (t + 1)))) (st3 + 1) = R) ∧ (okM m op k = false → R = some (st3, k))) := by
                  rw [List.cons_append, rnM] at hm3
                  refine ⟨fun e => ?_, fun e => ?_⟩
                  · rw [if_pos e] at hm3; exact hm3
                  · rw [if_neg (by rw [e]; decide)] at hm3; exact hm3.symm
                have HMW : Hid (MW W wr K g n f m) := hm1
                have hge : ge < wr.heap.size := Nat.lt_of_lt_of_le HC.out.1 hm1.bl.size
                have b4 : (0 : Int) ≤ (o : Int) := by omega
                have b5 : (o : Int) < (un : Int) := by omega
                have b6 : (0 : Int) ≤ (k : Int) := by omega
                have b7 : ((k : Nat) : Int) < (n : Int) := by omega
                clear hR hm1 hm3 hopv hop hx
                rcases (by omega : op = 0 ∨ op = 1 ∨ op = 2 ∨ op = 3) with rfl | rfl | rfl | rfl
                · by_cases hxw : x = 0
                  · have hok : okM m 0 k = true := by
                      have h9 : m k = 0 := by rw [← HX.out.1]; exact hxw
                      unfold okM; simp [h9]
                    have HP : Hid (∃ m, MW W wr K g n f m ∧ rnM f m (sO (s[t].p.drop (o + 1)) k ++ (sE s[t] n (k + 1) ++ sM n (s.drop (t + 1)))) (st3 + 1) = R) := ⟨m, HMW.out, HRN.out.1 hok⟩
                    clear HRN HX HMW hok n1 gl
                    subst hxw
                    go_wp2
                    go_roundw
                    case rel => exact ⟨o + 1, st3 + 1, by omega, by go_num, by go_num, by omega, HP.out⟩
                    case measure => simp [intOf]; omega
                  · have HN : Hid (R = some (st3, k)) := HRN.out.2 (by
                      have h9 : ¬ m k = 0 := by rw [← HX.out.1]; exact hxw
                      unfold okM; simp [h9])
                    have hxb : (x != 0) = true := by simpa using hxw
                    have z0 := cellOfQ HMW.out.bx 0 rfl
                    have z1 := cellOfQ HMW.out.bx 1 rfl
                    have z2 := cellOfQ HMW.out.bx 2 rfl
                    have z3 := cellOfQ HMW.out.bx 3 rfl
                    have zl := ltOfQ HMW.out.bx
                    have f0 := frozOfQ HMW.out.bx 0
                    have f1 := frozOfQ HMW.out.bx 1
                    have f2 := frozOfQ HMW.out.bx 2
                    have f3 := frozOfQ HMW.out.bx 3
                    have HB : Hid (Below W.heap.size W wr) := HMW.out.bl
                    clear HRN HX HMW n1
                    go_wp2
                    try simp only [Exit.inBlock, Exit.then]
                    refine bodyPost_ret (by simp [results, Try.results39, go_sem, z0, z1, z2, z3, zl, f0, f1, f2, f3]; try rfl) rfl ⟨by rw [HN.out]; rfl, ?_⟩
                    have hb := HB.out
                    have hWK := HK.out.1
                    (repeat' (first | (with_reducible exact Below.refl _ _) | (with_reducible assumption) | (with_reducible refine Below.setCell ?_ ?_ _) | (with_reducible refine Below.alloc ?_ ?_ _) | (with_reducible refine below_drewN ?_ _) | (with_reducible refine Below.drew ?_) | (with_reducible exact Nat.le_refl _) | omega | (simp; done) | (simp; omega)))
                · by_cases hxw : x = 1
                  · have hok : okM m 1 k = true := by
                      have h9 : m k = 1 := by rw [← HX.out.1]; exact hxw
                      unfold okM; simp [h9]
                    have HP : Hid (∃ m, MW W wr K g n f m ∧ rnM f m (sO (s[t].p.drop (o + 1)) k ++ (sE s[t] n (k + 1) ++ sM n (s.drop (t + 1)))) (st3 + 1) = R) := ⟨m, HMW.out, HRN.out.1 hok⟩
                    clear HRN HX HMW hok n1 gl
                    subst hxw
                    go_wp2
                    go_roundw
                    case rel => exact ⟨o + 1, st3 + 1, by omega, by go_num, by go_num, by omega, HP.out⟩
                    case measure => simp [intOf]; omega
                  · have HN : Hid (R = some (st3, k)) := HRN.out.2 (by
                      have h9 : ¬ m k = 1 := by rw [← HX.out.1]; exact hxw
                      unfold okM; simp [h9])
                    have hxb : (x != 1) = true := by simpa using hxw
                    have z0 := cellOfQ HMW.out.bx 0 rfl
                    have z1 := cellOfQ HMW.out.bx 1 rfl
                    have z2 := cellOfQ HMW.out.bx 2 rfl
                    have z3 := cellOfQ HMW.out.bx 3 rfl
                    have zl := ltOfQ HMW.out.bx
                    have f0 := frozOfQ HMW.out.bx 0
                    have f1 := frozOfQ HMW.out.bx 1
                    have f2 := frozOfQ HMW.out.bx 2
                    have f3 := frozOfQ HMW.out.bx 3
                    have HB : Hid (Below W.heap.size W wr) := HMW.out.bl
                    clear HRN HX HMW n1
                    go_wp2
                    try simp only [Exit.inBlock, Exit.then]
                    refine bodyPost_ret (by simp [results, Try.results39, go_sem, z0, z1, z2, z3, zl, f0, f1, f2, f3]; try rfl) rfl ⟨by rw [HN.out]; rfl, ?_⟩
                    have hb := HB.out
                    have hWK := HK.out.1
                    (repeat' (first | (with_reducible exact Below.refl _ _) | (with_reducible assumption) | (with_reducible refine Below.setCell ?_ ?_ _) | (with_reducible refine Below.alloc ?_ ?_ _) | (with_reducible refine below_drewN ?_ _) | (with_reducible refine Below.drew ?_) | (with_reducible exact Nat.le_refl _) | omega | (simp; done) | (simp; omega)))
                · have hok : okM m 2 k = true := rfl
                  have HSW : Hid (Calls Try.prog 80 #[.slice (some ⟨g, 0, none⟩) n n, .agg #[.int .i64 f.k, .int .i64 (f.c : Int), .int .i64 f.b, .int .i64 f.v], .int .i64 (k : Nat), .int .i64 0] wr fun e w' => e = .returned (.tuple #[]) ∧ MW W w' K g n f (wrM f m k 0)) := by
                    refine (spec_wr (f := f) (m := m) k 0 (by omega) (by omega) H.out.2.2.1 HMW.out.bit hn.2 HMW.out.is).mono ?_
                    rintro e w' ⟨rfl, h1, h2, h3⟩
                    exact ⟨rfl, HMW.out.go HK.out.1 HK.out.2 h1 h2 h3 (wr_bit HMW.out.bit H.out.2.2.2.1 (by omega))⟩
                  have HR9 : Hid (rnM f (wrM f m k 0) (sO (s[t].p.drop (o + 1)) k ++ (sE s[t] n (k + 1) ++ sM n (s.drop (t + 1)))) (st3 + 1) = R) := HRN.out.1 hok
                  have p0 : wr.cell? ⟨W.heap.size, 0, none⟩ = some (.int .i64 f.k) := cellOfQ HMW.out.bf 0 rfl
                  have p1 : wr.cell? ⟨W.heap.size, 1, none⟩ = some (.int .i64 (f.c : Int)) := cellOfQ HMW.out.bf 1 rfl
                  have p2 : wr.cell? ⟨W.heap.size, 2, none⟩ = some (.int .i64 f.b) := cellOfQ HMW.out.bf 2 rfl
                  have p3 : wr.cell? ⟨W.heap.size, 3, none⟩ = some (.int .i64 f.v) := cellOfQ HMW.out.bf 3 rfl
                  have pl := ltOfQ HMW.out.bf
                  clear HRN HX HMW hok n0 n1 gl
                  go_wp2_with (fail)
                  refine HSW.out.mono ?_
                  rintro e w6 ⟨rfl, hmw6⟩
                  have HP : Hid (∃ m, MW W w6 K g n f m ∧ rnM f m (sO (s[t].p.drop (o + 1)) k ++ (sE s[t] n (k + 1) ++ sM n (s.drop (t + 1)))) (st3 + 1) = R) := ⟨_, hmw6, HR9.out⟩
                  clear hmw6 HSW HR9 p0 p1 p2 p3 pl e1c hge hgo o0
                  go_wp2
                  go_roundw
                  case rel => exact ⟨o + 1, st3 + 1, by omega, by go_num, by go_num, by omega, HP.out⟩
                  case measure => simp [intOf]; omega
                · have hok : okM m 3 k = true := rfl
                  have HSW : Hid (Calls Try.prog 80 #[.slice (some ⟨g, 0, none⟩) n n, .agg #[.int .i64 f.k, .int .i64 (f.c : Int), .int .i64 f.b, .int .i64 f.v], .int .i64 (k : Nat), .int .i64 1] wr fun e w' => e = .returned (.tuple #[]) ∧ MW W w' K g n f (wrM f m k 1)) := by
                    refine (spec_wr (f := f) (m := m) k 1 (by omega) (by omega) H.out.2.2.1 HMW.out.bit hn.2 HMW.out.is).mono ?_
                    rintro e w' ⟨rfl, h1, h2, h3⟩
                    exact ⟨rfl, HMW.out.go HK.out.1 HK.out.2 h1 h2 h3 (wr_bit HMW.out.bit H.out.2.2.2.1 (by omega))⟩
                  have HR9 : Hid (rnM f (wrM f m k 1) (sO (s[t].p.drop (o + 1)) k ++ (sE s[t] n (k + 1) ++ sM n (s.drop (t + 1)))) (st3 + 1) = R) := HRN.out.1 hok
                  have p0 : wr.cell? ⟨W.heap.size, 0, none⟩ = some (.int .i64 f.k) := cellOfQ HMW.out.bf 0 rfl
                  have p1 : wr.cell? ⟨W.heap.size, 1, none⟩ = some (.int .i64 (f.c : Int)) := cellOfQ HMW.out.bf 1 rfl
                  have p2 : wr.cell? ⟨W.heap.size, 2, none⟩ = some (.int .i64 f.b) := cellOfQ HMW.out.bf 2 rfl
                  have p3 : wr.cell? ⟨W.heap.size, 3, none⟩ = some (.int .i64 f.v) := cellOfQ HMW.out.bf 3 rfl
                  have pl := ltOfQ HMW.out.bf
                  clear HRN HX HMW hok n0 n1 gl
                  go_wp2_with (fail)
                  refine HSW.out.mono ?_
                  rintro e w6 ⟨rfl, hmw6⟩
                  have HP : Hid (∃ m, MW W w6 K g n f m ∧ rnM f m (sO (s[t].p.drop (o + 1)) k ++ (sE s[t] n (k + 1) ++ sM n (s.drop (t + 1)))) (st3 + 1) = R) := ⟨_, hmw6, HR9.out⟩
                  clear hmw6 HSW HR9 p0 p1 p2 p3 pl e1c hge hgo o0
                  go_wp2
                  go_roundw
                  case rel => exact ⟨o + 1, st3 + 1, by omega, by go_num, by go_num, by omega, HP.out⟩
                  case measure => simp [intOf]; omega
              · have HP : Hid (∃ m, MW W wr K g n f m ∧ rnM f m (sE s[t] n (k + 1) ++ sM n (s.drop (t + 1))) st3 = R) := by
                  rw [List.drop_eq_nil_of_le (by rw [← HE.out.2.2.1]; omega)] at hm3
                  exact ⟨m, hm1, hm3⟩
                have hge : ge < wr.heap.size := Nat.lt_of_lt_of_le HC.out.1 hm1.bl.size
                clear hR hm1 hm3
                go_wp2
                go_roundw
                case rel => exact ⟨k + 1, st3, by omega, rfl, by go_num, by omega, HP.out⟩
                case measure => simp [intOf]; omega

          · obtain ⟨i9, hi9⟩ : ∃ i, i = cN true n k := ⟨_, rfl⟩
            have HR5 : Hid (∃ m, MW W wr K g n f m ∧ rnM f m (sO (s[t].p.drop 0) i9 ++ (sE s[t] n (k + 1) ++ sM n (s.drop (t + 1)))) st2 = R) := by rw [hi9]; exact HR4.out
            rw [← hi9] at hcn
            have hie : (n : Int) - 1 - (k : Int) = (i9 : Int) := by rw [hi9]; unfold cN; rw [if_pos rfl]; omega
            clear HR4 hi9
            go_upto_region 14 with (fail)
            clear hie
            go_wp2
            clear hge
            clear e1c e0c
            go_loopw [8, 12] (fun q i wz => ∃ (o : Nat) (st3 : Int), o ≤ un ∧ q = .int .i64 st3 ∧ i = .int .i64 o ∧ (0 ≤ st3 ∧ st3 ≤ t * 96 + k * 8 + o) ∧ Hid (∃ m, MW W wz K g n f m ∧ rnM f m (sO (s[t].p.drop o) i9 ++ (sE s[t] n (k + 1) ++ sM n (s.drop (t + 1)))) st3 = R)) (fun _ i _ => un - (intOf i).toNat)
            case atStart => exact ⟨0, st2, Nat.zero_le _, rfl, rfl, by omega, HR5.out⟩
            case round =>
              clear HR5
              obtain ⟨o, st3, ho, rfl, rfl, hst3, hR⟩ := hrel
              obtain ⟨m, hm1, hm3⟩ := hR.out
              have e1c : wr.cell? ⟨ge, oe + t * 2 + 1, none⟩ = some (.slice ua un uc) := (hm1.bl.cell (p := ⟨ge, oe + t * 2 + 1, none⟩) HC.out.1).trans HC.out.2.2
              by_cases hou : o < un
              · have hop : o < s[t].p.length := by rw [← HE.out.2.2.1]; exact hou
                obtain ⟨go, oo', hua, hgo, o0⟩ := rd_at (HE.out.2.1.below hm1.bl) hou
                have hopb := oo_at HE.out.2.2.2.2.2 hop
                rw [sO_step hop] at hm3
                obtain ⟨op, hopv⟩ : ∃ op, op = s[t].p.getD o 0 := ⟨_, rfl⟩
                rw [← hopv] at o0 hopb hm3
                subst hua
                obtain ⟨n0, n1, gl⟩ := hm1.is.bit (i := i9) (by omega)
                obtain ⟨x, hx⟩ : ∃ x, x = m i9 := ⟨_, rfl⟩
                rw [← hx] at n0
                have HX : Hid (x = m i9 ∧ (x = 0 ∨ x = 1)) := ⟨hx, by rw [hx]; exact hm1.bit i9⟩
                have HRN : Hid ((okM m op i9 = true → rnM f (nxM f m op i9) (sO (s[t].p.drop (o + 1)) i9 ++ (sE s[t] n (k + 1) ++ sM n (s.drop (t + 1)))) (st3 + 1) = R) ∧ (okM m op i9 = false → R = some (st3, i9))) := by
                  rw [List.cons_append, rnM] at hm3
                  refine ⟨fun e => ?_, fun e => ?_⟩
                  · rw [if_pos e] at hm3; exact hm3
                  · rw [if_neg (by rw [e]; decide)] at hm3; exact hm3.symm
                have HMW : Hid (MW W wr K g n f m) := hm1
                have hge : ge < wr.heap.size := Nat.lt_of_lt_of_le HC.out.1 hm1.bl.size
                have b4 : (0 : Int) ≤ (o : Int) := by omega
                have b5 : (o : Int) < (un : Int) := by omega
                have b6 : (0 : Int) ≤ (i9 : Int) := by omega
                have b7 : ((i9 : Nat) : Int) < (n : Int) := by omega
                clear hR hm1 hm3 hopv hop hx
                rcases (by omega : op = 0 ∨ op = 1 ∨ op = 2 ∨ op = 3) with rfl | rfl | rfl | rfl
                · by_cases hxw : x = 0
                  · have hok : okM m 0 i9 = true := by
                      have h9 : m i9 = 0 := by rw [← HX.out.1]; exact hxw
                      unfold okM; simp [h9]
                    have HP : Hid (∃ m, MW W wr K g n f m ∧ rnM f m (sO (s[t].p.drop (o + 1)) i9 ++ (sE s[t] n (k + 1) ++ sM n (s.drop (t + 1)))) (st3 + 1) = R) := ⟨m, HMW.out, HRN.out.1 hok⟩
                    clear HRN HX HMW hok n1 gl
                    subst hxw
                    go_wp2
                    go_roundw
                    case rel => exact ⟨o + 1, st3 + 1, by omega, by go_num, by go_num, by omega, HP.out⟩
                    case measure => simp [intOf]; omega
                  · have HN : Hid (R = some (st3, i9)) := HRN.out.2 (by
                      have h9 : ¬ m i9 = 0 := by rw [← HX.out.1]; exact hxw
                      unfold okM; simp [h9])
                    have hxb : (x != 0) = true := by simpa using hxw
                    have z0 := cellOfQ HMW.out.bx 0 rfl
                    have z1 := cellOfQ HMW.out.bx 1 rfl
                    have z2 := cellOfQ HMW.out.bx 2 rfl
                    have z3 := cellOfQ HMW.out.bx 3 rfl
                    have zl := ltOfQ HMW.out.bx
                    have f0 := frozOfQ HMW.out.bx 0
                    have f1 := frozOfQ HMW.out.bx 1
                    have f2 := frozOfQ HMW.out.bx 2
                    have f3 := frozOfQ HMW.out.bx 3
                    have HB : Hid (Below W.heap.size W wr) := HMW.out.bl
                    clear HRN HX HMW n1
                    go_wp2
                    try simp only [Exit.inBlock, Exit.then]
                    refine bodyPost_ret (by simp [results, Try.results39, go_sem, z0, z1, z2, z3, zl, f0, f1, f2, f3]; try rfl) rfl ⟨by rw [HN.out]; rfl, ?_⟩
                    have hb := HB.out
                    have hWK := HK.out.1
                    (repeat' (first | (with_reducible exact Below.refl _ _) | (with_reducible assumption) | (with_reducible refine Below.setCell ?_ ?_ _) | (with_reducible refine Below.alloc ?_ ?_ _) | (with_reducible refine below_drewN ?_ _) | (with_reducible refine Below.drew ?_) | (with_reducible exact Nat.le_refl _) | omega | (simp; done) | (simp; omega)))
                · by_cases hxw : x = 1
                  · have hok : okM m 1 i9 = true := by
                      have h9 : m i9 = 1 := by rw [← HX.out.1]; exact hxw
                      unfold okM; simp [h9]
                    have HP : Hid (∃ m, MW W wr K g n f m ∧ rnM f m (sO (s[t].p.drop (o + 1)) i9 ++ (sE s[t] n (k + 1) ++ sM n (s.drop (t + 1)))) (st3 + 1) = R) := ⟨m, HMW.out, HRN.out.1 hok⟩
                    clear HRN HX HMW hok n1 gl
                    subst hxw
                    go_wp2
                    go_roundw
                    case rel => exact ⟨o + 1, st3 + 1, by omega, by go_num, by go_num, by omega, HP.out⟩
                    case measure => simp [intOf]; omega
                  · have HN : Hid (R = some (st3, i9)) := HRN.out.2 (by
                      have h9 : ¬ m i9 = 1 := by rw [← HX.out.1]; exact hxw
                      unfold okM; simp [h9])
                    have hxb : (x != 1) = true := by simpa using hxw
                    have z0 := cellOfQ HMW.out.bx 0 rfl
                    have z1 := cellOfQ HMW.out.bx 1 rfl
                    have z2 := cellOfQ HMW.out.bx 2 rfl
                    have z3 := cellOfQ HMW.out.bx 3 rfl
                    have zl := ltOfQ HMW.out.bx
                    have f0 := frozOfQ HMW.out.bx 0
                    have f1 := frozOfQ HMW.out.bx 1
                    have f2 := frozOfQ HMW.out.bx 2
                    have f3 := frozOfQ HMW.out.bx 3
                    have HB : Hid (Below W.heap.size W wr) := HMW.out.bl
                    clear HRN HX HMW n1
                    go_wp2
                    try simp only [Exit.inBlock, Exit.then]
                    refine bodyPost_ret (by simp [results, Try.results39, go_sem, z0, z1, z2, z3, zl, f0, f1, f2, f3]; try rfl) rfl ⟨by rw [HN.out]; rfl, ?_⟩
                    have hb := HB.out
                    have hWK := HK.out.1
                    (repeat' (first | (with_reducible exact Below.refl _ _) | (with_reducible assumption) | (with_reducible refine Below.setCell ?_ ?_ _) | (with_reducible refine Below.alloc ?_ ?_ _) | (with_reducible refine below_drewN ?_ _) | (with_reducible refine Below.drew ?_) | (with_reducible exact Nat.le_refl _) | omega | (simp; done) | (simp; omega)))
                · have hok : okM m 2 i9 = true := rfl
                  have HSW : Hid (Calls Try.prog 80 #[.slice (some ⟨g, 0, none⟩) n n, .agg #[.int .i64 f.k, .int .i64 (f.c : Int), .int .i64 f.b, .int .i64 f.v], .int .i64 (i9 : Nat), .int .i64 0] wr fun e w' => e = .returned (.tuple #[]) ∧ MW W w' K g n f (wrM f m i9 0)) := by
                    refine (spec_wr (f := f) (m := m) i9 0 (by omega) (by omega) H.out.2.2.1 HMW.out.bit hn.2 HMW.out.is).mono ?_
                    rintro e w' ⟨rfl, h1, h2, h3⟩
                    exact ⟨rfl, HMW.out.go HK.out.1 HK.out.2 h1 h2 h3 (wr_bit HMW.out.bit H.out.2.2.2.1 (by omega))⟩
                  have HR9 : Hid (rnM f (wrM f m i9 0) (sO (s[t].p.drop (o + 1)) i9 ++ (sE s[t] n (k + 1) ++ sM n (s.drop (t + 1)))) (st3 + 1) = R) := HRN.out.1 hok
                  have p0 : wr.cell? ⟨W.heap.size, 0, none⟩ = some (.int .i64 f.k) := cellOfQ HMW.out.bf 0 rfl
                  have p1 : wr.cell? ⟨W.heap.size, 1, none⟩ = some (.int .i64 (f.c : Int)) := cellOfQ HMW.out.bf 1 rfl
                  have p2 : wr.cell? ⟨W.heap.size, 2, none⟩ = some (.int .i64 f.b) := cellOfQ HMW.out.bf 2 rfl
                  have p3 : wr.cell? ⟨W.heap.size, 3, none⟩ = some (.int .i64 f.v) := cellOfQ HMW.out.bf 3 rfl
                  have pl := ltOfQ HMW.out.bf
                  clear HRN HX HMW hok n0 n1 gl
                  go_wp2_with (fail)
                  refine HSW.out.mono ?_
                  rintro e w6 ⟨rfl, hmw6⟩
                  have HP : Hid (∃ m, MW W w6 K g n f m ∧ rnM f m (sO (s[t].p.drop (o + 1)) i9 ++ (sE s[t] n (k + 1) ++ sM n (s.drop (t + 1)))) (st3 + 1) = R) := ⟨_, hmw6, HR9.out⟩
                  clear hmw6 HSW HR9 p0 p1 p2 p3 pl e1c hge hgo o0
                  go_wp2
                  go_roundw
                  case rel => exact ⟨o + 1, st3 + 1, by omega, by go_num, by go_num, by omega, HP.out⟩
                  case measure => simp [intOf]; omega
                · have hok : okM m 3 i9 = true := rfl
                  have HSW : Hid (Calls Try.prog 80 #[.slice (some ⟨g, 0, none⟩) n n, .agg #[.int .i64 f.k, .int .i64 (f.c : Int), .int .i64 f.b, .int .i64 f.v], .int .i64 (i9 : Nat), .int .i64 1] wr fun e w' => e = .returned (.tuple #[]) ∧ MW W w' K g n f (wrM f m i9 1)) := by
                    refine (spec_wr (f := f) (m := m) i9 1 (by omega) (by omega) H.out.2.2.1 HMW.out.bit hn.2 HMW.out.is).mono ?_
                    rintro e w' ⟨rfl, h1, h2, h3⟩
                    exact ⟨rfl, HMW.out.go HK.out.1 HK.out.2 h1 h2 h3 (wr_bit HMW.out.bit H.out.2.2.2.1 (by omega))⟩
                  have HR9 : Hid (rnM f (wrM f m i9 1) (sO (s[t].p.drop (o + 1)) i9 ++ (sE s[t] n (k + 1) ++ sM n (s.drop (t + 1)))) (st3 + 1) = R) := HRN.out.1 hok
                  have p0 : wr.cell? ⟨W.heap.size, 0, none⟩ = some (.int .i64 f.k) := cellOfQ HMW.out.bf 0 rfl
                  have p1 : wr.cell? ⟨W.heap.size, 1, none⟩ = some (.int .i64 (f.c : Int)) := cellOfQ HMW.out.bf 1 rfl
                  have p2 : wr.cell? ⟨W.heap.size, 2, none⟩ = some (.int .i64 f.b) := cellOfQ HMW.out.bf 2 rfl
                  have p3 : wr.cell? ⟨W.heap.size, 3, none⟩ = some (.int .i64 f.v) := cellOfQ HMW.out.bf 3 rfl
                  have pl := ltOfQ HMW.out.bf
                  clear HRN HX HMW hok n0 n1 gl
                  go_wp2_with (fail)
                  refine HSW.out.mono ?_
                  rintro e w6 ⟨rfl, hmw6⟩
                  have HP : Hid (∃ m, MW W w6 K g n f m ∧ rnM f m (sO (s[t].p.drop (o + 1)) i9 ++ (sE s[t] n (k + 1) ++ sM n (s.drop (t + 1)))) (st3 + 1) = R) := ⟨_, hmw6, HR9.out⟩
                  clear hmw6 HSW HR9 p0 p1 p2 p3 pl e1c hge hgo o0
                  go_wp2
                  go_roundw
                  case rel => exact ⟨o + 1, st3 + 1, by omega, by go_num, by go_num, by omega, HP.out⟩
                  case measure => simp [intOf]; omega
              · have HP : Hid (∃ m, MW W wr K g n f m ∧ rnM f m (sE s[t] n (k + 1) ++ sM n (s.drop (t + 1))) st3 = R) := by
                  rw [List.drop_eq_nil_of_le (by rw [← HE.out.2.2.1]; omega)] at hm3
                  exact ⟨m, hm1, hm3⟩
                have hge : ge < wr.heap.size := Nat.lt_of_lt_of_le HC.out.1 hm1.bl.size
                clear hR hm1 hm3
                go_wp2
                go_roundw
                case rel => exact ⟨k + 1, st3, by omega, rfl, by go_num, by omega, HP.out⟩
                case measure => simp [intOf]; omega

        · obtain rfl : k = n := by omega
          have HP : Hid (∃ m, MW W wr K g k f m ∧ rnM f m (sM k (s.drop (t + 1))) st2 = R) := by
            obtain ⟨m, hm1, hm3⟩ := hR.out
            rw [sE_end, List.nil_append] at hm3
            exact ⟨m, hm1, hm3⟩
          clear hR
          go_wp2
          go_roundw
          case rel => exact ⟨t + 1, st2, by omega, rfl, by go_num, by omega, HP.out⟩
          case measure => simp [intOf]; omega
    · have HN : Hid (R = none) := by
        obtain ⟨m, hm1, hm3⟩ := hR.out
        rw [List.drop_eq_nil_of_le (by rw [← H.out.2.1]; omega)] at hm3
        exact hm3.symm
      obtain ⟨mm, hmm, _⟩ := hR.out
      have z0 := cellOfQ hmm.bx 0 rfl
      have z1 := cellOfQ hmm.bx 1 rfl
      have z2 := cellOfQ hmm.bx 2 rfl
      have z3 := cellOfQ hmm.bx 3 rfl
      have zl := ltOfQ hmm.bx
      have f0 := frozOfQ hmm.bx 0
      have f1 := frozOfQ hmm.bx 1
      have f2 := frozOfQ hmm.bx 2
      have f3 := frozOfQ hmm.bx 3
      have HB : Hid (Below W.heap.size W wr) := hmm.bl
      clear hR hmm
      go_wp2
      try simp only [Exit.inBlock, Exit.then]
      refine bodyPost_ret (by simp [results, Try.results39, go_sem, z0, z1, z2, z3, zl, f0, f1, f2, f3]; try rfl) rfl ⟨by rw [HN.out]; rfl, ?_⟩
      have hb := HB.out
      have hWK := HK.out.1
      (repeat' (first | (with_reducible exact Below.refl _ _) | (with_reducible assumption) | (with_reducible refine Below.setCell ?_ ?_ _) | (with_reducible refine Below.alloc ?_ ?_ _) | (with_reducible refine below_drewN ?_ _) | (with_reducible refine Below.drew ?_) | (with_reducible exact Nat.le_refl _) | omega | (simp; done) | (simp; omega)))

end Go.Proofs.Ytbjdalcbdbphkaa
