/- Proved here: Anneal of the program. -/
import Derived.Test.YtfjfogiohijkkaaAnI
import Derived.Test.YtfjfogiohijkkaaPfK
namespace Go.Proofs.Ytfjfogiohijkkaa
open Go.RowKit
set_option linter.unusedVariables false
set_option linter.unusedSimpArgs false

set_option maxRecDepth 100000 in
set_option maxHeartbeats 12800000 in
theorem impl_anneal (o a m : Int) {W : World} {v : Value} {s : List Int} (hn : s.length ≤ 1048576) (h : RdI W v s) :
    Calls Try.prog 29 #[.agg #[v, .int .i64 o], .int .i64 a, .int .i64 m] W fun e w' => ∃ v' , e = .returned (.agg #[.int .i64 (anC s o a m), v', .int .i64 (tdO (anC s o a m) ((anN s o a m.toNat).2))]) ∧ IS w' W.heap.size v' (tdL (anC s o a m) ((anN s o a m.toNat).1)) ∧ Below W.heap.size W w' := by
  obtain ⟨ua, uc, rfl⟩ := h.form
  obtain ⟨n, hnn⟩ : ∃ n, n = s.length := ⟨_, rfl⟩
  rw [← hnn] at h hn ⊢
  have HN : Hid (n = s.length) := hnn
  have H : Hid (RdI W (.slice ua n uc) s) := h
  obtain ⟨CC, hCC⟩ : ∃ x, x = anC s o a m := ⟨_, rfl⟩
  rw [← hCC]
  obtain ⟨LL, hLL⟩ : ∃ x, x = tdL CC ((anN s o a m.toNat).1) := ⟨_, rfl⟩
  obtain ⟨QQ, hQQ⟩ : ∃ x, x = tdO CC ((anN s o a m.toNat).2) := ⟨_, rfl⟩
  rw [← hLL, ← hQQ]
  have HZ : Hid (CC ≠ 0 → LL = [] ∧ QQ = 0) := fun h9 => by rw [hLL, hQQ, tdL, tdO, if_neg h9, if_neg h9]; exact ⟨rfl, rfl⟩
  have HF : Hid (CC = anC s o a m ∧ LL = tdL CC ((anN s o a m.toNat).1) ∧ QQ = tdO CC ((anN s o a m.toNat).2)) := ⟨hCC, hLL, hQQ⟩
  obtain ⟨C, hC⟩ : ∃ C, C = pfC s o := ⟨_, rfl⟩
  have HP : Hid (∀ V, Below W.heap.size W V → Calls Try.prog 12 #[.agg #[.slice ua n uc, .int .i64 o]] V fun e w' => e = .returned (.int .i64 C) ∧ Below V.heap.size V w') := fun V hV => by
    have := impl_pf o (by rw [← HN.out]; exact hn) (H.out.below hV)
    rwa [← hC] at this
  have HC : Hid (C = pfC s o) := hC
  clear hC hCC hLL hQQ h hnn
  by_cases h0 : C ≠ 0
  · have hC2 : (C != 0) = true := by simpa using h0
    have hcc : CC = C := by rw [HF.out.1, HC.out]; exact anC_bad (by rw [← HC.out]; exact h0)
    obtain ⟨e1, e2⟩ := HZ.out (by rw [hcc]; exact h0)
    subst e1 e2
    clear HF
    subst hcc
    go_enter Try.func29, Try.ntmps29
    go_wp2_with (fail)
    refine (HP.out _ (by (repeat' (first | (with_reducible exact Below.refl _ _) | (with_reducible assumption) | (with_reducible refine Below.setCell ?_ ?_ _) | (with_reducible refine Below.alloc ?_ ?_ _) | (with_reducible refine below_drewN ?_ _) | (with_reducible refine Below.drew ?_) | (with_reducible exact Nat.le_refl _) | omega | (simp; done) | (simp; omega))))).mono ?_
    rintro e w1 ⟨rfl, hb1⟩
    have HB : Hid (BB W [(W.heap.size, .cells #[.slice ua n uc, .int .i64 o] 27), (W.heap.size + 1, .cells #[.int .i64 0, .slice none 0 0, .int .i64 0] 36)] (W.heap.size + 1 + 1) w1) := (((BB.start W).push rfl _).push (k := W.heap.size + 1) (by simp) _).grow hb1 (by omega) (by have := hb1.size; simpa using this)
    clear hb1
    obtain ⟨k0, hk0⟩ : ∃ k, k = W.heap.size := ⟨_, rfl⟩
    rw [← hk0] at HB ⊢
    have HK : Hid (k0 = W.heap.size) := hk0
    clear hk0
    have a0_0 := cellOf (HB.out.at 0 rfl) 0 rfl
    have a0_1 := cellOf (HB.out.at 0 rfl) 1 rfl
    have a0_l := ltOf (HB.out.at 0 rfl)
    have t0 := cellOf (HB.out.at 1 rfl) 0 rfl
    have f0 := frozOf (HB.out.at 1 rfl) 0
    have t1 := cellOf (HB.out.at 1 rfl) 1 rfl
    have f1 := frozOf (HB.out.at 1 rfl) 1
    have t2 := cellOf (HB.out.at 1 rfl) 2 rfl
    have f2 := frozOf (HB.out.at 1 rfl) 2
    have tl := ltOf (HB.out.at 1 rfl)
    have q2 := (((HB.out.set 1 0 rfl (.int .i64 CC)).set 1 1 rfl (.slice none 0 0)).set 1 2 rfl (.int .i64 0))
    have u0 := cellOf (q2.at 1 rfl) 0 rfl
    have u1 := cellOf (q2.at 1 rfl) 1 rfl
    have u2 := cellOf (q2.at 1 rfl) 2 rfl
    have QB : Hid _ := q2.bl
    clear q2
    go_wp2
    refine bodyPost_ret (by simp [results, Try.results29, go_sem, u0, u1, u2]) rfl ⟨.slice none 0 0, rfl, World.ownsRow_nil _ _ _ _, QB.out⟩
  have h0' : C = 0 := by simpa using h0
  have hC0 : pfC s o = 0 := by rw [← HC.out]; exact h0'
  have HG : Hid (PG s o ∧ pfC s o = 0) := ⟨pfC_ok hC0, hC0⟩
  subst h0'
  clear h0 hC0 HC
  obtain ⟨r1, hr1⟩ : ∃ r, r = decide (0 ≤ a ∧ a ≤ 32) := ⟨_, rfl⟩
  obtain ⟨r2, hr2⟩ : ∃ r, r = decide (0 ≤ m ∧ m ≤ 50) := ⟨_, rfl⟩
  have HR : Hid (r1 = decide (0 ≤ a ∧ a ≤ 32) ∧ r2 = decide (0 ≤ m ∧ m ≤ 50)) := ⟨hr1, hr2⟩
  clear hr1 hr2
  go_enter Try.func29, Try.ntmps29
  go_wp2_with (fail)
  refine (HP.out _ (by (repeat' (first | (with_reducible exact Below.refl _ _) | (with_reducible assumption) | (with_reducible refine Below.setCell ?_ ?_ _) | (with_reducible refine Below.alloc ?_ ?_ _) | (with_reducible refine below_drewN ?_ _) | (with_reducible refine Below.drew ?_) | (with_reducible exact Nat.le_refl _) | omega | (simp; done) | (simp; omega))))).mono ?_
  rintro e w1 ⟨rfl, hb1⟩
  have HB : Hid (BB W [(W.heap.size, .cells #[.slice ua n uc, .int .i64 o] 27), (W.heap.size + 1, .cells #[.int .i64 0, .slice none 0 0, .int .i64 0] 36)] (W.heap.size + 1 + 1) w1) := (((BB.start W).push rfl _).push (k := W.heap.size + 1) (by simp) _).grow hb1 (by omega) (by have := hb1.size; simpa using this)
  clear hb1
  obtain ⟨k0, hk0⟩ : ∃ k, k = W.heap.size := ⟨_, rfl⟩
  rw [← hk0] at HB ⊢
  have HK : Hid (k0 = W.heap.size) := hk0
  clear hk0
  have a0_0 := cellOf (HB.out.at 0 rfl) 0 rfl
  have a0_1 := cellOf (HB.out.at 0 rfl) 1 rfl
  have a0_l := ltOf (HB.out.at 0 rfl)
  clear HP
  go_wp2_with (fail)
  refine (impl_ins a 0 32 r1 HR.out.1 _).mono ?_
  rintro e w3 ⟨rfl, hw⟩
  obtain rfl : w1 = w3 := hw.symm
  clear hw
  cases r1 with
  | false =>
    have hx3 : ¬ ((0 ≤ a ∧ a ≤ 32) ∧ 0 ≤ m ∧ m ≤ 50) := fun h => by have := HR.out.1; rw [decide_eq_true h.1] at this; cases this
    have hcc : CC = 3 := by rw [HF.out.1]; exact anC_out HG.out.2 hx3
    obtain ⟨e1, e2⟩ := HZ.out (by rw [hcc]; decide)
    subst e1 e2
    clear HF hx3
    subst hcc
    have t0 := cellOf (HB.out.at 1 rfl) 0 rfl
    have f0 := frozOf (HB.out.at 1 rfl) 0
    have t1 := cellOf (HB.out.at 1 rfl) 1 rfl
    have f1 := frozOf (HB.out.at 1 rfl) 1
    have t2 := cellOf (HB.out.at 1 rfl) 2 rfl
    have f2 := frozOf (HB.out.at 1 rfl) 2
    have tl := ltOf (HB.out.at 1 rfl)
    have q2 := (((HB.out.set 1 0 rfl (.int .i64 3)).set 1 1 rfl (.slice none 0 0)).set 1 2 rfl (.int .i64 0))
    have u0 := cellOf (q2.at 1 rfl) 0 rfl
    have u1 := cellOf (q2.at 1 rfl) 1 rfl
    have u2 := cellOf (q2.at 1 rfl) 2 rfl
    have QB : Hid _ := q2.bl
    clear q2
    go_wp2
    refine bodyPost_ret (by simp [results, Try.results29, go_sem, u0, u1, u2]) rfl ⟨.slice none 0 0, rfl, World.ownsRow_nil _ _ _ _, QB.out⟩
  | true =>
  go_wp2_with (fail)
  refine (impl_ins m 0 50 r2 HR.out.2 _).mono ?_
  rintro e w3 ⟨rfl, hw⟩
  obtain rfl : w1 = w3 := hw.symm
  clear hw
  cases r2 with
  | false =>
    have hx3 : ¬ ((0 ≤ a ∧ a ≤ 32) ∧ 0 ≤ m ∧ m ≤ 50) := fun h => by have := HR.out.2; rw [decide_eq_true h.2] at this; cases this
    have hcc : CC = 3 := by rw [HF.out.1]; exact anC_out HG.out.2 hx3
    obtain ⟨e1, e2⟩ := HZ.out (by rw [hcc]; decide)
    subst e1 e2
    clear HF hx3
    subst hcc
    have t0 := cellOf (HB.out.at 1 rfl) 0 rfl
    have f0 := frozOf (HB.out.at 1 rfl) 0
    have t1 := cellOf (HB.out.at 1 rfl) 1 rfl
    have f1 := frozOf (HB.out.at 1 rfl) 1
    have t2 := cellOf (HB.out.at 1 rfl) 2 rfl
    have f2 := frozOf (HB.out.at 1 rfl) 2
    have tl := ltOf (HB.out.at 1 rfl)
    have q2 := (((HB.out.set 1 0 rfl (.int .i64 3)).set 1 1 rfl (.slice none 0 0)).set 1 2 rfl (.int .i64 0))
    have u0 := cellOf (q2.at 1 rfl) 0 rfl
    have u1 := cellOf (q2.at 1 rfl) 1 rfl
    have u2 := cellOf (q2.at 1 rfl) 2 rfl
    have QB : Hid _ := q2.bl
    clear q2
    go_wp2
    refine bodyPost_ret (by simp [results, Try.results29, go_sem, u0, u1, u2]) rfl ⟨.slice none 0 0, rfl, World.ownsRow_nil _ _ _ _, QB.out⟩
  | true =>
  have ha : 0 ≤ a ∧ a ≤ 32 := of_decide_eq_true HR.out.1.symm
  have hmm : 0 ≤ m ∧ m ≤ 50 := of_decide_eq_true HR.out.2.symm
  clear HR
  obtain ⟨T, hT⟩ : ∃ T, T = suL s + o := ⟨_, rfl⟩
  have HA : Hid (AG T s o ∧ T ≤ 41000000000) := by rw [hT]; exact AG.of HG.out.1
  clear hT
  obtain ⟨mn, hmn⟩ : ∃ k : Nat, m = (k : Int) := ⟨m.toNat, by omega⟩
  subst hmn
  have hs40 : 0 < n ∧ n ≤ 40 := by rw [HN.out]; exact ⟨HG.out.1.pos, HG.out.1.len⟩
  have HCP : Hid (∀ V, Below W.heap.size W V → Calls Try.prog 39 #[.agg #[.slice ua n uc, .int .i64 o]] V fun e w' => ∃ g c, e = .returned (.agg #[.slice (some ⟨g, 0, none⟩) n c, .int .i64 o]) ∧ IS w' V.heap.size (.slice (some ⟨g, 0, none⟩) n c) s ∧ Below V.heap.size V w') := fun V hV => by
    have := impl_cpd o HG.out.1.pos (by rw [← HN.out]; exact hn) (H.out.below hV)
    rwa [← HN.out] at this
  go_wp2_with (fail)
  refine (HCP.out _ HB.out.bl).mono ?_
  rintro e w2 ⟨g, cp, rfl, hi2, hb2⟩
  have HB2 : Hid (BB W [(k0, .cells #[.slice ua n uc, .int .i64 o] 27), (k0 + 1, .cells #[.int .i64 0, .slice none 0 0, .int .i64 0] 36)] (k0 + 1 + 1) w2) := HB.out.below hb2
  have hgl := (IS.lt hi2 g rfl)
  have hsz := HB.out.sz
  have hW1 := HB.out.bl.size
  clear a0_0 a0_1 a0_l HCP
  go_wp2_with (fail)
  obtain ⟨K, hKK⟩ : ∃ K, K = w2.heap.size := ⟨_, rfl⟩
  obtain ⟨V, hV⟩ : ∃ V, V = w2.alloc (.cells #[.slice (some ⟨g, 0, none⟩) n cp, .int .i64 o] 27) := ⟨_, rfl⟩
  have hVb : Below w2.heap.size w2 V := by rw [hV]; (repeat' (first | (with_reducible exact Below.refl _ _) | (with_reducible assumption) | (with_reducible refine Below.setCell ?_ ?_ _) | (with_reducible refine Below.alloc ?_ ?_ _) | (with_reducible refine below_drewN ?_ _) | (with_reducible refine Below.drew ?_) | (with_reducible exact Nat.le_refl _) | omega | (simp; done) | (simp; omega)))
  have HR0 : Hid (∃ g cp, MP (k0 + 1 + 1) K g n cp s o V ∧ BB W [(k0, .cells #[.slice ua n uc, .int .i64 o] 27), (k0 + 1, .cells #[.int .i64 0, .slice none 0 0, .int .i64 0] 36)] (k0 + 1 + 1) V) :=
    ⟨g, cp, ⟨by rw [hV, hKK]; exact heap_alloc_new _ _, (hi2.bel hVb).low (by omega), by omega, HN.out, ⟨by omega, by have := hb2.size; omega⟩⟩, HB2.out.below hVb⟩
  have HNE : Hid (k0 + 1 + 1 ≤ K ∧ k0 = W.heap.size) := ⟨by have := hb2.size; omega, HK.out⟩
  rw [← hV, ← hKK]
  clear hV hVb hi2 hb2 hgl hsz hW1 HB2 hKK HB
  go_loopw [27] (fun i wr => ∃ (k : Nat), k ≤ mn ∧ i = .int .i64 k ∧ Hid (∃ g cp, MP (k0 + 1 + 1) K g n cp (anN s o a k).1 (anN s o a k).2 wr ∧ BB W [(k0, .cells #[.slice ua n uc, .int .i64 o] 27), (k0 + 1, .cells #[.int .i64 0, .slice none 0 0, .int .i64 0] 36)] (k0 + 1 + 1) wr)) (fun i _ => mn - (intOf i).toNat)
  case atStart => exact ⟨0, Nat.zero_le _, rfl, HR0.out⟩
  case round =>
    clear HR0
    obtain ⟨k, hk, rfl, hR⟩ := hrel
    by_cases hlt : k < mn
    · obtain ⟨g1, cp1, hm, hb⟩ := hR.out
      obtain ⟨M, hM⟩ : ∃ M, M = (anN s o a k).1 := ⟨_, rfl⟩
      obtain ⟨O, hO⟩ : ∃ O, O = (anN s o a k).2 := ⟨_, rfl⟩
      rw [← hM, ← hO] at hm
      have hok := anN_ok HA.out.1 ha k
      rw [← hM, ← hO] at hok
      have hml : M.length = n := hm.len.symm
      have HAN : Hid (Calls Try.prog 45 #[.agg #[.slice (some ⟨g1, 0, none⟩) n cp1, .int .i64 O], .int .i64 a] wr fun e w' => ∃ g c, e = .returned (.agg #[.slice (some ⟨g, 0, none⟩) n c, .int .i64 (anN s o a (k + 1)).2]) ∧ IS w' wr.heap.size (.slice (some ⟨g, 0, none⟩) n c) (anN s o a (k + 1)).1 ∧ Below wr.heap.size wr w') := by
        have := impl_annealed (by rw [hml]; exact hs40) HA.out.2 hok.1 ha hm.rd
        rw [anN, ← hM, ← hO]
        rw [hml] at this ⊢
        exact this
      have HB9 : Hid (BB W [(k0, .cells #[.slice ua n uc, .int .i64 o] 27), (k0 + 1, .cells #[.int .i64 0, .slice none 0 0, .int .i64 0] 36)] (k0 + 1 + 1) wr ∧ MP (k0 + 1 + 1) K g1 n cp1 M O wr) := ⟨hb, hm⟩
      have ma0 := cellOf hm.bx 0 rfl
      have ma1 := cellOf hm.bx 1 rfl
      have mal := ltOf hm.bx
      obtain ⟨N1, hN1⟩ : ∃ x, x = (anN s o a (k + 1)).1 := ⟨_, rfl⟩
      obtain ⟨N2, hN2⟩ : ∃ x, x = (anN s o a (k + 1)).2 := ⟨_, rfl⟩
      rw [← hN1, ← hN2] at HAN
      have HNN : Hid (N1 = (anN s o a (k + 1)).1 ∧ N2 = (anN s o a (k + 1)).2) := ⟨hN1, hN2⟩
      have b4 : (k : Int) < (mn : Int) := by omega
      clear hR hm hb hM hO hok hml hN1 hN2
      go_wp2_with (fail)
      refine HAN.out.mono ?_
      rintro e w5 ⟨g2, cp2, rfl, hi5, hb5⟩
      have hbx : w5.heap[K]? = some (.cells #[.slice (some ⟨g1, 0, none⟩) n cp1, .int .i64 O] 27) := (hb5.block _ (ltOf HB9.out.2.bx)).trans HB9.out.2.bx
      have m0 := cellOf hbx 0 rfl
      have m1 := cellOf hbx 1 rfl
      have mf0 := frozOf hbx 0
      have mf1 := frozOf hbx 1
      have ml := ltOf hbx
      obtain ⟨w6, hw6⟩ : ∃ w, w = (w5.setCell ⟨K, 0, none⟩ (.slice (some ⟨g2, 0, none⟩) n cp2)).setCell ⟨K, 1, none⟩ (.int .i64 N2) := ⟨_, rfl⟩
      have HR6 : Hid (∃ g cp, MP (k0 + 1 + 1) K g n cp (anN s o a (k + 1)).1 (anN s o a (k + 1)).2 w6 ∧ BB W [(k0, .cells #[.slice ua n uc, .int .i64 o] 27), (k0 + 1, .cells #[.int .i64 0, .slice none 0 0, .int .i64 0] 36)] (k0 + 1 + 1) w6) := by
        have h9 := HNE.out
        have hgl := (IS.lt hi5 g2 rfl)
        have hne : g2 ≠ K := by have := ltOf HB9.out.2.bx; omega
        have hsz := HB9.out.1.sz
        refine ⟨g2, cp2, ⟨?_, ?_, hne, ?_, ⟨by omega, h9.1⟩⟩, ?_⟩
        · have s0 := heap_setCell_same _ _ 0 _ _ (.slice (some ⟨g2, 0, none⟩) n cp2) hbx
          have s1 := heap_setCell_same _ _ 1 _ _ (.int .i64 N2) s0
          rw [hw6, ← HNN.out.2]; simpa using s1
        · rw [← HNN.out.1, hw6]
          exact (hi5.keepE (by rw [heap_setCell_other _ _ _ _ hne, heap_setCell_other _ _ _ _ hne])).low (by omega)
        · rw [(anN_ok HA.out.1 ha (k + 1)).2]; exact HN.out
        · rw [hw6]
          have q := HB9.out.1.below hb5
          refine (q.other (by omega) (fun p hp => ?_) _).other (by omega) (fun p hp => ?_) _
          · have := (q.lo p hp).2; omega
          · have := (q.lo p hp).2; omega
      have HW6 : Hid (w6 = (w5.setCell ⟨K, 0, none⟩ (.slice (some ⟨g2, 0, none⟩) n cp2)).setCell ⟨K, 1, none⟩ (.int .i64 N2)) := hw6
      clear hi5 hb5 hbx hw6 ma0 ma1 mal HB9
      go_wp2
      rw [← HW6.out]
      go_roundw
      case rel => exact ⟨k + 1, by omega, by go_num, HR6.out⟩
      case measure => simp [intOf] <;> omega
    · obtain rfl : k = mn := by omega
      obtain ⟨g, cp, hm, hb⟩ := hR.out
      obtain ⟨M, hM⟩ : ∃ M, M = (anN s o a k).1 := ⟨_, rfl⟩
      obtain ⟨O, hO⟩ : ∃ O, O = (anN s o a k).2 := ⟨_, rfl⟩
      rw [← hM, ← hO] at hm
      have h9 := HNE.out
      have HM : Hid (MP W.heap.size K g n cp M O wr) := ⟨hm.bx, hm.is.low (by omega), hm.ne, hm.len, ⟨by have := hm.lo; omega, by have := hm.lo; omega⟩⟩
      have HX : Hid (BB W [(k0, .cells #[.slice ua n uc, .int .i64 o] 27), (k0 + 1, .cells #[.int .i64 0, .slice none 0 0, .int .i64 0] 36)] (k0 + 1 + 1) wr) := hb
      have hln : M.length ≤ 1048576 := by rw [hM, (anN_ok HA.out.1 ha k).2, ← HN.out]; exact hn
      have HNX : Hid (g ≠ k0 + 1 ∧ True) := ⟨by have := hm.lo; omega, trivial⟩
      have HCM : Hid (CC = pfC M O ∧ LL = tdL CC M ∧ QQ = tdO CC O) := by
        have h8 := HF.out
        rw [anC_in HG.out.2 ⟨ha, hmm⟩] at h8
        rw [hM, hO]
        exact h8
      clear hR hm hb hM hO h9 HNE
      have HNE : Hid (g ≠ k0 + 1 ∧ True) := HNX.out
      clear HNX
      have ma0 := cellOf HM.out.bx 0 rfl
      have ma1 := cellOf HM.out.bx 1 rfl
      have mal := ltOf HM.out.bx
      by_cases hz : pfC (M) (O) = 0
      · obtain ⟨e1, e2, e3⟩ : CC = 0 ∧ LL = M ∧ QQ = O := ⟨by rw [HCM.out.1, hz], by rw [HCM.out.2.1, tdL, if_pos (by rw [HCM.out.1, hz])], by rw [HCM.out.2.2, tdO, if_pos (by rw [HCM.out.1, hz])]⟩
        have HA : Hid (∀ V, Below wr.heap.size wr V → Calls Try.prog 41 #[.agg #[.slice (some ⟨g, 0, none⟩) n cp, .int .i64 O]] V fun e w' => e = .returned (.agg #[.int .i64 0, .slice (some ⟨g, 0, none⟩) n cp, .int .i64 QQ]) ∧ Below V.heap.size V w') := fun V hV => by
          have := impl_ans_ok hz (HM.out.rd.below hV)
          rw [e3]; exact this
        clear hz
        subst e1
        clear e3
        have HLL : Hid (LL = M) := e2
        clear e2
        go_wp2_with (fail)
        refine (HA.out _ (Below.refl _ _)).mono ?_
        rintro e w5 ⟨rfl, hb5⟩
        have HX5 := HX.out.below hb5
        have HM5 := HM.out.below hb5
        clear hb5 ma0 ma1 mal
        have t0 := cellOf (HX5.at 1 rfl) 0 rfl
        have f0 := frozOf (HX5.at 1 rfl) 0
        have t1 := cellOf (HX5.at 1 rfl) 1 rfl
        have f1 := frozOf (HX5.at 1 rfl) 1
        have t2 := cellOf (HX5.at 1 rfl) 2 rfl
        have f2 := frozOf (HX5.at 1 rfl) 2
        have tl := ltOf (HX5.at 1 rfl)
        have q2 := (((HX5.set 1 0 rfl (.int .i64 0)).set 1 1 rfl (.slice (some ⟨g, 0, none⟩) n cp)).set 1 2 rfl (.int .i64 QQ))
        have q3 := q2
        have u0 := cellOf (q3.at 1 rfl) 0 rfl
        have u1 := cellOf (q3.at 1 rfl) 1 rfl
        have u2 := cellOf (q3.at 1 rfl) 2 rfl
        have QB : Hid _ := q3.bl
        have HI : Hid (IS (((w5.setCell ⟨k0 + 1, 0, none⟩ (.int .i64 0)).setCell ⟨k0 + 1, 1, none⟩ (.slice (some ⟨g, 0, none⟩) n cp)).setCell ⟨k0 + 1, 2, none⟩ (.int .i64 QQ)) W.heap.size (.slice (some ⟨g, 0, none⟩) n cp) LL) := by
          unfold Hid
          rw [HLL.out]
          refine HM5.is.keepE ?_
          rw [heap_setCell_other _ _ _ _ HNE.out.1, heap_setCell_other _ _ _ _ HNE.out.1, heap_setCell_other _ _ _ _ HNE.out.1]
        clear q2 q3
        go_wp2
        refine bodyPost_ret (by simp [results, Try.results29, go_sem, u0, u1, u2]) rfl ⟨.slice (some ⟨g, 0, none⟩) n cp, rfl, HI.out, QB.out⟩
      · obtain ⟨e1, e2⟩ := HZ.out (by rw [HCM.out.1]; exact hz)
        have HA : Hid (∀ V, Below wr.heap.size wr V → Calls Try.prog 41 #[.agg #[.slice (some ⟨g, 0, none⟩) n cp, .int .i64 O]] V fun e w' => e = .returned (.agg #[.int .i64 CC, .slice none 0 0, .int .i64 0]) ∧ Below V.heap.size V w') := fun V hV => by
          have := impl_ans_bad hln hz (HM.out.rd.below hV)
          rwa [← HCM.out.1] at this
        clear hz
        subst e1 e2
        go_wp2_with (fail)
        refine (HA.out _ (Below.refl _ _)).mono ?_
        rintro e w5 ⟨rfl, hb5⟩
        have HX5 := HX.out.below hb5
        have HM5 := HM.out.below hb5
        clear hb5 ma0 ma1 mal
        have t0 := cellOf (HX5.at 1 rfl) 0 rfl
        have f0 := frozOf (HX5.at 1 rfl) 0
        have t1 := cellOf (HX5.at 1 rfl) 1 rfl
        have f1 := frozOf (HX5.at 1 rfl) 1
        have t2 := cellOf (HX5.at 1 rfl) 2 rfl
        have f2 := frozOf (HX5.at 1 rfl) 2
        have tl := ltOf (HX5.at 1 rfl)
        have q2 := (((HX5.set 1 0 rfl (.int .i64 CC)).set 1 1 rfl (.slice none 0 0)).set 1 2 rfl (.int .i64 0))
        have q3 := q2
        have u0 := cellOf (q3.at 1 rfl) 0 rfl
        have u1 := cellOf (q3.at 1 rfl) 1 rfl
        have u2 := cellOf (q3.at 1 rfl) 2 rfl
        have QB : Hid _ := q3.bl
        clear q2 q3
        go_wp2
        refine bodyPost_ret (by simp [results, Try.results29, go_sem, u0, u1, u2]) rfl ⟨.slice none 0 0, rfl, World.ownsRow_nil _ _ _ _, QB.out⟩

end Go.Proofs.Ytfjfogiohijkkaa
