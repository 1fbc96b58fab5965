/- Proved here: Anneal of the model. -/
import Derived.Test.YtfjfogiohijkkaaPfX
import Derived.Test.YtfjfogiohijkkaaPfS
import Derived.Test.YtfjfogiohijkkaaPfT
import Derived.Test.YtfjfogiohijkkaaAnM
import Derived.StillTail
namespace Go.Proofs.Ytfjfogiohijkkaa
open Go.RowKit
set_option linter.unusedVariables false
set_option linter.unusedSimpArgs false

set_option maxRecDepth 100000 in
set_option maxHeartbeats 12800000 in
theorem spec_anneal (o a m : Int) {W : World} {v : Value} {s : List Int} (hn : s.length ≤ 1048576) (h : RdI W v s) :
    Calls Try.prog 28 #[.agg #[v, .int .i64 o], .int .i64 a, .int .i64 m] W fun e w' => ∃ v' , e = .returned (.agg #[.int .i64 (anC s o a m), v', .int .i64 (tdO (anC s o a m) ((anN s o a m.toNat).2))]) ∧ IS w' W.heap.size v' (tdL (anC s o a m) ((anN s o a m.toNat).1)) ∧ Below W.heap.size W w' := by
  obtain ⟨ua, uc, rfl⟩ := h.form
  obtain ⟨n, hnn⟩ : ∃ n, n = s.length := ⟨_, rfl⟩
  rw [← hnn] at h hn ⊢
  have HN : Hid (n = s.length) := hnn
  have H : Hid (RdI W (.slice ua n uc) s) := h
  obtain ⟨CC, hCC⟩ : ∃ x, x = anC s o a m := ⟨_, rfl⟩
  rw [← hCC]
  obtain ⟨LL, hLL⟩ : ∃ x, x = tdL CC ((anN s o a m.toNat).1) := ⟨_, rfl⟩
  obtain ⟨QQ, hQQ⟩ : ∃ x, x = tdO CC ((anN s o a m.toNat).2) := ⟨_, rfl⟩
  rw [← hLL, ← hQQ]
  have HZ : Hid (CC ≠ 0 → LL = [] ∧ QQ = 0) := fun h9 => by rw [hLL, hQQ, tdL, tdO, if_neg h9, if_neg h9]; exact ⟨rfl, rfl⟩
  have HF : Hid (CC = anC s o a m ∧ LL = tdL CC ((anN s o a m.toNat).1) ∧ QQ = tdO CC ((anN s o a m.toNat).2)) := ⟨hCC, hLL, hQQ⟩
  obtain ⟨C, hC⟩ : ∃ C, C = pfC s o := ⟨_, rfl⟩
  have HP : Hid (∀ V, Below W.heap.size W V → Calls Try.prog 10 #[.agg #[.slice ua n uc, .int .i64 o]] V fun e w' => e = .returned (.int .i64 C) ∧ Below V.heap.size V w') := fun V hV => by
    have := spec_pf o (by rw [← HN.out]; exact hn) (H.out.below hV)
    rwa [← hC] at this
  have HC : Hid (C = pfC s o) := hC
  clear hC hCC hLL hQQ h hnn
  by_cases h0 : C ≠ 0
  · have hC2 : (C != 0) = true := by simpa using h0
    have hcc : CC = C := by rw [HF.out.1, HC.out]; exact anC_bad (by rw [← HC.out]; exact h0)
    obtain ⟨e1, e2⟩ := HZ.out (by rw [hcc]; exact h0)
    subst e1 e2
    clear HF
    subst hcc
    go_enter Try.func28, Try.ntmps28
    go_wp2_with (fail)
    refine (HP.out _ (by (repeat' (first | (with_reducible exact Below.refl _ _) | (with_reducible assumption) | (with_reducible refine Below.setCell ?_ ?_ _) | (with_reducible refine Below.alloc ?_ ?_ _) | (with_reducible refine below_drewN ?_ _) | (with_reducible refine Below.drew ?_) | (with_reducible exact Nat.le_refl _) | omega | (simp; done) | (simp; omega))))).mono ?_
    rintro e w1 ⟨rfl, hb1⟩
    have HB : Hid (BB W [(W.heap.size, .cells #[.slice ua n uc, .int .i64 o] 27), (W.heap.size + 1, .cells #[.int .i64 0, .slice none 0 0, .int .i64 0] 36)] (W.heap.size + 1 + 1) w1) := (((BB.start W).push rfl _).push (k := W.heap.size + 1) (by simp) _).grow hb1 (by omega) (by have := hb1.size; simpa using this)
    clear hb1
    obtain ⟨k0, hk0⟩ : ∃ k, k = W.heap.size := ⟨_, rfl⟩
    rw [← hk0] at HB ⊢
    have HK : Hid (k0 = W.heap.size) := hk0
    clear hk0
    have a0_0 := cellOf (HB.out.at 0 rfl) 0 rfl
    have a0_1 := cellOf (HB.out.at 0 rfl) 1 rfl
    have a0_l := ltOf (HB.out.at 0 rfl)
    have t0 := cellOf (HB.out.at 1 rfl) 0 rfl
    have f0 := frozOf (HB.out.at 1 rfl) 0
    have t1 := cellOf (HB.out.at 1 rfl) 1 rfl
    have f1 := frozOf (HB.out.at 1 rfl) 1
    have t2 := cellOf (HB.out.at 1 rfl) 2 rfl
    have f2 := frozOf (HB.out.at 1 rfl) 2
    have tl := ltOf (HB.out.at 1 rfl)
    have q2 := (((HB.out.set 1 0 rfl (.int .i64 CC)).set 1 1 rfl (.slice none 0 0)).set 1 2 rfl (.int .i64 0))
    have u0 := cellOf (q2.at 1 rfl) 0 rfl
    have u1 := cellOf (q2.at 1 rfl) 1 rfl
    have u2 := cellOf (q2.at 1 rfl) 2 rfl
    have QB : Hid _ := q2.bl
    clear q2
    go_wp2
    refine bodyPost_ret (by simp [results, Try.results28, go_sem, u0, u1, u2]) rfl ⟨.slice none 0 0, rfl, World.ownsRow_nil _ _ _ _, QB.out⟩
  have h0' : C = 0 := by simpa using h0
  have hC0 : pfC s o = 0 := by rw [← HC.out]; exact h0'
  have HG : Hid (PG s o ∧ pfC s o = 0) := ⟨pfC_ok hC0, hC0⟩
  subst h0'
  clear h0 hC0 HC
  obtain ⟨r1, hr1⟩ : ∃ r, r = decide (0 ≤ a ∧ a ≤ 32) := ⟨_, rfl⟩
  obtain ⟨r2, hr2⟩ : ∃ r, r = decide (0 ≤ m ∧ m ≤ 50) := ⟨_, rfl⟩
  have HR : Hid (r1 = decide (0 ≤ a ∧ a ≤ 32) ∧ r2 = decide (0 ≤ m ∧ m ≤ 50)) := ⟨hr1, hr2⟩
  clear hr1 hr2
  go_enter Try.func28, Try.ntmps28
  go_wp2_with (fail)
  refine (HP.out _ (by (repeat' (first | (with_reducible exact Below.refl _ _) | (with_reducible assumption) | (with_reducible refine Below.setCell ?_ ?_ _) | (with_reducible refine Below.alloc ?_ ?_ _) | (with_reducible refine below_drewN ?_ _) | (with_reducible refine Below.drew ?_) | (with_reducible exact Nat.le_refl _) | omega | (simp; done) | (simp; omega))))).mono ?_
  rintro e w1 ⟨rfl, hb1⟩
  have HB : Hid (BB W [(W.heap.size, .cells #[.slice ua n uc, .int .i64 o] 27), (W.heap.size + 1, .cells #[.int .i64 0, .slice none 0 0, .int .i64 0] 36)] (W.heap.size + 1 + 1) w1) := (((BB.start W).push rfl _).push (k := W.heap.size + 1) (by simp) _).grow hb1 (by omega) (by have := hb1.size; simpa using this)
  clear hb1
  obtain ⟨k0, hk0⟩ : ∃ k, k = W.heap.size := ⟨_, rfl⟩
  rw [← hk0] at HB ⊢
  have HK : Hid (k0 = W.heap.size) := hk0
  clear hk0
  have a0_0 := cellOf (HB.out.at 0 rfl) 0 rfl
  have a0_1 := cellOf (HB.out.at 0 rfl) 1 rfl
  have a0_l := ltOf (HB.out.at 0 rfl)
  clear HP
  go_wp2_with (fail)
  refine (spec_ins a 0 32 r1 HR.out.1 _).mono ?_
  rintro e w3 ⟨rfl, hw⟩
  obtain rfl : w1 = w3 := hw.symm
  clear hw
  cases r1 with
  | false =>
    have hx3 : ¬ ((0 ≤ a ∧ a ≤ 32) ∧ 0 ≤ m ∧ m ≤ 50) := fun h => by have := HR.out.1; rw [decide_eq_true h.1] at this; cases this
    have hcc : CC = 3 := by rw [HF.out.1]; exact anC_out HG.out.2 hx3
    obtain ⟨e1, e2⟩ := HZ.out (by rw [hcc]; decide)
    subst e1 e2
    clear HF hx3
    subst hcc
    have t0 := cellOf (HB.out.at 1 rfl) 0 rfl
    have f0 := frozOf (HB.out.at 1 rfl) 0
    have t1 := cellOf (HB.out.at 1 rfl) 1 rfl
    have f1 := frozOf (HB.out.at 1 rfl) 1
    have t2 := cellOf (HB.out.at 1 rfl) 2 rfl
    have f2 := frozOf (HB.out.at 1 rfl) 2
    have tl := ltOf (HB.out.at 1 rfl)
    have q2 := (((HB.out.set 1 0 rfl (.int .i64 3)).set 1 1 rfl (.slice none 0 0)).set 1 2 rfl (.int .i64 0))
    have u0 := cellOf (q2.at 1 rfl) 0 rfl
    have u1 := cellOf (q2.at 1 rfl) 1 rfl
    have u2 := cellOf (q2.at 1 rfl) 2 rfl
    have QB : Hid _ := q2.bl
    clear q2
    go_wp2
    refine bodyPost_ret (by simp [results, Try.results28, go_sem, u0, u1, u2]) rfl ⟨.slice none 0 0, rfl, World.ownsRow_nil _ _ _ _, QB.out⟩
  | true =>
  go_wp2_with (fail)
  refine (spec_ins m 0 50 r2 HR.out.2 _).mono ?_
  rintro e w3 ⟨rfl, hw⟩
  obtain rfl : w1 = w3 := hw.symm
  clear hw
  cases r2 with
  | false =>
    have hx3 : ¬ ((0 ≤ a ∧ a ≤ 32) ∧ 0 ≤ m ∧ m ≤ 50) := fun h => by have := HR.out.2; rw [decide_eq_true h.2] at this; cases this
    have hcc : CC = 3 := by rw [HF.out.1]; exact anC_out HG.out.2 hx3
    obtain ⟨e1, e2⟩ := HZ.out (by rw [hcc]; decide)
    subst e1 e2
    clear HF hx3
    subst hcc
    have t0 := cellOf (HB.out.at 1 rfl) 0 rfl
    have f0 := frozOf (HB.out.at 1 rfl) 0
    have t1 := cellOf (HB.out.at 1 rfl) 1 rfl
    have f1 := frozOf (HB.out.at 1 rfl) 1
    have t2 := cellOf (HB.out.at 1 rfl) 2 rfl
    have f2 := frozOf (HB.out.at 1 rfl) 2
    have tl := ltOf (HB.out.at 1 rfl)
    have q2 := (((HB.out.set 1 0 rfl (.int .i64 3)).set 1 1 rfl (.slice none 0 0)).set 1 2 rfl (.int .i64 0))
    have u0 := cellOf (q2.at 1 rfl) 0 rfl
    have u1 := cellOf (q2.at 1 rfl) 1 rfl
    have u2 := cellOf (q2.at 1 rfl) 2 rfl
    have QB : Hid _ := q2.bl
    clear q2
    go_wp2
    refine bodyPost_ret (by simp [results, Try.results28, go_sem, u0, u1, u2]) rfl ⟨.slice none 0 0, rfl, World.ownsRow_nil _ _ _ _, QB.out⟩
  | true =>
  have ha : 0 ≤ a ∧ a ≤ 32 := of_decide_eq_true HR.out.1.symm
  have hmm : 0 ≤ m ∧ m ≤ 50 := of_decide_eq_true HR.out.2.symm
  clear HR
  obtain ⟨T, hT⟩ : ∃ T, T = suL s + o := ⟨_, rfl⟩
  have HA : Hid (AG T s o ∧ T ≤ 41000000000) := by rw [hT]; exact AG.of HG.out.1
  clear hT
  obtain ⟨mn, hmn⟩ : ∃ k : Nat, m = (k : Int) := ⟨m.toNat, by omega⟩
  subst hmn
  have hs40 : 0 < n ∧ n ≤ 40 := by rw [HN.out]; exact ⟨HG.out.1.pos, HG.out.1.len⟩
  have HCP : Hid (∀ V, Below W.heap.size W V → Calls Try.prog 36 #[.agg #[.slice ua n uc, .int .i64 o]] V fun e w' => ∃ g c, e = .returned (.agg #[.slice (some ⟨g, 0, none⟩) n c, .int .i64 o]) ∧ IS w' V.heap.size (.slice (some ⟨g, 0, none⟩) n c) s ∧ Below V.heap.size V w') := fun V hV => by
    have := spec_cpd o HG.out.1.pos (by rw [← HN.out]; exact hn) (H.out.below hV)
    rwa [← HN.out] at this
  go_wp2_with (fail)
  refine (HCP.out _ HB.out.bl).mono ?_
  rintro e w2 ⟨g, cp, rfl, hi2, hb2⟩
  have HB2 : Hid (BB W [(k0, .cells #[.slice ua n uc, .int .i64 o] 27), (k0 + 1, .cells #[.int .i64 0, .slice none 0 0, .int .i64 0] 36)] (k0 + 1 + 1) w2) := HB.out.below hb2
  have hgl := (IS.lt hi2 g rfl)
  have hsz := HB.out.sz
  have hW1 := HB.out.bl.size
  clear a0_0 a0_1 a0_l HCP
  go_wp2_with (fail)
  obtain ⟨K, hKK⟩ : ∃ K, K = w2.heap.size := ⟨_, rfl⟩
  obtain ⟨V, hV⟩ : ∃ V, V = w2.alloc (.cells #[.slice (some ⟨g, 0, none⟩) n cp, .int .i64 o] 27) := ⟨_, rfl⟩
  have hVb : Below w2.heap.size w2 V := by rw [hV]; (repeat' (first | (with_reducible exact Below.refl _ _) | (with_reducible assumption) | (with_reducible refine Below.setCell ?_ ?_ _) | (with_reducible refine Below.alloc ?_ ?_ _) | (with_reducible refine below_drewN ?_ _) | (with_reducible refine Below.drew ?_) | (with_reducible exact Nat.le_refl _) | omega | (simp; done) | (simp; omega)))
  have HR0 : Hid (∃ g cp, MP (k0 + 1 + 1) K g n cp s o V ∧ BB W [(k0, .cells #[.slice ua n uc, .int .i64 o] 27), (k0 + 1, .cells #[.int .i64 0, .slice none 0 0, .int .i64 0] 36)] (k0 + 1 + 1) V) :=
    ⟨g, cp, ⟨by rw [hV, hKK]; exact heap_alloc_new _ _, (hi2.bel hVb).low (by omega), by omega, HN.out, ⟨by omega, by have := hb2.size; omega⟩⟩, HB2.out.below hVb⟩
  have HNE : Hid (k0 + 1 + 1 ≤ K ∧ k0 = W.heap.size) := ⟨by have := hb2.size; omega, HK.out⟩
  rw [← hV, ← hKK]
  clear hV hVb hi2 hb2 hgl hsz hW1 HB2 hKK HB
  go_loopw [9, 10, 11, 12] (fun i _ _ _ wr => ∃ (k : Nat), k ≤ mn ∧ i = .int .i64 k ∧ Hid (∃ g cp, MP (k0 + 1 + 1) K g n cp (anN s o a k).1 (anN s o a k).2 wr ∧ BB W [(k0, .cells #[.slice ua n uc, .int .i64 o] 27), (k0 + 1, .cells #[.int .i64 0, .slice none 0 0, .int .i64 0] 36)] (k0 + 1 + 1) wr)) (fun i _ _ _ _ => mn - (intOf i).toNat)
  case atStart => exact ⟨0, Nat.zero_le _, rfl, HR0.out⟩
  case round =>
    clear HR0
    obtain ⟨k, hk, rfl, hR⟩ := hrel
    by_cases hlt : k < mn
    · obtain ⟨g1, cp1, hm, hb⟩ := hR.out
      obtain ⟨M, hM⟩ : ∃ M, M = (anN s o a k).1 := ⟨_, rfl⟩
      obtain ⟨O, hO⟩ : ∃ O, O = (anN s o a k).2 := ⟨_, rfl⟩
      rw [← hM, ← hO] at hm
      have hok := anN_ok HA.out.1 ha k
      rw [← hM, ← hO] at hok
      have HML : Hid (n = M.length) := hm.len
      have HOK : Hid (AG T M O ∧ M = (anN s o a k).1 ∧ O = (anN s o a k).2) := ⟨hok.1, hM, hO⟩
      have HCQ : Hid (Calls Try.prog 36 #[.agg #[.slice (some ⟨g1, 0, none⟩) n cp1, .int .i64 O]] wr fun e w' => ∃ g c, e = .returned (.agg #[.slice (some ⟨g, 0, none⟩) n c, .int .i64 O]) ∧ IS w' wr.heap.size (.slice (some ⟨g, 0, none⟩) n c) M ∧ Below wr.heap.size wr w') := by
        have := spec_cpd O (by rw [← HML.out]; exact hs40.1) (by rw [← HML.out]; exact hn) hm.rd
        rwa [← HML.out] at this
      have HB9 : Hid (BB W [(k0, .cells #[.slice ua n uc, .int .i64 o] 27), (k0 + 1, .cells #[.int .i64 0, .slice none 0 0, .int .i64 0] 36)] (k0 + 1 + 1) wr ∧ MP (k0 + 1 + 1) K g1 n cp1 M O wr) := ⟨hb, hm⟩
      have ma0 := cellOf hm.bx 0 rfl
      have ma1 := cellOf hm.bx 1 rfl
      have mal := ltOf hm.bx
      have b4 : (k : Int) < (mn : Int) := by omega
      clear hR hm hb hM hO hok
      go_wp2_with (fail)
      refine HCQ.out.mono ?_
      rintro e w5 ⟨g2, cp2, rfl, hi5, hb5⟩
      clear ma0 ma1 mal HCQ
      go_wp2_with (fail)
      obtain ⟨Kn, hKn⟩ : ∃ K, K = w5.heap.size := ⟨_, rfl⟩
      obtain ⟨w6, hw6⟩ : ∃ w, w = w5.alloc (.cells #[.slice (some ⟨g2, 0, none⟩) n cp2, .int .i64 O] 27) := ⟨_, rfl⟩
      have hb6 : Below w5.heap.size w5 w6 := by rw [hw6]; (repeat' (first | (with_reducible exact Below.refl _ _) | (with_reducible assumption) | (with_reducible refine Below.setCell ?_ ?_ _) | (with_reducible refine Below.alloc ?_ ?_ _) | (with_reducible refine below_drewN ?_ _) | (with_reducible refine Below.drew ?_) | (with_reducible exact Nat.le_refl _) | omega | (simp; done) | (simp; omega)))
      have HD : Hid (g1 ≠ g2 ∧ g1 ≠ Kn ∧ K ≠ g2 ∧ K ≠ Kn ∧ g2 ≠ Kn ∧ k0 + 1 + 1 ≤ g2 ∧ k0 + 1 + 1 ≤ Kn ∧ k0 = W.heap.size ∧ k0 + 1 + 1 ≤ K ∧ g1 ≠ K) := by
        have q1 := HB9.out.2.lt
        have q2 := IS.lt hi5 g2 rfl
        have q3 := hb5.size
        have q4 := HB9.out.1.sz
        have q5 := HNE.out
        exact ⟨by omega, by omega, by omega, by omega, by omega, by omega, by omega, q5.2, q5.1, HB9.out.2.ne⟩
      have HI0 : Hid (MP (k0 + 1 + 1) K g1 n cp1 M O w6 ∧ MP (k0 + 1 + 1) Kn g2 n cp2 (anL M a 0) (anO M O a 0) w6 ∧ BB W [(k0, .cells #[.slice ua n uc, .int .i64 o] 27), (k0 + 1, .cells #[.int .i64 0, .slice none 0 0, .int .i64 0] 36)] (k0 + 1 + 1) w6) := by
        have h9 := HD.out
        refine ⟨(HB9.out.2.below hb5).below hb6, ⟨by rw [hw6, hKn]; exact heap_alloc_new _ _, (hi5.bel hb6).low (by have := HB9.out.1.sz; omega), by omega, HML.out, ⟨by omega, by omega⟩⟩, (HB9.out.1.below hb5).below hb6⟩
      rw [← hw6, ← hKn]
      clear hw6 hKn hb6 hb5 hi5 HB9
      go_loopw [11, 12] (fun i _ wx => ∃ (j : Nat), j ≤ n ∧ i = .int .i64 j ∧ Hid (MP (k0 + 1 + 1) K g1 n cp1 M O wx ∧ MP (k0 + 1 + 1) Kn g2 n cp2 (anL M a j) (anO M O a j) wx ∧ BB W [(k0, .cells #[.slice ua n uc, .int .i64 o] 27), (k0 + 1, .cells #[.int .i64 0, .slice none 0 0, .int .i64 0] 36)] (k0 + 1 + 1) wx)) (fun i _ _ => n - (intOf i).toNat)
      case atStart => exact ⟨0, Nat.zero_le _, rfl, HI0.out⟩
      case round =>
        clear HI0
        obtain ⟨j, hj, rfl, HS0⟩ := hrel
        by_cases hjn : j < n
        · obtain ⟨x, hx⟩ : ∃ x, x = M.getD j 0 := ⟨_, rfl⟩
          obtain ⟨G, hG⟩ : ∃ G, G = gvA x a := ⟨_, rfl⟩
          have hT1 := HA.out.2
          have hx0 := HOK.out.1.c j
          have hx1 := (HOK.out.1.le j).1
          rw [← hx] at hx0 hx1
          have hg := gvA_bd hx0 ha
          rw [← hG] at hg
          have hG0 := hg.1
          have hG1 : G ≤ 41000000000 := by omega
          have hjl : j ≤ M.length := by rw [← HML.out]; exact hj
          have hcb : ∀ q, 0 ≤ (anL M a j).getD q 0 ∧ (anL M a j).getD q 0 ≤ 41000000000 := fun q => by
            have h1 := (an_inv HOK.out.1 ha j hjl).1
            have h2 := h1.c q
            have h3 := (h1.le q).1
            omega
          have hob : 0 ≤ anO M O a j ∧ anO M O a j ≤ 41000000000 := by
            have h1 := (an_inv HOK.out.1 ha j hjl).1
            have h2 := h1.o0
            have h3 := (h1.le 0).2
            omega
          obtain ⟨c0', c1'⟩ := HS0.out.1.cell hjn
          rw [← hx] at c0'
          have n0 := cellOf HS0.out.1.bx 0 rfl
          have nl := ltOf HS0.out.1.bx
          have ngl := HS0.out.1.lt.1
          have k1 : IntKind.i64.wrap (x * a) = x * a := by rw [IntKind.wrap_i64]; omega
          have k2 : Int.tdiv (x * a) 64 = G := by rw [Int.tdiv_eq_ediv_of_nonneg hg.2.2.1, hG, gvA]
          have k3 : IntKind.i64.wrap G = G := by rw [IntKind.wrap_i64]; omega
          have HGD : Hid (G = gvA (M.getD j 0) a) := by unfold Hid; rw [← hx, hG]
          have b5 : (0 : Int) ≤ (j : Int) := by omega
          have b6 : (j : Int) < (n : Int) := by omega
          clear hx hG hg hx0 hx1 hT1 hjl
          have HCB : Hid ((∀ q, 0 ≤ (anL M a j).getD q 0 ∧ (anL M a j).getD q 0 ≤ 41000000000) ∧ 0 ≤ anO M O a j ∧ anO M O a j ≤ 41000000000) := ⟨hcb, hob⟩
          clear hcb hob
          by_cases hj0 : 0 < j
          · have b12 : (0 : Int) < (j : Int) := by omega
            have HBDA : Hid (0 ≤ (anL M a j).getD j 0 ∧ (anL M a j).getD j 0 ≤ 41000000000 ∧ 0 ≤ G ∧ G ≤ 41000000000) := ⟨(HCB.out.1 j) |>.1, (HCB.out.1 j) |>.2, hG0, hG1⟩
            obtain ⟨c0, c1⟩ := HS0.out.2.1.cell (show j < n by omega)
            obtain ⟨zA, hzA⟩ : ∃ z, z = (anL M a j).getD (j) 0 := ⟨_, rfl⟩
            rw [← hzA] at c0
            have kw : IntKind.i64.wrap (zA - G) = zA - G := by rw [IntKind.wrap_i64, hzA]; have h7 := HBDA.out; omega
            have m0 := cellOf HS0.out.2.1.bx 0 rfl
            have ml := ltOf HS0.out.2.1.bx
            have gl := HS0.out.2.1.lt.1
            obtain ⟨A1, hA1⟩ : ∃ AQ, AQ = (wr.setCell ⟨g2, j, none⟩ (.int .i64 (zA - G))).drew := ⟨_, rfl⟩
            have HSA : Hid (MP (k0 + 1 + 1) K g1 n cp1 M O A1 ∧ MP (k0 + 1 + 1) Kn g2 n cp2 ((anL M a j).set (j) (zA - G)) (anO M O a j) A1 ∧ BB W [(k0, .cells #[.slice ua n uc, .int .i64 o] 27), (k0 + 1, .cells #[.int .i64 0, .slice none 0 0, .int .i64 0] 36)] (k0 + 1 + 1) A1) := by
              have hd : Below (wr.setCell ⟨g2, j, none⟩ (.int .i64 (zA - G))).heap.size (wr.setCell ⟨g2, j, none⟩ (.int .i64 (zA - G))) (wr.setCell ⟨g2, j, none⟩ (.int .i64 (zA - G))).drew := (Below.refl _ _).drew
              rw [hA1]
              have h9 := HD.out
              refine ⟨(HS0.out.1.keep (heap_setCell_other _ _ _ _ (by simp; omega)) (heap_setCell_other _ _ _ _ (by simp; omega))).below hd, (HS0.out.2.1.setL (j) (zA - G)).below hd, (HS0.out.2.2.other (by omega) (fun p hp => ?_) _).below hd⟩
              have := (HS0.out.2.2.lo p hp).2
              omega
            have HZA : Hid (zA = (anL M a j).getD (j) 0) := hzA
            have HWA : Hid (A1 = (wr.setCell ⟨g2, j, none⟩ (.int .i64 (zA - G))).drew) := hA1
            clear hzA hA1
            have HBDB : Hid (-82000000000 ≤ ((anL M a j).set j (zA - G)).getD (j - 1) 0 ∧ ((anL M a j).set j (zA - G)).getD (j - 1) 0 ≤ 41000000000 ∧ 0 ≤ G ∧ G ≤ 41000000000) := ⟨by rw [set_at, if_neg (by omega)]; have := HCB.out.1 (j - 1); omega, by rw [set_at, if_neg (by omega)]; have := HCB.out.1 (j - 1); omega, hG0, hG1⟩
            go_wp2_with (fail)
            refine wp_region_still_tail 11 (by kernel_rfl) (by kernel_rfl) ?_
            have hdw : ({ wr with drawn := wr.drawn + 1 } : World) = wr.drew := rfl
            rw [hdw]
            clear hdw
            simp only [List.take_succ_cons, List.take_zero, List.drop_succ_cons, List.drop_zero]
            iterate 11 still_step
            refine wpStill_nil ?_
            go_wp2_with (fail)
            rw [← HWA.out]
            clear c0 c1 kw m0 ml gl
            obtain ⟨c0, c1⟩ := HSA.out.2.1.cell (show j - 1 < n by omega)
            obtain ⟨zB, hzB⟩ : ∃ z, z = ((anL M a j).set j (zA - G)).getD (j - 1) 0 := ⟨_, rfl⟩
            rw [← hzB] at c0
            have kw : IntKind.i64.wrap (zB + G) = zB + G := by rw [IntKind.wrap_i64, hzB]; have h7 := HBDB.out; omega
            have m0 := cellOf HSA.out.2.1.bx 0 rfl
            have ml := ltOf HSA.out.2.1.bx
            have gl := HSA.out.2.1.lt.1
            obtain ⟨A2, hA2⟩ : ∃ AQ, AQ = (A1.setCell ⟨g2, j - 1, none⟩ (.int .i64 (zB + G))).drew := ⟨_, rfl⟩
            have HSB : Hid (MP (k0 + 1 + 1) K g1 n cp1 M O A2 ∧ MP (k0 + 1 + 1) Kn g2 n cp2 (((anL M a j).set j (zA - G)).set (j - 1) (zB + G)) (anO M O a j) A2 ∧ BB W [(k0, .cells #[.slice ua n uc, .int .i64 o] 27), (k0 + 1, .cells #[.int .i64 0, .slice none 0 0, .int .i64 0] 36)] (k0 + 1 + 1) A2) := by
              have hd : Below (A1.setCell ⟨g2, j - 1, none⟩ (.int .i64 (zB + G))).heap.size (A1.setCell ⟨g2, j - 1, none⟩ (.int .i64 (zB + G))) (A1.setCell ⟨g2, j - 1, none⟩ (.int .i64 (zB + G))).drew := (Below.refl _ _).drew
              rw [hA2]
              have h9 := HD.out
              refine ⟨(HSA.out.1.keep (heap_setCell_other _ _ _ _ (by simp; omega)) (heap_setCell_other _ _ _ _ (by simp; omega))).below hd, (HSA.out.2.1.setL (j - 1) (zB + G)).below hd, (HSA.out.2.2.other (by omega) (fun p hp => ?_) _).below hd⟩
              have := (HSA.out.2.2.lo p hp).2
              omega
            have HZB : Hid (zB = ((anL M a j).set j (zA - G)).getD (j - 1) 0) := hzB
            have HWB : Hid (A2 = (A1.setCell ⟨g2, j - 1, none⟩ (.int .i64 (zB + G))).drew) := hA2
            clear hzB hA2
            have k8 : IntKind.i64.wrap ((j : Int) - 1) = ((j - 1 : Nat) : Int) := by rw [IntKind.wrap_i64]; omega
            have k8b : IntKind.i64.wrap ((j - 1 : Nat) : Int) = ((j - 1 : Nat) : Int) := by rw [IntKind.wrap_i64]; omega
            have b8 : (0 : Int) ≤ ((j - 1 : Nat) : Int) := by omega
            have b9 : ((j - 1 : Nat) : Int) < (n : Int) := by omega
            have b10 : (j : Int) - 1 = ((j - 1 : Nat) : Int) := by omega
            refine wp_region_still_tail 13 (by kernel_rfl) (by kernel_rfl) ?_
            have hdw : ({ A1 with drawn := A1.drawn + 1 } : World) = A1.drew := rfl
            rw [hdw]
            clear hdw
            simp only [List.take_succ_cons, List.take_zero, List.drop_succ_cons, List.drop_zero]
            iterate 13 still_step
            refine wpStill_nil ?_
            go_wp2_with (fail)
            rw [← HWB.out]
            clear c0 c1 kw m0 ml gl
            have HBDC : Hid (-82000000000 ≤ (((anL M a j).set j (zA - G)).set (j - 1) (zB + G)).getD j 0 ∧ (((anL M a j).set j (zA - G)).set (j - 1) (zB + G)).getD j 0 ≤ 41000000000 ∧ 0 ≤ G ∧ G ≤ 41000000000) := ⟨by rw [set_at, if_neg (by omega), set_at, if_pos ⟨rfl, by rw [anL_len, ← HML.out]; omega⟩, HZA.out]; have := HBDA.out; omega, by rw [set_at, if_neg (by omega), set_at, if_pos ⟨rfl, by rw [anL_len, ← HML.out]; omega⟩, HZA.out]; have := HBDA.out; omega, hG0, hG1⟩
            obtain ⟨c0, c1⟩ := HSB.out.2.1.cell (show j < n by omega)
            obtain ⟨zC, hzC⟩ : ∃ z, z = (((anL M a j).set j (zA - G)).set (j - 1) (zB + G)).getD (j) 0 := ⟨_, rfl⟩
            rw [← hzC] at c0
            have kw : IntKind.i64.wrap (zC - G) = zC - G := by rw [IntKind.wrap_i64, hzC]; have h7 := HBDC.out; omega
            have m0 := cellOf HSB.out.2.1.bx 0 rfl
            have ml := ltOf HSB.out.2.1.bx
            have gl := HSB.out.2.1.lt.1
            obtain ⟨A3, hA3⟩ : ∃ AQ, AQ = (A2.setCell ⟨g2, j, none⟩ (.int .i64 (zC - G))).drew := ⟨_, rfl⟩
            have HSC : Hid (MP (k0 + 1 + 1) K g1 n cp1 M O A3 ∧ MP (k0 + 1 + 1) Kn g2 n cp2 ((((anL M a j).set j (zA - G)).set (j - 1) (zB + G)).set (j) (zC - G)) (anO M O a j) A3 ∧ BB W [(k0, .cells #[.slice ua n uc, .int .i64 o] 27), (k0 + 1, .cells #[.int .i64 0, .slice none 0 0, .int .i64 0] 36)] (k0 + 1 + 1) A3) := by
              have hd : Below (A2.setCell ⟨g2, j, none⟩ (.int .i64 (zC - G))).heap.size (A2.setCell ⟨g2, j, none⟩ (.int .i64 (zC - G))) (A2.setCell ⟨g2, j, none⟩ (.int .i64 (zC - G))).drew := (Below.refl _ _).drew
              rw [hA3]
              have h9 := HD.out
              refine ⟨(HSB.out.1.keep (heap_setCell_other _ _ _ _ (by simp; omega)) (heap_setCell_other _ _ _ _ (by simp; omega))).below hd, (HSB.out.2.1.setL (j) (zC - G)).below hd, (HSB.out.2.2.other (by omega) (fun p hp => ?_) _).below hd⟩
              have := (HSB.out.2.2.lo p hp).2
              omega
            have q0 : (A2.setCell ⟨g2, j, none⟩ (.int .i64 (zC - G))).cell? ⟨K, 0, none⟩ = some (.slice (some ⟨g1, 0, none⟩) n cp1) := by have := cellOf HSC.out.1.bx 0 (v := .slice (some ⟨g1, 0, none⟩) n cp1) rfl; rw [hA3] at this; exact this
            have q1 : K < (A2.setCell ⟨g2, j, none⟩ (.int .i64 (zC - G))).heap.size := by have := ltOf HSC.out.1.bx; rw [hA3] at this; exact this
            have HZC : Hid (zC = (((anL M a j).set j (zA - G)).set (j - 1) (zB + G)).getD (j) 0) := hzC
            have HWC : Hid (A3 = (A2.setCell ⟨g2, j, none⟩ (.int .i64 (zC - G))).drew) := hA3
            clear hzC hA3
            by_cases hn1 : j + 1 < n
            · have b7 : ((j + 1 : Nat) : Int) < (n : Int) := by omega
              have k9 : IntKind.i64.wrap ((j : Int) + 1) = ((j + 1 : Nat) : Int) := by rw [IntKind.wrap_i64]; omega
              have b11 : (0 : Int) ≤ (j : Int) + 1 := by omega
              have b13 : (j : Int) + 1 < (n : Int) := by omega
              have HBDD : Hid (-82000000000 ≤ ((((anL M a j).set j (zA - G)).set (j - 1) (zB + G)).set j (zC - G)).getD (j + 1) 0 ∧ ((((anL M a j).set j (zA - G)).set (j - 1) (zB + G)).set j (zC - G)).getD (j + 1) 0 ≤ 41000000000 ∧ 0 ≤ G ∧ G ≤ 41000000000) := by
                have h7 := HCB.out.1 (j + 1)
                refine ⟨?_, ?_, hG0, hG1⟩
                · rw [set_at, if_neg (by omega), set_at, if_neg (by omega), set_at, if_neg (by omega)]; omega
                · rw [set_at, if_neg (by omega), set_at, if_neg (by omega), set_at, if_neg (by omega)]; omega
              refine wp_region_still_tail 11 (by kernel_rfl) (by kernel_rfl) ?_
              have hdw : ({ A2 with drawn := A2.drawn + 1 } : World) = A2.drew := rfl
              rw [hdw]
              clear hdw
              simp only [List.take_succ_cons, List.take_zero, List.drop_succ_cons, List.drop_zero]
              iterate 11 still_step
              refine wpStill_nil ?_
              go_wp2_with (fail)
              rw [← HWC.out]
              clear c0 c1 kw m0 ml gl
              obtain ⟨c0, c1⟩ := HSC.out.2.1.cell (show j + 1 < n by omega)
              obtain ⟨zD, hzD⟩ : ∃ z, z = ((((anL M a j).set j (zA - G)).set (j - 1) (zB + G)).set j (zC - G)).getD (j + 1) 0 := ⟨_, rfl⟩
              rw [← hzD] at c0
              have kw : IntKind.i64.wrap (zD + G) = zD + G := by rw [IntKind.wrap_i64, hzD]; have h7 := HBDD.out; omega
              have m0 := cellOf HSC.out.2.1.bx 0 rfl
              have ml := ltOf HSC.out.2.1.bx
              have gl := HSC.out.2.1.lt.1
              obtain ⟨A4, hA4⟩ : ∃ AQ, AQ = (A3.setCell ⟨g2, j + 1, none⟩ (.int .i64 (zD + G))).drew := ⟨_, rfl⟩
              have HSD : Hid (MP (k0 + 1 + 1) K g1 n cp1 M O A4 ∧ MP (k0 + 1 + 1) Kn g2 n cp2 (((((anL M a j).set j (zA - G)).set (j - 1) (zB + G)).set j (zC - G)).set (j + 1) (zD + G)) (anO M O a j) A4 ∧ BB W [(k0, .cells #[.slice ua n uc, .int .i64 o] 27), (k0 + 1, .cells #[.int .i64 0, .slice none 0 0, .int .i64 0] 36)] (k0 + 1 + 1) A4) := by
                have hd : Below (A3.setCell ⟨g2, j + 1, none⟩ (.int .i64 (zD + G))).heap.size (A3.setCell ⟨g2, j + 1, none⟩ (.int .i64 (zD + G))) (A3.setCell ⟨g2, j + 1, none⟩ (.int .i64 (zD + G))).drew := (Below.refl _ _).drew
                rw [hA4]
                have h9 := HD.out
                refine ⟨(HSC.out.1.keep (heap_setCell_other _ _ _ _ (by simp; omega)) (heap_setCell_other _ _ _ _ (by simp; omega))).below hd, (HSC.out.2.1.setL (j + 1) (zD + G)).below hd, (HSC.out.2.2.other (by omega) (fun p hp => ?_) _).below hd⟩
                have := (HSC.out.2.2.lo p hp).2
                omega
              have HZD : Hid (zD = ((((anL M a j).set j (zA - G)).set (j - 1) (zB + G)).set j (zC - G)).getD (j + 1) 0) := hzD
              have HWD : Hid (A4 = (A3.setCell ⟨g2, j + 1, none⟩ (.int .i64 (zD + G))).drew) := hA4
              clear hzD hA4
              refine wp_region_still_tail 13 (by kernel_rfl) (by kernel_rfl) ?_
              have hdw : ({ A3 with drawn := A3.drawn + 1 } : World) = A3.drew := rfl
              rw [hdw]
              clear hdw
              simp only [List.take_succ_cons, List.take_zero, List.drop_succ_cons, List.drop_zero]
              iterate 13 still_step
              refine wpStill_nil ?_
              go_wp2
              rw [← HWD.out]
              clear c0 c1 kw m0 ml gl
              have HRR : Hid (MP (k0 + 1 + 1) K g1 n cp1 M O A4 ∧ MP (k0 + 1 + 1) Kn g2 n cp2 (anL M a (j + 1)) (anO M O a (j + 1)) A4 ∧ BB W [(k0, .cells #[.slice ua n uc, .int .i64 o] 27), (k0 + 1, .cells #[.int .i64 0, .slice none 0 0, .int .i64 0] 36)] (k0 + 1 + 1) A4) := by
                have e1 : anO M O a (j + 1) = anO M O a j := by rw [anO, gsO, if_pos (by rw [← HML.out]; exact hn1)]
                have e2 : anL M a (j + 1) = ((((anL M a j).set j (zA - G)).set (j - 1) (zB + G)).set j (zC - G)).set (j + 1) (zD + G) := by
                  rw [anL, ← HGD.out, ← gs_model hj0 (by rw [anL_len, ← HML.out]; exact hjn) G, ← HZA.out]
                  unfold ptL
                  rw [← HZB.out, ← HZC.out, ← HZD.out]
                rw [e1, e2]
                exact HSD.out
              go_roundw
              case rel => exact ⟨j + 1, by omega, by go_num, HRR.out⟩
              case measure => simp [intOf] <;> omega
            · have b7 : ¬ ((j + 1 : Nat) : Int) < (n : Int) := by omega
              have k9 : IntKind.i64.wrap ((j : Int) + 1) = ((j + 1 : Nat) : Int) := by rw [IntKind.wrap_i64]; omega
              obtain ⟨PP, hPP⟩ : ∃ P, P = anO M O a j := ⟨_, rfl⟩
              have r0 : (A2.setCell ⟨g2, j, none⟩ (.int .i64 (zC - G))).cell? ⟨Kn, 1, none⟩ = some (.int .i64 PP) := by have := cellOf HSC.out.2.1.bx 1 rfl; rw [HWC.out] at this; rw [hPP]; exact this
              have r1 : (A2.setCell ⟨g2, j, none⟩ (.int .i64 (zC - G))).frozen? ⟨Kn, 1, none⟩ = false := by have := frozOf HSC.out.2.1.bx 1; rw [HWC.out] at this; exact this
              have r2 : Kn < (A2.setCell ⟨g2, j, none⟩ (.int .i64 (zC - G))).heap.size := by have := ltOf HSC.out.2.1.bx; rw [HWC.out] at this; exact this
              have k10 : IntKind.i64.wrap (PP + G) = PP + G := by rw [IntKind.wrap_i64, hPP]; have := HCB.out.2; omega
              have HPP : Hid (PP = anO M O a j) := hPP
              clear hPP
              refine wp_region_still_tail 11 (by kernel_rfl) (by kernel_rfl) ?_
              have hdw : ({ A2 with drawn := A2.drawn + 1 } : World) = A2.drew := rfl
              rw [hdw]
              clear hdw
              simp only [List.take_succ_cons, List.take_zero, List.drop_succ_cons, List.drop_zero]
              iterate 11 still_step
              refine wpStill_nil ?_
              go_wp2
              clear c0 c1 kw m0 ml gl
              have HRR : Hid (MP (k0 + 1 + 1) K g1 n cp1 M O (A3.setCell ⟨Kn, 1, none⟩ (.int .i64 (PP + G))) ∧ MP (k0 + 1 + 1) Kn g2 n cp2 (anL M a (j + 1)) (anO M O a (j + 1)) (A3.setCell ⟨Kn, 1, none⟩ (.int .i64 (PP + G))) ∧ BB W [(k0, .cells #[.slice ua n uc, .int .i64 o] 27), (k0 + 1, .cells #[.int .i64 0, .slice none 0 0, .int .i64 0] 36)] (k0 + 1 + 1) (A3.setCell ⟨Kn, 1, none⟩ (.int .i64 (PP + G)))) := by
                have h9 := HD.out
                have e1 : anO M O a (j + 1) = PP + G := by rw [anO, gsO, if_neg (by rw [← HML.out]; exact hn1), HPP.out, HGD.out]
                have e2 : anL M a (j + 1) = (((anL M a j).set j (zA - G)).set (j - 1) (zB + G)).set j (zC - G) := by
                  rw [anL, ← HGD.out, ← gs_model hj0 (by rw [anL_len, ← HML.out]; exact hjn) G, ← HZA.out]
                  unfold ptL
                  rw [← HZB.out, ← HZC.out]
                  rw [List.set_eq_of_length_le (by simp [anL_len]; rw [← HML.out]; omega)]
                rw [e1, e2]
                refine ⟨HSC.out.1.keep (heap_setCell_other _ _ _ _ (by simp; omega)) (heap_setCell_other _ _ _ _ (by simp; omega)), HSC.out.2.1.setO (PP + G), HSC.out.2.2.other (by omega) (fun p hp => ?_) _⟩
                have := (HSC.out.2.2.lo p hp).2
                omega
              rw [HWC.out] at HRR
              go_roundw
              case rel => exact ⟨j + 1, by omega, by go_num, HRR.out⟩
              case measure => simp [intOf] <;> omega
          · have HJ0 : Hid (j = 0) := by unfold Hid; omega
            have b12 : ¬ (0 : Int) < (j : Int) := by omega
            have HBDC : Hid (0 ≤ (anL M a j).getD j 0 ∧ (anL M a j).getD j 0 ≤ 41000000000 ∧ 0 ≤ G ∧ G ≤ 41000000000) := ⟨(HCB.out.1 j) |>.1, (HCB.out.1 j) |>.2, hG0, hG1⟩
            obtain ⟨c0, c1⟩ := HS0.out.2.1.cell (show j < n by omega)
            obtain ⟨zC, hzC⟩ : ∃ z, z = (anL M a j).getD (j) 0 := ⟨_, rfl⟩
            rw [← hzC] at c0
            have kw : IntKind.i64.wrap (zC - G) = zC - G := by rw [IntKind.wrap_i64, hzC]; have h7 := HBDC.out; omega
            have m0 := cellOf HS0.out.2.1.bx 0 rfl
            have ml := ltOf HS0.out.2.1.bx
            have gl := HS0.out.2.1.lt.1
            obtain ⟨A3, hA3⟩ : ∃ AQ, AQ = (wr.setCell ⟨g2, j, none⟩ (.int .i64 (zC - G))).drew := ⟨_, rfl⟩
            have HSC : Hid (MP (k0 + 1 + 1) K g1 n cp1 M O A3 ∧ MP (k0 + 1 + 1) Kn g2 n cp2 ((anL M a j).set (j) (zC - G)) (anO M O a j) A3 ∧ BB W [(k0, .cells #[.slice ua n uc, .int .i64 o] 27), (k0 + 1, .cells #[.int .i64 0, .slice none 0 0, .int .i64 0] 36)] (k0 + 1 + 1) A3) := by
              have hd : Below (wr.setCell ⟨g2, j, none⟩ (.int .i64 (zC - G))).heap.size (wr.setCell ⟨g2, j, none⟩ (.int .i64 (zC - G))) (wr.setCell ⟨g2, j, none⟩ (.int .i64 (zC - G))).drew := (Below.refl _ _).drew
              rw [hA3]
              have h9 := HD.out
              refine ⟨(HS0.out.1.keep (heap_setCell_other _ _ _ _ (by simp; omega)) (heap_setCell_other _ _ _ _ (by simp; omega))).below hd, (HS0.out.2.1.setL (j) (zC - G)).below hd, (HS0.out.2.2.other (by omega) (fun p hp => ?_) _).below hd⟩
              have := (HS0.out.2.2.lo p hp).2
              omega
            have q0 : (wr.setCell ⟨g2, j, none⟩ (.int .i64 (zC - G))).cell? ⟨K, 0, none⟩ = some (.slice (some ⟨g1, 0, none⟩) n cp1) := by have := cellOf HSC.out.1.bx 0 (v := .slice (some ⟨g1, 0, none⟩) n cp1) rfl; rw [hA3] at this; exact this
            have q1 : K < (wr.setCell ⟨g2, j, none⟩ (.int .i64 (zC - G))).heap.size := by have := ltOf HSC.out.1.bx; rw [hA3] at this; exact this
            have HZC : Hid (zC = (anL M a j).getD (j) 0) := hzC
            have HWC : Hid (A3 = (wr.setCell ⟨g2, j, none⟩ (.int .i64 (zC - G))).drew) := hA3
            clear hzC hA3
            go_wp2_with (fail)
            by_cases hn1 : j + 1 < n
            · have b7 : ((j + 1 : Nat) : Int) < (n : Int) := by omega
              have k9 : IntKind.i64.wrap ((j : Int) + 1) = ((j + 1 : Nat) : Int) := by rw [IntKind.wrap_i64]; omega
              have b11 : (0 : Int) ≤ (j : Int) + 1 := by omega
              have b13 : (j : Int) + 1 < (n : Int) := by omega
              have HBDD : Hid (-82000000000 ≤ ((anL M a j).set j (zC - G)).getD (j + 1) 0 ∧ ((anL M a j).set j (zC - G)).getD (j + 1) 0 ≤ 41000000000 ∧ 0 ≤ G ∧ G ≤ 41000000000) := by
                have h7 := HCB.out.1 (j + 1)
                refine ⟨?_, ?_, hG0, hG1⟩
                · rw [set_at, if_neg (by omega)]; omega
                · rw [set_at, if_neg (by omega)]; omega
              refine wp_region_still_tail 11 (by kernel_rfl) (by kernel_rfl) ?_
              have hdw : ({ wr with drawn := wr.drawn + 1 } : World) = wr.drew := rfl
              rw [hdw]
              clear hdw
              simp only [List.take_succ_cons, List.take_zero, List.drop_succ_cons, List.drop_zero]
              iterate 11 still_step
              refine wpStill_nil ?_
              go_wp2_with (fail)
              rw [← HWC.out]
              clear c0 c1 kw m0 ml gl
              obtain ⟨c0, c1⟩ := HSC.out.2.1.cell (show j + 1 < n by omega)
              obtain ⟨zD, hzD⟩ : ∃ z, z = ((anL M a j).set j (zC - G)).getD (j + 1) 0 := ⟨_, rfl⟩
              rw [← hzD] at c0
              have kw : IntKind.i64.wrap (zD + G) = zD + G := by rw [IntKind.wrap_i64, hzD]; have h7 := HBDD.out; omega
              have m0 := cellOf HSC.out.2.1.bx 0 rfl
              have ml := ltOf HSC.out.2.1.bx
              have gl := HSC.out.2.1.lt.1
              obtain ⟨A4, hA4⟩ : ∃ AQ, AQ = (A3.setCell ⟨g2, j + 1, none⟩ (.int .i64 (zD + G))).drew := ⟨_, rfl⟩
              have HSD : Hid (MP (k0 + 1 + 1) K g1 n cp1 M O A4 ∧ MP (k0 + 1 + 1) Kn g2 n cp2 (((anL M a j).set j (zC - G)).set (j + 1) (zD + G)) (anO M O a j) A4 ∧ BB W [(k0, .cells #[.slice ua n uc, .int .i64 o] 27), (k0 + 1, .cells #[.int .i64 0, .slice none 0 0, .int .i64 0] 36)] (k0 + 1 + 1) A4) := by
                have hd : Below (A3.setCell ⟨g2, j + 1, none⟩ (.int .i64 (zD + G))).heap.size (A3.setCell ⟨g2, j + 1, none⟩ (.int .i64 (zD + G))) (A3.setCell ⟨g2, j + 1, none⟩ (.int .i64 (zD + G))).drew := (Below.refl _ _).drew
                rw [hA4]
                have h9 := HD.out
                refine ⟨(HSC.out.1.keep (heap_setCell_other _ _ _ _ (by simp; omega)) (heap_setCell_other _ _ _ _ (by simp; omega))).below hd, (HSC.out.2.1.setL (j + 1) (zD + G)).below hd, (HSC.out.2.2.other (by omega) (fun p hp => ?_) _).below hd⟩
                have := (HSC.out.2.2.lo p hp).2
                omega
              have HZD : Hid (zD = ((anL M a j).set j (zC - G)).getD (j + 1) 0) := hzD
              have HWD : Hid (A4 = (A3.setCell ⟨g2, j + 1, none⟩ (.int .i64 (zD + G))).drew) := hA4
              clear hzD hA4
              refine wp_region_still_tail 13 (by kernel_rfl) (by kernel_rfl) ?_
              have hdw : ({ A3 with drawn := A3.drawn + 1 } : World) = A3.drew := rfl
              rw [hdw]
              clear hdw
              simp only [List.take_succ_cons, List.take_zero, List.drop_succ_cons, List.drop_zero]
              iterate 13 still_step
              refine wpStill_nil ?_
              go_wp2
              rw [← HWD.out]
              clear c0 c1 kw m0 ml gl
              have HRR : Hid (MP (k0 + 1 + 1) K g1 n cp1 M O A4 ∧ MP (k0 + 1 + 1) Kn g2 n cp2 (anL M a (j + 1)) (anO M O a (j + 1)) A4 ∧ BB W [(k0, .cells #[.slice ua n uc, .int .i64 o] 27), (k0 + 1, .cells #[.int .i64 0, .slice none 0 0, .int .i64 0] 36)] (k0 + 1 + 1) A4) := by
                have e1 : anO M O a (j + 1) = anO M O a j := by rw [anO, gsO, if_pos (by rw [← HML.out]; exact hn1)]
                have e2 : anL M a (j + 1) = ((anL M a j).set j (zC - G)).set (j + 1) (zD + G) := by
                  have h0 : 0 < M.length := by rw [← HML.out]; omega
                  have h1 := HZC.out
                  have h3 := HGD.out
                  have h4 := HJ0.out
                  have h2 := HZD.out
                  subst h4
                  have h1a : zC = M.getD 0 0 := h1
                  show gsL M 0 (gvA (M.getD 0 0) a) = (M.set 0 (zC - G)).set (0 + 1) (zD + G)
                  rw [← h3, ← gs_model0 h0 G, ← h1a]
                  unfold ptL
                  rw [h2]; rfl
                rw [e1, e2]
                exact HSD.out
              go_roundw
              case rel => exact ⟨j + 1, by omega, by go_num, HRR.out⟩
              case measure => simp [intOf] <;> omega
            · have b7 : ¬ ((j + 1 : Nat) : Int) < (n : Int) := by omega
              have k9 : IntKind.i64.wrap ((j : Int) + 1) = ((j + 1 : Nat) : Int) := by rw [IntKind.wrap_i64]; omega
              obtain ⟨PP, hPP⟩ : ∃ P, P = anO M O a j := ⟨_, rfl⟩
              have r0 : (wr.setCell ⟨g2, j, none⟩ (.int .i64 (zC - G))).cell? ⟨Kn, 1, none⟩ = some (.int .i64 PP) := by have := cellOf HSC.out.2.1.bx 1 rfl; rw [HWC.out] at this; rw [hPP]; exact this
              have r1 : (wr.setCell ⟨g2, j, none⟩ (.int .i64 (zC - G))).frozen? ⟨Kn, 1, none⟩ = false := by have := frozOf HSC.out.2.1.bx 1; rw [HWC.out] at this; exact this
              have r2 : Kn < (wr.setCell ⟨g2, j, none⟩ (.int .i64 (zC - G))).heap.size := by have := ltOf HSC.out.2.1.bx; rw [HWC.out] at this; exact this
              have k10 : IntKind.i64.wrap (PP + G) = PP + G := by rw [IntKind.wrap_i64, hPP]; have := HCB.out.2; omega
              have HPP : Hid (PP = anO M O a j) := hPP
              clear hPP
              refine wp_region_still_tail 11 (by kernel_rfl) (by kernel_rfl) ?_
              have hdw : ({ wr with drawn := wr.drawn + 1 } : World) = wr.drew := rfl
              rw [hdw]
              clear hdw
              simp only [List.take_succ_cons, List.take_zero, List.drop_succ_cons, List.drop_zero]
              iterate 11 still_step
              refine wpStill_nil ?_
              go_wp2
              clear c0 c1 kw m0 ml gl
              have HRR : Hid (MP (k0 + 1 + 1) K g1 n cp1 M O (A3.setCell ⟨Kn, 1, none⟩ (.int .i64 (PP + G))) ∧ MP (k0 + 1 + 1) Kn g2 n cp2 (anL M a (j + 1)) (anO M O a (j + 1)) (A3.setCell ⟨Kn, 1, none⟩ (.int .i64 (PP + G))) ∧ BB W [(k0, .cells #[.slice ua n uc, .int .i64 o] 27), (k0 + 1, .cells #[.int .i64 0, .slice none 0 0, .int .i64 0] 36)] (k0 + 1 + 1) (A3.setCell ⟨Kn, 1, none⟩ (.int .i64 (PP + G)))) := by
                have h9 := HD.out
                have e1 : anO M O a (j + 1) = PP + G := by rw [anO, gsO, if_neg (by rw [← HML.out]; exact hn1), HPP.out, HGD.out]
                have e2 : anL M a (j + 1) = (anL M a j).set j (zC - G) := by
                  have h0 : 0 < M.length := by rw [← HML.out]; omega
                  have h1 := HZC.out
                  have h3 := HGD.out
                  have h4 := HJ0.out
                  skip
                  subst h4
                  have h1a : zC = M.getD 0 0 := h1
                  show gsL M 0 (gvA (M.getD 0 0) a) = M.set 0 (zC - G)
                  rw [← h3, ← gs_model0 h0 G, ← h1a]
                  unfold ptL
                  skip
                  rw [List.set_eq_of_length_le (by simp [anL_len]; rw [← HML.out]; omega)]
                rw [e1, e2]
                refine ⟨HSC.out.1.keep (heap_setCell_other _ _ _ _ (by simp; omega)) (heap_setCell_other _ _ _ _ (by simp; omega)), HSC.out.2.1.setO (PP + G), HSC.out.2.2.other (by omega) (fun p hp => ?_) _⟩
                have := (HSC.out.2.2.lo p hp).2
                omega
              rw [HWC.out] at HRR
              go_roundw
              case rel => exact ⟨j + 1, by omega, by go_num, HRR.out⟩
              case measure => simp [intOf] <;> omega
        · obtain rfl : n = j := by omega
          have n0 := cellOf HS0.out.2.1.bx 0 rfl
          have n1 := cellOf HS0.out.2.1.bx 1 rfl
          have nl := ltOf HS0.out.2.1.bx
          have m0 := cellOf HS0.out.1.bx 0 rfl
          have m1 := cellOf HS0.out.1.bx 1 rfl
          have mf0 := frozOf HS0.out.1.bx 0
          have mf1 := frozOf HS0.out.1.bx 1
          have ml := ltOf HS0.out.1.bx
          obtain ⟨NO, hNO⟩ : ∃ x, x = anO M O a n := ⟨_, rfl⟩
          rw [← hNO] at n1
          obtain ⟨w7, hw7⟩ : ∃ w, w = (wr.setCell ⟨K, 0, none⟩ (.slice (some ⟨g2, 0, none⟩) n cp2)).setCell ⟨K, 1, none⟩ (.int .i64 NO) := ⟨_, rfl⟩
          have HR7 : Hid (∃ g cp, MP (k0 + 1 + 1) K g n cp (anN s o a (k + 1)).1 (anN s o a (k + 1)).2 w7 ∧ BB W [(k0, .cells #[.slice ua n uc, .int .i64 o] 27), (k0 + 1, .cells #[.int .i64 0, .slice none 0 0, .int .i64 0] 36)] (k0 + 1 + 1) w7) := by
            have h9 := HD.out
            have e1 : (anN s o a (k + 1)).1 = anL M a n := by rw [anN, ← HOK.out.2.1, ← HML.out]
            have e2 : (anN s o a (k + 1)).2 = NO := by rw [anN, ← HOK.out.2.1, ← HOK.out.2.2, ← HML.out, hNO]
            refine ⟨g2, cp2, ⟨?_, ?_, by omega, ?_, ⟨h9.2.2.2.2.2.1, by omega⟩⟩, ?_⟩
            · have s0 := heap_setCell_same _ _ 0 _ _ (.slice (some ⟨g2, 0, none⟩) n cp2) HS0.out.1.bx
              have s1 := heap_setCell_same _ _ 1 _ _ (.int .i64 NO) s0
              rw [hw7, e2]; simpa using s1
            · rw [e1, hw7]
              exact HS0.out.2.1.is.keepE (by rw [heap_setCell_other _ _ _ _ (show g2 ≠ K by omega), heap_setCell_other _ _ _ _ (show g2 ≠ K by omega)])
            · rw [e1, anL_len]; exact HML.out
            · rw [hw7]
              refine (HS0.out.2.2.other (by omega) (fun p hp => ?_) _).other (by omega) (fun p hp => ?_) _
              · have := (HS0.out.2.2.lo p hp).2; omega
              · have := (HS0.out.2.2.lo p hp).2; omega
          have HW7 : Hid (w7 = (wr.setCell ⟨K, 0, none⟩ (.slice (some ⟨g2, 0, none⟩) n cp2)).setCell ⟨K, 1, none⟩ (.int .i64 NO)) := hw7
          clear hw7 hNO HS0
          go_wp2
          rw [← HW7.out]
          go_roundw
          case rel => exact ⟨k + 1, by omega, by go_num, HR7.out⟩
          case measure => simp [intOf] <;> omega
    · obtain rfl : k = mn := by omega
      obtain ⟨g, cp, hm, hb⟩ := hR.out
      obtain ⟨M, hM⟩ : ∃ M, M = (anN s o a k).1 := ⟨_, rfl⟩
      obtain ⟨O, hO⟩ : ∃ O, O = (anN s o a k).2 := ⟨_, rfl⟩
      rw [← hM, ← hO] at hm
      have h9 := HNE.out
      have HM : Hid (MP W.heap.size K g n cp M O wr) := ⟨hm.bx, hm.is.low (by omega), hm.ne, hm.len, ⟨by have := hm.lo; omega, by have := hm.lo; omega⟩⟩
      have HX : Hid (BB W [(k0, .cells #[.slice ua n uc, .int .i64 o] 27), (k0 + 1, .cells #[.int .i64 0, .slice none 0 0, .int .i64 0] 36)] (k0 + 1 + 1) wr) := hb
      have hln : M.length ≤ 1048576 := by rw [hM, (anN_ok HA.out.1 ha k).2, ← HN.out]; exact hn
      have HNX : Hid (g ≠ k0 + 1 ∧ True) := ⟨by have := hm.lo; omega, trivial⟩
      have HCM : Hid (CC = pfC M O ∧ LL = tdL CC M ∧ QQ = tdO CC O) := by
        have h8 := HF.out
        rw [anC_in HG.out.2 ⟨ha, hmm⟩] at h8
        rw [hM, hO]
        exact h8
      clear hR hm hb hM hO h9 HNE
      have HNE : Hid (g ≠ k0 + 1 ∧ True) := HNX.out
      clear HNX
      have ma0 := cellOf HM.out.bx 0 rfl
      have ma1 := cellOf HM.out.bx 1 rfl
      have mal := ltOf HM.out.bx
      by_cases hz : pfC (M) (O) = 0
      · obtain ⟨e1, e2, e3⟩ : CC = 0 ∧ LL = M ∧ QQ = O := ⟨by rw [HCM.out.1, hz], by rw [HCM.out.2.1, tdL, if_pos (by rw [HCM.out.1, hz])], by rw [HCM.out.2.2, tdO, if_pos (by rw [HCM.out.1, hz])]⟩
        have HA : Hid (∀ V, Below wr.heap.size wr V → Calls Try.prog 37 #[.agg #[.slice (some ⟨g, 0, none⟩) n cp, .int .i64 O]] V fun e w' => e = .returned (.agg #[.int .i64 0, .slice (some ⟨g, 0, none⟩) n cp, .int .i64 QQ]) ∧ Below V.heap.size V w') := fun V hV => by
          have := spec_ans_ok hz (HM.out.rd.below hV)
          rw [e3]; exact this
        clear hz
        subst e1
        clear e3
        have HLL : Hid (LL = M) := e2
        clear e2
        go_wp2_with (fail)
        refine (HA.out _ (Below.refl _ _)).mono ?_
        rintro e w5 ⟨rfl, hb5⟩
        have HX5 := HX.out.below hb5
        have HM5 := HM.out.below hb5
        clear hb5 ma0 ma1 mal
        have t0 := cellOf (HX5.at 1 rfl) 0 rfl
        have f0 := frozOf (HX5.at 1 rfl) 0
        have t1 := cellOf (HX5.at 1 rfl) 1 rfl
        have f1 := frozOf (HX5.at 1 rfl) 1
        have t2 := cellOf (HX5.at 1 rfl) 2 rfl
        have f2 := frozOf (HX5.at 1 rfl) 2
        have tl := ltOf (HX5.at 1 rfl)
        have q2 := (((HX5.set 1 0 rfl (.int .i64 0)).set 1 1 rfl (.slice (some ⟨g, 0, none⟩) n cp)).set 1 2 rfl (.int .i64 QQ))
        have q3 := q2
        have u0 := cellOf (q3.at 1 rfl) 0 rfl
        have u1 := cellOf (q3.at 1 rfl) 1 rfl
        have u2 := cellOf (q3.at 1 rfl) 2 rfl
        have QB : Hid _ := q3.bl
        have HI : Hid (IS (((w5.setCell ⟨k0 + 1, 0, none⟩ (.int .i64 0)).setCell ⟨k0 + 1, 1, none⟩ (.slice (some ⟨g, 0, none⟩) n cp)).setCell ⟨k0 + 1, 2, none⟩ (.int .i64 QQ)) W.heap.size (.slice (some ⟨g, 0, none⟩) n cp) LL) := by
          unfold Hid
          rw [HLL.out]
          refine HM5.is.keepE ?_
          rw [heap_setCell_other _ _ _ _ HNE.out.1, heap_setCell_other _ _ _ _ HNE.out.1, heap_setCell_other _ _ _ _ HNE.out.1]
        clear q2 q3
        go_wp2
        refine bodyPost_ret (by simp [results, Try.results28, go_sem, u0, u1, u2]) rfl ⟨.slice (some ⟨g, 0, none⟩) n cp, rfl, HI.out, QB.out⟩
      · obtain ⟨e1, e2⟩ := HZ.out (by rw [HCM.out.1]; exact hz)
        have HA : Hid (∀ V, Below wr.heap.size wr V → Calls Try.prog 37 #[.agg #[.slice (some ⟨g, 0, none⟩) n cp, .int .i64 O]] V fun e w' => e = .returned (.agg #[.int .i64 CC, .slice none 0 0, .int .i64 0]) ∧ Below V.heap.size V w') := fun V hV => by
          have := spec_ans_bad hln hz (HM.out.rd.below hV)
          rwa [← HCM.out.1] at this
        clear hz
        subst e1 e2
        go_wp2_with (fail)
        refine (HA.out _ (Below.refl _ _)).mono ?_
        rintro e w5 ⟨rfl, hb5⟩
        have HX5 := HX.out.below hb5
        have HM5 := HM.out.below hb5
        clear hb5 ma0 ma1 mal
        have t0 := cellOf (HX5.at 1 rfl) 0 rfl
        have f0 := frozOf (HX5.at 1 rfl) 0
        have t1 := cellOf (HX5.at 1 rfl) 1 rfl
        have f1 := frozOf (HX5.at 1 rfl) 1
        have t2 := cellOf (HX5.at 1 rfl) 2 rfl
        have f2 := frozOf (HX5.at 1 rfl) 2
        have tl := ltOf (HX5.at 1 rfl)
        have q2 := (((HX5.set 1 0 rfl (.int .i64 CC)).set 1 1 rfl (.slice none 0 0)).set 1 2 rfl (.int .i64 0))
        have q3 := q2
        have u0 := cellOf (q3.at 1 rfl) 0 rfl
        have u1 := cellOf (q3.at 1 rfl) 1 rfl
        have u2 := cellOf (q3.at 1 rfl) 2 rfl
        have QB : Hid _ := q3.bl
        clear q2 q3
        go_wp2
        refine bodyPost_ret (by simp [results, Try.results28, go_sem, u0, u1, u2]) rfl ⟨.slice none 0 0, rfl, World.ownsRow_nil _ _ _ _, QB.out⟩

end Go.Proofs.Ytfjfogiohijkkaa
