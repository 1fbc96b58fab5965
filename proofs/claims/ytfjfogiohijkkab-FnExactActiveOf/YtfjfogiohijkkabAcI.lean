/- Proved here: ActiveOf of the program. -/
import Derived.Test.YtfjfogiohijkkabPfX
import Derived.Test.YtfjfogiohijkkabPfI
import Derived.Test.YtfjfogiohijkkabPfK
import Derived.Test.YtfjfogiohijkkabJnM
namespace Go.Proofs.Ytfjfogiohijkkab
open Go.RowKit Go.Shelf
set_option linter.unusedVariables false
set_option linter.unusedSimpArgs false
attribute [local go_sem] Oper.semAt_some

set_option maxRecDepth 100000 in
set_option maxHeartbeats 12800000 in
theorem impl_active (o t : Int) {W : World} {v : Value} {s : List Int} (hn : s.length ≤ 1048576) (h : RdI W v s) :
    Calls Try.prog 12 #[.agg #[v, .int .i64 o], .int .i64 t] W fun e w' => ∃ v' , e = .returned (.agg #[.int .i64 (acC s o t), v', .int .i64 (tdO (acC s o t) (acY s o t))]) ∧ IS w' W.heap.size v' (tdL (acC s o t) (acZ s t)) ∧ Below W.heap.size W w' := by
  obtain ⟨ua, uc, rfl⟩ := h.form
  obtain ⟨n, hnn⟩ : ∃ n, n = s.length := ⟨_, rfl⟩
  rw [← hnn] at h hn ⊢
  have HN : Hid (n = s.length) := hnn
  have H : Hid (RdI W (.slice ua n uc) s) := h
  obtain ⟨CC, hCC⟩ : ∃ x, x = acC s o t := ⟨_, rfl⟩
  rw [← hCC]
  obtain ⟨LL, hLL⟩ : ∃ x, x = tdL CC (acZ s t) := ⟨_, rfl⟩
  obtain ⟨QQ, hQQ⟩ : ∃ x, x = tdO CC (acY s o t) := ⟨_, rfl⟩
  rw [← hLL, ← hQQ]
  have HZ : Hid (CC ≠ 0 → LL = [] ∧ QQ = 0) := fun h9 => by rw [hLL, hQQ, tdL, tdO, if_neg h9, if_neg h9]; exact ⟨rfl, rfl⟩
  have HF : Hid (CC = acC s o t ∧ LL = tdL CC (acZ s t) ∧ QQ = tdO CC (acY s o t)) := ⟨hCC, hLL, hQQ⟩
  obtain ⟨C, hC⟩ : ∃ C, C = pfC s o := ⟨_, rfl⟩
  have HP : Hid (∀ V, Below W.heap.size W V → Calls Try.prog 21 #[.agg #[.slice ua n uc, .int .i64 o]] V fun e w' => e = .returned (.int .i64 C) ∧ Below V.heap.size V w') := fun V hV => by
    have := impl_pf o (by rw [← HN.out]; exact hn) (H.out.below hV)
    rwa [← hC] at this
  have HC : Hid (C = pfC s o) := hC
  clear hC hCC hLL hQQ h hnn
  by_cases h0 : C ≠ 0
  · have hC2 : (C != 0) = true := by simpa using h0
    have hcc : CC = C := by rw [HF.out.1, HC.out]; exact acC_bad (by rw [← HC.out]; exact h0)
    obtain ⟨e1, e2⟩ := HZ.out (by rw [hcc]; exact h0)
    subst e1 e2
    clear HF
    subst hcc
    go_enter Try.func12, Try.ntmps12
    go_wp2_with (fail)
    refine (HP.out _ (by (repeat' (first | (with_reducible exact Below.refl _ _) | (with_reducible assumption) | (with_reducible refine Below.setCell ?_ ?_ _) | (with_reducible refine Below.alloc ?_ ?_ _) | (with_reducible refine below_drewN ?_ _) | (with_reducible refine Below.drew ?_) | (with_reducible exact Nat.le_refl _) | omega | (simp; done) | (simp; omega))))).mono ?_
    rintro e w1 ⟨rfl, hb1⟩
    have HB : Hid (BB W [(W.heap.size, .cells #[.slice ua n uc, .int .i64 o] 29), (W.heap.size + 1, .cells #[.int .i64 t] 2), (W.heap.size + 1 + 1, .cells #[.int .i64 0, .slice none 0 0, .int .i64 0] 35)] (W.heap.size + 1 + 1 + 1) w1) := ((((BB.start W).push rfl _).push (k := W.heap.size + 1) (by simp) _).push (k := W.heap.size + 1 + 1) (by simp) _).grow hb1 (by omega) (by have := hb1.size; simpa using this)
    clear hb1
    obtain ⟨k0, hk0⟩ : ∃ k, k = W.heap.size := ⟨_, rfl⟩
    rw [← hk0] at HB ⊢
    have HK : Hid (k0 = W.heap.size) := hk0
    clear hk0
    have a0_0 := cellOf (HB.out.at 0 rfl) 0 rfl
    have a0_1 := cellOf (HB.out.at 0 rfl) 1 rfl
    have a0_l := ltOf (HB.out.at 0 rfl)
    have a1_0 := cellOf (HB.out.at 1 rfl) 0 rfl
    have a1_l := ltOf (HB.out.at 1 rfl)
    have t0 := cellOf (HB.out.at 2 rfl) 0 rfl
    have f0 := frozOf (HB.out.at 2 rfl) 0
    have t1 := cellOf (HB.out.at 2 rfl) 1 rfl
    have f1 := frozOf (HB.out.at 2 rfl) 1
    have t2 := cellOf (HB.out.at 2 rfl) 2 rfl
    have f2 := frozOf (HB.out.at 2 rfl) 2
    have tl := ltOf (HB.out.at 2 rfl)
    have q2 := (((HB.out.set 2 0 rfl (.int .i64 CC)).set 2 1 rfl (.slice none 0 0)).set 2 2 rfl (.int .i64 0))
    have u0 := cellOf (q2.at 2 rfl) 0 rfl
    have u1 := cellOf (q2.at 2 rfl) 1 rfl
    have u2 := cellOf (q2.at 2 rfl) 2 rfl
    have QB : Hid _ := q2.bl
    clear q2
    go_wp2
    refine bodyPost_ret (by simp [results, Try.results12, go_sem, u0, u1, u2]) rfl ⟨.slice none 0 0, rfl, World.ownsRow_nil _ _ _ _, QB.out⟩
  have h0' : C = 0 := by simpa using h0
  have hC0 : pfC s o = 0 := by rw [← HC.out]; exact h0'
  have HG : Hid (PG s o ∧ pfC s o = 0) := ⟨pfC_ok hC0, hC0⟩
  subst h0'
  clear h0 hC0 HC
  obtain ⟨r, hr⟩ : ∃ r, r = decide (0 ≤ t ∧ t ≤ 1000000000) := ⟨_, rfl⟩
  have HR : Hid (r = decide (0 ≤ t ∧ t ≤ 1000000000)) := hr
  clear hr
  by_cases q0 : r = false
  · subst q0
    have hx3 : ¬ (0 ≤ t ∧ t ≤ 1000000000) := fun h => by have := HR.out; rw [decide_eq_true h] at this; cases this
    have hcc : CC = 3 := by rw [HF.out.1]; exact acC_out HG.out.2 hx3
    obtain ⟨e1, e2⟩ := HZ.out (by rw [hcc]; decide)
    subst e1 e2
    clear HF hx3
    subst hcc
    go_enter Try.func12, Try.ntmps12
    go_wp2_with (fail)
    refine (HP.out _ (by (repeat' (first | (with_reducible exact Below.refl _ _) | (with_reducible assumption) | (with_reducible refine Below.setCell ?_ ?_ _) | (with_reducible refine Below.alloc ?_ ?_ _) | (with_reducible refine below_drewN ?_ _) | (with_reducible refine Below.drew ?_) | (with_reducible exact Nat.le_refl _) | omega | (simp; done) | (simp; omega))))).mono ?_
    rintro e w1 ⟨rfl, hb1⟩
    have HB : Hid (BB W [(W.heap.size, .cells #[.slice ua n uc, .int .i64 o] 29), (W.heap.size + 1, .cells #[.int .i64 t] 2), (W.heap.size + 1 + 1, .cells #[.int .i64 0, .slice none 0 0, .int .i64 0] 35)] (W.heap.size + 1 + 1 + 1) w1) := ((((BB.start W).push rfl _).push (k := W.heap.size + 1) (by simp) _).push (k := W.heap.size + 1 + 1) (by simp) _).grow hb1 (by omega) (by have := hb1.size; simpa using this)
    clear hb1
    obtain ⟨k0, hk0⟩ : ∃ k, k = W.heap.size := ⟨_, rfl⟩
    rw [← hk0] at HB ⊢
    have HK : Hid (k0 = W.heap.size) := hk0
    clear hk0
    have a0_0 := cellOf (HB.out.at 0 rfl) 0 rfl
    have a0_1 := cellOf (HB.out.at 0 rfl) 1 rfl
    have a0_l := ltOf (HB.out.at 0 rfl)
    have a1_0 := cellOf (HB.out.at 1 rfl) 0 rfl
    have a1_l := ltOf (HB.out.at 1 rfl)
    go_wp2_with (fail)
    refine (impl_ins t 0 1000000000 false HR.out _).mono ?_
    rintro e w3 ⟨rfl, hw⟩
    obtain rfl : w1 = w3 := hw.symm
    clear hw
    have t0 := cellOf (HB.out.at 2 rfl) 0 rfl
    have f0 := frozOf (HB.out.at 2 rfl) 0
    have t1 := cellOf (HB.out.at 2 rfl) 1 rfl
    have f1 := frozOf (HB.out.at 2 rfl) 1
    have t2 := cellOf (HB.out.at 2 rfl) 2 rfl
    have f2 := frozOf (HB.out.at 2 rfl) 2
    have tl := ltOf (HB.out.at 2 rfl)
    have q2 := (((HB.out.set 2 0 rfl (.int .i64 3)).set 2 1 rfl (.slice none 0 0)).set 2 2 rfl (.int .i64 0))
    have u0 := cellOf (q2.at 2 rfl) 0 rfl
    have u1 := cellOf (q2.at 2 rfl) 1 rfl
    have u2 := cellOf (q2.at 2 rfl) 2 rfl
    have QB : Hid _ := q2.bl
    clear q2
    go_wp2
    refine bodyPost_ret (by simp [results, Try.results12, go_sem, u0, u1, u2]) rfl ⟨.slice none 0 0, rfl, World.ownsRow_nil _ _ _ _, QB.out⟩
  have q0' : r = true := by cases r <;> simp_all
  subst q0'
  clear q0
  have h2 : 0 ≤ t ∧ t ≤ 1000000000 := of_decide_eq_true HR.out.symm
  have HCP : Hid (∀ V, Below W.heap.size W V → Calls Try.prog 28 #[.agg #[.slice ua n uc, .int .i64 o]] V fun e w' => ∃ g c, e = .returned (.agg #[.slice (some ⟨g, 0, none⟩) n c, .int .i64 o]) ∧ IS w' V.heap.size (.slice (some ⟨g, 0, none⟩) n c) s ∧ Below V.heap.size V w') := fun V hV => by
    have := impl_cpd o HG.out.1.pos (by rw [← HN.out]; exact hn) (H.out.below hV)
    rwa [← HN.out] at this
  refine (callsIn_wide (n := 4)).1 ?_
  refine callsIn_of_wp_marks Try.func12 rfl trivial ?_ rfl
  simp only [Try.ntmps12, List.size_toArray, List.length_cons, List.length_nil, Nat.reduceAdd, Nat.reduceSub, Array.replicate_succ, Array.replicate_zero, List.push_toArray, List.append_toArray, List.nil_append, List.cons_append]
  gi_wp2_with (fail)
  refine ⟨trivial, (callsIn_wide.2 (HP.out _ (by (repeat' (first | (with_reducible exact Below.refl _ _) | (with_reducible assumption) | (with_reducible refine Below.setCell ?_ ?_ _) | (with_reducible refine Below.alloc ?_ ?_ _) | (with_reducible refine below_drewN ?_ _) | (with_reducible refine Below.drew ?_) | (with_reducible exact Nat.le_refl _) | omega | (simp; done) | (simp; omega)))))).mono ?_⟩
  rintro e w1 ⟨rfl, hb1⟩
  have HB : Hid (BB W [(W.heap.size, .cells #[.slice ua n uc, .int .i64 o] 29), (W.heap.size + 1, .cells #[.int .i64 t] 2), (W.heap.size + 1 + 1, .cells #[.int .i64 0, .slice none 0 0, .int .i64 0] 35)] (W.heap.size + 1 + 1 + 1) w1) := ((((BB.start W).push rfl _).push (k := W.heap.size + 1) (by simp) _).push (k := W.heap.size + 1 + 1) (by simp) _).grow hb1 (by omega) (by have := hb1.size; simpa using this)
  clear hb1
  obtain ⟨k0, hk0⟩ : ∃ k, k = W.heap.size := ⟨_, rfl⟩
  rw [← hk0] at HB ⊢
  have HK : Hid (k0 = W.heap.size) := hk0
  clear hk0
  have a0_0 := cellOf (HB.out.at 0 rfl) 0 rfl
  have a0_1 := cellOf (HB.out.at 0 rfl) 1 rfl
  have a0_l := ltOf (HB.out.at 0 rfl)
  have a1_0 := cellOf (HB.out.at 1 rfl) 0 rfl
  have a1_l := ltOf (HB.out.at 1 rfl)
  gi_wp2_with (fail)
  refine ⟨trivial, (callsIn_wide.2 (impl_ins t 0 1000000000 true HR.out _)).mono ?_⟩
  rintro e w3 ⟨rfl, hw⟩
  obtain rfl : w1 = w3 := hw.symm
  clear hw HR HP
  gi_wp2_with (fail)
  refine ⟨trivial, (callsIn_wide.2 (HCP.out _ HB.out.bl)).mono ?_⟩
  rintro e w2 ⟨g, cp, rfl, hi2, hb2⟩
  have HB2 : Hid (BB W [(k0, .cells #[.slice ua n uc, .int .i64 o] 29), (k0 + 1, .cells #[.int .i64 t] 2), (k0 + 1 + 1, .cells #[.int .i64 0, .slice none 0 0, .int .i64 0] 35)] (k0 + 1 + 1 + 1) w2) := HB.out.below hb2
  have hgl := (IS.lt hi2 g rfl)
  have hsz := HB.out.sz
  clear a0_0 a0_1 a0_l a1_0 a1_l HCP
  have a0_0 := cellOf (HB2.out.at 0 rfl) 0 rfl
  have a0_1 := cellOf (HB2.out.at 0 rfl) 1 rfl
  have a0_l := ltOf (HB2.out.at 0 rfl)
  gi_wp2_with (fail)
  obtain ⟨k2, hk2⟩ : ∃ k, k = w2.heap.size := ⟨_, rfl⟩
  obtain ⟨w4, hw4⟩ : ∃ w, w = w2.alloc (.cells #[.slice (some ⟨g, 0, none⟩) n cp, .int .i64 o] 29) := ⟨_, rfl⟩
  have hs4 : w4.heap.size = k2 + 1 := by rw [hw4, hk2]; simp
  have hb4 : Below w2.heap.size w2 w4 := by rw [hw4]; (repeat' (first | (with_reducible exact Below.refl _ _) | (with_reducible assumption) | (with_reducible refine Below.setCell ?_ ?_ _) | (with_reducible refine Below.alloc ?_ ?_ _) | (with_reducible refine below_drewN ?_ _) | (with_reducible refine Below.drew ?_) | (with_reducible exact Nat.le_refl _) | omega | (simp; done) | (simp; omega)))
  have HM4 : Hid (MP (k0 + 1 + 1 + 1) k2 g n cp s o w4 ∧ BB W [(k0, .cells #[.slice ua n uc, .int .i64 o] 29), (k0 + 1, .cells #[.int .i64 t] 2), (k0 + 1 + 1, .cells #[.int .i64 0, .slice none 0 0, .int .i64 0] 35)] (k0 + 1 + 1 + 1) w4 ∧ g < k2 ∧ k0 + 1 + 1 + 1 ≤ g) :=
    ⟨⟨by rw [hw4, hk2]; exact heap_alloc_new _ _, (hi2.bel hb4).low (by omega), by omega, HN.out, ⟨by omega, by have := hb2.size; omega⟩⟩, HB2.out.below hb4, by omega, by omega⟩
  rw [← hk2, ← hw4]
  clear hw4 hb4 hi2 hb2 hgl hsz HB2 HB hk2 a0_0 a0_1 a0_l
  refine ⟨trivial, (callsIn_wide.2 (dp_fn _ _ _ _ _)).mono ?_⟩
  rintro e w5 ⟨rfl, rfl⟩
  obtain ⟨V, hV⟩ : ∃ V, V = w4.alloc (.cells #[.slice ua n uc, .int .i64 o] 29) := ⟨_, rfl⟩
  have hbV : Below w4.heap.size w4 V := by rw [hV]; (repeat' (first | (with_reducible exact Below.refl _ _) | (with_reducible assumption) | (with_reducible refine Below.setCell ?_ ?_ _) | (with_reducible refine Below.alloc ?_ ?_ _) | (with_reducible refine below_drewN ?_ _) | (with_reducible refine Below.drew ?_) | (with_reducible exact Nat.le_refl _) | omega | (simp; done) | (simp; omega)))
  have HE : Hid (MP (k0 + 1 + 1 + 1) k2 g n cp s o V ∧ BB W [(k0, .cells #[.slice ua n uc, .int .i64 o] 29), (k0 + 1, .cells #[.int .i64 t] 2), (k0 + 1 + 1, .cells #[.int .i64 0, .slice none 0 0, .int .i64 0] 35)] (k0 + 1 + 1 + 1) V) := ⟨HM4.out.1.below hbV, HM4.out.2.1.below hbV⟩
  have HBs : Hid (V.heap[k2 + 1]? = some (.cells #[.slice ua n uc, .int .i64 o] 29)) := by unfold Hid; rw [hV, ← hs4]; exact heap_alloc_new _ _
  have HV : Hid (V.heap.size = k2 + 2 ∧ W.heap.size ≤ k2 ∧ k0 + 1 + 1 + 1 ≤ g ∧ g < k2 ∧ k0 = W.heap.size) := ⟨by rw [hV]; simp; omega, by have := HM4.out.2.2; have := HK.out; omega, HM4.out.2.2.2, HM4.out.2.2.1, HK.out⟩
  gi_wp2_with (fail)
  rw [← hV]
  clear hV hs4 HM4 hbV
  refine wpIn_rangeFunc_ownG (α := Dp s) (w := V) rfl (by omega) (gf := 32) (lb := #[.pointer (some ⟨k2 + 1, 0, none⟩)]) rfl trivial (enters_of Try.func32 (by kernel_rfl) rfl)
    (dp_stops Fence.wide 3 trivial rfl (by omega) (k2 + 1) W.heap.size uc n o ua s HN.out hn V HBs.out (by have := HV.out; omega) (fun W' h' => H.out.below (HE.out.2.bl.trans h')))
    belowK_t (belowK_b (by have := HV.out; omega)) (Below.refl _ _) (fun _ => rfl)
    (fun pre wr => Hid (MP (k0 + 1 + 1 + 1) k2 g n cp (acF s o t pre).1 (acF s o t pre).2 wr ∧ BB W [(k0, .cells #[.slice ua n uc, .int .i64 o] 29), (k0 + 1, .cells #[.int .i64 t] 2), (k0 + 1 + 1, .cells #[.int .i64 0, .slice none 0 0, .int .i64 0] 35)] (k0 + 1 + 1 + 1) wr))
    (fun cc pre wr => False)
    ?hI ?hIx ?h0 ?a1 ?assign ?body ?done ?stop
  case assign =>
    intro l x A K hK
    unfold dpE
    gi_wp2
    exact hK
  case hI =>
    rintro pre A B row hx hg hr
    have h9 := HV.out
    exact ⟨hx.out.1.keep (hg.block _ hx.out.1.lt.1 (fun e => by have := (hr _ e.symm).1; omega)) (hg.block _ hx.out.1.lt.2 (fun e => by have := (hr _ e.symm).1; omega)), hx.out.2.own (by omega) (by omega) hg hr⟩
  case hIx =>
    rintro cc pre A B row hx hg hr
    exact hx
  case h0 => exact HE.out
  case body =>
    rintro l pre y A hx hlt
    obtain ⟨x, hxx⟩ : ∃ x, x = y.1.2 := ⟨_, rfl⟩
    obtain ⟨i, hii⟩ : ∃ i, i = y.1.1 := ⟨_, rfl⟩
    obtain ⟨M, hM⟩ : ∃ M, M = (acF s o t pre).1 := ⟨_, rfl⟩
    obtain ⟨O, hO⟩ : ∃ O, O = (acF s o t pre).2 := ⟨_, rfl⟩
    obtain ⟨Z, hZ⟩ : ∃ Z, Z = mnA x t := ⟨_, rfl⟩
    have hbd := acF_bd HG.out.1 h2.1 pre
    rw [← hO] at hbd
    have hxb := HG.out.1.c y.1.1
    rw [← y.2.2, ← hxx] at hxb
    have hzb := mnA_bd hxb.1 h2.1
    rw [← hZ] at hzb
    have hin : i < n := by rw [hii, HN.out]; exact y.2.1
    have hpl : pre.length < 40 := by have := HN.out; have := HG.out.1.len; omega
    have hx2 := hx.out
    rw [← hM, ← hO] at hx2
    obtain ⟨hm, hb⟩ := hx2
    obtain ⟨c0, c1⟩ := hm.cell hin
    obtain ⟨z0, hz0⟩ : ∃ z, z = M.getD i 0 := ⟨_, rfl⟩
    rw [← hz0] at c0
    have j1 : IntKind.i64.wrap (x - Z) = x - Z := by rw [IntKind.wrap_i64]; omega
    have j2 : IntKind.i64.wrap (O + (x - Z)) = O + (x - Z) := by rw [IntKind.wrap_i64]; omega
    obtain ⟨A1, hA1⟩ : ∃ A1, A1 = A.setCell ⟨g, i, none⟩ (.int .i64 Z) := ⟨_, rfl⟩
    have hm1 : MP (k0 + 1 + 1 + 1) k2 g n cp (M.set i Z) O A1 := by rw [hA1]; exact hm.setL i Z
    have hu1 : PU k2 g A A1 := by rw [hA1]; exact PU.setG _ _
    have h9 := HV.out
    have hb1 : BB W [(k0, .cells #[.slice ua n uc, .int .i64 o] 29), (k0 + 1, .cells #[.int .i64 t] 2), (k0 + 1 + 1, .cells #[.int .i64 0, .slice none 0 0, .int .i64 0] 35)] (k0 + 1 + 1 + 1) A1 := hb.keep (fun q q1 q2 => hu1.oth q (by omega) (by omega)) (hb.bl.trans (hu1.bl _ (by omega) (by omega))) (by rw [hu1.size]; exact Nat.le_refl _)
    have d0 : A1.cell? ⟨g, i, none⟩ = some (.int .i64 Z) := by
      have := (hm1.cell hin).1
      rw [show (M.set i Z).getD i 0 = Z from by have hl : i < M.length := by rw [← hm.len]; exact hin
                                                simp [List.getD, hl]] at this
      exact this
    have HSN : Hid (acF s o t (pre ++ [y]) = (M.set i Z, O + (x - Z))) := by
      unfold Hid; rw [acF_snoc, ← hM, ← hO, ← hii, ← hxx, ← hZ]
    have HS1 : Hid (MP (k0 + 1 + 1 + 1) k2 g n cp (M.set i Z) O A1 ∧ BB W [(k0, .cells #[.slice ua n uc, .int .i64 o] 29), (k0 + 1, .cells #[.int .i64 t] 2), (k0 + 1 + 1, .cells #[.int .i64 0, .slice none 0 0, .int .i64 0] 35)] (k0 + 1 + 1 + 1) A1 ∧ PU k2 g A A1) := ⟨hm1, hb1, hu1⟩
    have HA1 : Hid (A1 = A.setCell ⟨g, i, none⟩ (.int .i64 Z)) := hA1
    have HZ9 : Hid (Z = mnA x t) := hZ
    have z1 := cellOf (hb.at 1 rfl) 0 rfl
    have z1l := ltOf (hb.at 1 rfl)
    have m0 := cellOf hm.bx 0 rfl
    have ml := ltOf hm.bx
    have gl := hm.lt.1
    have n0 := cellOf hm1.bx 0 rfl
    have n1 := cellOf hm1.bx 1 rfl
    have n1f := frozOf hm1.bx 1
    have nl := ltOf hm1.bx
    have ngl := hm1.lt.1
    have b3 : (0 : Int) ≤ (i : Int) := by omega
    have b4 : (i : Int) < (n : Int) := by omega
    rw [← hxx, ← hii]
    clear hx hM hO hbd hxb hzb hm hb hz0 hm1 hu1 hb1 hii hxx hlt hpl h9 hA1 hZ
    by_cases hxt : ¬ t < x
    · obtain rfl : x = Z := by rw [HZ9.out, mnA]; split <;> omega
      have jO : IntKind.i64.wrap O = O := by rw [Int.sub_self, Int.add_zero] at j2; exact j2
      clear HZ9 j1 j2
      have j1 : IntKind.i64.wrap 0 = 0 := by decide
      have j2 : IntKind.i64.wrap O = O := jO
      clear jO
      gi_wp2_with (fail)
      rw [← HA1.out]
      have hD : Below A1.heap.size A1 A1.drew := (Below.refl _ _).drew
      have hS0 : A1.drew.cell? ⟨k2, 0, none⟩ = some (.slice (some ⟨g, 0, none⟩) n cp) ∧ k2 < A1.drew.heap.size ∧ A1.drew.cell? ⟨g, i, none⟩ = some (.int .i64 x) ∧ g < A1.drew.heap.size := ⟨n0, nl, d0, ngl⟩
      refine region_round (S := fun w' => w'.cell? ⟨k2, 0, none⟩ = some (.slice (some ⟨g, 0, none⟩) n cp) ∧ k2 < w'.heap.size ∧ w'.cell? ⟨g, i, none⟩ = some (.int .i64 x) ∧ g < w'.heap.size) (by kernel_rfl) (by kernel_rfl) hS0 (fun hS => ?_) (fun _ _ h => h)
      refine fl_takeA (i := 0) (d := 32) (v := .pointer (some ⟨k2, 1, none⟩)) rfl rfl rfl (by kernel_rfl) (by kernel_rfl) (by kernel_rfl) hS ?_ ?_
      · intro w' hk; obtain ⟨y0, y1, y2, y3⟩ := hk; go_simp
      simp only [Act.put, List.setIfInBounds_toArray, List.set_cons_zero, List.set_cons_succ]
      refine fl_takeA (i := 2) (d := 34) (v := .int .i64 x) rfl rfl rfl (by kernel_rfl) (by kernel_rfl) (by kernel_rfl) hS ?_ ?_
      · intro w' hk; obtain ⟨y0, y1, y2, y3⟩ := hk; go_simp
      simp only [Act.put, List.setIfInBounds_toArray, List.set_cons_zero, List.set_cons_succ]
      refine fl_takeA (i := 3) (d := 35) (v := .pointer (some ⟨k2, 0, none⟩)) rfl rfl rfl (by kernel_rfl) (by kernel_rfl) (by kernel_rfl) hS ?_ ?_
      · intro w' hk; obtain ⟨y0, y1, y2, y3⟩ := hk; go_simp
      simp only [Act.put, List.setIfInBounds_toArray, List.set_cons_zero, List.set_cons_succ]
      refine fl_takeA (i := 4) (d := 36) (v := .slice (some ⟨g, 0, none⟩) n cp) rfl rfl rfl (by kernel_rfl) (by kernel_rfl) (by kernel_rfl) hS ?_ ?_
      · intro w' hk; obtain ⟨y0, y1, y2, y3⟩ := hk; go_simp
      simp only [Act.put, List.setIfInBounds_toArray, List.set_cons_zero, List.set_cons_succ]
      refine fl_takeA (i := 5) (d := 37) (v := .int .i64 (i : Int)) rfl rfl rfl (by kernel_rfl) (by kernel_rfl) (by kernel_rfl) hS ?_ ?_
      · intro w' hk; obtain ⟨y0, y1, y2, y3⟩ := hk; go_simp
      simp only [Act.put, List.setIfInBounds_toArray, List.set_cons_zero, List.set_cons_succ]
      refine fl_takeA (i := 6) (d := 38) (v := .pointer (some ⟨g, i, none⟩)) rfl rfl rfl (by kernel_rfl) (by kernel_rfl) (by kernel_rfl) hS ?_ ?_
      · intro w' hk; obtain ⟨y0, y1, y2, y3⟩ := hk; go_simp
      simp only [Act.put, List.setIfInBounds_toArray, List.set_cons_zero, List.set_cons_succ]
      refine fl_takeA (i := 7) (d := 39) (v := .int .i64 x) rfl rfl rfl (by kernel_rfl) (by kernel_rfl) (by kernel_rfl) hS ?_ ?_
      · intro w' hk; obtain ⟨y0, y1, y2, y3⟩ := hk; go_simp
      simp only [Act.put, List.setIfInBounds_toArray, List.set_cons_zero, List.set_cons_succ]
      refine fl_takeA (i := 8) (d := 40) (v := .int .i64 0) rfl rfl rfl (by kernel_rfl) (by kernel_rfl) (by kernel_rfl) hS ?_ ?_
      · intro w' hk; obtain ⟨y0, y1, y2, y3⟩ := hk; go_simp; try rw [j1]; try rfl
      simp only [Act.put, List.setIfInBounds_toArray, List.set_cons_zero, List.set_cons_succ]
      have p1 : A1.drew.cell? ⟨k2, 1, none⟩ = some (.int .i64 O) := n1
      have p1f : A1.drew.frozen? ⟨k2, 1, none⟩ = false := n1f
      have p1l : k2 < A1.drew.heap.size := nl
      refine wpAnyH_all (rs := [1]) (by kernel_rfl) (by simp) ?_
      intro iz hi
      obtain rfl : iz = 1 := by simpa using hi
      clear hi
      refine op_val (d := 33) (v := .int .i64 O) (w' := A1.drew) rfl rfl rfl (by go_simp; try rfl) ?_
      simp only [Act.put, List.setIfInBounds_toArray, List.set_cons_zero, List.set_cons_succ]
      refine ⟨hS, ?_⟩
      refine wpAnyH_all (rs := [9]) (by kernel_rfl) (by simp) ?_
      intro iz hi
      obtain rfl : iz = 9 := by simpa using hi
      clear hi
      refine op_val (d := 41) (v := .int .i64 O) (w' := A1.drew) rfl rfl rfl (by go_simp; try rw [j2]; try rfl) ?_
      simp only [Act.put, List.setIfInBounds_toArray, List.set_cons_zero, List.set_cons_succ]
      refine ⟨hS, ?_⟩
      refine wpAnyH_all (rs := [10]) (by kernel_rfl) (by simp) ?_
      intro iz hi
      obtain rfl : iz = 10 := by simpa using hi
      clear hi
      refine op_val (d := 42) (v := .pointer (some ⟨k2, 1, none⟩)) (w' := A1.drew) rfl rfl rfl (by go_simp; try rfl) ?_
      simp only [Act.put, List.setIfInBounds_toArray, List.set_cons_zero, List.set_cons_succ]
      refine ⟨hS, ?_⟩
      refine wpAnyH_all (rs := [11]) (by kernel_rfl) (by simp) ?_
      intro iz hi
      obtain rfl : iz = 11 := by simpa using hi
      clear hi
      refine op_skipN (w' := A1.drew.setCell ⟨k2, 1, none⟩ (.int .i64 O)) rfl rfl (by go_simp; try rfl) ?_
      obtain ⟨A2, hA2⟩ : ∃ A2, A2 = A1.drew.setCell ⟨k2, 1, none⟩ (.int .i64 O) := ⟨_, rfl⟩
      have HS2 : Hid (MP (k0 + 1 + 1 + 1) k2 g n cp (M.set i x) O A2 ∧ BB W [(k0, .cells #[.slice ua n uc, .int .i64 o] 29), (k0 + 1, .cells #[.int .i64 t] 2), (k0 + 1 + 1, .cells #[.int .i64 0, .slice none 0 0, .int .i64 0] 35)] (k0 + 1 + 1 + 1) A2 ∧ KeepsOthers A A2 ∧ Below W.heap.size A A2) := by
        have h9 := HV.out
        rw [hA2]
        refine ⟨(HS1.out.1.below hD).setO _, (HS1.out.2.1.below hD).other (by omega) (fun p hp => ?_) _, ?_, ?_⟩
        · have := (HS1.out.2.1.lo p hp).2; omega
        · exact (HS1.out.2.2.ko.trans (KeepsOthers.drew A1)).trans (KeepsOthers.setCell _ _ _)
        · exact ((HS1.out.2.2.bl _ (by omega) (by omega)).trans (hD.mono (by have := HS1.out.2.1.bl.size; exact this))).setCell (p := ⟨k2, 1, none⟩) (show W.heap.size ≤ k2 by omega) _
      rw [← hA2]
      have hm2 := HS2.out.1
      have hS2 : A2.cell? ⟨k2, 0, none⟩ = some (.slice (some ⟨g, 0, none⟩) n cp) ∧ k2 < A2.heap.size ∧ A2.cell? ⟨g, i, none⟩ = some (.int .i64 x) ∧ g < A2.heap.size := by
        refine ⟨cellOf hm2.bx 0 rfl, ltOf hm2.bx, ?_, hm2.lt.1⟩
        have h7 := (hm2.cell hin).1
        have hl : i < M.length := by have := hm2.len; rw [List.length_set] at this; omega
        rw [show (M.set i x).getD i 0 = x from by simp [List.getD, hl]] at h7
        exact h7
      refine ⟨hS2, wpAnyH_done (by kernel_rfl) (NoPanic.normal (show Exit.then _ _ .normal _ _ from ?_)) _⟩
      clear hA2 hm2 hS2 hS hD hS0 p1 p1f p1l n0 n1 n1f nl ngl d0 m0 ml gl c0 c1 z1 z1l
      gi_wp2
      refine ⟨HS2.out.2.2.1.from _, HS2.out.2.2.2, ?_⟩
      dsimp only
      rw [HSN.out, Int.sub_self, Int.add_zero]
      exact ⟨HS2.out.1, HS2.out.2.1⟩
    · have hxt2 : t < x := by omega
      clear hxt
      obtain rfl : t = Z := by rw [HZ9.out, mnA, if_neg (by omega)]
      clear HZ9
      gi_wp2_with (fail)
      rw [← HA1.out]
      have hD : Below A1.heap.size A1 A1.drew := (Below.refl _ _).drew
      have hS0 : A1.drew.cell? ⟨k2, 0, none⟩ = some (.slice (some ⟨g, 0, none⟩) n cp) ∧ k2 < A1.drew.heap.size ∧ A1.drew.cell? ⟨g, i, none⟩ = some (.int .i64 t) ∧ g < A1.drew.heap.size := ⟨n0, nl, d0, ngl⟩
      refine region_round (S := fun w' => w'.cell? ⟨k2, 0, none⟩ = some (.slice (some ⟨g, 0, none⟩) n cp) ∧ k2 < w'.heap.size ∧ w'.cell? ⟨g, i, none⟩ = some (.int .i64 t) ∧ g < w'.heap.size) (by kernel_rfl) (by kernel_rfl) hS0 (fun hS => ?_) (fun _ _ h => h)
      refine fl_takeA (i := 0) (d := 32) (v := .pointer (some ⟨k2, 1, none⟩)) rfl rfl rfl (by kernel_rfl) (by kernel_rfl) (by kernel_rfl) hS ?_ ?_
      · intro w' hk; obtain ⟨y0, y1, y2, y3⟩ := hk; go_simp
      simp only [Act.put, List.setIfInBounds_toArray, List.set_cons_zero, List.set_cons_succ]
      refine fl_takeA (i := 2) (d := 34) (v := .int .i64 x) rfl rfl rfl (by kernel_rfl) (by kernel_rfl) (by kernel_rfl) hS ?_ ?_
      · intro w' hk; obtain ⟨y0, y1, y2, y3⟩ := hk; go_simp
      simp only [Act.put, List.setIfInBounds_toArray, List.set_cons_zero, List.set_cons_succ]
      refine fl_takeA (i := 3) (d := 35) (v := .pointer (some ⟨k2, 0, none⟩)) rfl rfl rfl (by kernel_rfl) (by kernel_rfl) (by kernel_rfl) hS ?_ ?_
      · intro w' hk; obtain ⟨y0, y1, y2, y3⟩ := hk; go_simp
      simp only [Act.put, List.setIfInBounds_toArray, List.set_cons_zero, List.set_cons_succ]
      refine fl_takeA (i := 4) (d := 36) (v := .slice (some ⟨g, 0, none⟩) n cp) rfl rfl rfl (by kernel_rfl) (by kernel_rfl) (by kernel_rfl) hS ?_ ?_
      · intro w' hk; obtain ⟨y0, y1, y2, y3⟩ := hk; go_simp
      simp only [Act.put, List.setIfInBounds_toArray, List.set_cons_zero, List.set_cons_succ]
      refine fl_takeA (i := 5) (d := 37) (v := .int .i64 (i : Int)) rfl rfl rfl (by kernel_rfl) (by kernel_rfl) (by kernel_rfl) hS ?_ ?_
      · intro w' hk; obtain ⟨y0, y1, y2, y3⟩ := hk; go_simp
      simp only [Act.put, List.setIfInBounds_toArray, List.set_cons_zero, List.set_cons_succ]
      refine fl_takeA (i := 6) (d := 38) (v := .pointer (some ⟨g, i, none⟩)) rfl rfl rfl (by kernel_rfl) (by kernel_rfl) (by kernel_rfl) hS ?_ ?_
      · intro w' hk; obtain ⟨y0, y1, y2, y3⟩ := hk; go_simp
      simp only [Act.put, List.setIfInBounds_toArray, List.set_cons_zero, List.set_cons_succ]
      refine fl_takeA (i := 7) (d := 39) (v := .int .i64 t) rfl rfl rfl (by kernel_rfl) (by kernel_rfl) (by kernel_rfl) hS ?_ ?_
      · intro w' hk; obtain ⟨y0, y1, y2, y3⟩ := hk; go_simp
      simp only [Act.put, List.setIfInBounds_toArray, List.set_cons_zero, List.set_cons_succ]
      refine fl_takeA (i := 8) (d := 40) (v := .int .i64 (x - t)) rfl rfl rfl (by kernel_rfl) (by kernel_rfl) (by kernel_rfl) hS ?_ ?_
      · intro w' hk; obtain ⟨y0, y1, y2, y3⟩ := hk; go_simp; try rw [j1]; try rfl
      simp only [Act.put, List.setIfInBounds_toArray, List.set_cons_zero, List.set_cons_succ]
      have p1 : A1.drew.cell? ⟨k2, 1, none⟩ = some (.int .i64 O) := n1
      have p1f : A1.drew.frozen? ⟨k2, 1, none⟩ = false := n1f
      have p1l : k2 < A1.drew.heap.size := nl
      refine wpAnyH_all (rs := [1]) (by kernel_rfl) (by simp) ?_
      intro iz hi
      obtain rfl : iz = 1 := by simpa using hi
      clear hi
      refine op_val (d := 33) (v := .int .i64 O) (w' := A1.drew) rfl rfl rfl (by go_simp; try rfl) ?_
      simp only [Act.put, List.setIfInBounds_toArray, List.set_cons_zero, List.set_cons_succ]
      refine ⟨hS, ?_⟩
      refine wpAnyH_all (rs := [9]) (by kernel_rfl) (by simp) ?_
      intro iz hi
      obtain rfl : iz = 9 := by simpa using hi
      clear hi
      refine op_val (d := 41) (v := .int .i64 (O + (x - t))) (w' := A1.drew) rfl rfl rfl (by go_simp; try rw [j2]; try rfl) ?_
      simp only [Act.put, List.setIfInBounds_toArray, List.set_cons_zero, List.set_cons_succ]
      refine ⟨hS, ?_⟩
      refine wpAnyH_all (rs := [10]) (by kernel_rfl) (by simp) ?_
      intro iz hi
      obtain rfl : iz = 10 := by simpa using hi
      clear hi
      refine op_val (d := 42) (v := .pointer (some ⟨k2, 1, none⟩)) (w' := A1.drew) rfl rfl rfl (by go_simp; try rfl) ?_
      simp only [Act.put, List.setIfInBounds_toArray, List.set_cons_zero, List.set_cons_succ]
      refine ⟨hS, ?_⟩
      refine wpAnyH_all (rs := [11]) (by kernel_rfl) (by simp) ?_
      intro iz hi
      obtain rfl : iz = 11 := by simpa using hi
      clear hi
      refine op_skipN (w' := A1.drew.setCell ⟨k2, 1, none⟩ (.int .i64 (O + (x - t)))) rfl rfl (by go_simp; try rfl) ?_
      obtain ⟨A2, hA2⟩ : ∃ A2, A2 = A1.drew.setCell ⟨k2, 1, none⟩ (.int .i64 (O + (x - t))) := ⟨_, rfl⟩
      have HS2 : Hid (MP (k0 + 1 + 1 + 1) k2 g n cp (M.set i t) (O + (x - t)) A2 ∧ BB W [(k0, .cells #[.slice ua n uc, .int .i64 o] 29), (k0 + 1, .cells #[.int .i64 t] 2), (k0 + 1 + 1, .cells #[.int .i64 0, .slice none 0 0, .int .i64 0] 35)] (k0 + 1 + 1 + 1) A2 ∧ KeepsOthers A A2 ∧ Below W.heap.size A A2) := by
        have h9 := HV.out
        rw [hA2]
        refine ⟨(HS1.out.1.below hD).setO _, (HS1.out.2.1.below hD).other (by omega) (fun p hp => ?_) _, ?_, ?_⟩
        · have := (HS1.out.2.1.lo p hp).2; omega
        · exact (HS1.out.2.2.ko.trans (KeepsOthers.drew A1)).trans (KeepsOthers.setCell _ _ _)
        · exact ((HS1.out.2.2.bl _ (by omega) (by omega)).trans (hD.mono (by have := HS1.out.2.1.bl.size; exact this))).setCell (p := ⟨k2, 1, none⟩) (show W.heap.size ≤ k2 by omega) _
      rw [← hA2]
      have hm2 := HS2.out.1
      have hS2 : A2.cell? ⟨k2, 0, none⟩ = some (.slice (some ⟨g, 0, none⟩) n cp) ∧ k2 < A2.heap.size ∧ A2.cell? ⟨g, i, none⟩ = some (.int .i64 t) ∧ g < A2.heap.size := by
        refine ⟨cellOf hm2.bx 0 rfl, ltOf hm2.bx, ?_, hm2.lt.1⟩
        have h7 := (hm2.cell hin).1
        have hl : i < M.length := by have := hm2.len; rw [List.length_set] at this; omega
        rw [show (M.set i t).getD i 0 = t from by simp [List.getD, hl]] at h7
        exact h7
      refine ⟨hS2, wpAnyH_done (by kernel_rfl) (NoPanic.normal (show Exit.then _ _ .normal _ _ from ?_)) _⟩
      clear hA2 hm2 hS2 hS hD hS0 p1 p1f p1l n0 n1 n1f nl ngl d0 m0 ml gl c0 c1 z1 z1l
      gi_wp2
      refine ⟨HS2.out.2.2.1.from _, HS2.out.2.2.2, ?_⟩
      dsimp only
      rw [HSN.out]
      exact ⟨HS2.out.1, HS2.out.2.1⟩
  case done =>
    rintro D xs A hD hS hx hK
    have hE : acF s o t xs = (acL s t s.length, acO s o t s.length) := by rw [hS]; exact acF_all s o t _ (Nat.le_refl _)
    have hx2 := hx.out
    rw [hE] at hx2
    obtain ⟨hm, hb⟩ := hx2
    obtain ⟨M, hM⟩ : ∃ M, M = acL s t s.length := ⟨_, rfl⟩
    obtain ⟨O, hO⟩ : ∃ O, O = acO s o t s.length := ⟨_, rfl⟩
    simp only at hm
    rw [← hM, ← hO] at hm
    have h9 := HV.out
    have HM : Hid (MP W.heap.size k2 g n cp M O A) := ⟨hm.bx, hm.is.low (by omega), hm.ne, hm.len, ⟨by omega, by omega⟩⟩
    have HX : Hid (BB W [(k0, .cells #[.slice ua n uc, .int .i64 o] 29), (k0 + 1, .cells #[.int .i64 t] 2), (k0 + 1 + 1, .cells #[.int .i64 0, .slice none 0 0, .int .i64 0] 35)] (k0 + 1 + 1 + 1) A) := hb
    have hln : M.length ≤ 1048576 := by rw [← hm.len]; exact hn
    have HNE : Hid (g ≠ k0 + 1 + 1 ∧ g ≠ D) := ⟨by omega, by omega⟩
    have HCM : Hid (CC = pfC M O ∧ LL = tdL CC M ∧ QQ = tdO CC O) := by
      have h8 := HF.out
      rw [acC_in HG.out.2 h2] at h8
      rw [hM, hO]
      exact h8
    clear hx hm hb hM hO hE hS h9
    have ma0 := cellOf HM.out.bx 0 rfl
    have ma1 := cellOf HM.out.bx 1 rfl
    have mal := ltOf HM.out.bx
    by_cases hz : pfC (M) (O) = 0
    · obtain ⟨e1, e2, e3⟩ : CC = 0 ∧ LL = M ∧ QQ = O := ⟨by rw [HCM.out.1, hz], by rw [HCM.out.2.1, tdL, if_pos (by rw [HCM.out.1, hz])], by rw [HCM.out.2.2, tdO, if_pos (by rw [HCM.out.1, hz])]⟩
      have HA : Hid (∀ V, Below A.heap.size A V → Calls Try.prog 29 #[.agg #[.slice (some ⟨g, 0, none⟩) n cp, .int .i64 O]] V fun e w' => e = .returned (.agg #[.int .i64 0, .slice (some ⟨g, 0, none⟩) n cp, .int .i64 QQ]) ∧ Below V.heap.size V w') := fun V hV => by
        have := impl_ans_ok hz (HM.out.rd.below hV)
        rw [e3]; exact this
      clear hz
      subst e1
      clear e3
      have HLL : Hid (LL = M) := e2
      clear e2
      gi_wp2_with (fail)
      refine ⟨trivial, (callsIn_wide.2 (HA.out _ (Below.refl _ _))).mono ?_⟩
      rintro e w5 ⟨rfl, hb5⟩
      have HX5 := HX.out.below hb5
      have HM5 := HM.out.below hb5
      have hK5 : w5.heap[D]? = some (.deferred (some [])) := (hb5.block D (ltOf hK)).trans hK
      clear hb5 ma0 ma1 mal
      have t0 := cellOf (HX5.at 2 rfl) 0 rfl
      have f0 := frozOf (HX5.at 2 rfl) 0
      have t1 := cellOf (HX5.at 2 rfl) 1 rfl
      have f1 := frozOf (HX5.at 2 rfl) 1
      have t2 := cellOf (HX5.at 2 rfl) 2 rfl
      have f2 := frozOf (HX5.at 2 rfl) 2
      have tl := ltOf (HX5.at 2 rfl)
      have q2 := (((HX5.set 2 0 rfl (.int .i64 0)).set 2 1 rfl (.slice (some ⟨g, 0, none⟩) n cp)).set 2 2 rfl (.int .i64 QQ))
      have hK6 := ((KeepsOthers.setCell ((w5.setCell ⟨k0 + 1 + 1, 0, none⟩ (.int .i64 0)).setCell ⟨k0 + 1 + 1, 1, none⟩ (.slice (some ⟨g, 0, none⟩) n cp)) ⟨k0 + 1 + 1, 2, none⟩ (.int .i64 QQ)).same D _ ((KeepsOthers.setCell (w5.setCell ⟨k0 + 1 + 1, 0, none⟩ (.int .i64 0)) ⟨k0 + 1 + 1, 1, none⟩ (.slice (some ⟨g, 0, none⟩) n cp)).same D _ ((KeepsOthers.setCell w5 ⟨k0 + 1 + 1, 0, none⟩ (.int .i64 0)).same D _ hK5 rfl) rfl) rfl)
      have q3 := q2.own (B := V.heap.size) (by have := HV.out; omega) (by have := HV.out; omega) (grownBy_putObj' _ D (.deferred none)) (fun r e => by cases e; exact ⟨hD, _, hK6, rfl⟩)
      have u0 := cellOf (q3.at 2 rfl) 0 rfl
      have u1 := cellOf (q3.at 2 rfl) 1 rfl
      have u2 := cellOf (q3.at 2 rfl) 2 rfl
      have QB : Hid _ := q3.bl
      have HI : Hid (IS ((((w5.setCell ⟨k0 + 1 + 1, 0, none⟩ (.int .i64 0)).setCell ⟨k0 + 1 + 1, 1, none⟩ (.slice (some ⟨g, 0, none⟩) n cp)).setCell ⟨k0 + 1 + 1, 2, none⟩ (.int .i64 QQ)).putObj D (.deferred none)) W.heap.size (.slice (some ⟨g, 0, none⟩) n cp) LL) := by
        unfold Hid
        rw [HLL.out]
        refine HM5.is.keepE ?_
        rw [World.putObj_heap_other (by have := HNE.out.2; omega), heap_setCell_other _ _ _ _ HNE.out.1, heap_setCell_other _ _ _ _ HNE.out.1, heap_setCell_other _ _ _ _ HNE.out.1]
      clear q2 q3
      gi_wp2
      refine ⟨by simp, .inl ⟨_, _, rfl, run_takeDeferred hK6, ?_⟩⟩
      exact ⟨_, (by simp [results, Try.results12, go_sem, u0, u1, u2]), .slice (some ⟨g, 0, none⟩) n cp, rfl, HI.out, QB.out⟩
    · obtain ⟨e1, e2⟩ := HZ.out (by rw [HCM.out.1]; exact hz)
      have HA : Hid (∀ V, Below A.heap.size A V → Calls Try.prog 29 #[.agg #[.slice (some ⟨g, 0, none⟩) n cp, .int .i64 O]] V fun e w' => e = .returned (.agg #[.int .i64 CC, .slice none 0 0, .int .i64 0]) ∧ Below V.heap.size V w') := fun V hV => by
        have := impl_ans_bad hln hz (HM.out.rd.below hV)
        rwa [← HCM.out.1] at this
      clear hz
      subst e1 e2
      gi_wp2_with (fail)
      refine ⟨trivial, (callsIn_wide.2 (HA.out _ (Below.refl _ _))).mono ?_⟩
      rintro e w5 ⟨rfl, hb5⟩
      have HX5 := HX.out.below hb5
      have HM5 := HM.out.below hb5
      have hK5 : w5.heap[D]? = some (.deferred (some [])) := (hb5.block D (ltOf hK)).trans hK
      clear hb5 ma0 ma1 mal
      have t0 := cellOf (HX5.at 2 rfl) 0 rfl
      have f0 := frozOf (HX5.at 2 rfl) 0
      have t1 := cellOf (HX5.at 2 rfl) 1 rfl
      have f1 := frozOf (HX5.at 2 rfl) 1
      have t2 := cellOf (HX5.at 2 rfl) 2 rfl
      have f2 := frozOf (HX5.at 2 rfl) 2
      have tl := ltOf (HX5.at 2 rfl)
      have q2 := (((HX5.set 2 0 rfl (.int .i64 CC)).set 2 1 rfl (.slice none 0 0)).set 2 2 rfl (.int .i64 0))
      have hK6 := ((KeepsOthers.setCell ((w5.setCell ⟨k0 + 1 + 1, 0, none⟩ (.int .i64 CC)).setCell ⟨k0 + 1 + 1, 1, none⟩ (.slice none 0 0)) ⟨k0 + 1 + 1, 2, none⟩ (.int .i64 0)).same D _ ((KeepsOthers.setCell (w5.setCell ⟨k0 + 1 + 1, 0, none⟩ (.int .i64 CC)) ⟨k0 + 1 + 1, 1, none⟩ (.slice none 0 0)).same D _ ((KeepsOthers.setCell w5 ⟨k0 + 1 + 1, 0, none⟩ (.int .i64 CC)).same D _ hK5 rfl) rfl) rfl)
      have q3 := q2.own (B := V.heap.size) (by have := HV.out; omega) (by have := HV.out; omega) (grownBy_putObj' _ D (.deferred none)) (fun r e => by cases e; exact ⟨hD, _, hK6, rfl⟩)
      have u0 := cellOf (q3.at 2 rfl) 0 rfl
      have u1 := cellOf (q3.at 2 rfl) 1 rfl
      have u2 := cellOf (q3.at 2 rfl) 2 rfl
      have QB : Hid _ := q3.bl
      clear q2 q3
      gi_wp2
      refine ⟨by simp, .inl ⟨_, _, rfl, run_takeDeferred hK6, ?_⟩⟩
      exact ⟨_, (by simp [results, Try.results12, go_sem, u0, u1, u2]), .slice none 0 0, rfl, World.ownsRow_nil _ _ _ _, QB.out⟩

  case stop =>
    rintro D cc pre A hD hS hx hK
    exact hx.elim

end Go.Proofs.Ytfjfogiohijkkab
