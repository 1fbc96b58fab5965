/- Proved here: annealed of the program. -/
import Derived.Test.YtfjfogiohijkkaaPfX
import Derived.Test.YtfjfogiohijkkaaPfI
import Derived.Test.YtfjfogiohijkkaaPfK
import Derived.Test.YtfjfogiohijkkaaPfU
import Derived.Test.YtfjfogiohijkkaaAnM
namespace Go.Proofs.Ytfjfogiohijkkaa
open Go.RowKit Go.Shelf
set_option linter.unusedVariables false
set_option linter.unusedSimpArgs false
attribute [local go_sem] Oper.semAt_some

set_option maxRecDepth 100000 in
set_option maxHeartbeats 12800000 in
theorem impl_annealed {o a T : Int} {W : World} {v : Value} {s : List Int} (hs : 0 < s.length ∧ s.length ≤ 40) (hT : T ≤ 41000000000) (hA : AG T s o) (ha : 0 ≤ a ∧ a ≤ 32) (h : RdI W v s) :
    Calls Try.prog 45 #[.agg #[v, .int .i64 o], .int .i64 a] W fun e w' => ∃ g c, e = .returned (.agg #[.slice (some ⟨g, 0, none⟩) s.length c, .int .i64 (anO s o a s.length)]) ∧ IS w' W.heap.size (.slice (some ⟨g, 0, none⟩) s.length c) (anL s a s.length) ∧ Below W.heap.size W w' := by
  obtain ⟨ua, uc, rfl⟩ := h.form
  obtain ⟨LL, hLL⟩ : ∃ x, x = anL s a s.length := ⟨_, rfl⟩
  obtain ⟨QQ, hQQ⟩ : ∃ x, x = anO s o a s.length := ⟨_, rfl⟩
  rw [← hLL, ← hQQ]
  obtain ⟨n, hnn⟩ : ∃ n, n = s.length := ⟨_, rfl⟩
  rw [← hnn] at h hs ⊢
  have HF : Hid (LL = anL s a s.length ∧ QQ = anO s o a s.length) := ⟨hLL, hQQ⟩
  have HN : Hid (n = s.length) := hnn
  have H : Hid (RdI W (.slice ua n uc) s) := h
  have HA : Hid (AG T s o ∧ T ≤ 41000000000 ∧ 0 ≤ T) := ⟨hA, hT, by have := hA.le 0; have := hA.c 0; omega⟩
  have hn : n ≤ 1048576 := by omega
  have HCP : Hid (∀ V, Below W.heap.size W V → Calls Try.prog 39 #[.agg #[.slice ua n uc, .int .i64 o]] V fun e w' => ∃ g c, e = .returned (.agg #[.slice (some ⟨g, 0, none⟩) n c, .int .i64 o]) ∧ IS w' V.heap.size (.slice (some ⟨g, 0, none⟩) n c) s ∧ Below V.heap.size V w') := fun V hV => by
    have := impl_cpd o (by rw [← HN.out]; exact hs.1) (by rw [← HN.out]; exact hn) (H.out.below hV)
    rwa [← HN.out] at this
  clear hLL hQQ hnn h hA hT
  refine (callsIn_wide (n := 4)).1 ?_
  refine callsIn_of_wp_marks Try.func45 rfl trivial ?_ rfl
  simp only [Try.ntmps45, List.size_toArray, List.length_cons, List.length_nil, Nat.reduceAdd, Nat.reduceSub, Array.replicate_succ, Array.replicate_zero, List.push_toArray, List.append_toArray, List.nil_append, List.cons_append]
  gi_wp2_with (fail)
  refine ⟨trivial, (callsIn_wide.2 (HCP.out _ (by (repeat' (first | (with_reducible exact Below.refl _ _) | (with_reducible assumption) | (with_reducible refine Below.setCell ?_ ?_ _) | (with_reducible refine Below.alloc ?_ ?_ _) | (with_reducible refine below_drewN ?_ _) | (with_reducible refine Below.drew ?_) | (with_reducible exact Nat.le_refl _) | omega | (simp; done) | (simp; omega)))))).mono ?_⟩
  rintro e w2 ⟨g, cp, rfl, hi2, hb2⟩
  have HB : Hid (BB W [(W.heap.size, .cells #[.slice ua n uc, .int .i64 o] 27), (W.heap.size + 1, .cells #[.int .i64 a] 2), (W.heap.size + 1 + 1, .cells #[.slice none 0 0, .int .i64 0] 27)] (W.heap.size + 1 + 1 + 1) w2) := ((((BB.start W).push rfl _).push (k := W.heap.size + 1) (by simp) _).push (k := W.heap.size + 1 + 1) (by simp) _).grow hb2 (by omega) (by have := hb2.size; simpa using this)
  have hgl := IS.lt hi2 g rfl
  simp at hgl
  obtain ⟨k0, hk0⟩ : ∃ k, k = W.heap.size := ⟨_, rfl⟩
  have HI2 : Hid (IS w2 (k0 + 1 + 1 + 1) (.slice (some ⟨g, 0, none⟩) n cp) s) := by unfold Hid; rw [hk0]; have := hi2; simpa using this
  rw [← hk0] at HB hgl ⊢
  have HK : Hid (k0 = W.heap.size) := hk0
  clear hk0 hb2 hi2 HCP
  have a0 := cellOf (HB.out.at 0 rfl) 0 rfl
  have a1 := cellOf (HB.out.at 0 rfl) 1 rfl
  have al := ltOf (HB.out.at 0 rfl)
  gi_wp2_with (fail)
  obtain ⟨k2, hk2⟩ : ∃ k, k = w2.heap.size := ⟨_, rfl⟩
  obtain ⟨w3, hw3⟩ : ∃ w, w = w2.alloc (.cells #[.slice (some ⟨g, 0, none⟩) n cp, .int .i64 o] 27) := ⟨_, rfl⟩
  have hs3 : w3.heap.size = k2 + 1 := by rw [hw3, hk2]; simp
  have hb3 : Below w2.heap.size w2 w3 := by rw [hw3]; (repeat' (first | (with_reducible exact Below.refl _ _) | (with_reducible assumption) | (with_reducible refine Below.setCell ?_ ?_ _) | (with_reducible refine Below.alloc ?_ ?_ _) | (with_reducible refine below_drewN ?_ _) | (with_reducible refine Below.drew ?_) | (with_reducible exact Nat.le_refl _) | omega | (simp; done) | (simp; omega)))
  have HM3 : Hid (MP (k0 + 1 + 1 + 1) k2 g n cp s o w3 ∧ BB W [(k0, .cells #[.slice ua n uc, .int .i64 o] 27), (k0 + 1, .cells #[.int .i64 a] 2), (k0 + 1 + 1, .cells #[.slice none 0 0, .int .i64 0] 27)] (k0 + 1 + 1 + 1) w3) := by
    have := HB.out.sz
    exact ⟨⟨by rw [hw3, hk2]; exact heap_alloc_new _ _, HI2.out.bel hb3, by omega, HN.out, ⟨by omega, by omega⟩⟩, HB.out.below hb3⟩
  rw [← hk2, ← hw3]
  rw [← hk2] at hgl
  clear hw3 hb3 a0 a1 al HI2 HB hk2
  refine ⟨trivial, (callsIn_wide.2 (dp_fn _ _ _ _ _)).mono ?_⟩
  rintro e w4 ⟨rfl, rfl⟩
  obtain ⟨V, hV⟩ : ∃ V, V = w3.alloc (.cells #[.slice ua n uc, .int .i64 o] 27) := ⟨_, rfl⟩
  have hbV : Below w3.heap.size w3 V := by rw [hV]; (repeat' (first | (with_reducible exact Below.refl _ _) | (with_reducible assumption) | (with_reducible refine Below.setCell ?_ ?_ _) | (with_reducible refine Below.alloc ?_ ?_ _) | (with_reducible refine below_drewN ?_ _) | (with_reducible refine Below.drew ?_) | (with_reducible exact Nat.le_refl _) | omega | (simp; done) | (simp; omega)))
  have HE : Hid (MP (k0 + 1 + 1 + 1) k2 g n cp s o V ∧ BB W [(k0, .cells #[.slice ua n uc, .int .i64 o] 27), (k0 + 1, .cells #[.int .i64 a] 2), (k0 + 1 + 1, .cells #[.slice none 0 0, .int .i64 0] 27)] (k0 + 1 + 1 + 1) V) := ⟨HM3.out.1.below hbV, HM3.out.2.below hbV⟩
  have HBs : Hid (V.heap[k2 + 1]? = some (.cells #[.slice ua n uc, .int .i64 o] 27)) := by unfold Hid; rw [hV, ← hs3]; exact heap_alloc_new _ _
  have HV : Hid (V.heap.size = k2 + 2 ∧ W.heap.size ≤ k2 ∧ k0 + 1 + 1 + 1 ≤ g ∧ g < k2 ∧ k0 = W.heap.size) := by
    have := HM3.out.1.lo
    exact ⟨by rw [hV]; simp; omega, by have := HK.out; omega, this.1, by omega, HK.out⟩
  gi_wp2_with (fail)
  rw [← hV]
  clear hV hs3 HM3 hbV hgl
  refine wpIn_rangeFunc_ownG (α := Dp s) (w := V) rfl (by omega) (gf := 46) (lb := #[.pointer (some ⟨k2 + 1, 0, none⟩)]) rfl trivial (enters_of Try.func46 (by kernel_rfl) rfl)
    (dp_stops Fence.wide 3 trivial rfl (by omega) (k2 + 1) W.heap.size uc n o ua s HN.out hn V HBs.out (by have := HV.out; omega) (fun W' h' => H.out.below (HE.out.2.bl.trans h')))
    belowK_t (belowK_b (by have := HV.out; omega)) (Below.refl _ _) (fun _ => rfl)
    (fun pre wr => Hid (MP (k0 + 1 + 1 + 1) k2 g n cp (anF s o a pre).1 (anF s o a pre).2 wr ∧ BB W [(k0, .cells #[.slice ua n uc, .int .i64 o] 27), (k0 + 1, .cells #[.int .i64 a] 2), (k0 + 1 + 1, .cells #[.slice none 0 0, .int .i64 0] 27)] (k0 + 1 + 1 + 1) wr))
    (fun cc pre wr => False)
    ?hI ?hIx ?h0 ?a1 ?assign ?body ?done ?stop
  case assign =>
    intro l x A K hK
    unfold dpE
    gi_wp2
    exact hK
  case hI =>
    rintro pre A B row hx hg hr
    have h9 := HV.out
    exact ⟨hx.out.1.keep (hg.block _ hx.out.1.lt.1 (fun e => by have := (hr _ e.symm).1; omega)) (hg.block _ hx.out.1.lt.2 (fun e => by have := (hr _ e.symm).1; omega)), hx.out.2.own (by omega) (by omega) hg hr⟩
  case hIx =>
    rintro cc pre A B row hx hg hr
    exact hx
  case h0 => exact HE.out
  case body =>
    rintro l pre y A hx hlt
    obtain ⟨x, hxx⟩ : ∃ x, x = y.1.2 := ⟨_, rfl⟩
    obtain ⟨i, hii⟩ : ∃ i, i = y.1.1 := ⟨_, rfl⟩
    obtain ⟨M, hM⟩ : ∃ M, M = (anF s o a pre).1 := ⟨_, rfl⟩
    obtain ⟨O, hO⟩ : ∃ O, O = (anF s o a pre).2 := ⟨_, rfl⟩
    obtain ⟨G, hG⟩ : ∃ G, G = gvA x a := ⟨_, rfl⟩
    have hbd := anF_bd HA.out.1 ha pre
    rw [← hM, ← hO] at hbd
    have hx0 := HA.out.1.c y.1.1
    have hx1 := (HA.out.1.le y.1.1).1
    rw [← y.2.2, ← hxx] at hx0 hx1
    have hg := gvA_bd hx0 ha
    rw [← hG] at hg
    have hT1 := HA.out.2.1
    have hT2 := HA.out.2.2
    have hin : i < n := by rw [hii, HN.out]; exact y.2.1
    have hpl : pre.length < 40 := by have := HN.out; omega
    have hTm : T * (2 * (pre.length : Int) + 1) ≤ 41000000000 * 79 := Int.mul_le_mul hT1 (by omega) (by omega) (by omega)
    have hTn : 2 * T * (pre.length : Int) ≤ 82000000000 * 39 := Int.mul_le_mul (by omega) (by omega) (by omega) (by omega)
    have hTo : T * ((pre.length : Int) + 1) ≤ 41000000000 * 40 := Int.mul_le_mul hT1 (by omega) (by omega) (by omega)
    have hcb : ∀ j, -4000000000000 ≤ M.getD j 0 ∧ M.getD j 0 ≤ 4000000000000 := fun j => by have := hbd.2.1 j; omega
    obtain ⟨z, hz⟩ : ∃ z, z = M.getD i 0 := ⟨_, rfl⟩
    have hzb := hcb i
    rw [← hz] at hzb
    have hx2 := hx.out
    rw [← hM, ← hO] at hx2
    obtain ⟨hm, hb⟩ := hx2
    obtain ⟨c0, c1⟩ := hm.cell hin
    rw [← hz] at c0
    have j1 : IntKind.i64.wrap (x * a) = x * a := by rw [IntKind.wrap_i64]; omega
    have j2 : Int.tdiv (x * a) 64 = G := by rw [Int.tdiv_eq_ediv_of_nonneg hg.2.2.1, hG, gvA]
    have j3 : IntKind.i64.wrap G = G := by rw [IntKind.wrap_i64]; omega
    have j4 : IntKind.i64.wrap (2 * G) = 2 * G := by rw [IntKind.wrap_i64]; omega
    have j5 : IntKind.i64.wrap (z - 2 * G) = z - 2 * G := by rw [IntKind.wrap_i64]; omega
    have j6 : IntKind.i64.wrap ((i : Int) - 1) = (i : Int) - 1 := by rw [IntKind.wrap_i64]; omega
    have j7 : IntKind.i64.wrap ((i : Int) + 1) = ((i + 1 : Nat) : Int) := by rw [IntKind.wrap_i64]; omega
    obtain ⟨A1, hA1⟩ : ∃ A1, A1 = A.setCell ⟨g, i, none⟩ (.int .i64 (z - 2 * G)) := ⟨_, rfl⟩
    obtain ⟨M1, hM1⟩ : ∃ M1, M1 = M.set i (z - 2 * G) := ⟨_, rfl⟩
    have hm1 : MP (k0 + 1 + 1 + 1) k2 g n cp M1 O A1 := by rw [hA1, hM1]; exact hm.setL i (z - 2 * G)
    have hu1 : PU k2 g A A1 := by rw [hA1]; exact PU.setG _ _
    have hcb1 : ∀ j, -5000000000000 ≤ M1.getD j 0 ∧ M1.getD j 0 ≤ 5000000000000 := fun j => by
      rw [hM1, set_at]; have := hcb j; split <;> omega
    have hl1 : M1.length = n := hm1.len.symm
    have HP1 : Hid (∀ d : Int, d = ((i - 1 : Nat) : Int) → Calls Try.prog 40 #[.pointer (some ⟨k2, 0, none⟩), .int .i64 d, .int .i64 G] A1 fun e w' => (∃ v, e = .returned v) ∧ MP (k0 + 1 + 1 + 1) k2 g n cp (ptL M1 (i - 1) G) O w' ∧ PU k2 g A1 w') := fun d hd => by
      have := impl_put (i - 1) G (by omega) ⟨hg.1, by omega⟩ hn ⟨by have := hcb1 (i - 1); omega, by have := hcb1 (i - 1); omega⟩ ⟨hbd.2.2.1, by omega⟩ hm1
      rw [ptO, if_pos (by rw [hl1]; omega)] at this
      rw [hd]; exact this
    have HP2 : Hid (∀ A2, MP (k0 + 1 + 1 + 1) k2 g n cp (ptL M1 (i - 1) G) O A2 → Calls Try.prog 40 #[.pointer (some ⟨k2, 0, none⟩), .int .i64 ((i + 1 : Nat) : Int), .int .i64 G] A2 fun e w' => (∃ v, e = .returned v) ∧ MP (k0 + 1 + 1 + 1) k2 g n cp (gsL M i G) (gsO n O i G) w' ∧ PU k2 g A2 w') := fun A2 hA2 => by
      have hcb2 : ∀ j, -6000000000000 ≤ (ptL M1 (i - 1) G).getD j 0 ∧ (ptL M1 (i - 1) G).getD j 0 ≤ 6000000000000 := fun j => by
        rw [ptL_get]; have := hcb1 j; have := hcb1 (i - 1); split <;> omega
      have := impl_put (i + 1) G (by omega) ⟨hg.1, by omega⟩ hn ⟨by have := hcb2 (i + 1); omega, by have := hcb2 (i + 1); omega⟩ ⟨hbd.2.2.1, by omega⟩ hA2
      rw [gsL, ← hz, ← hM1, gsO]
      rw [ptO, ptL_len, hl1] at this
      exact this
    have HSN : Hid (anF s o a (pre ++ [y]) = (gsL M i G, gsO n O i G)) := by
      unfold Hid; rw [anF_snoc, ← hM, ← hO, ← hii, ← hxx, ← hG, HN.out]
    have HBB : Hid (BB W [(k0, .cells #[.slice ua n uc, .int .i64 o] 27), (k0 + 1, .cells #[.int .i64 a] 2), (k0 + 1 + 1, .cells #[.slice none 0 0, .int .i64 0] 27)] (k0 + 1 + 1 + 1) A ∧ PU k2 g A A1) := ⟨hb, hu1⟩
    have HA1 : Hid (A1 = A.setCell ⟨g, i, none⟩ (.int .i64 (z - 2 * G))) := hA1
    have z1 := cellOf (hb.at 1 rfl) 0 rfl
    have z1l := ltOf (hb.at 1 rfl)
    have m0 := cellOf hm.bx 0 rfl
    have ml := ltOf hm.bx
    have gl := hm.lt.1
    have b3 : (0 : Int) ≤ (i : Int) := by omega
    have b4 : (i : Int) < (n : Int) := by omega
    rw [← hxx, ← hii]
    clear hx hM hO hG hbd hx0 hx1 hg hT1 hT2 hTm hTn hTo hcb hz hzb hm hb hM1 hm1 hu1 hcb1 hl1 hii hxx hlt hpl hA1
    gi_wp2_with (fail)
    all_goals rw [← HA1.out]
    all_goals refine ⟨trivial, (CallsIn.inRound l (callsIn_wide.2 (HP1.out _ (by omega)))).mono ?_⟩
    all_goals rintro e A2 ⟨⟨u1, rfl⟩, hm2, hu2⟩
    all_goals have HP3 : Hid _ := HP2.out A2 hm2
    all_goals have HU : Hid (PU k2 g A A2) := HBB.out.2.trans hu2
    all_goals clear hm2 hu2
    all_goals gi_wp2_with (fail)
    all_goals refine ⟨trivial, (CallsIn.inRound l (callsIn_wide.2 HP3.out)).mono ?_⟩
    all_goals rintro e A3 ⟨⟨u2, rfl⟩, hm3, hu3⟩
    all_goals have HF3 : Hid (MP (k0 + 1 + 1 + 1) k2 g n cp (gsL M i G) (gsO n O i G) A3 ∧ PU k2 g A A3) := ⟨hm3, HU.out.trans hu3⟩
    all_goals clear hm3 hu3
    all_goals gi_wp2
    all_goals have h9 := HV.out
    all_goals refine ⟨HF3.out.2.ko.from _, HF3.out.2.bl _ (by omega) (by omega), ?_⟩
    all_goals dsimp only
    all_goals rw [HSN.out]
    all_goals refine ⟨HF3.out.1, HBB.out.1.keep (fun q q1 q2 => HF3.out.2.oth q (by omega) (by omega)) (HBB.out.1.bl.trans (HF3.out.2.bl _ (by omega) (by omega))) (by rw [HF3.out.2.size]; exact Nat.le_refl _)⟩
  case done =>
    rintro D xs A hD hS hx hK
    have hE : anF s o a xs = (LL, QQ) := by rw [hS, anF_all s o a _ (Nat.le_refl _), HF.out.1, HF.out.2]
    have hx2 := hx.out
    rw [hE] at hx2
    obtain ⟨hm, hb⟩ := hx2
    simp only at hm
    have m0 := cellOf hm.bx 0 rfl
    have m1 := cellOf hm.bx 1 rfl
    have ml := ltOf hm.bx
    have t0 := cellOf (hb.at 2 rfl) 0 rfl
    have t1 := cellOf (hb.at 2 rfl) 1 rfl
    have f0 := frozOf (hb.at 2 rfl) 0
    have f1 := frozOf (hb.at 2 rfl) 1
    have tl := ltOf (hb.at 2 rfl)
    have q2 := (hb.set 2 0 rfl (.slice (some ⟨g, 0, none⟩) n cp)).set 2 1 rfl (.int .i64 QQ)
    have hK6 := (KeepsOthers.setCell (A.setCell ⟨k0 + 1 + 1, 0, none⟩ (.slice (some ⟨g, 0, none⟩) n cp)) ⟨k0 + 1 + 1, 1, none⟩ (.int .i64 QQ)).same D _ ((KeepsOthers.setCell A ⟨k0 + 1 + 1, 0, none⟩ (.slice (some ⟨g, 0, none⟩) n cp)).same D _ hK rfl) rfl
    have q3 := q2.own (B := V.heap.size) (by have := HV.out; omega) (by have := HV.out; omega) (grownBy_putObj' _ D (.deferred none)) (fun r e => by cases e; exact ⟨hD, _, hK6, rfl⟩)
    have u0 := cellOf (q3.at 2 rfl) 0 rfl
    have u1 := cellOf (q3.at 2 rfl) 1 rfl
    have QB : Hid _ := q3.bl
    have HI : Hid (IS (((A.setCell ⟨k0 + 1 + 1, 0, none⟩ (.slice (some ⟨g, 0, none⟩) n cp)).setCell ⟨k0 + 1 + 1, 1, none⟩ (.int .i64 QQ)).putObj D (.deferred none)) W.heap.size (.slice (some ⟨g, 0, none⟩) n cp) LL) := by
      have h9 := HV.out
      refine (hm.is.keepE ?_).low (by omega)
      rw [World.putObj_heap_other (by omega), heap_setCell_other _ _ _ _ (show g ≠ k0 + 1 + 1 by omega), heap_setCell_other _ _ _ _ (show g ≠ k0 + 1 + 1 by omega)]
    clear hx hb hm hE hS q2 q3
    gi_wp2
    refine ⟨by simp, .inl ⟨_, _, rfl, run_takeDeferred hK6, ?_⟩⟩
    exact ⟨_, (by simp [results, Try.results45, go_sem, u0, u1]), g, cp, rfl, HI.out, QB.out⟩
  case stop =>
    rintro D cc pre A hD hS hx hK
    exact hx.elim

end Go.Proofs.Ytfjfogiohijkkaa
