/- Proved here: Strip of the program. -/
import Derived.Test.YtfjfogiohijkkaaPfX
import Derived.Test.YtfjfogiohijkkaaPfI
import Derived.Test.YtfjfogiohijkkaaPfK
import Derived.Test.YtfjfogiohijkkaaSrM
namespace Go.Proofs.Ytfjfogiohijkkaa
open Go.RowKit Go.Shelf
set_option linter.unusedVariables false
set_option linter.unusedSimpArgs false
attribute [local go_sem] Oper.semAt_some

set_option maxRecDepth 100000 in
set_option maxHeartbeats 12800000 in
theorem impl_strip (o c : Int) {W : World} {v : Value} {s : List Int} (hn : s.length ≤ 1048576) (h : RdI W v s) :
    Calls Try.prog 31 #[.agg #[v, .int .i64 o], .int .i64 c] W fun e w' => ∃ v' , e = .returned (.agg #[.int .i64 (srC s o c), v', .int .i64 (tdO (srC s o c) (o + suL (s.take c.toNat)))]) ∧ IS w' W.heap.size v' (tdL (srC s o c) (s.drop c.toNat)) ∧ Below W.heap.size W w' := by
  obtain ⟨ua, uc, rfl⟩ := h.form
  obtain ⟨n, hnn⟩ : ∃ n, n = s.length := ⟨_, rfl⟩
  rw [← hnn] at h hn ⊢
  have HN : Hid (n = s.length) := hnn
  have H : Hid (RdI W (.slice ua n uc) s) := h
  obtain ⟨CC, hCC⟩ : ∃ x, x = srC s o c := ⟨_, rfl⟩
  rw [← hCC]
  obtain ⟨LL, hLL⟩ : ∃ x, x = tdL CC (s.drop c.toNat) := ⟨_, rfl⟩
  obtain ⟨QQ, hQQ⟩ : ∃ x, x = tdO CC (o + suL (s.take c.toNat)) := ⟨_, rfl⟩
  rw [← hLL, ← hQQ]
  have HZ : Hid (CC ≠ 0 → LL = [] ∧ QQ = 0) := fun h9 => by rw [hLL, hQQ, tdL, tdO, if_neg h9, if_neg h9]; exact ⟨rfl, rfl⟩
  have HF : Hid (CC = srC s o c ∧ LL = tdL CC (s.drop c.toNat) ∧ QQ = tdO CC (o + suL (s.take c.toNat))) := ⟨hCC, hLL, hQQ⟩
  obtain ⟨C, hC⟩ : ∃ C, C = pfC s o := ⟨_, rfl⟩
  have HP : Hid (∀ V, Below W.heap.size W V → Calls Try.prog 12 #[.agg #[.slice ua n uc, .int .i64 o]] V fun e w' => e = .returned (.int .i64 C) ∧ Below V.heap.size V w') := fun V hV => by
    have := impl_pf o (by rw [← HN.out]; exact hn) (H.out.below hV)
    rwa [← hC] at this
  have HC : Hid (C = pfC s o) := hC
  clear hC hCC hLL hQQ h hnn
  by_cases h0 : C ≠ 0
  · have hC2 : (C != 0) = true := by simpa using h0
    have hcc : CC = C := by rw [HF.out.1, HC.out]; exact srC_bad (by rw [← HC.out]; exact h0)
    obtain ⟨e1, e2⟩ := HZ.out (by rw [hcc]; exact h0)
    subst e1 e2
    clear HF
    subst hcc
    go_enter Try.func31, Try.ntmps31
    go_wp2_with (fail)
    refine (HP.out _ (by (repeat' (first | (with_reducible exact Below.refl _ _) | (with_reducible assumption) | (with_reducible refine Below.setCell ?_ ?_ _) | (with_reducible refine Below.alloc ?_ ?_ _) | (with_reducible refine below_drewN ?_ _) | (with_reducible refine Below.drew ?_) | (with_reducible exact Nat.le_refl _) | omega | (simp; done) | (simp; omega))))).mono ?_
    rintro e w1 ⟨rfl, hb1⟩
    have HB : Hid (BB W [(W.heap.size, .cells #[.slice ua n uc, .int .i64 o] 27), (W.heap.size + 1, .cells #[.int .i64 c] 2), (W.heap.size + 1 + 1, .cells #[.int .i64 0, .slice none 0 0, .int .i64 0] 36)] (W.heap.size + 1 + 1 + 1) w1) := ((((BB.start W).push rfl _).push (k := W.heap.size + 1) (by simp) _).push (k := W.heap.size + 1 + 1) (by simp) _).grow hb1 (by omega) (by have := hb1.size; simpa using this)
    clear hb1
    obtain ⟨k0, hk0⟩ : ∃ k, k = W.heap.size := ⟨_, rfl⟩
    rw [← hk0] at HB ⊢
    have HK : Hid (k0 = W.heap.size) := hk0
    clear hk0
    have a0_0 := cellOf (HB.out.at 0 rfl) 0 rfl
    have a0_1 := cellOf (HB.out.at 0 rfl) 1 rfl
    have a0_l := ltOf (HB.out.at 0 rfl)
    have a1_0 := cellOf (HB.out.at 1 rfl) 0 rfl
    have a1_l := ltOf (HB.out.at 1 rfl)
    have t0 := cellOf (HB.out.at 2 rfl) 0 rfl
    have f0 := frozOf (HB.out.at 2 rfl) 0
    have t1 := cellOf (HB.out.at 2 rfl) 1 rfl
    have f1 := frozOf (HB.out.at 2 rfl) 1
    have t2 := cellOf (HB.out.at 2 rfl) 2 rfl
    have f2 := frozOf (HB.out.at 2 rfl) 2
    have tl := ltOf (HB.out.at 2 rfl)
    have q2 := (((HB.out.set 2 0 rfl (.int .i64 CC)).set 2 1 rfl (.slice none 0 0)).set 2 2 rfl (.int .i64 0))
    have u0 := cellOf (q2.at 2 rfl) 0 rfl
    have u1 := cellOf (q2.at 2 rfl) 1 rfl
    have u2 := cellOf (q2.at 2 rfl) 2 rfl
    have QB : Hid _ := q2.bl
    clear q2
    go_wp2
    refine bodyPost_ret (by simp [results, Try.results31, go_sem, u0, u1, u2]) rfl ⟨.slice none 0 0, rfl, World.ownsRow_nil _ _ _ _, QB.out⟩
  have h0' : C = 0 := by simpa using h0
  have hC0 : pfC s o = 0 := by rw [← HC.out]; exact h0'
  have HG : Hid (PG s o ∧ pfC s o = 0) := ⟨pfC_ok hC0, hC0⟩
  subst h0'
  clear h0 hC0 HC
  have k1 : IntKind.i64.wrap ((n : Int) - 1) = (n : Int) - 1 := by rw [IntKind.wrap_i64]; omega
  have HIN : Hid (∀ (r : Bool) (V : World), r = decide (0 ≤ c ∧ c ≤ (n : Int) - 1) → Calls Try.prog 35 #[.int .i64 c, .int .i64 0, .int .i64 ((n : Int) - 1)] V fun e w' => e = .returned (.bool r) ∧ w' = V) := fun r V hr => impl_ins c 0 _ r hr V
  by_cases h1 : ¬ (0 ≤ c ∧ c ≤ (n : Int) - 1)
  · have hcc : CC = 3 := by rw [HF.out.1]; exact srC_out HG.out.2 (by rw [← HN.out]; exact h1)
    obtain ⟨e1, e2⟩ := HZ.out (by rw [hcc]; decide)
    subst e1 e2
    clear HF
    subst hcc
    go_enter Try.func31, Try.ntmps31
    go_wp2_with (fail)
    refine (HP.out _ (by (repeat' (first | (with_reducible exact Below.refl _ _) | (with_reducible assumption) | (with_reducible refine Below.setCell ?_ ?_ _) | (with_reducible refine Below.alloc ?_ ?_ _) | (with_reducible refine below_drewN ?_ _) | (with_reducible refine Below.drew ?_) | (with_reducible exact Nat.le_refl _) | omega | (simp; done) | (simp; omega))))).mono ?_
    rintro e w1 ⟨rfl, hb1⟩
    have HB : Hid (BB W [(W.heap.size, .cells #[.slice ua n uc, .int .i64 o] 27), (W.heap.size + 1, .cells #[.int .i64 c] 2), (W.heap.size + 1 + 1, .cells #[.int .i64 0, .slice none 0 0, .int .i64 0] 36)] (W.heap.size + 1 + 1 + 1) w1) := ((((BB.start W).push rfl _).push (k := W.heap.size + 1) (by simp) _).push (k := W.heap.size + 1 + 1) (by simp) _).grow hb1 (by omega) (by have := hb1.size; simpa using this)
    clear hb1
    obtain ⟨k0, hk0⟩ : ∃ k, k = W.heap.size := ⟨_, rfl⟩
    rw [← hk0] at HB ⊢
    have HK : Hid (k0 = W.heap.size) := hk0
    clear hk0
    have a0_0 := cellOf (HB.out.at 0 rfl) 0 rfl
    have a0_1 := cellOf (HB.out.at 0 rfl) 1 rfl
    have a0_l := ltOf (HB.out.at 0 rfl)
    have a1_0 := cellOf (HB.out.at 1 rfl) 0 rfl
    have a1_l := ltOf (HB.out.at 1 rfl)
    go_wp2_with (fail)
    refine (HIN.out false _ (by simpa using h1)).mono ?_
    rintro e w3 ⟨rfl, hw⟩
    obtain rfl : w1 = w3 := hw.symm
    have t0 := cellOf (HB.out.at 2 rfl) 0 rfl
    have f0 := frozOf (HB.out.at 2 rfl) 0
    have t1 := cellOf (HB.out.at 2 rfl) 1 rfl
    have f1 := frozOf (HB.out.at 2 rfl) 1
    have t2 := cellOf (HB.out.at 2 rfl) 2 rfl
    have f2 := frozOf (HB.out.at 2 rfl) 2
    have tl := ltOf (HB.out.at 2 rfl)
    have q2 := (((HB.out.set 2 0 rfl (.int .i64 3)).set 2 1 rfl (.slice none 0 0)).set 2 2 rfl (.int .i64 0))
    have u0 := cellOf (q2.at 2 rfl) 0 rfl
    have u1 := cellOf (q2.at 2 rfl) 1 rfl
    have u2 := cellOf (q2.at 2 rfl) 2 rfl
    have QB : Hid _ := q2.bl
    clear q2
    go_wp2
    refine bodyPost_ret (by simp [results, Try.results31, go_sem, u0, u1, u2]) rfl ⟨.slice none 0 0, rfl, World.ownsRow_nil _ _ _ _, QB.out⟩
  have h2 : 0 ≤ c ∧ c ≤ (n : Int) - 1 := by simpa using h1
  clear h1
  refine (callsIn_wide (n := 4)).1 ?_
  refine callsIn_of_wp_marks Try.func31 rfl trivial ?_ rfl
  simp only [Try.ntmps31, List.size_toArray, List.length_cons, List.length_nil, Nat.reduceAdd, Nat.reduceSub, Array.replicate_succ, Array.replicate_zero, List.push_toArray, List.append_toArray, List.nil_append, List.cons_append]
  gi_wp2_with (fail)
  refine ⟨trivial, (callsIn_wide.2 (HP.out _ (by (repeat' (first | (with_reducible exact Below.refl _ _) | (with_reducible assumption) | (with_reducible refine Below.setCell ?_ ?_ _) | (with_reducible refine Below.alloc ?_ ?_ _) | (with_reducible refine below_drewN ?_ _) | (with_reducible refine Below.drew ?_) | (with_reducible exact Nat.le_refl _) | omega | (simp; done) | (simp; omega)))))).mono ?_⟩
  rintro e w1 ⟨rfl, hb1⟩
  have HB : Hid (BB W [(W.heap.size, .cells #[.slice ua n uc, .int .i64 o] 27), (W.heap.size + 1, .cells #[.int .i64 c] 2), (W.heap.size + 1 + 1, .cells #[.int .i64 0, .slice none 0 0, .int .i64 0] 36)] (W.heap.size + 1 + 1 + 1) w1) := ((((BB.start W).push rfl _).push (k := W.heap.size + 1) (by simp) _).push (k := W.heap.size + 1 + 1) (by simp) _).grow hb1 (by omega) (by have := hb1.size; simpa using this)
  clear hb1
  obtain ⟨k0, hk0⟩ : ∃ k, k = W.heap.size := ⟨_, rfl⟩
  rw [← hk0] at HB ⊢
  have HK : Hid (k0 = W.heap.size) := hk0
  clear hk0
  have a0_0 := cellOf (HB.out.at 0 rfl) 0 rfl
  have a0_1 := cellOf (HB.out.at 0 rfl) 1 rfl
  have a0_l := ltOf (HB.out.at 0 rfl)
  have a1_0 := cellOf (HB.out.at 1 rfl) 0 rfl
  have a1_l := ltOf (HB.out.at 1 rfl)

  gi_wp2_with (fail)
  refine ⟨trivial, (callsIn_wide.2 (HIN.out true _ (by simpa using h2))).mono ?_⟩
  rintro e w3 ⟨rfl, hw⟩
  obtain rfl : w1 = w3 := hw.symm
  clear hw
  gi_wp2_with (fail)
  obtain ⟨k2, hk2⟩ : ∃ k, k = w1.heap.size := ⟨_, rfl⟩
  have HB2 : Hid (BB W [(k0, .cells #[.slice ua n uc, .int .i64 o] 27), (k0 + 1, .cells #[.int .i64 c] 2), (k0 + 1 + 1, .cells #[.int .i64 0, .slice none 0 0, .int .i64 0] 36), (k2, .cells #[.slice none 0 0, .int .i64 o] 27)] (k2 + 1) (w1.alloc (.cells #[.slice none 0 0, .int .i64 o] 27))) := HB.out.push hk2 _
  rw [← hk2]
  obtain ⟨w2, hw2⟩ : ∃ w, w = w1.alloc (.cells #[.slice none 0 0, .int .i64 o] 27) := ⟨_, rfl⟩
  have hs2 : w2.heap.size = k2 + 1 := by rw [hw2, hk2]; simp
  rw [← hw2] at HB2 ⊢
  have HK2 : Hid (k0 + 1 + 1 < k2) := by unfold Hid; have := HB.out.sz; omega
  clear hw2 hk2 a0_0 a0_1 a0_l a1_0 a1_l HB HIN HP
  refine ⟨trivial, (callsIn_wide.2 (dp_fn _ _ _ _ _)).mono ?_⟩
  rintro e w4 ⟨rfl, rfl⟩
  obtain ⟨V, hV⟩ : ∃ V, V = w2.alloc (.cells #[.slice ua n uc, .int .i64 o] 27) := ⟨_, rfl⟩
  have HE : Hid (BB W [(k0, .cells #[.slice ua n uc, .int .i64 o] 27), (k0 + 1, .cells #[.int .i64 c] 2), (k0 + 1 + 1, .cells #[.int .i64 0, .slice none 0 0, .int .i64 0] 36), (k2, .cells #[.slice none 0 0, .int .i64 o] 27)] (k2 + 2) V) := by
    rw [hV]; exact HB2.out.grow (by (repeat' (first | (with_reducible exact Below.refl _ _) | (with_reducible assumption) | (with_reducible refine Below.setCell ?_ ?_ _) | (with_reducible refine Below.alloc ?_ ?_ _) | (with_reducible refine below_drewN ?_ _) | (with_reducible refine Below.drew ?_) | (with_reducible exact Nat.le_refl _) | omega | (simp; done) | (simp; omega)))) (by omega) (by simp; omega)
  have HBs : Hid (V.heap[k2 + 1]? = some (.cells #[.slice ua n uc, .int .i64 o] 27)) := by unfold Hid; rw [hV, ← hs2]; exact heap_alloc_new _ _
  have HV : Hid (V.heap.size = k2 + 2 ∧ W.heap.size ≤ k2 ∧ k0 + 1 + 1 < k2) := ⟨by rw [hV]; simp; omega, (HB2.out.lo _ (List.mem_of_getElem? (i := 3) rfl)).1, HK2.out⟩
  gi_wp2_with (fail)
  rw [← hV]
  clear hV hs2 HB2
  refine wpIn_rangeFunc_ownG (α := Dp s) (w := V) rfl (by omega) (gf := 46) (lb := #[.pointer (some ⟨k2 + 1, 0, none⟩)]) rfl trivial (enters_of Try.func46 (by kernel_rfl) rfl)
    (dp_stops Fence.wide 3 trivial rfl (by omega) (k2 + 1) W.heap.size uc n o ua s HN.out hn V HBs.out (by have := HV.out; omega) (fun W' h' => H.out.below (HE.out.bl.trans h')))
    belowK_t (belowK_b (by have := HV.out; omega)) (Below.refl _ _) (fun _ => rfl)
    (fun pre wr => ∃ v, Hid (BB W [(k0, .cells #[.slice ua n uc, .int .i64 o] 27), (k0 + 1, .cells #[.int .i64 c] 2), (k0 + 1 + 1, .cells #[.int .i64 0, .slice none 0 0, .int .i64 0] 36), (k2, .cells #[v, .int .i64 (srF c o pre).2] 27)] (k2 + 2) wr ∧ IS wr (k2 + 2) v (srF c o pre).1))
    (fun cc pre wr => False)
    ?hI ?hIx ?h0 ?a1 ?assign ?body ?done ?stop
  case assign =>
    intro l x A K hK
    unfold dpE
    gi_wp2
    exact hK
  case hI =>
    rintro pre A B row ⟨v, hx⟩ hg hr
    exact ⟨v, hx.out.1.own (by have := HV.out; omega) (by have := HV.out; omega) hg hr, hx.out.2.own hg (fun r e => (hr r e).2)⟩
  case hIx =>
    rintro cc pre A B row hx hg hr
    exact hx
  case h0 => exact ⟨.slice none 0 0, HE.out, World.ownsRow_nil _ _ _ _⟩
  case body =>
    rintro l pre y A ⟨v, hx⟩ hlt
    obtain ⟨x, hxx⟩ : ∃ x, x = y.1.2 := ⟨_, rfl⟩
    obtain ⟨i, hii⟩ : ∃ i, i = y.1.1 := ⟨_, rfl⟩
    obtain ⟨M, hM⟩ : ∃ M, M = (srF c o pre).1 := ⟨_, rfl⟩
    obtain ⟨O, hO⟩ : ∃ O, O = (srF c o pre).2 := ⟨_, rfl⟩
    have hbd := srF_bd c HG.out.1 pre
    rw [← hM, ← hO] at hbd
    have hb1 := HG.out.1.c y.1.1
    rw [← y.2.2, ← hxx] at hb1
    have hb3 := HG.out.1.len
    have k1 : IntKind.i64.wrap (O + x) = O + x := by rw [IntKind.wrap_i64]; omega
    obtain ⟨hxb, hxi⟩ := hx.out
    rw [← hO] at hxb
    rw [← hM] at hxi
    have HSN : Hid (srF c o (pre ++ [y]) = if (i : Int) < c then (M, O + x) else (M ++ [x], O)) := by
      unfold Hid; rw [srF_snoc, hM, hO, hii, hxx]
    obtain ⟨va, vc, rfl⟩ := hxi.form
    obtain ⟨m, hm⟩ : ∃ m, m = M.length := ⟨_, rfl⟩
    rw [← hm] at hxi hxb
    have HX : Hid (BB W [(k0, .cells #[.slice ua n uc, .int .i64 o] 27), (k0 + 1, .cells #[.int .i64 c] 2), (k0 + 1 + 1, .cells #[.int .i64 0, .slice none 0 0, .int .i64 0] 36), (k2, .cells #[.slice va m vc, .int .i64 O] 27)] (k2 + 2) A ∧ IS A (k2 + 2) (.slice va m vc) M ∧ m = M.length) := ⟨hxb, hxi, hm⟩
    have hm2 : m ≤ 40 := by have := hbd.2.2; omega
    rw [← hxx, ← hii]
    have z1 := cellOf (hxb.at 1 rfl) 0 rfl
    have z1l := ltOf (hxb.at 1 rfl)
    have z3 := cellOf (hxb.at 3 rfl) 0 rfl
    have z3b := cellOf (hxb.at 3 rfl) 1 rfl
    have z3f := frozOf (hxb.at 3 rfl) 1
    have z3l := ltOf (hxb.at 3 rfl)
    clear hbd hb1 hb3 hx hxb hxi hm hM hO hii hxx hlt
    by_cases hic : (i : Int) < c
    · gi_wp2
      refine ⟨(KeepsOthers.setCell _ _ _).from _, (Below.refl _ _).setCell (p := ⟨k2, 1, none⟩) HV.out.2.1 _, .slice va m vc, ?_⟩
      rw [HSN.out, if_pos hic]
      refine ⟨HX.out.1.set 3 1 rfl (.int .i64 (O + x)), HX.out.2.1.kept fun g hg => heap_setCell_other _ _ _ _ ?_⟩
      have := (IS.lt HX.out.2.1 g hg).1
      show g ≠ k2
      omega
    · obtain ⟨i0, hi0, hz0, hz1, hz2⟩ := info_parts info_i64
      have HR : Hid (A.ownsRow (k2 + 2) 2 1 (.slice va m vc) m (M.map (Value.int .i64))) := by
        unfold Hid; have h9 : A.ownsRow _ _ _ _ M.length _ := HX.out.2.1; rw [← HX.out.2.2] at h9; exact h9
      gi_wp2_with (gi_at_builtin; refine wpListIn_append_own _ rfl _ _ 22 rfl (k2 + 2) 2 i0 (.int .i64 0) 1 8 Try.underlying22 hi0 hz0 hz1 hz2 rfl (by decide) (.slice va m vc) m (M.map (Value.int .i64)) rfl (HR.out.alloc _) ⟨A.heap.size, 0, none⟩ 1 1 [.int .i64 x] rfl rfl (cell_one_new _ _ _) (by simp [Value.oneCell']) (by unfold maxLen; omega) (by omega) (by have := HX.out.1.sz; simp; omega) ?_; intro v' w5 hown' hgrow _; obtain ⟨g', cap', rfl⟩ := ownsRow_succ hown'; obtain ⟨b5, ko5, bl5⟩ := ap_step HX.out.1 (by have := HV.out; omega) HR.out hgrow; have y3 := cellOf (b5.at 3 rfl) 0 rfl; have y3f := frozOf (b5.at 3 rfl) 0; have y3l := ltOf (b5.at 3 rfl))
      have hmm := HX.out.2.2
      refine ⟨(ko5.trans (KeepsOthers.setCell _ _ _)).from _, bl5.setCell (p := ⟨k2, 0, none⟩) HV.out.2.1 _, .slice (some ⟨g', 0, none⟩) (m + 1) cap', ?_⟩
      rw [HSN.out, if_neg (by omega)]
      refine ⟨b5.set 3 0 rfl (.slice (some ⟨g', 0, none⟩) (m + 1) cap'), ?_⟩
      have hI5 : IS w5 (k2 + 2) (.slice (some ⟨g', 0, none⟩) (m + 1) cap') (M ++ [x]) := by
        unfold IS
        rw [List.length_append, List.map_append, ← hmm]
        exact hown'
      refine hI5.keepE (heap_setCell_other _ _ _ _ ?_)
      have := (IS.lt hI5 g' rfl).1
      show g' ≠ k2
      omega
  case done =>
    rintro D xs A hD hS ⟨v, hx⟩ hK
    obtain ⟨cn, hcn⟩ : ∃ k : Nat, c = (k : Int) := ⟨c.toNat, by omega⟩
    obtain ⟨hxb, hxi⟩ := hx.out
    have hE : srF c o xs = (s.drop c.toNat, o + suL (s.take c.toNat)) := by rw [hS, hcn, srF_end]; rfl
    rw [hE] at hxb hxi
    have HCM0 := HF.out
    rw [srC_in HG.out.2 (by rw [← HN.out]; exact h2)] at HCM0
    obtain ⟨M, hM⟩ : ∃ M, M = s.drop c.toNat := ⟨_, rfl⟩
    obtain ⟨O, hO⟩ : ∃ O, O = o + suL (s.take c.toNat) := ⟨_, rfl⟩
    simp only at hxb hxi
    rw [← hM] at hxi HCM0
    rw [← hO] at hxb HCM0
    have hMl : M.length = n - cn := by rw [hM, List.length_drop, HN.out, hcn]; rfl
    have hMp : 0 < M.length := by omega
    have hln : M.length ≤ 1048576 := by omega
    obtain ⟨g, cp, rfl, hgl, _, _⟩ := hxi.pos hMp
    obtain ⟨nn, hnn⟩ : ∃ m, m = M.length := ⟨_, rfl⟩
    rw [← hnn] at hxb hxi
    have HM : Hid (MP W.heap.size k2 g nn cp M O A) := ⟨hxb.at 3 rfl, hxi.low (by have := HV.out; omega), by omega, hnn, ⟨by have := HV.out; omega, HV.out.2.1⟩⟩
    have HX : Hid (BB W [(k0, .cells #[.slice ua n uc, .int .i64 o] 27), (k0 + 1, .cells #[.int .i64 c] 2), (k0 + 1 + 1, .cells #[.int .i64 0, .slice none 0 0, .int .i64 0] 36), (k2, .cells #[.slice (some ⟨g, 0, none⟩) nn cp, .int .i64 O] 27)] (k2 + 2) A) := hxb
    have HNE : Hid (g ≠ k0 + 1 + 1 ∧ g ≠ D) := ⟨by have := HV.out; omega, hxi.notD hK⟩
    have HCM : Hid (CC = pfC M O ∧ LL = tdL CC M ∧ QQ = tdO CC O) := HCM0
    clear hxb hxi hM hO hE hS hx HCM0 hMl hMp hnn hgl hcn
    have ma0 := cellOf HM.out.bx 0 rfl
    have ma1 := cellOf HM.out.bx 1 rfl
    have mal := ltOf HM.out.bx
    by_cases hz : pfC (M) (O) = 0
    · obtain ⟨e1, e2, e3⟩ : CC = 0 ∧ LL = M ∧ QQ = O := ⟨by rw [HCM.out.1, hz], by rw [HCM.out.2.1, tdL, if_pos (by rw [HCM.out.1, hz])], by rw [HCM.out.2.2, tdO, if_pos (by rw [HCM.out.1, hz])]⟩
      have HA : Hid (∀ V, Below A.heap.size A V → Calls Try.prog 41 #[.agg #[.slice (some ⟨g, 0, none⟩) nn cp, .int .i64 O]] V fun e w' => e = .returned (.agg #[.int .i64 0, .slice (some ⟨g, 0, none⟩) nn cp, .int .i64 QQ]) ∧ Below V.heap.size V w') := fun V hV => by
        have := impl_ans_ok hz (HM.out.rd.below hV)
        rw [e3]; exact this
      clear hz
      subst e1
      clear e3
      have HLL : Hid (LL = M) := e2
      clear e2
      gi_wp2_with (fail)
      refine ⟨trivial, (callsIn_wide.2 (HA.out _ (Below.refl _ _))).mono ?_⟩
      rintro e w5 ⟨rfl, hb5⟩
      have HX5 := HX.out.below hb5
      have HM5 := HM.out.below hb5
      have hK5 : w5.heap[D]? = some (.deferred (some [])) := (hb5.block D (ltOf hK)).trans hK
      clear hb5 ma0 ma1 mal
      have t0 := cellOf (HX5.at 2 rfl) 0 rfl
      have f0 := frozOf (HX5.at 2 rfl) 0
      have t1 := cellOf (HX5.at 2 rfl) 1 rfl
      have f1 := frozOf (HX5.at 2 rfl) 1
      have t2 := cellOf (HX5.at 2 rfl) 2 rfl
      have f2 := frozOf (HX5.at 2 rfl) 2
      have tl := ltOf (HX5.at 2 rfl)
      have q2 := (((HX5.set 2 0 rfl (.int .i64 0)).set 2 1 rfl (.slice (some ⟨g, 0, none⟩) nn cp)).set 2 2 rfl (.int .i64 QQ))
      have hK6 := ((KeepsOthers.setCell ((w5.setCell ⟨k0 + 1 + 1, 0, none⟩ (.int .i64 0)).setCell ⟨k0 + 1 + 1, 1, none⟩ (.slice (some ⟨g, 0, none⟩) nn cp)) ⟨k0 + 1 + 1, 2, none⟩ (.int .i64 QQ)).same D _ ((KeepsOthers.setCell (w5.setCell ⟨k0 + 1 + 1, 0, none⟩ (.int .i64 0)) ⟨k0 + 1 + 1, 1, none⟩ (.slice (some ⟨g, 0, none⟩) nn cp)).same D _ ((KeepsOthers.setCell w5 ⟨k0 + 1 + 1, 0, none⟩ (.int .i64 0)).same D _ hK5 rfl) rfl) rfl)
      have q3 := q2.own (B := V.heap.size) (by have := HV.out; omega) (by have := HV.out; omega) (grownBy_putObj' _ D (.deferred none)) (fun r e => by cases e; exact ⟨hD, _, hK6, rfl⟩)
      have u0 := cellOf (q3.at 2 rfl) 0 rfl
      have u1 := cellOf (q3.at 2 rfl) 1 rfl
      have u2 := cellOf (q3.at 2 rfl) 2 rfl
      have QB : Hid _ := q3.bl
      have HI : Hid (IS ((((w5.setCell ⟨k0 + 1 + 1, 0, none⟩ (.int .i64 0)).setCell ⟨k0 + 1 + 1, 1, none⟩ (.slice (some ⟨g, 0, none⟩) nn cp)).setCell ⟨k0 + 1 + 1, 2, none⟩ (.int .i64 QQ)).putObj D (.deferred none)) W.heap.size (.slice (some ⟨g, 0, none⟩) nn cp) LL) := by
        unfold Hid
        rw [HLL.out]
        refine HM5.is.keepE ?_
        rw [World.putObj_heap_other (by have := HNE.out.2; omega), heap_setCell_other _ _ _ _ HNE.out.1, heap_setCell_other _ _ _ _ HNE.out.1, heap_setCell_other _ _ _ _ HNE.out.1]
      clear q2 q3
      gi_wp2
      refine ⟨by simp, .inl ⟨_, _, rfl, run_takeDeferred hK6, ?_⟩⟩
      exact ⟨_, (by simp [results, Try.results31, go_sem, u0, u1, u2]), .slice (some ⟨g, 0, none⟩) nn cp, rfl, HI.out, QB.out⟩
    · obtain ⟨e1, e2⟩ := HZ.out (by rw [HCM.out.1]; exact hz)
      have HA : Hid (∀ V, Below A.heap.size A V → Calls Try.prog 41 #[.agg #[.slice (some ⟨g, 0, none⟩) nn cp, .int .i64 O]] V fun e w' => e = .returned (.agg #[.int .i64 CC, .slice none 0 0, .int .i64 0]) ∧ Below V.heap.size V w') := fun V hV => by
        have := impl_ans_bad hln hz (HM.out.rd.below hV)
        rwa [← HCM.out.1] at this
      clear hz
      subst e1 e2
      gi_wp2_with (fail)
      refine ⟨trivial, (callsIn_wide.2 (HA.out _ (Below.refl _ _))).mono ?_⟩
      rintro e w5 ⟨rfl, hb5⟩
      have HX5 := HX.out.below hb5
      have HM5 := HM.out.below hb5
      have hK5 : w5.heap[D]? = some (.deferred (some [])) := (hb5.block D (ltOf hK)).trans hK
      clear hb5 ma0 ma1 mal
      have t0 := cellOf (HX5.at 2 rfl) 0 rfl
      have f0 := frozOf (HX5.at 2 rfl) 0
      have t1 := cellOf (HX5.at 2 rfl) 1 rfl
      have f1 := frozOf (HX5.at 2 rfl) 1
      have t2 := cellOf (HX5.at 2 rfl) 2 rfl
      have f2 := frozOf (HX5.at 2 rfl) 2
      have tl := ltOf (HX5.at 2 rfl)
      have q2 := (((HX5.set 2 0 rfl (.int .i64 CC)).set 2 1 rfl (.slice none 0 0)).set 2 2 rfl (.int .i64 0))
      have hK6 := ((KeepsOthers.setCell ((w5.setCell ⟨k0 + 1 + 1, 0, none⟩ (.int .i64 CC)).setCell ⟨k0 + 1 + 1, 1, none⟩ (.slice none 0 0)) ⟨k0 + 1 + 1, 2, none⟩ (.int .i64 0)).same D _ ((KeepsOthers.setCell (w5.setCell ⟨k0 + 1 + 1, 0, none⟩ (.int .i64 CC)) ⟨k0 + 1 + 1, 1, none⟩ (.slice none 0 0)).same D _ ((KeepsOthers.setCell w5 ⟨k0 + 1 + 1, 0, none⟩ (.int .i64 CC)).same D _ hK5 rfl) rfl) rfl)
      have q3 := q2.own (B := V.heap.size) (by have := HV.out; omega) (by have := HV.out; omega) (grownBy_putObj' _ D (.deferred none)) (fun r e => by cases e; exact ⟨hD, _, hK6, rfl⟩)
      have u0 := cellOf (q3.at 2 rfl) 0 rfl
      have u1 := cellOf (q3.at 2 rfl) 1 rfl
      have u2 := cellOf (q3.at 2 rfl) 2 rfl
      have QB : Hid _ := q3.bl
      clear q2 q3
      gi_wp2
      refine ⟨by simp, .inl ⟨_, _, rfl, run_takeDeferred hK6, ?_⟩⟩
      exact ⟨_, (by simp [results, Try.results31, go_sem, u0, u1, u2]), .slice none 0 0, rfl, World.ownsRow_nil _ _ _ _, QB.out⟩

  case stop =>
    rintro D cc pre A hD hS hx hK
    exact hx.elim

end Go.Proofs.Ytfjfogiohijkkaa
