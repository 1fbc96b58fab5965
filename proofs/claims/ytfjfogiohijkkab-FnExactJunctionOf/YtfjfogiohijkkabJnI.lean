/- Proved here: JunctionOf of the program. -/
import Derived.Test.YtfjfogiohijkkabPfX
import Derived.Test.YtfjfogiohijkkabPfI
import Derived.Test.YtfjfogiohijkkabJnM
namespace Go.Proofs.Ytfjfogiohijkkab
open Go.RowKit Go.Shelf
set_option linter.unusedVariables false
set_option linter.unusedSimpArgs false
attribute [local go_sem] Oper.semAt_some

set_option maxRecDepth 100000 in
set_option maxHeartbeats 12800000 in
theorem impl_junc (o a : Int) {W : World} {v : Value} {s : List Int} (hn : s.length ≤ 1048576) (h : RdI W v s) :
    Calls Try.prog 8 #[.agg #[v, .int .i64 o], .int .i64 a] W fun e w' => e = .returned (.agg #[.int .i64 (jnC s o a), .int .i64 (jnV s o a)]) ∧ Below W.heap.size W w' := by
  obtain ⟨ua, uc, rfl⟩ := h.form
  obtain ⟨n, hnn⟩ : ∃ n, n = s.length := ⟨_, rfl⟩
  rw [← hnn] at h hn ⊢
  have HN : Hid (n = s.length) := hnn
  have H : Hid (RdI W (.slice ua n uc) s) := h
  obtain ⟨CC, hCC⟩ : ∃ x, x = jnC s o a := ⟨_, rfl⟩
  obtain ⟨QQ, hQQ⟩ : ∃ x, x = jnV s o a := ⟨_, rfl⟩
  rw [← hCC, ← hQQ]
  have HF : Hid (CC = jnC s o a ∧ QQ = jnV s o a) := ⟨hCC, hQQ⟩
  obtain ⟨C, hC⟩ : ∃ C, C = pfC s o := ⟨_, rfl⟩
  have HP : Hid (∀ V, Below W.heap.size W V → Calls Try.prog 21 #[.agg #[.slice ua n uc, .int .i64 o]] V fun e w' => e = .returned (.int .i64 C) ∧ Below V.heap.size V w') := fun V hV => by
    have := impl_pf o (by rw [← HN.out]; exact hn) (H.out.below hV)
    rwa [← hC] at this
  have HC : Hid (C = pfC s o) := hC
  clear hC hCC hQQ h hnn
  by_cases h0 : C ≠ 0
  · have hC2 : (C != 0) = true := by simpa using h0
    obtain ⟨e1, e2⟩ : CC = C ∧ QQ = 0 := by
      have := jn_bad (s := s) (o := o) (a := a) (by rw [← HC.out]; exact h0)
      rw [HF.out.1, HF.out.2, HC.out]; exact this
    clear HF
    subst e1 e2
    go_enter Try.func8, Try.ntmps8
    go_wp2_with (fail)
    refine (HP.out _ (by (repeat' (first | (with_reducible exact Below.refl _ _) | (with_reducible assumption) | (with_reducible refine Below.setCell ?_ ?_ _) | (with_reducible refine Below.alloc ?_ ?_ _) | (with_reducible refine below_drewN ?_ _) | (with_reducible refine Below.drew ?_) | (with_reducible exact Nat.le_refl _) | omega | (simp; done) | (simp; omega))))).mono ?_
    rintro e w1 ⟨rfl, hb1⟩
    have HB : Hid (BB W [(W.heap.size, .cells #[.slice ua n uc, .int .i64 o] 29), (W.heap.size + 1, .cells #[.int .i64 a] 2), (W.heap.size + 1 + 1, .cells #[.int .i64 0, .int .i64 0] 27)] (W.heap.size + 1 + 1 + 1) w1) := ((((BB.start W).push rfl _).push (k := W.heap.size + 1) (by simp) _).push (k := W.heap.size + 1 + 1) (by simp) _).grow hb1 (by omega) (by have := hb1.size; simpa using this)
    clear hb1
    obtain ⟨k0, hk0⟩ : ∃ k, k = W.heap.size := ⟨_, rfl⟩
    rw [← hk0] at HB ⊢
    have HK : Hid (k0 = W.heap.size) := hk0
    clear hk0
    have a0_0 := cellOf (HB.out.at 0 rfl) 0 rfl
    have a0_1 := cellOf (HB.out.at 0 rfl) 1 rfl
    have a0_l := ltOf (HB.out.at 0 rfl)
    have a1_0 := cellOf (HB.out.at 1 rfl) 0 rfl
    have a1_l := ltOf (HB.out.at 1 rfl)
    have t0 := cellOf (HB.out.at 2 rfl) 0 rfl
    have f0 := frozOf (HB.out.at 2 rfl) 0
    have t1 := cellOf (HB.out.at 2 rfl) 1 rfl
    have f1 := frozOf (HB.out.at 2 rfl) 1
    have tl := ltOf (HB.out.at 2 rfl)
    have q2 := ((HB.out.set 2 0 rfl (.int .i64 CC)).set 2 1 rfl (.int .i64 0))
    have q3 := q2
    have u0 := cellOf (q3.at 2 rfl) 0 rfl
    have u1 := cellOf (q3.at 2 rfl) 1 rfl
    have QB : Hid _ := q3.bl
    clear q2 q3
    go_wp2
    refine bodyPost_ret (by simp [results, Try.results8, go_sem, u0, u1]) rfl ⟨rfl, QB.out⟩
  have h0' : C = 0 := by simpa using h0
  have hC0 : pfC s o = 0 := by rw [← HC.out]; exact h0'
  have HG : Hid (PG s o ∧ pfC s o = 0) := ⟨pfC_ok hC0, hC0⟩
  subst h0'
  clear h0 hC0 HC
  obtain ⟨r, hr⟩ : ∃ r, r = decide (0 ≤ a ∧ a ≤ 1000000000) := ⟨_, rfl⟩
  have HR : Hid (r = decide (0 ≤ a ∧ a ≤ 1000000000)) := hr
  clear hr
  by_cases q0 : r = false
  · subst q0
    have hx3 : ¬ (0 ≤ a ∧ a ≤ 1000000000) := fun h => by have := HR.out; rw [decide_eq_true h] at this; cases this
    obtain ⟨e1, e2⟩ : CC = 3 ∧ QQ = 0 := by
      rw [HF.out.1, HF.out.2]; exact jn_out HG.out.2 hx3
    clear HF hx3
    subst e1 e2
    go_enter Try.func8, Try.ntmps8
    go_wp2_with (fail)
    refine (HP.out _ (by (repeat' (first | (with_reducible exact Below.refl _ _) | (with_reducible assumption) | (with_reducible refine Below.setCell ?_ ?_ _) | (with_reducible refine Below.alloc ?_ ?_ _) | (with_reducible refine below_drewN ?_ _) | (with_reducible refine Below.drew ?_) | (with_reducible exact Nat.le_refl _) | omega | (simp; done) | (simp; omega))))).mono ?_
    rintro e w1 ⟨rfl, hb1⟩
    have HB : Hid (BB W [(W.heap.size, .cells #[.slice ua n uc, .int .i64 o] 29), (W.heap.size + 1, .cells #[.int .i64 a] 2), (W.heap.size + 1 + 1, .cells #[.int .i64 0, .int .i64 0] 27)] (W.heap.size + 1 + 1 + 1) w1) := ((((BB.start W).push rfl _).push (k := W.heap.size + 1) (by simp) _).push (k := W.heap.size + 1 + 1) (by simp) _).grow hb1 (by omega) (by have := hb1.size; simpa using this)
    clear hb1
    obtain ⟨k0, hk0⟩ : ∃ k, k = W.heap.size := ⟨_, rfl⟩
    rw [← hk0] at HB ⊢
    have HK : Hid (k0 = W.heap.size) := hk0
    clear hk0
    have a0_0 := cellOf (HB.out.at 0 rfl) 0 rfl
    have a0_1 := cellOf (HB.out.at 0 rfl) 1 rfl
    have a0_l := ltOf (HB.out.at 0 rfl)
    have a1_0 := cellOf (HB.out.at 1 rfl) 0 rfl
    have a1_l := ltOf (HB.out.at 1 rfl)
    go_wp2_with (fail)
    refine (impl_ins a 0 1000000000 false HR.out _).mono ?_
    rintro e w3 ⟨rfl, hw⟩
    obtain rfl : w1 = w3 := hw.symm
    clear hw
    have t0 := cellOf (HB.out.at 2 rfl) 0 rfl
    have f0 := frozOf (HB.out.at 2 rfl) 0
    have t1 := cellOf (HB.out.at 2 rfl) 1 rfl
    have f1 := frozOf (HB.out.at 2 rfl) 1
    have tl := ltOf (HB.out.at 2 rfl)
    have q2 := ((HB.out.set 2 0 rfl (.int .i64 3)).set 2 1 rfl (.int .i64 0))
    have q3 := q2
    have u0 := cellOf (q3.at 2 rfl) 0 rfl
    have u1 := cellOf (q3.at 2 rfl) 1 rfl
    have QB : Hid _ := q3.bl
    clear q2 q3
    go_wp2
    refine bodyPost_ret (by simp [results, Try.results8, go_sem, u0, u1]) rfl ⟨rfl, QB.out⟩
  have q0' : r = true := by cases r <;> simp_all
  subst q0'
  clear q0
  have h2 : 0 ≤ a ∧ a ≤ 1000000000 := of_decide_eq_true HR.out.symm
  refine (callsIn_wide (n := 4)).1 ?_
  refine callsIn_of_wp_marks Try.func8 rfl trivial ?_ rfl
  simp only [Try.ntmps8, List.size_toArray, List.length_cons, List.length_nil, Nat.reduceAdd, Nat.reduceSub, Array.replicate_succ, Array.replicate_zero, List.push_toArray, List.append_toArray, List.nil_append, List.cons_append]
  gi_wp2_with (fail)
  refine ⟨trivial, (callsIn_wide.2 (HP.out _ (by (repeat' (first | (with_reducible exact Below.refl _ _) | (with_reducible assumption) | (with_reducible refine Below.setCell ?_ ?_ _) | (with_reducible refine Below.alloc ?_ ?_ _) | (with_reducible refine below_drewN ?_ _) | (with_reducible refine Below.drew ?_) | (with_reducible exact Nat.le_refl _) | omega | (simp; done) | (simp; omega)))))).mono ?_⟩
  rintro e w1 ⟨rfl, hb1⟩
  have HB : Hid (BB W [(W.heap.size, .cells #[.slice ua n uc, .int .i64 o] 29), (W.heap.size + 1, .cells #[.int .i64 a] 2), (W.heap.size + 1 + 1, .cells #[.int .i64 0, .int .i64 0] 27)] (W.heap.size + 1 + 1 + 1) w1) := ((((BB.start W).push rfl _).push (k := W.heap.size + 1) (by simp) _).push (k := W.heap.size + 1 + 1) (by simp) _).grow hb1 (by omega) (by have := hb1.size; simpa using this)
  clear hb1
  obtain ⟨k0, hk0⟩ : ∃ k, k = W.heap.size := ⟨_, rfl⟩
  rw [← hk0] at HB ⊢
  have HK : Hid (k0 = W.heap.size) := hk0
  clear hk0
  have a0_0 := cellOf (HB.out.at 0 rfl) 0 rfl
  have a0_1 := cellOf (HB.out.at 0 rfl) 1 rfl
  have a0_l := ltOf (HB.out.at 0 rfl)
  have a1_0 := cellOf (HB.out.at 1 rfl) 0 rfl
  have a1_l := ltOf (HB.out.at 1 rfl)
  gi_wp2_with (fail)
  refine ⟨trivial, (callsIn_wide.2 (impl_ins a 0 1000000000 true HR.out _)).mono ?_⟩
  rintro e w3 ⟨rfl, hw⟩
  obtain rfl : w1 = w3 := hw.symm
  clear hw HR HP
  gi_wp2_with (fail)
  obtain ⟨k2, hk2⟩ : ∃ k, k = w1.heap.size := ⟨_, rfl⟩
  have HB2 : Hid (BB W [(k0, .cells #[.slice ua n uc, .int .i64 o] 29), (k0 + 1, .cells #[.int .i64 a] 2), (k0 + 1 + 1, .cells #[.int .i64 0, .int .i64 0] 27), (k2, .cells #[.bool false] 4)] (k2 + 1) (w1.alloc (.cells #[.bool false] 4))) := HB.out.push hk2 _
  have HK2 : Hid (k0 + 1 + 1 < k2) := by unfold Hid; have := HB.out.sz; omega
  rw [← hk2]
  obtain ⟨w2, hw2⟩ : ∃ w, w = w1.alloc (.cells #[.bool false] 4) := ⟨_, rfl⟩
  have hs2 : w2.heap.size = k2 + 1 := by rw [hw2, hk2]; simp
  rw [← hw2] at HB2 ⊢
  clear hw2 hk2 a0_0 a0_1 a0_l a1_0 a1_l HB
  refine ⟨trivial, (callsIn_wide.2 (dp_fn _ _ _ _ _)).mono ?_⟩
  rintro e w4 ⟨rfl, rfl⟩
  obtain ⟨V, hV⟩ : ∃ V, V = w2.alloc (.cells #[.slice ua n uc, .int .i64 o] 29) := ⟨_, rfl⟩
  have HE : Hid (BB W [(k0, .cells #[.slice ua n uc, .int .i64 o] 29), (k0 + 1, .cells #[.int .i64 a] 2), (k0 + 1 + 1, .cells #[.int .i64 0, .int .i64 0] 27), (k2, .cells #[.bool false] 4)] (k2 + 2) V) := by
    rw [hV]; exact HB2.out.grow (by (repeat' (first | (with_reducible exact Below.refl _ _) | (with_reducible assumption) | (with_reducible refine Below.setCell ?_ ?_ _) | (with_reducible refine Below.alloc ?_ ?_ _) | (with_reducible refine below_drewN ?_ _) | (with_reducible refine Below.drew ?_) | (with_reducible exact Nat.le_refl _) | omega | (simp; done) | (simp; omega)))) (by omega) (by simp; omega)
  have HBs : Hid (V.heap[k2 + 1]? = some (.cells #[.slice ua n uc, .int .i64 o] 29)) := by unfold Hid; rw [hV, ← hs2]; exact heap_alloc_new _ _
  have HV : Hid (V.heap.size = k2 + 2 ∧ W.heap.size ≤ k2 ∧ k0 + 1 + 1 < k2 ∧ W.heap.size ≤ k0) := ⟨by rw [hV]; simp; omega, (HB2.out.lo _ (List.mem_of_getElem? (i := 3) rfl)).1, HK2.out, by rw [HK.out]; exact Nat.le_refl _⟩
  gi_wp2_with (fail)
  rw [← hV]
  clear hV hs2 HB2
  refine wpIn_rangeFunc_ownG (α := Dp s) (w := V) rfl (by omega) (gf := 32) (lb := #[.pointer (some ⟨k2 + 1, 0, none⟩)]) rfl trivial (enters_of Try.func32 (by kernel_rfl) rfl)
    (dp_stops Fence.wide 3 trivial rfl (by omega) (k2 + 1) W.heap.size uc n o ua s HN.out hn V HBs.out (by have := HV.out; omega) (fun W' h' => H.out.below (HE.out.bl.trans h')))
    belowK_t (belowK_b (by have := HV.out; omega)) (Below.refl _ _) (fun _ => rfl)
    (fun pre wr => Hid (BB W [(k0, .cells #[.slice ua n uc, .int .i64 o] 29), (k0 + 1, .cells #[.int .i64 a] 2), (k0 + 1 + 1, .cells #[.int .i64 0, .int .i64 0] 27), (k2, .cells #[.bool (jf a pre).1] 4)] (k2 + 2) wr ∧ (jf a pre).2 = none))
    (fun cc pre wr => cc = .ret ∧ ∃ (i : Nat), Hid (BB W [(k0, .cells #[.slice ua n uc, .int .i64 o] 29), (k0 + 1, .cells #[.int .i64 a] 2), (k0 + 1 + 1, .cells #[.int .i64 0, .int .i64 (i : Int)] 27), (k2, .cells #[.bool (jf a pre).1] 4)] (k2 + 2) wr ∧ (jf a pre).2 = some i))
    ?hI ?hIx ?h0 ?a1 ?assign ?body ?done ?stop
  case assign =>
    intro l x A K hK
    unfold dpE
    gi_wp2
    exact hK
  case hI =>
    rintro pre A B row hx0 hg hr
    have hx := hx0.out
    exact ⟨hx.1.own (by have := HV.out; omega) (by have := HV.out; omega) hg hr, hx.2⟩
  case hIx =>
    rintro cc pre A B row ⟨rfl, i, hx0⟩ hg hr
    have hx := hx0.out
    exact ⟨rfl, i, hx.1.own (by have := HV.out; omega) (by have := HV.out; omega) hg hr, hx.2⟩
  case h0 => exact ⟨HE.out, rfl⟩
  case body =>
    rintro l pre y A hx0 hlt
    obtain ⟨r, hrr⟩ : ∃ r, r = (jf a pre).1 := ⟨_, rfl⟩
    have hj0 : jf a pre = (r, none) := by rw [hrr]; have := hx0.out.2; generalize jf a pre = p at this ⊢; cases p; simp at this; rw [this]
    have hx1 := hx0.out
    rw [← hrr] at hx1
    have hx : Hid (BB W [(k0, .cells #[.slice ua n uc, .int .i64 o] 29), (k0 + 1, .cells #[.int .i64 a] 2), (k0 + 1 + 1, .cells #[.int .i64 0, .int .i64 0] 27), (k2, .cells #[.bool r] 4)] (k2 + 2) A ∧ jf a pre = (r, none)) := ⟨hx1.1, hj0⟩
    clear hx1 hx0 hj0 hrr
    obtain ⟨x, hxx⟩ : ∃ x, x = y.1.2 := ⟨_, rfl⟩
    obtain ⟨i, hii⟩ : ∃ i, i = y.1.1 := ⟨_, rfl⟩
    have HSN : Hid (jf a (pre ++ [y]) = if a ≤ x then (true, none) else if r = true then (r, some i) else (r, none)) := by
      unfold Hid; rw [jf_snoc, hx.out.2, hxx, hii]; rfl
    have HX : Hid (BB W [(k0, .cells #[.slice ua n uc, .int .i64 o] 29), (k0 + 1, .cells #[.int .i64 a] 2), (k0 + 1 + 1, .cells #[.int .i64 0, .int .i64 0] 27), (k2, .cells #[.bool r] 4)] (k2 + 2) A) := hx.out.1
    rw [← hxx, ← hii]
    have z1 := cellOf (hx.out.1.at 1 rfl) 0 rfl
    have z1l := ltOf (hx.out.1.at 1 rfl)
    have z3 := cellOf (hx.out.1.at 3 rfl) 0 rfl
    have z3f := frozOf (hx.out.1.at 3 rfl) 0
    have z3l := ltOf (hx.out.1.at 3 rfl)
    have t0 := cellOf (hx.out.1.at 2 rfl) 0 rfl
    have t1 := cellOf (hx.out.1.at 2 rfl) 1 rfl
    have f0 := frozOf (hx.out.1.at 2 rfl) 0
    have f1 := frozOf (hx.out.1.at 2 rfl) 1
    have tl := ltOf (hx.out.1.at 2 rfl)
    clear hx hxx hii hlt
    by_cases hax : a ≤ x
    · gi_wp2
      exact ⟨(KeepsOthers.setCell _ _ _).from _, (Below.refl _ _).setCell (p := ⟨k2, 0, none⟩) HV.out.2.1 _, by rw [HSN.out, if_pos hax]; exact HX.out.set 3 0 rfl (.bool true), by rw [HSN.out, if_pos hax]⟩
    · cases r with
      | false =>
        gi_wp2
        exact ⟨KeepsFrom.refl _ _, Below.refl _ _, by rw [HSN.out, if_neg (by omega), if_neg (by decide)]; exact HX.out, by rw [HSN.out, if_neg (by omega), if_neg (by decide)]⟩
      | true =>
        gi_wp2
        exact ⟨((KeepsOthers.setCell _ _ _).trans (KeepsOthers.setCell _ _ _)).from _, rfl, i, by rw [HSN.out, if_neg (by omega), if_pos trivial]; exact (HX.out.set 2 0 rfl (.int .i64 0)).set 2 1 rfl (.int .i64 (i : Int)), by rw [HSN.out, if_neg (by omega), if_pos trivial]⟩
  case done =>
    rintro D xs A hD hS hx hK
    have hj : jnO s a = none := by unfold jnO; rw [← hS]; exact hx.out.2
    obtain ⟨r, hrr⟩ : ∃ r, r = (jf a xs).1 := ⟨_, rfl⟩
    have hx9 := hx.out.1
    rw [← hrr] at hx9
    obtain ⟨e1, e2⟩ : CC = 4 ∧ QQ = 0 := by rw [HF.out.1, HF.out.2]; exact jn_none HG.out.2 h2 hj
    have HX : Hid (BB W [(k0, .cells #[.slice ua n uc, .int .i64 o] 29), (k0 + 1, .cells #[.int .i64 a] 2), (k0 + 1 + 1, .cells #[.int .i64 0, .int .i64 0] 27), (k2, .cells #[.bool r] 4)] (k2 + 2) A) := hx9
    clear hx hS hj HF hx9 hrr
    subst e1 e2
    have t0 := cellOf (HX.out.at 2 rfl) 0 rfl
    have f0 := frozOf (HX.out.at 2 rfl) 0
    have t1 := cellOf (HX.out.at 2 rfl) 1 rfl
    have f1 := frozOf (HX.out.at 2 rfl) 1
    have tl := ltOf (HX.out.at 2 rfl)
    have q2 := ((HX.out.set 2 0 rfl (.int .i64 4)).set 2 1 rfl (.int .i64 0))
    have hK6 := (KeepsOthers.setCell (A.setCell ⟨k0 + 1 + 1, 0, none⟩ (.int .i64 4)) ⟨k0 + 1 + 1, 1, none⟩ (.int .i64 0)).same D _ ((KeepsOthers.setCell A ⟨k0 + 1 + 1, 0, none⟩ (.int .i64 4)).same D _ hK rfl) rfl
    have q3 := q2.own (B := V.heap.size) (by have := HV.out; omega) (by have := HV.out; omega) (grownBy_putObj' _ D (.deferred none)) (fun r e => by cases e; exact ⟨hD, _, hK6, rfl⟩)
    have u0 := cellOf (q3.at 2 rfl) 0 rfl
    have u1 := cellOf (q3.at 2 rfl) 1 rfl
    have QB : Hid _ := q3.bl
    clear q2 q3
    gi_wp2
    refine ⟨by simp, .inl ⟨_, _, rfl, run_takeDeferred hK6, ?_⟩⟩
    exact ⟨_, (by simp [results, Try.results8, go_sem, u0, u1]), rfl, QB.out⟩
  case stop =>
    rintro D cc pre A hD ⟨k, hk, hpre⟩ ⟨rfl, i, hx⟩ hK
    obtain ⟨r, hrr⟩ : ∃ r, r = (jf a pre).1 := ⟨_, rfl⟩
    have hx9 := hx.out.1
    rw [← hrr] at hx9
    have hj : jnO s a = some i := by unfold jnO; exact jf_end hk (by rw [← hpre]; exact hx.out.2)
    obtain ⟨e1, e2⟩ : CC = 0 ∧ QQ = (i : Int) := by rw [HF.out.1, HF.out.2]; exact jn_some HG.out.2 h2 hj
    have HX : Hid (BB W [(k0, .cells #[.slice ua n uc, .int .i64 o] 29), (k0 + 1, .cells #[.int .i64 a] 2), (k0 + 1 + 1, .cells #[.int .i64 0, .int .i64 (i : Int)] 27), (k2, .cells #[.bool r] 4)] (k2 + 2) A) := hx9
    clear hx hpre hj HF hx9 hrr
    subst e1 e2
    have q3 := HX.out.own (B := V.heap.size) (by have := HV.out; omega) (by have := HV.out; omega) (grownBy_putObj' _ D (.deferred none)) (fun r e => by cases e; exact ⟨hD, _, hK, rfl⟩)
    have u0 := cellOf (q3.at 2 rfl) 0 rfl
    have u1 := cellOf (q3.at 2 rfl) 1 rfl
    have QB : Hid _ := q3.bl
    clear q3
    gi_wp2
    refine ⟨by simp, .inl ⟨_, _, rfl, run_takeDeferred hK, ?_⟩⟩
    exact ⟨_, (by simp [results, Try.results8, go_sem, u0, u1]), rfl, QB.out⟩

end Go.Proofs.Ytfjfogiohijkkab
