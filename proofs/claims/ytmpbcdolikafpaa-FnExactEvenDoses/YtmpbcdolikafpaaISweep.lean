/- Proved here: the program's sweep over two lists of boxes makes what opOf says, where heightsOf and edgesOf do what they are asked. -/
import Derived.Test.YtmpbcdolikafpaaICut
namespace Go.Proofs.Ytmpbcdolikafpaa
open Go.RowKit
set_option linter.unusedVariables false
set_option linter.unusedSimpArgs false

theorem BS.capS {w : World} {A n c : Nat} {a : Option Addr} {s : List Bx} (h : BS w A (.slice a n c) s) : s.length ≤ c := by
  rcases h.2 with ⟨_, h0⟩ | ⟨g, cap, cur, e, hB, hg, hn, _⟩
  · omega
  · simp only [Value.slice.injEq] at e
    obtain ⟨_, _, rfl⟩ := e
    exact hn
/-- A list of the call's own, whatever the slice's capacity. -/
def BC (w : World) (B : Nat) (v : Value) (s : List Bx) : Prop := ∃ (a : Option Addr) (c : Nat) (c' : {c : Nat // s.length ≤ c}), v = .slice a s.length c' ∧ BS w B (.slice a s.length c) s
theorem BS.bc {w : World} {B : Nat} {v : Value} {s : List Bx} (h : BS w B v s) : BC w B v s := by
  obtain ⟨a, c, rfl⟩ := h.form
  exact ⟨a, c, ⟨c, h.capS⟩, rfl, h⟩
theorem BC.rb {w : World} {B : Nat} {v : Value} {s : List Bx} (h : BC w B v s) : RB w v s := by
  obtain ⟨a, c, c', rfl, h⟩ := h
  obtain ⟨a2, c2, e, h2⟩ := h.rb
  simp only [Value.slice.injEq, true_and] at e
  obtain ⟨rfl, rfl⟩ := e
  exact ⟨a, c', rfl, h2⟩
theorem BC.low {w : World} {A B : Nat} {v : Value} {s : List Bx} (h : BC w B v s) (hab : A ≤ B) : BC w A v s := by
  obtain ⟨a, c, c', rfl, h⟩ := h
  exact ⟨a, c, c', rfl, h.low hab⟩
theorem BC.below {w w' : World} {B : Nat} {v : Value} {s : List Bx} (h : BC w B v s) (hb : Below w.heap.size w w') : BC w' B v s := by
  obtain ⟨a, c, c', rfl, h⟩ := h
  exact ⟨a, c, c', rfl, h.below hb⟩

theorem sweepE_len (K : Bool → Bool → Bool) (a b : Int) : ∀ (M : List Ed) (f s : Int) (op : Bool) (x0 : Int) (out : List Bx), (sweepE K a b M f s op x0 out).length ≤ out.length + M.length := by
  intro M
  induction M with
  | nil => intro f s op x0 out; simp [sweepE]
  | cons e M ih =>
    intro f s op x0 out
    simp only [sweepE]
    split
    · have := ih (f + e.f) (s + e.s) op x0 out
      simp; omega
    · refine Nat.le_trans (ih _ _ _ _ _) ?_
      split <;> simp <;> omega
theorem sweepE_length (K : Bool → Bool → Bool) (a b : Int) (M : List Ed) (f s : Int) (op : Bool) (x0 : Int) : (sweepE K a b M f s op x0 []).length ≤ M.length := by
  have := sweepE_len K a b M f s op x0 []
  simpa using this
theorem edges_small {a b : List Bx} {E : List Ed} (h : E.Perm (edges a b)) : ∀ e ∈ E, -1 ≤ e.f ∧ e.f ≤ 1 ∧ -1 ≤ e.s ∧ e.s ≤ 1 := by
  intro e he
  have := h.mem_iff.1 he
  unfold edges at this
  rcases List.mem_append.1 this with h1 | h1
  · obtain ⟨q, _, hq⟩ := List.mem_flatMap.1 h1
    simp [ed1] at hq
    rcases hq with rfl | rfl <;> simp
  · obtain ⟨q, _, hq⟩ := List.mem_flatMap.1 h1
    simp [ed2] at hq
    rcases hq with rfl | rfl <;> simp
theorem edges_length (a b : List Bx) : (edges a b).length = 2 * (a.length + b.length) := by
  have h1 : ∀ a : List Bx, (a.flatMap ed1).length = 2 * a.length := by
    intro a; induction a with
    | nil => rfl
    | cons x t ih => simp [ed1] at ih ⊢; omega
  have h2 : ∀ a : List Bx, (a.flatMap ed2).length = 2 * a.length := by
    intro a; induction a with
    | nil => rfl
    | cons x t ih => simp [ed2] at ih ⊢; omega
  unfold edges
  rw [List.length_append, h1, h2]
  omega

set_option maxHeartbeats 800000 in
theorem impl_raise_zero (a : Option Addr) (c : Nat) (d : Int) (w : World) :
    Calls Try.prog 55 #[.slice a 0 c, .int .i64 d] w fun e w' => e = .returned (.tuple #[]) ∧ w' = w := by
  go_enter Try.func55, Try.ntmps55
  go_wp2
  refine wp_loop_rounds 1 ?_
  rw [rounds_succ]
  go_wp2
  go_returns
  exact ⟨rfl, rfl⟩

theorem opI_step {R : Int → Int → List Bx} {ys : List Int} {k : Nat} {st : List Bx × List Bx} {low high : Int} (h : k + 1 < ys.length) (hl : low = ys.getD k 0) (hh : high = ys.getD (k + 1) 0) : opI R (ys.drop k) st = opI R (ys.drop (k + 1)) (stepI R st low high) := by
  have e1 : ys.drop k = low :: ys.drop (k + 1) := by
    rw [hl, List.getD_eq_getElem?_getD, List.getElem?_eq_getElem (by omega)]
    exact List.drop_eq_getElem_cons (by omega)
  have e2 : ys.drop (k + 1) = high :: ys.drop (k + 2) := by
    rw [hh, List.getD_eq_getElem?_getD, List.getElem?_eq_getElem h]
    exact List.drop_eq_getElem_cons h
  rw [e1, e2, opI]
theorem opI_end {R : Int → Int → List Bx} {ys : List Int} {k : Nat} {st : List Bx × List Bx} (h : ys.length ≤ k + 1) : opI R (ys.drop k) st = st.1 ++ st.2 := by
  have hl : (ys.drop k).length ≤ 1 := by rw [List.length_drop]; omega
  match hd : ys.drop k, hl with
  | [], _ => rfl
  | [x], _ => rfl

/-- What the sweep holds at a height. -/
structure SwI (w2 wr : World) (R : Int → Int → List Bx) (ys : List Int) (T : List Bx) (k : Nat) (vo : Value) (done last : List Bx) : Prop where
  bs : BS wr w2.heap.size vo (done ++ last)
  bl : Below w2.heap.size w2 wr
  op : opI R (ys.drop k) (done, last) = T
  len : (done ++ last).length ≤ k * 200000

set_option maxRecDepth 20000 in
set_option maxHeartbeats 8000000 in
theorem impl_sweep (hH : HeightsOk) (hE : EdgesOk) {F : Nat} {K : Bool → Bool → Bool} (hF : Word F K) (hK : K false false = false) {w : World} {va vb : Value} {a b : List Bx} (hn : a.length + b.length ≤ 100000) (ha : RB w va a) (hb : RB w vb b) (hax : ∀ q ∈ a, q.x0 < q.x1) (hbx : ∀ q ∈ b, q.x0 < q.x1) :
    Calls Try.prog 36 #[va, vb, .func (.func F) #[] #[]] w fun e w' => ∃ v, e = .returned v ∧ BC w' w.heap.size v (opOf K a b) ∧ Below w.heap.size w w' := by
  obtain ⟨aa, ac, rfl⟩ := ha.form
  obtain ⟨ba, bc, rfl⟩ := hb.form
  obtain ⟨ys, hys⟩ : ∃ ys, ys = endsF Bx.y0 Bx.y1 (endsF Bx.y0 Bx.y1 [] a) b := ⟨_, rfl⟩
  obtain ⟨T, hT⟩ : ∃ T, T = opOf K a b := ⟨_, rfl⟩
  have h1 := hH w _ _ a b (by omega) ha hb
  rw [← hys] at h1
  rw [← hT]
  have hyl : ys.length ≤ 200000 := by
    have e1 := endsF_length Bx.y0 Bx.y1 b (endsF Bx.y0 Bx.y1 [] a)
    have e2 := endsF_length Bx.y0 Bx.y1 a []
    rw [hys]
    simp at e2
    omega
  have H2 : Hid (∀ w1, Below w.heap.size w w1 → Calls Try.prog 51 #[.slice aa a.length ac, .slice ba b.length bc] w1 fun e w' => ∃ v E, e = .returned v ∧ ES w' w1.heap.size v E ∧ E.Perm (edges a b) ∧ Rising E ∧ Below w1.heap.size w1 w') := fun w1 hb1 => hE w1 _ _ a b (by omega) (ha.below hb1) (hb.below hb1)
  have HT : Hid (∀ E, E.Perm (edges a b) → Rising E → opI (fun c d => sweepE K c d (crossK c d E) 0 0 false 0 []) ys ([], []) = T) := fun E h1 h2 => by rw [hT]; exact sweep_all K hK 0 a b E ys hax hbx h1 h2 hys
  have H1 : Hid (Calls Try.prog 50 #[.slice aa a.length ac, .slice ba b.length bc] w fun e w' => ∃ v, e = .returned v ∧ IS w' w.heap.size v ys ∧ Below w.heap.size w w') := h1
  have HN : Hid (a.length + b.length ≤ 100000) := hn
  clear h1 hT hys ha hb hax hbx hn hH hE
  obtain ⟨n, hnn⟩ : ∃ n, n = ys.length := ⟨_, rfl⟩
  have hn8 : n ≤ 200000 := by omega
  go_enter Try.func36, Try.ntmps36
  go_wp2_with (fail)
  refine H1.out.mono ?_
  rintro e w1 ⟨vh, rfl, his, hb1⟩
  obtain ⟨hha, hhc, rfl⟩ := his.form
  rw [← hnn] at his ⊢
  have HIS : Hid (IS w1 w.heap.size (.slice hha n hhc) ys ∧ Below w.heap.size w w1 ∧ n = ys.length) := ⟨his, hb1, hnn⟩
  clear his hb1 H1 hnn hyl
  go_wp2_with (fail)
  refine (H2.out w1 HIS.out.2.1).mono ?_
  rintro e w2 ⟨ve, E, rfl, hes, hperm, hris, hb2⟩
  obtain ⟨ea, ec, rfl⟩ := hes.form
  have hml : E.length ≤ 200000 := by rw [hperm.length_eq, edges_length]; have := HN.out; omega
  obtain ⟨R, hR⟩ : ∃ R : Int → Int → List Bx, R = fun c d => sweepE K c d (crossK c d E) 0 0 false 0 [] := ⟨_, rfl⟩
  have hT := HT.out E hperm hris
  rw [← hR] at hT
  have HE : Hid (ES w2 w1.heap.size (.slice ea E.length ec) E ∧ (∀ e ∈ E, -1 ≤ e.f ∧ e.f ≤ 1 ∧ -1 ≤ e.s ∧ e.s ≤ 1) ∧ E.length ≤ 200000 ∧ R = fun c d => sweepE K c d (crossK c d E) 0 0 false 0 []) := ⟨hes, edges_small hperm, hml, hR⟩
  have HI2 : Hid (IS w2 w.heap.size (.slice hha n hhc) ys ∧ Below w.heap.size w w2) := ⟨HIS.out.1.below' hb2, HIS.out.2.1.trans (hb2.mono HIS.out.2.1.size)⟩
  have HNY : Hid (n = ys.length) := HIS.out.2.2
  have HT2 : Hid (opI R ys ([], []) = T) := hT
  obtain ⟨m, hm⟩ : ∃ m, m = E.length := ⟨_, rfl⟩
  rw [← hm] at HE ⊢
  have HM : Hid (m = E.length) := hm
  clear hes hperm hris hb2 hml hR hT HT HIS H2 hm
  go_wp2
  go_loopw [9, 10, 11] (fun vo vl vi wr => ∃ (k : Nat) (done last : List Bx), k ≤ n ∧ vi = .int .i64 ((k : Int) + 1) ∧ vl = .int .i64 (done.length : Int) ∧ Hid (SwI w2 wr R ys T k vo done last)) (fun _ _ vi _ => n + 2 - (intOf vi).toNat)
  case atStart => exact ⟨0, [], [], Nat.zero_le _, rfl, rfl, BS.nil _ _, Below.refl _ _, HT2.out, by simp⟩
  case round =>
    obtain ⟨k, done, last, hk, rfl, rfl, hI⟩ := hrel
    obtain ⟨oa, oc, hvo⟩ := hI.out.bs.form
    subst hvo
    by_cases hlt : k + 1 < n
    · have hip := (HI2.out.1.below' hI.out.bl).pos (by rw [← HNY.out]; omega)
      obtain ⟨hg, hcap, he, hBg, hgl, hcell⟩ := hip
      simp only [Value.slice.injEq] at he
      obtain ⟨rfl, hx1, hx2⟩ := he
      clear hx1 hx2
      rw [← HNY.out] at hcell
      have c1 := hcell k (by omega)
      have c2 := hcell (k + 1) (by omega)
      obtain ⟨low, hlow⟩ : ∃ low, low = ys.getD k 0 := ⟨_, rfl⟩
      obtain ⟨high, hhigh⟩ : ∃ high, high = ys.getD (k + 1) 0 := ⟨_, rfl⟩
      rw [← hlow] at c1
      rw [← hhigh] at c2
      have HLH : Hid (low = ys.getD k 0 ∧ high = ys.getD (k + 1) 0) := ⟨hlow, hhigh⟩
      obtain ⟨p, hp⟩ : ∃ p, p = (done ++ last).length := ⟨_, rfl⟩
      obtain ⟨q, hq⟩ : ∃ q, q = done.length := ⟨_, rfl⟩
      have HPQ : Hid (p = (done ++ last).length ∧ q = done.length) := ⟨hp, hq⟩
      have hqp : q ≤ p := by rw [hp, hq]; simp
      have hp8 : p ≤ 40000000000 := by have := hI.out.len; rw [← hp] at this; have h2 : k * 200000 ≤ 200000 * 200000 := Nat.mul_le_mul_right _ (by omega); omega
      rw [← hp] at hI ⊢
      rw [← hq]
      clear hlow hhigh hp hq hcell
      have b0 : (0 : Int) ≤ (k : Int) := by omega
      have b1 : (k : Int) < (n : Int) := by omega
      have b2 : (k : Int) + 1 < (n : Int) := by omega
      go_wp2_with (fail)
      go_quiet (fail)
      go_wp2_with (fail)
      have hbq : Below wr.heap.size wr (wr.drewN nq) := below_drewN (Below.refl _ _) _
      have hE0 : RE (wr.drewN nq) (.slice ea m ec) E := ((HE.out.1.below hI.out.bl).below hbq).re
      have HI3 : Hid (BS (wr.drewN nq) w2.heap.size (.slice oa p oc) (done ++ last) ∧ Below w2.heap.size w2 (wr.drewN nq) ∧ opI R (ys.drop k) (done, last) = T ∧ (done ++ last).length ≤ k * 200000) := ⟨hI.out.bs.below hbq, hI.out.bl.trans (hbq.mono hI.out.bl.size), hI.out.op, hI.out.len⟩
      clear hI hbq c1 c2
      obtain ⟨w3, hw3⟩ : ∃ w3, w3 = wr.drewN nq := ⟨_, rfl⟩
      rw [← hw3] at HI3 hE0 ⊢
      clear hw3
      refine (impl_cross low high (by rw [← HM.out]; have := HE.out.2.2.1; omega) hE0).mono ?_
      rintro e w4 ⟨vc, rfl, hvc, hb4⟩
      obtain ⟨ca, cc, rfl⟩ := hvc.form
      have HI4 : Hid (BS w4 w2.heap.size (.slice oa p oc) (done ++ last) ∧ Below w2.heap.size w2 w4) := ⟨HI3.out.1.below hb4, HI3.out.2.1.trans (hb4.mono HI3.out.2.1.size)⟩
      have hsep : Hid (∀ g, (Value.slice ca (crossK low high E).length cc).ownBlock = some g → (Value.slice oa p oc).ownBlock ≠ some g) := fun g h1 h2 => by
        have e1 := (World.ownsRow.lt hvc g h1).1
        have e2 := (World.ownsRow.lt HI3.out.1 g h2).2
        omega
      have HVC : Hid (ES w4 w3.heap.size (.slice ca (crossK low high E).length cc) (crossK low high E)) := hvc
      clear hvc hb4 hE0
      go_wp2_with (fail)
      refine (impl_runs hF ⟨0, low, 0, high⟩ HI4.out.1 HVC.out HI4.out.2.size (Nat.le_trans (crossK_length _ _ _) (by rw [← HM.out]; have := HE.out.2.2.1; omega)) (by rw [← HPQ.out.1]; omega) (fun e he => HE.out.2.1 e (List.mem_filter.1 he).1) hsep.out).mono ?_
      rintro e w5 ⟨vn, rfl, hvn, hb5⟩
      have hRe : Hid (R low high = sweepE K low high (crossK low high E) 0 0 false 0 []) := by unfold Hid; rw [HE.out.2.2.2]
      have hrl : (R low high).length ≤ 200000 := by
        rw [hRe.out]
        refine Nat.le_trans (sweepE_length _ _ _ _ _ _ _ _) (Nat.le_trans (crossK_length _ _ _) ?_)
        rw [← HM.out]
        exact HE.out.2.2.1
      have hvn2 : BS w5 w2.heap.size vn (done ++ last ++ R low high) := by rw [hRe.out]; exact hvn
      obtain ⟨row, hrow⟩ : ∃ row, row = R low high := ⟨_, rfl⟩
      rw [← hrow] at hvn2 hrl
      have HRW : Hid (row = R low high) := hrow
      have HI5 : Hid (BS w5 w2.heap.size vn (done ++ last ++ row) ∧ Below w2.heap.size w2 w5) := ⟨hvn2, HI4.out.2.trans (hb5.mono (Nat.le_refl _))⟩
      have hvf := hvn2.form
      have hv2 := hvn2.2
      clear hvn hvn2 hb5 HI4 hsep HVC hRe hrow
      obtain ⟨na, nc, rfl⟩ := hvf
      obtain ⟨r, hr⟩ : ∃ r, r = row.length := ⟨_, rfl⟩
      have hlen : (done ++ last ++ row).length = p + r := by rw [List.length_append, ← HPQ.out.1, hr]
      rw [hlen] at HI5 hv2 ⊢
      have HRL : Hid (r = row.length) := hr
      rw [← hr] at hrl
      clear hr
      have hop := HI3.out.2.2.1
      have hln := HI3.out.2.2.2
      rw [← HPQ.out.1] at hln
      have HST : Hid (opI R (ys.drop (k + 1)) (stepI R (done, last) low high) = T ∧ p ≤ k * 200000) := by
        refine ⟨?_, hln⟩
        rw [← opI_step (by rw [← HNY.out]; exact hlt) HLH.out.1 HLH.out.2]
        exact hop
      clear hop hln HI3
      rcases hv2 with ⟨hnil, hz⟩ | ⟨g, cap, cur, hsl, hBg2, hgc, hpc, hcm, hcs, hct⟩
      · obtain ⟨rfl, rfl⟩ : p = 0 ∧ r = 0 := by omega
        obtain rfl : q = 0 := by omega
        simp only [Value.slice.injEq] at hnil
        obtain ⟨rfl, _, rfl⟩ := hnil
        have e1 : done = [] ∧ last = [] := by
          have := HPQ.out.1
          rw [List.length_append] at this
          exact ⟨List.length_eq_zero_iff.1 (by omega), List.length_eq_zero_iff.1 (by omega)⟩
        obtain ⟨rfl, rfl⟩ := e1
        obtain rfl : row = [] := List.length_eq_zero_iff.1 HRL.out.symm
        clear hz hlen
        go_wp2_with (fail)
        refine (impl_goesOn_zero none none 0 0 _).mono ?_
        rintro e w6 ⟨rfl, hb6⟩
        have HI6 : Hid (Below w2.heap.size w2 w6) := HI5.out.2.trans (hb6.mono HI5.out.2.size)
        clear hb6
        go_wp2_with (fail)
        refine (impl_raise_zero none 0 high _).mono ?_
        rintro e w7 ⟨rfl, rfl⟩
        go_wp2
        go_roundw
        case rel =>
          refine ⟨k + 1, [], [], by omega, by go_num, rfl, BS.nil _ _, HI6.out, ?_, by simp⟩
          have h1 := HST.out.1
          have h2 : stepI R ([], []) low high = ([], []) := by
            unfold stepI
            rw [← HRW.out]
            simp [goesOnK, raise]
          rw [h2] at h1
          exact h1
        case measure => simp [intOf]; omega
      · simp only [Value.slice.injEq, true_and] at hsl
        obtain ⟨rfl, rfl⟩ := hsl
        have rowRB : ∀ ao c', (r ≠ 0 → ao = some ⟨g, p * 4, none⟩) → RB w5 (.slice ao r c') row := fun ao c' h => by
          have e : BS w5 w2.heap.size (.slice (some ⟨g, 0, none⟩) (p + r) nc) ((done ++ last) ++ row ++ []) := by rw [List.append_nil]; exact HI5.out.1
          have := BS.cut e (ao := ao) c' (fun hne => by rw [← HPQ.out.1]; exact h (fun e => hne (List.length_eq_zero_iff.1 (by rw [← HRL.out]; exact e))))
          rw [← HRL.out] at this
          exact this
        have hlq : last.length = p - q := by rw [HPQ.out.1, HPQ.out.2, List.length_append]; omega
        have underRB : ∀ ao c', (p ≠ q → ao = some ⟨g, q * 4, none⟩) → RB w5 (.slice ao (p - q) c') last := fun ao c' h => by
          have := BS.cut HI5.out.1 (ao := ao) c' (fun hne => by rw [← HPQ.out.2]; exact h (fun e => hne (List.length_eq_zero_iff.1 (by rw [hlq, e, Nat.sub_self]))))
          rw [hlq] at this
          exact this
        have HRR : Hid (∀ ao c', (r ≠ 0 → ao = some ⟨g, p * 4, none⟩) → RB w5 (.slice ao r c') row) := rowRB
        have HUR : Hid (∀ ao c', (p ≠ q → ao = some ⟨g, q * 4, none⟩) → RB w5 (.slice ao (p - q) c') last) := underRB
        have HRS : Hid (∀ ao c' w6, Below w5.heap.size w5 w6 → (p ≠ q → ao = some ⟨g, q * 4, none⟩) → Calls Try.prog 55 #[.slice ao (p - q) c', .int .i64 high] w6 fun e w' => e = .returned (.tuple #[]) ∧ BS w' w2.heap.size (.slice (some ⟨g, 0, none⟩) (p + r) nc) (done ++ raise last high ++ row) ∧ Below w2.heap.size w2 w') := fun ao c' w6 hb6 h => by
          have hs6 : BS w6 w2.heap.size (.slice (some ⟨g, 0, none⟩) (p + r) nc) (done ++ last ++ row) := HI5.out.1.below hb6
          have hb26 := HI5.out.2.trans (hb6.mono HI5.out.2.size)
          by_cases e : p = q
          · rw [e, Nat.sub_self]
            refine (impl_raise_zero ao c' high w6).mono ?_
            rintro e1 w7 ⟨rfl, rfl⟩
            obtain rfl : last = [] := List.length_eq_zero_iff.1 (by rw [hlq]; omega)
            rw [e] at hs6
            exact ⟨rfl, hs6, hb26⟩
          · rw [h e]
            refine (impl_raise g (p + r) nc (p - q) c' q w2.heap.size done last row high w6 hlq HPQ.out.2.symm (by omega) hb26.size hs6).mono ?_
            rintro e1 w7 ⟨rfl, h7, hb7⟩
            exact ⟨rfl, h7, hb26.trans hb7⟩
        have HLQ : Hid (last.length = p - q) := hlq
        have HPC : Hid (p + r ≤ nc) := hpc
        clear hgc hcm hcs hct hlen rowRB underRB hlq
        have hpc2 : p ≤ nc := by omega
        have hpc3 : (p : Int) ≤ (nc : Int) := by omega
        cases hgo : goesOnK row last with
        | true =>
          have HG : Hid (∀ va vb, RB w5 va row → RB w5 vb last → Calls Try.prog 54 #[va, vb] w5 fun e w' => e = .returned (.bool true) ∧ Below w5.heap.size w5 w') := fun va vb h1 h2 => by
            have := impl_goesOn (by rw [← HRL.out]; omega) h1 h2
            rw [hgo] at this
            exact this
          have HST2 : Hid (opI R (ys.drop (k + 1)) (done, raise last high) = T) := by
            have h1 := HST.out.1
            unfold stepI at h1
            rw [← HRW.out, if_pos hgo] at h1
            exact h1
          have HF : Hid (∀ w7, BS w7 w2.heap.size (.slice (some ⟨g, 0, none⟩) (p + r) nc) (done ++ raise last high ++ row) → BS w7 w2.heap.size (.slice (some ⟨g, 0, none⟩) p nc) (done ++ raise last high)) := fun w7 h7 => by
            have := BS.front h7
            have e : (done ++ raise last high).length = p := by rw [HPQ.out.1]; simp [raise]
            rw [e] at this
            exact this
          have HLN : Hid ((done ++ raise last high).length ≤ (k + 1) * 200000) := by
            have e : (done ++ raise last high).length = p := by rw [HPQ.out.1]; simp [raise]
            have h2 := HST.out.2
            exact Nat.le_trans (Nat.le_of_eq e) (Nat.le_trans h2 (Nat.mul_le_mul_right _ (Nat.le_succ k)))
          clear hgo
          by_cases hpq : p = q
          · subst hpq
            have HU9 : Hid (RB w5 (.slice (some ⟨g, 0, none⟩) 0 0) last) := by
              have := HUR.out (some ⟨g, 0, none⟩) 0 (fun h => absurd rfl h)
              rw [Nat.sub_self] at this
              exact this
            have HR9 : Hid (∀ w6, Below w5.heap.size w5 w6 → Calls Try.prog 55 #[.slice (some ⟨g, 0, none⟩) 0 0, .int .i64 high] w6 fun e w' => e = .returned (.tuple #[]) ∧ BS w' w2.heap.size (.slice (some ⟨g, 0, none⟩) (p + r) nc) (done ++ raise last high ++ row) ∧ Below w2.heap.size w2 w') := fun w6 h6 => by
              have := HRS.out (some ⟨g, 0, none⟩) 0 w6 h6 (fun h => absurd rfl h)
              rw [Nat.sub_self] at this
              exact this
            clear HUR HRS
            by_cases hr0 : r = 0
            all_goals
              first | subst hr0 | skip
              go_wp2_with (fail)
              refine (HG.out _ _ (by first | exact HRR.out _ _ (fun _ => rfl) | exact HRR.out _ _ (fun h => absurd rfl h)) HU9.out).mono ?_
              rintro e w6 ⟨rfl, hb6⟩
              have HB6 : Hid (Below w5.heap.size w5 w6) := hb6
              clear hb6
              go_wp2_with (fail)
              refine (HR9.out _ HB6.out).mono ?_
              rintro e w7 ⟨rfl, h7, hb7⟩
              have H7 : Hid (BS w7 w2.heap.size (.slice (some ⟨g, 0, none⟩) p nc) (done ++ raise last high) ∧ Below w2.heap.size w2 w7) := ⟨HF.out _ h7, hb7⟩
              clear h7 hb7
              go_wp2
              go_roundw
              case rel => exact ⟨k + 1, done, raise last high, by omega, by go_num, by rw [← HPQ.out.2], H7.out.1, H7.out.2, HST2.out, HLN.out⟩
              case measure => simp [intOf]; omega
          · by_cases hr0 : r = 0
            all_goals
              first | subst hr0 | skip
              go_wp2_with (fail)
              refine (HG.out _ _ (by first | exact HRR.out _ _ (fun _ => rfl) | exact HRR.out _ _ (fun h => absurd rfl h)) (HUR.out _ _ (fun _ => rfl))).mono ?_
              rintro e w6 ⟨rfl, hb6⟩
              have HB6 : Hid (Below w5.heap.size w5 w6) := hb6
              clear hb6
              go_wp2_with (fail)
              refine (HRS.out _ _ _ HB6.out (fun _ => rfl)).mono ?_
              rintro e w7 ⟨rfl, h7, hb7⟩
              have H7 : Hid (BS w7 w2.heap.size (.slice (some ⟨g, 0, none⟩) p nc) (done ++ raise last high) ∧ Below w2.heap.size w2 w7) := ⟨HF.out _ h7, hb7⟩
              clear h7 hb7
              go_wp2
              go_roundw
              case rel => exact ⟨k + 1, done, raise last high, by omega, by go_num, by rw [← HPQ.out.2], H7.out.1, H7.out.2, HST2.out, HLN.out⟩
              case measure => simp [intOf]; omega
        | false =>
          have HG : Hid (∀ va vb, RB w5 va row → RB w5 vb last → Calls Try.prog 54 #[va, vb] w5 fun e w' => e = .returned (.bool false) ∧ Below w5.heap.size w5 w') := fun va vb h1 h2 => by
            have := impl_goesOn (by rw [← HRL.out]; omega) h1 h2
            rw [hgo] at this
            exact this
          have HST2 : Hid (opI R (ys.drop (k + 1)) (done ++ last, row) = T) := by
            have h1 := HST.out.1
            unfold stepI at h1
            rw [← HRW.out, if_neg (by rw [hgo]; simp)] at h1
            exact h1
          have HLN : Hid ((done ++ last ++ row).length ≤ (k + 1) * 200000) := by
            have h2 := HST.out.2
            have e : (done ++ last ++ row).length = p + r := by rw [List.length_append, ← HPQ.out.1, ← HRL.out]
            exact Nat.le_trans (Nat.le_of_eq e) (Nat.le_trans (Nat.add_le_add h2 hrl) (Nat.le_of_eq (Nat.succ_mul k 200000).symm))
          clear hgo
          by_cases hr0 : r = 0 <;> by_cases hpq : p = q
          all_goals
            first | subst hr0 | skip
            first | subst hpq | skip
            go_wp2_with (fail)
            refine (HG.out _ _ (by first | exact HRR.out _ _ (fun _ => rfl) | exact HRR.out _ _ (fun h => absurd rfl h)) (by first | exact HUR.out _ _ (fun _ => rfl) | (have := HUR.out (some ⟨g, 0, none⟩) 0 (fun h => absurd rfl h); rw [Nat.sub_self] at this; exact this))).mono ?_
            rintro e w6 ⟨rfl, hb6⟩
            have HB6 : Hid (Below w5.heap.size w5 w6) := hb6
            clear hb6
            go_wp2
            go_roundw
            case rel => exact ⟨k + 1, done ++ last, row, by omega, by go_num, by rw [← HPQ.out.1], HI5.out.1.below HB6.out, HI5.out.2.trans (HB6.out.mono HI5.out.2.size), HST2.out, HLN.out⟩
            case measure => simp [intOf]; omega
    · have hfin := opI_end (R := R) (st := (done, last)) (show ys.length ≤ k + 1 by rw [← HNY.out]; omega)
      rw [hI.out.op] at hfin
      have HTF : Hid (T = done ++ last) := hfin
      have HBF : Hid (BS wr w2.heap.size (.slice oa (done ++ last).length oc) (done ++ last) ∧ Below w.heap.size w wr) := ⟨hI.out.bs, HI2.out.2.trans (hI.out.bl.mono HI2.out.2.size)⟩
      have hv2 := hI.out.bs.2
      have hp8 : (done ++ last).length ≤ 40000200000 := by have := hI.out.len; have h2 : k * 200000 ≤ 200000 * 200000 := Nat.mul_le_mul_right _ (by omega); omega
      obtain ⟨p, hp⟩ : ∃ p, p = (done ++ last).length := ⟨_, rfl⟩
      have HP : Hid (p = (done ++ last).length) := hp
      rw [← hp] at HBF hv2 hp8 ⊢
      have b2 : ¬ (k : Int) + 1 < (n : Int) := by omega
      clear hfin hI hp
      rcases hv2 with ⟨hnil, hz⟩ | ⟨g, cap, cur, hsl, hBg2, hgc, hpc, hcm, hcs, hct⟩
      · simp only [Value.slice.injEq] at hnil
        obtain ⟨rfl, rfl, rfl⟩ := hnil
        clear hz
        go_wp2
        go_returns
        refine ⟨_, rfl, ⟨none, 0, ⟨0, by rw [HTF.out, ← HP.out]; exact Nat.le_refl _⟩, ?_, ?_⟩, HBF.out.2⟩
        · show _ = Value.slice none T.length 0; rw [HTF.out, ← HP.out]; rfl
        · rw [HTF.out, ← HP.out]; exact HBF.out.1.low HI2.out.2.size
      · simp only [Value.slice.injEq, true_and] at hsl
        obtain ⟨rfl, rfl⟩ := hsl
        have hpc3 : (p : Int) ≤ (oc : Int) := by omega
        clear hgc hcm hcs hct
        by_cases hp0 : p = 0
        · subst hp0
          go_wp2
          go_returns
          refine ⟨_, rfl, ⟨some ⟨g, 0, none⟩, oc, ⟨0, by rw [HTF.out, ← HP.out]; exact Nat.le_refl _⟩, ?_, ?_⟩, HBF.out.2⟩
          · show _ = Value.slice (some ⟨g, 0, none⟩) T.length 0; rw [HTF.out, ← HP.out]; rfl
          · rw [HTF.out, ← HP.out]; exact HBF.out.1.low HI2.out.2.size
        · go_wp2
          go_returns
          refine ⟨_, rfl, ⟨some ⟨g, 0, none⟩, oc, ⟨p, by rw [HTF.out, ← HP.out]; exact Nat.le_refl _⟩, ?_, ?_⟩, HBF.out.2⟩
          · show _ = Value.slice (some ⟨g, 0, none⟩) T.length p; rw [HTF.out, ← HP.out]; rfl
          · rw [HTF.out, ← HP.out]; exact HBF.out.1.low HI2.out.2.size

end Go.Proofs.Ytmpbcdolikafpaa
