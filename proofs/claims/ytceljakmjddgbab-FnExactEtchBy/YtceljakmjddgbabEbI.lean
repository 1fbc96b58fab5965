/- Proved here: etchedLayers of the program. -/
import Derived.Test.YtceljakmjddgbabEbS
namespace Go.Proofs.Ytceljakmjddgbab
open Go.RowKit Go.Shelf
set_option linter.unusedVariables false
set_option linter.unusedSimpArgs false
attribute [local go_sem] Oper.semAt_some

set_option maxRecDepth 100000 in
set_option maxHeartbeats 12800000 in
theorem impl_etched {W : World} {ua : Option Addr} {un uc rg ro rc : Nat} {c : List Flm} {ra : List Int} {t : Int} (hc : GC c) (hra : ∀ f, 0 ≤ raO ra f ∧ raO ra f ≤ 1000) (ht : 0 ≤ t ∧ t ≤ 100000) (hrg : rg < W.heap.size) (hrc : ∀ k, k < 12 → W.cell? ⟨rg, ro + k, none⟩ = some (.int .i64 (ra.getD k 0))) (h : RG 2 flC W (.slice ua un uc) c) :
    Calls Try.prog 48 #[.slice ua un uc, .slice (some ⟨rg, ro, none⟩) 12 rc, .int .i64 t] W fun e w' => ∃ u, e = .returned u ∧ OG 88 1 layC w' W.heap.size u (ebL c ra t) ∧ Below W.heap.size W w' := by
  obtain ⟨n, hn⟩ : ∃ n, n = un := ⟨_, rfl⟩
  subst hn
  have HN : Hid (n = c.length ∧ GC c) := ⟨h.len, hc⟩
  have hn24 : n ≤ 24 := by rw [h.len]; exact hc.len
  have H : Hid (RG 2 flC W (.slice ua n uc) c) := h
  have HWH : Hid (∀ V, Below W.heap.size W V → Calls Try.prog 47 #[.slice ua n uc] V fun e w' => e = .returned (.slice (some ⟨V.heap.size, 0, none⟩) n n) ∧ OG 88 1 layC w' V.heap.size (.slice (some ⟨V.heap.size, 0, none⟩) n n) (whoL c) ∧ Below V.heap.size V w') := fun V hV => by
    have h1 := H.out.below hV
    rw [HN.out.1] at h1 ⊢
    exact impl_whole (Nat.le_trans HN.out.2.len (by omega)) h1
  have HRC : Hid (rg < W.heap.size ∧ ∀ k, k < 12 → W.cell? ⟨rg, ro + k, none⟩ = some (.int .i64 (ra.getD k 0))) := ⟨hrg, hrc⟩
  have HRA : Hid (∀ f, 0 ≤ raO ra f ∧ raO ra f ≤ 1000) := hra
  have HT : Hid (0 ≤ t ∧ t ≤ 100000) := ht
  clear h hc hrg hrc hra ht
  refine (callsIn_wide (n := 4)).1 ?_
  refine callsIn_of_wp_marks Try.func48 rfl trivial ?_ rfl
  simp only [Try.ntmps48, List.size_toArray, List.length_cons, List.length_nil, Nat.reduceAdd, Nat.reduceSub, Array.replicate_succ, Array.replicate_zero, List.push_toArray, List.append_toArray, List.nil_append, List.cons_append]
  gi_wp2_with (fail)
  refine ⟨trivial, (callsIn_wide.2 (HWH.out _ (by (repeat' (first | (with_reducible exact Below.refl _ _) | (with_reducible assumption) | (with_reducible refine Below.setCell ?_ ?_ _) | (with_reducible refine Below.alloc ?_ ?_ _) | (with_reducible refine below_drewN ?_ _) | (with_reducible refine Below.drew ?_) | (with_reducible exact Nat.le_refl _) | omega | (simp; done) | (simp; omega)))))).mono ?_⟩
  rintro e w1 ⟨rfl, ho, hb⟩
  have hsz : W.heap.size + 2 < w1.heap.size := by
    have h1 := (World.ownsRow.lt ho _ rfl).2
    simpa using h1
  have kk4 := (hb.block W.heap.size (by simp <;> omega)).trans ((Below.heap_alloc _ _ _ (by simp)).trans (heap_alloc_new W _))
  have kk5 := (hb.block (W.heap.size + 1) (by simp)).trans (kn_at1e W _ _)
  have hbW : Below W.heap.size W w1 := (show Below W.heap.size W _ from by (repeat' (first | (with_reducible exact Below.refl _ _) | (with_reducible assumption) | (with_reducible refine Below.setCell ?_ ?_ _) | (with_reducible refine Below.alloc ?_ ?_ _) | (with_reducible refine below_drewN ?_ _) | (with_reducible refine Below.drew ?_) | (with_reducible exact Nat.le_refl _) | omega | (simp; done) | (simp; omega)))).trans (hb.mono (by simp; omega))
  clear HWH
  gi_wp2_with (fail)
  refine ⟨trivial, (callsIn_wide.2 (bw_fn _ _ _ _)).mono ?_⟩
  rintro e w2 ⟨rfl, rfl⟩
  obtain ⟨k7, hk7⟩ : ∃ k, k = w1.heap.size := ⟨_, rfl⟩
  obtain ⟨V, hV⟩ : ∃ V, V = (w1.alloc (.cells #[.slice (some ⟨W.heap.size + 1 + 1, 0, none⟩) n n] 69)).alloc (.cells #[.slice ua n uc] 62) := ⟨_, rfl⟩
  have hVs : V.heap.size = k7 + 2 := by rw [hV, hk7]; simp
  have hV1 : Below w1.heap.size w1 V := by rw [hV]; (repeat' (first | (with_reducible exact Below.refl _ _) | (with_reducible assumption) | (with_reducible refine Below.setCell ?_ ?_ _) | (with_reducible refine Below.alloc ?_ ?_ _) | (with_reducible refine below_drewN ?_ _) | (with_reducible refine Below.drew ?_) | (with_reducible exact Nat.le_refl _) | omega | (simp; done) | (simp; omega)))
  have HE0 : Hid (EB W n rg ro rc k7 (whoL c) t V) := by
    refine ⟨(hV1.block _ (by omega)).trans kk4, (hV1.block _ (by omega)).trans kk5, ?_, ?_, hbW.trans (hV1.mono hbW.size), by omega, by omega⟩
    · rw [hV, hk7]; exact (Below.heap_alloc _ _ _ (by simp)).trans (heap_alloc_new w1 _)
    · have h1 := ho.below hV1
      simpa using h1
  have HBs : Hid (V.heap[k7 + 1]? = some (.cells #[.slice ua n uc] 62)) := by
    rw [hV, hk7]; exact kn_at1e w1 _ _
  gi_wp2_with (fail)
  rw [← hV, ← hk7]
  have HV : Hid (V.heap.size = k7 + 2 ∧ W.heap.size ≤ V.heap.size) := ⟨hVs, by omega⟩
  clear hV hk7 ho hb kk4 kk5 hbW hV1 hsz hVs
  refine wpIn_rangeFunc_ownH (α := Bw c) (w := V) rfl (by omega) (gf := 86) (lb := #[.pointer (some ⟨k7 + 1, 0, none⟩)]) rfl trivial (enters_of Try.func86 (by kernel_rfl) rfl)
    (bw_stops Fence.wide 3 trivial rfl (by omega) (k7 + 1) W.heap.size uc n ua c HN.out.1 (by omega) V HBs.out HV.out.2 (fun W' h' => H.out.below (HE0.out.bl.trans h')))
    (fun h k => bwK_t h k) ?kb (Below.refl _ _) (fun _ => rfl)
    (fun pre wr => ∃ L t', Hid (EB W n rg ro rc k7 L t' wr ∧ L.length = c.length ∧ EI c ra t pre L t') ∧ 0 ≤ t' ∧ t' ≤ 100000)
    (fun cc pre wr => cc = .exit 0 ∧ ∃ L t', Hid (EB W n rg ro rc k7 L t' wr ∧ ∀ k, k ≤ c.length → pre = bwL c k → ebL c ra t = L))
    ?hI ?hIx ?h0
    (fun x a' wr => ∃ Bx, Hid (k7 + 2 ≤ Bx ∧ wr.heap[Bx]? = some (.cells #[.int .i64 x.1.2.m, .int .i64 x.1.2.t] 76)) ∧ a' = { tmps := #[.slice ua n uc, .slice (some ⟨rg, ro, none⟩) 12 rc, .int .i64 t, undef, .pointer (some ⟨W.heap.size, 0, none⟩), .pointer (some ⟨W.heap.size + 1, 0, none⟩), .slice none 0 0, .pointer (some ⟨k7, 0, none⟩), .int .i64 (x.1.1 : Int), .pointer (some ⟨Bx, 0, none⟩), undef, .slice ua n uc, .slice (some ⟨W.heap.size + 1 + 1, 0, none⟩) n n, .slice ua n uc, .func (Fn.func 86) #[] #[.pointer (some ⟨k7 + 1, 0, none⟩)], .int .i64 (x.1.1 : Int), .agg #[.int .i64 x.1.2.m, .int .i64 x.1.2.t], undef, undef, undef, undef, undef, undef, undef, undef, undef, undef, undef, undef, undef, undef, undef, undef, undef, undef, undef, undef, undef, undef, undef, undef, undef, undef, undef, undef, undef, undef], defers := [] })
    ?hAx ?assign ?body ?done ?stop
  case kb =>
    intro A l o o' hl ho h1 h2
    exact ⟨belowK_b (w := V) HV.out.2 A l o o' hl ho h1 h2, World.putObj_heap_other (by have := HV.out.1; omega)⟩
  case hI =>
    rintro pre A B row ⟨L, t', hx, h1, h2⟩ hg hr
    exact ⟨L, t', ⟨hx.out.1.own (by have := HV.out.1; omega) hg hr, hx.out.2⟩, h1, h2⟩
  case hIx =>
    rintro cc pre A B row ⟨e, L, t', hx⟩ hg hr
    exact ⟨e, L, t', hx.out.1.own (by have := HV.out.1; omega) hg hr, hx.out.2⟩
  case h0 =>
    refine ⟨whoL c, t, ⟨HE0.out, whoL_len c, ?_⟩, HT.out.1, HT.out.2⟩
    intro k hk e
    have h1 := congrArg List.length e
    rw [bwL_len hk] at h1
    have h2 : k = 0 := by simpa using h1.symm
    subst h2
    rfl
  case hAx =>
    rintro x a' _ A B row ⟨Bx, hx, rfl⟩ hg hr
    refine ⟨Bx, ⟨hx.out.1, ?_⟩, rfl⟩
    exact (grownBy_keeps_cells hg (fun r e => (hr r e).2) hx.out.2 rfl).trans hx.out.2
  case assign =>
    rintro l pre x A K ⟨L, t', hx, h1, h2⟩ hK
    obtain ⟨A2, hA2⟩ : ∃ A2, A2 = A.alloc (.cells #[.int .i64 x.1.2.m, .int .i64 x.1.2.t] 76) := ⟨_, rfl⟩
    have HA : Hid (RS W k7 A A2 ∧ EB W n rg ro rc k7 L t' A2 ∧ A2.heap[A.heap.size]? = some (.cells #[.int .i64 x.1.2.m, .int .i64 x.1.2.t] 76) ∧ k7 + 2 ≤ A.heap.size) := by
      have hz := hx.out.1.sz
      have hb2 : Below A.heap.size A A2 := by rw [hA2]; (repeat' (first | (with_reducible exact Below.refl _ _) | (with_reducible assumption) | (with_reducible refine Below.setCell ?_ ?_ _) | (with_reducible refine Below.alloc ?_ ?_ _) | (with_reducible refine below_drewN ?_ _) | (with_reducible refine Below.drew ?_) | (with_reducible exact Nat.le_refl _) | omega | (simp; done) | (simp; omega)))
      exact ⟨RS.below hx.out.1.bl.size (by omega) hb2, hx.out.1.below hb2, by rw [hA2]; exact heap_alloc_new _ _, hz⟩
    unfold bwE
    gi_wp2
    rw [← hA2]
    refine hK _ _ ?_ HA.out.1.bw ⟨L, t', ⟨HA.out.2.1, hx.out.2⟩, h1, h2⟩ ⟨A.heap.size, ⟨HA.out.2.2.2, HA.out.2.2.1⟩, rfl⟩
    rw [HV.out.1]; exact HA.out.1.kf
  case body =>
    rintro l pre ⟨⟨i, ⟨fm, ft⟩⟩, hil, hif⟩ a' A hl ⟨rr, hrr⟩ ⟨L, t', hx, ht0, ht1⟩ ⟨Bx, hBx, rfl⟩ hlt
    dsimp only at hil hif hBx ⊢
    clear hl hrr hlt
    have hmb := HN.out.2.m hil
    have htb := HN.out.2.t hil
    rw [← hif] at hmb htb
    dsimp only at hmb htb
    obtain ⟨q, hq⟩ : ∃ q : Nat, q = (fm - 1).toNat := ⟨_, rfl⟩
    have hq12 : q < 12 := by omega
    obtain ⟨r, hr0⟩ : ∃ r, r = raO ra ⟨fm, ft⟩ := ⟨_, rfl⟩
    have hrb := HRA.out ⟨fm, ft⟩
    rw [← hr0] at hrb
    have c4 : A.cell? ⟨rg, ro + q, none⟩ = some (.int .i64 r) := by
      rw [(hx.out.1.bl.cell (p := ⟨rg, ro + q, none⟩) HRC.out.1), HRC.out.2 q hq12, hr0, hq]; rfl
    have c5 : rg < A.heap.size := Nat.lt_of_lt_of_le HRC.out.1 hx.out.1.bl.size
    have s4 := cellOf hx.out.1.k4 0 rfl
    have l4 := ltOf hx.out.1.k4
    have x0 := cellOf hBx.out.2 0 rfl
    have x1 := ltOf hBx.out.2
    have k1 : IntKind.i64.wrap (fm - 1) = (q : Int) := by rw [IntKind.wrap_i64]; omega
    have k2 : fm - 1 = (q : Int) := by omega
    have k3 : (0 : Int) ≤ (q : Int) := by omega
    have k4 : (q : Int) < 12 := by omega
    have HX : Hid (EB W n rg ro rc k7 L t' A ∧ L.length = c.length ∧ EI c ra t pre L t') := hx
    have HR : Hid (r = raO ra ⟨fm, ft⟩ ∧ i < c.length ∧ (⟨fm, ft⟩ : Flm) = fat c i) := ⟨hr0, hil, hif⟩
    have HLN : Hid (L.length = c.length) := hx.out.2.1
    clear hx hr0 hq
    gi_wp2_with (fail)
    clear s4 l4 x0 x1 c4 c5 k1 k2 k3 k4
    obtain ⟨P0, hP0⟩ : ∃ p : Int, p = r * t' := ⟨_, rfl⟩
    have hP1 : 0 ≤ P0 := by rw [hP0]; exact Int.mul_nonneg hrb.1 ht0
    have hP2 : P0 ≤ 1000 * 100000 := by rw [hP0]; exact Int.mul_le_mul hrb.2 ht1 ht0 (by omega)
    have hmul : IntKind.i64.wrap (r * t') = P0 := by rw [← hP0, IntKind.wrap_i64]; omega
    have HP0 : Hid (P0 = raO ra ⟨fm, ft⟩ * t') := by unfold Hid; rw [hP0, HR.out.1]
    have hD : Below A.heap.size A A.drew := (Below.refl _ _).drew
    have b0 : (0 : Int) ≤ (i : Int) := by omega
    have b1 : (i : Int) < (n : Int) := by have := HR.out.2.1; have := HN.out.1; omega
    refine region_round (S := fun w' => w'.heap[k7]? = some (.cells #[.slice (some ⟨W.heap.size + 1 + 1, 0, none⟩) n n] 69) ∧ w'.heap[W.heap.size + 1]? = some (.cells #[.int .i64 t'] 2) ∧ w'.heap[Bx]? = some (.cells #[.int .i64 fm, .int .i64 ft] 76)) (by kernel_rfl) (by kernel_rfl) ⟨HX.out.1.kl, HX.out.1.k5, hBx.out.2⟩ (fun hS => ?_) (fun _ _ h => h)
    refine fl_takeA (i := 0) (d := 23) (v := .slice (some ⟨W.heap.size + 1 + 1, 0, none⟩) n n) rfl rfl rfl (by kernel_rfl) (by kernel_rfl) (by kernel_rfl) hS ?_ ?_
    · intro w' hk; obtain ⟨hk1, hk2, hk3⟩ := hk; have y0 := cellOf hk1 0 rfl; have y1 := ltOf hk1; have y2 := cellOf hk2 0 rfl; have y3 := ltOf hk2; have y4 := cellOf hk3 0 rfl; have y5 := cellOf hk3 1 rfl; have y6 := ltOf hk3; go_simp
    simp only [Act.put, List.setIfInBounds_toArray, List.set_cons_zero, List.set_cons_succ]
    refine fl_takeA (i := 1) (d := 24) (v := .int .i64 i) rfl rfl rfl (by kernel_rfl) (by kernel_rfl) (by kernel_rfl) hS ?_ ?_
    · intro w' hk; obtain ⟨hk1, hk2, hk3⟩ := hk; have y0 := cellOf hk1 0 rfl; have y1 := ltOf hk1; have y2 := cellOf hk2 0 rfl; have y3 := ltOf hk2; have y4 := cellOf hk3 0 rfl; have y5 := cellOf hk3 1 rfl; have y6 := ltOf hk3; go_simp
    simp only [Act.put, List.setIfInBounds_toArray, List.set_cons_zero, List.set_cons_succ]
    refine fl_takeA (i := 2) (d := 25) (v := .agg #[.int .i64 fm, .int .i64 ft]) rfl rfl rfl (by kernel_rfl) (by kernel_rfl) (by kernel_rfl) hS ?_ ?_
    · intro w' hk; obtain ⟨hk1, hk2, hk3⟩ := hk; have y0 := cellOf hk1 0 rfl; have y1 := ltOf hk1; have y2 := cellOf hk2 0 rfl; have y3 := ltOf hk2; have y4 := cellOf hk3 0 rfl; have y5 := cellOf hk3 1 rfl; have y6 := ltOf hk3; go_simp
    simp only [Act.put, List.setIfInBounds_toArray, List.set_cons_zero, List.set_cons_succ]
    refine fl_takeA (i := 3) (d := 26) (v := .int .i64 r) rfl rfl rfl (by kernel_rfl) (by kernel_rfl) (by kernel_rfl) hS ?_ ?_
    · intro w' hk; obtain ⟨hk1, hk2, hk3⟩ := hk; have y0 := cellOf hk1 0 rfl; have y1 := ltOf hk1; have y2 := cellOf hk2 0 rfl; have y3 := ltOf hk2; have y4 := cellOf hk3 0 rfl; have y5 := cellOf hk3 1 rfl; have y6 := ltOf hk3; go_simp
    simp only [Act.put, List.setIfInBounds_toArray, List.set_cons_zero, List.set_cons_succ]
    refine fl_takeA (i := 4) (d := 27) (v := .int .i64 t') rfl rfl rfl (by kernel_rfl) (by kernel_rfl) (by kernel_rfl) hS ?_ ?_
    · intro w' hk; obtain ⟨hk1, hk2, hk3⟩ := hk; have y0 := cellOf hk1 0 rfl; have y1 := ltOf hk1; have y2 := cellOf hk2 0 rfl; have y3 := ltOf hk2; have y4 := cellOf hk3 0 rfl; have y5 := cellOf hk3 1 rfl; have y6 := ltOf hk3; go_simp
    simp only [Act.put, List.setIfInBounds_toArray, List.set_cons_zero, List.set_cons_succ]
    refine fl_takeA (i := 5) (d := 28) (v := .int .i64 P0) rfl rfl rfl (by kernel_rfl) (by kernel_rfl) (by kernel_rfl) hS ?_ ?_
    · intro w' hk; obtain ⟨hk1, hk2, hk3⟩ := hk; have y0 := cellOf hk1 0 rfl; have y1 := ltOf hk1; have y2 := cellOf hk2 0 rfl; have y3 := ltOf hk2; have y4 := cellOf hk3 0 rfl; have y5 := cellOf hk3 1 rfl; have y6 := ltOf hk3; go_simp; try rw [hmul]
    simp only [Act.put, List.setIfInBounds_toArray, List.set_cons_zero, List.set_cons_succ]
    refine wpAnyH_all (rs := [6]) (by kernel_rfl) (by simp) ?_
    intro iz hi
    obtain rfl : iz = 6 := by simpa using hi
    clear hi
    refine op_call (d := 29) rfl rfl rfl (by go_simp) ((impl_less fm ft P0 _).mono ?_)
    rintro e y ⟨rfl, hby⟩
    have hAy : Below A.heap.size A y := hD.trans hby
    have hEy := HX.out.1.below hAy
    have hBy : y.heap[Bx]? = some (.cells #[.int .i64 fm, .int .i64 ft] 76) := (hAy.block _ (ltOf hBx.out.2)).trans hBx.out.2
    refine ⟨_, rfl, ⟨hEy.kl, hEy.k5, hBy⟩, ?_⟩
    simp only [Act.put, List.setIfInBounds_toArray, List.set_cons_zero, List.set_cons_succ]
    refine wpAnyH_all (rs := [7]) (by kernel_rfl) (by simp) ?_
    intro iz hi
    obtain rfl : iz = 7 := by simpa using hi
    clear hi
    refine op_val (d := 30) (v := .pointer (some ⟨W.heap.size + 1 + 1, i, none⟩)) (w' := y) rfl rfl rfl (by go_simp; try rfl) ?_
    simp only [Act.put, List.setIfInBounds_toArray, List.set_cons_zero, List.set_cons_succ]
    refine ⟨⟨hEy.kl, hEy.k5, hBy⟩, ?_⟩
    obtain ⟨e0, e1, e2⟩ := og_layat hEy.og (show i < L.length by rw [HLN.out]; exact HR.out.2.1)
    obtain ⟨cv, hcv⟩ : ∃ x, x = layV (lat L i) := ⟨_, rfl⟩
    rw [← hcv] at e0
    obtain ⟨LV, hLV⟩ : ∃ v, v = layV (lessL ⟨fm, ft⟩ P0) := ⟨_, rfl⟩
    obtain ⟨LT, LP, hLT⟩ : ∃ a b, LV = .iface a b := ⟨_, _, hLV⟩
    obtain ⟨Y1, hY1⟩ : ∃ Y1, Y1 = y.setCell ⟨W.heap.size + 1 + 1, i, none⟩ LV := ⟨_, rfl⟩
    have HY1 : Hid (EB W n rg ro rc k7 (L.set i (lessL ⟨fm, ft⟩ P0)) t' Y1 ∧ RS W k7 A Y1 ∧ Y1.heap[Bx]? = some (.cells #[.int .i64 fm, .int .i64 ft] 76)) := by
      have hlo := hEy.lo
      have hsz := HX.out.1.sz
      rw [hY1, hLV]
      refine ⟨hEy.setL i _, (RS.below HX.out.1.bl.size (by omega) hAy).trans (RS.set (by omega) (by omega)), ?_⟩
      rw [heap_setCell_other _ _ _ _ (by have := hBx.out.1; simp; omega)]; exact hBy
    rw [← hLV]
    clear hcv hLV
    subst hLT
    refine wpAnyH_all (rs := [8]) (by kernel_rfl) (by simp) ?_
    intro iz hi
    obtain rfl : iz = 8 := by simpa using hi
    clear hi
    refine op_skipN (w' := y.setCell ⟨W.heap.size + 1 + 1, i, none⟩ (.iface LT LP)) rfl rfl (by go_simp) ?_
    rw [← hY1]
    refine ⟨⟨HY1.out.1.kl, HY1.out.1.k5, HY1.out.2.2⟩, wpAnyH_done (by kernel_rfl) (NoPanic.normal (show Exit.then _ _ .normal _ _ from ?_)) _⟩
    clear hY1 e0 e1 e2 hEy hBy hAy hby hS hD
    have z5 := cellOf HY1.out.1.k5 0 rfl
    have z5l := ltOf HY1.out.1.k5
    have zb := cellOf HY1.out.2.2 1 rfl
    have zbl := ltOf HY1.out.2.2
    by_cases hlt : P0 < ft
    · have hlt' : r * t' < ft := by rw [← hP0]; exact hlt
      clear hP0
      gi_wp2
      refine ⟨by rw [HV.out.1]; exact HY1.out.2.1.kf, rfl, _, _, HY1.out.1, ?_⟩
      rw [HP0.out]
      exact EI.stop (x := ⟨(i, ⟨fm, ft⟩), hil, hif⟩) HX.out.2.2 (by rw [← HP0.out]; exact hlt)
    have hlt9 : ¬ r * t' < ft := by rw [← hP0]; exact hlt
    have hge : ft ≤ P0 := by omega
    have hge9 : ft ≤ r * t' := by rw [← hP0]; exact hge
    obtain ⟨nd, hnd⟩ : ∃ x, x = neO ra ⟨fm, ft⟩ := ⟨_, rfl⟩
    have hne := ne_le (t := t') (HRA.out ⟨fm, ft⟩).1 htb.1 (by rw [← HP0.out]; exact hlt)
    rw [← hnd, ← HR.out.1] at hne
    have HND : Hid (nd = neO ra ⟨fm, ft⟩) := hnd
    have hdiv : Int.tdiv (ft + r - 1) r = nd := by
      rw [hnd, Int.tdiv_eq_ediv_of_nonneg (by omega), neO, ← HR.out.1]
    have hw1 : IntKind.i64.wrap (ft + r) = ft + r := by rw [IntKind.wrap_i64]; omega
    have hw2 : IntKind.i64.wrap (ft + r - 1) = ft + r - 1 := by rw [IntKind.wrap_i64]; omega
    have hw3 : IntKind.i64.wrap nd = nd := by rw [IntKind.wrap_i64]; omega
    have hw4 : IntKind.i64.wrap (t' - nd) = t' - nd := by rw [IntKind.wrap_i64]; omega
    have hr9 : ¬ r = 0 := by omega
    have hr8 : (r == 0) = false := by simpa using hr9
    clear hP0 hnd
    gi_wp2_with (fail)
    have hD : Below Y1.heap.size Y1 Y1.drew := (Below.refl _ _).drew
    have hED := HY1.out.1.below hD
    refine region_round (S := fun w' => w'.heap[Bx]? = some (.cells #[.int .i64 fm, .int .i64 ft] 76)) (by kernel_rfl) (by kernel_rfl) HY1.out.2.2 (fun hS => ?_) (fun _ _ h => h)
    refine fl_takeA (i := 1) (d := 38) (v := .pointer (some ⟨Bx, 1, none⟩)) rfl rfl rfl (by kernel_rfl) (by kernel_rfl) (by kernel_rfl) hS ?_ ?_
    · intro w' hk; have y4 := cellOf hk 0 rfl; have y5 := cellOf hk 1 rfl; have y6 := ltOf hk; go_simp
    simp only [Act.put, List.setIfInBounds_toArray, List.set_cons_zero, List.set_cons_succ]
    refine fl_takeA (i := 2) (d := 39) (v := .int .i64 ft) rfl rfl rfl (by kernel_rfl) (by kernel_rfl) (by kernel_rfl) hS ?_ ?_
    · intro w' hk; have y4 := cellOf hk 0 rfl; have y5 := cellOf hk 1 rfl; have y6 := ltOf hk; go_simp
    simp only [Act.put, List.setIfInBounds_toArray, List.set_cons_zero, List.set_cons_succ]
    refine fl_takeA (i := 3) (d := 40) (v := .int .i64 r) rfl rfl rfl (by kernel_rfl) (by kernel_rfl) (by kernel_rfl) hS ?_ ?_
    · intro w' hk; have y4 := cellOf hk 0 rfl; have y5 := cellOf hk 1 rfl; have y6 := ltOf hk; go_simp
    simp only [Act.put, List.setIfInBounds_toArray, List.set_cons_zero, List.set_cons_succ]
    refine fl_takeA (i := 4) (d := 41) (v := .int .i64 (ft + r)) rfl rfl rfl (by kernel_rfl) (by kernel_rfl) (by kernel_rfl) hS ?_ ?_
    · intro w' hk; have y4 := cellOf hk 0 rfl; have y5 := cellOf hk 1 rfl; have y6 := ltOf hk; go_simp; try rw [hw1]
    simp only [Act.put, List.setIfInBounds_toArray, List.set_cons_zero, List.set_cons_succ]
    refine fl_takeA (i := 5) (d := 42) (v := .int .i64 (ft + r - 1)) rfl rfl rfl (by kernel_rfl) (by kernel_rfl) (by kernel_rfl) hS ?_ ?_
    · intro w' hk; have y4 := cellOf hk 0 rfl; have y5 := cellOf hk 1 rfl; have y6 := ltOf hk; go_simp; try rw [hw2]
    simp only [Act.put, List.setIfInBounds_toArray, List.set_cons_zero, List.set_cons_succ]
    refine fl_takeA (i := 6) (d := 43) (v := .int .i64 r) rfl rfl rfl (by kernel_rfl) (by kernel_rfl) (by kernel_rfl) hS ?_ ?_
    · intro w' hk; have y4 := cellOf hk 0 rfl; have y5 := cellOf hk 1 rfl; have y6 := ltOf hk; go_simp
    simp only [Act.put, List.setIfInBounds_toArray, List.set_cons_zero, List.set_cons_succ]
    refine fl_takeA (i := 7) (d := 44) (v := .int .i64 nd) rfl rfl rfl (by kernel_rfl) (by kernel_rfl) (by kernel_rfl) hS ?_ ?_
    · intro w' hk; have y4 := cellOf hk 0 rfl; have y5 := cellOf hk 1 rfl; have y6 := ltOf hk; go_simp; try simp [hdiv, hw3, hr9]
    simp only [Act.put, List.setIfInBounds_toArray, List.set_cons_zero, List.set_cons_succ]
    refine wpAnyH_all (rs := [0]) (by kernel_rfl) (by simp) ?_
    intro iz hi
    obtain rfl : iz = 0 := by simpa using hi
    clear hi
    have q0 := cellOf hED.k5 0 rfl
    have q1 := frozOf hED.k5 0
    have q2 := ltOf hED.k5
    refine op_val (d := 37) (v := .int .i64 t') (w' := Y1.drew) rfl rfl rfl (by go_simp; try rfl) ?_
    simp only [Act.put, List.setIfInBounds_toArray, List.set_cons_zero, List.set_cons_succ]
    refine ⟨hS, ?_⟩
    refine wpAnyH_all (rs := [8]) (by kernel_rfl) (by simp) ?_
    intro iz hi
    obtain rfl : iz = 8 := by simpa using hi
    clear hi
    refine op_val (d := 45) (v := .int .i64 (t' - nd)) (w' := Y1.drew) rfl rfl rfl (by go_simp; try rw [hw4]) ?_
    simp only [Act.put, List.setIfInBounds_toArray, List.set_cons_zero, List.set_cons_succ]
    refine ⟨hS, ?_⟩
    refine wpAnyH_all (rs := [9]) (by kernel_rfl) (by simp) ?_
    intro iz hi
    obtain rfl : iz = 9 := by simpa using hi
    clear hi
    refine op_skipN (w' := Y1.drew.setCell ⟨W.heap.size + 1, 0, none⟩ (.int .i64 (t' - nd))) rfl rfl (by go_simp; try rfl) ?_
    have hlo := HX.out.1.lo
    have hsz := HX.out.1.sz
    have HF : Hid (EB W n rg ro rc k7 (L.set i (lessL ⟨fm, ft⟩ P0)) (t' - nd) (Y1.drew.setCell ⟨W.heap.size + 1, 0, none⟩ (.int .i64 (t' - nd))) ∧ RS W k7 A (Y1.drew.setCell ⟨W.heap.size + 1, 0, none⟩ (.int .i64 (t' - nd)))) :=
      ⟨hED.setT, (HY1.out.2.1.trans (RS.below HY1.out.1.bl.size (by have := HY1.out.1.sz; omega) hD)).trans (RS.set (by omega) (by omega))⟩
    refine ⟨?_, wpAnyH_done (by kernel_rfl) (NoPanic.normal (show Exit.then _ _ .normal _ _ from ?_)) _⟩
    · show (Y1.drew.setCell ⟨W.heap.size + 1, 0, none⟩ (.int .i64 (t' - nd))).heap[Bx]? = _
      rw [heap_setCell_other _ _ _ _ (by have := hBx.out.1; simp; omega)]; exact hS
    clear hS hED q0 q1 q2 z5 z5l zb zbl hD
    gi_wp2
    refine ⟨by rw [HV.out.1]; exact HF.out.2.kf, HF.out.2.bw, _, _, ⟨HF.out.1, by rw [List.length_set]; exact HLN.out, ?_⟩, by omega, by omega⟩
    rw [HP0.out, HND.out]
    exact EI.go (x := ⟨(i, ⟨fm, ft⟩), hil, hif⟩) HX.out.2.2 (by rw [← HP0.out]; show ¬ P0 < ft; omega)
  case done =>
    rintro D xs A hD hS ⟨L, t', hx, _, _⟩ hK
    have HX : Hid (EB W n rg ro rc k7 L t' A ∧ ebL c ra t = L) := ⟨hx.out.1, by
      rw [hx.out.2.2 c.length (Nat.le_refl _) hS, Nat.sub_self]; rfl⟩
    clear hx hS
    have z7 := cellOf HX.out.1.kl 0 rfl
    have z7l := ltOf HX.out.1.kl
    gi_wp2
    refine ⟨by simp, .inl ⟨_, _, rfl, run_takeDeferred hK, ?_⟩⟩
    refine ⟨_, results_tmp rfl _ _ _, _, rfl, ?_, HX.out.1.bl.trans (belowK_b (w := V) HV.out.2 A D _ _ hD hK rfl rfl)⟩
    rw [HX.out.2]
    have hlo := HX.out.1.lo
    have hv := HV.out.1
    exact (HX.out.1.og.kept fun g hg => World.putObj_heap_other (by have e := Option.some.inj (show some (W.heap.size + 1 + 1) = some g from hg); omega)).low (by omega)
  case stop =>
    rintro D cc pre A hD ⟨k, hk, hpre⟩ ⟨rfl, L, t', hx⟩ hK
    have HX : Hid (EB W n rg ro rc k7 L t' A ∧ ebL c ra t = L) := ⟨hx.out.1, hx.out.2 k hk hpre⟩
    clear hx hk hpre
    have z7 := cellOf HX.out.1.kl 0 rfl
    have z7l := ltOf HX.out.1.kl
    gi_wp2
    refine ⟨by simp, .inl ⟨_, _, rfl, run_takeDeferred hK, ?_⟩⟩
    refine ⟨_, results_tmp rfl _ _ _, _, rfl, ?_, HX.out.1.bl.trans (belowK_b (w := V) HV.out.2 A D _ _ hD hK rfl rfl)⟩
    rw [HX.out.2]
    have hlo := HX.out.1.lo
    have hv := HV.out.1
    exact (HX.out.1.og.kept fun g hg => World.putObj_heap_other (by have e := Option.some.inj (show some (W.heap.size + 1 + 1) = some g from hg); omega)).low (by omega)

end Go.Proofs.Ytceljakmjddgbab
