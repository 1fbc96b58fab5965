/- Proved here: the program's trying of one dose. -/
import Derived.Test.YtmpbcdolikafpaaEvC
import Derived.Test.YtmpbcdolikafpaaBoxF
import Derived.BigQuiet
import Derived.Deep.AppendLies
namespace Go.Proofs.Ytmpbcdolikafpaa
open Go.RowKit
set_option linter.unusedVariables false
set_option linter.unusedSimpArgs false

theorem is_last {w : World} {B g n c : Nat} {xs : List Int} (h : IS w B (.slice (some ⟨g, 0, none⟩) n c) xs) {j : Nat} (hj : j < n) : w.cell? ⟨g, j, none⟩ = some (.int .i64 (xs.getD j 0)) := by
  have hn : n = xs.length := by obtain ⟨_, _, e⟩ := h.form; injection e
  subst hn
  rw [World.ownsRow.cellAt h j (by omega)]
  simp [List.getElem?_map, List.getElem?_eq_getElem hj]
theorem is_snoc {w : World} {B : Nat} {v : Value} {xs : List Int} {y : Int} (h : w.ownsRow B 2 1 v (xs.length + 1) (xs.map (Value.int .i64) ++ [.int .i64 y])) : IS w B v (xs ++ [y]) := by
  unfold IS
  simpa using h

set_option maxRecDepth 10000 in
set_option maxHeartbeats 12800000 in
theorem impl_evt {w : World} {lo ke q1 q2 q3 q4 : Nat} {bv ev : Value} {S : EvS} {B : List Bx} {m k : Nat} {d : Int} (E : List Sh → Int)
    (hB : ED lo ke bv ev (ecV q1 q2 q3 q4) S w) (hok : EvO B m S) (hm : m ≤ 3000) (hBl : B.length ≤ 40) (hk : k < B.length) (hd : d = 1 ∨ d = -1) (hlo : lo ≤ w.heap.size)
    (hE : ∀ (V : World) (v : Value) (t : List Sh), Below lo w V → bxS t = B → (∀ q ∈ t, 0 ≤ q.d ∧ q.d ≤ 1000) → RG 5 shC V v t → Calls Try.prog 39 #[v, .pointer (some ⟨q1, 0, none⟩), .pointer (some ⟨q2, 0, none⟩), .pointer (some ⟨q3, 0, none⟩), .pointer (some ⟨q4, 0, none⟩)] V fun e w' => e = .returned (.int .i64 (E t)) ∧ Below V.heap.size V w') :
    Calls Try.prog 40 #[.pointer (some ⟨ke, 0, none⟩), .int .i64 k, .int .i64 d] w fun e w' => e = .returned (.bool (evT E k d S).1) ∧ (∃ bv' ev', ED lo ke bv' ev' (ecV q1 q2 q3 q4) (evT E k d S).2 w') ∧ Below lo w w' := by
  obtain ⟨L, es⟩ := S
  have hLl : L.length = B.length := hok.len
  have hkL : k < L.length := by omega
  obtain ⟨ba, bc, hbv⟩ := (OG.rg shC_len hB.bo).form
  obtain ⟨n, hnn⟩ : ∃ n, n = L.length := ⟨_, rfl⟩
  have hbv' : bv = .slice ba n bc := by rw [hnn]; exact hbv
  subst hbv'
  have hen : 0 < es.length ∧ es.length ≤ 3000 := ⟨hok.e0, Nat.le_trans hok.em hm⟩
  obtain ⟨ge, ec, hev⟩ : ∃ ge ec, ev = .slice (some ⟨ge, 0, none⟩) es.length ec := by
    rcases hB.er.2 with ⟨_, h0⟩ | ⟨g, cap, cur, h1, _⟩
    · exact absurd h0 (by have := hen.1; show ¬ es.length = 0; omega)
    · exact ⟨g, cap, h1⟩
  obtain ⟨en', hen'⟩ : ∃ e, es.length = e + 1 := ⟨es.length - 1, by omega⟩
  rw [hen'] at hev
  subst hev
  obtain ⟨D, hD⟩ : ∃ D, D = (shA L k).d := ⟨_, rfl⟩
  have hDb : 0 ≤ D ∧ D ≤ 1000 := by rw [hD, shA_get hkL]; exact hok.dr _ (List.getElem_mem hkL)
  obtain ⟨EL, hEL⟩ : ∃ EL, EL = lstE es := ⟨_, rfl⟩
  obtain ⟨L', hL'⟩ : ∃ L', L' = setD L k d := ⟨_, rfl⟩
  obtain ⟨E', hE'⟩ : ∃ e, e = E L' := ⟨_, rfl⟩
  obtain ⟨TR, hTR⟩ : ∃ TR, TR = evT E k d (L, es) := ⟨_, rfl⟩
  have hTRv : TR = if (0 ≤ D + d ∧ D + d ≤ 1000) ∧ E' < EL then (true, (L', es ++ [E'])) else (false, (L, es)) := by
    rw [hTR, evT, hD, hE', hL', hEL]
  rw [← hTR]
  have H : Hid (ED lo ke (.slice ba n bc) (.slice (some ⟨ge, 0, none⟩) (en' + 1) ec) (ecV q1 q2 q3 q4) (L, es) w ∧ TR = (if (0 ≤ D + d ∧ D + d ≤ 1000) ∧ E' < EL then (true, (L', es ++ [E'])) else (false, (L, es))) ∧ es.length = en' + 1 ∧ EL = es.getD en' 0 ∧ lo ≤ w.heap.size ∧ k < L.length ∧ n = L.length) := ⟨hB, hTRv, hen', by rw [hEL, lstE, hen']; rfl, hlo, hkL, hnn⟩
  have HCP : Hid (Calls Try.prog 22 #[.slice ba n bc] w fun e w' => e = .returned (.slice (some ⟨w.heap.size, 0, none⟩) n n) ∧ Hid (OG 48 5 shC w' w.heap.size (.slice (some ⟨w.heap.size, 0, none⟩) n n) L) ∧ Hid (Below w.heap.size w w')) := by
    have h9 := impl_cpS (s := L) (by omega) (OG.rg shC_len hB.bo)
    rw [← hnn] at h9
    exact h9
  have HCL : Hid (∀ V v, Below lo w V → (0 ≤ D + d ∧ D + d ≤ 1000) → RG 5 shC V v L' → Calls Try.prog 39 #[v, .pointer (some ⟨q1, 0, none⟩), .pointer (some ⟨q2, 0, none⟩), .pointer (some ⟨q3, 0, none⟩), .pointer (some ⟨q4, 0, none⟩)] V fun e w' => e = .returned (.int .i64 E') ∧ Below V.heap.size V w') := fun V v hV hr hv => by
    rw [hE']
    refine hE V v L' hV (by rw [hL', setD_bx]; exact hok.bx) (fun q hq => ?_) hv
    rw [hL'] at hq
    rcases setD_mem hq with h1 | h1
    · exact hok.dr q h1
    · rw [h1, ← hD]; exact hr
  have HSD : Hid (∀ {V : World} {b : Nat} {g c : Nat}, OG 48 5 shC V b (.slice (some ⟨g, 0, none⟩) n c) L → (V.cell? ⟨g, k * 5 + 4, none⟩ = some (.int .i64 D) ∧ V.frozen? ⟨g, k * 5 + 4, none⟩ = false) ∧ OG 48 5 shC (V.setCell ⟨g, k * 5 + 4, none⟩ (.int .i64 (D + d))) b (.slice (some ⟨g, 0, none⟩) n c) L') := fun {V b g c} h => by
    rw [hD, hL']
    exact ⟨og_dose h hkL, og_setD h hkL d⟩
  have hdb : -1 ≤ d ∧ d ≤ 1 := by omega
  have hkn : k < n := by omega
  have hn40 : n ≤ 40 := by omega
  have hel : en' + 1 ≤ 3000 := by omega
  obtain ⟨a0, a1, a2, af, al⟩ := three_at hB.kb
  clear hB hok hm hd hlo hE hLl hkL hbv hnn hen hen' hD hEL hL' hE' hTR hTRv af hBl hk
  have bk0 : (0 : Int) ≤ (k : Int) := by omega
  have bk1 : (k : Int) < (n : Int) := by omega
  have e1 : IntKind.i64.wrap (D + d) = D + d := by rw [IntKind.wrap_i64]; omega
  obtain ⟨g, hg⟩ : ∃ g, g = w.heap.size := ⟨_, rfl⟩
  rw [← hg] at HCP
  have HG : Hid (g = w.heap.size) := hg
  clear hg
  go_enter Try.func40, Try.ntmps40
  go_wp2_with (fail)
  refine HCP.out.mono ?_
  rintro e w1 ⟨rfl, HO1, HB1⟩
  have HED1 : Hid (ED lo ke (.slice ba n bc) (.slice (some ⟨ge, 0, none⟩) (en' + 1) ec) (ecV q1 q2 q3 q4) (L, es) w1) := H.out.1.next (by rw [← HG.out]; exact HB1.out)
  obtain ⟨⟨c0, f0⟩, ho2⟩ := HSD.out HO1.out
  have HO2 : Hid _ := ho2
  obtain ⟨r, hr⟩ : ∃ r, r = decide (0 ≤ D + d ∧ D + d ≤ 1000) := ⟨_, rfl⟩
  clear ho2 HCP a0 a1 a2 al
  go_wp2_with (fail)
  refine (impl_ins (D + d) 0 1000 r hr _).mono ?_
  rintro e w2 ⟨rfl, hw2⟩
  have HV2 : Hid (ED lo ke (.slice ba n bc) (.slice (some ⟨ge, 0, none⟩) (en' + 1) ec) (ecV q1 q2 q3 q4) (L, es) w2 ∧ OG 48 5 shC w2 g (.slice (some ⟨g, 0, none⟩) n n) L' ∧ Below g w w2) := by
    have hb : Below g w (w1.setCell ⟨g, k * 5 + 4, none⟩ (.int .i64 (D + d))) := HB1.out.setCell (p := ⟨g, k * 5 + 4, none⟩) (Nat.le_refl _) _
    rw [hw2]
    exact ⟨H.out.1.next (by rw [← HG.out]; exact hb), HO2.out, hb⟩
  clear hw2 HO2 HO1 HB1 HED1 c0 f0
  by_cases hc : 0 ≤ D + d ∧ D + d ≤ 1000
  case neg =>
    obtain rfl : false = r := by rw [hr, decide_eq_false hc]
    have HN : Hid (TR = (false, (L, es))) := by unfold Hid; rw [H.out.2.1, if_neg (fun h => hc h.1)]
    clear hr hc
    go_wp2
    go_returns
    refine ⟨by rw [HN.out]; rfl, ⟨.slice ba n bc, .slice (some ⟨ge, 0, none⟩) (en' + 1) ec, ?_⟩, HV2.out.2.2.mono (by have := H.out.2.2.2.2.1; rw [HG.out]; exact this)⟩
    rw [HN.out]
    exact HV2.out.1
  obtain rfl : true = r := by rw [hr, decide_eq_true hc]
  clear hr
  obtain ⟨a0, a1, a2, af, al⟩ := three_at HV2.out.1.kb
  unfold ecV at a2
  clear af
  go_wp2_with (fail)
  refine (HCL.out w2 _ (HV2.out.2.2.mono (by have := H.out.2.2.2.2.1; rw [HG.out]; exact this)) hc (OG.rg shC_len HV2.out.2.1)).mono ?_
  rintro e w3 ⟨rfl, hb3⟩
  have HV3 : Hid (ED lo ke (.slice ba n bc) (.slice (some ⟨ge, 0, none⟩) (en' + 1) ec) (ecV q1 q2 q3 q4) (L, es) w3 ∧ OG 48 5 shC w3 g (.slice (some ⟨g, 0, none⟩) n n) L' ∧ Below g w w3) :=
    ⟨HV2.out.1.next hb3, HV2.out.2.1.below hb3, HV2.out.2.2.trans (hb3.mono (by have := HV2.out.2.2.size; rw [HG.out]; exact this))⟩
  clear hb3 HV2 a0 a1 a2 al HCL
  obtain ⟨a0, a1, a2, af, al⟩ := three_at HV3.out.1.kb
  have x0 := is_last HV3.out.1.er (j := en') (by omega)
  rw [← H.out.2.2.2.1] at x0
  have e9 : (((en' + 1 : Nat) : Int) - 1) = (en' : Int) := by omega
  have hw9 : IntKind.i64.wrap (en' : Int) = (en' : Int) := by rw [IntKind.wrap_i64]; omega
  have hb9 : (0 : Int) ≤ (en' : Int) := by omega
  have hb8 : (en' : Int) < (en' : Int) + 1 := by omega
  have af0 := af 0
  clear af
  go_wp2
  by_cases hEl : E' < EL
  case neg =>
    have HN : Hid (TR = (false, (L, es))) := by unfold Hid; rw [H.out.2.1, if_neg (fun h => hEl h.2)]
    have d1 : EL ≤ E' := by omega
    go_quiet (fail)
    go_wp2
    go_returns
    refine ⟨by rw [HN.out]; rfl, ⟨.slice ba n bc, .slice (some ⟨ge, 0, none⟩) (en' + 1) ec, ?_⟩, below_drewN (HV3.out.2.2.mono (by have := H.out.2.2.2.2.1; rw [HG.out]; exact this)) _⟩
    rw [HN.out]
    exact HV3.out.1.next (below_drewN (Below.refl _ _) _)
  have HN : Hid (TR = (true, (L', es ++ [E']))) := by unfold Hid; rw [H.out.2.1, if_pos ⟨hc, hEl⟩]
  have d1 : decide (EL ≤ E') = false := by simp; omega
  go_quiet (fail)
  go_upto_region 9 with fail
  obtain ⟨V7, hV7⟩ : ∃ V, V = (w3.drewN nq).setCell ⟨ke, 0, none⟩ (.slice (some ⟨g, 0, none⟩) n n) := ⟨_, rfl⟩
  rw [← hV7]
  have HV7 : Hid (ED lo ke (.slice (some ⟨g, 0, none⟩) n n) (.slice (some ⟨ge, 0, none⟩) (en' + 1) ec) (ecV q1 q2 q3 q4) (L', es) V7 ∧ Below lo w V7 ∧ ke < g) := by
    have hq := HV3.out.1.next (below_drewN (Below.refl _ _) nq)
    have hlo := H.out.2.2.2.2.1
    have hkg : ke < g := by rw [HG.out]; exact ltOf H.out.1.kb
    rw [hV7]
    refine ⟨⟨?_, ?_, ?_, hq.lk⟩, (below_drewN (HV3.out.2.2.mono (by rw [HG.out]; exact hlo)) _).setCell (p := ⟨ke, 0, none⟩) hq.lk _, hkg⟩
    · have := heap_setCell_same _ _ 0 _ _ (.slice (some ⟨g, 0, none⟩) n n) hq.kb
      simpa using this
    · have hb : OG 48 5 shC (w3.drewN nq) lo (.slice (some ⟨g, 0, none⟩) n n) L' := (HV3.out.2.1.below (below_drewN (Below.refl _ _) nq)).low (by rw [HG.out]; exact hlo)
      refine rowKept hb fun g' hg' => heap_setCell_other _ _ _ _ ?_
      have e : g = g' := Option.some.inj hg'
      show ¬ g' = ke
      omega
    · exact hq.er.kept fun g' hg' => heap_setCell_other _ _ _ _ (hq.nek.2.1 g' hg')
  clear hV7 HV3 a0 a1 a2 al af0 x0 e9 hw9 hb9 hb8
  obtain ⟨a0, a1, a2, af, al⟩ := three_at HV7.out.1.kb
  clear af
  obtain ⟨i0, hi, hz0, hz1, hz2⟩ := info_parts info_i64
  have hszl : lo ≤ V7.heap.size := Nat.le_trans H.out.2.2.2.2.1 HV7.out.2.1.size
  have HOE : Hid ((V7.alloc (.cells #[.int .i64 E'] 2)).ownsRow lo 2 1 (.slice (some ⟨ge, 0, none⟩) (en' + 1) ec) (en' + 1) (es.map (Value.int .i64))) := by
    have h9 := HV7.out.1.er.bel (w' := V7.alloc (.cells #[.int .i64 E'] 2)) (by (repeat' (first | (with_reducible exact Below.refl _ _) | (with_reducible assumption) | (with_reducible refine Below.setCell ?_ ?_ _) | (with_reducible refine Below.alloc ?_ ?_ _) | (with_reducible refine below_drewN ?_ _) | (with_reducible refine Below.drew ?_) | (with_reducible exact Nat.le_refl _) | omega | (simp; done) | (simp; omega))))
    unfold IS at h9
    have h8 := H.out.2.2.1
    change _ at h9
    simp only [] at h9
    rw [h8] at h9
    exact h9
  have KK : Hid (∀ w8 : World, (V7.alloc (.cells #[.int .i64 E'] 2)).grownBy w8 (some ge) → w8.heap[ke]? = some (.cells #[.slice (some ⟨g, 0, none⟩) n n, .slice (some ⟨ge, 0, none⟩) (en' + 1) ec, ecV q1 q2 q3 q4] 58)) := fun w8 hgr => by
    have hne := HV7.out.1.nek.2.1 ge rfl
    refine (hgr.block ke (by simp; omega) (fun e => hne (by injection e with e; first | exact e | exact e.symm))).trans ?_
    exact (Below.heap_alloc _ _ _ al).trans HV7.out.1.kb
  go_wp2_with (at_builtin; refine wpList_append_lies _ rfl (.tmp 58) (.tmp 60) 29 rfl lo 2 i0 (.int .i64 0) 1 8 Try.underlying29 hi hz0 hz1 hz2 rfl (by decide) (.slice (some ⟨ge, 0, none⟩) (en' + 1) ec) (en' + 1) (es.map (Value.int .i64)) rfl HOE.out ⟨V7.heap.size, 0, none⟩ 1 1 [.int .i64 E'] rfl rfl (World.news_of_block (cs := #[.int .i64 E']) (t := 2) (fr := (0, 0)) (heap_alloc_new V7 _)) (by simp [Value.oneCell']) (by omega) (by unfold maxLen; omega) (by omega) (by simp; omega) (V7.heap.size + 1) (by simp) ?_; intro g8 c8 w8 hown8 hgrow8 hg8 hgl8; have k8 := KK.out w8 hgrow8; obtain ⟨k80, k81, k82, k8f, k8l⟩ := three_at k8; have k8f1 := k8f 1)
  go_returns
  have hne := HV7.out.1.nek
  have hne8 : g8 ≠ ke := by
    rcases hg8 with e | e
    · have e : ge = g8 := Option.some.inj e
      rw [← e]; exact hne.2.1 ge rfl
    · omega
  have hgl : lo ≤ ge := (IS.lt HV7.out.1.er ge rfl).1
  refine ⟨by rw [HN.out]; rfl, ⟨.slice (some ⟨g, 0, none⟩) n n, .slice (some ⟨g8, 0, none⟩) (en' + 1 + 1) c8, ?_⟩, ?_⟩
  · rw [HN.out]
    refine ⟨?_, ?_, ?_, HV7.out.1.lk⟩
    · have := heap_setCell_same _ _ 1 _ _ (.slice (some ⟨g8, 0, none⟩) (en' + 1 + 1) c8) k8
      simpa using this
    · refine rowKept HV7.out.1.bo fun g' hg' => ?_
      have e : g = g' := Option.some.inj hg'
      subst e
      have hgV : g < V7.heap.size := (OG.lt HV7.out.1.bo g rfl).2
      rw [heap_setCell_other _ _ _ _ (show ¬ g = ke by have := HV7.out.2.2; omega)]
      refine (hgrow8.block g (by simp; omega) (fun e => hne.2.2 ge rfl ?_)).trans (Below.heap_alloc _ _ _ hgV)
      first | exact e | exact e.symm
    · have h8 : IS w8 lo (.slice (some ⟨g8, 0, none⟩) (en' + 1 + 1) c8) (es ++ [E']) := is_snoc (by rw [H.out.2.2.1]; exact hown8)
      refine h8.kept fun g' hg' => heap_setCell_other _ _ _ _ ?_
      have e : g8 = g' := Option.some.inj hg'
      subst e
      exact hne8
  · have hb7 := HV7.out.2.1
    refine ((hb7.trans ((show Below V7.heap.size V7 (V7.alloc (.cells #[.int .i64 E'] 2)) by (repeat' (first | (with_reducible exact Below.refl _ _) | (with_reducible assumption) | (with_reducible refine Below.setCell ?_ ?_ _) | (with_reducible refine Below.alloc ?_ ?_ _) | (with_reducible refine below_drewN ?_ _) | (with_reducible refine Below.drew ?_) | (with_reducible exact Nat.le_refl _) | omega | (simp; done) | (simp; omega)))).mono hszl)).grown hgrow8 (by simp; omega) (fun q hq => ?_)).setCell (p := ⟨ke, 1, none⟩) HV7.out.1.lk _
    have e : ge = q := Option.some.inj hq
    omega

end Go.Proofs.Ytmpbcdolikafpaa
