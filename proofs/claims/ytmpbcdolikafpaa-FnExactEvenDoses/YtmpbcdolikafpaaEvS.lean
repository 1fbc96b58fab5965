/- Proved here: EvenDoses of the model. -/
import Derived.Test.YtmpbcdolikafpaaVsE
import Derived.Test.YtmpbcdolikafpaaSeS
import Derived.Deep.DeepCutAuto
namespace Go.Proofs.Ytmpbcdolikafpaa
open Go.RowKit Go.Maps
set_option linter.unusedVariables false
set_option linter.unusedSimpArgs false

theorem sh_news {w : World} {ad : Addr} {n c : Nat} {l : List Sh} (h : RG 5 shC w (.slice (some ad) n c) l) : ∀ j u, (l.flatMap shC)[j]? = some u → w.cell? (ad.add j) = some u := by
  intro j u hu
  have hl := fm_length shC_len l
  have hj : j < l.length * 5 := by
    rcases Nat.lt_or_ge j (l.flatMap shC).length with h9 | h9
    · omega
    · rw [List.getElem?_eq_none h9] at hu; cases hu
  obtain ⟨g, o, c2, he, hg, hc⟩ := h.pos (by omega)
  simp only [Value.slice.injEq, Option.some.injEq] at he
  obtain ⟨rfl, _, _⟩ := he
  have h1 := hc (j / 5) (by omega) (j % 5) (by omega)
  have h2 := fm_get shC_len l (j / 5) (j % 5) (by omega) (by omega)
  have ej : j / 5 * 5 + j % 5 = j := by omega
  rw [ej] at h2
  rw [h2] at hu
  have e3 : o + j = o + j / 5 * 5 + j % 5 := by omega
  have e2 : (⟨g, o, none⟩ : Addr).add j = ⟨g, o + j / 5 * 5 + j % 5, none⟩ := by rw [← e3]; simp [Addr.add]
  rw [e2, h1]
  exact hu
theorem sh_one (l : List Sh) : ∀ u ∈ l.flatMap shC, u.oneCell' = true := by
  intro u hu
  obtain ⟨y, _, hy⟩ := List.mem_flatMap.1 hu
  simp only [shC, List.mem_cons, List.not_mem_nil, or_false] at hy
  rcases hy with rfl | rfl | rfl | rfl | rfl <;> rfl
theorem evN_zero (E : List Sh → Int) (n : Nat) (S : EvS) : evN E n 0 S = S := rfl
theorem ev_form {w : World} {B n : Nat} {v : Value} {ys : List Value} (h : w.ownsRow B 2 1 v n ys) : ∃ a c, v = .slice a n c := by
  rcases h.2 with ⟨rfl, h0⟩ | ⟨g, cap, cur, rfl, _⟩
  · exact ⟨none, 0, by rw [h0]⟩
  · exact ⟨_, _, rfl⟩
theorem em_took {lo kb n g c em : Nat} {ev v7 : Value} {L : List Sh} {es : List Int} {val : Int} {V1 w5 w7 : World} (h : EM lo kb n g c ev (L, es) w5) (hb : Below lo V1 w5) (hlo : lo ≤ w5.heap.size) (hem : em = es.length)
    (ho : w7.ownsRow lo 2 1 v7 (em + 1) (es.map (Value.int .i64) ++ [.int .i64 val])) (hg : (w5.alloc (.cells #[.int .i64 val] 2)).grownBy w7 ev.ownBlock) (hloc : v7.ownBlock = ev.ownBlock ∨ v7.ownBlock = some (w5.alloc (.cells #[.int .i64 val] 2)).heap.size) :
    EM lo kb n g c v7 (L, es ++ [val]) (w7.setCell ⟨kb, 2, none⟩ v7) ∧ w7.heap[kb]? = some (.cells #[.int .i64 0, .slice none 0 0, ev] 31) ∧ Below lo V1 (w7.setCell ⟨kb, 2, none⟩ v7) := by
  have hkb := ltOf h.kb_
  refine ⟨EM.push h hlo (by rw [← hem]; exact ho) hg hloc, ?_, ?_⟩
  · rw [hg.block kb (by simp; omega) (fun e9 => (h.d2 kb e9.symm).1 rfl), Below.heap_alloc _ _ _ hkb]
    exact h.kb_
  · exact ((hb.alloc (by omega) _).grown hg (by simp; omega) (fun q hq => (World.ownsRow.lt h.er q hq).1)).setCell (p := ⟨kb, 2, none⟩) (by simpa using h.d1.1) _

set_option maxRecDepth 10000 in
set_option maxHeartbeats 25600000 in
theorem spec_even (l : List Sh) (x : Wt) (z r : Int) {w : World} {ad0 : Addr} {c : Nat} (hn : l.length ≤ 1048576) (h : RG 5 shC w (.slice (some ad0) l.length c) l) :
    Calls Try.prog 5 #[.slice (some ad0) l.length c, .agg #[.int .i64 x.f.x0, .int .i64 x.f.y0, .int .i64 x.f.x1, .int .i64 x.f.y1, .int .i64 x.o, .int .i64 x.s, .int .i64 x.r], .int .i64 z, .int .i64 r] w fun e w' => ∃ sv ev, e = .returned (.agg #[.int .i64 (evC l x z r), sv, ev]) ∧ OG 48 5 shC w' w.heap.size sv (evL l x z r) ∧ IS w' w.heap.size ev (evE l x z r) ∧ Below w.heap.size w w' := by
  obtain ⟨a, ha⟩ : ∃ a : Option Addr, a = some ad0 := ⟨_, rfl⟩
  have HAD : Hid (a = some ad0) := ha
  rw [← ha] at h ⊢
  clear ha
  obtain ⟨n, hnn⟩ : ∃ n, n = l.length := ⟨_, rfl⟩
  obtain ⟨C, hC⟩ : ∃ C, C = weF l x z := ⟨_, rfl⟩
  obtain ⟨D, hD⟩ : ∃ D, D = dsV l x z := ⟨_, rfl⟩
  obtain ⟨A, hA⟩ : ∃ A, A = evC l x z r := ⟨_, rfl⟩
  obtain ⟨LL, hLL⟩ : ∃ L, L = evL l x z r := ⟨_, rfl⟩
  obtain ⟨EE, hEE⟩ : ∃ L, L = evE l x z r := ⟨_, rfl⟩
  have HDS : Hid (∀ X, Below w.heap.size w X → Calls Try.prog 14 #[.slice a n c, .agg #[.int .i64 x.f.x0, .int .i64 x.f.y0, .int .i64 x.f.x1, .int .i64 x.f.y1, .int .i64 x.o, .int .i64 x.s, .int .i64 x.r], .int .i64 z] X fun e w' => e = .returned (.agg #[.int .i64 C, .int .i64 D]) ∧ Below X.heap.size X w') := fun X hX => by
    rw [hC, hD, hnn]; exact spec_ds l x z hn (h.below hX)
  rw [← hnn] at h ⊢
  rw [← hA, ← hLL, ← hEE]
  have H : Hid (RG 5 shC w (.slice a n c) l ∧ n = l.length ∧ C = weF l x z ∧ D = dsV l x z ∧ A = evC l x z r ∧ LL = evL l x z r ∧ EE = evE l x z r) := ⟨h, hnn, hC, hD, hA, hLL, hEE⟩
  clear h hnn hC hD hA hLL hEE hn
  obtain ⟨k0, hk0⟩ : ∃ k, k = w.heap.size := ⟨_, rfl⟩
  obtain ⟨V0, hV0⟩ : ∃ V, V = (w.alloc (.cells #[.int .i64 x.f.x0, .int .i64 x.f.y0, .int .i64 x.f.x1, .int .i64 x.f.y1, .int .i64 x.o, .int .i64 x.s, .int .i64 x.r] 36)).alloc (.cells #[.int .i64 0, .slice none 0 0, .slice none 0 0] 31) := ⟨_, rfl⟩
  have HK0 : Hid (V0.heap[k0]? = some (.cells #[.int .i64 x.f.x0, .int .i64 x.f.y0, .int .i64 x.f.x1, .int .i64 x.f.y1, .int .i64 x.o, .int .i64 x.s, .int .i64 x.r] 36) ∧ V0.heap[k0 + 1]? = some (.cells #[.int .i64 0, .slice none 0 0, .slice none 0 0] 31) ∧ Below k0 w V0 ∧ k0 = w.heap.size ∧ V0.heap.size = k0 + 2) := by
    rw [hV0, hk0]
    refine ⟨(Below.heap_alloc _ _ _ (by simp)).trans (heap_alloc_new w _), ?_, by (repeat' (first | (with_reducible exact Below.refl _ _) | (with_reducible assumption) | (with_reducible refine Below.setCell ?_ ?_ _) | (with_reducible refine Below.alloc ?_ ?_ _) | (with_reducible refine below_drewN ?_ _) | (with_reducible refine Below.drew ?_) | (with_reducible exact Nat.le_refl _) | omega | (simp; done) | (simp; omega))), rfl, by simp⟩
    have := heap_alloc_new (w.alloc (.cells #[.int .i64 x.f.x0, .int .i64 x.f.y0, .int .i64 x.f.x1, .int .i64 x.f.y1, .int .i64 x.o, .int .i64 x.s, .int .i64 x.r] 36)) (.cells #[.int .i64 0, .slice none 0 0, .slice none 0 0] 31)
    simpa using this
  have HV0 : Hid (V0 = (w.alloc (.cells #[.int .i64 x.f.x0, .int .i64 x.f.y0, .int .i64 x.f.x1, .int .i64 x.f.y1, .int .i64 x.o, .int .i64 x.s, .int .i64 x.r] 36)).alloc (.cells #[.int .i64 0, .slice none 0 0, .slice none 0 0] 31) ∧ k0 = w.heap.size) := ⟨hV0, hk0⟩
  clear hV0 hk0
  go_enter Try.func5, Try.ntmps5
  go_wp2_with (fail)
  rw [← HV0.out.1, ← HV0.out.2]
  clear HV0
  refine (HDS.out _ (by rw [← HK0.out.2.2.2.1]; exact HK0.out.2.2.1)).mono ?_
  rintro e w1 ⟨rfl, hb1⟩
  obtain ⟨k9, hk9⟩ : ∃ k, k = w1.heap.size := ⟨_, rfl⟩
  obtain ⟨V1, hV1⟩ : ∃ V, V = w1.alloc (.cells #[.int .i64 C, .int .i64 D] 44) := ⟨_, rfl⟩
  have b1 : Below w1.heap.size w1 V1 := by rw [hV1]; (repeat' (first | (with_reducible exact Below.refl _ _) | (with_reducible assumption) | (with_reducible refine Below.setCell ?_ ?_ _) | (with_reducible refine Below.alloc ?_ ?_ _) | (with_reducible refine below_drewN ?_ _) | (with_reducible refine Below.drew ?_) | (with_reducible exact Nat.le_refl _) | omega | (simp; done) | (simp; omega)))
  have b01 : Below V0.heap.size V0 V1 := hb1.trans (b1.mono hb1.size)
  have HK1 : Hid (V1.heap[k0]? = some (.cells #[.int .i64 x.f.x0, .int .i64 x.f.y0, .int .i64 x.f.x1, .int .i64 x.f.y1, .int .i64 x.o, .int .i64 x.s, .int .i64 x.r] 36) ∧ V1.heap[k0 + 1]? = some (.cells #[.int .i64 0, .slice none 0 0, .slice none 0 0] 31) ∧ V1.heap[k9]? = some (.cells #[.int .i64 C, .int .i64 D] 44) ∧ Below k0 w V1 ∧ k0 = w.heap.size ∧ k0 + 2 ≤ V1.heap.size) :=
    ⟨(b01.block _ (ltOf HK0.out.1)).trans HK0.out.1, (b01.block _ (ltOf HK0.out.2.1)).trans HK0.out.2.1, by rw [hV1, hk9]; exact heap_alloc_new w1 _, HK0.out.2.2.1.trans (b01.mono (by have := HK0.out.2.2.2.2; omega)), HK0.out.2.2.2.1, by have := b01.size; have := HK0.out.2.2.2.2; omega⟩
  have HV1 : Hid (V1 = w1.alloc (.cells #[.int .i64 C, .int .i64 D] 44) ∧ k9 = w1.heap.size) := ⟨hV1, hk9⟩
  clear hb1 hk9 hV1 b1 b01 HK0 HDS
  go_upto_region 2 with fail
  rw [← HV1.out.1, ← HV1.out.2]
  clear HV1
  have s0 : V1.cell? ⟨k9, 0, none⟩ = some (.int .i64 C) := cellOf HK1.out.2.2.1 0 rfl
  have sl := ltOf HK1.out.2.2.1
  have q1 := HK1.out.2.1
  by_cases hc : C = 0
  case neg =>
    have hc2 : (C != 0) = true := by simp [hc]
    have HE : Hid (A = C ∧ LL = [] ∧ EE = []) := by
      have h9 := H.out
      have h0 : ¬ weF l x z = 0 := by rw [← h9.2.2.1]; exact hc
      have h1 : evC l x z r = C := by rw [evC, if_neg h0, h9.2.2.1]
      have h2 : ¬ evC l x z r = 0 := by rw [h1]; exact hc
      exact ⟨h9.2.2.2.2.1.trans h1, by rw [h9.2.2.2.2.2.1, evL, if_neg h2], by rw [h9.2.2.2.2.2.2, evE, if_neg h2]⟩
    have z0 : V1.cell? ⟨k0 + 1, 0, none⟩ = some (.int .i64 0) := cellOf q1 0 rfl
    have z1 : V1.cell? ⟨k0 + 1, 1, none⟩ = some (.slice none 0 0) := cellOf q1 1 rfl
    have z2 : V1.cell? ⟨k0 + 1, 2, none⟩ = some (.slice none 0 0) := cellOf q1 2 rfl
    have zf0 := frozOf q1 0
    have zf1 := frozOf q1 1
    have zf2 := frozOf q1 2
    have zl := ltOf q1
    obtain ⟨e1, e2, e3, e4, e5, e6⟩ := set3e (a' := .int .i64 C) (b' := .slice none 0 0) (c' := .slice none 0 0) q1
    clear q1 hc
    go_wp2
    refine bodyPost_ret (by simp [results, Try.results5, go_sem, e1, e2, e3, e4, e5, e6, zl]; try rfl) rfl ?_
    refine ⟨.slice none 0 0, .slice none 0 0, by rw [HE.out.1], ?_, ?_, ?_⟩
    · rw [HE.out.2.1]; exact World.ownsRow_nil _ _ _ _
    · rw [HE.out.2.2]; exact World.ownsRow_nil _ _ _ _
    · rw [← HK1.out.2.2.2.2.1]; exact set3b HK1.out.2.2.2.1 (by omega)
  have hw0 : weF l x z = 0 := by rw [← H.out.2.2.1]; exact hc
  have hwz : wsF l x = 0 ∧ 0 ≤ z ∧ z ≤ 1000000000 := by
    unfold weF at hw0
    by_cases h1 : wsF l x = 0
    · rw [if_pos h1] at hw0
      by_cases h2 : 0 ≤ z ∧ z ≤ 1000000000
      · exact ⟨h1, h2⟩
      · rw [if_neg h2] at hw0; omega
    · rw [if_neg h1] at hw0; exact absurd hw0 h1
  have hD : D = dsE l x z := by rw [H.out.2.2.2.1, dsV, if_pos hw0]
  have hc2 : (C != 0) = false := by simp [hc]
  subst hc
  have HIN : Hid (Calls Try.prog 15 #[.int .i64 r, .int .i64 0, .int .i64 50] V1 fun e w' => e = .returned (.bool (decide (0 ≤ r ∧ r ≤ 50))) ∧ w' = V1) := spec_in10 r 0 50 V1
  have HDD : Hid (D = dsE l x z) := hD
  clear hD
  go_wp2_with (fail)
  refine HIN.out.mono ?_
  rintro e V1 ⟨rfl, rfl⟩
  clear HIN
  by_cases q0 : 0 ≤ r ∧ r ≤ 50
  case neg =>
    rw [decide_eq_false q0]
    have HE : Hid (A = 3 ∧ LL = [] ∧ EE = []) := by
      have h9 := H.out
      have h1 : evC l x z r = 3 := by rw [evC, if_pos hw0, if_neg q0]
      have h2 : ¬ evC l x z r = 0 := by rw [h1]; decide
      exact ⟨h9.2.2.2.2.1.trans h1, by rw [h9.2.2.2.2.2.1, evL, if_neg h2], by rw [h9.2.2.2.2.2.2, evE, if_neg h2]⟩
    have z0 : V1.cell? ⟨k0 + 1, 0, none⟩ = some (.int .i64 0) := cellOf q1 0 rfl
    have z1 : V1.cell? ⟨k0 + 1, 1, none⟩ = some (.slice none 0 0) := cellOf q1 1 rfl
    have z2 : V1.cell? ⟨k0 + 1, 2, none⟩ = some (.slice none 0 0) := cellOf q1 2 rfl
    have zf0 := frozOf q1 0
    have zf1 := frozOf q1 1
    have zf2 := frozOf q1 2
    have zl := ltOf q1
    obtain ⟨e1, e2, e3, e4, e5, e6⟩ := set3e (a' := .int .i64 3) (b' := .slice none 0 0) (c' := .slice none 0 0) q1
    clear q1 q0
    go_wp2
    refine bodyPost_ret (by simp [results, Try.results5, go_sem, e1, e2, e3, e4, e5, e6, zl]; try rfl) rfl ?_
    refine ⟨.slice none 0 0, .slice none 0 0, by rw [HE.out.1], ?_, ?_, ?_⟩
    · rw [HE.out.2.1]; exact World.ownsRow_nil _ _ _ _
    · rw [HE.out.2.2]; exact World.ownsRow_nil _ _ _ _
    · rw [← HK1.out.2.2.2.2.1]; exact set3b HK1.out.2.2.2.1 (by omega)
  rw [decide_eq_true q0]
  obtain ⟨R, rfl⟩ : ∃ n : Nat, r = n := ⟨r.toNat, by omega⟩
  obtain ⟨FIN, hFIN⟩ : ∃ S, S = evF l x z R := ⟨_, rfl⟩
  have hA0 : evC l x z R = 0 := by rw [evC, if_pos hw0, if_pos q0]
  have HF : Hid (A = 0 ∧ LL = FIN.1 ∧ EE = FIN.2) := by
    have h9 := H.out
    exact ⟨h9.2.2.2.2.1.trans hA0, by rw [h9.2.2.2.2.2.1, evL, if_pos hA0, hFIN], by rw [h9.2.2.2.2.2.2, evE, if_pos hA0, hFIN]⟩
  obtain ⟨g1, g2, g3, g4, g5, g6'⟩ := spR_good hwz.1
  have HRUN : Hid (EvO (bxS l) (1 + n * 0) (l, [D]) ∧ evN (fun t => dsE t x z) n (R - 0) (l, [D]) = FIN) := by
    refine ⟨⟨rfl, g1.2, by simp, by simp⟩, ?_⟩
    rw [hFIN, evF, H.out.2.1, HDD.out]; rfl
  have hn40 : n ≤ 40 := by rw [H.out.2.1]; exact g1.1
  have hR50 : R ≤ 50 := by omega
  obtain ⟨lo, hlo⟩ : ∃ k, k = V1.heap.size := ⟨_, rfl⟩
  have HLO : Hid (lo = V1.heap.size) := hlo
  have HER : Hid (∀ (X : World) (t : List Sh) (vv : Value), bxS t = bxS l → (∀ y ∈ t, 0 ≤ y.d ∧ y.d ≤ 1000) → RG 5 shC X vv t → Calls Try.prog 16 #[vv, .agg #[.int .i64 x.f.x0, .int .i64 x.f.y0, .int .i64 x.f.x1, .int .i64 x.f.y1, .int .i64 x.o, .int .i64 x.s, .int .i64 x.r], .int .i64 z] X fun e w' => e = .returned (.int .i64 (dsE t x z)) ∧ Below X.heap.size X w') := fun X t vv ht hd hr => by
    have hl : t.length = l.length := by
      have := congrArg List.length ht
      unfold bxS at this
      rwa [List.length_map, List.length_map] at this
    have h9 := spec_er t x.f x.o x.s x.r.toNat z (by rw [hl]; exact g1.1) hd g2 g3 g4 g5 hwz.2 hr
    rw [← g6'] at h9
    exact h9
  obtain ⟨i0, hi0, hz0, hz1, hz2⟩ := info_parts info_Shot
  obtain ⟨j0, hj0, hy0, hy1, hy2⟩ := info_parts info_i64
  clear hFIN hA0 hw0 hwz hc2 g1 g2 g3 g4 g5 g6' hlo q0 q1 s0 sl
  cases a with
  | none => exact absurd HAD.out (by simp)
  | some ad =>
    have HO : Hid ((V1.alloc (.cells #[] 48)).ownsRow lo 48 5 (.slice (some ⟨V1.heap.size, 0, none⟩) 0 0) 0 []) := by
      rw [HLO.out]
      exact World.ownsRow_lit V1 #[] 0 (Nat.le_refl _) (by decide) (by simp)
    have hRR : RG 5 shC (V1.alloc (.cells #[] 48)) (.slice (some ad) n c) l := (H.out.1.below (by rw [← HK1.out.2.2.2.2.1]; exact HK1.out.2.2.2.1)).below (by (repeat' (first | (with_reducible exact Below.refl _ _) | (with_reducible assumption) | (with_reducible refine Below.setCell ?_ ?_ _) | (with_reducible refine Below.alloc ?_ ?_ _) | (with_reducible refine below_drewN ?_ _) | (with_reducible refine Below.drew ?_) | (with_reducible exact Nat.le_refl _) | omega | (simp; done) | (simp; omega))))
    have HNW : Hid (∀ j u, (l.flatMap shC)[j]? = some u → (V1.alloc (.cells #[] 48)).cell? (ad.add j) = some u) := sh_news hRR
    have HNL : Hid ((l.flatMap shC).length = n * 5) := by unfold Hid; rw [fm_length shC_len, H.out.2.1]
    have HN1 : Hid (∀ u ∈ l.flatMap shC, u.oneCell' = true) := sh_one l
    have HLL : Hid (lo ≤ (V1.alloc (.cells #[] 48)).heap.size) := by rw [HLO.out]; unfold Hid; simp
    clear hRR
    go_upto_region 7 with (at_builtin; refine wpList_append_own_at _ rfl _ _ 28 rfl lo 48 i0 (.agg #[.int .i64 0, .int .i64 0, .int .i64 0, .int .i64 0, .int .i64 0]) 5 40 Try.underlying28 hi0 hz0 hz1 hz2 rfl (by decide) (.slice (some ⟨V1.heap.size, 0, none⟩) 0 0) 0 [] rfl HO.out ad n c (l.flatMap shC) rfl HNL.out HNW.out HN1.out (by unfold maxLen; omega) (by omega) HLL.out ?_; intro v6 w6 hown6 hgrow6 hnn6 hloc6)
    have hb6 : Below lo V1 w6 := by
      have h1 : Below V1.heap.size V1 (V1.alloc (.cells #[] 48)) := by (repeat' (first | (with_reducible exact Below.refl _ _) | (with_reducible assumption) | (with_reducible refine Below.setCell ?_ ?_ _) | (with_reducible refine Below.alloc ?_ ?_ _) | (with_reducible refine below_drewN ?_ _) | (with_reducible refine Below.drew ?_) | (with_reducible exact Nat.le_refl _) | omega | (simp; done) | (simp; omega)))
      rw [HLO.out]
      exact h1.grown hgrow6 (by simp) (fun q hq => by have := (World.ownsRow.lt HO.out q hq).1; have := HLO.out; omega)
    obtain ⟨g6, c6, hv6⟩ : ∃ g c, v6 = .slice (some ⟨g, 0, none⟩) n c := by
      rcases hown6.2 with ⟨h0, _⟩ | ⟨g, cap, cur, h1, _⟩
      · exact absurd (hnn6.1 h0).1 (by simp)
      · exact ⟨g, cap, by rw [h1]; simp⟩
    subst hv6
    have ho6 : OG 48 5 shC w6 lo (.slice (some ⟨g6, 0, none⟩) n c6) l := by
      unfold OG
      rw [← H.out.2.1]
      simpa using hown6
    clear hown6 hgrow6 hnn6 hloc6 HO HNW HNL HN1 HLL
    obtain ⟨kb, hkb⟩ : ∃ k, k = w6.heap.size + 1 := ⟨_, rfl⟩
    obtain ⟨W, hW⟩ : ∃ W, W = (w6.alloc (.cells #[.int .i64 D] 2)).alloc (.cells #[.int .i64 0, .slice none 0 0, .slice (some ⟨w6.heap.size, 0, none⟩) 1 1] 31) := ⟨_, rfl⟩
    have HS0 : Hid (EM lo kb n g6 c6 (.slice (some ⟨w6.heap.size, 0, none⟩) 1 1) (l, [D]) W ∧ Below lo V1 W) := by
      have hbW : Below w6.heap.size w6 W := by rw [hW]; (repeat' (first | (with_reducible exact Below.refl _ _) | (with_reducible assumption) | (with_reducible refine Below.setCell ?_ ?_ _) | (with_reducible refine Below.alloc ?_ ?_ _) | (with_reducible refine below_drewN ?_ _) | (with_reducible refine Below.drew ?_) | (with_reducible exact Nat.le_refl _) | omega | (simp; done) | (simp; omega)))
      have hgl := OG.lt ho6 g6 rfl
      have hez : W.heap[w6.heap.size]? = some (.cells #[.int .i64 D] 2) := by rw [hW]; exact (Below.heap_alloc _ _ _ (by simp)).trans (heap_alloc_new w6 _)
      have hkz : W.heap[kb]? = some (.cells #[.int .i64 0, .slice none 0 0, .slice (some ⟨w6.heap.size, 0, none⟩) 1 1] 31) := by
        rw [hW, hkb]
        have := heap_alloc_new (w6.alloc (.cells #[.int .i64 D] 2)) (.cells #[.int .i64 0, .slice none 0 0, .slice (some ⟨w6.heap.size, 0, none⟩) 1 1] 31)
        simpa using this
      have hlo6 : lo ≤ w6.heap.size := by have h1 := hb6.size; have h2 := HLO.out; omega
      refine ⟨⟨OG.below ho6 hbW, hkz, ?_, ⟨by omega, by omega⟩, fun h hh => ?_⟩, hb6.trans (hbW.mono hlo6)⟩
      · unfold IS
        exact ⟨by simp, Or.inr ⟨w6.heap.size, 1, _, by simp, hlo6, hez, by simp, by simp [maxLen], by simp, by simp⟩⟩
      · have hh' : w6.heap.size = h := by simpa [Value.ownBlock] using hh
        omega
    have HW : Hid (W = (w6.alloc (.cells #[.int .i64 D] 2)).alloc (.cells #[.int .i64 0, .slice none 0 0, .slice (some ⟨w6.heap.size, 0, none⟩) 1 1] 31) ∧ kb = w6.heap.size + 1) := ⟨hW, hkb⟩
    have q9 := (hb6.block k9 (by have h1 := ltOf HK1.out.2.2.1; have h2 := HLO.out; omega)).trans HK1.out.2.2.1
    have y0 : w6.cell? ⟨k9, 0, none⟩ = some (.int .i64 0) := cellOf q9 0 rfl
    have y1 : w6.cell? ⟨k9, 1, none⟩ = some (.int .i64 D) := cellOf q9 1 rfl
    have yl := ltOf q9
    clear hkb hW ho6 hb6 q9
    go_wp2
    rw [← HW.out.1, ← HW.out.2]
    clear HW y0 y1 yl
    go_loopw [12, 13] (fun s12 s13 wr => ∃ (j : Nat) (ev : Value) (T : EvS), j ≤ R ∧ s12 = .int .i64 (lstE T.2) ∧ s13 = .int .i64 j ∧ Hid (EM lo kb n g6 c6 ev T wr ∧ Below lo V1 wr ∧ EvO (bxS l) (1 + n * j) T ∧ evN (fun t => dsE t x z) n (R - j) T = FIN)) (fun _ i _ => R - (intOf i).toNat)
    case atStart => exact ⟨0, _, (l, [D]), Nat.zero_le _, rfl, rfl, HS0.out.1, HS0.out.2, HRUN.out.1, HRUN.out.2⟩
    case round =>
      clear HS0
      obtain ⟨j, ev, T, hj, rfl, rfl, hR⟩ := hrel
      by_cases hlt : j < R
      · have b1 : (j : Int) < (R : Int) := by omega
        have HOK : Hid (EvO (bxS l) (1 + n * j) T ∧ evN (fun t => dsE t x z) n (R - j) T = FIN) := ⟨hR.out.2.2.1, hR.out.2.2.2⟩
        go_wp2
        go_loopw [12, 14, 15] (fun s12 s14 s15 wr => ∃ (k : Nat) (ev : Value), k ≤ n ∧ s12 = .int .i64 (lstE (evR (fun t => dsE t x z) k T).2.2) ∧ s14 = .bool (evR (fun t => dsE t x z) k T).1 ∧ s15 = .int .i64 k ∧ Hid (EM lo kb n g6 c6 ev (evR (fun t => dsE t x z) k T).2 wr ∧ Below lo V1 wr)) (fun _ _ i _ => n - (intOf i).toNat)
        case atStart => exact ⟨0, ev, Nat.zero_le _, rfl, rfl, rfl, hR.out.1, hR.out.2.1⟩
        case round =>
          clear hR
          obtain ⟨k, ev2, hk, rfl, rfl, rfl, hX⟩ := hrel
          have hU0 := evR_ok (E := fun t => dsE t x z) k HOK.out.1
          by_cases hltk : k < n
          · obtain ⟨U, hU⟩ : ∃ U, U = (evR (fun t => dsE t x z) k T).2 := ⟨_, rfl⟩
            obtain ⟨tk, htk⟩ : ∃ b, b = (evR (fun t => dsE t x z) k T).1 := ⟨_, rfl⟩
            rw [← hU] at hX hU0
            rw [← hU, ← htk]
            have HU : Hid (U = (evR (fun t => dsE t x z) k T).2 ∧ tk = (evR (fun t => dsE t x z) k T).1 ∧ EvO (bxS l) (1 + n * j + k) U) := ⟨hU, htk, hU0⟩
            have bk : (k : Int) < (n : Int) := by omega
            have bk0 : (0 : Int) ≤ (k : Int) := by omega
            clear hU htk hU0
            go_wp2
            go_loopw [12, 14, 16] (fun s12 s14 s16 wr => ∃ (e : Nat) (ev : Value), e ≤ 2 ∧ s12 = .int .i64 (lstE U.2) ∧ s14 = .bool tk ∧ s16 = .int .i64 (1 - 2 * (e : Int)) ∧ Hid (EM lo kb n g6 c6 ev U wr ∧ Below lo V1 wr ∧ (1 ≤ e → ¬ (evT (fun t => dsE t x z) k 1 U).1 = true) ∧ (2 ≤ e → ¬ (evT (fun t => dsE t x z) k (-1) U).1 = true))) (fun _ _ i _ => (intOf i + 3).toNat)
            case atStart => exact ⟨0, ev2, by omega, rfl, rfl, rfl, hX.out.1, hX.out.2, fun h => by omega, fun h => by omega⟩
            case round =>
              clear hX
              obtain ⟨e, ev3, he, rfl, rfl, rfl, hY⟩ := hrel
              by_cases he2 : e < 2
              · obtain ⟨d, hd⟩ : ∃ d : Int, d = 1 - 2 * (e : Int) := ⟨_, rfl⟩
                rw [← hd]
                have HD9 : Hid (d = 1 - 2 * (e : Int)) := hd
                have hdr : d = 1 ∨ d = -1 := by omega
                have hdg : (-1 : Int) ≤ d := by omega
                have hkl : k < U.1.length := by rw [← hY.out.1.nl]; exact hltk
                obtain ⟨c0, cf⟩ := og_dose hY.out.1.ln hkl
                have hdr2 := HU.out.2.2.dr (shA U.1 k) (by rw [shA_get hkl]; exact List.getElem_mem _)
                obtain ⟨was, hwas⟩ : ∃ q, q = (shA U.1 k).d := ⟨_, rfl⟩
                rw [← hwas] at c0 hdr2
                have gl := (OG.lt hY.out.1.ln g6 rfl).2
                have wr1 : IntKind.i64.wrap (was + d) = was + d := by rw [IntKind.wrap_i64]; omega
                have wr2 : IntKind.i64.wrap (d - 2) = d - 2 := by rw [IntKind.wrap_i64]; omega
                have HIN : Hid (Calls Try.prog 15 #[.int .i64 (was + d), .int .i64 0, .int .i64 1000] wr fun e w' => e = .returned (.bool (decide (0 ≤ was + d ∧ was + d ≤ 1000))) ∧ w' = wr) := spec_in10 (was + d) 0 1000 wr
                have HWA : Hid (was = (shA U.1 k).d) := hwas
                have HNO : Hid (¬ (evT (fun t => dsE t x z) k d U).1 = true → EM lo kb n g6 c6 ev3 U wr → True) := fun _ _ => trivial
                have HST : Hid (∀ V, EM lo kb n g6 c6 ev3 U V → Below lo V1 V → ¬ (evT (fun t => dsE t x z) k d U).1 = true → EM lo kb n g6 c6 ev3 U V ∧ Below lo V1 V ∧ (1 ≤ e + 1 → ¬ (evT (fun t => dsE t x z) k 1 U).1 = true) ∧ (2 ≤ e + 1 → ¬ (evT (fun t => dsE t x z) k (-1) U).1 = true)) := by
                  intro V h1 h2 h3
                  refine ⟨h1, h2, fun _ => ?_, fun h => ?_⟩
                  · by_cases h0 : e = 0
                    · have : d = 1 := by omega
                      rw [this] at h3; exact h3
                    · exact hY.out.2.2.1 (by omega)
                  · have : d = -1 := by omega
                    rw [this] at h3; exact h3
                have HYE : Hid (EM lo kb n g6 c6 ev3 U wr ∧ Below lo V1 wr ∧ k < U.1.length ∧ (1 ≤ e → ¬ (evT (fun t => dsE t x z) k 1 U).1 = true)) := ⟨hY.out.1, hY.out.2.1, hkl, hY.out.2.2.1⟩
                clear hwas hd hkl hY HNO
                go_wp2_with (fail)
                refine HIN.out.mono ?_
                rintro _ wr ⟨rfl, rfl⟩
                clear HIN
                by_cases hin : 0 ≤ was + d ∧ was + d ≤ 1000
                case neg =>
                  rw [decide_eq_false hin]
                  have HN : Hid _ := HST.out wr HYE.out.1 HYE.out.2.1 (by
                    unfold evT
                    rw [if_neg (fun h => hin (by rw [HWA.out]; exact h.1))]
                    simp)
                  clear HST HYE c0 cf
                  go_wp2
                  go_roundw
                  case rel => exact ⟨e + 1, ev3, by omega, rfl, rfl, by (have := HD9.out; congr 1; omega), HN.out⟩
                  case measure => simp [intOf]; have := HD9.out; omega
                rw [decide_eq_true hin]
                obtain ⟨W2, hW2⟩ : ∃ W, W = wr.setCell ⟨g6, k * 5 + 4, none⟩ (.int .i64 (was + d)) := ⟨_, rfl⟩
                have hgB := (OG.lt HYE.out.1.ln g6 rfl).1
                have hkl9 : k0 + 2 ≤ lo := by have h1 := HK1.out.2.2.2.2.2; have h2 := HLO.out; omega
                have HE2 : Hid (EM lo kb n g6 c6 ev3 (setD U.1 k d, U.2) W2 ∧ Below lo V1 W2) := by
                  rw [hW2]
                  refine ⟨?_, HYE.out.2.1.setCell (by simpa using hgB) _⟩
                  have h9 := HYE.out.1.set HYE.out.2.2.1 d
                  rw [← HWA.out] at h9
                  exact h9
                have qw : W2.heap[k0]? = some (.cells #[.int .i64 x.f.x0, .int .i64 x.f.y0, .int .i64 x.f.x1, .int .i64 x.f.y1, .int .i64 x.o, .int .i64 x.s, .int .i64 x.r] 36) := by rw [HE2.out.2.block k0 (by omega)]; exact HK1.out.1
                obtain ⟨p0, p1, p2, p3, p4, p5, p6, pf, pl⟩ := wt_seven qw
                obtain ⟨val, hval⟩ : ∃ q, q = dsE (setD U.1 k d) x z := ⟨_, rfl⟩
                have HCE : Hid (Calls Try.prog 16 #[.slice (some ⟨g6, 0, none⟩) n c6, .agg #[.int .i64 x.f.x0, .int .i64 x.f.y0, .int .i64 x.f.x1, .int .i64 x.f.y1, .int .i64 x.o, .int .i64 x.s, .int .i64 x.r], .int .i64 z] W2 fun e w' => e = .returned (.int .i64 val) ∧ Below W2.heap.size W2 w') := by
                  rw [hval]
                  refine HER.out W2 (setD U.1 k d) _ ((setD_bx _ _ _).trans HU.out.2.2.bx) (fun y hy => ?_) (OG.rg shC_len HE2.out.1.ln)
                  rcases setD_mem hy with h1 | h1
                  · exact HU.out.2.2.dr y h1
                  · rw [h1, ← HWA.out]; exact hin
                have HVV : Hid (val = dsE (setD U.1 k d) x z ∧ evT (fun t => dsE t x z) k d U = if val < lstE U.2 then (true, (setD U.1 k d, U.2 ++ [val])) else (false, U)) := by
                  refine ⟨hval, ?_⟩
                  by_cases h1 : val < lstE U.2
                  · have h2 : (0 ≤ (shA U.1 k).d + d ∧ (shA U.1 k).d + d ≤ 1000) ∧ dsE (setD U.1 k d) x z < lstE U.2 := ⟨by rw [← HWA.out]; exact hin, by rw [← hval]; exact h1⟩
                    unfold evT
                    rw [if_pos h2, if_pos h1, hval]
                  · unfold evT
                    rw [if_neg (fun h => h1 (by rw [hval]; exact h.2)), if_neg h1]
                have HW2 : Hid (W2 = wr.setCell ⟨g6, k * 5 + 4, none⟩ (.int .i64 (was + d))) := hW2
                clear hW2 hval qw pf hgB
                go_upto_region 22 with fail
                rw [← HW2.out]
                clear HW2 c0 cf gl
                go_wp2_with (fail)
                refine HCE.out.mono ?_
                rintro _ w5 ⟨rfl, hb5⟩
                have HE5 : Hid (EM lo kb n g6 c6 ev3 (setD U.1 k d, U.2) w5 ∧ Below lo V1 w5) := ⟨HE2.out.1.next hb5, HE2.out.2.trans (hb5.mono (by have h1 := HE2.out.2.size; have h2 := HLO.out; omega))⟩
                clear hb5 HE2 HCE p0 p1 p2 p3 p4 p5 p6 pl
                have hkl5 : k < (setD U.1 k d).length := by rw [setD_len]; exact HYE.out.2.2.1
                obtain ⟨c0, cf⟩ := og_dose HE5.out.1.ln hkl5
                have gl := (OG.lt HE5.out.1.ln g6 rfl).2
                by_cases hv : val < lstE U.2
                case neg =>
                  have HN : Hid _ := HST.out (w5.setCell ⟨g6, k * 5 + 4, none⟩ (.int .i64 was)) (by
                    have h9 := HE5.out.1.set hkl5 (-d)
                    simp only [setD_back HYE.out.2.2.1] at h9
                    have e9 : (shA (setD U.1 k d) k).d + -d = was := by
                      rw [shA_get hkl5]
                      simp [setD, HWA.out]
                      omega
                    rw [e9] at h9
                    exact h9) (HE5.out.2.setCell (by simpa using (OG.lt HE5.out.1.ln g6 rfl).1) _) (by rw [HVV.out.2, if_neg hv]; simp)
                  clear HST HYE HE5
                  go_wp2
                  go_roundw
                  case rel => exact ⟨e + 1, ev3, by omega, rfl, rfl, by (have := HD9.out; congr 1; omega), HN.out⟩
                  case measure => simp [intOf]; have := HD9.out; omega
                have hT : evT (fun t => dsE t x z) k d U = (true, (setD U.1 k d, U.2 ++ [val])) := by rw [HVV.out.2, if_pos hv]
                have hAA : evA (fun t => dsE t x z) k U = (true, (setD U.1 k d, U.2 ++ [val])) := by
                  unfold evA
                  rcases hdr with h1 | h1
                  · rw [h1] at hT; rw [hT]; rw [if_pos rfl, h1]
                  · rw [if_neg (HYE.out.2.2.2 (by have := HD9.out; omega))]; rw [h1] at hT; rw [hT, h1]
                have HEV : Hid ((evR (fun t => dsE t x z) (k + 1) T).2 = (setD U.1 k d, U.2 ++ [val]) ∧ (evR (fun t => dsE t x z) (k + 1) T).1 = true ∧ lstE (U.2 ++ [val]) = val) := by
                  refine ⟨by rw [evR, ← HU.out.1, hAA], by rw [evR, ← HU.out.1, hAA]; simp, lstE_snoc _ _⟩
                obtain ⟨ea, ec, hev⟩ := IS.form HE5.out.1.er
                obtain ⟨em, hem⟩ : ∃ m, m = U.2.length := ⟨_, rfl⟩
                have hemb : em ≤ 3000 := by
                  have h1 := HU.out.2.2.em
                  have h2 : n * j ≤ 40 * 50 := Nat.mul_le_mul hn40 (by omega)
                  omega
                have hev2 : ev3 = .slice ea em ec := by rw [hev, hem]
                subst hev2
                have HOW : Hid (w5.ownsRow lo 2 1 (.slice ea em ec) em (U.2.map (Value.int .i64)) ∧ em = U.2.length) := by
                  have h1 := HE5.out.1.er
                  unfold IS at h1
                  have h2 : w5.ownsRow lo 2 1 (.slice ea em ec) U.2.length (U.2.map (Value.int .i64)) := h1
                  rw [← hem] at h2
                  exact ⟨h2, hem⟩
                have hlo5 : lo ≤ w5.heap.size := by have h1 := HE5.out.2.size; have h2 := HLO.out; omega
                have qk := HE5.out.1.kb_
                have y0 : w5.cell? ⟨kb, 0, none⟩ = some (.int .i64 0) := cellOf qk 0 rfl
                have y1 : w5.cell? ⟨kb, 1, none⟩ = some (.slice none 0 0) := cellOf qk 1 rfl
                have y2 : w5.cell? ⟨kb, 2, none⟩ = some (.slice ea em ec) := cellOf qk 2 rfl
                have yl := ltOf qk
                clear hev hem hT hAA qk c0 cf gl HST
                go_wp2_with (at_builtin; refine wpList_append_own_at _ rfl _ _ 29 rfl lo 2 j0 (.int .i64 0) 1 8 Try.underlying29 hj0 hy0 hy1 hy2 rfl (by decide) (.slice ea em ec) em (U.2.map (Value.int .i64)) rfl (World.ownsRow.alloc HOW.out.1 _) ⟨w5.heap.size, 0, none⟩ 1 1 [.int .i64 val] rfl rfl (World.news_of_block (cs := #[.int .i64 val]) (t := 2) (fr := (0, 0)) (heap_alloc_new w5 _)) (by simp [Value.oneCell']) (by unfold maxLen; omega) (by omega) (by simp; omega) ?_; intro v7 w7 hown7 hgrow7 _ hloc7; obtain ⟨va7, vc7, rfl⟩ := ev_form hown7; have HE7 : Hid (EM lo kb n g6 c6 (.slice va7 (em + 1) vc7) (setD U.1 k d, U.2 ++ [val]) (w7.setCell ⟨kb, 2, none⟩ (.slice va7 (em + 1) vc7)) ∧ w7.heap[kb]? = some (.cells #[.int .i64 0, .slice none 0 0, .slice ea em ec] 31) ∧ Below lo V1 (w7.setCell ⟨kb, 2, none⟩ (.slice va7 (em + 1) vc7))) := em_took HE5.out.1 HE5.out.2 hlo5 HOW.out.2 hown7 hgrow7 hloc7; clear hown7 hgrow7 hloc7 y0 y1 y2 yl; have y2 := cellOf HE7.out.2.1 2 rfl; have yf2 := frozOf HE7.out.2.1 2; have yl := ltOf HE7.out.2.1)
                clear y2 yf2 yl
                have HN : Hid (EM lo kb n g6 c6 (.slice va7 (em + 1) vc7) (evR (fun t => dsE t x z) (k + 1) T).2 (w7.setCell ⟨kb, 2, none⟩ (.slice va7 (em + 1) vc7)) ∧ Below lo V1 (w7.setCell ⟨kb, 2, none⟩ (.slice va7 (em + 1) vc7)) ∧ val = lstE (evR (fun t => dsE t x z) (k + 1) T).2.2 ∧ true = (evR (fun t => dsE t x z) (k + 1) T).1) := by
                  refine ⟨by rw [HEV.out.1]; exact HE7.out.1, HE7.out.2.2, by rw [HEV.out.1]; exact HEV.out.2.2.symm, HEV.out.2.1.symm⟩
                clear HE7 HEV HE5 HYE HVV
                go_wp2
                go_roundw
                case rel => exact ⟨k + 1, _, by omega, by rw [← HN.out.2.2.1], by rw [← HN.out.2.2.2], by go_num, HN.out.1, HN.out.2.1⟩
                case measure => simp [intOf]; omega
              · obtain rfl : e = 2 := by omega
                have HN : Hid (EM lo kb n g6 c6 ev3 (evR (fun t => dsE t x z) (k + 1) T).2 wr ∧ Below lo V1 wr ∧ lstE U.2 = lstE (evR (fun t => dsE t x z) (k + 1) T).2.2 ∧ tk = (evR (fun t => dsE t x z) (k + 1) T).1) := by
                  have h1 := hY.out.2.2.1 (by omega)
                  have h2 := hY.out.2.2.2 (by omega)
                  have hA : evA (fun t => dsE t x z) k U = evT (fun t => dsE t x z) k (-1) U := by unfold evA; rw [if_neg h1]
                  have e2 : (evR (fun t => dsE t x z) (k + 1) T).2 = U := by rw [evR, ← HU.out.1, hA]; exact evT_no h2
                  have e1 : (evR (fun t => dsE t x z) (k + 1) T).1 = tk := by
                    rw [evR, ← HU.out.1, ← HU.out.2.1, hA]
                    cases hb : (evT (fun t => dsE t x z) k (-1) U).1 with
                    | true => exact absurd hb h2
                    | false => simp
                  rw [e2, e1]
                  exact ⟨hY.out.1, hY.out.2.1, rfl, rfl⟩
                clear hY
                go_wp2
                go_roundw
                case rel => exact ⟨k + 1, ev3, by omega, by rw [HN.out.2.2.1], by rw [HN.out.2.2.2], by go_num, HN.out.1, HN.out.2.1⟩
                case measure => simp [intOf]; omega
          · obtain rfl : k = n := by omega
            by_cases htk : (evR (fun t => dsE t x z) k T).1 = true
            · have HN : Hid (EM lo kb k g6 c6 ev2 (evR (fun t => dsE t x z) k T).2 wr ∧ Below lo V1 wr ∧ EvO (bxS l) (1 + k * (j + 1)) (evR (fun t => dsE t x z) k T).2 ∧ evN (fun t => dsE t x z) k (R - (j + 1)) (evR (fun t => dsE t x z) k T).2 = FIN) := by
                refine ⟨hX.out.1, hX.out.2, hU0.mono (by rw [Nat.mul_add]; omega), ?_⟩
                have h9 := HOK.out.2
                rw [show R - j = (R - (j + 1)) + 1 by omega, evN, if_pos htk] at h9
                exact h9
              rw [htk]
              clear hX hU0
              go_wp2
              go_roundw
              case rel => exact ⟨j + 1, ev2, _, by omega, rfl, by go_num, HN.out⟩
              case measure => simp [intOf]; omega
            · have HEF : Hid (EM lo kb k g6 c6 ev2 FIN wr ∧ Below lo V1 wr ∧ True) := by
                refine ⟨?_, hX.out.2, trivial⟩
                have h9 := HOK.out.2
                rw [show R - j = (R - (j + 1)) + 1 by omega, evN, if_neg htk] at h9
                rw [← h9]; exact hX.out.1
              have htk2 : (evR (fun t => dsE t x z) k T).1 = false := by simpa using htk
              rw [htk2]
              clear hX hU0 htk htk2
              obtain ⟨ea, ec, hev⟩ := IS.form HEF.out.1.er
              obtain ⟨en, hen⟩ : ∃ m, m = FIN.2.length := ⟨_, rfl⟩
              rw [← hen] at hev
              subst hev
              clear hen
              obtain ⟨g9, hg9⟩ : ∃ g, g = k0 + 1 := ⟨_, rfl⟩
              have hkl : k0 + 2 ≤ lo := by have h1 := HK1.out.2.2.2.2.2; have h2 := HLO.out; omega
              have hdd := HEF.out.1.d1
              have hgg := (OG.lt HEF.out.1.ln g6 rfl).1
              have qk := HEF.out.1.kb_
              have y0 : wr.cell? ⟨kb, 0, none⟩ = some (.int .i64 0) := cellOf qk 0 rfl
              have y1 : wr.cell? ⟨kb, 1, none⟩ = some (.slice none 0 0) := cellOf qk 1 rfl
              have y2 : wr.cell? ⟨kb, 2, none⟩ = some (.slice ea en ec) := cellOf qk 2 rfl
              have yf := frozOf qk 1
              have yl := ltOf qk
              have qs : (wr.setCell ⟨kb, 1, none⟩ (.slice (some ⟨g6, 0, none⟩) k c6)).heap[kb]? = some (.cells #[.int .i64 0, .slice (some ⟨g6, 0, none⟩) k c6, .slice ea en ec] 31) := by
                have := heap_setCell_same wr kb 1 _ _ (.slice (some ⟨g6, 0, none⟩) k c6) qk
                simpa using this
              obtain ⟨W3, hW3⟩ : ∃ W, W = wr.setCell ⟨kb, 1, none⟩ (.slice (some ⟨g6, 0, none⟩) k c6) := ⟨_, rfl⟩
              have q8 : W3.heap[g9]? = some (.cells #[.int .i64 0, .slice none 0 0, .slice none 0 0] 31) := by
                rw [hW3, hg9, heap_setCell_other _ _ _ _ (by simp; omega), HEF.out.2.1.block (k0 + 1) (by omega)]
                exact HK1.out.2.1
              rw [← hW3] at qs
              have u0 : W3.cell? ⟨kb, 0, none⟩ = some (.int .i64 0) := cellOf qs 0 rfl
              have u1 : W3.cell? ⟨kb, 1, none⟩ = some (.slice (some ⟨g6, 0, none⟩) k c6) := cellOf qs 1 rfl
              have u2 : W3.cell? ⟨kb, 2, none⟩ = some (.slice ea en ec) := cellOf qs 2 rfl
              have ul := ltOf qs
              have z0 : W3.cell? ⟨g9, 0, none⟩ = some (.int .i64 0) := cellOf q8 0 rfl
              have z1 : W3.cell? ⟨g9, 1, none⟩ = some (.slice none 0 0) := cellOf q8 1 rfl
              have z2 : W3.cell? ⟨g9, 2, none⟩ = some (.slice none 0 0) := cellOf q8 2 rfl
              have zf0 := frozOf q8 0
              have zf1 := frozOf q8 1
              have zf2 := frozOf q8 2
              have zl := ltOf q8
              obtain ⟨e1, e2, e3, e4, e5, e6⟩ := set3e (a' := .int .i64 0) (b' := .slice (some ⟨g6, 0, none⟩) k c6) (c' := .slice ea en ec) q8
              have HZ : Hid (OG 48 5 shC W3 lo (.slice (some ⟨g6, 0, none⟩) k c6) FIN.1 ∧ IS W3 lo (.slice ea en ec) FIN.2 ∧ Below lo V1 W3 ∧ g9 = k0 + 1 ∧ k0 + 2 ≤ lo) := by
                rw [hW3]
                refine ⟨?_, HEF.out.1.er.kept (fun q hq => heap_setCell_other _ _ _ _ (by simp; exact (HEF.out.1.d2 q hq).1)), HEF.out.2.1.setCell (by simp; omega) _, hg9, hkl⟩
                refine rowKept HEF.out.1.ln (fun q hq => ?_)
                have e9 : g6 = q := by simpa [Value.ownBlock] using hq
                exact heap_setCell_other _ _ _ _ (by simp; omega)
              have HW3 : Hid (W3 = wr.setCell ⟨kb, 1, none⟩ (.slice (some ⟨g6, 0, none⟩) k c6) ∧ g9 = k0 + 1) := ⟨hW3, hg9⟩
              clear qk qs q8 hW3 hg9 hdd hgg hkl HEF
              go_upto_region 30 with fail
              rw [← HW3.out.1, ← HW3.out.2]
              clear HW3 y0 y1 y2 yf yl
              go_wp2
              refine bodyPost_ret (by simp [results, Try.results5, go_sem, e1, e2, e3, e4, e5, e6, zl]; try rfl) rfl ?_
              refine ⟨.slice (some ⟨g6, 0, none⟩) k c6, .slice ea en ec, by rw [HF.out.1], ?_, ?_, ?_⟩
              · rw [HF.out.2.1, ← HK1.out.2.2.2.2.1]
                refine rowLow (B := lo) (rowKept HZ.out.1 (fun q hq => ?_)) (by have := HZ.out.2.2.2.2; omega)
                have h9 := (OG.lt HZ.out.1 q hq).1
                exact vset3_other (by have := HZ.out.2.2.2; omega)
              · rw [HF.out.2.2, ← HK1.out.2.2.2.2.1]
                refine IS.low (B := lo) (HZ.out.2.1.kept (fun q hq => ?_)) (by have := HZ.out.2.2.2.2; omega)
                have h9 := (World.ownsRow.lt HZ.out.2.1 q hq).1
                exact vset3_other (by have := HZ.out.2.2.2; omega)
              · rw [← HK1.out.2.2.2.2.1]
                have h9 : Below k0 w W3 := HK1.out.2.2.2.1.trans (HZ.out.2.2.1.mono (by have := HZ.out.2.2.2.2; omega))
                exact set3b h9 (by have := HZ.out.2.2.2; omega)
      · obtain rfl : j = R := by omega
        have HEF : Hid (EM lo kb n g6 c6 ev FIN wr ∧ Below lo V1 wr ∧ True) := by
          refine ⟨?_, hR.out.2.1, trivial⟩
          have h9 := hR.out.2.2.2
          rw [Nat.sub_self, evN] at h9
          rw [← h9]; exact hR.out.1
        clear hR
        obtain ⟨ea, ec, hev⟩ := IS.form HEF.out.1.er
        obtain ⟨en, hen⟩ : ∃ m, m = FIN.2.length := ⟨_, rfl⟩
        rw [← hen] at hev
        subst hev
        clear hen
        obtain ⟨g9, hg9⟩ : ∃ g, g = k0 + 1 := ⟨_, rfl⟩
        have hkl : k0 + 2 ≤ lo := by have h1 := HK1.out.2.2.2.2.2; have h2 := HLO.out; omega
        have hdd := HEF.out.1.d1
        have hgg := (OG.lt HEF.out.1.ln g6 rfl).1
        have qk := HEF.out.1.kb_
        have y0 : wr.cell? ⟨kb, 0, none⟩ = some (.int .i64 0) := cellOf qk 0 rfl
        have y1 : wr.cell? ⟨kb, 1, none⟩ = some (.slice none 0 0) := cellOf qk 1 rfl
        have y2 : wr.cell? ⟨kb, 2, none⟩ = some (.slice ea en ec) := cellOf qk 2 rfl
        have yf := frozOf qk 1
        have yl := ltOf qk
        have qs : (wr.setCell ⟨kb, 1, none⟩ (.slice (some ⟨g6, 0, none⟩) n c6)).heap[kb]? = some (.cells #[.int .i64 0, .slice (some ⟨g6, 0, none⟩) n c6, .slice ea en ec] 31) := by
          have := heap_setCell_same wr kb 1 _ _ (.slice (some ⟨g6, 0, none⟩) n c6) qk
          simpa using this
        obtain ⟨W3, hW3⟩ : ∃ W, W = wr.setCell ⟨kb, 1, none⟩ (.slice (some ⟨g6, 0, none⟩) n c6) := ⟨_, rfl⟩
        have q8 : W3.heap[g9]? = some (.cells #[.int .i64 0, .slice none 0 0, .slice none 0 0] 31) := by
          rw [hW3, hg9, heap_setCell_other _ _ _ _ (by simp; omega), HEF.out.2.1.block (k0 + 1) (by omega)]
          exact HK1.out.2.1
        rw [← hW3] at qs
        have u0 : W3.cell? ⟨kb, 0, none⟩ = some (.int .i64 0) := cellOf qs 0 rfl
        have u1 : W3.cell? ⟨kb, 1, none⟩ = some (.slice (some ⟨g6, 0, none⟩) n c6) := cellOf qs 1 rfl
        have u2 : W3.cell? ⟨kb, 2, none⟩ = some (.slice ea en ec) := cellOf qs 2 rfl
        have ul := ltOf qs
        have z0 : W3.cell? ⟨g9, 0, none⟩ = some (.int .i64 0) := cellOf q8 0 rfl
        have z1 : W3.cell? ⟨g9, 1, none⟩ = some (.slice none 0 0) := cellOf q8 1 rfl
        have z2 : W3.cell? ⟨g9, 2, none⟩ = some (.slice none 0 0) := cellOf q8 2 rfl
        have zf0 := frozOf q8 0
        have zf1 := frozOf q8 1
        have zf2 := frozOf q8 2
        have zl := ltOf q8
        obtain ⟨e1, e2, e3, e4, e5, e6⟩ := set3e (a' := .int .i64 0) (b' := .slice (some ⟨g6, 0, none⟩) n c6) (c' := .slice ea en ec) q8
        have HZ : Hid (OG 48 5 shC W3 lo (.slice (some ⟨g6, 0, none⟩) n c6) FIN.1 ∧ IS W3 lo (.slice ea en ec) FIN.2 ∧ Below lo V1 W3 ∧ g9 = k0 + 1 ∧ k0 + 2 ≤ lo) := by
          rw [hW3]
          refine ⟨?_, HEF.out.1.er.kept (fun q hq => heap_setCell_other _ _ _ _ (by simp; exact (HEF.out.1.d2 q hq).1)), HEF.out.2.1.setCell (by simp; omega) _, hg9, hkl⟩
          refine rowKept HEF.out.1.ln (fun q hq => ?_)
          have e9 : g6 = q := by simpa [Value.ownBlock] using hq
          exact heap_setCell_other _ _ _ _ (by simp; omega)
        have HW3 : Hid (W3 = wr.setCell ⟨kb, 1, none⟩ (.slice (some ⟨g6, 0, none⟩) n c6) ∧ g9 = k0 + 1) := ⟨hW3, hg9⟩
        clear qk qs q8 hW3 hg9 hdd hgg hkl HEF
        go_upto_region 30 with fail
        rw [← HW3.out.1, ← HW3.out.2]
        clear HW3 y0 y1 y2 yf yl
        go_wp2
        refine bodyPost_ret (by simp [results, Try.results5, go_sem, e1, e2, e3, e4, e5, e6, zl]; try rfl) rfl ?_
        refine ⟨.slice (some ⟨g6, 0, none⟩) n c6, .slice ea en ec, by rw [HF.out.1], ?_, ?_, ?_⟩
        · rw [HF.out.2.1, ← HK1.out.2.2.2.2.1]
          refine rowLow (B := lo) (rowKept HZ.out.1 (fun q hq => ?_)) (by have := HZ.out.2.2.2.2; omega)
          have h9 := (OG.lt HZ.out.1 q hq).1
          exact vset3_other (by have := HZ.out.2.2.2; omega)
        · rw [HF.out.2.2, ← HK1.out.2.2.2.2.1]
          refine IS.low (B := lo) (HZ.out.2.1.kept (fun q hq => ?_)) (by have := HZ.out.2.2.2.2; omega)
          have h9 := (World.ownsRow.lt HZ.out.2.1 q hq).1
          exact vset3_other (by have := HZ.out.2.2.2; omega)
        · rw [← HK1.out.2.2.2.2.1]
          have h9 : Below k0 w W3 := HK1.out.2.2.2.1.trans (HZ.out.2.2.1.mono (by have := HZ.out.2.2.2.2; omega))
          exact set3b h9 (by have := HZ.out.2.2.2; omega)

end Go.Proofs.Ytmpbcdolikafpaa
