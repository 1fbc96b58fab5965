/- Proved here: the model's CorrectLines. -/
import Derived.Test.YtfjcebgknpccbabClU
import Derived.Test.YtfjcebgknpccbabCrB
import Derived.Test.YtfjcebgknpccbabLnR
import Derived.Deep.AppendLies
import Derived.Deep.DeepCutAuto
namespace Go.Proofs.Ytfjcebgknpccbab
open Go.RowKit
set_option linter.unusedVariables false
set_option linter.unusedSimpArgs false

theorem rise_ends' {len : Int} : ∀ (ls : List Ln) (a : Int), -1 ≤ a → Rise len a ls → ∀ x ∈ flL ls, 0 ≤ x ∧ x ≤ len
  | [], _, _, _, _, hx => by simp [flL] at hx
  | y :: t, a, ha, h, x, hx => by
    have hc : flL (y :: t) = y.f :: y.t :: flL t := by simp [flL]
    rw [hc] at hx
    obtain ⟨h1, h2, h3, h4, h5⟩ := h
    rcases List.mem_cons.1 hx with rfl | hx
    · exact ⟨h2, by omega⟩
    rcases List.mem_cons.1 hx with rfl | hx
    · exact ⟨by omega, h4⟩
    · exact rise_ends' t y.t (by omega) h5 x hx
theorem OGkept' {α : Type} {T k : Nat} {enc : α → List Value} {w w' : World} {B : Nat} {v : Value} {s : List α} (h : OG T k enc w B v s) (hb : ∀ g, v.ownBlock = some g → w'.heap[g]? = w.heap[g]?) : OG T k enc w' B v s := by
  refine ⟨h.1, ?_⟩
  rcases h.2 with h' | ⟨g, cap, cur, rfl, hB, hg, hr⟩
  · exact Or.inl h'
  · exact Or.inr ⟨g, cap, cur, rfl, hB, by rw [hb g rfl]; exact hg, hr⟩
theorem own_some' {g n c g' : Nat} (h : (Value.slice (some ⟨g, 0, none⟩) n c).ownBlock = some g') : g = g' := Option.some.inj h
theorem lastE_snoc (es : List Int) (e : Int) : lastE (es ++ [e]) = e := by simp [lastE]
theorem tryS_yes {t : List Ln} {len : Int} {ws : List Int} {K : Int} {k : Nat} {d : Int} {S : ClS} (h1 : lnF (turnE S.1 k d) len = 0) (h2 : (erN t (turnE S.1 k d) ws K len.toNat : Int) < lastE S.2) : tryS t len ws K k d S = (true, (turnE S.1 k d, S.2 ++ [(erN t (turnE S.1 k d) ws K len.toNat : Int)])) := if_pos ⟨h1, h2⟩
theorem tryS_not {t : List Ln} {len : Int} {ws : List Int} {K : Int} {k : Nat} {d : Int} {S : ClS} (h : ¬ (lnF (turnE S.1 k d) len = 0 ∧ (erN t (turnE S.1 k d) ws K len.toNat : Int) < lastE S.2)) : tryS t len ws K k d S = (false, S) := if_neg h

/-- Where the model stands: the lines, the answer's block, the errors. -/
structure SpB (B kb n g c : Nat) (ev : Value) (S : ClS) (V : World) : Prop where
  ln : OG 57 2 lnC V B (.slice (some ⟨g, 0, none⟩) n c) S.1
  kb_ : V.heap[kb]? = some (.cells #[.int .i64 0, .slice none 0 0, ev] 30)
  er : IS V B ev S.2
  d1 : B ≤ kb ∧ g ≠ kb
  d2 : ∀ h, ev.ownBlock = some h → h ≠ kb ∧ h ≠ g
theorem SpB.next {B kb n g c : Nat} {ev : Value} {S : ClS} {V V' : World} (h : SpB B kb n g c ev S V) (hb : Below V.heap.size V V') : SpB B kb n g c ev S V' :=
  ⟨OG.below h.ln hb, (hb.block _ (ltOf h.kb_)).trans h.kb_, h.er.bel hb, h.d1, h.d2⟩
theorem SpB.nl {B kb n g c : Nat} {ev : Value} {S : ClS} {V : World} (h : SpB B kb n g c ev S V) : n = S.1.length := by
  obtain ⟨_, _, e⟩ := (OG.rg lnC_len h.ln).form; injection e
/-- A turn is taken. -/
theorem SpB.take {B kb n g c g' c' g8 c8 m : Nat} {ev : Value} {S : ClS} {L' : List Ln} {E : Int} {V V' w8 : World}
    (h : SpB B kb n g c ev S V) (hbV : Below V.heap.size V V') (hBV : B ≤ V.heap.size) (hn : OG 57 2 lnC V' V.heap.size (.slice (some ⟨g', 0, none⟩) n c') L')
    (hm : m = S.2.length + 1) (hown : w8.ownsRow B 2 1 (.slice (some ⟨g8, 0, none⟩) m c8) m (S.2.map (Value.int .i64) ++ [.int .i64 E]))
    (hgrow : V'.grownBy w8 ev.ownBlock) (hg8 : ev.ownBlock = some g8 ∨ g8 = V'.heap.size) :
    SpB B kb n g' c' (.slice (some ⟨g8, 0, none⟩) m c8) (L', S.2 ++ [E]) (w8.setCell ⟨kb, 2, none⟩ (.slice (some ⟨g8, 0, none⟩) m c8)) ∧ Below B V (w8.setCell ⟨kb, 2, none⟩ (.slice (some ⟨g8, 0, none⟩) m c8)) := by
  have h' := h.next hbV
  have hkl := ltOf h.kb_
  have hev : ∀ q, ev.ownBlock = some q → q < V.heap.size ∧ B ≤ q := fun q hq => ⟨(IS.lt h.er q hq).2, (IS.lt h.er q hq).1⟩
  have hgl := OG.lt hn g' rfl
  have hne8 : g8 ≠ kb ∧ g8 ≠ g' := by
    rcases hg8 with e | e
    · exact ⟨(h.d2 g8 e).1, by have := (hev g8 e).1; omega⟩
    · have := hbV.size; exact ⟨by omega, by omega⟩
  have hbl : ∀ q, q < V'.heap.size → (∀ x, ev.ownBlock = some x → x ≠ q) → w8.heap[q]? = V'.heap[q]? := fun q hq hne => hgrow.block q hq (fun e => hne q e.symm rfl)
  have k8 : w8.heap[kb]? = some (.cells #[.int .i64 0, .slice none 0 0, ev] 30) := (hbl kb (Nat.lt_of_lt_of_le hkl hbV.size) (fun x hx => (h.d2 x hx).1)).trans h'.kb_
  refine ⟨⟨?_, ?_, ?_, ⟨h.d1.1, by omega⟩, fun q hq => ?_⟩, ?_⟩
  · refine OG.low (OGkept' hn fun q hq => ?_) hBV
    have hq' : g' = q := own_some' hq
    subst hq'
    rw [heap_setCell_other _ _ _ _ (by simp; omega)]
    exact hbl g' hgl.2 (fun x hx => by have := (hev x hx).1; omega)
  · have := heap_setCell_same _ _ 2 _ _ (.slice (some ⟨g8, 0, none⟩) m c8) k8
    simpa using this
  · have h9 : IS w8 B (.slice (some ⟨g8, 0, none⟩) m c8) (S.2 ++ [E]) := IS.snocL (by rw [← hm]; exact hown)
    refine h9.kept fun q hq => ?_
    have hq' : g8 = q := own_some' hq
    exact heap_setCell_other _ _ _ _ (by simp; omega)
  · have hq' : g8 = q := own_some' hq
    omega
  · refine ((hbV.mono hBV).grown hgrow (by have := hbV.size; omega) (fun q hq => (hev q hq).2)).setCell h.d1.1 _

set_option maxRecDepth 10000 in
set_option maxHeartbeats 25600000 in
theorem spec_cr (K len R : Int) {w : World} {ad : Addr} {n c : Nat} {u : Value} {t : List Ln} {ws : List Int} (hnt : t.length ≤ 1048576) (ht : RG 2 lnC w (.slice (some ad) n c) t) (hu : RdI w u ws) :
    Calls Try.prog 7 #[.slice (some ad) n c, .int .i64 len, .agg #[u, .int .i64 K], .int .i64 R] w fun e w' => ∃ r r2, e = .returned (.agg #[.int .i64 (clC t len ws K R), r, r2]) ∧ OG 57 2 lnC w' w.heap.size r (clS t len ws K R).1 ∧ IS w' w.heap.size r2 (clS t len ws K R).2 ∧ Below w.heap.size w w' := by
  have hnn : n = t.length := by obtain ⟨_, _, e⟩ := ht.form; injection e
  obtain ⟨b, d, rfl⟩ := hu.form
  obtain ⟨m, hmm⟩ : ∃ m, m = ws.length := ⟨_, rfl⟩
  rw [← hmm] at hu ⊢
  obtain ⟨C, hC⟩ : ∃ C, C = peC t t len ws K := ⟨_, rfl⟩
  obtain ⟨E, hE⟩ : ∃ V, V = peV t t len ws K := ⟨_, rfl⟩
  obtain ⟨CC, hCC⟩ : ∃ C, C = clC t len ws K R := ⟨_, rfl⟩
  obtain ⟨CS, hCS⟩ : ∃ C, C = clS t len ws K R := ⟨_, rfl⟩
  rw [← hCC, ← hCS]
  obtain ⟨q, hq⟩ : ∃ r, r = decide (0 ≤ R ∧ R ≤ 30) := ⟨_, rfl⟩
  have HPE : Hid (∀ W, Below w.heap.size w W → Calls Try.prog 23 #[.slice (some ad) n c, .slice (some ad) n c, .int .i64 len, .agg #[.slice b m d, .int .i64 K]] W fun e w' => e = .returned (.agg #[.int .i64 C, .int .i64 E]) ∧ Below W.heap.size W w') := fun W hW => by
    rw [hC, hE]
    exact spec_pe K len hnt hnt (ht.below hW) (ht.below hW) (hu.below hW)
  have HP : Hid (∀ W, Calls Try.prog 24 #[.int .i64 R, .int .i64 0, .int .i64 30] W fun e w' => e = .returned (.bool q) ∧ w' = W) := spec_ins R 0 30 q hq
  have H : Hid (RG 2 lnC w (.slice (some ad) n c) t ∧ RdI w (.slice b m d) ws ∧ n = t.length ∧ C = peC t t len ws K ∧ E = peV t t len ws K ∧ CC = clC t len ws K R ∧ CS = clS t len ws K R ∧ q = decide (0 ≤ R ∧ R ≤ 30)) := ⟨ht, hu, hnn, hC, hE, hCC, hCS, hq⟩
  clear hnt ht hu hmm hC hE hCC hCS hq hnn
  obtain ⟨U, hU⟩ : ∃ U, U = (w.alloc (.cells #[.slice b m d, .int .i64 K] 33)).alloc (.cells #[.int .i64 0, .slice none 0 0, .slice none 0 0] 30) := ⟨_, rfl⟩
  obtain ⟨p, hp⟩ : ∃ p, p = w.heap.size := ⟨_, rfl⟩
  have HU : Hid (Below w.heap.size w U ∧ U.heap[p]? = some (.cells #[.slice b m d, .int .i64 K] 33) ∧ U.heap[p + 1]? = some (.cells #[.int .i64 0, .slice none 0 0, .slice none 0 0] 30) ∧ p = w.heap.size) := by
    refine ⟨by rw [hU]; (repeat' (first | (with_reducible exact Below.refl _ _) | (with_reducible assumption) | (with_reducible refine Below.setCell ?_ ?_ _) | (with_reducible refine Below.alloc ?_ ?_ _) | (with_reducible refine below_drewN ?_ _) | (with_reducible refine Below.drew ?_) | (with_reducible exact Nat.le_refl _) | omega | (simp; done) | (simp; omega))), ?_, ?_, hp⟩
    · rw [hU, hp]
      exact (Below.heap_alloc _ _ _ (by simp)).trans (heap_alloc_new w _)
    · rw [hU, hp]
      exact kn_at1 w _ _
  go_enter Try.func7, Try.ntmps7
  go_wp2_with (fail)
  rw [← hU, ← hp]
  clear hU hp
  refine (HPE.out U HU.out.1).mono ?_
  rintro e w1 ⟨rfl, hb1⟩
  have hpU : p + 1 < U.heap.size := ltOf HU.out.2.2.1
  have HB1 : Hid (Below w.heap.size w w1 ∧ w1.heap[p]? = some (.cells #[.slice b m d, .int .i64 K] 33) ∧ w1.heap[p + 1]? = some (.cells #[.int .i64 0, .slice none 0 0, .slice none 0 0] 30) ∧ p + 1 < w1.heap.size) := ⟨HU.out.1.trans (hb1.mono HU.out.1.size), (hb1.block p (by omega)).trans HU.out.2.1, (hb1.block _ hpU).trans HU.out.2.2.1, by have := hb1.size; omega⟩
  have HPW : Hid (p = w.heap.size) := HU.out.2.2.2
  obtain ⟨q0, q1, q2, qf, ql⟩ := cr_three HB1.out.2.2.1
  have qf0 := qf 0
  have qf1 := qf 1
  have qf2 := qf 2
  clear hb1 qf HU hpU HPE
  by_cases hC0 : C = 0
  case neg =>
    have hC1 : (C != 0) = true := by simpa using hC0
    have HN : Hid (CC = C ∧ CS = ([], [])) := by
      have h9 := H.out
      have := clC_no (R := R) (by rw [← h9.2.2.2.1]; exact hC0)
      exact ⟨by rw [h9.2.2.2.2.2.1, this.1, ← h9.2.2.2.1], by rw [h9.2.2.2.2.2.2.1, this.2]⟩
    go_wp2
    try simp only [Exit.inBlock, Exit.then]
    have s0 := heap_setCell_same _ _ 0 _ _ (.int .i64 C) HB1.out.2.2.1
    have s1 := heap_setCell_same _ _ 1 _ _ (.slice none 0 0) s0
    have s2 := heap_setCell_same _ _ 2 _ _ (.slice none 0 0) s1
    have kf : ((((w1.setCell ⟨p + 1, 0, none⟩ (.int .i64 C)).setCell ⟨p + 1, 1, none⟩ (.slice none 0 0)).setCell ⟨p + 1, 2, none⟩ (.slice none 0 0)).alloc (.cells #[.int .i64 C, .int .i64 E] 50)).heap[p + 1]? = some (.cells #[.int .i64 C, .slice none 0 0, .slice none 0 0] 30) := (Below.heap_alloc _ _ _ (by simp; exact ql)).trans (by simpa using s2)
    have HF : Hid (Below w.heap.size w ((((w1.setCell ⟨p + 1, 0, none⟩ (.int .i64 C)).setCell ⟨p + 1, 1, none⟩ (.slice none 0 0)).setCell ⟨p + 1, 2, none⟩ (.slice none 0 0)).alloc (.cells #[.int .i64 C, .int .i64 E] 50))) := by
      have hB := HB1.out.1
      have hq := HPW.out
      unfold Hid
      (repeat' (first | (with_reducible exact Below.refl _ _) | (with_reducible assumption) | (with_reducible refine Below.setCell ?_ ?_ _) | (with_reducible refine Below.alloc ?_ ?_ _) | (with_reducible refine below_drewN ?_ _) | (with_reducible refine Below.drew ?_) | (with_reducible exact Nat.le_refl _) | omega | (simp; done) | (simp; omega)))
    generalize ((((w1.setCell ⟨p + 1, 0, none⟩ (.int .i64 C)).setCell ⟨p + 1, 1, none⟩ (.slice none 0 0)).setCell ⟨p + 1, 2, none⟩ (.slice none 0 0)).alloc (.cells #[.int .i64 C, .int .i64 E] 50)) = WF at kf HF ⊢
    obtain ⟨z0, z1, z2, zf, zl⟩ := cr_three kf
    refine bodyPost_ret (by simp [results, Try.results7, go_sem, z0, z1, z2]; try rfl) rfl ⟨_, _, by rw [HN.out.1], ?_, ?_, HF.out⟩
    · rw [HN.out.2]; exact World.ownsRow_nil _ _ _ _
    · rw [HN.out.2]; exact World.ownsRow_nil _ _ _ _
  have HC0 : Hid (peC t t len ws K = 0) := H.out.2.2.2.1.symm.trans hC0
  subst hC0
  go_wp2_with (fail)
  refine (HP.out _).mono ?_
  rintro e w2 ⟨rfl, hw2⟩
  subst w2
  cases q with
  | false =>
    have HN : Hid (CC = 3 ∧ CS = ([], [])) := by
      have h9 := H.out
      have := clC_range HC0.out (of_decide_eq_false h9.2.2.2.2.2.2.2.symm)
      exact ⟨by rw [h9.2.2.2.2.2.1, this.1], by rw [h9.2.2.2.2.2.2.1, this.2]⟩
    go_wp2
    try simp only [Exit.inBlock, Exit.then]
    have s0 := heap_setCell_same _ _ 0 _ _ (.int .i64 3) HB1.out.2.2.1
    have s1 := heap_setCell_same _ _ 1 _ _ (.slice none 0 0) s0
    have s2 := heap_setCell_same _ _ 2 _ _ (.slice none 0 0) s1
    have kf : ((((w1.setCell ⟨p + 1, 0, none⟩ (.int .i64 3)).setCell ⟨p + 1, 1, none⟩ (.slice none 0 0)).setCell ⟨p + 1, 2, none⟩ (.slice none 0 0)).alloc (.cells #[.int .i64 0, .int .i64 E] 50)).heap[p + 1]? = some (.cells #[.int .i64 3, .slice none 0 0, .slice none 0 0] 30) := (Below.heap_alloc _ _ _ (by simp; exact ql)).trans (by simpa using s2)
    have HF : Hid (Below w.heap.size w ((((w1.setCell ⟨p + 1, 0, none⟩ (.int .i64 3)).setCell ⟨p + 1, 1, none⟩ (.slice none 0 0)).setCell ⟨p + 1, 2, none⟩ (.slice none 0 0)).alloc (.cells #[.int .i64 0, .int .i64 E] 50))) := by
      have hB := HB1.out.1
      have hq := HPW.out
      unfold Hid
      (repeat' (first | (with_reducible exact Below.refl _ _) | (with_reducible assumption) | (with_reducible refine Below.setCell ?_ ?_ _) | (with_reducible refine Below.alloc ?_ ?_ _) | (with_reducible refine below_drewN ?_ _) | (with_reducible refine Below.drew ?_) | (with_reducible exact Nat.le_refl _) | omega | (simp; done) | (simp; omega)))
    generalize ((((w1.setCell ⟨p + 1, 0, none⟩ (.int .i64 3)).setCell ⟨p + 1, 1, none⟩ (.slice none 0 0)).setCell ⟨p + 1, 2, none⟩ (.slice none 0 0)).alloc (.cells #[.int .i64 0, .int .i64 E] 50)) = WF at kf HF ⊢
    obtain ⟨z0, z1, z2, zf, zl⟩ := cr_three kf
    refine bodyPost_ret (by simp [results, Try.results7, go_sem, z0, z1, z2]; try rfl) rfl ⟨_, _, by rw [HN.out.1], ?_, ?_, HF.out⟩
    · rw [HN.out.2]; exact World.ownsRow_nil _ _ _ _
    · rw [HN.out.2]; exact World.ownsRow_nil _ _ _ _
  | true =>
  have hR := of_decide_eq_true H.out.2.2.2.2.2.2.2.symm
  obtain ⟨rn, hrn⟩ : ∃ rn : Nat, R = rn := ⟨R.toNat, by omega⟩
  subst hrn
  have hrn : rn ≤ 30 := by omega
  obtain ⟨N, hN⟩ : ∃ N, N = 2 * t.length := ⟨_, rfl⟩
  have hgood := cl_good HC0.out
  have hg12 := lnF_good hgood.1
  have hLl : len = (len.toNat : Int) ∧ len.toNat ≤ 60 := by omega
  have HRUN : Hid (CC = 0 ∧ CS = runS t len ws K N rn (t, [E]) ∧ OkS len N 1 (t, [E]) ∧ lnF t len = 0 ∧ OkW ws ∧ N = 2 * t.length ∧ (len = (len.toNat : Int) ∧ len.toNat ≤ 60)) := by
    have h9 := H.out
    have := clC_run HC0.out hR
    refine ⟨by rw [h9.2.2.2.2.2.1, this.1], ?_, by rw [hN]; exact start_ok hgood.1, hgood.1, (lpF_good (peC_good HC0.out).2).2.1, hN, hLl⟩
    rw [h9.2.2.2.2.2.2.1, this.2, h9.2.2.2.2.1, hN]
    rfl
  have hn12 : n ≤ 12 := by have := H.out.2.2.1; omega
  have HN24 : Hid (N = 2 * n) := by have := H.out.2.2.1; unfold Hid; omega
  clear hR hN hgood hg12 hLl
  obtain ⟨i0, hi0, hz0, hz1, hz2⟩ := info_parts info_Line
  obtain ⟨j0, hj0, hy0, hy1, hy2⟩ := info_parts info_i64
  obtain ⟨W0, hW0⟩ : ∃ W, W = w1.alloc (.cells #[.int .i64 0, .int .i64 E] 50) := ⟨_, rfl⟩
  obtain ⟨s1, hs1⟩ : ∃ s, s = w1.heap.size := ⟨_, rfl⟩
  have hb0 : Below w1.heap.size w1 W0 := by rw [hW0]; (repeat' (first | (with_reducible exact Below.refl _ _) | (with_reducible assumption) | (with_reducible refine Below.setCell ?_ ?_ _) | (with_reducible refine Below.alloc ?_ ?_ _) | (with_reducible refine below_drewN ?_ _) | (with_reducible refine Below.drew ?_) | (with_reducible exact Nat.le_refl _) | omega | (simp; done) | (simp; omega)))
  have HW0 : Hid (Below w.heap.size w W0 ∧ W0.heap[p]? = some (.cells #[.slice b m d, .int .i64 K] 33) ∧ W0.heap[p + 1]? = some (.cells #[.int .i64 0, .slice none 0 0, .slice none 0 0] 30) ∧ p + 2 ≤ W0.heap.size ∧ W0.heap[s1]? = some (.cells #[.int .i64 0, .int .i64 E] 50)) := by
    have h9 := HB1.out
    refine ⟨h9.1.trans (hb0.mono h9.1.size), (hb0.block _ (by omega)).trans h9.2.1, (hb0.block _ h9.2.2.2).trans h9.2.2.1, by have := hb0.size; omega, by rw [hW0, hs1]; exact heap_alloc_new w1 _⟩
  go_upto_region 6 with fail
  rw [← hW0, ← hs1]
  clear hW0 hs1 hb0 q0 q1 q2 qf0 qf1 qf2 ql HP HB1
  have HO : Hid ((W0.alloc (.cells #[] 57)).ownsRow W0.heap.size 57 2 (.slice (some ⟨W0.heap.size, 0, none⟩) 0 0) 0 []) := by
    have := World.ownsRow_lit (e := 57) (size := 2) (base := W0.heap.size) W0 #[] 0 (by simp) (by decide) (by simp)
    unfold Hid
    simpa using this
  have HR0 : Hid (RG 2 lnC (W0.alloc (.cells #[] 57)) (.slice (some ad) n c) t) := (H.out.1.below HW0.out.1).below (by (repeat' (first | (with_reducible exact Below.refl _ _) | (with_reducible assumption) | (with_reducible refine Below.setCell ?_ ?_ _) | (with_reducible refine Below.alloc ?_ ?_ _) | (with_reducible refine below_drewN ?_ _) | (with_reducible refine Below.drew ?_) | (with_reducible exact Nat.le_refl _) | omega | (simp; done) | (simp; omega))))
  have HL0 : Hid ((t.flatMap lnC).length = n * 2) := by unfold Hid; rw [ln_len, H.out.2.2.1]
  go_upto_region 7 with (at_builtin; refine wpList_append_own _ rfl _ _ 28 rfl W0.heap.size 57 i0 (.agg #[.int .i64 0, .int .i64 0]) 2 16 Try.underlying28 hi0 hz0 hz1 hz2 rfl (by decide) (.slice (some ⟨W0.heap.size, 0, none⟩) 0 0) 0 [] rfl HO.out ad n c (t.flatMap lnC) rfl HL0.out (rg_news HR0.out) (ln_one t) (by unfold maxLen; omega) (by omega) (by simp) ?_; intro v6 w6 hown6 hgrow6 hnn6)
  have hb6 : Below W0.heap.size W0 w6 := (show Below W0.heap.size W0 _ from by (repeat' (first | (with_reducible exact Below.refl _ _) | (with_reducible assumption) | (with_reducible refine Below.setCell ?_ ?_ _) | (with_reducible refine Below.alloc ?_ ?_ _) | (with_reducible refine below_drewN ?_ _) | (with_reducible refine Below.drew ?_) | (with_reducible exact Nat.le_refl _) | omega | (simp; done) | (simp; omega)))).grown hgrow6 (by simp) (fun q hq => by have := (World.ownsRow.lt HO.out q hq).1; omega)
  obtain ⟨g6, c6, hv6⟩ : ∃ g c, v6 = .slice (some ⟨g, 0, none⟩) n c := by
    rcases hown6.2 with ⟨h0, _⟩ | ⟨g, cap, cur, h1, _⟩
    · exact absurd (hnn6.1 h0).1 (by simp)
    · exact ⟨g, cap, by rw [h1]; simp⟩
  subst hv6
  have ho6 : OG 57 2 lnC w6 W0.heap.size (.slice (some ⟨g6, 0, none⟩) n c6) t := by
    unfold OG
    rw [← H.out.2.2.1]
    simpa using hown6
  clear hown6 hgrow6 hnn6 HO HR0 HL0
  have ks := (hb6.block s1 (ltOf HW0.out.2.2.2.2)).trans HW0.out.2.2.2.2
  obtain ⟨y0, y1, yf, yl⟩ := kn_two ks
  obtain ⟨W, hW⟩ : ∃ W, W = (w6.alloc (.cells #[.int .i64 E] 2)).alloc (.cells #[.int .i64 0, .slice none 0 0, .slice (some ⟨w6.heap.size, 0, none⟩) 1 1] 30) := ⟨_, rfl⟩
  obtain ⟨kb, hkb⟩ : ∃ k, k = w6.heap.size + 1 := ⟨_, rfl⟩
  have HS0 : Hid (SpB W0.heap.size kb n g6 c6 (.slice (some ⟨w6.heap.size, 0, none⟩) 1 1) (t, [E]) W ∧ Below W0.heap.size W0 W) := by
    have hbW : Below w6.heap.size w6 W := by rw [hW]; (repeat' (first | (with_reducible exact Below.refl _ _) | (with_reducible assumption) | (with_reducible refine Below.setCell ?_ ?_ _) | (with_reducible refine Below.alloc ?_ ?_ _) | (with_reducible refine below_drewN ?_ _) | (with_reducible refine Below.drew ?_) | (with_reducible exact Nat.le_refl _) | omega | (simp; done) | (simp; omega)))
    have hgl := OG.lt ho6 g6 rfl
    have hez : W.heap[w6.heap.size]? = some (.cells #[.int .i64 E] 2) := by rw [hW]; exact (Below.heap_alloc _ _ _ (by simp)).trans (heap_alloc_new w6 _)
    refine ⟨⟨OG.below ho6 hbW, by rw [hW, hkb]; exact kn_at1 w6 _ _, ?_, ⟨by have := hb6.size; omega, by omega⟩, fun h hh => ?_⟩, hb6.trans (hbW.mono hb6.size)⟩
    · unfold IS
      exact ⟨by simp, Or.inr ⟨w6.heap.size, 1, _, by simp, hb6.size, hez, by simp, by simp [maxLen], by simp, by simp⟩⟩
    · have hh' : w6.heap.size = h := own_some' hh
      omega
  clear yf ks ho6 hb6
  go_wp2_with (fail)
  rw [← hW, ← hkb]
  clear hW hkb y0 y1 yl
  have HKN : Hid (∀ V, Below W0.heap.size W0 V → V.cell? ⟨p, 0, none⟩ = some (.slice b m d) ∧ V.cell? ⟨p, 1, none⟩ = some (.int .i64 K) ∧ p < V.heap.size) := fun V hV => by
    have h := (hV.block p (by have := HW0.out.2.2.2.1; omega)).trans HW0.out.2.1
    exact ⟨(kn_two h).1, (kn_two h).2.1, (kn_two h).2.2.2⟩
  have HTU : Hid (∀ (V : World) (g c i : Nat) (fr : Bool) (dd : Int) (L : List Ln), i < n → (dd = 1 ∨ dd = -1) → lnF L len = 0 → RG 2 lnC V (.slice (some ⟨g, 0, none⟩) n c) L → Calls Try.prog 25 #[.slice (some ⟨g, 0, none⟩) n c, .int .i64 i, .bool fr, .int .i64 dd] V fun e w' => ∃ g' c', e = .returned (.slice (some ⟨g', 0, none⟩) n c') ∧ OG 57 2 lnC w' V.heap.size (.slice (some ⟨g', 0, none⟩) n c') (turnE L (2 * i + (if fr then 0 else 1)) dd) ∧ Below V.heap.size V w') := by
    intro V g c i fr dd L hi hdd hL hV
    have hg := lnF_good hL
    exact spec_tu i fr dd hi hn12 hdd (fun x hx => by have := rise_ends' L (-1) (by omega) hg.2.2.2 x hx; omega) hV
  have HER : Hid (∀ (V : World) (g cx : Nat) (L : List Ln), Below w.heap.size w V → lnF L len = 0 → RG 2 lnC V (.slice (some ⟨g, 0, none⟩) n cx) L → Calls Try.prog 27 #[.slice (some ad) n c, .slice (some ⟨g, 0, none⟩) n cx, .int .i64 len, .agg #[.slice b m d, .int .i64 K]] V fun e w' => e = .returned (.int .i64 (erN t L ws K len.toNat : Int)) ∧ Below V.heap.size V w') := by
    intro V g cx L hV hL hR
    have h9 := HRUN.out
    exact spec_er K h9.2.2.2.2.2.2.1 h9.2.2.2.2.2.2.2 (lnF_good h9.2.2.2.1).2.2.1 (lnF_good hL).2.2.1 h9.2.2.2.2.1 (H.out.1.below hV) hR (H.out.2.1.below hV)
  have hW0w : Below w.heap.size w W0 := HW0.out.1
  go_loopw [10, 11, 13] (fun s10 s11 s13 wr => ∃ (j g c : Nat) (ev : Value) (S : ClS), j ≤ rn ∧ s10 = .slice (some ⟨g, 0, none⟩) n c ∧ s11 = .int .i64 (lastE S.2) ∧ s13 = .int .i64 j ∧ Hid (SpB W0.heap.size kb n g c ev S wr ∧ Below W0.heap.size W0 wr ∧ OkS len N (1 + N * j) S ∧ runS t len ws K N (rn - j) S = CS)) (fun _ _ i _ => rn - (intOf i).toNat)
  case atStart => exact ⟨0, _, _, _, (t, [E]), Nat.zero_le _, rfl, rfl, rfl, ⟨HS0.out.1, HS0.out.2, HRUN.out.2.2.1, HRUN.out.2.1.symm⟩⟩
  case round =>
    clear HS0
    obtain ⟨j, g, cc, ev, S, hj, rfl, rfl, rfl, hR⟩ := hrel
    by_cases hlt : j < rn
    · have b0 : (0 : Int) ≤ (j : Int) := by omega
      have b1 : (j : Int) < (rn : Int) := by omega
      go_wp2_with (fail)
      go_loopw [10, 11, 14, 15] (fun s10 s11 s14 s15 wx => ∃ (k g' c' : Nat) (ev' : Value), k ≤ n ∧ s10 = .slice (some ⟨g', 0, none⟩) n c' ∧ s11 = .int .i64 (lastE (rdS t len ws K (2 * k) S).2.2) ∧ s14 = .bool (rdS t len ws K (2 * k) S).1 ∧ s15 = .int .i64 k ∧ Hid (SpB W0.heap.size kb n g' c' ev' (rdS t len ws K (2 * k) S).2 wx ∧ Below W0.heap.size W0 wx)) (fun _ _ _ i _ => n - (intOf i).toNat)
      case atStart => exact ⟨0, g, cc, ev, Nat.zero_le _, rfl, rfl, rfl, rfl, ⟨hR.out.1, hR.out.2.1⟩⟩
      case round =>
        obtain ⟨k, g2, c2, ev2, hk, rfl, rfl, rfl, rfl, hX⟩ := hrel
        have HOK : Hid (∀ e, e ≤ N → OkS len N (1 + N * (j + 1)) (rdS t len ws K e S).2) := fun e he => (rdS_ok e hR.out.2.2.1).mono (by rw [Nat.mul_add]; omega)
        by_cases hltk : k < n
        · have bk0 : (0 : Int) ≤ (k : Int) := by omega
          have bk1 : (k : Int) < (n : Int) := by omega
          go_wp2_with (fail)
          go_loopw [10, 11, 14, 16] (fun s10 s11 s14 s16 wy => ∃ (e g' c' : Nat) (ev' : Value), e ≤ 2 ∧ s10 = .slice (some ⟨g', 0, none⟩) n c' ∧ s11 = .int .i64 (lastE (rdS t len ws K (2 * k + e) S).2.2) ∧ s14 = .bool (rdS t len ws K (2 * k + e) S).1 ∧ s16 = .int .i64 e ∧ Hid (SpB W0.heap.size kb n g' c' ev' (rdS t len ws K (2 * k + e) S).2 wy ∧ Below W0.heap.size W0 wy)) (fun _ _ _ i _ => 2 - (intOf i).toNat)
          case atStart => exact ⟨0, g2, c2, ev2, Nat.zero_le _, rfl, rfl, rfl, rfl, ⟨hX.out.1, hX.out.2⟩⟩
          case round =>
            clear hX
            obtain ⟨e, g3, c3, ev3, he, rfl, rfl, rfl, rfl, hY⟩ := hrel
            by_cases hlte : e < 2
            · have be0 : (0 : Int) ≤ (e : Int) := by omega
              have be1 : (e : Int) < 2 := by omega
              obtain ⟨kk, hkk⟩ : ∃ kk, kk = 2 * k + e := ⟨_, rfl⟩
              have HKK : Hid (kk = 2 * k + (if ((e : Int) == 0) then 0 else 1)) := by
                unfold Hid
                rcases (by omega : e = 0 ∨ e = 1) with rfl | rfl
                · simpa using hkk
                · simpa using hkk
              have HO1 : Hid (OkS len N (1 + N * (j + 1)) (rdS t len ws K kk S).2) := HOK.out kk (by have := HN24.out; omega)
              rw [← hkk] at hY ⊢
              obtain ⟨RD, hRD⟩ : ∃ RD, RD = rdS t len ws K kk S := ⟨_, rfl⟩
              have HR1 : Hid (rdS t len ws K (2 * k + (e + 1)) S = (RD.1 || (atS t len ws K kk RD.2).1, (atS t len ws K kk RD.2).2)) := by unfold Hid; rw [show 2 * k + (e + 1) = kk + 1 by omega, hRD]; rfl
              rw [← hRD] at hY HO1 ⊢
              clear hRD hkk
              obtain ⟨tk, S1⟩ := RD
              obtain ⟨X, hXe⟩ : ∃ X, X = lastE S1.2 := ⟨_, rfl⟩
              have HX : Hid (X = lastE S1.2) := hXe
              rw [← hXe]
              clear hXe
              go_wp2_with (fail)
              obtain ⟨wy, hwy⟩ : ∃ x, x = wr := ⟨_, rfl⟩
              subst hwy
              go_loopw [10, 11, 14, 17] (fun s10 s11 s14 s17 wz => ∃ f : Nat, f ≤ 2 ∧ s10 = .slice (some ⟨g3, 0, none⟩) n c3 ∧ s11 = .int .i64 X ∧ s14 = .bool tk ∧ s17 = .int .i64 (2 * (f : Int) - 1) ∧ Hid (Below wy.heap.size wy wz ∧ (1 ≤ f → tryS t len ws K kk (-1) S1 = (false, S1)) ∧ (2 ≤ f → tryS t len ws K kk 1 S1 = (false, S1)))) (fun _ _ _ i _ => (3 - intOf i).toNat)
              case atStart => exact ⟨0, by omega, rfl, rfl, rfl, rfl, ⟨by (repeat' (first | (with_reducible exact Below.refl _ _) | (with_reducible assumption) | (with_reducible refine Below.setCell ?_ ?_ _) | (with_reducible refine Below.alloc ?_ ?_ _) | (with_reducible refine below_drewN ?_ _) | (with_reducible refine Below.drew ?_) | (with_reducible exact Nat.le_refl _) | omega | (simp; done) | (simp; omega))), fun h => by omega, fun h => by omega⟩⟩
              case round =>
                obtain ⟨f, hf, rfl, rfl, rfl, rfl, hZ⟩ := hrel
                by_cases hltf : f < 2
                · have bf : 2 * (f : Int) - 1 ≤ 1 := by omega
                  go_wp2_with (fail)
                  have e2 : IntKind.i64.wrap (2 * (f : Int) - 1 + 2) = 2 * (f : Int) - 1 + 2 := by rw [IntKind.wrap_i64]; omega
                  refine (HTU.out wr g3 c3 k ((e : Int) == 0) (2 * (f : Int) - 1) S1.1 hltk (by omega) HO1.out.lf (OG.rg lnC_len (hY.out.1.next hZ.out.1).ln)).mono ?_
                  rintro e9 w9 ⟨g9, c9, rfl, ho9, hb9⟩
                  rw [← HKK.out] at ho9
                  obtain ⟨L9, hL9⟩ : ∃ L, L = turnE S1.1 kk (2 * (f : Int) - 1) := ⟨_, rfl⟩
                  rw [← hL9] at ho9
                  have HL9 : Hid (L9 = turnE S1.1 kk (2 * (f : Int) - 1)) := hL9
                  have H9 : Hid (OG 57 2 lnC w9 wy.heap.size (.slice (some ⟨g9, 0, none⟩) n c9) L9 ∧ Below wy.heap.size wy w9 ∧ n = L9.length) := ⟨OG.low ho9 hZ.out.1.size, hZ.out.1.trans (hb9.mono hZ.out.1.size), by obtain ⟨_, _, e⟩ := (OG.rg lnC_len ho9).form; injection e⟩
                  clear ho9 hb9 hL9
                  go_wp2_with (fail)
                  refine (spec_lf len (by have := H9.out.2.2; omega) (OG.rg lnC_len H9.out.1)).mono ?_
                  rintro e10 w10 ⟨rfl, hb10⟩
                  obtain ⟨C9, hC9⟩ : ∃ C, C = lnF L9 len := ⟨_, rfl⟩
                  rw [← hC9]
                  have HC9 : Hid (C9 = lnF L9 len) := hC9
                  have H10 : Hid (OG 57 2 lnC w10 wy.heap.size (.slice (some ⟨g9, 0, none⟩) n c9) L9 ∧ Below wy.heap.size wy w10) := ⟨OG.below H9.out.1 hb10, H9.out.2.1.trans (hb10.mono H9.out.2.1.size)⟩
                  clear hb10 hC9
                  by_cases hc9 : C9 = 0
                  case neg =>
                    have hc9b : (C9 != 0) = true := by simpa using hc9
                    have HNo : Hid (tryS t len ws K kk (2 * (f : Int) - 1) S1 = (false, S1)) := tryS_not (fun h => hc9 (by rw [HC9.out, HL9.out]; exact h.1))
                    have HNX : Hid ((1 ≤ f + 1 → tryS t len ws K kk (-1) S1 = (false, S1)) ∧ (2 ≤ f + 1 → tryS t len ws K kk 1 S1 = (false, S1))) := by
                      have hn := HNo.out
                      have hz := hZ.out.2.1
                      rcases (by omega : f = 0 ∨ f = 1) with hf0 | hf0
                      · rw [hf0] at hn
                        exact ⟨fun _ => by simpa using hn, fun h => by omega⟩
                      · rw [hf0] at hn
                        exact ⟨fun _ => hz (by omega), fun _ => by simpa using hn⟩
                    go_wp2_with (fail)
                    go_roundw
                    case rel => exact ⟨f + 1, by omega, rfl, rfl, rfl, by go_num, ⟨by have h := H10.out.2; (repeat' (first | (with_reducible exact Below.refl _ _) | (with_reducible assumption) | (with_reducible refine Below.setCell ?_ ?_ _) | (with_reducible refine Below.alloc ?_ ?_ _) | (with_reducible refine below_drewN ?_ _) | (with_reducible refine Below.drew ?_) | (with_reducible exact Nat.le_refl _) | omega | (simp; done) | (simp; omega))), HNX.out.1, HNX.out.2⟩⟩
                    case measure => simp [intOf]; omega
                  have HC0' : Hid (lnF L9 len = 0) := HC9.out.symm.trans hc9
                  subst hc9
                  obtain ⟨kc0, kc1, kcl⟩ := HKN.out w10 (hY.out.2.trans (H10.out.2.mono hY.out.2.size))
                  go_wp2_with (fail)
                  refine (HER.out w10 g9 c9 L9 (hW0w.trans ((hY.out.2.trans (H10.out.2.mono hY.out.2.size)).mono hW0w.size)) HC0'.out (OG.rg lnC_len H10.out.1)).mono ?_
                  rintro e11 w11 ⟨rfl, hb11⟩
                  obtain ⟨E9, hE9⟩ : ∃ x, x = (erN t L9 ws K len.toNat : Int) := ⟨_, rfl⟩
                  rw [← hE9]
                  have HE9 : Hid (E9 = (erN t L9 ws K len.toNat : Int)) := hE9
                  have H11 : Hid (OG 57 2 lnC w11 wy.heap.size (.slice (some ⟨g9, 0, none⟩) n c9) L9 ∧ Below wy.heap.size wy w11) := ⟨OG.below H10.out.1 hb11, H10.out.2.trans (hb11.mono H10.out.2.size)⟩
                  clear hb11 hE9 kc0 kc1 kcl
                  by_cases hlE : E9 < X
                  case neg =>
                    have HNo : Hid (tryS t len ws K kk (2 * (f : Int) - 1) S1 = (false, S1)) := tryS_not (fun h => hlE (by rw [HE9.out, HX.out, HL9.out]; exact h.2))
                    have HNX : Hid ((1 ≤ f + 1 → tryS t len ws K kk (-1) S1 = (false, S1)) ∧ (2 ≤ f + 1 → tryS t len ws K kk 1 S1 = (false, S1))) := by
                      have hn := HNo.out
                      have hz := hZ.out.2.1
                      rcases (by omega : f = 0 ∨ f = 1) with hf0 | hf0
                      · rw [hf0] at hn
                        exact ⟨fun _ => by simpa using hn, fun h => by omega⟩
                      · rw [hf0] at hn
                        exact ⟨fun _ => hz (by omega), fun _ => by simpa using hn⟩
                    go_wp2_with (fail)
                    go_roundw
                    case rel => exact ⟨f + 1, by omega, rfl, rfl, rfl, by go_num, ⟨by have h := H11.out.2; (repeat' (first | (with_reducible exact Below.refl _ _) | (with_reducible assumption) | (with_reducible refine Below.setCell ?_ ?_ _) | (with_reducible refine Below.alloc ?_ ?_ _) | (with_reducible refine below_drewN ?_ _) | (with_reducible refine Below.drew ?_) | (with_reducible exact Nat.le_refl _) | omega | (simp; done) | (simp; omega))), HNX.out.1, HNX.out.2⟩⟩
                    case measure => simp [intOf]; omega
                  have HYes : Hid (tryS t len ws K kk (2 * (f : Int) - 1) S1 = (true, (L9, S1.2 ++ [E9]))) := by
                    unfold Hid
                    rw [tryS_yes (by rw [← HL9.out]; exact HC0'.out) (by rw [← HL9.out, ← HE9.out, ← HX.out]; exact hlE), ← HL9.out, ← HE9.out]
                  have HAT : Hid (atS t len ws K kk S1 = (true, (L9, S1.2 ++ [E9]))) := by
                    have hy := HYes.out
                    have hz := hZ.out.2.1
                    unfold Hid atS
                    rcases (by omega : f = 0 ∨ f = 1) with hf0 | hf0
                    · rw [hf0] at hy
                      have hy' : tryS t len ws K kk (-1) S1 = (true, (L9, S1.2 ++ [E9])) := by simpa using hy
                      rw [hy', if_pos rfl]
                    · rw [hf0] at hy
                      have hy' : tryS t len ws K kk 1 S1 = (true, (L9, S1.2 ++ [E9])) := by simpa using hy
                      rw [hz (by omega), if_neg (by simp)]
                      exact hy'
                  obtain ⟨u0, u1, u2, uf, ul⟩ := cr_three (hY.out.1.next H11.out.2).kb_
                  clear uf
                  obtain ⟨ea, ec, hev⟩ := hY.out.1.er.form
                  obtain ⟨en, hen⟩ : ∃ n, n = S1.2.length := ⟨_, rfl⟩
                  rw [← hen] at hev
                  subst hev
                  have hen2 : en ≤ 2000 := by
                    have h1 := HO1.out.em
                    have h2 : N * (j + 1) ≤ 24 * 30 := Nat.mul_le_mul (by have := HN24.out; omega) (by omega)
                    rw [hen]
                    exact Nat.le_trans h1 (by omega)
                  have HEN : Hid (en = S1.2.length) := hen
                  obtain ⟨VA, hVA⟩ : ∃ V, V = w11.alloc (.cells #[.int .i64 E9] 2) := ⟨_, rfl⟩
                  have hbA : Below w11.heap.size w11 VA := by rw [hVA]; (repeat' (first | (with_reducible exact Below.refl _ _) | (with_reducible assumption) | (with_reducible refine Below.setCell ?_ ?_ _) | (with_reducible refine Below.alloc ?_ ?_ _) | (with_reducible refine below_drewN ?_ _) | (with_reducible refine Below.drew ?_) | (with_reducible exact Nat.le_refl _) | omega | (simp; done) | (simp; omega)))
                  have hbV : Below wy.heap.size wy VA := H11.out.2.trans (hbA.mono H11.out.2.size)
                  have HA : Hid (Below wy.heap.size wy VA ∧ OG 57 2 lnC VA wy.heap.size (.slice (some ⟨g9, 0, none⟩) n c9) L9 ∧ VA.ownsRow W0.heap.size 2 1 (.slice ea en ec) en (S1.2.map (Value.int .i64)) ∧ W0.heap.size ≤ VA.heap.size ∧ VA.heap[w11.heap.size]? = some (.cells #[.int .i64 E9] 2)) := by
                    refine ⟨hbV, OG.below H11.out.1 hbA, ?_, Nat.le_trans hY.out.2.size hbV.size, by rw [hVA]; exact heap_alloc_new w11 _⟩
                    have h := (hY.out.1.next hbV).er
                    unfold IS at h
                    rw [← hen] at h
                    exact h
                  have HK8 : Hid (∀ w8, VA.grownBy w8 (.slice ea en ec : Value).ownBlock → w8.frozen? ⟨kb, 2, none⟩ = false ∧ w8.cell? ⟨kb, 2, none⟩ = some (.slice ea en ec) ∧ kb < w8.heap.size) := by
                    intro w8 hg
                    have h := (hY.out.1.next hbV)
                    have k8 := (hg.block kb (ltOf h.kb_) (fun e => (h.d2 kb e.symm).1 rfl)).trans h.kb_
                    exact ⟨frozOf k8 2, cellOf k8 2 rfl, ltOf k8⟩
                  clear hen hbA hbV
                  subst hVA
                  go_wp2_with (at_builtin; refine wpList_append_lies _ rfl _ _ 23 rfl W0.heap.size 2 j0 (.int .i64 0) 1 8 Try.underlying23 hj0 hy0 hy1 hy2 rfl (by decide) (.slice ea en ec) en (S1.2.map (Value.int .i64)) rfl HA.out.2.2.1 ⟨w11.heap.size, 0, none⟩ 1 1 [.int .i64 E9] rfl rfl (World.news_of_block (cs := #[.int .i64 E9]) (t := 2) (fr := (0, 0)) HA.out.2.2.2.2) (by simp [Value.oneCell']) (by omega) (by unfold maxLen; omega) (by omega) HA.out.2.2.2.1 _ rfl ?_; intro g8 c8 w8 hown8 hgrow8 hg8 hgl8; obtain ⟨k8f, k8c, k8l⟩ := HK8.out w8 hgrow8)
                  have hST := SpB.take hY.out.1 HA.out.1 hY.out.2.size HA.out.2.1 (by rw [HEN.out]) hown8 hgrow8 hg8
                  go_roundw
                  case rel => exact ⟨e + 1, g9, c9, _, by omega, rfl, by rw [HR1.out, HAT.out, lastE_snoc], by rw [HR1.out, HAT.out]; simp, by go_num, ⟨by rw [HR1.out, HAT.out]; exact hST.1, hY.out.2.trans hST.2⟩⟩
                  case measure => simp [intOf]; omega
                · obtain rfl : f = 2 := by omega
                  have bf : ¬ (2 * ((2 : Nat) : Int) - 1 ≤ 1) := by omega
                  have HAT : Hid (atS t len ws K kk S1 = (false, S1)) := by
                    unfold Hid atS
                    rw [hZ.out.2.1 (by omega), if_neg (by simp)]
                    exact hZ.out.2.2 (by omega)
                  have HZ : Hid (SpB W0.heap.size kb n g3 c3 ev3 S1 wr ∧ Below W0.heap.size W0 wr) := ⟨hY.out.1.next hZ.out.1, hY.out.2.trans (hZ.out.1.mono hY.out.2.size)⟩
                  clear hZ
                  go_wp2_with (fail)
                  go_roundw
                  case rel => exact ⟨e + 1, g3, c3, ev3, by omega, rfl, by rw [HR1.out, HAT.out, HX.out], by rw [HR1.out, HAT.out]; simp, by go_num, ⟨by rw [HR1.out, HAT.out]; exact HZ.out.1, HZ.out.2⟩⟩
                  case measure => simp [intOf]; omega
            · obtain rfl : e = 2 := by omega
              have be1 : ¬ (((2 : Nat) : Int) < 2) := by omega
              go_wp2_with (fail)
              go_roundw
              case rel => exact ⟨k + 1, g3, c3, ev3, by omega, rfl, rfl, rfl, by go_num, ⟨hY.out.1, hY.out.2⟩⟩
              case measure => simp [intOf]; omega
        · obtain rfl : k = n := by omega
          have bk1 : ¬ (k : Int) < (k : Int) := by omega
          obtain ⟨RD, hRD⟩ : ∃ RD, RD = rdS t len ws K (2 * k) S := ⟨_, rfl⟩
          have HST : Hid ((RD.1 = true → runS t len ws K N (rn - (j + 1)) RD.2 = CS) ∧ (RD.1 = false → RD.2 = CS) ∧ OkS len N (1 + N * (j + 1)) RD.2) := by
            have e1 : rn - j = (rn - (j + 1)) + 1 := by omega
            have h1 := hR.out.2.2.2
            have hRN : RD = rdS t len ws K N S := by rw [hRD, HN24.out]
            rw [e1, runS, ← hRN] at h1
            refine ⟨fun h => by rw [if_pos h] at h1; exact h1, fun h => by rw [if_neg (by simp [h])] at h1; exact h1, ?_⟩
            rw [hRD]
            exact HOK.out _ (by have := HN24.out; omega)
          rw [← hRD] at hX ⊢
          clear hRD HOK
          obtain ⟨tk, S2⟩ := RD
          cases tk with
          | true =>
            have HS1 : Hid (runS t len ws K N (rn - (j + 1)) S2 = CS ∧ OkS len N (1 + N * (j + 1)) S2) := ⟨HST.out.1 rfl, HST.out.2.2⟩
            clear HST
            go_wp2_with (fail)
            go_roundw
            case rel => exact ⟨j + 1, g2, c2, ev2, S2, by omega, rfl, rfl, by go_num, ⟨hX.out.1, hX.out.2, HS1.out.2, HS1.out.1⟩⟩
            case measure => simp [intOf]; omega
          | false =>
            have hS2 : S2 = CS := HST.out.2.1 rfl
            subst hS2
            clear HST
            have HT : Hid (SpB W0.heap.size kb k g2 c2 ev2 S2 wr ∧ Below W0.heap.size W0 wr) := ⟨hX.out.1, hX.out.2⟩
            clear hX
            obtain ⟨ea, ec, hev⟩ := HT.out.1.er.form
            obtain ⟨en, hen⟩ : ∃ n, n = S2.2.length := ⟨_, rfl⟩
            rw [← hen] at hev
            subst hev
            clear hen
            obtain ⟨u0, u1, u2, uf, ul⟩ := cr_three HT.out.1.kb_
            have uf1 := uf 1
            clear uf
            go_upto_region 32 with fail
            have k1 : (wr.setCell ⟨kb, 1, none⟩ (.slice (some ⟨g2, 0, none⟩) k c2)).heap[kb]? = some (.cells #[.int .i64 0, .slice (some ⟨g2, 0, none⟩) k c2, .slice ea en ec] 30) := by have := heap_setCell_same _ _ 1 _ _ (.slice (some ⟨g2, 0, none⟩) k c2) HT.out.1.kb_; simpa using this
            have HV : Hid (OG 57 2 lnC (wr.setCell ⟨kb, 1, none⟩ (.slice (some ⟨g2, 0, none⟩) k c2)) W0.heap.size (.slice (some ⟨g2, 0, none⟩) k c2) S2.1 ∧ IS (wr.setCell ⟨kb, 1, none⟩ (.slice (some ⟨g2, 0, none⟩) k c2)) W0.heap.size (.slice ea en ec) S2.2 ∧ Below W0.heap.size W0 (wr.setCell ⟨kb, 1, none⟩ (.slice (some ⟨g2, 0, none⟩) k c2))) := by
              have h := HT.out.1
              refine ⟨OGkept' h.ln (fun q hq => ?_), h.er.kept (fun q hq => ?_), HT.out.2.setCell h.d1.1 _⟩
              · have hq' : g2 = q := own_some' hq
                exact heap_setCell_other _ _ _ _ (by have := h.d1.2; simp; omega)
              · exact heap_setCell_other _ _ _ _ (by have := (h.d2 q hq).1; simp; omega)
            clear u0 u1 u2 uf1 ul HT
            generalize wr.setCell ⟨kb, 1, none⟩ (.slice (some ⟨g2, 0, none⟩) k c2) = V1 at k1 HV ⊢
            have k2 : V1.heap[p + 1]? = some (.cells #[.int .i64 0, .slice none 0 0, .slice none 0 0] 30) := (HV.out.2.2.block _ (by have := HW0.out.2.2.2.1; omega)).trans HW0.out.2.2.1
            obtain ⟨u0, u1, u2, uf, ul⟩ := cr_three k1
            obtain ⟨r0, r1, r2, rf, rl⟩ := cr_three k2
            have rf0 := rf 0
            have rf1 := rf 1
            have rf2 := rf 2
            have s0 := heap_setCell_same _ _ 0 _ _ (.int .i64 0) k2
            have s1' := heap_setCell_same _ _ 1 _ _ (.slice (some ⟨g2, 0, none⟩) k c2) s0
            have s2 := heap_setCell_same _ _ 2 _ _ (.slice ea en ec) s1'
            have kf : (((V1.setCell ⟨p + 1, 0, none⟩ (.int .i64 0)).setCell ⟨p + 1, 1, none⟩ (.slice (some ⟨g2, 0, none⟩) k c2)).setCell ⟨p + 1, 2, none⟩ (.slice ea en ec)).heap[p + 1]? = some (.cells #[.int .i64 0, .slice (some ⟨g2, 0, none⟩) k c2, .slice ea en ec] 30) := by simpa using s2
            have HF : Hid (OG 57 2 lnC (((V1.setCell ⟨p + 1, 0, none⟩ (.int .i64 0)).setCell ⟨p + 1, 1, none⟩ (.slice (some ⟨g2, 0, none⟩) k c2)).setCell ⟨p + 1, 2, none⟩ (.slice ea en ec)) w.heap.size (.slice (some ⟨g2, 0, none⟩) k c2) S2.1 ∧ IS (((V1.setCell ⟨p + 1, 0, none⟩ (.int .i64 0)).setCell ⟨p + 1, 1, none⟩ (.slice (some ⟨g2, 0, none⟩) k c2)).setCell ⟨p + 1, 2, none⟩ (.slice ea en ec)) w.heap.size (.slice ea en ec) S2.2 ∧ Below w.heap.size w (((V1.setCell ⟨p + 1, 0, none⟩ (.int .i64 0)).setCell ⟨p + 1, 1, none⟩ (.slice (some ⟨g2, 0, none⟩) k c2)).setCell ⟨p + 1, 2, none⟩ (.slice ea en ec))) := by
              have hpw := HPW.out
              have hp4 := HW0.out.2.2.2.1
              have hB1 := hW0w.trans (HV.out.2.2.mono hW0w.size)
              have hoff : ∀ q, W0.heap.size ≤ q → (((V1.setCell ⟨p + 1, 0, none⟩ (.int .i64 0)).setCell ⟨p + 1, 1, none⟩ (.slice (some ⟨g2, 0, none⟩) k c2)).setCell ⟨p + 1, 2, none⟩ (.slice ea en ec)).heap[q]? = V1.heap[q]? := fun q hq => by
                rw [heap_setCell_other _ _ _ _ (by simp; omega), heap_setCell_other _ _ _ _ (by simp; omega), heap_setCell_other _ _ _ _ (by simp; omega)]
              refine ⟨OG.low (OGkept' HV.out.1 (fun q hq => hoff q (OG.lt HV.out.1 q hq).1)) hW0w.size, IS.low (HV.out.2.1.kept (fun q hq => hoff q (IS.lt HV.out.2.1 q hq).1)) hW0w.size, ?_⟩
              exact ((hB1.setCell (by simp; omega) _).setCell (by simp; omega) _).setCell (by simp; omega) _
            clear k1 k2 uf rf s0 s1' s2
            go_wp2
            try simp only [Exit.inBlock, Exit.then]
            generalize ((V1.setCell ⟨p + 1, 0, none⟩ (.int .i64 0)).setCell ⟨p + 1, 1, none⟩ (.slice (some ⟨g2, 0, none⟩) k c2)).setCell ⟨p + 1, 2, none⟩ (.slice ea en ec) = WF at kf HF ⊢
            obtain ⟨z0, z1, z2, zf, zl⟩ := cr_three kf
            refine bodyPost_ret (by simp [results, Try.results7, go_sem, z0, z1, z2]; try rfl) rfl ⟨_, _, by rw [HRUN.out.1], HF.out.1, HF.out.2.1, HF.out.2.2⟩
    · have b1 : ¬ (j : Int) < (rn : Int) := by omega
      have hS : S = CS := by
        have h := hR.out.2.2.2
        have e1 : rn - j = 0 := by omega
        rw [e1, runS] at h
        exact h
      subst hS
      have HT : Hid (SpB W0.heap.size kb n g cc ev S wr ∧ Below W0.heap.size W0 wr) := ⟨hR.out.1, hR.out.2.1⟩
      clear hR
      obtain ⟨ea, ec, hev⟩ := HT.out.1.er.form
      obtain ⟨en, hen⟩ : ∃ n, n = S.2.length := ⟨_, rfl⟩
      rw [← hen] at hev
      subst hev
      clear hen
      obtain ⟨u0, u1, u2, uf, ul⟩ := cr_three HT.out.1.kb_
      have uf1 := uf 1
      clear uf
      go_upto_region 32 with fail
      have k1 : (wr.setCell ⟨kb, 1, none⟩ (.slice (some ⟨g, 0, none⟩) n cc)).heap[kb]? = some (.cells #[.int .i64 0, .slice (some ⟨g, 0, none⟩) n cc, .slice ea en ec] 30) := by have := heap_setCell_same _ _ 1 _ _ (.slice (some ⟨g, 0, none⟩) n cc) HT.out.1.kb_; simpa using this
      have HV : Hid (OG 57 2 lnC (wr.setCell ⟨kb, 1, none⟩ (.slice (some ⟨g, 0, none⟩) n cc)) W0.heap.size (.slice (some ⟨g, 0, none⟩) n cc) S.1 ∧ IS (wr.setCell ⟨kb, 1, none⟩ (.slice (some ⟨g, 0, none⟩) n cc)) W0.heap.size (.slice ea en ec) S.2 ∧ Below W0.heap.size W0 (wr.setCell ⟨kb, 1, none⟩ (.slice (some ⟨g, 0, none⟩) n cc))) := by
        have h := HT.out.1
        refine ⟨OGkept' h.ln (fun q hq => ?_), h.er.kept (fun q hq => ?_), HT.out.2.setCell h.d1.1 _⟩
        · have hq' : g = q := own_some' hq
          exact heap_setCell_other _ _ _ _ (by have := h.d1.2; simp; omega)
        · exact heap_setCell_other _ _ _ _ (by have := (h.d2 q hq).1; simp; omega)
      clear u0 u1 u2 uf1 ul HT
      generalize wr.setCell ⟨kb, 1, none⟩ (.slice (some ⟨g, 0, none⟩) n cc) = V1 at k1 HV ⊢
      have k2 : V1.heap[p + 1]? = some (.cells #[.int .i64 0, .slice none 0 0, .slice none 0 0] 30) := (HV.out.2.2.block _ (by have := HW0.out.2.2.2.1; omega)).trans HW0.out.2.2.1
      obtain ⟨u0, u1, u2, uf, ul⟩ := cr_three k1
      obtain ⟨r0, r1, r2, rf, rl⟩ := cr_three k2
      have rf0 := rf 0
      have rf1 := rf 1
      have rf2 := rf 2
      have s0 := heap_setCell_same _ _ 0 _ _ (.int .i64 0) k2
      have s1' := heap_setCell_same _ _ 1 _ _ (.slice (some ⟨g, 0, none⟩) n cc) s0
      have s2 := heap_setCell_same _ _ 2 _ _ (.slice ea en ec) s1'
      have kf : (((V1.setCell ⟨p + 1, 0, none⟩ (.int .i64 0)).setCell ⟨p + 1, 1, none⟩ (.slice (some ⟨g, 0, none⟩) n cc)).setCell ⟨p + 1, 2, none⟩ (.slice ea en ec)).heap[p + 1]? = some (.cells #[.int .i64 0, .slice (some ⟨g, 0, none⟩) n cc, .slice ea en ec] 30) := by simpa using s2
      have HF : Hid (OG 57 2 lnC (((V1.setCell ⟨p + 1, 0, none⟩ (.int .i64 0)).setCell ⟨p + 1, 1, none⟩ (.slice (some ⟨g, 0, none⟩) n cc)).setCell ⟨p + 1, 2, none⟩ (.slice ea en ec)) w.heap.size (.slice (some ⟨g, 0, none⟩) n cc) S.1 ∧ IS (((V1.setCell ⟨p + 1, 0, none⟩ (.int .i64 0)).setCell ⟨p + 1, 1, none⟩ (.slice (some ⟨g, 0, none⟩) n cc)).setCell ⟨p + 1, 2, none⟩ (.slice ea en ec)) w.heap.size (.slice ea en ec) S.2 ∧ Below w.heap.size w (((V1.setCell ⟨p + 1, 0, none⟩ (.int .i64 0)).setCell ⟨p + 1, 1, none⟩ (.slice (some ⟨g, 0, none⟩) n cc)).setCell ⟨p + 1, 2, none⟩ (.slice ea en ec))) := by
        have hpw := HPW.out
        have hp4 := HW0.out.2.2.2.1
        have hB1 := hW0w.trans (HV.out.2.2.mono hW0w.size)
        have hoff : ∀ q, W0.heap.size ≤ q → (((V1.setCell ⟨p + 1, 0, none⟩ (.int .i64 0)).setCell ⟨p + 1, 1, none⟩ (.slice (some ⟨g, 0, none⟩) n cc)).setCell ⟨p + 1, 2, none⟩ (.slice ea en ec)).heap[q]? = V1.heap[q]? := fun q hq => by
          rw [heap_setCell_other _ _ _ _ (by simp; omega), heap_setCell_other _ _ _ _ (by simp; omega), heap_setCell_other _ _ _ _ (by simp; omega)]
        refine ⟨OG.low (OGkept' HV.out.1 (fun q hq => hoff q (OG.lt HV.out.1 q hq).1)) hW0w.size, IS.low (HV.out.2.1.kept (fun q hq => hoff q (IS.lt HV.out.2.1 q hq).1)) hW0w.size, ?_⟩
        exact ((hB1.setCell (by simp; omega) _).setCell (by simp; omega) _).setCell (by simp; omega) _
      clear k1 k2 uf rf s0 s1' s2
      go_wp2
      try simp only [Exit.inBlock, Exit.then]
      generalize ((V1.setCell ⟨p + 1, 0, none⟩ (.int .i64 0)).setCell ⟨p + 1, 1, none⟩ (.slice (some ⟨g, 0, none⟩) n cc)).setCell ⟨p + 1, 2, none⟩ (.slice ea en ec) = WF at kf HF ⊢
      obtain ⟨z0, z1, z2, zf, zl⟩ := cr_three kf
      refine bodyPost_ret (by simp [results, Try.results7, go_sem, z0, z1, z2]; try rfl) rfl ⟨_, _, by rw [HRUN.out.1], HF.out.1, HF.out.2.1, HF.out.2.2⟩

end Go.Proofs.Ytfjcebgknpccbab
