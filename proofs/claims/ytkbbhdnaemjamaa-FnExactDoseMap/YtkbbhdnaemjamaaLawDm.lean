/- Proved here: 'the program's DoseMap answers as the model's; it writes into no argument and keeps nothing of one; its answer owns its memory, behind another call too', for every list of shots and every box, without a condition. -/
import Derived.Test.YtkbbhdnaemjamaaDmD
import Derived.Test.YtkbbhdnaemjamaaRwR
import Derived.Test.YtkbbhdnaemjamaaShO
import Derived.Test.YtkbbhdnaemjamaaFloat
import Derived.Test.YtkbbhdnaemjamaaRows
namespace Go.Proofs.Ytkbbhdnaemjamaa
open Go.ChangeShapes Go.WideShapes Go.ChangeAt Go.RowKit Go.Joins
set_option linter.unusedVariables false
set_option linter.unusedSimpArgs false

theorem blkD {V : World} {k : Nat} {o : Obj} (h : V.heap[k]? = some o) : k < V.heap.size := by
  rcases Nat.lt_or_ge k V.heap.size with h' | h'
  · exact h'
  · rw [Array.getElem?_eq_none h'] at h; cases h
structure SX (w : World) (X : Obj) (W : World) : Prop where
  bl : Below w.heap.size w W
  bx : W.heap[w.heap.size]? = some X
theorem SX.next {w : World} {X : Obj} {V V' : World} (h : SX w X V) (hb : Below V.heap.size V V') : SX w X V' :=
  ⟨h.bl.trans (hb.mono h.bl.size), (hb.block _ (blkD h.bx)).trans h.bx⟩
/-- What stands while the law goes on. -/
structure SD (w : World) (X : Obj) (k1 K1 : Nat) (oq og : Obj) (B0 B1 : Nat) (va vb : Value) (L M : List (List Int)) (us vs : List Value) (V : World) : Prop where
  sx : SX w X V
  k0 : V.heap[k1]? = some oq
  kg : V.heap[K1]? = some og
  rs : RI V B0 va L us
  rg : RI V B1 vb M vs
theorem SD.next {w : World} {X : Obj} {k1 K1 : Nat} {oq og : Obj} {B0 B1 : Nat} {va vb : Value} {L M : List (List Int)} {us vs : List Value} {V V' : World} (h : SD w X k1 K1 oq og B0 B1 va vb L M us vs V) (hb : Below V.heap.size V V') : SD w X k1 K1 oq og B0 B1 va vb L M us vs V' :=
  ⟨h.sx.next hb, (hb.block _ (blkD h.k0)).trans h.k0, (hb.block _ (blkD h.kg)).trans h.kg, h.rs.below hb, h.rg.below hb⟩
/-- What lies where. -/
structure SP (w : World) (k1 g3 K1 N1 B1 : Nat) (va vb : Value) (L : List (List Int)) (us vs : List Value) : Prop where
  a : w.heap.size < N1
  b : k1 < N1
  c : N1 ≤ g3
  d : g3 < B1
  e : B1 ≤ K1
  f : ∀ g, va.ownBlock = some g → g < N1
  g : ∀ i, i < L.length → ∀ g, (rat us i).ownBlock = some g → g < N1
  h : ∀ g, vb.ownBlock = some g → g < K1
  i : ∀ i, i < L.length → ∀ g, (rat vs i).ownBlock = some g → g < K1
theorem SD.only {w : World} {X : Obj} {k1 K1 g3 N1 : Nat} {oq og : Obj} {B0 B1 : Nat} {va vb : Value} {L : List (List Int)} {us vs : List Value} {V V' : World} (h : SD w X k1 K1 oq og B0 B1 va vb L L us vs V) (p : SP w k1 g3 K1 N1 B1 va vb L us vs) (o : Only g3 V V') : SD w X k1 K1 oq og B0 B1 va vb L L us vs V' := by
  have pa := p.a
  have pb := p.b
  have pc := p.c
  have pd := p.d
  have pe := p.e
  refine ⟨⟨h.sx.bl.trans (o.below (by omega)), (o.block _ (by omega)).trans h.sx.bx⟩, (o.block _ (by omega)).trans h.k0, (o.block _ (by omega)).trans h.kg, h.rs.kept (fun g hg => o.block g ?_) (fun i hi g hg => o.block g ?_), h.rg.kept (fun g hg => o.block g ?_) (fun i hi g hg => o.block g ?_)⟩
  · have := p.f g hg; omega
  · have := p.g i hi g hg; omega
  · have := (rowBlk h.rg.o hg).1; omega
  · have := (rowBlk (h.rg.bx i hi) hg).1; omega
theorem SD.mark {w : World} {X : Obj} {k1 K1 g3 N1 : Nat} {oq og : Obj} {B0 B1 : Nat} {va vb : Value} {L M : List (List Int)} {us vs : List Value} {V V' : World} (h : SD w X k1 K1 oq og B0 B1 va vb L L us vs V) (p : SP w k1 g3 K1 N1 B1 va vb L us vs) (o : SaveV vs L.length V V') (hr : RI V' B1 vb M vs) : SD w X k1 K1 oq og B0 B1 va vb L M us vs V' := by
  have pa := p.a
  have pb := p.b
  have pc := p.c
  have pd := p.d
  have pe := p.e
  have hlow : ∀ k, k < B1 → k < V.heap.size → V'.heap[k]? = V.heap[k]? := fun k hk hkv => o.block k hkv fun i hi e => by
    have := (rowBlk (h.rg.bx i hi) e).1
    omega
  have hx := blkD h.sx.bx
  refine ⟨⟨h.sx.bl.trans ⟨o.os, o.tape, o.output, o.size, fun k hk => hlow k (by omega) (by omega)⟩, (hlow _ (by omega) hx).trans h.sx.bx⟩, (hlow _ (by omega) (blkD h.k0)).trans h.k0, (o.block _ (blkD h.kg) fun i hi e => by have := p.i i hi _ e; omega).trans h.kg, h.rs.kept (fun g hg => hlow g ?_ (rowBlk h.rs.o hg).2.1) (fun i hi g hg => hlow g ?_ (rowBlk (h.rs.bx i hi) hg).2.1), hr⟩
  · have := p.f g hg; omega
  · have := p.g i hi g hg; omega
theorem dmL_small (l : List Sh) (f : Bx) : (dmL l f).length ≤ 24 ∧ ∀ i, ((dmL l f).getD i []).length ≤ 24 := by
  unfold dmL
  split
  · rename_i h
    have h2 := frF_box (dmC_good h).2
    exact totG _ _ _ (by unfold htN; omega) (by unfold wdN; omega)
  · simp
theorem totI_le {ls : List (List Int)} (h : ∀ i, (ls.getD i []).length ≤ 24) (i : Nat) : totI ls i ≤ 24 * i := by
  induction i with
  | zero => simp [totI]
  | succ i ih => rw [totI]; have := h i; omega
theorem mkR_form {ls : List (List Int)} {w : World} {B : Nat} {v : Value} {vs : List Value} (h : RI w B v (mkR ls ls.length) vs) : ∃ a c, v = .slice a ls.length c := by
  have := h.form; rwa [mkR_len] at this

set_option maxRecDepth 10000 in
set_option maxHeartbeats 8000000 in
theorem law_dm {a : Option Addr} {n c : Nat} (l : List Sh) (hm : l.length ≤ maxLen) {w : World} (h : RG 5 shC w (.slice a n c) l) (f : Bx) :
    Calls Try.prog 7 #[.slice a n c, .agg #[.int .i64 f.x0, .int .i64 f.y0, .int .i64 f.x1, .int .i64 f.y1]] w fun e w' => e = .returned (.bool true) ∧ Below w.heap.size w w' := by
  have H : Hid (RG 5 shC w (.slice a n c) l ∧ n = l.length) := ⟨h, h.len⟩
  have hmn : n ≤ maxLen := by rw [h.len]; exact hm
  clear h hm
  obtain ⟨C, hC⟩ : ∃ C, C = dmC l f := ⟨_, rfl⟩
  obtain ⟨L, hL⟩ : ∃ L, L = dmL l f := ⟨_, rfl⟩
  have HSP : Hid (l.length ≤ 1048576 → ∀ {W : World} {v : Value}, RG 5 shC W v l → Calls Try.prog 27 #[v, .agg #[.int .i64 f.x0, .int .i64 f.y0, .int .i64 f.x1, .int .i64 f.y1]] W fun e w' => ∃ vr vs, e = .returned (.agg #[.int .i64 C, vr]) ∧ RI w' W.heap.size vr L vs ∧ Below W.heap.size W w') := fun hs {W v} h => by rw [hC, hL]; exact spec_dose l f hs h
  have HIM : Hid (l.length ≤ 1048576 → ∀ {W : World} {v : Value}, RG 5 shC W v l → Calls Try.prog 29 #[v, .agg #[.int .i64 f.x0, .int .i64 f.y0, .int .i64 f.x1, .int .i64 f.y1]] W fun e w' => ∃ vr vs, e = .returned (.agg #[.int .i64 C, vr]) ∧ RI w' W.heap.size vr L vs ∧ Below W.heap.size W w') := fun hs {W v} h => by rw [hC, hL]; exact impl_dose l f hs h
  have HL : Hid (L.length ≤ 1000 ∧ (∀ i, i ≤ L.length → totI L i ≤ 20000000) ∧ (∀ i, (L.getD i []).length ≤ 1048576)) := by
    have h1 := dmL_small l f
    rw [← hL] at h1
    refine ⟨by omega, fun i hi => ?_, fun i => by have := h1.2 i; omega⟩
    have := totI_le h1.2 i
    omega
  clear hC hL
  obtain ⟨X, hX⟩ : ∃ X, X = Obj.cells #[.int .i64 f.x0, .int .i64 f.y0, .int .i64 f.x1, .int .i64 f.y1] 30 := ⟨_, rfl⟩
  have TX : Hid (∀ W : World, SX w X W → W.cell? ⟨w.heap.size, 0, none⟩ = some (.int .i64 f.x0) ∧ W.cell? ⟨w.heap.size, 1, none⟩ = some (.int .i64 f.y0) ∧ W.cell? ⟨w.heap.size, 2, none⟩ = some (.int .i64 f.x1) ∧ W.cell? ⟨w.heap.size, 3, none⟩ = some (.int .i64 f.y1) ∧ w.heap.size < W.heap.size) := fun W h => by
    have h1 := h.bx
    rw [hX] at h1
    obtain ⟨x0, x1, x2, x3, _, x4⟩ := wt_four h1
    exact ⟨x0, x1, x2, x3, x4⟩
  have HN : Hid (SX w X (w.alloc (.cells #[.int .i64 f.x0, .int .i64 f.y0, .int .i64 f.x1, .int .i64 f.y1] 30))) := by rw [← hX]; exact ⟨by (repeat' (first | (with_reducible exact Below.refl _ _) | (with_reducible assumption) | (with_reducible refine Below.setCell ?_ ?_ _) | (with_reducible refine Below.alloc ?_ ?_ _) | (with_reducible refine below_drewN ?_ _) | (with_reducible refine Below.drew ?_) | (with_reducible exact Nat.le_refl _) | omega | (simp; done) | (simp; omega))), heap_alloc_new w _⟩
  clear hX
  go_enter Try.func7, Try.ntmps7
  go_wp2_with (fail)
  refine (szShotS_gen a n c 1048576 _ (by omega) (by omega) hmn).mono ?_
  rintro e w1 ⟨r, rfl, hr, hb0⟩
  have B1 : Hid (SX w X w1) := HN.out.next hb0
  clear hb0
  rcases hr with hneg | ⟨h1, h2, h3⟩
  · go_wp2
    go_returns
    exact ⟨rfl, B1.out.bl⟩
  have HLN : Hid (l.length ≤ 1048576) := by unfold Hid; rw [← H.out.2]; omega
  have hneg : ¬ r < 0 := by omega
  clear h3 h1 h2
  obtain ⟨p0, p1, p2, p3, p4⟩ := TX.out _ B1.out
  go_wp2_with (fail)
  refine wp_region_float (by kernel_rfl) (fun hS => ?_)
  refine fl_take (i := 0) (d := 18) (v := .slice a n c) rfl rfl rfl (by kernel_rfl) (by kernel_rfl) (by kernel_rfl) hS ?_ ?_
  · intro w' hk; go_simp
  simp only [Act.put, List.setIfInBounds_toArray, List.set_cons_zero, List.set_cons_succ]
  refine fl_take (i := 2) (d := 20) (v := .agg #[.int .i64 f.x0, .int .i64 f.y0, .int .i64 f.x1, .int .i64 f.y1]) rfl rfl rfl (by kernel_rfl) (by kernel_rfl) (by kernel_rfl) hS ?_ ?_
  · intro w' hk; go_simp
  simp only [Act.put, List.setIfInBounds_toArray, List.set_cons_zero, List.set_cons_succ]
  refine float_pend (z := #[.int .i64 0, .slice none 0 0]) (T := 55) (ja := 5) (js := 6) rfl rfl rfl rfl rfl (fun a w => by go_simp) [1, 3, 4] _ _ _ (fun _ => False) (by kernel_rfl) (by kernel_rfl) ?_ (Nat.le_refl _) (fun _ h => h.elim) hS
  intro z1 hW1
  have hB1 : Below w1.heap.size w1 z1 := hS.2.trans (hW1.mono hS.2.size)
  refine ⟨_, 19, _, _, rfl, rfl, by go_simp, (toShotS_any HLN.out ((H.out.1.below B1.out.bl).below hB1)).mono ?_⟩
  rintro e z2 ⟨gq, rfl, ka, hba⟩
  refine ⟨_, rfl, hba, ?_⟩
  simp only [Act.put, List.setIfInBounds_toArray, List.set_cons_zero, List.set_cons_succ]
  intro z3 hW3
  have hB3 : Below w1.heap.size w1 z3 := (hB1.trans (hba.mono hB1.size)).trans (hW3.mono (Nat.le_trans hB1.size hba.size))
  refine ⟨_, 21, _, _, rfl, rfl, by go_simp, (toBox_any f _).mono ?_⟩
  rintro e z4 ⟨rfl, hbb⟩
  refine ⟨_, rfl, hbb, ?_⟩
  simp only [Act.put, List.setIfInBounds_toArray, List.set_cons_zero, List.set_cons_succ]
  intro z5 hW5
  refine ⟨_, 22, _, _, rfl, rfl, by go_simp, (HSP.out HLN.out (RG.below (RG.below (RG.below (OG.rg shC_len ka) hW3) hbb) hW5)).mono ?_⟩
  rintro e z6 ⟨vq, us, rfl, hrq, hbq⟩
  obtain ⟨qa, qc, hqf⟩ := hrq.form
  obtain ⟨m, hmm⟩ : ∃ m, m = L.length := ⟨_, rfl⟩
  rw [← hmm] at hqf
  subst hqf
  have HMM : Hid (m = L.length) := hmm
  clear hmm
  refine ⟨_, rfl, hbq, ?_⟩
  simp only [Act.put, List.setIfInBounds_toArray, List.set_cons_zero, List.set_cons_succ]
  unfold Fl
  refine after_store ?_ _ _ _ #[.int .i64 C, .slice qa m qc] (by rfl) (by rfl) (fun _ => by rfl) (fun _ => by rfl) (by simp) (by kernel_rfl) (by simp [Value.oneCell']) ?_
  · exact Nat.le_refl _
  intro k1 V1 hK hk1 hk2 hF hoth hsz hcell
  simp only [Act.put, List.setIfInBounds_toArray, List.set_cons_zero, List.set_cons_succ]
  refine NoPanic.normal ?_
  have hRV : RI V1 z5.heap.size (.slice qa m qc) L us := by
    refine hrq.kept (fun q hq => ?_) (fun i hi q hq => ?_)
    · have h9 := rowBlk hrq.o hq
      exact hoth q (fun e => hF (by subst e; exact Or.inr ⟨h9.1, h9.2.1⟩)) h9.2.1
    · have h9 := rowBlk (hrq.bx i hi) hq
      exact hoth q (fun e => hF (by subst e; exact Or.inr ⟨h9.1, h9.2.1⟩)) h9.2.1
  obtain ⟨oq, hoq⟩ : ∃ oq, V1.heap[k1]? = some oq := ⟨_, Array.getElem?_eq_getElem hk2⟩
  have hc0 := hcell 0 (.int .i64 C) rfl
  have hc1 := hcell 1 (.slice qa m qc) rfl
  have T6 : Hid (∀ W : World, W.heap[k1]? = some oq → W.cell? ⟨k1, 0, none⟩ = some (.int .i64 C) ∧ W.cell? ⟨k1, 1, none⟩ = some (.slice qa m qc) ∧ k1 < W.heap.size) := fun W h => ⟨(World.cell?_of_block (a := ⟨k1, 0, none⟩) (h.trans hoq.symm)).trans hc0, (World.cell?_of_block (a := ⟨k1, 1, none⟩) (h.trans hoq.symm)).trans hc1, blkD h⟩
  obtain ⟨B0, hB0⟩ : ∃ B0, B0 = z5.heap.size := ⟨_, rfl⟩
  rw [← hB0] at hRV
  have R2 : Hid (SX w X V1 ∧ V1.heap[k1]? = some oq ∧ RI V1 B0 (.slice qa m qc) L us) := ⟨B1.out.next hK.2, hoq, hRV⟩
  clear hK hk1 hk2 hF hoth hsz hcell hRV hoq hc0 hc1 hrq hbq hW5 hbb hB3 hW3 hba hB1 hW1 hS p0 p1 p2 p3 p4 hB0 ka
  go_wp2_with (fail)
  refine (toShotS_any HLN.out (H.out.1.below R2.out.1.bl)).mono ?_
  rintro e w3 ⟨g3, rfl, hs3, hb3⟩
  have R3 : Hid (SX w X w3 ∧ w3.heap[k1]? = some oq ∧ RI w3 B0 (.slice qa m qc) L us ∧ OG 64 5 shC w3 V1.heap.size (.slice (some ⟨g3, 0, none⟩) l.length l.length) l) := ⟨R2.out.1.next hb3, (hb3.block _ (blkD R2.out.2.1)).trans R2.out.2.1, R2.out.2.2.below hb3, hs3⟩
  clear hs3 hb3
  obtain ⟨p0, p1, p2, p3, p4⟩ := TX.out _ R3.out.1
  go_wp2_with (fail)
  refine (toBox_any f _).mono ?_
  rintro e w4 ⟨rfl, hb4⟩
  have R4 : Hid (SX w X w4 ∧ w4.heap[k1]? = some oq ∧ RI w4 B0 (.slice qa m qc) L us ∧ OG 64 5 shC w4 V1.heap.size (.slice (some ⟨g3, 0, none⟩) l.length l.length) l) := ⟨R3.out.1.next hb4, (hb4.block _ (blkD R3.out.2.1)).trans R3.out.2.1, R3.out.2.2.1.below hb4, OG.below R3.out.2.2.2 hb4⟩
  clear hb4 p0 p1 p2 p3 p4 R3
  go_wp2_with (fail)
  refine (HIM.out HLN.out (OG.rg shC_len R4.out.2.2.2)).mono ?_
  rintro e w5 ⟨vg, vs, rfl, hr5, hb5⟩
  have R5 : Hid (SX w X w5 ∧ w5.heap[k1]? = some oq ∧ RI w5 B0 (.slice qa m qc) L us ∧ OG 64 5 shC w5 V1.heap.size (.slice (some ⟨g3, 0, none⟩) l.length l.length) l ∧ RI w5 w4.heap.size vg L vs) := ⟨R4.out.1.next hb5, (hb5.block _ (blkD R4.out.2.1)).trans R4.out.2.1, R4.out.2.2.1.below hb5, OG.below R4.out.2.2.2 hb5, hr5⟩
  obtain ⟨ga, gc, hgf⟩ := hr5.form
  rw [← HMM.out] at hgf
  subst hgf
  have HSEP : Hid (SP w k1 g3 w5.heap.size V1.heap.size w4.heap.size (.slice qa m qc) (.slice ga m gc) L us vs) := by
    have hg := rowBlk R4.out.2.2.2 (g := g3) rfl
    exact ⟨blkD R2.out.1.bx, blkD R2.out.2.1, hg.1, hg.2.1, hb5.size, fun g hg => (rowBlk R2.out.2.2.o hg).2.1, fun i hi g hg => (rowBlk (R2.out.2.2.bx i hi) hg).2.1, fun g hg => (rowBlk hr5.o hg).2.1, fun i hi g hg => (rowBlk (hr5.bx i hi) hg).2.1⟩
  obtain ⟨K1, hK1⟩ : ∃ K1, K1 = w5.heap.size := ⟨_, rfl⟩
  obtain ⟨og, hog⟩ : ∃ og, og = Obj.cells #[.int .i64 C, .slice ga m gc] 55 := ⟨_, rfl⟩
  obtain ⟨V5, hV5⟩ : ∃ V5, V5 = w5.alloc (.cells #[.int .i64 C, .slice ga m gc] 55) := ⟨_, rfl⟩
  have hbV : Below w5.heap.size w5 V5 := by rw [hV5]; (repeat' (first | (with_reducible exact Below.refl _ _) | (with_reducible assumption) | (with_reducible refine Below.setCell ?_ ?_ _) | (with_reducible refine Below.alloc ?_ ?_ _) | (with_reducible refine below_drewN ?_ _) | (with_reducible refine Below.drew ?_) | (with_reducible exact Nat.le_refl _) | omega | (simp; done) | (simp; omega)))
  have S5 : Hid (SD w X k1 K1 oq og B0 w4.heap.size (.slice qa m qc) (.slice ga m gc) L L us vs V5 ∧ OG 64 5 shC V5 V1.heap.size (.slice (some ⟨g3, 0, none⟩) l.length l.length) l) := by
    refine ⟨⟨R5.out.1.next hbV, (hbV.block _ (blkD R5.out.2.1)).trans R5.out.2.1, ?_, R5.out.2.2.1.below hbV, R5.out.2.2.2.2.below hbV⟩, OG.below R5.out.2.2.2.1 hbV⟩
    rw [hK1, hV5, hog]
    exact heap_alloc_new w5 _
  have T7 : Hid (∀ W : World, W.heap[K1]? = some og → W.cell? ⟨K1, 0, none⟩ = some (.int .i64 C) ∧ W.cell? ⟨K1, 1, none⟩ = some (.slice ga m gc) ∧ K1 < W.heap.size) := fun W h => by rw [hog] at h; obtain ⟨x, y, _, _, z⟩ := two_fr h; exact ⟨x, y, z⟩
  have K6 : w5.heap[k1]? = some oq := R5.out.2.1
  rw [← hK1] at HSEP
  obtain ⟨s0, s1, s2⟩ := T6.out _ K6
  have HV5 : Hid _ := hV5
  have HK1 : Hid (K1 = w5.heap.size) := hK1
  clear hb5 hr5 R5 R4 R2 hbV hV5 hK1 hog K6
  go_wp2_with (fail)
  rw [← HV5.out, ← HK1.out]
  clear s0 s1 s2 HV5 HK1
  refine (eqRw C _ HL.out.1 HL.out.2.2 S5.out.1.rg S5.out.1.rs).mono ?_
  rintro e V6 ⟨rfl, hb6⟩
  have S6 : Hid (SD w X k1 K1 oq og B0 w4.heap.size (.slice qa m qc) (.slice ga m gc) L L us vs V6 ∧ OG 64 5 shC V6 V1.heap.size (.slice (some ⟨g3, 0, none⟩) l.length l.length) l) := ⟨S5.out.1.next hb6, OG.below S5.out.2 hb6⟩
  clear S5 hb6
  go_wp2_with (fail)
  refine (toShotS_any HLN.out (H.out.1.below S6.out.1.sx.bl)).mono ?_
  rintro e V7 ⟨g7, rfl, hs7, hb7⟩
  have S7 : Hid (SD w X k1 K1 oq og B0 w4.heap.size (.slice qa m qc) (.slice ga m gc) L L us vs V7 ∧ OG 64 5 shC V7 V1.heap.size (.slice (some ⟨g3, 0, none⟩) l.length l.length) l ∧ RG 5 shC V7 (.slice (some ⟨g7, 0, none⟩) l.length l.length) l) := ⟨S6.out.1.next hb7, OG.below S6.out.2 hb7, OG.rg shC_len hs7⟩
  clear S6 hs7 hb7
  go_wp2_with (fail)
  refine (eqShotS_same (by have := HLN.out; omega) (OG.rg shC_len S7.out.2.1) S7.out.2.2).mono ?_
  rintro e V8 ⟨rfl, hb8⟩
  have S8 : Hid (SD w X k1 K1 oq og B0 w4.heap.size (.slice qa m qc) (.slice ga m gc) L L us vs V8 ∧ OG 64 5 shC V8 V1.heap.size (.slice (some ⟨g3, 0, none⟩) l.length l.length) l) := ⟨S7.out.1.next hb8, OG.below S7.out.2.1 hb8⟩
  clear S7 hb8
  go_wp2_with (fail)
  refine (markSh HLN.out S8.out.2).mono ?_
  rintro e V9 ⟨zk, rfl, hzk, hon⟩
  have S9 : Hid (SD w X k1 K1 oq og B0 w4.heap.size (.slice qa m qc) (.slice ga m gc) L L us vs V9) := S8.out.1.only HSEP.out hon
  have hzk' : ¬ zk < 0 := by omega
  clear S8 hon
  obtain ⟨s0, s1, s2⟩ := T6.out _ S9.out.k0
  obtain ⟨q0, q1, q2⟩ := T7.out _ S9.out.kg
  go_wp2_with (fail)
  clear s0 s1 s2 q0 q1 q2
  refine (eqRw C _ HL.out.1 HL.out.2.2 S9.out.rg S9.out.rs).mono ?_
  rintro e V10 ⟨rfl, hb10⟩
  have S10 : Hid (SD w X k1 K1 oq og B0 w4.heap.size (.slice qa m qc) (.slice ga m gc) L L us vs V10) := S9.out.next hb10
  clear S9 hb10
  obtain ⟨q0, q1, q2⟩ := T7.out _ S10.out.kg
  go_wp2_with (fail)
  clear q0 q1 q2
  refine (markRw C _ HL.out.1 HL.out.2.1 HL.out.2.2 S10.out.rg).mono ?_
  rintro e V11 ⟨rfl, hm11, hs11⟩
  have S11 : Hid (SD w X k1 K1 oq og B0 w4.heap.size (.slice qa m qc) (.slice ga m gc) L (mkR L L.length) us vs V11) := S10.out.mark HSEP.out hs11 hm11
  obtain ⟨T, hT⟩ : ∃ T : Int, T = 1 + (totI L L.length : Int) := ⟨_, rfl⟩
  have hT0 : ¬ T < 0 := by omega
  have HT : Hid (T = 1 + (totI L L.length : Int)) := hT
  rw [← hT]
  clear S10 hm11 hs11 hT
  obtain ⟨q0, q1, q2⟩ := T7.out _ S11.out.kg
  go_wp2_with (fail)
  clear q0 q1 q2
  refine (heldRw C _ HL.out.1 HL.out.2.1 HL.out.2.2 S11.out.rg).mono ?_
  rintro e V12 ⟨rfl, hb12⟩
  rw [← HT.out]
  have S12 : Hid (SD w X k1 K1 oq og B0 w4.heap.size (.slice qa m qc) (.slice ga m gc) L (mkR L L.length) us vs V12) := S11.out.next hb12
  clear S11 hb12
  obtain ⟨p0, p1, p2, p3, p4⟩ := TX.out _ S12.out.sx
  go_wp2_with (fail)
  refine wp_region_float (by kernel_rfl) (fun hS => ?_)
  refine fl_take (i := 0) (d := 60) (v := .slice a n c) rfl rfl rfl (by kernel_rfl) (by kernel_rfl) (by kernel_rfl) hS ?_ ?_
  · intro w' hk; go_simp
  simp only [Act.put, List.setIfInBounds_toArray, List.set_cons_zero, List.set_cons_succ]
  refine fl_take (i := 2) (d := 62) (v := .agg #[.int .i64 f.x0, .int .i64 f.y0, .int .i64 f.x1, .int .i64 f.y1]) rfl rfl rfl (by kernel_rfl) (by kernel_rfl) (by kernel_rfl) hS ?_ ?_
  · intro w' hk; go_simp
  simp only [Act.put, List.setIfInBounds_toArray, List.set_cons_zero, List.set_cons_succ]
  refine float_pend (z := #[.int .i64 0, .slice none 0 0]) (T := 55) (ja := 5) (js := 6) rfl rfl rfl rfl rfl (fun a w => by go_simp) [1, 3, 4] _ _ _ (fun _ => False) (by kernel_rfl) (by kernel_rfl) ?_ (Nat.le_refl _) (fun _ h => h.elim) hS
  intro z1 hW1
  have hB1 : Below V12.heap.size V12 z1 := hS.2.trans (hW1.mono hS.2.size)
  refine ⟨_, 61, _, _, rfl, rfl, by go_simp, (toShotS_any HLN.out ((H.out.1.below S12.out.sx.bl).below hB1)).mono ?_⟩
  rintro e z2 ⟨gq, rfl, ka, hba⟩
  refine ⟨_, rfl, hba, ?_⟩
  simp only [Act.put, List.setIfInBounds_toArray, List.set_cons_zero, List.set_cons_succ]
  intro z3 hW3
  have hB3 : Below V12.heap.size V12 z3 := (hB1.trans (hba.mono hB1.size)).trans (hW3.mono (Nat.le_trans hB1.size hba.size))
  refine ⟨_, 63, _, _, rfl, rfl, by go_simp, (toBox_any f _).mono ?_⟩
  rintro e z4 ⟨rfl, hbb⟩
  refine ⟨_, rfl, hbb, ?_⟩
  simp only [Act.put, List.setIfInBounds_toArray, List.set_cons_zero, List.set_cons_succ]
  intro z5 hW5
  refine ⟨_, 64, _, _, rfl, rfl, by go_simp, (HIM.out HLN.out (RG.below (RG.below (RG.below (OG.rg shC_len ka) hW3) hbb) hW5)).mono ?_⟩
  rintro e z6 ⟨vq, us2, rfl, hrq, hbq⟩
  obtain ⟨qa2, qc2, hqf⟩ := hrq.form
  rw [← HMM.out] at hqf
  subst hqf
  refine ⟨_, rfl, hbq, ?_⟩
  simp only [Act.put, List.setIfInBounds_toArray, List.set_cons_zero, List.set_cons_succ]
  unfold Fl
  refine after_store ?_ _ _ _ #[.int .i64 C, .slice qa2 m qc2] (by rfl) (by rfl) (fun _ => by rfl) (fun _ => by rfl) (by simp) (by kernel_rfl) (by simp [Value.oneCell']) ?_
  · exact Nat.le_refl _
  intro k2 V13 hK hk1 hk2 hF hoth hsz hcell
  simp only [Act.put, List.setIfInBounds_toArray, List.set_cons_zero, List.set_cons_succ]
  refine NoPanic.normal ?_
  have hRV : RI V13 z5.heap.size (.slice qa2 m qc2) L us2 := by
    refine hrq.kept (fun q hq => ?_) (fun i hi q hq => ?_)
    · have h9 := rowBlk hrq.o hq
      exact hoth q (fun e => hF (by subst e; exact Or.inr ⟨h9.1, h9.2.1⟩)) h9.2.1
    · have h9 := rowBlk (hrq.bx i hi) hq
      exact hoth q (fun e => hF (by subst e; exact Or.inr ⟨h9.1, h9.2.1⟩)) h9.2.1
  have hc0 := hcell 0 (.int .i64 C) rfl
  have hc1 := hcell 1 (.slice qa2 m qc2) rfl
  obtain ⟨Bq, hBq⟩ : ∃ Bq, Bq = z5.heap.size := ⟨_, rfl⟩
  rw [← hBq] at hRV
  have S13 : Hid (SD w X k1 K1 oq og B0 w4.heap.size (.slice qa m qc) (.slice ga m gc) L (mkR L L.length) us vs V13 ∧ RI V13 Bq (.slice qa2 m qc2) L us2) := ⟨S12.out.next hK.2, hRV⟩
  obtain ⟨s0, s1, s2⟩ := T6.out _ S13.out.1.k0
  clear hK hk1 hF hoth hsz hcell hRV hrq hbq hW5 hbb hB3 hW3 hba hB1 hW1 hS p0 p1 p2 p3 p4 hBq ka S12
  go_wp2_with (fail)
  clear s0 s1 s2 hc0 hc1
  refine (eqRw C _ HL.out.1 HL.out.2.2 S13.out.2 S13.out.1.rs).mono ?_
  rintro e V14 ⟨rfl, hb14⟩
  have S14 : Hid (SD w X k1 K1 oq og B0 w4.heap.size (.slice qa m qc) (.slice ga m gc) L (mkR L L.length) us vs V14) := S13.out.1.next hb14
  clear S13 hb14
  obtain ⟨q0, q1, q2⟩ := T7.out _ S14.out.kg
  go_wp2_with (fail)
  clear q0 q1 q2
  refine (heldRw C _ HL.out.1 HL.out.2.1 HL.out.2.2 S14.out.rg).mono ?_
  rintro e V15 ⟨rfl, hb15⟩
  rw [← HT.out]
  have S15 : Hid (Below w.heap.size w V15) := (S14.out.next hb15).sx.bl
  clear S14 hb15
  go_wp2
  go_returns
  exact ⟨rfl, S15.out⟩

set_option maxRecDepth 100000 in
theorem dm_lifted (os : Os) (started : os.Started) (H : Type) (enc : TypeId × Value → H) :
    ReturnsInHanded {} Try.checked os 7 .any (Rows.fnExactDoseMapSpec.pre6 enc Try.prog Try.f7 Rows.fnExactDoseMapRow.domain false) (Rows.fnExactDoseMapSpec.post enc Try.prog Try.f7 false true false false) := by
  refine returnsInHanded_of_change (C := Try.checked) own started (by kernel_rfl) Try.func7
    (ChangeSpec.witness6 (enc := enc) (C := Try.checked) false ⟨#[], #[.slice none 0 0, .agg #[.int .i64 0, .int .i64 0, .int .i64 0, .int .i64 0]], []⟩ 8 (by kernel_rfl) (by kernel_rfl) (by kernel_rfl) (by kernel_rfl)) ?_
  intro W base args ds gs before hval0 hW hcnd _
  have hval : ∀ (j : Nat) t v, Try.f7.params[j]? = some t → args[j]? = some v → Value.okWide Try.prog W .any base t v := hval0
  have hW' := hW
  obtain ⟨p, q, hA0, hV, rfl, hfz, hnd⟩ := hW
  have hA : DataW.TrodAll enc Try.prog W 0 (fun _ => true) true Try.f7.params.toList args.toList ds p := hA0
  rw [Try.params7] at hA hval
  obtain ⟨v0, vs0, d0, ds0, p0, q0, hargs, rfl, rfl, h0, r0⟩ := trodAll_cons hA
  obtain ⟨v1, vs1, d1, ds1, p1, q1, rfl, rfl, rfl, h1, r1⟩ := trodAll_cons r0
  obtain ⟨rfl, rfl, rfl⟩ := trodAll_nil r1
  obtain rfl : args = #[v0, v1] := by cases args; simp_all
  obtain ⟨rfl, rfl⟩ := trodVars_none hV
  have k0 := h0
  have lt0 : ∀ x ∈ p0, x.block < W.heap.size := by obtain ⟨m, hm⟩ := k0; exact DataW.trod_lt m _ _ _ hm
  obtain ⟨sa0, sn0, sc0, s0, rfl, rb0, sl0⟩ := shots_open (hval 0 22 v0 rfl rfl) h0
  obtain ⟨b1, rfl, rfl, rfl, wa1, wb1, wc1, wd1⟩ := box_open (hval 1 30 v1 rfl rfl) h1
  clear hA0 hval0
  refine (law_dm s0 sl0 rb0 b1).mono fun e W' ⟨he, hg⟩ => ?_
  subst he
  exact ⟨_, rfl, _, _, _, [], _, [], hW', trodAll_mk1 (shut_bool Try.underlying4 _), (trodAll_cons_mk (Below.trod laidOut (by kernel_rfl) (of_decide_eq_true (by kernel_rfl)) k0 hg lt0) (trodAll_cons_mk (box_shut wa1 wb1 wc1 wd1) trodAll_mk0)), rfl, hg.frame _, fun h => by cases h⟩

theorem dm_over : Rows.fnExactDoseMapRow.holds Try.pinned (OpenSpec.ofChange Rows.fnExactDoseMapSpec) :=
  OpenClaim.holds_of_wide 7 Try.f7 rfl rfl rfl rfl rfl rfl rfl ⟨rfl, rfl, rfl, rfl, rfl⟩ rfl rfl rfl rfl rfl (by kernel_rfl) Try.func7 (by kernel_rfl)
    (of_decide_eq_true (by kernel_rfl)) (by unfold Func.isWrapper; first | (rw [if_pos (by decide +kernel)]; kernel_rfl) | (rw [if_neg (by decide +kernel)]; exact ⟨rfl, rfl⟩))
    (fun os started H enc _ => dm_lifted os started H enc)

theorem dm_proved : Rows.FnExactDoseMapSaid :=
  dm_over
#print axioms dm_proved

end Go.Proofs.Ytkbbhdnaemjamaa
