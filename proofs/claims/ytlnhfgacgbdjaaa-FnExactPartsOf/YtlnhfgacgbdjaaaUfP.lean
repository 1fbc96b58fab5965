/- Proved here: partsIn of the program: each part in the one form, by their first boxes. -/
import Derived.Test.YtlnhfgacgbdjaaaPsG
import Derived.Test.YtlnhfgacgbdjaaaIOne
import Derived.Deep.AppendLies
import Derived.Deep.RegionLaw
namespace Go.Proofs.Ytlnhfgacgbdjaaa
open Go.RowKit
set_option linter.unusedVariables false
set_option linter.unusedSimpArgs false

/-- The rows' places and the labels, in memory of their own. -/
structure QX (w : World) (A B2 gp n : Nat) (fs : Value) (xs : List Nat) (wr : World) (ps : List Nat) : Prop where
  ip : IN wr w.heap.size (.slice (some ⟨gp, 0, none⟩) n n) ps
  ix : IN wr A fs xs
  bl : Below w.heap.size w wr
  sz : B2 ≤ wr.heap.size
  g1 : w.heap.size ≤ gp
  g2 : gp < A
  g3 : A ≤ B2
  g4 : ∀ g, fs.ownBlock = some g → A ≤ g ∧ g < B2
theorem QX.step {w : World} {A B2 gp n : Nat} {fs : Value} {xs ps : List Nat} {wr w' : World} (h : QX w A B2 gp n fs xs wr ps) (hb : Below B2 wr w') : QX w A B2 gp n fs xs w' ps := by
  have e1 := h.g1
  have e2 := h.g2
  have e3 := h.g3
  refine ⟨h.ip.kept fun g hg => hb.block g ?_, h.ix.kept fun g hg => hb.block g (h.g4 g hg).2, h.bl.trans (hb.mono (by omega)), Nat.le_trans h.sz hb.size, h.g1, h.g2, h.g3, h.g4⟩
  simp only [Value.ownBlock, Option.some.injEq] at hg
  omega
theorem QX.put {w : World} {A B2 gp n : Nat} {fs : Value} {xs ps : List Nat} {wr : World} (h : QX w A B2 gp n fs xs wr ps) {i : Nat} (hi : i < n) (y : Nat) : QX w A B2 gp n fs xs (wr.setCell ⟨gp, i, none⟩ (.int .i64 (y : Int))) (ps.set i y) := by
  have e2 := h.g2
  refine ⟨h.ip.set (by rw [← h.ip.pos0]; exact hi) y, h.ix.kept fun g hg => heap_setCell_other _ _ _ _ fun e => ?_, h.bl.setCell h.g1 _, by simpa using h.sz, h.g1, h.g2, h.g3, h.g4⟩
  have e' : g = gp := e
  have := (h.g4 g hg).1
  omega
theorem PG.aside {wr : World} {B2 gp i : Nat} {v u : Value} {ls : List (List Bx)} {vs : List Value} (h : PG wr B2 v ls vs) (hg : gp < B2) : PG (wr.setCell ⟨gp, i, none⟩ u) B2 v ls vs :=
  h.kept (fun g hg' => heap_setCell_other _ _ _ _ fun e => by
    have e' : g = gp := e
    have := (h.rowBlk hg').1
    omega) fun j hj g hg' => heap_setCell_other _ _ _ _ fun e => by
    have e' : g = gp := e
    have := ((h.bx j hj).blk hg').1
    omega
/-- The rows when box i has found its own. -/
def rows1 (s : List Bx) (F : Nat → Nat) (i : Nat) : List (List Bx) := if F i = i then rowsL s F i ++ [[]] else rowsL s F i
theorem rows1_ok {E : Nat → Nat → Prop} {n : Nat} {F : Nat → Nat} (hL : Lab E n F) {s : List Bx} {i : Nat} (hi : i < n) : cnt F (F i) < (rows1 s F i).length ∧ rowsL s F (i + 1) = (rows1 s F i).set (cnt F (F i)) ((rows1 s F i).getD (cnt F (F i)) [] ++ [bat s i]) ∧ (rows1 s F i).length ≤ i + 1 ∧ ((rows1 s F i).getD (cnt F (F i)) []).length ≤ i := by
  have hrl := rowsL_len s F i
  have hcl := cnt_le F i
  unfold rows1
  by_cases hF : F i = i
  · rw [if_pos hF, hF, ← hrl]
    have e : (rowsL s F i ++ [[]]).getD (rowsL s F i).length [] = [] := by rw [List.getD_eq_getElem?_getD, List.getElem?_append_right (Nat.le_refl _)]; simp
    rw [e]
    refine ⟨by simp, ?_, by simp; omega, by simp⟩
    rw [rowsL_new hL hi hF, List.set_append_right _ _ (Nat.le_refl _)]; simp
  · rw [if_neg hF]
    obtain ⟨h1, h2⟩ := rowsL_more hL (s := s) hi hF
    exact ⟨h1, h2, by omega, rowsL_row s F i _⟩
/-- Row k anew, in new memory, whatever room it has. -/
theorem PL.swap {wr W : World} {B gr m c k : Nat} {ls : List (List Bx)} {vs : List Value} {l : List Bx} {u : Value} (h : PL wr B (.slice (some ⟨gr, 0, none⟩) m c) ls vs) (hW : Below wr.heap.size wr W) (hk : k < ls.length) (hu : BC W wr.heap.size u l) :
    PL (W.setCell ⟨gr, k, none⟩ u) B (.slice (some ⟨gr, 0, none⟩) m c) (ls.set k l) (vs.set k u) := by
  have hvl := h.len
  have hP := h.below hW
  have hm : m = ls.length := by obtain ⟨_, _, e⟩ := h.form; injection e
  have hgB := (World.ownsRow.lt h.o gr rfl).1
  have hgl0 := (World.ownsRow.lt h.o gr rfl).2
  have hBw : B ≤ wr.heap.size := by omega
  have vset : ∀ i, (vs.set k u).getD i (.slice none 0 0) = if i = k then u else vs.getD i (.slice none 0 0) := fun i => vat_set (by omega)
  refine ⟨?_, fun i hi => ?_, fun i j hij hj g hgi => ?_⟩
  · rw [List.length_set]
    have h1 : W.ownsRow B 28 1 (.slice (some ⟨gr, 0, none⟩) ls.length c) ls.length vs := by have := hP.o; rwa [hm] at this
    have h2 := (World.ownsRow.stored h1 k u).1
    rw [hm]; exact h2
  · rw [List.length_set] at hi
    rw [vset, List.getD_eq_getElem?_getD (l := ls.set k l), List.getElem?_set]
    by_cases e : i = k
    · subst e
      rw [if_pos rfl, if_pos rfl, if_pos hk]
      exact (hu.low hBw).kept fun g hgg => heap_setCell_other _ _ _ _ fun e => by
        have := hu.lt hgg
        have e' : g = gr := e
        omega
    · rw [if_neg e, if_neg (fun e' => e e'.symm), ← List.getD_eq_getElem?_getD]
      refine (hP.bx i hi).kept fun g hgg => ?_
      obtain ⟨h2, cs, h3⟩ := (hP.bx i hi).blk hgg
      exact heap_setCell_other _ _ _ _ fun e' => hP.rowNot (g := gr) rfl h3 e'
  · rw [List.length_set] at hj
    have far : ∀ i, i < ls.length → ∀ g, (vs.getD i (.slice none 0 0)).ownBlock = some g → u.ownBlock ≠ some g := by
      intro i hi' g e' e2
      have h2 := ((h.bx i hi').blk e').1
      have h3 := hu.lt e2
      omega
    rw [vset] at hgi ⊢
    by_cases e1 : i = k
    · rw [if_pos e1] at hgi
      rw [if_neg (by omega)]
      intro e2
      exact far j hj g e2 hgi
    · rw [if_neg e1] at hgi
      by_cases e2 : j = k
      · rw [if_pos e2]; exact far i (by omega) g hgi
      · rw [if_neg e2]; exact hP.ds i j hij hj g hgi

theorem PL.posU {w : World} {B : Nat} {v : Value} {ls : List (List Bx)} {vs : List Value} (h : PL w B v ls vs) (hp : 0 < ls.length) :
    ∃ g cap, v = .slice (some ⟨g, 0, none⟩) ls.length cap ∧ B ≤ g ∧ g < w.heap.size ∧ ∀ j, j < ls.length → w.cell? ⟨g, j, none⟩ = some (vat vs j) := by
  have hl := h.len
  have ho := h.o
  rcases h.o.2 with ⟨_, h0⟩ | ⟨g, cap, cur, rfl, hB, hg, hn, hm, hs, ht⟩
  · omega
  · refine ⟨g, cap, rfl, hB, (World.ownsRow.lt ho g rfl).2, fun j hj => ?_⟩
    have := World.ownsRow.cellAt (w := w) (g := g) (cap := cap) ho j (by omega)
    rw [this]
    simp [vat, List.getElem?_eq_getElem (show j < vs.length by omega)]

set_option maxRecDepth 10000 in
set_option maxHeartbeats 8000000 in
theorem impl_partsIn {w : World} {a : Option Addr} {n c : Nat} {s : List Bx} (hn : n ≤ 100000) (hc : n ≤ c) (hG : Good s) (hBd : Band s) (h : RB w (.slice a n c) s) :
    Calls Try.prog 23 #[.slice a n c] w fun e w' => ∃ v F vs, e = .returned v ∧ Lab (Tc s n 0) n F ∧ PL w' w.heap.size v (partsL s F n n) vs ∧ Below w.heap.size w w' := by
  have hlen : s.length = n := by obtain ⟨_, _, e⟩ := h.form; injection e with _ e2 _; exact e2.symm
  have H : Hid (RB w (.slice a n c) s ∧ Good s ∧ n = s.length) := ⟨h, hG, hlen.symm⟩
  have HPF : Hid (∀ W, Below w.heap.size w W → Calls Try.prog 41 #[.slice a n c] W fun e w' => ∃ v xs, e = .returned v ∧ PF s W w' v xs n 0 n) := fun W hW => impl_pf hn hc hG hBd (h.below hW)
  clear h hG hlen hBd
  obtain ⟨i0, hi, hz0, hz1, hz2⟩ := info_parts info_shape
  obtain ⟨i1, hi1, hq0, hq1, hq2⟩ := info_parts info_box
  obtain ⟨i2, hi2, hr0, hr1, hr2⟩ := info_parts info_int
  go_enter Try.func23, Try.ntmps23
  go_wp2_with (at_make; refine wpList_make_full _ rfl _ _ 57 rfl w.heap.size 3 i2 (.int .i64 0) 1 Try.underlying57 hi2 hr0 hr1 _ _ _ _ n rfl rfl rfl rfl (by rw [hr2]; omega) (by unfold maxLen; omega) (Nat.le_refl _) ?_; intro w1 hown1 hgrow1)
  have hb1 : Below w.heap.size w w1 := (Below.refl _ _).grown hgrow1 (Nat.le_refl _) (fun k h => by cases h)
  have hin1 : IN w1 w.heap.size (.slice (some ⟨w.heap.size, 0, none⟩) n n) (List.replicate n 0) := by
    unfold IN
    rw [List.length_replicate, List.map_replicate]
    have := hown1
    rw [Nat.mul_one] at this
    rwa [show (Value.int IntKind.i64 0).cells = #[Value.int IntKind.i64 0] from rfl, toList_madeCells_one] at this
  have hlt1 : w.heap.size < w1.heap.size := (World.ownsRow.lt hown1 w.heap.size rfl).2
  have H1 : Hid (IN w1 w.heap.size (.slice (some ⟨w.heap.size, 0, none⟩) n n) (List.replicate n 0) ∧ Below w.heap.size w w1) := ⟨hin1, hb1⟩
  clear hown1 hgrow1 hin1 hb1
  obtain ⟨gp, hgp⟩ : ∃ gp, gp = w.heap.size := ⟨_, rfl⟩
  have HGP : Hid (gp = w.heap.size) := hgp
  go_wp2_with (fail)
  refine (HPF.out _ H1.out.2).mono ?_
  rintro e w2 ⟨fs, xs, rfl, hP⟩
  obtain ⟨fo, fc, hfs⟩ := hP.o.form
  rw [hP.ln] at hfs
  subst hfs
  obtain ⟨F, hFe⟩ : ∃ F, F = fun a => xs.getD a 0 := ⟨_, rfl⟩
  obtain ⟨A, hA⟩ : ∃ A, A = w1.heap.size := ⟨_, rfl⟩
  obtain ⟨B2, hB2⟩ : ∃ B2, B2 = w2.heap.size := ⟨_, rfl⟩
  have HF : Hid (Lab (Tc s n 0) n F ∧ (∀ a, FL xs a = F a) ∧ xs.length = n) := ⟨by rw [hFe]; exact hP.lab, fun a => by rw [hFe]; rfl, hP.ln⟩
  have H2 : Hid (QX w A B2 gp n (.slice fo n fc) xs w2 (List.replicate n 0)) := by
    have hbb : Below w.heap.size w w2 := H1.out.2.trans (hP.bl.mono H1.out.2.size)
    refine ⟨?_, by rw [hA]; exact hP.o, hbb, by omega, by omega, by omega, by rw [hA, hB2]; exact hP.bl.size, fun g hg => ?_⟩
    · rw [hgp]; exact H1.out.1.below hP.bl
    · have := World.ownsRow.lt hP.o g hg
      omega
  rw [← hgp]
  clear hP H1 HPF hFe hlt1 hgp hA
  go_wp2_with (fail)
  go_loopw [3, 16] (fun v i wr => ∃ (k : Nat) (vs : List Value) (ps : List Nat), k ≤ n ∧ i = .int .i64 k ∧ Hid (PG wr B2 v (rowsL s F k) vs ∧ QX w A B2 gp n (.slice fo n fc) xs wr ps ∧ ∀ p, p < k → F p = p → FL ps p = cnt F p)) (fun _ i _ => n - (intOf i).toNat)
  case atStart => exact ⟨0, [], _, Nat.zero_le _, rfl, ⟨World.ownsRow_nil _ _ _ _, fun i hi => absurd hi (by simp [rowsL, firstsL]), fun i j _ hi => absurd hi (by simp [rowsL, firstsL])⟩, H2.out, fun p hp => absurd hp (by omega)⟩
  case round =>
    clear H2 hB2
    obtain ⟨i, vs, ps, hin, rfl, hR⟩ := hrel
    by_cases hlt : i < n
    · obtain ⟨gf, cf, he, _, hgf, hjf⟩ := hR.out.2.1.ix.pos (by rw [HF.out.2.2]; omega)
      simp only [Value.slice.injEq] at he
      obtain ⟨rfl, hx1, hx2⟩ := he
      clear hx1 hx2
      have x0 := hjf i (by rw [HF.out.2.2]; exact hlt)
      obtain ⟨x, hx⟩ : ∃ x, x = F i := ⟨_, rfl⟩
      rw [show xs.getD i 0 = x by rw [hx, ← HF.out.2.1]; rfl] at x0
      have hxi : x ≤ i := by rw [hx]; exact HF.out.1.le i hlt
      obtain ⟨g, o, c2, he, hg, hj⟩ := (H.out.1.below hR.out.2.1.bl).pos (by rw [← H.out.2.2]; omega)
      simp only [Value.slice.injEq] at he
      obtain ⟨rfl, hx1, hx2⟩ := he
      clear hx1 hx2
      obtain ⟨b, hb⟩ : ∃ b, b = bat s i := ⟨_, rfl⟩
      obtain ⟨k, hk⟩ : ∃ k, k = cnt F x := ⟨_, rfl⟩
      obtain ⟨LS, hLS⟩ : ∃ LS, LS = rows1 s F i := ⟨_, rfl⟩
      obtain ⟨hkl, hst, hLl, hrow⟩ := rows1_ok HF.out.1 (s := s) hlt
      rw [← hx, ← hk, ← hLS] at hkl hst hrow
      rw [← hLS] at hLl
      rw [← hb] at hst
      have HBX : Hid (∀ W, Below w.heap.size w W → BAt W g (o + i * 4) b ∧ g < W.heap.size) := by
        intro W hW
        obtain ⟨g', o', c', he, hg', hj'⟩ := (H.out.1.below hW).pos (by rw [← H.out.2.2]; omega)
        simp only [Value.slice.injEq, Option.some.injEq, Addr.mk.injEq, and_true] at he
        obtain ⟨⟨rfl, rfl⟩, hx1, hx2⟩ := he
        rw [hb]
        exact ⟨hj' i (by rw [← H.out.2.2]; exact hlt), hg'⟩
      clear hj hjf hg
      have b0 : (0 : Int) ≤ (i : Int) := by omega
      have b1 : (i : Int) < (n : Int) := by omega
      have b2 : (0 : Int) ≤ (x : Int) := by omega
      have b3 : (x : Int) < (n : Int) := by omega
      by_cases hF : x = i
      · have hrl : (rowsL s F i).length = k := by rw [rowsL_len, hk, hF]
        have hof := hR.out.1.form
        obtain ⟨ra, rc, rfl⟩ := hof
        rw [hrl] at hR ⊢
        obtain ⟨c0, f0, g0⟩ := hR.out.2.1.ip.at hlt
        have HP0 : Hid (PG (wr.setCell ⟨gp, i, none⟩ (.int .i64 (k : Int))) B2 (.slice ra k rc) (rowsL s F i) vs ∧ QX w A B2 gp n (.slice (some ⟨gf, 0, none⟩) n fc) xs (wr.setCell ⟨gp, i, none⟩ (.int .i64 (k : Int))) (ps.set i k) ∧ ∀ p, p < i + 1 → F p = p → FL (ps.set i k) p = cnt F p) := by
          refine ⟨hR.out.1.aside (by have := hR.out.2.1.g2; have := hR.out.2.1.g3; omega), hR.out.2.1.put hlt k, fun p hp hFp => ?_⟩
          rw [FL_set (by rw [← hR.out.2.1.ip.pos0]; exact hlt)]
          split
          · rename_i e; rw [hk, hF, e]
          · exact hR.out.2.2 p (by omega) hFp
        have HLS : Hid (LS = rowsL s F i ++ [[]]) := by unfold Hid; rw [hLS]; unfold rows1; rw [if_pos (by rw [← hx]; exact hF)]
        have HRL : Hid ((rowsL s F i).length = k) := hrl
        have hsz := hR.out.2.1.sz
        have HKC : Hid (k = cnt F x ∧ x = F i) := ⟨hk, hx⟩
        have hk1 : k ≤ i := by have := cnt_le F x; omega
        clear hR hrl hLS hk hx hb
        subst hF
        have HZ : Hid (∀ wq ob, ((wr.setCell ⟨gp, x, none⟩ (.int .i64 (k : Int))).alloc ob).grownBy wq (Value.slice ra k rc).ownBlock → wq.cell? ⟨gp, x, none⟩ = some (.int .i64 (k : Int)) ∧ gp < wq.heap.size) := by
          intro wq ob hgq
          have hbq : Below B2 (wr.setCell ⟨gp, x, none⟩ (.int .i64 (k : Int))) wq := ((Below.refl B2 _).alloc (by simpa using hsz) _).grown hgq (by simp; omega) (fun q hq => (HP0.out.1.rowBlk hq).1)
          obtain ⟨z0, _, z2⟩ := (HP0.out.2.1.step hbq).ip.at hlt
          rw [HP0.out.2.2 x (by omega) HKC.out.2.symm, ← HKC.out.1] at z0
          exact ⟨z0, z2⟩
        go_wp2_with (at_builtin; refine wpList_append_own _ rfl _ _ 24 rfl B2 28 i0 (.slice none 0 0) 1 24 Try.underlying24 hi hz0 hz1 hz2 rfl (by decide) _ _ _ rfl (World.ownsRow.alloc HP0.out.1.o _) ⟨wr.heap.size, 0, none⟩ 1 1 [.slice none 0 0] rfl rfl (World.news_of_block (cs := #[.slice none 0 0]) (t := 28) (fr := (0, 0)) (by have := heap_alloc_new (wr.setCell ⟨gp, x, none⟩ (.int .i64 (k : Int))) (.cells #[.slice none 0 0] 28); simpa using this)) (by simp [Value.oneCell']) (by rw [HRL.out]; unfold maxLen; omega) (by rw [HRL.out]; omega) (by simp; omega) ?_; intro v2 wq hown2 hgrow2 _; obtain ⟨z0, z2⟩ := HZ.out wq _ hgrow2)
        have hP2 := HP0.out.1.push hown2 hgrow2
        have hbq : Below B2 (wr.setCell ⟨gp, x, none⟩ (.int .i64 (k : Int))) wq := ((Below.refl B2 _).alloc (by simpa using hsz) _).grown hgrow2 (by simp; omega) (fun q hq => (HP0.out.1.rowBlk hq).1)
        obtain ⟨VS, hVS⟩ : ∃ VS, VS = vs ++ [Value.slice none 0 0] := ⟨_, rfl⟩
        rw [← HLS.out, ← hVS] at hP2
        have hof := hP2.form
        obtain ⟨ra2, rc2, rfl⟩ := hof
        obtain ⟨PS, hPS⟩ : ∃ PS, PS = ps.set x k := ⟨_, rfl⟩
        have HPG : Hid (PG wq B2 (.slice ra2 LS.length rc2) LS VS ∧ QX w A B2 gp n (.slice (some ⟨gf, 0, none⟩) n fc) xs wq PS ∧ ∀ p, p < x + 1 → F p = p → FL PS p = cnt F p) := by
          rw [hPS]; exact ⟨hP2, HP0.out.2.1.step hbq, HP0.out.2.2⟩
        clear HZ z0 z2 hP2 hbq hown2 hgrow2 hVS hPS HP0 HLS HRL HKC c0 f0 g0 x0 hsz
        obtain ⟨⟨c0, c1, c2, c3⟩, hg⟩ := HBX.out wq HPG.out.2.1.bl
        obtain ⟨_, _, hgi⟩ := HPG.out.2.1.ip.at hlt
        obtain ⟨gr, crr, he, hgrB, hgr, hjr⟩ := PG.pos HPG.out.1 (by omega)
        simp only [Value.slice.injEq] at he
        obtain ⟨rfl, hx1, hx2⟩ := he
        clear hx1 hx2
        have r0 := hjr k hkl
        obtain ⟨l, hl⟩ : ∃ l, l = LS.getD k [] := ⟨_, rfl⟩
        obtain ⟨u, hu⟩ : ∃ u, u = vat VS k := ⟨_, rfl⟩
        rw [← hu] at r0
        have hlb : l.length ≤ 100000 := by rw [hl]; omega
        have hwsz := HPG.out.2.1.sz
        have HOW : Hid (∀ W, Below wq.heap.size wq W → W.ownsRow B2 44 4 u l.length (bflat l)) := by
          intro W hW
          have := (HPG.out.1.bx k hkl).below hW
          rw [hl, hu]; exact this
        have HFZ : Hid (∀ w5, (wq.drew.alloc (.cells #[.int .i64 b.x0, .int .i64 b.y0, .int .i64 b.x1, .int .i64 b.y1] 44)).grownBy w5 u.ownBlock → w5.cell? ⟨gr, k, none⟩ = some u ∧ w5.frozen? ⟨gr, k, none⟩ = false ∧ gr < w5.heap.size) := by
          intro w5 h5
          have hub : ∀ q, u.ownBlock = some q → ∃ cs, wq.heap[q]? = some (.cells cs 44 (0, 0)) := fun q hq => by rw [hu] at hq; exact ((HPG.out.1.bx k hkl).blk hq).2.2
          have e1 : w5.heap[gr]? = wq.heap[gr]? := by
            rw [h5.block gr (by simp; omega) fun e => ?_]
            · exact Below.heap_alloc _ _ _ (by simpa using hgr)
            · obtain ⟨cs, hcs⟩ := hub gr e.symm
              obtain ⟨_, _, cs', h3⟩ := HPG.out.1.rowBlk (g := gr) rfl
              exact kinds h3 hcs rfl
          have h1 : w5.ownsRow B2 28 1 (.slice (some ⟨gr, 0, none⟩) LS.length rc2) LS.length VS := row_kept HPG.out.1.o fun g hgg => by
            simp only [Value.ownBlock, Option.some.injEq] at hgg
            subst hgg; exact e1
          exact ⟨(World.cell?_of_block e1).trans r0, World.ownsRow.frozenAt h1 k, (World.ownsRow.lt h1 gr rfl).2⟩
        have HEND : Hid (∀ w5 g5 c5, w5.ownsRow B2 44 4 (.slice (some ⟨g5, 0, none⟩) (l.length + 1) c5) (l.length + 1) (bflat l ++ bcells b) → (wq.drew.alloc (.cells #[.int .i64 b.x0, .int .i64 b.y0, .int .i64 b.x1, .int .i64 b.y1] 44)).grownBy w5 u.ownBlock → (u.ownBlock = some g5 ∨ g5 = wq.heap.size + 1) →
            PG (w5.setCell ⟨gr, k, none⟩ (.slice (some ⟨g5, 0, none⟩) (l.length + 1) c5)) B2 (.slice (some ⟨gr, 0, none⟩) LS.length rc2) (rowsL s F (x + 1)) (VS.set k (.slice (some ⟨g5, 0, none⟩) (l.length + 1) c5)) ∧ QX w A B2 gp n (.slice (some ⟨gf, 0, none⟩) n fc) xs (w5.setCell ⟨gr, k, none⟩ (.slice (some ⟨g5, 0, none⟩) (l.length + 1) c5)) PS ∧ ∀ p, p < x + 1 → F p = p → FL PS p = cnt F p) := by
          intro w5 g5 c5 ho h5 hat
          rw [hu] at h5 hat
          have hW : Below wq.heap.size wq wq.drew := (Below.refl _ _).drew
          have h1 := HPG.out.1.put hW hkl hl.symm ho h5 (by rcases hat with h | h; exact Or.inl h; exact Or.inr (Or.inl h))
          refine ⟨by rw [hst, ← hl]; exact h1, HPG.out.2.1.step ?_, HPG.out.2.2⟩
          have h2 := (((Below.refl B2 wq).drew).alloc (by simpa using hwsz) (.cells #[.int .i64 b.x0, .int .i64 b.y0, .int .i64 b.x1, .int .i64 b.y1] 44)).grown h5 (by simp; omega) (fun q hq => ((HPG.out.1.bx k hkl).blk hq).1)
          exact h2.setCell hgrB _
        clear hjr hl hu hst hrow HBX
        obtain ⟨m, hm⟩ : ∃ m, m = LS.length := ⟨_, rfl⟩
        have hm2 : m ≤ 100000 := by omega
        rw [← hm] at hkl HEND ⊢
        have HX : Hid (m = LS.length) := hm
        clear hm hLl
        have d2 : (0 : Int) ≤ (k : Int) := by omega
        have d3 : (k : Int) < (m : Int) := by omega
        go_region_law (refine step_append_lies _ rfl (.tmp 41) (.tmp 46) 28 rfl B2 44 i1 (.agg #[.int .i64 0, .int .i64 0, .int .i64 0, .int .i64 0]) 4 32 Try.underlying28 hi1 hq0 hq1 hq2 rfl (by decide) u l.length (bflat l) (by simp [Act.eval, Act.put]) (HOW.out _ (by (repeat' (first | (with_reducible exact Below.refl _ _) | (with_reducible assumption) | (with_reducible refine Below.setCell ?_ ?_ _) | (with_reducible refine Below.alloc ?_ ?_ _) | (with_reducible refine below_drewN ?_ _) | (with_reducible refine Below.drew ?_) | (with_reducible exact Nat.le_refl _) | omega | (simp; done) | (simp; omega))))) ⟨wq.heap.size, 0, none⟩ 1 1 (bcells b) (by simp [Act.eval, Act.put]) rfl (World.news_of_block (cs := #[.int .i64 b.x0, .int .i64 b.y0, .int .i64 b.x1, .int .i64 b.y1]) (t := 44) (fr := (0, 0)) (heap_alloc_new _ _)) (by simp [bcells, Value.oneCell']) (by decide) (by unfold maxLen; omega) (by omega) (by simp; omega) (wq.heap.size + 1) (by simp) ?_; intro g5 c5 w5 hown5 hgrow5 hat5 hlt5; obtain ⟨q0, q1, q2⟩ := HFZ.out w5 hgrow5)
        all_goals
          have R : Hid _ := HEND.out w5 g5 c5 hown5 hgrow5 hat5
          clear hown5 hgrow5 hat5
          go_wp2
          go_roundw
          case rel => exact ⟨x + 1, _, PS, by omega, by go_num, R.out⟩
          case measure => simp [intOf]; omega
      · have hof := hR.out.1.form
        obtain ⟨ra, rc2, rfl⟩ := hof
        have HLS : LS = rowsL s F i := by rw [hLS]; unfold rows1; rw [if_neg (by rw [← hx]; exact hF)]
        rw [← HLS] at hR ⊢
        obtain ⟨wq, hwq⟩ : ∃ wq, wq = wr := ⟨_, rfl⟩
        rw [← hwq] at hR x0 hgf ⊢
        have z0 := (hR.out.2.1.ip.at (j := x) (by omega)).1
        rw [hR.out.2.2 x (by omega) (by rw [hx]; exact HF.out.1.own i hlt), ← hk] at z0
        have HPG : Hid (PG wq B2 (.slice ra LS.length rc2) LS vs ∧ QX w A B2 gp n (.slice (some ⟨gf, 0, none⟩) n fc) xs wq ps ∧ ∀ p, p < i + 1 → F p = p → FL ps p = cnt F p) := by
          refine ⟨hR.out.1, hR.out.2.1, fun p hp hFp => ?_⟩
          by_cases e : p = i
          · exact absurd (by rw [hx, ← e, hFp]) hF
          · exact hR.out.2.2 p (by omega) hFp
        have n1 : ((x : Int) == (i : Int)) = false := by simp; omega
        clear hR hwq HLS hLS hx hk hb
        obtain ⟨⟨c0, c1, c2, c3⟩, hg⟩ := HBX.out wq HPG.out.2.1.bl
        obtain ⟨_, _, hgi⟩ := HPG.out.2.1.ip.at hlt
        obtain ⟨gr, crr, he, hgrB, hgr, hjr⟩ := PG.pos HPG.out.1 (by omega)
        simp only [Value.slice.injEq] at he
        obtain ⟨rfl, hx1, hx2⟩ := he
        clear hx1 hx2
        have r0 := hjr k hkl
        obtain ⟨l, hl⟩ : ∃ l, l = LS.getD k [] := ⟨_, rfl⟩
        obtain ⟨u, hu⟩ : ∃ u, u = vat vs k := ⟨_, rfl⟩
        rw [← hu] at r0
        have hlb : l.length ≤ 100000 := by rw [hl]; omega
        have hwsz := HPG.out.2.1.sz
        have HOW : Hid (∀ W, Below wq.heap.size wq W → W.ownsRow B2 44 4 u l.length (bflat l)) := by
          intro W hW
          have := (HPG.out.1.bx k hkl).below hW
          rw [hl, hu]; exact this
        have HFZ : Hid (∀ w5, (wq.drew.alloc (.cells #[.int .i64 b.x0, .int .i64 b.y0, .int .i64 b.x1, .int .i64 b.y1] 44)).grownBy w5 u.ownBlock → w5.cell? ⟨gr, k, none⟩ = some u ∧ w5.frozen? ⟨gr, k, none⟩ = false ∧ gr < w5.heap.size) := by
          intro w5 h5
          have hub : ∀ q, u.ownBlock = some q → ∃ cs, wq.heap[q]? = some (.cells cs 44 (0, 0)) := fun q hq => by rw [hu] at hq; exact ((HPG.out.1.bx k hkl).blk hq).2.2
          have e1 : w5.heap[gr]? = wq.heap[gr]? := by
            rw [h5.block gr (by simp; omega) fun e => ?_]
            · exact Below.heap_alloc _ _ _ (by simpa using hgr)
            · obtain ⟨cs, hcs⟩ := hub gr e.symm
              obtain ⟨_, _, cs', h3⟩ := HPG.out.1.rowBlk (g := gr) rfl
              exact kinds h3 hcs rfl
          have h1 : w5.ownsRow B2 28 1 (.slice (some ⟨gr, 0, none⟩) LS.length rc2) LS.length vs := row_kept HPG.out.1.o fun g hgg => by
            simp only [Value.ownBlock, Option.some.injEq] at hgg
            subst hgg; exact e1
          exact ⟨(World.cell?_of_block e1).trans r0, World.ownsRow.frozenAt h1 k, (World.ownsRow.lt h1 gr rfl).2⟩
        have HEND : Hid (∀ w5 g5 c5, w5.ownsRow B2 44 4 (.slice (some ⟨g5, 0, none⟩) (l.length + 1) c5) (l.length + 1) (bflat l ++ bcells b) → (wq.drew.alloc (.cells #[.int .i64 b.x0, .int .i64 b.y0, .int .i64 b.x1, .int .i64 b.y1] 44)).grownBy w5 u.ownBlock → (u.ownBlock = some g5 ∨ g5 = wq.heap.size + 1) →
            PG (w5.setCell ⟨gr, k, none⟩ (.slice (some ⟨g5, 0, none⟩) (l.length + 1) c5)) B2 (.slice (some ⟨gr, 0, none⟩) LS.length rc2) (rowsL s F (i + 1)) (vs.set k (.slice (some ⟨g5, 0, none⟩) (l.length + 1) c5)) ∧ QX w A B2 gp n (.slice (some ⟨gf, 0, none⟩) n fc) xs (w5.setCell ⟨gr, k, none⟩ (.slice (some ⟨g5, 0, none⟩) (l.length + 1) c5)) ps ∧ ∀ p, p < i + 1 → F p = p → FL ps p = cnt F p) := by
          intro w5 g5 c5 ho h5 hat
          rw [hu] at h5 hat
          have hW : Below wq.heap.size wq wq.drew := (Below.refl _ _).drew
          have h1 := HPG.out.1.put hW hkl hl.symm ho h5 (by rcases hat with h | h; exact Or.inl h; exact Or.inr (Or.inl h))
          refine ⟨by rw [hst, ← hl]; exact h1, HPG.out.2.1.step ?_, HPG.out.2.2⟩
          have h2 := (((Below.refl B2 wq).drew).alloc (by simpa using hwsz) (.cells #[.int .i64 b.x0, .int .i64 b.y0, .int .i64 b.x1, .int .i64 b.y1] 44)).grown h5 (by simp; omega) (fun q hq => ((HPG.out.1.bx k hkl).blk hq).1)
          exact h2.setCell hgrB _
        clear hjr hl hu hst hrow HBX
        obtain ⟨m, hm⟩ : ∃ m, m = LS.length := ⟨_, rfl⟩
        have hm2 : m ≤ 100000 := by omega
        rw [← hm] at hkl HEND ⊢
        have HX : Hid (m = LS.length) := hm
        clear hm hLl
        have d2 : (0 : Int) ≤ (k : Int) := by omega
        have d3 : (k : Int) < (m : Int) := by omega
        go_wp2_with (fail)
        go_region_law (refine step_append_lies _ rfl (.tmp 41) (.tmp 46) 28 rfl B2 44 i1 (.agg #[.int .i64 0, .int .i64 0, .int .i64 0, .int .i64 0]) 4 32 Try.underlying28 hi1 hq0 hq1 hq2 rfl (by decide) u l.length (bflat l) (by simp [Act.eval, Act.put]) (HOW.out _ (by (repeat' (first | (with_reducible exact Below.refl _ _) | (with_reducible assumption) | (with_reducible refine Below.setCell ?_ ?_ _) | (with_reducible refine Below.alloc ?_ ?_ _) | (with_reducible refine below_drewN ?_ _) | (with_reducible refine Below.drew ?_) | (with_reducible exact Nat.le_refl _) | omega | (simp; done) | (simp; omega))))) ⟨wq.heap.size, 0, none⟩ 1 1 (bcells b) (by simp [Act.eval, Act.put]) rfl (World.news_of_block (cs := #[.int .i64 b.x0, .int .i64 b.y0, .int .i64 b.x1, .int .i64 b.y1]) (t := 44) (fr := (0, 0)) (heap_alloc_new _ _)) (by simp [bcells, Value.oneCell']) (by decide) (by unfold maxLen; omega) (by omega) (by simp; omega) (wq.heap.size + 1) (by simp) ?_; intro g5 c5 w5 hown5 hgrow5 hat5 hlt5; obtain ⟨q0, q1, q2⟩ := HFZ.out w5 hgrow5)
        all_goals
          have R : Hid _ := HEND.out w5 g5 c5 hown5 hgrow5 hat5
          clear hown5 hgrow5 hat5
          go_wp2
          go_roundw
          case rel => exact ⟨i + 1, _, ps, by omega, by go_num, R.out⟩
          case measure => simp [intOf]; omega
    · have ei : n = i := by omega
      subst ei
      have hof := hR.out.1.form
      obtain ⟨ra, rc, rfl⟩ := hof
      have HRW : Hid (∀ l ∈ rowsL s F n, l.length ≤ 100000 ∧ ∀ q ∈ l, q.x0 < q.x1) := by
        intro l hl
        unfold rowsL at hl
        obtain ⟨p, hp, rfl⟩ := List.mem_map.1 hl
        refine ⟨by have := selB_len s F p n; omega, fun q hq => ?_⟩
        obtain ⟨t, ht, _, rfl⟩ := selB_mem hq
        exact (H.out.2.1.at (k := t) (by rw [← H.out.2.2]; exact ht) rfl).1
      have HPE : Hid ((rowsL s F n).map (fun l => opOf (takesK 1) l []) = partsL s F n n) := rowsL_parts s F n
      have hcl := cnt_le F n
      have hrl := rowsL_len s F n
      generalize rowsL s F n = LS at hR HRW HPE hrl ⊢
      obtain ⟨m, hm⟩ : ∃ m, m = LS.length := ⟨_, rfl⟩
      have HM : Hid (m = LS.length) := hm
      have hm2 : m ≤ 100000 := by omega
      have hwB : w.heap.size ≤ B2 := by have := hR.out.2.1.g1; have := hR.out.2.1.g2; have := hR.out.2.1.g3; omega
      have H0 : Hid (PL wr B2 (.slice ra LS.length rc) LS vs ∧ Below w.heap.size w wr) := ⟨hR.out.1.pl, hR.out.2.1.bl⟩
      rw [← hm] at H0 ⊢
      clear hR hm hrl hcl hlt
      go_wp2_with (fail)
      go_loopw [52] (fun i wr => ∃ (k : Nat) (us : List Value), k ≤ m ∧ i = .int .i64 k ∧ Hid (PL wr B2 (.slice ra m rc) (mixO LS k) us ∧ Below w.heap.size w wr)) (fun i _ => m - (intOf i).toNat)
      case atStart => exact ⟨0, vs, Nat.zero_le _, rfl, by have := H0.out; unfold Hid; simpa [mixO] using this⟩
      case round =>
        clear H0
        obtain ⟨k, us, hk, rfl, hR⟩ := hrel
        by_cases hlt : k < m
        · have hkl : k < LS.length := by rw [← HM.out]; exact hlt
          have hml : (mixO LS k).length = m := by rw [mixO_len, HM.out]
          obtain ⟨wq, hwq⟩ : ∃ wq, wq = wr := ⟨_, rfl⟩
          rw [← hwq] at hR ⊢
          clear hwq
          obtain ⟨gr, crr, he, hgrB, hgr, hjr⟩ := PL.posU hR.out.1 (by omega)
          simp only [Value.slice.injEq] at he
          obtain ⟨rfl, hx1, hx2⟩ := he
          clear hx1 hx2
          have r0 := hjr k (by omega)
          obtain ⟨l, hl⟩ : ∃ l, l = LS.getD k [] := ⟨_, rfl⟩
          have hbk := hR.out.1.bx k (by omega)
          rw [mixO_at LS k hkl, ← hl] at hbk
          have hlm : l ∈ LS := by rw [hl, List.getD_eq_getElem?_getD, List.getElem?_eq_getElem hkl]; exact List.getElem_mem hkl
          obtain ⟨hl150, hlx⟩ := HRW.out l hlm
          have hrb := hbk.rb
          obtain ⟨ua, uc, hu⟩ := hrb.form
          change us.getD k (.slice none 0 0) = _ at hu
          rw [show vat us k = us.getD k (.slice none 0 0) from rfl, hu] at r0
          rw [hu] at hrb
          have HOP : Hid (∀ W, Below wq.heap.size wq W → Calls Try.prog 34 #[.slice ua l.length uc] W fun e w' => ∃ v', e = .returned v' ∧ (∃ pa pl pc, v' = .slice pa pl pc) ∧ (w'.cell? ⟨gr, k, none⟩ = some (.slice ua l.length uc) ∧ w'.frozen? ⟨gr, k, none⟩ = false ∧ gr < w'.heap.size) ∧ Hid (PL (w'.setCell ⟨gr, k, none⟩ v') B2 (.slice (some ⟨gr, 0, none⟩) m rc) (mixO LS (k + 1)) (us.set k v') ∧ Below w.heap.size w (w'.setCell ⟨gr, k, none⟩ v'))) := by
            intro W hW
            refine (impl_oneForm hl150 hlx (hrb.below hW)).mono ?_
            rintro e w' ⟨v', rfl, hbs, hbl⟩
            have hbw : Below wq.heap.size wq w' := hW.trans (hbl.mono hW.size)
            have e1 : w'.heap[gr]? = wq.heap[gr]? := hbw.block gr hgr
            have h1 : w'.ownsRow B2 28 1 (.slice (some ⟨gr, 0, none⟩) (mixO LS k).length rc) (mixO LS k).length us := row_kept (by have := hR.out.1.o; rwa [hml] at this ⊢) fun g hgg => by
              simp only [Value.ownBlock, Option.some.injEq] at hgg
              subst hgg; exact e1
            have hfo : ∃ pa pl pc, v' = .slice pa pl pc := by obtain ⟨pa, pc, pq, e, _⟩ := hbs; exact ⟨_, _, _, e⟩
            refine ⟨v', rfl, hfo, ⟨(World.cell?_of_block e1).trans r0, World.ownsRow.frozenAt h1 k, (World.ownsRow.lt h1 gr rfl).2⟩, ?_, ?_⟩
            · rw [← mixO_step LS k hkl, ← hl]
              exact hR.out.1.swap hbw (by omega) (hbs.low hW.size)
            · exact (hR.out.2.trans (hbw.mono hR.out.2.size)).setCell (Nat.le_trans hwB hgrB) _
          clear hjr hl hbk hlm hlx hu hR hml hkl hrb
          have d2 : (0 : Int) ≤ (k : Int) := by omega
          have d3 : (k : Int) < (m : Int) := by omega
          go_wp2_with (fail)
          refine (HOP.out _ (Below.refl _ _)).mono ?_
          rintro e w3 ⟨v3, rfl, ⟨pa, pl, pc, rfl⟩, ⟨q0, q1, q2⟩, R⟩
          clear HOP r0
          go_wp2
          go_roundw
          case rel => exact ⟨k + 1, _, by omega, by go_num, R⟩
          case measure => simp [intOf]; omega
        · have ek : m = k := by omega
          subst ek
          have HO : Hid (PL wr B2 (.slice ra m rc) (partsL s F n n) us ∧ Below w.heap.size w wr) := by
            have := hR.out
            rwa [mixO_end LS m (by rw [HM.out]; exact Nat.le_refl _), HPE.out] at this
          clear hR
          go_wp2
          go_returns
          exact ⟨_, F, us, rfl, HF.out.1, HO.out.1.low hwB, HO.out.2⟩

end Go.Proofs.Ytlnhfgacgbdjaaa
