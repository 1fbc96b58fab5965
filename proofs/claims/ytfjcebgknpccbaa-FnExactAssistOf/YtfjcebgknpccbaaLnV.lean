/- Proved here: the model's PrintOf. -/
import Derived.Test.YtfjcebgknpccbaaLnU
namespace Go.Proofs.Ytfjcebgknpccbaa
open Go.RowKit
set_option linter.unusedVariables false
set_option linter.unusedSimpArgs false

theorem OG.snocN {w : World} {B : Nat} {v : Value} {xs : List Ln} {y : Ln} (h : w.ownsRow B 60 2 v (xs.length + 1) (xs.flatMap lnC ++ lnC y)) : OG 60 2 lnC w B v (xs ++ [y]) := by
  unfold OG
  rw [List.length_append, List.flatMap_append]
  simpa using h
theorem OG.lastT {w : World} {B g n c : Nat} {D : List Ln} {a x y : Int} (hn : n = D.length + 1) (h : OG 60 2 lnC w B (.slice (some ⟨g, 0, none⟩) n c) (D ++ [⟨a, x⟩])) :
    OG 60 2 lnC (w.setCell ⟨g, D.length * 2 + 1, none⟩ (.int .i64 y)) B (.slice (some ⟨g, 0, none⟩) n c) (D ++ [⟨a, y⟩]) := by
  subst hn
  have h2 : w.ownsRow B 60 2 (.slice (some ⟨g, 0, none⟩) (D.length + 1) c) (D.length + 1) ((D ++ [(⟨a, x⟩ : Ln)]).flatMap lnC) := by
    unfold OG at h; simpa using h
  have h3 := (World.ownsRow.stored h2 (D.length * 2 + 1) (.int .i64 y)).1
  unfold OG
  have e : ((D ++ [(⟨a, x⟩ : Ln)]).flatMap lnC).set (D.length * 2 + 1) (.int .i64 y) = (D ++ [(⟨a, y⟩ : Ln)]).flatMap lnC := by
    rw [List.flatMap_append, List.flatMap_append, List.set_append_right _ _ (by rw [fm_length lnC_len]; omega), fm_length lnC_len, show D.length * 2 + 1 - D.length * 2 = 1 by omega]
    rfl
  rw [e] at h3
  simpa using h3
theorem OG.cellsN {w : World} {B : Nat} {a : Option Addr} {n c : Nat} {ls : List Ln} (h : OG 60 2 lnC w B (.slice a n c) ls) {k : Nat} (hk : k < ls.length) : ∃ g, a = some ⟨g, 0, none⟩ ∧ B ≤ g ∧ g < w.heap.size ∧ w.cell? ⟨g, k * 2, none⟩ = some (.int .i64 ls[k].f) ∧ w.cell? ⟨g, k * 2 + 1, none⟩ = some (.int .i64 ls[k].t) ∧ (∀ i, w.frozen? ⟨g, i, none⟩ = false) := by
  rcases h.2 with ⟨h1, h0⟩ | ⟨g, cap, cur, h1, hB, hx⟩
  · omega
  · injection h1 with h1 h2 h3
    subst h1 h2
    refine ⟨g, rfl, hB, (OG.lt h g rfl).2, ?_, ?_, fun i => World.ownsRow.frozenAt h i⟩
    · have := World.ownsRow.cellAt h (k * 2) (by omega)
      rw [this]
      have := fm_get lnC_len ls k 0 hk (by omega)
      simpa [lnC] using this
    · have := World.ownsRow.cellAt h (k * 2 + 1) (by omega)
      rw [this]
      have := fm_get lnC_len ls k 1 hk (by omega)
      simpa [lnC] using this

/-- Where the model stands. -/
structure PoS (w : World) (BX RX : Obj) (lB : Nat) (sv : Value) (sums : List Int) (v : Value) (cur : List Ln) (wr : World) : Prop where
  bl : Below w.heap.size w wr
  bx : wr.heap[w.heap.size]? = some BX
  rx : wr.heap[w.heap.size + 1]? = some RX
  sm : IS wr w.heap.size sv sums
  sh : ∀ g, sv.ownBlock = some g → g < lB
  lo : w.heap.size + 1 < lB ∧ lB ≤ wr.heap.size
  su : OG 60 2 lnC wr lB v cur
theorem PoS.next {w : World} {BX RX : Obj} {lo : Nat} {sv : Value} {sums : List Int} {v : Value} {cur : List Ln} {wr wv : World} (h : PoS w BX RX lo sv sums v cur wr) (hb : Below wr.heap.size wr wv) : PoS w BX RX lo sv sums v cur wv :=
  ⟨h.bl.trans (hb.mono h.bl.size), (hb.block _ (by have := h.lo; omega)).trans h.bx, (hb.block _ (by have := h.lo; omega)).trans h.rx, h.sm.bel hb, h.sh, ⟨h.lo.1, Nat.le_trans h.lo.2 hb.size⟩, OG.below h.su hb⟩
/-- Only what lies from lo on has turned. -/
theorem PoS.turn {w : World} {BX RX : Obj} {lo : Nat} {sv : Value} {sums : List Int} {v v' : Value} {cur cur' : List Ln} {wr wv : World} (h : PoS w BX RX lo sv sums v cur wr) (hb : Below lo wr wv) (hs : OG 60 2 lnC wv lo v' cur') : PoS w BX RX lo sv sums v' cur' wv :=
  ⟨h.bl.trans (hb.mono (by have := h.lo; omega)), (hb.block _ (by have := h.lo; omega)).trans h.bx, (hb.block _ (by have := h.lo; omega)).trans h.rx, h.sm.kept fun g hg => hb.block g (h.sh g hg), h.sh, ⟨h.lo.1, Nat.le_trans h.lo.2 hb.size⟩, hs⟩

set_option maxRecDepth 10000 in
set_option maxHeartbeats 12800000 in
theorem spec_po (K len : Int) {w : World} {v u : Value} {s : List Ln} {ws : List Int} (hn : s.length ≤ 1048576) (h : RG 2 lnC w v s) (hu : RdI w u ws) :
    Calls Try.prog 26 #[v, .int .i64 len, .agg #[u, .int .i64 K]] w fun e w' => ∃ r, e = .returned (.agg #[.int .i64 (plF s len ws K), r]) ∧ OG 60 2 lnC w' w.heap.size r (plL s len ws K) ∧ Below w.heap.size w w' := by
  obtain ⟨a, c, rfl⟩ := h.form
  obtain ⟨b, d, rfl⟩ := hu.form
  obtain ⟨n, hnn⟩ : ∃ n, n = s.length := ⟨_, rfl⟩
  obtain ⟨m, hmm⟩ : ∃ m, m = ws.length := ⟨_, rfl⟩
  rw [← hnn] at h ⊢
  rw [← hmm] at hu ⊢
  obtain ⟨C, hC⟩ : ∃ C, C = lpF s len ws K := ⟨_, rfl⟩
  obtain ⟨CC, hCC⟩ : ∃ C, C = plF s len ws K := ⟨_, rfl⟩
  obtain ⟨LL, hLL⟩ : ∃ C, C = plL s len ws K := ⟨_, rfl⟩
  rw [← hCC, ← hLL]
  have H : Hid (RG 2 lnC w (.slice a n c) s ∧ RdI w (.slice b m d) ws ∧ C = lpF s len ws K ∧ CC = plF s len ws K ∧ LL = plL s len ws K) := ⟨h, hu, hC, hCC, hLL⟩
  have HL : Hid (∀ W, Below w.heap.size w W → Calls Try.prog 43 #[.slice a n c, .int .i64 len, .agg #[.slice b m d, .int .i64 K]] W fun e w' => e = .returned (.int .i64 C) ∧ Below W.heap.size W w') := fun W hW => by rw [hC]; exact spec_pf8 K len hn (h.below hW) (hu.below hW)
  clear h hu hn hC hnn hmm hCC hLL
  go_enter Try.func26, Try.ntmps26
  go_wp2_with (fail)
  refine (HL.out _ (by (repeat' (first | (with_reducible exact Below.refl _ _) | (with_reducible assumption) | (with_reducible refine Below.setCell ?_ ?_ _) | (with_reducible refine Below.alloc ?_ ?_ _) | (with_reducible refine below_drewN ?_ _) | (with_reducible refine Below.drew ?_) | (with_reducible exact Nat.le_refl _) | omega | (simp; done) | (simp; omega))))).mono ?_
  rintro e w1 ⟨rfl, hb1⟩
  have k1 := (hb1.block w.heap.size (by simp; omega)).trans ((Below.heap_alloc _ _ _ (by simp)).trans (heap_alloc_new w _))
  have k2 := (hb1.block (w.heap.size + 1) (by simp)).trans (kn_at1 w _ _)
  have HB : Hid (Below w.heap.size w w1) := (show Below w.heap.size w _ from by (repeat' (first | (with_reducible exact Below.refl _ _) | (with_reducible assumption) | (with_reducible refine Below.setCell ?_ ?_ _) | (with_reducible refine Below.alloc ?_ ?_ _) | (with_reducible refine below_drewN ?_ _) | (with_reducible refine Below.drew ?_) | (with_reducible exact Nat.le_refl _) | omega | (simp; done) | (simp; omega)))).trans (hb1.mono (by simp; omega))
  have HK2 : Hid (w1.heap[w.heap.size]? = some (.cells #[.slice b m d, .int .i64 K] 34) ∧ w1.heap[w.heap.size + 1]? = some (.cells #[.int .i64 0, .slice none 0 0] 47)) := ⟨k1, k2⟩
  obtain ⟨p0, p1, pf, pl⟩ := kn_two k1
  obtain ⟨q0, q1, qf, ql⟩ := kn_two k2
  have qf0 := qf 0
  have qf1 := qf 1
  clear hb1 k1 k2 pf qf
  by_cases hC0 : C = 0
  case neg =>
    have hC1 : (C != 0) = true := by simpa using hC0
    have HN : Hid (CC = C ∧ LL = []) := by
      refine ⟨?_, ?_⟩
      · rw [H.out.2.2.2.1, plF, ← H.out.2.2.1, if_neg hC0]
      · rw [H.out.2.2.2.2, plL, ← H.out.2.2.1, if_neg hC0]
    go_wp2
    try simp only [Exit.inBlock, Exit.then]
    refine bodyPost_ret (by simp [results, Try.results26, go_sem, q0, q1]; try rfl) rfl ⟨_, by rw [HN.out.1], ?_, ?_⟩
    · rw [HN.out.2]; exact World.ownsRow_nil _ _ _ _
    · have hB := HB.out
      (repeat' (first | (with_reducible exact Below.refl _ _) | (with_reducible assumption) | (with_reducible refine Below.setCell ?_ ?_ _) | (with_reducible refine Below.alloc ?_ ?_ _) | (with_reducible refine below_drewN ?_ _) | (with_reducible refine Below.drew ?_) | (with_reducible exact Nat.le_refl _) | omega | (simp; done) | (simp; omega)))
  obtain ⟨h1, h2⟩ := lpF_good (H.out.2.2.1.symm.trans hC0)
  obtain ⟨L, hL⟩ : ∃ L : Nat, len = (L : Int) := ⟨len.toNat, by omega⟩
  have hLb : L ≤ 60 := by omega
  obtain ⟨f, hf⟩ : ∃ f, f = prF s ws K L := ⟨_, rfl⟩
  have HQ : Hid (∀ W, Below w.heap.size w W → Calls Try.prog 44 #[.slice a n c, .int .i64 len, .agg #[.slice b m d, .int .i64 K]] W fun e w' => ∃ r, e = .returned r ∧ IS w' W.heap.size r (sumsK s ws L) ∧ Below W.heap.size W w') := fun W hW => spec_sums K hL hLb h1.2.2.1 h2.1 (H.out.1.below hW) (H.out.2.1.below hW)
  have HE : Hid (CC = laC (rnL f L) ∧ LL = laL (rnL f L) ∧ L ≤ 60 ∧ ∀ x, x < L → f x = decide (K ≤ (sumsK s ws L).getD x 0)) := by
    have e0 : len.toNat = L := by omega
    refine ⟨?_, ?_, hLb, fun x hx => by rw [hf]; simp [prF, sumsK, psL, hx]⟩
    · rw [H.out.2.2.2.1, plF, if_pos (H.out.2.2.1.symm.trans hC0), e0, hf]
    · rw [H.out.2.2.2.2, plL, if_pos (H.out.2.2.1.symm.trans hC0), e0, hf]
  subst hL
  clear h1 h2 hf
  subst hC0
  obtain ⟨i0, hi, hz0, hz1, hz2⟩ := info_parts info_Line
  obtain ⟨BX, hBX⟩ : ∃ BX, BX = Obj.cells #[.slice b m d, .int .i64 K] 34 := ⟨_, rfl⟩
  obtain ⟨RX, hRX⟩ : ∃ RX, RX = Obj.cells #[.int .i64 0, .slice none 0 0] 47 := ⟨_, rfl⟩
  have HBX : Hid (BX = Obj.cells #[.slice b m d, .int .i64 K] 34 ∧ RX = Obj.cells #[.int .i64 0, .slice none 0 0] 47) := ⟨hBX, hRX⟩
  go_wp2_with (fail)
  refine (HQ.out _ HB.out).mono ?_
  rintro e w2 ⟨r2, rfl, hr2, hb2⟩
  obtain ⟨sa, sc, hsf⟩ := hr2.form
  rw [sumsK_len] at hsf
  subst hsf
  have HS2 : Hid (PoS w BX RX w2.heap.size (.slice sa L sc) (sumsK s ws L) (.slice none 0 0) [] w2) :=
    ⟨HB.out.trans (hb2.mono HB.out.size), by rw [hBX]; exact (hb2.block _ pl).trans HK2.out.1, by rw [hRX]; exact (hb2.block _ ql).trans HK2.out.2, hr2.low HB.out.size, fun g hg => (IS.lt hr2 g hg).2, ⟨Nat.lt_of_lt_of_le ql hb2.size, Nat.le_refl _⟩, World.ownsRow_nil _ _ _ _⟩
  clear p0 p1 pl q0 q1 qf0 qf1 ql hr2 hb2 HK2 HB hBX hRX
  go_wp2
  go_loopw [9, 10] (fun o i wr => ∃ (x : Nat) (v : Value), x ≤ L ∧ v = o ∧ i = .int .i64 x ∧ Hid (PoS w BX RX w2.heap.size (.slice sa L sc) (sumsK s ws L) v (rnL f x) wr)) (fun _ i _ => L - (intOf i).toNat)
  case atStart =>
    refine ⟨0, _, Nat.zero_le _, rfl, rfl, HS2.out.turn (by (repeat' (first | (with_reducible exact Below.refl _ _) | (with_reducible assumption) | (with_reducible refine Below.setCell ?_ ?_ _) | (with_reducible refine Below.alloc ?_ ?_ _) | (with_reducible refine below_drewN ?_ _) | (with_reducible refine Below.drew ?_) | (with_reducible exact Nat.le_refl _) | omega | (simp; done) | (simp; omega)))) ?_⟩
    have := World.ownsRow_lit (e := 60) (size := 2) (base := w2.heap.size) w2 #[] 0 (by simp) (by decide) (by simp)
    simpa [OG, rnL, rnS, opL] using this
  case round =>
    clear HS2
    obtain ⟨x, v, hx, rfl, rfl, hR⟩ := hrel
    by_cases hltx : x < L
    · have b0 : (0 : Int) ≤ (x : Int) := by omega
      have b1 : (x : Int) < (L : Int) := by omega
      obtain ⟨g, o, hag, hgw, hxw⟩ := rd_at hR.out.sm.rg hltx
      subst hag
      obtain ⟨X, hX⟩ : ∃ X, X = (sumsK s ws L).getD x 0 := ⟨_, rfl⟩
      have hfx : f x = decide (K ≤ X) := by rw [hX]; exact HE.out.2.2.2 x hltx
      rw [← hX] at hxw
      have kb := hR.out.bx
      rw [HBX.out.1] at kb
      obtain ⟨p0, p1, pf, pl⟩ := kn_two kb
      clear kb pf hX
      by_cases hK : X < K
      · have HN : Hid (PoS w BX RX w2.heap.size (.slice (some ⟨g, o, none⟩) L sc) (sumsK s ws L) v (rnL f (x + 1)) wr) := by
          unfold Hid; rw [rnL_no (by rw [hfx]; simp; omega)]; exact hR.out
        clear hR hfx
        go_wp2
        go_quiet (fail)
        go_wp2
        go_roundw
        case rel => exact ⟨x + 1, v, by omega, rfl, by go_num, HN.out.next (by (repeat' (first | (with_reducible exact Below.refl _ _) | (with_reducible assumption) | (with_reducible refine Below.setCell ?_ ?_ _) | (with_reducible refine Below.alloc ?_ ?_ _) | (with_reducible refine below_drewN ?_ _) | (with_reducible refine Below.drew ?_) | (with_reducible exact Nat.le_refl _) | omega | (simp; done) | (simp; omega))))⟩
        case measure => simp [intOf]; omega
      · have dK : decide (X < K) = false := by simpa using hK
        have hft : f x = true := by rw [hfx]; simp; omega
        obtain ⟨va, vc, hvf⟩ := (OG.rg lnC_len hR.out.su).form
        subst hvf
        have hln : (rnL f x).length ≤ 100 := by have := rnL_len f x; omega
        rcases ho : (rnS f x).2 with _ | a0
        · obtain ⟨e1, e2⟩ := rnL_new hft ho
          have hlow := (rnS_low f x).1
          rw [← e2] at hlow
          have HST : Hid (rnL f (x + 1) = rnL f x ++ [⟨(x : Int), (x : Int) + 1⟩]) := e1
          generalize rnL f x = cur at hR HST hlow hln ⊢
          clear e1 e2 ho hfx hft
          have hszo := hR.out.lo
          obtain ⟨q, hq⟩ : ∃ q, q = cur.length := ⟨_, rfl⟩
          have hR' : Hid (PoS w BX RX w2.heap.size (.slice (some ⟨g, o, none⟩) L sc) (sumsK s ws L) (.slice va q vc) cur wr) := by unfold Hid; rw [hq]; exact hR.out
          have HQ2 : Hid (q = cur.length) := hq
          have hq100 : q ≤ 100 := by omega
          rw [← hq]
          have HOW : Hid (∀ W : World, Below wr.heap.size wr W → W.ownsRow w2.heap.size 60 2 (.slice va q vc) q (cur.flatMap lnC)) := fun W hW => by
            have := (hR'.out.next hW).su
            unfold OG at this
            rw [← hq] at this
            exact this
          clear hR hq hln
          rcases Nat.eq_zero_or_pos q with hq0 | hq0
          · have d0 : decide (0 < q) = false := by simp; omega
            have d1 : ¬ 0 < q := by omega
            clear hq0
            go_wp2
            go_quiet (fail)
            go_wp2_with (at_builtin; refine wpList_append_own _ rfl _ _ 25 rfl w2.heap.size 60 i0 (.agg #[.int .i64 0, .int .i64 0]) 2 16 Try.underlying25 hi hz0 hz1 hz2 rfl (by decide) _ _ (cur.flatMap lnC) rfl (World.ownsRow.alloc (HOW.out _ (below_drewN (Below.refl _ _) _)) _) ⟨wr.heap.size, 0, none⟩ 1 1 (lnC ⟨(x : Int), (x : Int) + 1⟩) rfl rfl (World.news_of_block (cs := #[.int .i64 (x : Int), .int .i64 ((x : Int) + 1)]) (t := 60) (fr := (0, 0)) (heap_alloc_new _ _)) (by simp [lnC, Value.oneCell']) (by unfold maxLen; omega) (by omega) (by simp; omega) ?_; intro v6 w6 hown6 hgrow6 _)
            have R6 : Hid (PoS w BX RX w2.heap.size (.slice (some ⟨g, o, none⟩) L sc) (sumsK s ws L) v6 (rnL f (x + 1)) w6) := by
              unfold Hid
              rw [HST.out]
              have hne : ∀ g, (Value.slice va q vc).ownBlock = some g → w2.heap.size ≤ g := fun g hg => (World.ownsRow.lt hR'.out.su g hg).1
              refine hR'.out.turn ?_ (OG.snocN (by rw [← HQ2.out]; exact hown6))
              exact ((show Below w2.heap.size wr _ from by (repeat' (first | (with_reducible exact Below.refl _ _) | (with_reducible assumption) | (with_reducible refine Below.setCell ?_ ?_ _) | (with_reducible refine Below.alloc ?_ ?_ _) | (with_reducible refine below_drewN ?_ _) | (with_reducible refine Below.drew ?_) | (with_reducible exact Nat.le_refl _) | omega | (simp; done) | (simp; omega)))).grown hgrow6 (by simp; omega) (fun k hk => by have := hne k hk; omega))
            clear hown6 hgrow6 hR'
            go_wp2
            go_roundw
            case rel => exact ⟨x + 1, v6, by omega, rfl, by go_num, R6.out⟩
            case measure => simp [intOf]; omega
          · obtain ⟨gq, hgq, hgB, hgl, hc0, hc1, hcf⟩ := hR'.out.su.cellsN (k := q - 1) (by have := HQ2.out; omega)
            subst hgq
            have hTx : cur[q - 1]'(by have := HQ2.out; omega) ∈ cur := List.getElem_mem _
            have hlt := hlow _ hTx
            obtain ⟨T, hT⟩ : ∃ T, T = (cur[q - 1]'(by have := HQ2.out; omega)).t := ⟨_, rfl⟩
            rw [← hT] at hc1 hlt
            obtain ⟨q', rfl⟩ : ∃ q', q = q' + 1 := ⟨q - 1, by omega⟩
            simp only [Nat.add_sub_cancel] at hc1
            have d0 : (T == (x : Int)) = false := by simp; omega
            have d1 : ¬ T = (x : Int) := by omega
            have e9 : (((q' + 1 : Nat) : Int) - 1) = (q' : Int) := by omega
            clear hc0 hcf hT hTx hlow
            go_wp2
            go_quiet (fail)
            go_wp2_with (at_builtin; refine wpList_append_own _ rfl _ _ 25 rfl w2.heap.size 60 i0 (.agg #[.int .i64 0, .int .i64 0]) 2 16 Try.underlying25 hi hz0 hz1 hz2 rfl (by decide) _ _ (cur.flatMap lnC) rfl (World.ownsRow.alloc (HOW.out _ (below_drewN (Below.refl _ _) _)) _) ⟨wr.heap.size, 0, none⟩ 1 1 (lnC ⟨(x : Int), (x : Int) + 1⟩) rfl rfl (World.news_of_block (cs := #[.int .i64 (x : Int), .int .i64 ((x : Int) + 1)]) (t := 60) (fr := (0, 0)) (heap_alloc_new _ _)) (by simp [lnC, Value.oneCell']) (by unfold maxLen; omega) (by omega) (by simp; omega) ?_; intro v6 w6 hown6 hgrow6 _)
            have R6 : Hid (PoS w BX RX w2.heap.size (.slice (some ⟨g, o, none⟩) L sc) (sumsK s ws L) v6 (rnL f (x + 1)) w6) := by
              unfold Hid
              rw [HST.out]
              refine hR'.out.turn ?_ (OG.snocN (by rw [← HQ2.out]; exact hown6))
              exact ((show Below w2.heap.size wr _ from by (repeat' (first | (with_reducible exact Below.refl _ _) | (with_reducible assumption) | (with_reducible refine Below.setCell ?_ ?_ _) | (with_reducible refine Below.alloc ?_ ?_ _) | (with_reducible refine below_drewN ?_ _) | (with_reducible refine Below.drew ?_) | (with_reducible exact Nat.le_refl _) | omega | (simp; done) | (simp; omega)))).grown hgrow6 (by simp; omega) (fun k hk => by injection hk with hk; have hk' : gq = k := hk; omega))
            clear hown6 hgrow6 hR'
            go_wp2
            go_roundw
            case rel => exact ⟨x + 1, v6, by omega, rfl, by go_num, R6.out⟩
            case measure => simp [intOf]; omega
        · obtain ⟨e1, e2⟩ := rnL_on hft ho
          obtain ⟨D, hD⟩ : ∃ D, D = (rnS f x).1 := ⟨_, rfl⟩
          rw [← hD] at e1 e2
          rw [e2] at hR hln
          obtain ⟨q', hq'⟩ : ∃ q, q = D.length := ⟨_, rfl⟩
          have hln2 : (rnL f x).length = q' + 1 := by rw [e2, hq']; simp
          rw [hln2]
          have hR' : Hid (PoS w BX RX w2.heap.size (.slice (some ⟨g, o, none⟩) L sc) (sumsK s ws L) (.slice va (q' + 1) vc) (D ++ [⟨(a0 : Int), (x : Int)⟩]) wr) := by
            unfold Hid
            have := hR.out
            rw [show (D ++ [(⟨(a0 : Int), (x : Int)⟩ : Ln)]).length = q' + 1 by simp [hq']] at this
            exact this
          obtain ⟨gq, hgq, hgB, hgl, hc0, hc1, hcf⟩ := hR'.out.su.cellsN (k := q') (by simp; omega)
          subst hgq
          have hget : (D ++ [(⟨(a0 : Int), (x : Int)⟩ : Ln)])[q']'(by simp; omega) = ⟨(a0 : Int), (x : Int)⟩ := by
            rw [List.getElem_append_right (by omega)]; simp
          rw [hget] at hc1
          have hcf1 := hcf (q' * 2 + 1)
          have hq100 : q' ≤ 100 := by simp at hln; omega
          have HN : Hid (∀ W : World, Below wr.heap.size wr W → PoS w BX RX w2.heap.size (.slice (some ⟨g, o, none⟩) L sc) (sumsK s ws L) (.slice (some ⟨gq, 0, none⟩) (q' + 1) vc) (rnL f (x + 1)) (W.setCell ⟨gq, q' * 2 + 1, none⟩ (.int .i64 ((x : Int) + 1)))) := fun W hW => by
            rw [e1]
            have h3 := hR'.out.next hW
            refine h3.turn ((Below.refl _ _).setCell hgB _) ?_
            have h4 := OG.lastT (y := (x : Int) + 1) (by rw [hq']) h3.su
            rw [← hq'] at h4
            exact h4
          have e9 : (((q' + 1 : Nat) : Int) - 1) = (q' : Int) := by omega
          clear hc0 hcf hR hR' e1 e2 hln hln2 hget hfx hft ho hD hq'
          go_wp2
          go_quiet (fail)
          go_wp2
          go_roundw
          case rel => exact ⟨x + 1, _, by omega, rfl, by go_num, HN.out _ (below_drewN (Below.refl _ _) _)⟩
          case measure => simp [intOf]; omega
    · have b1 : ¬ (x : Int) < (L : Int) := by omega
      obtain rfl : x = L := by omega
      obtain ⟨va, vc, hvf⟩ := (OG.rg lnC_len hR.out.su).form
      subst hvf
      obtain ⟨q, hq⟩ : ∃ q, q = (rnL f x).length := ⟨_, rfl⟩
      have hq100 : q ≤ 100 := by have := rnL_len f x; omega
      rw [← hq]
      have kb := hR.out.rx
      rw [HBX.out.2] at kb
      obtain ⟨q0, q1, qf, ql⟩ := kn_two kb
      have qf0 := qf 0
      have qf1 := qf 1
      clear kb qf
      by_cases h12 : 12 < q
      · have h12' : (12 : Int) < (q : Int) := by omega
        have HC : Hid (CC = 2 ∧ LL = []) := ⟨by rw [HE.out.1, laC, if_pos (by omega)], by rw [HE.out.2.1, laL, if_pos (by omega)]⟩
        have HB : Hid (Below w.heap.size w wr) := hR.out.bl
        clear hR hq
        go_wp2
        try simp only [Exit.inBlock, Exit.then]
        refine bodyPost_ret (by simp [results, Try.results26, go_sem, q0, q1]; try rfl) rfl ⟨_, by rw [HC.out.1], ?_, ?_⟩
        · rw [HC.out.2]; exact World.ownsRow_nil _ _ _ _
        · have hB := HB.out
          (repeat' (first | (with_reducible exact Below.refl _ _) | (with_reducible assumption) | (with_reducible refine Below.setCell ?_ ?_ _) | (with_reducible refine Below.alloc ?_ ?_ _) | (with_reducible refine below_drewN ?_ _) | (with_reducible refine Below.drew ?_) | (with_reducible exact Nat.le_refl _) | omega | (simp; done) | (simp; omega)))
      · have h12' : ¬ (12 : Int) < (q : Int) := by omega
        have HC : Hid (CC = 0 ∧ LL = rnL f x) := ⟨by rw [HE.out.1, laC, if_neg (by omega)], by rw [HE.out.2.1, laL, if_neg (by omega)]⟩
        have HR : Hid (PoS w BX RX w2.heap.size (.slice sa x sc) (sumsK s ws x) (.slice va q vc) (rnL f x) wr) := by unfold Hid; rw [hq]; exact hR.out
        clear hR hq
        go_wp2
        try simp only [Exit.inBlock, Exit.then]
        refine bodyPost_ret (by simp [results, Try.results26, go_sem, q0, q1]; try rfl) rfl ⟨_, by rw [HC.out.1], ?_, ?_⟩
        · rw [HC.out.2]
          have hlo := HR.out.lo
          refine World.ownsRow.kept (row := some (w.heap.size + 1)) (OG.low HR.out.su (by omega)) ⟨rfl, rfl, rfl, by simp, fun k hk hne => ?_⟩ (Or.inr fun e => ?_)
          · rw [heap_setCell_other _ _ _ _ (fun e => hne (by rw [e])), heap_setCell_other _ _ _ _ (fun e => hne (by rw [e]))]
          · have := (OG.lt HR.out.su _ e).1; omega
        · have hB := HR.out.bl
          (repeat' (first | (with_reducible exact Below.refl _ _) | (with_reducible assumption) | (with_reducible refine Below.setCell ?_ ?_ _) | (with_reducible refine Below.alloc ?_ ?_ _) | (with_reducible refine below_drewN ?_ _) | (with_reducible refine Below.drew ?_) | (with_reducible exact Nat.le_refl _) | omega | (simp; done) | (simp; omega)))

end Go.Proofs.Ytfjcebgknpccbaa
