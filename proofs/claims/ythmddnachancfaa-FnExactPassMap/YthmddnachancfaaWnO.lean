/- Proved here: a map made by what is good (mapOf), of the program. -/
import Derived.Test.YthmddnachancfaaWnE
import Derived.Deep.DeepCutAuto
namespace Go.Proofs.Ythmddnachancfaa
open Go.RowKit
set_option linter.unusedVariables false
set_option linter.unusedSimpArgs false

set_option maxHeartbeats 800000 in
theorem impl_oneIf10 (b : Bool) (w : World) : Calls Try.prog 64 #[.bool b] w fun e w' => e = .returned (.int .i64 (if b = true then 1 else 0)) ∧ w' = w := by
  cases b with
  | true =>
    go_enter Try.func64, Try.ntmps64
    go_wp2
    go_returns
    exact ⟨rfl, rfl⟩
  | false =>
    go_enter Try.func64, Try.ntmps64
    go_wp2
    go_returns
    exact ⟨rfl, rfl⟩

/-- A row of which the first q are told. -/
def prt (p : Nat → Bool) (W q : Nat) : List Int := (List.range W).map fun x => if x < q ∧ p x = true then 1 else 0
theorem prt_len (p : Nat → Bool) (W q : Nat) : (prt p W q).length = W := by simp [prt]
theorem prt_zero (p : Nat → Bool) (W : Nat) : (prt p W 0).map (Value.int .i64) = List.replicate (W * 1) (Value.int .i64 0) := by
  apply List.ext_getElem
  · simp [prt]
  · intro i h1 h2; simp [prt]
theorem prt_next (p : Nat → Bool) {W q : Nat} (h : q < W) : (prt p W q).set q (if p q = true then 1 else 0) = prt p W (q + 1) := by
  apply List.ext_getElem
  · simp [prt]
  · intro i h1 h2
    rw [List.getElem_set]
    by_cases e : q = i
    · subst e; simp [prt]
    · rw [if_neg e]
      simp only [prt, List.getElem_map, List.getElem_range]
      by_cases h3 : i < q
      · simp [h3, show i < q + 1 by omega]
      · simp [h3, show ¬ i < q + 1 by omega]
theorem prt_at (p : Nat → Bool) {W q : Nat} (h : q < W) : (prt p W (q + 1)).getD q 0 = if p q = true then 1 else 0 := by
  rw [getD_lt (by rw [prt_len]; exact h)]; simp [prt]
theorem prt_all (P : Nat → Nat → Bool) {n W k : Nat} (h : k < n) : prt (P k) W W = (mpL n W P).getD k [] := by
  rw [mpL_row h]
  unfold prt
  apply List.map_congr_left
  intro x hx
  simp [List.mem_range.1 hx]

theorem RI.other {w : World} {B : Nat} {v : Value} {ls : List (List Int)} {vs : List Value} (h : RI w B v ls vs) {k : Nat} {cs : Array Value} {T : TypeId} (hk : w.heap[k]? = some (.cells cs T (0, 0))) (h1 : 52 ≠ T) (h2 : 2 ≠ T) (o : Nat) (u : Value) : RI (w.setCell ⟨k, o, none⟩ u) B v ls vs := by
  refine h.kept (fun g hg => ?_) fun i hi g hg => ?_
  · obtain ⟨_, _, ds, hd⟩ := rowBlk h.o hg
    exact heap_setCell_other _ _ _ _ (by rintro rfl; exact kindsR hd hk h1)
  · obtain ⟨_, _, ds, hd⟩ := rowBlk (h.bx i hi) hg
    exact heap_setCell_other _ _ _ _ (by rintro rfl; exact kindsR hd hk h2)
theorem RI.other3 {w : World} {B : Nat} {v : Value} {ls : List (List Int)} {vs : List Value} (h : RI w B v ls vs) {k : Nat} {a b c : Value} {T : TypeId} (hk : w.heap[k]? = some (.cells #[a, b, c] T (0, 0))) (h1 : 52 ≠ T) (h2 : 2 ≠ T) (x y z : Value) : RI (((w.setCell ⟨k, 0, none⟩ x).setCell ⟨k, 1, none⟩ y).setCell ⟨k, 2, none⟩ z) B v ls vs := by
  have k1 := heap_setCell_same w k 0 _ _ x hk
  have k2 := heap_setCell_same _ k 1 _ _ y k1
  exact ((h.other hk h1 h2 0 x).other k1 h1 h2 1 y).other k2 h1 h2 2 z
/-- A row is put in, whose memory lies above all that is there. -/
theorem RI.putA {W : World} {A B g k n c : Nat} {ls : List (List Int)} {vs : List Value} {u : Value} {l : List Int} (h : RI W B (.slice (some ⟨g, 0, none⟩) n c) ls vs) (hA : ∀ i, i < ls.length → ∀ g', (rat vs i).ownBlock = some g' → g' < A) (hB : B ≤ A) (hk : k < ls.length) (hu : IS W A u l) :
    RI (W.setCell ⟨g, k, none⟩ u) B (.slice (some ⟨g, 0, none⟩) n c) (ls.set k l) (vs.set k u) := by
  have hl := h.len
  have hrow : (Value.slice (some ⟨g, 0, none⟩) n c).ownBlock = some g := rfl
  have kept : ∀ {A : Nat} {q : Value} {xs : List Int}, IS W A q xs → ∀ g', q.ownBlock = some g' → (W.setCell ⟨g, k, none⟩ u).heap[g']? = W.heap[g']? := by
    intro A q xs hq g' hqg
    exact heap_setCell_other _ _ _ _ (by have := h.rowNot hrow hq hqg; simpa using this)
  have r1 : ∀ i, i ≠ k → rat (vs.set k u) i = rat vs i := fun i hi => by
    unfold rat
    rw [List.getD_eq_getElem?_getD, List.getElem?_set_ne (by omega), ← List.getD_eq_getElem?_getD]
  have r2 : rat (vs.set k u) k = u := by unfold rat; simp [hl, hk]
  have new : ∀ g, u.ownBlock = some g → A ≤ g := fun g hg => (rowBlk hu hg).1
  refine ⟨?_, fun i hi => ?_, fun i j hij hi hj g' hgi => ?_⟩
  · rw [List.length_set]
    have hn : n = ls.length := by obtain ⟨_, _, e⟩ := h.form; injection e
    subst hn
    exact (World.ownsRow.stored h.o k u).1
  · rw [List.length_set] at hi
    by_cases e : i = k
    · subst e
      have : (ls.set i l).getD i [] = l := by simp [hi]
      rw [this, r2]; exact rowLow (IS.kept hu (kept hu)) hB
    · have : (ls.set k l).getD i [] = ls.getD i [] := by
        rw [List.getD_eq_getElem?_getD, List.getElem?_set_ne (by omega), ← List.getD_eq_getElem?_getD]
      rw [this, r1 i e]
      exact (h.bx i hi).kept (kept (h.bx i hi))
  · rw [List.length_set] at hi hj
    by_cases e1 : i = k
    · subst e1
      rw [r2] at hgi
      rw [r1 j (by omega)]
      intro e4
      have h1 := hA j hj g' e4
      have h2 := new g' hgi
      omega
    · by_cases e2 : j = k
      · subst e2
        rw [r1 i e1] at hgi
        rw [r2]
        intro e4
        have h1 := hA i hi g' hgi
        have h2 := new g' e4
        omega
      · rw [r1 i e1] at hgi
        rw [r1 j e2]
        exact h.ds i j hij hi hj g' hgi

/-- Where the making of a map stands. -/
structure MO (w wr : World) (A G K n W : Nat) (vs : List Value) (M : List (List Int)) (S : Int) : Prop where
  ri : RI wr w.heap.size (.slice (some ⟨G, 0, none⟩) n n) M vs
  md : wr.heap[K]? = some (.cells #[.int .i64 0, .slice (some ⟨G, 0, none⟩) n n, .int .i64 S] 25 (0, 0))
  bx : wr.heap[w.heap.size]? = some (.cells #[.int .i64 W, .int .i64 n] 61 (0, 0))
  rs : wr.heap[w.heap.size + 1]? = some (.cells #[.int .i64 0, .slice none 0 0, .int .i64 0] 25 (0, 0))
  bl : Below w.heap.size w wr
  kk : w.heap.size + 2 ≤ K
  gg : w.heap.size + 2 ≤ G
  ka : K < A
  ga : G < A
  ra : ∀ i, i < M.length → ∀ g, (rat vs i).ownBlock = some g → g < A
  aa : A ≤ wr.heap.size
theorem MO.low {w wr wr' : World} {A G K n W : Nat} {vs : List Value} {M : List (List Int)} {S : Int} (h : MO w wr A G K n W vs M S) (hb : Below A wr wr') : MO w wr' A G K n W vs M S := by
  have := h.kk; have := h.ka
  refine ⟨h.ri.kept (fun g hg => ?_) (fun i hi g hg => hb.block g (h.ra i hi g hg)), (hb.block _ h.ka).trans h.md, (hb.block _ (by omega)).trans h.bx, (hb.block _ (by omega)).trans h.rs, h.bl.trans (hb.mono (by omega)), h.kk, h.gg, h.ka, h.ga, h.ra, Nat.le_trans h.aa hb.size⟩
  injection hg with hg
  rw [← hg]; exact hb.block _ h.ga
theorem MO.below {w wr wr' : World} {A G K n W : Nat} {vs : List Value} {M : List (List Int)} {S : Int} (h : MO w wr A G K n W vs M S) (hb : Below wr.heap.size wr wr') : MO w wr' A G K n W vs M S := h.low (hb.mono h.aa)
theorem MO.sum {w wr : World} {A G K n W : Nat} {vs : List Value} {M : List (List Int)} {S : Int} (h : MO w wr A G K n W vs M S) (S' : Int) : MO w (wr.setCell ⟨K, 2, none⟩ (.int .i64 S')) A G K n W vs M S' := by
  have hk := h.kk
  have k2 := heap_setCell_same wr K 2 _ _ (.int .i64 S') h.md
  refine ⟨h.ri.other h.md (by decide) (by decide) _ _, by simpa using k2, (heap_setCell_other _ _ _ _ (by simp; omega)).trans h.bx, (heap_setCell_other _ _ _ _ (by simp; omega)).trans h.rs, h.bl.setCell (by simp; omega) _, h.kk, h.gg, h.ka, h.ga, h.ra, by simpa using h.aa⟩
theorem MO.put {w wr : World} {A G K n W k : Nat} {vs : List Value} {M : List (List Int)} {S : Int} {g c : Nat} {l : List Int} (h : MO w wr A G K n W vs M S) (hk : k < M.length) (hu : IS wr A (.slice (some ⟨g, 0, none⟩) W c) l) :
    ∃ A' vs', MO w (wr.setCell ⟨G, k, none⟩ (.slice (some ⟨g, 0, none⟩) W c)) A' G K n W vs' (M.set k l) S := by
  have h1 := h.kk; have h2 := h.gg; have h3 := h.ka; have h4 := h.aa; have h5 := h.ga
  have hKG : K ≠ G := by
    rintro rfl
    obtain ⟨_, _, ds, hd⟩ := rowBlk h.ri.o rfl
    exact kindsR hd h.md (by decide)
  refine ⟨wr.heap.size, vs.set k (.slice (some ⟨g, 0, none⟩) W c), h.ri.putA h.ra (by omega) hk hu, (heap_setCell_other _ _ _ _ (by simpa using hKG)).trans h.md, (heap_setCell_other _ _ _ _ (by simp; omega)).trans h.bx, (heap_setCell_other _ _ _ _ (by simp; omega)).trans h.rs, h.bl.setCell (by simp; omega) _, h.kk, h.gg, by omega, by omega, fun i hi g' hg' => ?_, by simp⟩
  rw [List.length_set] at hi
  by_cases e : i = k
  · subst e
    have hl := h.ri.len
    have r2 : rat (vs.set i (.slice (some ⟨g, 0, none⟩) W c)) i = .slice (some ⟨g, 0, none⟩) W c := by unfold rat; simp [hl, hi]
    rw [r2] at hg'
    exact (rowBlk hu hg').2.1
  · have r1 : rat (vs.set k (.slice (some ⟨g, 0, none⟩) W c)) i = rat vs i := by
      unfold rat
      rw [List.getD_eq_getElem?_getD, List.getElem?_set_ne (by omega), ← List.getD_eq_getElem?_getD]
    rw [r1] at hg'
    have := h.ra i hi g' hg'
    omega

theorem mpL_bit (n W : Nat) (P : Nat → Nat → Bool) (j m : Nat) : 0 ≤ at2 (mpL n W P) j m ∧ at2 (mpL n W P) j m ≤ 1 := by
  by_cases hj : j < n
  · by_cases hm : m < W
    · rw [mpL_at hj hm]; split <;> omega
    · unfold at2
      rw [List.getD_eq_getElem?_getD, List.getElem?_eq_none (by rw [(mpL_sh n W P).wd j hj]; omega)]; simp
  · unfold at2
    rw [show (mpL n W P).getD j [] = [] by rw [List.getD_eq_getElem?_getD, List.getElem?_eq_none (by rw [(mpL_sh n W P).len]; omega)]; rfl]; simp
theorem rsum_bdc {p : Nat → Int} {c : Int} (h : ∀ m, 0 ≤ p m ∧ p m ≤ c) : ∀ k : Nat, 0 ≤ rsum p k ∧ rsum p k ≤ k * c
  | 0 => by simp [rsum]
  | k + 1 => by
    have := rsum_bdc h k; have := h k
    have e : ((k + 1 : Nat) : Int) * c = k * c + c := by rw [Int.natCast_add, Int.add_mul]; simp
    rw [rsum, e]; omega
theorem mo_bd (P : Nat → Nat → Bool) {n W k q : Nat} (hn : n ≤ 16) (hW : W ≤ 16) (hk : k ≤ n) (hq : q ≤ W) : 0 ≤ totV (mpL n W P) k + rsum (fun x => at2 (mpL n W P) k x) q ∧ totV (mpL n W P) k + rsum (fun x => at2 (mpL n W P) k x) q ≤ 1000 := by
  rw [totV_rsum (mpL_sh n W P) hk]
  have h1 := rsum_bdc (p := fun y => rsum (fun x => at2 (mpL n W P) y x) W) (c := 16) (fun y => by have := rsum_bd (p := fun x => at2 (mpL n W P) y x) (fun x => mpL_bit n W P y x) W; omega) k
  have h2 := rsum_bd (p := fun x => at2 (mpL n W P) k x) (fun x => mpL_bit n W P k x) q
  omega
theorem tot_next {n W k : Nat} {L : List (List Int)} (h : Sh n W L) (hk : k < n) : totV L k + rsum (fun x => at2 L k x) W = totV L (k + 1) := by
  rw [totV_rsum h (by omega), totV_rsum h (by omega), rsum]

set_option maxRecDepth 10000 in
set_option maxHeartbeats 12800000 in
theorem impl_mapOf {F : Nat} {r : Value} {n W : Nat} {P : Nat → Nat → Bool} {w : World} (hn0 : 0 < n) (hn : n ≤ 16) (hW0 : 0 < W) (hW : W ≤ 16) (hK : Kd F r n W P w) :
    Calls Try.prog 39 #[.agg #[.int .i64 W, .int .i64 n], .func (.func F) #[r] #[]] w fun e w' => ∃ v' vs, e = .returned (.agg #[.int .i64 0, v', .int .i64 (totV (mpL n W P) n)]) ∧ RI w' w.heap.size v' (mpL n W P) vs ∧ Below w.heap.size w w' := by
  have HK : Hid (Kd F r n W P w) := hK
  have hent := hK.enter
  have HO : Hid (∀ (b : Bool) (V : World), Calls Try.prog 64 #[.bool b] V fun e w' => e = .returned (.int .i64 (if b = true then 1 else 0)) ∧ w' = V) := impl_oneIf10
  obtain ⟨M, hM⟩ : ∃ M, M = mpL n W P := ⟨_, rfl⟩
  have HM : Hid (M = mpL n W P ∧ M.length = n) := ⟨hM, by rw [hM]; exact (mpL_sh n W P).len⟩
  rw [← hM]
  clear hK hM
  obtain ⟨i0, hi0, hz0, hz1, hz2⟩ := info_parts info_row
  obtain ⟨i1, hi1, hy0, hy1, hy2⟩ := info_parts info_i64
  obtain ⟨V, hV⟩ : ∃ V, V = (w.alloc (.cells #[.int .i64 W, .int .i64 n] 61)).alloc (.cells #[.int .i64 0, .slice none 0 0, .int .i64 0] 25) := ⟨_, rfl⟩
  obtain ⟨k0, k1, hb, hs⟩ := al2 hV
  have HB : Hid (V.heap[w.heap.size]? = some (.cells #[.int .i64 W, .int .i64 n] 61) ∧ V.heap[w.heap.size + 1]? = some (.cells #[.int .i64 0, .slice none 0 0, .int .i64 0] 25) ∧ Below w.heap.size w V ∧ V.heap.size = w.heap.size + 2) := ⟨k0, k1, hb, hs⟩
  clear k0 k1 hb hs
  obtain ⟨p0, p1, pf0, pf1, pl⟩ := two_of HB.out.1
  go_enter Try.func39, Try.ntmps39
  go_upto_region 1 with fail
  rw [← hV]
  clear hV
  go_wp2_with (at_make; refine wpList_make_full _ rfl _ _ 22 rfl V.heap.size 52 i0 (.slice none 0 0) 1 Try.underlying22 hi0 hz0 hz1 _ _ _ _ n rfl rfl rfl rfl (by rw [hz2]; omega) (by unfold maxLen; omega) (Nat.le_refl _) ?_; intro w2 hown2 hgrow2)
  obtain ⟨K, hKK⟩ : ∃ K, K = w2.heap.size := ⟨_, rfl⟩
  obtain ⟨G, hGG⟩ : ∃ G, G = V.heap.size := ⟨_, rfl⟩
  have HS : Hid (∃ A vs, MO w (w2.alloc (.cells #[.int .i64 0, .slice (some ⟨G, 0, none⟩) n n, .int .i64 0] 25)) A G K n W vs (uptoR M 0) (totV M 0)) := by
    have hb2 : Below V.heap.size V w2 := (Below.refl _ _).grown hgrow2 (Nat.le_refl _) (fun k h => by cases h)
    have hsz := HB.out.2.2.2
    have hlt2 := (World.ownsRow.lt hown2 V.heap.size rfl).2
    rw [show (Value.slice none 0 0).cells = #[Value.slice none 0 0] from rfl, toList_madeCells_one] at hown2
    have hri := RI.made (ls := M) HM.out.2.symm (by rw [Nat.mul_one] at hown2; exact hown2)
    have hb3 : Below w2.heap.size w2 (w2.alloc (.cells #[.int .i64 0, .slice (some ⟨G, 0, none⟩) n n, .int .i64 0] 25)) := by (repeat' (first | (with_reducible exact Below.refl _ _) | (with_reducible assumption) | (with_reducible refine Below.setCell ?_ ?_ _) | (with_reducible refine Below.alloc ?_ ?_ _) | (with_reducible refine below_drewN ?_ _) | (with_reducible refine Below.drew ?_) | (with_reducible exact Nat.le_refl _) | omega | (simp; done) | (simp; omega)))
    rw [hKK, hGG] at *
    refine ⟨w2.heap.size + 1, _, (hri.below hb3).low (by omega), heap_alloc_new w2 _, (hb3.block _ (by omega)).trans ((hb2.block _ (by omega)).trans HB.out.1), (hb3.block _ (by omega)).trans ((hb2.block _ (by omega)).trans HB.out.2.1), HB.out.2.2.1.trans ((hb2.mono (by omega)).trans (hb3.mono (by omega))), by omega, by omega, by omega, by omega, fun i hi g hg => ?_, by simp⟩
    have e1 : rat (List.replicate n (Value.slice none 0 0)) i = .slice none 0 0 := by
      unfold rat; rw [List.getD_eq_getElem?_getD, List.getElem?_replicate]; split <;> rfl
    rw [e1] at hg; cases hg
  rw [← hGG, ← hKK]
  clear hown2 hgrow2 hGG hKK p0 p1 pf0 pf1 pl
  go_loopw [16] (fun i wr => ∃ (k : Nat), k ≤ n ∧ i = .int .i64 k ∧ Hid (∃ A vs, MO w wr A G K n W vs (uptoR M k) (totV M k))) (fun i _ => n - (intOf i).toNat)
  case atStart => exact ⟨0, Nat.zero_le _, rfl, HS.out⟩
  case round =>
    clear HS
    obtain ⟨k, hk, rfl, hR⟩ := hrel
    by_cases hlt : k < n
    · obtain ⟨A, vs, hMO⟩ := hR.out
      obtain ⟨p0, p1, pf0, pf1, pl⟩ := two_of hMO.bx
      have HA : Hid (MO w wr A G K n W vs (uptoR M k) (totV M k)) := hMO
      clear hR hMO
      have b0 : (0 : Int) ≤ (k : Int) := by omega
      have b1 : (k : Int) < (n : Int) := by omega
      go_wp2_with (at_make; refine wpList_make_full _ rfl _ _ 52 rfl wr.heap.size 2 i1 (.int .i64 0) 1 Try.underlying52 hi1 hy0 hy1 _ _ _ _ W rfl rfl rfl rfl (by rw [hy2]; omega) (by unfold maxLen; omega) (Nat.le_refl _) ?_; intro w3 hown3 hgrow3)
      have hb3 : Below wr.heap.size wr w3 := (Below.refl _ _).grown hgrow3 (Nat.le_refl _) (fun k h => by cases h)
      obtain ⟨g, hg⟩ : ∃ g, g = wr.heap.size := ⟨_, rfl⟩
      have HI3 : Hid (MO w w3 A G K n W vs (uptoR M k) (totV M k + rsum (fun x => at2 M k x) 0) ∧ IS w3 A (.slice (some ⟨g, 0, none⟩) W W) (prt (P k) W 0) ∧ A ≤ g) := by
        rw [show (Value.int IntKind.i64 0).cells = #[Value.int IntKind.i64 0] from rfl, toList_madeCells_one] at hown3
        refine ⟨by rw [rsum, Int.add_zero]; exact HA.out.below hb3, ?_, by rw [hg]; exact HA.out.aa⟩
        have hI : IS w3 wr.heap.size (.slice (some ⟨wr.heap.size, 0, none⟩) W W) (prt (P k) W 0) := by
          unfold IS
          rw [prt_len, prt_zero]
          exact hown3
        rw [hg]
        exact hI.low HA.out.aa
      rw [← hg]
      clear hown3 hgrow3 hb3 HA p0 p1 pf0 pf1 pl hg
      go_loopw [24] (fun i wr => ∃ (q : Nat), q ≤ W ∧ i = .int .i64 q ∧ Hid (MO w wr A G K n W vs (uptoR M k) (totV M k + rsum (fun x => at2 M k x) q) ∧ IS wr A (.slice (some ⟨g, 0, none⟩) W W) (prt (P k) W q) ∧ A ≤ g)) (fun i _ => W - (intOf i).toNat)
      case atStart => exact ⟨0, Nat.zero_le _, rfl, HI3.out⟩
      case round =>
        clear HI3
        obtain ⟨q, hq, rfl, hR⟩ := hrel
        by_cases hlt2 : q < W
        · have HC : Hid (Calls Try.prog F #[r, .agg #[.int .i64 q, .int .i64 k]] wr fun e w' => e = .returned (.bool (P k q)) ∧ Below wr.heap.size wr w') := HK.out.calls wr k q hR.out.1.bl hlt hlt2
          have b2 : (0 : Int) ≤ (q : Int) := by omega
          have b3 : (q : Int) < (W : Int) := by omega
          go_wp2_with (fail)
          refine HC.out.mono ?_
          rintro e w5 ⟨rfl, hb5⟩
          obtain ⟨pk, hpk⟩ : ∃ pk, pk = P k q := ⟨_, rfl⟩
          have H5 : Hid (MO w w5 A G K n W vs (uptoR M k) (totV M k + rsum (fun x => at2 M k x) q) ∧ IS w5 A (.slice (some ⟨g, 0, none⟩) W W) (prt (P k) W q) ∧ A ≤ g ∧ pk = P k q) := ⟨hR.out.1.below hb5, hR.out.2.1.bel hb5, hR.out.2.2, hpk⟩
          rw [← hpk]
          clear hR hb5 HC hpk
          go_wp2_with (fail)
          refine (HO.out pk _).mono ?_
          rintro e w6 ⟨rfl, hw6⟩
          subst hw6
          obtain ⟨y, hy⟩ : ∃ y : Int, y = if pk = true then 1 else 0 := ⟨_, rfl⟩
          rw [← hy]
          have hgl := (H5.out.2.1.lt g rfl).2
          obtain ⟨d0, df⟩ : (∃ d, w6.cell? ⟨g, q, none⟩ = some d) ∧ w6.frozen? ⟨g, q, none⟩ = false := by
            have h := H5.out.2.1
            obtain ⟨g', c', he, _, _, hx⟩ := h.pos (by rw [prt_len]; omega)
            injection he with he1
            injection he1 with he2
            injection he2 with he3
            subst he3
            have h2 := h
            unfold IS at h2
            rw [prt_len] at h2
            exact ⟨⟨_, hx q (by rw [prt_len]; exact hlt2)⟩, World.ownsRow.frozenAt h2 q⟩
          obtain ⟨d, d0⟩ := d0
          obtain ⟨V5, hV5⟩ : ∃ V5, V5 = w6.setCell ⟨g, q, none⟩ (.int .i64 y) := ⟨_, rfl⟩
          have H6 : Hid (MO w V5 A G K n W vs (uptoR M k) (totV M k + rsum (fun x => at2 M k x) q) ∧ IS V5 A (.slice (some ⟨g, 0, none⟩) W W) (prt (P k) W (q + 1)) ∧ A ≤ g ∧ y = at2 M k q) := by
            have e1 := prt_next (P k) hlt2
            have e2 : y = if P k q = true then 1 else 0 := by rw [hy, H5.out.2.2.2]
            rw [← e2] at e1
            refine ⟨?_, ?_, H5.out.2.2.1, ?_⟩
            · rw [hV5]
              exact H5.out.1.low ((Below.refl _ _).setCell H5.out.2.2.1 _)
            · rw [hV5, ← e1]
              exact H5.out.2.1.setR q y
            · rw [HM.out.1, mpL_at hlt hlt2, e2]
          obtain ⟨S, hS⟩ : ∃ S, S = totV M k + rsum (fun x => at2 M k x) q := ⟨_, rfl⟩
          have hSb : 0 ≤ S ∧ S ≤ 1000 := by rw [hS, HM.out.1]; exact mo_bd P hn hW hk hq
          have hyb : 0 ≤ y ∧ y ≤ 1 := by rw [hy]; split <;> omega
          rw [← hS] at H6
          have HSS : Hid (S + y = totV M k + rsum (fun x => at2 M k x) (q + 1)) := by unfold Hid; rw [hS, rsum, H6.out.2.2.2]; omega
          have hw2 : IntKind.i64.wrap (S + y) = S + y := by rw [IntKind.wrap_i64]; omega
          clear H5 hy hS
          go_wp2_with (fail)
          rw [← hV5]
          clear d0 df hV5 hgl
          obtain ⟨m0, m1, m2, mf0, mf1, mf2, ml⟩ := three_of H6.out.1.md
          have hgl := (H6.out.2.1.lt g rfl).2
          have d1 : V5.cell? ⟨g, q, none⟩ = some (.int .i64 y) := by
            have h := H6.out.2.1
            obtain ⟨g', c', he, _, _, hx⟩ := h.pos (by rw [prt_len]; omega)
            injection he with he1
            injection he1 with he2
            injection he2 with he3
            subst he3
            rw [hx q (by rw [prt_len]; exact hlt2), H6.out.2.2.2, HM.out.1, mpL_at hlt hlt2, prt_at _ hlt2]
          refine wp_region_still_tail 8 (by kernel_rfl) (by kernel_rfl) ?_
          have hdw : ({ V5 with drawn := V5.drawn + 1 } : World) = V5.drew := rfl
          rw [hdw]
          clear hdw
          simp only [List.take_succ_cons, List.take_zero, List.drop_succ_cons, List.drop_zero]
          iterate 8 still_step
          refine wpStill_nil ?_
          have HP : Hid (MO w (V5.setCell ⟨K, 2, none⟩ (.int .i64 (S + y))) A G K n W vs (uptoR M k) (totV M k + rsum (fun x => at2 M k x) (q + 1)) ∧ IS (V5.setCell ⟨K, 2, none⟩ (.int .i64 (S + y))) A (.slice (some ⟨g, 0, none⟩) W W) (prt (P k) W (q + 1)) ∧ A ≤ g) := by
            refine ⟨by rw [← HSS.out]; exact H6.out.1.sum _, H6.out.2.1.kept fun b hb => heap_setCell_other _ _ _ _ ?_, H6.out.2.2.1⟩
            have hbb : g = b := Option.some.inj hb
            have h1 := H6.out.1.ka; have h2 := H6.out.2.2.1
            intro e
            have e3 : b = K := e
            omega
          clear H6 HSS
          go_wp2
          go_roundw
          case rel => exact ⟨q + 1, by omega, by go_num, HP.out.1.below (Below.refl _ _).drew, HP.out.2.1.bel (Below.refl _ _).drew, HP.out.2.2⟩
          case measure => simp [intOf]; omega
        · have hqW : q = W := by omega
          subst hqW
          have hkM : k < (uptoR M k).length := by rw [uptoR_len M (by rw [HM.out.2]; exact hk), HM.out.2]; exact hlt
          obtain ⟨m0, m1, m2, mf0, mf1, mf2, ml⟩ := three_of hR.out.1.md
          obtain ⟨g0, g1, gl⟩ : (∃ d, wr.cell? ⟨G, k, none⟩ = some d) ∧ wr.frozen? ⟨G, k, none⟩ = false ∧ G < wr.heap.size := by
            have h := hR.out.1.ri
            obtain ⟨g', c', he, _, hgl, hx⟩ := h.pos (by omega)
            injection he with he1
            injection he1 with he2
            injection he2 with he3
            subst he3
            have h2 := h.o
            rw [uptoR_len M (by rw [HM.out.2]; exact hk), HM.out.2] at h2
            exact ⟨⟨_, hx k hkM⟩, World.ownsRow.frozenAt h2 k, hgl⟩
          obtain ⟨d, g0⟩ := g0
          have HP : Hid (∃ A vs, MO w (wr.setCell ⟨G, k, none⟩ (.slice (some ⟨g, 0, none⟩) q q)) A G K n q vs (uptoR M (k + 1)) (totV M (k + 1))) := by
            have h := hR.out.1.put hkM hR.out.2.1
            rw [prt_all P hlt, ← HM.out.1, uptoR_next M (by rw [HM.out.2]; exact hlt), tot_next (n := n) (W := q) (by rw [HM.out.1]; exact mpL_sh _ _ _) hlt] at h
            exact h
          clear hR
          go_wp2
          go_roundw
          case rel => exact ⟨k + 1, by omega, by go_num, HP.out⟩
          case measure => simp [intOf]; omega
    · have hkn : k = n := by omega
      subst hkn
      obtain ⟨A, vs, hMO⟩ := hR.out
      have e1 : uptoR M k = M := by have := uptoR_all M; rw [HM.out.2] at this; exact this
      rw [e1] at hMO
      obtain ⟨m0, m1, m2, mf0, mf1, mf2, ml⟩ := three_of hMO.md
      obtain ⟨r0, r1, r2, rf0, rf1, rf2, rl⟩ := three_of hMO.rs
      have HP : Hid (MO w wr A G K k W vs M (totV M k)) := hMO
      obtain ⟨S, hS⟩ : ∃ S, S = totV M k := ⟨_, rfl⟩
      rw [← hS] at m2 HP
      have HSS : Hid (totV M k = S) := hS.symm
      clear hR hMO e1 hS
      go_wp2
      try simp only [Exit.inBlock, Exit.then]
      refine bodyPost_ret (by simp [results, Try.results39, go_sem, r0, r1, r2, rl]; try rfl) rfl ⟨.slice (some ⟨G, 0, none⟩) k k, vs, by rw [HSS.out], ?_, ?_⟩
      · exact HP.out.ri.other3 HP.out.rs (by decide) (by decide) _ _ _
      · have hb := HP.out.bl
        (repeat' (first | (with_reducible exact Below.refl _ _) | (with_reducible assumption) | (with_reducible refine Below.setCell ?_ ?_ _) | (with_reducible refine Below.alloc ?_ ?_ _) | (with_reducible refine below_drewN ?_ _) | (with_reducible refine Below.drew ?_) | (with_reducible exact Nat.le_refl _) | omega | (simp; done) | (simp; omega)))

end Go.Proofs.Ythmddnachancfaa
