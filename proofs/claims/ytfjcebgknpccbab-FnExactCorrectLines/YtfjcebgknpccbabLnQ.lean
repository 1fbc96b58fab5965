/- Proved here: printedCells and cellsUnder of the program: lists of truths by cells. -/
import Derived.Test.YtfjcebgknpccbabLnO
namespace Go.Proofs.Ytfjcebgknpccbab
open Go.RowKit
set_option linter.unusedVariables false
set_option linter.unusedSimpArgs false

theorem info_bo : (Try.prog.info? 4).map (fun i => (i.zero, i.size, i.bytes)) = some (some (.bool false), 1, 1) := by kernel_rfl
/-- A list of truths that a slice of the call's own holds. -/
def BO (w : World) (B : Nat) (v : Value) (xs : List Bool) : Prop := w.ownsRow B 4 1 v xs.length (xs.map Value.bool)
theorem BO.form {w : World} {B : Nat} {v : Value} {xs : List Bool} (h : BO w B v xs) : ∃ a c, v = .slice a xs.length c := by
  rcases h.2 with ⟨rfl, h0⟩ | ⟨g, cap, cur, rfl, _⟩
  · exact ⟨none, 0, by rw [h0]⟩
  · exact ⟨_, _, rfl⟩
theorem BO.lt {w : World} {B : Nat} {v : Value} {s : List Bool} (h : BO w B v s) : ∀ g, v.ownBlock = some g → B ≤ g ∧ g < w.heap.size := World.ownsRow.lt h
theorem BO.kept {w w' : World} {B : Nat} {v : Value} {xs : List Bool} (h : BO w B v xs) (hb : ∀ g, v.ownBlock = some g → w'.heap[g]? = w.heap[g]?) : BO w' B v xs := by
  refine ⟨h.1, ?_⟩
  rcases h.2 with h' | ⟨g, cap, cur, rfl, hB, hg, hr⟩
  · exact Or.inl h'
  · exact Or.inr ⟨g, cap, cur, rfl, hB, by rw [hb g rfl]; exact hg, hr⟩
theorem BO.bel {w w' : World} {B : Nat} {v : Value} {s : List Bool} (h : BO w B v s) (hb : Below w.heap.size w w') : BO w' B v s := h.kept fun g hg => hb.block g (h.lt g hg).2
theorem BO.low {w : World} {A B : Nat} {v : Value} {s : List Bool} (h : BO w B v s) (hab : A ≤ B) : BO w A v s := by
  refine ⟨h.1, ?_⟩
  rcases h.2 with h' | ⟨g, cap, cur, rfl, hB, hr⟩
  · exact Or.inl h'
  · exact Or.inr ⟨g, cap, cur, rfl, Nat.le_trans hab hB, hr⟩
theorem BO.atL {w : World} {B g n c : Nat} {xs : List Bool} (h : BO w B (.slice (some ⟨g, 0, none⟩) n c) xs) {j : Nat} (hj : j < n) : w.cell? ⟨g, j, none⟩ = some (.bool (xs.getD j false)) ∧ w.frozen? ⟨g, j, none⟩ = false := by
  have hn : n = xs.length := by obtain ⟨_, _, e⟩ := h.form; injection e
  subst hn
  refine ⟨?_, World.ownsRow.frozenAt h j⟩
  rw [World.ownsRow.cellAt h j (by omega)]
  simp [List.getElem?_map, List.getElem?_eq_getElem hj]
theorem BO.at {w : World} {B n c : Nat} {a : Option Addr} {xs : List Bool} (h : BO w B (.slice a n c) xs) {j : Nat} (hj : j < n) : ∃ g, a = some ⟨g, 0, none⟩ ∧ g < w.heap.size ∧ w.cell? ⟨g, j, none⟩ = some (.bool (xs.getD j false)) := by
  have hn : n = xs.length := by obtain ⟨_, _, e⟩ := h.form; injection e
  rcases h.2 with ⟨h1, h0⟩ | ⟨g, cap, cur, h1, hB, _⟩
  · omega
  · injection h1 with h1 h2 h3
    subst h1
    exact ⟨g, rfl, (h.lt g rfl).2, (h.atL hj).1⟩
theorem BO.setL {w : World} {B g n c : Nat} {xs : List Bool} (h : BO w B (.slice (some ⟨g, 0, none⟩) n c) xs) (j : Nat) (y : Bool) : BO (w.setCell ⟨g, j, none⟩ (.bool y)) B (.slice (some ⟨g, 0, none⟩) n c) (xs.set j y) := by
  have hn : n = xs.length := by obtain ⟨_, _, e⟩ := h.form; injection e
  subst hn
  have := (World.ownsRow.stored h j (.bool y)).1
  unfold BO
  rw [List.length_set, List.map_set]
  exact this
theorem BO.made {w : World} {B g n : Nat} (h : w.ownsRow B 4 1 (.slice (some ⟨g, 0, none⟩) n n) n (madeCells (Value.cells (.bool false)) (n * 1)).toList) : BO w B (.slice (some ⟨g, 0, none⟩) n n) (List.replicate n false) := by
  unfold BO
  have e : (madeCells (Value.cells (.bool false)) (n * 1)).toList = (List.replicate n false).map Value.bool := by
    rw [show (Value.bool false).cells = #[Value.bool false] from rfl, toList_madeCells_one]
    simp
  rw [e] at h
  simpa using h

/-- What prints, by cells; what lies under lines. -/
def prK (s : List Ln) (ws : List Int) (K : Int) (L : Nat) : List Bool := (sumsK s ws L).map fun x => decide (K ≤ x)
def unK (s : List Ln) (L : Nat) : List Bool := (List.range L).map fun x : Nat => hasB s (x : Int)
theorem prK_len (s : List Ln) (ws : List Int) (K : Int) (L : Nat) : (prK s ws K L).length = L := by simp [prK, sumsK_len]
theorem unK_len (s : List Ln) (L : Nat) : (unK s L).length = L := by simp [unK]
def prM (s : List Ln) (ws : List Int) (K : Int) (L j : Nat) : List Bool := (List.range L).map fun x => if x < j then decide (K ≤ psum s ws x L) else false
theorem prM_len (s : List Ln) (ws : List Int) (K : Int) (L j : Nat) : (prM s ws K L j).length = L := by simp [prM]
theorem prM_zero (s : List Ln) (ws : List Int) (K : Int) (L : Nat) : prM s ws K L 0 = List.replicate L false := by
  apply List.ext_getElem
  · simp [prM]
  · intro j h1 h2; simp [prM]
theorem prM_done (s : List Ln) (ws : List Int) (K : Int) (L j : Nat) (h : L ≤ j) : prM s ws K L j = prK s ws K L := by
  apply List.ext_getElem
  · simp [prM, prK, sumsK_len]
  · intro i h1 h2
    have : i < j := by simp [prM] at h1; omega
    simp [prM, prK, sumsK, psL, this]
theorem prM_set {s : List Ln} {ws : List Int} {K : Int} {L j : Nat} (h : j < L) : (prM s ws K L j).set j (decide (K ≤ (sumsK s ws L).getD j 0)) = prM s ws K L (j + 1) := by
  apply List.ext_getElem
  · simp [prM]
  · intro i h1 h2
    simp only [List.getElem_set, prM, List.getElem_map, List.getElem_range]
    by_cases hj : j = i
    · subst hj; simp [sumsK, psL, h]
    · by_cases hj2 : i < j
      · simp [hj, hj2, show i < j + 1 by omega]
      · simp [hj, hj2, show ¬ i < j + 1 by omega]
def unM (s : List Ln) (L A : Nat) : List Bool := (List.range L).map fun x : Nat => if x < A then hasB s (x : Int) else false
theorem unM_zero (s : List Ln) (L : Nat) : unM s L 0 = List.replicate L false := by
  apply List.ext_getElem
  · simp [unM]
  · intro j h1 h2; simp [unM]
theorem unM_gap {s : List Ln} {L A B : Nat} (h : A ≤ B) (hn : ∀ y : Nat, A ≤ y → y < B → hasB s (y : Int) = false) : unM s L B = unM s L A := by
  unfold unM
  apply List.map_congr_left
  intro x _
  by_cases h1 : x < A
  · rw [if_pos h1, if_pos (by omega)]
  · rw [if_neg h1]
    by_cases h2 : x < B
    · rw [if_pos h2, hn x (by omega) h2]
    · rw [if_neg h2]
theorem unM_set {s : List Ln} {L x : Nat} (h : x < L) (hx : hasB s (x : Int) = true) : (unM s L x).set x true = unM s L (x + 1) := by
  apply List.ext_getElem
  · simp [unM]
  · intro i h1 h2
    simp only [List.getElem_set, unM, List.getElem_map, List.getElem_range]
    by_cases hj : x = i
    · subst hj; simp [hx]
    · by_cases hj2 : i < x
      · simp [hj, hj2, show i < x + 1 by omega]
      · simp [hj, hj2, show ¬ i < x + 1 by omega]
theorem unM_done {s : List Ln} {L A : Nat} (hn : ∀ y : Nat, A ≤ y → hasB s (y : Int) = false) : unM s L A = unK s L := by
  unfold unM unK
  apply List.map_congr_left
  intro x _
  by_cases h1 : x < A
  · rw [if_pos h1]
  · rw [if_neg h1, hn x (by omega)]

/-- Where the program stands: truths in block gs. -/
structure BoS (w wr : World) (gs L : Nat) (cur : List Bool) : Prop where
  bl : Below w.heap.size w wr
  su : BO wr w.heap.size (.slice (some ⟨gs, 0, none⟩) L L) cur
theorem BoS.next {w wr wv : World} {gs L : Nat} {cur : List Bool} (h : BoS w wr gs L cur) (hb : Below wr.heap.size wr wv) : BoS w wv gs L cur :=
  ⟨h.bl.trans (hb.mono h.bl.size), h.su.bel hb⟩
theorem BoS.lt {w wr : World} {gs L : Nat} {cur : List Bool} (h : BoS w wr gs L cur) : w.heap.size ≤ gs ∧ gs < wr.heap.size := BO.lt h.su gs rfl
theorem BoS.set {w wr : World} {gs L : Nat} {cur : List Bool} (h : BoS w wr gs L cur) (x : Nat) (y : Bool) : BoS w (wr.setCell ⟨gs, x, none⟩ (.bool y)) gs L (cur.set x y) :=
  ⟨h.bl.setCell h.lt.1 _, h.su.setL x y⟩

set_option maxRecDepth 10000 in
set_option maxHeartbeats 6400000 in
theorem impl_un {w : World} {v : Value} {s : List Ln} {len : Int} {L : Nat} (hL : len = (L : Int)) (hLb : L ≤ 60) (hn : s.length ≤ 12) (hr : Rise len (-1) s) (h : RG 2 lnC w v s) :
    Calls Try.prog 47 #[v, .int .i64 len] w fun e w' => ∃ r, e = .returned r ∧ BO w' w.heap.size r (unK s L) ∧ Below w.heap.size w w' := by
  subst hL
  obtain ⟨a, c, rfl⟩ := h.form
  obtain ⟨n, hnn⟩ : ∃ n, n = s.length := ⟨_, rfl⟩
  rw [← hnn] at h ⊢
  have H : Hid (RG 2 lnC w (.slice a n c) s ∧ n = s.length ∧ Rise (L : Int) (-1) s) := ⟨h, hnn, hr⟩
  have hn12 : n ≤ 12 := by omega
  clear h hnn hn hr
  obtain ⟨i0, hi, hz0, hz1, hz2⟩ := info_parts info_bo
  go_enter Try.func47, Try.ntmps47
  go_wp2_with (at_make; refine wpList_make_full _ rfl _ _ 73 rfl w.heap.size 4 i0 (.bool false) 1 Try.underlying73 hi hz0 hz1 _ _ _ _ L rfl rfl rfl rfl (by rw [hz2]; omega) (by unfold maxLen; omega) (Nat.le_refl _) ?_; intro w2 hown2 hgrow2)
  obtain ⟨gs, hgs⟩ : ∃ gs, gs = w.heap.size := ⟨_, rfl⟩
  have HS3 : Hid (BoS w w2 gs L (unM s L 0) ∧ Stand s (L : Int) 0 0) := by
    have hb2 : Below w.heap.size w w2 := (Below.refl _ _).grown hgrow2 (Nat.le_refl _) (fun k h => by cases h)
    refine ⟨⟨hb2, ?_⟩, Stand.start H.out.2.2 (by omega)⟩
    rw [unM_zero, hgs]
    exact BO.made hown2
  rw [← hgs]
  clear hown2 hgrow2 hgs
  go_loopw [13] (fun i wr => ∃ k : Nat, k ≤ n ∧ i = .int .i64 k ∧ Hid (∃ A : Nat, BoS w wr gs L (unM s L A) ∧ Stand s (L : Int) k A)) (fun i _ => n - (intOf i).toNat)
  case atStart => exact ⟨0, Nat.zero_le _, rfl, 0, HS3.out⟩
  case round =>
    clear HS3
    obtain ⟨k, hk, rfl, hR⟩ := hrel
    by_cases hltk : k < n
    · have bk0 : (0 : Int) ≤ (k : Int) := by omega
      have bk1 : (k : Int) < (n : Int) := by omega
      have hkl : k < s.length := by rw [← H.out.2.1]; exact hltk
      obtain ⟨A, hIn, hSt⟩ := hR.out
      obtain ⟨F, T, hF, hT, hAF, hFT, hTL, hGap, hHas, hSt2⟩ := hSt.line hkl
      obtain ⟨g, o, c2, he, hg, hj⟩ := (H.out.1.below hIn.bl).pos (by omega)
      simp only [Value.slice.injEq] at he
      obtain ⟨rfl, hx1, hx2⟩ := he
      clear hx1 hx2
      obtain ⟨c0, c1⟩ := lnC_at (hj k hkl)
      rw [hF] at c0
      rw [hT] at c1
      obtain ⟨kb, hkb⟩ : ∃ kb, kb = wr.heap.size := ⟨_, rfl⟩
      have hkg : kb ≠ gs := by have := hIn.lt; omega
      have HB : Hid (BoS w (wr.alloc (.cells #[.int .i64 F, .int .i64 T] 57)) gs L (unM s L F) ∧ (wr.alloc (.cells #[.int .i64 F, .int .i64 T] 57)).heap[kb]? = some (.cells #[.int .i64 F, .int .i64 T] 57)) := by
        refine ⟨?_, by rw [hkb]; exact heap_alloc_new _ _⟩
        rw [unM_gap hAF hGap]
        exact hIn.next (by (repeat' (first | (with_reducible exact Below.refl _ _) | (with_reducible assumption) | (with_reducible refine Below.setCell ?_ ?_ _) | (with_reducible refine Below.alloc ?_ ?_ _) | (with_reducible refine below_drewN ?_ _) | (with_reducible refine Below.drew ?_) | (with_reducible exact Nat.le_refl _) | omega | (simp; done) | (simp; omega))))
      have HST : Hid (Stand s (L : Int) (k + 1) T) := hSt2
      clear hR hIn hSt hGap hSt2 hj hF hT
      go_wp2
      rw [← hkb]
      clear hkb c0 c1
      go_loopw [8] (fun i wv => ∃ Y : Nat, F ≤ Y ∧ Y ≤ T ∧ i = .int .i64 Y ∧ Hid (BoS w wv gs L (unM s L Y) ∧ wv.heap[kb]? = some (.cells #[.int .i64 F, .int .i64 T] 57))) (fun i _ => T - (intOf i).toNat)
      case atStart => exact ⟨F, Nat.le_refl _, by omega, rfl, HB.out⟩
      case round =>
        clear HB
        obtain ⟨Y, hFY, hYT, rfl, hV⟩ := hrel
        have t1 : wr.cell? ⟨kb, 1, none⟩ = some (.int .i64 T) := by simp [World.cell?, hV.out.2]
        by_cases hlty : Y < T
        · have by1 : (Y : Int) < (T : Int) := by omega
          have hYL : Y < L := by omega
          obtain ⟨hcc, hcf⟩ := hV.out.1.su.atL hYL
          generalize (unM s L Y).getD Y false = old at hcc
          have HN : Hid (BoS w (wr.setCell ⟨gs, Y, none⟩ (.bool true)) gs L (unM s L (Y + 1)) ∧ (wr.setCell ⟨gs, Y, none⟩ (.bool true)).heap[kb]? = some (.cells #[.int .i64 F, .int .i64 T] 57)) := by
            refine ⟨?_, ?_⟩
            · have := hV.out.1.set Y true
              rw [unM_set hYL (hHas Y (by omega) (by omega))] at this
              exact this
            · rw [heap_setCell_other _ _ _ _ (by simpa using hkg)]
              exact hV.out.2
          have b0 : (0 : Int) ≤ (Y : Int) := by omega
          have b1 : (Y : Int) < (L : Int) := by omega
          clear hV
          go_wp2
          go_roundw
          case rel => exact ⟨Y + 1, by omega, by omega, by go_num, HN.out⟩
          case measure => simp [intOf]; omega
        · have by1 : ¬ (Y : Int) < (T : Int) := by omega
          have HE : Hid (BoS w wr gs L (unM s L T) ∧ Stand s (L : Int) (k + 1) T) := by
            obtain rfl : Y = T := by omega
            exact ⟨hV.out.1, HST.out⟩
          clear hV
          go_wp2
          go_roundw
          case rel => exact ⟨k + 1, by omega, by go_num, T, HE.out⟩
          case measure => simp [intOf]; omega
    · have bk1 : ¬ (k : Int) < (n : Int) := by omega
      have HE : Hid (BoS w wr gs L (unK s L)) := by
        obtain ⟨A, hIn, hSt⟩ := hR.out
        unfold Hid
        rw [← unM_done (A := A) (fun y h1 => hSt.done (by rw [← H.out.2.1]; omega) y h1)]
        exact hIn
      clear hR
      go_wp2
      go_returns
      exact ⟨_, rfl, HE.out.su, HE.out.bl⟩

set_option maxRecDepth 10000 in
set_option maxHeartbeats 6400000 in
theorem impl_pr {w : World} {v u : Value} {s : List Ln} {ws : List Int} {len : Int} (K : Int) {L : Nat} (hL : len = (L : Int)) (hLb : L ≤ 60) (hn : s.length ≤ 12) (hr : Rise len (-1) s) (hw : OkW ws) (h : RG 2 lnC w v s) (hu : RdI w u ws) :
    Calls Try.prog 48 #[v, .int .i64 len, .agg #[u, .int .i64 K]] w fun e w' => ∃ r, e = .returned r ∧ BO w' w.heap.size r (prK s ws K L) ∧ Below w.heap.size w w' := by
  obtain ⟨a, c, rfl⟩ := h.form
  obtain ⟨n, hnn⟩ : ∃ n, n = s.length := ⟨_, rfl⟩
  obtain ⟨b, d, rfl⟩ := hu.form
  obtain ⟨m, hmm⟩ : ∃ m, m = ws.length := ⟨_, rfl⟩
  rw [← hnn] at h ⊢
  rw [← hmm] at hu ⊢
  have HI : Hid (∀ W, Below w.heap.size w W → Calls Try.prog 53 #[.slice a n c, .int .i64 L, .slice b m d] W fun e w' => ∃ r, e = .returned r ∧ IS w' W.heap.size r (sumsK s ws L) ∧ Below W.heap.size W w') := fun W hW => by rw [← hL]; exact impl_int hL hLb hn hr hw (h.below hW) (hu.below hW)
  subst hL
  clear h hnn hn hr hu hmm hw
  obtain ⟨i0, hi, hz0, hz1, hz2⟩ := info_parts info_bo
  go_enter Try.func48, Try.ntmps48
  go_wp2_with (at_make; refine wpList_make_full _ rfl _ _ 73 rfl w.heap.size 4 i0 (.bool false) 1 Try.underlying73 hi hz0 hz1 _ _ _ _ L rfl rfl rfl rfl (by rw [hz2]; omega) (by unfold maxLen; omega) (by simp) ?_; intro w2 hown2 hgrow2; have hb2 : Below (w.heap.size + 1) (w.alloc (.cells #[.slice b m d, .int .i64 K] 33)) w2 := (Below.refl _ _).grown hgrow2 (by simp) (fun k h => by cases h); have k2 := (hb2.block w.heap.size (by omega)).trans (heap_alloc_new w _); obtain ⟨p0, p1, pf, pl⟩ := kn_two k2; clear pf)
  obtain ⟨gs, hgs⟩ : ∃ gs, gs = w.heap.size + 1 := ⟨_, rfl⟩
  have hb3 : Below w.heap.size w w2 := (show Below w.heap.size w (w.alloc (.cells #[.slice b m d, .int .i64 K] 33)) from by (repeat' (first | (with_reducible exact Below.refl _ _) | (with_reducible assumption) | (with_reducible refine Below.setCell ?_ ?_ _) | (with_reducible refine Below.alloc ?_ ?_ _) | (with_reducible refine below_drewN ?_ _) | (with_reducible refine Below.drew ?_) | (with_reducible exact Nat.le_refl _) | omega | (simp; done) | (simp; omega)))).trans (hb2.mono (by omega))
  have HS3 : Hid (BoS w w2 gs L (prM s ws K L 0) ∧ w2.heap[w.heap.size]? = some (.cells #[.slice b m d, .int .i64 K] 33)) := by
    refine ⟨⟨hb3, ?_⟩, k2⟩
    rw [prM_zero, hgs]
    have := BO.made hown2
    simpa using this
  have hgs2 : Hid (gs = w.heap.size + 1) := hgs
  clear hown2 hgrow2 hb2 hb3 k2
  try rw [← hgs]
  clear hgs
  go_wp2_with (fail)
  refine (HI.out _ HS3.out.1.bl).mono ?_
  rintro e w3 ⟨r, rfl, hr3, hb3⟩
  have k3 := (hb3.block w.heap.size pl).trans HS3.out.2
  have HS4 : Hid (BoS w w3 gs L (prM s ws K L 0) ∧ w3.heap[w.heap.size]? = some (.cells #[.slice b m d, .int .i64 K] 33) ∧ IS w3 w2.heap.size r (sumsK s ws L)) := ⟨HS3.out.1.next hb3, k3, hr3⟩
  have hgsl : gs < w2.heap.size := HS3.out.1.lt.2
  obtain ⟨ra, rc, hrf⟩ := hr3.form
  rw [sumsK_len] at hrf
  subst hrf
  clear hr3 hb3 k3 p0 p1 pl HS3
  go_wp2
  go_loopw [18] (fun i wr => ∃ k : Nat, k ≤ L ∧ i = .int .i64 k ∧ Hid (BoS w wr gs L (prM s ws K L k) ∧ wr.heap[w.heap.size]? = some (.cells #[.slice b m d, .int .i64 K] 33) ∧ IS wr w2.heap.size (.slice ra L rc) (sumsK s ws L))) (fun i _ => L - (intOf i).toNat)
  case atStart => exact ⟨0, Nat.zero_le _, rfl, HS4.out⟩
  case round =>
    clear HS4
    obtain ⟨k, hk, rfl, hR⟩ := hrel
    by_cases hltk : k < L
    · have bk0 : (0 : Int) ≤ (k : Int) := by omega
      have bk1 : (k : Int) < (L : Int) := by omega
      obtain ⟨g, o, haw, hgw, hxw⟩ := rd_at hR.out.2.2.rg hltk
      subst haw
      obtain ⟨X, hX⟩ : ∃ X, X = (sumsK s ws L).getD k 0 := ⟨_, rfl⟩
      rw [← hX] at hxw
      obtain ⟨p0, p1, pf, pl⟩ := kn_two hR.out.2.1
      obtain ⟨hcc, hcf⟩ := hR.out.1.su.atL hltk
      generalize (prM s ws K L k).getD k false = old at hcc
      have HN : Hid (BoS w (wr.setCell ⟨gs, k, none⟩ (.bool (decide (K ≤ X)))) gs L (prM s ws K L (k + 1)) ∧ (wr.setCell ⟨gs, k, none⟩ (.bool (decide (K ≤ X)))).heap[w.heap.size]? = some (.cells #[.slice b m d, .int .i64 K] 33) ∧ IS (wr.setCell ⟨gs, k, none⟩ (.bool (decide (K ≤ X)))) w2.heap.size (.slice (some ⟨g, o, none⟩) L rc) (sumsK s ws L)) := by
        refine ⟨?_, ?_, ?_⟩
        · have := hR.out.1.set k (decide (K ≤ X))
          rw [hX, prM_set hltk] at this
          rw [hX]; exact this
        · rw [heap_setCell_other _ _ _ _ (by have := hgs2.out; simp; omega)]
          exact hR.out.2.1
        · refine hR.out.2.2.kept fun q hq => ?_
          have := (IS.lt hR.out.2.2 q hq).1
          rw [heap_setCell_other _ _ _ _ (by simp; omega)]
      clear hR hX pf
      go_wp2
      go_roundw
      case rel => exact ⟨k + 1, by omega, by go_num, HN.out⟩
      case measure => simp [intOf]; omega
    · have bk1 : ¬ (k : Int) < (L : Int) := by omega
      have HE : Hid (BoS w wr gs L (prK s ws K L)) := by
        unfold Hid
        rw [← prM_done s ws K L k (by omega)]
        exact hR.out.1
      clear hR
      go_wp2
      go_returns
      exact ⟨_, rfl, HE.out.su, HE.out.bl⟩

end Go.Proofs.Ytfjcebgknpccbab
