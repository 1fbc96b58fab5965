/- Proved here: errors of what is spread: sums over the cells that a shot has. No condition on the program. (And ahead of it: Proved here: a struct of two cells. No condition on the program. (And ahead of it: Proved here: spreadOf of the program: a function value.)) (And ahead of it: Proved here: the faults of shots and a writer together, of both: wsF; with what is wanted: weF.) (And ahead of it: Proved here: what spreadOf's closure makes, of the program.) -/
import Derived.Test.YtmpbcdolikafpaaSpI
import Derived.Test.YtmpbcdolikafpaaDmJ
import Derived.Test.YtmpbcdolikafpaaWtB
import Derived.Test.YtmpbcdolikafpaaWtF
import Derived.Test.YtmpbcdolikafpaaBoxBase
import Derived.Test.YtmpbcdolikafpaaShMath2
namespace Go.Proofs.Ytmpbcdolikafpaa
open Go.RowKit
set_option linter.unusedVariables false
set_option linter.unusedSimpArgs false

/-- What is spread: the map. -/
def spL (l : List Sh) (f : Bx) (o s : Int) (r : Nat) : List (List Int) := gridL (spV (mapG l f) (htN f) (wdN f) r o s) (htN f) (wdN f)
theorem gridL_shW (G : Nat → Nat → Int) (H W : Nat) : ShW H W (gridL G H W) := ⟨gridL_len _ _ _, fun j hj => by rw [gridL_at _ hj, rowG_len]⟩
theorem gridL_at2 (G : Nat → Nat → Int) {H W y x : Nat} (hy : y < H) (hx : x < W) : at2W (gridL G H W) y x = G y x := by
  unfold at2W; rw [gridL_at _ hy, rowG_at _ hx]
theorem mapG_bd {l : List Sh} {f : Bx} (hl : l.length ≤ 40) (hd : ∀ x ∈ l, 0 ≤ x.d ∧ x.d ≤ 1000) (y x : Nat) : 0 ≤ mapG l f y x ∧ mapG l f y x ≤ 40000 := by
  have h := sumD_small hl hd l.length (f.x0 + (x : Int)) (f.y0 + (y : Int))
  rw [List.take_length] at h
  exact h
theorem mapV_bd {l : List Sh} {f : Bx} (hl : l.length ≤ 40) (hd : ∀ x ∈ l, 0 ≤ x.d ∧ x.d ≤ 1000) (y x : Nat) : 0 ≤ at2W (mapV l f) y x ∧ at2W (mapV l f) y x ≤ 40000 := by
  unfold mapV
  by_cases hy : y < htN f
  · by_cases hx : x < wdN f
    · rw [gridL_at2 _ hy hx]; exact mapG_bd hl hd y x
    · have e : at2W (gridL (mapG l f) (htN f) (wdN f)) y x = 0 := by
        unfold at2W; rw [gridL_at _ hy, List.getD_eq_getElem?_getD, List.getElem?_eq_none (by rw [rowG_len]; omega)]; rfl
      omega
  · have e : at2W (gridL (mapG l f) (htN f) (wdN f)) y x = 0 := by
      unfold at2W
      rw [show (gridL (mapG l f) (htN f) (wdN f)).getD y [] = [] by rw [List.getD_eq_getElem?_getD, List.getElem?_eq_none (by rw [gridL_len]; omega)]; rfl]
      rfl
    omega
theorem nrS_congr {g g' : Nat → Int} {W r x : Nat} (hx : x < W) (h : ∀ m, m < W → g m = g' m) : nrS g W r x = nrS g' W r x := by
  unfold nrS
  have := lohi (r := r) hx
  exact sgm_congr fun m hm => h _ (by omega)
theorem smG_map (G : Nat → Nat → Int) {H W r y x : Nat} (hy : y < H) (hx : x < W) : smG (gridL G H W) H W r y x = nrS (fun v => nrS (G v) W r x) H r y := by
  unfold smG acG
  exact nrS_congr hy fun v hv => nrS_congr hx fun m hm => gridL_at2 _ hv hm
theorem smG_bd {ls : List (List Int)} (hb : ∀ y x, 0 ≤ at2W ls y x ∧ at2W ls y x ≤ 40000) {H W r y x : Nat} (hH : H ≤ 24) (hW : W ≤ 24) (hy : y < H) (hx : x < W) : 0 ≤ smG ls H W r y x ∧ smG ls H W r y x ≤ 23040000 := by
  have hac : ∀ v, 0 ≤ acG ls W r v x ∧ acG ls W r v x ≤ 960000 := fun v => by
    have h9 := nrS_bd (g := at2W ls v) (c := 40000) (fun m => hb v m) (r := r) hx (by omega)
    unfold acG
    refine ⟨h9.1, Int.le_trans h9.2 ?_⟩
    omega
  have h9 := nrS_bd (g := fun v => acG ls W r v x) (c := 960000) hac (r := r) hy (by omega)
  unfold smG
  refine ⟨h9.1, Int.le_trans h9.2 ?_⟩
  omega
theorem mul_bd {a b A B : Int} (ha : 0 ≤ a ∧ a ≤ A) (hb : 0 ≤ b ∧ b ≤ B) (hA : 0 ≤ A) : 0 ≤ a * b ∧ a * b ≤ A * B :=
  ⟨Int.mul_nonneg ha.1 hb.1, Int.mul_le_mul ha.2 hb.2 hb.1 hA⟩

set_option maxRecDepth 10000 in
set_option maxHeartbeats 12800000 in
theorem impl_spc (l : List Sh) (f : Bx) (o s : Int) (r : Nat) {w : World} {v : Value} {p : Nat} (hl : l.length ≤ 40) (hd : ∀ x ∈ l, 0 ≤ x.d ∧ x.d ≤ 1000) (hf : frF f = 0) (ho : 0 ≤ o ∧ o ≤ 1000) (hs : 0 ≤ s ∧ s ≤ 1000) (hr : r ≤ 4)
    (hp : w.heap[p]? = some (.cells #[.int .i64 f.x0, .int .i64 f.y0, .int .i64 f.x1, .int .i64 f.y1, .int .i64 o, .int .i64 s, .int .i64 r] 36)) (h : RG 5 shC w v l) :
    Calls Try.prog 47 #[v, .pointer (some ⟨p, 0, none⟩)] w fun e w' => ∃ v' vs, e = .returned v' ∧ RI w' w.heap.size v' (spL l f o s r) vs ∧ Below w.heap.size w w' := by
  have hfb := frF_box hf
  obtain ⟨n, hnn⟩ : ∃ n, n = htN f := ⟨_, rfl⟩
  obtain ⟨W, hWW⟩ : ∃ W, W = wdN f := ⟨_, rfl⟩
  have hnb : n ≤ 24 ∧ 0 < n := by rw [hnn]; unfold htN; omega
  have hWb : W ≤ 24 ∧ 0 < W := by rw [hWW]; unfold wdN; omega
  obtain ⟨M, hM⟩ : ∃ M, M = mapV l f := ⟨_, rfl⟩
  obtain ⟨a, c, rfl⟩ := h.form
  have HRW : Hid (∀ V, Below w.heap.size w V → Calls Try.prog 48 #[.slice a l.length c, .agg #[.int .i64 f.x0, .int .i64 f.y0, .int .i64 f.x1, .int .i64 f.y1]] V fun e w' => ∃ v' vs, e = .returned v' ∧ RI w' V.heap.size v' M vs ∧ Below V.heap.size V w') := fun V hV => by rw [hM]; exact impl_rows l f hl hd hf (h.below hV)
  have HM : Hid (ShW n W M ∧ (∀ y x, 0 ≤ at2W M y x ∧ at2W M y x ≤ 40000) ∧ (∀ y x, y < n → x < W → at2W M y x = mapG l f y x ∧ spV (mapG l f) n W r o s y x = o * at2W M y x + s * smG M n W r y x) ∧ spL l f o s r = gridL (spV (mapG l f) n W r o s) n W) := by
    refine ⟨by rw [hM, hnn, hWW]; exact gridL_shW _ _ _, by rw [hM]; exact mapV_bd hl hd, fun y x hy hx => ?_, by rw [hnn, hWW]; rfl⟩
    have e : M = gridL (mapG l f) n W := by rw [hM, hnn, hWW]; rfl
    rw [e, gridL_at2 _ hy hx, smG_map _ hy hx]
    exact ⟨rfl, rfl⟩
  generalize l.length = ln at HRW ⊢
  generalize spL l f o s r = SL at HM ⊢
  obtain ⟨p0, p1, p2, p3, p4, p5, p6, pf, pl⟩ := wt_seven hp
  have HP : Hid (w.cell? ⟨p, 4, none⟩ = some (.int .i64 o) ∧ w.cell? ⟨p, 5, none⟩ = some (.int .i64 s) ∧ w.cell? ⟨p, 6, none⟩ = some (.int .i64 r) ∧ p < w.heap.size) := ⟨p4, p5, p6, pl⟩
  clear hp h hf hfb hnn hWW hM pf hd hl
  go_enter Try.func47, Try.ntmps47
  go_wp2_with (fail)
  refine (HRW.out _ (Below.refl _ _)).mono ?_
  rintro e w1 ⟨v1, vs1, rfl, hr1, hb1⟩
  have hl1 : M.length = n := HM.out.1.len
  obtain ⟨g1, c1, hv1, _⟩ := hr1.pos (by omega)
  rw [hl1] at hv1
  subst hv1
  have HG1 : Hid (GVP w1 w.heap.size g1 n c1 W n M vs1 ∧ Below w.heap.size w w1) := ⟨⟨hr1, hl1, HM.out.1.wd, Nat.le_refl _, hWb.2⟩, hb1⟩
  have HNR : Hid (Calls Try.prog 49 #[.slice (some ⟨g1, 0, none⟩) n c1, .int .i64 r] w1 fun e w' => ∃ v' vs L, e = .returned v' ∧ RI w' w1.heap.size v' L vs ∧ ShW n W L ∧ (∀ y x, y < n → x < W → at2W L y x = smG M n W r y x) ∧ Below w1.heap.size w1 w') := impl_near r hnb.1 hnb.2 hWb.1 hWb.2 (by omega) HM.out.1 HM.out.2.1 hr1.rdc
  have q6 := (hb1.cell (p := ⟨p, 6, none⟩) pl).trans p6
  have ql := Nat.lt_of_lt_of_le pl hb1.size
  clear p0 p1 p2 p3 p4 p5 p6 pl hr1 hb1 HRW hl1
  go_wp2_with (fail)
  refine HNR.out.mono ?_
  rintro e w2 ⟨v2, vs, L2, rfl, hr2, hs2, ha2, hb2⟩
  obtain ⟨g2, c2, hv2, _⟩ := hr2.pos (by rw [hs2.len]; omega)
  rw [hs2.len] at hv2
  subst hv2
  have HS : Hid (∃ L, GVP w2 w1.heap.size g2 n c2 W n L vs ∧ (∀ y x, y < n → x < W → at2W L y x = if y < 0 then spV (mapG l f) n W r o s y x else smG M n W r y x) ∧ Below w1.heap.size w1 w2) :=
    ⟨L2, ⟨hr2, hs2.len, hs2.wd, Nat.le_refl _, hWb.2⟩, fun y x hy hx => by rw [if_neg (by omega)]; exact ha2 y x hy hx, hb2⟩
  clear hr2 hs2 ha2 hb2 HNR q6 ql
  go_wp2_with (fail)
  go_loopw [20] (fun i wr => ∃ (k : Nat), k ≤ n ∧ i = .int .i64 k ∧ Hid (∃ L, GVP wr w1.heap.size g2 n c2 W n L vs ∧ (∀ y x, y < n → x < W → at2W L y x = if y < k then spV (mapG l f) n W r o s y x else smG M n W r y x) ∧ Below w1.heap.size w1 wr)) (fun i _ => n - (intOf i).toNat)
  case atStart => exact ⟨0, Nat.zero_le _, rfl, HS.out⟩
  case round =>
    clear HS
    obtain ⟨k, hk, rfl, hR⟩ := hrel
    by_cases hlt : k < n
    · obtain ⟨L, hG, hL, hbl⟩ := hR.out
      obtain ⟨gj, cj, hrk, d0, hgl, hgjl, hBj, hBg, hne, hcells⟩ := hG.at hlt
      have b0 : (0 : Int) ≤ (k : Int) := by omega
      have b1 : (k : Int) < (n : Int) := by omega
      have HK : Hid (rat vs k = .slice (some ⟨gj, 0, none⟩) W cj) := hrk
      have HS : Hid (∃ L, GVP wr w1.heap.size g2 n c2 W n L vs ∧ (∀ y x, y < n → x < W → at2W L y x = if y < k ∨ (y = k ∧ x < 0) then spV (mapG l f) n W r o s y x else smG M n W r y x) ∧ Below w1.heap.size w1 wr) := by
        refine ⟨L, hG, fun y x hy hx => ?_, hbl⟩
        rw [hL y x hy hx]
        by_cases e : y < k
        · rw [if_pos e, if_pos (Or.inl e)]
        · rw [if_neg e, if_neg (by omega)]
      clear hR hG hL hbl hrk hBj hBg hne hcells hgjl
      go_wp2_with (fail)
      clear d0 hgl
      go_loopw [27] (fun i wr => ∃ (x : Nat), x ≤ W ∧ i = .int .i64 x ∧ Hid (∃ L, GVP wr w1.heap.size g2 n c2 W n L vs ∧ (∀ y m, y < n → m < W → at2W L y m = if y < k ∨ (y = k ∧ m < x) then spV (mapG l f) n W r o s y m else smG M n W r y m) ∧ Below w1.heap.size w1 wr)) (fun i _ => W - (intOf i).toNat)
      case atStart => exact ⟨0, Nat.zero_le _, rfl, HS.out⟩
      case round =>
        clear HS
        obtain ⟨x, hx, rfl, hR⟩ := hrel
        by_cases hlt2 : x < W
        · obtain ⟨L, hG, hL, hbl⟩ := hR.out
          obtain ⟨gj', cj', hrk, d0, hgl, hgjl, hBj, hBg, hne, hcells⟩ := hG.at hlt
          rw [HK.out] at hrk
          injection hrk with e1 e2 e3
          injection e1 with e1
          injection e1 with e1
          subst e1 e3
          obtain ⟨e0, f0⟩ := hcells x hlt2
          obtain ⟨gi, ci, hri, a0, hg1l, hgil, _, _, _, hcells1⟩ := (HG1.out.1.below hbl).at hlt
          obtain ⟨a1, _⟩ := hcells1 x hlt2
          obtain ⟨D, hD⟩ : ∃ D, D = at2W M k x := ⟨_, rfl⟩
          obtain ⟨Z, hZ⟩ : ∃ Z, Z = smG M n W r k x := ⟨_, rfl⟩
          rw [hL k x hlt hlt2, if_neg (by omega), ← hZ] at e0
          rw [← hD] at a1
          have hDb := HM.out.2.1 k x
          rw [← hD] at hDb
          have hZb := smG_bd (r := r) HM.out.2.1 hnb.1 hWb.1 hlt hlt2
          rw [← hZ] at hZb
          have hA := mul_bd ho hDb (by omega)
          have hB := mul_bd hs hZb (by omega)
          have hsp := (HM.out.2.2.1 k x hlt hlt2).2
          rw [← hD, ← hZ] at hsp
          obtain ⟨A, hAA⟩ : ∃ A, A = o * D := ⟨_, rfl⟩
          obtain ⟨B, hBB⟩ : ∃ B, B = s * Z := ⟨_, rfl⟩
          rw [← hAA] at hA hsp
          rw [← hBB] at hB hsp
          have hw1 : IntKind.i64.wrap (o * D) = A := by rw [← hAA, IntKind.wrap_i64]; omega
          have hw2 : IntKind.i64.wrap (s * Z) = B := by rw [← hBB, IntKind.wrap_i64]; omega
          have hw3 : IntKind.i64.wrap (A + B) = A + B := by rw [IntKind.wrap_i64]; omega
          have hbw : Below w.heap.size w wr := HG1.out.2.trans (hbl.mono HG1.out.2.size)
          have q4 := (hbw.cell (p := ⟨p, 4, none⟩) HP.out.2.2.2).trans HP.out.1
          have q5 := (hbw.cell (p := ⟨p, 5, none⟩) HP.out.2.2.2).trans HP.out.2.1
          have ql := Nat.lt_of_lt_of_le HP.out.2.2.2 hbw.size
          have HN : Hid (∃ L, GVP (wr.setCell ⟨gj, x, none⟩ (.int .i64 (A + B))).drew w1.heap.size g2 n c2 W n L vs ∧ (∀ y m, y < n → m < W → at2W L y m = if y < k ∨ (y = k ∧ m < x + 1) then spV (mapG l f) n W r o s y m else smG M n W r y m) ∧ Below w1.heap.size w1 (wr.setCell ⟨gj, x, none⟩ (.int .i64 (A + B))).drew) := by
            have hGV := hG
            have hb9 := hGV.bel hlt HK.out x (A + B) hbl
            refine ⟨set2W L k x (A + B), (hGV.set hlt HK.out x (A + B)).below (Below.refl _ _).drew, fun y m hy hm => ?_, hb9.trans ((Below.refl _ _).drew.mono hb9.size)⟩
            rw [hGV.at2 hlt hlt2]
            by_cases e : y = k ∧ m = x
            · rw [if_pos e, e.1, e.2, if_pos (Or.inr ⟨rfl, by omega⟩), hsp]
            · rw [if_neg e, hL y m hy hm]
              by_cases e2 : y < k ∨ (y = k ∧ m < x)
              · rw [if_pos e2, if_pos (by omega)]
              · rw [if_neg e2, if_neg (by omega)]
          have i0 : (0 : Int) ≤ (x : Int) := by omega
          have i1 : (x : Int) < (W : Int) := by omega
          clear hR hG hL hbl hcells hcells1 hri hBj hBg hne hD hZ hDb hZb hA hB hsp hAA hBB hbw d0 hgl
          go_wp2_with (fail)
          refine wp_region_still_tail 18 (by kernel_rfl) (by kernel_rfl) ?_
          have hdw : ({ wr with drawn := wr.drawn + 1 } : World) = wr.drew := rfl
          rw [hdw]
          clear hdw
          simp only [List.take_succ_cons, List.take_zero, List.drop_succ_cons, List.drop_zero]
          iterate 18 still_step
          refine wpStill_nil ?_
          go_wp2
          go_roundw
          case rel => exact ⟨x + 1, by omega, by go_num, HN.out⟩
          case measure => simp [intOf]; omega
        · have HN : Hid (∃ L, GVP wr w1.heap.size g2 n c2 W n L vs ∧ (∀ y m, y < n → m < W → at2W L y m = if y < k + 1 then spV (mapG l f) n W r o s y m else smG M n W r y m) ∧ Below w1.heap.size w1 wr) := by
            obtain ⟨L, hG, hL, hbl⟩ := hR.out
            refine ⟨L, hG, fun y m hy hm => ?_, hbl⟩
            rw [hL y m hy hm]
            by_cases e : y < k + 1
            · rw [if_pos e, if_pos (by omega)]
            · rw [if_neg e, if_neg (by omega)]
          clear hR
          go_wp2
          go_roundw
          case rel => exact ⟨k + 1, by omega, by go_num, HN.out⟩
          case measure => simp [intOf]; omega
    · have HE : Hid (RI wr w.heap.size (.slice (some ⟨g2, 0, none⟩) n c2) SL vs ∧ Below w.heap.size w wr) := by
        obtain ⟨L, hG, hL, hbl⟩ := hR.out
        have e : L = SL := by
          rw [HM.out.2.2.2]
          refine gridW_ext (n := n) (W := W) ⟨hG.len, hG.wd⟩ (gridL_shW _ _ _) fun y m hy hm => ?_
          rw [hL y m hy hm, if_pos (by omega), gridL_at2 _ hy hm]
        rw [← e]
        exact ⟨hG.ri.low HG1.out.2.size, HG1.out.2.trans (hbl.mono HG1.out.2.size)⟩
      clear hR
      go_wp2
      go_returns
      exact ⟨_, vs, rfl, HE.out.1, HE.out.2⟩

end Go.Proofs.Ytmpbcdolikafpaa

namespace Go.Proofs.Ytmpbcdolikafpaa
open Go.RowKit
set_option linter.unusedVariables false
set_option linter.unusedSimpArgs false

def wsF (l : List Sh) (x : Wt) : Int := if wtF x = 0 then shF l else wtF x
def weF (l : List Sh) (x : Wt) (z : Int) : Int := if wsF l x = 0 then (if 0 ≤ z ∧ z ≤ 1000000000 then 0 else 3) else wsF l x
theorem wsF_good {l : List Sh} {x : Wt} (h : wsF l x = 0) : wtF x = 0 ∧ shF l = 0 := by
  unfold wsF at h
  by_cases h1 : wtF x = 0
  · rw [if_pos h1] at h; exact ⟨h1, h⟩
  · rw [if_neg h1] at h; exact absurd h h1
theorem weF_good {l : List Sh} {x : Wt} {z : Int} (h : weF l x z = 0) : wsF l x = 0 ∧ 0 ≤ z ∧ z ≤ 1000000000 := by
  unfold weF at h
  by_cases h1 : wsF l x = 0
  · rw [if_pos h1] at h
    by_cases h2 : 0 ≤ z ∧ z ≤ 1000000000
    · exact ⟨h1, h2⟩
    · rw [if_neg h2] at h; cases h
  · rw [if_neg h1] at h; exact absurd h h1
theorem first_below {w w1 V : World} (hb : Below V.heap.size V w1) (hv : Below w.heap.size w V := by (repeat' (first | (with_reducible exact Below.refl _ _) | (with_reducible assumption) | (with_reducible refine Below.setCell ?_ ?_ _) | (with_reducible refine Below.alloc ?_ ?_ _) | (with_reducible refine below_drewN ?_ _) | (with_reducible refine Below.drew ?_) | (with_reducible exact Nat.le_refl _) | omega | (simp; done) | (simp; omega)))) : Below w.heap.size w w1 := hv.trans (hb.mono hv.size)

set_option maxRecDepth 10000 in
set_option maxHeartbeats 3200000 in
theorem impl_wsF (l : List Sh) (x : Wt) {w : World} {v : Value} (hn : l.length ≤ 1048576) (h : RG 5 shC w v l) :
    Calls Try.prog 34 #[v, .agg #[.int .i64 x.f.x0, .int .i64 x.f.y0, .int .i64 x.f.x1, .int .i64 x.f.y1, .int .i64 x.o, .int .i64 x.s, .int .i64 x.r]] w fun e w' => e = .returned (.int .i64 (wsF l x)) ∧ Below w.heap.size w w' := by
  obtain ⟨a, c, rfl⟩ := h.form
  obtain ⟨n, hnn⟩ : ∃ n, n = l.length := ⟨_, rfl⟩
  obtain ⟨C, hC⟩ : ∃ C, C = wsF l x := ⟨_, rfl⟩
  obtain ⟨y, hy⟩ : ∃ y, y = wtF x := ⟨_, rfl⟩
  obtain ⟨z, hz⟩ : ∃ z, z = shF l := ⟨_, rfl⟩
  rw [← hnn] at h ⊢
  rw [← hC]
  have H : Hid (C = wsF l x ∧ y = wtF x ∧ z = shF l) := ⟨hC, hy, hz⟩
  have HW : Hid (∀ W : World, Calls Try.prog 45 #[.agg #[.int .i64 x.f.x0, .int .i64 x.f.y0, .int .i64 x.f.x1, .int .i64 x.f.y1, .int .i64 x.o, .int .i64 x.s, .int .i64 x.r]] W fun e w' => e = .returned (.int .i64 y) ∧ Below W.heap.size W w') := fun W => by rw [hy]; exact impl_writer x W
  have HS : Hid (∀ W : World, Below w.heap.size w W → Calls Try.prog 46 #[.slice a n c] W fun e w' => e = .returned (.int .i64 z) ∧ Below W.heap.size W w') := fun W hW => by rw [hz]; exact impl_shots hn (h.below hW)
  clear h hn hnn hC hy hz
  go_enter Try.func34, Try.ntmps34
  go_wp2_with (fail)
  refine (HW.out _).mono ?_
  rintro e w1 ⟨rfl, hb1⟩
  have HB1 : Hid (Below w.heap.size w w1) := first_below hb1
  clear hb1 HW
  by_cases hy0 : y = 0
  case neg =>
    have HE : Hid (C = y) := by unfold Hid; rw [H.out.1, wsF, if_neg (by rw [← H.out.2.1]; exact hy0), H.out.2.1]
    go_wp2
    go_returns
    exact ⟨by rw [HE.out]; rfl, HB1.out⟩
  have HE : Hid (C = z) := by unfold Hid; rw [H.out.1, wsF, if_pos (by rw [← H.out.2.1]; exact hy0), H.out.2.2]
  subst hy0
  go_wp2_with (fail)
  refine (HS.out _ HB1.out).mono ?_
  rintro e w2 ⟨rfl, hb2⟩
  have HB2 : Hid (Below w.heap.size w w2) := HB1.out.trans (hb2.mono HB1.out.size)
  clear hb2
  go_wp2
  go_returns
  exact ⟨by rw [HE.out]; rfl, HB2.out⟩

set_option maxRecDepth 10000 in
set_option maxHeartbeats 3200000 in
theorem spec_wsF (l : List Sh) (x : Wt) {w : World} {v : Value} (hn : l.length ≤ 1048576) (h : RG 5 shC w v l) :
    Calls Try.prog 29 #[v, .agg #[.int .i64 x.f.x0, .int .i64 x.f.y0, .int .i64 x.f.x1, .int .i64 x.f.y1, .int .i64 x.o, .int .i64 x.s, .int .i64 x.r]] w fun e w' => e = .returned (.int .i64 (wsF l x)) ∧ Below w.heap.size w w' := by
  obtain ⟨a, c, rfl⟩ := h.form
  obtain ⟨n, hnn⟩ : ∃ n, n = l.length := ⟨_, rfl⟩
  obtain ⟨C, hC⟩ : ∃ C, C = wsF l x := ⟨_, rfl⟩
  obtain ⟨y, hy⟩ : ∃ y, y = wtF x := ⟨_, rfl⟩
  obtain ⟨z, hz⟩ : ∃ z, z = shF l := ⟨_, rfl⟩
  rw [← hnn] at h ⊢
  rw [← hC]
  have H : Hid (C = wsF l x ∧ y = wtF x ∧ z = shF l) := ⟨hC, hy, hz⟩
  have HW : Hid (∀ W : World, Calls Try.prog 42 #[.agg #[.int .i64 x.f.x0, .int .i64 x.f.y0, .int .i64 x.f.x1, .int .i64 x.f.y1, .int .i64 x.o, .int .i64 x.s, .int .i64 x.r]] W fun e w' => e = .returned (.int .i64 y) ∧ Below W.heap.size W w') := fun W => by rw [hy]; exact spec_writer x W
  have HS : Hid (∀ W : World, Below w.heap.size w W → Calls Try.prog 43 #[.slice a n c] W fun e w' => e = .returned (.int .i64 z) ∧ Below W.heap.size W w') := fun W hW => by rw [hz]; exact spec_shots hn (h.below hW)
  clear h hn hnn hC hy hz
  go_enter Try.func29, Try.ntmps29
  go_wp2_with (fail)
  refine (HW.out _).mono ?_
  rintro e w1 ⟨rfl, hb1⟩
  have HB1 : Hid (Below w.heap.size w w1) := first_below hb1
  clear hb1 HW
  by_cases hy0 : y = 0
  case neg =>
    have HE : Hid (C = y) := by unfold Hid; rw [H.out.1, wsF, if_neg (by rw [← H.out.2.1]; exact hy0), H.out.2.1]
    go_wp2
    go_returns
    exact ⟨by rw [HE.out]; rfl, HB1.out⟩
  have HE : Hid (C = z) := by unfold Hid; rw [H.out.1, wsF, if_pos (by rw [← H.out.2.1]; exact hy0), H.out.2.2]
  subst hy0
  go_wp2_with (fail)
  refine (HS.out _ HB1.out).mono ?_
  rintro e w2 ⟨rfl, hb2⟩
  have HB2 : Hid (Below w.heap.size w w2) := HB1.out.trans (hb2.mono HB1.out.size)
  clear hb2
  go_wp2
  go_returns
  exact ⟨by rw [HE.out]; rfl, HB2.out⟩

end Go.Proofs.Ytmpbcdolikafpaa

namespace Go.Proofs.Ytmpbcdolikafpaa
open Go.RowKit
set_option linter.unusedVariables false
set_option linter.unusedSimpArgs false

theorem spR_good {l : List Sh} {x : Wt} (h : wsF l x = 0) : (l.length ≤ 40 ∧ ∀ y ∈ l, 0 ≤ y.d ∧ y.d ≤ 1000) ∧ frF x.f = 0 ∧ (0 ≤ x.o ∧ x.o ≤ 1000) ∧ (0 ≤ x.s ∧ x.s ≤ 1000) ∧ x.r.toNat ≤ 4 ∧ x.r = (x.r.toNat : Int) := by
  obtain ⟨h1, h2⟩ := wsF_good h
  obtain ⟨h3, h4⟩ := wtF_good h1
  have h5 := shF_good h2
  unfold wtIn at h4
  exact ⟨⟨h5.1, fun y hy => (h5.2 y hy).2⟩, h3, h4.1, h4.2.1, by omega, by omega⟩

set_option maxHeartbeats 1600000 in
theorem impl_spof (x : Wt) (w : World) :
    Calls Try.prog 35 #[.agg #[.int .i64 x.f.x0, .int .i64 x.f.y0, .int .i64 x.f.x1, .int .i64 x.f.y1, .int .i64 x.o, .int .i64 x.s, .int .i64 x.r]] w fun e w' => e = .returned (.func (Fn.func 47) #[] #[.pointer (some ⟨w.heap.size, 0, none⟩)]) ∧ w'.heap[w.heap.size]? = some (.cells #[.int .i64 x.f.x0, .int .i64 x.f.y0, .int .i64 x.f.x1, .int .i64 x.f.y1, .int .i64 x.o, .int .i64 x.s, .int .i64 x.r] 36) ∧ Below w.heap.size w w' := by
  go_enter Try.func35, Try.ntmps35
  go_wp2
  go_returns
  exact ⟨rfl, heap_alloc_new w _, by (repeat' (first | (with_reducible exact Below.refl _ _) | (with_reducible assumption) | (with_reducible refine Below.setCell ?_ ?_ _) | (with_reducible refine Below.alloc ?_ ?_ _) | (with_reducible refine below_drewN ?_ _) | (with_reducible refine Below.drew ?_) | (with_reducible exact Nat.le_refl _) | omega | (simp; done) | (simp; omega)))⟩

end Go.Proofs.Ytmpbcdolikafpaa

namespace Go.Proofs.Ytmpbcdolikafpaa
open Go.RowKit
set_option linter.unusedVariables false
set_option linter.unusedSimpArgs false

theorem two_fw {w : World} {k : Nat} {a b : Value} {t : TypeId} (h : w.heap[k]? = some (.cells #[a, b] t)) : w.cell? ⟨k, 0, none⟩ = some a ∧ w.cell? ⟨k, 1, none⟩ = some b ∧ w.frozen? ⟨k, 0, none⟩ = false ∧ w.frozen? ⟨k, 1, none⟩ = false ∧ k < w.heap.size := by
  refine ⟨by simp [World.cell?, h], by simp [World.cell?, h], by simp [World.frozen?, h], by simp [World.frozen?, h], ?_⟩
  rcases Nat.lt_or_ge k w.heap.size with h' | h'
  · exact h'
  · rw [Array.getElem?_eq_none h'] at h; cases h

end Go.Proofs.Ytmpbcdolikafpaa

namespace Go.Proofs.Ytmpbcdolikafpaa
set_option linter.unusedVariables false
set_option linter.unusedSimpArgs false

/-- The shots' boxes. -/
def bxS (l : List Sh) : List Bx := l.map fun q => q.b
/-- A shot has this cell. -/
def cvB (l : List Sh) (x y : Int) : Bool := inK (rowK (bxS l) y) x
/-- How far off a row's first cells are. -/
def erW (l : List Sh) (f : Bx) (P : Nat → Nat → Int) (z : Int) (j : Nat) : Nat → Int
  | 0 => 0
  | i + 1 => erW l f P z j i + if cvB l (f.x0 + (i : Int)) (f.y0 + (j : Int)) = true then (((P j i - z).natAbs : Nat) : Int) else 0
/-- How far off the first rows are. -/
def erA (l : List Sh) (f : Bx) (P : Nat → Nat → Int) (z : Int) (W : Nat) : Nat → Int
  | 0 => 0
  | j + 1 => erA l f P z W j + erW l f P z j W
theorem erW_bd {l : List Sh} {f : Bx} {P : Nat → Nat → Int} {z : Int} {j W : Nat} (hP : ∀ i, i < W → 0 ≤ P j i ∧ P j i ≤ 24000000000) (hz : 0 ≤ z ∧ z ≤ 1000000000) : ∀ i : Nat, i ≤ W → 0 ≤ erW l f P z j i ∧ erW l f P z j i ≤ i * 24000000000
  | 0, _ => by simp [erW]
  | i + 1, h => by
    have h1 := erW_bd (l := l) (f := f) hP hz i (by omega)
    have h2 := hP i (by omega)
    rw [erW]
    split <;> omega
theorem erA_bd {l : List Sh} {f : Bx} {P : Nat → Nat → Int} {z : Int} {n W : Nat} (hW : W ≤ 24) (hP : ∀ j i, j < n → i < W → 0 ≤ P j i ∧ P j i ≤ 24000000000) (hz : 0 ≤ z ∧ z ≤ 1000000000) : ∀ j : Nat, j ≤ n → 0 ≤ erA l f P z W j ∧ erA l f P z W j ≤ j * 576000000000
  | 0, _ => by simp [erA]
  | j + 1, h => by
    have h1 := erA_bd (l := l) (f := f) hW hP hz j (by omega)
    have h2 := erW_bd (l := l) (f := f) (j := j) (fun i hi => hP j i (by omega) hi) hz W (Nat.le_refl _)
    rw [erA]
    omega
theorem spV_bd {P : Nat → Nat → Int} (hP : ∀ y x, 0 ≤ P y x ∧ P y x ≤ 40000) {n W r : Nat} {o s : Int} (hn : n ≤ 24) (hW : W ≤ 24) (ho : 0 ≤ o ∧ o ≤ 1000) (hs : 0 ≤ s ∧ s ≤ 1000) {y x : Nat} (hy : y < n) (hx : x < W) : 0 ≤ spV P n W r o s y x ∧ spV P n W r o s y x ≤ 24000000000 := by
  have hac : ∀ v, 0 ≤ nrS (P v) W r x ∧ nrS (P v) W r x ≤ 960000 := fun v => by
    have h9 := nrS_bd (g := P v) (c := 40000) (fun m => hP v m) (r := r) hx (by omega)
    refine ⟨h9.1, Int.le_trans h9.2 ?_⟩
    omega
  have h9 := nrS_bd (g := fun v => nrS (P v) W r x) (c := 960000) hac (r := r) hy (by omega)
  have h8 : nrS (fun v => nrS (P v) W r x) n r y ≤ 23040000 := Int.le_trans h9.2 (by omega)
  have h1 := mul_bd ho (hP y x) (by omega)
  have h2 := mul_bd hs ⟨h9.1, h8⟩ (by omega)
  unfold spV
  omega

end Go.Proofs.Ytmpbcdolikafpaa
