/- Proved here: what spreadOf's closure makes, of the program. -/
import Derived.Test.YtmdijanohjkeeaaSpI
import Derived.Test.YtmdijanohjkeeaaDmJ
import Derived.Test.YtmdijanohjkeeaaWtB
namespace Go.Proofs.Ytmdijanohjkeeaa
open Go.RowKit
set_option linter.unusedVariables false
set_option linter.unusedSimpArgs false

/-- What is spread: the map. -/
def spL (l : List Sh) (f : Bx) (o s : Int) (r : Nat) : List (List Int) := gridL (spV (mapG l f) (htN f) (wdN f) r o s) (htN f) (wdN f)
theorem gridL_shW (G : Nat → Nat → Int) (H W : Nat) : ShW H W (gridL G H W) := ⟨gridL_len _ _ _, fun j hj => by rw [gridL_at _ hj, rowG_len]⟩
theorem gridL_at2 (G : Nat → Nat → Int) {H W y x : Nat} (hy : y < H) (hx : x < W) : at2W (gridL G H W) y x = G y x := by
  unfold at2W; rw [gridL_at _ hy, rowG_at _ hx]
theorem mapG_bd {l : List Sh} {f : Bx} (hl : l.length ≤ 40) (hd : ∀ x ∈ l, 0 ≤ x.d ∧ x.d ≤ 1000) (y x : Nat) : 0 ≤ mapG l f y x ∧ mapG l f y x ≤ 40000 := by
  have h := sumD_small hl hd l.length (f.x0 + (x : Int)) (f.y0 + (y : Int))
  rw [List.take_length] at h
  exact h
theorem mapV_bd {l : List Sh} {f : Bx} (hl : l.length ≤ 40) (hd : ∀ x ∈ l, 0 ≤ x.d ∧ x.d ≤ 1000) (y x : Nat) : 0 ≤ at2W (mapV l f) y x ∧ at2W (mapV l f) y x ≤ 40000 := by
  unfold mapV
  by_cases hy : y < htN f
  · by_cases hx : x < wdN f
    · rw [gridL_at2 _ hy hx]; exact mapG_bd hl hd y x
    · have e : at2W (gridL (mapG l f) (htN f) (wdN f)) y x = 0 := by
        unfold at2W; rw [gridL_at _ hy, List.getD_eq_getElem?_getD, List.getElem?_eq_none (by rw [rowG_len]; omega)]; rfl
      omega
  · have e : at2W (gridL (mapG l f) (htN f) (wdN f)) y x = 0 := by
      unfold at2W
      rw [show (gridL (mapG l f) (htN f) (wdN f)).getD y [] = [] by rw [List.getD_eq_getElem?_getD, List.getElem?_eq_none (by rw [gridL_len]; omega)]; rfl]
      rfl
    omega
theorem nrS_congr {g g' : Nat → Int} {W r x : Nat} (hx : x < W) (h : ∀ m, m < W → g m = g' m) : nrS g W r x = nrS g' W r x := by
  unfold nrS
  have := lohi (r := r) hx
  exact sgm_congr fun m hm => h _ (by omega)
theorem smG_map (G : Nat → Nat → Int) {H W r y x : Nat} (hy : y < H) (hx : x < W) : smG (gridL G H W) H W r y x = nrS (fun v => nrS (G v) W r x) H r y := by
  unfold smG acG
  exact nrS_congr hy fun v hv => nrS_congr hx fun m hm => gridL_at2 _ hv hm
theorem smG_bd {ls : List (List Int)} (hb : ∀ y x, 0 ≤ at2W ls y x ∧ at2W ls y x ≤ 40000) {H W r y x : Nat} (hH : H ≤ 24) (hW : W ≤ 24) (hy : y < H) (hx : x < W) : 0 ≤ smG ls H W r y x ∧ smG ls H W r y x ≤ 23040000 := by
  have hac : ∀ v, 0 ≤ acG ls W r v x ∧ acG ls W r v x ≤ 960000 := fun v => by
    have h9 := nrS_bd (g := at2W ls v) (c := 40000) (fun m => hb v m) (r := r) hx (by omega)
    unfold acG
    refine ⟨h9.1, Int.le_trans h9.2 ?_⟩
    omega
  have h9 := nrS_bd (g := fun v => acG ls W r v x) (c := 960000) hac (r := r) hy (by omega)
  unfold smG
  refine ⟨h9.1, Int.le_trans h9.2 ?_⟩
  omega
theorem mul_bd {a b A B : Int} (ha : 0 ≤ a ∧ a ≤ A) (hb : 0 ≤ b ∧ b ≤ B) (hA : 0 ≤ A) : 0 ≤ a * b ∧ a * b ≤ A * B :=
  ⟨Int.mul_nonneg ha.1 hb.1, Int.mul_le_mul ha.2 hb.2 hb.1 hA⟩

set_option maxRecDepth 10000 in
set_option maxHeartbeats 12800000 in
theorem impl_spc (l : List Sh) (f : Bx) (o s : Int) (r : Nat) {w : World} {v : Value} {p : Nat} (hl : l.length ≤ 40) (hd : ∀ x ∈ l, 0 ≤ x.d ∧ x.d ≤ 1000) (hf : frF f = 0) (ho : 0 ≤ o ∧ o ≤ 1000) (hs : 0 ≤ s ∧ s ≤ 1000) (hr : r ≤ 4)
    (hp : w.heap[p]? = some (.cells #[.int .i64 f.x0, .int .i64 f.y0, .int .i64 f.x1, .int .i64 f.y1, .int .i64 o, .int .i64 s, .int .i64 r] 35)) (h : RG 5 shC w v l) :
    Calls Try.prog 52 #[v, .pointer (some ⟨p, 0, none⟩)] w fun e w' => ∃ v' vs, e = .returned v' ∧ RI w' w.heap.size v' (spL l f o s r) vs ∧ Below w.heap.size w w' := by
  have hfb := frF_box hf
  obtain ⟨n, hnn⟩ : ∃ n, n = htN f := ⟨_, rfl⟩
  obtain ⟨W, hWW⟩ : ∃ W, W = wdN f := ⟨_, rfl⟩
  have hnb : n ≤ 24 ∧ 0 < n := by rw [hnn]; unfold htN; omega
  have hWb : W ≤ 24 ∧ 0 < W := by rw [hWW]; unfold wdN; omega
  obtain ⟨M, hM⟩ : ∃ M, M = mapV l f := ⟨_, rfl⟩
  obtain ⟨a, c, rfl⟩ := h.form
  have HRW : Hid (∀ V, Below w.heap.size w V → Calls Try.prog 53 #[.slice a l.length c, .agg #[.int .i64 f.x0, .int .i64 f.y0, .int .i64 f.x1, .int .i64 f.y1]] V fun e w' => ∃ v' vs, e = .returned v' ∧ RI w' V.heap.size v' M vs ∧ Below V.heap.size V w') := fun V hV => by rw [hM]; exact impl_rows l f hl hd hf (h.below hV)
  have HM : Hid (ShW n W M ∧ (∀ y x, 0 ≤ at2W M y x ∧ at2W M y x ≤ 40000) ∧ (∀ y x, y < n → x < W → at2W M y x = mapG l f y x ∧ spV (mapG l f) n W r o s y x = o * at2W M y x + s * smG M n W r y x) ∧ spL l f o s r = gridL (spV (mapG l f) n W r o s) n W) := by
    refine ⟨by rw [hM, hnn, hWW]; exact gridL_shW _ _ _, by rw [hM]; exact mapV_bd hl hd, fun y x hy hx => ?_, by rw [hnn, hWW]; rfl⟩
    have e : M = gridL (mapG l f) n W := by rw [hM, hnn, hWW]; rfl
    rw [e, gridL_at2 _ hy hx, smG_map _ hy hx]
    exact ⟨rfl, rfl⟩
  generalize l.length = ln at HRW ⊢
  generalize spL l f o s r = SL at HM ⊢
  obtain ⟨p0, p1, p2, p3, p4, p5, p6, pf, pl⟩ := wt_seven hp
  have HP : Hid (w.cell? ⟨p, 4, none⟩ = some (.int .i64 o) ∧ w.cell? ⟨p, 5, none⟩ = some (.int .i64 s) ∧ w.cell? ⟨p, 6, none⟩ = some (.int .i64 r) ∧ p < w.heap.size) := ⟨p4, p5, p6, pl⟩
  clear hp h hf hfb hnn hWW hM pf hd hl
  go_enter Try.func52, Try.ntmps52
  go_wp2_with (fail)
  refine (HRW.out _ (Below.refl _ _)).mono ?_
  rintro e w1 ⟨v1, vs1, rfl, hr1, hb1⟩
  have hl1 : M.length = n := HM.out.1.len
  obtain ⟨g1, c1, hv1, _⟩ := hr1.pos (by omega)
  rw [hl1] at hv1
  subst hv1
  have HG1 : Hid (GVP w1 w.heap.size g1 n c1 W n M vs1 ∧ Below w.heap.size w w1) := ⟨⟨hr1, hl1, HM.out.1.wd, Nat.le_refl _, hWb.2⟩, hb1⟩
  have HNR : Hid (Calls Try.prog 54 #[.slice (some ⟨g1, 0, none⟩) n c1, .int .i64 r] w1 fun e w' => ∃ v' vs L, e = .returned v' ∧ RI w' w1.heap.size v' L vs ∧ ShW n W L ∧ (∀ y x, y < n → x < W → at2W L y x = smG M n W r y x) ∧ Below w1.heap.size w1 w') := impl_near r hnb.1 hnb.2 hWb.1 hWb.2 (by omega) HM.out.1 HM.out.2.1 hr1.rdc
  have q6 := (hb1.cell (p := ⟨p, 6, none⟩) pl).trans p6
  have ql := Nat.lt_of_lt_of_le pl hb1.size
  clear p0 p1 p2 p3 p4 p5 p6 pl hr1 hb1 HRW hl1
  go_wp2_with (fail)
  refine HNR.out.mono ?_
  rintro e w2 ⟨v2, vs, L2, rfl, hr2, hs2, ha2, hb2⟩
  obtain ⟨g2, c2, hv2, _⟩ := hr2.pos (by rw [hs2.len]; omega)
  rw [hs2.len] at hv2
  subst hv2
  have HS : Hid (∃ L, GVP w2 w1.heap.size g2 n c2 W n L vs ∧ (∀ y x, y < n → x < W → at2W L y x = if y < 0 then spV (mapG l f) n W r o s y x else smG M n W r y x) ∧ Below w1.heap.size w1 w2) :=
    ⟨L2, ⟨hr2, hs2.len, hs2.wd, Nat.le_refl _, hWb.2⟩, fun y x hy hx => by rw [if_neg (by omega)]; exact ha2 y x hy hx, hb2⟩
  clear hr2 hs2 ha2 hb2 HNR q6 ql
  go_wp2_with (fail)
  go_loopw [20] (fun i wr => ∃ (k : Nat), k ≤ n ∧ i = .int .i64 k ∧ Hid (∃ L, GVP wr w1.heap.size g2 n c2 W n L vs ∧ (∀ y x, y < n → x < W → at2W L y x = if y < k then spV (mapG l f) n W r o s y x else smG M n W r y x) ∧ Below w1.heap.size w1 wr)) (fun i _ => n - (intOf i).toNat)
  case atStart => exact ⟨0, Nat.zero_le _, rfl, HS.out⟩
  case round =>
    clear HS
    obtain ⟨k, hk, rfl, hR⟩ := hrel
    by_cases hlt : k < n
    · obtain ⟨L, hG, hL, hbl⟩ := hR.out
      obtain ⟨gj, cj, hrk, d0, hgl, hgjl, hBj, hBg, hne, hcells⟩ := hG.at hlt
      have b0 : (0 : Int) ≤ (k : Int) := by omega
      have b1 : (k : Int) < (n : Int) := by omega
      have HK : Hid (rat vs k = .slice (some ⟨gj, 0, none⟩) W cj) := hrk
      have HS : Hid (∃ L, GVP wr w1.heap.size g2 n c2 W n L vs ∧ (∀ y x, y < n → x < W → at2W L y x = if y < k ∨ (y = k ∧ x < 0) then spV (mapG l f) n W r o s y x else smG M n W r y x) ∧ Below w1.heap.size w1 wr) := by
        refine ⟨L, hG, fun y x hy hx => ?_, hbl⟩
        rw [hL y x hy hx]
        by_cases e : y < k
        · rw [if_pos e, if_pos (Or.inl e)]
        · rw [if_neg e, if_neg (by omega)]
      clear hR hG hL hbl hrk hBj hBg hne hcells hgjl
      go_wp2_with (fail)
      clear d0 hgl
      go_loopw [27] (fun i wr => ∃ (x : Nat), x ≤ W ∧ i = .int .i64 x ∧ Hid (∃ L, GVP wr w1.heap.size g2 n c2 W n L vs ∧ (∀ y m, y < n → m < W → at2W L y m = if y < k ∨ (y = k ∧ m < x) then spV (mapG l f) n W r o s y m else smG M n W r y m) ∧ Below w1.heap.size w1 wr)) (fun i _ => W - (intOf i).toNat)
      case atStart => exact ⟨0, Nat.zero_le _, rfl, HS.out⟩
      case round =>
        clear HS
        obtain ⟨x, hx, rfl, hR⟩ := hrel
        by_cases hlt2 : x < W
        · obtain ⟨L, hG, hL, hbl⟩ := hR.out
          obtain ⟨gj', cj', hrk, d0, hgl, hgjl, hBj, hBg, hne, hcells⟩ := hG.at hlt
          rw [HK.out] at hrk
          injection hrk with e1 e2 e3
          injection e1 with e1
          injection e1 with e1
          subst e1 e3
          obtain ⟨e0, f0⟩ := hcells x hlt2
          obtain ⟨gi, ci, hri, a0, hg1l, hgil, _, _, _, hcells1⟩ := (HG1.out.1.below hbl).at hlt
          obtain ⟨a1, _⟩ := hcells1 x hlt2
          obtain ⟨D, hD⟩ : ∃ D, D = at2W M k x := ⟨_, rfl⟩
          obtain ⟨Z, hZ⟩ : ∃ Z, Z = smG M n W r k x := ⟨_, rfl⟩
          rw [hL k x hlt hlt2, if_neg (by omega), ← hZ] at e0
          rw [← hD] at a1
          have hDb := HM.out.2.1 k x
          rw [← hD] at hDb
          have hZb := smG_bd (r := r) HM.out.2.1 hnb.1 hWb.1 hlt hlt2
          rw [← hZ] at hZb
          have hA := mul_bd ho hDb (by omega)
          have hB := mul_bd hs hZb (by omega)
          have hsp := (HM.out.2.2.1 k x hlt hlt2).2
          rw [← hD, ← hZ] at hsp
          obtain ⟨A, hAA⟩ : ∃ A, A = o * D := ⟨_, rfl⟩
          obtain ⟨B, hBB⟩ : ∃ B, B = s * Z := ⟨_, rfl⟩
          rw [← hAA] at hA hsp
          rw [← hBB] at hB hsp
          have hw1 : IntKind.i64.wrap (o * D) = A := by rw [← hAA, IntKind.wrap_i64]; omega
          have hw2 : IntKind.i64.wrap (s * Z) = B := by rw [← hBB, IntKind.wrap_i64]; omega
          have hw3 : IntKind.i64.wrap (A + B) = A + B := by rw [IntKind.wrap_i64]; omega
          have hbw : Below w.heap.size w wr := HG1.out.2.trans (hbl.mono HG1.out.2.size)
          have q4 := (hbw.cell (p := ⟨p, 4, none⟩) HP.out.2.2.2).trans HP.out.1
          have q5 := (hbw.cell (p := ⟨p, 5, none⟩) HP.out.2.2.2).trans HP.out.2.1
          have ql := Nat.lt_of_lt_of_le HP.out.2.2.2 hbw.size
          have HN : Hid (∃ L, GVP (wr.setCell ⟨gj, x, none⟩ (.int .i64 (A + B))).drew w1.heap.size g2 n c2 W n L vs ∧ (∀ y m, y < n → m < W → at2W L y m = if y < k ∨ (y = k ∧ m < x + 1) then spV (mapG l f) n W r o s y m else smG M n W r y m) ∧ Below w1.heap.size w1 (wr.setCell ⟨gj, x, none⟩ (.int .i64 (A + B))).drew) := by
            have hGV := hG
            have hb9 := hGV.bel hlt HK.out x (A + B) hbl
            refine ⟨set2W L k x (A + B), (hGV.set hlt HK.out x (A + B)).below (Below.refl _ _).drew, fun y m hy hm => ?_, hb9.trans ((Below.refl _ _).drew.mono hb9.size)⟩
            rw [hGV.at2 hlt hlt2]
            by_cases e : y = k ∧ m = x
            · rw [if_pos e, e.1, e.2, if_pos (Or.inr ⟨rfl, by omega⟩), hsp]
            · rw [if_neg e, hL y m hy hm]
              by_cases e2 : y < k ∨ (y = k ∧ m < x)
              · rw [if_pos e2, if_pos (by omega)]
              · rw [if_neg e2, if_neg (by omega)]
          have i0 : (0 : Int) ≤ (x : Int) := by omega
          have i1 : (x : Int) < (W : Int) := by omega
          clear hR hG hL hbl hcells hcells1 hri hBj hBg hne hD hZ hDb hZb hA hB hsp hAA hBB hbw d0 hgl
          go_wp2_with (fail)
          refine wp_region_still_tail 18 (by kernel_rfl) (by kernel_rfl) ?_
          have hdw : ({ wr with drawn := wr.drawn + 1 } : World) = wr.drew := rfl
          rw [hdw]
          clear hdw
          simp only [List.take_succ_cons, List.take_zero, List.drop_succ_cons, List.drop_zero]
          iterate 18 still_step
          refine wpStill_nil ?_
          go_wp2
          go_roundw
          case rel => exact ⟨x + 1, by omega, by go_num, HN.out⟩
          case measure => simp [intOf]; omega
        · have HN : Hid (∃ L, GVP wr w1.heap.size g2 n c2 W n L vs ∧ (∀ y m, y < n → m < W → at2W L y m = if y < k + 1 then spV (mapG l f) n W r o s y m else smG M n W r y m) ∧ Below w1.heap.size w1 wr) := by
            obtain ⟨L, hG, hL, hbl⟩ := hR.out
            refine ⟨L, hG, fun y m hy hm => ?_, hbl⟩
            rw [hL y m hy hm]
            by_cases e : y < k + 1
            · rw [if_pos e, if_pos (by omega)]
            · rw [if_neg e, if_neg (by omega)]
          clear hR
          go_wp2
          go_roundw
          case rel => exact ⟨k + 1, by omega, by go_num, HN.out⟩
          case measure => simp [intOf]; omega
    · have HE : Hid (RI wr w.heap.size (.slice (some ⟨g2, 0, none⟩) n c2) SL vs ∧ Below w.heap.size w wr) := by
        obtain ⟨L, hG, hL, hbl⟩ := hR.out
        have e : L = SL := by
          rw [HM.out.2.2.2]
          refine gridW_ext (n := n) (W := W) ⟨hG.len, hG.wd⟩ (gridL_shW _ _ _) fun y m hy hm => ?_
          rw [hL y m hy hm, if_pos (by omega), gridL_at2 _ hy hm]
        rw [← e]
        exact ⟨hG.ri.low HG1.out.2.size, HG1.out.2.trans (hbl.mono HG1.out.2.size)⟩
      clear hR
      go_wp2
      go_returns
      exact ⟨_, vs, rfl, HE.out.1, HE.out.2⟩

end Go.Proofs.Ytmdijanohjkeeaa
