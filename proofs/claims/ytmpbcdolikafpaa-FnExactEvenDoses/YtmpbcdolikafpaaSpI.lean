/- Proved here: sums over what is near (sumsNear), of the program. -/
import Derived.Test.YtmpbcdolikafpaaSpM
import Derived.Test.YtmpbcdolikafpaaRdC
import Derived.Deep.DeepCutAuto
namespace Go.Proofs.Ytmpbcdolikafpaa
open Go.RowKit
set_option linter.unusedVariables false
set_option linter.unusedSimpArgs false

theorem rep_int (W : Nat) : (List.replicate W (0 : Int)).map (Value.int .i64) = List.replicate (W * 1) (Value.int .i64 0) := by
  rw [List.map_replicate, Nat.mul_one]
theorem made_row {w3 : World} {B W : Nat} {v : Value} (h : w3.ownsRow B 2 1 v W (madeCells (Value.int IntKind.i64 0).cells (W * 1)).toList) : IS w3 B v (List.replicate W 0) := by
  rw [show (Value.int IntKind.i64 0).cells = #[Value.int IntKind.i64 0] from rfl, toList_madeCells_one] at h
  unfold IS
  rw [List.length_replicate, rep_int]
  exact h
theorem made_rows {w2 : World} {B g n : Nat} (h : w2.ownsRow B 29 1 (.slice (some ⟨g, 0, none⟩) n n) n (madeCells (Value.slice none 0 0).cells (n * 1)).toList) {W : Nat} (hW : 0 < W) : ∃ vs, GVP w2 B g n n W 0 (List.replicate n []) vs := by
  rw [show (Value.slice none 0 0).cells = #[Value.slice none 0 0] from rfl, toList_madeCells_one, Nat.mul_one] at h
  have hr : ∀ i, rat (List.replicate n (Value.slice none 0 0)) i = .slice none 0 0 := fun i => by
    unfold rat
    rw [List.getD_eq_getElem?_getD, List.getElem?_replicate]
    split <;> rfl
  refine ⟨List.replicate n (.slice none 0 0), ⟨by rw [List.length_replicate]; exact h, fun i hi => ?_, fun i j hij hi hj g' hg => ?_⟩, List.length_replicate, fun j hj => by omega, by omega, hW⟩
  · rw [hr]
    have e : (List.replicate n ([] : List Int)).getD i [] = [] := by
      rw [List.getD_eq_getElem?_getD, List.getElem?_replicate]; split <;> rfl
    rw [e]
    exact World.ownsRow_nil _ _ _ _
  · rw [hr] at hg; cases hg
theorem row_slot {w : World} {B g n c W k j : Nat} {L : List (List Int)} {vs : List Value} (h : GVP w B g n c W k L vs) (hj : j < n) : (∃ d, w.cell? ⟨g, j, none⟩ = some d) ∧ w.frozen? ⟨g, j, none⟩ = false ∧ g < w.heap.size := by
  have hl := h.len
  obtain ⟨g', c', he, hB, hg, hx⟩ := h.ri.pos (by omega)
  injection he with he1 he2 he3
  injection he1 with he4
  injection he4 with he5
  subst he5
  have h2 := h.ri.o
  rw [hl] at h2
  exact ⟨⟨_, hx j (by omega)⟩, World.ownsRow.frozenAt h2 j, hg⟩
/-- What lies near, across; and all that lies near. -/
def acG (ls : List (List Int)) (W r : Nat) (y x : Nat) : Int := nrS (at2W ls y) W r x
def smG (ls : List (List Int)) (H W r : Nat) (y x : Nat) : Int := nrS (fun v => acG ls W r v x) H r y

set_option maxRecDepth 10000 in
set_option maxHeartbeats 25600000 in
theorem impl_near (r : Nat) {w : World} {a : Option Addr} {n c W : Nat} {ls : List (List Int)} (hn : n ≤ 24) (hn0 : 0 < n) (hW : W ≤ 24) (hW0 : 0 < W) (hr : r ≤ 1000) (hs : ShW n W ls) (hb : ∀ y x, 0 ≤ at2W ls y x ∧ at2W ls y x ≤ 40000) (h : RdC w (.slice a n c) ls) :
    Calls Try.prog 49 #[.slice a n c, .int .i64 r] w fun e w' => ∃ v' vs L, e = .returned v' ∧ RI w' w.heap.size v' L vs ∧ ShW n W L ∧ (∀ y x, y < n → x < W → at2W L y x = smG ls n W r y x) ∧ Below w.heap.size w w' := by
  have HI : Hid (ShW n W ls ∧ (∀ y x, 0 ≤ at2W ls y x ∧ at2W ls y x ≤ 40000) ∧ RdC w (.slice a n c) ls) := ⟨hs, hb, h⟩
  obtain ⟨i0, hi0, hz0, hz1, hz2⟩ := info_parts info_row
  obtain ⟨i1, hi1, hy0, hy1, hy2⟩ := info_parts info_i64
  obtain ⟨g, o, _, _, _, rfl, hg, _, _, _⟩ := h.1.at hn0
  clear hs hb h hg
  go_enter Try.func49, Try.ntmps49
  go_wp2_with (at_make; refine wpList_make_full _ rfl _ _ 64 rfl w.heap.size 29 i0 (.slice none 0 0) 1 Try.underlying64 hi0 hz0 hz1 _ _ _ _ n rfl rfl rfl rfl (by rw [hz2]; omega) (by unfold maxLen; omega) (Nat.le_refl _) ?_; intro w2 hown2 hgrow2)
  have hb2 : Below w.heap.size w w2 := (Below.refl _ _).grown hgrow2 (Nat.le_refl _) (fun k h => by cases h)
  obtain ⟨g1, hg1⟩ : ∃ g, g = w.heap.size := ⟨_, rfl⟩
  have HS : Hid (∃ L vs, GVP w2 w.heap.size g1 n n W 0 L vs ∧ (∀ y x, y < 0 → x < W → at2W L y x = acG ls W r y x) ∧ Below w.heap.size w w2) := by
    rw [hg1]
    obtain ⟨vs, hv⟩ := made_rows (g := w.heap.size) hown2 hW0
    exact ⟨_, vs, hv, fun y x hy => by omega, hb2⟩
  obtain ⟨B0, hB0⟩ : ∃ B, B = w.heap.size := ⟨_, rfl⟩
  rw [← hg1]
  clear hown2 hgrow2 hb2 hg1
  go_loopw [23] (fun i wr => ∃ (k : Nat), k ≤ n ∧ i = .int .i64 k ∧ Hid (∃ L vs, GVP wr w.heap.size g1 n n W k L vs ∧ (∀ y x, y < k → x < W → at2W L y x = acG ls W r y x) ∧ Below w.heap.size w wr)) (fun i _ => n - (intOf i).toNat)
  case atStart => exact ⟨0, Nat.zero_le _, rfl, HS.out⟩
  case round =>
    clear HS
    obtain ⟨k, hk, rfl, hR⟩ := hrel
    by_cases hlt : k < n
    · obtain ⟨L, vs, hG, hL, hbl⟩ := hR.out
      obtain ⟨g', o', ra, rn, rc, he, hg9, a0, hrn, hrd⟩ := (HI.out.2.2.below hbl).1.at hlt
      injection he with he
      injection he with he1 he2
      subst he1 he2
      have hrc : rn ≤ rc := (HI.out.2.2.below hbl).2.2 g o n c k ra rn rc rfl hlt a0
      rw [HI.out.1.wd k hlt] at hrn
      subst hrn
      obtain ⟨rg, ro, rfl, hrg, _⟩ := rd_at hrd hW0
      have hGl : g1 < wr.heap.size ∧ w.heap.size ≤ wr.heap.size := ⟨by obtain ⟨g2, _, he, _, hl, _⟩ := hG.ri.pos (by rw [hG.len]; omega); injection he with he; injection he with he; injection he with he; rw [he]; exact hl, hbl.size⟩
      have HG : Hid (GVP wr w.heap.size g1 n n rn k L vs ∧ (∀ y x, y < k → x < rn → at2W L y x = acG ls rn r y x) ∧ Below w.heap.size w wr ∧ rn ≤ rc ∧ RdI w (.slice (some ⟨rg, ro, none⟩) rn rc) (ls.getD k [])) := by
        refine ⟨hG, hL, hbl, hrc, ?_⟩
        obtain ⟨g3, o3, ra3, rn3, rc3, e3, hg3, a3, hn3, hd3⟩ := HI.out.2.2.1.at hlt
        injection e3 with e3
        injection e3 with e4 e5
        subst e4 e5
        rw [hbl.cell (p := ⟨g, o + k, none⟩) hg3, a3] at a0
        injection a0 with a0
        injection a0 with e6 e7 e8
        subst e6 e7 e8
        exact hd3
      clear hR hG hL hbl hrd hrc
      have b0 : (0 : Int) ≤ (k : Int) := by omega
      have b1 : (k : Int) < (n : Int) := by omega
      go_wp2_with (at_make; refine wpList_make_full _ rfl _ _ 29 rfl wr.heap.size 2 i1 (.int .i64 0) 1 Try.underlying29 hi1 hy0 hy1 _ _ _ _ rn rfl rfl rfl rfl (by rw [hy2]; omega) (by unfold maxLen; omega) (Nat.le_refl _) ?_; intro w3 hown3 hgrow3; obtain ⟨c5, f5, g5⟩ : (∃ d, w3.cell? ⟨g1, k, none⟩ = some d) ∧ w3.frozen? ⟨g1, k, none⟩ = false ∧ g1 < w3.heap.size := (by have hb3 : Below wr.heap.size wr w3 := (Below.refl _ _).grown hgrow3 (Nat.le_refl _) (fun k h => by cases h); exact row_slot (HG.out.1.below hb3) hlt); obtain ⟨d5, c5⟩ := c5)
      obtain ⟨gr, hgr⟩ : ∃ g, g = wr.heap.size := ⟨_, rfl⟩
      have HS : Hid (∃ L vs, GVP (w3.setCell ⟨g1, k, none⟩ (.slice (some ⟨gr, 0, none⟩) rn rn)) w.heap.size g1 n n rn (k + 1) L vs ∧ (∀ y x, y < k → x < rn → at2W L y x = acG ls rn r y x) ∧ (∀ m, m < rn → at2W L k m = if m < 0 then acG ls rn r k m else 0) ∧ Below w.heap.size w (w3.setCell ⟨g1, k, none⟩ (.slice (some ⟨gr, 0, none⟩) rn rn))) := by
        have hb3 : Below wr.heap.size wr w3 := (Below.refl _ _).grown hgrow3 (Nat.le_refl _) (fun k h => by cases h)
        have hu := made_row hown3
        rw [← hgr] at hu
        obtain ⟨m1, m2, m3⟩ := HG.out.1.more hlt hb3 hGl.2 (u := .slice (some ⟨gr, 0, none⟩) rn rn) (by rw [← hgr]; exact hu)
        refine ⟨_, _, m1, fun y x hy hx => by rw [m2 y x hy]; exact HG.out.2.1 y x hy hx, fun m _ => by rw [m3, if_neg (by omega)], (HG.out.2.2.1.trans (hb3.mono HG.out.2.2.1.size)).setCell ?_ _⟩
        obtain ⟨g2, c2, he, hBg, _, _⟩ := HG.out.1.ri.pos (by rw [HG.out.1.len]; omega)
        injection he with he
        injection he with he
        injection he with he
        rw [← he] at hBg
        exact hBg
      have HRW : Hid (RdI w (.slice (some ⟨rg, ro, none⟩) rn rc) (ls.getD k []) ∧ rn ≤ rc) := ⟨HG.out.2.2.2.2, HG.out.2.2.2.1⟩
      rw [← hgr]
      clear hown3 hgrow3 HG c5 f5 g5 hgr a0 hg9 hrg hGl d5
      generalize w3.setCell ⟨g1, k, none⟩ (.slice (some ⟨gr, 0, none⟩) rn rn) = V3 at HS ⊢
      go_loopw [36] (fun i wr => ∃ (x : Nat), x ≤ rn ∧ i = .int .i64 x ∧ Hid (∃ L vs, GVP wr w.heap.size g1 n n rn (k + 1) L vs ∧ (∀ y x, y < k → x < rn → at2W L y x = acG ls rn r y x) ∧ (∀ m, m < rn → at2W L k m = if m < x then acG ls rn r k m else 0) ∧ Below w.heap.size w wr)) (fun i _ => rn - (intOf i).toNat)
      case atStart => exact ⟨0, Nat.zero_le _, rfl, HS.out⟩
      case round =>
        clear HS
        obtain ⟨x, hx, rfl, hR⟩ := hrel
        by_cases hlt2 : x < rn
        · have b2 : (0 : Int) ≤ (x : Int) := by omega
          have b3 : (x : Int) < (rn : Int) := by omega
          have hw2 : IntKind.i64.wrap ((x : Int) + (r : Int)) = (x : Int) + (r : Int) := by rw [IntKind.wrap_i64]; omega
          obtain ⟨xr, hxr⟩ : ∃ q, q = x + r + 1 := ⟨_, rfl⟩
          have hw3 : IntKind.i64.wrap ((x : Int) + (r : Int) + 1) = (xr : Int) := by rw [IntKind.wrap_i64]; omega
          have HXR : Hid (xr = x + r + 1) := hxr
          have hrc := HRW.out.2
          by_cases hA : r < x
          · have hw1 : IntKind.i64.wrap ((x : Int) - (r : Int)) = ((x - r : Nat) : Int) := by rw [IntKind.wrap_i64]; omega
            have hA1 : (0 : Int) < ((x - r : Nat) : Int) := by omega
            have s3 : ¬ rc = x - r := by omega
            by_cases hB : xr < rn
            · have hB1 : (xr : Int) < (rn : Int) := by omega
              have s1 : ((x - r : Nat) : Int) ≤ (xr : Int) := by omega
              have s2 : (xr : Int) ≤ (rc : Int) := by omega
              clear hxr
              go_wp2
              have hxr := HXR.out
              obtain ⟨ln, hln⟩ : ∃ l, l = xr - (x - r) := ⟨_, rfl⟩
              rw [← hln]
              have HLN : Hid (ln = hiN rn r x - loN r x ∧ ro + (x - r) = ro + loN r x ∧ loN r x + ln ≤ rn) := by
                have h1 := lohi (r := r) hlt2
                unfold Hid hiN loN
                unfold hiN loN at h1
                refine ⟨?_, ?_, ?_⟩
                · rw [hln]; split <;> omega
                · omega
                · rw [hln]; split at h1 <;> omega
              clear hln hxr
              go_loopw [53] (fun i wr => ∃ (j : Nat), j ≤ ln ∧ i = .int .i64 j ∧ Hid (∃ L vs, GVP wr w.heap.size g1 n n rn (k + 1) L vs ∧ (∀ y x, y < k → x < rn → at2W L y x = acG ls rn r y x) ∧ (∀ m, m < rn → at2W L k m = if m < x then acG ls rn r k m else if m = x then sgm (fun i => at2W ls k (loN r x + i)) j else 0) ∧ Below w.heap.size w wr)) (fun i _ => ln - (intOf i).toNat)
              case atStart =>
                obtain ⟨L, vs, h1, h2, h3, h4⟩ := hR.out
                exact ⟨0, Nat.zero_le _, rfl, L, vs, h1, h2, fun m hm => by rw [h3 m hm]; by_cases e : m < x <;> simp [e, sgm], h4⟩
              case round =>
                clear hR
                obtain ⟨j, hj, rfl, hR⟩ := hrel
                by_cases hlt3 : j < ln
                · obtain ⟨L, vs, hG, h2, h3, hbl⟩ := hR.out
                  obtain ⟨gj, cj, hrk, c0, hgl, hgjl, hBj, hBg, hne, hcells⟩ := hG.at (show k < k + 1 by omega)
                  obtain ⟨rg', ro', he, hrg, d0⟩ := rd_at (HRW.out.1.below hbl) (show loN r x + j < rn by have := HLN.out.2.2; omega)
                  injection he with he
                  injection he with he1 he2
                  subst he1 he2
                  obtain ⟨v, hv⟩ : ∃ v, v = (ls.getD k []).getD (loN r x + j) 0 := ⟨_, rfl⟩
                  rw [← hv, show ro + (loN r x + j) = ro + (x - r) + j by have := HLN.out.2.1; omega] at d0
                  obtain ⟨e0, f0⟩ := hcells x hlt2
                  obtain ⟨S, hS⟩ : ∃ S, S = sgm (fun i => at2W ls k (loN r x + i)) j := ⟨_, rfl⟩
                  have hLx : at2W L k x = S := by rw [h3 x hlt2, if_neg (by omega), if_pos rfl, hS]
                  rw [hLx] at e0
                  have hvb := HI.out.2.1 k (loN r x + j)
                  unfold at2W at hvb
                  rw [← hv] at hvb
                  have hSb := sgm_bd (p := fun i => at2W ls k (loN r x + i)) (c := 40000) (fun i => HI.out.2.1 _ _) j
                  rw [← hS] at hSb
                  have hjb : j ≤ 24 := by have := HLN.out.2.2; omega
                  have hw9 : IntKind.i64.wrap (S + v) = S + v := by rw [IntKind.wrap_i64]; omega
                  have HN : Hid (∃ L vs, GVP (wr.setCell ⟨gj, x, none⟩ (.int .i64 (S + v))) w.heap.size g1 n n rn (k + 1) L vs ∧ (∀ y x, y < k → x < rn → at2W L y x = acG ls rn r y x) ∧ (∀ m, m < rn → at2W L k m = if m < x then acG ls rn r k m else if m = x then sgm (fun i => at2W ls k (loN r x + i)) (j + 1) else 0) ∧ Below w.heap.size w (wr.setCell ⟨gj, x, none⟩ (.int .i64 (S + v)))) := by
                    refine ⟨set2W L k x (S + v), vs, hG.set (by omega) hrk x (S + v), fun y q hy hq => ?_, fun m hm => ?_, hG.bel (by omega) hrk x (S + v) hbl⟩
                    · rw [hG.at2 (by omega) hlt2, if_neg (by omega)]; exact h2 y q hy hq
                    · rw [hG.at2 (by omega) hlt2]
                      by_cases e : m = x
                      · rw [if_pos ⟨rfl, e⟩, e, if_neg (by omega), if_pos rfl, sgm, ← hS, hv]; rfl
                      · rw [if_neg (fun q => e q.2), h3 m hm]
                        by_cases e2 : m < x
                        · rw [if_pos e2, if_pos e2]
                        · rw [if_neg e2, if_neg e2, if_neg e, if_neg e]
                  have i0 : (0 : Int) ≤ (j : Int) := by omega
                  have i1 : (j : Int) < (ln : Int) := by omega
                  clear hR hG h2 h3 hbl hrk hcells hLx hv hS hvb hSb hBj hBg hne
                  go_wp2
                  go_roundw
                  case rel => exact ⟨j + 1, by omega, by go_num, HN.out⟩
                  case measure => simp [intOf]; omega
                · have HN : Hid (∃ L vs, GVP wr w.heap.size g1 n n rn (k + 1) L vs ∧ (∀ y x, y < k → x < rn → at2W L y x = acG ls rn r y x) ∧ (∀ m, m < rn → at2W L k m = if m < x + 1 then acG ls rn r k m else 0) ∧ Below w.heap.size w wr) := by
                    obtain ⟨L, vs, hG, h2, h3, hbl⟩ := hR.out
                    refine ⟨L, vs, hG, h2, fun m hm => ?_, hbl⟩
                    rw [h3 m hm]
                    by_cases e : m < x
                    · rw [if_pos e, if_pos (by omega)]
                    · rw [if_neg e]
                      by_cases e2 : m = x
                      · rw [if_pos e2, if_pos (by omega), e2]
                        unfold acG nrS
                        rw [show j = hiN rn r x - loN r x by have := HLN.out.1; omega]
                      · rw [if_neg e2, if_neg (by omega)]
                  clear hR
                  go_wp2
                  go_roundw
                  case rel => exact ⟨x + 1, by omega, by go_num, HN.out⟩
                  case measure => simp [intOf]; omega
            · have hB1 : ¬ (xr : Int) < (rn : Int) := by omega
              have s1 : ((x - r : Nat) : Int) ≤ (rn : Int) := by omega
              have s2 : (rn : Int) ≤ (rc : Int) := by omega
              clear hxr
              go_wp2
              have hxr := HXR.out
              obtain ⟨ln, hln⟩ : ∃ l, l = rn - (x - r) := ⟨_, rfl⟩
              rw [← hln]
              have HLN : Hid (ln = hiN rn r x - loN r x ∧ ro + (x - r) = ro + loN r x ∧ loN r x + ln ≤ rn) := by
                have h1 := lohi (r := r) hlt2
                unfold Hid hiN loN
                unfold hiN loN at h1
                refine ⟨?_, ?_, ?_⟩
                · rw [hln]; split <;> omega
                · omega
                · rw [hln]; split at h1 <;> omega
              clear hln hxr
              go_loopw [53] (fun i wr => ∃ (j : Nat), j ≤ ln ∧ i = .int .i64 j ∧ Hid (∃ L vs, GVP wr w.heap.size g1 n n rn (k + 1) L vs ∧ (∀ y x, y < k → x < rn → at2W L y x = acG ls rn r y x) ∧ (∀ m, m < rn → at2W L k m = if m < x then acG ls rn r k m else if m = x then sgm (fun i => at2W ls k (loN r x + i)) j else 0) ∧ Below w.heap.size w wr)) (fun i _ => ln - (intOf i).toNat)
              case atStart =>
                obtain ⟨L, vs, h1, h2, h3, h4⟩ := hR.out
                exact ⟨0, Nat.zero_le _, rfl, L, vs, h1, h2, fun m hm => by rw [h3 m hm]; by_cases e : m < x <;> simp [e, sgm], h4⟩
              case round =>
                clear hR
                obtain ⟨j, hj, rfl, hR⟩ := hrel
                by_cases hlt3 : j < ln
                · obtain ⟨L, vs, hG, h2, h3, hbl⟩ := hR.out
                  obtain ⟨gj, cj, hrk, c0, hgl, hgjl, hBj, hBg, hne, hcells⟩ := hG.at (show k < k + 1 by omega)
                  obtain ⟨rg', ro', he, hrg, d0⟩ := rd_at (HRW.out.1.below hbl) (show loN r x + j < rn by have := HLN.out.2.2; omega)
                  injection he with he
                  injection he with he1 he2
                  subst he1 he2
                  obtain ⟨v, hv⟩ : ∃ v, v = (ls.getD k []).getD (loN r x + j) 0 := ⟨_, rfl⟩
                  rw [← hv, show ro + (loN r x + j) = ro + (x - r) + j by have := HLN.out.2.1; omega] at d0
                  obtain ⟨e0, f0⟩ := hcells x hlt2
                  obtain ⟨S, hS⟩ : ∃ S, S = sgm (fun i => at2W ls k (loN r x + i)) j := ⟨_, rfl⟩
                  have hLx : at2W L k x = S := by rw [h3 x hlt2, if_neg (by omega), if_pos rfl, hS]
                  rw [hLx] at e0
                  have hvb := HI.out.2.1 k (loN r x + j)
                  unfold at2W at hvb
                  rw [← hv] at hvb
                  have hSb := sgm_bd (p := fun i => at2W ls k (loN r x + i)) (c := 40000) (fun i => HI.out.2.1 _ _) j
                  rw [← hS] at hSb
                  have hjb : j ≤ 24 := by have := HLN.out.2.2; omega
                  have hw9 : IntKind.i64.wrap (S + v) = S + v := by rw [IntKind.wrap_i64]; omega
                  have HN : Hid (∃ L vs, GVP (wr.setCell ⟨gj, x, none⟩ (.int .i64 (S + v))) w.heap.size g1 n n rn (k + 1) L vs ∧ (∀ y x, y < k → x < rn → at2W L y x = acG ls rn r y x) ∧ (∀ m, m < rn → at2W L k m = if m < x then acG ls rn r k m else if m = x then sgm (fun i => at2W ls k (loN r x + i)) (j + 1) else 0) ∧ Below w.heap.size w (wr.setCell ⟨gj, x, none⟩ (.int .i64 (S + v)))) := by
                    refine ⟨set2W L k x (S + v), vs, hG.set (by omega) hrk x (S + v), fun y q hy hq => ?_, fun m hm => ?_, hG.bel (by omega) hrk x (S + v) hbl⟩
                    · rw [hG.at2 (by omega) hlt2, if_neg (by omega)]; exact h2 y q hy hq
                    · rw [hG.at2 (by omega) hlt2]
                      by_cases e : m = x
                      · rw [if_pos ⟨rfl, e⟩, e, if_neg (by omega), if_pos rfl, sgm, ← hS, hv]; rfl
                      · rw [if_neg (fun q => e q.2), h3 m hm]
                        by_cases e2 : m < x
                        · rw [if_pos e2, if_pos e2]
                        · rw [if_neg e2, if_neg e2, if_neg e, if_neg e]
                  have i0 : (0 : Int) ≤ (j : Int) := by omega
                  have i1 : (j : Int) < (ln : Int) := by omega
                  clear hR hG h2 h3 hbl hrk hcells hLx hv hS hvb hSb hBj hBg hne
                  go_wp2
                  go_roundw
                  case rel => exact ⟨j + 1, by omega, by go_num, HN.out⟩
                  case measure => simp [intOf]; omega
                · have HN : Hid (∃ L vs, GVP wr w.heap.size g1 n n rn (k + 1) L vs ∧ (∀ y x, y < k → x < rn → at2W L y x = acG ls rn r y x) ∧ (∀ m, m < rn → at2W L k m = if m < x + 1 then acG ls rn r k m else 0) ∧ Below w.heap.size w wr) := by
                    obtain ⟨L, vs, hG, h2, h3, hbl⟩ := hR.out
                    refine ⟨L, vs, hG, h2, fun m hm => ?_, hbl⟩
                    rw [h3 m hm]
                    by_cases e : m < x
                    · rw [if_pos e, if_pos (by omega)]
                    · rw [if_neg e]
                      by_cases e2 : m = x
                      · rw [if_pos e2, if_pos (by omega), e2]
                        unfold acG nrS
                        rw [show j = hiN rn r x - loN r x by have := HLN.out.1; omega]
                      · rw [if_neg e2, if_neg (by omega)]
                  clear hR
                  go_wp2
                  go_roundw
                  case rel => exact ⟨x + 1, by omega, by go_num, HN.out⟩
                  case measure => simp [intOf]; omega
          · have hw1 : IntKind.i64.wrap ((x : Int) - (r : Int)) = (x : Int) - (r : Int) := by rw [IntKind.wrap_i64]; omega
            have hA1 : ¬ (0 : Int) < (x : Int) - (r : Int) := by omega
            have s3 : ¬ rc = 0 := by omega
            by_cases hB : xr < rn
            · have hB1 : (xr : Int) < (rn : Int) := by omega
              have s1 : (0 : Int) ≤ (xr : Int) := by omega
              have s2 : (xr : Int) ≤ (rc : Int) := by omega
              clear hxr
              go_wp2
              have hxr := HXR.out
              have HLN : Hid (xr = hiN rn r x - loN r x ∧ ro = ro + loN r x ∧ loN r x + xr ≤ rn) := by
                have h1 := lohi (r := r) hlt2
                unfold Hid hiN loN
                unfold hiN loN at h1
                refine ⟨?_, ?_, ?_⟩
                · split <;> omega
                · omega
                · split at h1 <;> omega
              clear hxr
              go_loopw [53] (fun i wr => ∃ (j : Nat), j ≤ xr ∧ i = .int .i64 j ∧ Hid (∃ L vs, GVP wr w.heap.size g1 n n rn (k + 1) L vs ∧ (∀ y x, y < k → x < rn → at2W L y x = acG ls rn r y x) ∧ (∀ m, m < rn → at2W L k m = if m < x then acG ls rn r k m else if m = x then sgm (fun i => at2W ls k (loN r x + i)) j else 0) ∧ Below w.heap.size w wr)) (fun i _ => xr - (intOf i).toNat)
              case atStart =>
                obtain ⟨L, vs, h1, h2, h3, h4⟩ := hR.out
                exact ⟨0, Nat.zero_le _, rfl, L, vs, h1, h2, fun m hm => by rw [h3 m hm]; by_cases e : m < x <;> simp [e, sgm], h4⟩
              case round =>
                clear hR
                obtain ⟨j, hj, rfl, hR⟩ := hrel
                by_cases hlt3 : j < xr
                · obtain ⟨L, vs, hG, h2, h3, hbl⟩ := hR.out
                  obtain ⟨gj, cj, hrk, c0, hgl, hgjl, hBj, hBg, hne, hcells⟩ := hG.at (show k < k + 1 by omega)
                  obtain ⟨rg', ro', he, hrg, d0⟩ := rd_at (HRW.out.1.below hbl) (show loN r x + j < rn by have := HLN.out.2.2; omega)
                  injection he with he
                  injection he with he1 he2
                  subst he1 he2
                  obtain ⟨v, hv⟩ : ∃ v, v = (ls.getD k []).getD (loN r x + j) 0 := ⟨_, rfl⟩
                  rw [← hv, show ro + (loN r x + j) = ro + j by have := HLN.out.2.1; omega] at d0
                  obtain ⟨e0, f0⟩ := hcells x hlt2
                  obtain ⟨S, hS⟩ : ∃ S, S = sgm (fun i => at2W ls k (loN r x + i)) j := ⟨_, rfl⟩
                  have hLx : at2W L k x = S := by rw [h3 x hlt2, if_neg (by omega), if_pos rfl, hS]
                  rw [hLx] at e0
                  have hvb := HI.out.2.1 k (loN r x + j)
                  unfold at2W at hvb
                  rw [← hv] at hvb
                  have hSb := sgm_bd (p := fun i => at2W ls k (loN r x + i)) (c := 40000) (fun i => HI.out.2.1 _ _) j
                  rw [← hS] at hSb
                  have hjb : j ≤ 24 := by have := HLN.out.2.2; omega
                  have hw9 : IntKind.i64.wrap (S + v) = S + v := by rw [IntKind.wrap_i64]; omega
                  have HN : Hid (∃ L vs, GVP (wr.setCell ⟨gj, x, none⟩ (.int .i64 (S + v))) w.heap.size g1 n n rn (k + 1) L vs ∧ (∀ y x, y < k → x < rn → at2W L y x = acG ls rn r y x) ∧ (∀ m, m < rn → at2W L k m = if m < x then acG ls rn r k m else if m = x then sgm (fun i => at2W ls k (loN r x + i)) (j + 1) else 0) ∧ Below w.heap.size w (wr.setCell ⟨gj, x, none⟩ (.int .i64 (S + v)))) := by
                    refine ⟨set2W L k x (S + v), vs, hG.set (by omega) hrk x (S + v), fun y q hy hq => ?_, fun m hm => ?_, hG.bel (by omega) hrk x (S + v) hbl⟩
                    · rw [hG.at2 (by omega) hlt2, if_neg (by omega)]; exact h2 y q hy hq
                    · rw [hG.at2 (by omega) hlt2]
                      by_cases e : m = x
                      · rw [if_pos ⟨rfl, e⟩, e, if_neg (by omega), if_pos rfl, sgm, ← hS, hv]; rfl
                      · rw [if_neg (fun q => e q.2), h3 m hm]
                        by_cases e2 : m < x
                        · rw [if_pos e2, if_pos e2]
                        · rw [if_neg e2, if_neg e2, if_neg e, if_neg e]
                  have i0 : (0 : Int) ≤ (j : Int) := by omega
                  have i1 : (j : Int) < (xr : Int) := by omega
                  clear hR hG h2 h3 hbl hrk hcells hLx hv hS hvb hSb hBj hBg hne
                  go_wp2
                  go_roundw
                  case rel => exact ⟨j + 1, by omega, by go_num, HN.out⟩
                  case measure => simp [intOf]; omega
                · have HN : Hid (∃ L vs, GVP wr w.heap.size g1 n n rn (k + 1) L vs ∧ (∀ y x, y < k → x < rn → at2W L y x = acG ls rn r y x) ∧ (∀ m, m < rn → at2W L k m = if m < x + 1 then acG ls rn r k m else 0) ∧ Below w.heap.size w wr) := by
                    obtain ⟨L, vs, hG, h2, h3, hbl⟩ := hR.out
                    refine ⟨L, vs, hG, h2, fun m hm => ?_, hbl⟩
                    rw [h3 m hm]
                    by_cases e : m < x
                    · rw [if_pos e, if_pos (by omega)]
                    · rw [if_neg e]
                      by_cases e2 : m = x
                      · rw [if_pos e2, if_pos (by omega), e2]
                        unfold acG nrS
                        rw [show j = hiN rn r x - loN r x by have := HLN.out.1; omega]
                      · rw [if_neg e2, if_neg (by omega)]
                  clear hR
                  go_wp2
                  go_roundw
                  case rel => exact ⟨x + 1, by omega, by go_num, HN.out⟩
                  case measure => simp [intOf]; omega
            · have hB1 : ¬ (xr : Int) < (rn : Int) := by omega
              have s1 : (0 : Int) ≤ (rn : Int) := by omega
              have s2 : (rn : Int) ≤ (rc : Int) := by omega
              clear hxr
              go_wp2
              have hxr := HXR.out
              have HLN : Hid (rn = hiN rn r x - loN r x ∧ ro = ro + loN r x ∧ loN r x + rn ≤ rn) := by
                have h1 := lohi (r := r) hlt2
                unfold Hid hiN loN
                unfold hiN loN at h1
                refine ⟨?_, ?_, ?_⟩
                · split <;> omega
                · omega
                · split at h1 <;> omega
              clear hxr
              go_loopw [53] (fun i wr => ∃ (j : Nat), j ≤ rn ∧ i = .int .i64 j ∧ Hid (∃ L vs, GVP wr w.heap.size g1 n n rn (k + 1) L vs ∧ (∀ y x, y < k → x < rn → at2W L y x = acG ls rn r y x) ∧ (∀ m, m < rn → at2W L k m = if m < x then acG ls rn r k m else if m = x then sgm (fun i => at2W ls k (loN r x + i)) j else 0) ∧ Below w.heap.size w wr)) (fun i _ => rn - (intOf i).toNat)
              case atStart =>
                obtain ⟨L, vs, h1, h2, h3, h4⟩ := hR.out
                exact ⟨0, Nat.zero_le _, rfl, L, vs, h1, h2, fun m hm => by rw [h3 m hm]; by_cases e : m < x <;> simp [e, sgm], h4⟩
              case round =>
                clear hR
                obtain ⟨j, hj, rfl, hR⟩ := hrel
                by_cases hlt3 : j < rn
                · obtain ⟨L, vs, hG, h2, h3, hbl⟩ := hR.out
                  obtain ⟨gj, cj, hrk, c0, hgl, hgjl, hBj, hBg, hne, hcells⟩ := hG.at (show k < k + 1 by omega)
                  obtain ⟨rg', ro', he, hrg, d0⟩ := rd_at (HRW.out.1.below hbl) (show loN r x + j < rn by have := HLN.out.2.2; omega)
                  injection he with he
                  injection he with he1 he2
                  subst he1 he2
                  obtain ⟨v, hv⟩ : ∃ v, v = (ls.getD k []).getD (loN r x + j) 0 := ⟨_, rfl⟩
                  rw [← hv, show ro + (loN r x + j) = ro + j by have := HLN.out.2.1; omega] at d0
                  obtain ⟨e0, f0⟩ := hcells x hlt2
                  obtain ⟨S, hS⟩ : ∃ S, S = sgm (fun i => at2W ls k (loN r x + i)) j := ⟨_, rfl⟩
                  have hLx : at2W L k x = S := by rw [h3 x hlt2, if_neg (by omega), if_pos rfl, hS]
                  rw [hLx] at e0
                  have hvb := HI.out.2.1 k (loN r x + j)
                  unfold at2W at hvb
                  rw [← hv] at hvb
                  have hSb := sgm_bd (p := fun i => at2W ls k (loN r x + i)) (c := 40000) (fun i => HI.out.2.1 _ _) j
                  rw [← hS] at hSb
                  have hjb : j ≤ 24 := by have := HLN.out.2.2; omega
                  have hw9 : IntKind.i64.wrap (S + v) = S + v := by rw [IntKind.wrap_i64]; omega
                  have HN : Hid (∃ L vs, GVP (wr.setCell ⟨gj, x, none⟩ (.int .i64 (S + v))) w.heap.size g1 n n rn (k + 1) L vs ∧ (∀ y x, y < k → x < rn → at2W L y x = acG ls rn r y x) ∧ (∀ m, m < rn → at2W L k m = if m < x then acG ls rn r k m else if m = x then sgm (fun i => at2W ls k (loN r x + i)) (j + 1) else 0) ∧ Below w.heap.size w (wr.setCell ⟨gj, x, none⟩ (.int .i64 (S + v)))) := by
                    refine ⟨set2W L k x (S + v), vs, hG.set (by omega) hrk x (S + v), fun y q hy hq => ?_, fun m hm => ?_, hG.bel (by omega) hrk x (S + v) hbl⟩
                    · rw [hG.at2 (by omega) hlt2, if_neg (by omega)]; exact h2 y q hy hq
                    · rw [hG.at2 (by omega) hlt2]
                      by_cases e : m = x
                      · rw [if_pos ⟨rfl, e⟩, e, if_neg (by omega), if_pos rfl, sgm, ← hS, hv]; rfl
                      · rw [if_neg (fun q => e q.2), h3 m hm]
                        by_cases e2 : m < x
                        · rw [if_pos e2, if_pos e2]
                        · rw [if_neg e2, if_neg e2, if_neg e, if_neg e]
                  have i0 : (0 : Int) ≤ (j : Int) := by omega
                  have i1 : (j : Int) < (rn : Int) := by omega
                  clear hR hG h2 h3 hbl hrk hcells hLx hv hS hvb hSb hBj hBg hne
                  go_wp2
                  go_roundw
                  case rel => exact ⟨j + 1, by omega, by go_num, HN.out⟩
                  case measure => simp [intOf]; omega
                · have HN : Hid (∃ L vs, GVP wr w.heap.size g1 n n rn (k + 1) L vs ∧ (∀ y x, y < k → x < rn → at2W L y x = acG ls rn r y x) ∧ (∀ m, m < rn → at2W L k m = if m < x + 1 then acG ls rn r k m else 0) ∧ Below w.heap.size w wr) := by
                    obtain ⟨L, vs, hG, h2, h3, hbl⟩ := hR.out
                    refine ⟨L, vs, hG, h2, fun m hm => ?_, hbl⟩
                    rw [h3 m hm]
                    by_cases e : m < x
                    · rw [if_pos e, if_pos (by omega)]
                    · rw [if_neg e]
                      by_cases e2 : m = x
                      · rw [if_pos e2, if_pos (by omega), e2]
                        unfold acG nrS
                        rw [show j = hiN rn r x - loN r x by have := HLN.out.1; omega]
                      · rw [if_neg e2, if_neg (by omega)]
                  clear hR
                  go_wp2
                  go_roundw
                  case rel => exact ⟨x + 1, by omega, by go_num, HN.out⟩
                  case measure => simp [intOf]; omega
        · have HN : Hid (∃ L vs, GVP wr w.heap.size g1 n n rn (k + 1) L vs ∧ (∀ y x, y < k + 1 → x < rn → at2W L y x = acG ls rn r y x) ∧ Below w.heap.size w wr) := by
            obtain ⟨L, vs, hG, h2, h3, hbl⟩ := hR.out
            refine ⟨L, vs, hG, fun y q hy hq => ?_, hbl⟩
            by_cases e : y = k
            · rw [e, h3 q hq, if_pos (by omega)]
            · exact h2 y q (by omega) hq
          clear hR
          go_wp2
          go_roundw
          case rel => exact ⟨k + 1, by omega, by go_num, HN.out⟩
          case measure => simp [intOf]; omega
    · have hkn : k = n := by omega
      subst hkn
      obtain ⟨L1, vs1, hG1, hL1, hbl1⟩ := hR.out
      obtain ⟨w4, hw4⟩ : ∃ x, x = wr := ⟨_, rfl⟩
      subst hw4
      obtain ⟨n, hnk⟩ : ∃ n, n = k := ⟨_, rfl⟩
      subst hnk
      have HAC : Hid (RdC w4 (.slice (some ⟨g1, 0, none⟩) n n) L1 ∧ ShW n W L1 ∧ (∀ y x, y < n → x < W → at2W L1 y x = acG ls W r y x) ∧ Below w.heap.size w w4) := ⟨hG1.ri.rdc, ⟨hG1.len, fun j hj => hG1.wd j hj⟩, hL1, hbl1⟩
      clear hR hG1 hL1 hbl1
      go_wp2_with (at_make; refine wpList_make_full _ rfl _ _ 64 rfl w4.heap.size 29 i0 (.slice none 0 0) 1 Try.underlying64 hi0 hz0 hz1 _ _ _ _ n rfl rfl rfl rfl (by rw [hz2]; omega) (by unfold maxLen; omega) (Nat.le_refl _) ?_; intro w5 hown5 hgrow5)
      have hb5 : Below w4.heap.size w4 w5 := (Below.refl _ _).grown hgrow5 (Nat.le_refl _) (fun k h => by cases h)
      obtain ⟨g2, hg2⟩ : ∃ g, g = w4.heap.size := ⟨_, rfl⟩
      have HS : Hid (∃ L vs, GVP w5 w4.heap.size g2 n n W 0 L vs ∧ (∀ y x, y < 0 → x < W → at2W L y x = smG ls n W r y x) ∧ Below w4.heap.size w4 w5) := by
        rw [hg2]
        obtain ⟨vs, hv⟩ := made_rows (g := w4.heap.size) hown5 hW0
        exact ⟨_, vs, hv, fun y x hy => by omega, hb5⟩
      rw [← hg2]
      clear hown5 hgrow5 hb5 hg2
      go_loopw [75] (fun i wr => ∃ (k : Nat), k ≤ n ∧ i = .int .i64 k ∧ Hid (∃ L vs, GVP wr w4.heap.size g2 n n W k L vs ∧ (∀ y x, y < k → x < W → at2W L y x = smG ls n W r y x) ∧ Below w4.heap.size w4 wr)) (fun i _ => n - (intOf i).toNat)
      case atStart => exact ⟨0, Nat.zero_le _, rfl, HS.out⟩
      case round =>
        clear HS
        obtain ⟨k, hk, rfl, hR⟩ := hrel
        by_cases hlt : k < n
        · obtain ⟨L, vs, hG, hL, hbl⟩ := hR.out
          have hblw := HAC.out.2.2.2.trans (hbl.mono HAC.out.2.2.2.size)
          obtain ⟨g', o', ra, rn, rc, he, hg9, a0, hrn, hrd⟩ := (HI.out.2.2.below hblw).1.at hlt
          injection he with he
          injection he with he1 he2
          subst he1 he2
          rw [HI.out.1.wd k hlt] at hrn
          rw [hrn] at a0
          have hGl : g2 < wr.heap.size ∧ w4.heap.size ≤ wr.heap.size ∧ w4.heap.size ≤ g2 := by
            obtain ⟨g2', _, he, hBq, hl, _⟩ := hG.ri.pos (by rw [hG.len]; omega)
            injection he with he
            injection he with he
            injection he with he
            rw [he]; exact ⟨hl, hbl.size, hBq⟩
          have HG : Hid (GVP wr w4.heap.size g2 n n W k L vs ∧ (∀ y x, y < k → x < W → at2W L y x = smG ls n W r y x) ∧ Below w4.heap.size w4 wr) := ⟨hG, hL, hbl⟩
          clear hR hG hL hbl hrd hblw hrn
          have b0 : (0 : Int) ≤ (k : Int) := by omega
          have b1 : (k : Int) < (n : Int) := by omega
          go_upto_region 21 with (at_make; refine wpList_make_full _ rfl _ _ 29 rfl wr.heap.size 2 i1 (.int .i64 0) 1 Try.underlying29 hi1 hy0 hy1 _ _ _ _ W rfl rfl rfl rfl (by rw [hy2]; omega) (by unfold maxLen; omega) (Nat.le_refl _) ?_; intro w3 hown3 hgrow3; obtain ⟨c5, f5, g5⟩ : (∃ d, w3.cell? ⟨g2, k, none⟩ = some d) ∧ w3.frozen? ⟨g2, k, none⟩ = false ∧ g2 < w3.heap.size := (by have hb3 : Below wr.heap.size wr w3 := (Below.refl _ _).grown hgrow3 (Nat.le_refl _) (fun k h => by cases h); exact row_slot (HG.out.1.below hb3) hlt); obtain ⟨d5, c5⟩ := c5)
          obtain ⟨gr, hgr⟩ : ∃ g, g = wr.heap.size := ⟨_, rfl⟩
          have HS : Hid (∃ L vs, GVP (w3.setCell ⟨g2, k, none⟩ (.slice (some ⟨gr, 0, none⟩) W W)) w4.heap.size g2 n n W (k + 1) L vs ∧ (∀ y x, y < k → x < W → at2W L y x = smG ls n W r y x) ∧ (∀ m, m < W → at2W L k m = sgm (fun i => acG ls W r (loN r k + i) m) 0) ∧ Below w4.heap.size w4 (w3.setCell ⟨g2, k, none⟩ (.slice (some ⟨gr, 0, none⟩) W W))) := by
            have hb3 : Below wr.heap.size wr w3 := (Below.refl _ _).grown hgrow3 (Nat.le_refl _) (fun k h => by cases h)
            have hu := made_row hown3
            rw [← hgr] at hu
            obtain ⟨m1, m2, m3⟩ := HG.out.1.more hlt hb3 hGl.2.1 (u := .slice (some ⟨gr, 0, none⟩) W W) (by rw [← hgr]; exact hu)
            exact ⟨_, _, m1, fun y x hy hx => by rw [m2 y x hy]; exact HG.out.2.1 y x hy hx, fun m _ => by rw [m3]; rfl, (HG.out.2.2.trans (hb3.mono HG.out.2.2.size)).setCell hGl.2.2 _⟩
          rw [← hgr]
          clear hown3 hgrow3 HG c5 f5 g5 hgr a0 hg9 hGl d5
          generalize w3.setCell ⟨g2, k, none⟩ (.slice (some ⟨gr, 0, none⟩) W W) = V3 at HS ⊢
          have hw2 : IntKind.i64.wrap ((k : Int) + (r : Int)) = (k : Int) + (r : Int) := by rw [IntKind.wrap_i64]; omega
          obtain ⟨kr, hkr⟩ : ∃ q, q = k + r + 1 := ⟨_, rfl⟩
          have hw3 : IntKind.i64.wrap ((k : Int) + (r : Int) + 1) = (kr : Int) := by rw [IntKind.wrap_i64]; omega
          have HKR : Hid (kr = k + r + 1) := hkr
          by_cases hA : r < k
          · have hw1 : IntKind.i64.wrap ((k : Int) - (r : Int)) = ((k - r : Nat) : Int) := by rw [IntKind.wrap_i64]; omega
            have hA1 : (0 : Int) < ((k - r : Nat) : Int) := by omega
            have s3 : ¬ n = k - r := by omega
            by_cases hB : kr < n
            · have hB1 : (kr : Int) < (n : Int) := by omega
              have s1 : ((k - r : Nat) : Int) ≤ (kr : Int) := by omega
              have s2 : (kr : Int) ≤ (n : Int) := by omega
              clear hkr
              go_wp2
              have hkr := HKR.out
              obtain ⟨ln, hln⟩ : ∃ l, l = kr - (k - r) := ⟨_, rfl⟩
              rw [← hln]
              have HLN : Hid (ln = hiN n r k - loN r k ∧ loN r k + ln ≤ n) := by
                have h1 := lohi (r := r) hlt
                unfold Hid hiN loN
                unfold hiN loN at h1
                refine ⟨?_, ?_⟩
                · rw [hln]; split <;> omega
                · rw [hln]; split at h1 <;> omega
              clear hln hkr
              go_loopw [100] (fun i wr => ∃ (j : Nat), j ≤ ln ∧ i = .int .i64 j ∧ Hid (∃ L vs, GVP wr w4.heap.size g2 n n W (k + 1) L vs ∧ (∀ y x, y < k → x < W → at2W L y x = smG ls n W r y x) ∧ (∀ m, m < W → at2W L k m = sgm (fun i => acG ls W r (loN r k + i) m) j) ∧ Below w4.heap.size w4 wr)) (fun i _ => ln - (intOf i).toNat)
              case atStart => exact ⟨0, Nat.zero_le _, rfl, HS.out⟩
              case round =>
                clear HS
                obtain ⟨j, hj, rfl, hR⟩ := hrel
                by_cases hlt3 : j < ln
                · have hlj : loN r k + j < n := by have := HLN.out.2; omega
                  obtain ⟨L, vs, hG, h2, h3, hbl⟩ := hR.out
                  obtain ⟨g3, o3, ua, un, uc, he, hg3, a0, hun, hrd⟩ := (HAC.out.1.1.below hbl).at hlj
                  injection he with he
                  injection he with he1 he2
                  subst he1 he2
                  rw [HAC.out.2.1.wd _ hlj] at hun
                  subst hun
                  rw [show 0 + (loN r k + j) = (k - r) + j by unfold loN; omega] at a0
                  obtain ⟨ag, ao, rfl, hag, _⟩ := rd_at hrd hW0
                  have HRD : Hid (RdI w4 (.slice (some ⟨ag, ao, none⟩) un uc) (L1.getD (loN r k + j) [])) := by
                    obtain ⟨g5, o5, ra5, rn5, rc5, e5, hg5, a5, hn5, hd5⟩ := HAC.out.1.1.at hlj
                    injection e5 with e5
                    injection e5 with e6 e7
                    subst e6 e7
                    rw [show (k - r) + j = 0 + (loN r k + j) by unfold loN; omega, hbl.cell (p := ⟨g1, 0 + (loN r k + j), none⟩) hg5, a5] at a0
                    injection a0 with a0
                    injection a0 with e8 e9 e10
                    subst e8 e9 e10
                    exact hd5
                  have i2 : (0 : Int) ≤ (j : Int) := by omega
                  have i3 : (j : Int) < (ln : Int) := by omega
                  have HR6 : Hid (∃ L vs, GVP wr w4.heap.size g2 n n un (k + 1) L vs ∧ (∀ y x, y < k → x < un → at2W L y x = smG ls n un r y x) ∧ (∀ m, m < un → at2W L k m = sgm (fun i => acG ls un r (loN r k + i) m) (if m < 0 then j + 1 else j)) ∧ Below w4.heap.size w4 wr) := ⟨L, vs, hG, h2, fun m hm => by rw [if_neg (by omega)]; exact h3 m hm, hbl⟩
                  clear hR hG h2 h3 hbl hrd
                  go_wp2
                  clear a0 hg3 hag
                  go_loopw [106] (fun i wr => ∃ (x : Nat), x ≤ un ∧ i = .int .i64 x ∧ Hid (∃ L vs, GVP wr w4.heap.size g2 n n un (k + 1) L vs ∧ (∀ y x, y < k → x < un → at2W L y x = smG ls n un r y x) ∧ (∀ m, m < un → at2W L k m = sgm (fun i => acG ls un r (loN r k + i) m) (if m < x then j + 1 else j)) ∧ Below w4.heap.size w4 wr)) (fun i _ => un - (intOf i).toNat)
                  case atStart => exact ⟨0, Nat.zero_le _, rfl, HR6.out⟩
                  case round =>
                    clear HR6
                    obtain ⟨x, hx, rfl, hR⟩ := hrel
                    by_cases hlt6 : x < un
                    · obtain ⟨L, vs, hG, h2, h3, hbl⟩ := hR.out
                      obtain ⟨gj, cj, hrk, c0, hgl, hgjl, hBj, hBg, hne, hcells⟩ := hG.at (show k < k + 1 by omega)
                      obtain ⟨ag', ao', he, hag, d0⟩ := rd_at (HRD.out.below hbl) hlt6
                      injection he with he
                      injection he with he1 he2
                      subst he1 he2
                      have hv : at2W L1 (loN r k + j) x = acG ls un r (loN r k + j) x := HAC.out.2.2.1 _ _ hlj hlt6
                      obtain ⟨v, hv2⟩ : ∃ v, v = acG ls un r (loN r k + j) x := ⟨_, rfl⟩
                      rw [show (L1.getD (loN r k + j) []).getD x 0 = v by rw [hv2]; exact hv] at d0
                      obtain ⟨e0, f0⟩ := hcells x hlt6
                      obtain ⟨S, hS⟩ : ∃ S, S = sgm (fun i => acG ls un r (loN r k + i) x) j := ⟨_, rfl⟩
                      have hLx : at2W L k x = S := by rw [h3 x hlt6, if_neg (by omega), hS]
                      rw [hLx] at e0
                      have hac : ∀ y, 0 ≤ acG ls un r y x ∧ acG ls un r y x ≤ 960000 := fun y => by
                        have h9 := nrS_bd (g := at2W ls y) (c := 40000) (fun m => HI.out.2.1 y m) (r := r) hlt6 (by omega)
                        unfold acG
                        refine ⟨h9.1, Int.le_trans h9.2 ?_⟩
                        omega
                      have hvb := hac (loN r k + j)
                      rw [← hv2] at hvb
                      have hSb := sgm_bd (p := fun i => acG ls un r (loN r k + i) x) (c := 960000) (fun i => hac _) j
                      rw [← hS] at hSb
                      have hjb : j ≤ 24 := by omega
                      have hw9 : IntKind.i64.wrap (S + v) = S + v := by rw [IntKind.wrap_i64]; omega
                      have HN : Hid (∃ L vs, GVP (wr.setCell ⟨gj, x, none⟩ (.int .i64 (S + v))) w4.heap.size g2 n n un (k + 1) L vs ∧ (∀ y x, y < k → x < un → at2W L y x = smG ls n un r y x) ∧ (∀ m, m < un → at2W L k m = sgm (fun i => acG ls un r (loN r k + i) m) (if m < x + 1 then j + 1 else j)) ∧ Below w4.heap.size w4 (wr.setCell ⟨gj, x, none⟩ (.int .i64 (S + v)))) := by
                        refine ⟨set2W L k x (S + v), vs, hG.set (by omega) hrk x (S + v), fun y q hy hq => ?_, fun m hm => ?_, hG.bel (by omega) hrk x (S + v) hbl⟩
                        · rw [hG.at2 (by omega) hlt6, if_neg (by omega)]; exact h2 y q hy hq
                        · rw [hG.at2 (by omega) hlt6]
                          by_cases e : m = x
                          · rw [if_pos ⟨rfl, e⟩, e, if_pos (by omega), sgm, ← hS, ← hv2]
                          · rw [if_neg (fun q => e q.2), h3 m hm]
                            by_cases e2 : m < x
                            · rw [if_pos e2, if_pos (by omega)]
                            · rw [if_neg e2, if_neg (by omega)]
                      have i4 : (0 : Int) ≤ (x : Int) := by omega
                      have i5 : (x : Int) < (un : Int) := by omega
                      clear hR hG h2 h3 hbl hrk hcells hLx hv hv2 hS hvb hSb hBj hBg hne hac
                      go_wp2
                      go_roundw
                      case rel => exact ⟨x + 1, by omega, by go_num, HN.out⟩
                      case measure => simp [intOf]; omega
                    · have HN : Hid (∃ L vs, GVP wr w4.heap.size g2 n n un (k + 1) L vs ∧ (∀ y x, y < k → x < un → at2W L y x = smG ls n un r y x) ∧ (∀ m, m < un → at2W L k m = sgm (fun i => acG ls un r (loN r k + i) m) (j + 1)) ∧ Below w4.heap.size w4 wr) := by
                        obtain ⟨L, vs, hG, h2, h3, hbl⟩ := hR.out
                        exact ⟨L, vs, hG, h2, fun m hm => by rw [h3 m hm, if_pos (by omega)], hbl⟩
                      clear hR
                      go_wp2
                      go_roundw
                      case rel => exact ⟨j + 1, by omega, by go_num, HN.out⟩
                      case measure => simp [intOf]; omega
                · have HN : Hid (∃ L vs, GVP wr w4.heap.size g2 n n W (k + 1) L vs ∧ (∀ y x, y < k + 1 → x < W → at2W L y x = smG ls n W r y x) ∧ Below w4.heap.size w4 wr) := by
                    obtain ⟨L, vs, hG, h2, h3, hbl⟩ := hR.out
                    refine ⟨L, vs, hG, fun y x hy hx => ?_, hbl⟩
                    by_cases e : y = k
                    · rw [e, h3 x hx]
                      unfold smG nrS
                      rw [show j = hiN n r k - loN r k by have := HLN.out.1; omega]
                    · exact h2 y x (by omega) hx
                  clear hR
                  go_wp2
                  go_roundw
                  case rel => exact ⟨k + 1, by omega, by go_num, HN.out⟩
                  case measure => simp [intOf]; omega
            · have hB1 : ¬ (kr : Int) < (n : Int) := by omega
              have s1 : ((k - r : Nat) : Int) ≤ (n : Int) := by omega
              clear hkr
              go_wp2
              have hkr := HKR.out
              obtain ⟨ln, hln⟩ : ∃ l, l = n - (k - r) := ⟨_, rfl⟩
              rw [← hln]
              have HLN : Hid (ln = hiN n r k - loN r k ∧ loN r k + ln ≤ n) := by
                have h1 := lohi (r := r) hlt
                unfold Hid hiN loN
                unfold hiN loN at h1
                refine ⟨?_, ?_⟩
                · rw [hln]; split <;> omega
                · rw [hln]; split at h1 <;> omega
              clear hln hkr
              go_loopw [100] (fun i wr => ∃ (j : Nat), j ≤ ln ∧ i = .int .i64 j ∧ Hid (∃ L vs, GVP wr w4.heap.size g2 n n W (k + 1) L vs ∧ (∀ y x, y < k → x < W → at2W L y x = smG ls n W r y x) ∧ (∀ m, m < W → at2W L k m = sgm (fun i => acG ls W r (loN r k + i) m) j) ∧ Below w4.heap.size w4 wr)) (fun i _ => ln - (intOf i).toNat)
              case atStart => exact ⟨0, Nat.zero_le _, rfl, HS.out⟩
              case round =>
                clear HS
                obtain ⟨j, hj, rfl, hR⟩ := hrel
                by_cases hlt3 : j < ln
                · have hlj : loN r k + j < n := by have := HLN.out.2; omega
                  obtain ⟨L, vs, hG, h2, h3, hbl⟩ := hR.out
                  obtain ⟨g3, o3, ua, un, uc, he, hg3, a0, hun, hrd⟩ := (HAC.out.1.1.below hbl).at hlj
                  injection he with he
                  injection he with he1 he2
                  subst he1 he2
                  rw [HAC.out.2.1.wd _ hlj] at hun
                  subst hun
                  rw [show 0 + (loN r k + j) = (k - r) + j by unfold loN; omega] at a0
                  obtain ⟨ag, ao, rfl, hag, _⟩ := rd_at hrd hW0
                  have HRD : Hid (RdI w4 (.slice (some ⟨ag, ao, none⟩) un uc) (L1.getD (loN r k + j) [])) := by
                    obtain ⟨g5, o5, ra5, rn5, rc5, e5, hg5, a5, hn5, hd5⟩ := HAC.out.1.1.at hlj
                    injection e5 with e5
                    injection e5 with e6 e7
                    subst e6 e7
                    rw [show (k - r) + j = 0 + (loN r k + j) by unfold loN; omega, hbl.cell (p := ⟨g1, 0 + (loN r k + j), none⟩) hg5, a5] at a0
                    injection a0 with a0
                    injection a0 with e8 e9 e10
                    subst e8 e9 e10
                    exact hd5
                  have i2 : (0 : Int) ≤ (j : Int) := by omega
                  have i3 : (j : Int) < (ln : Int) := by omega
                  have HR6 : Hid (∃ L vs, GVP wr w4.heap.size g2 n n un (k + 1) L vs ∧ (∀ y x, y < k → x < un → at2W L y x = smG ls n un r y x) ∧ (∀ m, m < un → at2W L k m = sgm (fun i => acG ls un r (loN r k + i) m) (if m < 0 then j + 1 else j)) ∧ Below w4.heap.size w4 wr) := ⟨L, vs, hG, h2, fun m hm => by rw [if_neg (by omega)]; exact h3 m hm, hbl⟩
                  clear hR hG h2 h3 hbl hrd
                  go_wp2
                  clear a0 hg3 hag
                  go_loopw [106] (fun i wr => ∃ (x : Nat), x ≤ un ∧ i = .int .i64 x ∧ Hid (∃ L vs, GVP wr w4.heap.size g2 n n un (k + 1) L vs ∧ (∀ y x, y < k → x < un → at2W L y x = smG ls n un r y x) ∧ (∀ m, m < un → at2W L k m = sgm (fun i => acG ls un r (loN r k + i) m) (if m < x then j + 1 else j)) ∧ Below w4.heap.size w4 wr)) (fun i _ => un - (intOf i).toNat)
                  case atStart => exact ⟨0, Nat.zero_le _, rfl, HR6.out⟩
                  case round =>
                    clear HR6
                    obtain ⟨x, hx, rfl, hR⟩ := hrel
                    by_cases hlt6 : x < un
                    · obtain ⟨L, vs, hG, h2, h3, hbl⟩ := hR.out
                      obtain ⟨gj, cj, hrk, c0, hgl, hgjl, hBj, hBg, hne, hcells⟩ := hG.at (show k < k + 1 by omega)
                      obtain ⟨ag', ao', he, hag, d0⟩ := rd_at (HRD.out.below hbl) hlt6
                      injection he with he
                      injection he with he1 he2
                      subst he1 he2
                      have hv : at2W L1 (loN r k + j) x = acG ls un r (loN r k + j) x := HAC.out.2.2.1 _ _ hlj hlt6
                      obtain ⟨v, hv2⟩ : ∃ v, v = acG ls un r (loN r k + j) x := ⟨_, rfl⟩
                      rw [show (L1.getD (loN r k + j) []).getD x 0 = v by rw [hv2]; exact hv] at d0
                      obtain ⟨e0, f0⟩ := hcells x hlt6
                      obtain ⟨S, hS⟩ : ∃ S, S = sgm (fun i => acG ls un r (loN r k + i) x) j := ⟨_, rfl⟩
                      have hLx : at2W L k x = S := by rw [h3 x hlt6, if_neg (by omega), hS]
                      rw [hLx] at e0
                      have hac : ∀ y, 0 ≤ acG ls un r y x ∧ acG ls un r y x ≤ 960000 := fun y => by
                        have h9 := nrS_bd (g := at2W ls y) (c := 40000) (fun m => HI.out.2.1 y m) (r := r) hlt6 (by omega)
                        unfold acG
                        refine ⟨h9.1, Int.le_trans h9.2 ?_⟩
                        omega
                      have hvb := hac (loN r k + j)
                      rw [← hv2] at hvb
                      have hSb := sgm_bd (p := fun i => acG ls un r (loN r k + i) x) (c := 960000) (fun i => hac _) j
                      rw [← hS] at hSb
                      have hjb : j ≤ 24 := by omega
                      have hw9 : IntKind.i64.wrap (S + v) = S + v := by rw [IntKind.wrap_i64]; omega
                      have HN : Hid (∃ L vs, GVP (wr.setCell ⟨gj, x, none⟩ (.int .i64 (S + v))) w4.heap.size g2 n n un (k + 1) L vs ∧ (∀ y x, y < k → x < un → at2W L y x = smG ls n un r y x) ∧ (∀ m, m < un → at2W L k m = sgm (fun i => acG ls un r (loN r k + i) m) (if m < x + 1 then j + 1 else j)) ∧ Below w4.heap.size w4 (wr.setCell ⟨gj, x, none⟩ (.int .i64 (S + v)))) := by
                        refine ⟨set2W L k x (S + v), vs, hG.set (by omega) hrk x (S + v), fun y q hy hq => ?_, fun m hm => ?_, hG.bel (by omega) hrk x (S + v) hbl⟩
                        · rw [hG.at2 (by omega) hlt6, if_neg (by omega)]; exact h2 y q hy hq
                        · rw [hG.at2 (by omega) hlt6]
                          by_cases e : m = x
                          · rw [if_pos ⟨rfl, e⟩, e, if_pos (by omega), sgm, ← hS, ← hv2]
                          · rw [if_neg (fun q => e q.2), h3 m hm]
                            by_cases e2 : m < x
                            · rw [if_pos e2, if_pos (by omega)]
                            · rw [if_neg e2, if_neg (by omega)]
                      have i4 : (0 : Int) ≤ (x : Int) := by omega
                      have i5 : (x : Int) < (un : Int) := by omega
                      clear hR hG h2 h3 hbl hrk hcells hLx hv hv2 hS hvb hSb hBj hBg hne hac
                      go_wp2
                      go_roundw
                      case rel => exact ⟨x + 1, by omega, by go_num, HN.out⟩
                      case measure => simp [intOf]; omega
                    · have HN : Hid (∃ L vs, GVP wr w4.heap.size g2 n n un (k + 1) L vs ∧ (∀ y x, y < k → x < un → at2W L y x = smG ls n un r y x) ∧ (∀ m, m < un → at2W L k m = sgm (fun i => acG ls un r (loN r k + i) m) (j + 1)) ∧ Below w4.heap.size w4 wr) := by
                        obtain ⟨L, vs, hG, h2, h3, hbl⟩ := hR.out
                        exact ⟨L, vs, hG, h2, fun m hm => by rw [h3 m hm, if_pos (by omega)], hbl⟩
                      clear hR
                      go_wp2
                      go_roundw
                      case rel => exact ⟨j + 1, by omega, by go_num, HN.out⟩
                      case measure => simp [intOf]; omega
                · have HN : Hid (∃ L vs, GVP wr w4.heap.size g2 n n W (k + 1) L vs ∧ (∀ y x, y < k + 1 → x < W → at2W L y x = smG ls n W r y x) ∧ Below w4.heap.size w4 wr) := by
                    obtain ⟨L, vs, hG, h2, h3, hbl⟩ := hR.out
                    refine ⟨L, vs, hG, fun y x hy hx => ?_, hbl⟩
                    by_cases e : y = k
                    · rw [e, h3 x hx]
                      unfold smG nrS
                      rw [show j = hiN n r k - loN r k by have := HLN.out.1; omega]
                    · exact h2 y x (by omega) hx
                  clear hR
                  go_wp2
                  go_roundw
                  case rel => exact ⟨k + 1, by omega, by go_num, HN.out⟩
                  case measure => simp [intOf]; omega
          · have hw1 : IntKind.i64.wrap ((k : Int) - (r : Int)) = (k : Int) - (r : Int) := by rw [IntKind.wrap_i64]; omega
            have hA1 : ¬ (0 : Int) < (k : Int) - (r : Int) := by omega
            have s3 : ¬ n = 0 := by omega
            by_cases hB : kr < n
            · have hB1 : (kr : Int) < (n : Int) := by omega
              have s1 : (0 : Int) ≤ (kr : Int) := by omega
              have s2 : (kr : Int) ≤ (n : Int) := by omega
              clear hkr
              go_wp2
              have hkr := HKR.out
              have HLN : Hid (kr = hiN n r k - loN r k ∧ loN r k + kr ≤ n) := by
                have h1 := lohi (r := r) hlt
                unfold Hid hiN loN
                unfold hiN loN at h1
                refine ⟨?_, ?_⟩
                · split <;> omega
                · split at h1 <;> omega
              clear hkr
              go_loopw [100] (fun i wr => ∃ (j : Nat), j ≤ kr ∧ i = .int .i64 j ∧ Hid (∃ L vs, GVP wr w4.heap.size g2 n n W (k + 1) L vs ∧ (∀ y x, y < k → x < W → at2W L y x = smG ls n W r y x) ∧ (∀ m, m < W → at2W L k m = sgm (fun i => acG ls W r (loN r k + i) m) j) ∧ Below w4.heap.size w4 wr)) (fun i _ => kr - (intOf i).toNat)
              case atStart => exact ⟨0, Nat.zero_le _, rfl, HS.out⟩
              case round =>
                clear HS
                obtain ⟨j, hj, rfl, hR⟩ := hrel
                by_cases hlt3 : j < kr
                · have hlj : loN r k + j < n := by have := HLN.out.2; omega
                  obtain ⟨L, vs, hG, h2, h3, hbl⟩ := hR.out
                  obtain ⟨g3, o3, ua, un, uc, he, hg3, a0, hun, hrd⟩ := (HAC.out.1.1.below hbl).at hlj
                  injection he with he
                  injection he with he1 he2
                  subst he1 he2
                  rw [HAC.out.2.1.wd _ hlj] at hun
                  subst hun
                  rw [show 0 + (loN r k + j) = j by unfold loN; omega] at a0
                  obtain ⟨ag, ao, rfl, hag, _⟩ := rd_at hrd hW0
                  have HRD : Hid (RdI w4 (.slice (some ⟨ag, ao, none⟩) un uc) (L1.getD (loN r k + j) [])) := by
                    obtain ⟨g5, o5, ra5, rn5, rc5, e5, hg5, a5, hn5, hd5⟩ := HAC.out.1.1.at hlj
                    injection e5 with e5
                    injection e5 with e6 e7
                    subst e6 e7
                    rw [show j = 0 + (loN r k + j) by unfold loN; omega, hbl.cell (p := ⟨g1, 0 + (loN r k + j), none⟩) hg5, a5] at a0
                    injection a0 with a0
                    injection a0 with e8 e9 e10
                    subst e8 e9 e10
                    exact hd5
                  have i2 : (0 : Int) ≤ (j : Int) := by omega
                  have i3 : (j : Int) < (kr : Int) := by omega
                  have HR6 : Hid (∃ L vs, GVP wr w4.heap.size g2 n n un (k + 1) L vs ∧ (∀ y x, y < k → x < un → at2W L y x = smG ls n un r y x) ∧ (∀ m, m < un → at2W L k m = sgm (fun i => acG ls un r (loN r k + i) m) (if m < 0 then j + 1 else j)) ∧ Below w4.heap.size w4 wr) := ⟨L, vs, hG, h2, fun m hm => by rw [if_neg (by omega)]; exact h3 m hm, hbl⟩
                  clear hR hG h2 h3 hbl hrd
                  go_wp2
                  clear a0 hg3 hag
                  go_loopw [106] (fun i wr => ∃ (x : Nat), x ≤ un ∧ i = .int .i64 x ∧ Hid (∃ L vs, GVP wr w4.heap.size g2 n n un (k + 1) L vs ∧ (∀ y x, y < k → x < un → at2W L y x = smG ls n un r y x) ∧ (∀ m, m < un → at2W L k m = sgm (fun i => acG ls un r (loN r k + i) m) (if m < x then j + 1 else j)) ∧ Below w4.heap.size w4 wr)) (fun i _ => un - (intOf i).toNat)
                  case atStart => exact ⟨0, Nat.zero_le _, rfl, HR6.out⟩
                  case round =>
                    clear HR6
                    obtain ⟨x, hx, rfl, hR⟩ := hrel
                    by_cases hlt6 : x < un
                    · obtain ⟨L, vs, hG, h2, h3, hbl⟩ := hR.out
                      obtain ⟨gj, cj, hrk, c0, hgl, hgjl, hBj, hBg, hne, hcells⟩ := hG.at (show k < k + 1 by omega)
                      obtain ⟨ag', ao', he, hag, d0⟩ := rd_at (HRD.out.below hbl) hlt6
                      injection he with he
                      injection he with he1 he2
                      subst he1 he2
                      have hv : at2W L1 (loN r k + j) x = acG ls un r (loN r k + j) x := HAC.out.2.2.1 _ _ hlj hlt6
                      obtain ⟨v, hv2⟩ : ∃ v, v = acG ls un r (loN r k + j) x := ⟨_, rfl⟩
                      rw [show (L1.getD (loN r k + j) []).getD x 0 = v by rw [hv2]; exact hv] at d0
                      obtain ⟨e0, f0⟩ := hcells x hlt6
                      obtain ⟨S, hS⟩ : ∃ S, S = sgm (fun i => acG ls un r (loN r k + i) x) j := ⟨_, rfl⟩
                      have hLx : at2W L k x = S := by rw [h3 x hlt6, if_neg (by omega), hS]
                      rw [hLx] at e0
                      have hac : ∀ y, 0 ≤ acG ls un r y x ∧ acG ls un r y x ≤ 960000 := fun y => by
                        have h9 := nrS_bd (g := at2W ls y) (c := 40000) (fun m => HI.out.2.1 y m) (r := r) hlt6 (by omega)
                        unfold acG
                        refine ⟨h9.1, Int.le_trans h9.2 ?_⟩
                        omega
                      have hvb := hac (loN r k + j)
                      rw [← hv2] at hvb
                      have hSb := sgm_bd (p := fun i => acG ls un r (loN r k + i) x) (c := 960000) (fun i => hac _) j
                      rw [← hS] at hSb
                      have hjb : j ≤ 24 := by omega
                      have hw9 : IntKind.i64.wrap (S + v) = S + v := by rw [IntKind.wrap_i64]; omega
                      have HN : Hid (∃ L vs, GVP (wr.setCell ⟨gj, x, none⟩ (.int .i64 (S + v))) w4.heap.size g2 n n un (k + 1) L vs ∧ (∀ y x, y < k → x < un → at2W L y x = smG ls n un r y x) ∧ (∀ m, m < un → at2W L k m = sgm (fun i => acG ls un r (loN r k + i) m) (if m < x + 1 then j + 1 else j)) ∧ Below w4.heap.size w4 (wr.setCell ⟨gj, x, none⟩ (.int .i64 (S + v)))) := by
                        refine ⟨set2W L k x (S + v), vs, hG.set (by omega) hrk x (S + v), fun y q hy hq => ?_, fun m hm => ?_, hG.bel (by omega) hrk x (S + v) hbl⟩
                        · rw [hG.at2 (by omega) hlt6, if_neg (by omega)]; exact h2 y q hy hq
                        · rw [hG.at2 (by omega) hlt6]
                          by_cases e : m = x
                          · rw [if_pos ⟨rfl, e⟩, e, if_pos (by omega), sgm, ← hS, ← hv2]
                          · rw [if_neg (fun q => e q.2), h3 m hm]
                            by_cases e2 : m < x
                            · rw [if_pos e2, if_pos (by omega)]
                            · rw [if_neg e2, if_neg (by omega)]
                      have i4 : (0 : Int) ≤ (x : Int) := by omega
                      have i5 : (x : Int) < (un : Int) := by omega
                      clear hR hG h2 h3 hbl hrk hcells hLx hv hv2 hS hvb hSb hBj hBg hne hac
                      go_wp2
                      go_roundw
                      case rel => exact ⟨x + 1, by omega, by go_num, HN.out⟩
                      case measure => simp [intOf]; omega
                    · have HN : Hid (∃ L vs, GVP wr w4.heap.size g2 n n un (k + 1) L vs ∧ (∀ y x, y < k → x < un → at2W L y x = smG ls n un r y x) ∧ (∀ m, m < un → at2W L k m = sgm (fun i => acG ls un r (loN r k + i) m) (j + 1)) ∧ Below w4.heap.size w4 wr) := by
                        obtain ⟨L, vs, hG, h2, h3, hbl⟩ := hR.out
                        exact ⟨L, vs, hG, h2, fun m hm => by rw [h3 m hm, if_pos (by omega)], hbl⟩
                      clear hR
                      go_wp2
                      go_roundw
                      case rel => exact ⟨j + 1, by omega, by go_num, HN.out⟩
                      case measure => simp [intOf]; omega
                · have HN : Hid (∃ L vs, GVP wr w4.heap.size g2 n n W (k + 1) L vs ∧ (∀ y x, y < k + 1 → x < W → at2W L y x = smG ls n W r y x) ∧ Below w4.heap.size w4 wr) := by
                    obtain ⟨L, vs, hG, h2, h3, hbl⟩ := hR.out
                    refine ⟨L, vs, hG, fun y x hy hx => ?_, hbl⟩
                    by_cases e : y = k
                    · rw [e, h3 x hx]
                      unfold smG nrS
                      rw [show j = hiN n r k - loN r k by have := HLN.out.1; omega]
                    · exact h2 y x (by omega) hx
                  clear hR
                  go_wp2
                  go_roundw
                  case rel => exact ⟨k + 1, by omega, by go_num, HN.out⟩
                  case measure => simp [intOf]; omega
            · have hB1 : ¬ (kr : Int) < (n : Int) := by omega
              have s1 : (0 : Int) ≤ (n : Int) := by omega
              clear hkr
              go_wp2
              have hkr := HKR.out
              have HLN : Hid (n = hiN n r k - loN r k ∧ loN r k + n ≤ n) := by
                have h1 := lohi (r := r) hlt
                unfold Hid hiN loN
                unfold hiN loN at h1
                refine ⟨?_, ?_⟩
                · split <;> omega
                · split at h1 <;> omega
              clear hkr
              go_loopw [100] (fun i wr => ∃ (j : Nat), j ≤ n ∧ i = .int .i64 j ∧ Hid (∃ L vs, GVP wr w4.heap.size g2 n n W (k + 1) L vs ∧ (∀ y x, y < k → x < W → at2W L y x = smG ls n W r y x) ∧ (∀ m, m < W → at2W L k m = sgm (fun i => acG ls W r (loN r k + i) m) j) ∧ Below w4.heap.size w4 wr)) (fun i _ => n - (intOf i).toNat)
              case atStart => exact ⟨0, Nat.zero_le _, rfl, HS.out⟩
              case round =>
                clear HS
                obtain ⟨j, hj, rfl, hR⟩ := hrel
                by_cases hlt3 : j < n
                · have hlj : loN r k + j < n := by have := HLN.out.2; omega
                  obtain ⟨L, vs, hG, h2, h3, hbl⟩ := hR.out
                  obtain ⟨g3, o3, ua, un, uc, he, hg3, a0, hun, hrd⟩ := (HAC.out.1.1.below hbl).at hlj
                  injection he with he
                  injection he with he1 he2
                  subst he1 he2
                  rw [HAC.out.2.1.wd _ hlj] at hun
                  subst hun
                  rw [show 0 + (loN r k + j) = j by unfold loN; omega] at a0
                  obtain ⟨ag, ao, rfl, hag, _⟩ := rd_at hrd hW0
                  have HRD : Hid (RdI w4 (.slice (some ⟨ag, ao, none⟩) un uc) (L1.getD (loN r k + j) [])) := by
                    obtain ⟨g5, o5, ra5, rn5, rc5, e5, hg5, a5, hn5, hd5⟩ := HAC.out.1.1.at hlj
                    injection e5 with e5
                    injection e5 with e6 e7
                    subst e6 e7
                    rw [show j = 0 + (loN r k + j) by unfold loN; omega, hbl.cell (p := ⟨g1, 0 + (loN r k + j), none⟩) hg5, a5] at a0
                    injection a0 with a0
                    injection a0 with e8 e9 e10
                    subst e8 e9 e10
                    exact hd5
                  have i2 : (0 : Int) ≤ (j : Int) := by omega
                  have i3 : (j : Int) < (n : Int) := by omega
                  have HR6 : Hid (∃ L vs, GVP wr w4.heap.size g2 n n un (k + 1) L vs ∧ (∀ y x, y < k → x < un → at2W L y x = smG ls n un r y x) ∧ (∀ m, m < un → at2W L k m = sgm (fun i => acG ls un r (loN r k + i) m) (if m < 0 then j + 1 else j)) ∧ Below w4.heap.size w4 wr) := ⟨L, vs, hG, h2, fun m hm => by rw [if_neg (by omega)]; exact h3 m hm, hbl⟩
                  clear hR hG h2 h3 hbl hrd
                  go_wp2
                  clear a0 hg3 hag
                  go_loopw [106] (fun i wr => ∃ (x : Nat), x ≤ un ∧ i = .int .i64 x ∧ Hid (∃ L vs, GVP wr w4.heap.size g2 n n un (k + 1) L vs ∧ (∀ y x, y < k → x < un → at2W L y x = smG ls n un r y x) ∧ (∀ m, m < un → at2W L k m = sgm (fun i => acG ls un r (loN r k + i) m) (if m < x then j + 1 else j)) ∧ Below w4.heap.size w4 wr)) (fun i _ => un - (intOf i).toNat)
                  case atStart => exact ⟨0, Nat.zero_le _, rfl, HR6.out⟩
                  case round =>
                    clear HR6
                    obtain ⟨x, hx, rfl, hR⟩ := hrel
                    by_cases hlt6 : x < un
                    · obtain ⟨L, vs, hG, h2, h3, hbl⟩ := hR.out
                      obtain ⟨gj, cj, hrk, c0, hgl, hgjl, hBj, hBg, hne, hcells⟩ := hG.at (show k < k + 1 by omega)
                      obtain ⟨ag', ao', he, hag, d0⟩ := rd_at (HRD.out.below hbl) hlt6
                      injection he with he
                      injection he with he1 he2
                      subst he1 he2
                      have hv : at2W L1 (loN r k + j) x = acG ls un r (loN r k + j) x := HAC.out.2.2.1 _ _ hlj hlt6
                      obtain ⟨v, hv2⟩ : ∃ v, v = acG ls un r (loN r k + j) x := ⟨_, rfl⟩
                      rw [show (L1.getD (loN r k + j) []).getD x 0 = v by rw [hv2]; exact hv] at d0
                      obtain ⟨e0, f0⟩ := hcells x hlt6
                      obtain ⟨S, hS⟩ : ∃ S, S = sgm (fun i => acG ls un r (loN r k + i) x) j := ⟨_, rfl⟩
                      have hLx : at2W L k x = S := by rw [h3 x hlt6, if_neg (by omega), hS]
                      rw [hLx] at e0
                      have hac : ∀ y, 0 ≤ acG ls un r y x ∧ acG ls un r y x ≤ 960000 := fun y => by
                        have h9 := nrS_bd (g := at2W ls y) (c := 40000) (fun m => HI.out.2.1 y m) (r := r) hlt6 (by omega)
                        unfold acG
                        refine ⟨h9.1, Int.le_trans h9.2 ?_⟩
                        omega
                      have hvb := hac (loN r k + j)
                      rw [← hv2] at hvb
                      have hSb := sgm_bd (p := fun i => acG ls un r (loN r k + i) x) (c := 960000) (fun i => hac _) j
                      rw [← hS] at hSb
                      have hjb : j ≤ 24 := by omega
                      have hw9 : IntKind.i64.wrap (S + v) = S + v := by rw [IntKind.wrap_i64]; omega
                      have HN : Hid (∃ L vs, GVP (wr.setCell ⟨gj, x, none⟩ (.int .i64 (S + v))) w4.heap.size g2 n n un (k + 1) L vs ∧ (∀ y x, y < k → x < un → at2W L y x = smG ls n un r y x) ∧ (∀ m, m < un → at2W L k m = sgm (fun i => acG ls un r (loN r k + i) m) (if m < x + 1 then j + 1 else j)) ∧ Below w4.heap.size w4 (wr.setCell ⟨gj, x, none⟩ (.int .i64 (S + v)))) := by
                        refine ⟨set2W L k x (S + v), vs, hG.set (by omega) hrk x (S + v), fun y q hy hq => ?_, fun m hm => ?_, hG.bel (by omega) hrk x (S + v) hbl⟩
                        · rw [hG.at2 (by omega) hlt6, if_neg (by omega)]; exact h2 y q hy hq
                        · rw [hG.at2 (by omega) hlt6]
                          by_cases e : m = x
                          · rw [if_pos ⟨rfl, e⟩, e, if_pos (by omega), sgm, ← hS, ← hv2]
                          · rw [if_neg (fun q => e q.2), h3 m hm]
                            by_cases e2 : m < x
                            · rw [if_pos e2, if_pos (by omega)]
                            · rw [if_neg e2, if_neg (by omega)]
                      have i4 : (0 : Int) ≤ (x : Int) := by omega
                      have i5 : (x : Int) < (un : Int) := by omega
                      clear hR hG h2 h3 hbl hrk hcells hLx hv hv2 hS hvb hSb hBj hBg hne hac
                      go_wp2
                      go_roundw
                      case rel => exact ⟨x + 1, by omega, by go_num, HN.out⟩
                      case measure => simp [intOf]; omega
                    · have HN : Hid (∃ L vs, GVP wr w4.heap.size g2 n n un (k + 1) L vs ∧ (∀ y x, y < k → x < un → at2W L y x = smG ls n un r y x) ∧ (∀ m, m < un → at2W L k m = sgm (fun i => acG ls un r (loN r k + i) m) (j + 1)) ∧ Below w4.heap.size w4 wr) := by
                        obtain ⟨L, vs, hG, h2, h3, hbl⟩ := hR.out
                        exact ⟨L, vs, hG, h2, fun m hm => by rw [h3 m hm, if_pos (by omega)], hbl⟩
                      clear hR
                      go_wp2
                      go_roundw
                      case rel => exact ⟨j + 1, by omega, by go_num, HN.out⟩
                      case measure => simp [intOf]; omega
                · have HN : Hid (∃ L vs, GVP wr w4.heap.size g2 n n W (k + 1) L vs ∧ (∀ y x, y < k + 1 → x < W → at2W L y x = smG ls n W r y x) ∧ Below w4.heap.size w4 wr) := by
                    obtain ⟨L, vs, hG, h2, h3, hbl⟩ := hR.out
                    refine ⟨L, vs, hG, fun y x hy hx => ?_, hbl⟩
                    by_cases e : y = k
                    · rw [e, h3 x hx]
                      unfold smG nrS
                      rw [show j = hiN n r k - loN r k by have := HLN.out.1; omega]
                    · exact h2 y x (by omega) hx
                  clear hR
                  go_wp2
                  go_roundw
                  case rel => exact ⟨k + 1, by omega, by go_num, HN.out⟩
                  case measure => simp [intOf]; omega
        · have HE : Hid (∃ L vs, RI wr w.heap.size (.slice (some ⟨g2, 0, none⟩) n n) L vs ∧ ShW n W L ∧ (∀ y x, y < n → x < W → at2W L y x = smG ls n W r y x) ∧ Below w.heap.size w wr) := by
            obtain ⟨L, vs, hG, h2, hbl⟩ := hR.out
            rw [show k = n by omega] at hG h2
            exact ⟨L, vs, hG.ri.low HAC.out.2.2.2.size, ⟨hG.len, fun j hj => hG.wd j hj⟩, h2, HAC.out.2.2.2.trans (hbl.mono HAC.out.2.2.2.size)⟩
          clear hR
          go_wp2
          go_returns
          obtain ⟨L, vs, h1, h2, h3, h4⟩ := HE.out
          exact ⟨_, vs, L, rfl, h1, h2, h3, h4⟩

end Go.Proofs.Ytmpbcdolikafpaa
