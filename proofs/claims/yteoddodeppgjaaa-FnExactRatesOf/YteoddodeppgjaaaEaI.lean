/- Proved here: each number of a grid turned by a closure, of the program. -/
import Derived.Test.YteoddodeppgjaaaCpI
import Derived.Test.YteoddodeppgjaaaGvM
namespace Go.Proofs.Yteoddodeppgjaaa
open Go.RowKit
set_option linter.unusedVariables false
set_option linter.unusedSimpArgs false

set_option maxRecDepth 10000 in
set_option maxHeartbeats 6400000 in
theorem impl_eachCut {M : Int} {w : World} {v : Value} {ls : List (List Int)} (p0 : Value) (T : Int → Int) (hG : GG M ls) (h : RdR w v ls) (hf : ∀ W x, Below w.heap.size w W → 0 ≤ x → x ≤ M → Calls Try.prog 39 #[.int .i64 x, p0] W fun e w' => e = .returned (.int .i64 (T x)) ∧ Below W.heap.size W w') :
    Calls Try.prog 38 #[v, .func (Fn.func 39) #[] #[p0]] w fun e w' => ∃ v' vs, e = .returned v' ∧ RI w' w.heap.size v' (tnL T ls) vs ∧ Below w.heap.size w w' := by
  obtain ⟨a, c, rfl⟩ := h.form
  obtain ⟨n, hnn⟩ : ∃ n, n = ls.length := ⟨_, rfl⟩
  obtain ⟨wd, hwd⟩ : ∃ n, n = (ls.getD 0 []).length := ⟨_, rfl⟩
  have HG : Hid (GG M ls ∧ n = ls.length ∧ Sh n wd ls) := ⟨hG, hnn, by rw [hnn, hwd]; exact hG.sh⟩
  have hn16 : n ≤ 16 := by rw [hnn]; exact hG.h1
  have hw16 : wd ≤ 16 := by rw [hwd]; exact hG.w1
  have hw0 : 0 < wd := by rw [hwd]; exact hG.w0
  have HC : Hid (Calls Try.prog 54 #[.slice a n c] w fun e w' => ∃ g vs, e = .returned (.slice (some ⟨g, 0, none⟩) n n) ∧ RI w' w.heap.size (.slice (some ⟨g, 0, none⟩) n n) ls vs ∧ Below w.heap.size w w') := by
    rw [← hnn] at h
    have := impl_copied hG h
    rw [← hnn] at this
    exact this
  rw [← hnn]
  have HF : Hid (∀ W x, Below w.heap.size w W → 0 ≤ x → x ≤ M → Calls Try.prog 39 #[.int .i64 x, p0] W fun e w' => e = .returned (.int .i64 (T x)) ∧ Below W.heap.size W w') := hf
  clear h hG hnn hwd hf
  go_enter Try.func38, Try.ntmps38
  go_wp2_with (fail)
  refine HC.out.mono ?_
  rintro e w1 ⟨g, vs, rfl, hri, hb1⟩
  have HS : Hid (GV w1 w.heap.size g n n wd ls vs ∧ Below w.heap.size w w1) := ⟨⟨hri, HG.out.2.2, hw0⟩, hb1⟩
  clear hri hb1 HC
  go_wp2
  go_loopw [14] (fun i wr => ∃ (k : Nat), k ≤ n ∧ i = .int .i64 k ∧ Hid (∃ L, GV wr w.heap.size g n n wd L vs ∧ (∀ j m, j < n → m < wd → at2 L j m = if j < k then T (at2 ls j m) else at2 ls j m) ∧ Below w.heap.size w wr)) (fun i _ => n - (intOf i).toNat)
  case atStart => exact ⟨0, Nat.zero_le _, rfl, ls, HS.out.1, fun j m _ _ => by rw [if_neg (by omega)], HS.out.2⟩
  case round =>
    clear HS
    obtain ⟨k, hk, rfl, hR⟩ := hrel
    by_cases hlt : k < n
    · obtain ⟨L, hGV, hL, hbl⟩ := hR.out
      obtain ⟨gk, ck, hrk, c0, hgl, hgkl, hBk, hBg, hne, hcells⟩ := hGV.at hlt
      have HR : Hid (rat vs k = .slice (some ⟨gk, 0, none⟩) wd ck ∧ ∃ L, GV wr w.heap.size g n n wd L vs ∧ (∀ j m, j < n → m < wd → at2 L j m = if j < k ∨ (j = k ∧ m < 0) then T (at2 ls j m) else at2 ls j m) ∧ Below w.heap.size w wr) := ⟨hrk, L, hGV, fun j m hj hm => by rw [hL j m hj hm]; by_cases e : j < k <;> simp [e], hbl⟩
      clear hGV hL hbl hR hcells hrk hBk hBg hne
      have b0 : (0 : Int) ≤ (k : Int) := by omega
      have b1 : (k : Int) < (n : Int) := by omega
      go_wp2
      clear c0 hgl hgkl
      go_loopw [20] (fun i wr => ∃ (q : Nat), q ≤ wd ∧ i = .int .i64 q ∧ Hid (rat vs k = .slice (some ⟨gk, 0, none⟩) wd ck ∧ ∃ L, GV wr w.heap.size g n n wd L vs ∧ (∀ j m, j < n → m < wd → at2 L j m = if j < k ∨ (j = k ∧ m < q) then T (at2 ls j m) else at2 ls j m) ∧ Below w.heap.size w wr)) (fun i _ => wd - (intOf i).toNat)
      case atStart => exact ⟨0, Nat.zero_le _, rfl, HR.out⟩
      case round =>
        clear HR
        obtain ⟨q, hq, rfl, hR⟩ := hrel
        by_cases hlt2 : q < wd
        · obtain ⟨hrk, L, hGV, hL, hbl⟩ := hR.out
          obtain ⟨gk', ck', hrk', c0, hgl, hgkl, hBk, hBg, hne, hcells⟩ := hGV.at hlt
          rw [hrk] at hrk'
          injection hrk' with e1 e2 e3
          injection e1 with e4
          injection e4 with e5
          subst e5
          have d0 := (hcells q hlt2).1
          have hL0 := hL k q hlt hlt2
          rw [if_neg (by omega)] at hL0
          obtain ⟨x, hx⟩ : ∃ x, x = at2 L k q := ⟨_, rfl⟩
          rw [← hx] at d0 hL0
          have hxb := HG.out.1.at k q
          have hxm : (ls.getD k []).getD q 0 ≤ M := by
            have hkl : k < ls.length := by rw [← HG.out.2.1]; exact hlt
            have hql : q < (ls.getD k []).length := by rw [HG.out.2.2.wd k hlt]; exact hlt2
            exact (HG.out.1.nu (ls.getD k []) (by rw [getD_lt hkl]; exact List.getElem_mem _) _ (by rw [getD_lt hql]; exact List.getElem_mem _)).2
          unfold at2 at hL0
          rw [← hL0] at hxb hxm
          have HX : Hid (x = at2 ls k q) := hL0
          have HS : Hid (rat vs k = .slice (some ⟨gk, 0, none⟩) wd ck ∧ GV wr w.heap.size g n n wd L vs ∧ (∀ j m, j < n → m < wd → at2 L j m = if j < k ∨ (j = k ∧ m < q) then T (at2 ls j m) else at2 ls j m) ∧ Below w.heap.size w wr) := ⟨hrk, hGV, hL, hbl⟩
          have HC : Hid (Calls Try.prog 39 #[.int .i64 x, p0] wr fun e w' => e = .returned (.int .i64 (T x)) ∧ Below wr.heap.size wr w') := HF.out wr x hbl hxb.1 hxm
          clear hR hrk hGV hL hbl hx hL0 hxb hxm hcells hBk hBg hne c0 hgl e2 e3
          have b2 : (0 : Int) ≤ (q : Int) := by omega
          have b3 : (q : Int) < (wd : Int) := by omega
          go_wp2_with (fail)
          refine HC.out.mono ?_
          rintro e w5 ⟨rfl, hb5⟩
          clear d0 hgkl
          have HS5 : Hid (GV w5 w.heap.size g n n wd L vs ∧ Below w.heap.size w w5) := ⟨HS.out.2.1.below hb5, HS.out.2.2.2.trans (hb5.mono HS.out.2.2.2.size)⟩
          obtain ⟨gk', ck', hrk', c0, hgl, hgkl, hBk, hBg, hne, hcells⟩ := HS5.out.1.at hlt
          rw [HS.out.1] at hrk'
          injection hrk' with e1 e2 e3
          injection e1 with e4
          injection e4 with e5
          subst e5
          obtain ⟨d0, d1⟩ := hcells q hlt2
          obtain ⟨y, hy⟩ : ∃ y, y = T x := ⟨_, rfl⟩
          have HP : Hid (rat vs k = .slice (some ⟨gk, 0, none⟩) wd ck ∧ ∃ L, GV (w5.setCell ⟨gk, q, none⟩ (.int .i64 y)) w.heap.size g n n wd L vs ∧ (∀ j m, j < n → m < wd → at2 L j m = if j < k ∨ (j = k ∧ m < q + 1) then T (at2 ls j m) else at2 ls j m) ∧ Below w.heap.size w (w5.setCell ⟨gk, q, none⟩ (.int .i64 y))) := by
            refine ⟨HS.out.1, set2 L k q y, HS5.out.1.set hlt HS.out.1 q y, fun j m hj hm => ?_, HS5.out.1.bel hlt HS.out.1 q y HS5.out.2⟩
            rw [at2_set2 HS5.out.1.sh hlt hlt2]
            by_cases e : j = k ∧ m = q
            · rw [if_pos e, if_pos (by omega), hy, HX.out, e.1, e.2]
            · rw [if_neg e, HS.out.2.2.1 j m hj hm]
              by_cases e2 : j < k ∨ (j = k ∧ m < q)
              · rw [if_pos e2, if_pos (by omega)]
              · rw [if_neg e2, if_neg (by omega)]
          rw [← hy]
          generalize at2 L k q = old at d0
          clear HS HS5 HC hb5 hcells hBk hBg hne c0 hgl e2 e3 hy HX
          go_wp2
          go_roundw
          case rel => exact ⟨q + 1, by omega, by go_num, HP.out⟩
          case measure => simp [intOf]; omega
        · have HP : Hid (∃ L, GV wr w.heap.size g n n wd L vs ∧ (∀ j m, j < n → m < wd → at2 L j m = if j < k + 1 then T (at2 ls j m) else at2 ls j m) ∧ Below w.heap.size w wr) := by
            obtain ⟨_, L, h1, h2, h3⟩ := hR.out
            refine ⟨L, h1, fun j m hj hm => ?_, h3⟩
            rw [h2 j m hj hm]
            by_cases e : j < k + 1
            · rw [if_pos (by omega), if_pos e]
            · rw [if_neg (by omega), if_neg e]
          clear hR
          go_wp2
          go_roundw
          case rel => exact ⟨k + 1, by omega, by go_num, HP.out⟩
          case measure => simp [intOf]; omega
    · have HP : Hid (RI wr w.heap.size (.slice (some ⟨g, 0, none⟩) n n) (tnL T ls) vs ∧ Below w.heap.size w wr) := by
        obtain ⟨L, h1, h2, h3⟩ := hR.out
        refine ⟨?_, h3⟩
        have e : L = tnL T ls := grid_ext h1.sh (tnL_sh HG.out.2.2) fun j m hj hm => by
          rw [h2 j m hj hm, if_pos (by omega), tnL_at HG.out.2.2 hj hm]
        rw [← e]
        exact h1.ri
      clear hR
      go_wp2
      go_returns
      exact ⟨_, vs, rfl, HP.out.1, HP.out.2⟩

set_option maxRecDepth 10000 in
set_option maxHeartbeats 6400000 in
theorem impl_eachOpen {M : Int} {w : World} {v : Value} {ls : List (List Int)} (p0 : Value) (T : Int → Int) (hG : GG M ls) (h : RdR w v ls) (hf : ∀ W x, Below w.heap.size w W → 0 ≤ x → x ≤ M → Calls Try.prog 46 #[.int .i64 x, p0] W fun e w' => e = .returned (.int .i64 (T x)) ∧ Below W.heap.size W w') :
    Calls Try.prog 38 #[v, .func (Fn.func 46) #[] #[p0]] w fun e w' => ∃ v' vs, e = .returned v' ∧ RI w' w.heap.size v' (tnL T ls) vs ∧ Below w.heap.size w w' := by
  obtain ⟨a, c, rfl⟩ := h.form
  obtain ⟨n, hnn⟩ : ∃ n, n = ls.length := ⟨_, rfl⟩
  obtain ⟨wd, hwd⟩ : ∃ n, n = (ls.getD 0 []).length := ⟨_, rfl⟩
  have HG : Hid (GG M ls ∧ n = ls.length ∧ Sh n wd ls) := ⟨hG, hnn, by rw [hnn, hwd]; exact hG.sh⟩
  have hn16 : n ≤ 16 := by rw [hnn]; exact hG.h1
  have hw16 : wd ≤ 16 := by rw [hwd]; exact hG.w1
  have hw0 : 0 < wd := by rw [hwd]; exact hG.w0
  have HC : Hid (Calls Try.prog 54 #[.slice a n c] w fun e w' => ∃ g vs, e = .returned (.slice (some ⟨g, 0, none⟩) n n) ∧ RI w' w.heap.size (.slice (some ⟨g, 0, none⟩) n n) ls vs ∧ Below w.heap.size w w') := by
    rw [← hnn] at h
    have := impl_copied hG h
    rw [← hnn] at this
    exact this
  rw [← hnn]
  have HF : Hid (∀ W x, Below w.heap.size w W → 0 ≤ x → x ≤ M → Calls Try.prog 46 #[.int .i64 x, p0] W fun e w' => e = .returned (.int .i64 (T x)) ∧ Below W.heap.size W w') := hf
  clear h hG hnn hwd hf
  go_enter Try.func38, Try.ntmps38
  go_wp2_with (fail)
  refine HC.out.mono ?_
  rintro e w1 ⟨g, vs, rfl, hri, hb1⟩
  have HS : Hid (GV w1 w.heap.size g n n wd ls vs ∧ Below w.heap.size w w1) := ⟨⟨hri, HG.out.2.2, hw0⟩, hb1⟩
  clear hri hb1 HC
  go_wp2
  go_loopw [14] (fun i wr => ∃ (k : Nat), k ≤ n ∧ i = .int .i64 k ∧ Hid (∃ L, GV wr w.heap.size g n n wd L vs ∧ (∀ j m, j < n → m < wd → at2 L j m = if j < k then T (at2 ls j m) else at2 ls j m) ∧ Below w.heap.size w wr)) (fun i _ => n - (intOf i).toNat)
  case atStart => exact ⟨0, Nat.zero_le _, rfl, ls, HS.out.1, fun j m _ _ => by rw [if_neg (by omega)], HS.out.2⟩
  case round =>
    clear HS
    obtain ⟨k, hk, rfl, hR⟩ := hrel
    by_cases hlt : k < n
    · obtain ⟨L, hGV, hL, hbl⟩ := hR.out
      obtain ⟨gk, ck, hrk, c0, hgl, hgkl, hBk, hBg, hne, hcells⟩ := hGV.at hlt
      have HR : Hid (rat vs k = .slice (some ⟨gk, 0, none⟩) wd ck ∧ ∃ L, GV wr w.heap.size g n n wd L vs ∧ (∀ j m, j < n → m < wd → at2 L j m = if j < k ∨ (j = k ∧ m < 0) then T (at2 ls j m) else at2 ls j m) ∧ Below w.heap.size w wr) := ⟨hrk, L, hGV, fun j m hj hm => by rw [hL j m hj hm]; by_cases e : j < k <;> simp [e], hbl⟩
      clear hGV hL hbl hR hcells hrk hBk hBg hne
      have b0 : (0 : Int) ≤ (k : Int) := by omega
      have b1 : (k : Int) < (n : Int) := by omega
      go_wp2
      clear c0 hgl hgkl
      go_loopw [20] (fun i wr => ∃ (q : Nat), q ≤ wd ∧ i = .int .i64 q ∧ Hid (rat vs k = .slice (some ⟨gk, 0, none⟩) wd ck ∧ ∃ L, GV wr w.heap.size g n n wd L vs ∧ (∀ j m, j < n → m < wd → at2 L j m = if j < k ∨ (j = k ∧ m < q) then T (at2 ls j m) else at2 ls j m) ∧ Below w.heap.size w wr)) (fun i _ => wd - (intOf i).toNat)
      case atStart => exact ⟨0, Nat.zero_le _, rfl, HR.out⟩
      case round =>
        clear HR
        obtain ⟨q, hq, rfl, hR⟩ := hrel
        by_cases hlt2 : q < wd
        · obtain ⟨hrk, L, hGV, hL, hbl⟩ := hR.out
          obtain ⟨gk', ck', hrk', c0, hgl, hgkl, hBk, hBg, hne, hcells⟩ := hGV.at hlt
          rw [hrk] at hrk'
          injection hrk' with e1 e2 e3
          injection e1 with e4
          injection e4 with e5
          subst e5
          have d0 := (hcells q hlt2).1
          have hL0 := hL k q hlt hlt2
          rw [if_neg (by omega)] at hL0
          obtain ⟨x, hx⟩ : ∃ x, x = at2 L k q := ⟨_, rfl⟩
          rw [← hx] at d0 hL0
          have hxb := HG.out.1.at k q
          have hxm : (ls.getD k []).getD q 0 ≤ M := by
            have hkl : k < ls.length := by rw [← HG.out.2.1]; exact hlt
            have hql : q < (ls.getD k []).length := by rw [HG.out.2.2.wd k hlt]; exact hlt2
            exact (HG.out.1.nu (ls.getD k []) (by rw [getD_lt hkl]; exact List.getElem_mem _) _ (by rw [getD_lt hql]; exact List.getElem_mem _)).2
          unfold at2 at hL0
          rw [← hL0] at hxb hxm
          have HX : Hid (x = at2 ls k q) := hL0
          have HS : Hid (rat vs k = .slice (some ⟨gk, 0, none⟩) wd ck ∧ GV wr w.heap.size g n n wd L vs ∧ (∀ j m, j < n → m < wd → at2 L j m = if j < k ∨ (j = k ∧ m < q) then T (at2 ls j m) else at2 ls j m) ∧ Below w.heap.size w wr) := ⟨hrk, hGV, hL, hbl⟩
          have HC : Hid (Calls Try.prog 46 #[.int .i64 x, p0] wr fun e w' => e = .returned (.int .i64 (T x)) ∧ Below wr.heap.size wr w') := HF.out wr x hbl hxb.1 hxm
          clear hR hrk hGV hL hbl hx hL0 hxb hxm hcells hBk hBg hne c0 hgl e2 e3
          have b2 : (0 : Int) ≤ (q : Int) := by omega
          have b3 : (q : Int) < (wd : Int) := by omega
          go_wp2_with (fail)
          refine HC.out.mono ?_
          rintro e w5 ⟨rfl, hb5⟩
          clear d0 hgkl
          have HS5 : Hid (GV w5 w.heap.size g n n wd L vs ∧ Below w.heap.size w w5) := ⟨HS.out.2.1.below hb5, HS.out.2.2.2.trans (hb5.mono HS.out.2.2.2.size)⟩
          obtain ⟨gk', ck', hrk', c0, hgl, hgkl, hBk, hBg, hne, hcells⟩ := HS5.out.1.at hlt
          rw [HS.out.1] at hrk'
          injection hrk' with e1 e2 e3
          injection e1 with e4
          injection e4 with e5
          subst e5
          obtain ⟨d0, d1⟩ := hcells q hlt2
          obtain ⟨y, hy⟩ : ∃ y, y = T x := ⟨_, rfl⟩
          have HP : Hid (rat vs k = .slice (some ⟨gk, 0, none⟩) wd ck ∧ ∃ L, GV (w5.setCell ⟨gk, q, none⟩ (.int .i64 y)) w.heap.size g n n wd L vs ∧ (∀ j m, j < n → m < wd → at2 L j m = if j < k ∨ (j = k ∧ m < q + 1) then T (at2 ls j m) else at2 ls j m) ∧ Below w.heap.size w (w5.setCell ⟨gk, q, none⟩ (.int .i64 y))) := by
            refine ⟨HS.out.1, set2 L k q y, HS5.out.1.set hlt HS.out.1 q y, fun j m hj hm => ?_, HS5.out.1.bel hlt HS.out.1 q y HS5.out.2⟩
            rw [at2_set2 HS5.out.1.sh hlt hlt2]
            by_cases e : j = k ∧ m = q
            · rw [if_pos e, if_pos (by omega), hy, HX.out, e.1, e.2]
            · rw [if_neg e, HS.out.2.2.1 j m hj hm]
              by_cases e2 : j < k ∨ (j = k ∧ m < q)
              · rw [if_pos e2, if_pos (by omega)]
              · rw [if_neg e2, if_neg (by omega)]
          rw [← hy]
          generalize at2 L k q = old at d0
          clear HS HS5 HC hb5 hcells hBk hBg hne c0 hgl e2 e3 hy HX
          go_wp2
          go_roundw
          case rel => exact ⟨q + 1, by omega, by go_num, HP.out⟩
          case measure => simp [intOf]; omega
        · have HP : Hid (∃ L, GV wr w.heap.size g n n wd L vs ∧ (∀ j m, j < n → m < wd → at2 L j m = if j < k + 1 then T (at2 ls j m) else at2 ls j m) ∧ Below w.heap.size w wr) := by
            obtain ⟨_, L, h1, h2, h3⟩ := hR.out
            refine ⟨L, h1, fun j m hj hm => ?_, h3⟩
            rw [h2 j m hj hm]
            by_cases e : j < k + 1
            · rw [if_pos (by omega), if_pos e]
            · rw [if_neg (by omega), if_neg e]
          clear hR
          go_wp2
          go_roundw
          case rel => exact ⟨k + 1, by omega, by go_num, HP.out⟩
          case measure => simp [intOf]; omega
    · have HP : Hid (RI wr w.heap.size (.slice (some ⟨g, 0, none⟩) n n) (tnL T ls) vs ∧ Below w.heap.size w wr) := by
        obtain ⟨L, h1, h2, h3⟩ := hR.out
        refine ⟨?_, h3⟩
        have e : L = tnL T ls := grid_ext h1.sh (tnL_sh HG.out.2.2) fun j m hj hm => by
          rw [h2 j m hj hm, if_pos (by omega), tnL_at HG.out.2.2 hj hm]
        rw [← e]
        exact h1.ri
      clear hR
      go_wp2
      go_returns
      exact ⟨_, vs, rfl, HP.out.1, HP.out.2⟩

set_option maxRecDepth 10000 in
set_option maxHeartbeats 6400000 in
theorem impl_eachRate {M : Int} {w : World} {v : Value} {ls : List (List Int)} (p0 p1 : Value) (T : Int → Int) (hG : GG M ls) (h : RdR w v ls) (hf : ∀ W x, Below w.heap.size w W → 0 ≤ x → x ≤ M → Calls Try.prog 45 #[.int .i64 x, p0, p1] W fun e w' => e = .returned (.int .i64 (T x)) ∧ Below W.heap.size W w') :
    Calls Try.prog 38 #[v, .func (Fn.func 45) #[] #[p0, p1]] w fun e w' => ∃ v' vs, e = .returned v' ∧ RI w' w.heap.size v' (tnL T ls) vs ∧ Below w.heap.size w w' := by
  obtain ⟨a, c, rfl⟩ := h.form
  obtain ⟨n, hnn⟩ : ∃ n, n = ls.length := ⟨_, rfl⟩
  obtain ⟨wd, hwd⟩ : ∃ n, n = (ls.getD 0 []).length := ⟨_, rfl⟩
  have HG : Hid (GG M ls ∧ n = ls.length ∧ Sh n wd ls) := ⟨hG, hnn, by rw [hnn, hwd]; exact hG.sh⟩
  have hn16 : n ≤ 16 := by rw [hnn]; exact hG.h1
  have hw16 : wd ≤ 16 := by rw [hwd]; exact hG.w1
  have hw0 : 0 < wd := by rw [hwd]; exact hG.w0
  have HC : Hid (Calls Try.prog 54 #[.slice a n c] w fun e w' => ∃ g vs, e = .returned (.slice (some ⟨g, 0, none⟩) n n) ∧ RI w' w.heap.size (.slice (some ⟨g, 0, none⟩) n n) ls vs ∧ Below w.heap.size w w') := by
    rw [← hnn] at h
    have := impl_copied hG h
    rw [← hnn] at this
    exact this
  rw [← hnn]
  have HF : Hid (∀ W x, Below w.heap.size w W → 0 ≤ x → x ≤ M → Calls Try.prog 45 #[.int .i64 x, p0, p1] W fun e w' => e = .returned (.int .i64 (T x)) ∧ Below W.heap.size W w') := hf
  clear h hG hnn hwd hf
  go_enter Try.func38, Try.ntmps38
  go_wp2_with (fail)
  refine HC.out.mono ?_
  rintro e w1 ⟨g, vs, rfl, hri, hb1⟩
  have HS : Hid (GV w1 w.heap.size g n n wd ls vs ∧ Below w.heap.size w w1) := ⟨⟨hri, HG.out.2.2, hw0⟩, hb1⟩
  clear hri hb1 HC
  go_wp2
  go_loopw [14] (fun i wr => ∃ (k : Nat), k ≤ n ∧ i = .int .i64 k ∧ Hid (∃ L, GV wr w.heap.size g n n wd L vs ∧ (∀ j m, j < n → m < wd → at2 L j m = if j < k then T (at2 ls j m) else at2 ls j m) ∧ Below w.heap.size w wr)) (fun i _ => n - (intOf i).toNat)
  case atStart => exact ⟨0, Nat.zero_le _, rfl, ls, HS.out.1, fun j m _ _ => by rw [if_neg (by omega)], HS.out.2⟩
  case round =>
    clear HS
    obtain ⟨k, hk, rfl, hR⟩ := hrel
    by_cases hlt : k < n
    · obtain ⟨L, hGV, hL, hbl⟩ := hR.out
      obtain ⟨gk, ck, hrk, c0, hgl, hgkl, hBk, hBg, hne, hcells⟩ := hGV.at hlt
      have HR : Hid (rat vs k = .slice (some ⟨gk, 0, none⟩) wd ck ∧ ∃ L, GV wr w.heap.size g n n wd L vs ∧ (∀ j m, j < n → m < wd → at2 L j m = if j < k ∨ (j = k ∧ m < 0) then T (at2 ls j m) else at2 ls j m) ∧ Below w.heap.size w wr) := ⟨hrk, L, hGV, fun j m hj hm => by rw [hL j m hj hm]; by_cases e : j < k <;> simp [e], hbl⟩
      clear hGV hL hbl hR hcells hrk hBk hBg hne
      have b0 : (0 : Int) ≤ (k : Int) := by omega
      have b1 : (k : Int) < (n : Int) := by omega
      go_wp2
      clear c0 hgl hgkl
      go_loopw [20] (fun i wr => ∃ (q : Nat), q ≤ wd ∧ i = .int .i64 q ∧ Hid (rat vs k = .slice (some ⟨gk, 0, none⟩) wd ck ∧ ∃ L, GV wr w.heap.size g n n wd L vs ∧ (∀ j m, j < n → m < wd → at2 L j m = if j < k ∨ (j = k ∧ m < q) then T (at2 ls j m) else at2 ls j m) ∧ Below w.heap.size w wr)) (fun i _ => wd - (intOf i).toNat)
      case atStart => exact ⟨0, Nat.zero_le _, rfl, HR.out⟩
      case round =>
        clear HR
        obtain ⟨q, hq, rfl, hR⟩ := hrel
        by_cases hlt2 : q < wd
        · obtain ⟨hrk, L, hGV, hL, hbl⟩ := hR.out
          obtain ⟨gk', ck', hrk', c0, hgl, hgkl, hBk, hBg, hne, hcells⟩ := hGV.at hlt
          rw [hrk] at hrk'
          injection hrk' with e1 e2 e3
          injection e1 with e4
          injection e4 with e5
          subst e5
          have d0 := (hcells q hlt2).1
          have hL0 := hL k q hlt hlt2
          rw [if_neg (by omega)] at hL0
          obtain ⟨x, hx⟩ : ∃ x, x = at2 L k q := ⟨_, rfl⟩
          rw [← hx] at d0 hL0
          have hxb := HG.out.1.at k q
          have hxm : (ls.getD k []).getD q 0 ≤ M := by
            have hkl : k < ls.length := by rw [← HG.out.2.1]; exact hlt
            have hql : q < (ls.getD k []).length := by rw [HG.out.2.2.wd k hlt]; exact hlt2
            exact (HG.out.1.nu (ls.getD k []) (by rw [getD_lt hkl]; exact List.getElem_mem _) _ (by rw [getD_lt hql]; exact List.getElem_mem _)).2
          unfold at2 at hL0
          rw [← hL0] at hxb hxm
          have HX : Hid (x = at2 ls k q) := hL0
          have HS : Hid (rat vs k = .slice (some ⟨gk, 0, none⟩) wd ck ∧ GV wr w.heap.size g n n wd L vs ∧ (∀ j m, j < n → m < wd → at2 L j m = if j < k ∨ (j = k ∧ m < q) then T (at2 ls j m) else at2 ls j m) ∧ Below w.heap.size w wr) := ⟨hrk, hGV, hL, hbl⟩
          have HC : Hid (Calls Try.prog 45 #[.int .i64 x, p0, p1] wr fun e w' => e = .returned (.int .i64 (T x)) ∧ Below wr.heap.size wr w') := HF.out wr x hbl hxb.1 hxm
          clear hR hrk hGV hL hbl hx hL0 hxb hxm hcells hBk hBg hne c0 hgl e2 e3
          have b2 : (0 : Int) ≤ (q : Int) := by omega
          have b3 : (q : Int) < (wd : Int) := by omega
          go_wp2_with (fail)
          refine HC.out.mono ?_
          rintro e w5 ⟨rfl, hb5⟩
          clear d0 hgkl
          have HS5 : Hid (GV w5 w.heap.size g n n wd L vs ∧ Below w.heap.size w w5) := ⟨HS.out.2.1.below hb5, HS.out.2.2.2.trans (hb5.mono HS.out.2.2.2.size)⟩
          obtain ⟨gk', ck', hrk', c0, hgl, hgkl, hBk, hBg, hne, hcells⟩ := HS5.out.1.at hlt
          rw [HS.out.1] at hrk'
          injection hrk' with e1 e2 e3
          injection e1 with e4
          injection e4 with e5
          subst e5
          obtain ⟨d0, d1⟩ := hcells q hlt2
          obtain ⟨y, hy⟩ : ∃ y, y = T x := ⟨_, rfl⟩
          have HP : Hid (rat vs k = .slice (some ⟨gk, 0, none⟩) wd ck ∧ ∃ L, GV (w5.setCell ⟨gk, q, none⟩ (.int .i64 y)) w.heap.size g n n wd L vs ∧ (∀ j m, j < n → m < wd → at2 L j m = if j < k ∨ (j = k ∧ m < q + 1) then T (at2 ls j m) else at2 ls j m) ∧ Below w.heap.size w (w5.setCell ⟨gk, q, none⟩ (.int .i64 y))) := by
            refine ⟨HS.out.1, set2 L k q y, HS5.out.1.set hlt HS.out.1 q y, fun j m hj hm => ?_, HS5.out.1.bel hlt HS.out.1 q y HS5.out.2⟩
            rw [at2_set2 HS5.out.1.sh hlt hlt2]
            by_cases e : j = k ∧ m = q
            · rw [if_pos e, if_pos (by omega), hy, HX.out, e.1, e.2]
            · rw [if_neg e, HS.out.2.2.1 j m hj hm]
              by_cases e2 : j < k ∨ (j = k ∧ m < q)
              · rw [if_pos e2, if_pos (by omega)]
              · rw [if_neg e2, if_neg (by omega)]
          rw [← hy]
          generalize at2 L k q = old at d0
          clear HS HS5 HC hb5 hcells hBk hBg hne c0 hgl e2 e3 hy HX
          go_wp2
          go_roundw
          case rel => exact ⟨q + 1, by omega, by go_num, HP.out⟩
          case measure => simp [intOf]; omega
        · have HP : Hid (∃ L, GV wr w.heap.size g n n wd L vs ∧ (∀ j m, j < n → m < wd → at2 L j m = if j < k + 1 then T (at2 ls j m) else at2 ls j m) ∧ Below w.heap.size w wr) := by
            obtain ⟨_, L, h1, h2, h3⟩ := hR.out
            refine ⟨L, h1, fun j m hj hm => ?_, h3⟩
            rw [h2 j m hj hm]
            by_cases e : j < k + 1
            · rw [if_pos (by omega), if_pos e]
            · rw [if_neg (by omega), if_neg e]
          clear hR
          go_wp2
          go_roundw
          case rel => exact ⟨k + 1, by omega, by go_num, HP.out⟩
          case measure => simp [intOf]; omega
    · have HP : Hid (RI wr w.heap.size (.slice (some ⟨g, 0, none⟩) n n) (tnL T ls) vs ∧ Below w.heap.size w wr) := by
        obtain ⟨L, h1, h2, h3⟩ := hR.out
        refine ⟨?_, h3⟩
        have e : L = tnL T ls := grid_ext h1.sh (tnL_sh HG.out.2.2) fun j m hj hm => by
          rw [h2 j m hj hm, if_pos (by omega), tnL_at HG.out.2.2 hj hm]
        rw [← e]
        exact h1.ri
      clear hR
      go_wp2
      go_returns
      exact ⟨_, vs, rfl, HP.out.1, HP.out.2⟩

end Go.Proofs.Yteoddodeppgjaaa
