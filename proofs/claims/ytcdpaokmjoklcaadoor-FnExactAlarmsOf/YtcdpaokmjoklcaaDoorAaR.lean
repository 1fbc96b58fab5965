/- Proved here: the three series of a chart, of the program. -/
import Derived.Test.YtcdpaokmjoklcaaDoorAaM
import Derived.Test.YtcdpaokmjoklcaaDoorRuT0
import Derived.Deep.DeepCutAuto
namespace Go.Proofs.YtcdpaokmjoklcaaDoor
open Go.RowKit Go.Maps
set_option linter.unusedVariables false
set_option linter.unusedSimpArgs false

/-- Where the series stand: the answer's place, the array of the three lists. -/
structure SrT (w wr : World) (K : Nat) (o : Obj) (v0 v1 v2 : Value) (A B C : List Int) : Prop where
  bl : Below w.heap.size w wr
  b0 : wr.heap[w.heap.size]? = some o
  bk : wr.heap[K]? = some (.cells #[v0, v1, v2] 40)
  l0 : IS wr (K + 1) v0 A
  l1 : IS wr (K + 1) v1 B
  l2 : IS wr (K + 1) v2 C
  a01 : ∀ g, v0.ownBlock = some g → v1.ownBlock ≠ some g
  a02 : ∀ g, v0.ownBlock = some g → v2.ownBlock ≠ some g
  a12 : ∀ g, v1.ownBlock = some g → v2.ownBlock ≠ some g
  kk : w.heap.size < K
theorem SrT.grown {w wr w6 : World} {K : Nat} {o oo : Obj} {v0 v1 v2 : Value} {A B C : List Int} {v : Value} (h : SrT w wr K o v0 v1 v2 A B C) (hlt : ∀ g, v.ownBlock = some g → K + 1 ≤ g) (hg : (wr.alloc oo).grownBy w6 v.ownBlock) :
    Below w.heap.size w w6 ∧ w6.heap[w.heap.size]? = some o ∧ w6.heap[K]? = some (.cells #[v0, v1, v2] 40) := by
  have hk := h.kk
  have hs := ltOf h.bk
  have hb : ∀ k, k ≤ K → w6.heap[k]? = wr.heap[k]? := fun k hk2 => by
    rw [hg.block _ (by simp; omega) (fun e => by have := hlt _ e.symm; omega), Below.heap_alloc _ _ _ (by omega)]
  refine ⟨(h.bl.alloc h.bl.size _).grown hg (by have := h.bl.size; simp; omega) (fun k hk => by have := hlt k hk; omega), ?_, ?_⟩
  · rw [hb _ (by omega)]; exact h.b0
  · rw [hb _ (by omega)]; exact h.bk
theorem is_grown {wr w6 : World} {oo : Obj} {B : Nat} {u v : Value} {X : List Int} (h : IS wr B u X) (hne : ∀ g, u.ownBlock = some g → v.ownBlock ≠ some g) (hg : (wr.alloc oo).grownBy w6 v.ownBlock) : IS w6 B u X :=
  h.kept fun g hg' => by
    rw [hg.block _ (by have := (World.ownsRow.lt h g hg').2; simp; omega) (fun e => hne g hg' e.symm), Below.heap_alloc _ _ _ (World.ownsRow.lt h g hg').2]
theorem is_set {w6 : World} {K j : Nat} {u v : Value} {X : List Int} (h : IS w6 (K + 1) u X) : IS (w6.setCell ⟨K, j, none⟩ v) (K + 1) u X :=
  h.kept fun g hg' => heap_setCell_other _ _ _ _ (by have := (World.ownsRow.lt h g hg').1; simp; omega)
theorem apart_loc {wr : World} {oo : Obj} {B : Nat} {u v v6 : Value} {X : List Int} (h : IS wr B u X) (hne : ∀ g, u.ownBlock = some g → v.ownBlock ≠ some g) (hloc : v6.ownBlock = v.ownBlock ∨ v6.ownBlock = some (wr.alloc oo).heap.size) : ∀ g, u.ownBlock = some g → v6.ownBlock ≠ some g := by
  intro g hg hg2
  rcases hloc with e | e
  · exact hne g hg (by rw [← e]; exact hg2)
  · rw [e] at hg2
    have h1 := Option.some.inj hg2
    have h2 := (World.ownsRow.lt h g hg).2
    simp at h1
    omega
theorem ne_symm {u v : Value} (h : ∀ g, u.ownBlock = some g → v.ownBlock ≠ some g) : ∀ g, v.ownBlock = some g → u.ownBlock ≠ some g := fun g hg hg2 => h g hg2 hg
theorem SrT.push0 {w wr w6 : World} {K n : Nat} {o oo : Obj} {v0 v1 v2 v6 : Value} {A B C : List Int} {y : Int} (h : SrT w wr K o v0 v1 v2 A B C) (hn : n = A.length)
    (hown : w6.ownsRow (K + 1) 2 1 v6 (n + 1) (A.map (Value.int .i64) ++ [.int .i64 y])) (hg : (wr.alloc oo).grownBy w6 v0.ownBlock) (hloc : v6.ownBlock = v0.ownBlock ∨ v6.ownBlock = some (wr.alloc oo).heap.size) :
    SrT w (w6.setCell ⟨K, 0, none⟩ v6) K o v6 v1 v2 (A ++ [y]) B C := by
  obtain ⟨g1, g2, g3⟩ := h.grown (fun g hg' => (World.ownsRow.lt h.l0 g hg').1) hg
  have hk := h.kk
  have hI : IS w6 (K + 1) v6 (A ++ [y]) := run_snoc hn hown
  refine ⟨g1.setCell (p := ⟨K, 0, none⟩) (by simp; omega) _, ?_, heap_setCell_same _ _ 0 _ _ _ g3, is_set hI, is_set (is_grown h.l1 (ne_symm h.a01) hg), is_set (is_grown h.l2 (ne_symm h.a02) hg), ne_symm (apart_loc h.l1 (ne_symm h.a01) hloc), ne_symm (apart_loc h.l2 (ne_symm h.a02) hloc), h.a12, hk⟩
  rw [heap_setCell_other _ _ _ _ (by simp; omega)]; exact g2
theorem SrT.push1 {w wr w6 : World} {K n : Nat} {o oo : Obj} {v0 v1 v2 v6 : Value} {A B C : List Int} {y : Int} (h : SrT w wr K o v0 v1 v2 A B C) (hn : n = B.length)
    (hown : w6.ownsRow (K + 1) 2 1 v6 (n + 1) (B.map (Value.int .i64) ++ [.int .i64 y])) (hg : (wr.alloc oo).grownBy w6 v1.ownBlock) (hloc : v6.ownBlock = v1.ownBlock ∨ v6.ownBlock = some (wr.alloc oo).heap.size) :
    SrT w (w6.setCell ⟨K, 1, none⟩ v6) K o v0 v6 v2 A (B ++ [y]) C := by
  obtain ⟨g1, g2, g3⟩ := h.grown (fun g hg' => (World.ownsRow.lt h.l1 g hg').1) hg
  have hk := h.kk
  have hI : IS w6 (K + 1) v6 (B ++ [y]) := run_snoc hn hown
  refine ⟨g1.setCell (p := ⟨K, 1, none⟩) (by simp; omega) _, ?_, heap_setCell_same _ _ 1 _ _ _ g3, is_set (is_grown h.l0 h.a01 hg), is_set hI, is_set (is_grown h.l2 (ne_symm h.a12) hg), apart_loc h.l0 h.a01 hloc, h.a02, ne_symm (apart_loc h.l2 (ne_symm h.a12) hloc), hk⟩
  rw [heap_setCell_other _ _ _ _ (by simp; omega)]; exact g2
theorem SrT.push2 {w wr w6 : World} {K n : Nat} {o oo : Obj} {v0 v1 v2 v6 : Value} {A B C : List Int} {y : Int} (h : SrT w wr K o v0 v1 v2 A B C) (hn : n = C.length)
    (hown : w6.ownsRow (K + 1) 2 1 v6 (n + 1) (C.map (Value.int .i64) ++ [.int .i64 y])) (hg : (wr.alloc oo).grownBy w6 v2.ownBlock) (hloc : v6.ownBlock = v2.ownBlock ∨ v6.ownBlock = some (wr.alloc oo).heap.size) :
    SrT w (w6.setCell ⟨K, 2, none⟩ v6) K o v0 v1 v6 A B (C ++ [y]) := by
  obtain ⟨g1, g2, g3⟩ := h.grown (fun g hg' => (World.ownsRow.lt h.l2 g hg').1) hg
  have hk := h.kk
  have hI : IS w6 (K + 1) v6 (C ++ [y]) := run_snoc hn hown
  refine ⟨g1.setCell (p := ⟨K, 2, none⟩) (by simp; omega) _, ?_, heap_setCell_same _ _ 2 _ _ _ g3, is_set (is_grown h.l0 h.a02 hg), is_set (is_grown h.l1 h.a12 hg), is_set hI, h.a01, apart_loc h.l0 h.a02 hloc, apart_loc h.l1 h.a12 hloc, hk⟩
  rw [heap_setCell_other _ _ _ _ (by simp; omega)]; exact g2
theorem sr_done {w wr : World} {K : Nat} {v u0 u1 u2 : Value} {X : List Int} (hk : w.heap.size < K) (h : IS wr (K + 1) v X) : IS (((wr.setCell ⟨w.heap.size, 0, none⟩ u0).setCell ⟨w.heap.size, 1, none⟩ u1).setCell ⟨w.heap.size, 2, none⟩ u2) w.heap.size v X := by
  refine IS.low (B := K + 1) (IS.kept h fun g hg => ?_) (by omega)
  have h1 := (World.ownsRow.lt h g hg).1
  rw [heap_setCell_other _ _ _ _ (by simp; omega), heap_setCell_other _ _ _ _ (by simp; omega), heap_setCell_other _ _ _ _ (by simp; omega)]
theorem own_formL {w : World} {B n : Nat} {v : Value} {ys : List Value} (h : w.ownsRow B 2 1 v n ys) : ∃ a c, v = .slice a n c := by
  rcases h.2 with ⟨rfl, h0⟩ | ⟨g, cap, cur, rfl, _⟩
  · exact ⟨none, 0, by rw [h0]⟩
  · exact ⟨_, _, rfl⟩

set_option maxRecDepth 10000 in
set_option maxHeartbeats 12800000 in
theorem impl_sr (ce : Int) {w : World} {v : Value} {s : List Int} (hce : -1000000 ≤ ce ∧ ce ≤ 1000000) (hn : s.length ≤ 200) (hs : ∀ k, k < s.length → -1000000 ≤ s.getD k 0 ∧ s.getD k 0 ≤ 1000000) (h : RdI w v s) :
    Calls Tryd.prog 19 #[v, .int .i64 ce] w fun e w' => ∃ vq : Value × Value × Value, e = .returned (.agg #[vq.1, vq.2.1, vq.2.2]) ∧ (IS w' w.heap.size vq.1 (rgL (se0 ce s) s.length) ∧ IS w' w.heap.size vq.2.1 (rgL (se1 s) s.length) ∧ IS w' w.heap.size vq.2.2 (rgL (se2 s) s.length)) ∧ Below w.heap.size w w' := by
  obtain ⟨i0, hi, hz0, hz1, hz2⟩ := info_parts info_i64
  obtain ⟨a, c, rfl⟩ := h.form
  obtain ⟨n, hnn⟩ : ∃ n, n = s.length := ⟨_, rfl⟩
  rw [← hnn] at hn h ⊢
  have H : Hid (RdI w (.slice a n c) s ∧ n = s.length ∧ ∀ k, k < s.length → -1000000 ≤ s.getD k 0 ∧ s.getD k 0 ≤ 1000000) := ⟨h, hnn, hs⟩
  clear h hnn hs
  obtain ⟨K, hK⟩ : ∃ K, K = w.heap.size + 1 := ⟨_, rfl⟩
  obtain ⟨W0, hW0⟩ : ∃ W, W = (w.alloc (.cells #[.slice none 0 0, .slice none 0 0, .slice none 0 0] 40)).alloc (.cells #[.slice none 0 0, .slice none 0 0, .slice none 0 0] 40) := ⟨_, rfl⟩
  have HS : Hid (SrT w W0 K (.cells #[.slice none 0 0, .slice none 0 0, .slice none 0 0] 40) (.slice none 0 0) (.slice none 0 0) (.slice none 0 0) [] [] []) := by
    rw [hW0, hK]
    refine ⟨by (repeat' (first | (with_reducible exact Below.refl _ _) | (with_reducible assumption) | (with_reducible refine Below.setCell ?_ ?_ _) | (with_reducible refine Below.alloc ?_ ?_ _) | (with_reducible refine below_drewN ?_ _) | (with_reducible refine Below.drew ?_) | (with_reducible exact Nat.le_refl _) | omega | (simp; done) | (simp; omega))), (Below.heap_alloc _ _ _ (by simp)).trans (heap_alloc_new w _), ?_, run_nil _ _, run_nil _ _, run_nil _ _, (fun g hg => by cases hg), (fun g hg => by cases hg), (fun g hg => by cases hg), by omega⟩
    have := heap_alloc_new (w.alloc (.cells #[.slice none 0 0, .slice none 0 0, .slice none 0 0] 40)) (.cells #[.slice none 0 0, .slice none 0 0, .slice none 0 0] 40)
    simpa using this
  go_enter Tryd.func19, Tryd.ntmps19
  go_upto_region 2 with fail
  rw [← hW0]
  clear hW0
  have HKK : Hid (K = w.heap.size + 1) := hK
  rw [← hK]
  clear hK
  go_wp2
  go_loopw [12] (fun i wr => ∃ (k : Nat) (v0 v1 v2 : Value), k ≤ n ∧ i = .int .i64 k ∧ Hid (SrT w wr K (.cells #[.slice none 0 0, .slice none 0 0, .slice none 0 0] 40) v0 v1 v2 (rgL (se0 ce s) k) (rgL (se1 s) k) (rgL (se2 s) k))) (fun i _ => n - (intOf i).toNat)
  case atStart => exact ⟨0, _, _, _, Nat.zero_le _, rfl, HS.out⟩
  case round =>
    clear HS
    obtain ⟨k, v0, v1, v2, hk, rfl, hQ⟩ := hrel
    obtain ⟨A, hA⟩ : ∃ c, c = rgL (se0 ce s) k := ⟨_, rfl⟩
    obtain ⟨B, hB⟩ : ∃ c, c = rgL (se1 s) k := ⟨_, rfl⟩
    obtain ⟨D, hD⟩ : ∃ c, c = rgL (se2 s) k := ⟨_, rfl⟩
    obtain ⟨m, hm⟩ : ∃ m, m = A.length := ⟨_, rfl⟩
    obtain ⟨p, hp⟩ : ∃ m, m = B.length := ⟨_, rfl⟩
    obtain ⟨q, hq⟩ : ∃ m, m = D.length := ⟨_, rfl⟩
    rw [← hA, ← hB, ← hD] at hQ
    obtain ⟨va, vc, hvf⟩ := hQ.out.l0.form
    obtain ⟨ua, uc, huf⟩ := hQ.out.l1.form
    obtain ⟨ta, tc, htf⟩ := hQ.out.l2.form
    rw [← hm] at hvf
    rw [← hp] at huf
    rw [← hq] at htf
    subst hvf huf htf
    have hmb : m ≤ 200 ∧ p ≤ 200 ∧ q ≤ 200 := by rw [hm, hp, hq, hA, hB, hD, rgL_len, rgL_len, rgL_len]; omega
    have HC2 : Hid (m = A.length ∧ p = B.length ∧ q = D.length ∧ A = rgL (se0 ce s) k ∧ B = rgL (se1 s) k ∧ D = rgL (se2 s) k) := ⟨hm, hp, hq, hA, hB, hD⟩
    have HQ : Hid (SrT w wr K (.cells #[.slice none 0 0, .slice none 0 0, .slice none 0 0] 40) (.slice va m vc) (.slice ua p uc) (.slice ta q tc) A B D) := hQ.out
    clear hm hp hq hA hB hD hQ
    by_cases hlt : k < n
    · have hkl : k < s.length := by rw [← H.out.2.1]; exact hlt
      obtain ⟨g, o, c2, he, hg, hj⟩ := (H.out.1.below HQ.out.bl).ri (by omega)
      simp only [Value.slice.injEq] at he
      obtain ⟨rfl, hx1, hx2⟩ := he
      clear hx1 hx2
      have c0 := hj k hkl
      obtain ⟨r, hr⟩ : ∃ r : Nat, r = k - 1 := ⟨_, rfl⟩
      have c1 := hj r (by omega)
      obtain ⟨x, hx⟩ : ∃ x, x = s.getD k 0 := ⟨_, rfl⟩
      obtain ⟨y, hy⟩ : ∃ x, x = s.getD r 0 := ⟨_, rfl⟩
      rw [← hx] at c0
      rw [← hy] at c1
      have hxb := H.out.2.2 k hkl
      have hyb := H.out.2.2 r (by omega)
      rw [← hx] at hxb
      rw [← hy] at hyb
      obtain ⟨st, hst⟩ : ∃ x, x = se1 s k := ⟨_, rfl⟩
      obtain ⟨sw, hsw⟩ : ∃ x, x = se2 s k := ⟨_, rfl⟩
      have hst2 : st = x - y := by rw [hst, se1, hx, hy, hr]
      have hsw2 : sw = if k % 2 = 1 then -st else st := by rw [hsw, se2, hst]
      have HST : Hid (rgL (se0 ce s) (k + 1) = A ++ [x - ce] ∧ rgL (se1 s) (k + 1) = B ++ [st] ∧ rgL (se2 s) (k + 1) = D ++ [sw]) := by
        refine ⟨by rw [rgL_succ, HC2.out.2.2.2.1, hx]; rfl, by rw [rgL_succ, HC2.out.2.2.2.2.1, hst], by rw [rgL_succ, HC2.out.2.2.2.2.2, hsw]⟩
      have HSW : Hid ((k % 2 = 1 → sw = -st) ∧ (¬ k % 2 = 1 → sw = st)) := ⟨fun h9 => by rw [hsw2, if_pos h9], fun h9 => by rw [hsw2, if_neg h9]⟩
      have e1 : IntKind.i64.wrap (x - ce) = x - ce := by rw [IntKind.wrap_i64]; omega
      have e2 : IntKind.i64.wrap (x - y) = st := by rw [← hst2, IntKind.wrap_i64]; omega
      have e3 : IntKind.i64.wrap (-st) = -st := by rw [IntKind.wrap_i64]; omega
      have b0 : (0 : Int) ≤ (k : Int) := by omega
      have b1 : (k : Int) < (n : Int) := by omega
      have HR : Hid (r = k - 1 ∧ st = x - y) := ⟨hr, hst2⟩
      clear hj hx hy hst hsw hst2 hsw2 hr
      by_cases hk2 : k % 2 = 1
      · have h21 : ((k : Int) % 2 == 1) = true := by simp; omega
        have h22 : (Int.tmod (k : Int) 2 == 1) = true := by rw [Int.tmod_eq_emod_of_nonneg b0]; exact h21
        have e4 : IntKind.i64.wrap ((k : Int) - 1) = (r : Int) := by rw [IntKind.wrap_i64]; have := HR.out.1; omega
        have r0 : (0 : Int) ≤ (r : Int) := by omega
        have r1 : (r : Int) < (n : Int) := by have := HR.out.1; omega
        have r2 : ¬ (r : Int) < 0 := by omega
        obtain rfl : sw = -st := HSW.out.1 hk2
        clear hk2 HSW
        obtain ⟨r0', r1', r2', rf0, rf1, rf2, rl⟩ := run_three HQ.out.bk
        have HOW : Hid (wr.ownsRow (K + 1) 2 1 (.slice va m vc) m (A.map (Value.int .i64))) := run_own HQ.out.l0 HC2.out.1
        go_upto_region 10 with (at_builtin; go_loud (refine wpList_append_own_at _ rfl _ _ 22 rfl (K + 1) 2 i0 (.int .i64 0) 1 8 Tryd.underlying22 hi hz0 hz1 hz2 rfl (by decide) (.slice va m vc) m (A.map (Value.int .i64)) rfl (World.ownsRow.alloc HOW.out _) ⟨wr.heap.size, 0, none⟩ 1 1 [.int .i64 (x - ce)] rfl rfl (World.news_of_block (cs := #[.int .i64 (x - ce)]) (t := 2) (fr := (0, 0)) (heap_alloc_new wr _)) (by simp [Value.oneCell']) (by unfold maxLen; omega) (by omega) (by simp; omega) ?_); intro v6 w6 hown6 hgrow6 _ hloc6; go_loud (obtain ⟨va6, vc6, rfl⟩ := own_formL hown6; have HR6 : Hid (w6.heap[K]? = some (.cells #[.slice va m vc, .slice ua p uc, .slice ta q tc] 40) ∧ SrT w (w6.setCell ⟨K, 0, none⟩ (.slice va6 (m + 1) vc6)) K (.cells #[.slice none 0 0, .slice none 0 0, .slice none 0 0] 40) (.slice va6 (m + 1) vc6) (.slice ua p uc) (.slice ta q tc) (A ++ [x - ce]) B D) := ⟨(HQ.out.grown (fun g hg' => (World.ownsRow.lt HQ.out.l0 g hg').1) hgrow6).2.2, HQ.out.push0 HC2.out.1 hown6 hgrow6 hloc6⟩; clear hown6 hgrow6 hloc6 r0' r1' r2' rf0 rf1 rf2 rl; obtain ⟨r0', r1', r2', rf0, rf1, rf2, rl⟩ := run_three HR6.out.1))
        clear r0' r1' r2' rf0 rf1 rf2 rl HOW
        obtain ⟨x6, hx6⟩ : ∃ W, W = w6.setCell ⟨K, 0, none⟩ (.slice va6 (m + 1) vc6) := ⟨_, rfl⟩
        have HX6 : Hid (SrT w x6 K (.cells #[.slice none 0 0, .slice none 0 0, .slice none 0 0] 40) (.slice va6 (m + 1) vc6) (.slice ua p uc) (.slice ta q tc) (A ++ [x - ce]) B D) := by rw [hx6]; exact HR6.out.2
        rw [← hx6]
        clear hx6 HR6 HQ
        obtain ⟨r0', r1', r2', rf0, rf1, rf2, rl⟩ := run_three HX6.out.bk
        have HOW : Hid (x6.ownsRow (K + 1) 2 1 (.slice ua p uc) p (B.map (Value.int .i64))) := run_own HX6.out.l1 HC2.out.2.1
        go_upto_region 11 with (at_builtin; go_loud (refine wpList_append_own_at _ rfl _ _ 22 rfl (K + 1) 2 i0 (.int .i64 0) 1 8 Tryd.underlying22 hi hz0 hz1 hz2 rfl (by decide) (.slice ua p uc) p (B.map (Value.int .i64)) rfl (World.ownsRow.alloc HOW.out _) ⟨x6.heap.size, 0, none⟩ 1 1 [.int .i64 (st)] rfl rfl (World.news_of_block (cs := #[.int .i64 (st)]) (t := 2) (fr := (0, 0)) (heap_alloc_new x6 _)) (by simp [Value.oneCell']) (by unfold maxLen; omega) (by omega) (by simp; omega) ?_); intro v7 w7 hown7 hgrow7 _ hloc7; go_loud (obtain ⟨va7, vc7, rfl⟩ := own_formL hown7; have HR7 : Hid (w7.heap[K]? = some (.cells #[.slice va6 (m + 1) vc6, .slice ua p uc, .slice ta q tc] 40) ∧ SrT w (w7.setCell ⟨K, 1, none⟩ (.slice va7 (p + 1) vc7)) K (.cells #[.slice none 0 0, .slice none 0 0, .slice none 0 0] 40) (.slice va6 (m + 1) vc6) (.slice va7 (p + 1) vc7) (.slice ta q tc) (A ++ [x - ce]) (B ++ [st]) D) := ⟨(HX6.out.grown (fun g hg' => (World.ownsRow.lt HX6.out.l1 g hg').1) hgrow7).2.2, HX6.out.push1 HC2.out.2.1 hown7 hgrow7 hloc7⟩; clear hown7 hgrow7 hloc7 r0' r1' r2' rf0 rf1 rf2 rl; obtain ⟨r0', r1', r2', rf0, rf1, rf2, rl⟩ := run_three HR7.out.1))
        clear r0' r1' r2' rf0 rf1 rf2 rl HOW
        obtain ⟨x7, hx7⟩ : ∃ W, W = w7.setCell ⟨K, 1, none⟩ (.slice va7 (p + 1) vc7) := ⟨_, rfl⟩
        have HX7 : Hid (SrT w x7 K (.cells #[.slice none 0 0, .slice none 0 0, .slice none 0 0] 40) (.slice va6 (m + 1) vc6) (.slice va7 (p + 1) vc7) (.slice ta q tc) (A ++ [x - ce]) (B ++ [st]) D) := by rw [hx7]; exact HR7.out.2
        rw [← hx7]
        clear hx7 HR7 HX6
        obtain ⟨r0', r1', r2', rf0, rf1, rf2, rl⟩ := run_three HX7.out.bk
        have HOW : Hid (x7.ownsRow (K + 1) 2 1 (.slice ta q tc) q (D.map (Value.int .i64))) := run_own HX7.out.l2 HC2.out.2.2.1
        go_upto_region 12 with (at_builtin; go_loud (refine wpList_append_own_at _ rfl _ _ 22 rfl (K + 1) 2 i0 (.int .i64 0) 1 8 Tryd.underlying22 hi hz0 hz1 hz2 rfl (by decide) (.slice ta q tc) q (D.map (Value.int .i64)) rfl (World.ownsRow.alloc HOW.out _) ⟨x7.heap.size, 0, none⟩ 1 1 [.int .i64 (-st)] rfl rfl (World.news_of_block (cs := #[.int .i64 (-st)]) (t := 2) (fr := (0, 0)) (heap_alloc_new x7 _)) (by simp [Value.oneCell']) (by unfold maxLen; omega) (by omega) (by simp; omega) ?_); intro v8 w8 hown8 hgrow8 _ hloc8; go_loud (obtain ⟨va8, vc8, rfl⟩ := own_formL hown8; have HR8 : Hid (w8.heap[K]? = some (.cells #[.slice va6 (m + 1) vc6, .slice va7 (p + 1) vc7, .slice ta q tc] 40) ∧ SrT w (w8.setCell ⟨K, 2, none⟩ (.slice va8 (q + 1) vc8)) K (.cells #[.slice none 0 0, .slice none 0 0, .slice none 0 0] 40) (.slice va6 (m + 1) vc6) (.slice va7 (p + 1) vc7) (.slice va8 (q + 1) vc8) (A ++ [x - ce]) (B ++ [st]) (D ++ [-st])) := ⟨(HX7.out.grown (fun g hg' => (World.ownsRow.lt HX7.out.l2 g hg').1) hgrow8).2.2, HX7.out.push2 HC2.out.2.2.1 hown8 hgrow8 hloc8⟩; clear hown8 hgrow8 hloc8 r0' r1' r2' rf0 rf1 rf2 rl; obtain ⟨r0', r1', r2', rf0, rf1, rf2, rl⟩ := run_three HR8.out.1))
        clear r0' r1' r2' rf0 rf1 rf2 rl HOW
        obtain ⟨x8, hx8⟩ : ∃ W, W = w8.setCell ⟨K, 2, none⟩ (.slice va8 (q + 1) vc8) := ⟨_, rfl⟩
        have HX8 : Hid (SrT w x8 K (.cells #[.slice none 0 0, .slice none 0 0, .slice none 0 0] 40) (.slice va6 (m + 1) vc6) (.slice va7 (p + 1) vc7) (.slice va8 (q + 1) vc8) (A ++ [x - ce]) (B ++ [st]) (D ++ [-st])) := by rw [hx8]; exact HR8.out.2
        rw [← hx8]
        clear hx8 HR8 HX7
        have HF : Hid (SrT w x8 K (.cells #[.slice none 0 0, .slice none 0 0, .slice none 0 0] 40) (.slice va6 (m + 1) vc6) (.slice va7 (p + 1) vc7) (.slice va8 (q + 1) vc8) (rgL (se0 ce s) (k + 1)) (rgL (se1 s) (k + 1)) (rgL (se2 s) (k + 1))) := by unfold Hid; rw [HST.out.1, HST.out.2.1, HST.out.2.2]; exact HX8.out
        clear HX8 HST HC2
        go_wp2
        go_roundw
        case rel => exact ⟨k + 1, _, _, _, by omega, by go_num, HF.out⟩
        case measure => simp [intOf]; omega
      · have h21 : ((k : Int) % 2 == 1) = false := by simp; omega
        have h22 : (Int.tmod (k : Int) 2 == 1) = false := by rw [Int.tmod_eq_emod_of_nonneg b0]; exact h21
        obtain rfl : sw = st := HSW.out.2 hk2
        clear hk2 HSW
        by_cases hk0 : k = 0
        · have hr0 : r = 0 := by have := HR.out.1; omega
          have hxy : x = y := by
            have h8 := c0
            have h9 := c1
            rw [hk0] at h8
            rw [hr0, h8] at h9
            injection h9 with h9
            injection h9
          have hst0 : sw = 0 := by have := HR.out.2; omega
          subst hk0
          subst hr0
          subst hxy
          subst hst0
          simp only [Nat.add_zero] at c0
          clear e2 e3 c1 HR h21 h22
          have z0 : (0 : Int) < (n : Int) := by omega
          obtain ⟨r0', r1', r2', rf0, rf1, rf2, rl⟩ := run_three HQ.out.bk
          have HOW : Hid (wr.ownsRow (K + 1) 2 1 (.slice va m vc) m (A.map (Value.int .i64))) := run_own HQ.out.l0 HC2.out.1
          go_upto_region 10 with (at_builtin; go_loud (refine wpList_append_own_at _ rfl _ _ 22 rfl (K + 1) 2 i0 (.int .i64 0) 1 8 Tryd.underlying22 hi hz0 hz1 hz2 rfl (by decide) (.slice va m vc) m (A.map (Value.int .i64)) rfl (World.ownsRow.alloc HOW.out _) ⟨wr.heap.size, 0, none⟩ 1 1 [.int .i64 (x - ce)] rfl rfl (World.news_of_block (cs := #[.int .i64 (x - ce)]) (t := 2) (fr := (0, 0)) (heap_alloc_new wr _)) (by simp [Value.oneCell']) (by unfold maxLen; omega) (by omega) (by simp; omega) ?_); intro v6 w6 hown6 hgrow6 _ hloc6; go_loud (obtain ⟨va6, vc6, rfl⟩ := own_formL hown6; have HR6 : Hid (w6.heap[K]? = some (.cells #[.slice va m vc, .slice ua p uc, .slice ta q tc] 40) ∧ SrT w (w6.setCell ⟨K, 0, none⟩ (.slice va6 (m + 1) vc6)) K (.cells #[.slice none 0 0, .slice none 0 0, .slice none 0 0] 40) (.slice va6 (m + 1) vc6) (.slice ua p uc) (.slice ta q tc) (A ++ [x - ce]) B D) := ⟨(HQ.out.grown (fun g hg' => (World.ownsRow.lt HQ.out.l0 g hg').1) hgrow6).2.2, HQ.out.push0 HC2.out.1 hown6 hgrow6 hloc6⟩; clear hown6 hgrow6 hloc6 r0' r1' r2' rf0 rf1 rf2 rl; obtain ⟨r0', r1', r2', rf0, rf1, rf2, rl⟩ := run_three HR6.out.1))
          clear r0' r1' r2' rf0 rf1 rf2 rl HOW
          obtain ⟨x6, hx6⟩ : ∃ W, W = w6.setCell ⟨K, 0, none⟩ (.slice va6 (m + 1) vc6) := ⟨_, rfl⟩
          have HX6 : Hid (SrT w x6 K (.cells #[.slice none 0 0, .slice none 0 0, .slice none 0 0] 40) (.slice va6 (m + 1) vc6) (.slice ua p uc) (.slice ta q tc) (A ++ [x - ce]) B D) := by rw [hx6]; exact HR6.out.2
          rw [← hx6]
          clear hx6 HR6 HQ
          obtain ⟨r0', r1', r2', rf0, rf1, rf2, rl⟩ := run_three HX6.out.bk
          have HOW : Hid (x6.ownsRow (K + 1) 2 1 (.slice ua p uc) p (B.map (Value.int .i64))) := run_own HX6.out.l1 HC2.out.2.1
          go_upto_region 11 with (at_builtin; go_loud (refine wpList_append_own_at _ rfl _ _ 22 rfl (K + 1) 2 i0 (.int .i64 0) 1 8 Tryd.underlying22 hi hz0 hz1 hz2 rfl (by decide) (.slice ua p uc) p (B.map (Value.int .i64)) rfl (World.ownsRow.alloc HOW.out _) ⟨x6.heap.size, 0, none⟩ 1 1 [.int .i64 (0)] rfl rfl (World.news_of_block (cs := #[.int .i64 (0)]) (t := 2) (fr := (0, 0)) (heap_alloc_new x6 _)) (by simp [Value.oneCell']) (by unfold maxLen; omega) (by omega) (by simp; omega) ?_); intro v7 w7 hown7 hgrow7 _ hloc7; go_loud (obtain ⟨va7, vc7, rfl⟩ := own_formL hown7; have HR7 : Hid (w7.heap[K]? = some (.cells #[.slice va6 (m + 1) vc6, .slice ua p uc, .slice ta q tc] 40) ∧ SrT w (w7.setCell ⟨K, 1, none⟩ (.slice va7 (p + 1) vc7)) K (.cells #[.slice none 0 0, .slice none 0 0, .slice none 0 0] 40) (.slice va6 (m + 1) vc6) (.slice va7 (p + 1) vc7) (.slice ta q tc) (A ++ [x - ce]) (B ++ [0]) D) := ⟨(HX6.out.grown (fun g hg' => (World.ownsRow.lt HX6.out.l1 g hg').1) hgrow7).2.2, HX6.out.push1 HC2.out.2.1 hown7 hgrow7 hloc7⟩; clear hown7 hgrow7 hloc7 r0' r1' r2' rf0 rf1 rf2 rl; obtain ⟨r0', r1', r2', rf0, rf1, rf2, rl⟩ := run_three HR7.out.1))
          clear r0' r1' r2' rf0 rf1 rf2 rl HOW
          obtain ⟨x7, hx7⟩ : ∃ W, W = w7.setCell ⟨K, 1, none⟩ (.slice va7 (p + 1) vc7) := ⟨_, rfl⟩
          have HX7 : Hid (SrT w x7 K (.cells #[.slice none 0 0, .slice none 0 0, .slice none 0 0] 40) (.slice va6 (m + 1) vc6) (.slice va7 (p + 1) vc7) (.slice ta q tc) (A ++ [x - ce]) (B ++ [0]) D) := by rw [hx7]; exact HR7.out.2
          rw [← hx7]
          clear hx7 HR7 HX6
          obtain ⟨r0', r1', r2', rf0, rf1, rf2, rl⟩ := run_three HX7.out.bk
          have HOW : Hid (x7.ownsRow (K + 1) 2 1 (.slice ta q tc) q (D.map (Value.int .i64))) := run_own HX7.out.l2 HC2.out.2.2.1
          go_upto_region 12 with (at_builtin; go_loud (refine wpList_append_own_at _ rfl _ _ 22 rfl (K + 1) 2 i0 (.int .i64 0) 1 8 Tryd.underlying22 hi hz0 hz1 hz2 rfl (by decide) (.slice ta q tc) q (D.map (Value.int .i64)) rfl (World.ownsRow.alloc HOW.out _) ⟨x7.heap.size, 0, none⟩ 1 1 [.int .i64 (0)] rfl rfl (World.news_of_block (cs := #[.int .i64 (0)]) (t := 2) (fr := (0, 0)) (heap_alloc_new x7 _)) (by simp [Value.oneCell']) (by unfold maxLen; omega) (by omega) (by simp; omega) ?_); intro v8 w8 hown8 hgrow8 _ hloc8; go_loud (obtain ⟨va8, vc8, rfl⟩ := own_formL hown8; have HR8 : Hid (w8.heap[K]? = some (.cells #[.slice va6 (m + 1) vc6, .slice va7 (p + 1) vc7, .slice ta q tc] 40) ∧ SrT w (w8.setCell ⟨K, 2, none⟩ (.slice va8 (q + 1) vc8)) K (.cells #[.slice none 0 0, .slice none 0 0, .slice none 0 0] 40) (.slice va6 (m + 1) vc6) (.slice va7 (p + 1) vc7) (.slice va8 (q + 1) vc8) (A ++ [x - ce]) (B ++ [0]) (D ++ [0])) := ⟨(HX7.out.grown (fun g hg' => (World.ownsRow.lt HX7.out.l2 g hg').1) hgrow8).2.2, HX7.out.push2 HC2.out.2.2.1 hown8 hgrow8 hloc8⟩; clear hown8 hgrow8 hloc8 r0' r1' r2' rf0 rf1 rf2 rl; obtain ⟨r0', r1', r2', rf0, rf1, rf2, rl⟩ := run_three HR8.out.1))
          clear r0' r1' r2' rf0 rf1 rf2 rl HOW
          obtain ⟨x8, hx8⟩ : ∃ W, W = w8.setCell ⟨K, 2, none⟩ (.slice va8 (q + 1) vc8) := ⟨_, rfl⟩
          have HX8 : Hid (SrT w x8 K (.cells #[.slice none 0 0, .slice none 0 0, .slice none 0 0] 40) (.slice va6 (m + 1) vc6) (.slice va7 (p + 1) vc7) (.slice va8 (q + 1) vc8) (A ++ [x - ce]) (B ++ [0]) (D ++ [0])) := by rw [hx8]; exact HR8.out.2
          rw [← hx8]
          clear hx8 HR8 HX7
          have HF : Hid (SrT w x8 K (.cells #[.slice none 0 0, .slice none 0 0, .slice none 0 0] 40) (.slice va6 (m + 1) vc6) (.slice va7 (p + 1) vc7) (.slice va8 (q + 1) vc8) (rgL (se0 ce s) (0 + 1)) (rgL (se1 s) (0 + 1)) (rgL (se2 s) (0 + 1))) := by unfold Hid; rw [HST.out.1, HST.out.2.1, HST.out.2.2]; exact HX8.out
          clear HX8 HST HC2
          go_wp2
          go_roundw
          case rel => exact ⟨0 + 1, _, _, _, by omega, by go_num, HF.out⟩
          case measure => simp [intOf]; omega
        · have e4 : IntKind.i64.wrap ((k : Int) - 1) = (r : Int) := by rw [IntKind.wrap_i64]; have := HR.out.1; omega
          have r0 : (0 : Int) ≤ (r : Int) := by omega
          have r1 : (r : Int) < (n : Int) := by have := HR.out.1; omega
          have r2 : ¬ (r : Int) < 0 := by omega
          clear hk0
          obtain ⟨r0', r1', r2', rf0, rf1, rf2, rl⟩ := run_three HQ.out.bk
          have HOW : Hid (wr.ownsRow (K + 1) 2 1 (.slice va m vc) m (A.map (Value.int .i64))) := run_own HQ.out.l0 HC2.out.1
          go_upto_region 10 with (at_builtin; go_loud (refine wpList_append_own_at _ rfl _ _ 22 rfl (K + 1) 2 i0 (.int .i64 0) 1 8 Tryd.underlying22 hi hz0 hz1 hz2 rfl (by decide) (.slice va m vc) m (A.map (Value.int .i64)) rfl (World.ownsRow.alloc HOW.out _) ⟨wr.heap.size, 0, none⟩ 1 1 [.int .i64 (x - ce)] rfl rfl (World.news_of_block (cs := #[.int .i64 (x - ce)]) (t := 2) (fr := (0, 0)) (heap_alloc_new wr _)) (by simp [Value.oneCell']) (by unfold maxLen; omega) (by omega) (by simp; omega) ?_); intro v6 w6 hown6 hgrow6 _ hloc6; go_loud (obtain ⟨va6, vc6, rfl⟩ := own_formL hown6; have HR6 : Hid (w6.heap[K]? = some (.cells #[.slice va m vc, .slice ua p uc, .slice ta q tc] 40) ∧ SrT w (w6.setCell ⟨K, 0, none⟩ (.slice va6 (m + 1) vc6)) K (.cells #[.slice none 0 0, .slice none 0 0, .slice none 0 0] 40) (.slice va6 (m + 1) vc6) (.slice ua p uc) (.slice ta q tc) (A ++ [x - ce]) B D) := ⟨(HQ.out.grown (fun g hg' => (World.ownsRow.lt HQ.out.l0 g hg').1) hgrow6).2.2, HQ.out.push0 HC2.out.1 hown6 hgrow6 hloc6⟩; clear hown6 hgrow6 hloc6 r0' r1' r2' rf0 rf1 rf2 rl; obtain ⟨r0', r1', r2', rf0, rf1, rf2, rl⟩ := run_three HR6.out.1))
          clear r0' r1' r2' rf0 rf1 rf2 rl HOW
          obtain ⟨x6, hx6⟩ : ∃ W, W = w6.setCell ⟨K, 0, none⟩ (.slice va6 (m + 1) vc6) := ⟨_, rfl⟩
          have HX6 : Hid (SrT w x6 K (.cells #[.slice none 0 0, .slice none 0 0, .slice none 0 0] 40) (.slice va6 (m + 1) vc6) (.slice ua p uc) (.slice ta q tc) (A ++ [x - ce]) B D) := by rw [hx6]; exact HR6.out.2
          rw [← hx6]
          clear hx6 HR6 HQ
          obtain ⟨r0', r1', r2', rf0, rf1, rf2, rl⟩ := run_three HX6.out.bk
          have HOW : Hid (x6.ownsRow (K + 1) 2 1 (.slice ua p uc) p (B.map (Value.int .i64))) := run_own HX6.out.l1 HC2.out.2.1
          go_upto_region 11 with (at_builtin; go_loud (refine wpList_append_own_at _ rfl _ _ 22 rfl (K + 1) 2 i0 (.int .i64 0) 1 8 Tryd.underlying22 hi hz0 hz1 hz2 rfl (by decide) (.slice ua p uc) p (B.map (Value.int .i64)) rfl (World.ownsRow.alloc HOW.out _) ⟨x6.heap.size, 0, none⟩ 1 1 [.int .i64 (sw)] rfl rfl (World.news_of_block (cs := #[.int .i64 (sw)]) (t := 2) (fr := (0, 0)) (heap_alloc_new x6 _)) (by simp [Value.oneCell']) (by unfold maxLen; omega) (by omega) (by simp; omega) ?_); intro v7 w7 hown7 hgrow7 _ hloc7; go_loud (obtain ⟨va7, vc7, rfl⟩ := own_formL hown7; have HR7 : Hid (w7.heap[K]? = some (.cells #[.slice va6 (m + 1) vc6, .slice ua p uc, .slice ta q tc] 40) ∧ SrT w (w7.setCell ⟨K, 1, none⟩ (.slice va7 (p + 1) vc7)) K (.cells #[.slice none 0 0, .slice none 0 0, .slice none 0 0] 40) (.slice va6 (m + 1) vc6) (.slice va7 (p + 1) vc7) (.slice ta q tc) (A ++ [x - ce]) (B ++ [sw]) D) := ⟨(HX6.out.grown (fun g hg' => (World.ownsRow.lt HX6.out.l1 g hg').1) hgrow7).2.2, HX6.out.push1 HC2.out.2.1 hown7 hgrow7 hloc7⟩; clear hown7 hgrow7 hloc7 r0' r1' r2' rf0 rf1 rf2 rl; obtain ⟨r0', r1', r2', rf0, rf1, rf2, rl⟩ := run_three HR7.out.1))
          clear r0' r1' r2' rf0 rf1 rf2 rl HOW
          obtain ⟨x7, hx7⟩ : ∃ W, W = w7.setCell ⟨K, 1, none⟩ (.slice va7 (p + 1) vc7) := ⟨_, rfl⟩
          have HX7 : Hid (SrT w x7 K (.cells #[.slice none 0 0, .slice none 0 0, .slice none 0 0] 40) (.slice va6 (m + 1) vc6) (.slice va7 (p + 1) vc7) (.slice ta q tc) (A ++ [x - ce]) (B ++ [sw]) D) := by rw [hx7]; exact HR7.out.2
          rw [← hx7]
          clear hx7 HR7 HX6
          obtain ⟨r0', r1', r2', rf0, rf1, rf2, rl⟩ := run_three HX7.out.bk
          have HOW : Hid (x7.ownsRow (K + 1) 2 1 (.slice ta q tc) q (D.map (Value.int .i64))) := run_own HX7.out.l2 HC2.out.2.2.1
          go_upto_region 12 with (at_builtin; go_loud (refine wpList_append_own_at _ rfl _ _ 22 rfl (K + 1) 2 i0 (.int .i64 0) 1 8 Tryd.underlying22 hi hz0 hz1 hz2 rfl (by decide) (.slice ta q tc) q (D.map (Value.int .i64)) rfl (World.ownsRow.alloc HOW.out _) ⟨x7.heap.size, 0, none⟩ 1 1 [.int .i64 (sw)] rfl rfl (World.news_of_block (cs := #[.int .i64 (sw)]) (t := 2) (fr := (0, 0)) (heap_alloc_new x7 _)) (by simp [Value.oneCell']) (by unfold maxLen; omega) (by omega) (by simp; omega) ?_); intro v8 w8 hown8 hgrow8 _ hloc8; go_loud (obtain ⟨va8, vc8, rfl⟩ := own_formL hown8; have HR8 : Hid (w8.heap[K]? = some (.cells #[.slice va6 (m + 1) vc6, .slice va7 (p + 1) vc7, .slice ta q tc] 40) ∧ SrT w (w8.setCell ⟨K, 2, none⟩ (.slice va8 (q + 1) vc8)) K (.cells #[.slice none 0 0, .slice none 0 0, .slice none 0 0] 40) (.slice va6 (m + 1) vc6) (.slice va7 (p + 1) vc7) (.slice va8 (q + 1) vc8) (A ++ [x - ce]) (B ++ [sw]) (D ++ [sw])) := ⟨(HX7.out.grown (fun g hg' => (World.ownsRow.lt HX7.out.l2 g hg').1) hgrow8).2.2, HX7.out.push2 HC2.out.2.2.1 hown8 hgrow8 hloc8⟩; clear hown8 hgrow8 hloc8 r0' r1' r2' rf0 rf1 rf2 rl; obtain ⟨r0', r1', r2', rf0, rf1, rf2, rl⟩ := run_three HR8.out.1))
          clear r0' r1' r2' rf0 rf1 rf2 rl HOW
          obtain ⟨x8, hx8⟩ : ∃ W, W = w8.setCell ⟨K, 2, none⟩ (.slice va8 (q + 1) vc8) := ⟨_, rfl⟩
          have HX8 : Hid (SrT w x8 K (.cells #[.slice none 0 0, .slice none 0 0, .slice none 0 0] 40) (.slice va6 (m + 1) vc6) (.slice va7 (p + 1) vc7) (.slice va8 (q + 1) vc8) (A ++ [x - ce]) (B ++ [sw]) (D ++ [sw])) := by rw [hx8]; exact HR8.out.2
          rw [← hx8]
          clear hx8 HR8 HX7
          have HF : Hid (SrT w x8 K (.cells #[.slice none 0 0, .slice none 0 0, .slice none 0 0] 40) (.slice va6 (m + 1) vc6) (.slice va7 (p + 1) vc7) (.slice va8 (q + 1) vc8) (rgL (se0 ce s) (k + 1)) (rgL (se1 s) (k + 1)) (rgL (se2 s) (k + 1))) := by unfold Hid; rw [HST.out.1, HST.out.2.1, HST.out.2.2]; exact HX8.out
          clear HX8 HST HC2
          go_wp2
          go_roundw
          case rel => exact ⟨k + 1, _, _, _, by omega, by go_num, HF.out⟩
          case measure => simp [intOf]; omega
    · have HE : Hid (IS wr (K + 1) (.slice va m vc) (rgL (se0 ce s) n) ∧ IS wr (K + 1) (.slice ua p uc) (rgL (se1 s) n) ∧ IS wr (K + 1) (.slice ta q tc) (rgL (se2 s) n)) := by
        have h1 := HQ.out
        have hkn : n = k := by omega
        rw [hkn]
        exact ⟨by rw [← HC2.out.2.2.2.1]; exact h1.l0, by rw [← HC2.out.2.2.2.2.1]; exact h1.l1, by rw [← HC2.out.2.2.2.2.2]; exact h1.l2⟩
      obtain ⟨r0, r1, r2, rf0, rf1, rf2, rl⟩ := run_three HQ.out.bk
      obtain ⟨q0, q1, q2, qf0, qf1, qf2, ql⟩ := run_three HQ.out.b0
      clear HC2
      go_wp2
      try simp only [Exit.inBlock, Exit.then]
      refine bodyPost_ret (by simp [results, Tryd.results19, go_sem, q0, q1, q2, ql]; try rfl) rfl ⟨(.slice va m vc, .slice ua p uc, .slice ta q tc), rfl, ⟨?_, ?_, ?_⟩, ?_⟩
      · exact sr_done HQ.out.kk HE.out.1
      · exact sr_done HQ.out.kk HE.out.2.1
      · exact sr_done HQ.out.kk HE.out.2.2
      · have hb := HQ.out.bl
        (repeat' (first | (with_reducible exact Below.refl _ _) | (with_reducible assumption) | (with_reducible refine Below.setCell ?_ ?_ _) | (with_reducible refine Below.alloc ?_ ?_ _) | (with_reducible refine below_drewN ?_ _) | (with_reducible refine Below.drew ?_) | (with_reducible exact Nat.le_refl _) | omega | (simp; done) | (simp; omega)))

end Go.Proofs.YtcdpaokmjoklcaaDoor
