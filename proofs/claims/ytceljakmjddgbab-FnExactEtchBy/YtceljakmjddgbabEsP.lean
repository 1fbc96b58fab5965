/- Proved here: rows of the model that grow by a row. No condition on the program. (And ahead of it: Proved here: l12Put of the model.) -/
import Derived.Test.YtceljakmjddgbabLyM
import Derived.Maps.AppendAt
import Derived.Deep.AppendLies
import Derived.Test.YtceljakmjddgbabEbE
namespace Go.Proofs.Ytceljakmjddgbab
open Go.RowKit
set_option linter.unusedVariables false
set_option linter.unusedSimpArgs false

theorem PF.app {B : Nat} {w w1 w5 : World} {ob ob2 : Obj} {v v5 : Value} {c : List Flm} {m t : Int} (h1 : w.grownBy w1 v.ownBlock) (ho : w5.ownsRow B 76 2 v5 (c.length + 1) (c.flatMap flC ++ [.int .i64 m, .int .i64 t])) (hg : (w1.alloc ob).grownBy w5 v.ownBlock) (hr : v5.ownBlock = v.ownBlock ∨ v5.ownBlock = some (w1.alloc ob).heap.size) : PF B w w5 v v5 (c ++ [⟨m, t⟩]) := by
  have h2 : w.grownBy (w1.alloc ob) v.ownBlock := h1.trans (World.grownBy_alloc w1 ob _)
  refine ⟨?_, h2.trans hg, fun j hj => ?_⟩
  · unfold OG
    rw [flC_fm, List.length_append]
    exact ho
  · rcases hr with h5 | h5
    · exact Or.inr (h5.symm.trans hj)
    · left; rw [h5] at hj; injection hj with hj; have := h2.size; omega

set_option maxRecDepth 10000 in
set_option maxHeartbeats 6400000 in
theorem spec_put12 {w : World} {B : Nat} {v : Value} {c : List Flm} (m t : Int) (hB : B ≤ w.heap.size) (hl : c.length ≤ 1000) (ht : -1000000000 ≤ t ∧ t ≤ 1000000000) (hc : ∀ k, k < c.length → -1000000000 ≤ (fat c k).t ∧ (fat c k).t ≤ 1000000000) (h : OG 76 2 flC w B v c) :
    Calls Try.prog 53 #[v, .int .i64 m, .int .i64 t] w fun e w' => ∃ v', e = .returned v' ∧ PF B w w' v v' (putF c ⟨m, t⟩) := by
  obtain ⟨a, cp, rfl⟩ := h.form
  obtain ⟨n, hnn⟩ : ∃ n, n = c.length := ⟨_, rfl⟩
  rw [← hnn] at h hl ⊢
  have HS : Hid (B ≤ w.heap.size) := hB
  have H : Hid (n = c.length ∧ ∀ k, k < n → -1000000000 ≤ (fat c k).t ∧ (fat c k).t ≤ 1000000000) := ⟨hnn, by rw [hnn]; exact hc⟩
  have HO : Hid (w.ownsRow B 76 2 (.slice a n cp) n (c.flatMap flC)) := by unfold OG at h; rw [← hnn] at h; exact h
  clear hnn hc hB h
  obtain ⟨i0, hi0, hz0, hz1, hz2⟩ := info_parts info_Film
  have HO1 : Hid (w.ownsRow B 76 2 (.slice a n cp) n (c.flatMap flC) ∧ w.grownBy w (Value.slice a n cp).ownBlock ∧ Below w.heap.size w w) := ⟨HO.out, World.grownBy.refl _ _, Below.refl _ _⟩
  have HS1 : Hid (B ≤ w.heap.size) := HS.out
  go_enter Try.func53, Try.ntmps53
  by_cases h0 : t = 0
  · have HE : Hid (PF B w w (.slice a n cp) (.slice a n cp) (putF c ⟨m, t⟩)) := by
      unfold Hid putF
      rw [if_pos h0]
      exact ⟨by unfold OG; rw [← H.out.1]; exact HO1.out.1, HO1.out.2.1, fun j hj => Or.inr hj⟩
    subst h0
    go_wp2
    go_returns
    exact ⟨_, rfl, HE.out⟩
  have h0' : (t == 0) = false := by simpa using h0
  rcases Nat.eq_zero_or_pos n with hn0 | hn0
  · subst hn0
    have HE : Hid (putF c ⟨m, t⟩ = c ++ [⟨m, t⟩]) := by unfold Hid putF; rw [if_neg h0, if_neg (fun h => by have := H.out.1; omega)]
    go_wp2_with (at_builtin; refine wpList_append_own_at _ rfl _ _ 62 rfl B 76 i0 (.agg #[.int .i64 0, .int .i64 0]) 2 16 Try.underlying62 hi0 hz0 hz1 hz2 rfl (by decide) _ _ _ rfl (World.ownsRow.alloc HO1.out.1 _) ⟨w.heap.size, 0, none⟩ 1 1 [.int .i64 m, .int .i64 t] rfl rfl (World.news_of_block (cs := #[.int .i64 m, .int .i64 t]) (t := 76) (fr := (0, 0)) (heap_alloc_new w _)) (by simp [Value.oneCell']) (by unfold maxLen; omega) (by omega) (by simp; have := HS1.out; omega) ?_; intro v5 w5 hown5 hgrow5 _ hat5)
    have R : Hid (PF B w w5 (.slice a 0 cp) v5 (c ++ [⟨m, t⟩])) := PF.app (ob2 := .cells #[] 0) HO1.out.2.1 (by rw [← H.out.1]; exact hown5) hgrow5 hat5
    clear hown5 hgrow5 hat5
    go_wp2
    go_returns
    exact ⟨_, rfl, by rw [HE.out]; exact R.out⟩

  obtain ⟨p, hp⟩ : ∃ p, n = p + 1 := ⟨n - 1, by omega⟩
  obtain ⟨g, hgo⟩ : ∃ g, a = some ⟨g, 0, none⟩ := by
    rcases HO.out.2 with ⟨e, h9⟩ | ⟨g, cap, cur, e, _⟩
    · omega
    · injection e with e1; exact ⟨g, e1⟩
  subst hgo
  have hpl : p < c.length := by rw [← H.out.1]; omega
  have hOG : OG 76 2 flC w B (.slice (some ⟨g, 0, none⟩) n cp) c := by unfold OG; rw [← H.out.1]; exact HO1.out.1
  obtain ⟨g', o', he, hgl, d0, d1⟩ := fl_at (OG.rg flC_len hOG) (show p < n by omega)
  injection he with he1
  injection he1 with he2 he3
  subst he2 he3
  rw [Nat.zero_add] at d0 d1
  obtain ⟨pm, hpm⟩ : ∃ x, x = (fat c p).m := ⟨_, rfl⟩
  obtain ⟨pt, hpt⟩ : ∃ x, x = (fat c p).t := ⟨_, rfl⟩
  rw [← hpm] at d0
  rw [← hpt] at d1
  have HP : Hid (pm = (fat c (c.length - 1)).m ∧ pt = (fat c (c.length - 1)).t ∧ 0 < c.length ∧ c.length - 1 = p) := by
    have e : c.length - 1 = p := by rw [← H.out.1]; omega
    exact ⟨by rw [e]; exact hpm, by rw [e]; exact hpt, by omega, e⟩
  have hptb := H.out.2 p (by omega)
  rw [← hpt] at hptb
  have f0 : w.frozen? ⟨g, p * 2 + 1, none⟩ = false := World.ownsRow.frozenAt HO1.out.1 _
  have HOG : Hid (OG 76 2 flC w B (.slice (some ⟨g, 0, none⟩) n cp) c) := hOG
  clear hOG hpl hpm hpt
  have k1 : IntKind.i64.wrap ((n : Int) - 1) = (p : Int) := by rw [IntKind.wrap_i64]; omega
  have k2 : (n : Int) - 1 = (p : Int) := by omega
  have k3 : (0 : Int) ≤ (p : Int) := by omega
  have k4 : (p : Int) < (n : Int) := by omega
  have k5 : (0 : Int) < (n : Int) := by omega
  clear hp
  by_cases hs : pm = m
  · have HE : Hid (putF c ⟨m, t⟩ = c.set p ⟨(fat c p).m, pt + t⟩) := by
      have h9 := HP.out
      unfold Hid putF
      rw [if_neg h0, if_pos ⟨h9.2.2.1, by rw [← h9.1]; exact hs⟩, h9.2.2.2]
      rw [h9.2.2.2] at h9
      rw [← h9.2.1, ← h9.1, hs]
    have hpl : p < c.length := by rw [← H.out.1]; omega
    have hyx : IntKind.i64.wrap (pt + t) = pt + t := by rw [IntKind.wrap_i64]; omega
    subst hs
    have HX : Hid (PF B w (w.setCell ⟨g, p * 2 + 1, none⟩ (.int .i64 (pt + t))) (.slice (some ⟨g, 0, none⟩) n cp) (.slice (some ⟨g, 0, none⟩) n cp) (c.set p ⟨(fat c p).m, pt + t⟩)) := by
      refine ⟨og_thick HOG.out hpl _, ?_, fun j hj => Or.inr hj⟩
      exact ⟨rfl, rfl, rfl, by simp, fun k hk hne => heap_setCell_other _ _ _ _ (by simp only [ne_eq]; exact fun e => hne (by rw [e]; rfl))⟩
    go_wp2
    go_returns
    exact ⟨_, rfl, by rw [HE.out]; exact HX.out⟩
  · have hs' : (pm == m) = false := by simpa using hs
    have HE : Hid (putF c ⟨m, t⟩ = c ++ [⟨m, t⟩]) := by unfold Hid putF; rw [if_neg h0, if_neg (fun h => hs (by rw [HP.out.1]; exact h.2))]
    go_wp2_with (at_builtin; refine wpList_append_own_at _ rfl _ _ 62 rfl B 76 i0 (.agg #[.int .i64 0, .int .i64 0]) 2 16 Try.underlying62 hi0 hz0 hz1 hz2 rfl (by decide) _ _ _ rfl (World.ownsRow.alloc HO1.out.1 _) ⟨w.heap.size, 0, none⟩ 1 1 [.int .i64 m, .int .i64 t] rfl rfl (World.news_of_block (cs := #[.int .i64 m, .int .i64 t]) (t := 76) (fr := (0, 0)) (heap_alloc_new w _)) (by simp [Value.oneCell']) (by unfold maxLen; omega) (by omega) (by simp; have := HS1.out; omega) ?_; intro v5 w5 hown5 hgrow5 _ hat5)
    have R : Hid (PF B w w5 (.slice (some ⟨g, 0, none⟩) n cp) v5 (c ++ [⟨m, t⟩])) := PF.app (ob2 := .cells #[] 0) HO1.out.2.1 (by rw [← H.out.1]; exact hown5) hgrow5 hat5
    clear hown5 hgrow5 hat5
    go_wp2
    go_returns
    exact ⟨_, rfl, by rw [HE.out]; exact R.out⟩

end Go.Proofs.Ytceljakmjddgbab

namespace Go.Proofs.Ytceljakmjddgbab
open Go.RowKit
set_option linter.unusedVariables false
set_option linter.unusedSimpArgs false

/-- Where the columns of the model stand, that grow row by row. -/
structure PP (V : World) (K : Nat) (oa : Option Addr) (j oc : Nat) (LL : List (List Flm)) (vs : List Value) (wr : World) : Prop where
  ro : RoF wr (K + 1) (.slice oa j oc) (LL.take j) vs
  kb : wr.heap[K]? = some (.cells #[.slice oa j oc] 30)
  bl : Below V.heap.size V wr
  ks : K + 1 ≤ wr.heap.size
  vk : V.heap.size ≤ K
theorem keep_box {wr w6 : World} {K : Nat} {oa : Option Addr} {j oc : Nat} {ob : Obj} {vs : List Value} (hk : wr.heap[K]? = some (.cells #[.slice oa j oc] 30)) (ho : wr.ownsRow (K + 1) 62 1 (.slice oa j oc) j vs) (hg : (wr.alloc ob).grownBy w6 (Value.slice oa j oc).ownBlock) :
    w6.cell? ⟨K, 0, none⟩ = some (.slice oa j oc) ∧ w6.frozen? ⟨K, 0, none⟩ = false ∧ K < w6.heap.size := by
  have h1 : w6.heap[K]? = some (.cells #[.slice oa j oc] 30) := by
    rw [hg.block K (by have := ltOf hk; simp; omega) fun e => by have := (rowBlk ho e.symm).1; omega]
    rw [Below.heap_alloc _ _ _ (ltOf hk)]; exact hk
  exact ⟨cellOf h1 0 rfl, frozOf h1 0, ltOf h1⟩
theorem pp_push {V w2 wr w6 : World} {K : Nat} {oa ca : Option Addr} {j oc cn cp : Nat} {LL : List (List Flm)} {vs : List Value} {v6 : Value} {l : List Flm} (h : PP V K oa j oc LL vs w2) (hb : Below w2.heap.size w2 wr) (hu : OG 76 2 flC wr w2.heap.size (.slice ca cn cp) l) (htl : (LL.take j).length = j)
    (ho : w6.ownsRow (K + 1) 62 1 v6 (j + 1) (vs ++ [.slice ca cn cp])) (hg : (wr.alloc (.cells #[.slice ca cn cp] 62)).grownBy w6 (Value.slice oa j oc).ownBlock) :
    LL.take (j + 1) = LL.take j ++ [l] → j + 1 ≤ LL.length → ∃ na nc, v6 = .slice na (j + 1) nc ∧ ∃ vs, PP V K na (j + 1) nc LL vs (w6.setCell ⟨K, 0, none⟩ (.slice na (j + 1) nc)) := by
  intro e1 hjl
  have hba : Below w2.heap.size w2 (wr.alloc (.cells #[.slice ca cn cp] 62)) := hb.alloc hb.size _
  have hP := h.ro.push hb h.ks hu (by rw [htl]; exact ho) hg
  rw [← e1] at hP
  obtain ⟨na, nc, e2⟩ := hP.form
  rw [List.length_take, Nat.min_eq_left hjl] at e2
  subst e2
  have hkb : w6.heap[K]? = some (.cells #[.slice oa j oc] 30) := by
    rw [hg.block K (by have := ltOf h.kb; have := hba.size; omega) fun e => by have := (rowBlk h.ro.o e.symm).1; omega]
    rw [hba.block K (ltOf h.kb)]; exact h.kb
  have hoth : ∀ q, q ≠ K → (w6.setCell ⟨K, 0, none⟩ (.slice na (j + 1) nc)).heap[q]? = w6.heap[q]? := fun q hq => heap_setCell_other _ _ _ _ (by simpa using hq)
  refine ⟨na, nc, rfl, _, hP.kept (fun q hq => hoth q ?_) (fun i hi q hq => hoth q ?_), ?_, ?_, ?_, h.vk⟩
  · have := (rowBlk hP.o hq).1; omega
  · have := (rowBlk (hP.bx i hi) hq).1; omega
  · have := heap_setCell_same _ _ 0 _ _ (.slice na (j + 1) nc) hkb
    simpa using this
  · refine Below.setCell ?_ h.vk _
    have h7 := h.bl.trans (hba.mono h.bl.size)
    exact h7.grown hg h7.size fun q hq => by have := (rowBlk h.ro.o hq).1; have := h.vk; omega
  · have := ltOf hkb; simp; omega

end Go.Proofs.Ytceljakmjddgbab
