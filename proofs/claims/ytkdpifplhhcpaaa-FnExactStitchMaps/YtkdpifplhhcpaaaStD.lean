/- Proved here: copies of rows, of the model. -/
import Derived.Test.YtkdpifplhhcpaaaStG
namespace Go.Proofs.Ytkdpifplhhcpaaa
open Go.RowKit
set_option linter.unusedVariables false
set_option linter.unusedSimpArgs false

theorem cp_rowM {wr w5 : World} {s : List Int} {un : Nat} {va : Option Addr} {vc : Nat} {ob : Obj} (hu : un = s.length) (hown5 : w5.ownsRow wr.heap.size 2 1 (.slice va un vc) (0 + un) ([] ++ s.map (Value.int .i64))) (hgrow5 : (wr.alloc ob).grownBy w5 (some wr.heap.size)) : Hid (IS w5 wr.heap.size (.slice va un vc) s ∧ Below wr.heap.size wr w5) := by
  refine ⟨?_, ((Below.refl _ _).alloc (Nat.le_refl _) _).grown hgrow5 (by simp) (fun j hj => by cases hj; exact Nat.le_refl _)⟩
  subst hu
  unfold IS
  simpa using hown5
theorem cp_oldM {wr w5 : World} {B j : Nat} {v : Value} {ls : List (List Int)} {vs : List Value} (h : RI wr B v ls vs) (hl : ls.length = j) (hb : Below wr.heap.size wr w5) : Hid (w5.ownsRow B 22 1 v j vs ∧ True) := by
  have := (h.below hb).o
  rw [hl] at this
  exact ⟨this, trivial⟩

set_option maxRecDepth 10000 in
set_option maxHeartbeats 6400000 in
theorem spec_copyM {w : World} {v : Value} {ls : List (List Int)} (hG : GM ls) (h : RdR w v ls) :
    Calls Try.prog 58 #[v] w fun e w' => ∃ v' vs, e = .returned v' ∧ RI w' w.heap.size v' ls vs ∧ Below w.heap.size w w' := by
  obtain ⟨a, c, rfl⟩ := h.form
  obtain ⟨i0, hi0, hz0, hz1, hz2⟩ := info_parts info_row
  obtain ⟨i1, hi1, hy0, hy1, hy2⟩ := info_parts info_i64
  obtain ⟨n, hnn⟩ : ∃ n, n = ls.length := ⟨_, rfl⟩
  have HN : Hid (n = ls.length ∧ GM ls) := ⟨hnn, hG⟩
  have hn' : n ≤ 20 := by rw [hnn]; exact hG.h1
  rw [← hnn] at h ⊢
  have H : Hid (RdR w (.slice a n c) ls) := h
  clear hnn h hG
  go_enter Try.func58, Try.ntmps58
  go_wp2
  have HS : Hid (RI (w.alloc (.cells #[] 22)) w.heap.size (.slice (some ⟨w.heap.size, 0, none⟩) 0 0) (ls.take 0) [] ∧ Below w.heap.size w (w.alloc (.cells #[] 22))) := ⟨RI.lit0 w _ (Nat.le_refl _), by (repeat' (first | (with_reducible exact Below.refl _ _) | (with_reducible assumption) | (with_reducible refine Below.setCell ?_ ?_ _) | (with_reducible refine Below.alloc ?_ ?_ _) | (with_reducible refine below_drewN ?_ _) | (with_reducible refine Below.drew ?_) | (with_reducible exact Nat.le_refl _) | omega | (simp; done) | (simp; omega)))⟩
  go_loopw [3, 4] (fun q i wr => ∃ (j : Nat) (oa : Option Addr) (oc : Nat), j ≤ n ∧ i = .int .i64 j ∧ q = .slice oa j oc ∧ Hid (∃ vs, RI wr w.heap.size (.slice oa j oc) (ls.take j) vs ∧ Below w.heap.size w wr)) (fun _ i _ => n - (intOf i).toNat)
  case atStart => exact ⟨0, _, _, Nat.zero_le _, rfl, rfl, _, HS.out⟩
  case round =>
    clear HS
    obtain ⟨j, oa, oc, hjn, rfl, rfl, hR⟩ := hrel
    by_cases hlt : j < n
    · obtain ⟨vs, hri, hbl⟩ := hR.out
      have HR : Hid (RI wr w.heap.size (.slice oa j oc) (ls.take j) vs ∧ Below w.heap.size w wr) := ⟨hri, hbl⟩
      obtain ⟨g, o, ua, un, uc, rfl, hg, c0, hun, hrd⟩ := (H.out.below hbl).at hlt
      have hlr := HN.out.2.rowp (show j < ls.length by rw [← HN.out.1]; exact hlt)
      rw [← hun] at hlr
      obtain ⟨s, hs⟩ : ∃ s, s = ls.getD j [] := ⟨_, rfl⟩
      rw [← hs] at hun hrd
      obtain ⟨ug, uo, rfl, hug, _⟩ := rd_at hrd hlr.1
      have HU : Hid ((∀ j u, (s.map (Value.int .i64))[j]? = some u → (wr.alloc (.cells #[] 2)).cell? ((⟨ug, uo, none⟩ : Addr).add j) = some u) ∧ un = s.length ∧ s = ls.getD j []) := ⟨row_news (hrd.below (by (repeat' (first | (with_reducible exact Below.refl _ _) | (with_reducible assumption) | (with_reducible refine Below.setCell ?_ ?_ _) | (with_reducible refine Below.alloc ?_ ?_ _) | (with_reducible refine below_drewN ?_ _) | (with_reducible refine Below.drew ?_) | (with_reducible exact Nat.le_refl _) | omega | (simp; done) | (simp; omega))))), hun, hs⟩
      have hu0 := hlr.1
      have hu1 := hlr.2
      clear hri hbl hrd hun hlr hR hs
      have b0 : (0 : Int) ≤ (j : Int) := by omega
      have b1 : (j : Int) < (n : Int) := by omega
      have htl : (ls.take j).length = j := by rw [List.length_take, ← HN.out.1]; omega
      have HTL : Hid ((ls.take j).length = j) := htl
      have hszr := HR.out.2.size
      clear htl
      go_wp2_with (first
        | (at_builtin; refine wpList_append_own _ rfl (.tmp 13) (.tmp 17) 22 rfl wr.heap.size 2 i1 (.int .i64 0) 1 8 Try.underlying22 hi1 hy0 hy1 hy2 rfl (by decide) (.slice (some ⟨wr.heap.size, 0, none⟩) 0 0) 0 [] rfl (is_lit0 wr _ (Nat.le_refl _)) ⟨ug, uo, none⟩ un uc (s.map (Value.int .i64)) rfl (by rw [HU.out.2.1]; simp) HU.out.1 (ones_int _) (by unfold maxLen; omega) (by omega) (by simp) ?_; intro v5 w5 hown5 hgrow5 hnil5; obtain ⟨va5, vc5, hv5⟩ := own_form0 hown5; subst hv5; have HQ5 := cp_rowM HU.out.2.1 hown5 hgrow5; clear hown5 hgrow5 hnil5; have HRR := cp_oldM HR.out.1 HTL.out HQ5.out.2; have hsz5 := HQ5.out.2.size)
        | (at_builtin; refine wpList_append_own _ rfl (.tmp 12) (.tmp 19) 52 rfl w.heap.size 22 i0 (.slice none 0 0) 1 24 Try.underlying52 hi0 hz0 hz1 hz2 rfl (by decide) (.slice oa j oc) j vs rfl (World.ownsRow.alloc HRR.out.1 _) ⟨w5.heap.size, 0, none⟩ 1 1 [.slice va5 un vc5] rfl rfl (World.news_of_block (cs := #[.slice va5 un vc5]) (t := 22) (fr := (0, 0)) (heap_alloc_new w5 _)) (by simp [Value.oneCell']) (by unfold maxLen; omega) (by omega) (by simp; omega) ?_; intro v6 w6 hown6 hgrow6 _))
      have R : Hid (∃ oa' oc', v6 = .slice oa' (j + 1) oc' ∧ ∃ vs, RI w6 w.heap.size (.slice oa' (j + 1) oc') (ls.take (j + 1)) vs ∧ Below w.heap.size w w6) := by
        have e1 : ls.take (j + 1) = ls.take j ++ [s] := by rw [List.take_succ_eq_append_getElem (by rw [← HN.out.1]; exact hlt), HU.out.2.2, getD_lt (by rw [← HN.out.1]; exact hlt)]
        have hP := HR.out.1.push HQ5.out.2 hszr HQ5.out.1 (by rw [HTL.out]; exact hown6) hgrow6
        rw [← e1] at hP
        obtain ⟨oa', oc', e2⟩ := hP.form
        rw [List.length_take, Nat.min_eq_left (by rw [← HN.out.1]; omega)] at e2
        rw [e2] at hP
        refine ⟨oa', oc', e2, _, hP, ?_⟩
        have hb5 : Below w.heap.size w (w5.alloc (.cells #[.slice va5 un vc5] 22)) := (HR.out.2.trans (HQ5.out.2.mono hszr)).alloc (by omega) _
        exact hb5.grown hgrow6 (by simp; omega) (fun k hk => (rowBlk HRR.out.1 hk).1)
      clear hown6 hgrow6 HQ5 HRR HR c0 HTL
      obtain ⟨oa', oc', rfl, R2⟩ := R.out
      have R3 : Hid _ := R2
      clear R R2
      go_wp2
      go_roundw
      case rel => exact ⟨j + 1, oa', oc', by omega, by go_num, rfl, R3.out⟩
      case measure => simp [intOf]; omega
    · have HD : Hid (∃ vs, RI wr w.heap.size (.slice oa j oc) ls vs ∧ Below w.heap.size w wr) := by
        have h1 := hR.out
        rw [show ls.take j = ls by rw [show j = ls.length by rw [← HN.out.1]; omega]; exact List.take_length] at h1
        exact h1
      clear hR
      go_wp2
      go_returns
      obtain ⟨vs, h1, h2⟩ := HD.out
      exact ⟨_, vs, rfl, h1, h2⟩

end Go.Proofs.Ytkdpifplhhcpaaa
