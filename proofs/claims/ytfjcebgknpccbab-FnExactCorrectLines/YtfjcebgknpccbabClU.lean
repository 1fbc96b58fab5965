/- Proved here: the model's lines with one end turned. -/
import Derived.Test.YtfjcebgknpccbabClD
import Derived.Test.YtfjcebgknpccbabLnB
import Derived.Deep.DeepCutAuto
namespace Go.Proofs.Ytfjcebgknpccbab
open Go.RowKit
set_option linter.unusedVariables false
set_option linter.unusedSimpArgs false

theorem lnC_flL (s : List Ln) : s.flatMap lnC = (flL s).map (Value.int .i64) := by
  induction s with
  | nil => rfl
  | cons x t ih => simp only [flL, List.flatMap_cons, List.map_append] at ih ⊢; rw [ih]; rfl
theorem rg_news {w : World} {ad : Addr} {n c : Nat} {s : List Ln} (h : RG 2 lnC w (.slice (some ad) n c) s) : ∀ j u, (s.flatMap lnC)[j]? = some u → w.cell? (ad.add j) = some u := by
  intro j u hu
  rw [lnC_flL, List.getElem?_map] at hu
  have hj : j < 2 * s.length := by
    rcases Nat.lt_or_ge j (2 * s.length) with h' | h'
    · exact h'
    · rw [List.getElem?_eq_none (by rw [flL_len]; exact h')] at hu; cases hu
  rw [flL_get s j hj] at hu
  obtain ⟨g, o, c2, he, hg, hc⟩ := h.pos (by omega)
  simp only [Value.slice.injEq, Option.some.injEq] at he
  obtain ⟨rfl, _, _⟩ := he
  have hi : j / 2 < s.length := by omega
  rw [lnAt_get hi] at hu
  rw [Addr.add_lit]
  have h2 := hc (j / 2) hi (j % 2) (by omega)
  rw [show o + j / 2 * 2 + j % 2 = o + j by omega] at h2
  rw [h2]
  rcases (by omega : j % 2 = 0 ∨ j % 2 = 1) with e | e
  · rw [e] at hu ⊢
    rw [if_pos rfl] at hu
    exact hu
  · rw [e] at hu ⊢
    rw [if_neg (by decide)] at hu
    exact hu
theorem ln_one (s : List Ln) : ∀ u ∈ s.flatMap lnC, u.oneCell' = true := by
  intro u hu
  obtain ⟨x, _, hx⟩ := List.mem_flatMap.1 hu
  exact lnC_one x u hx
theorem ln_len (s : List Ln) : (s.flatMap lnC).length = s.length * 2 := by rw [lnC_flL, List.length_map, flL_len]; omega
theorem OG.atE {w : World} {B g n c : Nat} {s : List Ln} (h : OG 57 2 lnC w B (.slice (some ⟨g, 0, none⟩) n c) s) {j : Nat} (hj : j < 2 * s.length) : w.cell? ⟨g, j, none⟩ = some (.int .i64 ((flL s).getD j 0)) ∧ w.frozen? ⟨g, j, none⟩ = false := by
  have hn : n = s.length := by obtain ⟨_, _, e⟩ := (OG.rg lnC_len h).form; injection e
  subst hn
  refine ⟨?_, World.ownsRow.frozenAt h j⟩
  rw [World.ownsRow.cellAt h j (by omega), lnC_flL]
  simp [List.getElem?_map, List.getElem?_eq_getElem (show j < (flL s).length by rw [flL_len]; exact hj)]
theorem OG.turn {w : World} {B g n c : Nat} {s : List Ln} (h : OG 57 2 lnC w B (.slice (some ⟨g, 0, none⟩) n c) s) {j : Nat} (hj : j < 2 * s.length) (d : Int) : OG 57 2 lnC (w.setCell ⟨g, j, none⟩ (.int .i64 ((flL s).getD j 0 + d))) B (.slice (some ⟨g, 0, none⟩) n c) (turnE s j d) := by
  have hn : n = s.length := by obtain ⟨_, _, e⟩ := (OG.rg lnC_len h).form; injection e
  subst hn
  have := (World.ownsRow.stored h j (.int .i64 ((flL s).getD j 0 + d))).1
  unfold OG
  rw [turnE_len, lnC_flL, flL_turn d hj, List.map_set, ← lnC_flL]
  exact this

set_option maxHeartbeats 6400000 in
theorem spec_tu {w : World} {ad : Addr} {n c : Nat} {ls : List Ln} (i : Nat) (fr : Bool) (d : Int) (hi : i < n) (hn : n ≤ 12) (hd : d = 1 ∨ d = -1) (hbd : ∀ x ∈ flL ls, 0 ≤ x ∧ x ≤ 60) (h : RG 2 lnC w (.slice (some ad) n c) ls) :
    Calls Try.prog 25 #[.slice (some ad) n c, .int .i64 i, .bool fr, .int .i64 d] w fun e w' => ∃ g c', e = .returned (.slice (some ⟨g, 0, none⟩) n c') ∧ OG 57 2 lnC w' w.heap.size (.slice (some ⟨g, 0, none⟩) n c') (turnE ls (2 * i + (if fr then 0 else 1)) d) ∧ Below w.heap.size w w' := by
  have hnl : n = ls.length := by obtain ⟨_, _, e⟩ := h.form; injection e
  obtain ⟨i0, hi0, hz0, hz1, hz2⟩ := info_parts info_Line
  have HO : Hid ((w.alloc (.cells #[] 57)).ownsRow w.heap.size 57 2 (.slice (some ⟨w.heap.size, 0, none⟩) 0 0) 0 []) := by
    have := World.ownsRow_lit (e := 57) (size := 2) (base := w.heap.size) w #[] 0 (by simp) (by decide) (by simp)
    unfold Hid
    simpa using this
  have HR : Hid (RG 2 lnC (w.alloc (.cells #[] 57)) (.slice (some ad) n c) ls) := h.below (by (repeat' (first | (with_reducible exact Below.refl _ _) | (with_reducible assumption) | (with_reducible refine Below.setCell ?_ ?_ _) | (with_reducible refine Below.alloc ?_ ?_ _) | (with_reducible refine below_drewN ?_ _) | (with_reducible refine Below.drew ?_) | (with_reducible exact Nat.le_refl _) | omega | (simp; done) | (simp; omega))))
  have HL : Hid ((ls.flatMap lnC).length = n * 2) := by unfold Hid; rw [ln_len, hnl]
  have H : Hid (n = ls.length ∧ (∀ x ∈ flL ls, 0 ≤ x ∧ x ≤ 60)) := ⟨hnl, hbd⟩
  clear h hbd hnl
  go_enter Try.func25, Try.ntmps25
  go_upto_region 2 with (at_builtin; refine wpList_append_own _ rfl _ _ 28 rfl w.heap.size 57 i0 (.agg #[.int .i64 0, .int .i64 0]) 2 16 Try.underlying28 hi0 hz0 hz1 hz2 rfl (by decide) (.slice (some ⟨w.heap.size, 0, none⟩) 0 0) 0 [] rfl HO.out ad n c (ls.flatMap lnC) rfl HL.out (rg_news HR.out) (ln_one ls) (by unfold maxLen; omega) (by omega) (by simp) ?_; intro v6 w6 hown6 hgrow6 hnn6)
  have HB6 : Hid (Below w.heap.size w w6) := (show Below w.heap.size w _ from by (repeat' (first | (with_reducible exact Below.refl _ _) | (with_reducible assumption) | (with_reducible refine Below.setCell ?_ ?_ _) | (with_reducible refine Below.alloc ?_ ?_ _) | (with_reducible refine below_drewN ?_ _) | (with_reducible refine Below.drew ?_) | (with_reducible exact Nat.le_refl _) | omega | (simp; done) | (simp; omega)))).grown hgrow6 (by simp) (fun q hq => by have := (World.ownsRow.lt HO.out q hq).1; omega)
  obtain ⟨g6, c6, hv6⟩ : ∃ g c, v6 = .slice (some ⟨g, 0, none⟩) n c := by
    rcases hown6.2 with ⟨_, h0⟩ | ⟨g, cap, cur, h1, _⟩
    · omega
    · exact ⟨g, cap, by rw [h1]; simp⟩
  subst hv6
  have ho6 : OG 57 2 lnC w6 w.heap.size (.slice (some ⟨g6, 0, none⟩) n c6) ls := by
    unfold OG
    rw [← H.out.1]
    simpa using hown6
  clear hown6 hgrow6 hnn6 HO HR HL
  have b0 : (0 : Int) ≤ (i : Int) := by omega
  have b1 : (i : Int) < (n : Int) := by omega
  cases fr with
  | true =>
    have hj : i * 2 < 2 * ls.length := by have := H.out.1; omega
    obtain ⟨k0, kf⟩ := ho6.atE hj
    have HT := ho6.turn hj d
    obtain ⟨x, hx⟩ : ∃ x, x = (flL ls).getD (i * 2) 0 := ⟨_, rfl⟩
    have hxb : 0 ≤ x ∧ x ≤ 60 := by
      have hl : i * 2 < (flL ls).length := by rw [flL_len]; exact hj
      apply H.out.2
      rw [hx, List.getD_eq_getElem?_getD, List.getElem?_eq_getElem hl]
      exact List.getElem_mem hl
    have hgl := OG.lt ho6 g6 rfl
    rw [← hx] at k0 HT
    have HF : Hid (OG 57 2 lnC (w6.setCell ⟨g6, i * 2, none⟩ (.int .i64 (x + d))) w.heap.size (.slice (some ⟨g6, 0, none⟩) n c6) (turnE ls (2 * i + 0) d) ∧ Below w.heap.size w (w6.setCell ⟨g6, i * 2, none⟩ (.int .i64 (x + d)))) := ⟨by rw [show 2 * i + 0 = i * 2 by omega]; exact HT, HB6.out.setCell hgl.1 _⟩
    have e1 : IntKind.i64.wrap (x + d) = x + d := by rw [IntKind.wrap_i64]; omega
    clear HT ho6 hx hj
    go_wp2
    go_returns
    exact ⟨_, _, rfl, HF.out.1, HF.out.2⟩
  | false =>
    have hj : i * 2 + 1 < 2 * ls.length := by have := H.out.1; omega
    obtain ⟨k0, kf⟩ := ho6.atE hj
    have HT := ho6.turn hj d
    obtain ⟨x, hx⟩ : ∃ x, x = (flL ls).getD (i * 2 + 1) 0 := ⟨_, rfl⟩
    have hxb : 0 ≤ x ∧ x ≤ 60 := by
      have hl : i * 2 + 1 < (flL ls).length := by rw [flL_len]; exact hj
      apply H.out.2
      rw [hx, List.getD_eq_getElem?_getD, List.getElem?_eq_getElem hl]
      exact List.getElem_mem hl
    have hgl := OG.lt ho6 g6 rfl
    rw [← hx] at k0 HT
    have HF : Hid (OG 57 2 lnC (w6.setCell ⟨g6, i * 2 + 1, none⟩ (.int .i64 (x + d))) w.heap.size (.slice (some ⟨g6, 0, none⟩) n c6) (turnE ls (2 * i + 1) d) ∧ Below w.heap.size w (w6.setCell ⟨g6, i * 2 + 1, none⟩ (.int .i64 (x + d)))) := ⟨by rw [show 2 * i + 1 = i * 2 + 1 by omega]; exact HT, HB6.out.setCell hgl.1 _⟩
    have e1 : IntKind.i64.wrap (x + d) = x + d := by rw [IntKind.wrap_i64]; omega
    clear HT ho6 hx hj
    go_wp2
    go_returns
    exact ⟨_, _, rfl, HF.out.1, HF.out.2⟩

end Go.Proofs.Ytfjcebgknpccbab
