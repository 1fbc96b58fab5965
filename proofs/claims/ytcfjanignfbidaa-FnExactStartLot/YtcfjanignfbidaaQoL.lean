/- Proved here: the lot of an id in an open book, where it lies. -/
import Derived.Test.YtcfjanignfbidaaQoA
namespace Go.Proofs.Ytcfjanignfbidaa
open Go.RowKit Go.Maps
set_option linter.unusedVariables false
set_option linter.unusedSimpArgs false

theorem plF_at {ls : List Lo} : ∀ {n : Nat}, n ≤ ls.length → (∀ i j (hi : i < ls.length) (hj : j < ls.length), i < j → ls[i].id ≠ ls[j].id) → ∀ i (hi : i < ls.length), i < n → plF ls n ls[i].id = some (i : Int) := by
  intro n
  induction n with
  | zero => intro _ _ i _ h; omega
  | succ n ih =>
    intro hn hne i hi h
    unfold plF
    rw [idA_at (by omega)]
    by_cases e : i = n
    · subst e; rw [if_pos rfl]
    · rw [if_neg (fun e2 => hne i n hi (by omega) (by omega) e2.symm)]
      exact ih (by omega) hne i hi (by omega)
/-- A lot in memory. -/
structure AtL (w : World) (g i : Nat) (x : Lr) : Prop where
  c : w.cell? ⟨g, i * 5, none⟩ = some (.int .i64 x.id) ∧ w.cell? ⟨g, i * 5 + 1, none⟩ = some (.int .i64 x.pa) ∧ w.cell? ⟨g, i * 5 + 2, none⟩ = some (.slice x.wa x.wn x.wc) ∧ w.cell? ⟨g, i * 5 + 3, none⟩ = some (.bool x.hd) ∧ w.cell? ⟨g, i * 5 + 4, none⟩ = some (.slice x.da x.dn x.dc)
  l : g < w.heap.size
theorem OB.row {V : World} {B K bp bm : Nat} {vw vl vs : Value} {f : Lit → Option Sv} {b : Bk} {rs : List Lr} (h : OB V B K bp bm vw vl vs f b rs) (hp : 0 < b.ls.length) :
    ∃ g c, vl = .slice (some ⟨g, 0, none⟩) b.ls.length c ∧ B ≤ g ∧ g < V.heap.size ∧ ∀ i (hi : i < rs.length), AtL V g i rs[i] := by
  have h9 := h.pb.row
  rcases h9.2 with ⟨_, h0⟩ | ⟨g, cap, cur, e, hB, hg, hn, hm, hs, ht⟩
  · rw [h.pb.len] at h0; omega
  · subst e
    have hlt := (OG.lt h9 g rfl).2
    refine ⟨g, cap, by rw [h.pb.len], hB, hlt, fun i hi => ⟨?_, hlt⟩⟩
    obtain ⟨g', o', c', e, _, hc⟩ := (OG.rg lrC_len h9).pos (by omega)
    injection e with e1
    injection e1 with e1
    injection e1 with e1 e2
    subst e1 e2
    have := lrC_at (hc i hi)
    simpa using this

set_option maxRecDepth 20000 in
set_option maxHeartbeats 3200000 in
theorem impl_lot {w : World} {B K bp bm g c : Nat} {vw vs : Value} {f : Lit → Option Sv} {b : Bk} {rs : List Lr} {i : Nat} (n : Nat) (hn : n = b.ls.length) (h : OB w B K bp bm vw (.slice (some ⟨g, 0, none⟩) n c) vs f b rs) (hi : i < b.ls.length) (id : Int) (hid : id = b.ls[i].id) :
    Calls Try.prog 56 #[.pointer (some ⟨K, 0, none⟩), .int .i64 id] w fun e w' => e = .returned (.pointer (some ⟨g, i * 5, none⟩)) ∧ Below w.heap.size w w' := by
  have hidw : (Lit.int .i64 id).wf = true := wf64 (by rw [hid]; have := h.id i hi; omega)
  have HL : Hid (∀ W, Below w.heap.size w W → (Instr.lookup 68 (.map (some bp)) (.int .i64 id) false).run Try.prog W = .ok (.int .i64 (i : Int)) W) := fun W hb => by
    have := (h.ip.below hb).look (T := 68) lp_ty in_ty (in_zero W) hidw
    rw [hid, plF_at (Nat.le_refl _) h.ne i hi hi] at this
    rw [hid]; exact this
  obtain ⟨k0, k1, k2, k3, k4, k5, kl⟩ := six_of h.bx
  have hin : (i : Int) < (n : Int) := by omega
  have hi0 : (0 : Int) ≤ (i : Int) := by omega
  clear h hidw hid hn k0 k1 k3 k5
  go_enter Try.func56, Try.ntmps56
  go_wp2
  refine wp_region_holdsA (S := KA w.heap.size w) (by kernel_rfl) (KA.of ((Below.refl _ _).drew)) (fun hS => ?_)
  refine fl_takeA (i := 0) (d := 5) (v := .pointer (some ⟨K, 0, none⟩)) rfl rfl rfl (by kernel_rfl) (by kernel_rfl) (by kernel_rfl) hS ?_ ?_
  · intro w' hk; unfold KA at hk; go_simp
  simp only [Act.put, List.setIfInBounds_toArray, List.set_cons_zero, List.set_cons_succ]
  refine fl_takeA (i := 1) (d := 6) (v := .pointer (some ⟨K, 0, none⟩)) rfl rfl rfl (by kernel_rfl) (by kernel_rfl) (by kernel_rfl) hS ?_ ?_
  · intro w' hk; unfold KA at hk; go_simp
  simp only [Act.put, List.setIfInBounds_toArray, List.set_cons_zero, List.set_cons_succ]
  refine fl_takeA (i := 2) (d := 7) (v := .pointer (some ⟨K, 0, none⟩)) rfl rfl rfl (by kernel_rfl) (by kernel_rfl) (by kernel_rfl) hS ?_ ?_
  · intro w' hk; unfold KA at hk; go_simp
  simp only [Act.put, List.setIfInBounds_toArray, List.set_cons_zero, List.set_cons_succ]
  refine fl_takeA (i := 3) (d := 8) (v := .pointer (some ⟨K, 2, none⟩)) rfl rfl rfl (by kernel_rfl) (by kernel_rfl) (by kernel_rfl) hS ?_ ?_
  · intro w' hk; unfold KA at hk; go_simp
  simp only [Act.put, List.setIfInBounds_toArray, List.set_cons_zero, List.set_cons_succ]
  refine fl_takeA (i := 4) (d := 9) (v := .slice (some ⟨g, 0, none⟩) n c) rfl rfl rfl (by kernel_rfl) (by kernel_rfl) (by kernel_rfl) hS ?_ ?_
  · intro w' hk; unfold KA at hk; go_simp
  simp only [Act.put, List.setIfInBounds_toArray, List.set_cons_zero, List.set_cons_succ]
  refine fl_takeA (i := 5) (d := 10) (v := .pointer (some ⟨K, 0, none⟩)) rfl rfl rfl (by kernel_rfl) (by kernel_rfl) (by kernel_rfl) hS ?_ ?_
  · intro w' hk; unfold KA at hk; go_simp
  simp only [Act.put, List.setIfInBounds_toArray, List.set_cons_zero, List.set_cons_succ]
  refine fl_takeA (i := 6) (d := 11) (v := .pointer (some ⟨K, 0, none⟩)) rfl rfl rfl (by kernel_rfl) (by kernel_rfl) (by kernel_rfl) hS ?_ ?_
  · intro w' hk; unfold KA at hk; go_simp
  simp only [Act.put, List.setIfInBounds_toArray, List.set_cons_zero, List.set_cons_succ]
  refine fl_takeA (i := 7) (d := 12) (v := .pointer (some ⟨K, 4, none⟩)) rfl rfl rfl (by kernel_rfl) (by kernel_rfl) (by kernel_rfl) hS ?_ ?_
  · intro w' hk; unfold KA at hk; go_simp
  simp only [Act.put, List.setIfInBounds_toArray, List.set_cons_zero, List.set_cons_succ]
  refine fl_takeA (i := 8) (d := 13) (v := .map (some bp)) rfl rfl rfl (by kernel_rfl) (by kernel_rfl) (by kernel_rfl) hS ?_ ?_
  · intro w' hk; unfold KA at hk; go_simp
  simp only [Act.put, List.setIfInBounds_toArray, List.set_cons_zero, List.set_cons_succ]
  refine fl_takeA (i := 9) (d := 14) (v := .int .i64 id) rfl rfl rfl (by kernel_rfl) (by kernel_rfl) (by kernel_rfl) hS ?_ ?_
  · intro w' hk; unfold KA at hk; go_simp
  simp only [Act.put, List.setIfInBounds_toArray, List.set_cons_zero, List.set_cons_succ]
  refine fl_takeA (i := 10) (d := 15) (v := .int .i64 (i : Int)) rfl rfl rfl (by kernel_rfl) (by kernel_rfl) (by kernel_rfl) hS ?_ ?_
  · intro w' hk; have hl := HL.out w' hk.2; unfold KA at hk; go_simp
  simp only [Act.put, List.setIfInBounds_toArray, List.set_cons_zero, List.set_cons_succ]
  refine fl_takeA (i := 11) (d := 16) (v := .pointer (some ⟨g, i * 5, none⟩)) rfl rfl rfl (by kernel_rfl) (by kernel_rfl) (by kernel_rfl) hS ?_ ?_
  · intro w' hk; unfold KA at hk; go_simp
  simp only [Act.put, List.setIfInBounds_toArray, List.set_cons_zero, List.set_cons_succ]
  refine fl_takeA (i := 12) (d := 4) (v := .pointer (some ⟨g, i * 5, none⟩)) rfl rfl rfl (by kernel_rfl) (by kernel_rfl) (by kernel_rfl) hS ?_ ?_
  · intro w' hk; unfold KA at hk; go_simp
  simp only [Act.put, List.setIfInBounds_toArray, List.set_cons_zero, List.set_cons_succ]
  refine wpAnyH_done (by kernel_rfl) (NoPanic.normal ?_) _
  go_wp2
  go_returns
  exact ⟨rfl, hS.2⟩

end Go.Proofs.Ytcfjanignfbidaa
