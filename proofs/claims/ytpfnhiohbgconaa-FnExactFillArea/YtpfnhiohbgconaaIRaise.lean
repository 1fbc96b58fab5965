/- Proved here: raiseRow: the boxes of a part of a list of the call's own are raised, in place. -/
import Derived.Test.YtpfnhiohbgconaaIRuns
namespace Go.Proofs.Ytpfnhiohbgconaa
open Go.RowKit
set_option linter.unusedVariables false
set_option linter.unusedSimpArgs false

theorem bs_raiseT {w : World} {A go n0 oc q j : Nat} {done last tl : List Bx} {d : Int} (h : BS w A (.slice (some ⟨go, 0, none⟩) n0 oc) (Lj done last d j ++ tl)) (hj : j < last.length) (hq : q = done.length + j) :
    w.cell? ⟨go, q * 4 + 3, none⟩ = some (.int .i64 (bat last j).y1) ∧ w.frozen? ⟨go, q * 4 + 3, none⟩ = false ∧ BS (w.setCell ⟨go, q * 4 + 3, none⟩ (.int .i64 d)) A (.slice (some ⟨go, 0, none⟩) n0 oc) (Lj done last d (j + 1) ++ tl) ∧ w.grownBy (w.setCell ⟨go, q * 4 + 3, none⟩ (.int .i64 d)) (some go) := by
  have hn : (Lj done last d j ++ tl).length = n0 := by obtain ⟨a, c, e⟩ := h.form; injection e with _ e2 _; exact e2.symm
  have hL := Lj_set (done := done) (d := d) hj
  have hql : q < (Lj done last d j).length := by rw [Lj_length (by omega)]; omega
  have hq2 : q < (Lj done last d j ++ tl).length := by rw [List.length_append]; omega
  have hbt : bat (Lj done last d j ++ tl) q = bat last j := by
    rw [← hL.1, ← hq, bat_get hq2, bat_get hql, List.getElem_append_left hql]
  have h' : w.ownsRow A 30 4 (.slice (some ⟨go, 0, none⟩) n0 oc) n0 (bflat (Lj done last d j ++ tl)) := by have := h; unfold BS at this; rwa [hn] at this
  refine ⟨?_, World.ownsRow.frozenAt h' _, ?_⟩
  · rw [h.ats hn q 3 hq2 (by omega), hbt]; rfl
  · have hs := World.ownsRow.stored h' (q * 4 + 3) (.int .i64 d)
    refine ⟨?_, hs.2⟩
    rw [bflat_set _ q 3 hq2 (by omega) ⟨(bat last j).x0, (bat last j).y0, (bat last j).x1, d⟩ _ (by rw [hbt]; rfl), List.set_append_left _ _ hql, hq, hL.2] at hs
    have hn2 : (Lj done last d (j + 1) ++ tl).length = n0 := by rw [← hn, List.length_append, List.length_append, Lj_length (by omega), Lj_length (by omega)]
    unfold BS
    rw [hn2, hq]
    exact hs.1

set_option maxRecDepth 10000 in
set_option maxHeartbeats 2000000 in
theorem impl_raise (go n0 oc n c dl : Nat) (A : Nat) (done last tl : List Bx) (d : Int) (w : World) (hl : Hid (last.length = n)) (hdl : Hid (done.length = dl)) (hn : n ≤ 100000000000) (hA : A ≤ w.heap.size) (h : Hid (BS w A (.slice (some ⟨go, 0, none⟩) n0 oc) (done ++ last ++ tl))) :
    Calls Try.prog 126 #[.slice (some ⟨go, dl * 4, none⟩) n c, .int .i64 d] w fun e w' => e = .returned (.tuple #[]) ∧ BS w' A (.slice (some ⟨go, 0, none⟩) n0 oc) (done ++ raise last d ++ tl) ∧ Below A w w' := by
  go_enter Try.func126, Try.ntmps126
  go_wp2
  go_loopw [7] (fun i wr => ∃ k : Nat, k ≤ n ∧ i = .int .i64 k ∧ Hid (BS wr A (.slice (some ⟨go, 0, none⟩) n0 oc) (Lj done last d k ++ tl) ∧ Below A w wr ∧ w.heap.size ≤ wr.heap.size)) (fun i _ => n - (intOf i).toNat)
  case atStart => exact ⟨0, Nat.zero_le _, rfl, by rw [Lj_zero]; exact h.out, Below.refl _ _, Nat.le_refl _⟩
  case round =>
    obtain ⟨k, hk, rfl, hR⟩ := hrel
    by_cases hlt : k < n
    · have hst := bs_raiseT hR.out.1 (j := k) (q := dl + k) (by rw [hl.out]; exact hlt) (by rw [hdl.out])
      have hge := (World.ownsRow.lt hR.out.1 go rfl).1
      have hbl : Below A w (wr.setCell ⟨go, (dl + k) * 4 + 3, none⟩ (.int .i64 d)) := hR.out.2.1.setCell hge _
      have hzz : w.heap.size ≤ (wr.setCell ⟨go, (dl + k) * 4 + 3, none⟩ (.int .i64 d)).heap.size := by simpa using hR.out.2.2
      rw [Nat.add_mul] at hst hbl hzz
      obtain ⟨hc, hf, hb, _⟩ := hst
      have R : Hid _ := And.intro hb (And.intro hbl hzz)
      clear hb hbl hzz hR
      have b0 : (0 : Int) ≤ (k : Int) := by omega
      have b1 : (k : Int) < (n : Int) := by omega
      go_wp2
      go_roundw
      case rel => exact ⟨k + 1, by omega, by go_num, R.out⟩
      case measure => simp [intOf]; omega
    · have e : Hid (k = last.length) := by unfold Hid; rw [hl.out]; omega
      go_wp2
      go_returns
      refine ⟨rfl, ?_, hR.out.2.1⟩
      rw [← Lj_full, ← e.out]
      exact hR.out.1

end Go.Proofs.Ytpfnhiohbgconaa
