/- Proved here: a job is that one; slices.IndexFunc, slices.DeleteFunc at jobs, where one alone is meant. -/
import Derived.Test.YtjbghflphngnkaaRrM
import Derived.Test.YtjbghflphngnkaaJoW
import Derived.Lib.SliceRun
namespace Go.Proofs.Ytjbghflphngnkaa
open Go.RowKit
set_option linter.unusedVariables false
set_option linter.unusedSimpArgs false


theorem is_run (x y : Jb) (W : World) : Calls Try.prog 43 #[.agg #[.int .i64 x.id, .int .i64 x.co, .int .i64 x.ti, .int .i64 x.se, .int .i64 x.du, .int .i64 x.we, .int .i64 x.ki], .agg #[.int .i64 y.id, .int .i64 y.co, .int .i64 y.ti, .int .i64 y.se, .int .i64 y.du, .int .i64 y.we, .int .i64 y.ki]] W fun e w' => e = .returned (.bool (x.id == y.id)) ∧ Below W.heap.size W w' := by
  go_enter Try.func43, Try.ntmps43
  go_wp2
  go_returns
  exact ⟨by first | rfl | simp, by (repeat' (first | (with_reducible exact Below.refl _ _) | (with_reducible assumption) | (with_reducible refine Below.setCell ?_ ?_ _) | (with_reducible refine Below.alloc ?_ ?_ _) | (with_reducible refine below_drewN ?_ _) | (with_reducible refine Below.drew ?_) | (with_reducible exact Nat.le_refl _) | omega | (simp; done) | (simp; omega)))⟩
set_option maxRecDepth 10000 in
set_option maxHeartbeats 6400000 in
theorem ix_run {W : World} {v : Value} {s : List Jb} {y : Jb} {b : Nat} (hn : s.length ≤ 1000) (hb : b < s.length) (hy : (jA s b).id = y.id) (hu : ∀ i, i < s.length → (jA s i).id = y.id → i = b) (hs : RG 7 jbC W v s) :
    Calls Try.prog 77 #[v, .func (Fn.func 43) #[.agg #[.int .i64 y.id, .int .i64 y.co, .int .i64 y.ti, .int .i64 y.se, .int .i64 y.du, .int .i64 y.we, .int .i64 y.ki]] #[]] W fun e w' => e = .returned (.int .i64 b) ∧ Below W.heap.size W w' := by
  obtain ⟨a, c, rfl⟩ := hs.form
  obtain ⟨n, hnn⟩ : ∃ n, n = s.length := ⟨_, rfl⟩
  rw [← hnn] at hn hb hs ⊢
  have H : Hid (RG 7 jbC W (.slice a n c) s ∧ n = s.length ∧ (jA s b).id = y.id ∧ ∀ i, i < s.length → (jA s i).id = y.id → i = b) := ⟨hs, hnn, hy, hu⟩
  have HIS : Hid (∀ (x : Jb) (X : World), Calls Try.prog 43 #[.agg #[.int .i64 y.id, .int .i64 y.co, .int .i64 y.ti, .int .i64 y.se, .int .i64 y.du, .int .i64 y.we, .int .i64 y.ki], .agg #[.int .i64 x.id, .int .i64 x.co, .int .i64 x.ti, .int .i64 x.se, .int .i64 x.du, .int .i64 x.we, .int .i64 x.ki]] X fun e w' => e = .returned (.bool (y.id == x.id)) ∧ Below X.heap.size X w') := fun x X => is_run y x X
  clear hs hnn hy hu
  go_enter Try.func77, Try.ntmps77
  go_wp2
  go_loopw [8] (fun i wr => ∃ t : Nat, t ≤ b ∧ i = .int .i64 t ∧ Hid (Below W.heap.size W wr)) (fun i _ => n - (intOf i).toNat)
  case atStart => exact ⟨0, Nat.zero_le _, rfl, Below.refl _ _⟩
  case round =>
    obtain ⟨t, ht, rfl, hR⟩ := hrel
    have htl : t < s.length := by rw [← H.out.2.1]; omega
    obtain ⟨g, o, c2, he, hg, hj⟩ := (H.out.1.below hR.out).pos (by omega)
    simp only [Value.slice.injEq] at he
    obtain ⟨rfl, hx1, hx2⟩ := he
    clear hx1 hx2
    obtain ⟨c0, c1, c2, c3, c4, c5, c6⟩ := jbC_at (hj t htl)
    obtain ⟨x, hx⟩ : ∃ x, x = s[t] := ⟨_, rfl⟩
    rw [← hx] at c0 c1 c2 c3 c4 c5 c6
    obtain ⟨q, hq⟩ : ∃ q, q = (y.id == x.id) := ⟨_, rfl⟩
    have HQ : Hid (q = decide (t = b)) := by
      unfold Hid
      have e : x = jA s t := by rw [jA_at htl]; exact hx
      rw [hq]
      by_cases h : t = b
      · subst h; rw [decide_eq_true rfl, e, beq_iff_eq]; exact H.out.2.2.1.symm
      · rw [decide_eq_false h, beq_eq_false_iff_ne, e]; exact fun e2 => h (H.out.2.2.2 t htl e2.symm)
    have HC2 : Hid (Calls Try.prog 43 #[.agg #[.int .i64 y.id, .int .i64 y.co, .int .i64 y.ti, .int .i64 y.se, .int .i64 y.du, .int .i64 y.we, .int .i64 y.ki], .agg #[.int .i64 x.id, .int .i64 x.co, .int .i64 x.ti, .int .i64 x.se, .int .i64 x.du, .int .i64 x.we, .int .i64 x.ki]] wr fun e w' => e = .returned (.bool q) ∧ Below wr.heap.size wr w') := by rw [hq]; exact HIS.out x wr
    clear hj hx hq
    have b0 : (0 : Int) ≤ (t : Int) := by omega
    have b1 : (t : Int) < (n : Int) := by omega
    go_wp2_with (fail)
    refine HC2.out.mono ?_
    rintro e w5 ⟨rfl, hb5⟩
    have HB : Hid (Below W.heap.size W w5) := hR.out.trans (hb5.mono hR.out.size)
    clear HC2 hb5 hR c0 c1 c2 c3 c4 c5 c6 hg
    cases q with
    | true =>
      have hh : t = b := of_decide_eq_true HQ.out.symm
      clear HQ
      go_wp2
      go_returns
      exact ⟨by rw [← hh]; rfl, HB.out⟩
    | false =>
      have hh : ¬ t = b := of_decide_eq_false HQ.out.symm
      clear HQ
      go_wp2
      go_roundw
      case rel => exact ⟨t + 1, by omega, by go_num, HB.out⟩
      case measure => simp [intOf]; omega
theorem OJ.front {w : World} {lo g n cap : Nat} {l : List Jb} (h : OJ w lo g n cap l) (m : Nat) (hm : m ≤ n) : OJ w lo g m cap (l.take m) := by
  have hn := h.len
  have h' : w.ownsRow lo 51 7 (.slice (some ⟨g, 0, none⟩) n cap) l.length (l.flatMap jbC) := h
  rw [← hn] at h'
  show w.ownsRow lo 51 7 (.slice (some ⟨g, 0, none⟩) m cap) (l.take m).length ((l.take m).flatMap jbC)
  have hlm : (l.take m).length = m := by rw [List.length_take]; omega
  rw [hlm]
  refine ⟨by rw [fm_length jbC_len, hlm], Or.inr ?_⟩
  rcases h'.2 with ⟨e, _⟩ | ⟨g', cap', cur, e, hB, hg, hnn, hmm, hs, ht⟩
  · cases e
  · simp only [Value.slice.injEq, Option.some.injEq, Addr.mk.injEq, and_true, true_and] at e
    obtain ⟨rfl, rfl⟩ := e
    refine ⟨g, cap, cur, rfl, hB, hg, by omega, hmm, hs, ?_⟩
    have h2 := congrArg (List.take (m * 7)) ht
    rw [List.take_take, Nat.min_eq_left (by omega)] at h2
    rw [h2]
    rw [show l.flatMap jbC = (l.take m).flatMap jbC ++ (l.drop m).flatMap jbC by rw [← List.flatMap_append, List.take_append_drop]]
    rw [List.take_left' (by rw [fm_length jbC_len, hlm])]
theorem clear_one {w : World} {g o c : Nat} {ty : TypeId} (hc : ∀ i, i < 7 → (w.cell? ⟨g, o + i, none⟩).isSome = true) (hf : ∀ i, i < 7 → w.frozen? ⟨g, o + i, none⟩ = false) :
    (Builtin.clear_ #[28] ty #[.slice (some ⟨g, o, none⟩) 1 c]).run Try.prog w = .ok (.tuple #[]) (w.setCells g o (List.replicate 7 (.int .i64 0))) := by
  obtain ⟨i0, hi0, hz0, hz1, hz2⟩ := info_parts info_Job
  have hst := run_storeCells_cells (P := Try.prog) g o (List.replicate 7 (.int .i64 0)) 0 w (by simpa using hc) (by simpa using hf) (by intro v hv'; rw [List.eq_of_mem_replicate hv']; rfl)
  simp only [Nat.add_zero] at hst
  have hz48 : Try.t51.zero = some (.agg #[.int .i64 0, .int .i64 0, .int .i64 0, .int .i64 0, .int .i64 0, .int .i64 0, .int .i64 0]) := by kernel_rfl
  have hst' : (storeCells ⟨g, o, none⟩ (List.replicate 7 (.int .i64 0))).run Try.prog w = .ok () (w.setCells g o (List.replicate 7 (.int .i64 0))) := hst
  have er : (List.range 7).map (fun i => ([Value.int .i64 0, .int .i64 0, .int .i64 0, .int .i64 0, .int .i64 0, .int .i64 0, .int .i64 0] : List Value)[i % 7]?.getD default) = [Value.int .i64 0, .int .i64 0, .int .i64 0, .int .i64 0, .int .i64 0, .int .i64 0, .int .i64 0] := by rfl
  have ez : (.agg #[.int .i64 0, .int .i64 0, .int .i64 0, .int .i64 0, .int .i64 0, .int .i64 0, .int .i64 0] : Value).cells = #[Value.int .i64 0, .int .i64 0, .int .i64 0, .int .i64 0, .int .i64 0, .int .i64 0, .int .i64 0] := rfl
  simp only [List.replicate] at hst' ⊢
  simp [Builtin.clear_, run_underlying Try.underlying28, zeroValue, hz48, Builtin.zeroCells, ez]
  rw [er, hst']
  rfl

end Go.Proofs.Ytjbghflphngnkaa
