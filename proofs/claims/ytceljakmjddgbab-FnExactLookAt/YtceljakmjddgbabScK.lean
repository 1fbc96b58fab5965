/- Proved here: LookAt of the program. -/
import Derived.Test.YtceljakmjddgbabScQ
namespace Go.Proofs.Ytceljakmjddgbab
open Go.RowKit
set_option linter.unusedVariables false
set_option linter.unusedSimpArgs false

theorem kn_at1' (w : World) (a b : Obj) : ((w.alloc a).alloc b).heap[w.heap.size + 1]? = some b := by have := heap_alloc_new (w.alloc a) b; simpa using this

set_option maxRecDepth 10000 in
set_option maxHeartbeats 6400000 in
theorem impl_look {w : World} {v : Value} {s : List (List Flm)} (i z : Int) (hn : SmF s) (h : RsF w v s) :
    Calls Try.prog 33 #[.agg #[v], .int .i64 i, .int .i64 z] w fun e w' => e = .returned (.agg #[.int .i64 (toC s i), .int .i64 (loV s i z)]) ∧ Below w.heap.size w w' := by
  obtain ⟨a, c, rfl⟩ := h.form
  obtain ⟨n, hnn⟩ : ∃ n, n = s.length := ⟨_, rfl⟩
  obtain ⟨C, hC⟩ : ∃ C, C = toC s i := ⟨_, rfl⟩
  obtain ⟨V, hV⟩ : ∃ V, V = loV s i z := ⟨_, rfl⟩
  rw [← hnn] at h ⊢
  rw [← hC, ← hV]
  have hn' : n ≤ 1048576 := by rw [hnn]; exact hn.len
  have HA : Hid (∀ W, Below w.heap.size w W → Calls Try.prog 68 #[.agg #[.slice a n c], .int .i64 i] W fun e w' => e = .returned (.int .i64 C) ∧ Below W.heap.size W w') := fun W hW => by rw [hC]; exact impl_ask i hn (h.below hW)
  have H : Hid (RsF w (.slice a n c) s ∧ n = s.length ∧ C = toC s i ∧ V = loV s i z) := ⟨h, hnn, hC, hV⟩
  clear h hnn hn hC hV
  go_enter Try.func33, Try.ntmps33
  go_wp2_with (fail)
  refine (HA.out _ (by (repeat' (first | (with_reducible exact Below.refl _ _) | (with_reducible assumption) | (with_reducible refine Below.setCell ?_ ?_ _) | (with_reducible refine Below.alloc ?_ ?_ _) | (with_reducible refine below_drewN ?_ _) | (with_reducible refine Below.drew ?_) | (with_reducible exact Nat.le_refl _) | omega | (simp; done) | (simp; omega))))).mono ?_
  rintro e w1 ⟨rfl, hb1⟩
  have k0 := (hb1.block w.heap.size (by simp; omega)).trans ((Below.heap_alloc _ _ _ (by simp)).trans (heap_alloc_new w _))
  have k1 := (hb1.block (w.heap.size + 1) (by simp)).trans (kn_at1' w _ _)
  have q0 : w1.cell? ⟨w.heap.size, 0, none⟩ = some (.slice a n c) := by simp [World.cell?, k0]
  have p0 : w1.cell? ⟨w.heap.size + 1, 0, none⟩ = some (.int .i64 0) := by simp [World.cell?, k1]
  have p1 : w1.cell? ⟨w.heap.size + 1, 1, none⟩ = some (.int .i64 0) := by simp [World.cell?, k1]
  have f0 : w1.frozen? ⟨w.heap.size + 1, 0, none⟩ = false := by simp [World.frozen?, k1]
  have f1 : w1.frozen? ⟨w.heap.size + 1, 1, none⟩ = false := by simp [World.frozen?, k1]
  have q1 : w.heap.size + 1 < w1.heap.size := by have := hb1.size; simp at this; omega
  have HB : Hid (Below w.heap.size w w1) := (show Below w.heap.size w _ from by (repeat' (first | (with_reducible exact Below.refl _ _) | (with_reducible assumption) | (with_reducible refine Below.setCell ?_ ?_ _) | (with_reducible refine Below.alloc ?_ ?_ _) | (with_reducible refine below_drewN ?_ _) | (with_reducible refine Below.drew ?_) | (with_reducible exact Nat.le_refl _) | omega | (simp; done) | (simp; omega)))).trans (hb1.mono (by simp; omega))
  have q2 : w.heap.size < w1.heap.size := by omega
  clear hb1 k0 k1 HA
  by_cases hF : C = 0
  · obtain ⟨hg, hi0, hi1⟩ := toC_ok (H.out.2.2.1 ▸ hF)
    obtain ⟨k, rfl⟩ : ∃ k : Nat, i = (k : Int) := ⟨i.toNat, by omega⟩
    have hk : k < n := by have := H.out.2.1; omega
    obtain ⟨g, o, ua, un, uc, rfl, hgl, c0, hun, hrd⟩ := (H.out.1.below HB.out).at hk
    have hgc := hg.col k (by rw [← H.out.2.1]; exact hk)
    have HV : Hid (V = lkC (s.getD k []) z) := by unfold Hid; rw [H.out.2.2.2, loV, if_pos (H.out.2.2.1 ▸ hF)]; simp
    have hans : ∀ D E : Int, Below w.heap.size w ((w1.setCell ⟨w.heap.size + 1, 0, none⟩ (.int .i64 D)).setCell ⟨w.heap.size + 1, 1, none⟩ (.int .i64 E)) := fun D E => by
      have := HB.out; (repeat' (first | (with_reducible exact Below.refl _ _) | (with_reducible assumption) | (with_reducible refine Below.setCell ?_ ?_ _) | (with_reducible refine Below.alloc ?_ ?_ _) | (with_reducible refine below_drewN ?_ _) | (with_reducible refine Below.drew ?_) | (with_reducible exact Nat.le_refl _) | omega | (simp; done) | (simp; omega)))
    have ANS : Hid (∀ D E : Int, Below w.heap.size w ((w1.setCell ⟨w.heap.size + 1, 0, none⟩ (.int .i64 D)).setCell ⟨w.heap.size + 1, 1, none⟩ (.int .i64 E))) := hans
    obtain ⟨col, hcol⟩ : ∃ x, x = s.getD k [] := ⟨_, rfl⟩
    rw [← hcol] at HV hgc hrd hun
    have HD : Hid (RG 2 flC w1 (.slice ua un uc) col ∧ un = col.length ∧ GC col) := ⟨hrd, hun, hgc⟩
    have hu24 : un ≤ 24 := by rw [hun]; exact hgc.len
    have HP : Hid (w1.heap.size > w.heap.size + 1 ∧ Below w.heap.size w w1 ∧ w1.cell? ⟨w.heap.size + 1, 0, none⟩ = some (.int .i64 0) ∧ w1.cell? ⟨w.heap.size + 1, 1, none⟩ = some (.int .i64 0) ∧ w1.frozen? ⟨w.heap.size + 1, 0, none⟩ = false ∧ w1.frozen? ⟨w.heap.size + 1, 1, none⟩ = false) := ⟨q1, HB.out, p0, p1, f0, f1⟩
    clear hun hrd hgc hg hi1 hcol hans
    have b1 : (k : Int) < (n : Int) := by omega
    subst hF
    by_cases hz : z < 0
    · have HZ : Hid (V = 0) := by unfold Hid; rw [HV.out, lkC, if_pos hz]
      go_wp2
      refine bodyPost_ret (by simp [results, Try.results33, go_sem, p0, p1, q1]; try rfl) rfl ⟨by rw [HZ.out] <;> rfl, ANS.out _ _⟩
    have HZ : Hid (V = lkA col z un) := by unfold Hid; rw [HV.out, lkC, if_neg hz, HD.out.2.1]
    clear HV
    go_wp2
    clear p0 p1 f0 f1 q0 q1 q2 c0 hgl
    go_loopw [8, 27] (fun q i wr => ∃ (j : Nat) (t : Int), j ≤ un ∧ i = .int .i64 j ∧ q = .int .i64 t ∧ 0 ≤ t ∧ t ≤ 100000 ∧ t ≤ z ∧ Hid (t = topA col j ∧ Below w1.heap.size w1 wr)) (fun _ i _ => un - (intOf i).toNat)
    case atStart => exact ⟨0, 0, Nat.zero_le _, rfl, rfl, by omega, by omega, by omega, rfl, Below.refl _ _⟩
    case round =>
      obtain ⟨j, t, hjn, rfl, rfl, ht0, ht1, htz, hR⟩ := hrel
      by_cases hlt : j < un
      · obtain ⟨g2, o2, rfl, hg2, d0, d1⟩ := fl_at (HD.out.1.below hR.out.2) hlt
        obtain ⟨m, hm0⟩ : ∃ x, x = (fat col j).m := ⟨_, rfl⟩
        obtain ⟨x, hxx⟩ : ∃ x, x = (fat col j).t := ⟨_, rfl⟩
        rw [← hm0] at d0
        rw [← hxx] at d1
        have HN : Hid (t + x = topA col (j + 1)) := by unfold Hid; rw [topA, ← hR.out.1, hxx]
        have hjl : j < col.length := by rw [← HD.out.2.1]; exact hlt
        have hx0 := (HD.out.2.2.t hjl).1
        rw [← hxx] at hx0
        have hx1 := (HD.out.2.2.upto (show j + 1 ≤ col.length from hjl)).2
        rw [← HN.out] at hx1
        obtain ⟨w5, hw5⟩ : ∃ y, y = wr.alloc (.cells #[.int .i64 m, .int .i64 x] 76) := ⟨_, rfl⟩
        have hb5 : Below w1.heap.size w1 w5 := hR.out.2.trans (by rw [hw5]; have := hR.out.2.size; (repeat' (first | (with_reducible exact Below.refl _ _) | (with_reducible assumption) | (with_reducible refine Below.setCell ?_ ?_ _) | (with_reducible refine Below.alloc ?_ ?_ _) | (with_reducible refine below_drewN ?_ _) | (with_reducible refine Below.drew ?_) | (with_reducible exact Nat.le_refl _) | omega | (simp; done) | (simp; omega))))
        have hk5 : w5.heap[wr.heap.size]? = some (.cells #[.int .i64 m, .int .i64 x] 76) := by rw [hw5]; exact heap_alloc_new _ _
        have m0 : w5.cell? ⟨wr.heap.size, 0, none⟩ = some (.int .i64 m) := by simp [World.cell?, hk5]
        have m1 : w5.cell? ⟨wr.heap.size, 1, none⟩ = some (.int .i64 x) := by simp [World.cell?, hk5]
        have HM : Hid (m = (fat col j).m ∧ t = topA col j ∧ Below w1.heap.size w1 w5 ∧ Below w.heap.size w w5) := ⟨hm0, hR.out.1, hb5, HP.out.2.1.trans (hb5.mono HP.out.2.1.size)⟩
        have HQ : Hid (w.heap.size + 1 < w5.heap.size ∧ w5.cell? ⟨w.heap.size + 1, 0, none⟩ = some (.int .i64 0) ∧ w5.cell? ⟨w.heap.size + 1, 1, none⟩ = some (.int .i64 0) ∧ w5.frozen? ⟨w.heap.size + 1, 0, none⟩ = false ∧ w5.frozen? ⟨w.heap.size + 1, 1, none⟩ = false) :=
          ⟨Nat.lt_of_lt_of_le HP.out.1 hb5.size, (hb5.cell (p := ⟨w.heap.size + 1, 0, none⟩) HP.out.1).trans HP.out.2.2.1, (hb5.cell (p := ⟨w.heap.size + 1, 1, none⟩) HP.out.1).trans HP.out.2.2.2.1, (hb5.frozen (p := ⟨w.heap.size + 1, 0, none⟩) HP.out.1).trans HP.out.2.2.2.2.1, (hb5.frozen (p := ⟨w.heap.size + 1, 1, none⟩) HP.out.1).trans HP.out.2.2.2.2.2⟩
        have HW5 : Hid (w5 = wr.alloc (.cells #[.int .i64 m, .int .i64 x] 76)) := hw5
        clear hR hm0 hxx hb5 hk5 hw5 hjl m0 m1
        have b2 : (0 : Int) ≤ (j : Int) := by omega
        have b3 : (j : Int) < (un : Int) := by omega
        have b5 : (0 : Int) ≤ t + x := by omega
        by_cases hhit : z < t + x
        · have HE : Hid (V = m) := by
            unfold Hid; rw [HZ.out, HM.out.1]
            exact lkA_hit (fun q hq => by have := HD.out.2.2.t (show q < col.length by rw [← HD.out.2.1]; exact hq); omega) (by rw [← HM.out.2.1]; exact htz) (by rw [← HN.out]; exact hhit) hlt
          obtain ⟨r1, r2, r3, r4, r5⟩ := HQ.out
          have HB9 : Hid (Below w.heap.size w ((w5.setCell ⟨w.heap.size + 1, 0, none⟩ (.int .i64 0)).setCell ⟨w.heap.size + 1, 1, none⟩ (.int .i64 m))) := by
            have := HM.out.2.2.2; unfold Hid; (repeat' (first | (with_reducible exact Below.refl _ _) | (with_reducible assumption) | (with_reducible refine Below.setCell ?_ ?_ _) | (with_reducible refine Below.alloc ?_ ?_ _) | (with_reducible refine below_drewN ?_ _) | (with_reducible refine Below.drew ?_) | (with_reducible exact Nat.le_refl _) | omega | (simp; done) | (simp; omega)))
          rw [HW5.out] at r1 r2 r3 r4 r5 HB9
          clear HW5 HQ
          go_wp2
          refine bodyPost_ret (by simp [results, Try.results33, go_sem, r1, r2, r3]; try rfl) rfl ⟨by rw [HE.out] <;> rfl, HB9.out⟩
        · have hle : t + x ≤ z := by omega
          have HB9 : Hid (Below w1.heap.size w1 (wr.alloc (.cells #[.int .i64 m, .int .i64 x] 76))) := by rw [← HW5.out]; exact HM.out.2.2.1
          clear HW5 HQ
          go_wp2
          go_roundw
          case rel => exact ⟨j + 1, t + x, by omega, by go_num, by go_num, by omega, hx1, hle, HN.out, HB9.out⟩
          case measure => simp [intOf]; omega
      · have HE : Hid (V = 0) := by
          unfold Hid; rw [HZ.out]
          exact lkA_none (fun q hq => by have := HD.out.2.2.t (show q < col.length by rw [← HD.out.2.1]; exact hq); omega) (by rw [show un = j by omega, ← hR.out.1]; exact htz)
        have hb5 := hR.out.2
        have r1 : w.heap.size + 1 < wr.heap.size := Nat.lt_of_lt_of_le HP.out.1 hb5.size
        have r2 : wr.cell? ⟨w.heap.size + 1, 0, none⟩ = some (.int .i64 0) := (hb5.cell (p := ⟨w.heap.size + 1, 0, none⟩) HP.out.1).trans HP.out.2.2.1
        have r3 : wr.cell? ⟨w.heap.size + 1, 1, none⟩ = some (.int .i64 0) := (hb5.cell (p := ⟨w.heap.size + 1, 1, none⟩) HP.out.1).trans HP.out.2.2.2.1
        have r4 : wr.frozen? ⟨w.heap.size + 1, 0, none⟩ = false := (hb5.frozen (p := ⟨w.heap.size + 1, 0, none⟩) HP.out.1).trans HP.out.2.2.2.2.1
        have r5 : wr.frozen? ⟨w.heap.size + 1, 1, none⟩ = false := (hb5.frozen (p := ⟨w.heap.size + 1, 1, none⟩) HP.out.1).trans HP.out.2.2.2.2.2
        have HB9 : Hid (Below w.heap.size w ((wr.setCell ⟨w.heap.size + 1, 0, none⟩ (.int .i64 0)).setCell ⟨w.heap.size + 1, 1, none⟩ (.int .i64 0))) := by
          have := HP.out.2.1.trans (hb5.mono HP.out.2.1.size); unfold Hid; (repeat' (first | (with_reducible exact Below.refl _ _) | (with_reducible assumption) | (with_reducible refine Below.setCell ?_ ?_ _) | (with_reducible refine Below.alloc ?_ ?_ _) | (with_reducible refine below_drewN ?_ _) | (with_reducible refine Below.drew ?_) | (with_reducible exact Nat.le_refl _) | omega | (simp; done) | (simp; omega)))
        clear hR hb5
        go_wp2
        refine bodyPost_ret (by simp [results, Try.results33, go_sem, r1, r2, r3]; try rfl) rfl ⟨by rw [HE.out] <;> rfl, HB9.out⟩
  · have HV : Hid (V = 0) := by unfold Hid; rw [H.out.2.2.2, loV, if_neg (H.out.2.2.1 ▸ hF)]
    have hF' : (C == 0) = false := by simpa using hF
    have HB2 : Hid (Below w.heap.size w ((w1.setCell ⟨w.heap.size + 1, 0, none⟩ (.int .i64 C)).setCell ⟨w.heap.size + 1, 1, none⟩ (.int .i64 0))) := by
      have := HB.out; unfold Hid; (repeat' (first | (with_reducible exact Below.refl _ _) | (with_reducible assumption) | (with_reducible refine Below.setCell ?_ ?_ _) | (with_reducible refine Below.alloc ?_ ?_ _) | (with_reducible refine below_drewN ?_ _) | (with_reducible refine Below.drew ?_) | (with_reducible exact Nat.le_refl _) | omega | (simp; done) | (simp; omega)))
    go_wp2
    refine bodyPost_ret (by simp [results, Try.results33, go_sem, p0, p1, q1]; try rfl) rfl ⟨by rw [HV.out] <;> rfl, HB2.out⟩

end Go.Proofs.Ytceljakmjddgbab
