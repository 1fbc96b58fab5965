/- Proved here: LookAt of the model. -/
import Derived.Test.YtceljakmjddgbabScY
namespace Go.Proofs.Ytceljakmjddgbab
open Go.RowKit
set_option linter.unusedVariables false
set_option linter.unusedSimpArgs false

theorem kn_at1' (w : World) (a b : Obj) : ((w.alloc a).alloc b).heap[w.heap.size + 1]? = some b := by have := heap_alloc_new (w.alloc a) b; simpa using this

set_option maxRecDepth 10000 in
set_option maxHeartbeats 6400000 in
theorem spec_look {w : World} {v : Value} {s : List (List Flm)} (i z : Int) (hn : SmF s) (h : RsF w v s) :
    Calls Try.prog 32 #[.agg #[v], .int .i64 i, .int .i64 z] w fun e w' => e = .returned (.agg #[.int .i64 (toC s i), .int .i64 (loV s i z)]) ∧ Below w.heap.size w w' := by
  obtain ⟨a, c, rfl⟩ := h.form
  obtain ⟨n, hnn⟩ : ∃ n, n = s.length := ⟨_, rfl⟩
  obtain ⟨C, hC⟩ : ∃ C, C = toC s i := ⟨_, rfl⟩
  obtain ⟨V, hV⟩ : ∃ V, V = loV s i z := ⟨_, rfl⟩
  rw [← hnn] at h ⊢
  rw [← hC, ← hV]
  have hn' : n ≤ 1048576 := by rw [hnn]; exact hn.len
  obtain ⟨F, hF⟩ : ∃ F, F = secF s := ⟨_, rfl⟩
  have HA : Hid (∀ W, Below w.heap.size w W → Calls Try.prog 36 #[.agg #[.slice a n c]] W fun e w' => e = .returned (.int .i64 F) ∧ Below W.heap.size W w') := fun W hW => by rw [hF]; exact spec_secF hn (h.below hW)
  have H : Hid (RsF w (.slice a n c) s ∧ n = s.length ∧ C = toC s i ∧ V = loV s i z ∧ C = if F = 0 then (if 0 ≤ i ∧ i < (n : Int) then 0 else 4) else F) := ⟨h, hnn, hC, hV, by rw [hC, toC, ← hF, ← hnn]⟩
  clear h hnn hn hC hV hF
  go_enter Try.func32, Try.ntmps32
  go_wp2_with (fail)
  refine (HA.out _ (by (repeat' (first | (with_reducible exact Below.refl _ _) | (with_reducible assumption) | (with_reducible refine Below.setCell ?_ ?_ _) | (with_reducible refine Below.alloc ?_ ?_ _) | (with_reducible refine below_drewN ?_ _) | (with_reducible refine Below.drew ?_) | (with_reducible exact Nat.le_refl _) | omega | (simp; done) | (simp; omega))))).mono ?_
  rintro e w1 ⟨rfl, hb1⟩
  have k0 := (hb1.block w.heap.size (by simp; omega)).trans ((Below.heap_alloc _ _ _ (by simp)).trans (heap_alloc_new w _))
  have k1 := (hb1.block (w.heap.size + 1) (by simp)).trans (kn_at1' w _ _)
  have q0 : w1.cell? ⟨w.heap.size, 0, none⟩ = some (.slice a n c) := by simp [World.cell?, k0]
  have p0 : w1.cell? ⟨w.heap.size + 1, 0, none⟩ = some (.int .i64 0) := by simp [World.cell?, k1]
  have p1 : w1.cell? ⟨w.heap.size + 1, 1, none⟩ = some (.int .i64 0) := by simp [World.cell?, k1]
  have f0 : w1.frozen? ⟨w.heap.size + 1, 0, none⟩ = false := by simp [World.frozen?, k1]
  have f1 : w1.frozen? ⟨w.heap.size + 1, 1, none⟩ = false := by simp [World.frozen?, k1]
  have q1 : w.heap.size + 1 < w1.heap.size := by have := hb1.size; simp at this; omega
  have HB : Hid (Below w.heap.size w w1) := (show Below w.heap.size w _ from by (repeat' (first | (with_reducible exact Below.refl _ _) | (with_reducible assumption) | (with_reducible refine Below.setCell ?_ ?_ _) | (with_reducible refine Below.alloc ?_ ?_ _) | (with_reducible refine below_drewN ?_ _) | (with_reducible refine Below.drew ?_) | (with_reducible exact Nat.le_refl _) | omega | (simp; done) | (simp; omega)))).trans (hb1.mono (by simp; omega))
  have q2 : w.heap.size < w1.heap.size := by omega
  clear hb1 k0 k1 HA
  have ans : ∀ D : Int, Below w.heap.size w ((w1.setCell ⟨w.heap.size + 1, 0, none⟩ (.int .i64 D)).setCell ⟨w.heap.size + 1, 1, none⟩ (.int .i64 0)) := fun D => by
    have := HB.out; (repeat' (first | (with_reducible exact Below.refl _ _) | (with_reducible assumption) | (with_reducible refine Below.setCell ?_ ?_ _) | (with_reducible refine Below.alloc ?_ ?_ _) | (with_reducible refine below_drewN ?_ _) | (with_reducible refine Below.drew ?_) | (with_reducible exact Nat.le_refl _) | omega | (simp; done) | (simp; omega)))
  have ANS : Hid (∀ D : Int, Below w.heap.size w ((w1.setCell ⟨w.heap.size + 1, 0, none⟩ (.int .i64 D)).setCell ⟨w.heap.size + 1, 1, none⟩ (.int .i64 0))) := ans
  clear ans
  by_cases hF : F = 0
  · have HC : Hid (C = if 0 ≤ i ∧ i < (n : Int) then 0 else 4) := by unfold Hid; rw [H.out.2.2.2.2, if_pos hF]
    subst hF
    go_wp2_with (fail)
    refine (spec_column i hn').mono ?_
    rintro e w3 ⟨rfl, hb3⟩
    have r0 : w3.cell? ⟨w.heap.size, 0, none⟩ = some (.slice a n c) := (hb3.cell (p := ⟨w.heap.size, 0, none⟩) q2).trans q0
    have p0' : w3.cell? ⟨w.heap.size + 1, 0, none⟩ = some (.int .i64 0) := (hb3.cell (p := ⟨w.heap.size + 1, 0, none⟩) q1).trans p0
    have p1' : w3.cell? ⟨w.heap.size + 1, 1, none⟩ = some (.int .i64 0) := (hb3.cell (p := ⟨w.heap.size + 1, 1, none⟩) q1).trans p1
    have f0' : w3.frozen? ⟨w.heap.size + 1, 0, none⟩ = false := (hb3.frozen (p := ⟨w.heap.size + 1, 0, none⟩) q1).trans f0
    have f1' : w3.frozen? ⟨w.heap.size + 1, 1, none⟩ = false := (hb3.frozen (p := ⟨w.heap.size + 1, 1, none⟩) q1).trans f1
    have q1' : w.heap.size + 1 < w3.heap.size := Nat.lt_of_lt_of_le q1 hb3.size
    have q2' : w.heap.size < w3.heap.size := by omega
    have HB3 : Hid (Below w.heap.size w w3) := HB.out.trans (hb3.mono HB.out.size)
    have hans : ∀ D E : Int, Below w.heap.size w ((w3.setCell ⟨w.heap.size + 1, 0, none⟩ (.int .i64 D)).setCell ⟨w.heap.size + 1, 1, none⟩ (.int .i64 E)) := fun D E => by
      have := HB3.out; (repeat' (first | (with_reducible exact Below.refl _ _) | (with_reducible assumption) | (with_reducible refine Below.setCell ?_ ?_ _) | (with_reducible refine Below.alloc ?_ ?_ _) | (with_reducible refine below_drewN ?_ _) | (with_reducible refine Below.drew ?_) | (with_reducible exact Nat.le_refl _) | omega | (simp; done) | (simp; omega)))
    have ANS3 : Hid (∀ D E : Int, Below w.heap.size w ((w3.setCell ⟨w.heap.size + 1, 0, none⟩ (.int .i64 D)).setCell ⟨w.heap.size + 1, 1, none⟩ (.int .i64 E))) := hans
    clear hans hb3 p0 p1 f0 f1 q0 q1 q2 ANS
    by_cases hin : 0 ≤ i ∧ i < (n : Int)
    · have hC0 : C = 0 := by rw [HC.out, if_pos hin]
      rw [decide_eq_true hin]
      obtain ⟨hg, hi0, hi1⟩ := toC_ok (H.out.2.2.1 ▸ hC0)
      obtain ⟨k, rfl⟩ : ∃ k : Nat, i = (k : Int) := ⟨i.toNat, by omega⟩
      have hk : k < n := by have := H.out.2.1; omega
      have hgc := hg.col k (by rw [← H.out.2.1]; exact hk)
      have HGC : Hid (GC (s.getD k [])) := hgc
      have HV : Hid (V = lkC (s.getD k []) z) := by unfold Hid; rw [H.out.2.2.2.1, loV, if_pos (H.out.2.2.1 ▸ hC0)]; simp
      have HC0 : Hid (C = 0) := hC0
      clear hC0 hg hi1 hin hgc hi0
      have b0 : (0 : Int) ≤ (k : Int) := by omega
      have b1 : (k : Int) < (n : Int) := by omega
      obtain ⟨g, o, ua, un, uc, rfl, hgl, c0, hun, hrd⟩ := (H.out.1.below HB3.out).at hk
      obtain ⟨col, hcol⟩ : ∃ x, x = s.getD k [] := ⟨_, rfl⟩
      rw [← hcol] at HV hrd hun HGC
      have HD : Hid (RG 2 flC w3 (.slice ua un uc) col ∧ un = col.length ∧ GC col) := ⟨hrd, hun, HGC.out⟩
      have hu24 : un ≤ 24 := by rw [hun]; exact HGC.out.len
      have HP : Hid (w.heap.size + 1 < w3.heap.size ∧ w3.cell? ⟨w.heap.size + 1, 0, none⟩ = some (.int .i64 0) ∧ w3.cell? ⟨w.heap.size + 1, 1, none⟩ = some (.int .i64 0) ∧ w3.frozen? ⟨w.heap.size + 1, 0, none⟩ = false ∧ w3.frozen? ⟨w.heap.size + 1, 1, none⟩ = false) := ⟨q1', p0', p1', f0', f1'⟩
      have HY : Hid (w3.cell? ⟨w.heap.size, 0, none⟩ = some (.slice (some ⟨g, o, none⟩) n c) ∧ g < w3.heap.size ∧ w3.cell? ⟨g, o + k, none⟩ = some (.slice ua un uc)) := ⟨r0, hgl, c0⟩
      clear hun hrd hcol HGC
      go_wp2
      clear p0' p1' f0' f1' q1' q2' c0 hgl r0
      go_loopw [8, 9] (fun q i wr => ∃ (j : Nat) (t : Int), j ≤ un ∧ i = .int .i64 j ∧ q = .int .i64 t ∧ 0 ≤ t ∧ t ≤ 100000 ∧ Hid (t = topA col j ∧ Below w3.heap.size w3 wr ∧ (0 ≤ z → t ≤ z))) (fun _ i _ => un - (intOf i).toNat)
      case atStart => exact ⟨0, 0, Nat.zero_le _, rfl, rfl, by omega, by omega, rfl, Below.refl _ _, fun h => h⟩
      case round =>
        obtain ⟨j, t, hjn, rfl, rfl, ht0, ht1, hR⟩ := hrel
        have hb5 := hR.out.2.1
        have z0 : wr.cell? ⟨w.heap.size, 0, none⟩ = some (.slice (some ⟨g, o, none⟩) n c) := (hb5.cell (p := ⟨w.heap.size, 0, none⟩) (show w.heap.size < w3.heap.size by have := HP.out.1; omega)).trans HY.out.1
        have z1 : wr.cell? ⟨g, o + k, none⟩ = some (.slice ua un uc) := (hb5.cell (p := ⟨g, o + k, none⟩) HY.out.2.1).trans HY.out.2.2
        have z2 : g < wr.heap.size := Nat.lt_of_lt_of_le HY.out.2.1 hb5.size
        have z3 : w.heap.size < wr.heap.size := by have := HP.out.1; have := hb5.size; omega
        by_cases hlt : j < un
        · obtain ⟨g2, o2, rfl, hg2, d0, d1⟩ := fl_at (HD.out.1.below hb5) hlt
          obtain ⟨m, hm0⟩ : ∃ x, x = (fat col j).m := ⟨_, rfl⟩
          obtain ⟨x, hxx⟩ : ∃ x, x = (fat col j).t := ⟨_, rfl⟩
          rw [← hm0] at d0
          rw [← hxx] at d1
          have HN : Hid (t + x = topA col (j + 1)) := by unfold Hid; rw [topA, ← hR.out.1, hxx]
          have hjl : j < col.length := by rw [← HD.out.2.1]; exact hlt
          have hx0 := (HD.out.2.2.t hjl).1
          rw [← hxx] at hx0
          have hx1 := (HD.out.2.2.upto (show j + 1 ≤ col.length from hjl)).2
          rw [← HN.out] at hx1
          obtain ⟨w5, hw5⟩ : ∃ y, y = wr.alloc (.cells #[.int .i64 m, .int .i64 x] 76) := ⟨_, rfl⟩
          have hb6 : Below w3.heap.size w3 w5 := hb5.trans (by rw [hw5]; have := hb5.size; (repeat' (first | (with_reducible exact Below.refl _ _) | (with_reducible assumption) | (with_reducible refine Below.setCell ?_ ?_ _) | (with_reducible refine Below.alloc ?_ ?_ _) | (with_reducible refine below_drewN ?_ _) | (with_reducible refine Below.drew ?_) | (with_reducible exact Nat.le_refl _) | omega | (simp; done) | (simp; omega))))
          have HM : Hid (m = (fat col j).m ∧ t = topA col j ∧ Below w3.heap.size w3 w5 ∧ Below w.heap.size w w5) := ⟨hm0, hR.out.1, hb6, HB3.out.trans (hb6.mono HB3.out.size)⟩
          have HQ : Hid (w.heap.size + 1 < w5.heap.size ∧ w5.cell? ⟨w.heap.size + 1, 0, none⟩ = some (.int .i64 0) ∧ w5.cell? ⟨w.heap.size + 1, 1, none⟩ = some (.int .i64 0) ∧ w5.frozen? ⟨w.heap.size + 1, 0, none⟩ = false ∧ w5.frozen? ⟨w.heap.size + 1, 1, none⟩ = false) :=
            ⟨Nat.lt_of_lt_of_le HP.out.1 hb6.size, (hb6.cell (p := ⟨w.heap.size + 1, 0, none⟩) HP.out.1).trans HP.out.2.1, (hb6.cell (p := ⟨w.heap.size + 1, 1, none⟩) HP.out.1).trans HP.out.2.2.1, (hb6.frozen (p := ⟨w.heap.size + 1, 0, none⟩) HP.out.1).trans HP.out.2.2.2.1, (hb6.frozen (p := ⟨w.heap.size + 1, 1, none⟩) HP.out.1).trans HP.out.2.2.2.2⟩
          have HW5 : Hid (w5 = wr.alloc (.cells #[.int .i64 m, .int .i64 x] 76)) := hw5
          have HZ0 : Hid (0 ≤ z → t ≤ z) := hR.out.2.2
          clear hR hm0 hxx hb5 hb6 hw5 hjl
          have b2 : (0 : Int) ≤ (j : Int) := by omega
          have b3 : (j : Int) < (un : Int) := by omega
          have b5 : (0 : Int) ≤ t + x := by omega
          have HB9 : Hid (Below w3.heap.size w3 (wr.alloc (.cells #[.int .i64 m, .int .i64 x] 76))) := by rw [← HW5.out]; exact HM.out.2.2.1
          by_cases hlo : t ≤ z
          · by_cases hhit : z < t + x
            · have HE : Hid (V = m) := by
                unfold Hid; rw [HV.out, HM.out.1, lkC, if_neg (by omega), ← HD.out.2.1]
                exact lkA_hit (fun q hq => by have := HD.out.2.2.t (show q < col.length by rw [← HD.out.2.1]; exact hq); omega) (by rw [← HM.out.2.1]; exact hlo) (by rw [← HN.out]; exact hhit) hlt
              obtain ⟨r1, r2, r3, r4, r5⟩ := HQ.out
              have HB8 : Hid (Below w.heap.size w ((w5.setCell ⟨w.heap.size + 1, 0, none⟩ (.int .i64 0)).setCell ⟨w.heap.size + 1, 1, none⟩ (.int .i64 m))) := by
                have := HM.out.2.2.2; unfold Hid; (repeat' (first | (with_reducible exact Below.refl _ _) | (with_reducible assumption) | (with_reducible refine Below.setCell ?_ ?_ _) | (with_reducible refine Below.alloc ?_ ?_ _) | (with_reducible refine below_drewN ?_ _) | (with_reducible refine Below.drew ?_) | (with_reducible exact Nat.le_refl _) | omega | (simp; done) | (simp; omega)))
              rw [HW5.out] at r1 r2 r3 r4 r5 HB8
              clear HW5 HQ
              go_wp2
              refine bodyPost_ret (by simp [results, Try.results32, go_sem, r1, r2, r3]; try rfl) rfl ⟨by rw [HC0.out, HE.out] <;> rfl, HB8.out⟩
            · have hle : t + x ≤ z := by omega
              clear HW5 HQ
              go_wp2
              go_roundw
              case rel => exact ⟨j + 1, t + x, by omega, by go_num, by go_num, by omega, hx1, HN.out, HB9.out, fun _ => hle⟩
              case measure => simp [intOf]; omega
          · have hneg : ¬ 0 ≤ z := fun h => hlo (HZ0.out h)
            clear HW5 HQ
            go_wp2
            go_roundw
            case rel => exact ⟨j + 1, t + x, by omega, by go_num, by go_num, by omega, hx1, HN.out, HB9.out, fun h => absurd h hneg⟩
            case measure => simp [intOf]; omega
        · have HE : Hid (V = 0) := by
            unfold Hid; rw [HV.out, lkC]
            by_cases hz : z < 0
            · rw [if_pos hz]
            · rw [if_neg hz, ← HD.out.2.1]
              exact lkA_none (fun q hq => by have := HD.out.2.2.t (show q < col.length by rw [← HD.out.2.1]; exact hq); omega) (by rw [show un = j by omega, ← hR.out.1]; exact hR.out.2.2 (by omega))
          have r1 : w.heap.size + 1 < wr.heap.size := Nat.lt_of_lt_of_le HP.out.1 hb5.size
          have r2 : wr.cell? ⟨w.heap.size + 1, 0, none⟩ = some (.int .i64 0) := (hb5.cell (p := ⟨w.heap.size + 1, 0, none⟩) HP.out.1).trans HP.out.2.1
          have r3 : wr.cell? ⟨w.heap.size + 1, 1, none⟩ = some (.int .i64 0) := (hb5.cell (p := ⟨w.heap.size + 1, 1, none⟩) HP.out.1).trans HP.out.2.2.1
          have r4 : wr.frozen? ⟨w.heap.size + 1, 0, none⟩ = false := (hb5.frozen (p := ⟨w.heap.size + 1, 0, none⟩) HP.out.1).trans HP.out.2.2.2.1
          have r5 : wr.frozen? ⟨w.heap.size + 1, 1, none⟩ = false := (hb5.frozen (p := ⟨w.heap.size + 1, 1, none⟩) HP.out.1).trans HP.out.2.2.2.2
          have HB9 : Hid (Below w.heap.size w ((wr.setCell ⟨w.heap.size + 1, 0, none⟩ (.int .i64 0)).setCell ⟨w.heap.size + 1, 1, none⟩ (.int .i64 0))) := by
            have := HB3.out.trans (hb5.mono HB3.out.size); unfold Hid; (repeat' (first | (with_reducible exact Below.refl _ _) | (with_reducible assumption) | (with_reducible refine Below.setCell ?_ ?_ _) | (with_reducible refine Below.alloc ?_ ?_ _) | (with_reducible refine below_drewN ?_ _) | (with_reducible refine Below.drew ?_) | (with_reducible exact Nat.le_refl _) | omega | (simp; done) | (simp; omega)))
          clear hR hb5
          go_wp2
          refine bodyPost_ret (by simp [results, Try.results32, go_sem, r1, r2, r3]; try rfl) rfl ⟨by rw [HC0.out, HE.out] <;> rfl, HB9.out⟩
    · have HC4 : Hid (C = 4 ∧ V = 0) := by
        have h4 : C = 4 := by rw [HC.out, if_neg hin]
        exact ⟨h4, by rw [H.out.2.2.2.1, loV, if_neg (by rw [← H.out.2.2.1, h4]; decide)]⟩
      rw [decide_eq_false hin]
      clear hin
      go_wp2
      refine bodyPost_ret (by simp [results, Try.results32, go_sem, p0', p1', q1']; try rfl) rfl ⟨by rw [HC4.out.1, HC4.out.2] <;> rfl, ANS3.out _ _⟩
  · have HCF : Hid (C = F ∧ V = 0) := by
      have h4 : C = F := by rw [H.out.2.2.2.2, if_neg hF]
      exact ⟨h4, by rw [H.out.2.2.2.1, loV, if_neg (by rw [← H.out.2.2.1, h4]; exact hF)]⟩
    have hF' : (F == 0) = false := by simpa using hF
    go_wp2
    refine bodyPost_ret (by simp [results, Try.results32, go_sem, p0, p1, q1]; try rfl) rfl ⟨by rw [HCF.out.1, HCF.out.2] <;> rfl, ANS.out _⟩

end Go.Proofs.Ytceljakmjddgbab
