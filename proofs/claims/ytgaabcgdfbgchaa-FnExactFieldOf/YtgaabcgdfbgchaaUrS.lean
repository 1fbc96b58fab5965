/- Proved here: the model's unit roots. -/
import Derived.Test.YtgaabcgdfbgchaaZL
import Derived.Test.YtgaabcgdfbgchaaSqF
namespace Go.Proofs.Ytgaabcgdfbgchaa
open Go.RowKit
set_option linter.unusedVariables false
set_option linter.unusedSimpArgs false

/-- The first k roots. -/
def rzK (k : Nat) : List Zf := (List.range k).map fun i => ⟨rtR i, rtI i⟩
theorem rzK_len (k : Nat) : (rzK k).length = k := by simp [rzK]
theorem rzK_succ (k : Nat) : rzK (k + 1) = rzK k ++ [⟨rtR k, rtI k⟩] := by simp [rzK, List.range_succ]
theorem rzK_at {k j : Nat} (h : j < k) : (rzK k)[j]? = some ⟨rtR j, rtI j⟩ := by simp [rzK, h]

set_option maxRecDepth 10000 in
set_option maxHeartbeats 3200000 in
theorem spec_roots (w : World) : Calls Try.prog 38 #[] w fun e w' => ∃ v, e = .returned v ∧ OZs w' w.heap.size v (rzK 20) ∧ Below w.heap.size w w' := by
  obtain ⟨i0, hi, hz0, hz1, hz2⟩ := info_parts info_z
  go_enter Try.func38, Try.ntmps38
  go_wp2
  go_loopw [1] (fun x wr => ∃ (k : Nat) (v : Value), 2 ≤ k ∧ k ≤ 20 ∧ v = x ∧ Hid (OZs wr w.heap.size v (rzK k) ∧ Below w.heap.size w wr)) (fun x _ => 20 - (match x with | .slice _ n _ => n | _ => 0))
  case atStart =>
    refine ⟨2, _, by omega, by omega, rfl, ?_, by (repeat' (first | (with_reducible exact Below.refl _ _) | (with_reducible assumption) | (with_reducible refine Below.setCell ?_ ?_ _) | (with_reducible refine Below.alloc ?_ ?_ _) | (with_reducible refine below_drewN ?_ _) | (with_reducible refine Below.drew ?_) | (with_reducible exact Nat.le_refl _) | omega | (simp; done) | (simp; omega)))⟩
    have := World.ownsRow_lit (e := 24) (size := 2) (base := w.heap.size) w #[.float .f64 13830554455654793216, .float .f64 0, .float .f64 0, .float .f64 4607182418800017408] 2 (Nat.le_refl _) (by decide) (by simp)
    exact this
  case round =>
    obtain ⟨k, v, hk1, hk2, rfl, hR⟩ := hrel
    obtain ⟨va, vc, hvf⟩ := hR.out.1.rg.form
    rw [rzK_len] at hvf
    subst hvf
    by_cases hlt : k < 20
    · obtain ⟨q, rfl⟩ : ∃ q, k = q + 1 := ⟨k - 1, by omega⟩
      obtain ⟨g, o, z, ha, hg, hz, c0, c1⟩ := rz_at hR.out.1.rg (j := q) (by omega)
      rw [rzK_at (by omega)] at hz
      injection hz with hz
      subst hz ha
      obtain ⟨s1, s2, s3, s4, s5⟩ := step_at hk1 hlt
      obtain ⟨t1, t2⟩ := sq_at hk1 hlt
      rw [show q + 1 - 1 = q by omega] at s1 s5
      have a1 : ∀ W, fres .add 4607182418800017408 (rtR q) W = on1 (q + 1) := fun W => fres_of s1 W
      have a2 : ∀ W, fres .mul (on1 (q + 1)) 4602678819172646912 W = on2 (q + 1) := fun W => fres_of s2 W
      have a3 : ∀ W, fres .add (rtR (q + 1)) (rtR (q + 1)) W = on3 (q + 1) := fun W => fres_of s4 W
      have a4 : ∀ W, fres .quo (rtI q) (on3 (q + 1)) W = rtI (q + 1) := fun W => fres_of s5 W
      have n1 := fnn_of s1
      have n2 := fnn_of s2
      have n3 := fnn_of s4
      have n4 := fnn_of s5
      have HQ : Hid (∀ W, Calls Try.prog 73 #[.float .f64 (on2 (q + 1))] W fun e w' => e = .returned (.float .f64 (rtR (q + 1))) ∧ ∃ n, w' = W.drewN n) := fun W => by rw [← t2]; exact spec_sqrt _ t1 W
      clear s1 s2 s3 s4 s5 t1 t2
      have b0 : (0 : Int) ≤ (q : Int) := by omega
      have b1 : (q : Int) < (q : Int) + 1 := by omega
      have b2 : (q : Int) + 1 < 20 := by omega
      go_wp2_with (fail)
      refine (HQ.out _).mono ?_
      rintro e w3 ⟨rfl, m3, rfl⟩
      obtain ⟨U, hU⟩ : ∃ U, U = wr.alloc (Obj.cells #[.float .f64 (rtR q), .float .f64 (rtI q)] 24) := ⟨_, rfl⟩
      rw [← hU]
      have u0 : U.heap[wr.heap.size]? = some (.cells #[.float .f64 (rtR q), .float .f64 (rtI q)] 24) := by rw [hU]; exact heap_alloc_new _ _
      have hUs : U.heap.size = wr.heap.size + 1 := by rw [hU]; simp
      have HU : Hid (OZs U w.heap.size (.slice (some ⟨g, o, none⟩) (q + 1) vc) (rzK (q + 1)) ∧ Below w.heap.size w U) := by
        unfold Hid
        rw [hU]
        exact ⟨OG.below hR.out.1 (by (repeat' (first | (with_reducible exact Below.refl _ _) | (with_reducible assumption) | (with_reducible refine Below.setCell ?_ ?_ _) | (with_reducible refine Below.alloc ?_ ?_ _) | (with_reducible refine below_drewN ?_ _) | (with_reducible refine Below.drew ?_) | (with_reducible exact Nat.le_refl _) | omega | (simp; done) | (simp; omega)))), hR.out.2.alloc hR.out.2.size _⟩
      have HO : Hid (∀ m, (U.drewN m).ownsRow w.heap.size 24 2 (.slice (some ⟨g, o, none⟩) (q + 1) vc) (q + 1) ((rzK (q + 1)).flatMap zC)) := fun m => by
        have := HU.out.1
        unfold OZs OG at this
        rw [rzK_len] at this
        exact this
      have hws : w.heap.size ≤ wr.heap.size := hR.out.2.size
      have HNB : Hid (∀ m, ((U.drewN m).alloc (.cells #[.float .f64 (rtR (q + 1)), .float .f64 (rtI (q + 1))] 24)).heap[wr.heap.size + 1]? = some (.cells #[.float .f64 (rtR (q + 1)), .float .f64 (rtI (q + 1))] 24)) := fun m => by
        rw [← hUs]; exact heap_alloc_new (U.drewN m) _
      obtain ⟨p0, p1, pf, pl⟩ := z_two u0
      clear hR c0 c1 hU u0
      obtain ⟨Z, hZ⟩ : ∃ Z, Z = rzK (q + 1) := ⟨_, rfl⟩
      have HZ : Hid (rzK (q + 1 + 1) = Z ++ [⟨rtR (q + 1), rtI (q + 1)⟩] ∧ Z.length = q + 1) := by unfold Hid; rw [rzK_succ, hZ, rzK_len]; exact ⟨rfl, rfl⟩
      rw [← hZ] at HO HU
      clear hZ
      go_wp2_with (at_builtin; (refine wpList_append_own _ rfl _ _ 30 rfl w.heap.size 24 i0 (.agg #[.float .f64 0, .float .f64 0]) 2 16 Try.underlying30 hi hz0 hz1 hz2 rfl (by decide) _ _ _ rfl (World.ownsRow.alloc (HO.out _) _) ⟨wr.heap.size + 1, 0, none⟩ 1 1 [.float .f64 (rtR (q + 1)), .float .f64 (rtI (q + 1))] rfl rfl (World.news_of_block (cs := #[.float .f64 (rtR (q + 1)), .float .f64 (rtI (q + 1))]) (t := 24) (fr := (0, 0)) (HNB.out _)) (by simp [Value.oneCell']) (by unfold maxLen; omega) (by omega) (by simp; omega) ?_); intro v6 w6 hown6 hgrow6 _)
      have R6 : Hid (OZs w6 w.heap.size v6 (rzK (q + 1 + 1)) ∧ Below w.heap.size w w6) := by
        unfold Hid
        rw [HZ.out.1]
        refine ⟨OZs.snoc (by rw [HZ.out.2]; exact hown6), ?_⟩
        refine Below.grown ?_ hgrow6 (by simp; omega) (fun k hk => (OG.lt HU.out.1 k hk).1)
        exact (below_drewN HU.out.2 _).alloc (by simp; omega) _
      obtain ⟨xa, xc, hxf⟩ := R6.out.1.rg.form
      rw [rzK_len] at hxf
      subst hxf
      clear hown6 hgrow6 HO HU
      go_wp2
      exact ⟨⟨q + 1 + 1, _, by omega, by omega, rfl, R6.out⟩, by simp; omega⟩
    · have hk20 : k = 20 := by omega
      subst hk20
      go_wp2
      go_returns
      exact ⟨_, rfl, hR.out.1, hR.out.2⟩

end Go.Proofs.Ytgaabcgdfbgchaa
