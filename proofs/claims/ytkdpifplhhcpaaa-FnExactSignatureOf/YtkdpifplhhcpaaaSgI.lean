/- Proved here: SignatureOf of the program. -/
import Derived.Test.YtkdpifplhhcpaaaSsI
import Derived.Test.YtkdpifplhhcpaaaSsM
import Derived.Test.YtkdpifplhhcpaaaCeQ
import Derived.Test.YtkdpifplhhcpaaaIntsBase
namespace Go.Proofs.Ytkdpifplhhcpaaa
open Go.RowKit
set_option linter.unusedVariables false
set_option linter.unusedSimpArgs false

set_option maxRecDepth 10000 in
set_option maxHeartbeats 6400000 in
theorem impl_sg {W : World} {vt vi : Value} {tp inn : List Int} (h2 : inn.length ≤ 1048576) (hi : RdI W vi inn) (h1 : tp.length ≤ 1048576) (ht : RdI W vt tp) :
    Calls Try.prog 31 #[vi, vt] W fun e w' => ∃ v, e = .returned (.agg #[.int .i64 (scC (List.replicate 16 0) tp inn), v]) ∧ IS w' W.heap.size v (scL (List.replicate 16 0) tp inn) ∧ Below W.heap.size W w' := by
  obtain ⟨i0, hi0, hz0, hz1, hz2⟩ := info_parts info_i64
  obtain ⟨Z, hZ⟩ : ∃ Z, Z = W.alloc (.cells #[.int .i64 0, .slice none 0 0] 45) := ⟨_, rfl⟩
  have HZ : Hid (Below W.heap.size W Z ∧ Z.heap[W.heap.size]? = some (.cells #[.int .i64 0, .slice none 0 0] 45) ∧ Z.heap.size = W.heap.size + 1) := by rw [hZ]; exact ⟨by (repeat' (first | (with_reducible exact Below.refl _ _) | (with_reducible assumption) | (with_reducible refine Below.setCell ?_ ?_ _) | (with_reducible refine Below.alloc ?_ ?_ _) | (with_reducible refine below_drewN ?_ _) | (with_reducible refine Below.drew ?_) | (with_reducible exact Nat.le_refl _) | omega | (simp; done) | (simp; omega))), heap_alloc_new _ _, by simp⟩
  have H : Hid (RdI W vt tp ∧ RdI W vi inn ∧ tp.length ≤ 1048576 ∧ inn.length ≤ 1048576) := ⟨ht, hi, h1, h2⟩
  obtain ⟨C, hC⟩ : ∃ C, C = scC (List.replicate 16 0) tp inn := ⟨_, rfl⟩
  obtain ⟨L, hL⟩ : ∃ L, L = scL (List.replicate 16 0) tp inn := ⟨_, rfl⟩
  have HS : Hid (∀ (X : World) v, RdI X v (List.replicate 16 0) → RdI X vt tp → RdI X vi inn → Calls Try.prog 25 #[v, vt, vi] X fun e w' => ∃ v, e = .returned (.agg #[.int .i64 C, v]) ∧ IS w' X.heap.size v L ∧ Below X.heap.size X w') := fun X v a b c => by
    rw [hC, hL]; exact impl_ss (by simp) a H.out.2.2.1 b H.out.2.2.2 c
  rw [← hC, ← hL]
  clear hC hL ht hi h1 h2
  go_enter Try.func31, Try.ntmps31
  go_wp2_with (at_make; rw [← hZ]; refine wpList_make_full _ rfl _ _ 22 rfl Z.heap.size 2 i0 (.int .i64 0) 1 Try.underlying22 hi0 hz0 hz1 _ _ _ _ 16 rfl rfl rfl rfl (by rw [hz2]; omega) (by unfold maxLen; omega) (Nat.le_refl _) ?_; intro w2 hown2 hgrow2)
  have hb2 : Below Z.heap.size Z w2 := (Below.refl _ _).grown hgrow2 (Nat.le_refl _) (fun k h => by cases h)
  have hi2 : IS w2 Z.heap.size (.slice (some ⟨Z.heap.size, 0, none⟩) 16 16) (List.replicate 16 0) := IS.made hown2
  rw [HZ.out.2.2] at hi2
  have HW : Hid (Below W.heap.size W w2 ∧ w2.heap[W.heap.size]? = some (.cells #[.int .i64 0, .slice none 0 0] 45)) := ⟨HZ.out.1.trans (hb2.mono HZ.out.1.size), by rw [hb2.block _ (ltOfQ HZ.out.2.1)]; exact HZ.out.2.1⟩
  refine (HS.out w2 _ hi2.rg (H.out.1.below HW.out.1) (H.out.2.1.below HW.out.1)).mono ?_
  rintro e w3 ⟨v, rfl, hi3, hb3⟩
  have HX : Hid (Below W.heap.size W w3 ∧ w3.heap[W.heap.size]? = some (.cells #[.int .i64 0, .slice none 0 0] 45) ∧ IS w3 w2.heap.size v L) := ⟨HW.out.1.trans (hb3.mono HW.out.1.size), by rw [hb3.block _ (ltOfQ HW.out.2)]; exact HW.out.2, hi3⟩
  have hlt := ltOfQ HW.out.2
  obtain ⟨va, vc, rfl⟩ := hi3.form
  obtain ⟨ln, hln⟩ : ∃ ln, ln = L.length := ⟨_, rfl⟩
  rw [← hln] at HX ⊢
  have hln2 := hln
  clear hln
  clear hi2 hb2 hown2 hgrow2 hi3 hb3 hln2 HZ hZ HS H
  have z0 : w3.cell? ⟨W.heap.size, 0, none⟩ = some (.int .i64 0) := cellOfQ HX.out.2.1 0 rfl
  have z1 : w3.cell? ⟨W.heap.size, 1, none⟩ = some (.slice none 0 0) := cellOfQ HX.out.2.1 1 rfl
  have zl := ltOfQ HX.out.2.1
  have f0 := frozOfQ HX.out.2.1 0
  have f1 := frozOfQ HX.out.2.1 1
  have HK : Hid (∀ u0 u1, IS ((w3.setCell ⟨W.heap.size, 0, none⟩ u0).setCell ⟨W.heap.size, 1, none⟩ u1) W.heap.size (.slice va ln vc) L) := fun u0 u1 => (HX.out.2.2.kept fun q hq => by
    have h9 := (IS.lt HX.out.2.2 q hq).1
    rw [heap_setCell_other _ _ _ _ (by simp; omega), heap_setCell_other _ _ _ _ (by simp; omega)]).low (by omega)
  have HB1 : Hid (Below W.heap.size W w3) := HX.out.1
  clear HX HW
  go_wp2
  try simp only [Exit.inBlock, Exit.then]
  refine bodyPost_ret (by simp [results, Try.results31, go_sem, z0, z1, zl, f0, f1]; try rfl) rfl ⟨_, rfl, HK.out _ _, (HB1.out.setCell (Nat.le_refl _) _).setCell (Nat.le_refl _) _⟩

end Go.Proofs.Ytkdpifplhhcpaaa
