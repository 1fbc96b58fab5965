/- Proved here: l12Gone of the model. -/
import Derived.Test.YtceljakmjddgbabLsS
import Derived.Test.YtceljakmjddgbabScO
namespace Go.Proofs.Ytceljakmjddgbab
open Go.RowKit
set_option linter.unusedVariables false
set_option linter.unusedSimpArgs false

theorem kn_at1g (w : World) (a b : Obj) : ((w.alloc a).alloc b).heap[w.heap.size + 1]? = some b := by have := heap_alloc_new (w.alloc a) b; simpa using this
theorem kn_at2g (w : World) (a b c : Obj) : (((w.alloc a).alloc b).alloc c).heap[w.heap.size + 2]? = some c := by have := heap_alloc_new ((w.alloc a).alloc b) c; simpa using this
theorem there_ng {w : World} {k m : Nat} {cs : Array Value} {T : TypeId} (h : w.heap[k]? = some (.cells cs T)) (hm : m = cs.size) : w.there k 0 m := by
  intro j hj
  have hj2 : j < cs.size := by rw [← hm]; exact hj
  simp [World.cell?, World.frozen?, h, hj2]

set_option maxRecDepth 10000 in
set_option maxHeartbeats 12800000 in
theorem spec_gone {w : World} {a b : Option Addr} {n m c d : Nat} {s t : List (List Flm)} (hs : WS s) (ht : WS t) (h1 : RsF w (.slice a n c) s) (h2 : RsF w (.slice b m d) t) :
    Calls Try.prog 40 #[.agg #[.slice a n c], .agg #[.slice b m d]] w fun e w' => ∃ ga gc, e = .returned (.agg #[.int .i64 0, .slice b m d, .slice ga 12 gc]) ∧ IS w' w.heap.size (.slice ga 12 gc) (lsL (mtS s s.length) (mtS t t.length)) ∧ Below w.heap.size w w' := by
  have hbs : BM 1000000000 (mtS s s.length) := (BM.sec hs (Nat.le_refl _)).up (by have := hs.len; omega)
  have hbt : BM 1000000000 (mtS t t.length) := (BM.sec ht (Nat.le_refl _)).up (by have := ht.len; omega)
  obtain ⟨M1, hM1⟩ : ∃ x, x = mtS s s.length := ⟨_, rfl⟩
  obtain ⟨M2, hM2⟩ : ∃ x, x = mtS t t.length := ⟨_, rfl⟩
  rw [← hM1] at hbs ⊢
  rw [← hM2] at hbt ⊢
  have HA : Hid (∀ W, Below w.heap.size w W → Calls Try.prog 72 #[.agg #[.slice a n c]] W fun e w' => ∃ g, e = .returned (.slice (some ⟨g, 0, none⟩) 12 12) ∧ IS w' W.heap.size (.slice (some ⟨g, 0, none⟩) 12 12) M1 ∧ Below W.heap.size W w') := fun W hW => by rw [hM1]; exact spec_mt hs (h1.below hW)
  have HB : Hid (∀ W, Below w.heap.size w W → Calls Try.prog 72 #[.agg #[.slice b m d]] W fun e w' => ∃ g, e = .returned (.slice (some ⟨g, 0, none⟩) 12 12) ∧ IS w' W.heap.size (.slice (some ⟨g, 0, none⟩) 12 12) M2 ∧ Below W.heap.size W w') := fun W hW => by rw [hM2]; exact spec_mt ht (h2.below hW)
  have HM : Hid (BM 1000000000 M1 ∧ BM 1000000000 M2) := ⟨hbs, hbt⟩
  clear h1 h2 hs ht hM1 hM2 hbs hbt
  obtain ⟨V, hV⟩ : ∃ V, V = ((w.alloc (.cells #[.slice a n c] 30)).alloc (.cells #[.slice b m d] 30)).alloc (.cells #[.int .i64 0, .slice none 0 0, .slice none 0 0] 32) := ⟨_, rfl⟩
  have k0 : V.heap[w.heap.size]? = some (.cells #[.slice a n c] 30) := by rw [hV]; exact (Below.heap_alloc _ _ _ (by simp <;> omega)).trans ((Below.heap_alloc _ _ _ (by simp)).trans (heap_alloc_new w _))
  have k1 : V.heap[w.heap.size + 1]? = some (.cells #[.slice b m d] 30) := by rw [hV]; exact (Below.heap_alloc _ _ _ (by simp)).trans (kn_at1g w _ _)
  have k2 : V.heap[w.heap.size + 2]? = some (.cells #[.int .i64 0, .slice none 0 0, .slice none 0 0] 32) := by rw [hV]; exact kn_at2g w _ _ _
  have hbV : Below w.heap.size w V := by rw [hV]; (repeat' (first | (with_reducible exact Below.refl _ _) | (with_reducible assumption) | (with_reducible refine Below.setCell ?_ ?_ _) | (with_reducible refine Below.alloc ?_ ?_ _) | (with_reducible refine below_drewN ?_ _) | (with_reducible refine Below.drew ?_) | (with_reducible exact Nat.le_refl _) | omega | (simp; done) | (simp; omega)))
  have hVs : V.heap.size = w.heap.size + 3 := by rw [hV]; simp
  have HV : Hid (Below w.heap.size w V ∧ V.heap[w.heap.size]? = some (.cells #[.slice a n c] 30) ∧ V.heap[w.heap.size + 1]? = some (.cells #[.slice b m d] 30) ∧ V.heap[w.heap.size + 2]? = some (.cells #[.int .i64 0, .slice none 0 0, .slice none 0 0] 32) ∧ V.heap.size = w.heap.size + 3) := ⟨hbV, k0, k1, k2, hVs⟩
  clear k0 k1 k2 hbV hVs
  go_enter Try.func40, Try.ntmps40
  go_wp2_with (fail)
  rw [← hV]
  clear hV
  refine wp_region_holdsA (S := fun w' => Below w.heap.size w w' ∧ w'.heap[w.heap.size]? = some (.cells #[.slice a n c] 30) ∧ w'.heap[w.heap.size + 1]? = some (.cells #[.slice b m d] 30)) (by kernel_rfl) ⟨HV.out.1.drew, HV.out.2.1, HV.out.2.2.1⟩ (fun hS => ?_)
  refine fl_takeA (i := 0) (d := 5) (v := .agg #[.slice b m d]) rfl rfl rfl (by kernel_rfl) (by kernel_rfl) (by kernel_rfl) hS ?_ ?_
  · intro w' hk; have x0 := cellOf hk.2.1 0 rfl; have x1 := ltOf hk.2.1; have x2 := cellOf hk.2.2 0 rfl; have x3 := ltOf hk.2.2; go_simp
  simp only [Act.put, List.setIfInBounds_toArray, List.set_cons_zero, List.set_cons_succ]
  refine fl_takeA (i := 1) (d := 6) (v := .agg #[.slice a n c]) rfl rfl rfl (by kernel_rfl) (by kernel_rfl) (by kernel_rfl) hS ?_ ?_
  · intro w' hk; have x0 := cellOf hk.2.1 0 rfl; have x1 := ltOf hk.2.1; have x2 := cellOf hk.2.2 0 rfl; have x3 := ltOf hk.2.2; go_simp
  simp only [Act.put, List.setIfInBounds_toArray, List.set_cons_zero, List.set_cons_succ]
  refine fl_takeA (i := 3) (d := 8) (v := .agg #[.slice b m d]) rfl rfl rfl (by kernel_rfl) (by kernel_rfl) (by kernel_rfl) hS ?_ ?_
  · intro w' hk; have x0 := cellOf hk.2.1 0 rfl; have x1 := ltOf hk.2.1; have x2 := cellOf hk.2.2 0 rfl; have x3 := ltOf hk.2.2; go_simp
  simp only [Act.put, List.setIfInBounds_toArray, List.set_cons_zero, List.set_cons_succ]
  have hB0 : Below V.heap.size V V.drew := (Below.refl _ _).drew
  refine wpAnyH_all (rs := [2]) (by kernel_rfl) (by simp) ?_
  intro i hi
  obtain rfl : i = 2 := by simpa using hi
  clear hi
  refine op_call (d := 7) rfl rfl rfl (by go_simp) ((HA.out _ hS.1).mono ?_)
  rintro e y1 ⟨g1, rfl, i1, hb1⟩
  have hk1 : Below V.heap.size V y1 := hB0.trans hb1
  have st : ∀ y, Below V.heap.size V y → Below w.heap.size w y ∧ y.heap[w.heap.size]? = some (.cells #[.slice a n c] 30) ∧ y.heap[w.heap.size + 1]? = some (.cells #[.slice b m d] 30) := fun y hy =>
    ⟨HV.out.1.trans (hy.mono HV.out.1.size), (hy.block _ (ltOf HV.out.2.1)).trans HV.out.2.1, (hy.block _ (ltOf HV.out.2.2.1)).trans HV.out.2.2.1⟩
  refine ⟨_, rfl, st _ hk1, ?_⟩
  simp only [Act.put, List.setIfInBounds_toArray, List.set_cons_zero, List.set_cons_succ]
  refine wpAnyH_all (rs := [4]) (by kernel_rfl) (by simp) ?_
  intro i hi
  obtain rfl : i = 4 := by simpa using hi
  clear hi
  refine op_call (d := 9) rfl rfl rfl (by go_simp) ((HB.out _ (st _ hk1).1).mono ?_)
  rintro e y2 ⟨g2, rfl, i2, hb2⟩
  have hk2 : Below V.heap.size V y2 := hk1.trans (hb2.mono hk1.size)
  refine ⟨_, rfl, st _ hk2, ?_⟩
  simp only [Act.put, List.setIfInBounds_toArray, List.set_cons_zero, List.set_cons_succ]
  refine wpAnyH_all (rs := [5]) (by kernel_rfl) (by simp) ?_
  intro i hi
  obtain rfl : i = 5 := by simpa using hi
  clear hi
  refine op_call (d := 10) rfl rfl rfl (by go_simp) ((spec_less12 HM.out.1 HM.out.2 (IS.kept i1 fun q hq => hb2.block q (World.ownsRow.lt i1 q hq).2) i2).mono ?_)
  rintro e y3 ⟨ga, gc, rfl, i3, hb3⟩
  have hk3 : Below V.heap.size V y3 := hk2.trans (hb3.mono hk2.size)
  refine ⟨_, rfl, st _ hk3, ?_⟩
  simp only [Act.put, List.setIfInBounds_toArray, List.set_cons_zero, List.set_cons_succ]
  refine wpAnyH_all (rs := [6]) (by kernel_rfl) (by simp) ?_
  intro i hi
  obtain rfl : i = 6 := by simpa using hi
  clear hi
  refine op_val (d := 11) (v := .agg #[.int .i64 0, .slice b m d, .slice ga 12 gc]) (w' := y3) rfl rfl rfl (by go_simp; try rfl) ?_
  simp only [Act.put, List.setIfInBounds_toArray, List.set_cons_zero, List.set_cons_succ]
  refine ⟨st _ hk3, wpAnyH_all (rs := [7]) (by kernel_rfl) (by simp) ?_⟩
  intro i hi
  obtain rfl : i = 7 := by simpa using hi
  clear hi
  have k3 := (hk3.block _ (ltOf HV.out.2.2.2.1)).trans HV.out.2.2.2.1
  refine op_store rfl rfl rfl 32 _ _ rfl (w.heap.size + 2) #[.int .i64 0, .slice b m d, .slice ga 12 gc] (by go_simp) (by go_simp) (there_ng k3 rfl) (by kernel_rfl) (by simp [Value.oneCell']) ?_
  obtain ⟨W, hW⟩ : ∃ W, W = y3.setCells (w.heap.size + 2) 0 [.int .i64 0, .slice b m d, .slice ga 12 gc] := ⟨_, rfl⟩
  have ho : ∀ q, q ≠ w.heap.size + 2 → W.heap[q]? = y3.heap[q]? := fun q hq => by rw [hW]; exact setCells_other _ _ _ _ _ hq
  have kW : W.heap[w.heap.size + 2]? = some (.cells #[.int .i64 0, .slice b m d, .slice ga 12 gc] 32) := by
    rw [hW]
    simp only [World.setCells]
    have s1 := heap_setCell_same _ _ 0 _ _ (.int .i64 0) k3
    have s2 := heap_setCell_same _ _ 1 _ _ (.slice b m d) s1
    have s3 := heap_setCell_same _ _ 2 _ _ (.slice ga 12 gc) s2
    simpa using s3
  have hbW : Below w.heap.size w W := by rw [hW]; exact below_setCells _ (by omega) _ _ _ (st _ hk3).1
  have HF : Hid (IS W w.heap.size (.slice ga 12 gc) (lsL M1 M2) ∧ Below w.heap.size w W) := by
    refine ⟨rowLow (IS.kept (w' := W) i3 (fun q hq => ho q ?_)) (Nat.le_trans (st _ hk2).1.size (Nat.le_refl _)), hbW⟩
    have h8 := (World.ownsRow.lt i3 q hq).1
    have h9 := hk2.size
    have := HV.out.2.2.2.2
    omega
  show _ ∧ _
  rw [show (#[Value.int .i64 0, .slice b m d, .slice ga 12 gc] : Array Value).toList = [.int .i64 0, .slice b m d, .slice ga 12 gc] from rfl, ← hW]
  refine ⟨⟨hbW, (ho _ (by omega)).trans (st _ hk3).2.1, (ho _ (by omega)).trans (st _ hk3).2.2⟩, wpAnyH_done (by kernel_rfl) (NoPanic.normal ?_) _⟩
  have t0 := cellOf kW 0 rfl
  have t1 := cellOf kW 1 rfl
  have t2 := cellOf kW 2 rfl
  have t3 := ltOf kW
  clear hS hB0 hk1 hk2 hk3 st i1 i2 i3 hb1 hb2 hb3 k3 hW ho kW hbW
  go_wp2
  refine bodyPost_ret (by simp [results, Try.results40, go_sem, t0, t1, t2, t3]; try rfl) rfl ⟨ga, gc, rfl, HF.out.1, HF.out.2⟩

end Go.Proofs.Ytceljakmjddgbab
