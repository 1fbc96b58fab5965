/- Proved here: the model's sums of fractions with their first code (l11Acc): what one more term does. -/
import Derived.Test.YtjacmneopijiaaaFsB
import Derived.Test.YtjacmneopijiaaaVkM
import Derived.Test.YtjacmneopijiaaaTmC
import Derived.Deep.DeepCutAuto
namespace Go.Proofs.Ytjacmneopijiaaa
open Go.RowKit
set_option linter.unusedVariables false
set_option linter.unusedSimpArgs false

/-- A sum on its way, at a place in memory. -/
structure AC (w : World) (G o : Nat) (a : QR) : Prop where
  c0 : w.cell? ⟨G, o, none⟩ = some (.int .i64 a.c)
  c1 : w.cell? ⟨G, o + 1, none⟩ = some (.int .i64 a.n)
  c2 : w.cell? ⟨G, o + 2, none⟩ = some (.int .i64 a.d)
  f0 : w.frozen? ⟨G, o, none⟩ = false
  f1 : w.frozen? ⟨G, o + 1, none⟩ = false
  f2 : w.frozen? ⟨G, o + 2, none⟩ = false
  lt : G < w.heap.size
theorem AC.keep {w w' : World} {G o : Nat} {a : QR} (h : AC w G o a) (hb : w'.heap[G]? = w.heap[G]?) : AC w' G o a := by
  have hc : ∀ j, w'.cell? ⟨G, j, none⟩ = w.cell? ⟨G, j, none⟩ := fun j => by simp [World.cell?, hb]
  have hf : ∀ j, w'.frozen? ⟨G, j, none⟩ = w.frozen? ⟨G, j, none⟩ := fun j => by simp [World.frozen?, hb]
  refine ⟨by rw [hc]; exact h.c0, by rw [hc]; exact h.c1, by rw [hc]; exact h.c2, by rw [hf]; exact h.f0, by rw [hf]; exact h.f1, by rw [hf]; exact h.f2, ?_⟩
  rcases Nat.lt_or_ge G w'.heap.size with h' | h'
  · exact h'
  · have e := hb
    rw [Array.getElem?_eq_none h'] at e
    have := Array.getElem?_eq_getElem h.lt
    rw [← e] at this; cases this
theorem AC.mk3 {w : World} {G : Nat} {a : QR} {T : TypeId} (h : w.heap[G]? = some (.cells #[.int .i64 a.c, .int .i64 a.n, .int .i64 a.d] T)) : AC w G 0 a :=
  ⟨cellOf h 0 rfl, cellOf h 1 rfl, cellOf h 2 rfl, frozOf h 0, frozOf h 1, frozOf h 2, ltOf h⟩
/-- What adding turns. -/
structure AD (w w' : World) (G o : Nat) (a : QR) : Prop where
  ac : AC w' G o a
  other : ∀ j, j ≠ o → j ≠ o + 1 → j ≠ o + 2 → w'.cell? ⟨G, j, none⟩ = w.cell? ⟨G, j, none⟩ ∧ w'.frozen? ⟨G, j, none⟩ = w.frozen? ⟨G, j, none⟩
  chg : Chg G (G + 1) w w'
theorem sc_cell {w : World} {G i j : Nat} {v : Value} (h : j ≠ i) : (w.setCell ⟨G, i, none⟩ v).cell? ⟨G, j, none⟩ = w.cell? ⟨G, j, none⟩ := by
  have hne : (⟨G, i, none⟩ : Addr) ≠ ⟨G, j, none⟩ := fun e => h (congrArg Addr.off e).symm
  exact World.cell?_setCell_other _ _ _ _ hne
theorem sc_froz {w : World} {G i j : Nat} {v : Value} : (w.setCell ⟨G, i, none⟩ v).frozen? ⟨G, j, none⟩ = w.frozen? ⟨G, j, none⟩ := by
  simp
theorem sc_same {w : World} {G i : Nat} {v u : Value} (h : w.cell? ⟨G, i, none⟩ = some u) : (w.setCell ⟨G, i, none⟩ v).cell? ⟨G, i, none⟩ = some v := by
  exact World.cell?_setCell_same _ _ _ h

set_option maxRecDepth 10000 in
set_option maxHeartbeats 6400000 in
theorem spec_add {G o : Nat} {a r : QR} {w : World} (h : AC w G o a) :
    Calls Try.prog 56 #[.pointer (some ⟨G, o, none⟩), .agg #[.int .i64 (r).c, .int .i64 (r).n, .int .i64 (r).d]] w fun e w' => e = .returned (.tuple #[]) ∧ AD w w' G o (adA a r) := by
  obtain ⟨B, hB⟩ : ∃ B, B = adA a r := ⟨_, rfl⟩
  rw [← hB]
  have HB : Hid (B = adA a r) := hB
  have H : Hid (AC w G o a) := h
  clear h hB
  obtain ⟨ac, an, ad⟩ := a
  obtain ⟨rc, rn, rd⟩ := r
  obtain ⟨V, hV⟩ : ∃ V, V = w.alloc (.cells #[.int .i64 rc, .int .i64 rn, .int .i64 rd] 57) := ⟨_, rfl⟩
  have HV : Hid (V.heap[w.heap.size]? = some (.cells #[.int .i64 rc, .int .i64 rn, .int .i64 rd] 57) ∧ Below w.heap.size w V ∧ V.heap.size = w.heap.size + 1) := ⟨by rw [hV]; exact heap_alloc_new w _, by rw [hV]; (repeat' (first | (with_reducible exact Below.refl _ _) | (with_reducible assumption) | (with_reducible refine Below.setCell ?_ ?_ _) | (with_reducible refine Below.alloc ?_ ?_ _) | (with_reducible refine below_drewN ?_ _) | (with_reducible refine Below.drew ?_) | (with_reducible exact Nat.le_refl _) | omega | (simp; done) | (simp; omega))), by rw [hV]; simp⟩
  have HA : Hid (AC V G o ⟨ac, an, ad⟩) := H.out.keep (HV.out.2.1.block _ H.out.lt)
  have p0 := cellOf HV.out.1 0 rfl
  have p1 := cellOf HV.out.1 1 rfl
  have p2 := cellOf HV.out.1 2 rfl
  have pl := ltOf HV.out.1
  have q0 : V.cell? ⟨G, o, none⟩ = some (.int .i64 ac) := HA.out.c0
  have q1 : V.cell? ⟨G, o + 1, none⟩ = some (.int .i64 an) := HA.out.c1
  have q2 : V.cell? ⟨G, o + 2, none⟩ = some (.int .i64 ad) := HA.out.c2
  have f0 := HA.out.f0
  have f1 := HA.out.f1
  have f2 := HA.out.f2
  have ql := HA.out.lt
  have hGw : G < w.heap.size := H.out.lt
  go_enter Try.func56, Try.ntmps56
  go_upto_region 1 with fail
  rw [← hV]
  clear hV
  by_cases hac : ac = 0
  case neg =>
    have HE : Hid (B = ⟨ac, an, ad⟩) := by unfold Hid; rw [HB.out]; exact adA_code hac _
    have hA : (ac != 0) = true := by simpa using hac
    clear hac
    go_wp2
    go_returns
    refine ⟨rfl, ?_, fun j _ _ _ => ?_, Chg.of_below HV.out.2.1⟩
    · rw [HE.out]; exact HA.out
    · have e := HV.out.2.1.block G hGw
      exact ⟨by simp [World.cell?, e], by simp [World.frozen?, e]⟩
  have hA : (ac != 0) = false := by rw [hac]; rfl
  by_cases hrc : rc = 0
  case neg =>
    have HE : Hid (B = ⟨rc, an, ad⟩) := by
      unfold Hid; rw [HB.out]; unfold adA
      rw [if_neg (by simpa using hac), if_pos (by exact hrc)]
    have hA2 : (rc != 0) = true := by simpa using hrc
    clear hac hrc
    go_wp2
    go_returns
    refine ⟨rfl, ?_, fun j h0 h1 h2 => ?_, ?_⟩
    · rw [HE.out]
      refine ⟨sc_same q0, by rw [sc_cell (by omega)]; exact q1, by rw [sc_cell (by omega)]; exact q2, by rw [sc_froz]; exact f0, by rw [sc_froz]; exact f1, by rw [sc_froz]; exact f2, by simpa using ql⟩
    · have e := HV.out.2.1.block G hGw
      rw [sc_cell h0, sc_froz]
      exact ⟨by simp [World.cell?, e], by simp [World.frozen?, e]⟩
    · exact (Chg.of_below HV.out.2.1).trans (Chg.set _ _ (Nat.le_refl _) (by omega))
  have hA2 : (rc != 0) = false := by rw [hrc]; rfl
  obtain ⟨u, hu⟩ : ∃ u, u = adQ ⟨an, ad⟩ ⟨rn, rd⟩ := ⟨_, rfl⟩
  have HE : Hid (B = u) := by unfold Hid; rw [HB.out, adA_ok hac hrc, hu]; rfl
  have HAD : Hid (∀ W, Calls Try.prog 73 #[.agg #[.int .i64 an, .int .i64 ad], .agg #[.int .i64 rn, .int .i64 rd]] W fun e w' => e = .returned (.agg #[.int .i64 (u).c, .int .i64 (u).n, .int .i64 (u).d]) ∧ Below W.heap.size W w') := fun W => by rw [hu]; exact spec_adQ ⟨an, ad⟩ ⟨rn, rd⟩ W
  clear hu hac hrc HB
  obtain ⟨uc, un, ud⟩ := u
  go_wp2_with (fail)
  refine wp_region_float (by kernel_rfl) (fun hS => ?_)
  refine fl_take (i := 0) (d := 18) (v := .pointer (some ⟨G, o, none⟩)) rfl rfl rfl (by kernel_rfl) (by kernel_rfl) (by kernel_rfl) hS ?_ ?_
  · intro w' hk; go_simp
  simp only [Act.put, List.setIfInBounds_toArray, List.set_cons_zero, List.set_cons_succ]
  refine fl_take (i := 1) (d := 19) (v := .pointer (some ⟨G, o, none⟩)) rfl rfl rfl (by kernel_rfl) (by kernel_rfl) (by kernel_rfl) hS ?_ ?_
  · intro w' hk; go_simp
  simp only [Act.put, List.setIfInBounds_toArray, List.set_cons_zero, List.set_cons_succ]
  refine fl_take (i := 2) (d := 20) (v := .pointer (some ⟨G, o + 1, none⟩)) rfl rfl rfl (by kernel_rfl) (by kernel_rfl) (by kernel_rfl) hS ?_ ?_
  · intro w' hk; go_simp
  simp only [Act.put, List.setIfInBounds_toArray, List.set_cons_zero, List.set_cons_succ]
  refine fl_take (i := 3) (d := 21) (v := .agg #[.int .i64 an, .int .i64 ad]) rfl rfl rfl (by kernel_rfl) (by kernel_rfl) (by kernel_rfl) hS ?_ ?_
  · intro w' hk; go_simp
  simp only [Act.put, List.setIfInBounds_toArray, List.set_cons_zero, List.set_cons_succ]
  refine fl_take (i := 4) (d := 22) (v := .pointer (some ⟨w.heap.size, 1, none⟩)) rfl rfl rfl (by kernel_rfl) (by kernel_rfl) (by kernel_rfl) hS ?_ ?_
  · intro w' hk; go_simp
  simp only [Act.put, List.setIfInBounds_toArray, List.set_cons_zero, List.set_cons_succ]
  refine fl_take (i := 5) (d := 23) (v := .agg #[.int .i64 rn, .int .i64 rd]) rfl rfl rfl (by kernel_rfl) (by kernel_rfl) (by kernel_rfl) hS ?_ ?_
  · intro w' hk; go_simp
  simp only [Act.put, List.setIfInBounds_toArray, List.set_cons_zero, List.set_cons_succ]
  refine float_pend (z := #[.int .i64 0, .int .i64 0, .int .i64 0]) (T := 57) (ja := 7) (js := 8) rfl rfl rfl rfl rfl (fun a w => by go_simp) [6] _ _ _ (fun _ => False) (by kernel_rfl) (by kernel_rfl) ?_ (Nat.le_refl _) (fun _ h => h.elim) hS
  intro y hW
  refine ⟨_, 24, _, _, rfl, rfl, by go_simp, (HAD.out y).mono ?_⟩
  rintro e ye ⟨rfl, hbq⟩
  refine ⟨_, rfl, hbq, ?_⟩
  simp only [Act.put, List.setIfInBounds_toArray, List.set_cons_zero, List.set_cons_succ]
  unfold Fl
  refine after_store ?_ _ _ _ #[.int .i64 uc, .int .i64 un, .int .i64 ud] (by rfl) (by rfl) (fun _ => by rfl) (fun _ => by rfl) (by simp) (by kernel_rfl) (by simp [Value.oneCell']) ?_
  · exact Nat.le_refl _
  intro K W hK hk1 hk2 hF hoth hsz hcell
  simp only [Act.put, List.setIfInBounds_toArray, List.set_cons_zero, List.set_cons_succ]
  refine NoPanic.normal ?_
  have r0 : W.cell? ⟨K, 0, none⟩ = some (.int .i64 uc) := hcell 0 _ rfl
  have r1 : W.cell? ⟨K, 1, none⟩ = some (.int .i64 un) := hcell 1 _ rfl
  have r2 : W.cell? ⟨K, 2, none⟩ = some (.int .i64 ud) := hcell 2 _ rfl
  have hbl := hK.2.block G ql
  have HW : Hid (AC W G o ⟨ac, an, ad⟩ ∧ Chg G (G + 1) w W ∧ W.heap[G]? = w.heap[G]?) := ⟨HA.out.keep hbl, (Chg.of_below HV.out.2.1).trans (Chg.of_below hK.2), hbl.trans (HV.out.2.1.block G hGw)⟩
  have hKG : G < K := by omega
  clear hcell hsz hoth hF hK hbl hS hW hbq HAD p0 p1 p2 pl q0 q1 q2 f0 f1 f2 ql
  have q0 : W.cell? ⟨G, o, none⟩ = some (.int .i64 ac) := HW.out.1.c0
  have q1 : W.cell? ⟨G, o + 1, none⟩ = some (.int .i64 an) := HW.out.1.c1
  have q2 : W.cell? ⟨G, o + 2, none⟩ = some (.int .i64 ad) := HW.out.1.c2
  have f0 := HW.out.1.f0
  have f1 := HW.out.1.f1
  have f2 := HW.out.1.f2
  have ql := HW.out.1.lt
  have hne : K ≠ G := by omega
  have hne2 : G ≠ K := by omega
  go_wp2
  go_returns
  refine ⟨rfl, ?_, fun j h0 h1 h2 => ?_, ?_⟩
  · rw [HE.out]
    refine ⟨?_, ?_, ?_, ?_, ?_, ?_, ?_⟩
    · rw [sc_cell (by omega), sc_cell (by omega)]; exact sc_same q0
    · rw [sc_cell (by omega)]; exact sc_same (by rw [sc_cell (by omega)]; exact q1)
    · exact sc_same (by rw [sc_cell (by omega), sc_cell (by omega)]; exact q2)
    · rw [sc_froz, sc_froz, sc_froz]; exact f0
    · rw [sc_froz, sc_froz, sc_froz]; exact f1
    · rw [sc_froz, sc_froz, sc_froz]; exact f2
    · simpa using ql
  · have e := HW.out.2.2
    rw [sc_cell h2, sc_cell h1, sc_cell h0, sc_froz, sc_froz, sc_froz]
    exact ⟨by simp [World.cell?, e], by simp [World.frozen?, e]⟩
  · exact ((HW.out.2.1.trans (Chg.set _ _ (Nat.le_refl _) (by omega))).trans (Chg.set _ _ (Nat.le_refl _) (by omega))).trans (Chg.set _ _ (Nat.le_refl _) (by omega))

end Go.Proofs.Ytjacmneopijiaaa
