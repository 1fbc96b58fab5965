/- Proved here: who is near, of the program: the function value that take makes, and slices.ContainsFunc with it. -/
import Derived.Test.YtngpjglcjbdblaaVgM
import Derived.Test.YtngpjglcjbdblaaVoI
import Derived.Test.YtngpjglcjbdblaaLwS
import Derived.Test.YtngpjglcjbdblaaReg
import Derived.BigQuiet
import Derived.Deep.DeepCutAuto
namespace Go.Proofs.Ytngpjglcjbdblaa
open Go.RowKit Go.Maps
set_option linter.unusedVariables false
set_option linter.unusedSimpArgs false

theorem impl_size15 (n : Int) (h1 : -1000000 ≤ n) (w : World) : Calls Try.prog 40 #[.int .i64 n] w fun e w' => e = .returned (.int .i64 n.natAbs) ∧ w' = w := by
  by_cases h : n < 0
  · have e1 : IntKind.i64.wrap (-n) = -n := by rw [IntKind.wrap_i64]; omega
    have e2 : ((n.natAbs : Nat) : Int) = -n := by omega
    rw [e2]
    clear e2
    go_enter Try.func40, Try.ntmps40
    go_wp2
    go_returns
    exact ⟨rfl, rfl⟩
  · have e2 : ((n.natAbs : Nat) : Int) = n := by omega
    rw [e2]
    clear e2
    go_enter Try.func40, Try.ntmps40
    go_wp2
    go_returns
    exact ⟨rfl, rfl⟩
set_option maxRecDepth 10000 in
set_option maxHeartbeats 3200000 in
theorem impl_near {d o : Dft} (near : Int) (hd : Vok d) (ho : Vok o) (w : World) :
    Calls Try.prog 37 #[.agg #[.int .i64 d.x, .int .i64 d.y, .int .i64 d.z, .int .i64 d.k], .agg #[.int .i64 o.x, .int .i64 o.y, .int .i64 o.z, .int .i64 o.k], .int .i64 near] w fun e w' => e = .returned (.bool (nbD near d o)) ∧ Below w.heap.size w w' := by
  obtain ⟨D1, hD1⟩ : ∃ D, D = d.x - o.x := ⟨_, rfl⟩
  obtain ⟨D2, hD2⟩ : ∃ D, D = d.y - o.y := ⟨_, rfl⟩
  have hb1 : -10000 ≤ D1 ∧ D1 ≤ 10000 := by rw [hD1]; have h8 := hd.1; have h7 := hd.2.1; have h6 := ho.1; have h5 := ho.2.1; omega
  have hb2 : -10000 ≤ D2 ∧ D2 ≤ 10000 := by rw [hD2]; have h8 := hd.2.2.1; have h7 := hd.2.2.2.1; have h6 := ho.2.2.1; have h5 := ho.2.2.2.1; omega
  have hw1 : IntKind.i64.wrap (d.x - o.x) = D1 := by rw [← hD1, IntKind.wrap_i64]; omega
  have hw2 : IntKind.i64.wrap (d.y - o.y) = D2 := by rw [← hD2, IntKind.wrap_i64]; omega
  obtain ⟨A1, hA1⟩ : ∃ A, A = (D1.natAbs : Int) := ⟨_, rfl⟩
  obtain ⟨A2, hA2⟩ : ∃ A, A = (D2.natAbs : Int) := ⟨_, rfl⟩
  have HA1 : Hid (∀ X, Calls Try.prog 40 #[.int .i64 D1] X fun e w' => e = .returned (.int .i64 A1) ∧ w' = X) := fun X => by rw [hA1]; exact impl_size15 D1 (by omega) X
  have HA2 : Hid (∀ X, Calls Try.prog 40 #[.int .i64 D2] X fun e w' => e = .returned (.int .i64 A2) ∧ w' = X) := fun X => by rw [hA2]; exact impl_size15 D2 (by omega) X
  obtain ⟨y, hy⟩ : ∃ y, y = nbD near d o := ⟨_, rfl⟩
  have HY : Hid (y = (decide (A1 ≤ near) && decide (A2 ≤ near))) := by unfold Hid; rw [hy]; unfold nbD; rw [hA1, hA2, hD1, hD2]
  rw [← hy]
  clear hy hA1 hA2 hD1 hD2 hb1 hb2 hd ho
  by_cases hX : A1 ≤ near
  case neg =>
    have dx : decide (A1 ≤ near) = false := decide_eq_false hX
    have hyf : y = false := by rw [HY.out, dx]; rfl
    subst hyf
    clear HY
    go_enter Try.func37, Try.ntmps37
    go_wp2_with (fail)
    refine (HA1.out _).mono ?_
    rintro e w1 ⟨rfl, rfl⟩
    go_wp2
    go_returns
    exact ⟨rfl, by (repeat' (first | (with_reducible exact Below.refl _ _) | (with_reducible assumption) | (with_reducible refine Below.setCell ?_ ?_ _) | (with_reducible refine Below.alloc ?_ ?_ _) | (with_reducible refine below_drewN ?_ _) | (with_reducible refine Below.drew ?_) | (with_reducible exact Nat.le_refl _) | omega | (simp; done) | (simp; omega)))⟩
  have dx : decide (A1 ≤ near) = true := decide_eq_true hX
  obtain ⟨z, hz⟩ : ∃ z, z = decide (A2 ≤ near) := ⟨_, rfl⟩
  have hyf : y = z := by rw [HY.out, dx, hz]; rfl
  subst hyf
  clear HY
  go_enter Try.func37, Try.ntmps37
  go_wp2_with (fail)
  refine (HA1.out _).mono ?_
  rintro e w1 ⟨rfl, rfl⟩
  go_wp2_with (fail)
  refine (HA2.out _).mono ?_
  rintro e w1 ⟨rfl, rfl⟩
  by_cases hY : A2 ≤ near
  · have dy : decide (A2 ≤ near) = true := decide_eq_true hY
    rw [dy] at hz
    subst hz
    go_wp2
    go_returns
    exact ⟨rfl, by (repeat' (first | (with_reducible exact Below.refl _ _) | (with_reducible assumption) | (with_reducible refine Below.setCell ?_ ?_ _) | (with_reducible refine Below.alloc ?_ ?_ _) | (with_reducible refine below_drewN ?_ _) | (with_reducible refine Below.drew ?_) | (with_reducible exact Nat.le_refl _) | omega | (simp; done) | (simp; omega)))⟩
  · have dy : decide (A2 ≤ near) = false := decide_eq_false hY
    rw [dy] at hz
    subst hz
    go_wp2
    go_returns
    exact ⟨rfl, by (repeat' (first | (with_reducible exact Below.refl _ _) | (with_reducible assumption) | (with_reducible refine Below.setCell ?_ ?_ _) | (with_reducible refine Below.alloc ?_ ?_ _) | (with_reducible refine below_drewN ?_ _) | (with_reducible refine Below.drew ?_) | (with_reducible exact Nat.le_refl _) | omega | (simp; done) | (simp; omega)))⟩
/-- The three boxes that the function value reads. -/
def NB (w' : World) (p k n : Nat) (da : Option Addr) (dc : Nat) (near : Int) : Prop := (w'.heap[p]? = some (.cells #[.int .i64 (k : Int)] 3) ∧ w'.heap[p + 1]? = some (.cells #[.slice da n dc] 28) ∧ w'.heap[p + 2]? = some (.cells #[.int .i64 near] 2))
theorem NB.below {w w' : World} {p k n dc : Nat} {da : Option Addr} {near : Int} (h : NB w p k n da dc near) (hb : Below w.heap.size w w') : NB w' p k n da dc near :=
  ⟨(hb.block _ (ltOf h.1)).trans h.1, (hb.block _ (ltOf h.2.1)).trans h.2.1, (hb.block _ (ltOf h.2.2)).trans h.2.2⟩
set_option maxRecDepth 10000 in
set_option maxHeartbeats 6400000 in
theorem impl_nclo {W : World} {p k n dc j : Nat} {da : Option Addr} {near : Int} {s : List Dft} (hok : ∀ d ∈ s, Vok d) (hn : n ≤ 60) (hk : k < n) (hj : j < n) (hs : RG 4 vdC W (.slice da n dc) s) (hN : NB W p k n da dc near) :
    Calls Try.prog 36 #[.int .i64 (j : Int), .pointer (some ⟨p + 1, 0, none⟩), .pointer (some ⟨p, 0, none⟩), .pointer (some ⟨p + 2, 0, none⟩)] W fun e w' => e = .returned (.bool (nbS s near k j)) ∧ Below W.heap.size W w' := by
  have hl := hs.len
  have hks : k < s.length := by omega
  have hjs : j < s.length := by omega
  obtain ⟨y, hy⟩ : ∃ y, y = nbS s near k j := ⟨_, rfl⟩
  rw [nbS_at hks hjs] at hy
  have HY : Hid (y = nbS s near k j) := by unfold Hid; rw [hy, nbS_at hks hjs]
  rw [← HY.out]
  obtain ⟨g, o, c2, he, hg, hjc⟩ := hs.pos (by omega)
  simp only [Value.slice.injEq] at he
  obtain ⟨rfl, hx1, hx2⟩ := he
  clear hx1 hx2
  obtain ⟨dk, hdk⟩ : ∃ d, d = s[k] := ⟨_, rfl⟩
  obtain ⟨dj, hdj⟩ : ∃ d, d = s[j] := ⟨_, rfl⟩
  have HC : Hid (∀ X, Calls Try.prog 37 #[.agg #[.int .i64 dk.x, .int .i64 dk.y, .int .i64 dk.z, .int .i64 dk.k], .agg #[.int .i64 dj.x, .int .i64 dj.y, .int .i64 dj.z, .int .i64 dj.k], .int .i64 near] X fun e w' => e = .returned (.bool y) ∧ Below X.heap.size X w') := fun X => by
    rw [hy, ← hdk, ← hdj]
    exact impl_near near (by rw [hdk]; exact hok _ (List.getElem_mem _)) (by rw [hdj]; exact hok _ (List.getElem_mem _)) X
  have HS : Hid (∀ X, Below W.heap.size W X → (X.heap[p]? = some (.cells #[.int .i64 (k : Int)] 3) ∧ X.heap[p + 1]? = some (.cells #[.slice (some ⟨g, o, none⟩) n dc] 28) ∧ X.heap[p + 2]? = some (.cells #[.int .i64 near] 2)) ∧ g < X.heap.size ∧
      (X.cell? ⟨g, o + k * 4, none⟩ = some (.int .i64 dk.x) ∧ X.cell? ⟨g, o + k * 4 + 1, none⟩ = some (.int .i64 dk.y) ∧ X.cell? ⟨g, o + k * 4 + 2, none⟩ = some (.int .i64 dk.z) ∧ X.cell? ⟨g, o + k * 4 + 3, none⟩ = some (.int .i64 dk.k)) ∧
      (X.cell? ⟨g, o + j * 4, none⟩ = some (.int .i64 dj.x) ∧ X.cell? ⟨g, o + j * 4 + 1, none⟩ = some (.int .i64 dj.y) ∧ X.cell? ⟨g, o + j * 4 + 2, none⟩ = some (.int .i64 dj.z) ∧ X.cell? ⟨g, o + j * 4 + 3, none⟩ = some (.int .i64 dj.k))) := by
    intro X hX
    obtain ⟨a0, a1, a2, a3⟩ := vdC_at (hjc k hks)
    obtain ⟨b0, b1, b2, b3⟩ := vdC_at (hjc j hjs)
    rw [← hdk] at a0 a1 a2 a3
    rw [← hdj] at b0 b1 b2 b3
    have e : ∀ q, X.cell? ⟨g, q, none⟩ = W.cell? ⟨g, q, none⟩ := fun q => by simp [World.cell?, hX.block g hg]
    refine ⟨hN.below hX, Nat.lt_of_lt_of_le hg hX.size, ?_, ?_⟩
    · rw [e, e, e, e]; exact ⟨a0, a1, a2, a3⟩
    · rw [e, e, e, e]; exact ⟨b0, b1, b2, b3⟩
  have b0 : (0 : Int) ≤ (k : Int) := by omega
  have b1 : (k : Int) < (n : Int) := by omega
  have b2 : (0 : Int) ≤ (j : Int) := by omega
  have b3 : (j : Int) < (n : Int) := by omega
  clear hjc hg hN hs hdk hdj hy hks hjs hl hok HY
  go_enter Try.func36, Try.ntmps36
  go_wp2_with (fail)
  obtain ⟨V, hV⟩ : ∃ V, V = W.drew := ⟨_, rfl⟩
  have hm0 : W.drew = V := hV.symm
  have bV : Below W.heap.size W V := by rw [hV]; exact (Below.refl _ _).drew
  clear hV
  refine wp_region_holdsA (S := fun w' => Below W.heap.size W w') (by kernel_rfl) (by rw [hm0]; exact bV) (fun hS => ?_)
  rw [hm0] at hS ⊢
  clear hm0
  refine fl_takeA (i := 0) (d := 6) (v := .slice (some ⟨g, o, none⟩) n dc) rfl rfl rfl (by kernel_rfl) (by kernel_rfl) (by kernel_rfl) hS ?_ ?_
  · intro w' hk; obtain ⟨⟨x0, x1, x2⟩, x3, ⟨c0, c1, c2, c3⟩, ⟨e0, e1, e2, e3⟩⟩ := HS.out _ hk; have y0 := cellOf x0 0 rfl; have y1 := cellOf x1 0 rfl; have y2 := cellOf x2 0 rfl; have l0 := ltOf x0; have l1 := ltOf x1; have l2 := ltOf x2; go_simp
  simp only [Act.put, List.setIfInBounds_toArray, List.set_cons_zero, List.set_cons_succ]
  refine fl_takeA (i := 1) (d := 7) (v := .int .i64 (k : Int)) rfl rfl rfl (by kernel_rfl) (by kernel_rfl) (by kernel_rfl) hS ?_ ?_
  · intro w' hk; obtain ⟨⟨x0, x1, x2⟩, x3, ⟨c0, c1, c2, c3⟩, ⟨e0, e1, e2, e3⟩⟩ := HS.out _ hk; have y0 := cellOf x0 0 rfl; have y1 := cellOf x1 0 rfl; have y2 := cellOf x2 0 rfl; have l0 := ltOf x0; have l1 := ltOf x1; have l2 := ltOf x2; go_simp
  simp only [Act.put, List.setIfInBounds_toArray, List.set_cons_zero, List.set_cons_succ]
  refine fl_takeA (i := 2) (d := 8) (v := .pointer (some ⟨g, o + k * 4, none⟩)) rfl rfl rfl (by kernel_rfl) (by kernel_rfl) (by kernel_rfl) hS ?_ ?_
  · intro w' hk; obtain ⟨⟨x0, x1, x2⟩, x3, ⟨c0, c1, c2, c3⟩, ⟨e0, e1, e2, e3⟩⟩ := HS.out _ hk; have y0 := cellOf x0 0 rfl; have y1 := cellOf x1 0 rfl; have y2 := cellOf x2 0 rfl; have l0 := ltOf x0; have l1 := ltOf x1; have l2 := ltOf x2; go_simp
  simp only [Act.put, List.setIfInBounds_toArray, List.set_cons_zero, List.set_cons_succ]
  refine fl_takeA (i := 3) (d := 9) (v := .agg #[.int .i64 dk.x, .int .i64 dk.y, .int .i64 dk.z, .int .i64 dk.k]) rfl rfl rfl (by kernel_rfl) (by kernel_rfl) (by kernel_rfl) hS ?_ ?_
  · intro w' hk; obtain ⟨⟨x0, x1, x2⟩, x3, ⟨c0, c1, c2, c3⟩, ⟨e0, e1, e2, e3⟩⟩ := HS.out _ hk; have y0 := cellOf x0 0 rfl; have y1 := cellOf x1 0 rfl; have y2 := cellOf x2 0 rfl; have l0 := ltOf x0; have l1 := ltOf x1; have l2 := ltOf x2; go_simp
  simp only [Act.put, List.setIfInBounds_toArray, List.set_cons_zero, List.set_cons_succ]
  refine fl_takeA (i := 4) (d := 10) (v := .slice (some ⟨g, o, none⟩) n dc) rfl rfl rfl (by kernel_rfl) (by kernel_rfl) (by kernel_rfl) hS ?_ ?_
  · intro w' hk; obtain ⟨⟨x0, x1, x2⟩, x3, ⟨c0, c1, c2, c3⟩, ⟨e0, e1, e2, e3⟩⟩ := HS.out _ hk; have y0 := cellOf x0 0 rfl; have y1 := cellOf x1 0 rfl; have y2 := cellOf x2 0 rfl; have l0 := ltOf x0; have l1 := ltOf x1; have l2 := ltOf x2; go_simp
  simp only [Act.put, List.setIfInBounds_toArray, List.set_cons_zero, List.set_cons_succ]
  refine fl_takeA (i := 5) (d := 11) (v := .int .i64 (j : Int)) rfl rfl rfl (by kernel_rfl) (by kernel_rfl) (by kernel_rfl) hS ?_ ?_
  · intro w' hk; obtain ⟨⟨x0, x1, x2⟩, x3, ⟨c0, c1, c2, c3⟩, ⟨e0, e1, e2, e3⟩⟩ := HS.out _ hk; have y0 := cellOf x0 0 rfl; have y1 := cellOf x1 0 rfl; have y2 := cellOf x2 0 rfl; have l0 := ltOf x0; have l1 := ltOf x1; have l2 := ltOf x2; go_simp
  simp only [Act.put, List.setIfInBounds_toArray, List.set_cons_zero, List.set_cons_succ]
  refine fl_takeA (i := 6) (d := 12) (v := .pointer (some ⟨g, o + j * 4, none⟩)) rfl rfl rfl (by kernel_rfl) (by kernel_rfl) (by kernel_rfl) hS ?_ ?_
  · intro w' hk; obtain ⟨⟨x0, x1, x2⟩, x3, ⟨c0, c1, c2, c3⟩, ⟨e0, e1, e2, e3⟩⟩ := HS.out _ hk; have y0 := cellOf x0 0 rfl; have y1 := cellOf x1 0 rfl; have y2 := cellOf x2 0 rfl; have l0 := ltOf x0; have l1 := ltOf x1; have l2 := ltOf x2; go_simp
  simp only [Act.put, List.setIfInBounds_toArray, List.set_cons_zero, List.set_cons_succ]
  refine fl_takeA (i := 7) (d := 13) (v := .agg #[.int .i64 dj.x, .int .i64 dj.y, .int .i64 dj.z, .int .i64 dj.k]) rfl rfl rfl (by kernel_rfl) (by kernel_rfl) (by kernel_rfl) hS ?_ ?_
  · intro w' hk; obtain ⟨⟨x0, x1, x2⟩, x3, ⟨c0, c1, c2, c3⟩, ⟨e0, e1, e2, e3⟩⟩ := HS.out _ hk; have y0 := cellOf x0 0 rfl; have y1 := cellOf x1 0 rfl; have y2 := cellOf x2 0 rfl; have l0 := ltOf x0; have l1 := ltOf x1; have l2 := ltOf x2; go_simp
  simp only [Act.put, List.setIfInBounds_toArray, List.set_cons_zero, List.set_cons_succ]
  refine fl_takeA (i := 8) (d := 14) (v := .int .i64 near) rfl rfl rfl (by kernel_rfl) (by kernel_rfl) (by kernel_rfl) hS ?_ ?_
  · intro w' hk; obtain ⟨⟨x0, x1, x2⟩, x3, ⟨c0, c1, c2, c3⟩, ⟨e0, e1, e2, e3⟩⟩ := HS.out _ hk; have y0 := cellOf x0 0 rfl; have y1 := cellOf x1 0 rfl; have y2 := cellOf x2 0 rfl; have l0 := ltOf x0; have l1 := ltOf x1; have l2 := ltOf x2; go_simp
  simp only [Act.put, List.setIfInBounds_toArray, List.set_cons_zero, List.set_cons_succ]

  refine wpAnyH_all (rs := [9]) (by kernel_rfl) (by simp) ?_
  intro iz hi
  obtain rfl : iz = 9 := by simpa using hi
  clear hi
  refine op_call (d := 15) rfl rfl rfl (by go_simp) ((HC.out V).mono ?_)
  rintro e y1 ⟨rfl, hb7⟩
  have hs7 : Below W.heap.size W y1 := bV.trans (hb7.mono bV.size)
  refine ⟨_, rfl, hs7, ?_⟩
  simp only [Act.put, List.setIfInBounds_toArray, List.set_cons_zero, List.set_cons_succ]
  refine wpAnyH_all (rs := [10]) (by kernel_rfl) (by simp) ?_
  intro iz hi
  obtain rfl : iz = 10 := by simpa using hi
  clear hi
  refine op_val (d := 5) (v := .bool y) (w' := y1) rfl rfl rfl (by go_simp; try rfl) ?_
  simp only [Act.put, List.setIfInBounds_toArray, List.set_cons_zero, List.set_cons_succ]
  refine ⟨hs7, ?_⟩
  refine wpAnyH_done (by kernel_rfl) (NoPanic.normal ?_) _
  have HB : Hid (Below W.heap.size W y1) := hs7
  clear hs7 hb7 hS bV HS HC
  go_wp2
  go_returns
  exact ⟨rfl, HB.out⟩
theorem any_dropN {α : Type} {p : α → Bool} {s : List α} {k : Nat} (h : k < s.length) : (s.drop k).any p = (p s[k] || (s.drop (k + 1)).any p) := by
  rw [List.drop_eq_getElem_cons h, List.any_cons]
set_option maxRecDepth 10000 in
set_option maxHeartbeats 3200000 in
theorem impl_ixN {W : World} {p k n dc m B : Nat} {da xa : Option Addr} {xc : Nat} {near : Int} {s : List Dft} {xs : List Nat} (hok : ∀ d ∈ s, Vok d) (hn : n ≤ 60) (hk : k < n) (hx : ∀ j ∈ xs, j < n) (hm : m ≤ 60) (hs : RG 4 vdC W (.slice da n dc) s) (hN : NB W p k n da dc near) (hX : NT W B (.slice xa m xc) (xs.map (fun (i : Nat) => (i : Int)))) :
    Calls Try.prog 41 #[.slice xa m xc, .func (Fn.func 36) #[] #[.pointer (some ⟨p + 1, 0, none⟩), .pointer (some ⟨p, 0, none⟩), .pointer (some ⟨p + 2, 0, none⟩)]] W fun e w' => ∃ r : Int, e = .returned (.int .i64 r) ∧ decide (0 ≤ r) = xs.any (nbS s near k) ∧ Below W.heap.size W w' := by
  have hml : m = xs.length := by obtain ⟨_, _, e9⟩ := hX.form; injection e9 with _ e9 _; rw [e9]; simp
  obtain ⟨G, hG⟩ : ∃ G, G = xs.any (nbS s near k) := ⟨_, rfl⟩
  rw [← hG]
  have H : Hid (NT W B (.slice xa m xc) (xs.map (fun (i : Nat) => (i : Int))) ∧ m = xs.length ∧ G = xs.any (nbS s near k)) := ⟨hX, hml, hG⟩
  have HC : Hid (∀ j, j < n → ∀ X, Below W.heap.size W X → Calls Try.prog 36 #[.int .i64 (j : Int), .pointer (some ⟨p + 1, 0, none⟩), .pointer (some ⟨p, 0, none⟩), .pointer (some ⟨p + 2, 0, none⟩)] X fun e w' => e = .returned (.bool (nbS s near k j)) ∧ Below X.heap.size X w') := fun j hj X hb => impl_nclo hok hn hk hj (hs.below hb) (hN.below hb)
  have HXS : Hid (∀ j ∈ xs, j < n) := hx
  clear hX hml hG hs hN hok hx
  go_enter Try.func41, Try.ntmps41
  go_wp2
  go_loopw [8] (fun i wr => ∃ t : Nat, t ≤ m ∧ i = .int .i64 t ∧ Hid (G = (xs.drop t).any (nbS s near k) ∧ Below W.heap.size W wr)) (fun i _ => m - (intOf i).toNat)
  case atStart => exact ⟨0, Nat.zero_le _, rfl, H.out.2.2, Below.refl _ _⟩
  case round =>
    obtain ⟨t, ht, rfl, hR⟩ := hrel
    by_cases hlt : t < m
    · have htl : t < xs.length := by rw [← H.out.2.1]; exact hlt
      obtain ⟨g, o, c2, he, hg, hj⟩ := (H.out.1.bel hR.out.2).rg.pos (by simp; omega)
      simp only [Value.slice.injEq] at he
      obtain ⟨rfl, hx1, hx2⟩ := he
      clear hx1 hx2
      have c0 := hj t (by simp; omega) 0 (by simp [inC])
      obtain ⟨i, hi⟩ : ∃ i, i = xs[t] := ⟨_, rfl⟩
      have hin : i < n := by rw [hi]; exact HXS.out _ (List.getElem_mem _)
      have c1 : wr.cell? ⟨g, o + t, none⟩ = some (.int .i64 (i : Int)) := by rw [hi]; simpa [inC] using c0
      obtain ⟨q, hq⟩ : ∃ q, q = nbS s near k i := ⟨_, rfl⟩
      have HQ : Hid (G = (q || (xs.drop (t + 1)).any (nbS s near k))) := by unfold Hid; rw [hR.out.1, any_dropN htl, hq, hi]
      have HC2 : Hid (Calls Try.prog 36 #[.int .i64 (i : Int), .pointer (some ⟨p + 1, 0, none⟩), .pointer (some ⟨p, 0, none⟩), .pointer (some ⟨p + 2, 0, none⟩)] wr fun e w' => e = .returned (.bool q) ∧ Below wr.heap.size wr w') := by rw [hq]; exact HC.out i hin wr hR.out.2
      clear hj hi hq c0
      have b0 : (0 : Int) ≤ (t : Int) := by omega
      have b1 : (t : Int) < (m : Int) := by omega
      go_wp2_with (fail)
      refine HC2.out.mono ?_
      rintro e w5 ⟨rfl, hb5⟩
      have HB : Hid (Below W.heap.size W w5) := hR.out.2.trans (hb5.mono hR.out.2.size)
      clear HC2 hb5 hR c1 hg
      cases q with
      | true =>
        go_wp2
        go_returns
        exact ⟨(t : Int), rfl, by rw [HQ.out, decide_eq_true b0]; rfl, HB.out⟩
      | false =>
        go_wp2
        go_roundw
        case rel => exact ⟨t + 1, by omega, by go_num, HQ.out, HB.out⟩
        case measure => simp [intOf]; omega
    · have HM : Hid (G = false) := by
        unfold Hid; rw [hR.out.1, List.drop_eq_nil_of_le (by rw [← H.out.2.1]; omega)]; rfl
      go_wp2
      go_returns
      exact ⟨-1, rfl, by rw [HM.out]; rfl, hR.out.2⟩
set_option maxHeartbeats 1600000 in
theorem impl_anyN {W : World} {p k n dc m B : Nat} {da xa : Option Addr} {xc : Nat} {near : Int} {s : List Dft} {xs : List Nat} (hok : ∀ d ∈ s, Vok d) (hn : n ≤ 60) (hk : k < n) (hx : ∀ j ∈ xs, j < n) (hm : m ≤ 60) (hs : RG 4 vdC W (.slice da n dc) s) (hN : NB W p k n da dc near) (hX : NT W B (.slice xa m xc) (xs.map (fun (i : Nat) => (i : Int)))) :
    Calls Try.prog 38 #[.slice xa m xc, .func (Fn.func 36) #[] #[.pointer (some ⟨p + 1, 0, none⟩), .pointer (some ⟨p, 0, none⟩), .pointer (some ⟨p + 2, 0, none⟩)]] W fun e w' => e = .returned (.bool (xs.any (nbS s near k))) ∧ Below W.heap.size W w' := by
  have HC : Hid (Calls Try.prog 41 #[.slice xa m xc, .func (Fn.func 36) #[] #[.pointer (some ⟨p + 1, 0, none⟩), .pointer (some ⟨p, 0, none⟩), .pointer (some ⟨p + 2, 0, none⟩)]] W fun e w' => ∃ r : Int, e = .returned (.int .i64 r) ∧ decide (0 ≤ r) = xs.any (nbS s near k) ∧ Below W.heap.size W w') := impl_ixN hok hn hk hx hm hs hN hX
  obtain ⟨Z, hZ⟩ : ∃ Z, Z = xs.any (nbS s near k) := ⟨_, rfl⟩
  rw [← hZ] at HC ⊢
  clear hZ hX hN hs hx hok
  go_enter Try.func38, Try.ntmps38
  go_wp2_with (fail)
  refine HC.out.mono ?_
  rintro e w5 ⟨r, rfl, hr, hb⟩
  have HR : Hid (decide (0 ≤ r) = Z ∧ Below W.heap.size W w5) := ⟨hr, hb⟩
  clear HC hr hb
  go_wp2
  go_returns
  exact ⟨by rw [← HR.out.1]; rfl, HR.out.2⟩

end Go.Proofs.Ytngpjglcjbdblaa
