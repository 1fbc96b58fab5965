/- Proved here: the model's l5Renamed: a device with its pins renamed. -/
import Derived.Test.YtbfieehlekgjeaaNmK
import Derived.Deep.AppendLies
import Derived.Deep.DeepCutAuto
namespace Go.Proofs.Ytbfieehlekgjeaa
open Go.RowKit
set_option linter.unusedVariables false
set_option linter.unusedSimpArgs false

/-- What lay below B in W lies in w still. -/
def KA (B : Nat) (W w : World) : Prop := (∀ b o, b < B → w.cell? ⟨b, o, none⟩ = W.cell? ⟨b, o, none⟩) ∧ Below B W w
theorem KA.of {B : Nat} {W w : World} (h : Below B W w) : KA B W w := ⟨fun b o hb => h.cell (p := ⟨b, o, none⟩) hb, h⟩
theorem fl_takeA {P : Program} {ops : Array Oper} {Q : Exit → Act → World → Prop} {S : World → Prop} {i d : Nat} {oi : Oper} {v : Value} {fuel : Nat} {listed : Array Bool} {a : Act} {w : World} (hi : ops[i]? = some oi) (hd : oi.dst = some d) (hg : oi.guard = none)
    (hs : Region.noSelect ops = true) (hf : Region.free .any ops listed i = true) (hr : (Region.ready .any ops listed).contains i = true)
    (hS : S w) (hy : ∀ w', S w' → (execOp a.eval oi).run P w' = .ok (.value v) w')
    (h : wpAnyH P .any ops (NoPanic Q) S fuel (listed.setIfInBounds i true) (a.put (some d) v) w) : wpAnyH P .any ops (NoPanic Q) S (fuel + 1) listed a w :=
  wpAnyH_take hi hs hf hr (fun _ _ _ h => h) (Or.inl ⟨wanted_none hg _, fun w' hk => hy w' hk⟩) hS (by rw [hd]; exact h)
theorem wp_region_holdsA {P : Program} {ops : Array Oper} {Q : Exit → Act → World → Prop} {S : World → Prop} {id : Nat} {a : Act} {w : World} (hm : P.follows .mixedOrders = true) (h0 : S w.drew)
    (h : S w.drew → wpAnyH P .any ops (NoPanic Q) S ops.size (Array.replicate ops.size false) a w.drew) : (Code.region id ops true).wp P Q a w :=
  wp_region_noPanic (wp_region_held_drew (S := S) hm h0 h)
theorem op_appL {P : Program} {ops : Array Oper} {Q : Exit → Act → World → Prop} {j dd : Nat} {w : World} {o : Oper} {a : Act} {K : Act → World → Prop} (hj : ops[j]? = some o) (hd : o.dst = some dd) (hgd : o.guard = none) (s x : Operand) (t : TypeId)
    (ho : o.op = .call { callee := .builtin .append, args := #[s, x], argTypes := #[t, t] })
    (base : Nat) (e : TypeId) (i : TypeInfo) (z : Value) (size bytes : Nat) (ht : P.underlying t = some (.slice e)) (hi : P.info? e = some i) (hz : i.zero = some z)
    (hsize : i.size = size) (hby : i.bytes = bytes) (hzs : z.cells.size = size) (hsz : 0 < size)
    (v : Value) (n : Nat) (xs : List Value) (hs : a.eval s = v) (hown : w.ownsRow base e size v n xs)
    (ad : Addr) (m c : Nat) (news : List Value) (hx : a.eval x = .slice (some ad) m c) (hl : news.length = m * size) (hnews : ∀ j u, news[j]? = some u → w.cell? (ad.add j) = some u) (h1 : ∀ u ∈ news, u.oneCell' = true)
    (hm : 0 < m) (h63 : n + m ≤ maxLen) (hbytes : (n + m) * bytes ≤ 140737488355328) (hbase : base ≤ w.heap.size)
    (h : ∀ g cap w', w'.ownsRow base e size (.slice (some ⟨g, 0, none⟩) (n + m) cap) (n + m) (xs ++ news) → w.grownBy w' v.ownBlock → (v.ownBlock = some g ∨ g = w.heap.size) → g < w'.heap.size → K (a.put (some dd) (.slice (some ⟨g, 0, none⟩) (n + m) cap)) w') : wpOp P ops Q j K a w := by
  unfold wpOp
  simp only [hj, wanted_none hgd, if_true]
  refine Or.inl (wp_append_lies w s x t ho base e i z size bytes ht hi hz hsize hby hzs hsz v n xs hs hown ad m c news hx hl hnews h1 hm h63 hbytes hbase w.heap.size rfl fun g cap w' h2 h3 h4 h5 => ?_)
  rw [hd]
  exact h g cap w' h2 h3 h4 h5

/-- While the pins are renamed. -/
structure RnS (w wr : World) (K : Int) (vb va : Value) (nets p : List Int) (j : Nat) : Prop where
  bl : Below w.heap.size w wr
  b0 : wr.heap[w.heap.size]? = some (.cells #[.int .i64 K, vb] 82)
  b1 : wr.heap[w.heap.size + 1]? = some (.cells #[.int .i64 0, .slice none 0 0] 82)
  b2 : wr.heap[w.heap.size + 2]? = some (.cells #[.int .i64 K, va] 82)
  is : IS wr (w.heap.size + 3) va (rnP nets (p.take j))
theorem RnS.step {w wr V w2 : World} {K : Int} {vb va : Value} {nets p : List Int} {j g cap : Nat} {y : Int} (h : RnS w wr K vb va nets p j) (hV : Below wr.heap.size wr V)
    (hy : rnP nets (p.take (j + 1)) = rnP nets (p.take j) ++ [y])
    (ho : w2.ownsRow (w.heap.size + 3) 2 1 (.slice (some ⟨g, 0, none⟩) ((rnP nets (p.take j)).length + 1) cap) ((rnP nets (p.take j)).length + 1) ((rnP nets (p.take j)).map (Value.int .i64) ++ [.int .i64 y]))
    (hg : V.grownBy w2 va.ownBlock) (hlie : va.ownBlock = some g ∨ g = V.heap.size) :
    RnS w (w2.setCell ⟨w.heap.size + 2, 1, none⟩ (.slice (some ⟨g, 0, none⟩) ((rnP nets (p.take j)).length + 1) cap)) K vb (.slice (some ⟨g, 0, none⟩) ((rnP nets (p.take j)).length + 1) cap) nets p (j + 1) ∧ Below (w.heap.size + 2) wr w2 ∧ w2.heap[w.heap.size + 2]? = some (.cells #[.int .i64 K, va] 82) := by
  obtain ⟨_, _, _, l0⟩ := two_at h.b0
  obtain ⟨_, _, _, l1⟩ := two_at h.b1
  obtain ⟨_, _, _, l2⟩ := two_at h.b2
  have hvs := hV.size
  have hne : ∀ k, k ≤ w.heap.size + 2 → ¬ some k = va.ownBlock := fun k hk e => by have := (IS.lt h.is k e.symm).1; omega
  have e : ∀ k, k ≤ w.heap.size + 2 → w2.heap[k]? = wr.heap[k]? := fun k hk => (hg.block k (by omega) (hne k hk)).trans (hV.block k (by omega))
  have hgne : w.heap.size + 3 ≤ g := by
    rcases hlie with h1 | h1
    · exact (IS.lt h.is g h1).1
    · omega
  have hbw : Below w.heap.size w w2 := by
    have hVw := h.bl.trans (hV.mono h.bl.size)
    exact hVw.grown hg hVw.size (fun k hk => by have := (IS.lt h.is k hk).1; omega)
  have i2 : IS w2 (w.heap.size + 3) (.slice (some ⟨g, 0, none⟩) ((rnP nets (p.take j)).length + 1) cap) (rnP nets (p.take (j + 1))) := by
    rw [hy]
    unfold IS
    rw [List.map_append, List.length_append]
    exact ho
  have hb2 : w2.heap[w.heap.size + 2]? = some (.cells #[.int .i64 K, va] 82) := (e _ (Nat.le_refl _)).trans h.b2
  refine ⟨⟨?_, ?_, ?_, ?_, ?_⟩, ?_, hb2⟩
  · exact hbw.setCell (by simp) _
  · rw [heap_setCell_other _ _ _ _ (by simp)]; exact (e _ (by omega)).trans h.b0
  · rw [heap_setCell_other _ _ _ _ (by simp)]; exact (e _ (by omega)).trans h.b1
  · have s1 := heap_setCell_same _ _ 1 _ _ (.slice (some ⟨g, 0, none⟩) ((rnP nets (p.take j)).length + 1) cap) hb2
    simpa using s1
  · refine i2.kept fun q hq => ?_
    injection hq with hq
    have hq' : g = q := hq
    rw [heap_setCell_other _ _ _ _ (by simp; omega)]
  · exact (hV.mono (show w.heap.size + 2 ≤ wr.heap.size by omega)).grown hg (by omega) (fun k hk => by have := (IS.lt h.is k hk).1; omega)

set_option maxRecDepth 10000 in
set_option maxHeartbeats 6400000 in
theorem spec_renamed (r : Rd) (d : Dv) {w : World} {vn : Value} {nets : List Int} (hp : d.p.length ≤ 4) (hnl : nets.length ≤ 1048576) (hr : ∀ x ∈ d.p, 0 ≤ x ∧ x < (nets.length : Int)) (h : Rd1 w r d) (hn : RdI w vn nets) :
    Calls Try.prog 49 #[.agg #[.int .i64 r.k, .slice r.a r.n r.c], vn] w fun e w' => ∃ v', e = .returned (.agg #[.int .i64 r.k, v']) ∧ IS w' w.heap.size v' (rnP nets d.p) ∧ Below w.heap.size w w' := by
  obtain ⟨K, a, n, c⟩ := r
  dsimp only
  have hnn : n = d.p.length := h.p.len
  obtain ⟨an, cn, rfl⟩ := hn.form
  obtain ⟨m, hmm⟩ : ∃ m, m = nets.length := ⟨_, rfl⟩
  rw [← hnn] at hp
  rw [← hmm] at hn ⊢
  have H : Hid (RdI w (.slice a n c) d.p ∧ RdI w (.slice an m cn) nets ∧ n = d.p.length ∧ m = nets.length ∧ (∀ x ∈ d.p, 0 ≤ x ∧ x < (nets.length : Int)) ∧ nets.length ≤ 1048576) := ⟨h.p, hn, hnn, hmm, hr, hnl⟩
  clear h hn hnn hmm hr hnl
  obtain ⟨i0, hi, hz0, hz1, hz2⟩ := info_parts info_i64
  go_enter Try.func49, Try.ntmps49
  go_wp2
  go_loopw [6] (fun i wr => ∃ k : Nat, k ≤ n ∧ i = .int .i64 k ∧ ∃ va, Hid (RnS w wr K (.slice a n c) va nets d.p k)) (fun i _ => n - (intOf i).toNat)
  case atStart =>
    refine ⟨0, Nat.zero_le _, rfl, .slice none 0 0, by (repeat' (first | (with_reducible exact Below.refl _ _) | (with_reducible assumption) | (with_reducible refine Below.setCell ?_ ?_ _) | (with_reducible refine Below.alloc ?_ ?_ _) | (with_reducible refine below_drewN ?_ _) | (with_reducible refine Below.drew ?_) | (with_reducible exact Nat.le_refl _) | omega | (simp; done) | (simp; omega))), ?_, ?_, ?_, ?_⟩
    · exact (Below.heap_alloc _ _ _ (by simp; omega)).trans ((Below.heap_alloc _ _ _ (by simp)).trans (heap_alloc_new w _))
    · exact (Below.heap_alloc _ _ _ (by simp)).trans (hp_at1 w _ _)
    · exact hp_at2 w _ _ _
    · exact ⟨rfl, Or.inl ⟨rfl, rfl⟩⟩
  case round =>
    obtain ⟨k, hk, rfl, va, hR⟩ := hrel
    obtain ⟨p0, p1, pf, plt⟩ := two_at hR.out.b0
    obtain ⟨q0, q1, qf, qlt⟩ := two_at hR.out.b2
    by_cases hlt : k < n
    · have hkl : k < d.p.length := by rw [← H.out.2.2.1]; exact hlt
      obtain ⟨g, o, c2, he, hg, hj⟩ := H.out.1.ri (by omega)
      simp only [Value.slice.injEq] at he
      obtain ⟨rfl, hx1, hx2⟩ := he
      clear hx1 hx2
      have c0 := (hR.out.bl.cell (p := ⟨g, o + k, none⟩) hg).trans (hj k hkl)
      obtain ⟨x, hx⟩ : ∃ x, x = d.p.getD k 0 := ⟨_, rfl⟩
      rw [← hx] at c0
      have hxr : 0 ≤ x ∧ x < (m : Int) := by
        rw [hx, getD_at hkl, H.out.2.2.2.1]; exact H.out.2.2.2.2.1 _ (List.getElem_mem hkl)
      obtain ⟨xn, hxn⟩ : ∃ xn : Nat, x = (xn : Int) := ⟨x.toNat, by omega⟩
      subst hxn
      obtain ⟨gn, on, c3, he, hgn, hjn⟩ := H.out.2.1.ri (by rw [← H.out.2.2.2.1]; omega)
      simp only [Value.slice.injEq] at he
      obtain ⟨rfl, hx1, hx2⟩ := he
      clear hx1 hx2
      have d0 := (hR.out.bl.cell (p := ⟨gn, on + xn, none⟩) hgn).trans (hjn xn (by rw [← H.out.2.2.2.1]; omega))
      obtain ⟨y, hy⟩ : ∃ y, y = nets.getD xn 0 := ⟨_, rfl⟩
      rw [← hy] at d0
      have HY : Hid (rnP nets (d.p.take (k + 1)) = rnP nets (d.p.take k) ++ [y]) := by
        unfold Hid
        rw [rnP_step hkl, ← hx, Int.toNat_natCast, ← hy]
      have hlen : (rnP nets (d.p.take k)).length ≤ 4 := by rw [rnP_len, List.length_take]; omega
      have hwsz := hR.out.bl.size
      have HR : Hid (RnS w wr K (.slice (some ⟨g, o, none⟩) n c) va nets d.p k) := hR.out
      obtain ⟨fa, fc, hf⟩ := hR.out.is.form
      clear hx hy hj hjn hR hkl
      have b0 : (0 : Int) ≤ (k : Int) := by omega
      have b1 : (k : Int) < (n : Int) := by omega
      have b2 : (0 : Int) ≤ (xn : Int) := by omega
      have b3 : (xn : Int) < (m : Int) := by omega
      have s0 : w.heap.size < w.heap.size + 2 := by omega
      have s1 : g < w.heap.size + 2 := by omega
      have s2 : gn < w.heap.size + 2 := by omega
      go_wp2_with (fail)
      refine wp_region_holdsA (S := KA (w.heap.size + 2) wr) (by kernel_rfl) (KA.of ((Below.refl _ _).drew)) (fun hS => ?_)
      refine fl_takeA (i := 0) (d := 17) (v := .pointer (some ⟨w.heap.size + 2, 1, none⟩)) rfl rfl rfl (by kernel_rfl) (by kernel_rfl) (by kernel_rfl) hS ?_ ?_
      · intro w' hk; unfold KA at hk; go_simp
      simp only [Act.put, List.setIfInBounds_toArray, List.set_cons_zero, List.set_cons_succ]
      refine fl_takeA (i := 2) (d := 19) (v := .slice (some ⟨gn, on, none⟩) m cn) rfl rfl rfl (by kernel_rfl) (by kernel_rfl) (by kernel_rfl) hS ?_ ?_
      · intro w' hk; unfold KA at hk; go_simp
      simp only [Act.put, List.setIfInBounds_toArray, List.set_cons_zero, List.set_cons_succ]
      refine fl_takeA (i := 3) (d := 20) (v := .pointer (some ⟨w.heap.size, 1, none⟩)) rfl rfl rfl (by kernel_rfl) (by kernel_rfl) (by kernel_rfl) hS ?_ ?_
      · intro w' hk; unfold KA at hk; go_simp
      simp only [Act.put, List.setIfInBounds_toArray, List.set_cons_zero, List.set_cons_succ]
      refine fl_takeA (i := 4) (d := 21) (v := .slice (some ⟨g, o, none⟩) n c) rfl rfl rfl (by kernel_rfl) (by kernel_rfl) (by kernel_rfl) hS ?_ ?_
      · intro w' hk; unfold KA at hk; go_simp
      simp only [Act.put, List.setIfInBounds_toArray, List.set_cons_zero, List.set_cons_succ]
      refine fl_takeA (i := 5) (d := 22) (v := .int .i64 k) rfl rfl rfl (by kernel_rfl) (by kernel_rfl) (by kernel_rfl) hS ?_ ?_
      · intro w' hk; unfold KA at hk; go_simp
      simp only [Act.put, List.setIfInBounds_toArray, List.set_cons_zero, List.set_cons_succ]
      refine fl_takeA (i := 6) (d := 23) (v := .pointer (some ⟨g, o + k, none⟩)) rfl rfl rfl (by kernel_rfl) (by kernel_rfl) (by kernel_rfl) hS ?_ ?_
      · intro w' hk; unfold KA at hk; go_simp
      simp only [Act.put, List.setIfInBounds_toArray, List.set_cons_zero, List.set_cons_succ]
      refine fl_takeA (i := 7) (d := 24) (v := .int .i64 xn) rfl rfl rfl (by kernel_rfl) (by kernel_rfl) (by kernel_rfl) hS ?_ ?_
      · intro w' hk; unfold KA at hk; go_simp
      simp only [Act.put, List.setIfInBounds_toArray, List.set_cons_zero, List.set_cons_succ]
      refine fl_takeA (i := 8) (d := 25) (v := .pointer (some ⟨gn, on + xn, none⟩)) rfl rfl rfl (by kernel_rfl) (by kernel_rfl) (by kernel_rfl) hS ?_ ?_
      · intro w' hk; unfold KA at hk; go_simp
      simp only [Act.put, List.setIfInBounds_toArray, List.set_cons_zero, List.set_cons_succ]
      refine fl_takeA (i := 9) (d := 26) (v := .int .i64 y) rfl rfl rfl (by kernel_rfl) (by kernel_rfl) (by kernel_rfl) hS ?_ ?_
      · intro w' hk; unfold KA at hk; go_simp
      simp only [Act.put, List.setIfInBounds_toArray, List.set_cons_zero, List.set_cons_succ]
      have hA : KA (w.heap.size + 2) wr (wr.alloc (.cells #[.int .i64 y] 2)).drew := KA.of (by have h5 : w.heap.size + 2 ≤ wr.heap.size := Nat.le_of_lt qlt; (repeat' (first | (with_reducible exact Below.refl _ _) | (with_reducible assumption) | (with_reducible refine Below.setCell ?_ ?_ _) | (with_reducible refine Below.alloc ?_ ?_ _) | (with_reducible refine below_drewN ?_ _) | (with_reducible refine Below.drew ?_) | (with_reducible exact Nat.le_refl _) | omega | (simp; done) | (simp; omega))))
      have hVB : Below wr.heap.size wr (wr.alloc (.cells #[.int .i64 y] 2)).drew := by (repeat' (first | (with_reducible exact Below.refl _ _) | (with_reducible assumption) | (with_reducible refine Below.setCell ?_ ?_ _) | (with_reducible refine Below.alloc ?_ ?_ _) | (with_reducible refine below_drewN ?_ _) | (with_reducible refine Below.drew ?_) | (with_reducible exact Nat.le_refl _) | omega | (simp; done) | (simp; omega)))
      have hnew : (wr.alloc (.cells #[.int .i64 y] 2)).drew.heap[wr.heap.size]? = some (.cells #[.int .i64 y] 2) := heap_alloc_new wr _
      have hown0 : (wr.alloc (.cells #[.int .i64 y] 2)).drew.ownsRow (w.heap.size + 3) 2 1 va (rnP nets (d.p.take k)).length ((rnP nets (d.p.take k)).map (Value.int .i64)) := HR.out.is.bel hVB
      refine wpAnyH_all (rs := [1, 10]) (by kernel_rfl) (by simp) ?_
      intro i hi'
      rcases (by simpa using hi' : i = 1 ∨ i = 10) with rfl | rfl
      · refine op_val (d := 18) (v := va) (w' := wr.drew) rfl rfl rfl (by go_simp) ?_
        simp only [Act.put, List.setIfInBounds_toArray, List.set_cons_zero, List.set_cons_succ]
        refine ⟨hS, wpAnyH_all (rs := [10]) (by kernel_rfl) (by simp) ?_⟩
        intro i hi'
        obtain rfl : i = 10 := by simpa using hi'
        refine op_val (d := 27) (v := .slice (some ⟨wr.heap.size, 0, none⟩) 1 1) (w' := (wr.alloc (.cells #[.int .i64 y] 2)).drew) rfl rfl rfl (by go_simp; try rfl) ?_
        simp only [Act.put, List.setIfInBounds_toArray, List.set_cons_zero, List.set_cons_succ]
        refine ⟨hA, wpAnyH_all (rs := [11]) (by kernel_rfl) (by simp) ?_⟩
        intro i hi'
        obtain rfl : i = 11 := by simpa using hi'
        refine op_appL rfl rfl rfl _ _ 46 rfl (w.heap.size + 3) 2 i0 (.int .i64 0) 1 8 Try.underlying46 hi hz0 hz1 hz2 rfl (by decide) va _ _ rfl hown0 ⟨wr.heap.size, 0, none⟩ 1 1 [.int .i64 y] rfl rfl (World.news_of_block hnew) (by simp [Value.oneCell']) (by omega) (by unfold maxLen; omega) (by omega) (by have := plt; have := qlt; simp; omega) ?_
        intro gg cap w2 hown1 hgrow1 hlie hlt2
        simp only [Act.put, List.setIfInBounds_toArray, List.set_cons_zero, List.set_cons_succ]
        obtain ⟨hN, hB2, hb2⟩ := HR.out.step hVB HY.out hown1 hgrow1 hlie
        refine ⟨KA.of hB2, wpAnyH_all (rs := [12]) (by kernel_rfl) (by simp) ?_⟩
        intro i hi'
        obtain rfl : i = 12 := by simpa using hi'
        refine op_val (d := 29) (v := .pointer (some ⟨w.heap.size + 2, 1, none⟩)) (w' := w2) rfl rfl rfl (by go_simp) ?_
        simp only [Act.put, List.setIfInBounds_toArray, List.set_cons_zero, List.set_cons_succ]
        refine ⟨KA.of hB2, wpAnyH_all (rs := [13]) (by kernel_rfl) (by simp) ?_⟩
        intro i hi'
        obtain rfl : i = 13 := by simpa using hi'
        obtain ⟨z0, z1, zf, zlt⟩ := two_at hb2
        have zf1 := zf 1
        refine op_skipN (w' := w2.setCell ⟨w.heap.size + 2, 1, none⟩ (.slice (some ⟨gg, 0, none⟩) ((rnP nets (d.p.take k)).length + 1) cap)) rfl rfl (by go_simp) ?_
        simp only [Act.put]
        refine ⟨KA.of (hB2.setCell (by simp) _), wpAnyH_done (by kernel_rfl) (NoPanic.normal ?_) _⟩
        have HN : Hid _ := hN
        clear hN hB2 hb2 z0 z1 zf zlt zf1 hown1 hgrow1 hlie hlt2 hown0 hnew hVB hA hS
        go_wp2
        go_roundw
        case rel => exact ⟨k + 1, by omega, by go_num, _, HN.out⟩
        case measure => simp [intOf]; omega
      · refine op_val (d := 27) (v := .slice (some ⟨wr.heap.size, 0, none⟩) 1 1) (w' := (wr.alloc (.cells #[.int .i64 y] 2)).drew) rfl rfl rfl (by go_simp; try rfl) ?_
        simp only [Act.put, List.setIfInBounds_toArray, List.set_cons_zero, List.set_cons_succ]
        refine ⟨hA, wpAnyH_all (rs := [1]) (by kernel_rfl) (by simp) ?_⟩
        intro i hi'
        obtain rfl : i = 1 := by simpa using hi'
        refine op_val (d := 18) (v := va) (w' := (wr.alloc (.cells #[.int .i64 y] 2)).drew) rfl rfl rfl (by go_simp) ?_
        simp only [Act.put, List.setIfInBounds_toArray, List.set_cons_zero, List.set_cons_succ]
        refine ⟨hA, wpAnyH_all (rs := [11]) (by kernel_rfl) (by simp) ?_⟩
        intro i hi'
        obtain rfl : i = 11 := by simpa using hi'
        refine op_appL rfl rfl rfl _ _ 46 rfl (w.heap.size + 3) 2 i0 (.int .i64 0) 1 8 Try.underlying46 hi hz0 hz1 hz2 rfl (by decide) va _ _ rfl hown0 ⟨wr.heap.size, 0, none⟩ 1 1 [.int .i64 y] rfl rfl (World.news_of_block hnew) (by simp [Value.oneCell']) (by omega) (by unfold maxLen; omega) (by omega) (by have := plt; have := qlt; simp; omega) ?_
        intro gg cap w2 hown1 hgrow1 hlie hlt2
        simp only [Act.put, List.setIfInBounds_toArray, List.set_cons_zero, List.set_cons_succ]
        obtain ⟨hN, hB2, hb2⟩ := HR.out.step hVB HY.out hown1 hgrow1 hlie
        refine ⟨KA.of hB2, wpAnyH_all (rs := [12]) (by kernel_rfl) (by simp) ?_⟩
        intro i hi'
        obtain rfl : i = 12 := by simpa using hi'
        refine op_val (d := 29) (v := .pointer (some ⟨w.heap.size + 2, 1, none⟩)) (w' := w2) rfl rfl rfl (by go_simp) ?_
        simp only [Act.put, List.setIfInBounds_toArray, List.set_cons_zero, List.set_cons_succ]
        refine ⟨KA.of hB2, wpAnyH_all (rs := [13]) (by kernel_rfl) (by simp) ?_⟩
        intro i hi'
        obtain rfl : i = 13 := by simpa using hi'
        obtain ⟨z0, z1, zf, zlt⟩ := two_at hb2
        have zf1 := zf 1
        refine op_skipN (w' := w2.setCell ⟨w.heap.size + 2, 1, none⟩ (.slice (some ⟨gg, 0, none⟩) ((rnP nets (d.p.take k)).length + 1) cap)) rfl rfl (by go_simp) ?_
        simp only [Act.put]
        refine ⟨KA.of (hB2.setCell (by simp) _), wpAnyH_done (by kernel_rfl) (NoPanic.normal ?_) _⟩
        have HN : Hid _ := hN
        clear hN hB2 hb2 z0 z1 zf zlt zf1 hown1 hgrow1 hlie hlt2 hown0 hnew hVB hA hS
        go_wp2
        go_roundw
        case rel => exact ⟨k + 1, by omega, by go_num, _, HN.out⟩
        case measure => simp [intOf]; omega
    · have HE : Hid (IS wr (w.heap.size + 3) va (rnP nets d.p) ∧ Below w.heap.size w wr ∧ wr.heap[w.heap.size + 1]? = some (.cells #[.int .i64 0, .slice none 0 0] 82)) := by
        refine ⟨?_, hR.out.bl, hR.out.b1⟩
        have := hR.out.is
        rwa [List.take_of_length_le (by rw [← H.out.2.2.1]; omega)] at this
      obtain ⟨r0, r1, rf, rlt⟩ := two_at hR.out.b1
      have rf0 := rf 0
      have rf1 := rf 1
      obtain ⟨fa, fc, hf⟩ := hR.out.is.form
      obtain ⟨fl, hfl⟩ : ∃ fl, fl = (rnP nets (d.p.take k)).length := ⟨_, rfl⟩
      rw [← hfl] at hf
      subst hf
      obtain ⟨W2, hW2⟩ : ∃ W2, W2 = (wr.setCell ⟨w.heap.size + 1, 0, none⟩ (.int .i64 K)).setCell ⟨w.heap.size + 1, 1, none⟩ (.slice fa fl fc) := ⟨_, rfl⟩
      have e1 : W2.heap[w.heap.size + 1]? = some (.cells #[.int .i64 K, .slice fa fl fc] 82) := by
        have s0 := heap_setCell_same _ _ 0 _ _ (.int .i64 K) HE.out.2.2
        have s1 := heap_setCell_same _ _ 1 _ _ (.slice fa fl fc) s0
        rw [hW2]
        simpa using s1
      have HF : Hid (IS W2 w.heap.size (.slice fa fl fc) (rnP nets d.p) ∧ Below w.heap.size w W2) := by
        refine ⟨(HE.out.1.kept fun q hq => ?_).low (by omega), ?_⟩
        · have := (IS.lt HE.out.1 q hq).1
          rw [hW2, heap_setCell_other _ _ _ _ (by simp; omega), heap_setCell_other _ _ _ _ (by simp; omega)]
        · rw [hW2]
          exact (HE.out.2.1.setCell (by simp) _).setCell (by simp) _
      obtain ⟨t0, t1, tf, tl⟩ := two_at e1
      have HW2 : Hid _ := hW2
      clear hR hW2 e1 hfl
      go_wp2
      rw [← HW2.out]
      refine bodyPost_ret (by simp [results, Try.results49, go_sem, t0, t1]) rfl ⟨_, rfl, HF.out.1, HF.out.2⟩

end Go.Proofs.Ytbfieehlekgjeaa
