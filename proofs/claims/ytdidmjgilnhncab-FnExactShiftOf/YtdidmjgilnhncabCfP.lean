/- Proved here: CheckFit of the program: cfB. -/
import Derived.Test.YtdidmjgilnhncabCfN
import Derived.Test.YtdidmjgilnhncabRdP
import Derived.Deep.AppendLies
import Derived.Maps.AppendAt
namespace Go.Proofs.Ytdidmjgilnhncab
open Go.RowKit
set_option linter.unusedVariables false
set_option linter.unusedSimpArgs false

theorem info_fst : (Try.prog.info? 83).map (fun i => (i.zero, i.size, i.bytes)) = some (some (.agg #[.int .i64 0, .int .i64 0, .int .i64 0]), 3, 24) := by kernel_rfl
/-- Four lists of the call's own, no two in one block. -/
structure L4 (w : World) (B : Nat) (f : Nat → Value) (l : Nat → List FT) : Prop where
  own : ∀ i, i < 4 → OG 83 3 fstC w B (f i) (l i)
  ap : ∀ i j, i < 4 → j < 4 → i ≠ j → ∀ g, (f i).ownBlock = some g → (f j).ownBlock ≠ some g
def fun4 {α : Type} (a b c d : α) : Nat → α := fun i => if i = 0 then a else if i = 1 then b else if i = 2 then c else d
theorem L4.below {w w' : World} {B : Nat} {f : Nat → Value} {l : Nat → List FT} (h : L4 w B f l) (hb : Below w.heap.size w w') : L4 w' B f l :=
  ⟨fun i hi => (h.own i hi).below hb, h.ap⟩
theorem L4.congr {w : World} {B : Nat} {f f' : Nat → Value} {l l' : Nat → List FT} (h : L4 w B f l) (hf : ∀ i, i < 4 → f i = f' i) (hl : ∀ i, i < 4 → l i = l' i) : L4 w B f' l' :=
  ⟨fun i hi => by rw [← hf i hi, ← hl i hi]; exact h.own i hi, fun i j hi hj hn g => by rw [← hf i hi, ← hf j hj]; exact h.ap i j hi hj hn g⟩
theorem L4.app {w w' : World} {B : Nat} {f : Nat → Value} {l : Nat → List FT} (h : L4 w B f l) (i : Nat) (hi : i < 4) {v' : Value} {n : Nat} {new : List FT} {xs : List Value}
    (hxs : xs = (l i ++ new).flatMap fstC) (hn : n = (l i ++ new).length) (ho : w'.ownsRow B 83 3 v' n xs) (hg : w.grownBy w' (f i).ownBlock) (hat : v'.ownBlock = (f i).ownBlock ∨ v'.ownBlock = some w.heap.size) :
    L4 w' B (fun j => if j = i then v' else f j) (fun j => if j = i then l i ++ new else l j) := by
  refine ⟨fun j hj => ?_, fun a b ha hb hn2 g => ?_⟩
  · by_cases e : j = i
    · simp only [e, if_true]
      unfold OG; rw [← hn, ← hxs]; exact ho
    · simp only [e, if_false]
      refine ownsRow_keep (h.own j hj) fun g hgj => ?_
      have hlt := (OG.lt (h.own j hj) g hgj).2
      exact hg.block g hlt (fun e2 => h.ap j i hj hi e g hgj e2.symm)
  · have hold : ∀ j, j < 4 → ∀ g, (f j).ownBlock = some g → g < w.heap.size := fun j hj g hgj => (OG.lt (h.own j hj) g hgj).2
    by_cases ea : a = i
    · by_cases eb : b = i
      · exact absurd (ea.trans eb.symm) hn2
      · simp only [ea, eb, if_true, if_false]
        intro h1 h2
        rcases hat with hat | hat
        · exact h.ap i b hi hb (fun e => eb e.symm) g (by rw [← hat]; exact h1) h2
        · rw [hat] at h1; injection h1 with h1
          have := hold b hb g h2; omega
    · by_cases eb : b = i
      · simp only [ea, eb, if_true, if_false]
        intro h1 h2
        rcases hat with hat | hat
        · exact h.ap a i ha hi ea g h1 (by rw [← hat]; exact h2)
        · rw [hat] at h2; injection h2 with h2
          have := hold a ha g h1; omega
      · simp only [ea, eb, if_false]
        exact h.ap a b ha hb hn2 g
def tA (L : List Fr) (k : Nat) : List FT := (List.range k).map fun i => ⟨L.getD (2 * i) fr0, 1⟩
def tU (L : List Fr) (k : Nat) : List FT := (List.range k).map fun i => ⟨L.getD (2 * i + 1) fr0, 1⟩
def tS (s : List Mrk) (L : List Fr) (k : Nat) : List FT := (List.range k).flatMap fun i => [⟨L.getD (2 * i) fr0, (s.getD i mk0).x⟩, ⟨L.getD (2 * i + 1) fr0, (s.getD i mk0).y⟩]
def tT (s : List Mrk) (L : List Fr) (k : Nat) : List FT := (List.range k).flatMap fun i => [⟨L.getD (2 * i + 1) fr0, (s.getD i mk0).x⟩, ⟨L.getD (2 * i) fr0, -(s.getD i mk0).y⟩]
theorem tA_succ (L : List Fr) (k : Nat) : tA L (k + 1) = tA L k ++ [⟨L.getD (2 * k) fr0, 1⟩] := by unfold tA; rw [List.range_succ, List.map_append]; rfl
theorem tU_succ (L : List Fr) (k : Nat) : tU L (k + 1) = tU L k ++ [⟨L.getD (2 * k + 1) fr0, 1⟩] := by unfold tU; rw [List.range_succ, List.map_append]; rfl
theorem tS_succ (s : List Mrk) (L : List Fr) (k : Nat) : tS s L (k + 1) = tS s L k ++ [⟨L.getD (2 * k) fr0, (s.getD k mk0).x⟩, ⟨L.getD (2 * k + 1) fr0, (s.getD k mk0).y⟩] := by unfold tS; rw [List.range_succ, List.flatMap_append]; simp
theorem tT_succ (s : List Mrk) (L : List Fr) (k : Nat) : tT s L (k + 1) = tT s L k ++ [⟨L.getD (2 * k + 1) fr0, (s.getD k mk0).x⟩, ⟨L.getD (2 * k) fr0, -(s.getD k mk0).y⟩] := by unfold tT; rw [List.range_succ, List.flatMap_append]; simp
theorem tA_map (L : List Fr) (k : Nat) : (tA L k).map fstQ = ckA L k ∧ (tA L k).length = k := by unfold tA ckA; rw [List.map_map]; exact ⟨rfl, by simp⟩
theorem tU_map (L : List Fr) (k : Nat) : (tU L k).map fstQ = ckU L k ∧ (tU L k).length = k := by unfold tU ckU; rw [List.map_map]; exact ⟨rfl, by simp⟩
theorem tS_map (s : List Mrk) (L : List Fr) (k : Nat) : (tS s L k).map fstQ = ckS s L k ∧ (tS s L k).length = 2 * k := by
  induction k with
  | zero => exact ⟨rfl, rfl⟩
  | succ k ih => rw [tS_succ, ckS_succ, List.map_append, ih.1, List.length_append, ih.2]; exact ⟨rfl, by simp; omega⟩
theorem tT_map (s : List Mrk) (L : List Fr) (k : Nat) : (tT s L k).map fstQ = ckT s L k ∧ (tT s L k).length = 2 * k := by
  induction k with
  | zero => exact ⟨rfl, rfl⟩
  | succ k ih => rw [tT_succ, ckT_succ, List.map_append, ih.1, List.length_append, ih.2]; exact ⟨rfl, by simp; omega⟩
theorem getD_frC {w : World} {a : Option Addr} {n c : Nat} {L : List Fr} (h : RG 2 frC w (.slice a n c) L) {j : Nat} (hj : j < L.length) : ∃ g o, a = some ⟨g, o, none⟩ ∧ g < w.heap.size ∧ w.cell? ⟨g, o + j * 2, none⟩ = some (.int .i64 (L.getD j fr0).n) ∧ w.cell? ⟨g, o + j * 2 + 1, none⟩ = some (.int .i64 (L.getD j fr0).d) := by
  obtain ⟨g, o, c2, he, hg, hc⟩ := h.pos (by omega)
  simp only [Value.slice.injEq] at he
  obtain ⟨c0, c1⟩ := frC_at (hc j hj)
  rw [List.getD_eq_getElem?_getD, List.getElem?_eq_getElem hj]
  exact ⟨g, o, he.1, hg, c0, c1⟩

/-- A mark and two fractions in blocks of their own. -/
structure Bk (W : World) (lo Km Kx Ky : Nat) (x y dx dy Xn Xd Yn Yd : Int) : Prop where
  m : W.heap[Km]? = some (.cells #[.int .i64 x, .int .i64 y, .int .i64 dx, .int .i64 dy] 75)
  a : W.heap[Kx]? = some (.cells #[.int .i64 Xn, .int .i64 Xd] 31)
  b : W.heap[Ky]? = some (.cells #[.int .i64 Yn, .int .i64 Yd] 31)
  lo : lo ≤ Km ∧ lo ≤ Kx ∧ lo ≤ Ky
theorem Bk.cells {W : World} {lo Km Kx Ky : Nat} {x y dx dy Xn Xd Yn Yd : Int} (h : Bk W lo Km Kx Ky x y dx dy Xn Xd Yn Yd) :
    W.cell? ⟨Km, 0, none⟩ = some (.int .i64 x) ∧ W.cell? ⟨Km, 1, none⟩ = some (.int .i64 y) ∧ W.cell? ⟨Kx, 0, none⟩ = some (.int .i64 Xn) ∧ W.cell? ⟨Kx, 1, none⟩ = some (.int .i64 Xd) ∧ W.cell? ⟨Ky, 0, none⟩ = some (.int .i64 Yn) ∧ W.cell? ⟨Ky, 1, none⟩ = some (.int .i64 Yd) ∧ Km < W.heap.size ∧ Kx < W.heap.size ∧ Ky < W.heap.size :=
  ⟨cellOf h.m 0 rfl, cellOf h.m 1 rfl, cellOf h.a 0 rfl, cellOf h.a 1 rfl, cellOf h.b 0 rfl, cellOf h.b 1 rfl, ltOf h.m, ltOf h.a, ltOf h.b⟩
theorem Bk.alloc {W : World} {lo Km Kx Ky : Nat} {x y dx dy Xn Xd Yn Yd : Int} (h : Bk W lo Km Kx Ky x y dx dy Xn Xd Yn Yd) (o : Obj) : Bk (W.alloc o) lo Km Kx Ky x y dx dy Xn Xd Yn Yd :=
  ⟨(Below.heap_alloc _ _ _ (ltOf h.m)).trans h.m, (Below.heap_alloc _ _ _ (ltOf h.a)).trans h.a, (Below.heap_alloc _ _ _ (ltOf h.b)).trans h.b, h.lo⟩
theorem Bk.grown {W W' : World} {lo Km Kx Ky : Nat} {x y dx dy Xn Xd Yn Yd : Int} {row : Option Nat} (h : Bk W lo Km Kx Ky x y dx dy Xn Xd Yn Yd) (hg : W.grownBy W' row) (hr : ∀ g, row = some g → g < lo) : Bk W' lo Km Kx Ky x y dx dy Xn Xd Yn Yd := by
  have hne : ∀ q, lo ≤ q → some q ≠ row := fun q hq e => by have := hr q e.symm; omega
  exact ⟨(hg.block _ (ltOf h.m) (hne _ h.lo.1)).trans h.m, (hg.block _ (ltOf h.a) (hne _ h.lo.2.1)).trans h.a, (hg.block _ (ltOf h.b) (hne _ h.lo.2.2)).trans h.b, h.lo⟩
theorem two_nw (w : World) (a b : Obj) : ((w.alloc a).alloc b).drew.heap[w.heap.size]? = some a ∧ ((w.alloc a).alloc b).drew.heap[w.heap.size + 1]? = some b :=
  ⟨(Below.heap_alloc _ _ _ (by simp)).trans (heap_alloc_new w a), al_second w a b⟩
theorem op_skipZ {P : Program} {ops : Array Oper} {Q : Exit → Act → World → Prop} {i : Nat} {o : Oper} {a : Act} {w w' : World} {K : Act → World → Prop} (ho : ops[i]? = some o) (hg : o.guard = none) (hd : o.dst = none)
    (hrun : (execOp a.eval o).run P w = .ok .skip w') (h : K a w') : wpOp P ops Q i K a w := op_skipN ho hg hrun (by rw [hd]; exact h)

set_option maxRecDepth 10000 in
set_option maxHeartbeats 25600000 in
theorem impl_cf (m : Mdl) {w : World} {v : Value} {s : List Mrk} (hn : s.length ≤ 1048576) (h : RG 4 maC w v s) :
    Calls Try.prog 11 #[v, .agg #[.int .i64 m.sx.n, .int .i64 m.sx.d, .int .i64 m.sy.n, .int .i64 m.sy.d, .int .i64 m.k.n, .int .i64 m.k.d, .int .i64 m.r.n, .int .i64 m.r.d]] w fun e w' => e = .returned (.bool (cfB s m)) ∧ Below w.heap.size w w' := by
  obtain ⟨a, c, rfl⟩ := h.form
  obtain ⟨n, hnn⟩ : ∃ n, n = s.length := ⟨_, rfl⟩
  obtain ⟨Q, hQ⟩ : ∃ Q, Q = cfB s m := ⟨_, rfl⟩
  rw [← hQ]
  have HQ : Hid (Q = cfB s m) := hQ
  clear hQ
  obtain ⟨C, hC⟩ : ∃ C, C = rdC s m := ⟨_, rfl⟩
  obtain ⟨L, hL⟩ : ∃ L, L = rdL s m := ⟨_, rfl⟩
  have HRD : Hid (∀ W, Below w.heap.size w W → Calls Try.prog 41 #[.slice a n c, .agg #[.int .i64 m.sx.n, .int .i64 m.sx.d, .int .i64 m.sy.n, .int .i64 m.sy.d, .int .i64 m.k.n, .int .i64 m.k.d, .int .i64 m.r.n, .int .i64 m.r.d]] W fun e w' => ∃ v', e = .returned (.agg #[.int .i64 C, v']) ∧ OG 31 2 frC w' W.heap.size v' L ∧ Below W.heap.size W w') := fun W hW => by rw [hC, hL, hnn]; exact impl_rd m hn (h.below hW)
  have HL : Hid (C = rdC s m ∧ L = rdL s m ∧ L.length ≤ 40) := ⟨hC, hL, by rw [hL]; exact rdL_len _ _⟩
  rw [← hnn] at h ⊢
  have H : Hid (RG 4 maC w (.slice a n c) s ∧ n = s.length) := ⟨h, hnn⟩
  clear h hnn hn hC hL
  obtain ⟨V, hV⟩ : ∃ V, V = w.alloc (.cells #[.int .i64 m.sx.n, .int .i64 m.sx.d, .int .i64 m.sy.n, .int .i64 m.sy.d, .int .i64 m.k.n, .int .i64 m.k.d, .int .i64 m.r.n, .int .i64 m.r.d] 33) := ⟨_, rfl⟩
  obtain ⟨a1, h⟩ : ∃ a, a = m.sx.n := ⟨_, rfl⟩
  obtain ⟨a2, h2⟩ : ∃ a, a = m.sx.d := ⟨_, rfl⟩
  obtain ⟨b1, h3⟩ : ∃ a, a = m.sy.n := ⟨_, rfl⟩
  obtain ⟨b2, h4⟩ : ∃ a, a = m.sy.d := ⟨_, rfl⟩
  obtain ⟨k1, h5⟩ : ∃ a, a = m.k.n := ⟨_, rfl⟩
  obtain ⟨k2, h6⟩ : ∃ a, a = m.k.d := ⟨_, rfl⟩
  obtain ⟨r1, h7⟩ : ∃ a, a = m.r.n := ⟨_, rfl⟩
  obtain ⟨r2, h8⟩ : ∃ a, a = m.r.d := ⟨_, rfl⟩
  rw [← h, ← h2, ← h3, ← h4, ← h5, ← h6, ← h7, ← h8] at hV HRD ⊢
  clear h h2 h3 h4 h5 h6 h7 h8
  have HV : Hid (V.heap[w.heap.size]? = some (.cells #[.int .i64 a1, .int .i64 a2, .int .i64 b1, .int .i64 b2, .int .i64 k1, .int .i64 k2, .int .i64 r1, .int .i64 r2] 33) ∧ True ∧ Below w.heap.size w V ∧ V.heap.size = w.heap.size + 1) := by
    refine ⟨?_, trivial, by rw [hV]; (repeat' (first | (with_reducible exact Below.refl _ _) | (with_reducible assumption) | (with_reducible refine Below.setCell ?_ ?_ _) | (with_reducible refine Below.alloc ?_ ?_ _) | (with_reducible refine below_drewN ?_ _) | (with_reducible refine Below.drew ?_) | (with_reducible exact Nat.le_refl _) | omega | (simp; done) | (simp; omega))), by rw [hV]; simp⟩
    rw [hV]; exact heap_alloc_new w _
  obtain ⟨p0, p1, p2, p3, p4, p5, p6, p7, pl⟩ := eight_c HV.out.1
  go_enter Try.func11, Try.ntmps11
  go_upto_region 1 with fail
  rw [← hV]
  clear hV
  go_wp2_with (fail)
  refine (HRD.out _ HV.out.2.2.1).mono ?_
  rintro e w1 ⟨v', rfl, ho1, hb1⟩
  obtain ⟨ra, rc, hrv⟩ := (OG.rg frC_len ho1).form
  obtain ⟨rn, hrn⟩ : ∃ r, r = L.length := ⟨_, rfl⟩
  rw [← hrn] at hrv
  subst hrv
  have hr40 : rn ≤ 40 := by rw [hrn]; exact HL.out.2.2
  have HW1 : Hid (OG 31 2 frC w1 V.heap.size (.slice ra rn rc) L ∧ Below V.heap.size V w1 ∧ rn = L.length) := ⟨ho1, hb1, hrn⟩
  clear HRD ho1 hb1 hrn p0 p1 p2 p3 p4 p5 p6 p7 pl
  by_cases hC0 : C = 0
  case neg =>
    have HE : Hid (Q = false) := by unfold Hid; rw [HQ.out, cfB_bad (by rw [← HL.out.1]; exact hC0)]
    have hA : (C != 0) = true := by simpa using hC0
    have HBZ : Hid (Below w.heap.size w w1) := HV.out.2.2.1.trans (HW1.out.2.1.mono HV.out.2.2.1.size)
    clear hC0 HW1 HV
    go_wp2
    go_returns
    refine ⟨by rw [HE.out] <;> rfl, ?_⟩
    have hb := HBZ.out
    have hs := hb.size
    (repeat' (first | (with_reducible exact Below.refl _ _) | (with_reducible assumption) | (with_reducible refine Below.setCell ?_ ?_ _) | (with_reducible refine Below.alloc ?_ ?_ _) | (with_reducible refine below_drewN ?_ _) | (with_reducible refine Below.drew ?_) | (with_reducible exact Nat.le_refl _) | omega | (simp; done) | (simp; omega)))
  have hA : (C != 0) = false := by rw [hC0]; rfl
  have HE : Hid (rdC s m = 0 ∧ L.length = 2 * n ∧ msF s = 0) := by
    have e : rdC s m = 0 := by rw [← HL.out.1]; exact hC0
    have h1 := rdL_ok e
    exact ⟨e, by rw [HL.out.2.1, h1.1, H.out.2], h1.2.1⟩
  have hn20 : n ≤ 20 := by rw [H.out.2]; exact (msF_ok HE.out.2.2).2.1
  clear hC0
  obtain ⟨V2, hV2⟩ : ∃ V, V = w1.alloc (.cells #[.int .i64 C, .slice ra rn rc] 47) := ⟨_, rfl⟩
  obtain ⟨Kl, hKl⟩ : ∃ K, K = w1.heap.size := ⟨_, rfl⟩
  have HW2 : Hid (RG 2 frC V2 (.slice ra rn rc) L ∧ Below w.heap.size w V2 ∧ rn = L.length ∧ V2.heap[Kl]? = some (.cells #[.int .i64 C, .slice ra rn rc] 47)) := by
    have hb2 : Below w1.heap.size w1 V2 := by rw [hV2]; (repeat' (first | (with_reducible exact Below.refl _ _) | (with_reducible assumption) | (with_reducible refine Below.setCell ?_ ?_ _) | (with_reducible refine Below.alloc ?_ ?_ _) | (with_reducible refine below_drewN ?_ _) | (with_reducible refine Below.drew ?_) | (with_reducible exact Nat.le_refl _) | omega | (simp; done) | (simp; omega)))
    have hb3 : Below V.heap.size V V2 := HW1.out.2.1.trans (hb2.mono HW1.out.2.1.size)
    exact ⟨(OG.rg frC_len HW1.out.1).below hb2, HV.out.2.2.1.trans (hb3.mono HV.out.2.2.1.size), HW1.out.2.2, by rw [hV2, hKl]; exact heap_alloc_new w1 _⟩
  clear HW1
  obtain ⟨i0, hin, hz0, hz1, hz2⟩ := info_parts info_fst
  go_wp2
  rw [← hV2, ← hKl]
  clear hV2 hKl
  go_loopw [6, 7, 8, 9, 22] (fun u0 u1 u2 u3 i wr => ∃ (k q : Nat) (a0 a1 a2 a3 : Option Addr) (c0 c1 c2 c3 : Nat), k ≤ n ∧ i = .int .i64 k ∧ u0 = .slice a0 k c0 ∧ u1 = .slice a1 k c1 ∧ u2 = .slice a2 q c2 ∧ u3 = .slice a3 q c3 ∧ q ≤ 40 ∧ Hid (q = 2 * k ∧ Below V2.heap.size V2 wr ∧ L4 wr V2.heap.size (fun4 (.slice a0 k c0) (.slice a1 k c1) (.slice a2 q c2) (.slice a3 q c3)) (fun4 (tA L k) (tU L k) (tS s L k) (tT s L k)))) (fun _ _ _ _ i _ => n - (intOf i).toNat)
  case atStart =>
    refine ⟨0, 0, none, none, none, none, 0, 0, 0, 0, Nat.zero_le _, rfl, rfl, rfl, rfl, rfl, by omega, rfl, Below.refl _ _, fun i hi => ?_, fun i j hi hj hn g => ?_⟩
    · rcases (by omega : i = 0 ∨ i = 1 ∨ i = 2 ∨ i = 3) with rfl | rfl | rfl | rfl <;> exact og_nil _ _ _ _ _
    · intro h
      rcases (by omega : i = 0 ∨ i = 1 ∨ i = 2 ∨ i = 3) with rfl | rfl | rfl | rfl <;> cases h
  case round =>
    obtain ⟨k, q, va0, va1, va2, va3, vc0, vc1, vc2, vc3, hk, rfl, rfl, rfl, rfl, rfl, hq40, hR⟩ := hrel
    by_cases hlt : k < n
    · have hjl : k < s.length := by rw [← H.out.2]; exact hlt
      obtain ⟨g, o, c2, he, hg, hj⟩ := H.out.1.pos (by omega)
      simp only [Value.slice.injEq] at he
      obtain ⟨rfl, hx1, hx2⟩ := he
      clear hx1 hx2
      obtain ⟨d0, d1, d2, d3⟩ := maC_at (hj k hjl)
      obtain ⟨mk, hmk⟩ : ∃ x, x = s[k] := ⟨_, rfl⟩
      rw [← hmk] at d0 d1 d2 d3
      have hmk2 : s.getD k mk0 = mk := by rw [List.getD_eq_getElem?_getD, List.getElem?_eq_getElem hjl, hmk]; rfl
      have hbd := (msF_ok HE.out.2.2).2.2 mk (by rw [hmk]; exact List.getElem_mem hjl)
      obtain ⟨lg, lo, rfl, hlg, e0, e1⟩ := getD_frC HW2.out.1 (j := 2 * k) (by rw [HE.out.2.1]; omega)
      obtain ⟨lg2, lo2, hl2, _, e2, e3⟩ := getD_frC HW2.out.1 (j := 2 * k + 1) (by rw [HE.out.2.1]; omega)
      injection hl2 with hl2
      injection hl2 with hl3 hl4
      subst hl3 hl4
      obtain ⟨X, hX⟩ : ∃ X, X = L.getD (2 * k) fr0 := ⟨_, rfl⟩
      obtain ⟨Y, hY⟩ : ∃ X, X = L.getD (2 * k + 1) fr0 := ⟨_, rfl⟩
      rw [← hX] at e0 e1
      rw [← hY] at e2 e3
      have HN : Hid (tA L (k + 1) = tA L k ++ [⟨X, 1⟩] ∧ tU L (k + 1) = tU L k ++ [⟨Y, 1⟩] ∧ tS s L (k + 1) = tS s L k ++ [⟨X, mk.x⟩, ⟨Y, mk.y⟩] ∧ tT s L (k + 1) = tT s L k ++ [⟨Y, mk.x⟩, ⟨X, -mk.y⟩]) := by
        rw [hX, hY, ← hmk2]; exact ⟨tA_succ _ _, tU_succ _ _, tS_succ _ _ _, tT_succ _ _ _⟩
      have HLN : Hid ((tA L k).length = k ∧ (tU L k).length = k ∧ (tS s L k).length = q ∧ (tT s L k).length = q ∧ q = 2 * k) := ⟨(tA_map _ _).2, (tU_map _ _).2, (tS_map _ _ _).2.trans hR.out.1.symm, (tT_map _ _ _).2.trans hR.out.1.symm, hR.out.1⟩
      have hbw := HW2.out.2.1.trans (hR.out.2.1.mono HW2.out.2.1.size)
      have m0 := (hbw.cell (p := ⟨g, o + k * 4, none⟩) hg).trans d0
      have m1 := (hbw.cell (p := ⟨g, o + k * 4 + 1, none⟩) hg).trans d1
      have m2 := (hbw.cell (p := ⟨g, o + k * 4 + 2, none⟩) hg).trans d2
      have m3 := (hbw.cell (p := ⟨g, o + k * 4 + 3, none⟩) hg).trans d3
      have hgw : g < wr.heap.size := Nat.lt_of_lt_of_le hg hbw.size
      have f0 := (hR.out.2.1.cell (p := ⟨lg, lo + 2 * k * 2, none⟩) hlg).trans e0
      have f1 := (hR.out.2.1.cell (p := ⟨lg, lo + 2 * k * 2 + 1, none⟩) hlg).trans e1
      have f2 := (hR.out.2.1.cell (p := ⟨lg, lo + (2 * k + 1) * 2, none⟩) hlg).trans e2
      have f3 := (hR.out.2.1.cell (p := ⟨lg, lo + (2 * k + 1) * 2 + 1, none⟩) hlg).trans e3
      have hlw : lg < wr.heap.size := Nat.lt_of_lt_of_le hlg hR.out.2.1.size
      have jl := (hR.out.2.1.block _ (ltOf HW2.out.2.2.2)).trans HW2.out.2.2.2
      have l0 := cellOf jl 0 rfl
      have l1 := cellOf jl 1 rfl
      have ll := ltOf jl
      have hneg : IntKind.i64.wrap (-mk.y) = -mk.y := by rw [IntKind.wrap_i64]; omega
      have HWr : Hid (Below V2.heap.size V2 wr ∧ L4 wr V2.heap.size (fun4 (.slice va0 k vc0) (.slice va1 k vc1) (.slice va2 q vc2) (.slice va3 q vc3)) (fun4 (tA L k) (tU L k) (tS s L k) (tT s L k))) := hR.out.2
      have hrn2 : (2 * (k : Int)) + 1 < (rn : Int) := by have e := HW2.out.2.2.1; rw [HE.out.2.1] at e; omega
      have hrn1 : (2 * (k : Int)) < (rn : Int) := by omega
      clear hR hj hmk hX hY d0 d1 d2 d3 e0 e1 e2 e3 hmk2 hbw jl hbd
      obtain ⟨x, y, dx, dy⟩ := mk
      obtain ⟨Xn, Xd⟩ := X
      obtain ⟨Yn, Yd⟩ := Y
      obtain ⟨ta, hta⟩ : ∃ l, l = tA L k := ⟨_, rfl⟩
      obtain ⟨tu, htu⟩ : ∃ l, l = tU L k := ⟨_, rfl⟩
      obtain ⟨tsl, hts⟩ : ∃ l, l = tS s L k := ⟨_, rfl⟩
      obtain ⟨ttl, htt⟩ : ∃ l, l = tT s L k := ⟨_, rfl⟩
      rw [← hta, ← htu, ← hts, ← htt] at HN HLN HWr
      clear hta htu hts htt
      have b0 : (0 : Int) ≤ (k : Int) := by omega
      have b1' : (k : Int) < (n : Int) := by omega
      obtain ⟨k2, hk2⟩ : ∃ j : Nat, j = 2 * k := ⟨_, rfl⟩
      obtain ⟨k3, hk3⟩ : ∃ j : Nat, j = 2 * k + 1 := ⟨_, rfl⟩
      have hw1 : IntKind.i64.wrap (2 * (k : Int)) = (k2 : Int) := by rw [hk2, IntKind.wrap_i64]; omega
      have hw2 : IntKind.i64.wrap ((k2 : Int) + 1) = (k3 : Int) := by rw [hk2, hk3, IntKind.wrap_i64]; omega
      rw [← hk2] at f0 f1
      rw [← hk3] at f2 f3
      have hr2 : (k2 : Int) < (rn : Int) := by omega
      have hr3 : (k3 : Int) < (rn : Int) := by omega
      have hr0 : (0 : Int) ≤ (k2 : Int) := by omega
      have hr1 : (0 : Int) ≤ (k3 : Int) := by omega
      clear hk2 hk3 hrn1 hrn2
      go_wp2_with (fail)
      obtain ⟨V3, hV3⟩ : ∃ V, V = wr.alloc (.cells #[.int .i64 x, .int .i64 y, .int .i64 dx, .int .i64 dy] 75) := ⟨_, rfl⟩
      rw [← hV3]
      obtain ⟨Km, hKm⟩ : ∃ K, K = wr.heap.size := ⟨_, rfl⟩
      rw [← hKm]
      have hb3 : Below wr.heap.size wr V3 := by rw [hV3]; (repeat' (first | (with_reducible exact Below.refl _ _) | (with_reducible assumption) | (with_reducible refine Below.setCell ?_ ?_ _) | (with_reducible refine Below.alloc ?_ ?_ _) | (with_reducible refine below_drewN ?_ _) | (with_reducible refine Below.drew ?_) | (with_reducible exact Nat.le_refl _) | omega | (simp; done) | (simp; omega)))
      have g0 := (hb3.cell (p := ⟨lg, lo + k2 * 2, none⟩) hlw).trans f0
      have g1 := (hb3.cell (p := ⟨lg, lo + k2 * 2 + 1, none⟩) hlw).trans f1
      have g2 := (hb3.cell (p := ⟨lg, lo + k3 * 2, none⟩) hlw).trans f2
      have g3 := (hb3.cell (p := ⟨lg, lo + k3 * 2 + 1, none⟩) hlw).trans f3
      have n0 := (hb3.cell (p := ⟨Kl, 0, none⟩) ll).trans l0
      have n1 := (hb3.cell (p := ⟨Kl, 1, none⟩) ll).trans l1
      have hlw3 : lg < V3.heap.size := Nat.lt_of_lt_of_le hlw hb3.size
      have ll3 : Kl < V3.heap.size := Nat.lt_of_lt_of_le ll hb3.size
      have HV3 : Hid (Below V2.heap.size V2 V3 ∧ L4 V3 V2.heap.size (fun4 (.slice va0 k vc0) (.slice va1 k vc1) (.slice va2 q vc2) (.slice va3 q vc3)) (fun4 ta tu tsl ttl) ∧ V3.heap[Km]? = some (.cells #[.int .i64 x, .int .i64 y, .int .i64 dx, .int .i64 dy] 75) ∧ V2.heap.size ≤ Km ∧ V3.heap.size = Km + 1) :=
        ⟨HWr.out.1.trans (hb3.mono HWr.out.1.size), HWr.out.2.below hb3, by rw [hV3, hKm]; exact heap_alloc_new wr _, by rw [hKm]; exact HWr.out.1.size, by rw [hV3, hKm]; simp⟩
      have HRB : Hid ((∀ g, (Value.slice va0 k vc0).ownBlock = some g → g < Km) ∧ (∀ g, (Value.slice va1 k vc1).ownBlock = some g → g < Km) ∧ (∀ g, (Value.slice va2 q vc2).ownBlock = some g → g < Km) ∧ (∀ g, (Value.slice va3 q vc3).ownBlock = some g → g < Km)) := by
        rw [hKm]
        exact ⟨fun g hg => (OG.lt (HWr.out.2.own 0 (by omega)) g hg).2, fun g hg => (OG.lt (HWr.out.2.own 1 (by omega)) g hg).2, fun g hg => (OG.lt (HWr.out.2.own 2 (by omega)) g hg).2, fun g hg => (OG.lt (HWr.out.2.own 3 (by omega)) g hg).2⟩
      clear hV3 hKm hb3 HWr m0 m1 m2 m3 f0 f1 f2 f3 l0 l1 ll hlw hgw hlg hg
      refine wp_region_float (by kernel_rfl) (fun hS => ?_)
      refine fl_take (i := 0) (d := 27) (v := .pointer (some ⟨Kl, 1, none⟩)) rfl rfl rfl (by kernel_rfl) (by kernel_rfl) (by kernel_rfl) hS ?_ ?_
      · intro w' hk; go_simp
      simp only [Act.put, List.setIfInBounds_toArray, List.set_cons_zero, List.set_cons_succ]
      refine fl_take (i := 1) (d := 28) (v := .slice (some ⟨lg, lo, none⟩) rn rc) rfl rfl rfl (by kernel_rfl) (by kernel_rfl) (by kernel_rfl) hS ?_ ?_
      · intro w' hk; go_simp
      simp only [Act.put, List.setIfInBounds_toArray, List.set_cons_zero, List.set_cons_succ]
      refine fl_take (i := 2) (d := 29) (v := .int .i64 (k : Int)) rfl rfl rfl (by kernel_rfl) (by kernel_rfl) (by kernel_rfl) hS ?_ ?_
      · intro w' hk; go_simp
      simp only [Act.put, List.setIfInBounds_toArray, List.set_cons_zero, List.set_cons_succ]
      refine fl_take (i := 3) (d := 30) (v := .int .i64 (k2 : Int)) rfl rfl rfl (by kernel_rfl) (by kernel_rfl) (by kernel_rfl) hS ?_ ?_
      · intro w' hk; go_simp
      simp only [Act.put, List.setIfInBounds_toArray, List.set_cons_zero, List.set_cons_succ]
      refine fl_take (i := 4) (d := 31) (v := .pointer (some ⟨lg, lo + k2 * 2, none⟩)) rfl rfl rfl (by kernel_rfl) (by kernel_rfl) (by kernel_rfl) hS ?_ ?_
      · intro w' hk; go_simp
      simp only [Act.put, List.setIfInBounds_toArray, List.set_cons_zero, List.set_cons_succ]
      refine fl_take (i := 5) (d := 32) (v := .agg #[.int .i64 Xn, .int .i64 Xd]) rfl rfl rfl (by kernel_rfl) (by kernel_rfl) (by kernel_rfl) hS ?_ ?_
      · intro w' hk; go_simp
      simp only [Act.put, List.setIfInBounds_toArray, List.set_cons_zero, List.set_cons_succ]
      refine fl_take (i := 6) (d := 33) (v := .pointer (some ⟨Kl, 1, none⟩)) rfl rfl rfl (by kernel_rfl) (by kernel_rfl) (by kernel_rfl) hS ?_ ?_
      · intro w' hk; go_simp
      simp only [Act.put, List.setIfInBounds_toArray, List.set_cons_zero, List.set_cons_succ]
      refine fl_take (i := 7) (d := 34) (v := .slice (some ⟨lg, lo, none⟩) rn rc) rfl rfl rfl (by kernel_rfl) (by kernel_rfl) (by kernel_rfl) hS ?_ ?_
      · intro w' hk; go_simp
      simp only [Act.put, List.setIfInBounds_toArray, List.set_cons_zero, List.set_cons_succ]
      refine fl_take (i := 8) (d := 35) (v := .int .i64 (k : Int)) rfl rfl rfl (by kernel_rfl) (by kernel_rfl) (by kernel_rfl) hS ?_ ?_
      · intro w' hk; go_simp
      simp only [Act.put, List.setIfInBounds_toArray, List.set_cons_zero, List.set_cons_succ]
      refine fl_take (i := 9) (d := 36) (v := .int .i64 (k2 : Int)) rfl rfl rfl (by kernel_rfl) (by kernel_rfl) (by kernel_rfl) hS ?_ ?_
      · intro w' hk; go_simp
      simp only [Act.put, List.setIfInBounds_toArray, List.set_cons_zero, List.set_cons_succ]
      refine fl_take (i := 10) (d := 37) (v := .int .i64 (k3 : Int)) rfl rfl rfl (by kernel_rfl) (by kernel_rfl) (by kernel_rfl) hS ?_ ?_
      · intro w' hk; go_simp
      simp only [Act.put, List.setIfInBounds_toArray, List.set_cons_zero, List.set_cons_succ]
      refine fl_take (i := 11) (d := 38) (v := .pointer (some ⟨lg, lo + k3 * 2, none⟩)) rfl rfl rfl (by kernel_rfl) (by kernel_rfl) (by kernel_rfl) hS ?_ ?_
      · intro w' hk; go_simp
      simp only [Act.put, List.setIfInBounds_toArray, List.set_cons_zero, List.set_cons_succ]
      refine fl_take (i := 12) (d := 39) (v := .agg #[.int .i64 Yn, .int .i64 Yd]) rfl rfl rfl (by kernel_rfl) (by kernel_rfl) (by kernel_rfl) hS ?_ ?_
      · intro w' hk; go_simp
      simp only [Act.put, List.setIfInBounds_toArray, List.set_cons_zero, List.set_cons_succ]
      refine wpAnyH_all (rs := [13, 14]) (by kernel_rfl) (by simp) ?_
      intro i hi
      rcases (by simpa using hi : i = 13 ∨ i = 14) with rfl | rfl
      · refine op_val (d := 12) (v := .pointer (some ⟨V3.heap.size, 0, none⟩)) (w' := (V3.alloc (.cells #[.int .i64 0, .int .i64 0] 31)).drew) rfl rfl rfl (by go_simp; try rfl) ?_
        simp only [Act.put, List.setIfInBounds_toArray, List.set_cons_zero, List.set_cons_succ]
        have hk3 : KS V3 (V3.alloc (.cells #[.int .i64 0, .int .i64 0] 31)).drew := KS.of (((Below.refl _ _).alloc (Nat.le_refl _) _).drew)
        refine ⟨hk3, wpAnyH_all (rs := [14]) (by kernel_rfl) (by simp) ?_⟩
        intro i hi
        obtain rfl : i = 14 := by simpa using hi
        refine op_val (d := 13) (v := .pointer (some ⟨V3.heap.size + 1, 0, none⟩)) (w' := ((V3.alloc (.cells #[.int .i64 0, .int .i64 0] 31)).alloc (.cells #[.int .i64 0, .int .i64 0] 31)).drew) rfl rfl rfl (by go_simp; try rfl) ?_
        simp only [Act.put, List.setIfInBounds_toArray, List.set_cons_zero, List.set_cons_succ]
        have hk4 : KS V3 ((V3.alloc (.cells #[.int .i64 0, .int .i64 0] 31)).alloc (.cells #[.int .i64 0, .int .i64 0] 31)).drew := KS.of ((((Below.refl _ _).alloc (Nat.le_refl _) _).alloc (by simp) _).drew)
        refine ⟨hk4, wpAnyH_all (rs := [15]) (by kernel_rfl) (by simp) ?_⟩
        intro i hi
        obtain rfl : i = 15 := by simpa using hi
        refine op_skipZ (w' := ((V3.alloc (.cells #[.int .i64 Xn, .int .i64 Xd] 31)).alloc (.cells #[.int .i64 0, .int .i64 0] 31)).drew) rfl rfl rfl (by go_simp; try rfl) ?_
        have hk5 : KS V3 ((V3.alloc (.cells #[.int .i64 Xn, .int .i64 Xd] 31)).alloc (.cells #[.int .i64 0, .int .i64 0] 31)).drew := KS.of ((((Below.refl _ _).alloc (Nat.le_refl _) _).alloc (by simp) _).drew)
        refine ⟨hk5, wpAnyH_all (rs := [16]) (by kernel_rfl) (by simp) ?_⟩
        intro i hi
        obtain rfl : i = 16 := by simpa using hi
        refine op_skipZ (w' := ((V3.alloc (.cells #[.int .i64 Xn, .int .i64 Xd] 31)).alloc (.cells #[.int .i64 Yn, .int .i64 Yd] 31)).drew) rfl rfl rfl (by go_simp; try rfl) ?_
        have hb6 : Below V3.heap.size V3 ((V3.alloc (.cells #[.int .i64 Xn, .int .i64 Xd] 31)).alloc (.cells #[.int .i64 Yn, .int .i64 Yd] 31)).drew := (((Below.refl _ _).alloc (Nat.le_refl _) _).alloc (by simp) _).drew
        refine ⟨KS.of hb6, wpAnyH_done (by kernel_rfl) (NoPanic.normal ?_) _⟩
        obtain ⟨W, hW⟩ : ∃ W, W = ((V3.alloc (.cells #[.int .i64 Xn, .int .i64 Xd] 31)).alloc (.cells #[.int .i64 Yn, .int .i64 Yd] 31)).drew := ⟨_, rfl⟩
        have hblk := two_nw V3 (.cells #[.int .i64 Xn, .int .i64 Xd] 31) (.cells #[.int .i64 Yn, .int .i64 Yd] 31)
        rw [← hW] at hb6 hblk ⊢
        obtain ⟨Kx, hKx⟩ : ∃ K, K = V3.heap.size := ⟨_, rfl⟩
        obtain ⟨Ky, hKy⟩ : ∃ K, K = V3.heap.size + 1 := ⟨_, rfl⟩
        have HW0 : Hid (Below V2.heap.size V2 W ∧ L4 W V2.heap.size (fun4 (.slice va0 k vc0) (.slice va1 k vc1) (.slice va2 q vc2) (.slice va3 q vc3)) (fun4 ta tu tsl ttl) ∧ Bk W Km Km Kx Ky x y dx dy Xn Xd Yn Yd) := by
          refine ⟨HV3.out.1.trans (hb6.mono HV3.out.1.size), HV3.out.2.1.below hb6, ⟨(hb6.block _ (ltOf HV3.out.2.2.1)).trans HV3.out.2.2.1, by rw [hKx]; exact hblk.1, by rw [hKy]; exact hblk.2, ?_⟩⟩
          have := HV3.out.2.2.2.2
          rw [hKx, hKy]; omega
        have hszK := HV3.out.2.2.2.1
        rw [← hKy, ← hKx]
        clear hW hb6 hblk hk3 hk4 hk5 hKx hKy HV3 hS g0 g1 g2 g3 n0 n1 hlw3 ll3
        obtain ⟨c0, c1, c2, c3, c4, c5, cl0, cl1, cl2⟩ := HW0.out.2.2.cells
        have HO0 : Hid (∀ W' : World, Below W.heap.size W W' → W'.ownsRow V2.heap.size 83 3 (.slice va0 k vc0) k (ta.flatMap fstC)) := fun W' hW => by
          have h := (HW0.out.2.1.own 0 (by omega)).below hW
          have e : ta.length = k := HLN.out.1
          unfold OG at h
          have h2 : W'.ownsRow V2.heap.size 83 3 (.slice va0 k vc0) ta.length (ta.flatMap fstC) := h
          rw [e] at h2; exact h2
        have hsz0 : V2.heap.size ≤ W.heap.size := HW0.out.1.size
        go_upto_region 10 with (at_builtin; refine wpList_append_own_at _ rfl (.tmp 40) (.tmp 43) 81 rfl V2.heap.size 83 i0 (.agg #[.int .i64 0, .int .i64 0, .int .i64 0]) 3 24 Try.underlying81 hin hz0 hz1 hz2 rfl (by decide) (.slice va0 k vc0) k (ta.flatMap fstC) rfl (HO0.out _ (by (repeat' (first | (with_reducible exact Below.refl _ _) | (with_reducible assumption) | (with_reducible refine Below.setCell ?_ ?_ _) | (with_reducible refine Below.alloc ?_ ?_ _) | (with_reducible refine below_drewN ?_ _) | (with_reducible refine Below.drew ?_) | (with_reducible exact Nat.le_refl _) | omega | (simp; done) | (simp; omega))))) ⟨W.heap.size, 0, none⟩ 1 1 [.int .i64 Xn, .int .i64 Xd, .int .i64 1] rfl rfl (World.news_of_block (cs := #[.int .i64 Xn, .int .i64 Xd, .int .i64 1]) (t := 83) (fr := (0, 0)) (heap_alloc_new W _)) (by simp [Value.oneCell']) (by unfold maxLen; omega) (by omega) (by simp; omega) ?_; intro v6 w6 hown hgrow hnn hat; obtain ⟨e0, e1, e2, e3, e4, e5, el0, el1, el2⟩ := ((HW0.out.2.2.alloc _).grown hgrow HRB.out.1).cells)
        obtain ⟨na0, nc0, hv0⟩ : ∃ a c, v6 = .slice a (k + 1) c := by
          rcases hown.2 with ⟨rfl, h0⟩ | ⟨g, cap, cur, rfl, _⟩
          · omega
          · exact ⟨_, _, rfl⟩
        subst hv0
        have HW1 : Hid (Below V2.heap.size V2 w6 ∧ L4 w6 V2.heap.size (fun4 (.slice na0 (k + 1) nc0) (.slice va1 k vc1) (.slice va2 q vc2) (.slice va3 q vc3)) (fun4 (ta ++ [⟨⟨Xn, Xd⟩, 1⟩]) (tu) (tsl) (ttl)) ∧ Bk w6 Km Km Kx Ky x y dx dy Xn Xd Yn Yd) := by
          have hal : Below W.heap.size W (W.alloc (.cells #[.int .i64 Xn, .int .i64 Xd, .int .i64 1] 83)) := by (repeat' (first | (with_reducible exact Below.refl _ _) | (with_reducible assumption) | (with_reducible refine Below.setCell ?_ ?_ _) | (with_reducible refine Below.alloc ?_ ?_ _) | (with_reducible refine below_drewN ?_ _) | (with_reducible refine Below.drew ?_) | (with_reducible exact Nat.le_refl _) | omega | (simp; done) | (simp; omega)))
          refine ⟨?_, ?_, (HW0.out.2.2.alloc _).grown hgrow HRB.out.1⟩
          · exact (HW0.out.1.trans (hal.mono hsz0)).grown hgrow (by simp; omega) (fun q hq => (World.ownsRow.lt (HO0.out W (Below.refl _ _)) q hq).1)
          · refine (L4.app (HW0.out.2.1.below hal) 0 (by omega) (new := [⟨⟨Xn, Xd⟩, 1⟩]) rfl rfl ?_ hgrow hat).congr (fun j hj => ?_) (fun j hj => ?_)
            · have e : ta.length = k := HLN.out.1
              show w6.ownsRow V2.heap.size 83 3 (.slice na0 (k + 1) nc0) (ta ++ ([⟨⟨Xn, Xd⟩, 1⟩] : List FT)).length ((ta ++ ([⟨⟨Xn, Xd⟩, 1⟩] : List FT)).flatMap fstC)
              rw [List.length_append, e, List.flatMap_append]; exact hown
            · rcases (by omega : j = 0 ∨ j = 1 ∨ j = 2 ∨ j = 3) with rfl | rfl | rfl | rfl <;> rfl
            · rcases (by omega : j = 0 ∨ j = 1 ∨ j = 2 ∨ j = 3) with rfl | rfl | rfl | rfl <;> rfl
        clear hown hgrow hnn hat HO0 HW0 c0 c1 c2 c3 c4 c5 cl0 cl1 cl2
        obtain ⟨c0, c1, c2, c3, c4, c5, cl0, cl1, cl2⟩ := HW1.out.2.2.cells
        clear e0 e1 e2 e3 e4 e5 el0 el1 el2
        have HO1 : Hid (∀ W' : World, Below w6.heap.size w6 W' → W'.ownsRow V2.heap.size 83 3 (.slice va1 k vc1) k (tu.flatMap fstC)) := fun W' hW => by
          have h := (HW1.out.2.1.own 1 (by omega)).below hW
          have e : tu.length = k := HLN.out.2.1
          unfold OG at h
          have h2 : W'.ownsRow V2.heap.size 83 3 (.slice va1 k vc1) tu.length (tu.flatMap fstC) := h
          rw [e] at h2; exact h2
        have hsz1 : V2.heap.size ≤ w6.heap.size := HW1.out.1.size
        go_upto_region 11 with (at_builtin; refine wpList_append_own_at _ rfl (.tmp 45) (.tmp 48) 81 rfl V2.heap.size 83 i0 (.agg #[.int .i64 0, .int .i64 0, .int .i64 0]) 3 24 Try.underlying81 hin hz0 hz1 hz2 rfl (by decide) (.slice va1 k vc1) k (tu.flatMap fstC) rfl (HO1.out _ (by (repeat' (first | (with_reducible exact Below.refl _ _) | (with_reducible assumption) | (with_reducible refine Below.setCell ?_ ?_ _) | (with_reducible refine Below.alloc ?_ ?_ _) | (with_reducible refine below_drewN ?_ _) | (with_reducible refine Below.drew ?_) | (with_reducible exact Nat.le_refl _) | omega | (simp; done) | (simp; omega))))) ⟨w6.heap.size, 0, none⟩ 1 1 [.int .i64 Yn, .int .i64 Yd, .int .i64 1] rfl rfl (World.news_of_block (cs := #[.int .i64 Yn, .int .i64 Yd, .int .i64 1]) (t := 83) (fr := (0, 0)) (heap_alloc_new w6 _)) (by simp [Value.oneCell']) (by unfold maxLen; omega) (by omega) (by simp; omega) ?_; intro v7 w7 hown hgrow hnn hat; obtain ⟨e0, e1, e2, e3, e4, e5, el0, el1, el2⟩ := ((HW1.out.2.2.alloc _).grown hgrow HRB.out.2.1).cells)
        obtain ⟨na1, nc1, hv1⟩ : ∃ a c, v7 = .slice a (k + 1) c := by
          rcases hown.2 with ⟨rfl, h0⟩ | ⟨g, cap, cur, rfl, _⟩
          · omega
          · exact ⟨_, _, rfl⟩
        subst hv1
        have HW2 : Hid (Below V2.heap.size V2 w7 ∧ L4 w7 V2.heap.size (fun4 (.slice na0 (k + 1) nc0) (.slice na1 (k + 1) nc1) (.slice va2 q vc2) (.slice va3 q vc3)) (fun4 (ta ++ [⟨⟨Xn, Xd⟩, 1⟩]) (tu ++ [⟨⟨Yn, Yd⟩, 1⟩]) (tsl) (ttl)) ∧ Bk w7 Km Km Kx Ky x y dx dy Xn Xd Yn Yd) := by
          have hal : Below w6.heap.size w6 (w6.alloc (.cells #[.int .i64 Yn, .int .i64 Yd, .int .i64 1] 83)) := by (repeat' (first | (with_reducible exact Below.refl _ _) | (with_reducible assumption) | (with_reducible refine Below.setCell ?_ ?_ _) | (with_reducible refine Below.alloc ?_ ?_ _) | (with_reducible refine below_drewN ?_ _) | (with_reducible refine Below.drew ?_) | (with_reducible exact Nat.le_refl _) | omega | (simp; done) | (simp; omega)))
          refine ⟨?_, ?_, (HW1.out.2.2.alloc _).grown hgrow HRB.out.2.1⟩
          · exact (HW1.out.1.trans (hal.mono hsz1)).grown hgrow (by simp; omega) (fun q hq => (World.ownsRow.lt (HO1.out w6 (Below.refl _ _)) q hq).1)
          · refine (L4.app (HW1.out.2.1.below hal) 1 (by omega) (new := [⟨⟨Yn, Yd⟩, 1⟩]) rfl rfl ?_ hgrow hat).congr (fun j hj => ?_) (fun j hj => ?_)
            · have e : tu.length = k := HLN.out.2.1
              show w7.ownsRow V2.heap.size 83 3 (.slice na1 (k + 1) nc1) (tu ++ ([⟨⟨Yn, Yd⟩, 1⟩] : List FT)).length ((tu ++ ([⟨⟨Yn, Yd⟩, 1⟩] : List FT)).flatMap fstC)
              rw [List.length_append, e, List.flatMap_append]; exact hown
            · rcases (by omega : j = 0 ∨ j = 1 ∨ j = 2 ∨ j = 3) with rfl | rfl | rfl | rfl <;> rfl
            · rcases (by omega : j = 0 ∨ j = 1 ∨ j = 2 ∨ j = 3) with rfl | rfl | rfl | rfl <;> rfl
        clear hown hgrow hnn hat HO1 HW1 c0 c1 c2 c3 c4 c5 cl0 cl1 cl2
        obtain ⟨c0, c1, c2, c3, c4, c5, cl0, cl1, cl2⟩ := HW2.out.2.2.cells
        clear e0 e1 e2 e3 e4 e5 el0 el1 el2
        have HO2 : Hid (∀ W' : World, Below w7.heap.size w7 W' → W'.ownsRow V2.heap.size 83 3 (.slice va2 q vc2) q (tsl.flatMap fstC)) := fun W' hW => by
          have h := (HW2.out.2.1.own 2 (by omega)).below hW
          have e : tsl.length = q := HLN.out.2.2.1
          unfold OG at h
          have h2 : W'.ownsRow V2.heap.size 83 3 (.slice va2 q vc2) tsl.length (tsl.flatMap fstC) := h
          rw [e] at h2; exact h2
        have hsz2 : V2.heap.size ≤ w7.heap.size := HW2.out.1.size
        go_upto_region 12 with (at_builtin; refine wpList_append_own_at _ rfl (.tmp 50) (.tmp 59) 81 rfl V2.heap.size 83 i0 (.agg #[.int .i64 0, .int .i64 0, .int .i64 0]) 3 24 Try.underlying81 hin hz0 hz1 hz2 rfl (by decide) (.slice va2 q vc2) q (tsl.flatMap fstC) rfl (HO2.out _ (by (repeat' (first | (with_reducible exact Below.refl _ _) | (with_reducible assumption) | (with_reducible refine Below.setCell ?_ ?_ _) | (with_reducible refine Below.alloc ?_ ?_ _) | (with_reducible refine below_drewN ?_ _) | (with_reducible refine Below.drew ?_) | (with_reducible exact Nat.le_refl _) | omega | (simp; done) | (simp; omega))))) ⟨w7.heap.size, 0, none⟩ 2 2 [.int .i64 Xn, .int .i64 Xd, .int .i64 x, .int .i64 Yn, .int .i64 Yd, .int .i64 y] rfl rfl (World.news_of_block (cs := #[.int .i64 Xn, .int .i64 Xd, .int .i64 x, .int .i64 Yn, .int .i64 Yd, .int .i64 y]) (t := 83) (fr := (0, 0)) (heap_alloc_new w7 _)) (by simp [Value.oneCell']) (by unfold maxLen; omega) (by omega) (by simp; omega) ?_; intro v8 w8 hown hgrow hnn hat; obtain ⟨e0, e1, e2, e3, e4, e5, el0, el1, el2⟩ := ((HW2.out.2.2.alloc _).grown hgrow HRB.out.2.2.1).cells)
        obtain ⟨na2, nc2, hv2⟩ : ∃ a c, v8 = .slice a (q + 2) c := by
          rcases hown.2 with ⟨rfl, h0⟩ | ⟨g, cap, cur, rfl, _⟩
          · omega
          · exact ⟨_, _, rfl⟩
        subst hv2
        have HW3 : Hid (Below V2.heap.size V2 w8 ∧ L4 w8 V2.heap.size (fun4 (.slice na0 (k + 1) nc0) (.slice na1 (k + 1) nc1) (.slice na2 (q + 2) nc2) (.slice va3 q vc3)) (fun4 (ta ++ [⟨⟨Xn, Xd⟩, 1⟩]) (tu ++ [⟨⟨Yn, Yd⟩, 1⟩]) (tsl ++ [⟨⟨Xn, Xd⟩, x⟩, ⟨⟨Yn, Yd⟩, y⟩]) (ttl)) ∧ Bk w8 Km Km Kx Ky x y dx dy Xn Xd Yn Yd) := by
          have hal : Below w7.heap.size w7 (w7.alloc (.cells #[.int .i64 Xn, .int .i64 Xd, .int .i64 x, .int .i64 Yn, .int .i64 Yd, .int .i64 y] 83)) := by (repeat' (first | (with_reducible exact Below.refl _ _) | (with_reducible assumption) | (with_reducible refine Below.setCell ?_ ?_ _) | (with_reducible refine Below.alloc ?_ ?_ _) | (with_reducible refine below_drewN ?_ _) | (with_reducible refine Below.drew ?_) | (with_reducible exact Nat.le_refl _) | omega | (simp; done) | (simp; omega)))
          refine ⟨?_, ?_, (HW2.out.2.2.alloc _).grown hgrow HRB.out.2.2.1⟩
          · exact (HW2.out.1.trans (hal.mono hsz2)).grown hgrow (by simp; omega) (fun q hq => (World.ownsRow.lt (HO2.out w7 (Below.refl _ _)) q hq).1)
          · refine (L4.app (HW2.out.2.1.below hal) 2 (by omega) (new := [⟨⟨Xn, Xd⟩, x⟩, ⟨⟨Yn, Yd⟩, y⟩]) rfl rfl ?_ hgrow hat).congr (fun j hj => ?_) (fun j hj => ?_)
            · have e : tsl.length = q := HLN.out.2.2.1
              show w8.ownsRow V2.heap.size 83 3 (.slice na2 (q + 2) nc2) (tsl ++ ([⟨⟨Xn, Xd⟩, x⟩, ⟨⟨Yn, Yd⟩, y⟩] : List FT)).length ((tsl ++ ([⟨⟨Xn, Xd⟩, x⟩, ⟨⟨Yn, Yd⟩, y⟩] : List FT)).flatMap fstC)
              rw [List.length_append, e, List.flatMap_append]; exact hown
            · rcases (by omega : j = 0 ∨ j = 1 ∨ j = 2 ∨ j = 3) with rfl | rfl | rfl | rfl <;> rfl
            · rcases (by omega : j = 0 ∨ j = 1 ∨ j = 2 ∨ j = 3) with rfl | rfl | rfl | rfl <;> rfl
        clear hown hgrow hnn hat HO2 HW2 c0 c1 c2 c3 c4 c5 cl0 cl1 cl2
        obtain ⟨c0, c1, c2, c3, c4, c5, cl0, cl1, cl2⟩ := HW3.out.2.2.cells
        clear e0 e1 e2 e3 e4 e5 el0 el1 el2
        have HO3 : Hid (∀ W' : World, Below w8.heap.size w8 W' → W'.ownsRow V2.heap.size 83 3 (.slice va3 q vc3) q (ttl.flatMap fstC)) := fun W' hW => by
          have h := (HW3.out.2.1.own 3 (by omega)).below hW
          have e : ttl.length = q := HLN.out.2.2.2.1
          unfold OG at h
          have h2 : W'.ownsRow V2.heap.size 83 3 (.slice va3 q vc3) ttl.length (ttl.flatMap fstC) := h
          rw [e] at h2; exact h2
        have hsz3 : V2.heap.size ≤ w8.heap.size := HW3.out.1.size
        go_upto_region 13 with (at_builtin; refine wpList_append_own_at _ rfl (.tmp 61) (.tmp 71) 81 rfl V2.heap.size 83 i0 (.agg #[.int .i64 0, .int .i64 0, .int .i64 0]) 3 24 Try.underlying81 hin hz0 hz1 hz2 rfl (by decide) (.slice va3 q vc3) q (ttl.flatMap fstC) rfl (HO3.out _ (by (repeat' (first | (with_reducible exact Below.refl _ _) | (with_reducible assumption) | (with_reducible refine Below.setCell ?_ ?_ _) | (with_reducible refine Below.alloc ?_ ?_ _) | (with_reducible refine below_drewN ?_ _) | (with_reducible refine Below.drew ?_) | (with_reducible exact Nat.le_refl _) | omega | (simp; done) | (simp; omega))))) ⟨w8.heap.size, 0, none⟩ 2 2 [.int .i64 Yn, .int .i64 Yd, .int .i64 x, .int .i64 Xn, .int .i64 Xd, .int .i64 (-y)] rfl rfl (World.news_of_block (cs := #[.int .i64 Yn, .int .i64 Yd, .int .i64 x, .int .i64 Xn, .int .i64 Xd, .int .i64 (-y)]) (t := 83) (fr := (0, 0)) (heap_alloc_new w8 _)) (by simp [Value.oneCell']) (by unfold maxLen; omega) (by omega) (by simp; omega) ?_; intro v9 w9 hown hgrow hnn hat; obtain ⟨e0, e1, e2, e3, e4, e5, el0, el1, el2⟩ := ((HW3.out.2.2.alloc _).grown hgrow HRB.out.2.2.2).cells)
        obtain ⟨na3, nc3, hv3⟩ : ∃ a c, v9 = .slice a (q + 2) c := by
          rcases hown.2 with ⟨rfl, h0⟩ | ⟨g, cap, cur, rfl, _⟩
          · omega
          · exact ⟨_, _, rfl⟩
        subst hv3
        have HW4 : Hid (Below V2.heap.size V2 w9 ∧ L4 w9 V2.heap.size (fun4 (.slice na0 (k + 1) nc0) (.slice na1 (k + 1) nc1) (.slice na2 (q + 2) nc2) (.slice na3 (q + 2) nc3)) (fun4 (ta ++ [⟨⟨Xn, Xd⟩, 1⟩]) (tu ++ [⟨⟨Yn, Yd⟩, 1⟩]) (tsl ++ [⟨⟨Xn, Xd⟩, x⟩, ⟨⟨Yn, Yd⟩, y⟩]) (ttl ++ [⟨⟨Yn, Yd⟩, x⟩, ⟨⟨Xn, Xd⟩, -y⟩])) ∧ Bk w9 Km Km Kx Ky x y dx dy Xn Xd Yn Yd) := by
          have hal : Below w8.heap.size w8 (w8.alloc (.cells #[.int .i64 Yn, .int .i64 Yd, .int .i64 x, .int .i64 Xn, .int .i64 Xd, .int .i64 (-y)] 83)) := by (repeat' (first | (with_reducible exact Below.refl _ _) | (with_reducible assumption) | (with_reducible refine Below.setCell ?_ ?_ _) | (with_reducible refine Below.alloc ?_ ?_ _) | (with_reducible refine below_drewN ?_ _) | (with_reducible refine Below.drew ?_) | (with_reducible exact Nat.le_refl _) | omega | (simp; done) | (simp; omega)))
          refine ⟨?_, ?_, (HW3.out.2.2.alloc _).grown hgrow HRB.out.2.2.2⟩
          · exact (HW3.out.1.trans (hal.mono hsz3)).grown hgrow (by simp; omega) (fun q hq => (World.ownsRow.lt (HO3.out w8 (Below.refl _ _)) q hq).1)
          · refine (L4.app (HW3.out.2.1.below hal) 3 (by omega) (new := [⟨⟨Yn, Yd⟩, x⟩, ⟨⟨Xn, Xd⟩, -y⟩]) rfl rfl ?_ hgrow hat).congr (fun j hj => ?_) (fun j hj => ?_)
            · have e : ttl.length = q := HLN.out.2.2.2.1
              show w9.ownsRow V2.heap.size 83 3 (.slice na3 (q + 2) nc3) (ttl ++ ([⟨⟨Yn, Yd⟩, x⟩, ⟨⟨Xn, Xd⟩, -y⟩] : List FT)).length ((ttl ++ ([⟨⟨Yn, Yd⟩, x⟩, ⟨⟨Xn, Xd⟩, -y⟩] : List FT)).flatMap fstC)
              rw [List.length_append, e, List.flatMap_append]; exact hown
            · rcases (by omega : j = 0 ∨ j = 1 ∨ j = 2 ∨ j = 3) with rfl | rfl | rfl | rfl <;> rfl
            · rcases (by omega : j = 0 ∨ j = 1 ∨ j = 2 ∨ j = 3) with rfl | rfl | rfl | rfl <;> rfl
        clear hown hgrow hnn hat HO3 HW3 c0 c1 c2 c3 c4 c5 cl0 cl1 cl2
        obtain ⟨c0, c1, c2, c3, c4, c5, cl0, cl1, cl2⟩ := HW4.out.2.2.cells
        clear e0 e1 e2 e3 e4 e5 el0 el1 el2
        have HF : Hid (q + 2 = 2 * (k + 1) ∧ Below V2.heap.size V2 w9 ∧ L4 w9 V2.heap.size (fun4 (.slice na0 (k + 1) nc0) (.slice na1 (k + 1) nc1) (.slice na2 (q + 2) nc2) (.slice na3 (q + 2) nc3)) (fun4 (tA L (k + 1)) (tU L (k + 1)) (tS s L (k + 1)) (tT s L (k + 1)))) := by
          refine ⟨by have := HLN.out.2.2.2.2; omega, HW4.out.1, ?_⟩
          rw [HN.out.1, HN.out.2.1, HN.out.2.2.1, HN.out.2.2.2]
          exact HW4.out.2.1
        have hq2 : q + 2 ≤ 40 := by have := HLN.out.2.2.2.2; omega
        obtain ⟨q2, hqe⟩ : ∃ z, z = q + 2 := ⟨_, rfl⟩
        rw [← hqe] at HF hq2 ⊢
        clear HW4 c0 c1 c2 c3 c4 c5 cl0 cl1 cl2 HN HLN hqe
        go_wp2
        go_roundw
        case rel => exact ⟨k + 1, q2, na0, na1, na2, na3, nc0, nc1, nc2, nc3, by omega, by go_num, by first | rfl | trivial, by first | rfl | trivial, by first | rfl | trivial, by first | rfl | trivial, hq2, HF.out⟩
        case measure => simp [intOf]; omega
      · refine op_val (d := 13) (v := .pointer (some ⟨V3.heap.size, 0, none⟩)) (w' := (V3.alloc (.cells #[.int .i64 0, .int .i64 0] 31)).drew) rfl rfl rfl (by go_simp; try rfl) ?_
        simp only [Act.put, List.setIfInBounds_toArray, List.set_cons_zero, List.set_cons_succ]
        have hk3 : KS V3 (V3.alloc (.cells #[.int .i64 0, .int .i64 0] 31)).drew := KS.of (((Below.refl _ _).alloc (Nat.le_refl _) _).drew)
        refine ⟨hk3, wpAnyH_all (rs := [13]) (by kernel_rfl) (by simp) ?_⟩
        intro i hi
        obtain rfl : i = 13 := by simpa using hi
        refine op_val (d := 12) (v := .pointer (some ⟨V3.heap.size + 1, 0, none⟩)) (w' := ((V3.alloc (.cells #[.int .i64 0, .int .i64 0] 31)).alloc (.cells #[.int .i64 0, .int .i64 0] 31)).drew) rfl rfl rfl (by go_simp; try rfl) ?_
        simp only [Act.put, List.setIfInBounds_toArray, List.set_cons_zero, List.set_cons_succ]
        have hk4 : KS V3 ((V3.alloc (.cells #[.int .i64 0, .int .i64 0] 31)).alloc (.cells #[.int .i64 0, .int .i64 0] 31)).drew := KS.of ((((Below.refl _ _).alloc (Nat.le_refl _) _).alloc (by simp) _).drew)
        refine ⟨hk4, wpAnyH_all (rs := [15]) (by kernel_rfl) (by simp) ?_⟩
        intro i hi
        obtain rfl : i = 15 := by simpa using hi
        refine op_skipZ (w' := ((V3.alloc (.cells #[.int .i64 0, .int .i64 0] 31)).alloc (.cells #[.int .i64 Xn, .int .i64 Xd] 31)).drew) rfl rfl rfl (by go_simp; try rfl) ?_
        have hk5 : KS V3 ((V3.alloc (.cells #[.int .i64 0, .int .i64 0] 31)).alloc (.cells #[.int .i64 Xn, .int .i64 Xd] 31)).drew := KS.of ((((Below.refl _ _).alloc (Nat.le_refl _) _).alloc (by simp) _).drew)
        refine ⟨hk5, wpAnyH_all (rs := [16]) (by kernel_rfl) (by simp) ?_⟩
        intro i hi
        obtain rfl : i = 16 := by simpa using hi
        refine op_skipZ (w' := ((V3.alloc (.cells #[.int .i64 Yn, .int .i64 Yd] 31)).alloc (.cells #[.int .i64 Xn, .int .i64 Xd] 31)).drew) rfl rfl rfl (by go_simp; try rfl) ?_
        have hb6 : Below V3.heap.size V3 ((V3.alloc (.cells #[.int .i64 Yn, .int .i64 Yd] 31)).alloc (.cells #[.int .i64 Xn, .int .i64 Xd] 31)).drew := (((Below.refl _ _).alloc (Nat.le_refl _) _).alloc (by simp) _).drew
        refine ⟨KS.of hb6, wpAnyH_done (by kernel_rfl) (NoPanic.normal ?_) _⟩
        obtain ⟨W, hW⟩ : ∃ W, W = ((V3.alloc (.cells #[.int .i64 Yn, .int .i64 Yd] 31)).alloc (.cells #[.int .i64 Xn, .int .i64 Xd] 31)).drew := ⟨_, rfl⟩
        have hblk := two_nw V3 (.cells #[.int .i64 Yn, .int .i64 Yd] 31) (.cells #[.int .i64 Xn, .int .i64 Xd] 31)
        rw [← hW] at hb6 hblk ⊢
        obtain ⟨Kx, hKx⟩ : ∃ K, K = V3.heap.size + 1 := ⟨_, rfl⟩
        obtain ⟨Ky, hKy⟩ : ∃ K, K = V3.heap.size := ⟨_, rfl⟩
        have HW0 : Hid (Below V2.heap.size V2 W ∧ L4 W V2.heap.size (fun4 (.slice va0 k vc0) (.slice va1 k vc1) (.slice va2 q vc2) (.slice va3 q vc3)) (fun4 ta tu tsl ttl) ∧ Bk W Km Km Kx Ky x y dx dy Xn Xd Yn Yd) := by
          refine ⟨HV3.out.1.trans (hb6.mono HV3.out.1.size), HV3.out.2.1.below hb6, ⟨(hb6.block _ (ltOf HV3.out.2.2.1)).trans HV3.out.2.2.1, by rw [hKx]; exact hblk.2, by rw [hKy]; exact hblk.1, ?_⟩⟩
          have := HV3.out.2.2.2.2
          rw [hKx, hKy]; omega
        have hszK := HV3.out.2.2.2.1
        rw [← hKx, ← hKy]
        clear hW hb6 hblk hk3 hk4 hk5 hKx hKy HV3 hS g0 g1 g2 g3 n0 n1 hlw3 ll3
        obtain ⟨c0, c1, c2, c3, c4, c5, cl0, cl1, cl2⟩ := HW0.out.2.2.cells
        have HO0 : Hid (∀ W' : World, Below W.heap.size W W' → W'.ownsRow V2.heap.size 83 3 (.slice va0 k vc0) k (ta.flatMap fstC)) := fun W' hW => by
          have h := (HW0.out.2.1.own 0 (by omega)).below hW
          have e : ta.length = k := HLN.out.1
          unfold OG at h
          have h2 : W'.ownsRow V2.heap.size 83 3 (.slice va0 k vc0) ta.length (ta.flatMap fstC) := h
          rw [e] at h2; exact h2
        have hsz0 : V2.heap.size ≤ W.heap.size := HW0.out.1.size
        go_upto_region 10 with (at_builtin; refine wpList_append_own_at _ rfl (.tmp 40) (.tmp 43) 81 rfl V2.heap.size 83 i0 (.agg #[.int .i64 0, .int .i64 0, .int .i64 0]) 3 24 Try.underlying81 hin hz0 hz1 hz2 rfl (by decide) (.slice va0 k vc0) k (ta.flatMap fstC) rfl (HO0.out _ (by (repeat' (first | (with_reducible exact Below.refl _ _) | (with_reducible assumption) | (with_reducible refine Below.setCell ?_ ?_ _) | (with_reducible refine Below.alloc ?_ ?_ _) | (with_reducible refine below_drewN ?_ _) | (with_reducible refine Below.drew ?_) | (with_reducible exact Nat.le_refl _) | omega | (simp; done) | (simp; omega))))) ⟨W.heap.size, 0, none⟩ 1 1 [.int .i64 Xn, .int .i64 Xd, .int .i64 1] rfl rfl (World.news_of_block (cs := #[.int .i64 Xn, .int .i64 Xd, .int .i64 1]) (t := 83) (fr := (0, 0)) (heap_alloc_new W _)) (by simp [Value.oneCell']) (by unfold maxLen; omega) (by omega) (by simp; omega) ?_; intro v6 w6 hown hgrow hnn hat; obtain ⟨e0, e1, e2, e3, e4, e5, el0, el1, el2⟩ := ((HW0.out.2.2.alloc _).grown hgrow HRB.out.1).cells)
        obtain ⟨na0, nc0, hv0⟩ : ∃ a c, v6 = .slice a (k + 1) c := by
          rcases hown.2 with ⟨rfl, h0⟩ | ⟨g, cap, cur, rfl, _⟩
          · omega
          · exact ⟨_, _, rfl⟩
        subst hv0
        have HW1 : Hid (Below V2.heap.size V2 w6 ∧ L4 w6 V2.heap.size (fun4 (.slice na0 (k + 1) nc0) (.slice va1 k vc1) (.slice va2 q vc2) (.slice va3 q vc3)) (fun4 (ta ++ [⟨⟨Xn, Xd⟩, 1⟩]) (tu) (tsl) (ttl)) ∧ Bk w6 Km Km Kx Ky x y dx dy Xn Xd Yn Yd) := by
          have hal : Below W.heap.size W (W.alloc (.cells #[.int .i64 Xn, .int .i64 Xd, .int .i64 1] 83)) := by (repeat' (first | (with_reducible exact Below.refl _ _) | (with_reducible assumption) | (with_reducible refine Below.setCell ?_ ?_ _) | (with_reducible refine Below.alloc ?_ ?_ _) | (with_reducible refine below_drewN ?_ _) | (with_reducible refine Below.drew ?_) | (with_reducible exact Nat.le_refl _) | omega | (simp; done) | (simp; omega)))
          refine ⟨?_, ?_, (HW0.out.2.2.alloc _).grown hgrow HRB.out.1⟩
          · exact (HW0.out.1.trans (hal.mono hsz0)).grown hgrow (by simp; omega) (fun q hq => (World.ownsRow.lt (HO0.out W (Below.refl _ _)) q hq).1)
          · refine (L4.app (HW0.out.2.1.below hal) 0 (by omega) (new := [⟨⟨Xn, Xd⟩, 1⟩]) rfl rfl ?_ hgrow hat).congr (fun j hj => ?_) (fun j hj => ?_)
            · have e : ta.length = k := HLN.out.1
              show w6.ownsRow V2.heap.size 83 3 (.slice na0 (k + 1) nc0) (ta ++ ([⟨⟨Xn, Xd⟩, 1⟩] : List FT)).length ((ta ++ ([⟨⟨Xn, Xd⟩, 1⟩] : List FT)).flatMap fstC)
              rw [List.length_append, e, List.flatMap_append]; exact hown
            · rcases (by omega : j = 0 ∨ j = 1 ∨ j = 2 ∨ j = 3) with rfl | rfl | rfl | rfl <;> rfl
            · rcases (by omega : j = 0 ∨ j = 1 ∨ j = 2 ∨ j = 3) with rfl | rfl | rfl | rfl <;> rfl
        clear hown hgrow hnn hat HO0 HW0 c0 c1 c2 c3 c4 c5 cl0 cl1 cl2
        obtain ⟨c0, c1, c2, c3, c4, c5, cl0, cl1, cl2⟩ := HW1.out.2.2.cells
        clear e0 e1 e2 e3 e4 e5 el0 el1 el2
        have HO1 : Hid (∀ W' : World, Below w6.heap.size w6 W' → W'.ownsRow V2.heap.size 83 3 (.slice va1 k vc1) k (tu.flatMap fstC)) := fun W' hW => by
          have h := (HW1.out.2.1.own 1 (by omega)).below hW
          have e : tu.length = k := HLN.out.2.1
          unfold OG at h
          have h2 : W'.ownsRow V2.heap.size 83 3 (.slice va1 k vc1) tu.length (tu.flatMap fstC) := h
          rw [e] at h2; exact h2
        have hsz1 : V2.heap.size ≤ w6.heap.size := HW1.out.1.size
        go_upto_region 11 with (at_builtin; refine wpList_append_own_at _ rfl (.tmp 45) (.tmp 48) 81 rfl V2.heap.size 83 i0 (.agg #[.int .i64 0, .int .i64 0, .int .i64 0]) 3 24 Try.underlying81 hin hz0 hz1 hz2 rfl (by decide) (.slice va1 k vc1) k (tu.flatMap fstC) rfl (HO1.out _ (by (repeat' (first | (with_reducible exact Below.refl _ _) | (with_reducible assumption) | (with_reducible refine Below.setCell ?_ ?_ _) | (with_reducible refine Below.alloc ?_ ?_ _) | (with_reducible refine below_drewN ?_ _) | (with_reducible refine Below.drew ?_) | (with_reducible exact Nat.le_refl _) | omega | (simp; done) | (simp; omega))))) ⟨w6.heap.size, 0, none⟩ 1 1 [.int .i64 Yn, .int .i64 Yd, .int .i64 1] rfl rfl (World.news_of_block (cs := #[.int .i64 Yn, .int .i64 Yd, .int .i64 1]) (t := 83) (fr := (0, 0)) (heap_alloc_new w6 _)) (by simp [Value.oneCell']) (by unfold maxLen; omega) (by omega) (by simp; omega) ?_; intro v7 w7 hown hgrow hnn hat; obtain ⟨e0, e1, e2, e3, e4, e5, el0, el1, el2⟩ := ((HW1.out.2.2.alloc _).grown hgrow HRB.out.2.1).cells)
        obtain ⟨na1, nc1, hv1⟩ : ∃ a c, v7 = .slice a (k + 1) c := by
          rcases hown.2 with ⟨rfl, h0⟩ | ⟨g, cap, cur, rfl, _⟩
          · omega
          · exact ⟨_, _, rfl⟩
        subst hv1
        have HW2 : Hid (Below V2.heap.size V2 w7 ∧ L4 w7 V2.heap.size (fun4 (.slice na0 (k + 1) nc0) (.slice na1 (k + 1) nc1) (.slice va2 q vc2) (.slice va3 q vc3)) (fun4 (ta ++ [⟨⟨Xn, Xd⟩, 1⟩]) (tu ++ [⟨⟨Yn, Yd⟩, 1⟩]) (tsl) (ttl)) ∧ Bk w7 Km Km Kx Ky x y dx dy Xn Xd Yn Yd) := by
          have hal : Below w6.heap.size w6 (w6.alloc (.cells #[.int .i64 Yn, .int .i64 Yd, .int .i64 1] 83)) := by (repeat' (first | (with_reducible exact Below.refl _ _) | (with_reducible assumption) | (with_reducible refine Below.setCell ?_ ?_ _) | (with_reducible refine Below.alloc ?_ ?_ _) | (with_reducible refine below_drewN ?_ _) | (with_reducible refine Below.drew ?_) | (with_reducible exact Nat.le_refl _) | omega | (simp; done) | (simp; omega)))
          refine ⟨?_, ?_, (HW1.out.2.2.alloc _).grown hgrow HRB.out.2.1⟩
          · exact (HW1.out.1.trans (hal.mono hsz1)).grown hgrow (by simp; omega) (fun q hq => (World.ownsRow.lt (HO1.out w6 (Below.refl _ _)) q hq).1)
          · refine (L4.app (HW1.out.2.1.below hal) 1 (by omega) (new := [⟨⟨Yn, Yd⟩, 1⟩]) rfl rfl ?_ hgrow hat).congr (fun j hj => ?_) (fun j hj => ?_)
            · have e : tu.length = k := HLN.out.2.1
              show w7.ownsRow V2.heap.size 83 3 (.slice na1 (k + 1) nc1) (tu ++ ([⟨⟨Yn, Yd⟩, 1⟩] : List FT)).length ((tu ++ ([⟨⟨Yn, Yd⟩, 1⟩] : List FT)).flatMap fstC)
              rw [List.length_append, e, List.flatMap_append]; exact hown
            · rcases (by omega : j = 0 ∨ j = 1 ∨ j = 2 ∨ j = 3) with rfl | rfl | rfl | rfl <;> rfl
            · rcases (by omega : j = 0 ∨ j = 1 ∨ j = 2 ∨ j = 3) with rfl | rfl | rfl | rfl <;> rfl
        clear hown hgrow hnn hat HO1 HW1 c0 c1 c2 c3 c4 c5 cl0 cl1 cl2
        obtain ⟨c0, c1, c2, c3, c4, c5, cl0, cl1, cl2⟩ := HW2.out.2.2.cells
        clear e0 e1 e2 e3 e4 e5 el0 el1 el2
        have HO2 : Hid (∀ W' : World, Below w7.heap.size w7 W' → W'.ownsRow V2.heap.size 83 3 (.slice va2 q vc2) q (tsl.flatMap fstC)) := fun W' hW => by
          have h := (HW2.out.2.1.own 2 (by omega)).below hW
          have e : tsl.length = q := HLN.out.2.2.1
          unfold OG at h
          have h2 : W'.ownsRow V2.heap.size 83 3 (.slice va2 q vc2) tsl.length (tsl.flatMap fstC) := h
          rw [e] at h2; exact h2
        have hsz2 : V2.heap.size ≤ w7.heap.size := HW2.out.1.size
        go_upto_region 12 with (at_builtin; refine wpList_append_own_at _ rfl (.tmp 50) (.tmp 59) 81 rfl V2.heap.size 83 i0 (.agg #[.int .i64 0, .int .i64 0, .int .i64 0]) 3 24 Try.underlying81 hin hz0 hz1 hz2 rfl (by decide) (.slice va2 q vc2) q (tsl.flatMap fstC) rfl (HO2.out _ (by (repeat' (first | (with_reducible exact Below.refl _ _) | (with_reducible assumption) | (with_reducible refine Below.setCell ?_ ?_ _) | (with_reducible refine Below.alloc ?_ ?_ _) | (with_reducible refine below_drewN ?_ _) | (with_reducible refine Below.drew ?_) | (with_reducible exact Nat.le_refl _) | omega | (simp; done) | (simp; omega))))) ⟨w7.heap.size, 0, none⟩ 2 2 [.int .i64 Xn, .int .i64 Xd, .int .i64 x, .int .i64 Yn, .int .i64 Yd, .int .i64 y] rfl rfl (World.news_of_block (cs := #[.int .i64 Xn, .int .i64 Xd, .int .i64 x, .int .i64 Yn, .int .i64 Yd, .int .i64 y]) (t := 83) (fr := (0, 0)) (heap_alloc_new w7 _)) (by simp [Value.oneCell']) (by unfold maxLen; omega) (by omega) (by simp; omega) ?_; intro v8 w8 hown hgrow hnn hat; obtain ⟨e0, e1, e2, e3, e4, e5, el0, el1, el2⟩ := ((HW2.out.2.2.alloc _).grown hgrow HRB.out.2.2.1).cells)
        obtain ⟨na2, nc2, hv2⟩ : ∃ a c, v8 = .slice a (q + 2) c := by
          rcases hown.2 with ⟨rfl, h0⟩ | ⟨g, cap, cur, rfl, _⟩
          · omega
          · exact ⟨_, _, rfl⟩
        subst hv2
        have HW3 : Hid (Below V2.heap.size V2 w8 ∧ L4 w8 V2.heap.size (fun4 (.slice na0 (k + 1) nc0) (.slice na1 (k + 1) nc1) (.slice na2 (q + 2) nc2) (.slice va3 q vc3)) (fun4 (ta ++ [⟨⟨Xn, Xd⟩, 1⟩]) (tu ++ [⟨⟨Yn, Yd⟩, 1⟩]) (tsl ++ [⟨⟨Xn, Xd⟩, x⟩, ⟨⟨Yn, Yd⟩, y⟩]) (ttl)) ∧ Bk w8 Km Km Kx Ky x y dx dy Xn Xd Yn Yd) := by
          have hal : Below w7.heap.size w7 (w7.alloc (.cells #[.int .i64 Xn, .int .i64 Xd, .int .i64 x, .int .i64 Yn, .int .i64 Yd, .int .i64 y] 83)) := by (repeat' (first | (with_reducible exact Below.refl _ _) | (with_reducible assumption) | (with_reducible refine Below.setCell ?_ ?_ _) | (with_reducible refine Below.alloc ?_ ?_ _) | (with_reducible refine below_drewN ?_ _) | (with_reducible refine Below.drew ?_) | (with_reducible exact Nat.le_refl _) | omega | (simp; done) | (simp; omega)))
          refine ⟨?_, ?_, (HW2.out.2.2.alloc _).grown hgrow HRB.out.2.2.1⟩
          · exact (HW2.out.1.trans (hal.mono hsz2)).grown hgrow (by simp; omega) (fun q hq => (World.ownsRow.lt (HO2.out w7 (Below.refl _ _)) q hq).1)
          · refine (L4.app (HW2.out.2.1.below hal) 2 (by omega) (new := [⟨⟨Xn, Xd⟩, x⟩, ⟨⟨Yn, Yd⟩, y⟩]) rfl rfl ?_ hgrow hat).congr (fun j hj => ?_) (fun j hj => ?_)
            · have e : tsl.length = q := HLN.out.2.2.1
              show w8.ownsRow V2.heap.size 83 3 (.slice na2 (q + 2) nc2) (tsl ++ ([⟨⟨Xn, Xd⟩, x⟩, ⟨⟨Yn, Yd⟩, y⟩] : List FT)).length ((tsl ++ ([⟨⟨Xn, Xd⟩, x⟩, ⟨⟨Yn, Yd⟩, y⟩] : List FT)).flatMap fstC)
              rw [List.length_append, e, List.flatMap_append]; exact hown
            · rcases (by omega : j = 0 ∨ j = 1 ∨ j = 2 ∨ j = 3) with rfl | rfl | rfl | rfl <;> rfl
            · rcases (by omega : j = 0 ∨ j = 1 ∨ j = 2 ∨ j = 3) with rfl | rfl | rfl | rfl <;> rfl
        clear hown hgrow hnn hat HO2 HW2 c0 c1 c2 c3 c4 c5 cl0 cl1 cl2
        obtain ⟨c0, c1, c2, c3, c4, c5, cl0, cl1, cl2⟩ := HW3.out.2.2.cells
        clear e0 e1 e2 e3 e4 e5 el0 el1 el2
        have HO3 : Hid (∀ W' : World, Below w8.heap.size w8 W' → W'.ownsRow V2.heap.size 83 3 (.slice va3 q vc3) q (ttl.flatMap fstC)) := fun W' hW => by
          have h := (HW3.out.2.1.own 3 (by omega)).below hW
          have e : ttl.length = q := HLN.out.2.2.2.1
          unfold OG at h
          have h2 : W'.ownsRow V2.heap.size 83 3 (.slice va3 q vc3) ttl.length (ttl.flatMap fstC) := h
          rw [e] at h2; exact h2
        have hsz3 : V2.heap.size ≤ w8.heap.size := HW3.out.1.size
        go_upto_region 13 with (at_builtin; refine wpList_append_own_at _ rfl (.tmp 61) (.tmp 71) 81 rfl V2.heap.size 83 i0 (.agg #[.int .i64 0, .int .i64 0, .int .i64 0]) 3 24 Try.underlying81 hin hz0 hz1 hz2 rfl (by decide) (.slice va3 q vc3) q (ttl.flatMap fstC) rfl (HO3.out _ (by (repeat' (first | (with_reducible exact Below.refl _ _) | (with_reducible assumption) | (with_reducible refine Below.setCell ?_ ?_ _) | (with_reducible refine Below.alloc ?_ ?_ _) | (with_reducible refine below_drewN ?_ _) | (with_reducible refine Below.drew ?_) | (with_reducible exact Nat.le_refl _) | omega | (simp; done) | (simp; omega))))) ⟨w8.heap.size, 0, none⟩ 2 2 [.int .i64 Yn, .int .i64 Yd, .int .i64 x, .int .i64 Xn, .int .i64 Xd, .int .i64 (-y)] rfl rfl (World.news_of_block (cs := #[.int .i64 Yn, .int .i64 Yd, .int .i64 x, .int .i64 Xn, .int .i64 Xd, .int .i64 (-y)]) (t := 83) (fr := (0, 0)) (heap_alloc_new w8 _)) (by simp [Value.oneCell']) (by unfold maxLen; omega) (by omega) (by simp; omega) ?_; intro v9 w9 hown hgrow hnn hat; obtain ⟨e0, e1, e2, e3, e4, e5, el0, el1, el2⟩ := ((HW3.out.2.2.alloc _).grown hgrow HRB.out.2.2.2).cells)
        obtain ⟨na3, nc3, hv3⟩ : ∃ a c, v9 = .slice a (q + 2) c := by
          rcases hown.2 with ⟨rfl, h0⟩ | ⟨g, cap, cur, rfl, _⟩
          · omega
          · exact ⟨_, _, rfl⟩
        subst hv3
        have HW4 : Hid (Below V2.heap.size V2 w9 ∧ L4 w9 V2.heap.size (fun4 (.slice na0 (k + 1) nc0) (.slice na1 (k + 1) nc1) (.slice na2 (q + 2) nc2) (.slice na3 (q + 2) nc3)) (fun4 (ta ++ [⟨⟨Xn, Xd⟩, 1⟩]) (tu ++ [⟨⟨Yn, Yd⟩, 1⟩]) (tsl ++ [⟨⟨Xn, Xd⟩, x⟩, ⟨⟨Yn, Yd⟩, y⟩]) (ttl ++ [⟨⟨Yn, Yd⟩, x⟩, ⟨⟨Xn, Xd⟩, -y⟩])) ∧ Bk w9 Km Km Kx Ky x y dx dy Xn Xd Yn Yd) := by
          have hal : Below w8.heap.size w8 (w8.alloc (.cells #[.int .i64 Yn, .int .i64 Yd, .int .i64 x, .int .i64 Xn, .int .i64 Xd, .int .i64 (-y)] 83)) := by (repeat' (first | (with_reducible exact Below.refl _ _) | (with_reducible assumption) | (with_reducible refine Below.setCell ?_ ?_ _) | (with_reducible refine Below.alloc ?_ ?_ _) | (with_reducible refine below_drewN ?_ _) | (with_reducible refine Below.drew ?_) | (with_reducible exact Nat.le_refl _) | omega | (simp; done) | (simp; omega)))
          refine ⟨?_, ?_, (HW3.out.2.2.alloc _).grown hgrow HRB.out.2.2.2⟩
          · exact (HW3.out.1.trans (hal.mono hsz3)).grown hgrow (by simp; omega) (fun q hq => (World.ownsRow.lt (HO3.out w8 (Below.refl _ _)) q hq).1)
          · refine (L4.app (HW3.out.2.1.below hal) 3 (by omega) (new := [⟨⟨Yn, Yd⟩, x⟩, ⟨⟨Xn, Xd⟩, -y⟩]) rfl rfl ?_ hgrow hat).congr (fun j hj => ?_) (fun j hj => ?_)
            · have e : ttl.length = q := HLN.out.2.2.2.1
              show w9.ownsRow V2.heap.size 83 3 (.slice na3 (q + 2) nc3) (ttl ++ ([⟨⟨Yn, Yd⟩, x⟩, ⟨⟨Xn, Xd⟩, -y⟩] : List FT)).length ((ttl ++ ([⟨⟨Yn, Yd⟩, x⟩, ⟨⟨Xn, Xd⟩, -y⟩] : List FT)).flatMap fstC)
              rw [List.length_append, e, List.flatMap_append]; exact hown
            · rcases (by omega : j = 0 ∨ j = 1 ∨ j = 2 ∨ j = 3) with rfl | rfl | rfl | rfl <;> rfl
            · rcases (by omega : j = 0 ∨ j = 1 ∨ j = 2 ∨ j = 3) with rfl | rfl | rfl | rfl <;> rfl
        clear hown hgrow hnn hat HO3 HW3 c0 c1 c2 c3 c4 c5 cl0 cl1 cl2
        obtain ⟨c0, c1, c2, c3, c4, c5, cl0, cl1, cl2⟩ := HW4.out.2.2.cells
        clear e0 e1 e2 e3 e4 e5 el0 el1 el2
        have HF : Hid (q + 2 = 2 * (k + 1) ∧ Below V2.heap.size V2 w9 ∧ L4 w9 V2.heap.size (fun4 (.slice na0 (k + 1) nc0) (.slice na1 (k + 1) nc1) (.slice na2 (q + 2) nc2) (.slice na3 (q + 2) nc3)) (fun4 (tA L (k + 1)) (tU L (k + 1)) (tS s L (k + 1)) (tT s L (k + 1)))) := by
          refine ⟨by have := HLN.out.2.2.2.2; omega, HW4.out.1, ?_⟩
          rw [HN.out.1, HN.out.2.1, HN.out.2.2.1, HN.out.2.2.2]
          exact HW4.out.2.1
        have hq2 : q + 2 ≤ 40 := by have := HLN.out.2.2.2.2; omega
        obtain ⟨q2, hqe⟩ : ∃ z, z = q + 2 := ⟨_, rfl⟩
        rw [← hqe] at HF hq2 ⊢
        clear HW4 c0 c1 c2 c3 c4 c5 cl0 cl1 cl2 HN HLN hqe
        go_wp2
        go_roundw
        case rel => exact ⟨k + 1, q2, na0, na1, na2, na3, nc0, nc1, nc2, nc3, by omega, by go_num, by first | rfl | trivial, by first | rfl | trivial, by first | rfl | trivial, by first | rfl | trivial, hq2, HF.out⟩
        case measure => simp [intOf]; omega
    · have hkn : k = s.length := by rw [← H.out.2]; omega
      obtain ⟨z0, hz0e⟩ : ∃ b, b = isN (s0 (ckA L k)) := ⟨_, rfl⟩
      obtain ⟨z1, hz1e⟩ : ∃ b, b = isN (s0 (ckU L k)) := ⟨_, rfl⟩
      obtain ⟨z2, hz2e⟩ : ∃ b, b = isN (s0 (ckS s L k)) := ⟨_, rfl⟩
      obtain ⟨z3, hz3e⟩ : ∃ b, b = isN (s0 (ckT s L k)) := ⟨_, rfl⟩
      have HZ : Hid (Q = (z0 && z1 && z2 && z3)) := by
        unfold Hid; rw [HQ.out, cfB_ok HE.out.1, ← HL.out.2.1, ← hkn, hz0e, hz1e, hz2e, hz3e]
      have HS0 : Hid (∀ W, Below wr.heap.size wr W → Calls Try.prog 42 #[.slice va0 k vc0] W fun e w' => e = .returned (.bool z0) ∧ Below W.heap.size W w') := fun W hW => by
        have h : RG 3 fstC W (.slice va0 k vc0) (tA L k) := (OG.rg fstC_len (hR.out.2.2.own 0 (by omega))).below hW
        have h2 := impl_isN (by rw [(tA_map L k).2]; omega) h
        rw [(tA_map L k).1] at h2
        rw [hz0e]; exact h2
      have HS1 : Hid (∀ W, Below wr.heap.size wr W → Calls Try.prog 42 #[.slice va1 k vc1] W fun e w' => e = .returned (.bool z1) ∧ Below W.heap.size W w') := fun W hW => by
        have h : RG 3 fstC W (.slice va1 k vc1) (tU L k) := (OG.rg fstC_len (hR.out.2.2.own 1 (by omega))).below hW
        have h2 := impl_isN (by rw [(tU_map L k).2]; omega) h
        rw [(tU_map L k).1] at h2
        rw [hz1e]; exact h2
      have HS2 : Hid (∀ W, Below wr.heap.size wr W → Calls Try.prog 42 #[.slice va2 q vc2] W fun e w' => e = .returned (.bool z2) ∧ Below W.heap.size W w') := fun W hW => by
        have h : RG 3 fstC W (.slice va2 q vc2) (tS s L k) := (OG.rg fstC_len (hR.out.2.2.own 2 (by omega))).below hW
        have h2 := impl_isN (by rw [(tS_map s L k).2]; omega) h
        rw [(tS_map s L k).1] at h2
        rw [hz2e]; exact h2
      have HS3 : Hid (∀ W, Below wr.heap.size wr W → Calls Try.prog 42 #[.slice va3 q vc3] W fun e w' => e = .returned (.bool z3) ∧ Below W.heap.size W w') := fun W hW => by
        have h : RG 3 fstC W (.slice va3 q vc3) (tT s L k) := (OG.rg fstC_len (hR.out.2.2.own 3 (by omega))).below hW
        have h2 := impl_isN (by rw [(tT_map s L k).2]; omega) h
        rw [(tT_map s L k).1] at h2
        rw [hz3e]; exact h2
      have HBW : Hid (Below w.heap.size w wr) := HW2.out.2.1.trans (hR.out.2.1.mono HW2.out.2.1.size)
      clear hR hz0e hz1e hz2e hz3e hkn
      go_wp2_with (fail)
      refine (HS0.out _ (Below.refl _ _)).mono ?_
      rintro e y0 ⟨rfl, hb0⟩
      cases z0 with
      | false =>
        have HF : Hid (Q = false ∧ Below w.heap.size w y0) := ⟨by rw [HZ.out]; rfl, HBW.out.trans (hb0.mono HBW.out.size)⟩
        clear hb0
        go_wp2
        go_returns
        exact ⟨by rw [HF.out.1] <;> rfl, HF.out.2⟩
      | true =>
      go_wp2_with (fail)
      refine (HS1.out _ hb0).mono ?_
      rintro e y1 ⟨rfl, hc1⟩
      have hb1 : Below wr.heap.size wr y1 := hb0.trans (hc1.mono hb0.size)
      cases z1 with
      | false =>
        have HF : Hid (Q = false ∧ Below w.heap.size w y1) := ⟨by rw [HZ.out]; rfl, HBW.out.trans (hb1.mono HBW.out.size)⟩
        clear hb1
        go_wp2
        go_returns
        exact ⟨by rw [HF.out.1] <;> rfl, HF.out.2⟩
      | true =>
      go_wp2_with (fail)
      refine (HS2.out _ hb1).mono ?_
      rintro e y2 ⟨rfl, hc2⟩
      have hb2 : Below wr.heap.size wr y2 := hb1.trans (hc2.mono hb1.size)
      cases z2 with
      | false =>
        have HF : Hid (Q = false ∧ Below w.heap.size w y2) := ⟨by rw [HZ.out]; rfl, HBW.out.trans (hb2.mono HBW.out.size)⟩
        clear hb2
        go_wp2
        go_returns
        exact ⟨by rw [HF.out.1] <;> rfl, HF.out.2⟩
      | true =>
      go_wp2_with (fail)
      refine (HS3.out _ hb2).mono ?_
      rintro e y3 ⟨rfl, hc3⟩
      have hb3 : Below wr.heap.size wr y3 := hb2.trans (hc3.mono hb2.size)
      cases z3 with
      | false =>
        have HF : Hid (Q = false ∧ Below w.heap.size w y3) := ⟨by rw [HZ.out]; rfl, HBW.out.trans (hb3.mono HBW.out.size)⟩
        clear hb3
        go_wp2
        go_returns
        exact ⟨by rw [HF.out.1] <;> rfl, HF.out.2⟩
      | true =>
      have HF : Hid (Q = true ∧ Below w.heap.size w y3) := ⟨by rw [HZ.out]; rfl, HBW.out.trans (hb3.mono HBW.out.size)⟩
      clear hb3
      go_wp2
      go_returns
      exact ⟨by rw [HF.out.1] <;> rfl, HF.out.2⟩

end Go.Proofs.Ytdidmjgilnhncab
