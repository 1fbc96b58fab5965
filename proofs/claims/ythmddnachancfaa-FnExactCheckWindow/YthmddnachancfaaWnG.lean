/- Proved here: how far a row is good (goodUntil), how many cells a box has, and the greatest window from a corner (largestFrom), of the program. -/
import Derived.Test.YthmddnachancfaaWnE
import Derived.Deep.DeepCutAuto
namespace Go.Proofs.Ythmddnachancfaa
open Go.RowKit
set_option linter.unusedVariables false
set_option linter.unusedSimpArgs false

set_option maxRecDepth 10000 in
set_option maxHeartbeats 3200000 in
theorem impl_until {F : Nat} {r : Value} {n W : Nat} {P : Nat → Nat → Bool} {w : World} (x y R : Nat) (hy : y < n) (hx : x ≤ R) (hR : R ≤ W) (hW : W ≤ 16) (hK : Kd F r n W P w) :
    Calls Try.prog 67 #[.agg #[.int .i64 x, .int .i64 y], .int .i64 R, .func (.func F) #[r] #[]] w fun e w' => e = .returned (.int .i64 (goU (P y) x (R - x))) ∧ Below w.heap.size w w' := by
  have HK : Hid (Kd F r n W P w) := hK
  have hent := hK.enter
  obtain ⟨G, hG⟩ : ∃ G, G = goU (P y) x (R - x) := ⟨_, rfl⟩
  rw [← hG]
  have HG : Hid (G = goU (P y) x (R - x)) := hG
  clear hK hG
  obtain ⟨V, hV⟩ : ∃ V, V = w.alloc (.cells #[.int .i64 x, .int .i64 y] 61) := ⟨_, rfl⟩
  have HB : Hid (V.heap[w.heap.size]? = some (.cells #[.int .i64 x, .int .i64 y] 61) ∧ Below w.heap.size w V) := by
    rw [hV]; exact ⟨heap_alloc_new w _, by (repeat' (first | (with_reducible exact Below.refl _ _) | (with_reducible assumption) | (with_reducible refine Below.setCell ?_ ?_ _) | (with_reducible refine Below.alloc ?_ ?_ _) | (with_reducible refine below_drewN ?_ _) | (with_reducible refine Below.drew ?_) | (with_reducible exact Nat.le_refl _) | omega | (simp; done) | (simp; omega)))⟩
  obtain ⟨p0, p1, pf0, pf1, pl⟩ := two_of HB.out.1
  go_enter Try.func67, Try.ntmps67
  go_upto_region 1 with fail
  rw [← hV]
  clear hV
  go_wp2
  clear p0 p1 pf0 pf1 pl
  go_loopw [7] (fun i wr => ∃ (k : Nat), x ≤ k ∧ k ≤ R ∧ i = .int .i64 k ∧ Hid (G = goU (P y) k (R - k) ∧ Below V.heap.size V wr)) (fun i _ => R - (intOf i).toNat)
  case atStart => exact ⟨x, Nat.le_refl _, hx, rfl, HG.out, Below.refl _ _⟩
  case round =>
    obtain ⟨k, hk0, hk, rfl, hR⟩ := hrel
    by_cases hlt : k < R
    · obtain ⟨p0, p1, pf0, pf1, pl⟩ := two_of ((hR.out.2.block _ (ltOf HB.out.1)).trans HB.out.1)
      have HC : Hid (Calls Try.prog F #[r, .agg #[.int .i64 k, .int .i64 y]] wr fun e w' => e = .returned (.bool (P y k)) ∧ Below wr.heap.size wr w') := HK.out.calls wr y k (HB.out.2.trans (hR.out.2.mono HB.out.2.size)) hy (by omega)
      have HN : Hid (G = if P y k = true then goU (P y) (k + 1) (R - (k + 1)) else k) := by
        have e := hR.out.1
        rw [show R - k = (R - (k + 1)) + 1 by omega, goU] at e
        exact e
      have b1 : (k : Int) < (R : Int) := by omega
      go_wp2_with (fail)
      refine HC.out.mono ?_
      rintro e w3 ⟨rfl, hb3⟩
      have HB3 : Hid (Below V.heap.size V w3) := hR.out.2.trans (hb3.mono hR.out.2.size)
      clear hR hb3 HC p0 p1 pf0 pf1 pl
      cases hpk : P y k with
      | true =>
        have HN2 : Hid (G = goU (P y) (k + 1) (R - (k + 1))) := by have := HN.out; rw [if_pos hpk] at this; exact this
        clear HN hpk
        go_wp2
        go_roundw
        case rel => exact ⟨k + 1, by omega, by omega, by go_num, HN2.out, HB3.out⟩
        case measure => simp [intOf]; omega
      | false =>
        have HN2 : Hid (G = k) := by have := HN.out; rw [hpk] at this; unfold Hid; simpa using this
        clear HN hpk
        go_wp2
        go_returns
        exact ⟨by rw [HN2.out]; rfl, HB.out.2.trans (HB3.out.mono HB.out.2.size)⟩
    · have HE : Hid (G = R) := by have e := hR.out.1; rw [show k = R by omega, Nat.sub_self] at e; exact e
      have HB3 : Hid (Below V.heap.size V wr) := hR.out.2
      clear hR
      go_wp2
      go_returns
      exact ⟨by rw [HE.out]; rfl, HB.out.2.trans (HB3.out.mono HB.out.2.size)⟩

theorem box_at {w : World} {k : Nat} {a b c d : Value} {T : TypeId} (h : w.heap[k]? = some (.cells #[a, b, c, d] T)) : w.cell? ⟨k, 0 + 0 * 4 + 0, none⟩ = some a ∧ w.cell? ⟨k, 0 + 0 * 4 + 1, none⟩ = some b ∧ w.cell? ⟨k, 0 + 0 * 4 + 2, none⟩ = some c ∧ w.cell? ⟨k, 0 + 0 * 4 + 3, none⟩ = some d := by
  obtain ⟨h0, h1, h2, h3, _⟩ := four_of h
  exact ⟨h0, h1, h2, h3⟩

set_option maxRecDepth 10000 in
set_option maxHeartbeats 3200000 in
theorem impl_cells1 (x0 y0 x1 y1 : Int) {w : World} {g : Nat} (hx : 0 ≤ x1 - x0 ∧ x1 - x0 ≤ 16) (hy : 0 ≤ y1 - y0 ∧ y1 - y0 ≤ 16) (h : w.heap[g]? = some (.cells #[.int .i64 x0, .int .i64 y0, .int .i64 x1, .int .i64 y1] 34)) :
    Calls Try.prog 56 #[.slice (some ⟨g, 0, none⟩) 1 1] w fun e w' => e = .returned (.int .i64 ((x1 - x0) * (y1 - y0))) ∧ Below w.heap.size w w' := by
  have hA : 0 ≤ (x1 - x0) * (y1 - y0) ∧ (x1 - x0) * (y1 - y0) ≤ 256 := ⟨Int.mul_nonneg hx.1 hy.1, by
    have h1 := Int.mul_le_mul hx.2 hy.2 hy.1 (by omega)
    omega⟩
  have e1 : IntKind.i64.wrap (x1 - x0) = x1 - x0 := by rw [IntKind.wrap_i64]; omega
  have e2 : IntKind.i64.wrap (y1 - y0) = y1 - y0 := by rw [IntKind.wrap_i64]; omega
  obtain ⟨A, hA2⟩ : ∃ A, A = (x1 - x0) * (y1 - y0) := ⟨_, rfl⟩
  rw [← hA2] at hA ⊢
  have e3 : IntKind.i64.wrap ((x1 - x0) * (y1 - y0)) = A := by rw [← hA2, IntKind.wrap_i64]; omega
  have e4 : IntKind.i64.wrap A = A := by rw [IntKind.wrap_i64]; omega
  have H : Hid (w.heap[g]? = some (.cells #[.int .i64 x0, .int .i64 y0, .int .i64 x1, .int .i64 y1] 34)) := h
  clear hA2 h
  go_enter Try.func56, Try.ntmps56
  go_wp2
  go_loopw [3, 8] (fun s i wr => ∃ (k : Nat), k ≤ 1 ∧ i = .int .i64 k ∧ s = .int .i64 (if k = 0 then 0 else A) ∧ Hid (Below w.heap.size w wr)) (fun _ i _ => 1 - (intOf i).toNat)
  case atStart => exact ⟨0, by omega, rfl, rfl, Below.refl _ _⟩
  case round =>
    obtain ⟨k, hk, rfl, rfl, hR⟩ := hrel
    by_cases hlt : k < 1
    · obtain rfl : k = 0 := by omega
      obtain ⟨c0, c1, c2, c3, hl⟩ := four_of ((hR.out.block _ (ltOf H.out)).trans H.out)
      have HB : Hid (Below w.heap.size w wr) := hR.out
      clear hR
      go_wp2
      go_roundw
      case rel => exact ⟨1, by omega, rfl, rfl, by have hb := HB.out; have hz := hb.size; unfold Hid; (repeat' (first | (with_reducible exact Below.refl _ _) | (with_reducible assumption) | (with_reducible refine Below.setCell ?_ ?_ _) | (with_reducible refine Below.alloc ?_ ?_ _) | (with_reducible refine below_drewN ?_ _) | (with_reducible refine Below.drew ?_) | (with_reducible exact Nat.le_refl _) | omega | (simp; done) | (simp; omega)))⟩
      case measure => simp [intOf]
    · obtain rfl : k = 1 := by omega
      have HB : Hid (Below w.heap.size w wr) := hR.out
      clear hR
      go_wp2
      go_returns
      exact ⟨rfl, HB.out⟩

theorem al4 {w V : World} {o1 o2 o3 o4 : Obj} (h : V = (((w.alloc o1).alloc o2).alloc o3).alloc o4) : V.heap[w.heap.size]? = some o1 ∧ V.heap[w.heap.size + 1]? = some o2 ∧ V.heap[w.heap.size + 1 + 1]? = some o3 ∧ V.heap[w.heap.size + 1 + 1 + 1]? = some o4 ∧ Below w.heap.size w V ∧ V.heap.size = w.heap.size + 4 := by
  obtain ⟨W, hW⟩ : ∃ W, W = (w.alloc o1).alloc o2 := ⟨_, rfl⟩
  rw [← hW] at h
  obtain ⟨a1, a2, a3, a4⟩ := al2 hW
  obtain ⟨b1, b2, b3, b4⟩ := al2 h
  rw [a4] at b1 b2
  exact ⟨(b3.block _ (by omega)).trans a1, (b3.block _ (by omega)).trans a2, b1, b2, a3.trans (b3.mono a3.size), by omega⟩
theorem six_of {w : World} {k : Nat} {a b c d e f : Value} {T : TypeId} (h : w.heap[k]? = some (.cells #[a, b, c, d, e, f] T)) :
    w.cell? ⟨k, 0, none⟩ = some a ∧ w.cell? ⟨k, 1, none⟩ = some b ∧ w.cell? ⟨k, 2, none⟩ = some c ∧ w.cell? ⟨k, 3, none⟩ = some d ∧ w.cell? ⟨k, 4, none⟩ = some e ∧ w.cell? ⟨k, 5, none⟩ = some f ∧ (∀ j, w.frozen? ⟨k, j, none⟩ = false) ∧ k < w.heap.size :=
  ⟨cellOf h 0 rfl, cellOf h 1 rfl, cellOf h 2 rfl, cellOf h 3 rfl, cellOf h 4 rfl, cellOf h 5 rfl, fun j => frozOf h j, ltOf h⟩
theorem st_same6 {w : World} {k : Nat} {a b c d e f a' b' c' d' e' f' : Value} {T : TypeId} (h : w.heap[k]? = some (.cells #[a, b, c, d, e, f] T)) : ((((((w.setCell ⟨k, 0, none⟩ a').setCell ⟨k, 1, none⟩ b').setCell ⟨k, 2, none⟩ c').setCell ⟨k, 3, none⟩ d').setCell ⟨k, 4, none⟩ e').setCell ⟨k, 5, none⟩ f').heap[k]? = some (.cells #[a', b', c', d', e', f'] T) := by
  have h1 := heap_setCell_same w k 0 _ _ a' h
  have h2 := heap_setCell_same _ k 1 _ _ b' h1
  have h3 := heap_setCell_same _ k 2 _ _ c' h2
  have h4 := heap_setCell_same _ k 3 _ _ d' h3
  have h5 := heap_setCell_same _ k 4 _ _ e' h4
  have h6 := heap_setCell_same _ k 5 _ _ f' h5
  simpa using h6

def wc (b : Wnd) : Array Value := #[.int .i64 0, .int .i64 b.a, .int .i64 b.x0, .int .i64 b.y0, .int .i64 b.x1, .int .i64 b.y1]
/-- Where the looking from a corner stands. -/
structure FR (w wr : World) (KE KR KB x0 y0 W n : Nat) (b : Wnd) : Prop where
  f : wr.heap[w.heap.size]? = some (.cells #[.int .i64 x0, .int .i64 y0] 61)
  e : wr.heap[KE]? = some (.cells #[.int .i64 W, .int .i64 n] 61)
  r : wr.heap[KR]? = some (.cells #[.int .i64 0, .int .i64 0, .int .i64 0, .int .i64 0, .int .i64 0, .int .i64 0] 36)
  b : wr.heap[KB]? = some (.cells #[.int .i64 0, .int .i64 b.a, .int .i64 b.x0, .int .i64 b.y0, .int .i64 b.x1, .int .i64 b.y1] 36)
  bl : Below w.heap.size w wr
  o : w.heap.size < KE ∧ KE < KR ∧ KR < KB
theorem FR.next {w wr wr' : World} {KE KR KB x0 y0 W n : Nat} {b : Wnd} (h : FR w wr KE KR KB x0 y0 W n b) (hb : Below wr.heap.size wr wr') : FR w wr' KE KR KB x0 y0 W n b :=
  ⟨(hb.block _ (ltOf h.f)).trans h.f, (hb.block _ (ltOf h.e)).trans h.e, (hb.block _ (ltOf h.r)).trans h.r, (hb.block _ (ltOf h.b)).trans h.b, h.bl.trans (hb.mono h.bl.size), h.o⟩
theorem FR.put {w wr : World} {KE KR KB x0 y0 W n : Nat} {b : Wnd} (h : FR w wr KE KR KB x0 y0 W n b) (c : Wnd) : FR w ((((((wr.setCell ⟨KB, 0, none⟩ (.int .i64 0)).setCell ⟨KB, 1, none⟩ (.int .i64 c.a)).setCell ⟨KB, 2, none⟩ (.int .i64 c.x0)).setCell ⟨KB, 3, none⟩ (.int .i64 c.y0)).setCell ⟨KB, 4, none⟩ (.int .i64 c.x1)).setCell ⟨KB, 5, none⟩ (.int .i64 c.y1)) KE KR KB x0 y0 W n c := by
  have ho := h.o
  have o : ∀ k, k ≠ KB → ((((((wr.setCell ⟨KB, 0, none⟩ (.int .i64 0)).setCell ⟨KB, 1, none⟩ (.int .i64 c.a)).setCell ⟨KB, 2, none⟩ (.int .i64 c.x0)).setCell ⟨KB, 3, none⟩ (.int .i64 c.y0)).setCell ⟨KB, 4, none⟩ (.int .i64 c.x1)).setCell ⟨KB, 5, none⟩ (.int .i64 c.y1)).heap[k]? = wr.heap[k]? := fun k hk => by
    repeat rw [heap_setCell_other _ _ _ _ (show k ≠ _ from hk)]
  refine ⟨(o _ (by omega)).trans h.f, (o _ (by omega)).trans h.e, (o _ (by omega)).trans h.r, st_same6 h.b, ?_, h.o⟩
  have hb := h.bl
  have hk : w.heap.size ≤ KB := by omega
  (repeat' (first | (with_reducible exact Below.refl _ _) | (with_reducible assumption) | (with_reducible refine Below.setCell ?_ ?_ _) | (with_reducible refine Below.alloc ?_ ?_ _) | (with_reducible refine below_drewN ?_ _) | (with_reducible refine Below.drew ?_) | (with_reducible exact Nat.le_refl _) | omega | (simp; done) | (simp; omega)))

set_option maxRecDepth 10000 in
set_option maxHeartbeats 12800000 in
theorem impl_from {F : Nat} {r : Value} {n W : Nat} {P : Nat → Nat → Bool} {w : World} (x0 y0 : Nat) (hy : y0 < n) (hx : x0 < W) (hn : n ≤ 16) (hW : W ≤ 16) (hK : Kd F r n W P w) :
    Calls Try.prog 49 #[.agg #[.int .i64 x0, .int .i64 y0], .agg #[.int .i64 W, .int .i64 n], .func (.func F) #[r] #[]] w fun e w' => e = .returned (.agg #[.int .i64 0, .int .i64 (lfN P W y0 x0 (n - y0) wz).a, .int .i64 (lfN P W y0 x0 (n - y0) wz).x0, .int .i64 (lfN P W y0 x0 (n - y0) wz).y0, .int .i64 (lfN P W y0 x0 (n - y0) wz).x1, .int .i64 (lfN P W y0 x0 (n - y0) wz).y1]) ∧ Below w.heap.size w w' := by
  have HK : Hid (Kd F r n W P w) := hK
  obtain ⟨L, hL⟩ : ∃ L, L = lfN P W y0 x0 (n - y0) wz := ⟨_, rfl⟩
  rw [← hL]
  have HL : Hid (L = lfN P W y0 x0 (n - y0) wz) := hL
  clear hK hL
  obtain ⟨V, hV⟩ : ∃ V, V = (((w.alloc (.cells #[.int .i64 x0, .int .i64 y0] 61)).alloc (.cells #[.int .i64 W, .int .i64 n] 61)).alloc (.cells #[.int .i64 0, .int .i64 0, .int .i64 0, .int .i64 0, .int .i64 0, .int .i64 0] 36)).alloc (.cells #[.int .i64 0, .int .i64 0, .int .i64 0, .int .i64 0, .int .i64 0, .int .i64 0] 36) := ⟨_, rfl⟩
  obtain ⟨k0, k1, k2, k3, hb, hs⟩ := al4 hV
  go_enter Try.func49, Try.ntmps49
  go_upto_region 2 with fail
  rw [← hV]
  obtain ⟨KE, hKE⟩ : ∃ K, K = w.heap.size + 1 := ⟨_, rfl⟩
  rw [← hKE] at k1 k2 k3 ⊢
  obtain ⟨KR, hKR⟩ : ∃ K, K = KE + 1 := ⟨_, rfl⟩
  rw [← hKR] at k2 k3 ⊢
  obtain ⟨KB, hKB⟩ : ∃ K, K = KR + 1 := ⟨_, rfl⟩
  rw [← hKB] at k3 ⊢
  have HS : Hid (FR w V KE KR KB x0 y0 W n wz) := ⟨k0, k1, k2, k3, hb, by omega⟩
  clear hV hKE hKR hKB k0 k1 k2 k3 hb hs
  obtain ⟨p0, p1, pf0, pf1, pl⟩ := two_of HS.out.f
  obtain ⟨q0, q1, qf0, qf1, ql⟩ := two_of HS.out.e
  go_wp2
  clear p0 p1 pf0 pf1 pl q0 q1 qf0 qf1 ql
  go_loopw [8, 9] (fun R y wr => ∃ (m T : Nat), y0 ≤ m ∧ m ≤ n ∧ y = .int .i64 m ∧ R = .int .i64 T ∧ x0 ≤ T ∧ T ≤ W ∧ Hid (T = rgt P W y0 x0 (m - y0) ∧ FR w wr KE KR KB x0 y0 W n (lfN P W y0 x0 (m - y0) wz))) (fun _ y _ => n - (intOf y).toNat)
  case atStart => exact ⟨y0, W, Nat.le_refl _, by omega, rfl, rfl, by omega, Nat.le_refl _, by rw [Nat.sub_self]; exact ⟨rfl, HS.out⟩⟩
  case round =>
    clear HS
    obtain ⟨m, T, hm0, hm, rfl, rfl, hT0, hT1, hR⟩ := hrel
    by_cases hlt : m < n
    · obtain ⟨p0, p1, pf0, pf1, pl⟩ := two_of hR.out.2.f
      obtain ⟨q0, q1, qf0, qf1, ql⟩ := two_of hR.out.2.e
      obtain ⟨T', hT'⟩ : ∃ T', T' = goU (P m) x0 (T - x0) := ⟨_, rfl⟩
      have HC : Hid (Calls Try.prog 67 #[.agg #[.int .i64 x0, .int .i64 m], .int .i64 T, .func (.func F) #[r] #[]] wr fun e w' => e = .returned (.int .i64 T') ∧ Below wr.heap.size wr w') := by
        rw [hT']; exact impl_until x0 m T hlt hT0 hT1 hW (HK.out.below hR.out.2.bl)
      have hTb := goU_bd (P m) (T - x0) x0
      rw [← hT'] at hTb
      have hT2 : x0 ≤ T' ∧ T' ≤ W := by omega
      obtain ⟨b, hb⟩ : ∃ b, b = lfN P W y0 x0 (m - y0) wz := ⟨_, rfl⟩
      have HN : Hid (T' = rgt P W y0 x0 (m + 1 - y0) ∧ lfN P W y0 x0 (m + 1 - y0) wz = btr b ⟨((T' : Int) - x0) * ((m : Int) + 1 - y0), x0, y0, T', (m : Int) + 1⟩) := by
        have e1 : m + 1 - y0 = (m - y0) + 1 := by omega
        have e2 : T' = rgt P W y0 x0 ((m - y0) + 1) := by rw [rgt, ← hR.out.1, show y0 + (m - y0) = m by omega]; exact hT'
        refine ⟨by rw [e1]; exact e2, ?_⟩
        rw [e1, lfN, ← hb]
        congr 1
        unfold cnd
        rw [← e2]
        have e3 : ((m - y0 : Nat) : Int) = (m : Int) - y0 := by omega
        rw [e3]
        simp only [Wnd.mk.injEq, true_and]
        refine ⟨?_, ?_⟩
        · congr 1; omega
        · omega
      have HF : Hid (FR w wr KE KR KB x0 y0 W n b) := by rw [hb]; exact hR.out.2
      clear hR hb hT' hTb
      have b1 : (m : Int) < (n : Int) := by omega
      go_wp2_with (fail)
      refine HC.out.mono ?_
      rintro e w3 ⟨rfl, hb3⟩
      have HF3 : Hid (FR w w3 KE KR KB x0 y0 W n b) := HF.out.next hb3
      clear HF hb3 HC p0 p1 pf0 pf1 pl q0 q1 qf0 qf1 ql
      obtain ⟨p0, p1, pf0, pf1, pl⟩ := two_of HF3.out.f
      have hw1 : IntKind.i64.wrap ((m : Int) + 1) = (m : Int) + 1 := by rw [IntKind.wrap_i64]; omega
      obtain ⟨V3, hV3⟩ : ∃ V3, V3 = (w3.alloc (.cells #[.int .i64 x0, .int .i64 y0, .int .i64 T', .int .i64 ((m : Int) + 1)] 34)).alloc (.cells #[.int .i64 x0, .int .i64 y0, .int .i64 T', .int .i64 ((m : Int) + 1)] 34) := ⟨_, rfl⟩
      obtain ⟨a0, a1, ab, az⟩ := al2 hV3
      obtain ⟨A, hA⟩ : ∃ A, A = ((T' : Int) - x0) * ((m : Int) + 1 - y0) := ⟨_, rfl⟩
      have HC1 : Hid (Calls Try.prog 56 #[.slice (some ⟨w3.heap.size + 1, 0, none⟩) 1 1] V3 fun e w' => e = .returned (.int .i64 A) ∧ Below V3.heap.size V3 w') := by
        rw [hA]; exact impl_cells1 _ _ _ _ (by omega) (by omega) a1
      rw [← hA] at HN
      have H3 : Hid (V3.heap[w3.heap.size]? = some (.cells #[.int .i64 x0, .int .i64 y0, .int .i64 T', .int .i64 ((m : Int) + 1)] 34) ∧ FR w V3 KE KR KB x0 y0 W n b) := ⟨a0, HF3.out.next ab⟩
      clear a0 a1 ab az hA HF3
      go_wp2_with (fail)
      rw [← hV3]
      clear hV3 p0 p1 pf0 pf1 pl
      refine HC1.out.mono ?_
      rintro e w4 ⟨rfl, hb4⟩
      have H4 : Hid (w4.heap[w3.heap.size]? = some (.cells #[.int .i64 x0, .int .i64 y0, .int .i64 T', .int .i64 ((m : Int) + 1)] 34) ∧ FR w w4 KE KR KB x0 y0 W n b) := ⟨(hb4.block _ (ltOf H3.out.1)).trans H3.out.1, H3.out.2.next hb4⟩
      clear H3 hb4 HC1
      obtain ⟨c0, c1, c2, c3, cl⟩ := four_of H4.out.1
      obtain ⟨d0, d1, d2, d3, d4, d5, df, dl⟩ := six_of H4.out.2.b
      have f0 := df 0
      have f1 := df 1
      have f2 := df 2
      have f3 := df 3
      have f4 := df 4
      have f5 := df 5
      clear df
      by_cases hgt : b.a < A
      · have HP : Hid (FR w ((((((w4.setCell ⟨KB, 0, none⟩ (.int .i64 0)).setCell ⟨KB, 1, none⟩ (.int .i64 A)).setCell ⟨KB, 2, none⟩ (.int .i64 x0)).setCell ⟨KB, 3, none⟩ (.int .i64 y0)).setCell ⟨KB, 4, none⟩ (.int .i64 T')).setCell ⟨KB, 5, none⟩ (.int .i64 ((m : Int) + 1))) KE KR KB x0 y0 W n (lfN P W y0 x0 (m + 1 - y0) wz) ∧ T' = rgt P W y0 x0 (m + 1 - y0)) := by
          refine ⟨?_, HN.out.1⟩
          rw [HN.out.2, btr, if_pos hgt]
          exact H4.out.2.put ⟨A, x0, y0, T', (m : Int) + 1⟩
        clear H4 HN
        go_wp2
        go_roundw
        case rel => exact ⟨m + 1, T', by omega, by omega, by go_num, rfl, hT2.1, hT2.2, HP.out.2, HP.out.1⟩
        case measure => simp [intOf]; omega
      · have HP : Hid (FR w w4 KE KR KB x0 y0 W n (lfN P W y0 x0 (m + 1 - y0) wz) ∧ T' = rgt P W y0 x0 (m + 1 - y0)) := by
          refine ⟨?_, HN.out.1⟩
          rw [HN.out.2, btr, if_neg hgt]
          exact H4.out.2
        clear H4 HN
        go_wp2
        go_roundw
        case rel => exact ⟨m + 1, T', by omega, by omega, by go_num, rfl, hT2.1, hT2.2, HP.out.2, HP.out.1⟩
        case measure => simp [intOf]; omega
    · have HF : Hid (FR w wr KE KR KB x0 y0 W n L) := by rw [HL.out, show n - y0 = m - y0 by omega]; exact hR.out.2
      clear hR
      obtain ⟨q0, q1, qf0, qf1, ql⟩ := two_of HF.out.e
      obtain ⟨d0, d1, d2, d3, d4, d5, df, dl⟩ := six_of HF.out.b
      obtain ⟨r0, r1, r2, r3, r4, r5, rf, rl⟩ := six_of HF.out.r
      have f0 := rf 0
      have f1 := rf 1
      have f2 := rf 2
      have f3 := rf 3
      have f4 := rf 4
      have f5 := rf 5
      clear df rf
      go_wp2
      try simp only [Exit.inBlock, Exit.then]
      refine bodyPost_ret (by simp [results, Try.results49, go_sem, r0, r1, r2, r3, r4, r5, rl]; try rfl) rfl ⟨rfl, ?_⟩
      have hb := HF.out.bl
      have hk : w.heap.size ≤ KR := by have := HF.out.o; omega
      (repeat' (first | (with_reducible exact Below.refl _ _) | (with_reducible assumption) | (with_reducible refine Below.setCell ?_ ?_ _) | (with_reducible refine Below.alloc ?_ ?_ _) | (with_reducible refine below_drewN ?_ _) | (with_reducible refine Below.drew ?_) | (with_reducible exact Nat.le_refl _) | omega | (simp; done) | (simp; omega)))

end Go.Proofs.Ythmddnachancfaa
