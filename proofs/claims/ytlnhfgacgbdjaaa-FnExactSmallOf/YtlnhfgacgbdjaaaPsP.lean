/- Proved here: l4Parts of the model: of each box the number of its part; parts are numbered by their first boxes. -/
import Derived.Test.YtlnhfgacgbdjaaaPsI
namespace Go.Proofs.Ytlnhfgacgbdjaaa
open Go.RowKit
set_option linter.unusedVariables false
set_option linter.unusedSimpArgs false

theorem IS.setP {w : World} {B g n c : Nat} {xs : List Int} (h : IS w B (.slice (some ⟨g, 0, none⟩) n c) xs) (j : Nat) (y : Int) : IS (w.setCell ⟨g, j, none⟩ (.int .i64 y)) B (.slice (some ⟨g, 0, none⟩) n c) (xs.set j y) := by
  have hn : n = xs.length := by obtain ⟨_, _, e⟩ := h.form; injection e
  subst hn
  have := (World.ownsRow.stored h j (.int .i64 y)).1
  unfold IS
  rw [List.length_set, List.map_set]
  exact this
theorem IS.frozenP {w : World} {B g n c : Nat} {xs : List Int} (h : IS w B (.slice (some ⟨g, 0, none⟩) n c) xs) (j : Nat) : w.frozen? ⟨g, j, none⟩ = false := by
  have hn : n = xs.length := by obtain ⟨_, _, e⟩ := h.form; injection e
  subst hn
  exact World.ownsRow.frozenAt h j
theorem IS.notIN {w : World} {A B g n c : Nat} {v : Value} {xs : List Int} {td : List Nat} (h : IS w B (.slice (some ⟨g, 0, none⟩) n c) xs) (k : IN w A v td) : v.ownBlock ≠ some g := by
  intro e
  rcases k.2 with ⟨rfl, _⟩ | ⟨g', cap, cur, rfl, hB, hg, hr⟩
  · cases e
  · simp only [Value.ownBlock, Option.some.injEq] at e
    subst e
    rcases h.2 with ⟨h', _⟩ | ⟨g2, cap2, cur2, he, hB2, hg2, hr2⟩
    · cases h'
    · simp only [Value.slice.injEq, Option.some.injEq, Addr.mk.injEq, and_true] at he
      obtain ⟨rfl, _, _⟩ := he
      rw [hg] at hg2
      simp only [Option.some.injEq, Obj.cells.injEq] at hg2
      exact absurd hg2.2.1 (by decide)
theorem IN.lit1 (w : World) (B : Nat) (hB : B ≤ w.heap.size) (i : Nat) : IN (w.alloc (.cells #[.int .i64 (i : Int)] 3)) B (.slice (some ⟨w.heap.size, 0, none⟩) 1 1) [i] :=
  ⟨rfl, Or.inr ⟨w.heap.size, 1, #[.int .i64 (i : Int)], rfl, hB, heap_alloc_new w _, Nat.le_refl _, by unfold maxLen; omega, rfl, rfl⟩⟩
theorem IN.init {w : World} {B g n c q : Nat} {td : List Nat} (h : IN w B (.slice (some ⟨g, 0, none⟩) n c) (td ++ [q])) : IN w B (.slice (some ⟨g, 0, none⟩) td.length c) td ∧ td.length + 1 ≤ c := by
  rcases h.2 with ⟨h', _⟩ | ⟨g2, cap2, cur2, he, hB2, hg2, hc, hm, hs, ht⟩
  · cases h'
  · simp only [Value.slice.injEq, Option.some.injEq, Addr.mk.injEq, and_true] at he
    obtain ⟨rfl, _, rfl⟩ := he
    simp only [List.length_append, List.length_singleton] at hc ht
    refine ⟨⟨by simp, Or.inr ⟨g, c, cur2, rfl, hB2, hg2, by omega, hm, hs, ?_⟩⟩, hc⟩
    have h1 : cur2.toList.take (td.length * 1) = (cur2.toList.take ((td.length + 1) * 1)).take (td.length * 1) := by
      rw [List.take_take]; congr 1; omega
    rw [h1, ht, List.map_append]
    exact List.take_left' (by simp)
theorem IN.capN {w : World} {B g n c : Nat} {td : List Nat} (h : IN w B (.slice (some ⟨g, 0, none⟩) n c) td) : n ≤ c := by
  rcases h.2 with ⟨h', _⟩ | ⟨g2, cap2, cur2, he, hB2, hg2, hc, hm, hs, ht⟩
  · cases h'
  · simp only [Value.slice.injEq, Option.some.injEq, Addr.mk.injEq, and_true] at he
    obtain ⟨_, e, rfl⟩ := he
    omega
def lnV : Value → Nat
  | .slice _ n _ => n
  | _ => 0
def numC : Option Value → Int
  | some (.int _ z) => z
  | _ => 0
def negW (w : World) (g n : Nat) : Nat := negs (fun a => numC (w.cell? ⟨g, a, none⟩)) n
theorem negW_eq {w : World} {B g n c : Nat} {xs : List Int} (h : IS w B (.slice (some ⟨g, 0, none⟩) n c) xs) : negW w g n = negs (fun a => xs.getD a 0) n := by
  have hn : n = xs.length := by obtain ⟨_, _, e⟩ := h.form; injection e
  rcases Nat.eq_zero_or_pos n with h0 | hp
  · rw [h0]; rfl
  · obtain ⟨g', c', he, _, _, hj⟩ := h.pos (by omega)
    simp only [Value.slice.injEq, Option.some.injEq, Addr.mk.injEq, and_true] at he
    obtain ⟨rfl, _, _⟩ := he
    exact negs_congr fun a ha => by rw [hj a (by omega)]; rfl

theorem negs_le (f : Nat → Int) (n : Nat) : negs f n ≤ n := by
  induction n with
  | zero => exact Nat.le_refl _
  | succ n ih => simp only [negs]; split <;> omega
/-- The search, and the memory it stands in. -/
structure PQ (s : List Bx) (n : Nat) (F : Nat → Nat) (w wr : World) (vo vt : Value) (xs : List Int) (td : List Nat) (i k j : Nat) : Prop where
  o : IS wr w.heap.size vo xs
  t : IN wr w.heap.size vt td
  df : DF s n F i xs td k j
  bl : Below w.heap.size w wr
theorem PQ.next {s : List Bx} {n : Nat} {F : Nat → Nat} {w wr w' : World} {vo vt : Value} {xs : List Int} {td : List Nat} {i k j : Nat} (h : PQ s n F w wr vo vt xs td i k j) (hb : Below wr.heap.size wr w') : PQ s n F w w' vo vt xs td i k j :=
  ⟨h.o.below' hb, h.t.below hb, h.df, h.bl.trans (hb.mono h.bl.size)⟩
theorem PQ.tset {s : List Bx} {n : Nat} {F : Nat → Nat} {w wr : World} {g m c : Nat} {vt : Value} {xs : List Int} {td : List Nat} {i k j : Nat} (h : PQ s n F w wr (.slice (some ⟨g, 0, none⟩) m c) vt xs td i k j) (q : Nat) (y : Int) : IN (wr.setCell ⟨g, q, none⟩ (.int .i64 y)) w.heap.size vt td :=
  h.t.kept fun b hb => heap_setCell_other _ _ _ _ fun e => h.o.notIN h.t (by rw [hb]; exact congrArg some e)
theorem PQ.mark {s : List Bx} {n : Nat} {F : Nat → Nat} {w wr w5 : World} {g m c : Nat} {vt vt' : Value} {xs : List Int} {td : List Nat} {i k j : Nat} {ob : Obj} (h : PQ s n F w wr (.slice (some ⟨g, 0, none⟩) m c) vt xs td i k j) (hg : w.heap.size ≤ g) (hj : j < n) (hF : F j = i) (hx : xs.getD j 0 < 0)
    (ho : w5.ownsRow w.heap.size 3 1 vt' (td.length + 1) (td.map nv ++ [.int .i64 (j : Int)])) (hgr : ((wr.setCell ⟨g, j, none⟩ (.int .i64 ((cnt F i : Nat) : Int))).alloc ob).grownBy w5 vt.ownBlock) :
    PQ s n F w w5 (.slice (some ⟨g, 0, none⟩) m c) vt' (xs.set j (cnt F i : Nat)) (td ++ [j]) i k (j + 1) := by
  have hs := h.o.setP j ((cnt F i : Nat) : Int)
  have hgl : g < wr.heap.size := (World.ownsRow.lt h.o g rfl).2
  have hsz := h.bl.size
  refine ⟨hs.kept fun b hb => ?_, ?_, h.df.mark hj hF hx, ?_⟩
  · simp only [Value.ownBlock, Option.some.injEq] at hb
    subst hb
    rw [hgr.block g (by simp; omega) (fun e => h.o.notIN h.t e.symm)]
    exact Below.heap_alloc _ _ _ (by simpa using hgl)
  · unfold IN
    rw [List.map_append, List.length_append]
    exact ho
  · exact ((h.bl.setCell hg _).alloc (by simpa using hsz) ob).grown hgr (by simp; omega) (fun b hb => (World.ownsRow.lt h.t b hb).1)

set_option maxRecDepth 10000 in
set_option maxHeartbeats 8000000 in
theorem spec_l4Parts {w : World} {a : Option Addr} {n c : Nat} {s : List Bx} {F : Nat → Nat} (hn : n ≤ 150) (hr : Rise s) (hL : Lab (Tc s n 0) n F) (h : RB w (.slice a n c) s) :
    Calls Try.prog 38 #[.slice a n c] w fun e w' => ∃ v xs, e = .returned v ∧ IS w' w.heap.size v xs ∧ xs.length = n ∧ (∀ a, a < n → xs.getD a 0 = outA F n a) ∧ Below w.heap.size w w' := by
  have hlen : s.length = n := by obtain ⟨_, _, e⟩ := h.form; injection e with _ e2 _; exact e2.symm
  have H : Hid (RB w (.slice a n c) s ∧ Rise s ∧ Lab (Tc s n 0) n F ∧ n = s.length) := ⟨h, hr, hL, hlen.symm⟩
  clear h hr hL hlen
  obtain ⟨i0, hi, hz0, hz1, hz2⟩ := info_parts info_i64
  obtain ⟨j0, hj0, hy0, hy1, hy2⟩ := info_parts info_int
  go_enter Try.func38, Try.ntmps38
  go_wp2_with (fail)
  go_loopw [3, 4] (fun v i wr => ∃ k : Nat, k ≤ n ∧ i = .int .i64 k ∧ Hid (IS wr w.heap.size v (List.replicate k (-1)) ∧ Below w.heap.size w wr)) (fun _ i _ => n - (intOf i).toNat)
  case atStart => exact ⟨0, Nat.zero_le _, rfl, IS.lit0 _ _ (Nat.le_refl _), by (repeat' (first | (with_reducible exact Below.refl _ _) | (with_reducible assumption) | (with_reducible refine Below.setCell ?_ ?_ _) | (with_reducible refine Below.alloc ?_ ?_ _) | (with_reducible refine below_drewN ?_ _) | (with_reducible refine Below.drew ?_) | (with_reducible exact Nat.le_refl _) | omega | (simp; done) | (simp; omega)))⟩
  case round =>
    obtain ⟨k, hk, rfl, hR⟩ := hrel
    by_cases hlt : k < n
    · have HR : Hid _ := hR.out
      have hwsz := hR.out.2.size
      have hof := hR.out.1.form
      obtain ⟨fa, fc, rfl⟩ := hof
      rw [List.length_replicate] at HR ⊢
      clear hR
      have b1 : (k : Int) < (n : Int) := by omega
      go_wp2_with (at_builtin; refine wpList_append_own _ rfl _ _ 54 rfl w.heap.size 2 i0 (.int .i64 0) 1 8 Try.underlying54 hi hz0 hz1 hz2 rfl (by decide) _ _ _ rfl (World.ownsRow.alloc HR.out.1 _) ⟨wr.heap.size, 0, none⟩ 1 1 [.int .i64 (-1)] rfl rfl (World.news_of_block (cs := #[.int .i64 (-1)]) (t := 2) (fr := (0, 0)) (heap_alloc_new wr _)) (by simp [Value.oneCell']) (by unfold maxLen; simp; omega) (by simp; omega) (by simp; omega) ?_; intro v' w1 hown1 hgrow1 hnil1)
      have R : Hid (IS w1 w.heap.size v' (List.replicate (k + 1) (-1)) ∧ Below w.heap.size w w1) := by
        refine ⟨?_, (HR.out.2.alloc hwsz _).grown hgrow1 (by simp; omega) (fun b hb => (World.ownsRow.lt HR.out.1 b hb).1)⟩
        have := hown1
        unfold IS
        rw [List.replicate_succ', List.map_append, List.length_append]
        exact this
      clear hown1 hgrow1 hnil1 HR
      go_wp2
      go_roundw
      case rel => exact ⟨k + 1, by omega, by go_num, R.out⟩
      case measure => simp [intOf]; omega
    · have ek : n = k := by omega
      subst ek
      have hof := hR.out.1.form
      obtain ⟨fa, fc, rfl⟩ := hof
      rw [List.length_replicate] at hR ⊢
      obtain ⟨w1, hw1⟩ : ∃ w1, w1 = wr := ⟨_, rfl⟩
      rw [← hw1] at hR ⊢
      clear hw1
      have HR : Hid (IS w1 w.heap.size (.slice fa n fc) (List.replicate n (-1)) ∧ Below w.heap.size w w1) := hR
      clear hR hlt
      go_wp2_with (fail)
      go_loopw [5, 6] (fun vx i wr => ∃ (i' : Nat) (xs : List Int), i' ≤ n ∧ i = .int .i64 i' ∧ vx = .int .i64 ((cnt F i' : Nat) : Int) ∧ Hid (IS wr w.heap.size (.slice fa n fc) xs ∧ xs.length = n ∧ (∀ a, a < n → xs.getD a 0 = outA F i' a) ∧ Below w.heap.size w wr)) (fun _ i _ => n - (intOf i).toNat)
      case atStart =>
        refine ⟨0, _, Nat.zero_le _, rfl, rfl, HR.out.1, by simp, fun a ha => ?_, HR.out.2⟩
        simp [outA, ha]
      case round =>
        clear HR
        obtain ⟨i, xs, hin, rfl, rfl, hR⟩ := hrel
        obtain ⟨w2, hw2⟩ : ∃ w2, w2 = wr := ⟨_, rfl⟩
        rw [← hw2] at hR ⊢
        clear hw2
        have hci := cnt_le F i
        by_cases hlt : i < n
        · obtain ⟨g, gc, he, hgB, hgl, hj⟩ := hR.out.1.pos (by rw [hR.out.2.1]; omega)
          simp only [Value.slice.injEq] at he
          obtain ⟨rfl, hx1, hx2⟩ := he
          clear hx1 hx2
          have x0 := hj i (by rw [hR.out.2.1]; exact hlt)
          rw [hR.out.2.2.1 i hlt] at x0
          have b0 : (0 : Int) ≤ (i : Int) := by omega
          have b1 : (i : Int) < (n : Int) := by omega
          have hle := H.out.2.2.1.le i hlt
          by_cases hF : F i = i
          · have ex : outA F i i = -1 := by unfold outA; rw [if_neg (by omega)]
            rw [ex] at x0
            have f0 := hR.out.1.frozenP i
            have hwsz := hR.out.2.2.2.size
            have hPQ : Hid (PQ s n F w ((w2.setCell ⟨g, i, none⟩ (.int .i64 ((cnt F i : Nat) : Int))).alloc (.cells #[.int .i64 (i : Int)] 3)) (.slice (some ⟨g, 0, none⟩) n fc) (.slice (some ⟨w2.heap.size, 0, none⟩) 1 1) (xs.set i (cnt F i : Nat)) [i] i n n) := by
              have h1 := hR.out.1.setP i ((cnt F i : Nat) : Int)
              have h2 := hR.out.2.2.2.setCell (p := ⟨g, i, none⟩) hgB (.int .i64 ((cnt F i : Nat) : Int))
              refine ⟨h1.below' ((Below.refl _ _).alloc (Nat.le_refl _) _), ?_, DF.start hR.out.2.1 hlt hF hR.out.2.2.1, h2.alloc (by simpa using hwsz) _⟩
              have := IN.lit1 (w2.setCell ⟨g, i, none⟩ (.int .i64 ((cnt F i : Nat) : Int))) w.heap.size (by simpa using hwsz) i
              simpa using this
            clear hj hR
            go_wp2_with (fail)
            go_loopw [7] (fun vt wr => ∃ (ys : List Int) (td : List Nat) (k : Nat), Hid (PQ s n F w wr (.slice (some ⟨g, 0, none⟩) n fc) vt ys td i k n ∧ (∃ gt ct, vt = .slice (some ⟨gt, 0, none⟩) td.length ct) ∧ td.length + 2 * negs (fun a => ys.getD a 0) n ≤ 301)) (fun vt wr => lnV vt + 2 * negW wr g n)
            case atStart => exact ⟨_, _, _, hPQ.out, ⟨_, _, rfl⟩, by have := negs_le (fun a => (xs.set i (cnt F i : Nat)).getD a 0) n; simp only [List.length_singleton]; omega⟩
            case round =>
              clear hPQ x0 f0
              obtain ⟨ys, td, k, hI⟩ := hrel
              obtain ⟨hI, ⟨gt, ct, rfl⟩, hbd⟩ := hI.out
              obtain ⟨w3, hw3⟩ : ∃ w3, w3 = wr := ⟨_, rfl⟩
              rw [← hw3] at hI ⊢
              clear hw3
              rcases List.eq_nil_or_concat td with rfl | ⟨tq, q, rfl⟩
              · have hout := DF.done H.out.2.2.2 H.out.2.1 H.out.2.2.1 hlt hF hI.df
                have HO : Hid (IS w3 w.heap.size (.slice (some ⟨g, 0, none⟩) n fc) ys ∧ ys.length = n ∧ (∀ a, a < n → ys.getD a 0 = outA F (i + 1) a) ∧ Below w.heap.size w w3) := ⟨hI.o, hI.df.ln, hout, hI.bl⟩
                have ec : cnt F (i + 1) = cnt F i + 1 := by simp [cnt, hF]
                clear hI hout
                simp only [List.length_nil]
                go_wp2
                go_roundw
                case rel => exact ⟨i + 1, ys, by omega, by go_num, by rw [ec]; go_num, HO.out⟩
                case measure => simp [intOf]; omega
              · rw [List.concat_eq_append] at hI hbd ⊢
                obtain ⟨hdf, hq, hFq⟩ := hI.df.pop
                obtain ⟨hin2, hcap⟩ := hI.t.init
                obtain ⟨gt', ct', het, _, hgtl, hjt⟩ := hI.t.pos (by simp)
                simp only [Value.slice.injEq, Option.some.injEq, Addr.mk.injEq, and_true] at het
                obtain ⟨rfl, hx1, hx2⟩ := het
                clear hx1 hx2
                have t0 := hjt tq.length (by simp)
                rw [show (tq ++ [q]).getD tq.length 0 = q by simp [List.getD_eq_getElem?_getD]] at t0
                have el : (tq ++ [q]).length = tq.length + 1 := by simp
                rw [el] at hbd ⊢
                obtain ⟨m, hm⟩ : ∃ m, m = tq.length := ⟨_, rfl⟩
                have HP : Hid (PQ s n F w w3 (.slice (some ⟨g, 0, none⟩) n fc) (.slice (some ⟨gt, 0, none⟩) m ct) ys tq i q 0 ∧ m = tq.length) := ⟨⟨hI.o, by rw [hm]; exact hin2, hdf, hI.bl⟩, hm⟩
                have HW3 : Hid (negW w3 g n = negs (fun a => ys.getD a 0) n) := negW_eq hI.o
                rw [← hm] at hbd hcap t0 ⊢
                clear hI hdf hin2 hjt hm el
                obtain ⟨N0, hN0⟩ : ∃ N0, N0 = negs (fun a => ys.getD a 0) n := ⟨_, rfl⟩
                rw [← hN0] at hbd HW3
                have HN0 : Hid (N0 = negs (fun a => ys.getD a 0) n) := hN0
                clear hN0
                have e0 : (0 : Int) ≤ (m : Int) := by omega
                have e1 : (m : Int) < (m : Int) + 1 := by omega
                have e2 : (m : Int) ≤ (ct : Int) := by omega
                have e3 : (0 : Int) < (m : Int) + 1 := by omega
                go_wp2_with (fail)
                go_loopw [7, 9] (fun vt vj wr => ∃ (j : Nat) (zs : List Int) (td : List Nat), j ≤ n ∧ vj = .int .i64 j ∧ Hid (PQ s n F w wr (.slice (some ⟨g, 0, none⟩) n fc) vt zs td i q j ∧ (∃ gt ct, vt = .slice (some ⟨gt, 0, none⟩) td.length ct) ∧ td.length + 2 * negs (fun a => zs.getD a 0) n ≤ m + 2 * N0)) (fun _ vj _ => n - (intOf vj).toNat)
                case atStart => exact ⟨0, ys, tq, Nat.zero_le _, rfl, HP.out.1, ⟨gt, ct, by rw [HP.out.2]⟩, by rw [HP.out.2, HN0.out]; exact Nat.le_refl _⟩
                case round =>
                  clear HP HN0 t0
                  obtain ⟨j, zs, td, hjn, rfl, hJ⟩ := hrel
                  obtain ⟨hJ, ⟨gu, cu, rfl⟩, hbj⟩ := hJ.out
                  obtain ⟨w4, hw4⟩ : ∃ w4, w4 = wr := ⟨_, rfl⟩
                  rw [← hw4] at hJ ⊢
                  clear hw4
                  have hw4sz := hJ.bl.size
                  by_cases hltj : j < n
                  · obtain ⟨g', gc', he, _, hgl4, hj⟩ := hJ.o.pos (by rw [hJ.df.ln]; omega)
                    simp only [Value.slice.injEq, Option.some.injEq, Addr.mk.injEq, and_true] at he
                    obtain ⟨rfl, hx1, hx2⟩ := he
                    clear hx1 hx2
                    have z0 := hj j (by rw [hJ.df.ln]; exact hltj)
                    obtain ⟨z, hz⟩ : ∃ z, z = zs.getD j 0 := ⟨_, rfl⟩
                    rw [← hz] at z0
                    have d0 : (0 : Int) ≤ (j : Int) := by omega
                    have d1 : (j : Int) < (n : Int) := by omega
                    have d2 : (0 : Int) ≤ (q : Int) := by omega
                    have d3 : (q : Int) < (n : Int) := by omega
                    by_cases hneg : z < 0
                    · obtain ⟨ga, oa, ca, he, hga, hja⟩ := (H.out.1.below hJ.bl).pos (by rw [← H.out.2.2.2]; omega)
                      simp only [Value.slice.injEq] at he
                      obtain ⟨rfl, hx1, hx2⟩ := he
                      clear hx1 hx2
                      obtain ⟨p0, p1, p2, p3⟩ := hja q (by rw [← H.out.2.2.2]; exact hq)
                      obtain ⟨r0, r1, r2, r3⟩ := hja j (by rw [← H.out.2.2.2]; exact hltj)
                      have HBE : Hid (besB (bat s q) (bat s j) = true ↔ Bes s q j) := besB_bes s q j
                      obtain ⟨bq, hbq⟩ : ∃ b, b = bat s q := ⟨_, rfl⟩
                      obtain ⟨bj, hbjj⟩ : ∃ b, b = bat s j := ⟨_, rfl⟩
                      rw [← hbq] at p0 p1 p2 p3 HBE
                      rw [← hbjj] at r0 r1 r2 r3 HBE
                      obtain ⟨y, hy⟩ : ∃ y, y = besB bq bj := ⟨_, rfl⟩
                      rw [← hy] at HBE
                      have HC : Hid (∀ W, Calls Try.prog 48 #[.agg #[.int .i64 bq.x0, .int .i64 bq.y0, .int .i64 bq.x1, .int .i64 bq.y1], .agg #[.int .i64 bj.x0, .int .i64 bj.y0, .int .i64 bj.x1, .int .i64 bj.y1]] W fun e w' => e = .returned (.bool y) ∧ Below W.heap.size W w') := fun W => by rw [hy]; exact spec_beside bq bj W
                      have HZ : Hid (z = zs.getD j 0) := hz
                      have HJ : Hid _ := hJ
                      clear hbq hbjj hy hz hj hja hJ
                      go_wp2_with (fail)
                      (refine wp_region_und (by kernel_rfl) (by kernel_rfl) (fun hund => ?_); (repeat (go_big_quiet_step (first | (go_at_call 48; with_reducible refine und_call ?_ (HC.out _); exact Nat.le_refl _)))); with_reducible refine wpQuiet_nil ?_; clear hund; intro W1 hb1; obtain ⟨hc1, hf1⟩ := bcell hb1)
                      have HJ1 : Hid _ := HJ.out.next hb1
                      have hw1sz := HJ1.out.bl.size
                      have f1 := HJ1.out.o.frozenP j
                      have c1 : W1.cell? ⟨g, j, none⟩ = some (.int .i64 z) := by rw [hc1 g j hgl4]; exact z0
                      have hgl1 : g < W1.heap.size := Nat.lt_of_lt_of_le hgl4 hb1.size
                      clear hb1 hc1 hf1 p0 p1 p2 p3 r0 r1 r2 r3 z0 HJ HC
                      cases y with
                      | true =>
                        have hB : Bes s q j := HBE.out.1 rfl
                        have hFj : F j = i := by rw [DF.join H.out.2.2.2 H.out.2.1 H.out.2.2.1 hq hltj hB, hFq]
                        have hmk := negs_mark (xs := zs) (j := j) (z := ((cnt F i : Nat) : Int)) (by rw [HJ1.out.df.ln]; exact hltj) (by rw [← HZ.out]; exact hneg) (by omega) n
                        rw [if_pos hltj] at hmk
                        go_wp2_with (at_builtin; refine wpList_append_own _ rfl _ _ 57 rfl w.heap.size 3 j0 (.int .i64 0) 1 8 Try.underlying57 hj0 hy0 hy1 hy2 rfl (by decide) _ _ _ rfl (World.ownsRow.alloc (HJ1.out.tset j ((cnt F i : Nat) : Int)) _) ⟨W1.heap.size, 0, none⟩ 1 1 [.int .i64 (j : Int)] rfl rfl (World.news_of_block (cs := #[.int .i64 (j : Int)]) (t := 3) (fr := (0, 0)) (by have := heap_alloc_new (W1.setCell ⟨g, j, none⟩ (.int .i64 ((cnt F i : Nat) : Int))) (.cells #[.int .i64 (j : Int)] 3); simpa using this)) (by simp [Value.oneCell']) (by unfold maxLen; omega) (by omega) (by simp; omega) ?_; intro v' w5 hown5 hgrow5 hnil5)
                        have hP5 := HJ1.out.mark hgB hltj hFj (by rw [← HZ.out]; exact hneg) hown5 hgrow5
                        obtain ⟨g5, c5, hv5, _⟩ := hP5.t.pos (by simp)
                        have R : Hid _ := And.intro hP5 (And.intro (⟨g5, c5, hv5⟩ : ∃ gt ct, v' = .slice (some ⟨gt, 0, none⟩) (td ++ [j]).length ct) (show (td ++ [j]).length + 2 * negs (fun a => (zs.set j ((cnt F i : Nat) : Int)).getD a 0) n ≤ m + 2 * N0 by simp only [List.length_append, List.length_singleton]; omega))
                        clear hown5 hgrow5 hnil5 hP5 hv5 HJ1 HBE HZ
                        go_wp2
                        go_roundw
                        case rel => exact ⟨j + 1, _, _, by omega, by go_num, R.out⟩
                        case measure => simp [intOf]; omega
                      | false =>
                        have R : Hid (PQ s n F w W1 (.slice (some ⟨g, 0, none⟩) n fc) (.slice (some ⟨gu, 0, none⟩) td.length cu) zs td i q (j + 1)) := ⟨HJ1.out.o, HJ1.out.t, HJ1.out.df.same (fun e => by have := HBE.out.2 e.2; cases this), HJ1.out.bl⟩
                        clear HJ1 HBE HZ
                        go_wp2
                        go_roundw
                        case rel => exact ⟨j + 1, zs, td, by omega, by go_num, R.out, ⟨gu, cu, rfl⟩, hbj⟩
                        case measure => simp [intOf]; omega
                    · have dz : decide (z < 0) = false := decide_eq_false hneg
                      have HJ : Hid (∀ W, Below w4.heap.size w4 W → PQ s n F w W (.slice (some ⟨g, 0, none⟩) n fc) (.slice (some ⟨gu, 0, none⟩) td.length cu) zs td i q (j + 1)) := fun W hW =>
                        PQ.next ⟨hJ.o, hJ.t, hJ.df.same (fun e => by rw [← hz] at e; exact hneg e.1), hJ.bl⟩ hW
                      clear hj hz hJ
                      go_wp2_with (fail)
                      go_quiet (fail)
                      go_wp2
                      go_roundw
                      case rel => exact ⟨j + 1, zs, td, by omega, by go_num, HJ.out _ (below_drewN (Below.refl _ _) _), ⟨gu, cu, rfl⟩, hbj⟩
                      case measure => simp [intOf]; omega
                  · have ej : n = j := by omega
                    subst ej
                    have HJ : Hid _ := hJ
                    have HW4 : Hid (negW w4 g n = negs (fun a => zs.getD a 0) n) := negW_eq hJ.o
                    clear hJ
                    go_wp2
                    go_roundw
                    case rel => exact ⟨zs, td, q, HJ.out, ⟨gu, cu, rfl⟩, by omega⟩
                    case measure => simp [lnV]; rw [HW3.out, HW4.out]; omega
          · have hlt2 : F i < i := by omega
            have ex : outA F i i = ((cnt F (F i) : Nat) : Int) := by unfold outA; rw [if_pos hlt2]
            rw [ex] at x0
            have ec : cnt F (i + 1) = cnt F i := by simp [cnt, hF]
            have hcf := cnt_le F (F i)
            have HO : Hid (IS w2 w.heap.size (.slice (some ⟨g, 0, none⟩) n fc) xs ∧ xs.length = n ∧ (∀ a, a < n → xs.getD a 0 = outA F (i + 1) a) ∧ Below w.heap.size w w2) := ⟨hR.out.1, hR.out.2.1, fun a ha => by rw [outA_skip H.out.2.2.1 hF ha]; exact hR.out.2.2.1 a ha, hR.out.2.2.2⟩
            clear hj hR
            go_wp2
            go_roundw
            case rel => exact ⟨i + 1, xs, by omega, by go_num, by rw [ec], HO.out⟩
            case measure => simp [intOf]; omega
        · have ei : n = i := by omega
          subst ei
          have HO : Hid _ := hR.out
          clear hR
          go_wp2
          go_returns
          exact ⟨_, xs, rfl, HO.out.1, HO.out.2.1, HO.out.2.2.1, HO.out.2.2.2⟩

end Go.Proofs.Ytlnhfgacgbdjaaa
