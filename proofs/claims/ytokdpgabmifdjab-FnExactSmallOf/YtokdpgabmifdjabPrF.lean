/- Proved here: partFirsts of the program: labels of the boxes: a label is the place of its part's first box. -/
import Derived.Test.YtokdpgabmifdjabPrI
import Derived.Test.YtokdpgabmifdjabRim
import Derived.StillTailTactics
namespace Go.Proofs.Ytokdpgabmifdjab
open Go.RowKit
set_option linter.unusedVariables false
set_option linter.unusedSimpArgs false

/-- Pairs that have been looked at, and touch. -/
def Tc1 (s : List Bx) (i j x y : Nat) : Prop := x < y ∧ (y < i ∨ y = i ∧ x < j) ∧ 0 < fB (bat s x) (bat s y)
def Tc (s : List Bx) (i j x y : Nat) : Prop := Tc1 s i j x y ∨ Tc1 s i j y x
theorem Tc_sym (s : List Bx) (i j : Nat) : ∀ x y, Tc s i j x y → Tc s i j y x := fun x y h => h.symm
theorem Tc_top (s : List Bx) (k : Nat) : ∀ x, ¬ Tc s k 0 x k := by
  intro x h
  rcases h with ⟨h1, h2, _⟩ | ⟨h1, h2, _⟩ <;> omega
theorem Tc1_no (s : List Bx) (k j : Nat) (h : ¬ 0 < fB (bat s j) (bat s k)) (x y : Nat) : Tc1 s k j x y ↔ Tc1 s k (j + 1) x y := by
  constructor
  · rintro ⟨h1, h2, h3⟩; exact ⟨h1, by omega, h3⟩
  · rintro ⟨h1, h2, h3⟩
    refine ⟨h1, ?_, h3⟩
    by_cases e : x = j ∧ y = k
    · obtain ⟨rfl, rfl⟩ := e; exact absurd h3 h
    · omega
theorem Tc_no {s : List Bx} {k j : Nat} (h : ¬ 0 < fB (bat s j) (bat s k)) (x y : Nat) : Tc s k j x y ↔ Tc s k (j + 1) x y := or_congr (Tc1_no s k j h x y) (Tc1_no s k j h y x)
theorem Tc_yes {s : List Bx} {k j : Nat} (hj : j < k) (h : 0 < fB (bat s j) (bat s k)) (x y : Nat) : more (Tc s k j) j k x y ↔ Tc s k (j + 1) x y := by
  constructor
  · rintro (h1 | ⟨rfl, rfl⟩ | ⟨rfl, rfl⟩)
    · rcases h1 with ⟨h1, h2, h3⟩ | ⟨h1, h2, h3⟩
      · exact Or.inl ⟨h1, by omega, h3⟩
      · exact Or.inr ⟨h1, by omega, h3⟩
    · exact Or.inl ⟨hj, by omega, h⟩
    · exact Or.inr ⟨hj, by omega, h⟩
  · rintro (⟨h1, h2, h3⟩ | ⟨h1, h2, h3⟩)
    · by_cases e : x = j ∧ y = k
      · exact Or.inr (Or.inl e)
      · exact Or.inl (Or.inl ⟨h1, by omega, h3⟩)
    · by_cases e : y = j ∧ x = k
      · exact Or.inr (Or.inr ⟨e.2, e.1⟩)
      · exact Or.inl (Or.inr ⟨h1, by omega, h3⟩)
theorem Tc_end (s : List Bx) (k : Nat) (x y : Nat) : Tc s k k x y ↔ Tc s (k + 1) 0 x y := by
  unfold Tc Tc1
  constructor
  · rintro (⟨h1, h2, h3⟩ | ⟨h1, h2, h3⟩)
    · exact Or.inl ⟨h1, by omega, h3⟩
    · exact Or.inr ⟨h1, by omega, h3⟩
  · rintro (⟨h1, h2, h3⟩ | ⟨h1, h2, h3⟩)
    · exact Or.inl ⟨h1, by omega, h3⟩
    · exact Or.inr ⟨h1, by omega, h3⟩
/-- The labels of the first boxes, in a list of the call's own. -/
structure PF (s : List Bx) (w wr : World) (v : Value) (xs : List Nat) (i j m : Nat) : Prop where
  o : IN wr w.heap.size v xs
  ln : xs.length = m
  lab : Lab (Tc s i j) m (fun a => xs.getD a 0)
  bl : Below w.heap.size w wr
theorem PF.next {s : List Bx} {w wr w' : World} {v : Value} {xs : List Nat} {i j m : Nat} (h : PF s w wr v xs i j m) (hb : Below wr.heap.size wr w') : PF s w w' v xs i j m := ⟨h.o.below hb, h.ln, h.lab, h.bl.trans (hb.mono h.bl.size)⟩
theorem PF.to {s : List Bx} {w wr : World} {v : Value} {xs : List Nat} {i j i' j' m : Nat} (h : PF s w wr v xs i j m) (he : ∀ x y, Tc s i j x y ↔ Tc s i' j' x y) : PF s w wr v xs i' j' m := ⟨h.o, h.ln, h.lab.congr he fun _ _ => rfl, h.bl⟩
theorem PF.le {s : List Bx} {w wr : World} {v : Value} {xs : List Nat} {i j m : Nat} (h : PF s w wr v xs i j m) {a : Nat} (ha : a < m) : xs.getD a 0 ≤ a := h.lab.le a ha
theorem PF.push {s : List Bx} {w wr w1 : World} {v v' : Value} {xs : List Nat} {k : Nat} {o1 o2 : Obj} (h : PF s w wr v xs k 0 k) (ho : w1.ownsRow w.heap.size 3 1 v' (xs.length + 1) (xs.map nv ++ [.int .i64 (k : Int)])) (hg : ((wr.alloc o1).alloc o2).grownBy w1 v.ownBlock) : PF s w w1 v' (xs ++ [k]) k 0 (k + 1) := by
  have hsz := h.bl.size
  refine ⟨?_, by simp [h.ln], ?_, ((h.bl.alloc hsz o1).alloc (by simp; omega) o2).grown hg (by simp; omega) (fun k hk => (World.ownsRow.lt h.o k hk).1)⟩
  · unfold IN
    rw [List.map_append, List.length_append]
    exact ho
  · refine (Lab.put (Tc_sym s k 0) (Tc_top s k) h.lab).congr (fun _ _ => Iff.rfl) fun a ha => ?_
    have hl := h.ln
    by_cases e : a = k
    · rw [if_pos e, e, List.getD_eq_getElem?_getD, List.getElem?_append_right (by omega)]
      simp [hl]
    · rw [if_neg e, List.getD_eq_getElem?_getD, List.getD_eq_getElem?_getD, List.getElem?_append_left (by omega)]
theorem PF.join {s : List Bx} {w wr w1 : World} {g n c : Nat} {xs : List Nat} {k j : Nat} (hj : j < k) (hf : 0 < fB (bat s j) (bat s k)) (hg : w.heap.size ≤ g) (h : PF s w wr (.slice (some ⟨g, 0, none⟩) n c) xs k j (k + 1)) (ho : IN w1 w.heap.size (.slice (some ⟨g, 0, none⟩) n c) (xs.map (jn (xs.getD j 0) (xs.getD k 0)))) (hb : Below w.heap.size wr w1) : PF s w w1 (.slice (some ⟨g, 0, none⟩) n c) (xs.map (jn (xs.getD j 0) (xs.getD k 0))) k (j + 1) (k + 1) := by
  refine ⟨ho, by simp [h.ln], ?_, h.bl.trans hb⟩
  refine (Lab.join (Tc_sym s k j) (u := j) (v := k) (by omega) (by omega) h.lab).congr (Tc_yes hj hf) fun a ha => ?_
  have hl := h.ln
  have hal : a < xs.length := by omega
  simp only [joinF]
  rw [List.getD_eq_getElem?_getD (l := xs.map _), List.getElem?_map, List.getElem?_eq_getElem hal]
  simp [jn, hal]

theorem two_newP (w : World) (a b : Obj) : ((w.alloc a).alloc b).heap[w.heap.size]? = some a ∧ ((w.alloc a).alloc b).heap[w.heap.size + 1]? = some b :=
  ⟨(Below.heap_alloc _ _ _ (by simp)).trans (heap_alloc_new w a), by have := heap_alloc_new (w.alloc a) b; simpa using this⟩
theorem box_atP {w : World} {k : Nat} {b : Bx} (h : w.heap[k]? = some (.cells #[.int .i64 b.x0, .int .i64 b.y0, .int .i64 b.x1, .int .i64 b.y1] 49)) :
    w.cell? ⟨k, 0, none⟩ = some (.int .i64 b.x0) ∧ w.cell? ⟨k, 1, none⟩ = some (.int .i64 b.y0) ∧ w.cell? ⟨k, 2, none⟩ = some (.int .i64 b.x1) ∧ w.cell? ⟨k, 3, none⟩ = some (.int .i64 b.y1) ∧ k < w.heap.size := by
  refine ⟨by simp [World.cell?, h], by simp [World.cell?, h], by simp [World.cell?, h], by simp [World.cell?, h], ?_⟩
  rcases Nat.lt_or_ge k w.heap.size with h' | h'
  · exact h'
  · rw [Array.getElem?_eq_none h'] at h; cases h
/-- The list's block is no box's. -/
theorem IN.noBox {w : World} {B g n c m : Nat} {xs : List Nat} {cs : Array Value} (h : IN w B (.slice (some ⟨g, 0, none⟩) n c) xs) (hm : w.heap[m]? = some (.cells cs 49)) : m ≠ g := by
  rintro rfl
  rcases h.2 with ⟨h', _⟩ | ⟨g', cap, cur, he, hB, hg, hr⟩
  · cases h'
  · simp only [Value.slice.injEq, Option.some.injEq, Addr.mk.injEq, and_true] at he
    obtain ⟨rfl, _, _⟩ := he
    rw [hg] at hm
    simp only [Option.some.injEq, Obj.cells.injEq] at hm
    exact absurd hm.2.1 (by decide)

set_option maxRecDepth 10000 in
set_option maxHeartbeats 4000000 in
theorem impl_pf {w : World} {a : Option Addr} {n c : Nat} {s : List Bx} (hn : n ≤ 150) (hc : n ≤ c) (hG : Good s) (h : RB w (.slice a n c) s) :
    Calls Try.prog 73 #[.slice a n c] w fun e w' => ∃ v xs, e = .returned v ∧ PF s w w' v xs n 0 n := by
  have hlen : s.length = n := by obtain ⟨_, _, e⟩ := h.form; injection e with _ e2 _; exact e2.symm
  have H : Hid (RB w (.slice a n c) s ∧ Good s) := ⟨h, hG⟩
  have HN : Hid (n = s.length) := hlen.symm
  clear h hG hlen
  obtain ⟨i0, hi, hz0, hz1, hz2⟩ := info_parts info_int
  go_enter Try.func73, Try.ntmps73
  go_wp2_with (at_make; refine wpList_make_own _ rfl _ _ 78 rfl w.heap.size 3 i0 (.int .i64 0) 1 Try.underlying78 hi hz0 hz1 _ _ _ n rfl rfl rfl (by rw [hz2]; omega) (by unfold maxLen; omega) (by omega) ?_; intro w2 hown2 hgrow2)
  have M2 : Hid (PF s w w2 (.slice (some ⟨w.heap.size, 0, none⟩) 0 n) [] 0 0 0) := by
    have hb := (Below.refl w.heap.size w).grown hgrow2 (Nat.le_refl _) (fun k h => by cases h)
    exact ⟨hown2, rfl, Lab.empty _ _, hb⟩
  clear hown2 hgrow2
  go_loopw [3, 13] (fun v i wr => ∃ (k : Nat) (xs : List Nat), k ≤ n ∧ i = .int .i64 k ∧ Hid (PF s w wr v xs k 0 k)) (fun _ i _ => n - (intOf i).toNat)
  case atStart => exact ⟨0, [], Nat.zero_le _, rfl, M2.out⟩
  case round =>
    clear M2
    obtain ⟨k, xs, hk, rfl, hR⟩ := hrel
    by_cases hlt : k < n
    · have hkl : k < s.length := by rw [← HN.out]; exact hlt
      have HRB : Hid (RB wr (.slice a n c) s) := H.out.1.below hR.out.bl
      obtain ⟨g, o, c2, he, hg, hj⟩ := HRB.out.pos (by rw [← HN.out]; omega)
      simp only [Value.slice.injEq] at he
      obtain ⟨rfl, hx1, hx2⟩ := he
      clear hx1 hx2
      obtain ⟨c0, c1, c2, c3⟩ := hj k hkl
      obtain ⟨b, hb⟩ : ∃ b, b = bat s k := ⟨_, rfl⟩
      rw [← hb] at c0 c1 c2 c3
      have hgb := H.out.2.at hkl hb
      have HBK : Hid (b = bat s k) := hb
      have hxl : xs.length = k := hR.out.ln
      have HR : Hid _ := hR.out
      have hwsz := hR.out.bl.size
      clear hb hj hR
      have b0 : (0 : Int) ≤ (k : Int) := by omega
      have b1 : (k : Int) < (n : Int) := by omega
      go_wp2_with (at_builtin; refine wpList_append_own _ rfl _ _ 78 rfl w.heap.size 3 i0 (.int .i64 0) 1 8 Try.underlying78 hi hz0 hz1 hz2 rfl (by decide) _ _ _ rfl (World.ownsRow.alloc (World.ownsRow.alloc HR.out.o _) _) ⟨wr.heap.size + 1, 0, none⟩ 1 1 [.int .i64 (k : Int)] rfl rfl (World.news_of_block (cs := #[.int .i64 (k : Int)]) (t := 3) (fr := (0, 0)) (by have := heap_alloc_new (wr.alloc (.cells #[.int .i64 b.x0, .int .i64 b.y0, .int .i64 b.x1, .int .i64 b.y1] 49)) (.cells #[.int .i64 (k : Int)] 3); simpa using this)) (by simp [Value.oneCell']) (by unfold maxLen; omega) (by omega) (by simp; omega) ?_; intro v' w1 hown1 hgrow1 hnil1)
      have hP1 := HR.out.push hown1 hgrow1
      have hB5 : w1.heap[wr.heap.size]? = some (.cells #[.int .i64 b.x0, .int .i64 b.y0, .int .i64 b.x1, .int .i64 b.y1] 49) := by
        have h1 := hgrow1.block wr.heap.size (by simp; omega) (fun e => by have := (World.ownsRow.lt HR.out.o _ e.symm).2; omega)
        rw [h1]
        exact (two_newP wr _ _).1
      obtain ⟨g1, q1, hv1, hB1, hlt1, _⟩ := hP1.o.pos (by simp)
      have hxs1 : (xs ++ [k]).length = k + 1 := hP1.ln
      rw [hxs1] at hv1
      subst hv1
      have HI : Hid (PF s w w1 (.slice (some ⟨g1, 0, none⟩) (k + 1) q1) (xs ++ [k]) k 0 (k + 1) ∧ w1.heap[wr.heap.size]? = some (.cells #[.int .i64 b.x0, .int .i64 b.y0, .int .i64 b.x1, .int .i64 b.y1] 49)) := ⟨hP1, hB5⟩
      obtain ⟨B5, hB5e⟩ : ∃ B5, B5 = wr.heap.size := ⟨_, rfl⟩
      rw [← hB5e] at HI ⊢
      clear hP1 hB5 hown1 hgrow1 hnil1 c0 c1 c2 c3 hlt1 hxs1 hg hxl hB5e HRB hwsz
      go_loopw [26] (fun i w2 => ∃ (j : Nat) (ys : List Nat), j ≤ k ∧ i = .int .i64 j ∧ Hid (PF s w w2 (.slice (some ⟨g1, 0, none⟩) (k + 1) q1) ys k j (k + 1) ∧ w2.heap[B5]? = some (.cells #[.int .i64 b.x0, .int .i64 b.y0, .int .i64 b.x1, .int .i64 b.y1] 49))) (fun i _ => k - (intOf i).toNat)
      case atStart => exact ⟨0, _, Nat.zero_le _, rfl, HI.out⟩
      case round =>
        clear HI HR
        obtain ⟨j, ys, hjk, rfl, hI⟩ := hrel
        obtain ⟨w2, hw2⟩ : ∃ w2, w2 = wr := ⟨_, rfl⟩
        rw [← hw2] at hI ⊢
        clear hw2
        by_cases hltj : j < k
        · have hjl : j < s.length := by omega
          obtain ⟨g', o', c', he, hg, hjj⟩ := (H.out.1.below hI.out.1.bl).pos (by rw [← HN.out]; omega)
          simp only [Value.slice.injEq, Option.some.injEq, Addr.mk.injEq, and_true] at he
          obtain ⟨⟨rfl, rfl⟩, hx1, hx2⟩ := he
          clear hx1 hx2
          obtain ⟨c0, c1, c2, c3⟩ := hjj j hjl
          obtain ⟨t, ht⟩ : ∃ t, t = bat s j := ⟨_, rfl⟩
          rw [← ht] at c0 c1 c2 c3
          have hgt := H.out.2.at hjl ht
          obtain ⟨d0, d1, d2, d3, dlt⟩ := box_atP hI.out.2
          obtain ⟨f, hf⟩ : ∃ f, f = fB t b := ⟨_, rfl⟩
          have HC : Hid (∀ W, Calls Try.prog 81 #[.agg #[.int .i64 t.x0, .int .i64 t.y0, .int .i64 t.x1, .int .i64 t.y1], .agg #[.int .i64 b.x0, .int .i64 b.y0, .int .i64 b.x1, .int .i64 b.y1]] W fun e w' => e = .returned (.int .i64 f) ∧ Below W.heap.size W w') := fun W => by
            rw [hf]; exact impl_sides t b W ⟨by omega, by omega, by omega, by omega⟩ ⟨by omega, by omega, by omega, by omega⟩
          have HF : Hid (f = fB (bat s j) (bat s k)) := by unfold Hid; rw [hf, ht, HBK.out]
          have HW : Hid _ := hI.out
          clear hjj ht hf hI
          have e0 : (0 : Int) ≤ (j : Int) := by omega
          have e1 : (j : Int) < (k : Int) := by omega
          go_wp2_with (fail)
          refine (HC.out _).mono ?_
          rintro e w3 ⟨rfl, hb3⟩
          have hb23 : Below w2.heap.size w2 w3 := Below.trans (by (repeat' (first | (with_reducible exact Below.refl _ _) | (with_reducible assumption) | (with_reducible refine Below.setCell ?_ ?_ _) | (with_reducible refine Below.alloc ?_ ?_ _) | (with_reducible refine below_drewN ?_ _) | (with_reducible refine Below.drew ?_) | (with_reducible exact Nat.le_refl _) | omega | (simp; done) | (simp; omega)))) (hb3.mono (by simp))
          have H3 : Hid (PF s w w3 (.slice (some ⟨g1, 0, none⟩) (k + 1) q1) ys k j (k + 1) ∧ w3.heap[B5]? = some (.cells #[.int .i64 b.x0, .int .i64 b.y0, .int .i64 b.x1, .int .i64 b.y1] 49)) := ⟨HW.out.1.next hb23, (hb23.block B5 dlt).trans HW.out.2⟩
          clear hb3 hb23 HC HW c0 c1 c2 c3 d0 d1 d2 d3 dlt hg
          by_cases hf0 : 0 < f
          · obtain ⟨g2, q2, hv2, hB2, hlt2, hcc⟩ := H3.out.1.o.pos (by rw [H3.out.1.ln]; omega)
            simp only [Value.slice.injEq, Option.some.injEq, Addr.mk.injEq, and_true] at hv2
            obtain ⟨rfl, hx1, hx2⟩ := hv2
            clear hx1 hx2
            have y0 := hcc j (by rw [H3.out.1.ln]; omega)
            have y1 := hcc k (by rw [H3.out.1.ln]; omega)
            obtain ⟨p, hp⟩ : ∃ p, p = ys.getD j 0 := ⟨_, rfl⟩
            obtain ⟨q, hq⟩ : ∃ q, q = ys.getD k 0 := ⟨_, rfl⟩
            have hpb : p ≤ 100000 := by have := H3.out.1.le (a := j) (by omega); omega
            have hqb : q ≤ 100000 := by have := H3.out.1.le (a := k) (by omega); omega
            rw [← hp] at y0
            rw [← hq] at y1
            have HJ : Hid (∀ W, Below w3.heap.size w3 W → Calls Try.prog 96 #[.slice (some ⟨g1, 0, none⟩) (k + 1 : Nat) q1, .int .i64 (p : Int), .int .i64 (q : Int)] W fun e w' => (∃ v, e = .returned v) ∧ PF s w w' (.slice (some ⟨g1, 0, none⟩) (k + 1) q1) (ys.map (jn p q)) k (j + 1) (k + 1) ∧ w'.heap[B5]? = some (.cells #[.int .i64 b.x0, .int .i64 b.y0, .int .i64 b.x1, .int .i64 b.y1] 49)) := by
              intro W hW
              have h4 := H3.out.1.next hW
              have h5 := (hW.block B5 (box_atP H3.out.2).2.2.2.2).trans H3.out.2
              have hne := h4.o.noBox h5
              refine (impl_joinP p q g1 (k + 1) q1 w.heap.size ys W h4.ln.symm (by omega) hpb hqb (fun a ha => by have := h4.le ha; omega) h4.o).mono ?_
              rintro e w' ⟨he, hin, hon⟩
              refine ⟨he, ?_, (hon.block B5 hne).trans h5⟩
              rw [hp, hq] at hin ⊢
              exact PF.join hltj (by rw [← HF.out]; exact hf0) hB1 h4 hin (hon.below hB1)
            clear hcc hp hq H3 HF
            have e2 : (0 : Int) ≤ (k : Int) := by omega
            have e3 : (j : Int) < (k : Int) + 1 := by omega
            have e4 : (k : Int) < (k : Int) + 1 := by omega
            go_wp2_with (fail)
            refine wp_region_still_tail 9 (by kernel_rfl) (by kernel_rfl) ?_
            have hdw : ({ w3 with drawn := w3.drawn + 1 } : World) = w3.drew := rfl
            rw [hdw]
            clear hdw
            simp only [List.take_succ_cons, List.take_zero, List.drop_succ_cons, List.drop_zero]
            iterate 9 still_step
            refine wpStill_nil ?_
            go_wp2_with (fail)
            refine (HJ.out _ (Below.refl _ _).drew).mono ?_
            rintro e w4 ⟨⟨v4, rfl⟩, hP4, hB4⟩
            have HO : Hid _ := And.intro hP4 hB4
            clear hP4 hB4 HJ
            go_wp2
            go_roundw
            case rel => exact ⟨j + 1, _, by omega, by go_num, HO.out⟩
            case measure => simp [intOf]; omega
          · have HO : Hid (PF s w w3 (.slice (some ⟨g1, 0, none⟩) (k + 1) q1) ys k (j + 1) (k + 1) ∧ w3.heap[B5]? = some (.cells #[.int .i64 b.x0, .int .i64 b.y0, .int .i64 b.x1, .int .i64 b.y1] 49)) := ⟨H3.out.1.to (Tc_no (by rw [← HF.out]; exact hf0)), H3.out.2⟩
            clear H3 HF
            go_wp2
            go_roundw
            case rel => exact ⟨j + 1, ys, by omega, by go_num, HO.out⟩
            case measure => simp [intOf]; omega
        · have hjk' : j = k := by omega
          have HO : Hid (PF s w w2 (.slice (some ⟨g1, 0, none⟩) (k + 1) q1) ys (k + 1) 0 (k + 1)) := by
            have := hI.out.1
            rw [hjk'] at this
            exact this.to (Tc_end s k)
          have e2 : ¬ (j : Int) < (k : Int) := by omega
          clear hI hjk'
          go_wp2
          go_roundw
          case rel => exact ⟨k + 1, ys, by omega, by go_num, HO.out⟩
          case measure => simp [intOf]; omega
    · have ek : k = n := by omega
      have HO : Hid (PF s w wr u3 xs n 0 n) := by
        have := hR.out
        rwa [ek] at this
      clear hR
      go_wp2
      go_returns
      exact ⟨_, xs, rfl, HO.out⟩

end Go.Proofs.Ytokdpgabmifdjab
