/- Proved here: partFirsts of the program: labels of the boxes: a label is the place of its part's first box. -/
import Derived.Test.YtlnhfgacgbdjaaaPrI
import Derived.Test.YtlnhfgacgbdjaaaRimA
import Derived.BigQuiet
import Derived.StillTailTactics
namespace Go.Proofs.Ytlnhfgacgbdjaaa
open Go.RowKit
set_option linter.unusedVariables false
set_option linter.unusedSimpArgs false

/-- Pairs that have been looked at, and touch. -/
def Tc1 (s : List Bx) (i j x y : Nat) : Prop := x < y ∧ (y < i ∨ y = i ∧ x < j) ∧ 0 < fB (bat s x) (bat s y)
def Tc (s : List Bx) (i j x y : Nat) : Prop := Tc1 s i j x y ∨ Tc1 s i j y x
theorem Tc_sym (s : List Bx) (i j : Nat) : ∀ x y, Tc s i j x y → Tc s i j y x := fun x y h => h.symm
theorem Tc_top (s : List Bx) (k : Nat) : ∀ x, ¬ Tc s k 0 x k := by
  intro x h
  rcases h with ⟨h1, h2, _⟩ | ⟨h1, h2, _⟩ <;> omega
theorem Tc1_no (s : List Bx) (k j : Nat) (h : ¬ 0 < fB (bat s j) (bat s k)) (x y : Nat) : Tc1 s k j x y ↔ Tc1 s k (j + 1) x y := by
  constructor
  · rintro ⟨h1, h2, h3⟩; exact ⟨h1, by omega, h3⟩
  · rintro ⟨h1, h2, h3⟩
    refine ⟨h1, ?_, h3⟩
    by_cases e : x = j ∧ y = k
    · obtain ⟨rfl, rfl⟩ := e; exact absurd h3 h
    · omega
theorem Tc_no {s : List Bx} {k j : Nat} (h : ¬ 0 < fB (bat s j) (bat s k)) (x y : Nat) : Tc s k j x y ↔ Tc s k (j + 1) x y := or_congr (Tc1_no s k j h x y) (Tc1_no s k j h y x)
theorem Tc_yes {s : List Bx} {k j : Nat} (hj : j < k) (h : 0 < fB (bat s j) (bat s k)) (x y : Nat) : more (Tc s k j) j k x y ↔ Tc s k (j + 1) x y := by
  constructor
  · rintro (h1 | ⟨rfl, rfl⟩ | ⟨rfl, rfl⟩)
    · rcases h1 with ⟨h1, h2, h3⟩ | ⟨h1, h2, h3⟩
      · exact Or.inl ⟨h1, by omega, h3⟩
      · exact Or.inr ⟨h1, by omega, h3⟩
    · exact Or.inl ⟨hj, by omega, h⟩
    · exact Or.inr ⟨hj, by omega, h⟩
  · rintro (⟨h1, h2, h3⟩ | ⟨h1, h2, h3⟩)
    · by_cases e : x = j ∧ y = k
      · exact Or.inr (Or.inl e)
      · exact Or.inl (Or.inl ⟨h1, by omega, h3⟩)
    · by_cases e : y = j ∧ x = k
      · exact Or.inr (Or.inr ⟨e.2, e.1⟩)
      · exact Or.inl (Or.inr ⟨h1, by omega, h3⟩)
theorem Tc_end (s : List Bx) (k : Nat) (x y : Nat) : Tc s k k x y ↔ Tc s (k + 1) 0 x y := by
  unfold Tc Tc1
  constructor
  · rintro (⟨h1, h2, h3⟩ | ⟨h1, h2, h3⟩)
    · exact Or.inl ⟨h1, by omega, h3⟩
    · exact Or.inr ⟨h1, by omega, h3⟩
  · rintro (⟨h1, h2, h3⟩ | ⟨h1, h2, h3⟩)
    · exact Or.inl ⟨h1, by omega, h3⟩
    · exact Or.inr ⟨h1, by omega, h3⟩
/-- The labels of the first boxes, in a list of the call's own. -/
structure PF (s : List Bx) (w wr : World) (v : Value) (xs : List Nat) (i j m : Nat) : Prop where
  o : IN wr w.heap.size v xs
  ln : xs.length = m
  lab : Lab (Tc s i j) m (fun a => xs.getD a 0)
  bl : Below w.heap.size w wr
theorem PF.next {s : List Bx} {w wr w' : World} {v : Value} {xs : List Nat} {i j m : Nat} (h : PF s w wr v xs i j m) (hb : Below wr.heap.size wr w') : PF s w w' v xs i j m := ⟨h.o.below hb, h.ln, h.lab, h.bl.trans (hb.mono h.bl.size)⟩
theorem PF.to {s : List Bx} {w wr : World} {v : Value} {xs : List Nat} {i j i' j' m : Nat} (h : PF s w wr v xs i j m) (he : ∀ x y, Tc s i j x y ↔ Tc s i' j' x y) : PF s w wr v xs i' j' m := ⟨h.o, h.ln, h.lab.congr he fun _ _ => rfl, h.bl⟩
theorem PF.le {s : List Bx} {w wr : World} {v : Value} {xs : List Nat} {i j m : Nat} (h : PF s w wr v xs i j m) {a : Nat} (ha : a < m) : xs.getD a 0 ≤ a := h.lab.le a ha
/-- Bands one above the other: no box starts or ends lower than one ahead of it. -/
def Band (s : List Bx) : Prop := ∀ x y, x ≤ y → y < s.length → (bat s x).y0 ≤ (bat s y).y0 ∧ (bat s x).y1 ≤ (bat s y).y1
theorem FormB.rise2 : ∀ (rows : List (List Bx)) (below : List Bx), FormB below rows → rows.flatten.Pairwise (fun a b => a.y0 ≤ b.y0 ∧ a.y1 ≤ b.y1) ∧ ∀ b ∈ rows.flatten, (below = [] ∨ hy1 below ≤ b.y0) ∧ b.y0 < b.y1 := by
  intro rows
  induction rows with
  | nil => intro below _; simp
  | cons r rest ih =>
    intro below h
    obtain ⟨i1, i2⟩ := ih r h.2.2.2.2.2
    have hr : ∀ b ∈ r, b.y0 = hy0 r ∧ b.y1 = hy1 r := fun b hb => ⟨(h.2.2.1.y b hb).1, (h.2.2.1.y b hb).2.1⟩
    refine ⟨?_, fun b hb => ?_⟩
    · rw [List.flatten_cons, List.pairwise_append]
      refine ⟨?_, i1, fun a ha b hb => ?_⟩
      · rw [List.pairwise_iff_forall_sublist]
        intro a b hs
        have ha := hr a (hs.subset (show a ∈ [a, b] by simp))
        have hb := hr b (hs.subset (show b ∈ [a, b] by simp))
        omega
      · obtain ⟨h2, h3⟩ := i2 b hb
        rcases h2 with e | e
        · exact absurd e h.1
        · have := hr a ha; have := h.2.1; omega
    · rw [List.flatten_cons, List.mem_append] at hb
      have hlt := h.2.1
      rcases hb with hb | hb
      · have := hr b hb
        refine ⟨?_, by omega⟩
        rcases h.2.2.2.1 with e | e
        · exact Or.inl e
        · exact Or.inr (by omega)
      · obtain ⟨h2, h3⟩ := i2 b hb
        refine ⟨?_, h3⟩
        rcases h.2.2.2.1 with e | e
        · exact Or.inl e
        · rcases h2 with e2 | e2
          · exact absurd e2 h.1
          · exact Or.inr (by omega)
theorem Band.rows {rows : List (List Bx)} (h : FormB [] rows) : Band rows.flatten := by
  intro x y hxy hy
  have hp := (FormB.rise2 rows [] h).1
  rw [bat_get hy, bat_get (show x < _ by omega)]
  rcases Nat.eq_or_lt_of_le hxy with e | e
  · subst e; exact ⟨Int.le_refl _, Int.le_refl _⟩
  · exact List.pairwise_iff_getElem.1 hp x y (by omega) hy e
theorem Band.form {s : List Bx} (hv : ∀ b ∈ s, b.x0 < b.x1 ∧ b.y0 < b.y1) (h : inForm s.length [] s = true) : Band s := by
  obtain ⟨rows, hr, hF⟩ := inForm_rows _ [] s (Nat.le_refl _) hv ⟨0, 0, Canon.nil _ _⟩ h
  rw [hr]; exact Band.rows hF
/-- None of the first b boxes is as high as the foot of box k. -/
def LW (s : List Bx) (b k : Nat) : Prop := ∀ x, x < b → k < s.length → (bat s x).y1 < (bat s k).y0
theorem LW.next {s : List Bx} (hB : Band s) {b k : Nat} (h : LW s b k) : LW s b (k + 1) := fun x hx hk => by
  have h1 := h x hx (by omega)
  have h2 := hB k (k + 1) (by omega) hk
  omega
theorem fB_posY {a b : Bx} (h : 0 < fB a b) : a.y1 = b.y0 := by
  unfold fB at h
  split at h
  · assumption
  · omega
theorem Tc_low {s : List Bx} {k b : Nat} (hk : k < s.length) (h : LW s b k) (x y : Nat) : Tc s k 0 x y ↔ Tc s k b x y := by
  have one : ∀ x y, Tc1 s k 0 x y ↔ Tc1 s k b x y := fun x y => by
    constructor
    · rintro ⟨h1, h2, h3⟩; exact ⟨h1, by omega, h3⟩
    · rintro ⟨h1, h2, h3⟩
      refine ⟨h1, ?_, h3⟩
      rcases h2 with h2 | ⟨rfl, h2⟩
      · exact Or.inl h2
      · have e1 := h x h2 hk
        have e2 := fB_posY h3
        omega
  exact or_congr (one x y) (one y x)
theorem Tc_high {s : List Bx} (hB : Band s) {k j : Nat} (hj : j ≤ k) (hk : k < s.length) (h : (bat s k).y0 < (bat s j).y1) (x y : Nat) : Tc s k j x y ↔ Tc s (k + 1) 0 x y := by
  have one : ∀ x y, Tc1 s k j x y ↔ Tc1 s (k + 1) 0 x y := fun x y => by
    constructor
    · rintro ⟨h1, h2, h3⟩; exact ⟨h1, by omega, h3⟩
    · rintro ⟨h1, h2, h3⟩
      refine ⟨h1, ?_, h3⟩
      by_cases e : y = k
      · subst e
        refine Or.inr ⟨rfl, ?_⟩
        rcases Nat.lt_or_ge x j with e1 | e1
        · exact e1
        · have e2 := (hB j x e1 (by omega)).2
          have e3 := fB_posY h3
          omega
      · omega
  exact or_congr (one x y) (one y x)
/-- The forest of the first boxes, in a list of the call's own. -/
structure PU (s : List Bx) (w wr : World) (v : Value) (xs : List Nat) (i j m : Nat) : Prop where
  o : IN wr w.heap.size v xs
  f : For m xs
  lab : Lab (Tc s i j) m (rootF (FL xs))
  bl : Below w.heap.size w wr
theorem PU.next {s : List Bx} {w wr w' : World} {v : Value} {xs : List Nat} {i j m : Nat} (h : PU s w wr v xs i j m) (hb : Below wr.heap.size wr w') : PU s w w' v xs i j m := ⟨h.o.below hb, h.f, h.lab, h.bl.trans (hb.mono h.bl.size)⟩
theorem PU.to {s : List Bx} {w wr : World} {v : Value} {xs : List Nat} {i j i' j' m : Nat} (h : PU s w wr v xs i j m) (he : ∀ x y, Tc s i j x y ↔ Tc s i' j' x y) : PU s w wr v xs i' j' m := ⟨h.o, h.f, h.lab.congr he fun _ _ => rfl, h.bl⟩
theorem PU.push {s : List Bx} {w wr w1 : World} {v v' : Value} {xs : List Nat} {k : Nat} {o1 o2 : Obj} (h : PU s w wr v xs k 0 k) (ho : w1.ownsRow w.heap.size 3 1 v' (xs.length + 1) (xs.map nv ++ [.int .i64 (k : Int)])) (hg : ((wr.alloc o1).alloc o2).grownBy w1 v.ownBlock) : PU s w w1 v' (xs ++ [k]) k 0 (k + 1) := by
  have hsz := h.bl.size
  refine ⟨?_, h.f.push.1, ?_, ((h.bl.alloc hsz o1).alloc (by simp; omega) o2).grown hg (by simp; omega) (fun k hk => (World.ownsRow.lt h.o k hk).1)⟩
  · unfold IN
    rw [List.map_append, List.length_append]
    exact ho
  · exact (Lab.put (Tc_sym s k 0) (Tc_top s k) h.lab).congr (fun _ _ => Iff.rfl) fun a ha => (h.f.push.2 a ha).symm
theorem PU.join {s : List Bx} {w wr w1 : World} {g n c : Nat} {xs ys : List Nat} {k j : Nat} (hj : j < k) (hf : 0 < fB (bat s j) (bat s k)) (hg : w.heap.size ≤ g) (h : PU s w wr (.slice (some ⟨g, 0, none⟩) n c) xs k j (k + 1)) (u : UF (k + 1) (joinF (rootF (FL xs) j) (rootF (FL xs) k) (rootF (FL xs))) w.heap.size g c wr w1 ys) : PU s w w1 (.slice (some ⟨g, 0, none⟩) (k + 1 : Nat) c) ys k (j + 1) (k + 1) :=
  ⟨u.o, u.f, (Lab.join (Tc_sym s k j) (u := j) (v := k) (by omega) (by omega) h.lab).congr (Tc_yes hj hf) fun a _ => (u.r a).symm, h.bl.trans (u.on.below hg)⟩
/-- All ways of the first k are short. -/
structure PE (s : List Bx) (w wr : World) (g c : Nat) (R : Nat → Nat) (ys : List Nat) (n k : Nat) : Prop where
  u : UF n R w.heap.size g c wr wr ys
  sh : ∀ i, i < k → FL ys i = R i
  bl : Below w.heap.size w wr
theorem PE.step {s : List Bx} {w wr : World} {g c : Nat} {R : Nat → Nat} {ys : List Nat} {n k y z : Nat} (h : PE s w wr g c R ys n k) (hk : k < n) (hg : w.heap.size ≤ g) (hy : y = FL ys k) (hz : z = FL ys y) : PE s w (wr.setCell ⟨g, k, none⟩ (.int .i64 (z : Int))) g c R (ys.set k z) n (k + 1) := by
  have hh := h.u.f.half hk
  rw [← hy, ← hz] at hh
  have hkl : k < ys.length := by rw [h.u.f.len]; exact hk
  have hyk : y ≤ k := by rw [hy]; exact h.u.f.dn k
  have on := (Only.refl g wr).set k (.int .i64 (z : Int))
  refine ⟨⟨hh.1, fun i => (hh.2 i).trans (h.u.r i), h.u.o.set hkl z, Only.refl _ _⟩, fun i hi => ?_, h.bl.trans (on.below hg)⟩
  rw [FL_set hkl]
  split
  · rename_i e
    subst e
    rcases Nat.eq_or_lt_of_le hyk with e | e
    · rw [hz, e, ← hy, e, ← h.u.r i, rootF_fix]
      rw [← hy, e]
    · rw [hz, h.sh y e, ← h.u.r y, ← h.u.r i, hy, rootF_next h.u.f.dn]
  · exact h.sh i (by omega)

theorem two_newP (w : World) (a b : Obj) : ((w.alloc a).alloc b).heap[w.heap.size]? = some a ∧ ((w.alloc a).alloc b).heap[w.heap.size + 1]? = some b :=
  ⟨(Below.heap_alloc _ _ _ (by simp)).trans (heap_alloc_new w a), by have := heap_alloc_new (w.alloc a) b; simpa using this⟩
theorem box_atP {w : World} {k : Nat} {b : Bx} (h : w.heap[k]? = some (.cells #[.int .i64 b.x0, .int .i64 b.y0, .int .i64 b.x1, .int .i64 b.y1] 44)) :
    w.cell? ⟨k, 0, none⟩ = some (.int .i64 b.x0) ∧ w.cell? ⟨k, 1, none⟩ = some (.int .i64 b.y0) ∧ w.cell? ⟨k, 2, none⟩ = some (.int .i64 b.x1) ∧ w.cell? ⟨k, 3, none⟩ = some (.int .i64 b.y1) ∧ k < w.heap.size := by
  refine ⟨by simp [World.cell?, h], by simp [World.cell?, h], by simp [World.cell?, h], by simp [World.cell?, h], ?_⟩
  rcases Nat.lt_or_ge k w.heap.size with h' | h'
  · exact h'
  · rw [Array.getElem?_eq_none h'] at h; cases h
/-- The list's block is no box's. -/
theorem IN.noBox {w : World} {B g n c m : Nat} {xs : List Nat} {cs : Array Value} (h : IN w B (.slice (some ⟨g, 0, none⟩) n c) xs) (hm : w.heap[m]? = some (.cells cs 44)) : m ≠ g := by
  rintro rfl
  rcases h.2 with ⟨h', _⟩ | ⟨g', cap, cur, he, hB, hg, hr⟩
  · cases h'
  · simp only [Value.slice.injEq, Option.some.injEq, Addr.mk.injEq, and_true] at he
    obtain ⟨rfl, _, _⟩ := he
    rw [hg] at hm
    simp only [Option.some.injEq, Obj.cells.injEq] at hm
    exact absurd hm.2.1 (by decide)

set_option maxRecDepth 10000 in
set_option maxHeartbeats 4000000 in
theorem impl_pf {w : World} {a : Option Addr} {n c : Nat} {s : List Bx} (hn : n ≤ 100000) (hc : n ≤ c) (hG : Good s) (hBd : Band s) (h : RB w (.slice a n c) s) :
    Calls Try.prog 41 #[.slice a n c] w fun e w' => ∃ v xs, e = .returned v ∧ PF s w w' v xs n 0 n := by
  have hlen : s.length = n := by obtain ⟨_, _, e⟩ := h.form; injection e with _ e2 _; exact e2.symm
  have H : Hid (RB w (.slice a n c) s ∧ Good s ∧ Band s) := ⟨h, hG, hBd⟩
  have HN : Hid (n = s.length) := hlen.symm
  clear h hG hlen hBd
  obtain ⟨i0, hi, hz0, hz1, hz2⟩ := info_parts info_int
  go_enter Try.func41, Try.ntmps41
  go_wp2_with (at_make; refine wpList_make_own _ rfl _ _ 57 rfl w.heap.size 3 i0 (.int .i64 0) 1 Try.underlying57 hi hz0 hz1 _ _ _ n rfl rfl rfl (by rw [hz2]; omega) (by unfold maxLen; omega) (by omega) ?_; intro w2 hown2 hgrow2)
  have M2 : Hid (PU s w w2 (.slice (some ⟨w.heap.size, 0, none⟩) 0 n) [] 0 0 0) := by
    have hb := (Below.refl w.heap.size w).grown hgrow2 (Nat.le_refl _) (fun k h => by cases h)
    exact ⟨hown2, ⟨rfl, FL_down (fun i hi => absurd hi (by simp))⟩, Lab.empty _ _, hb⟩
  clear hown2 hgrow2
  go_loopw [3, 4, 15] (fun v lo i wr => ∃ (k b : Nat) (xs : List Nat), k ≤ n ∧ b ≤ k ∧ lo = .int .i64 b ∧ i = .int .i64 k ∧ Hid (PU s w wr v xs k 0 k ∧ LW s b k ∧ (k = n → ∃ g q, v = .slice (some ⟨g, 0, none⟩) n q))) (fun _ _ i _ => n - (intOf i).toNat)
  case atStart => exact ⟨0, 0, [], Nat.zero_le _, Nat.zero_le _, rfl, rfl, M2.out, fun x hx => absurd hx (by omega), fun e => ⟨_, _, by rw [← e]⟩⟩
  case round =>
    clear M2
    obtain ⟨k, lo, xs, hk, hlo, rfl, rfl, hR⟩ := hrel
    by_cases hlt : k < n
    · have hkl : k < s.length := by rw [← HN.out]; exact hlt
      have HRB : Hid (RB wr (.slice a n c) s) := H.out.1.below hR.out.1.bl
      obtain ⟨g, o, c2, he, hg, hj⟩ := HRB.out.pos (by rw [← HN.out]; omega)
      simp only [Value.slice.injEq] at he
      obtain ⟨rfl, hx1, hx2⟩ := he
      clear hx1 hx2
      obtain ⟨c0, c1, c2, c3⟩ := hj k hkl
      obtain ⟨b, hb⟩ : ∃ b, b = bat s k := ⟨_, rfl⟩
      rw [← hb] at c0 c1 c2 c3
      have hgb := H.out.2.1.at hkl hb
      have HBK : Hid (b = bat s k) := hb
      have hxl : xs.length = k := hR.out.1.f.len
      have HR : Hid _ := hR.out.1
      have HL : Hid (LW s lo k) := hR.out.2.1
      have hwsz := hR.out.1.bl.size
      clear hb hj hR
      have b0 : (0 : Int) ≤ (k : Int) := by omega
      have b1 : (k : Int) < (n : Int) := by omega
      go_wp2_with (at_builtin; refine wpList_append_own _ rfl _ _ 57 rfl w.heap.size 3 i0 (.int .i64 0) 1 8 Try.underlying57 hi hz0 hz1 hz2 rfl (by decide) _ _ _ rfl (World.ownsRow.alloc (World.ownsRow.alloc HR.out.o _) _) ⟨wr.heap.size + 1, 0, none⟩ 1 1 [.int .i64 (k : Int)] rfl rfl (World.news_of_block (cs := #[.int .i64 (k : Int)]) (t := 3) (fr := (0, 0)) (by have := heap_alloc_new (wr.alloc (.cells #[.int .i64 b.x0, .int .i64 b.y0, .int .i64 b.x1, .int .i64 b.y1] 44)) (.cells #[.int .i64 (k : Int)] 3); simpa using this)) (by simp [Value.oneCell']) (by unfold maxLen; omega) (by omega) (by simp; omega) ?_; intro v' w1 hown1 hgrow1 hnil1)
      have hP1 := HR.out.push hown1 hgrow1
      have hB5 : w1.heap[wr.heap.size]? = some (.cells #[.int .i64 b.x0, .int .i64 b.y0, .int .i64 b.x1, .int .i64 b.y1] 44) := by
        have h1 := hgrow1.block wr.heap.size (by simp; omega) (fun e => by have := (World.ownsRow.lt HR.out.o _ e.symm).2; omega)
        rw [h1]
        exact (two_newP wr _ _).1
      obtain ⟨g1, q1, hv1, hB1, hlt1, _⟩ := hP1.o.pos (by simp)
      have hxs1 : (xs ++ [k]).length = k + 1 := hP1.f.len
      rw [hxs1] at hv1
      subst hv1
      have HI : Hid (PU s w w1 (.slice (some ⟨g1, 0, none⟩) (k + 1) q1) (xs ++ [k]) k 0 (k + 1) ∧ w1.heap[wr.heap.size]? = some (.cells #[.int .i64 b.x0, .int .i64 b.y0, .int .i64 b.x1, .int .i64 b.y1] 44)) := ⟨hP1, hB5⟩
      obtain ⟨B5, hB5e⟩ : ∃ B5, B5 = wr.heap.size := ⟨_, rfl⟩
      rw [← hB5e] at HI ⊢
      clear hP1 hB5 hown1 hgrow1 hnil1 c0 c1 c2 c3 hlt1 hxs1 hg hxl hB5e HRB hwsz
      go_loopw [4] (fun i w2 => ∃ (j : Nat) (ys : List Nat), j ≤ k ∧ i = .int .i64 j ∧ Hid (PU s w w2 (.slice (some ⟨g1, 0, none⟩) (k + 1) q1) ys k 0 (k + 1) ∧ w2.heap[B5]? = some (.cells #[.int .i64 b.x0, .int .i64 b.y0, .int .i64 b.x1, .int .i64 b.y1] 44) ∧ LW s j k)) (fun i _ => k - (intOf i).toNat)
      case atStart => exact ⟨lo, _, hlo, rfl, HI.out.1, HI.out.2, HL.out⟩
      case round =>
        clear HI HR HL
        obtain ⟨j, ys, hjk, rfl, hI⟩ := hrel
        obtain ⟨w2, hw2⟩ : ∃ w2, w2 = wr := ⟨_, rfl⟩
        rw [← hw2] at hI ⊢
        clear hw2
        have hjl : j < s.length := by omega
        obtain ⟨g', o', c', he, hg, hjj⟩ := (H.out.1.below hI.out.1.bl).pos (by rw [← HN.out]; omega)
        simp only [Value.slice.injEq, Option.some.injEq, Addr.mk.injEq, and_true] at he
        obtain ⟨⟨rfl, rfl⟩, hx1, hx2⟩ := he
        clear hx1 hx2
        obtain ⟨c0, c1, c2, c3⟩ := hjj j hjl
        obtain ⟨t, ht⟩ : ∃ t, t = bat s j := ⟨_, rfl⟩
        rw [← ht] at c0 c1 c2 c3
        have hgt := H.out.2.1.at hjl ht
        obtain ⟨d0, d1, d2, d3, dlt⟩ := box_atP hI.out.2.1
        have e0 : (0 : Int) ≤ (j : Int) := by omega
        have e1 : (j : Int) < (n : Int) := by omega
        by_cases hty : t.y1 < b.y0
        · have hltj : j < k := by
            rcases Nat.lt_or_ge j k with e | e
            · exact e
            · have e3 : j = k := by omega
              rw [e3] at ht
              have e4 : t = b := by rw [ht, HBK.out]
              rw [e4] at hty; omega
          have HS : Hid (∀ W, Below w2.heap.size w2 W → PU s w W (.slice (some ⟨g1, 0, none⟩) (k + 1) q1) ys k 0 (k + 1) ∧ W.heap[B5]? = some (.cells #[.int .i64 b.x0, .int .i64 b.y0, .int .i64 b.x1, .int .i64 b.y1] 44) ∧ LW s (j + 1) k) := by
            intro W hW
            refine ⟨hI.out.1.next hW, (hW.block B5 dlt).trans hI.out.2.1, fun x hx hx2 => ?_⟩
            by_cases e : x = j
            · subst e; rw [← ht, ← HBK.out]; exact hty
            · exact hI.out.2.2 x (by omega) hx2
          clear hjj ht hI
          go_wp2_with (fail)
          go_quiet (fail)
          go_wp2
          go_roundw
          case rel => exact ⟨j + 1, ys, by omega, by go_num, HS.out _ (by (repeat' (first | (with_reducible exact Below.refl _ _) | (with_reducible assumption) | (with_reducible refine Below.setCell ?_ ?_ _) | (with_reducible refine Below.alloc ?_ ?_ _) | (with_reducible refine below_drewN ?_ _) | (with_reducible refine Below.drew ?_) | (with_reducible exact Nat.le_refl _) | omega | (simp; done) | (simp; omega))))⟩
          case measure => simp [intOf]; omega
        · have HW : Hid (∀ W, Below w2.heap.size w2 W → PU s w W (.slice (some ⟨g1, 0, none⟩) (k + 1) q1) ys k j (k + 1) ∧ W.heap[B5]? = some (.cells #[.int .i64 b.x0, .int .i64 b.y0, .int .i64 b.x1, .int .i64 b.y1] 44) ∧ b.y0 ≤ (bat s j).y1) := by
            intro W hW
            refine ⟨(hI.out.1.next hW).to (Tc_low hkl hI.out.2.2), (hW.block B5 dlt).trans hI.out.2.1, ?_⟩
            rw [← ht]; omega
          have HL : Hid (LW s j k) := hI.out.2.2
          clear hjj ht hI
          go_wp2_with (fail)
          go_quiet (fail)
          go_wp2
          go_loopw [7] (fun i w2 => ∃ (p : Nat) (zs : List Nat), p ≤ k ∧ i = .int .i64 p ∧ Hid (PU s w w2 (.slice (some ⟨g1, 0, none⟩) (k + 1) q1) zs k p (k + 1) ∧ w2.heap[B5]? = some (.cells #[.int .i64 b.x0, .int .i64 b.y0, .int .i64 b.x1, .int .i64 b.y1] 44) ∧ b.y0 ≤ (bat s p).y1)) (fun i _ => k - (intOf i).toNat)
          case atStart => exact ⟨j, ys, hjk, rfl, HW.out _ (by (repeat' (first | (with_reducible exact Below.refl _ _) | (with_reducible assumption) | (with_reducible refine Below.setCell ?_ ?_ _) | (with_reducible refine Below.alloc ?_ ?_ _) | (with_reducible refine below_drewN ?_ _) | (with_reducible refine Below.drew ?_) | (with_reducible exact Nat.le_refl _) | omega | (simp; done) | (simp; omega))))⟩
          case round =>
            clear HW c0 c1 c2 c3 d0 d1 d2 d3 dlt hgt hty
            obtain ⟨p, zs, hpk, rfl, hI⟩ := hrel
            obtain ⟨w3, hw3⟩ : ∃ w3, w3 = wr := ⟨_, rfl⟩
            rw [← hw3] at hI ⊢
            clear hw3
            have hpl : p < s.length := by omega
            obtain ⟨g', o', c', he, hg', hjj⟩ := (H.out.1.below hI.out.1.bl).pos (by rw [← HN.out]; omega)
            simp only [Value.slice.injEq, Option.some.injEq, Addr.mk.injEq, and_true] at he
            obtain ⟨⟨rfl, rfl⟩, hx1, hx2⟩ := he
            clear hx1 hx2
            obtain ⟨c0, c1, c2, c3⟩ := hjj p hpl
            obtain ⟨t, ht⟩ : ∃ t, t = bat s p := ⟨_, rfl⟩
            rw [← ht] at c0 c1 c2 c3
            have hgt := H.out.2.1.at hpl ht
            obtain ⟨d0, d1, d2, d3, dlt⟩ := box_atP hI.out.2.1
            have e0 : (0 : Int) ≤ (p : Int) := by omega
            have e1 : (p : Int) < (n : Int) := by omega
            by_cases hty : t.y1 = b.y0
            · have hltp : p < k := by
                rcases Nat.lt_or_ge p k with e | e
                · exact e
                · have e3 : p = k := by omega
                  rw [e3] at ht
                  have e4 : t = b := by rw [ht, HBK.out]
                  rw [e4] at hty; omega
              have e2 : (t.y1 == b.y0) = true := by simp [hty]
              obtain ⟨f, hf⟩ : ∃ f, f = fB t b := ⟨_, rfl⟩
              have HC : Hid (∀ W, Calls Try.prog 54 #[.agg #[.int .i64 t.x0, .int .i64 t.y0, .int .i64 t.x1, .int .i64 t.y1], .agg #[.int .i64 b.x0, .int .i64 b.y0, .int .i64 b.x1, .int .i64 b.y1]] W fun e w' => e = .returned (.int .i64 f) ∧ Below W.heap.size W w') := fun W => by
                rw [hf]; exact impl_sides t b W ⟨by omega, by omega, by omega, by omega⟩ ⟨by omega, by omega, by omega, by omega⟩
              rw [hty] at HC
              have HF : Hid (f = fB (bat s p) (bat s k)) := by unfold Hid; rw [hf, ht, HBK.out]
              have HV : Hid (∀ W, Below w3.heap.size w3 W → PU s w W (.slice (some ⟨g1, 0, none⟩) (k + 1) q1) zs k p (k + 1) ∧ W.heap[B5]? = some (.cells #[.int .i64 b.x0, .int .i64 b.y0, .int .i64 b.x1, .int .i64 b.y1] 44)) := fun W hW => ⟨hI.out.1.next hW, (hW.block B5 dlt).trans hI.out.2.1⟩
              have HY : Hid (b.y0 ≤ (bat s (p + 1)).y1) := by
                have h2 := (H.out.2.2 p (p + 1) (by omega) (by omega)).2
                rw [← ht] at h2
                unfold Hid; omega
              clear hjj ht hf hI
              go_wp2_with (fail)
              go_quiet (fail)
              go_wp2_with (fail)
              obtain ⟨w4, hw4⟩ : ∃ w4, w4 = w3.drewN nq := ⟨_, rfl⟩
              have hb34 : Below w3.heap.size w3 w4 := by rw [hw4]; (repeat' (first | (with_reducible exact Below.refl _ _) | (with_reducible assumption) | (with_reducible refine Below.setCell ?_ ?_ _) | (with_reducible refine Below.alloc ?_ ?_ _) | (with_reducible refine below_drewN ?_ _) | (with_reducible refine Below.drew ?_) | (with_reducible exact Nat.le_refl _) | omega | (simp; done) | (simp; omega)))
              have HV4 : Hid (∀ W, Below w4.heap.size w4 W → PU s w W (.slice (some ⟨g1, 0, none⟩) (k + 1) q1) zs k p (k + 1) ∧ W.heap[B5]? = some (.cells #[.int .i64 b.x0, .int .i64 b.y0, .int .i64 b.x1, .int .i64 b.y1] 44)) := fun W hW => HV.out W (hb34.trans (hW.mono hb34.size))
              have k0 : ∀ A, w4.cell? A = w3.cell? A := fun A => by rw [hw4]; simp
              have k1 : w4.heap.size = w3.heap.size := by rw [hw4]; simp
              rw [← hw4]
              rw [← k0] at c0 c1 c2 c3 d0 d1 d2 d3
              rw [← k1] at hg' dlt
              clear hw4 hb34 HV k0 k1
              refine wp_region_still_tail 5 (by kernel_rfl) (by kernel_rfl) ?_
              have hdw : ({ w4 with drawn := w4.drawn + 1 } : World) = w4.drew := rfl
              rw [hdw]
              clear hdw
              simp only [List.take_succ_cons, List.take_zero, List.drop_succ_cons, List.drop_zero]
              iterate 5 still_step
              refine wpStill_nil ?_
              go_wp2_with (fail)
              refine (HC.out _).mono ?_
              rintro e w5 ⟨rfl, hb5⟩
              have hb45 : Below w4.heap.size w4 w5 := Below.trans (by (repeat' (first | (with_reducible exact Below.refl _ _) | (with_reducible assumption) | (with_reducible refine Below.setCell ?_ ?_ _) | (with_reducible refine Below.alloc ?_ ?_ _) | (with_reducible refine below_drewN ?_ _) | (with_reducible refine Below.drew ?_) | (with_reducible exact Nat.le_refl _) | omega | (simp; done) | (simp; omega)))) (hb5.mono (by simp))
              have H5 : Hid _ := HV4.out w5 hb45
              clear hb5 hb45 HC HV4 c0 c1 c2 c3 d0 d1 d2 d3 dlt hg'
              by_cases hf0 : 0 < f
              · have HJ : Hid (∀ W, Below w5.heap.size w5 W → Calls Try.prog 55 #[.slice (some ⟨g1, 0, none⟩) (k + 1 : Nat) q1, .int .i64 (p : Int), .int .i64 (k : Int)] W fun e w' => (∃ v, e = .returned v) ∧ ∃ qs, PU s w w' (.slice (some ⟨g1, 0, none⟩) (k + 1) q1) qs k (p + 1) (k + 1) ∧ w'.heap[B5]? = some (.cells #[.int .i64 b.x0, .int .i64 b.y0, .int .i64 b.x1, .int .i64 b.y1] 44)) := by
                  intro W hW
                  have h4 := H5.out.1.next hW
                  have h5 := (hW.block B5 (box_atP H5.out.2).2.2.2.2).trans H5.out.2
                  have hne := h4.o.noBox h5
                  refine (impl_joinP p k g1 (k + 1) q1 w.heap.size (rootF (FL zs)) zs W (by omega) (by omega) (by omega) ⟨h4.f, fun _ => rfl, h4.o, Only.refl _ _⟩).mono ?_
                  rintro e w' ⟨he, qs, hu⟩
                  exact ⟨he, qs, h4.join hltp (by rw [← HF.out]; exact hf0) hB1 hu, (hu.on.block B5 hne).trans h5⟩
                clear H5 HF
                go_wp2_with (fail)
                refine (HJ.out _ (by (repeat' (first | (with_reducible exact Below.refl _ _) | (with_reducible assumption) | (with_reducible refine Below.setCell ?_ ?_ _) | (with_reducible refine Below.alloc ?_ ?_ _) | (with_reducible refine below_drewN ?_ _) | (with_reducible refine Below.drew ?_) | (with_reducible exact Nat.le_refl _) | omega | (simp; done) | (simp; omega))))).mono ?_
                rintro e w6 ⟨⟨v6, rfl⟩, qs, hP6, hB6⟩
                have HO : Hid _ := And.intro hP6 hB6
                clear hP6 hB6 HJ
                go_wp2
                go_roundw
                case rel => exact ⟨p + 1, qs, by omega, by go_num, HO.out.1, HO.out.2, HY.out⟩
                case measure => simp [intOf]; omega
              · have HO : Hid (PU s w w5 (.slice (some ⟨g1, 0, none⟩) (k + 1) q1) zs k (p + 1) (k + 1) ∧ w5.heap[B5]? = some (.cells #[.int .i64 b.x0, .int .i64 b.y0, .int .i64 b.x1, .int .i64 b.y1] 44)) := ⟨H5.out.1.to (Tc_no (by rw [← HF.out]; exact hf0)), H5.out.2⟩
                clear H5 HF
                go_wp2
                go_roundw
                case rel => exact ⟨p + 1, zs, by omega, by go_num, HO.out.1, HO.out.2, HY.out⟩
                case measure => simp [intOf]; omega
            · have HO : Hid (∀ W, Below w3.heap.size w3 W → PU s w W (.slice (some ⟨g1, 0, none⟩) (k + 1) q1) zs (k + 1) 0 (k + 1)) := by
                intro W hW
                refine (hI.out.1.next hW).to (Tc_high H.out.2.2 hpk hkl ?_)
                have := hI.out.2.2
                rw [← HBK.out, ← ht]; rw [← ht] at this; omega
              have HL2 : Hid (LW s j (k + 1)) := LW.next H.out.2.2 HL.out
              have e2 : (t.y1 == b.y0) = false := by simp [hty]
              clear hjj ht hI
              go_wp2_with (fail)
              go_quiet (fail)
              go_wp2
              go_roundw
              case rel => exact ⟨k + 1, j, zs, by omega, by omega, rfl, by go_num, HO.out _ (by (repeat' (first | (with_reducible exact Below.refl _ _) | (with_reducible assumption) | (with_reducible refine Below.setCell ?_ ?_ _) | (with_reducible refine Below.alloc ?_ ?_ _) | (with_reducible refine below_drewN ?_ _) | (with_reducible refine Below.drew ?_) | (with_reducible exact Nat.le_refl _) | omega | (simp; done) | (simp; omega)))), HL2.out, fun e => ⟨_, _, by rw [e]⟩⟩
              case measure => simp [intOf]; omega
    · have ek : k = n := by omega
      obtain ⟨g, q, rfl⟩ := hR.out.2.2 ek
      have HO : Hid (PU s w wr (.slice (some ⟨g, 0, none⟩) n q) xs n 0 n) := by
        have := hR.out.1
        rwa [ek] at this
      clear hR
      obtain ⟨R, hRe⟩ : ∃ R, R = rootF (FL xs) := ⟨_, rfl⟩
      have HE : Hid (PE s w wr g q R xs n 0 ∧ Lab (Tc s n 0) n R) := ⟨⟨⟨HO.out.f, fun _ => by rw [hRe], HO.out.o, Only.refl _ _⟩, fun i hi => absurd hi (by omega), HO.out.bl⟩, by rw [hRe]; exact HO.out.lab⟩
      have hgB : 0 < n → w.heap.size ≤ g := fun hp => by
        have hl := HO.out.f.len
        obtain ⟨g', c', he, hB, _, _⟩ := HO.out.o.pos (by omega)
        simp only [Value.slice.injEq, Option.some.injEq, Addr.mk.injEq, and_true] at he
        rw [he.1]; exact hB
      clear HO hRe
      go_wp2
      go_loopw [59] (fun i w2 => ∃ (p : Nat) (ys : List Nat), p ≤ n ∧ i = .int .i64 p ∧ Hid (PE s w w2 g q R ys n p)) (fun i _ => n - (intOf i).toNat)
      case atStart => exact ⟨0, xs, Nat.zero_le _, rfl, HE.out.1⟩
      case round =>
        obtain ⟨p, ys, hpn, rfl, hI⟩ := hrel
        by_cases hlp : p < n
        · obtain ⟨y, hy⟩ : ∃ y, y = FL ys p := ⟨_, rfl⟩
          obtain ⟨z, hz⟩ : ∃ z, z = FL ys y := ⟨_, rfl⟩
          have hyp : y ≤ p := by rw [hy]; exact hI.out.u.f.dn p
          have hzy : z ≤ y := by rw [hz]; exact hI.out.u.f.dn y
          obtain ⟨c0, f0, g0⟩ := hI.out.u.o.at hlp
          obtain ⟨c1, _, _⟩ := hI.out.u.o.at (j := y) (by omega)
          rw [← hy] at c0
          rw [← hz] at c1
          have HS : Hid _ := hI.out.step hlp (hgB (by omega)) hy hz
          clear hI hy hz
          have b0 : (0 : Int) ≤ (p : Int) := by omega
          have b1 : (p : Int) < (n : Int) := by omega
          have b2 : (0 : Int) ≤ (y : Int) := by omega
          have b3 : (y : Int) < (n : Int) := by omega
          go_wp2
          go_roundw
          case rel => exact ⟨p + 1, ys.set p z, by omega, by go_num, HS.out⟩
          case measure => simp [intOf]; omega
        · have ep : p = n := by omega
          have HF : Hid (PF s w wr (.slice (some ⟨g, 0, none⟩) n q) ys n 0 n) := by
            have h1 := hI.out
            rw [ep] at h1
            exact ⟨h1.u.o, h1.u.f.len, HE.out.2.congr (fun _ _ => Iff.rfl) fun a ha => (h1.sh a ha).symm, h1.bl⟩
          clear hI HE
          go_wp2
          go_returns
          exact ⟨_, ys, rfl, HF.out⟩

end Go.Proofs.Ytlnhfgacgbdjaaa
