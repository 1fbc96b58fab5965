/- Proved here: lists of places (int) of the call's own; firstPlace and joinParts of the program: the end of a way, and two parts made one. (And ahead of it: Proved here: arithmetic alone: forests of places, each place's way down to the first of its part; ways that are shortened; two parts joined; all ways made short. No condition on the program.) -/
import Derived.Test.YtlnhfgacgbdjaaaPrM
import Derived.Test.YtlnhfgacgbdjaaaBoxBase
namespace Go.Proofs.Ytlnhfgacgbdjaaa
set_option linter.unusedVariables false
set_option linter.unusedSimpArgs false

def iterF (F : Nat → Nat) : Nat → Nat → Nat
  | 0, i => i
  | k + 1, i => iterF F k (F i)
/-- The end of the way down. -/
def rootF (F : Nat → Nat) (i : Nat) : Nat := iterF F i i
/-- No way goes up. -/
def Down (F : Nat → Nat) : Prop := ∀ i, F i ≤ i
theorem iterF_fix {F : Nat → Nat} {i : Nat} (h : F i = i) : ∀ k, iterF F k i = i := by
  intro k
  induction k with
  | zero => rfl
  | succ k ih => rw [iterF, h]; exact ih
theorem iterF_more {F : Nat → Nat} (hF : Down F) : ∀ (k i : Nat), i ≤ k → F (iterF F k i) = iterF F k i := by
  intro k
  induction k with
  | zero => intro i hi; have h0 : i = 0 := by omega
            subst h0; have := hF 0; rw [iterF]; omega
  | succ k ih =>
    intro i hi
    rw [iterF]
    have := hF i
    by_cases h : F i ≤ k
    · exact ih (F i) h
    · have e : F i = i := by omega
      rw [e, iterF_fix e k, e]
theorem iterF_same {F : Nat → Nat} (hF : Down F) : ∀ (k i : Nat), i ≤ k → iterF F k i = rootF F i := by
  intro k
  induction k with
  | zero => intro i hi; have h0 : i = 0 := by omega
            subst h0; rfl
  | succ k ih =>
    intro i hi
    have h1 := hF i
    by_cases e : F i = i
    · rw [iterF_fix e, rootF, iterF_fix e]
    · have hk : F i ≤ k := by omega
      rw [iterF, ih (F i) hk]
      obtain ⟨j, rfl⟩ : ∃ j, i = j + 1 := ⟨i - 1, by omega⟩
      rw [rootF, rootF, iterF]
      rcases Nat.eq_or_lt_of_le hi with h2 | h2
      · have : j = k := by omega
        subst this
        exact (ih (F (j + 1)) (by omega)).symm
      · have hj : F (j + 1) ≤ j := by omega
        have a1 := ih (F (j + 1)) (by omega)
        have a2 : iterF F j (F (j + 1)) = iterF F k (F (j + 1)) := by
          have mono : ∀ d, iterF F (j + d) (F (j + 1)) = iterF F j (F (j + 1)) := by
            intro d
            induction d with
            | zero => rfl
            | succ d ihd =>
              have fx := iterF_more hF (j + d) (F (j + 1)) (by omega)
              have step : ∀ (q x : Nat), iterF F (q + 1) x = F (iterF F q x) := by
                intro q
                induction q with
                | zero => intro x; rfl
                | succ q ihq => intro x; rw [iterF, ihq (F x)]; rfl
              rw [show j + (d + 1) = (j + d) + 1 by omega, step, fx]
              exact ihd
          have := mono (k - j)
          rw [show j + (k - j) = k by omega] at this
          exact this.symm
        rw [a2, a1]; rfl
theorem rootF_root {F : Nat → Nat} (hF : Down F) (i : Nat) : F (rootF F i) = rootF F i := iterF_more hF i i (Nat.le_refl _)
theorem rootF_fix {F : Nat → Nat} {i : Nat} (h : F i = i) : rootF F i = i := iterF_fix h i
theorem rootF_next {F : Nat → Nat} (hF : Down F) (i : Nat) : rootF F (F i) = rootF F i := by
  have h1 := hF i
  by_cases e : F i = i
  · rw [e]
  · obtain ⟨j, rfl⟩ : ∃ j, i = j + 1 := ⟨i - 1, by omega⟩
    rw [rootF.eq_1 F (j + 1), iterF]
    exact (iterF_same hF j (F (j + 1)) (by omega)).symm
theorem rootF_le {F : Nat → Nat} (hF : Down F) : ∀ i, rootF F i ≤ i := by
  intro i
  induction i using Nat.strongRecOn with
  | ind i ih =>
    by_cases e : F i = i
    · rw [rootF_fix e]; exact Nat.le_refl _
    · have := hF i
      rw [← rootF_next hF i]
      have := ih (F i) (by omega)
      omega
/-- Another forest with the same ends. -/
theorem rootF_congr {F G : Nat → Nat} (hF : Down F) (hG : Down G) (h : ∀ i, rootF F (G i) = rootF F i) (h' : ∀ i, G i = i → F i = i) : ∀ i, rootF G i = rootF F i := by
  intro i
  induction i using Nat.strongRecOn with
  | ind i ih =>
    by_cases e : G i = i
    · rw [rootF_fix e, rootF_fix (h' i e)]
    · have := hG i
      rw [← rootF_next hG i, ih (G i) (by omega), h i]
theorem rootF_ext {F G : Nat → Nat} {m : Nat} (hF : Down F) (hG : Down G) (h : ∀ i, i < m → F i = G i) : ∀ i, i < m → rootF F i = rootF G i := by
  intro i
  induction i using Nat.strongRecOn with
  | ind i ih =>
    intro hi
    by_cases e : F i = i
    · rw [rootF_fix e, rootF_fix (by rw [← h i hi]; exact e)]
    · have := hF i
      rw [← rootF_next hF i, ← rootF_next hG i, ← h i hi]
      exact ih (F i) (by omega) (by omega)

/-- The numbers of a list as a map. -/
def FL (xs : List Nat) (i : Nat) : Nat := xs.getD i 0
theorem FL_down {xs : List Nat} (h : ∀ i, i < xs.length → xs.getD i 0 ≤ i) : Down (FL xs) := by
  intro i
  unfold FL
  rcases Nat.lt_or_ge i xs.length with h1 | h1
  · exact h i h1
  · rw [List.getD_eq_getElem?_getD, List.getElem?_eq_none h1]; simp
theorem FL_set {xs : List Nat} {p v : Nat} (hp : p < xs.length) (i : Nat) : FL (xs.set p v) i = if i = p then v else FL xs i := by
  unfold FL
  by_cases e : i = p
  · subst e; rw [if_pos rfl, List.getD_eq_getElem?_getD, List.getElem?_set_self hp]; rfl
  · rw [if_neg e, List.getD_eq_getElem?_getD, List.getElem?_set_ne (fun h => e h.symm), List.getD_eq_getElem?_getD]
/-- A forest of m places. -/
structure For (m : Nat) (xs : List Nat) : Prop where
  len : xs.length = m
  dn : Down (FL xs)
theorem For.lt {m : Nat} {xs : List Nat} (h : For m xs) {p : Nat} (hp : p < m) : FL xs p < m := Nat.lt_of_le_of_lt (h.dn p) hp
/-- A way is shortened. -/
theorem For.half {m : Nat} {xs : List Nat} (h : For m xs) {p : Nat} (hp : p < m) : For m (xs.set p (FL xs (FL xs p))) ∧ ∀ i, rootF (FL (xs.set p (FL xs (FL xs p)))) i = rootF (FL xs) i := by
  have hpl : p < xs.length := by rw [h.len]; exact hp
  have hd : Down (FL (xs.set p (FL xs (FL xs p)))) := fun i => by
    rw [FL_set hpl]
    split
    · rename_i e; subst e; exact Nat.le_trans (h.dn _) (h.dn _)
    · exact h.dn i
  refine ⟨⟨by simp [h.len], hd⟩, rootF_congr h.dn hd (fun i => ?_) (fun i hi => ?_)⟩
  · rw [FL_set hpl]
    split
    · rename_i e; subst e; rw [rootF_next h.dn, rootF_next h.dn]
    · exact rootF_next h.dn i
  · rw [FL_set hpl] at hi
    split at hi
    · rename_i e; subst e
      have h1 := h.dn (FL xs i)
      have h2 := h.dn i
      omega
    · exact hi
/-- Two parts are joined. -/
theorem For.join {m : Nat} {xs : List Nat} (h : For m xs) {a b : Nat} (ha : a < m) (hb : b < m) (ra : FL xs a = a) (rb : FL xs b = b) : For m (xs.set (max a b) (min a b)) ∧ ∀ i, rootF (FL (xs.set (max a b) (min a b))) i = joinF a b (rootF (FL xs)) i := by
  have hM : max a b < xs.length := by rw [h.len]; omega
  have hd : Down (FL (xs.set (max a b) (min a b))) := fun i => by
    rw [FL_set hM]
    split
    · rename_i e; subst e; omega
    · exact h.dn i
  refine ⟨⟨by simp [h.len], hd⟩, fun i => ?_⟩
  have mn : (if a ≤ b then a else b) = min a b := by split <;> omega
  induction i using Nat.strongRecOn with
  | ind i ih =>
    by_cases hi : i = max a b
    · have rM : FL xs (max a b) = max a b := by
        rcases (by omega : max a b = a ∨ max a b = b) with e | e
        · rw [e]; exact ra
        · rw [e]; exact rb
      have rN : FL xs (min a b) = min a b := by
        rcases (by omega : min a b = a ∨ min a b = b) with e | e
        · rw [e]; exact ra
        · rw [e]; exact rb
      have hj : joinF a b (rootF (FL xs)) i = min a b := by
        unfold joinF
        rw [hi, rootF_fix rM, if_pos (by omega), mn]
      rw [hj, hi]
      by_cases hab : a = b
      · have e1 : FL (xs.set (max a b) (min a b)) (max a b) = max a b := by rw [FL_set hM, if_pos rfl]; omega
        rw [rootF_fix e1]; omega
      · have e1 : FL (xs.set (max a b) (min a b)) (max a b) = min a b := by rw [FL_set hM, if_pos rfl]
        have e2 : FL (xs.set (max a b) (min a b)) (min a b) = min a b := by rw [FL_set hM, if_neg (by omega)]; exact rN
        rw [← rootF_next hd (max a b), e1, rootF_fix e2]
    · have e0 : FL (xs.set (max a b) (min a b)) i = FL xs i := by rw [FL_set hM, if_neg hi]
      by_cases e : FL xs i = i
      · rw [rootF_fix (by rw [e0]; exact e)]
        unfold joinF
        rw [rootF_fix e]
        split
        · rename_i h1; rw [mn]; omega
        · rfl
      · have := h.dn i
        rw [← rootF_next hd i, e0, ih (FL xs i) (by omega)]
        unfold joinF
        rw [rootF_next h.dn]
/-- One more place, alone. -/
theorem For.push {m : Nat} {xs : List Nat} (h : For m xs) : For (m + 1) (xs ++ [m]) ∧ ∀ i, i < m + 1 → rootF (FL (xs ++ [m])) i = if i = m then m else rootF (FL xs) i := by
  have hl := h.len
  have e : ∀ i, FL (xs ++ [m]) i = if i = m then m else FL xs i := fun i => by
    unfold FL
    by_cases h1 : i < m
    · rw [if_neg (by omega), List.getD_eq_getElem?_getD, List.getElem?_append_left (by omega), List.getD_eq_getElem?_getD]
    · by_cases h2 : i = m
      · subst h2; rw [if_pos rfl, List.getD_eq_getElem?_getD, List.getElem?_append_right (by omega)]; simp [hl]
      · rw [if_neg h2, List.getD_eq_getElem?_getD, List.getElem?_eq_none (by simp; omega), List.getD_eq_getElem?_getD, List.getElem?_eq_none (by omega)]
  have hd : Down (FL (xs ++ [m])) := fun i => by
    rw [e]
    split
    · omega
    · exact h.dn i
  refine ⟨⟨by simp [hl], hd⟩, fun i hi => ?_⟩
  by_cases h1 : i = m
  · rw [if_pos h1, rootF_fix (by rw [e, if_pos h1, h1]), h1]
  · rw [if_neg h1]
    exact rootF_ext (m := m) hd h.dn (fun j hj => by rw [e, if_neg (by omega)]) i (by omega)

end Go.Proofs.Ytlnhfgacgbdjaaa

namespace Go.Proofs.Ytlnhfgacgbdjaaa
open Go.RowKit
set_option linter.unusedVariables false
set_option linter.unusedSimpArgs false

theorem info_int : (Try.prog.info? 3).map (fun i => (i.zero, i.size, i.bytes)) = some (some (.int .i64 0), 1, 8) := by kernel_rfl
def nv (n : Nat) : Value := .int .i64 (n : Int)
/-- A list of places that a slice of the call's own holds. -/
def IN (w : World) (B : Nat) (v : Value) (xs : List Nat) : Prop := w.ownsRow B 3 1 v xs.length (xs.map nv)
theorem IN.form {w : World} {B : Nat} {v : Value} {xs : List Nat} (h : IN w B v xs) : ∃ a c, v = .slice a xs.length c := by
  rcases h.2 with ⟨rfl, h0⟩ | ⟨g, cap, cur, rfl, _⟩
  · exact ⟨none, 0, by rw [h0]⟩
  · exact ⟨_, _, rfl⟩
theorem IN.pos {w : World} {B : Nat} {v : Value} {xs : List Nat} (h : IN w B v xs) (hp : 0 < xs.length) :
    ∃ g cap, v = .slice (some ⟨g, 0, none⟩) xs.length cap ∧ B ≤ g ∧ g < w.heap.size ∧ ∀ j, j < xs.length → w.cell? ⟨g, j, none⟩ = some (.int .i64 (xs.getD j 0 : Nat)) := by
  rcases h.2 with ⟨_, h0⟩ | ⟨g, cap, cur, rfl, hB, hg, hn, hm, hs, ht⟩
  · omega
  · refine ⟨g, cap, rfl, hB, ?_, fun j hj => ?_⟩
    · rcases Nat.lt_or_ge g w.heap.size with h' | h'
      · exact h'
      · rw [Array.getElem?_eq_none h'] at hg; cases hg
    · have := World.ownsRow.cellAt (w := w) (g := g) (cap := cap) h j (by omega)
      rw [this]
      simp [List.getElem?_map, List.getElem?_eq_getElem hj, nv]
theorem IN.kept {w w' : World} {B : Nat} {v : Value} {xs : List Nat} (h : IN w B v xs) (hb : ∀ g, v.ownBlock = some g → w'.heap[g]? = w.heap[g]?) : IN w' B v xs := by
  refine ⟨h.1, ?_⟩
  rcases h.2 with h' | ⟨g, cap, cur, rfl, hB, hg, hr⟩
  · exact Or.inl h'
  · exact Or.inr ⟨g, cap, cur, rfl, hB, by rw [hb g rfl]; exact hg, hr⟩
theorem IN.below {w w' : World} {B : Nat} {v : Value} {xs : List Nat} (h : IN w B v xs) (hb : Below w.heap.size w w') : IN w' B v xs :=
  h.kept fun g hg => hb.block g (World.ownsRow.lt h g hg).2
theorem IN.set {w : World} {B g n c : Nat} {xs : List Nat} (h : IN w B (.slice (some ⟨g, 0, none⟩) n c) xs) {j : Nat} (hj : j < xs.length) (y : Nat) : IN (w.setCell ⟨g, j, none⟩ (.int .i64 (y : Int))) B (.slice (some ⟨g, 0, none⟩) n c) (xs.set j y) := by
  have hn : n = xs.length := by obtain ⟨_, _, e⟩ := h.form; injection e
  subst hn
  have := (World.ownsRow.stored h j (.int .i64 (y : Int))).1
  unfold IN
  rw [List.length_set, List.map_set]
  exact this

theorem IN.pos0 {w : World} {B g n c : Nat} {xs : List Nat} (h : IN w B (.slice (some ⟨g, 0, none⟩) n c) xs) : n = xs.length := by obtain ⟨_, _, e⟩ := h.form; injection e
theorem IN.at {w : World} {B g n c : Nat} {xs : List Nat} (h : IN w B (.slice (some ⟨g, 0, none⟩) n c) xs) {j : Nat} (hj : j < n) : w.cell? ⟨g, j, none⟩ = some (.int .i64 (FL xs j : Nat)) ∧ w.frozen? ⟨g, j, none⟩ = false ∧ g < w.heap.size := by
  have hn := h.pos0
  obtain ⟨g', c', he, hB, hgl, hc⟩ := h.pos (by omega)
  simp only [Value.slice.injEq, Option.some.injEq, Addr.mk.injEq, and_true] at he
  obtain ⟨rfl, _, _⟩ := he
  subst hn
  exact ⟨hc j hj, World.ownsRow.frozenAt h j, hgl⟩
/-- A forest of the call's own, whose ends are those of another. -/
structure UF (m : Nat) (R : Nat → Nat) (B g c : Nat) (w wr : World) (ys : List Nat) : Prop where
  f : For m ys
  r : ∀ i, rootF (FL ys) i = R i
  o : IN wr B (.slice (some ⟨g, 0, none⟩) m c) ys
  on : Only g w wr

set_option maxHeartbeats 1600000 in
set_option maxRecDepth 10000 in
theorem impl_firstPlace (p g n c B : Nat) (R : Nat → Nat) (xs : List Nat) (w : World) (hn : n ≤ 100000) (hp : p < n) (h : Hid (UF n R B g c w w xs)) :
    Calls Try.prog 67 #[.slice (some ⟨g, 0, none⟩) n c, .int .i64 (p : Int)] w fun e w' => e = .returned (.int .i64 (R p : Nat)) ∧ ∃ ys, UF n R B g c w w' ys := by
  go_enter Try.func67, Try.ntmps67
  go_wp2
  go_loopw [1] (fun v wr => ∃ (q : Nat) (ys : List Nat), q < n ∧ v = .int .i64 (q : Int) ∧ Hid (UF n R B g c w wr ys ∧ R q = R p)) (fun v _ => (intOf v).toNat)
  case atStart => exact ⟨p, xs, hp, rfl, h.out, rfl⟩
  case round =>
    clear h
    obtain ⟨q, ys, hq, rfl, hR⟩ := hrel
    obtain ⟨y, hy⟩ : ∃ y, y = FL ys q := ⟨_, rfl⟩
    obtain ⟨z, hz⟩ : ∃ z, z = FL ys y := ⟨_, rfl⟩
    have hyq : y ≤ q := by rw [hy]; exact hR.out.1.f.dn q
    have hzy : z ≤ y := by rw [hz]; exact hR.out.1.f.dn y
    obtain ⟨c0, f0, g0⟩ := hR.out.1.o.at hq
    obtain ⟨c1, _, _⟩ := hR.out.1.o.at (j := y) (by omega)
    rw [← hy] at c0
    rw [← hz] at c1
    have hql : q < ys.length := by rw [hR.out.1.f.len]; exact hq
    have HS : Hid (UF n R B g c w (wr.setCell ⟨g, q, none⟩ (.int .i64 (z : Int))) (ys.set q z) ∧ R z = R p) := by
      have hh := hR.out.1.f.half hq
      rw [← hy, ← hz] at hh
      refine ⟨⟨hh.1, fun i => (hh.2 i).trans (hR.out.1.r i), hR.out.1.o.set hql z, hR.out.1.on.set _ _⟩, ?_⟩
      have r := hR.out.1.r
      rw [← hR.out.2, ← r z, ← r q, hz, rootF_next hR.out.1.f.dn, hy, rootF_next hR.out.1.f.dn]
    have c2 := (HS.out.1.o.at hq).1
    rw [FL_set hql, if_pos rfl] at c2
    have HE : Hid (y = q → R p = q) := fun e => by
      rw [← hR.out.2, ← hR.out.1.r q]
      exact rootF_fix (by rw [← hy]; exact e)
    have HT : Hid (UF n R B g c w wr ys) := hR.out.1
    clear hR hy hz
    have b0 : (0 : Int) ≤ (q : Int) := by omega
    have b1 : (q : Int) < (n : Int) := by omega
    by_cases e : y = q
    · have HP := HE.out e
      subst e
      clear HE HS c1 c2
      go_wp2
      go_returns
      exact ⟨by rw [HP]; rfl, ys, HT.out⟩
    · have n1 : ((y : Int) == (q : Int)) = false := by simp; omega
      have b2 : (0 : Int) ≤ (y : Int) := by omega
      have b3 : (y : Int) < (n : Int) := by omega
      clear HE HT
      go_wp2
      go_roundw
      case rel => exact ⟨z, ys.set q z, by omega, rfl, HS.out⟩
      case measure => simp [intOf]; omega

theorem Only.trans {g : Nat} {w w' w'' : World} (h : Only g w w') (k : Only g w' w'') : Only g w w'' := ⟨k.os.trans h.os, k.tape.trans h.tape, k.output.trans h.output, k.size.trans h.size, fun j hj => (k.block j hj).trans (h.block j hj)⟩
theorem UF.rebase {m : Nat} {R : Nat → Nat} {B g c : Nat} {w wr : World} {ys : List Nat} (h : UF m R B g c w wr ys) : UF m R B g c wr wr ys := ⟨h.f, h.r, h.o, Only.refl _ _⟩
theorem UF.join {m : Nat} {R : Nat → Nat} {B g c : Nat} {w wr : World} {ys : List Nat} (h : UF m R B g c w wr ys) {p q a b : Nat} (hp : p < m) (hq : q < m) (ea : a = R p) (eb : b = R q) : UF m (joinF a b R) B g c w (wr.setCell ⟨g, max a b, none⟩ (.int .i64 ((min a b : Nat) : Int))) (ys.set (max a b) (min a b)) ∧ a < m ∧ b < m := by
  have root : ∀ i, FL ys (R i) = R i := fun i => by rw [← h.r i]; exact rootF_root h.f.dn i
  have le : ∀ i, R i ≤ i := fun i => by rw [← h.r i]; exact rootF_le h.f.dn i
  have l1 := le p
  have l2 := le q
  have ha : a < m := by omega
  have hb : b < m := by omega
  have hj := h.f.join ha hb (by rw [ea]; exact root p) (by rw [eb]; exact root q)
  refine ⟨⟨hj.1, fun i => ?_, h.o.set (by rw [h.f.len]; omega) _, h.on.set _ _⟩, ha, hb⟩
  rw [hj.2 i]
  have : rootF (FL ys) = R := funext h.r
  rw [this]

set_option maxHeartbeats 1600000 in
set_option maxRecDepth 10000 in
theorem impl_joinP (p q g n c B : Nat) (R : Nat → Nat) (xs : List Nat) (w : World) (hn : n ≤ 100000) (hp : p < n) (hq : q < n) (h : Hid (UF n R B g c w w xs)) :
    Calls Try.prog 55 #[.slice (some ⟨g, 0, none⟩) n c, .int .i64 (p : Int), .int .i64 (q : Int)] w fun e w' => (∃ v, e = .returned v) ∧ ∃ ys, UF n (joinF (R p) (R q) R) B g c w w' ys := by
  go_enter Try.func55, Try.ntmps55
  go_wp2_with (fail)
  refine (impl_firstPlace p g n c B R xs _ hn hp h.out).mono ?_
  rintro e w1 ⟨rfl, ys, h1⟩
  have H1 : Hid (UF n R B g c w w1 ys) := h1
  clear h1 h
  go_wp2_with (fail)
  refine (impl_firstPlace q g n c B R ys _ hn hq H1.out.rebase).mono ?_
  rintro e w2 ⟨rfl, zs, h2⟩
  have H2 : Hid (UF n R B g c w w2 zs) := ⟨h2.f, h2.r, h2.o, H1.out.on.trans h2.on⟩
  clear h2 H1
  obtain ⟨a, ea⟩ : ∃ a, a = R p := ⟨_, rfl⟩
  obtain ⟨b, eb⟩ : ∃ b, b = R q := ⟨_, rfl⟩
  obtain ⟨h3, ha, hb⟩ := H2.out.join hp hq ea eb
  obtain ⟨c0, f0, g0⟩ := H2.out.o.at (j := max a b) (by omega)
  have H3 : Hid (∃ ys, UF n (joinF (R p) (R q) R) B g c w (w2.setCell ⟨g, max a b, none⟩ (.int .i64 ((min a b : Nat) : Int))) ys) := by rw [← ea, ← eb]; exact ⟨_, h3⟩
  rw [← ea, ← eb]
  clear h3 ea eb
  by_cases hab : a < b
  · rw [show max a b = b by omega] at f0 c0
    rw [show max a b = b by omega, show min a b = a by omega] at H3
    have b0 : (0 : Int) ≤ (b : Int) := by omega
    have b1 : (b : Int) < (n : Int) := by omega
    have b2 : (a : Int) < (b : Int) := by omega
    go_wp2
    go_returns
    exact ⟨⟨_, rfl⟩, H3.out⟩
  · rw [show max a b = a by omega] at f0 c0
    rw [show max a b = a by omega, show min a b = b by omega] at H3
    have b0 : (0 : Int) ≤ (a : Int) := by omega
    have b1 : (a : Int) < (n : Int) := by omega
    by_cases e : a = b
    · subst e
      go_wp2
      go_returns
      exact ⟨⟨_, rfl⟩, H3.out⟩
    · have b2 : (b : Int) < (a : Int) := by omega
      go_wp2
      go_returns
      exact ⟨⟨_, rfl⟩, H3.out⟩

end Go.Proofs.Ytlnhfgacgbdjaaa
