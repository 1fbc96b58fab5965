/- Proved here: grids of the call's own: how a place is read and turned. No condition on the program. -/
import Derived.Test.YtkdpifplhhcpaaaCpB
namespace Go.Proofs.Ytkdpifplhhcpaaa
open Go.RowKit
set_option linter.unusedVariables false
set_option linter.unusedSimpArgs false

/-- The number at a place. -/
def at2 (L : List (List Int)) (j m : Nat) : Int := (L.getD j []).getD m 0
def set2 (L : List (List Int)) (j m : Nat) (y : Int) : List (List Int) := L.set j ((L.getD j []).set m y)
/-- So many rows, as wide each. -/
structure Sh (n W : Nat) (L : List (List Int)) : Prop where
  len : L.length = n
  wd : ∀ j, j < n → (L.getD j []).length = W
theorem set2_row {L : List (List Int)} {j m : Nat} {y : Int} (i : Nat) : (set2 L j m y).getD i [] = if i = j ∧ j < L.length then (L.getD j []).set m y else L.getD i [] := by
  unfold set2
  by_cases h : i = j
  · subst h
    by_cases hl : i < L.length
    · rw [if_pos ⟨rfl, hl⟩, List.getD_eq_getElem?_getD, List.getElem?_set_self hl]; rfl
    · rw [if_neg (fun e => hl e.2), List.set_eq_of_length_le (by omega)]
  · rw [if_neg (fun e => h e.1), List.getD_eq_getElem?_getD, List.getElem?_set_ne (by omega), ← List.getD_eq_getElem?_getD]
theorem Sh.set2 {n W : Nat} {L : List (List Int)} (h : Sh n W L) (j m : Nat) (y : Int) : Sh n W (set2 L j m y) := by
  refine ⟨by unfold Proofs.Ytkdpifplhhcpaaa.set2; rw [List.length_set]; exact h.len, fun i hi => ?_⟩
  rw [set2_row]
  by_cases e : i = j ∧ j < L.length
  · rw [if_pos e, List.length_set, ← e.1]; exact h.wd i hi
  · rw [if_neg e]; exact h.wd i hi
theorem at2_set2 {n W : Nat} {L : List (List Int)} (h : Sh n W L) {j m : Nat} (hj : j < n) (hm : m < W) (y : Int) (i k : Nat) : at2 (Proofs.Ytkdpifplhhcpaaa.set2 L j m y) i k = if i = j ∧ k = m then y else at2 L i k := by
  unfold at2
  rw [set2_row]
  by_cases e : i = j
  · subst e
    rw [if_pos ⟨rfl, by rw [h.len]; exact hj⟩]
    by_cases e2 : k = m
    · subst e2
      rw [if_pos ⟨rfl, rfl⟩, List.getD_eq_getElem?_getD, List.getElem?_set_self (by rw [h.wd i hj]; exact hm)]; rfl
    · rw [if_neg (fun q => e2 q.2), List.getD_eq_getElem?_getD, List.getElem?_set_ne (by omega), ← List.getD_eq_getElem?_getD]
  · rw [if_neg (fun q => e q.1), if_neg (fun q => e q.1)]
theorem grid_ext {n W : Nat} {L L' : List (List Int)} (h : Sh n W L) (h' : Sh n W L') (he : ∀ j m, j < n → m < W → at2 L j m = at2 L' j m) : L = L' := by
  apply List.ext_getElem (by rw [h.len, h'.len])
  intro j h1 h2
  have hj : j < n := by rw [← h.len]; exact h1
  have e1 := h.wd j hj
  have e2 := h'.wd j hj
  rw [getD_lt h1] at e1
  rw [getD_lt h2] at e2
  apply List.ext_getElem (by rw [e1, e2])
  intro m h3 h4
  have := he j m hj (by rw [← e1]; exact h3)
  unfold at2 at this
  rw [getD_lt h1, getD_lt h2, getD_lt h3, getD_lt h4] at this
  exact this
theorem GG.sh {M : Int} {ls : List (List Int)} (h : GG M ls) : Sh ls.length (ls.getD 0 []).length ls := ⟨rfl, fun j hj => h.row hj⟩
/-- Each number turned. -/
def tnL (T : Int → Int) (ls : List (List Int)) : List (List Int) := ls.map (List.map T)
theorem tnL_row (T : Int → Int) (ls : List (List Int)) (j : Nat) : (tnL T ls).getD j [] = (ls.getD j []).map T := by
  unfold tnL
  rw [List.getD_eq_getElem?_getD, List.getElem?_map, List.getD_eq_getElem?_getD]
  cases ls[j]? <;> rfl
theorem tnL_sh {n W : Nat} {T : Int → Int} {ls : List (List Int)} (h : Sh n W ls) : Sh n W (tnL T ls) := by
  refine ⟨by unfold tnL; rw [List.length_map]; exact h.len, fun j hj => ?_⟩
  rw [tnL_row, List.length_map]; exact h.wd j hj
theorem tnL_at {n W : Nat} {T : Int → Int} {ls : List (List Int)} (h : Sh n W ls) {j m : Nat} (hj : j < n) (hm : m < W) : at2 (tnL T ls) j m = T (at2 ls j m) := by
  unfold at2
  have hl : m < (ls.getD j []).length := by rw [h.wd j hj]; exact hm
  rw [tnL_row, getD_lt (by rw [List.length_map]; exact hl), getD_lt hl, List.getElem_map]

/-- A grid of the call's own. -/
structure GV (w : World) (B g n c W : Nat) (L : List (List Int)) (vs : List Value) : Prop where
  ri : RI w B (.slice (some ⟨g, 0, none⟩) n c) L vs
  sh : Sh n W L
  wp : 0 < W
theorem GV.below {w w' : World} {B g n c W : Nat} {L : List (List Int)} {vs : List Value} (h : GV w B g n c W L vs) (hb : Below w.heap.size w w') : GV w' B g n c W L vs := ⟨h.ri.below hb, h.sh, h.wp⟩
theorem GV.at {w : World} {B g n c W : Nat} {L : List (List Int)} {vs : List Value} (h : GV w B g n c W L vs) {j : Nat} (hj : j < n) :
    ∃ gj cj, rat vs j = .slice (some ⟨gj, 0, none⟩) W cj ∧ w.cell? ⟨g, j, none⟩ = some (.slice (some ⟨gj, 0, none⟩) W cj) ∧ g < w.heap.size ∧ gj < w.heap.size ∧ B ≤ gj ∧ B ≤ g ∧ gj ≠ g ∧ ∀ m, m < W → w.cell? ⟨gj, m, none⟩ = some (.int .i64 (at2 L j m)) ∧ w.frozen? ⟨gj, m, none⟩ = false := by
  have hl := h.sh.len
  have hw := h.sh.wd j hj
  have hb := h.ri.bx j (by omega)
  obtain ⟨g', c', he, hB, hg, hx⟩ := h.ri.pos (by omega)
  injection he with he1 he2 he3
  injection he1 with he4
  injection he4 with he5
  subst he5
  obtain ⟨gj, cj, hr, hBj, hlj, hc⟩ := hb.pos (by rw [hw]; exact h.wp)
  rw [hw] at hr
  have h1 := hx j (by omega)
  rw [hr] at h1
  refine ⟨gj, cj, hr, h1, hg, hlj, hBj, hB, ?_, fun m hm => ⟨?_, ?_⟩⟩
  · exact h.ri.rowNot (g := g) rfl (h.ri.bx j (by omega)) (by rw [hr]; rfl)
  · rw [hc m (by rw [hw]; exact hm)]; rfl
  · have ho : w.ownsRow B 2 1 (.slice (some ⟨gj, 0, none⟩) W cj) W ((L.getD j []).map (Value.int .i64)) := by
      have := hb; unfold IS at this; rw [hw, hr] at this; exact this
    exact World.ownsRow.frozenAt ho m
theorem GV.set {w : World} {B g n c W : Nat} {L : List (List Int)} {vs : List Value} (h : GV w B g n c W L vs) {j gj cj : Nat} (hj : j < n) (hr : rat vs j = .slice (some ⟨gj, 0, none⟩) W cj) (m : Nat) (y : Int) : GV (w.setCell ⟨gj, m, none⟩ (.int .i64 y)) B g n c W (set2 L j m y) vs := by
  refine ⟨?_, h.sh.set2 j m y, h.wp⟩
  have hl := h.sh.len
  have hb := h.ri.bx j (by omega)
  refine h.ri.turn (by omega) ?_ fun q hq => ?_
  · rw [hr] at hb ⊢
    exact hb.setR m y
  · rw [hr] at hq
    exact heap_setCell_other _ _ _ _ (by intro e; exact hq (by rw [e]; rfl))
theorem GV.bel {w W0 : World} {B g n c W : Nat} {L : List (List Int)} {vs : List Value} (h : GV w B g n c W L vs) {j gj cj : Nat} (hj : j < n) (hr : rat vs j = .slice (some ⟨gj, 0, none⟩) W cj) (m : Nat) (y : Int) (hb : Below B W0 w) : Below B W0 (w.setCell ⟨gj, m, none⟩ (.int .i64 y)) := by
  obtain ⟨gj', cj', hr', _, _, _, hB, _⟩ := h.at hj
  rw [hr] at hr'
  injection hr' with e1
  injection e1 with e2
  injection e2 with e3
  subst e3
  exact hb.setCell hB _

end Go.Proofs.Ytkdpifplhhcpaaa
