/- Proved here: rows that are read, none longer than its room. No condition on the program. (And ahead of it: Proved here: lists of lists of numbers: how they are read. No condition on the program.) (And ahead of it: Proved here: grids of the call's own whose first rows are made: how a place is read and turned. No condition on the program.) -/
import Derived.Test.YtmpbcdolikafpaaSpM
import Derived.LoopTactic
import Derived.OpenShut
import Derived.Lib.SmallJoins
namespace Go.Proofs.Ytmpbcdolikafpaa
open Go.RowKit
set_option linter.unusedVariables false
set_option linter.unusedSimpArgs false

theorem getD_ltW {α : Type} {s : List α} {k : Nat} {d : α} (h : k < s.length) : s.getD k d = s[k] := by
  rw [List.getD_eq_getElem?_getD, List.getElem?_eq_getElem h]; rfl
/-- The number at a place. -/
def at2W (L : List (List Int)) (j m : Nat) : Int := (L.getD j []).getD m 0
def set2W (L : List (List Int)) (j m : Nat) (y : Int) : List (List Int) := L.set j ((L.getD j []).set m y)
/-- So many rows, as wide each. -/
structure ShW (n W : Nat) (L : List (List Int)) : Prop where
  len : L.length = n
  wd : ∀ j, j < n → (L.getD j []).length = W
theorem set2W_row {L : List (List Int)} {j m : Nat} {y : Int} (i : Nat) : (set2W L j m y).getD i [] = if i = j ∧ j < L.length then (L.getD j []).set m y else L.getD i [] := by
  unfold set2W
  by_cases h : i = j
  · subst h
    by_cases hl : i < L.length
    · rw [if_pos ⟨rfl, hl⟩, List.getD_eq_getElem?_getD, List.getElem?_set_self hl]; rfl
    · rw [if_neg (fun e => hl e.2), List.set_eq_of_length_le (by omega)]
  · rw [if_neg (fun e => h e.1), List.getD_eq_getElem?_getD, List.getElem?_set_ne (by omega), ← List.getD_eq_getElem?_getD]
theorem ShW.put {n W : Nat} {L : List (List Int)} (h : ShW n W L) (j m : Nat) (y : Int) : ShW n W (set2W L j m y) := by
  refine ⟨by unfold set2W; rw [List.length_set]; exact h.len, fun i hi => ?_⟩
  rw [set2W_row]
  by_cases e : i = j ∧ j < L.length
  · rw [if_pos e, List.length_set, ← e.1]; exact h.wd i hi
  · rw [if_neg e]; exact h.wd i hi
theorem at2W_set2 {n W : Nat} {L : List (List Int)} (h : ShW n W L) {j m : Nat} (hj : j < n) (hm : m < W) (y : Int) (i k : Nat) : at2W (set2W L j m y) i k = if i = j ∧ k = m then y else at2W L i k := by
  unfold at2W
  rw [set2W_row]
  by_cases e : i = j
  · subst e
    rw [if_pos ⟨rfl, by rw [h.len]; exact hj⟩]
    by_cases e2 : k = m
    · subst e2
      rw [if_pos ⟨rfl, rfl⟩, List.getD_eq_getElem?_getD, List.getElem?_set_self (by rw [h.wd i hj]; exact hm)]; rfl
    · rw [if_neg (fun q => e2 q.2), List.getD_eq_getElem?_getD, List.getElem?_set_ne (by omega), ← List.getD_eq_getElem?_getD]
  · rw [if_neg (fun q => e q.1), if_neg (fun q => e q.1)]
theorem gridW_ext {n W : Nat} {L L' : List (List Int)} (h : ShW n W L) (h' : ShW n W L') (he : ∀ j m, j < n → m < W → at2W L j m = at2W L' j m) : L = L' := by
  apply List.ext_getElem (by rw [h.len, h'.len])
  intro j h1 h2
  have hj : j < n := by rw [← h.len]; exact h1
  have e1 := h.wd j hj
  have e2 := h'.wd j hj
  rw [getD_ltW h1] at e1
  rw [getD_ltW h2] at e2
  apply List.ext_getElem (by rw [e1, e2])
  intro m h3 h4
  have := he j m hj (by rw [← e1]; exact h3)
  unfold at2W at this
  rw [getD_ltW h1, getD_ltW h2, getD_ltW h3, getD_ltW h4] at this
  exact this
/-- A grid of the call's own: its first k rows are so wide. -/
structure GVP (w : World) (B g n c W k : Nat) (L : List (List Int)) (vs : List Value) : Prop where
  ri : RI w B (.slice (some ⟨g, 0, none⟩) n c) L vs
  len : L.length = n
  wd : ∀ j, j < k → (L.getD j []).length = W
  kn : k ≤ n
  wp : 0 < W
theorem GVP.below {w w' : World} {B g n c W k : Nat} {L : List (List Int)} {vs : List Value} (h : GVP w B g n c W k L vs) (hb : Below w.heap.size w w') : GVP w' B g n c W k L vs := ⟨h.ri.below hb, h.len, h.wd, h.kn, h.wp⟩
theorem GVP.at {w : World} {B g n c W k : Nat} {L : List (List Int)} {vs : List Value} (h : GVP w B g n c W k L vs) {j : Nat} (hj : j < k) :
    ∃ gj cj, rat vs j = .slice (some ⟨gj, 0, none⟩) W cj ∧ w.cell? ⟨g, j, none⟩ = some (.slice (some ⟨gj, 0, none⟩) W cj) ∧ g < w.heap.size ∧ gj < w.heap.size ∧ B ≤ gj ∧ B ≤ g ∧ gj ≠ g ∧ ∀ m, m < W → w.cell? ⟨gj, m, none⟩ = some (.int .i64 (at2W L j m)) ∧ w.frozen? ⟨gj, m, none⟩ = false := by
  have hl := h.len
  have hkn := h.kn
  have hw := h.wd j hj
  have hb := h.ri.bx j (by omega)
  obtain ⟨g', c', he, hB, hg, hx⟩ := h.ri.pos (by omega)
  injection he with he1 he2 he3
  injection he1 with he4
  injection he4 with he5
  subst he5
  obtain ⟨gj, cj, hr, hBj, hlj, hc⟩ := hb.pos (by rw [hw]; exact h.wp)
  rw [hw] at hr
  have h1 := hx j (by omega)
  rw [hr] at h1
  refine ⟨gj, cj, hr, h1, hg, hlj, hBj, hB, ?_, fun m hm => ⟨?_, ?_⟩⟩
  · exact h.ri.rowNot (g := g) rfl (h.ri.bx j (by omega)) (by rw [hr]; rfl)
  · rw [hc m (by rw [hw]; exact hm)]; rfl
  · have ho : w.ownsRow B 2 1 (.slice (some ⟨gj, 0, none⟩) W cj) W ((L.getD j []).map (Value.int .i64)) := by
      have := hb; unfold IS at this; rw [hw, hr] at this; exact this
    exact World.ownsRow.frozenAt ho m
theorem GVP.set {w : World} {B g n c W k : Nat} {L : List (List Int)} {vs : List Value} (h : GVP w B g n c W k L vs) {j gj cj : Nat} (hj : j < k) (hr : rat vs j = .slice (some ⟨gj, 0, none⟩) W cj) (m : Nat) (y : Int) : GVP (w.setCell ⟨gj, m, none⟩ (.int .i64 y)) B g n c W k (set2W L j m y) vs := by
  have hl := h.len
  have hkn := h.kn
  refine ⟨?_, by unfold set2W; rw [List.length_set]; exact hl, fun i hi => ?_, h.kn, h.wp⟩
  · have hb := h.ri.bx j (by omega)
    refine h.ri.turn (by omega) ?_ fun q hq => ?_
    · rw [hr] at hb ⊢
      exact hb.setR m y
    · rw [hr] at hq
      exact heap_setCell_other _ _ _ _ (by intro e; exact hq (by rw [e]; rfl))
  · rw [set2W_row]
    by_cases e : i = j ∧ j < L.length
    · rw [if_pos e, List.length_set, ← e.1]; exact h.wd i hi
    · rw [if_neg e]; exact h.wd i hi
theorem GVP.bel {w W0 : World} {B g n c W k : Nat} {L : List (List Int)} {vs : List Value} (h : GVP w B g n c W k L vs) {j gj cj : Nat} (hj : j < k) (hr : rat vs j = .slice (some ⟨gj, 0, none⟩) W cj) (m : Nat) (y : Int) (hb : Below B W0 w) : Below B W0 (w.setCell ⟨gj, m, none⟩ (.int .i64 y)) := by
  obtain ⟨gj', cj', hr', _, _, _, hB, _⟩ := h.at hj
  rw [hr] at hr'
  injection hr' with e1
  injection e1 with e2
  injection e2 with e3
  subst e3
  exact hb.setCell hB _
theorem GVP.at2 {w : World} {B g n c W k : Nat} {L : List (List Int)} {vs : List Value} (h : GVP w B g n c W k L vs) {j m : Nat} (hj : j < k) (hm : m < W) (y : Int) (i q : Nat) : at2W (set2W L j m y) i q = if i = j ∧ q = m then y else at2W L i q := by
  have hl := h.len
  have hkn := h.kn
  unfold at2W
  rw [set2W_row]
  by_cases e : i = j
  · subst e
    rw [if_pos ⟨rfl, by omega⟩]
    by_cases e2 : q = m
    · subst e2
      rw [if_pos ⟨rfl, rfl⟩, List.getD_eq_getElem?_getD, List.getElem?_set_self (by rw [h.wd i hj]; exact hm)]; rfl
    · rw [if_neg (fun q => e2 q.2), List.getD_eq_getElem?_getD, List.getElem?_set_ne (by omega), ← List.getD_eq_getElem?_getD]
  · rw [if_neg (fun q => e q.1), if_neg (fun q => e q.1)]
/-- One row more, of noughts. -/
theorem GVP.more {wr w3 : World} {B g n c W k : Nat} {L : List (List Int)} {vs : List Value} (h : GVP wr B g n c W k L vs) (hk : k < n) (hb : Below wr.heap.size wr w3) (hB : B ≤ wr.heap.size) {u : Value} (hu : IS w3 wr.heap.size u (List.replicate W 0)) :
    GVP (w3.setCell ⟨g, k, none⟩ u) B g n c W (k + 1) (L.set k (List.replicate W 0)) (vs.set k u) ∧ (∀ j m, j < k → at2W (L.set k (List.replicate W 0)) j m = at2W L j m) ∧ ∀ m, at2W (L.set k (List.replicate W 0)) k m = 0 := by
  have hl := h.len
  have r1 : ∀ i, i ≠ k → (L.set k (List.replicate W (0 : Int))).getD i [] = L.getD i [] := fun i hi => by
    rw [List.getD_eq_getElem?_getD, List.getElem?_set_ne (by omega), ← List.getD_eq_getElem?_getD]
  have r2 : (L.set k (List.replicate W (0 : Int))).getD k [] = List.replicate W 0 := by
    rw [List.getD_eq_getElem?_getD, List.getElem?_set_self (by omega)]; rfl
  refine ⟨⟨h.ri.put hb hB (by omega) hu, by rw [List.length_set]; exact hl, fun j hj => ?_, hk, h.wp⟩, fun j m hj => ?_, fun m => ?_⟩
  · by_cases e : j = k
    · rw [e, r2, List.length_replicate]
    · rw [r1 j e]; exact h.wd j (by omega)
  · unfold at2W; rw [r1 j (by omega)]
  · unfold at2W; rw [r2, List.getD_eq_getElem?_getD, List.getElem?_replicate]; split <;> rfl

end Go.Proofs.Ytmpbcdolikafpaa

namespace Go.Proofs.Ytmpbcdolikafpaa
open Go.ChangeShapes Go.WideShapes Go.ChangeAt Go.RowKit Go.Joins Go.Deep
set_option linter.unusedVariables false
set_option linter.unusedSimpArgs false

/-- A slice that can be read as a list of lists of numbers. -/
def RdR (w : World) (v : Value) (ls : List (List Int)) : Prop :=
  ∃ a c, v = .slice a ls.length c ∧ (0 < ls.length → ∃ g o, a = some ⟨g, o, none⟩ ∧ g < w.heap.size ∧ ∀ j, j < ls.length → ∃ u, w.cell? ⟨g, o + j, none⟩ = some u ∧ RdI w u (ls.getD j []))
theorem RdR.form {w : World} {v : Value} {ls : List (List Int)} (h : RdR w v ls) : ∃ a c, v = .slice a ls.length c := by
  obtain ⟨a, c, rfl, _⟩ := h; exact ⟨a, c, rfl⟩
theorem RdR.len {w : World} {a : Option Addr} {n c : Nat} {ls : List (List Int)} (h : RdR w (.slice a n c) ls) : n = ls.length := by
  obtain ⟨_, _, e⟩ := h.form; injection e
theorem RdR.below {w w' : World} {v : Value} {ls : List (List Int)} (h : RdR w v ls) (hb : Below w.heap.size w w') : RdR w' v ls := by
  obtain ⟨a, c, rfl, h⟩ := h
  refine ⟨a, c, rfl, fun hn => ?_⟩
  obtain ⟨g, o, rfl, hg, hj⟩ := h hn
  refine ⟨g, o, rfl, Nat.lt_of_lt_of_le hg hb.size, fun j hl => ?_⟩
  obtain ⟨u, h1, h2⟩ := hj j hl
  exact ⟨u, (hb.cell (p := ⟨g, o + j, none⟩) hg).trans h1, h2.below hb⟩
theorem RdR.at {w : World} {a : Option Addr} {n c : Nat} {ls : List (List Int)} (h : RdR w (.slice a n c) ls) {j : Nat} (hj : j < n) :
    ∃ g o ua un uc, a = some ⟨g, o, none⟩ ∧ g < w.heap.size ∧ w.cell? ⟨g, o + j, none⟩ = some (.slice ua un uc) ∧ un = (ls.getD j []).length ∧ RdI w (.slice ua un uc) (ls.getD j []) := by
  have hn := h.len
  obtain ⟨a', c', e, h⟩ := h
  injection e with e1 e2 e3
  subst e1
  obtain ⟨g, o, rfl, hg, hx⟩ := h (by omega)
  obtain ⟨u, h1, h2⟩ := hx j (by omega)
  obtain ⟨ua, uc, rfl⟩ := h2.form
  exact ⟨g, o, ua, _, uc, rfl, hg, h1, rfl, h2⟩
theorem RI.rd {w : World} {B : Nat} {v : Value} {ls : List (List Int)} {vs : List Value} (h : RI w B v ls vs) : RdR w v ls := by
  obtain ⟨a, c, rfl⟩ := h.form
  refine ⟨a, c, rfl, fun hp => ?_⟩
  obtain ⟨g, cap, e, hB, hg, hx⟩ := h.pos hp
  injection e with e1 e2 e3
  subst e1
  exact ⟨g, 0, rfl, hg, fun j hj => ⟨_, by rw [Nat.zero_add]; exact hx j hj, (h.bx j hj).rg⟩⟩

/-- How many numbers the first i rows have. -/
def totR (ls : List (List Int)) : Nat → Nat
  | 0 => 0
  | i + 1 => totR ls i + (ls.getD i []).length
theorem totR_mono (ls : List (List Int)) {i j : Nat} (h : i ≤ j) : totR ls i ≤ totR ls j := by
  induction j with
  | zero => rw [show i = 0 by omega]; exact Nat.le_refl _
  | succ j ih =>
    rcases Nat.lt_or_ge i (j + 1) with h1 | h1
    · have := ih (by omega); rw [totR]; omega
    · rw [show i = j + 1 by omega]; exact Nat.le_refl _
theorem totR_each (ls : List (List Int)) {i : Nat} (h : i < ls.length) : (ls.getD i []).length ≤ totR ls ls.length := by
  have := totR_mono ls (show i + 1 ≤ ls.length from h)
  rw [totR] at this
  omega
/-- Not too many rows and numbers in all. -/
structure SmR (ls : List (List Int)) : Prop where
  len : ls.length ≤ 1048576
  tot : totR ls ls.length ≤ 1048576
theorem SmR.row {ls : List (List Int)} (h : SmR ls) (i : Nat) : (ls.getD i []).length ≤ 1048576 := by
  by_cases hi : i < ls.length
  · exact Nat.le_trans (totR_each ls hi) h.tot
  · rw [List.getD_eq_getElem?_getD, List.getElem?_eq_none (by omega)]; simp
theorem SmR.upto {ls : List (List Int)} (h : SmR ls) {i : Nat} (hi : i ≤ ls.length) : totR ls i ≤ 1048576 := Nat.le_trans (totR_mono ls hi) h.tot

end Go.Proofs.Ytmpbcdolikafpaa

namespace Go.Proofs.Ytmpbcdolikafpaa
open Go.RowKit
set_option linter.unusedVariables false
set_option linter.unusedSimpArgs false

/-- Rows that are read: none is longer than its room. -/
def RdC (w : World) (v : Value) (ls : List (List Int)) : Prop :=
  RdR w v ls ∧ (∀ a n c, v = .slice a n c → n ≤ c) ∧ ∀ g o n c j ua un uc, v = .slice (some ⟨g, o, none⟩) n c → j < n → w.cell? ⟨g, o + j, none⟩ = some (.slice ua un uc) → un ≤ uc
theorem RdC.below {w w' : World} {v : Value} {ls : List (List Int)} (h : RdC w v ls) (hb : Below w.heap.size w w') : RdC w' v ls := by
  refine ⟨h.1.below hb, h.2.1, fun g o n c j ua un uc e hj hc => ?_⟩
  subst e
  obtain ⟨g', o', _, _, _, e1, hg, _⟩ := h.1.at hj
  injection e1 with e1
  injection e1 with e2 e3
  subst e2 e3
  rw [hb.cell (p := ⟨g, o + j, none⟩) hg] at hc
  exact h.2.2 g o n c j ua un uc rfl hj hc
theorem RI.rdc {w : World} {B : Nat} {v : Value} {ls : List (List Int)} {vs : List Value} (h : RI w B v ls vs) : RdC w v ls := by
  refine ⟨h.rd, fun a n c e => ?_, fun g o n c j ua un uc e hj hc => ?_⟩
  · rcases h.o.2 with ⟨e1, e2⟩ | ⟨g, cap, cur, e1, _, _, hn, _⟩
    · rw [e1] at e; injection e with _ e3 e4; omega
    · rw [e1] at e; injection e with _ e3 e4; omega
  · subst e
    have hnl : n = ls.length := h.rd.len
    obtain ⟨g', cap, e1, _, _, hx⟩ := h.pos (by omega)
    injection e1 with e1 e2 e3
    injection e1 with e1
    injection e1 with e4 e5
    subst e4 e5
    have h1 := hx j (by omega)
    rw [Nat.zero_add] at hc
    rw [h1] at hc
    injection hc with hc
    have hb := h.bx j (by omega)
    rw [hc] at hb
    rcases hb.2 with ⟨e6, e7⟩ | ⟨g2, cap2, cur2, e6, _, _, hn2, _⟩
    · injection e6 with _ e8 e9; omega
    · injection e6 with _ e8 e9; omega

end Go.Proofs.Ytmpbcdolikafpaa
