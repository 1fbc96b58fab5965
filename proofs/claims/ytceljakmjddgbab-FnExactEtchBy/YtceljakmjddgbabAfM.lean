/- Proved here: columns under way. No condition on the program. -/
import Derived.Test.YtceljakmjddgbabLyW
namespace Go.Proofs.Ytceljakmjddgbab
open Go.RowKit
set_option linter.unusedVariables false
set_option linter.unusedSimpArgs false

/-- The columns before column i are whole, of column i the first k layers are put. -/
def aftK (lays : Nat → List Lay) (n i k : Nat) : List (List Flm) := (List.range n).map fun q => if q < i then putA (lays q) (lays q).length else if q = i then putA (lays i) k else []
theorem aftK_len (lays : Nat → List Lay) (n i k : Nat) : (aftK lays n i k).length = n := by simp [aftK]
theorem aftK_at (lays : Nat → List Lay) {n i k : Nat} (h : i < n) : (aftK lays n i k).getD i [] = putA (lays i) k := by simp [aftK, h]
theorem aftK_zero (lays : Nat → List Lay) (n : Nat) : aftK lays n 0 0 = List.replicate n [] := by
  apply List.ext_getElem
  · simp [aftK]
  · intro j h1 h2
    simp [aftK, putA]
theorem aftK_next (lays : Nat → List Lay) (n i : Nat) : aftK lays n i (lays i).length = aftK lays n (i + 1) 0 := by
  unfold aftK
  apply List.map_congr_left
  intro q _
  rcases Nat.lt_trichotomy q i with h | h | h
  · rw [if_pos h, if_pos (by omega)]
  · subst h
    rw [if_neg (by omega), if_pos rfl, if_pos (by omega)]
  · rw [if_neg (by omega), if_neg (by omega), if_neg (by omega)]
    split
    · rw [putA]
    · rfl
theorem aftK_done (lays : Nat → List Lay) (n : Nat) : aftK lays n n 0 = aftS lays n := by
  unfold aftK aftS
  apply List.map_congr_left
  intro q hq
  rw [if_pos (by simpa using hq)]
theorem aftK_set (lays : Nat → List Lay) {n i k : Nat} (h : i < n) : (aftK lays n i k).set i (putA (lays i) (k + 1)) = aftK lays n i (k + 1) := by
  apply List.ext_getElem
  · simp [aftK]
  · intro j h1 h2
    rw [List.length_set, aftK_len] at h1
    rw [List.getElem_set]
    split
    · rename_i e; subst e; simp [aftK]
    · simp only [aftK, List.getElem_map, List.getElem_range]
      rename_i e
      split
      · rfl
      · rw [if_neg (fun h => e h.symm), if_neg (fun h => e h.symm)]
theorem RoF.empt {w : World} {B g n : Nat} (h : w.ownsRow B 62 1 (.slice (some ⟨g, 0, none⟩) n n) n (List.replicate n (.slice none 0 0))) : RoF w B (.slice (some ⟨g, 0, none⟩) n n) (List.replicate n []) (List.replicate n (.slice none 0 0)) := by
  have hr : ∀ i, rat (List.replicate n (Value.slice none 0 0)) i = .slice none 0 0 := fun i => by
    unfold rat
    rw [List.getD_eq_getElem?_getD, List.getElem?_replicate]
    split <;> rfl
  refine ⟨by simpa using h, fun i hi => ?_, fun i j hij hi hj g' hg => ?_⟩
  · rw [hr]
    have e : (List.replicate n ([] : List Flm)).getD i [] = [] := by
      rw [List.getD_eq_getElem?_getD, List.getElem?_replicate]
      split <;> rfl
    rw [e]
    exact og_nil _ _ _ _ _
  · rw [hr] at hg; cases hg

/-- What a step over columns holds: its columns and its book. -/
structure AS (V : World) (gC gG n : Nat) (ls : List (List Flm)) (xs : List Int) (w : World) : Prop where
  ro : ∃ vs, RoF w V.heap.size (.slice (some ⟨gC, 0, none⟩) n n) ls vs
  bk : IS w V.heap.size (.slice (some ⟨gG, 0, none⟩) 12 12) xs
  bl : Below V.heap.size V w
theorem AS.below {V : World} {gC gG n : Nat} {ls : List (List Flm)} {xs : List Int} {w w' : World} (h : AS V gC gG n ls xs w) (hb : Below w.heap.size w w') : AS V gC gG n ls xs w' := by
  obtain ⟨vs, h1⟩ := h.ro
  exact ⟨⟨vs, h1.below hb⟩, IS.kept h.bk fun q hq => hb.block q (World.ownsRow.lt h.bk q hq).2, h.bl.trans (hb.mono h.bl.size)⟩
theorem AS.swap {V : World} {gC gG n k : Nat} {ls : List (List Flm)} {xs : List Int} {vs : List Value} {w w' : World} {u : Value} {l : List Flm} (h : AS V gC gG n ls xs w) (hv : RoF w V.heap.size (.slice (some ⟨gC, 0, none⟩) n n) ls vs) (hk : k < ls.length) (hp : PF V.heap.size w w' (rat vs k) u l) :
    AS V gC gG n (ls.set k l) xs (w'.setCell ⟨gC, k, none⟩ u) := by
  have hG : w.heap[gG]? = w'.heap[gG]? ∧ gG ≠ gC := by
    obtain ⟨_, hlt, cs, hc⟩ := rowBlk h.bk (show (Value.slice (some ⟨gG, 0, none⟩) 12 12).ownBlock = some gG from rfl)
    refine ⟨(hp.g.block gG hlt fun e => ?_).symm, fun e => ?_⟩
    · obtain ⟨_, _, ds, hd⟩ := rowBlk (hv.bx k hk) e.symm
      exact kindsR hc hd (by decide)
    · obtain ⟨_, _, ds, hd⟩ := rowBlk hv.o (show (Value.slice (some ⟨gC, 0, none⟩) n n).ownBlock = some gC from rfl)
      rw [e] at hc
      exact kindsR hc hd (by decide)
  have hC := rowBlk hv.o (show (Value.slice (some ⟨gC, 0, none⟩) n n).ownBlock = some gC from rfl)
  refine ⟨⟨_, hv.swap hk hp⟩, IS.kept h.bk fun q hq => ?_, ?_⟩
  · have e : gG = q := by injection hq
    subst e
    rw [heap_setCell_other _ _ _ _ (by simpa using hG.2)]
    exact hG.1.symm
  · refine Below.setCell ?_ hC.1 _
    exact h.bl.grown hp.g h.bl.size fun q hq => (rowBlk (hv.bx k hk) hq).1
theorem AS.book {V : World} {gC gG n : Nat} {ls : List (List Flm)} {xs ys : List Int} {w w' : World} (h : AS V gC gG n ls xs w) (hb : IS w' V.heap.size (.slice (some ⟨gG, 0, none⟩) 12 12) ys) (hg : w.grownBy w' (some gG)) : AS V gC gG n ls ys w' := by
  obtain ⟨vs, h1⟩ := h.ro
  obtain ⟨hB, hlt, cs, hc⟩ := rowBlk h.bk (show (Value.slice (some ⟨gG, 0, none⟩) 12 12).ownBlock = some gG from rfl)
  refine ⟨⟨vs, h1.kept (fun q hq => ?_) fun i hi q hq => ?_⟩, hb, h.bl.grown hg h.bl.size fun q hq => by injection hq with hq; subst hq; exact hB⟩
  · obtain ⟨_, hl2, ds, hd⟩ := rowBlk h1.o hq
    exact hg.block q hl2 fun e => by injection e with e; subst e; exact kindsR hc hd (by decide)
  · obtain ⟨_, hl2, ds, hd⟩ := rowBlk (h1.bx i hi) hq
    exact hg.block q hl2 fun e => by injection e with e; subst e; exact kindsR hc hd (by decide)

theorem AS.swap_other {V : World} {gC n k q : Nat} {T : TypeId} {cs : Array Value} {ls : List (List Flm)} {vs : List Value} {w w' : World} {u : Value} {l : List Flm} (hv : RoF w V.heap.size (.slice (some ⟨gC, 0, none⟩) n n) ls vs) (hk : k < ls.length) (hp : PF V.heap.size w w' (rat vs k) u l) (hq : w.heap[q]? = some (.cells cs T (0, 0))) (h1 : T ≠ 76) (h2 : T ≠ 62) :
    (w'.setCell ⟨gC, k, none⟩ u).heap[q]? = w.heap[q]? := by
  have hlt : q < w.heap.size := by
    rcases Nat.lt_or_ge q w.heap.size with h | h
    · exact h
    · rw [Array.getElem?_eq_none h] at hq; cases hq
  have hne : q ≠ gC := fun e => by
    obtain ⟨_, _, ds, hd⟩ := rowBlk hv.o (show (Value.slice (some ⟨gC, 0, none⟩) n n).ownBlock = some gC from rfl)
    rw [e] at hq
    exact kindsR hq hd h2
  rw [heap_setCell_other _ _ _ _ (by simpa using hne)]
  refine hp.g.block q hlt fun e => ?_
  obtain ⟨_, _, ds, hd⟩ := rowBlk (hv.bx k hk) e.symm
  exact kindsR hq hd h1

/-- A step over columns: what its function makes of each column. -/
structure StepOk (F : Nat) (caps : Array Value) (w : World) (s : List (List Flm)) (lays : Nat → List Lay) : Prop where
  enter : ∀ (args : Array Value) (V : World), (callFunc F args).run Try.prog V = .ok (.enter F args) V
  calls : ∀ (V : World) (i : Nat) (ua : Option Addr) (un uc : Nat), Below w.heap.size w V → i < s.length → RG 2 flC V (.slice ua un uc) (s.getD i []) →
    Calls Try.prog F (#[.int .i64 i, .slice ua un uc] ++ caps) V fun e w' => ∃ u, e = .returned u ∧ OG 88 1 layC w' V.heap.size u (lays i) ∧ Below V.heap.size V w'
  ok : ∀ i, i < s.length → (lays i).length ≤ 25 ∧ ∀ k, k < (lays i).length → okL (lat (lays i) k)

end Go.Proofs.Ytceljakmjddgbab
