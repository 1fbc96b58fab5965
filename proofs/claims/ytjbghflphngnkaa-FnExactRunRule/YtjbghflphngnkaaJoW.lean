/- Proved here: a list of jobs of the call's own: an element is read, stored, two are exchanged. (And ahead of it: Proved here: a list of the call's own grows by one element; what is made with room. No condition.) -/
import Derived.Test.YtjbghflphngnkaaGen
import Derived.Test.YtjbghflphngnkaaJoM
import Derived.Laws.OwnMore
namespace Go.Proofs.Ytjbghflphngnkaa
open Go.RowKit
set_option linter.unusedVariables false
set_option linter.unusedSimpArgs false


theorem OG.fm {α : Type} {T k : Nat} {enc : α → List Value} {w : World} {B : Nat} {v : Value} {s : List α} (h : OG T k enc w B v s) : ∃ a c, v = .slice a s.length c := by
  rcases h.2 with ⟨rfl, h0⟩ | ⟨g, cap, cur, rfl, _⟩
  · exact ⟨none, 0, by rw [h0]⟩
  · exact ⟨_, _, rfl⟩
theorem OG.nl (T k : Nat) {α : Type} (enc : α → List Value) (w : World) (B : Nat) : OG T k enc w B (.slice none 0 0) ([] : List α) := ⟨by simp, Or.inl ⟨rfl, rfl⟩⟩
/-- One more, over a world that has grown by W. -/
theorem OG.st {α : Type} {T k : Nat} {enc : α → List Value} {w V w5 : World} {B : Nat} {v v5 : Value} {s : List α} (p : α) (h : OG T k enc V B v s) (hb : Below B w V) (hl : B ≤ V.heap.size) (ho : w5.ownsRow B T k v5 (s.length + 1) (s.flatMap enc ++ enc p)) (hg : V.grownBy w5 v.ownBlock) : OG T k enc w5 B v5 (s ++ [p]) ∧ Below B w w5 ∧ B ≤ w5.heap.size := by
  refine ⟨?_, hb.grown hg hl (fun q hq => (World.ownsRow.lt h q hq).1), Nat.le_trans hl hg.size⟩
  unfold OG
  rw [List.length_append, List.flatMap_append]
  simpa using ho
theorem OG.s1 {α : Type} {T k : Nat} {enc : α → List Value} {w5 : World} {B : Nat} {v5 : Value} {s : List α} (p : α) (ho : w5.ownsRow B T k v5 (s.length + 1) (s.flatMap enc ++ enc p)) : OG T k enc w5 B v5 (s ++ [p]) := by
  unfold OG
  rw [List.length_append, List.flatMap_append]
  simpa using ho
theorem OG.al {α : Type} {T k : Nat} {enc : α → List Value} {V : World} {B : Nat} {v : Value} {s : List α} (h : OG T k enc V B v s) (o : Obj) : OG T k enc (V.alloc o) B v s := World.ownsRow.alloc h o
theorem OG.kp {α : Type} {T k : Nat} {enc : α → List Value} {w w' : World} {B : Nat} {v : Value} {s : List α} {row : Option Nat} (h : OG T k enc w B v s) (hg : w.grownBy w' row) (hne : v.ownBlock = none ∨ v.ownBlock ≠ row) : OG T k enc w' B v s := World.ownsRow.kept h hg hne

end Go.Proofs.Ytjbghflphngnkaa

namespace Go.Proofs.Ytjbghflphngnkaa
open Go.RowKit
set_option linter.unusedVariables false
set_option linter.unusedSimpArgs false


/-- A list of jobs of the call's own in block g. -/
def OJ (w : World) (lo g n cap : Nat) (l : List Jb) : Prop := OG 51 7 jbC w lo (.slice (some ⟨g, 0, none⟩) n cap) l
theorem OJ.len {w : World} {lo g n cap : Nat} {l : List Jb} (h : OJ w lo g n cap l) : n = l.length := by
  obtain ⟨_, _, e⟩ := (OG.rg jbC_len h).form; injection e
theorem OJ.lt {w : World} {lo g n cap : Nat} {l : List Jb} (h : OJ w lo g n cap l) : lo ≤ g ∧ g < w.heap.size := World.ownsRow.lt h g rfl
theorem OJ.below {w w' : World} {lo g n cap : Nat} {l : List Jb} (h : OJ w lo g n cap l) (hb : Below w.heap.size w w') : OJ w' lo g n cap l := OG.below h hb
/-- Its cells. -/
theorem OJ.at {w : World} {lo g n cap : Nat} {l : List Jb} (h : OJ w lo g n cap l) {j : Nat} (hj : j < n) : w.cell? ⟨g, j * 7, none⟩ = some (.int .i64 (jA l j).id) ∧ w.cell? ⟨g, j * 7 + 1, none⟩ = some (.int .i64 (jA l j).co) ∧ w.cell? ⟨g, j * 7 + 2, none⟩ = some (.int .i64 (jA l j).ti) ∧ w.cell? ⟨g, j * 7 + 3, none⟩ = some (.int .i64 (jA l j).se) ∧ w.cell? ⟨g, j * 7 + 4, none⟩ = some (.int .i64 (jA l j).du) ∧ w.cell? ⟨g, j * 7 + 5, none⟩ = some (.int .i64 (jA l j).we) ∧ w.cell? ⟨g, j * 7 + 6, none⟩ = some (.int .i64 (jA l j).ki) := by
  have hn := h.len
  have hl : j < l.length := by rw [← hn]; exact hj
  rw [jA_at hl]
  have e : ∀ i, i < 7 → w.cell? ⟨g, j * 7 + i, none⟩ = (jbC l[j])[i]? := fun i hi => by
    have h' : w.ownsRow lo 51 7 (.slice (some ⟨g, 0, none⟩) n cap) l.length (l.flatMap jbC) := h
    rw [← hn] at h'
    rw [World.ownsRow.cellAt h' _ (by omega), fm_get jbC_len l j i hl hi]
  exact ⟨e 0 (by omega), e 1 (by omega), e 2 (by omega), e 3 (by omega), e 4 (by omega), e 5 (by omega), e 6 (by omega)⟩
theorem OJ.fr {w : World} {lo g n cap : Nat} {l : List Jb} (h : OJ w lo g n cap l) (i : Nat) : w.frozen? ⟨g, i, none⟩ = false := by
  have hn := h.len
  subst hn
  exact World.ownsRow.frozenAt h i
theorem fm_set7 {x : Jb} : ∀ (l : List Jb) (j : Nat), j < l.length → (((((((l.flatMap jbC).set (j * 7) (.int .i64 x.id)).set (j * 7 + 1) (.int .i64 x.co)).set (j * 7 + 2) (.int .i64 x.ti)).set (j * 7 + 3) (.int .i64 x.se)).set (j * 7 + 4) (.int .i64 x.du)).set (j * 7 + 5) (.int .i64 x.we)).set (j * 7 + 6) (.int .i64 x.ki) = (l.set j x).flatMap jbC := by
  intro l
  induction l with
  | nil => intro j h; simp at h
  | cons y t ih =>
    intro j h
    cases j with
    | zero => rw [List.set_cons_zero, List.flatMap_cons, List.flatMap_cons]; rfl
    | succ j =>
      have h2 : j < t.length := by simpa using h
      rw [List.set_cons_succ, List.flatMap_cons, List.flatMap_cons, ← ih j h2]
      have e : ∀ (i : Nat) (v : Value) (r : List Value), (jbC y ++ r).set ((j + 1) * 7 + i) v = jbC y ++ r.set (j * 7 + i) v := fun i v r => by
        rw [List.set_append_right _ _ (by rw [jbC_len]; omega), jbC_len, show (j + 1) * 7 + i - 7 = j * 7 + i by omega]
      have e0 := e 0
      simp only [Nat.add_zero] at e0
      rw [e0, e 1, e 2, e 3, e 4, e 5, e 6]
/-- An element stored. -/
theorem OJ.put {w : World} {lo g n cap : Nat} {l : List Jb} (h : OJ w lo g n cap l) {j : Nat} (hj : j < n) (x : Jb) : OJ (((((((w.setCell ⟨g, j * 7, none⟩ (.int .i64 x.id)).setCell ⟨g, j * 7 + 1, none⟩ (.int .i64 x.co)).setCell ⟨g, j * 7 + 2, none⟩ (.int .i64 x.ti)).setCell ⟨g, j * 7 + 3, none⟩ (.int .i64 x.se)).setCell ⟨g, j * 7 + 4, none⟩ (.int .i64 x.du)).setCell ⟨g, j * 7 + 5, none⟩ (.int .i64 x.we)).setCell ⟨g, j * 7 + 6, none⟩ (.int .i64 x.ki)) lo g n cap (l.set j x) ∧ w.grownBy (((((((w.setCell ⟨g, j * 7, none⟩ (.int .i64 x.id)).setCell ⟨g, j * 7 + 1, none⟩ (.int .i64 x.co)).setCell ⟨g, j * 7 + 2, none⟩ (.int .i64 x.ti)).setCell ⟨g, j * 7 + 3, none⟩ (.int .i64 x.se)).setCell ⟨g, j * 7 + 4, none⟩ (.int .i64 x.du)).setCell ⟨g, j * 7 + 5, none⟩ (.int .i64 x.we)).setCell ⟨g, j * 7 + 6, none⟩ (.int .i64 x.ki)) (some g) := by
  have hn := h.len
  subst hn
  have h0 : w.ownsRow lo 51 7 (.slice (some ⟨g, 0, none⟩) l.length cap) l.length (l.flatMap jbC) := h
  have s0 := World.ownsRow.stored h0 (j * 7) (.int .i64 x.id)
  have s1 := World.ownsRow.stored s0.1 (j * 7 + 1) (.int .i64 x.co)
  have s2 := World.ownsRow.stored s1.1 (j * 7 + 2) (.int .i64 x.ti)
  have s3 := World.ownsRow.stored s2.1 (j * 7 + 3) (.int .i64 x.se)
  have s4 := World.ownsRow.stored s3.1 (j * 7 + 4) (.int .i64 x.du)
  have s5 := World.ownsRow.stored s4.1 (j * 7 + 5) (.int .i64 x.we)
  have s6 := World.ownsRow.stored s5.1 (j * 7 + 6) (.int .i64 x.ki)
  refine ⟨?_, ((((((s0.2.trans s1.2).trans s2.2).trans s3.2).trans s4.2).trans s5.2).trans s6.2)⟩
  unfold OJ OG
  rw [List.length_set, ← fm_set7 l j hj]
  exact s6.1
/-- Two exchanged. -/
theorem OJ.swap {w : World} {lo g n cap : Nat} {l : List Jb} (h : OJ w lo g n cap l) {i j : Nat} (hi : i < n) (hj : j < n) {x y : Jb} (hx : x = jA l j) (hy : y = jA l i) : OJ ((((((((((((((w.setCell ⟨g, i * 7, none⟩ (.int .i64 x.id)).setCell ⟨g, i * 7 + 1, none⟩ (.int .i64 x.co)).setCell ⟨g, i * 7 + 2, none⟩ (.int .i64 x.ti)).setCell ⟨g, i * 7 + 3, none⟩ (.int .i64 x.se)).setCell ⟨g, i * 7 + 4, none⟩ (.int .i64 x.du)).setCell ⟨g, i * 7 + 5, none⟩ (.int .i64 x.we)).setCell ⟨g, i * 7 + 6, none⟩ (.int .i64 x.ki)).setCell ⟨g, j * 7, none⟩ (.int .i64 y.id)).setCell ⟨g, j * 7 + 1, none⟩ (.int .i64 y.co)).setCell ⟨g, j * 7 + 2, none⟩ (.int .i64 y.ti)).setCell ⟨g, j * 7 + 3, none⟩ (.int .i64 y.se)).setCell ⟨g, j * 7 + 4, none⟩ (.int .i64 y.du)).setCell ⟨g, j * 7 + 5, none⟩ (.int .i64 y.we)).setCell ⟨g, j * 7 + 6, none⟩ (.int .i64 y.ki)) lo g n cap (sw l i j) ∧ w.grownBy ((((((((((((((w.setCell ⟨g, i * 7, none⟩ (.int .i64 x.id)).setCell ⟨g, i * 7 + 1, none⟩ (.int .i64 x.co)).setCell ⟨g, i * 7 + 2, none⟩ (.int .i64 x.ti)).setCell ⟨g, i * 7 + 3, none⟩ (.int .i64 x.se)).setCell ⟨g, i * 7 + 4, none⟩ (.int .i64 x.du)).setCell ⟨g, i * 7 + 5, none⟩ (.int .i64 x.we)).setCell ⟨g, i * 7 + 6, none⟩ (.int .i64 x.ki)).setCell ⟨g, j * 7, none⟩ (.int .i64 y.id)).setCell ⟨g, j * 7 + 1, none⟩ (.int .i64 y.co)).setCell ⟨g, j * 7 + 2, none⟩ (.int .i64 y.ti)).setCell ⟨g, j * 7 + 3, none⟩ (.int .i64 y.se)).setCell ⟨g, j * 7 + 4, none⟩ (.int .i64 y.du)).setCell ⟨g, j * 7 + 5, none⟩ (.int .i64 y.we)).setCell ⟨g, j * 7 + 6, none⟩ (.int .i64 y.ki)) (some g) := by
  obtain ⟨h1, g1⟩ := h.put hi x
  obtain ⟨h2, g2⟩ := h1.put hj y
  refine ⟨?_, g1.trans g2⟩
  unfold sw
  rw [← hx, ← hy]
  exact h2

end Go.Proofs.Ytjbghflphngnkaa
