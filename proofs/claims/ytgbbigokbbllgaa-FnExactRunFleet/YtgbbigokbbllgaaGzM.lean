/- Proved here: who is to move, while it is reckoned; a number put into a list of the call's own. -/
import Derived.Test.YtgbbigokbbllgaaFzM
import Derived.Test.YtgbbigokbbllgaaIntsBase
namespace Go.Proofs.Ytgbbigokbbllgaa
open Go.RowKit
set_option linter.unusedVariables false
set_option linter.unusedSimpArgs false

theorem IS.setG {w : World} {B g n c : Nat} {xs : List Int} (h : IS w B (.slice (some ⟨g, 0, none⟩) n c) xs) (j : Nat) (y : Int) : IS (w.setCell ⟨g, j, none⟩ (.int .i64 y)) B (.slice (some ⟨g, 0, none⟩) n c) (xs.set j y) := by
  have hn : n = xs.length := by obtain ⟨_, _, e⟩ := h.form; injection e
  subst hn
  have h9 := (World.ownsRow.stored (show w.ownsRow B 2 1 (.slice (some ⟨g, 0, none⟩) xs.length c) xs.length (xs.map (Value.int .i64)) from h) j (.int .i64 y)).1
  unfold IS
  rw [List.length_set, List.map_set]
  exact h9
theorem IS.atG {w : World} {B g n c : Nat} {xs : List Int} (h : IS w B (.slice (some ⟨g, 0, none⟩) n c) xs) {j : Nat} (hj : j < n) : w.cell? ⟨g, j, none⟩ = some (.int .i64 (xs.getD j 0)) ∧ w.frozen? ⟨g, j, none⟩ = false := by
  have hn : n = xs.length := by obtain ⟨_, _, e⟩ := h.form; injection e
  subst hn
  refine ⟨?_, World.ownsRow.frozenAt h j⟩
  rw [World.ownsRow.cellAt h j (by omega), List.getElem?_map, List.getElem?_eq_getElem hj, gdI hj]
  rfl
/-- How many of the first n are 0. -/
def zcs (f : Nat → Int) : Nat → Nat
  | 0 => 0
  | n + 1 => zcs f n + (if f n = 0 then 1 else 0)
theorem zcs_congr {f g : Nat → Int} {n : Nat} (h : ∀ a, a < n → f a = g a) : zcs f n = zcs g n := by
  induction n with
  | zero => rfl
  | succ n ih => rw [zcs, zcs, ih fun a ha => h a (by omega), h n (by omega)]
theorem zcs_set {xs : List Int} {i n : Nat} (hi : i < n) (hn : n ≤ xs.length) (h0 : xs.getD i 0 = 0) : zcs (fun a => (xs.set i 1).getD a 0) n + 1 = zcs (fun a => xs.getD a 0) n := by
  induction n with
  | zero => omega
  | succ n ih =>
    rw [zcs, zcs]
    by_cases e : i = n
    · subst e
      have h1 : zcs (fun a => (xs.set i 1).getD a 0) i = zcs (fun a => xs.getD a 0) i := zcs_congr fun a ha => by
        simp [List.getD_eq_getElem?_getD, List.getElem?_set, show i ≠ a by omega]
      have h2 : (xs.set i 1).getD i 0 = 1 := by
        simp [List.getD_eq_getElem?_getD, List.getElem?_set, show i < xs.length by omega]
      rw [h1, h2, h0]
      rfl
    · have h1 : (xs.set i 1).getD n 0 = xs.getD n 0 := by
        simp [List.getD_eq_getElem?_getD, List.getElem?_set, e]
      rw [h1]
      have := ih (by omega) (by omega)
      omega
def agN : Value → Nat
  | .bool true => 1
  | _ => 0
def numG : Option Value → Int
  | some (.int _ x) => x
  | _ => 7
def zcW (w : World) (g n : Nat) : Nat := zcs (fun a => numG (w.cell? ⟨g, a, none⟩)) n
theorem zcW_eq {w : World} {B g n c : Nat} {xs : List Int} (h : IS w B (.slice (some ⟨g, 0, none⟩) n c) xs) : zcW w g n = zcs (fun a => xs.getD a 0) n :=
  zcs_congr fun a ha => by rw [(h.atG ha).1]; rfl
/-- Urges on their way. -/
structure GU (Z : Int) (s t xs : List Int) : Prop where
  l : xs.length = s.length
  v : ∀ i, i < s.length → xs.getD i 0 = 0 ∨ xs.getD i 0 = 1
  u : ∀ i, i < s.length → xs.getD i 0 = 1 → ∃ d, UgD Z s t d (s.getD i 0)
  o : ∀ i, i < s.length → s.getD i 0 ≠ t.getD i 0 → xs.getD i 0 = 1
/-- The vehicle i is not pushed on by one that is told. -/
def clo (Z : Int) (s xs : List Int) (i : Nat) : Prop := xs.getD i 0 = 0 → ∀ k, k < s.length → s.getD k 0 = (s.getD i 0 - 1) % Z → xs.getD k 0 ≠ 1
theorem GU.start {Z : Int} {s t : List Int} (h : FlOk Z s t) : GU Z s t (rgL (fun i => if s.getD i 0 ≠ t.getD i 0 then 1 else 0) s.length) := by
  refine ⟨rgL_len _ _, fun i hi => ?_, fun i hi => ?_, fun i hi hne => ?_⟩
  · rw [rgL_at _ hi]; split
    · exact Or.inr rfl
    · exact Or.inl rfl
  · rw [rgL_at _ hi]
    intro e
    refine ⟨0, ug_own (h.a i hi) ((ownZ_at h.d hi).2 ?_)⟩
    by_cases hne : s.getD i 0 ≠ t.getD i 0
    · exact hne
    · rw [if_neg hne] at e; exact absurd e (by decide)
  · rw [rgL_at _ hi, if_pos hne]
theorem GU.set {Z : Int} {s t xs : List Int} (h : FlOk Z s t) (g : GU Z s t xs) {i k : Nat} (hi : i < s.length) (hk : k < s.length) (e : s.getD k 0 = (s.getD i 0 - 1) % Z) (h1 : xs.getD k 0 = 1) : GU Z s t (xs.set i 1) := by
  have hg : ∀ j, j < s.length → (xs.set i 1).getD j 0 = if j = i then 1 else xs.getD j 0 := fun j hj => by
    by_cases e : j = i
    · subst e; simp [List.getD_eq_getElem?_getD, List.getElem?_set, show j < xs.length by rw [g.l]; exact hj]
    · simp [List.getD_eq_getElem?_getD, List.getElem?_set, e, show i ≠ j by omega]
  refine ⟨by rw [List.length_set]; exact g.l, fun j hj => ?_, fun j hj => ?_, fun j hj hne => ?_⟩
  · rw [hg j hj]; split
    · exact Or.inr rfl
    · exact g.v j hj
  · rw [hg j hj]; split
    · rename_i e1
      subst e1
      intro _
      obtain ⟨d, hd⟩ := g.u k hk h1
      rw [e] at hd
      exact ⟨d + 1, ug_push (h.a j hj) (gdMem hj) hd⟩
    · exact g.u j hj
  · rw [hg j hj]; split
    · rfl
    · exact g.o j hj hne
theorem GU.done {Z : Int} {s t xs : List Int} (h : FlOk Z s t) (g : GU Z s t xs) (hc : ∀ i, i < s.length → clo Z s xs i) : xs = urL Z s t := by
  have key : ∀ d i, i < s.length → UgD Z s t d (s.getD i 0) → xs.getD i 0 = 1 := by
    intro d
    induction d with
    | zero =>
      intro i hi hu
      exact g.o i hi ((ownZ_at h.d hi).1 (ug_zero (h.a i hi) hu))
    | succ d ih =>
      intro i hi hu
      obtain ⟨_, h2, h3⟩ := ug_pull (h.a i hi) hu
      obtain ⟨k, hk, ek⟩ := memGd h2
      rcases g.v i hi with h0 | h1
      · exact absurd (ih k hk (by rw [ek]; exact h3)) (hc i hi h0 k hk ek)
      · exact h1
  apply List.ext_getElem (by rw [urL_len, g.l])
  intro i h1 h2
  have hi : i < s.length := by rw [← g.l]; exact h1
  rw [← gdI h1, ← gdI h2, urL_at hi]
  by_cases hu : ugB Z s t (s.getD i 0) = true
  · rw [if_pos hu]
    obtain ⟨d, hd⟩ := ugB_some hu
    exact key d i hi hd
  · rw [if_neg hu]
    rcases g.v i hi with h0 | h1
    · exact h0
    · exact absurd ((ugB_iff h.z).2 (g.u i hi h1)) hu

end Go.Proofs.Ytgbbigokbbllgaa
