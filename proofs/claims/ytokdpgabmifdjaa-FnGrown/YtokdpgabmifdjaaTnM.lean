/- Proved here: the arithmetic of ThinOf and NearOf: what is picked out of a list in the one form, and that it does not matter whether it is put into the one form on the way. No condition on the program. -/
import Derived.Test.YtokdpgabmifdjaaGrowM
import Derived.Test.YtokdpgabmifdjaaTurnM
import Derived.Test.YtokdpgabmifdjaaShEnds
namespace Go.Proofs.Ytokdpgabmifdjaa
open Go.RowKit
set_option linter.unusedVariables false
set_option linter.unusedSimpArgs false

def thinT (s : List Bx) (z : Int) : Nat → List Bx
  | 0 => []
  | k + 1 => thinT s z k ++ (if (bat s k).x1 - (bat s k).x0 < z then [bat s k] else [])
def gapB (a b : Bx) (z : Int) : List Bx := if a.y0 = b.y0 ∧ b.x0 - a.x1 < z then [⟨a.x1, a.y0, b.x0, a.y1⟩] else []
def gapT (s : List Bx) (z : Int) : Nat → List Bx
  | 0 => []
  | k + 1 => gapT s z k ++ (if k = 0 then [] else gapB (bat s (k - 1)) (bat s k) z)
/-- What is picked: gaps, or runs. -/
def pickT (gaps : Bool) (s : List Bx) (z : Int) (k : Nat) : List Bx := if gaps then gapT s z k else thinT s z k
def pickL (gaps : Bool) (s : List Bx) (z : Int) : List Bx := pickT gaps s z s.length
theorem thinT_len (s : List Bx) (z : Int) : ∀ k, (thinT s z k).length ≤ k
  | 0 => Nat.le_refl _
  | k + 1 => by have := thinT_len s z k; unfold thinT; rw [List.length_append]; split <;> simp <;> omega
theorem gapT_len (s : List Bx) (z : Int) : ∀ k, (gapT s z k).length ≤ k
  | 0 => Nat.le_refl _
  | k + 1 => by
    have := gapT_len s z k
    unfold gapT gapB
    rw [List.length_append]
    split
    · simp; omega
    · split <;> simp <;> omega
theorem pickL_len (gaps : Bool) (s : List Bx) (z : Int) : (pickL gaps s z).length ≤ s.length := by
  unfold pickL pickT; split
  · exact gapT_len s z _
  · exact thinT_len s z _

/-- Boxes that follow each other in one band: the band is one, and there is a gap. -/
def Apart (s : List Bx) : Prop := s.Pairwise fun b c => b.y0 = c.y0 → b.y1 = c.y1 ∧ b.x1 < c.x0
theorem form_apart : ∀ {rows : List (List Bx)} {below : List Bx}, FormB below rows → Apart rows.flatten := by
  intro rows
  induction rows with
  | nil => intro below _; exact List.Pairwise.nil
  | cons r rest ih =>
    intro below h
    unfold Apart
    rw [List.flatten_cons, List.pairwise_append]
    refine ⟨?_, ih h.2.2.2.2.2, ?_⟩
    · refine (List.Pairwise.and_mem.1 h.2.2.1.gap).imp fun {p q} hpq _ => ⟨?_, hpq.2.2⟩
      have h1 := h.2.2.1.y p hpq.1
      have h2 := h.2.2.1.y q hpq.2.1
      omega
    · intro p hp q hq he
      exfalso
      have hb := form_bands h p (by simp [hp]) q (by simp only [List.flatten_cons, List.mem_append]; exact Or.inr hq)
      have hp1 := h.2.2.1.y p hp
      have ho := FormB.over h.1 h.2.2.2.2.2
      have hr := h.2.1
      have habove : ∀ (rest : List (List Bx)) (below : List Bx) (z : Int), FormB below rest → Over z rest → ∀ c ∈ rest.flatten, z ≤ c.y0 := by
        intro rest
        induction rest with
        | nil => intro _ _ _ _ c hc; simp at hc
        | cons q u ih2 =>
          intro below z hF hz c hc
          have hz' : z ≤ hy0 q := hz
          have hlt := hF.2.1
          simp only [List.flatten_cons, List.mem_append] at hc
          rcases hc with hc | hc
          · have := hF.2.2.1.y c hc; omega
          · have := ih2 q (hy1 q) hF.2.2.2.2.2 (FormB.over hF.1 hF.2.2.2.2.2) c hc; omega
      have := habove rest r _ h.2.2.2.2.2 ho q hq
      omega
/-- A list as it may be looked at. -/
structure Fine (s : List Bx) : Prop where
  ok : ∀ b ∈ s, okB b
  apart : Apart s
theorem Fine.at {s : List Bx} (h : Fine s) {k : Nat} (hk : k < s.length) : okB (bat s k) := by rw [bat_get hk]; exact h.ok _ (List.getElem_mem _)
theorem Fine.gap {s : List Bx} (h : Fine s) {k : Nat} (h0 : 0 < k) (hk : k < s.length) (he : (bat s (k - 1)).y0 = (bat s k).y0) : (bat s (k - 1)).y1 = (bat s k).y1 ∧ (bat s (k - 1)).x1 < (bat s k).x0 := by
  have := List.pairwise_iff_getElem.1 h.apart (k - 1) k (by omega) hk (by omega)
  rw [bat_get (by omega : k - 1 < s.length), bat_get hk] at he ⊢
  exact this he
theorem fine_shape {s : List Bx} (h : shapeK s = 0) : Fine s := by
  obtain ⟨rows, hr, hF⟩ := shape_rows h
  exact ⟨shape_ok h, by rw [hr]; exact form_apart hF⟩
/-- What is put into the one form stays where it was. -/
theorem fine_op {s : List Bx} (h : ∀ b ∈ s, okB b) : Fine (opOf or s []) := by
  obtain ⟨rows, hr, hF⟩ := opOf_form or rfl s []
  refine ⟨fun b hb => ?_, by rw [hr]; exact form_apart hF⟩
  have ht := opOf_tall or rfl s [] b hb
  have key : ∀ x y, b.x0 ≤ x → x < b.x1 → b.y0 ≤ y → y < b.y1 → -10000 ≤ x ∧ x < 10000 ∧ -10000 ≤ y ∧ y < 10000 := by
    intro x y h1 h2 h3 h4
    have hc := (opOf_or_cell s x y).1 (cell_of hb ⟨h1, h2, h3, h4⟩)
    obtain ⟨c, hc, a1, a2, a3, a4⟩ := (cell_iff s x y).1 hc
    have := h c hc
    unfold okB at this
    omega
  have k1 := key b.x0 b.y0 (by omega) (by omega) (by omega) (by omega)
  have k2 := key (b.x1 - 1) (b.y1 - 1) (by omega) (by omega) (by omega) (by omega)
  unfold okB
  omega
theorem thinT_ok {s : List Bx} (h : Fine s) (z : Int) : ∀ k, k ≤ s.length → ∀ b ∈ thinT s z k, okB b
  | 0, _, b, hb => by cases hb
  | k + 1, hk, b, hb => by
    unfold thinT at hb
    rcases List.mem_append.1 hb with hb | hb
    · exact thinT_ok h z k (by omega) b hb
    · split at hb
      · simp at hb; subst hb; exact h.at (by omega)
      · cases hb
theorem gapT_ok {s : List Bx} (h : Fine s) (z : Int) : ∀ k, k ≤ s.length → ∀ b ∈ gapT s z k, okB b
  | 0, _, b, hb => by cases hb
  | k + 1, hk, b, hb => by
    unfold gapT at hb
    rcases List.mem_append.1 hb with hb | hb
    · exact gapT_ok h z k (by omega) b hb
    · split at hb
      · cases hb
      · rename_i h0
        unfold gapB at hb
        split at hb
        · rename_i he
          simp at hb
          subst hb
          have hg := h.gap (by omega) (by omega : k < s.length) he.1
          have h1 := h.at (by omega : k - 1 < s.length)
          have h2 := h.at (by omega : k < s.length)
          unfold okB at *
          simp only
          omega
        · cases hb
theorem pickL_ok {s : List Bx} (h : Fine s) (gaps : Bool) (z : Int) : ∀ b ∈ pickL gaps s z, okB b := by
  unfold pickL pickT; split
  · exact gapT_ok h z _ (Nat.le_refl _)
  · exact thinT_ok h z _ (Nat.le_refl _)
theorem trS_ok {s : List Bx} (h : ∀ b ∈ s, okB b) (m : Nat) : ∀ b ∈ trS s m, okB b := by
  intro q hq
  unfold trS at hq
  obtain ⟨b, hb, rfl⟩ := List.mem_map.1 hq
  exact turns_ok (h b hb) m
theorem trS_len (s : List Bx) (m : Nat) : (trS s m).length = s.length := by simp [trS]
/-- The shape, a quarter on, in the one form; what is picked there, turned back. -/
def upL (s : List Bx) : List Bx := opOf or (trS s 1) []
def colL (gaps : Bool) (s : List Bx) (z : Int) : List Bx := trS (pickL gaps (upL s) z) 3
def tnO (gaps : Bool) (s : List Bx) (z : Int) : List Bx := opOf or (pickL gaps s z) (colL gaps s z)
theorem tnO_form (gaps : Bool) (s : List Bx) (z : Int) : opOf or (pickL gaps s z) (opOf or (colL gaps s z) []) = tnO gaps s z :=
  opOf_congr or rfl (fun _ _ => Iff.rfl) fun x y => opOf_or_cell _ x y
theorem upL_fine {s : List Bx} (h : shapeK s = 0) : Fine (upL s) := fine_op (trS_ok (shape_ok h) 1)
theorem upL_len {s : List Bx} (h : shapeK s = 0) : (upL s).length ≤ 45000 := by
  have h1 := or_len or (trS s 1)
  have h2 := shapeK_len h
  rw [trS_len] at h1
  unfold upL
  have h3 : 2 * s.length * s.length ≤ 2 * 150 * 150 := Nat.mul_le_mul (Nat.mul_le_mul_left _ h2) h2
  omega
theorem colL_len {s : List Bx} (h : shapeK s = 0) (gaps : Bool) (z : Int) : (colL gaps s z).length ≤ 45000 := by
  unfold colL
  rw [trS_len]
  have h1 := pickL_len gaps (upL s) z
  have h2 := upL_len h
  omega
theorem colL_ok {s : List Bx} (h : shapeK s = 0) (gaps : Bool) (z : Int) : ∀ b ∈ colL gaps s z, okB b := trS_ok (pickL_ok (upL_fine h) gaps z) 3

theorem pick_sides {n : Nat} {s : List Bx} (h : Sides n s) (gaps : Bool) (z : Int) : Sides n (pickL gaps s z) := by
  obtain ⟨X, Y, hX, hY, he⟩ := h
  refine ⟨X, Y, hX, hY, ?_⟩
  have h1 : ∀ k, k ≤ s.length → EndsIn X Y (thinT s z k) := by
    intro k
    induction k with
    | zero => intro _ b hb; cases hb
    | succ k ih =>
      intro hk b hb
      unfold thinT at hb
      rcases List.mem_append.1 hb with hb | hb
      · exact ih (by omega) b hb
      · split at hb
        · simp at hb; subst hb; rw [bat_get (by omega : k < s.length)]; exact he _ (List.getElem_mem _)
        · cases hb
  have h2 : ∀ k, k ≤ s.length → EndsIn X Y (gapT s z k) := by
    intro k
    induction k with
    | zero => intro _ b hb; cases hb
    | succ k ih =>
      intro hk b hb
      unfold gapT at hb
      rcases List.mem_append.1 hb with hb | hb
      · exact ih (by omega) b hb
      · split at hb
        · cases hb
        · unfold gapB at hb
          split at hb
          · simp at hb; subst hb
            have e1 := he (bat s (k - 1)) (by rw [bat_get (by omega : k - 1 < s.length)]; exact List.getElem_mem _)
            have e2 := he (bat s k) (by rw [bat_get (by omega : k < s.length)]; exact List.getElem_mem _)
            exact ⟨e1.2.1, e2.1, e1.2.2.1, e1.2.2.2⟩
          · cases hb
  unfold pickL pickT
  split
  · exact h2 _ (Nat.le_refl _)
  · exact h1 _ (Nat.le_refl _)
theorem turn_sides {n : Nat} {s : List Bx} (h : Sides n s) : Sides n (s.map turnB) := by
  obtain ⟨X, Y, hX, hY, he⟩ := h
  refine ⟨Y.map (fun v => wrap64 (-v)), X, by simpa using hY, hX, fun b hb => ?_⟩
  obtain ⟨q, hq, rfl⟩ := List.mem_map.1 hb
  have := he q hq
  exact ⟨List.mem_map.2 ⟨q.y1, this.2.2.2, rfl⟩, List.mem_map.2 ⟨q.y0, this.2.2.1, rfl⟩, this.1, this.2.1⟩
theorem trS_sides {n : Nat} {s : List Bx} (h : Sides n s) : ∀ m, Sides n (trS s m)
  | 0 => by rw [trS_zero]; exact h
  | m + 1 => by rw [trS_succ]; exact turn_sides (trS_sides h m)
theorem colO_len {s : List Bx} (h : shapeK s = 0) (gaps : Bool) (z : Int) : (opOf or (colL gaps s z) []).length ≤ 90000 := by
  have h1 := sides_own s
  have h2 := shapeK_len h
  have h3 : Sides (2 * s.length) (colL gaps s z) := trS_sides (pick_sides (Sides.op (trS_sides h1 1)) gaps z) 3
  have h4 := h3.few
  have h5 : 2 * s.length * (2 * s.length) ≤ 300 * 300 := Nat.mul_le_mul (by omega) (by omega)
  omega

def tnC (gaps : Bool) (s : List Bx) (z : Int) : Int := if shapeK s = 0 then (if 1 ≤ z ∧ z ≤ 1000 then toldC (tnO gaps s z).length else 3) else shapeK s
def tnL (gaps : Bool) (s : List Bx) (z : Int) : List Bx := if shapeK s = 0 ∧ (1 ≤ z ∧ z ≤ 1000) then toldL (tnO gaps s z) else []
theorem tnL_length (gaps : Bool) (s : List Bx) (z : Int) : (tnL gaps s z).length ≤ 150 := by
  unfold tnL toldL
  split
  · split
    · assumption
    · simp
  · simp
theorem tn_code {gaps : Bool} {s : List Bx} {z : Int} (h : shapeK s ≠ 0) : tnC gaps s z = shapeK s ∧ tnL gaps s z = [] := by
  unfold tnC tnL; rw [if_neg h, if_neg (fun e => h e.1)]; exact ⟨rfl, rfl⟩
theorem tn_far {gaps : Bool} {s : List Bx} {z : Int} (h : shapeK s = 0) (h2 : ¬ (1 ≤ z ∧ z ≤ 1000)) : tnC gaps s z = 3 ∧ tnL gaps s z = [] := by
  unfold tnC tnL; rw [if_pos h, if_neg h2, if_neg (fun e => h2 e.2)]; exact ⟨rfl, rfl⟩
theorem tn_told {gaps : Bool} {s : List Bx} {z : Int} (h : shapeK s = 0) (h2 : 1 ≤ z ∧ z ≤ 1000) : tnC gaps s z = toldC (tnO gaps s z).length ∧ tnL gaps s z = toldL (tnO gaps s z) := by
  unfold tnC tnL; rw [if_pos h, if_pos h2, if_pos ⟨h, h2⟩]; exact ⟨rfl, rfl⟩

end Go.Proofs.Ytokdpgabmifdjaa
