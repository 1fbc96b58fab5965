/- How RunRule runs: arithmetic alone. -/
import Derived.Test.YtjbghflphngnkaaRrD
import Derived.Test.YtjbghflphngnkaaNwK
namespace Go.Proofs.Ytjbghflphngnkaa
open Go.RowKit
set_option linter.unusedVariables false
set_option linter.unusedSimpArgs false


theorem mnC_at (s : List Jb) : ∀ k, ∃ i, i ≤ k ∧ mnC s k = (jA s i).co
  | 0 => ⟨0, Nat.le_refl _, rfl⟩
  | k + 1 => by
    obtain ⟨i, hi, e⟩ := mnC_at s k
    by_cases h : mnC s k ≤ (jA s (k + 1)).co
    · exact ⟨i, by omega, by show min _ _ = _; rw [← e]; omega⟩
    · exact ⟨k + 1, Nat.le_refl _, by show min _ _ = _; omega⟩
theorem mnC_le (s : List Jb) : ∀ k i, i ≤ k → mnC s k ≤ (jA s i).co
  | 0, i, h => by obtain rfl : i = 0 := by omega
                  exact Int.le_refl _
  | k + 1, i, h => by
    show min (mnC s k) _ ≤ _
    rcases (by omega : i ≤ k ∨ i = k + 1) with h1 | rfl
    · have := mnC_le s k i h1; omega
    · omega
def nwR (l : List Jb) (now : Int) : Int := max now (mnC l (l.length - 1))
def pkN (rule : Int) (l : List Jb) (now : Int) : Nat := (bst (orC rule (nwR l now)) (nwR l now) l l.length).getD 0
def rrO (rule : Int) : Nat → List Jb → Int → List Jb
  | 0, _, _ => []
  | f + 1, l, now => jA l (pkN rule l now) :: rrO rule f (l.eraseIdx (pkN rule l now)) (nwR l now + (jA l (pkN rule l now)).ti)
theorem pk_some {rule : Int} {l : List Jb} {now : Int} (hp : 0 < l.length) : ∃ b, b < l.length ∧ bst (orC rule (nwR l now)) (nwR l now) l l.length = some b ∧ pkN rule l now = b := by
  cases h : bst (orC rule (nwR l now)) (nwR l now) l l.length with
  | none =>
    obtain ⟨i, hi, e⟩ := mnC_at l (l.length - 1)
    have := bst_none _ _ _ _ h i (by omega)
    have h2 : mnC l (l.length - 1) ≤ nwR l now := by unfold nwR; omega
    omega
  | some b => exact ⟨b, (bst_lt _ _ _ _ _ h).1, rfl, by unfold pkN; rw [h]; rfl⟩
theorem er_at {l : List Jb} {b i : Nat} (h : i < (l.eraseIdx b).length) (hb : b < l.length) : ∃ j, ∃ hj : j < l.length, (l.eraseIdx b)[i] = l[j] ∧ j = if i < b then i else i + 1 := by
  have hl : (l.eraseIdx b).length = l.length - 1 := by rw [List.length_eraseIdx, if_pos hb]
  by_cases h1 : i < b
  · exact ⟨i, by omega, by rw [List.getElem_eraseIdx, dif_pos h1], by rw [if_pos h1]⟩
  · exact ⟨i + 1, by omega, by rw [List.getElem_eraseIdx, dif_neg h1], by rw [if_neg h1]⟩
theorem OkJ.erase {l : List Jb} (h : OkJ l) {b : Nat} (hb : b < l.length) : OkJ (l.eraseIdx b) := by
  have hl : (l.eraseIdx b).length = l.length - 1 := by rw [List.length_eraseIdx, if_pos hb]
  refine ⟨by have := h.len; omega, fun i hi => ?_, fun i hi => ?_, fun i j hi hj e => ?_⟩
  · obtain ⟨q, hq, e, _⟩ := er_at hi hb
    rw [e]; exact h.pos q hq
  · obtain ⟨q, hq, e, _⟩ := er_at hi hb
    rw [e]; exact h.rg q hq
  · obtain ⟨q, hq, e1, e2⟩ := er_at hi hb
    obtain ⟨q', hq', e3, e4⟩ := er_at hj hb
    rw [e1, e3] at e
    have := h.uniq q q' hq hq' e
    split at e2 <;> split at e4 <;> omega
/-- Where a run stands: t jobs are in order, l is left. -/
structure RS (rule : Int) (s : List Jb) (t : Nat) (l : List Jb) (now : Int) (od : List Jb) : Prop where
  ok : OkJ l
  len : l.length + t = s.length
  ol : od.length = t
  osub : ∀ x ∈ od, x ∈ s
  sub : ∀ x ∈ l, x ∈ s
  nw : 0 ≤ now ∧ now ≤ 1000000 * ((t : Int) + 1)
  run : rrO rule s.length s 0 = od ++ rrO rule l.length l now
theorem RS.zero {rule : Int} {s : List Jb} (h : OkJ s) : RS rule s 0 s 0 [] := ⟨h, by omega, rfl, fun x hx => (by cases hx), fun x hx => hx, by omega, rfl⟩
theorem RS.nwb {rule : Int} {s : List Jb} {t : Nat} {l : List Jb} {now : Int} {od : List Jb} (h : RS rule s t l now od) (hp : 0 < l.length) : 0 ≤ nwR l now ∧ nwR l now ≤ 1000000 * ((t : Int) + 1) := by
  obtain ⟨i, hi, e⟩ := mnC_at l (l.length - 1)
  have hr := h.ok.rg i (by omega)
  rw [← jA_at] at hr
  have h1 := hr.1.1
  have h2 := h.nw
  unfold nwR
  omega
theorem RS.step {rule : Int} {s : List Jb} {t : Nat} {l : List Jb} {now : Int} {od : List Jb} (h : RS rule s t l now od) (hp : 0 < l.length) :
    RS rule s (t + 1) (l.eraseIdx (pkN rule l now)) (nwR l now + (jA l (pkN rule l now)).ti) (od ++ [jA l (pkN rule l now)]) := by
  obtain ⟨b, hb, _, e⟩ := pk_some (rule := rule) (now := now) hp
  have hnb := h.nwb hp
  have hrun := h.run
  obtain ⟨f, hf⟩ : ∃ f, l.length = f + 1 := ⟨l.length - 1, by omega⟩
  rw [hf] at hrun
  rw [e]
  have hl : (l.eraseIdx b).length = l.length - 1 := by rw [List.length_eraseIdx, if_pos hb]
  have hr := h.ok.rg b hb
  rw [← jA_at] at hr
  have h1 := hr.2.1
  have h2 := h.len
  have hm : jA l b ∈ l := jA_mem hb
  refine ⟨h.ok.erase hb, by omega, by rw [List.length_append, h.ol]; rfl, fun x hx => ?_, fun x hx => ?_, by push_cast; omega, ?_⟩
  · rcases List.mem_append.1 hx with hx | hx
    · exact h.osub x hx
    · rw [List.mem_singleton.1 hx]; exact h.sub _ hm
  · exact h.sub x (List.mem_of_mem_eraseIdx hx)
  · rw [hrun, hl, hf, List.append_assoc]
    show od ++ (jA l (pkN rule l now) :: rrO rule f (l.eraseIdx (pkN rule l now)) (nwR l now + (jA l (pkN rule l now)).ti)) = _
    rw [e]
    rfl
def rrC (s : List Jb) (rule : Int) : Int := pfC s rule 0
def rrL (s : List Jb) (rule : Int) : List Jb := rrO rule s.length s 0
def rrI (s : List Jb) (rule : Int) : List Int := if rrC s rule = 0 then (rrL s rule).map Jb.id else []
def rrQ (s : List Jb) (rule : Int) : Int := if rrC s rule = 0 then lateV (rrL s rule) else 0
theorem pfC_ok {s : List Jb} {rule : Int} (h : pfC s rule 0 = 0) : OkJ s ∧ 1 ≤ rule ∧ rule ≤ 4 := by
  unfold pfC at h
  by_cases h1 : jbF s = 0
  · rw [if_neg (by simpa using h1)] at h
    by_cases h2 : 1 ≤ rule ∧ rule ≤ 4
    · exact ⟨jbF_ok h1, h2.1, h2.2⟩
    · rw [if_pos h2] at h; omega
  · rw [if_pos h1] at h; exact absurd h h1

end Go.Proofs.Ytjbghflphngnkaa
