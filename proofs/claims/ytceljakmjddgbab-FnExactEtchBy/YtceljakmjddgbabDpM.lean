/- Proved here: columns whose films are all whole. No condition on the program. -/
import Derived.Test.YtceljakmjddgbabLyW
namespace Go.Proofs.Ytceljakmjddgbab
open Go.RowKit
set_option linter.unusedVariables false
set_option linter.unusedSimpArgs false

theorem putF_snoc {c : List Flm} {f : Flm} (h0 : f.t ≠ 0) (h1 : c.length = 0 ∨ (fat c (c.length - 1)).m ≠ f.m) : putF c f = c ++ [f] := by
  unfold putF
  have h9 : ¬ (0 < c.length ∧ (fat c (c.length - 1)).m = f.m) := by
    rintro ⟨h2, h3⟩
    rcases h1 with h1 | h1
    · omega
    · exact h1 h3
  rw [if_neg h0, if_neg h9]
/-- Whole films, put upon each other, are the column. -/
theorem putA_whole {c : List Flm} (h : GC c) {k : Nat} (hk : k ≤ c.length) (ls : List Lay) (hls : ∀ j, j < k → leftL (lat ls j) = fat c j) : putA ls k = c.take k := by
  induction k with
  | zero => simp [putA]
  | succ k ih =>
    have hkl : k < c.length := by omega
    rw [putA, ih (by omega) fun j hj => hls j (by omega), hls k (by omega)]
    have h1 := h.ok k hkl
    unfold okF at h1
    rw [putF_snoc (by omega)]
    · rw [fat_get hkl, List.take_append_getElem hkl]
    · cases k with
      | zero => left; simp
      | succ k =>
        right
        rw [List.length_take, Nat.min_eq_left (by omega), Nat.add_sub_cancel]
        have e : fat (c.take (k + 1)) k = fat c k := by
          unfold fat
          rw [List.getD_eq_getElem?_getD, List.getElem?_take_of_lt (by omega), ← List.getD_eq_getElem?_getD]
        rw [e]
        exact fun e2 => h1.2.2.1 e2.symm
theorem lat_app {ls : List Lay} {l : Lay} {k : Nat} (h : k < ls.length) : lat (ls ++ [l]) k = lat ls k := by
  unfold lat
  rw [List.getD_eq_getElem?_getD, List.getElem?_append_left h, ← List.getD_eq_getElem?_getD]
theorem lat_end {ls : List Lay} {l : Lay} : lat (ls ++ [l]) ls.length = l := by simp [lat]
/-- A film upon whole films. -/
theorem putA_on {c : List Flm} (h : GC c) (m t : Int) : putA (whoL c ++ [.who m t]) (whoL c ++ [Lay.who m t]).length = putF c ⟨m, t⟩ := by
  rw [List.length_append, List.length_singleton, putA, whoL_len, putA_whole h (Nat.le_refl _) _ (fun j hj => by rw [lat_app (by rw [whoL_len]; exact hj), whoL_at hj]; rfl), List.take_length]
  have e : lat (whoL c ++ [Lay.who m t]) c.length = .who m t := by rw [← whoL_len c]; exact lat_end
  rw [e]
  rfl
theorem okL_who {c : List Flm} (h : GC c) {k : Nat} (hk : k < c.length) : okL (lat (whoL c) k) := by
  rw [whoL_at hk]
  have h1 := h.m hk
  have h2 := h.t hk
  exact ⟨h1.1, h1.2, by omega, by omega⟩
theorem okL_on {c : List Flm} (h : GC c) {m t : Int} (hm : 1 ≤ m ∧ m ≤ 12) (ht : 0 ≤ t ∧ t ≤ 100000) : (whoL c ++ [Lay.who m t]).length ≤ 25 ∧ ∀ k, k < (whoL c ++ [Lay.who m t]).length → okL (lat (whoL c ++ [.who m t]) k) := by
  refine ⟨by rw [List.length_append, whoL_len]; have := h.len; simp; omega, fun k hk => ?_⟩
  rw [List.length_append, List.length_singleton, whoL_len] at hk
  by_cases e : k < c.length
  · rw [lat_app (by rw [whoL_len]; exact e)]; exact okL_who h e
  · have e2 : k = (whoL c).length := by rw [whoL_len]; omega
    rw [e2, lat_end]
    exact ⟨hm.1, hm.2, ht.1, by omega⟩
/-- A film upon each column; what it is may hang on the column. -/
def onS (s : List (List Flm)) (m : Int) (th : List Flm → Int) : List (List Flm) := s.map fun c => putF c ⟨m, th c⟩
theorem onS_aft {s : List (List Flm)} (hs : GS s) (m : Int) (th : List Flm → Int) : aftS (fun i => whoL (s.getD i []) ++ [.who m (th (s.getD i []))]) s.length = onS s m th := by
  apply List.ext_getElem
  · simp [aftS, onS]
  · intro i h1 h2
    rw [aftS_len] at h1
    simp only [aftS, onS, List.getElem_map, List.getElem_range]
    have e : s.getD i [] = s[i] := by simp [h1]
    have hg := hs.col i h1
    rw [putA_on hg, e]
/-- What a film that is put on is asked first. -/
def pfC (s : List (List Flm)) (m t lo : Int) : Int := if secF s = 0 then (if 1 ≤ m ∧ m ≤ 12 then (if lo ≤ t ∧ t ≤ 100000 then 0 else 3) else 1) else secF s
theorem pfC_ok {s : List (List Flm)} {m t lo : Int} (h : pfC s m t lo = 0) : GS s ∧ (1 ≤ m ∧ m ≤ 12) ∧ lo ≤ t ∧ t ≤ 100000 := by
  unfold pfC at h
  split at h
  · rename_i h1
    split at h
    · rename_i h2
      split at h
      · rename_i h3; exact ⟨secF_zero.1 h1, h2, h3⟩
      · cases h
    · cases h
  · rename_i h1; exact absurd h h1
/-- What Deposit and FillTo answer. -/
def onC (s : List (List Flm)) (m t lo : Int) (th : List Flm → Int) : Int := if pfC s m t lo = 0 then secF (onS s m th) else pfC s m t lo
def onL (s : List (List Flm)) (m t lo : Int) (th : List Flm → Int) : List (List Flm) := if onC s m t lo th = 0 then onS s m th else []
def fiT (lv : Int) (c : List Flm) : Int := if 0 < lv - topC c then lv - topC c else 0
theorem totF_le {s : List (List Flm)} {B : Nat} (h : ∀ i, i < s.length → (s.getD i []).length ≤ B) : ∀ n, n ≤ s.length → totF s n ≤ n * B := by
  intro n
  induction n with
  | zero => intro _; simp [totF]
  | succ n ih =>
    intro hn
    have h1 := ih (by omega)
    have h2 := h n (by omega)
    rw [totF, Nat.add_mul]; omega
theorem SmF.of {s : List (List Flm)} (h0 : s.length ≤ 16) (h : ∀ i, i < s.length → (s.getD i []).length ≤ 100) : SmF s := by
  refine ⟨by omega, ?_⟩
  have h1 := totF_le h s.length (Nat.le_refl _)
  have h2 : s.length * 100 ≤ 16 * 100 := Nat.mul_le_mul_right _ h0
  omega
theorem GS.sm {s : List (List Flm)} (h : GS s) : SmF s := SmF.of h.len fun i hi => Nat.le_trans (h.col i hi).len (by omega)
theorem onL_sm (s : List (List Flm)) (m t lo : Int) (th : List Flm → Int) : SmF (onL s m t lo th) := by
  unfold onL
  split
  · rename_i h
    unfold onC at h
    split at h
    · exact (secF_zero.1 h).sm
    · rename_i h2; exact absurd h h2
  · exact ⟨by simp, by simp [totF]⟩
theorem aft_sm {lays : Nat → List Lay} {n : Nat} (hn : n ≤ 16) (hl : ∀ i, i < n → (lays i).length ≤ 25) : SmF (aftS lays n) := by
  refine SmF.of (by rw [aftS_len]; exact hn) fun i hi => ?_
  rw [aftS_len] at hi
  rw [aftS_at lays hi]
  exact Nat.le_trans (putA_len _ _) (Nat.le_trans (hl i hi) (by omega))

end Go.Proofs.Ytceljakmjddgbab
