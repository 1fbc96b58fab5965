/- Proved here: stripping and polishing, layer by layer. No condition on the program. (And ahead of it: Proved here: columns whose films are all whole. No condition on the program.) -/
import Derived.Test.YtceljakmjddgbabLyW
import Derived.Test.YtceljakmjddgbabLsB
namespace Go.Proofs.Ytceljakmjddgbab
open Go.RowKit
set_option linter.unusedVariables false
set_option linter.unusedSimpArgs false

theorem putF_snoc {c : List Flm} {f : Flm} (h0 : f.t ≠ 0) (h1 : c.length = 0 ∨ (fat c (c.length - 1)).m ≠ f.m) : putF c f = c ++ [f] := by
  unfold putF
  have h9 : ¬ (0 < c.length ∧ (fat c (c.length - 1)).m = f.m) := by
    rintro ⟨h2, h3⟩
    rcases h1 with h1 | h1
    · omega
    · exact h1 h3
  rw [if_neg h0, if_neg h9]
/-- Whole films, put upon each other, are the column. -/
theorem putA_whole {c : List Flm} (h : GC c) {k : Nat} (hk : k ≤ c.length) (ls : List Lay) (hls : ∀ j, j < k → leftL (lat ls j) = fat c j) : putA ls k = c.take k := by
  induction k with
  | zero => simp [putA]
  | succ k ih =>
    have hkl : k < c.length := by omega
    rw [putA, ih (by omega) fun j hj => hls j (by omega), hls k (by omega)]
    have h1 := h.ok k hkl
    unfold okF at h1
    rw [putF_snoc (by omega)]
    · rw [fat_get hkl, List.take_append_getElem hkl]
    · cases k with
      | zero => left; simp
      | succ k =>
        right
        rw [List.length_take, Nat.min_eq_left (by omega), Nat.add_sub_cancel]
        have e : fat (c.take (k + 1)) k = fat c k := by
          unfold fat
          rw [List.getD_eq_getElem?_getD, List.getElem?_take_of_lt (by omega), ← List.getD_eq_getElem?_getD]
        rw [e]
        exact fun e2 => h1.2.2.1 e2.symm
theorem lat_app {ls : List Lay} {l : Lay} {k : Nat} (h : k < ls.length) : lat (ls ++ [l]) k = lat ls k := by
  unfold lat
  rw [List.getD_eq_getElem?_getD, List.getElem?_append_left h, ← List.getD_eq_getElem?_getD]
theorem lat_end {ls : List Lay} {l : Lay} : lat (ls ++ [l]) ls.length = l := by simp [lat]
/-- A film upon whole films. -/
theorem putA_on {c : List Flm} (h : GC c) (m t : Int) : putA (whoL c ++ [.who m t]) (whoL c ++ [Lay.who m t]).length = putF c ⟨m, t⟩ := by
  rw [List.length_append, List.length_singleton, putA, whoL_len, putA_whole h (Nat.le_refl _) _ (fun j hj => by rw [lat_app (by rw [whoL_len]; exact hj), whoL_at hj]; rfl), List.take_length]
  have e : lat (whoL c ++ [Lay.who m t]) c.length = .who m t := by rw [← whoL_len c]; exact lat_end
  rw [e]
  rfl
theorem okL_who {c : List Flm} (h : GC c) {k : Nat} (hk : k < c.length) : okL (lat (whoL c) k) := by
  rw [whoL_at hk]
  have h1 := h.m hk
  have h2 := h.t hk
  exact ⟨h1.1, h1.2, by omega, by omega⟩
theorem okL_on {c : List Flm} (h : GC c) {m t : Int} (hm : 1 ≤ m ∧ m ≤ 12) (ht : 0 ≤ t ∧ t ≤ 100000) : (whoL c ++ [Lay.who m t]).length ≤ 25 ∧ ∀ k, k < (whoL c ++ [Lay.who m t]).length → okL (lat (whoL c ++ [.who m t]) k) := by
  refine ⟨by rw [List.length_append, whoL_len]; have := h.len; simp; omega, fun k hk => ?_⟩
  rw [List.length_append, List.length_singleton, whoL_len] at hk
  by_cases e : k < c.length
  · rw [lat_app (by rw [whoL_len]; exact e)]; exact okL_who h e
  · have e2 : k = (whoL c).length := by rw [whoL_len]; omega
    rw [e2, lat_end]
    exact ⟨hm.1, hm.2, ht.1, by omega⟩
/-- A film upon each column; what it is may hang on the column. -/
def onS (s : List (List Flm)) (m : Int) (th : List Flm → Int) : List (List Flm) := s.map fun c => putF c ⟨m, th c⟩
theorem onS_aft {s : List (List Flm)} (hs : GS s) (m : Int) (th : List Flm → Int) : aftS (fun i => whoL (s.getD i []) ++ [.who m (th (s.getD i []))]) s.length = onS s m th := by
  apply List.ext_getElem
  · simp [aftS, onS]
  · intro i h1 h2
    rw [aftS_len] at h1
    simp only [aftS, onS, List.getElem_map, List.getElem_range]
    have e : s.getD i [] = s[i] := by simp [h1]
    have hg := hs.col i h1
    rw [putA_on hg, e]
/-- What a film that is put on is asked first. -/
def pfC (s : List (List Flm)) (m t lo : Int) : Int := if secF s = 0 then (if 1 ≤ m ∧ m ≤ 12 then (if lo ≤ t ∧ t ≤ 100000 then 0 else 3) else 1) else secF s
theorem pfC_ok {s : List (List Flm)} {m t lo : Int} (h : pfC s m t lo = 0) : GS s ∧ (1 ≤ m ∧ m ≤ 12) ∧ lo ≤ t ∧ t ≤ 100000 := by
  unfold pfC at h
  split at h
  · rename_i h1
    split at h
    · rename_i h2
      split at h
      · rename_i h3; exact ⟨secF_zero.1 h1, h2, h3⟩
      · cases h
    · cases h
  · rename_i h1; exact absurd h h1
/-- What Deposit and FillTo answer. -/
def onC (s : List (List Flm)) (m t lo : Int) (th : List Flm → Int) : Int := if pfC s m t lo = 0 then secF (onS s m th) else pfC s m t lo
def onL (s : List (List Flm)) (m t lo : Int) (th : List Flm → Int) : List (List Flm) := if onC s m t lo th = 0 then onS s m th else []
def fiT (lv : Int) (c : List Flm) : Int := if 0 < lv - topC c then lv - topC c else 0
theorem totF_le {s : List (List Flm)} {B : Nat} (h : ∀ i, i < s.length → (s.getD i []).length ≤ B) : ∀ n, n ≤ s.length → totF s n ≤ n * B := by
  intro n
  induction n with
  | zero => intro _; simp [totF]
  | succ n ih =>
    intro hn
    have h1 := ih (by omega)
    have h2 := h n (by omega)
    rw [totF, Nat.add_mul]; omega
theorem SmF.of {s : List (List Flm)} (h0 : s.length ≤ 16) (h : ∀ i, i < s.length → (s.getD i []).length ≤ 100) : SmF s := by
  refine ⟨by omega, ?_⟩
  have h1 := totF_le h s.length (Nat.le_refl _)
  have h2 : s.length * 100 ≤ 16 * 100 := Nat.mul_le_mul_right _ h0
  omega
theorem GS.sm {s : List (List Flm)} (h : GS s) : SmF s := SmF.of h.len fun i hi => Nat.le_trans (h.col i hi).len (by omega)
theorem onL_sm (s : List (List Flm)) (m t lo : Int) (th : List Flm → Int) : SmF (onL s m t lo th) := by
  unfold onL
  split
  · rename_i h
    unfold onC at h
    split at h
    · exact (secF_zero.1 h).sm
    · rename_i h2; exact absurd h h2
  · exact ⟨by simp, by simp [totF]⟩
theorem aft_sm {lays : Nat → List Lay} {n : Nat} (hn : n ≤ 16) (hl : ∀ i, i < n → (lays i).length ≤ 25) : SmF (aftS lays n) := by
  refine SmF.of (by rw [aftS_len]; exact hn) fun i hi => ?_
  rw [aftS_len] at hi
  rw [aftS_at lays hi]
  exact Nat.le_trans (putA_len _ _) (Nat.le_trans (hl i hi) (by omega))

end Go.Proofs.Ytceljakmjddgbab

namespace Go.Proofs.Ytceljakmjddgbab
open Go.RowKit
set_option linter.unusedVariables false
set_option linter.unusedSimpArgs false

theorem lat_set {ls : List Lay} {i k : Nat} {l : Lay} (h : i < ls.length) : lat (ls.set i l) k = if k = i then l else lat ls k := by
  unfold lat
  by_cases e : k = i
  · subst e; simp [h]
  · rw [if_neg e, List.getD_eq_getElem?_getD, List.getElem?_set_ne (by omega), ← List.getD_eq_getElem?_getD]
/-- The film on top is gone, if it is of that material. -/
def stL (c : List Flm) (m : Int) : List Lay := if 0 < c.length ∧ (fat c (c.length - 1)).m = m then (whoL c).set (c.length - 1) (.gon (fat c (c.length - 1)).m (fat c (c.length - 1)).t) else whoL c
theorem stL_len (c : List Flm) (m : Int) : (stL c m).length = c.length := by unfold stL; split <;> simp [whoL_len]
theorem stL_ok {c : List Flm} (h : GC c) (m : Int) {k : Nat} (hk : k < c.length) : okL (lat (stL c m) k) ∧ origL (lat (stL c m) k) = fat c k := by
  have h1 := h.m hk
  have h2 := h.t hk
  have hw : okL (lat (whoL c) k) ∧ origL (lat (whoL c) k) = fat c k := ⟨okL_who h hk, by rw [whoL_at hk]; rfl⟩
  unfold stL
  split
  · rw [lat_set (by rw [whoL_len]; omega)]
    split
    · rename_i e; subst e
      exact ⟨⟨h1.1, h1.2, by omega, by omega⟩, rfl⟩
    · exact hw
  · exact hw
theorem putA_congr {ls ms : List Lay} {n : Nat} (h : ∀ k, k < n → lat ls k = lat ms k) : putA ls n = putA ms n := by
  induction n with
  | zero => rfl
  | succ n ih => rw [putA, putA, ih fun k hk => h k (by omega), h n (by omega)]
theorem putA_who {c : List Flm} (h : GC c) {k : Nat} (hk : k ≤ c.length) : putA (whoL c) k = c.take k := putA_whole h hk _ fun j hj => by rw [whoL_at (by omega)]; rfl
theorem stL_put {c : List Flm} (h : GC c) (m : Int) : putA (stL c m) (stL c m).length = if 0 < c.length ∧ (fat c (c.length - 1)).m = m then c.take (c.length - 1) else c := by
  rw [stL_len]
  split
  · rename_i h1
    obtain ⟨p, hp⟩ : ∃ p, c.length = p + 1 := ⟨c.length - 1, by omega⟩
    unfold stL
    rw [if_pos h1, hp, putA, putA_congr (ms := whoL c) fun k hk => by rw [lat_set (by rw [whoL_len]; omega), if_neg (by omega)], putA_who h (by omega)]
    rw [lat_set (by rw [whoL_len]; omega), if_pos (by omega)]
    unfold putF
    rw [if_pos (show (leftL (Lay.gon _ _)).t = 0 from rfl)]
    congr 1
  · rename_i h1
    unfold stL
    rw [if_neg h1, putA_who h (Nat.le_refl _), List.take_length]
/-- A film less so much. -/
def lessL (f : Flm) (b : Int) : Lay := if f.t ≤ b then .gon f.m f.t else .thi f.m f.t b
/-- Polished to a level. -/
def poF (c : List Flm) (lv : Int) (k : Nat) : Lay := if 0 < topA c (k + 1) - lv then lessL (fat c k) (topA c (k + 1) - lv) else .who (fat c k).m (fat c k).t
def poL (c : List Flm) (lv : Int) : List Lay := (List.range c.length).map (poF c lv)
theorem poL_len (c : List Flm) (lv : Int) : (poL c lv).length = c.length := by simp [poL]
theorem poL_at {c : List Flm} (lv : Int) {k : Nat} (hk : k < c.length) : lat (poL c lv) k = poF c lv k := by
  rw [lat_get (by rw [poL_len]; exact hk)]
  simp [poL]
theorem poL_ok {c : List Flm} (h : GC c) (lv : Int) {k : Nat} (hk : k < c.length) : okL (lat (poL c lv) k) ∧ origL (lat (poL c lv) k) = fat c k := by
  have h1 := h.m hk
  have h2 := h.t hk
  rw [poL_at lv hk]
  unfold poF lessL
  split
  · split
    · exact ⟨⟨h1.1, h1.2, by omega, by omega⟩, rfl⟩
    · exact ⟨⟨h1.1, h1.2, by omega, by omega, by omega⟩, rfl⟩
  · exact ⟨⟨h1.1, h1.2, by omega, by omega⟩, rfl⟩
theorem poF_left {c : List Flm} {lv : Int} {k : Nat} (ht : 1 ≤ (fat c k).t) : leftL (poF c lv k) = ⟨(fat c k).m, if (if lv - topA c k < (fat c k).t then lv - topA c k else (fat c k).t) > 0 then (if lv - topA c k < (fat c k).t then lv - topA c k else (fat c k).t) else 0⟩ := by
  unfold poF lessL
  rw [topA]
  split
  · split
    · simp only [leftL]
      congr 1
      split <;> split <;> omega
    · simp only [leftL]
      congr 1
      split <;> split <;> omega
  · simp only [leftL]
    congr 1
    split <;> split <;> omega
/-- What such a step answers. -/
def etL (C : Int) (lays : Nat → List Lay) (n : Nat) : List (List Flm) := if C = 0 then aftS lays n else []
def etG (C : Int) (lays : Nat → List Lay) (n : Nat) : List Int := if C = 0 then goA lays n else []
def stC (s : List (List Flm)) (m : Int) : Int := if secF s = 0 then (if 1 ≤ m ∧ m ≤ 12 then 0 else 1) else secF s
def poC (s : List (List Flm)) (lv : Int) : Int := if secF s = 0 then (if 0 ≤ lv ∧ lv ≤ 100000 then 0 else 3) else secF s
theorem stC_ok {s : List (List Flm)} {m : Int} (h : stC s m = 0) : GS s ∧ 1 ≤ m ∧ m ≤ 12 := by
  unfold stC at h
  split at h
  · rename_i h1
    split at h
    · rename_i h2; exact ⟨secF_zero.1 h1, h2⟩
    · cases h
  · rename_i h1; exact absurd h h1
theorem poC_ok {s : List (List Flm)} {m : Int} (h : poC s m = 0) : GS s ∧ 0 ≤ m ∧ m ≤ 100000 := by
  unfold poC at h
  split at h
  · rename_i h1
    split at h
    · rename_i h2; exact ⟨secF_zero.1 h1, h2⟩
    · cases h
  · rename_i h1; exact absurd h h1
theorem st_ly {s : List (List Flm)} (h : GS s) (m : Int) : LyOk s (fun i => stL (s.getD i []) m) :=
  ⟨fun i hi => stL_len _ _, fun i hi k hk => (stL_ok (h.col i hi) m (by rw [stL_len] at hk; exact hk)).1, fun i hi k hk => (stL_ok (h.col i hi) m (by rw [stL_len] at hk; exact hk)).2⟩
theorem po_ly {s : List (List Flm)} (h : GS s) (lv : Int) : LyOk s (fun i => poL (s.getD i []) lv) :=
  ⟨fun i hi => poL_len _ _, fun i hi k hk => (poL_ok (h.col i hi) lv (by rw [poL_len] at hk; exact hk)).1, fun i hi k hk => (poL_ok (h.col i hi) lv (by rw [poL_len] at hk; exact hk)).2⟩
theorem LyOk.st {s : List (List Flm)} {lays : Nat → List Lay} (hs : GS s) (h : LyOk s lays) : ∀ i, i < s.length → (lays i).length ≤ 25 ∧ ∀ k, k < (lays i).length → okL (lat (lays i) k) :=
  fun i hi => ⟨by rw [h.len i hi]; have := (hs.col i hi).len; omega, h.ok i hi⟩
theorem et_sm {s : List (List Flm)} {lays : Nat → List Lay} {C : Int} (h : C = 0 → GS s ∧ LyOk s lays) : SmF (etL C lays s.length) ∧ (etG C lays s.length).length ≤ 1048576 := by
  unfold etL etG
  split
  · rename_i h0
    obtain ⟨hs, hl⟩ := h h0
    refine ⟨aft_sm hs.len fun i hi => (hl.st hs i hi).1, ?_⟩
    rw [(books hs hl (Nat.le_refl _) 0).2.2.1]; omega
  · exact ⟨⟨by simp, by simp [totF]⟩, by simp⟩

end Go.Proofs.Ytceljakmjddgbab
