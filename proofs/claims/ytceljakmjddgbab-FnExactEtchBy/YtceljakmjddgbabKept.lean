/- Proved here: small rules on worlds that have grown: what was there is there still. No condition on the program. (And ahead of it: Proved here: worlds that differ in some blocks alone. No condition on the program.) (And ahead of it: Proved here: etching, film by film from the top. No condition on the program.) -/
import Derived.Test.YtceljakmjddgbabEtM
import Derived.Test.YtceljakmjddgbabScB
import Derived.Test.YtceljakmjddgbabUnd
namespace Go.Proofs.Ytceljakmjddgbab
open Go.RowKit
set_option linter.unusedVariables false
set_option linter.unusedSimpArgs false

/-- The rate at which a film is etched. -/
def raO (ra : List Int) (f : Flm) : Int := ra.getD (f.m - 1).toNat 0
/-- How long a film lasts. -/
def neO (ra : List Int) (f : Flm) : Int := (f.t + raO ra f - 1) / raO ra f
/-- j films are left, and so much time: what becomes of the layers. -/
def ebR (c : List Flm) (ra : List Int) : Nat → Int → List Lay → List Lay
  | 0, _, L => L
  | j + 1, t, L => if raO ra (fat c j) * t < (fat c j).t then L.set j (lessL (fat c j) (raO ra (fat c j) * t)) else ebR c ra j (t - neO ra (fat c j)) (L.set j (lessL (fat c j) (raO ra (fat c j) * t)))
def ebL (c : List Flm) (ra : List Int) (t : Int) : List Lay := ebR c ra c.length t (whoL c)
/-- What the model makes of a column. -/
def ebF (c : List Flm) (ra : List Int) : Nat → Int → List Flm
  | 0, _ => []
  | j + 1, t => if raO ra (fat c j) * t < (fat c j).t then (c.take (j + 1)).set j ⟨(fat c j).m, (fat c j).t - raO ra (fat c j) * t⟩ else ebF c ra j (t - neO ra (fat c j))
theorem ne_le {ra : List Int} {f : Flm} {t : Int} (hr : 0 ≤ raO ra f) (ht : 1 ≤ f.t) (h : ¬ raO ra f * t < f.t) : 1 ≤ raO ra f ∧ 0 ≤ neO ra f ∧ neO ra f ≤ t := by
  have h1 : raO ra f ≠ 0 := fun e => by rw [e, Int.zero_mul] at h; omega
  have h2 : 0 < raO ra f := by omega
  refine ⟨by omega, Int.ediv_nonneg (by omega) hr, ?_⟩
  unfold neO
  have h3 : f.t + raO ra f - 1 < (t + 1) * raO ra f := by rw [Int.add_mul, Int.one_mul, Int.mul_comm t]; omega
  have := Int.ediv_lt_of_lt_mul h2 h3
  omega
theorem ne_gt {ra : List Int} {f : Flm} {t : Int} (hr : 1 ≤ raO ra f) (h : raO ra f * t < f.t) : t < neO ra f := by
  unfold neO
  have h3 : (t + 1) * raO ra f ≤ f.t + raO ra f - 1 := by rw [Int.add_mul, Int.one_mul, Int.mul_comm t]; omega
  have := (Int.le_ediv_iff_mul_le (show 0 < raO ra f by omega)).2 h3
  omega
theorem ebR_len (c : List Flm) (ra : List Int) (j : Nat) : ∀ (t : Int) (L : List Lay), (ebR c ra j t L).length = L.length := by
  induction j with
  | zero => intro t L; rfl
  | succ j ih => intro t L; rw [ebR]; split <;> simp [ih]
theorem ebL_len (c : List Flm) (ra : List Int) (t : Int) : (ebL c ra t).length = c.length := by rw [ebL, ebR_len, whoL_len]
theorem less_ok {c : List Flm} (h : GC c) {k : Nat} (hk : k < c.length) {b : Int} (hb : 0 ≤ b) : okL (lessL (fat c k) b) ∧ origL (lessL (fat c k) b) = fat c k := by
  have h1 := h.m hk
  have h2 := h.t hk
  unfold lessL
  split
  · exact ⟨⟨h1.1, h1.2, by omega, by omega⟩, rfl⟩
  · exact ⟨⟨h1.1, h1.2, by omega, by omega, by omega⟩, rfl⟩
theorem ebR_ok {c : List Flm} (h : GC c) {ra : List Int} (hra : ∀ f, 0 ≤ raO ra f) {j : Nat} : ∀ {t : Int} {L : List Lay}, j ≤ c.length → 0 ≤ t → L.length = c.length → (∀ k, k < c.length → okL (lat L k) ∧ origL (lat L k) = fat c k) → ∀ k, k < c.length → okL (lat (ebR c ra j t L) k) ∧ origL (lat (ebR c ra j t L) k) = fat c k := by
  induction j with
  | zero => intro t L _ _ _ hL; exact hL
  | succ j ih =>
    intro t L hj ht hl hL
    have hs : ∀ k, k < c.length → okL (lat (L.set j (lessL (fat c j) (raO ra (fat c j) * t))) k) ∧ origL (lat (L.set j (lessL (fat c j) (raO ra (fat c j) * t))) k) = fat c k := by
      intro k hk
      rw [lat_set (by omega)]
      split
      · rename_i e; subst e; exact less_ok h hk (Int.mul_nonneg (hra _) ht)
      · exact hL k hk
    rw [ebR]
    split
    · exact hs
    · rename_i h9
      have h8 := ne_le (hra _) (h.t (show j < c.length by omega)).1 h9
      exact ih (by omega) (by omega) (by simpa using hl) hs
theorem ebL_ok {c : List Flm} (h : GC c) {ra : List Int} (hra : ∀ f, 0 ≤ raO ra f) {t : Int} (ht : 0 ≤ t) {k : Nat} (hk : k < c.length) : okL (lat (ebL c ra t) k) ∧ origL (lat (ebL c ra t) k) = fat c k :=
  ebR_ok h hra (Nat.le_refl _) ht (whoL_len c) (fun k hk => ⟨okL_who h hk, by rw [whoL_at hk]; rfl⟩) k hk
theorem gone_put {L : List Lay} {i n : Nat} (hin : i ≤ n) (h : ∀ k, i ≤ k → k < n → (leftL (lat L k)).t = 0) : putA L n = putA L i := by
  induction n with
  | zero => rw [show i = 0 by omega]
  | succ n ih =>
    rcases Nat.lt_or_ge n i with h1 | h1
    · rw [show i = n + 1 by omega]
    · rw [putA, ih h1 fun k h2 h3 => h k h2 (by omega)]
      unfold putF
      rw [if_pos (h n h1 (by omega))]
theorem putF_take {c : List Flm} (h : GC c) {j : Nat} (hj : j < c.length) {x : Int} (hx : x ≠ 0) : putF (c.take j) ⟨(fat c j).m, x⟩ = (c.take (j + 1)).set j ⟨(fat c j).m, x⟩ := by
  have h1 := h.ok j hj
  unfold okF at h1
  have e1 : (c.take (j + 1)).set j ⟨(fat c j).m, x⟩ = c.take j ++ [⟨(fat c j).m, x⟩] := by
    rw [List.take_succ_eq_append_getElem hj, List.set_append_right _ _ (by rw [List.length_take]; omega)]
    rw [show j - (c.take j).length = 0 by rw [List.length_take]; omega]
    rfl
  rw [e1, putF_snoc (by exact hx)]
  cases j with
  | zero => left; simp
  | succ k =>
    right
    rw [List.length_take, Nat.min_eq_left (by omega), Nat.add_sub_cancel]
    have e : fat (c.take (k + 1)) k = fat c k := by
      unfold fat
      rw [List.getD_eq_getElem?_getD, List.getElem?_take_of_lt (by omega), ← List.getD_eq_getElem?_getD]
    rw [e]
    exact fun e2 => h1.2.2.1 e2.symm
theorem ebR_put {c : List Flm} (h : GC c) {ra : List Int} (hra : ∀ f, 0 ≤ raO ra f) {j : Nat} : ∀ {t : Int} {L : List Lay}, j ≤ c.length → 0 ≤ t → L.length = c.length → (∀ k, k < j → lat L k = .who (fat c k).m (fat c k).t) → (∀ k, j ≤ k → k < c.length → (leftL (lat L k)).t = 0) → putA (ebR c ra j t L) c.length = ebF c ra j t := by
  induction j with
  | zero => intro t L _ _ _ _ hg; rw [ebR, ebF, gone_put (Nat.zero_le _) hg]; rfl
  | succ j ih =>
    intro t L hj ht hl hw hg
    have hjl : j < c.length := by omega
    have ha : ∀ k, k < j → lat (L.set j (lessL (fat c j) (raO ra (fat c j) * t))) k = .who (fat c k).m (fat c k).t := fun k hk => by
      rw [lat_set (by omega), if_neg (by omega)]; exact hw k (by omega)
    have hb : ∀ k, j + 1 ≤ k → k < c.length → (leftL (lat (L.set j (lessL (fat c j) (raO ra (fat c j) * t))) k)).t = 0 := fun k hk1 hk2 => by
      rw [lat_set (by omega), if_neg (by omega)]; exact hg k hk1 hk2
    have hm : lat (L.set j (lessL (fat c j) (raO ra (fat c j) * t))) j = lessL (fat c j) (raO ra (fat c j) * t) := by rw [lat_set (by omega), if_pos rfl]
    have hz := Int.mul_nonneg (hra (fat c j)) ht
    rw [ebR, ebF]
    split
    · rename_i h9
      rw [gone_put (show j + 1 ≤ c.length by omega) hb, putA, putA_whole h (Nat.le_of_lt hjl) _ (fun k hk => by rw [ha k hk]; rfl), hm]
      unfold lessL
      rw [if_neg (by omega)]
      exact putF_take h hjl (by omega)
    · rename_i h9
      have h8 := ne_le (hra _) (h.t hjl).1 h9
      refine ih (by omega) (by omega) (by simpa using hl) ha fun k hk1 hk2 => ?_
      rcases Nat.lt_or_ge j k with h7 | h7
      · exact hb k (by omega) hk2
      · rw [show k = j by omega, hm]
        unfold lessL
        rw [if_pos (by omega)]
        rfl
theorem ebL_put {c : List Flm} (h : GC c) {ra : List Int} (hra : ∀ f, 0 ≤ raO ra f) {t : Int} (ht : 0 ≤ t) : putA (ebL c ra t) (ebL c ra t).length = ebF c ra c.length t := by
  rw [ebL_len]
  exact ebR_put h hra (Nat.le_refl _) ht (whoL_len c) (fun k hk => whoL_at hk) (fun k h1 h2 => by omega)
/-- The fault of rates, time and mask behind a section's. -/
def erF (ra : List Int) : Int := if ∀ k, k < ra.length → 0 ≤ ra.getD k 0 ∧ ra.getD k 0 ≤ 1000 then 0 else 3
def ebC (s : List (List Flm)) (ra : List Int) (t : Int) (mk : List Bool) : Int :=
  if secF s = 0 then (if ra.length = 12 ∧ mk.length = s.length then (if erF ra = 0 then (if 0 ≤ t ∧ t ≤ 100000 then 0 else 3) else 3) else 1) else secF s
def ebY (s : List (List Flm)) (ra : List Int) (t : Int) (mk : List Bool) (i : Nat) : List Lay := if mk.getD i false = true then whoL (s.getD i []) else ebL (s.getD i []) ra t
theorem erF_ok {ra : List Int} (h : erF ra = 0) : ∀ f, 0 ≤ raO ra f ∧ raO ra f ≤ 1000 := by
  intro f
  unfold erF at h
  split at h
  · rename_i h1
    unfold raO
    rcases Nat.lt_or_ge (f.m - 1).toNat ra.length with h2 | h2
    · exact h1 _ h2
    · rw [show ra.getD (f.m - 1).toNat 0 = 0 by rw [List.getD_eq_getElem?_getD, List.getElem?_eq_none h2]; rfl]; omega
  · cases h
theorem eb_ly {s : List (List Flm)} (h : GS s) {ra : List Int} (hra : ∀ f, 0 ≤ raO ra f) {t : Int} (ht : 0 ≤ t) (mk : List Bool) : LyOk s (ebY s ra t mk) := by
  have hl : ∀ i, (ebY s ra t mk i).length = (s.getD i []).length := fun i => by
    by_cases h9 : mk.getD i false = true
    · rw [ebY, if_pos h9, whoL_len]
    · rw [ebY, if_neg h9, ebL_len]
  have hok : ∀ i, i < s.length → ∀ k, k < (s.getD i []).length → okL (lat (ebY s ra t mk i) k) ∧ origL (lat (ebY s ra t mk i) k) = fat (s.getD i []) k := fun i hi k hk => by
    unfold ebY
    split
    · exact ⟨okL_who (h.col i hi) hk, by rw [whoL_at hk]; rfl⟩
    · exact ebL_ok (h.col i hi) hra ht hk
  exact ⟨fun i _ => hl i, fun i hi k hk => (hok i hi k (by rw [← hl i]; exact hk)).1, fun i hi k hk => (hok i hi k (by rw [← hl i]; exact hk)).2⟩

end Go.Proofs.Ytceljakmjddgbab

namespace Go.Proofs.Ytceljakmjddgbab
open Go.RowKit
set_option linter.unusedVariables false
set_option linter.unusedSimpArgs false

/-- Nothing but blocks from B on and below Z has turned. -/
structure Chg (B Z : Nat) (w w' : World) : Prop where
  os : w'.os = w.os
  tape : w'.tape = w.tape
  output : w'.output = w.output
  size : w.heap.size ≤ w'.heap.size
  block : ∀ k, k < w.heap.size → (k < B ∨ Z ≤ k) → w'.heap[k]? = w.heap[k]?

theorem Chg.refl (B Z : Nat) (w : World) : Chg B Z w w := ⟨rfl, rfl, rfl, Nat.le_refl _, fun _ _ _ => rfl⟩
theorem Chg.trans {B Z : Nat} {w w' w'' : World} (h : Chg B Z w w') (h' : Chg B Z w' w'') : Chg B Z w w'' :=
  ⟨h'.os.trans h.os, h'.tape.trans h.tape, h'.output.trans h.output, Nat.le_trans h.size h'.size, fun k hk hb => (h'.block k (Nat.lt_of_lt_of_le hk h.size) hb).trans (h.block k hk hb)⟩
theorem Chg.set {B Z g o : Nat} (w : World) (u : Value) (h1 : B ≤ g) (h2 : g < Z) : Chg B Z w (w.setCell ⟨g, o, none⟩ u) :=
  ⟨rfl, rfl, rfl, by simp, fun k hk hb => heap_setCell_other _ _ _ _ (by simp; omega)⟩
theorem Chg.only {B Z g : Nat} {w w' : World} (h : Only g w w') (h1 : B ≤ g) (h2 : g < Z) : Chg B Z w w' :=
  ⟨h.os, h.tape, h.output, by rw [h.size]; exact Nat.le_refl _, fun k hk hb => h.block k (by omega)⟩
theorem Chg.below {B Z A : Nat} {w w' : World} (h : Chg B Z w w') (hA : A ≤ B) (hs : A ≤ w.heap.size) : Below A w w' :=
  ⟨h.os, h.tape, h.output, h.size, fun k hk => h.block k (by omega) (Or.inl (by omega))⟩
theorem Chg.of_below {B Z : Nat} {w w' : World} (h : Below w.heap.size w w') : Chg B Z w w' :=
  ⟨h.os, h.tape, h.output, h.size, fun k hk _ => h.block k hk⟩

end Go.Proofs.Ytceljakmjddgbab

namespace Go.Proofs.Ytceljakmjddgbab
open Go.RowKit
set_option linter.unusedVariables false

/-- What lay in W lies in w still. -/
def KS (W w : World) : Prop := (∀ b o, b < W.heap.size → w.cell? ⟨b, o, none⟩ = W.cell? ⟨b, o, none⟩) ∧ Below W.heap.size W w

theorem KS.of {W w : World} (h : Below W.heap.size W w) : KS W w := ⟨fun b o hb => h.cell (p := ⟨b, o, none⟩) hb, h⟩
theorem KS.start (W : World) : KS W W.drew := KS.of ((Below.refl _ _).drew)
theorem KS.call {W w w' : World} (h : KS W w) (hb : Below w.heap.size w w') : KS W w' := KS.of (h.2.trans (hb.mono h.2.size))
theorem KS.alloc {W w : World} (h : KS W w) (o : Obj) : KS W (w.alloc o) := KS.of (h.2.alloc h.2.size o)
theorem KS.set {W w : World} (h : KS W w) {p : Addr} (hp : W.heap.size ≤ p.block) (u : Value) : KS W (w.setCell p u) := KS.of (h.2.setCell hp u)

end Go.Proofs.Ytceljakmjddgbab
