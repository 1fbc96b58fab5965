/- Proved here: the yield: what YieldOf answers. (And ahead of it: Proved here: dice that are hit: what HitDice answers.) -/
import Derived.Test.YtjacmneopijiaaaVbM
import Derived.Test.YtjacmneopijiaaaVkM
namespace Go.Proofs.Ytjacmneopijiaaa
open Go.RowKit
set_option linter.unusedVariables false
set_option linter.unusedSimpArgs false

/-- A grid, by a function of row and column. -/
def gR (G : Nat → Nat → Int) (H W : Nat) : List (List Int) := (List.range H).map fun j => (List.range W).map (G j)
theorem gR_len (G : Nat → Nat → Int) (H W : Nat) : (gR G H W).length = H := by unfold gR; simp
theorem gR_row {G : Nat → Nat → Int} {H W j : Nat} (h : j < H) : (gR G H W).getD j [] = (List.range W).map (G j) := by unfold gR; simp [h]
theorem gR_congr {G K : Nat → Nat → Int} {H W : Nat} (h : ∀ j i, j < H → i < W → G j i = K j i) : gR G H W = gR K H W := by
  unfold gR
  apply List.map_congr_left
  intro j hj
  apply List.map_congr_left
  intro i hi
  exact h j i (List.mem_range.1 hj) (List.mem_range.1 hi)
theorem row_set (G : Nat → Int) (W i : Nat) (z : Int) : ((List.range W).map G).set i z = (List.range W).map (fun b => if b = i then z else G b) := by
  apply List.ext_getElem?
  intro b
  by_cases h : b < W
  · by_cases e : i = b
    · subst e; rw [List.getElem?_set_self (by simpa using h)]; simp [h]
    · rw [List.getElem?_set_ne e]; simp [h, Ne.symm e]
  · rw [List.getElem?_eq_none (by simp; omega), List.getElem?_eq_none (by simp; omega)]
theorem gR_set {G : Nat → Nat → Int} {H W j i : Nat} {z : Int} (hj : j < H) : (gR G H W).set j (((List.range W).map (G j)).set i z) = gR (fun a b => if a = j ∧ b = i then z else G a b) H W := by
  rw [row_set]
  unfold gR
  apply List.ext_getElem?
  intro a
  by_cases h : a < H
  · by_cases e : j = a
    · subst e; rw [List.getElem?_set_self (by simpa using h)]; simp [h]
    · rw [List.getElem?_set_ne e]; simp [h, Ne.symm e]
  · rw [List.getElem?_eq_none (by simp; omega), List.getElem?_eq_none (by simp; omega)]
/-- Rows that are made one by one. -/
def zK (H W k : Nat) : List (List Int) := (List.range H).map fun j => if j < k then List.replicate W 0 else []
theorem zK_len (H W k : Nat) : (zK H W k).length = H := by unfold zK; simp
theorem zK_zero (H W : Nat) : zK H W 0 = List.replicate H [] := by
  unfold zK
  apply List.ext_getElem?
  intro a
  by_cases h : a < H <;> simp [h]
theorem zK_all (H W : Nat) : zK H W H = gR (fun _ _ => 0) H W := by
  unfold zK gR
  apply List.map_congr_left
  intro j hj
  rw [if_pos (List.mem_range.1 hj)]
  apply List.ext_getElem?
  intro a
  by_cases h : a < W <;> simp [h]
theorem zK_succ {H W k : Nat} (hk : k < H) : zK H W (k + 1) = (zK H W k).set k (List.replicate W 0) := by
  unfold zK
  apply List.ext_getElem?
  intro a
  by_cases h : a < H
  · by_cases e : k = a
    · subst e; rw [List.getElem?_set_self (by simpa using h)]; simp [h]
    · rw [List.getElem?_set_ne e]
      simp only [List.getElem?_map, List.getElem?_range h, Option.map_some, Option.some.injEq]
      by_cases h2 : a < k
      · rw [if_pos h2, if_pos (by omega)]
      · rw [if_neg h2, if_neg (by omega)]
  · rw [List.getElem?_eq_none (by simp; omega), List.getElem?_eq_none (by simp; omega)]
/-- How many defects lie in a die. -/
def vhN (s : List Dft) (p : Int) (j i : Nat) : Int := ((vbL s p (pk (i : Int) (j : Int))).length : Int)
/-- Beyond all dice. -/
def vout (w h p : Int) (d : Dft) : Bool := !(decide (vX p d < w) && decide (vY p d < h))
def vhR (w h p : Int) : Bool := decide (1 ≤ w ∧ w ≤ 20) && decide (1 ≤ h ∧ h ≤ 20) && decide (1 ≤ p ∧ p ≤ 1000)
def vhC (s : List Dft) (w h p : Int) : Int := if vdF s = 0 then (if vhR w h p then 0 else 3) else vdF s
def vhL (s : List Dft) (w h p : Int) : List (List Int) := if vhC s w h p = 0 then gR (vhN s p) h.toNat w.toNat else []
def vhO (s : List Dft) (w h p : Int) : Int := if vhC s w h p = 0 then ((s.filter (vout w h p)).length : Int) else 0
theorem vhC_ok {s : List Dft} {w h p : Int} (hc : vhC s w h p = 0) : vdF s = 0 ∧ (1 ≤ w ∧ w ≤ 20) ∧ (1 ≤ h ∧ h ≤ 20) ∧ (1 ≤ p ∧ p ≤ 1000) := by
  unfold vhC at hc
  by_cases h1 : vdF s = 0
  · rw [if_pos h1] at hc
    cases h2 : vhR w h p with
    | false => rw [h2] at hc; simp at hc
    | true =>
      unfold vhR at h2
      simp only [Bool.and_eq_true, decide_eq_true_eq] at h2
      exact ⟨h1, h2.1.1, h2.1.2, h2.2⟩
  · rw [if_neg h1] at hc; exact absurd hc h1
theorem vhL_len (s : List Dft) (w h p : Int) : (vhL s w h p).length ≤ 20 := by
  unfold vhL
  by_cases hc : vhC s w h p = 0
  · rw [if_pos hc, gR_len]; have := (vhC_ok hc).2.2.1; omega
  · rw [if_neg hc]; simp
theorem vhN_bd (s : List Dft) (p : Int) (j i : Nat) : 0 ≤ vhN s p j i ∧ vhN s p j i ≤ s.length := by
  unfold vhN; have := vbL_len s p (pk (i : Int) (j : Int)); omega
theorem vbL_take {s : List Dft} {j : Nat} (hj : j < s.length) (p : Int) (q : Lit) : vbL (s.take (j + 1)) p q = if (vpk p s[j]).sameKey q then vbL (s.take j) p q ++ [s[j]] else vbL (s.take j) p q := by
  unfold vbL
  rw [List.take_succ_eq_append_getElem hj, List.filter_append]
  cases h : (vpk p s[j]).sameKey q <;> simp [h]
theorem vhN_succ {s : List Dft} {t : Nat} (ht : t < s.length) {p : Int} (hp : 1 ≤ p) (hd : Vok s[t]) {j i : Nat} (hj : j ≤ 100000) (hi : i ≤ 100000) :
    vhN (s.take (t + 1)) p j i = if vX p s[t] = i ∧ vY p s[t] = j then vhN (s.take t) p j i + 1 else vhN (s.take t) p j i := by
  have bx := vX_bd hp hd
  have by' := vY_bd hp hd
  unfold vhN
  rw [vbL_take ht]
  by_cases h : vX p s[t] = i ∧ vY p s[t] = j
  · have e : vpk p s[t] = pk (i : Int) (j : Int) := by unfold vpk; rw [h.1, h.2]
    rw [e, pk_same, if_pos rfl, if_pos h]
    simp
  · have e : vpk p s[t] ≠ pk (i : Int) (j : Int) := fun e => h (by
      unfold vpk at e
      exact pk_inj (by omega) (by omega) (by omega) (by omega) e)
    rw [Maps.sameKey_ne e, if_neg h]
    simp
def voN (s : List Dft) (w h p : Int) : Int := ((s.filter (vout w h p)).length : Int)
theorem voN_succ {s : List Dft} {t : Nat} (ht : t < s.length) (w h p : Int) : voN (s.take (t + 1)) w h p = if vout w h p s[t] then voN (s.take t) w h p + 1 else voN (s.take t) w h p := by
  unfold voN
  rw [List.take_succ_eq_append_getElem ht, List.filter_append]
  cases e : vout w h p s[t] <;> simp [e]
theorem voN_bd (s : List Dft) (w h p : Int) : 0 ≤ voN s w h p ∧ voN s w h p ≤ s.length := by
  unfold voN; have := List.length_filter_le (vout w h p) s; omega
theorem vhL_ok {s : List Dft} {w h p : Int} (hc : vhC s w h p = 0) : vhL s w h p = gR (vhN s p) h.toNat w.toNat := by unfold vhL; rw [if_pos hc]
theorem vhO_ok {s : List Dft} {w h p : Int} (hc : vhC s w h p = 0) : vhO s w h p = voN s w h p := by unfold vhO voN; rw [if_pos hc]
theorem vhL_bad {s : List Dft} {w h p : Int} (hc : ¬ vhC s w h p = 0) : vhL s w h p = [] := by unfold vhL; rw [if_neg hc]
theorem vhO_bad {s : List Dft} {w h p : Int} (hc : ¬ vhC s w h p = 0) : vhO s w h p = 0 := by unfold vhO; rw [if_neg hc]
/-- While the dice come one by one: what is in the grid, and what is beyond. -/
def gL (s : List Dft) (p : Int) (left : Lit → Bool) (j i : Nat) : Int := if left (pk (i : Int) (j : Int)) then 0 else vhN s p j i
def oL (s : List Dft) (w h p : Int) (left : Lit → Bool) : Int := ((s.filter (fun d => vout w h p d && !left (vpk p d))).length : Int)
theorem filt3 {α : Type} (s : List α) (A N C : α → Bool) (b : Bool) (hC : ∀ d ∈ s, C d = true → A d = false ∧ N d = b) (hN : ∀ d ∈ s, C d = false → N d = A d) : (s.filter N).length = (s.filter A).length + (if b then (s.filter C).length else 0) := by
  induction s with
  | nil => cases b <;> simp
  | cons d t ih =>
    have ih' := ih (fun d hd => hC d (by simp [hd])) (fun d hd => hN d (by simp [hd]))
    rw [List.filter_cons, List.filter_cons, List.filter_cons]
    cases hc : C d with
    | true =>
      obtain ⟨h1, h2⟩ := hC d (by simp) hc
      rw [h1, h2]
      cases b with
      | true => simp only [if_true, Bool.false_eq_true, if_false, List.length_cons] at ih' ⊢; omega
      | false => simp only [Bool.false_eq_true, if_false] at ih' ⊢; exact ih'
    | false =>
      rw [hN d (by simp) hc]
      cases A d with
      | true => simp only [if_true, Bool.false_eq_true, if_false, List.length_cons] at ih' ⊢; omega
      | false => simp only [Bool.false_eq_true, if_false] at ih' ⊢; exact ih'
theorem oL_step {s : List Dft} {w h p : Int} {left : Lit → Bool} {K : Lit} (hl : left K = true) {b : Bool} (hb : ∀ d ∈ s, (vpk p d).sameKey K = true → vout w h p d = b) :
    oL s w h p (fun z => left z && !z.sameKey K) = if b then oL s w h p left + ((vbL s p K).length : Int) else oL s w h p left := by
  unfold oL vbL
  rw [filt3 s (fun d => vout w h p d && !left (vpk p d)) _ (fun d => (vpk p d).sameKey K) b]
  · cases b with
    | true => simp
    | false => simp
  · intro d hd hc
    have e : vpk p d = K := WideAt.sameKey_eq hc
    refine ⟨by rw [e, hl]; simp, ?_⟩
    have h1 := hb d hd hc
    simp [hc, h1]
  · intro d hd hc
    simp [hc]
theorem oL_end (s : List Dft) (w h p : Int) {left : Lit → Bool} (hl : ∀ k, left k = false) : oL s w h p left = voN s w h p := by
  unfold oL voN
  have e : (fun d => vout w h p d && !left (vpk p d)) = vout w h p := by funext d; simp [hl]
  rw [e]
theorem oL_bd (s : List Dft) (w h p : Int) (left : Lit → Bool) : 0 ≤ oL s w h p left ∧ oL s w h p left ≤ s.length := by
  unfold oL; have := List.length_filter_le (fun d => vout w h p d && !left (vpk p d)) s; omega
theorem gL_step {s : List Dft} {p : Int} {left : Lit → Bool} {x y j i : Nat} (hx : x ≤ 100000) (hy : y ≤ 100000) (hj : j ≤ 100000) (hi : i ≤ 100000) :
    gL s p (fun z => left z && !z.sameKey (pk (x : Int) (y : Int))) j i = if j = y ∧ i = x then vhN s p y x else gL s p left j i := by
  unfold gL
  by_cases h : j = y ∧ i = x
  · obtain ⟨rfl, rfl⟩ := h
    simp [pk_same]
  · rw [if_neg h]
    have e : pk (i : Int) (j : Int) ≠ pk (x : Int) (y : Int) := fun e => h (by
      have := pk_inj (by omega) (by omega) (by omega) (by omega) e
      omega)
    simp [Maps.sameKey_ne e]
/-- A key that is there is that of a defect. -/
theorem vb_key {s : List Dft} {p : Int} {K : Lit} (h : vbL s p K ≠ []) : ∃ d ∈ s, vpk p d = K := by
  obtain ⟨d, t, e⟩ := List.exists_cons_of_ne_nil h
  have hm : d ∈ vbL s p K := by rw [e]; simp
  unfold vbL at hm
  rw [List.mem_filter] at hm
  exact ⟨d, hm.1, WideAt.sameKey_eq hm.2⟩
theorem vb_mem {s : List Dft} {p : Int} {d : Dft} (h : d ∈ s) : vbL s p (vpk p d) ≠ [] := by
  intro e
  have hm : d ∈ vbL s p (vpk p d) := by unfold vbL; rw [List.mem_filter]; exact ⟨h, pk_same _ _⟩
  rw [e] at hm; simp at hm

end Go.Proofs.Ytjacmneopijiaaa

namespace Go.Proofs.Ytjacmneopijiaaa
open Go.RowKit
set_option linter.unusedVariables false
set_option linter.unusedSimpArgs false

theorem vsOne_tidy {cs : List Cls} {d : Dft} {a : QR} (h : Tidy a) : Tidy (vsOne cs d a) := by
  unfold vsOne
  split
  · exact muQ_tidy _ _
  · exact h
theorem vsG_tidy {cs : List Cls} : ∀ (s : List Dft) {a : QR}, Tidy a → Tidy (vsG cs s a) := by
  intro s
  induction s with
  | nil => intro a h; exact h
  | cons d t ih =>
    intro a h
    rw [vsG]
    split
    · exact ih (vsOne_tidy h)
    · exact h
def one15 : QR := ⟨0, 1, 1⟩
/-- What is left of the die in column i, row j. -/
def vyD (s : List Dft) (cs : List Cls) (p : Int) (j i : Nat) : QR := vsG cs (vbL s p (pk (i : Int) (j : Int))) ⟨0, 1, 1⟩
theorem vyD_tidy (s : List Dft) (cs : List Cls) (p : Int) (j i : Nat) : Tidy (vyD s cs p j i) := vsG_tidy _ (fun h => absurd rfl h)
/-- All dice, row by row, up to row j, column i. -/
def vyT (s : List Dft) (cs : List Cls) (p : Int) (W j i : Nat) : List QR := (List.range j).flatMap (fun b => (List.range W).map (vyD s cs p b)) ++ (List.range i).map (vyD s cs p j)
theorem vyT_zero (s : List Dft) (cs : List Cls) (p : Int) (W : Nat) : vyT s cs p W 0 0 = [] := rfl
theorem vyT_succ (s : List Dft) (cs : List Cls) (p : Int) (W j i : Nat) : vyT s cs p W j (i + 1) = vyT s cs p W j i ++ [vyD s cs p j i] := by
  unfold vyT; rw [List.range_succ, List.map_append, List.append_assoc]; rfl
theorem vyT_row (s : List Dft) (cs : List Cls) (p : Int) (W j : Nat) : vyT s cs p W j W = vyT s cs p W (j + 1) 0 := by
  unfold vyT; rw [List.range_succ, List.flatMap_append]; simp
theorem vyT_len (s : List Dft) (cs : List Cls) (p : Int) (W j i : Nat) : (vyT s cs p W j i).length = j * W + i := by
  unfold vyT
  rw [List.length_append, List.length_map, List.length_range]
  congr 1
  induction j with
  | zero => simp
  | succ j ih => rw [List.range_succ, List.flatMap_append, List.length_append, ih]; simp [Nat.add_mul]
/-- The sum over all dice. -/
def vyS (s : List Dft) (cs : List Cls) (w h p : Int) : QR := sumA (whole 0) (vyT s cs p w.toNat h.toNat 0)
def vyQ (s : List Dft) (cs : List Cls) (w h p : Int) : QR :=
  if vhC s w h p = 0 then (if vcF cs = 0 then (if (vyS s cs w h p).c = 0 then diQ (vyS s cs w h p).fr (whole (w * h)) else ⟨(vyS s cs w h p).c, 0, 0⟩) else ⟨vcF cs, 0, 0⟩) else ⟨vhC s w h p, 0, 0⟩
/-- The defects of a die, told one by one. -/
theorem vb_filter {s : List Dft} {p : Int} (hp : 1 ≤ p) (hok : ∀ d ∈ s, Vok d) {j i : Nat} (hj : j ≤ 100000) (hi : i ≤ 100000) : vbL s p (pk (i : Int) (j : Int)) = s.filter (fun d => decide (vX p d = i) && decide (vY p d = j)) := by
  unfold vbL
  apply List.filter_congr
  intro d hd
  have bx := vX_bd hp (hok d hd)
  have by' := vY_bd hp (hok d hd)
  by_cases h : vX p d = i ∧ vY p d = j
  · have e : vpk p d = pk (i : Int) (j : Int) := by unfold vpk; rw [h.1, h.2]
    rw [e, pk_same]; simp [h.1, h.2]
  · have e : vpk p d ≠ pk (i : Int) (j : Int) := fun e => h (by
      unfold vpk at e
      exact pk_inj (by omega) (by omega) (by omega) (by omega) e)
    rw [Maps.sameKey_ne e]
    by_cases h1 : vX p d = i
    · have h2 : ¬ vY p d = j := fun h2 => h ⟨h1, h2⟩
      simp [h2]
    · simp [h1]
theorem vb_ok {s : List Dft} {p : Int} {K : Lit} (hn : s.length ≤ 60) (hok : ∀ d ∈ s, Vok d) : (vbL s p K).length ≤ 60 ∧ ∀ d ∈ vbL s p K, Vok d := by
  refine ⟨Nat.le_trans (vbL_len s p K) hn, fun d hd => hok d ?_⟩
  unfold vbL at hd
  exact (List.mem_filter.1 hd).1

end Go.Proofs.Ytjacmneopijiaaa
