/- Proved here: what an append takes of a list that is read anywhere. No condition. (And ahead of it: Orders of jobs, and the job that comes first by one. Arithmetic alone.) -/
import Derived.Test.YtjbghflphngnkaaJoP
import Derived.Test.YtjbghflphngnkaaSoG
import Derived.Test.YtjbghflphngnkaaDkM
import Derived.Test.YtjbghflphngnkaaGen
namespace Go.Proofs.Ytjbghflphngnkaa
open Go.RowKit
set_option linter.unusedVariables false
set_option linter.unusedSimpArgs false


theorem cmpI_neg (a b : Int) : cmpI b a = - cmpI a b := by unfold cmpI; split <;> split <;> omega
theorem cmpI_le {a b : Int} : cmpI a b ≤ 0 ↔ a ≤ b := by unfold cmpI; split <;> (try split) <;> omega
theorem cmpI_eq {a b : Int} : cmpI a b = 0 ↔ a = b := by unfold cmpI; split <;> (try split) <;> omega
/-- An order on what V holds of. -/
structure Ord1 (c : Jb → Jb → Int) (V : Jb → Prop) : Prop where
  neg : ∀ x y, c y x = - c x y
  tr : ∀ x y z, V x → V y → V z → c x y ≤ 0 → c y z ≤ 0 → c x z ≤ 0
theorem ord_key (f : Jb → Int) (V : Jb → Prop) : Ord1 (fun x y => cmpI (f x) (f y)) V := ⟨fun x y => cmpI_neg _ _, fun x y z _ _ _ h1 h2 => cmpI_le.2 (Int.le_trans (cmpI_le.1 h1) (cmpI_le.1 h2))⟩
theorem ord_id (V : Jb → Prop) : Ord1 idC V := ord_key Jb.id V
theorem ord_co (V : Jb → Prop) : Ord1 coC V := ord_key Jb.co V
theorem ord_du (V : Jb → Prop) : Ord1 duC V := ord_key Jb.du V
theorem ord_ti (V : Jb → Prop) : Ord1 tiC V := ord_key Jb.ti V
theorem ord_fs (V : Jb → Prop) : Ord1 fsC V := ⟨fun x y => cmpI_neg _ _, fun x y z _ _ _ h1 h2 => cmpI_le.2 (Int.le_trans (cmpI_le.1 h2) (cmpI_le.1 h1))⟩
theorem ra_small {now : Int} (h0 : 0 ≤ now ∧ now ≤ 1000000000) {x y : Jb} (hx : rgJ x) (hy : rgJ y) : wrap64 (wrap64 (x.du - now) * y.ti) = (x.du - now) * y.ti := by
  obtain ⟨⟨_, _, r3⟩, _⟩ := hx
  obtain ⟨_, r4, _⟩ := hy
  rw [w64 (x := x.du - now) (by omega)]
  apply w64
  have h1 : (x.du - now) * y.ti ≤ 1000000 * y.ti := Int.mul_le_mul_of_nonneg_right (by omega) (by omega)
  have h2 : (-1000000000) * y.ti ≤ (x.du - now) * y.ti := Int.mul_le_mul_of_nonneg_right (by omega) (by omega)
  omega
theorem ord_ra {now : Int} (h0 : 0 ≤ now ∧ now ≤ 1000000000) : Ord1 (raC now) rgJ := by
  refine ⟨fun x y => cmpI_neg _ _, fun x y z hx hy hz h1 h2 => ?_⟩
  unfold raC at *
  rw [cmpI_le] at *
  rw [ra_small h0 hx hy, ra_small h0 hy hx] at h1
  rw [ra_small h0 hy hz, ra_small h0 hz hy] at h2
  rw [ra_small h0 hx hz, ra_small h0 hz hx]
  have tx : 1 ≤ x.ti := hx.2.1.1
  have ty : 1 ≤ y.ti := hy.2.1.1
  have tz : 1 ≤ z.ti := hz.2.1.1
  have e1 := Int.mul_le_mul_of_nonneg_right h1 (by omega : 0 ≤ z.ti)
  have e2 := Int.mul_le_mul_of_nonneg_right h2 (by omega : 0 ≤ x.ti)
  have e3 : (x.du - now) * z.ti * y.ti ≤ (z.du - now) * x.ti * y.ti := by
    have a1 : (x.du - now) * z.ti * y.ti = (x.du - now) * y.ti * z.ti := by rw [Int.mul_assoc, Int.mul_comm z.ti, ← Int.mul_assoc]
    have a2 : (y.du - now) * x.ti * z.ti = (y.du - now) * z.ti * x.ti := by rw [Int.mul_assoc, Int.mul_comm x.ti, ← Int.mul_assoc]
    have a3 : (z.du - now) * y.ti * x.ti = (z.du - now) * x.ti * y.ti := by rw [Int.mul_assoc, Int.mul_comm y.ti, ← Int.mul_assoc]
    rw [a1, ← a3]
    exact Int.le_trans (a2 ▸ e1) e2
  exact Int.le_of_mul_le_mul_right e3 (by omega)
theorem ord_lex {c1 c2 : Jb → Jb → Int} {V : Jb → Prop} (h1 : Ord1 c1 V) (h2 : Ord1 c2 V) : Ord1 (lexC c1 c2) V := by
  refine ⟨fun x y => ?_, fun x y z hx hy hz h3 h4 => ?_⟩
  · unfold lexC
    have e := h1.neg x y
    by_cases h : c1 x y = 0
    · rw [if_pos h, if_pos (by omega)]; exact h2.neg x y
    · rw [if_neg h, if_neg (by omega)]; exact e
  · unfold lexC at *
    have n1 := h1.neg x y
    have n2 := h1.neg y z
    have n3 := h1.neg x z
    have a1 : c1 x y ≤ 0 := by split at h3 <;> omega
    have a2 : c1 y z ≤ 0 := by split at h4 <;> omega
    have a3 := h1.tr x y z hx hy hz a1 a2
    by_cases e : c1 x z = 0
    · rw [if_pos e]
      have b1 := h1.tr y z x hy hz hx a2 (by omega)
      have b2 := h1.tr z x y hz hx hy (by omega) a1
      rw [if_pos (by omega)] at h3
      rw [if_pos (by omega)] at h4
      exact h2.tr x y z hx hy hz h3 h4
    · rw [if_neg e]; exact a3
theorem ord_C {c : Jb → Jb → Int} {V : Jb → Prop} (h : Ord1 c V) : COrd c V :=
  ⟨fun x y z hx hy hz h1 h2 => by
    have e1 := h.neg x y; have e2 := h.neg y z; have e3 := h.neg x z
    have := h.tr x y z hx hy hz (by omega) (by omega)
    omega, fun x y hx hy h1 => by have := h.neg x y; omega⟩
theorem lex_id {c1 : Jb → Jb → Int} {x y : Jb} (h1 : ¬ lexC c1 idC x y < 0) (h2 : ¬ lexC c1 idC y x < 0) (hn : ∀ x y, c1 y x = - c1 x y) : x.id = y.id := by
  unfold lexC at *
  have e := hn x y
  by_cases h : c1 x y = 0
  · rw [if_pos h] at h1
    rw [if_pos (by omega)] at h2
    have e2 : idC y x = - idC x y := cmpI_neg _ _
    exact cmpI_eq.1 (show cmpI x.id y.id = 0 by unfold idC at h1 h2 e2; omega)
  · rw [if_neg h] at h1
    rw [if_neg (by omega)] at h2
    omega
/-- The rules. -/
def rC (rule now : Int) : Jb → Jb → Int := if rule = 1 then coC else if rule = 2 then duC else if rule = 3 then tiC else raC now
def orC (rule now : Int) : Jb → Jb → Int := lexC (rC rule now) idC
theorem rC_ord {rule now : Int} (h0 : 0 ≤ now ∧ now ≤ 1000000000) : Ord1 (rC rule now) rgJ := by
  unfold rC
  split
  · exact ord_co _
  · split
    · exact ord_du _
    · split
      · exact ord_ti _
      · exact ord_ra h0
theorem rC_neg (rule now : Int) (x y : Jb) : rC rule now y x = - rC rule now x y := by
  unfold rC
  split
  · exact cmpI_neg _ _
  · split
    · exact cmpI_neg _ _
    · split
      · exact cmpI_neg _ _
      · exact cmpI_neg _ _
theorem orC_ord {rule now : Int} (h0 : 0 ≤ now ∧ now ≤ 1000000000) : Ord1 (orC rule now) rgJ := ord_lex (rC_ord h0) (ord_id _)
/-- The first job by an order among those of the first k that have come: its place. -/
def bst (c : Jb → Jb → Int) (now : Int) (s : List Jb) : Nat → Option Nat
  | 0 => none
  | k + 1 => if now < (jA s k).co then bst c now s k else match bst c now s k with
    | none => some k
    | some b => if c (jA s k) (jA s b) < 0 then some k else some b
def stp (c : Jb → Jb → Int) (s : List Jb) (k : Nat) : Option Nat → Option Nat
  | none => some k
  | some b => if c (jA s k) (jA s b) < 0 then some k else some b
theorem bst_succ (c : Jb → Jb → Int) (now : Int) (s : List Jb) (k : Nat) : bst c now s (k + 1) = if now < (jA s k).co then bst c now s k else stp c s k (bst c now s k) := by
  show (if now < (jA s k).co then bst c now s k else match bst c now s k with
    | none => some k
    | some b => if c (jA s k) (jA s b) < 0 then some k else some b) = _
  cases bst c now s k <;> rfl
theorem bst_lt (c : Jb → Jb → Int) (now : Int) (s : List Jb) : ∀ (k b : Nat), bst c now s k = some b → b < k ∧ (jA s b).co ≤ now := by
  intro k
  induction k with
  | zero => intro b h; cases h
  | succ k ih =>
    intro b h
    unfold bst at h
    by_cases h1 : now < (jA s k).co
    · rw [if_pos h1] at h
      have := ih b h; omega
    · rw [if_neg h1] at h
      cases h2 : bst c now s k with
      | none => rw [h2] at h; cases h; omega
      | some b2 =>
        rw [h2] at h
        simp only at h
        have h3 := ih b2 h2
        split at h
        · cases h; omega
        · cases h; omega
theorem bst_none (c : Jb → Jb → Int) (now : Int) (s : List Jb) : ∀ (k : Nat), bst c now s k = none → ∀ i, i < k → now < (jA s i).co := by
  intro k
  induction k with
  | zero => intro _ i h; omega
  | succ k ih =>
    intro h i hi
    unfold bst at h
    by_cases h1 : now < (jA s k).co
    · rw [if_pos h1] at h
      rcases (by omega : i < k ∨ i = k) with e | e
      · exact ih h i e
      · rw [e]; exact h1
    · rw [if_neg h1] at h
      cases h2 : bst c now s k with
      | none => rw [h2] at h; cases h
      | some b2 =>
        rw [h2] at h
        simp only at h
        split at h <;> cases h
/-- None that has come is ahead of it. -/
theorem bst_min {c : Jb → Jb → Int} {V : Jb → Prop} (hc : COrd c V) {now : Int} {s : List Jb} (hV : ∀ i, i < s.length → V (jA s i)) : ∀ (k b : Nat), k ≤ s.length → bst c now s k = some b → ∀ i, i < k → (jA s i).co ≤ now → ¬ c (jA s i) (jA s b) < 0 := by
  intro k
  induction k with
  | zero => intro b _ h; cases h
  | succ k ih =>
    intro b hk h i hi hco
    unfold bst at h
    have self : ∀ x, V x → ¬ c x x < 0 := fun x hx h9 => hc.ss x x hx hx h9 h9
    by_cases h1 : now < (jA s k).co
    · rw [if_pos h1] at h
      rcases (by omega : i < k ∨ i = k) with e | e
      · exact ih b (by omega) h i e hco
      · rw [e] at hco; omega
    · rw [if_neg h1] at h
      cases h2 : bst c now s k with
      | none =>
        rw [h2] at h; cases h
        rcases (by omega : i < k ∨ i = k) with e | e
        · have := bst_none c now s k h2 i e; omega
        · rw [e]; exact self _ (hV _ (by omega))
      | some b2 =>
        rw [h2] at h
        simp only at h
        have hb2 := bst_lt c now s k b2 h2
        split at h
        · rename_i h3
          cases h
          rcases (by omega : i < k ∨ i = k) with e | e
          · exact hc.tr _ _ _ (hV _ (by omega)) (hV _ (by omega)) (hV _ (by omega)) (hc.ss _ _ (hV _ (by omega)) (hV _ (by omega)) h3) (ih b2 (by omega) h2 i e hco)
          · rw [e]; exact self _ (hV _ (by omega))
        · rename_i h3
          cases h
          rcases (by omega : i < k ∨ i = k) with e | e
          · exact ih b (by omega) h2 i e hco
          · rw [e]; exact h3
/-- Those that have come. -/
def comF (now : Int) (s : List Jb) : List Jb := s.filter fun j => decide (j.co ≤ now)
theorem comF_step {now : Int} {s : List Jb} {k : Nat} (h : k < s.length) : comF now (s.take (k + 1)) = if s[k].co ≤ now then comF now (s.take k) ++ [s[k]] else comF now (s.take k) := by
  unfold comF
  rw [List.take_succ_eq_append_getElem h, List.filter_append]
  by_cases h1 : s[k].co ≤ now
  · rw [if_pos h1]; simp [h1]
  · rw [if_neg h1]; simp [h1]
theorem comF_len (now : Int) (s : List Jb) : (comF now s).length ≤ s.length := List.length_filter_le _ _
theorem comF_mem {now : Int} {s : List Jb} {x : Jb} : x ∈ comF now s ↔ x ∈ s ∧ x.co ≤ now := by
  unfold comF; rw [List.mem_filter, decide_eq_true_iff]
theorem comF_nil {c : Jb → Jb → Int} {now : Int} {s : List Jb} : comF now s = [] ↔ bst c now s s.length = none := by
  constructor
  · intro h
    cases h2 : bst c now s s.length with
    | none => rfl
    | some b =>
      obtain ⟨h3, h4⟩ := bst_lt c now s _ b h2
      have : jA s b ∈ comF now s := comF_mem.2 ⟨jA_mem h3, h4⟩
      rw [h] at this; cases this
  · intro h
    rw [List.eq_nil_iff_forall_not_mem]
    intro x hx
    obtain ⟨h1, h2⟩ := comF_mem.1 hx
    obtain ⟨i, hi, e⟩ := List.getElem_of_mem h1
    have := bst_none c now s _ h i hi
    rw [jA_at hi, e] at this
    omega
/-- What the sort puts first is the one that the search finds. -/
theorem first_is {rule now : Int} {s : List Jb} (hok : OkJ s) (h0 : 0 ≤ now ∧ now ≤ 1000000000) {b : Nat} (hb : bst (orC rule now) now s s.length = some b) : jA (stbF (orC rule now) (comF now s).length (comF now s)) 0 = jA s b ∧ 0 < (comF now s).length := by
  have hc := ord_C (orC_ord (rule := rule) h0)
  have hV : ∀ x ∈ comF now s, rgJ x := fun x hx => by
    obtain ⟨h1, _⟩ := comF_mem.1 hx
    obtain ⟨i, hi, e⟩ := List.getElem_of_mem h1
    rw [← e]; exact hok.rg i hi
  obtain ⟨h1, h2⟩ := stbF_ok hc hV
  obtain ⟨hb1, hb2⟩ := bst_lt _ _ _ _ _ hb
  have hbm : jA s b ∈ comF now s := comF_mem.2 ⟨jA_mem hb1, hb2⟩
  have hl := h2.length_eq
  generalize hR : stbF (orC rule now) (comF now s).length (comF now s) = R at *
  have hpos : 0 < (comF now s).length := List.length_pos_of_mem hbm
  have hx : jA R 0 ∈ comF now s := h2.mem_iff.1 (jA_mem (by omega))
  obtain ⟨q, hq, eq⟩ := List.getElem_of_mem (h2.mem_iff.2 hbm)
  have g1 : ¬ orC rule now (jA s b) (jA R 0) < 0 := by
    rw [← eq, ← jA_at hq]
    rcases Nat.eq_zero_or_pos q with e | e
    · subst e
      intro h9
      exact hc.ss _ _ (hV _ hx) (hV _ hx) h9 h9
    · exact h1 0 q (Nat.zero_le _) e (by omega)
  obtain ⟨hx1, hx2⟩ := comF_mem.1 hx
  obtain ⟨i, hi, ei⟩ := List.getElem_of_mem hx1
  have g2 : ¬ orC rule now (jA R 0) (jA s b) < 0 := by
    have := bst_min hc (V := rgJ) (fun i hi => by rw [jA_at hi]; exact hok.rg i hi) s.length b (Nat.le_refl _) hb i hi (by rw [jA_at hi, ei]; exact hx2)
    rw [jA_at hi, ei] at this
    exact this
  have e := lex_id g1 g2 (rC_neg rule now)
  refine ⟨?_, hpos⟩
  have e2 : s[i].id = s[b].id := by rw [ei, ← jA_at hb1]; exact e.symm
  have := hok.uniq i b hi hb1 e2
  subst this
  rw [jA_at hb1, ei]
/-- What PickJob answers. -/
def pfC (s : List Jb) (rule now : Int) : Int := if jbF s ≠ 0 then jbF s else if ¬ (1 ≤ rule ∧ rule ≤ 4) then 1 else if ¬ (0 ≤ now ∧ now ≤ 1000000000) then 3 else 0
def pjC (s : List Jb) (rule now : Int) : Int := if pfC s rule now ≠ 0 then pfC s rule now else if (bst (orC rule now) now s s.length).isSome = true then 0 else 4
def obI (s : List Jb) : Option Nat → Int
  | none => 0
  | some b => (jA s b).id
def pjV (s : List Jb) (rule now : Int) : Int := if pfC s rule now ≠ 0 then 0 else obI s (bst (orC rule now) now s s.length)

end Go.Proofs.Ytjbghflphngnkaa

namespace Go.Proofs.Ytjbghflphngnkaa
open Go.RowKit
set_option linter.unusedVariables false
set_option linter.unusedSimpArgs false

theorem newsK {α : Type} {k : Nat} {enc : α → List Value} (hk : ∀ x, (enc x).length = k) (hk0 : 0 < k) {W : World} {a : Option Addr} {n c : Nat} {s : List α} (h : RG k enc W (.slice a n c) s) : ∀ ad, a = some ad → ∀ j u, (s.flatMap enc)[j]? = some u → W.cell? (ad.add j) = some u := by
  intro ad ha j u hu
  have hj : j < (s.flatMap enc).length := by
    rcases Nat.lt_or_ge j (s.flatMap enc).length with h' | h'
    · exact h'
    · rw [List.getElem?_eq_none h'] at hu; cases hu
  rw [fm_length hk] at hj
  have hs0 : 0 < s.length := by
    rcases Nat.eq_zero_or_pos s.length with e | e
    · rw [e] at hj; simp at hj
    · exact e
  obtain ⟨g, o, c', he, hg, hx⟩ := h.pos hs0
  injection he with he1
  rw [he1] at ha
  injection ha with ha
  subst ha
  have hm : j % k < k := Nat.mod_lt _ hk0
  have hd : j / k < s.length := Nat.div_lt_of_lt_mul (by rw [Nat.mul_comm]; exact hj)
  have hjj : j = j / k * k + j % k := by rw [Nat.mul_comm]; exact (Nat.div_add_mod j k).symm
  rw [hjj, fm_get hk s (j / k) (j % k) hd hm] at hu
  rw [Addr.add_lit, hjj, ← Nat.add_assoc, hx (j / k) hd (j % k) hm]
  exact hu
theorem ones_of {α : Type} {enc : α → List Value} (h1 : ∀ x, ∀ u ∈ enc x, u.oneCell' = true) (s : List α) : ∀ u ∈ s.flatMap enc, u.oneCell' = true := by
  intro u hu
  obtain ⟨f, _, h⟩ := List.mem_flatMap.1 hu
  exact h1 f u h

end Go.Proofs.Ytjbghflphngnkaa
