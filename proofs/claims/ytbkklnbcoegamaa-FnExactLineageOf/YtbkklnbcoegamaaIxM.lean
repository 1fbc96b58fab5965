/- Proved here: a map from numbers to numbers that the call has made: looking up with whether it is there, writing. (And ahead of it: Proved here: a lot's lineage. (And ahead of it: Proved here: what is left in the open windows, and the least of it.)) -/
import Derived.Test.YtbkklnbcoegamaaQbM
import Derived.Test.YtbkklnbcoegamaaQwI
import Derived.Test.YtbkklnbcoegamaaUnd
import Derived.Test.YtbkklnbcoegamaaProg
import Derived.Maps.Own
import Derived.Maps.Views
import Derived.Maps.OwnSet
namespace Go.Proofs.Ytbkklnbcoegamaa
open Go.RowKit Go.Maps
set_option linter.unusedVariables false
set_option linter.unusedSimpArgs false

def wdD : Wdw := ⟨0, 0, 0⟩
/-- What is left in the open ones of the first j windows, n steps done. -/
def liW (ws : List Wdw) (n : Nat) (d : List Int) (now : Int) : Nat → List Int
  | 0 => []
  | j + 1 => if wdO n (ws.getD j wdD) then liW ws n d now j ++ [wdL d now (ws.getD j wdD)] else liW ws n d now j
theorem liW_len (ws : List Wdw) (n : Nat) (d : List Int) (now : Int) : ∀ j, (liW ws n d now j).length ≤ j
  | 0 => Nat.le_refl _
  | j + 1 => by
    have := liW_len ws n d now j
    unfold liW; split <;> simp <;> omega
def leK (s : List Int) : Nat → Int
  | 0 => s.getD 0 0
  | k + 1 => if s.getD (k + 1) 0 < leK s k then s.getD (k + 1) 0 else leK s k
/-- The least of a list; 0: none. -/
def leL (s : List Int) : Int := leK s (s.length - 1)
theorem leK_app (s : List Int) (x : Int) : ∀ k, k < s.length → leK (s ++ [x]) k = leK s k := by
  intro k
  induction k with
  | zero => intro h; unfold leK; rw [List.getD_eq_getElem?_getD, List.getElem?_append_left h, ← List.getD_eq_getElem?_getD]
  | succ k ih =>
    intro h
    have e : (s ++ [x]).getD (k + 1) 0 = s.getD (k + 1) 0 := by rw [List.getD_eq_getElem?_getD, List.getElem?_append_left h, ← List.getD_eq_getElem?_getD]
    rw [leK, leK, ih (by omega), e]
theorem leL_app (s : List Int) (x : Int) : leL (s ++ [x]) = if s.length = 0 ∨ x < leL s then x else leL s := by
  unfold leL
  rw [List.length_append, List.length_singleton, Nat.add_sub_cancel]
  match hs : s.length with
  | 0 => have e : s = [] := List.eq_nil_of_length_eq_zero hs; subst e; simp [leK]
  | m + 1 =>
    rw [leK, leK_app s x m (by omega), Nat.add_sub_cancel]
    have e : (s ++ [x]).getD (m + 1) 0 = x := by
      rw [List.getD_eq_getElem?_getD, List.getElem?_append_right (by omega), show m + 1 - s.length = 0 by omega]; rfl
    rw [e]
    simp
def dnA (ls : List Lo) (i : Nat) : List Int := (ls.getD i lo0).dn
theorem dnA_at {ls : List Lo} {i : Nat} (h : i < ls.length) : dnA ls i = ls[i].dn := by simp [dnA, List.getD, h]
/-- The list for a lot. -/
def wlL (b : Bk) (id now : Int) : List Int := liW b.wn (dnA b.ls (fdI (idA b.ls) id b.ls.length).toNat).length (dnA b.ls (fdI (idA b.ls) id b.ls.length).toNat) now b.wn.length
def bgC (b : Bk) (id : Int) : Int := if bkF b ≠ 0 then bkF b else if fdI (idA b.ls) id b.ls.length < 0 then 4 else 0
def bgA (b : Bk) (id : Int) : Int := if bgC b id ≠ 0 then -1 else fdI (idA b.ls) id b.ls.length
/-- The code and the value of WindowLeft. -/
def wlC (b : Bk) (id now : Int) : Int := if bgC b id ≠ 0 then bgC b id else if 0 ≤ now ∧ now ≤ 1000000000 then (if (wlL b id now).length = 0 then 6 else 0) else 3
def wlV (b : Bk) (id now : Int) : Int := if bgC b id ≠ 0 then 0 else if 0 ≤ now ∧ now ≤ 1000000000 then leL (wlL b id now) else 0
theorem bgC_cases {b : Bk} {id : Int} (h : bgC b id = 0) : GBk b ∧ ∃ i, ∃ hi : i < b.ls.length, fdI (idA b.ls) id b.ls.length = (i : Int) ∧ b.ls[i].id = id := by
  unfold bgC at h
  by_cases h0 : bkF b = 0
  · rw [if_neg (by simp [h0])] at h
    by_cases h1 : fdI (idA b.ls) id b.ls.length < 0
    · rw [if_pos h1] at h; cases h
    · obtain ⟨i, h2, h3, h4, _⟩ := fdI_pos (by omega : 0 ≤ fdI (idA b.ls) id b.ls.length)
      exact ⟨bkF_zero h0, i, h2, h3, by rw [← idA_at h2]; exact h4⟩
  · rw [if_pos h0] at h; exact absurd h h0
theorem wlL_at {b : Bk} {id now : Int} {i : Nat} (hi : i < b.ls.length) (h : fdI (idA b.ls) id b.ls.length = (i : Int)) : wlL b id now = liW b.wn b.ls[i].dn.length b.ls[i].dn now b.wn.length := by
  unfold wlL
  rw [h, Int.toNat_natCast, dnA_at hi]

end Go.Proofs.Ytbkklnbcoegamaa

namespace Go.Proofs.Ytbkklnbcoegamaa
open Go.RowKit Go.Maps
set_option linter.unusedVariables false
set_option linter.unusedSimpArgs false

def paA (ls : List Lo) (i : Nat) : Int := (ls.getD i lo0).pa
theorem paA_at {ls : List Lo} {i : Nat} (h : i < ls.length) : paA ls i = ls[i].pa := by simp [paA, List.getD, h]
/-- The ids from the lot at i up. -/
def lnF (ls : List Lo) : Nat → Nat → List Int
  | 0, i => [idA ls i]
  | f + 1, i => idA ls i :: (if paA ls i = 0 then [] else lnF ls f (fdI (idA ls) (paA ls i) i).toNat)
theorem lnF_end {ls : List Lo} {i : Nat} (h : paA ls i = 0) : ∀ f, lnF ls f i = [idA ls i]
  | 0 => rfl
  | f + 1 => by rw [lnF, if_pos h]
theorem lnF_next {ls : List Lo} {i f : Nat} (h : paA ls i ≠ 0) : lnF ls (f + 1) i = idA ls i :: lnF ls f (fdI (idA ls) (paA ls i) i).toNat := by rw [lnF, if_neg h]
theorem lnF_len (ls : List Lo) : ∀ f i, 1 ≤ (lnF ls f i).length ∧ (lnF ls f i).length ≤ f + 1
  | 0, i => ⟨Nat.le_refl _, Nat.le_refl _⟩
  | f + 1, i => by
    have := lnF_len ls f (fdI (idA ls) (paA ls i) i).toNat
    rw [lnF]; split <;> simp <;> omega
def lnL (b : Bk) (id : Int) : List Int := if bgC b id ≠ 0 then [] else lnF b.ls 30 (fdI (idA b.ls) id b.ls.length).toNat
theorem lnL_len (b : Bk) (id : Int) : (lnL b id).length ≤ 31 := by
  unfold lnL; split
  · simp
  · exact (lnF_len _ _ _).2
/-- A parent's place. -/
theorem pa_at {b : Bk} (hG : GBk b) {i : Nat} (hi : i < b.ls.length) (h : paA b.ls i ≠ 0) : ∃ p, p < i ∧ fdI (idA b.ls) (paA b.ls i) i = (p : Int) ∧ idA b.ls p = paA b.ls i := by
  rw [paA_at hi] at h ⊢
  rcases hG.pa i hi with h1 | ⟨p, hp, h1, h2⟩
  · exact absurd h1 h
  · obtain ⟨q, h3, h4, h5, _⟩ := fdI_pos (f := idA b.ls) (v := b.ls[i].pa) (n := i) (by
      rcases fdI_cases (idA b.ls) b.ls[i].pa i with ⟨_, h3⟩ | ⟨q, h3, h4, h5, _⟩
      · exact absurd (by rw [idA_at hp]; exact h2) (h3 p h1)
      · omega)
    exact ⟨q, h3, h4, h5⟩
def slN : Value → Nat
  | .slice _ n _ => n
  | _ => 0
theorem own_formG {w : World} {B n : Nat} {v : Value} {ys : List Value} (h : w.ownsRow B 2 1 v n ys) : ∃ a c, v = .slice a n c := by
  rcases h.2 with ⟨rfl, rfl⟩ | ⟨g, cap, cur, rfl, _⟩
  · exact ⟨_, _, rfl⟩
  · exact ⟨_, _, rfl⟩
theorem is_nilG (w : World) (B : Nat) : IS w B (.slice none 0 0) [] := ⟨rfl, Or.inl ⟨rfl, rfl⟩⟩
/-- What is answered, once it stands in its place. -/
theorem is_doneG {w : World} {A B K : Nat} {v u0 u1 : Value} {cur : List Int} (h : IS w B v cur) (hK : K < B) (hA : A ≤ B) : IS ((w.setCell ⟨K, 0, none⟩ u0).setCell ⟨K, 1, none⟩ u1) A v cur := by
  refine IS.low (B := B) (IS.kept h fun g hg => ?_) hA
  have h1 := (IS.lt h g hg).1
  rw [heap_setCell_other _ _ _ _ (by simp; omega), heap_setCell_other _ _ _ _ (by simp; omega)]

end Go.Proofs.Ytbkklnbcoegamaa

namespace Go.Proofs.Ytbkklnbcoegamaa
open Go.RowKit Go.Maps
set_option linter.unusedVariables false
set_option linter.unusedSimpArgs false

def ikI (x : Int) : Lit := .int .i64 x
theorem ikI_lit (x : Int) : WideAt.IsKeyLit (ikI x) := by simp [ikI, WideAt.IsKeyLit]
theorem ikI_ne {x y : Int} (h : ¬ x = y) : ikI y ≠ ikI x := by
  intro e; unfold ikI at e; injection e with _ e; exact h e.symm
theorem ikI_same (x : Int) : (ikI x).sameKey (ikI x) = true := WideAt.sameKey_self (ikI_lit x)
theorem kI_law : Keyed Try.prog 2 := int_keyed Try.underlying2
theorem kI_key {x : Int} (h : (Lit.int .i64 x).wf = true) : keyOf Try.prog 2 (.int .i64 x) = some (ikI x) := keyOf_int_mk Try.underlying2 h
theorem wf64 {x : Int} (h : -1000000000000 ≤ x ∧ x ≤ 1000000000000) : (Lit.int .i64 x).wf = true := WalkArith.wf_i64 (by omega)
/-- The map in block b, with at most n entries, has just what f says. -/
structure IM (E : TypeId) (w : World) (b n : Nat) (f : Int → Option Int) : Prop where
  own : ∃ D : DataW Unit, w.ownsMap Try.prog 2 (plainElem Try.prog E) b n D ∧ (∀ x, D.atKey (ikI x) (.lit (.int .i64 0)) = .lit (.int .i64 ((f x).getD 0))) ∧ ∀ x, Maps.has D (ikI x) = (f x).isSome
section
variable {E T : TypeId} {w w' : World} {b n : Nat} {f : Int → Option Int}
theorem IM.lt (h : IM E w b n f) : b < w.heap.size := by obtain ⟨D, h1, _⟩ := h.own; exact h1.lt
theorem IM.block (h : IM E w b n f) (hb : w'.heap[b]? = w.heap[b]?) : IM E w' b n f := by
  obtain ⟨D, ⟨es, cl, h1, h2⟩, h3⟩ := h.own
  exact ⟨D, ⟨es, cl, hb.trans h1, h2⟩, h3⟩
theorem IM.below (h : IM E w b n f) (hb : Below w.heap.size w w') : IM E w' b n f := h.block (hb.block b h.lt)
theorem IM.made (E : TypeId) (w : World) : IM E (w.alloc (.map #[] 0)) w.heap.size 0 (fun _ => none) := ⟨.map [], World.ownsMap_made _ _ _ _, fun _ => rfl, fun _ => rfl⟩
theorem IM.conv {g : Int → Option Int} (h : IM E w b n f) (e : ∀ x, f x = g x) : IM E w b n g := by
  have : f = g := funext e
  subst this; exact h
theorem IM.mono {n' : Nat} (h : IM E w b n f) (hn : n ≤ n') : IM E w b n' f := by
  obtain ⟨D, h1, h2⟩ := h.own; exact ⟨D, h1.mono hn, h2⟩
theorem IM.look (h : IM E w b n f) (hT : Try.prog.underlying T = some (.map 2 E)) (hE : Try.prog.underlying E = some (.int .i64)) (hz : (zeroValue E).run Try.prog w = .ok (.int .i64 0) w) {x : Int} (hx : (Lit.int .i64 x).wf = true) :
    (Instr.lookup T (.map (some b)) (.int .i64 x) false).run Try.prog w = .ok (.int .i64 ((f x).getD 0)) w := by
  obtain ⟨D, h1, h2, _⟩ := h.own
  obtain ⟨c, hrun, hat, _⟩ := h1.lookup_int kI_law hT hE hz (kI_key hx)
  rw [h2 x] at hat
  simp only [DataW.lit.injEq, Lit.int.injEq, true_and] at hat
  rw [hrun, hat]
theorem IM.look_ok (h : IM E w b n f) (hT : Try.prog.underlying T = some (.map 2 E)) (hE : Try.prog.underlying E = some (.int .i64)) (hz : (zeroValue E).run Try.prog w = .ok (.int .i64 0) w) {x : Int} (hx : (Lit.int .i64 x).wf = true) :
    (Instr.lookup T (.map (some b)) (.int .i64 x) true).run Try.prog w = .ok (.tuple #[.int .i64 ((f x).getD 0), .bool (f x).isSome]) w := by
  obtain ⟨D, h1, h2, h3⟩ := h.own
  obtain ⟨v, ps, hrun, hv⟩ := h1.look_ok kI_law hT hz (plainElem_int hE (a := 0) (by decide)) (kI_key hx)
  rw [h2 x] at hv
  obtain ⟨c, rfl, hc, _⟩ := plainElem_int_inv hE hv
  simp only [Prod.mk.injEq, DataW.lit.injEq, Lit.int.injEq, true_and] at hc
  rw [hrun, h3 x, hc.1]
theorem IM.put (h : IM E w b n f) (hT : Try.prog.underlying T = some (.map 2 E)) (hE : Try.prog.underlying E = some (.int .i64)) (hn : n ≤ 1000000) {x v : Int} (hx : (Lit.int .i64 x).wf = true) (hv : (Lit.int .i64 v).wf = true) :
    ∃ w', (Instr.mapUpdate T (.map (some b)) (.int .i64 x) (.int .i64 v)).run Try.prog w = .ok () w' ∧ IM E w' b (n + 1) (fun q => if x = q then some v else f q) ∧ w.grownBy w' (some b) := by
  obtain ⟨D, h1, h2, h3⟩ := h.own
  obtain ⟨w', hrun, r1, r2⟩ := h1.update kI_law hT (by unfold maxLen; omega) (kI_key hx) (plainElem_int hE hv)
  refine ⟨w', hrun, ⟨_, r1, fun q => ?_, fun q => ?_⟩, r2⟩
  · by_cases e : x = q
    · subst e
      rw [if_pos rfl]
      exact atKey_put_same h1.isMap (ikI_lit _) _ _
    · rw [if_neg e, atKey_put_other (ikI_ne e)]
      exact h2 q
  · by_cases e : x = q
    · subst e
      rw [if_pos rfl]
      exact has_put_same h1.isMap (ikI_lit _) _
    · rw [if_neg e, has_put_other (ikI_ne e)]
      exact h3 q
end

end Go.Proofs.Ytbkklnbcoegamaa
