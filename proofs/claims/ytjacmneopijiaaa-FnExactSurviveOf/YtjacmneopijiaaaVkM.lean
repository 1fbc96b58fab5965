/- Proved here: how many defects each class has: what ClassBook answers. (And ahead of it: Proved here: what is left of a die with defects: the product, and what SurviveOf answers. (And ahead of it: Proved here: answers with a code have no fraction.)) (And ahead of it: Proved here: the state of a law: what lies in memory of its own, told by ranges of blocks. No condition on the program.) -/
import Derived.Test.YtjacmneopijiaaaKept
import Derived.Test.YtjacmneopijiaaaFloat
import Derived.Test.YtjacmneopijiaaaFqM
import Derived.Test.YtjacmneopijiaaaVtM
namespace Go.Proofs.Ytjacmneopijiaaa
open Go.RowKit
set_option linter.unusedVariables false
set_option linter.unusedSimpArgs false

theorem cellOf {V : World} {k : Nat} {cs : Array Value} {T : TypeId} (h : V.heap[k]? = some (.cells cs T)) (i : Nat) {v : Value} (hi : cs[i]? = some v) : V.cell? ⟨k, i, none⟩ = some v := by
  simp [World.cell?, h, hi]
theorem frozOf {V : World} {k : Nat} {cs : Array Value} {T : TypeId} (h : V.heap[k]? = some (.cells cs T)) (i : Nat) : V.frozen? ⟨k, i, none⟩ = false := by
  simp [World.frozen?, h]
theorem ltOf {V : World} {k : Nat} {o : Obj} (h : V.heap[k]? = some o) : k < V.heap.size := by
  rcases Nat.lt_or_ge k V.heap.size with h' | h'
  · exact h'
  · rw [Array.getElem?_eq_none h'] at h; cases h
theorem cellSame {V V' : World} {k : Nat} {o : Obj} (h : V.heap[k]? = some o) (h' : V'.heap[k]? = some o) (i : Nat) : V'.cell? ⟨k, i, none⟩ = V.cell? ⟨k, i, none⟩ := by
  simp [World.cell?, h, h']

/-- What hangs on the blocks from lo on, below hi, alone. -/
structure Ow (lo hi : Nat) (P : World → Prop) (V : World) : Prop where
  is : P V
  keep : ∀ V' : World, (∀ q, lo ≤ q → q < hi → V'.heap[q]? = V.heap[q]?) → P V'
  le : lo ≤ hi ∧ hi ≤ V.heap.size
theorem Ow.same {lo hi : Nat} {P : World → Prop} {V V' : World} (h : Ow lo hi P V) (hs : V.heap.size ≤ V'.heap.size) (hq : ∀ q, lo ≤ q → q < hi → V'.heap[q]? = V.heap[q]?) : Ow lo hi P V' :=
  ⟨h.keep V' hq, fun V'' h2 => h.keep V'' fun q h3 h4 => (h2 q h3 h4).trans (hq q h3 h4), ⟨h.le.1, Nat.le_trans h.le.2 hs⟩⟩
theorem Ow.next {lo hi : Nat} {P : World → Prop} {V V' : World} (h : Ow lo hi P V) (hb : Below V.heap.size V V') : Ow lo hi P V' :=
  h.same hb.size fun q _ h2 => hb.block q (Nat.lt_of_lt_of_le h2 h.le.2)
theorem Ow.chg {lo hi A C : Nat} {P : World → Prop} {V V' : World} (h : Ow lo hi P V) (hc : Chg A C V V') (hd : hi ≤ A ∨ C ≤ lo) : Ow lo hi P V' :=
  h.same hc.size fun q h1 h2 => hc.block q (Nat.lt_of_lt_of_le h2 h.le.2) (by omega)
theorem Ow.block {V : World} {k : Nat} {o : Obj} (h : V.heap[k]? = some o) : Ow k (k + 1) (fun V => V.heap[k]? = some o) V :=
  ⟨h, fun V' hq => (hq k (Nat.le_refl _) (by omega)).trans h, ⟨by omega, ltOf h⟩⟩
theorem ownsRow_keep {V V' : World} {B T k n : Nat} {v : Value} {xs : List Value} (h : V.ownsRow B T k v n xs) (hq : ∀ g, v.ownBlock = some g → V'.heap[g]? = V.heap[g]?) : V'.ownsRow B T k v n xs := by
  refine ⟨h.1, ?_⟩
  rcases h.2 with h' | ⟨g, cap, cur, rfl, hB, hg, hr⟩
  · exact Or.inl h'
  · exact Or.inr ⟨g, cap, cur, rfl, hB, by rw [hq g rfl]; exact hg, hr⟩
theorem Ow.row {V : World} {B hi T k n : Nat} {v : Value} {xs : List Value} (h : V.ownsRow B T k v n xs) (h1 : B ≤ hi) (h2 : hi ≤ V.heap.size) (hh : ∀ g, v.ownBlock = some g → g < hi) : Ow B hi (fun V => V.ownsRow B T k v n xs) V :=
  ⟨h, fun V' hq => ownsRow_keep h fun g hg => hq g (World.ownsRow.lt h g hg).1 (hh g hg), ⟨h1, h2⟩⟩
theorem Ow.rowAll {V V0 : World} {T k n : Nat} {v : Value} {xs : List Value} (h : V.ownsRow V0.heap.size T k v n xs) (hb : Below V0.heap.size V0 V) : Ow V0.heap.size V.heap.size (fun V => V.ownsRow V0.heap.size T k v n xs) V :=
  Ow.row h hb.size (Nat.le_refl _) fun g hg => (World.ownsRow.lt h g hg).2
theorem Ow.and {lo hi : Nat} {P Q : World → Prop} {V : World} (h : Ow lo hi P V) (h' : Ow lo hi Q V) : Ow lo hi (fun V => P V ∧ Q V) V :=
  ⟨⟨h.is, h'.is⟩, fun V' hq => ⟨h.keep V' hq, h'.keep V' hq⟩, h.le⟩
theorem Ow.true {lo hi : Nat} {P : World → Prop} {V : World} (h : Ow lo hi P V) {V' : World} (hs : V.heap.size ≤ V'.heap.size) : Ow lo hi (fun _ => True) V' :=
  ⟨trivial, fun _ _ => trivial, ⟨h.le.1, Nat.le_trans h.le.2 hs⟩⟩
theorem Ow.wide {lo hi lo' hi' : Nat} {P : World → Prop} {V : World} (h : Ow lo hi P V) (h1 : lo' ≤ lo) (h2 : hi ≤ hi') (h3 : hi' ≤ V.heap.size) : Ow lo' hi' P V :=
  ⟨h.is, fun V' hq => h.keep V' fun q h4 h5 => hq q (by omega) (by omega), ⟨by have := h.le; omega, h3⟩⟩

/-- Where a law stands. -/
structure LS (w : World) (os : List (Nat × Nat × (World → Prop))) (V : World) : Prop where
  bl : Below w.heap.size w V
  ow : ∀ o ∈ os, Ow o.1 o.2.1 o.2.2 V
  pw : os.Pairwise (fun a b => a.2.1 ≤ b.1)
  lo : ∀ o ∈ os, w.heap.size ≤ o.1
theorem LS.start (w : World) : LS w [] w := ⟨Below.refl _ _, (fun _ h => by cases h), List.Pairwise.nil, (fun _ h => by cases h)⟩
theorem LS.own {w V : World} {os : List (Nat × Nat × (World → Prop))} (h : LS w os V) (i : Nat) {lo hi : Nat} {P : World → Prop} (ho : os[i]? = some (lo, hi, P)) : Ow lo hi P V := h.ow _ (List.mem_of_getElem? ho)
theorem LS.get {w V : World} {os : List (Nat × Nat × (World → Prop))} (h : LS w os V) (i : Nat) {lo hi : Nat} {P : World → Prop} (ho : os[i]? = some (lo, hi, P)) : P V := (h.own i ho).is
theorem LS.next {w V V' : World} {os : List (Nat × Nat × (World → Prop))} (h : LS w os V) (hb : Below V.heap.size V V') : LS w os V' :=
  ⟨h.bl.trans (hb.mono h.bl.size), fun o ho => (h.ow o ho).next hb, h.pw, h.lo⟩
theorem LS.push {w V V' : World} {os : List (Nat × Nat × (World → Prop))} {lo hi : Nat} {P : World → Prop} (h : LS w os V) (hb : Below V.heap.size V V') (ho : Ow lo hi P V') (hlo : V.heap.size ≤ lo) : LS w (os ++ [(lo, hi, P)]) V' := by
  refine ⟨h.bl.trans (hb.mono h.bl.size), fun o hm => ?_, ?_, fun o hm => ?_⟩
  · rcases List.mem_append.1 hm with hm | hm
    · exact (h.ow o hm).next hb
    · rw [List.mem_singleton.1 hm]; exact ho
  · rw [List.pairwise_append]
    refine ⟨h.pw, List.pairwise_singleton _ _, fun a ha b hb2 => ?_⟩
    rw [List.mem_singleton.1 hb2]
    exact Nat.le_trans (h.ow a ha).le.2 hlo
  · rcases List.mem_append.1 hm with hm | hm
    · exact h.lo o hm
    · rw [List.mem_singleton.1 hm]; exact Nat.le_trans h.bl.size hlo
theorem LS.put {w V V' : World} {os : List (Nat × Nat × (World → Prop))} {A C : Nat} {P P' : World → Prop} (h : LS w os V) (i : Nat) (ho : os[i]? = some (A, C, P)) (hc : Chg A C V V') (hn : Ow A C P' V') : LS w (os.set i (A, C, P')) V' := by
  obtain ⟨hi, he⟩ := List.getElem?_eq_some_iff.1 ho
  have hw : w.heap.size ≤ A := by have := h.lo _ (List.mem_of_getElem? ho); exact this
  refine ⟨h.bl.trans (hc.below hw h.bl.size), fun o hm => ?_, ?_, fun o hm => ?_⟩
  · obtain ⟨j, hj, rfl⟩ := List.getElem_of_mem hm
    rw [List.length_set] at hj
    by_cases hij : i = j
    · subst hij; simpa using hn
    · rw [List.getElem_set_ne hij]
      refine (h.ow _ (List.getElem_mem hj)).chg hc ?_
      have hp := List.pairwise_iff_getElem.1 h.pw
      rcases Nat.lt_or_ge j i with hlt | hge
      · have := hp j i hj hi hlt; rw [he] at this; exact Or.inl this
      · have := hp i j hi hj (by omega); rw [he] at this; exact Or.inr this
  · rw [List.pairwise_iff_getElem]
    intro a b ha hb hab
    rw [List.length_set] at ha hb
    have hp := List.pairwise_iff_getElem.1 h.pw a b ha hb hab
    rw [List.getElem_set, List.getElem_set]
    split <;> split
    · omega
    · rename_i h1 _; subst h1; rw [he] at hp; exact hp
    · rename_i _ h1; subst h1; rw [he] at hp; exact hp
    · exact hp
  · obtain ⟨j, hj, rfl⟩ := List.getElem_of_mem hm
    rw [List.length_set] at hj
    by_cases hij : i = j
    · subst hij; simpa using hw
    · rw [List.getElem_set_ne hij]; exact h.lo _ (List.getElem_mem hj)

/-- The numbers z, z + 1, .. as cells. -/
def mkV (z : Int) (n : Nat) : List Value := (List.range n).map fun j : Nat => Value.int .i64 (z + (j : Int))
theorem mkV_len (z : Int) (n : Nat) : (mkV z n).length = n := by simp [mkV]
theorem mkV_at {z : Int} {n j : Nat} (h : j < n) : (mkV z n)[j]? = some (.int .i64 (z + (j : Int))) := by simp [mkV, h]
theorem mkV_of {z : Int} {n : Nat} {ys : List Value} (hl : ys.length = n) (h : ∀ t, t < n → ys[t]? = some (.int .i64 (z + (t : Int)))) : ys = mkV z n := by
  apply List.ext_getElem?
  intro j
  by_cases hj : j < n
  · rw [h j hj, mkV_at hj]
  · rw [List.getElem?_eq_none (by omega), List.getElem?_eq_none (by rw [mkV_len]; omega)]

end Go.Proofs.Ytjacmneopijiaaa

namespace Go.Proofs.Ytjacmneopijiaaa
open Go.RowKit
set_option linter.unusedVariables false
set_option linter.unusedSimpArgs false

theorem rqQ_tidy (n d : Int) : Tidy (rqQ n d) := by
  intro h
  unfold rqQ rqC rqN rqD at *
  cases hb : inB (lowN n d) (lowD n d) with
  | true => rw [hb] at h; exact absurd rfl h
  | false => exact ⟨rfl, rfl⟩
theorem adQ_tidy (a b : Fr) : Tidy (adQ a b) := by
  unfold adQ; split
  · exact rqQ_tidy _ _
  · exact fun _ => ⟨rfl, rfl⟩
theorem suQ_tidy (a b : Fr) : Tidy (suQ a b) := by
  unfold suQ; split
  · exact rqQ_tidy _ _
  · exact fun _ => ⟨rfl, rfl⟩
theorem muQ_tidy (a b : Fr) : Tidy (muQ a b) := by
  unfold muQ; split
  · exact rqQ_tidy _ _
  · exact fun _ => ⟨rfl, rfl⟩
theorem zq_bad {q : QR} (h : Tidy q) (hc : q.c ≠ 0) : q = ⟨q.c, 0, 0⟩ := by
  obtain ⟨h1, h2⟩ := h hc
  exact QR.ext rfl h1 h2
theorem zq_ok {q : QR} (h : q.c = 0) : zq q = q := by unfold zq; rw [if_pos h]
theorem zq_not {q : QR} (h : q.c ≠ 0) : zq q = ⟨q.c, 0, 0⟩ := by unfold zq; rw [if_neg h]
theorem three_c {w : World} {k : Nat} {a b c : Value} {T : TypeId} (h : w.heap[k]? = some (.cells #[a, b, c] T)) :
    w.cell? ⟨k, 0, none⟩ = some a ∧ w.cell? ⟨k, 1, none⟩ = some b ∧ w.cell? ⟨k, 2, none⟩ = some c ∧ w.frozen? ⟨k, 0, none⟩ = false ∧ w.frozen? ⟨k, 1, none⟩ = false ∧ w.frozen? ⟨k, 2, none⟩ = false ∧ k < w.heap.size :=
  ⟨cellOf h 0 rfl, cellOf h 1 rfl, cellOf h 2 rfl, frozOf h 0, frozOf h 1, frozOf h 2, ltOf h⟩
theorem two_c {w : World} {k : Nat} {a b : Value} {T : TypeId} (h : w.heap[k]? = some (.cells #[a, b] T)) :
    w.cell? ⟨k, 0, none⟩ = some a ∧ w.cell? ⟨k, 1, none⟩ = some b ∧ w.frozen? ⟨k, 0, none⟩ = false ∧ w.frozen? ⟨k, 1, none⟩ = false ∧ k < w.heap.size :=
  ⟨cellOf h 0 rfl, cellOf h 1 rfl, frozOf h 0, frozOf h 1, ltOf h⟩
theorem al_second (w : World) (a b : Obj) : ((w.alloc a).alloc b).heap[w.heap.size + 1]? = some b := by have := heap_alloc_new (w.alloc a) b; simpa using this
theorem there_three {w : World} {k : Nat} {a b c : Value} {T : TypeId} (h : w.heap[k]? = some (.cells #[a, b, c] T)) : w.there k 0 3 := by
  intro j hj
  have hj2 : j < 3 := hj
  simp [World.cell?, World.frozen?, h, hj2]
theorem set3 {w : World} {k : Nat} {a b c a' b' c' : Value} {T : TypeId} (h : w.heap[k]? = some (.cells #[a, b, c] T)) : (((w.setCell ⟨k, 0, none⟩ a').setCell ⟨k, 1, none⟩ b').setCell ⟨k, 2, none⟩ c').heap[k]? = some (.cells #[a', b', c'] T) := by
  have h1 := heap_setCell_same w k 0 _ _ a' h
  have h2 := heap_setCell_same _ k 1 _ _ b' h1
  have h3 := heap_setCell_same _ k 2 _ _ c' h2
  simpa using h3
theorem set3_other {w : World} {k j : Nat} {a' b' c' : Value} (h : j ≠ k) : (((w.setCell ⟨k, 0, none⟩ a').setCell ⟨k, 1, none⟩ b').setCell ⟨k, 2, none⟩ c').heap[j]? = w.heap[j]? := by
  rw [heap_setCell_other _ _ _ _ (by simpa using h), heap_setCell_other _ _ _ _ (by simpa using h), heap_setCell_other _ _ _ _ (by simpa using h)]

end Go.Proofs.Ytjacmneopijiaaa

namespace Go.Proofs.Ytjacmneopijiaaa
open Go.RowKit
set_option linter.unusedVariables false
set_option linter.unusedSimpArgs false

/-- What a class leaves alive. -/
def vlv (c : Cls) : Fr := ⟨c.q.d - c.q.n, c.q.d⟩
theorem su_one {q : Fr} (h : okR q = true) (h0 : 0 ≤ q.n) (h1 : q.n ≤ q.d) : suQ (whole 1) q = ⟨0, q.d - q.n, q.d⟩ := by
  have hw : okR (whole 1) = true := whole_ok (by omega)
  have hp := okR_pos h
  have hg : Int.gcd q.n q.d = 1 := by
    have h9 := h
    unfold okR okF at h9
    simp only [Bool.and_eq_true, decide_eq_true_eq] at h9
    exact h9.2
  unfold suQ
  rw [okR_both hw h, if_pos rfl]
  have e1 : (whole 1).n * q.d - q.n * (whole 1).d = q.d - q.n := by unfold whole; simp
  have e2 : (whole 1).d * q.d = q.d := by unfold whole; simp
  rw [e1, e2]
  refine rqQ_low ?_
  unfold okF
  rw [inB_mk ⟨by omega, by omega, by omega, by omega⟩]
  simp only [Bool.true_and, decide_eq_true_eq]
  have e3 : Int.gcd (q.d - q.n) q.d = Int.gcd q.n q.d := by
    rw [Int.gcd_comm, Int.gcd_comm q.n]
    have e4 : q.d - q.n = -q.n + q.d * 1 := by omega
    rw [e4, Int.gcd_add_mul_left_right, Int.gcd_neg]
  rw [e3, hg]
/-- One defect more. -/
def vsOne (cs : List Cls) (d : Dft) (a : QR) : QR :=
  match cs[vff d cs]? with
  | some c => muQ a.fr (vlv c)
  | none => a
/-- The product over defects, up to the first that is not right. -/
def vsG (cs : List Cls) : List Dft → QR → QR
  | [], a => a
  | d :: t, a => if a.c = 0 then vsG cs t (vsOne cs d a) else a
theorem vsG_bad {cs : List Cls} (s : List Dft) {a : QR} (h : ¬ a.c = 0) : vsG cs s a = a := by
  cases s with
  | nil => rfl
  | cons d t => rw [vsG, if_neg h]
theorem vsG_step {cs : List Cls} {s : List Dft} {j : Nat} (h : j < s.length) {n d : Int} : vsG cs (s.drop j) ⟨0, n, d⟩ = vsG cs (s.drop (j + 1)) (vsOne cs s[j] ⟨0, n, d⟩) := by
  rw [List.drop_eq_getElem_cons h, vsG, if_pos rfl]
theorem vsOne_none {cs : List Cls} {d : Dft} {a : QR} (h : vff d cs = cs.length) : vsOne cs d a = a := by
  unfold vsOne; rw [h, List.getElem?_eq_none (Nat.le_refl _)]
theorem vsOne_at {cs : List Cls} {d : Dft} {a : QR} {i : Nat} (h : vff d cs = i) (hi : i < cs.length) : vsOne cs d a = muQ a.fr (vlv cs[i]) := by
  unfold vsOne; rw [h, List.getElem?_eq_getElem hi]
/-- The fault of both lists. -/
def vxF (s : List Dft) (cs : List Cls) : Int := if vdF s = 0 then vcF cs else vdF s
theorem vxF_ok {s : List Dft} {cs : List Cls} (h : vxF s cs = 0) : vdF s = 0 ∧ vcF cs = 0 := by
  unfold vxF at h
  by_cases h1 : vdF s = 0
  · rw [if_pos h1] at h; exact ⟨h1, h⟩
  · rw [if_neg h1] at h; exact absurd h h1
def vsQ (s : List Dft) (cs : List Cls) : QR := if vxF s cs = 0 then vsG cs s ⟨0, 1, 1⟩ else ⟨vxF s cs, 0, 0⟩

end Go.Proofs.Ytjacmneopijiaaa

namespace Go.Proofs.Ytjacmneopijiaaa
open Go.RowKit
set_option linter.unusedVariables false
set_option linter.unusedSimpArgs false

/-- Of how many defects class i is the first that fits. -/
def vkN (cs : List Cls) (s : List Dft) (i : Nat) : Int := ((s.filter (fun d => vff d cs == i)).length : Int)
theorem vkN_nil (cs : List Cls) (i : Nat) : vkN cs [] i = 0 := rfl
theorem vkN_succ {cs : List Cls} {s : List Dft} {j : Nat} (hj : j < s.length) (i : Nat) : vkN cs (s.take (j + 1)) i = if vff s[j] cs = i then vkN cs (s.take j) i + 1 else vkN cs (s.take j) i := by
  unfold vkN
  rw [List.take_succ_eq_append_getElem hj, List.filter_append, List.length_append]
  by_cases h : vff s[j] cs = i
  · rw [if_pos h]; simp [h]
  · rw [if_neg h]; simp [h]
theorem vkN_bd (cs : List Cls) (s : List Dft) (i : Nat) : 0 ≤ vkN cs s i ∧ vkN cs s i ≤ s.length := by
  unfold vkN
  have := List.length_filter_le (fun d => vff d cs == i) s
  omega
theorem vkN_far {cs : List Cls} {s : List Dft} {i : Nat} (h : cs.length < i) : vkN cs s i = 0 := by
  unfold vkN
  have : s.filter (fun d => vff d cs == i) = [] := by
    rw [List.filter_eq_nil_iff]
    intro d _
    have := vff_le d cs
    simp; omega
  rw [this]; rfl
/-- All counts, of the first j defects. -/
def vkT (cs : List Cls) (s : List Dft) (j m : Nat) : List Int := (List.range m).map (vkN cs (s.take j))
theorem vkT_len (cs : List Cls) (s : List Dft) (j m : Nat) : (vkT cs s j m).length = m := by unfold vkT; simp
theorem vkT_at {cs : List Cls} {s : List Dft} {j m i : Nat} (h : i < m) : (vkT cs s j m)[i]? = some (vkN cs (s.take j) i) := by
  unfold vkT; simp [h]
theorem vkT_zero (cs : List Cls) (s : List Dft) (m : Nat) : vkT cs s 0 m = List.replicate m 0 := by
  unfold vkT
  apply List.ext_getElem?
  intro i
  by_cases h : i < m
  · simp [h, vkN_nil]
  · simp [h]
theorem vkT_succ {cs : List Cls} {s : List Dft} {j m : Nat} (hj : j < s.length) (hm : vff s[j] cs < m) : vkT cs s (j + 1) m = (vkT cs s j m).set (vff s[j] cs) (vkN cs (s.take j) (vff s[j] cs) + 1) := by
  apply List.ext_getElem?
  intro i
  by_cases h : i < m
  · rw [vkT_at h, vkN_succ hj]
    by_cases e : vff s[j] cs = i
    · subst e
      rw [if_pos rfl, List.getElem?_set_self (by rw [vkT_len]; exact h)]
    · rw [if_neg e, List.getElem?_set_ne e, vkT_at h]
  · rw [List.getElem?_eq_none (by rw [vkT_len]; omega), List.getElem?_eq_none (by rw [List.length_set, vkT_len]; omega)]
def vkC (s : List Dft) (cs : List Cls) : Int := vxF s cs
def vkL (s : List Dft) (cs : List Cls) : List Int := if vxF s cs = 0 then vkT cs s s.length (cs.length + 1) else []
theorem vkL_len (s : List Dft) (cs : List Cls) : (vkL s cs).length ≤ 21 := by
  unfold vkL
  by_cases h : vxF s cs = 0
  · rw [if_pos h, vkT_len]
    have := (vcF_ok (vxF_ok h).2).1
    omega
  · rw [if_neg h]; simp
theorem vkL_ok {s : List Dft} {cs : List Cls} (h : vxF s cs = 0) : vkL s cs = vkT cs s s.length (cs.length + 1) := by unfold vkL; rw [if_pos h]
theorem vkL_bad {s : List Dft} {cs : List Cls} (h : ¬ vxF s cs = 0) : vkL s cs = [] := by unfold vkL; rw [if_neg h]

end Go.Proofs.Ytjacmneopijiaaa
