/- Proved here: how marked lots lie; one cell of a row turns. No condition. (And ahead of it: Proved here: what a mark of a list turns is that list's own block alone. No condition on the program.) -/
import Derived.Test.YtcfjanignfbidaaLwS
import Derived.Test.YtcfjanignfbidaaFloat
import Derived.Test.YtcfjanignfbidaaQlU
import Derived.Test.YtcfjanignfbidaaRwG
namespace Go.Proofs.Ytcfjanignfbidaa
open Go.RowKit
set_option linter.unusedVariables false
set_option linter.unusedSimpArgs false

def bLo (v : Value) : Nat := match v.ownBlock with | some g => g | none => 0
def bHi (v : Value) : Nat := match v.ownBlock with | some g => g + 1 | none => 0
theorem bLo_some {v : Value} {g : Nat} (h : v.ownBlock = some g) : bLo v = g := by unfold bLo; rw [h]
theorem bHi_some {v : Value} {g : Nat} (h : v.ownBlock = some g) : bHi v = g + 1 := by unfold bHi; rw [h]
theorem own_tight {V : World} {B T k n : Nat} {v : Value} {ys : List Value} (h : V.ownsRow B T k v n ys) : V.ownsRow (bLo v) T k v n ys := by
  refine ⟨h.1, ?_⟩
  rcases h.2 with h9 | ⟨g, cap, cur, h10, h11, h12⟩
  · exact Or.inl h9
  · exact Or.inr ⟨g, cap, cur, h10, by rw [bLo_some (g := g) (by rw [h10]; rfl)]; exact Nat.le_refl _, h12⟩
theorem tight_lt (v : Value) : ∀ g, v.ownBlock = some g → g < bHi v := fun g h => by rw [bHi_some h]; exact Nat.lt_succ_self g
theorem own_back {V : World} {A B T k n : Nat} {v : Value} {ys : List Value} (h : V.ownsRow A T k v n ys) (hB : ∀ g, v.ownBlock = some g → B ≤ g) : V.ownsRow B T k v n ys := by
  refine ⟨h.1, ?_⟩
  rcases h.2 with h9 | ⟨g, cap, cur, h10, h11, h12⟩
  · exact Or.inl h9
  · exact Or.inr ⟨g, cap, cur, h10, hB g (by rw [h10]; rfl), h12⟩
theorem Chg.tight {w w' : World} {v : Value} {B Z : Nat} (h : Chg (bLo v) (bHi v) w w') (hB : ∀ g, v.ownBlock = some g → B ≤ g ∧ g < Z) : Chg B Z w w' := by
  refine ⟨h.os, h.tape, h.output, h.size, fun k hk hb => h.block k hk ?_⟩
  cases hv : v.ownBlock with
  | none => right; unfold bHi; rw [hv]; exact Nat.zero_le _
  | some g => rw [bLo_some hv, bHi_some hv]; have := hB g hv; omega
theorem Chg.off {w w' : World} {v : Value} (h : Chg (bLo v) (bHi v) w w') {q : Nat} (hq : q < w.heap.size) (hv : v.ownBlock ≠ some q) : w'.heap[q]? = w.heap[q]? := by
  refine h.block q hq ?_
  cases hv2 : v.ownBlock with
  | none => right; unfold bHi; rw [hv2]; exact Nat.zero_le _
  | some g =>
    rw [bLo_some hv2, bHi_some hv2]
    have : g ≠ q := fun e => hv (by rw [hv2, e])
    omega

end Go.Proofs.Ytcfjanignfbidaa

namespace Go.Proofs.Ytcfjanignfbidaa
open Go.RowKit
set_option linter.unusedVariables false
set_option linter.unusedSimpArgs false

theorem fm_set {α : Type} {k : Nat} {enc : α → List Value} (hk : ∀ x, (enc x).length = k) : ∀ (s : List α) (j i : Nat) (hj : j < s.length) (x' : α) (u : Value), i < k → enc x' = (enc s[j]).set i u → (s.set j x').flatMap enc = (s.flatMap enc).set (j * k + i) u := by
  intro s
  induction s with
  | nil => intro j i hj; simp at hj
  | cons b t ih =>
    intro j i hj x' u hi he
    cases j with
    | zero =>
      simp only [List.set_cons_zero, List.flatMap_cons, Nat.zero_mul, Nat.zero_add]
      simp only [List.getElem_cons_zero] at he
      rw [he, List.set_append_left _ _ (by rw [hk]; exact hi)]
    | succ j =>
      simp only [List.set_cons_succ, List.flatMap_cons]
      simp only [List.getElem_cons_succ] at he
      rw [ih j i (by simpa using hj) x' u hi he, List.set_append_right _ _ (by rw [hk, Nat.add_mul]; omega)]
      congr 2
      rw [hk, Nat.add_mul]; omega
theorem og_set {α : Type} {T k : Nat} {enc : α → List Value} (hk : ∀ x, (enc x).length = k) {w : World} {B g n c : Nat} {s : List α} (h : OG T k enc w B (.slice (some ⟨g, 0, none⟩) n c) s) {j i : Nat} (hj : j < s.length) (hi : i < k) (x' : α) (u : Value) (he : enc x' = (enc s[j]).set i u) :
    OG T k enc (w.setCell ⟨g, j * k + i, none⟩ u) B (.slice (some ⟨g, 0, none⟩) n c) (s.set j x') := by
  obtain ⟨a, c', e⟩ := (OG.rg hk h).form
  injection e with _ e _
  subst e
  have := (World.ownsRow.stored h (j * k + i) u).1
  unfold OG
  rw [List.length_set, fm_set hk s j i hj x' u hi he]
  exact this
theorem wvO_set {rs : List Lr} {j : Nat} {x : Lr} (hj : j < rs.length) (h : x.wv = rs[j].wv) : wvO (rs.set j x) = wvO rs := by
  funext i
  unfold wvO
  by_cases e : j = i
  · subst e; rw [List.getElem?_set_self hj, List.getElem?_eq_getElem hj]; simp [h]
  · rw [List.getElem?_set_ne e]
theorem dvO_set {rs : List Lr} {j : Nat} {x : Lr} (hj : j < rs.length) (h : x.dv = rs[j].dv) : dvO (rs.set j x) = dvO rs := by
  funext i
  unfold dvO
  by_cases e : j = i
  · subst e; rw [List.getElem?_set_self hj, List.getElem?_eq_getElem hj]; simp [h]
  · rw [List.getElem?_set_ne e]
/-- How far the first n lots' marks reach. -/
def zS (ns : List (Nat × Nat)) : Nat → Nat
  | 0 => 0
  | n + 1 => zS ns n + (3 + (ns.getD n (0, 0)).1 + (ns.getD n (0, 0)).2)
theorem zS_at {ns : List (Nat × Nat)} {n : Nat} (h : n < ns.length) : zS ns (n + 1) = zS ns n + (3 + ns[n].1 + ns[n].2) := by
  show zS ns n + _ = _
  rw [show ns.getD n (0, 0) = ns[n] from by simp [List.getD, h]]
theorem zS_le {ns : List (Nat × Nat)} (hb : ∀ i (h : i < ns.length), ns[i].1 ≤ 1048576 ∧ ns[i].2 ≤ 1048576) : ∀ n, n ≤ ns.length → zS ns n ≤ 2097155 * n := by
  intro n
  induction n with
  | zero => intro _; exact Nat.le_refl _
  | succ n ih =>
    intro hn
    rw [zS_at (by omega)]
    have := ih (by omega)
    have := hb n (by omega)
    omega
structure LM (V : World) (B : Nat) (vl : Value) (ns : List (Nat × Nat)) (z : Int) (j : Nat) (rs : List Lr) : Prop where
  row : OG 61 5 lrC V B vl rs
  len : rs.length = ns.length
  num : ∀ i (h : i < rs.length) (h' : i < ns.length), i < j → rs[i].id = z + (zS ns i : Int) ∧ rs[i].pa = z + (zS ns i : Int) + 1 ∧ rs[i].hd = decide ((z + (zS ns i : Int) + 2 + (ns[i].1 : Int)) % 3 = 0)
  ws : ∀ i (h : i < rs.length) (h' : i < ns.length), ∃ xs, V.ownsRow B 2 1 rs[i].wv ns[i].1 xs ∧ (i < j → xs = mkV (z + (zS ns i : Int) + 2) ns[i].1)
  dn : ∀ i (h : i < rs.length) (h' : i < ns.length), ∃ xs, V.ownsRow B 2 1 rs[i].dv ns[i].2 xs ∧ (i < j → xs = mkV (z + (zS ns i : Int) + 3 + (ns[i].1 : Int)) ns[i].2)
  ap : ApS (slv nilV (wvO rs) (dvO rs))
/-- A block of the lots. -/
def LBk (vl : Value) (rs : List Lr) (q : Nat) : Prop := vl.ownBlock = some q ∨ ∃ a, (slv nilV (wvO rs) (dvO rs) a).ownBlock = some q
section
variable {V V' : World} {B : Nat} {vl : Value} {ns : List (Nat × Nat)} {z : Int} {j : Nat} {rs : List Lr}
theorem LM.wb (h : LM V B vl ns z j rs) {i : Nat} (hi : i < rs.length) {q : Nat} (hq : rs[i].wv.ownBlock = some q) : B ≤ q ∧ q < V.heap.size ∧ ∃ cs, V.heap[q]? = some (.cells cs 2 (0, 0)) := by
  obtain ⟨xs, h1, _⟩ := h.ws i hi (by rw [← h.len]; exact hi); exact rowBlk h1 hq
theorem LM.db (h : LM V B vl ns z j rs) {i : Nat} (hi : i < rs.length) {q : Nat} (hq : rs[i].dv.ownBlock = some q) : B ≤ q ∧ q < V.heap.size ∧ ∃ cs, V.heap[q]? = some (.cells cs 2 (0, 0)) := by
  obtain ⟨xs, h1, _⟩ := h.dn i hi (by rw [← h.len]; exact hi); exact rowBlk h1 hq
theorem LM.sb (h : LM V B vl ns z j rs) {a : Sx} {q : Nat} (hq : (slv nilV (wvO rs) (dvO rs) a).ownBlock = some q) : B ≤ q ∧ q < V.heap.size ∧ ∃ cs, V.heap[q]? = some (.cells cs 2 (0, 0)) := by
  cases a with
  | s => cases hq
  | w i =>
    rcases Nat.lt_or_ge i rs.length with h1 | h1
    · have hq' : (wvO rs i).ownBlock = some q := hq
      rw [wvO_lt h1] at hq'; exact h.wb h1 hq'
    · have hq' : (wvO rs i).ownBlock = some q := hq
      rw [wvO_ge h1] at hq'; cases hq'
  | d i =>
    rcases Nat.lt_or_ge i rs.length with h1 | h1
    · have hq' : (dvO rs i).ownBlock = some q := hq
      rw [dvO_lt h1] at hq'; exact h.db h1 hq'
    · have hq' : (dvO rs i).ownBlock = some q := hq
      rw [dvO_ge h1] at hq'; cases hq'
theorem LM.rowNe (h : LM V B vl ns z j rs) {q : Nat} (hq : vl.ownBlock = some q) (a : Sx) : (slv nilV (wvO rs) (dvO rs) a).ownBlock ≠ some q := fun e => by
  obtain ⟨_, _, cs, e1⟩ := rowBlk h.row hq
  obtain ⟨_, _, ds, e2⟩ := h.sb e
  exact kindsR e1 e2 (by decide)
theorem LM.ne {i k : Nat} (h : LM V B vl ns z j rs) (hi : i < rs.length) (hk : k < rs.length) {q : Nat} :
    (i ≠ k → rs[i].wv.ownBlock = some q → rs[k].wv.ownBlock ≠ some q) ∧ (i ≠ k → rs[i].dv.ownBlock = some q → rs[k].dv.ownBlock ≠ some q) ∧ (rs[i].wv.ownBlock = some q → rs[k].dv.ownBlock ≠ some q) := by
  refine ⟨fun hne h1 h2 => ?_, fun hne h1 h2 => ?_, fun h1 h2 => ?_⟩
  · exact h.ap (.w i) (.w k) (fun e => hne (by injection e)) q (by show (wvO rs i).ownBlock = _; rw [wvO_lt hi]; exact h1) (by show (wvO rs k).ownBlock = _; rw [wvO_lt hk]; exact h2)
  · exact h.ap (.d i) (.d k) (fun e => hne (by injection e)) q (by show (dvO rs i).ownBlock = _; rw [dvO_lt hi]; exact h1) (by show (dvO rs k).ownBlock = _; rw [dvO_lt hk]; exact h2)
  · exact h.ap (.w i) (.d k) (by intro e; cases e) q (by show (wvO rs i).ownBlock = _; rw [wvO_lt hi]; exact h1) (by show (dvO rs k).ownBlock = _; rw [dvO_lt hk]; exact h2)
theorem LM.keep (h : LM V B vl ns z j rs) (hk : ∀ q, LBk vl rs q → V'.heap[q]? = V.heap[q]?) : LM V' B vl ns z j rs := by
  refine ⟨ownsRow_keep h.row fun q hq => hk q (Or.inl hq), h.len, h.num, fun i h1 h2 => ?_, fun i h1 h2 => ?_, h.ap⟩
  · obtain ⟨xs, a, b⟩ := h.ws i h1 h2
    exact ⟨xs, ownsRow_keep a fun q hq => hk q (Or.inr ⟨.w i, by show (wvO rs i).ownBlock = _; rw [wvO_lt h1]; exact hq⟩), b⟩
  · obtain ⟨xs, a, b⟩ := h.dn i h1 h2
    exact ⟨xs, ownsRow_keep a fun q hq => hk q (Or.inr ⟨.d i, by show (dvO rs i).ownBlock = _; rw [dvO_lt h1]; exact hq⟩), b⟩
theorem LM.blk (h : LM V B vl ns z j rs) {q : Nat} (hq : LBk vl rs q) : B ≤ q ∧ q < V.heap.size := by
  rcases hq with hq | ⟨a, hq⟩
  · exact OG.lt h.row q hq
  · exact ⟨(h.sb hq).1, (h.sb hq).2.1⟩
/-- The numbers of lot j are marked, and its lists. -/
theorem LM.step {xr xw xd : Value} (h : LM V B vl ns z j rs) (hj : j < rs.length) (hj' : j < ns.length) {x : Lr} (hx : x.id = z + (zS ns j : Int) ∧ x.pa = z + (zS ns j : Int) + 1 ∧ x.hd = decide ((z + (zS ns j : Int) + 2 + (ns[j].1 : Int)) % 3 = 0)) (hw : x.wv = rs[j].wv) (hd : x.dv = rs[j].dv)
    (hrow : OG 61 5 lrC V' B vl (rs.set j x)) (hws : V'.ownsRow B 2 1 rs[j].wv ns[j].1 (mkV (z + (zS ns j : Int) + 2) ns[j].1)) (hdn : V'.ownsRow B 2 1 rs[j].dv ns[j].2 (mkV (z + (zS ns j : Int) + 3 + (ns[j].1 : Int)) ns[j].2))
    (hk : ∀ q, q < V.heap.size → vl.ownBlock ≠ some q → rs[j].wv.ownBlock ≠ some q → rs[j].dv.ownBlock ≠ some q → V'.heap[q]? = V.heap[q]?) : LM V' B vl ns z (j + 1) (rs.set j x) := by
  have hl := h.len
  refine ⟨hrow, by rw [List.length_set]; exact h.len, fun i h1 h2 h3 => ?_, fun i h1 h2 => ?_, fun i h1 h2 => ?_, by rw [wvO_set hj hw, dvO_set hj hd]; exact h.ap⟩
  · by_cases e : j = i
    · subst e
      rw [List.getElem_set_self]; exact hx
    · rw [List.getElem_set_ne e]
      exact h.num i (by rw [List.length_set] at h1; exact h1) h2 (by omega)
  · by_cases e : j = i
    · subst e
      rw [List.getElem_set_self, hw]; exact ⟨_, hws, fun _ => rfl⟩
    · rw [List.getElem_set_ne e]
      have h1' : i < rs.length := by rw [List.length_set] at h1; exact h1
      obtain ⟨xs, a, b⟩ := h.ws i h1' h2
      refine ⟨xs, ownsRow_keep a fun q hq => ?_, fun h3 => b (by omega)⟩
      have hb := h.wb h1' hq
      exact hk q hb.2.1 (fun e2 => h.rowNe e2 (.w i) (by show (wvO rs i).ownBlock = _; rw [wvO_lt h1']; exact hq)) (fun e2 => (h.ne hj h1').1 e e2 hq) (fun e2 => (h.ne h1' hj).2.2 hq e2)
  · by_cases e : j = i
    · subst e
      rw [List.getElem_set_self, hd]; exact ⟨_, hdn, fun _ => rfl⟩
    · rw [List.getElem_set_ne e]
      have h1' : i < rs.length := by rw [List.length_set] at h1; exact h1
      obtain ⟨xs, a, b⟩ := h.dn i h1' h2
      refine ⟨xs, ownsRow_keep a fun q hq => ?_, fun h3 => b (by omega)⟩
      have hb := h.db h1' hq
      exact hk q hb.2.1 (fun e2 => h.rowNe e2 (.d i) (by show (dvO rs i).ownBlock = _; rw [dvO_lt h1']; exact hq)) (fun e2 => (h.ne hj h1').2.2 e2 hq) (fun e2 => (h.ne hj h1').2.1 e e2 hq)
end
/-- What the marks turn is the lots' own blocks. -/
structure Tn (F : Nat → Prop) (w w' : World) : Prop where
  os : w'.os = w.os
  tape : w'.tape = w.tape
  output : w'.output = w.output
  size : w.heap.size ≤ w'.heap.size
  block : ∀ q, q < w.heap.size → ¬ F q → w'.heap[q]? = w.heap[q]?
theorem Tn.refl (F : Nat → Prop) (w : World) : Tn F w w := ⟨rfl, rfl, rfl, Nat.le_refl _, fun _ _ _ => rfl⟩
theorem Tn.trans {F : Nat → Prop} {w w' w'' : World} (h : Tn F w w') (h' : Tn F w' w'') : Tn F w w'' :=
  ⟨h'.os.trans h.os, h'.tape.trans h.tape, h'.output.trans h.output, Nat.le_trans h.size h'.size, fun q hq hf => (h'.block q (Nat.lt_of_lt_of_le hq h.size) hf).trans (h.block q hq hf)⟩
theorem Tn.set {F : Nat → Prop} (w : World) {g o : Nat} (u : Value) (hg : F g) : Tn F w (w.setCell ⟨g, o, none⟩ u) :=
  ⟨rfl, rfl, rfl, by simp, fun q _ hf => heap_setCell_other _ _ _ _ (by simpa using fun e => hf (by rw [e]; exact hg))⟩
theorem Tn.of_chg {F : Nat → Prop} {w w' : World} {v : Value} (h : Chg (bLo v) (bHi v) w w') (hv : ∀ q, v.ownBlock = some q → F q) : Tn F w w' :=
  ⟨h.os, h.tape, h.output, h.size, fun q hq hf => h.off hq fun e => hf (hv q e)⟩
theorem Tn.chg {F : Nat → Prop} {w w' : World} {B Z : Nat} (h : Tn F w w') (hF : ∀ q, F q → B ≤ q ∧ q < Z) : Chg B Z w w' :=
  ⟨h.os, h.tape, h.output, h.size, fun q hq hb => h.block q hq fun hf => by have := hF q hf; omega⟩
theorem Tn.mono {F G : Nat → Prop} {w w' : World} (h : Tn F w w') (hFG : ∀ q, F q → G q) : Tn G w w' := ⟨h.os, h.tape, h.output, h.size, fun q hq hg => h.block q hq fun hf => hg (hFG q hf)⟩

end Go.Proofs.Ytcfjanignfbidaa
