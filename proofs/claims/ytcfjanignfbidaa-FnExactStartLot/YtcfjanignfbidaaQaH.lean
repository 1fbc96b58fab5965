/- Proved here: an open book, one of its lots held or not. No condition on the program but on its table of types. (And ahead of it: Proved here: the rows of an open book once the wafers stand in them. No condition on the program but on its table of types.) -/
import Derived.Test.YtcfjanignfbidaaQoM
import Derived.Test.YtcfjanignfbidaaQmM
namespace Go.Proofs.Ytcfjanignfbidaa
open Go.RowKit Go.Maps
set_option linter.unusedVariables false
set_option linter.unusedSimpArgs false

def svM (f : Lit → Option Sv) (ls : List Lo) (j : Nat) : Sv := (f (ikI (idA ls j))).getD svN
def lrW (r : Lr) (s : Sv) : Lr := { r with wa := s.1, wn := s.2.1, wc := s.2.2 }
def rsW (f : Lit → Option Sv) (ls : List Lo) (rs : List Lr) (i : Nat) : List Lr := rs.mapIdx fun j r => if j < i then lrW r (svM f ls j) else r
theorem rsW_len (f : Lit → Option Sv) (ls : List Lo) (rs : List Lr) (i : Nat) : (rsW f ls rs i).length = rs.length := by simp [rsW]
theorem rsW_at {f : Lit → Option Sv} {ls : List Lo} {rs : List Lr} {i j : Nat} (h : j < rs.length) (h' : j < (rsW f ls rs i).length) : (rsW f ls rs i)[j] = if j < i then lrW rs[j] (svM f ls j) else rs[j] := by simp [rsW]
theorem rsW_zero (f : Lit → Option Sv) (ls : List Lo) (rs : List Lr) : rsW f ls rs 0 = rs := by
  apply List.ext_getElem (by simp [rsW])
  intro j h1 h2
  rw [rsW_at h2 h1, if_neg (by omega)]
theorem rsW_next {f : Lit → Option Sv} {ls : List Lo} {rs : List Lr} {i : Nat} (h : i < rs.length) : (rsW f ls rs i).set i (lrW rs[i] (svM f ls i)) = rsW f ls rs (i + 1) := by
  apply List.ext_getElem (by simp [rsW])
  intro j h1 h2
  have h3 : j < rs.length := by rw [rsW_len] at h2; exact h2
  rw [List.getElem_set, rsW_at h3 h2]
  by_cases e : i = j
  · subst e; rw [if_pos rfl, if_pos (by omega)]
  · rw [if_neg e, rsW_at h3 (by rw [rsW_len]; exact h3)]
    by_cases e2 : j < i
    · rw [if_pos e2, if_pos (by omega)]
    · rw [if_neg e2, if_neg (by omega)]
theorem rsW_dv (f : Lit → Option Sv) (ls : List Lo) (rs : List Lr) (i : Nat) : dvO (rsW f ls rs i) = dvO rs := by
  funext j
  rcases Nat.lt_or_ge j rs.length with h | h
  · rw [dvO_lt h, dvO_lt (by rw [rsW_len]; exact h), rsW_at h (by rw [rsW_len]; exact h)]
    split <;> rfl
  · rw [dvO_ge h, dvO_ge (by rw [rsW_len]; exact h)]
theorem rsW_wv {f : Lit → Option Sv} {ls : List Lo} {rs : List Lr} (hl : rs.length = ls.length) : wvO (rsW f ls rs ls.length) = wvM f ls := by
  funext j
  unfold wvM
  rcases Nat.lt_or_ge j rs.length with h | h
  · rw [wvO_lt (by rw [rsW_len]; exact h), rsW_at h (by rw [rsW_len]; exact h), if_pos (by omega), if_pos (by omega)]
    rfl
  · rw [wvO_ge (by rw [rsW_len]; exact h), if_neg (by omega)]
/-- A book, once its lots' wafers stand in their rows. -/
theorem PB.done {V V' : World} {B : Nat} {vw vl vs : Value} {f : Lit → Option Sv} {b : Bk} {rs : List Lr} (h : PB V B vw vl vs (wvM f b.ls) b rs) (hr : OG 61 5 lrC V' B vl (rsW f b.ls rs b.ls.length)) (hk : ∀ q, q < V.heap.size → vl.ownBlock ≠ some q → V'.heap[q]? = V.heap[q]?) : PB V' B vw vl vs (wvO (rsW f b.ls rs b.ls.length)) b (rsW f b.ls rs b.ls.length) := by
  have ew := rsW_wv (f := f) h.len
  have ed := rsW_dv f b.ls rs b.ls.length
  have hs : ∀ a q, (slv vs (wvM f b.ls) (dvO rs) a).ownBlock = some q → V'.heap[q]? = V.heap[q]? := fun a q hq => hk q (h.sblk hq).2 (fun e => (h.rowNot e).2 a hq)
  refine ⟨ownsRow_keep h.wn fun q hq => hk q (World.ownsRow.lt h.wn q hq).2 (fun e => (h.rowNot e).1 hq), hr, by rw [rsW_len]; exact h.len, fun j h1 h2 => ?_, fun j hj => ?_, fun j h1 h2 => ?_, h.sc.kept fun q hq => hs .s q hq, fun j hj => by rw [ew]; exact h.nl j hj, by rw [ew, ed]; exact h.ap⟩
  · have h3 : j < rs.length := by rw [rsW_len] at h1; exact h1
    have := h.nm j h3 h2
    rw [rsW_at h3 h1]
    split <;> exact this
  · rw [ew]; exact (h.ws j hj).kept fun q hq => hs (.w j) q hq
  · have h3 : j < rs.length := by rw [rsW_len] at h1; exact h1
    have h4 := (h.dn j h3 h2).kept fun q hq => hs (.d j) q (by show (dvO rs j).ownBlock = _; rw [dvO_lt h3]; exact hq)
    rw [rsW_at h3 h1]
    split <;> exact h4

end Go.Proofs.Ytcfjanignfbidaa

namespace Go.Proofs.Ytcfjanignfbidaa
open Go.RowKit Go.Maps
set_option linter.unusedVariables false
set_option linter.unusedSimpArgs false

def hdL (q : Bool) (l : Lo) : Lo := ⟨l.id, l.pa, l.ws, q, l.dn⟩
def hdR (q : Bool) (r : Lr) : Lr := ⟨r.id, r.pa, r.wa, r.wn, r.wc, q, r.da, r.dn, r.dc⟩
def hlL (ls : List Lo) (i : Nat) (q : Bool) : List Lo := ls.mapIdx fun j l => if j = i then hdL q l else l
def hlR (rs : List Lr) (i : Nat) (q : Bool) : List Lr := rs.mapIdx fun j r => if j = i then hdR q r else r
def hlB (b : Bk) (i : Nat) (q : Bool) : Bk := ⟨b.st, b.wn, hlL b.ls i q, b.sc⟩
theorem hlL_len (ls : List Lo) (i : Nat) (q : Bool) : (hlL ls i q).length = ls.length := by simp [hlL]
theorem hlR_len (rs : List Lr) (i : Nat) (q : Bool) : (hlR rs i q).length = rs.length := by simp [hlR]
theorem hlL_at {ls : List Lo} {i j : Nat} {q : Bool} (h : j < ls.length) (h' : j < (hlL ls i q).length) : (hlL ls i q)[j] = if j = i then hdL q ls[j] else ls[j] := by simp [hlL]
theorem hlR_at {rs : List Lr} {i j : Nat} {q : Bool} (h : j < rs.length) (h' : j < (hlR rs i q).length) : (hlR rs i q)[j] = if j = i then hdR q rs[j] else rs[j] := by simp [hlR]
theorem hlB_at {b : Bk} {i j : Nat} {q : Bool} (h : j < b.ls.length) (h' : j < (hlB b i q).ls.length) : (hlB b i q).ls[j] = if j = i then hdL q b.ls[j] else b.ls[j] := hlL_at h h'
theorem hlL_id (ls : List Lo) (i : Nat) (q : Bool) (j : Nat) : idA (hlL ls i q) j = idA ls j := by
  rcases Nat.lt_or_ge j ls.length with h | h
  · rw [idA_at h, idA_at (by rw [hlL_len]; exact h), hlL_at h (by rw [hlL_len]; exact h)]
    split <;> rfl
  · have h' : (hlL ls i q).length ≤ j := by rw [hlL_len]; exact h
    simp [idA, List.getD, h, h']
theorem hlL_wv (f : Lit → Option Sv) (ls : List Lo) (i : Nat) (q : Bool) : wvM f (hlL ls i q) = wvM f ls := by
  funext j
  unfold wvM
  rw [hlL_len, hlL_id]
theorem hlR_dv (rs : List Lr) (i : Nat) (q : Bool) : dvO (hlR rs i q) = dvO rs := by
  funext j
  rcases Nat.lt_or_ge j rs.length with h | h
  · rw [dvO_lt h, dvO_lt (by rw [hlR_len]; exact h), hlR_at h (by rw [hlR_len]; exact h)]
    split <;> rfl
  · rw [dvO_ge h, dvO_ge (by rw [hlR_len]; exact h)]
theorem hlR_set {rs : List Lr} {i : Nat} (h : i < rs.length) (q : Bool) : rs.set i (hdR q rs[i]) = hlR rs i q := by
  apply List.ext_getElem (by simp [hlR])
  intro j h1 h2
  have h3 : j < rs.length := by rw [hlR_len] at h2; exact h2
  rw [List.getElem_set, hlR_at h3 h2]
  by_cases e : i = j
  · subst e; simp
  · rw [if_neg e, if_neg (fun e2 => e e2.symm)]
theorem hlR_wv (rs : List Lr) (i : Nat) (q : Bool) : wvO (hlR rs i q) = wvO rs := by
  funext j
  rcases Nat.lt_or_ge j rs.length with h | h
  · rw [wvO_lt h, wvO_lt (by rw [hlR_len]; exact h), hlR_at h (by rw [hlR_len]; exact h)]
    split <;> rfl
  · rw [wvO_ge h, wvO_ge (by rw [hlR_len]; exact h)]
/-- A book, one of its lots held or not. -/
theorem PB.hold {V : World} {B G n c i : Nat} {vw vs : Value} {wv : Nat → Value} {b : Bk} {rs : List Lr} (hp : PB V B vw (.slice (some ⟨G, 0, none⟩) n c) vs wv b rs) (hi : i < b.ls.length) (q : Bool) :
    PB (V.setCell ⟨G, i * 5 + 3, none⟩ (.bool q)) B vw (.slice (some ⟨G, 0, none⟩) n c) vs wv (hlB b i q) (hlR rs i q) := by
  have hir : i < rs.length := by rw [hp.len]; exact hi
  have hk : ∀ k, k ≠ G → (V.setCell ⟨G, i * 5 + 3, none⟩ (.bool q)).heap[k]? = V.heap[k]? := fun k hk => heap_setCell_other _ _ _ _ (by simpa using hk)
  have hnot := hp.rowNot (q := G) rfl
  have hs : ∀ a k, (slv vs wv (dvO rs) a).ownBlock = some k → (V.setCell ⟨G, i * 5 + 3, none⟩ (.bool q)).heap[k]? = V.heap[k]? := fun a k hk2 => hk k (fun e => hnot.2 a (by rw [← e]; exact hk2))
  refine ⟨ownsRow_keep hp.wn fun k hk2 => hk k (fun e => hnot.1 (by rw [← e]; exact hk2)), ?_, by show (hlR rs i q).length = (hlL b.ls i q).length; rw [hlR_len, hlL_len]; exact hp.len, fun j h1 h2 => ?_, fun j hj => ?_, fun j h1 h2 => ?_, hp.sc.kept fun k hk2 => hs .s k hk2, fun j hj => hp.nl j (by have h9 : (hlL b.ls i q).length ≤ j := hj; rw [hlL_len] at h9; exact h9), by rw [hlR_dv]; exact hp.ap⟩
  · have := og_set lrC_len hp.row (j := i) (i := 3) hir (by decide) (hdR q rs[i]) (.bool q) rfl
    rw [hlR_set hir] at this
    exact this
  · have h3 : j < rs.length := by rw [hlR_len] at h1; exact h1
    have h4 : j < b.ls.length := by rw [← hp.len]; exact h3
    have := hp.nm j h3 h4
    rw [hlR_at h3 h1, hlB_at h4 h2]
    split
    · exact ⟨this.1, this.2.1, rfl⟩
    · exact this
  · have h4 : j < b.ls.length := by have h9 : j < (hlL b.ls i q).length := hj; rw [hlL_len] at h9; exact h9
    rw [hlB_at h4 hj]
    have := (hp.ws j h4).kept fun k hk2 => hs (.w j) k hk2
    split <;> exact this
  · have h3 : j < rs.length := by rw [hlR_len] at h1; exact h1
    have h4 : j < b.ls.length := by rw [← hp.len]; exact h3
    rw [hlR_at h3 h1, hlB_at h4 h2]
    have := (hp.dn j h3 h4).kept fun k hk2 => hs (.d j) k (by show (dvO rs j).ownBlock = _; rw [dvO_lt h3]; exact hk2)
    split <;> exact this
theorem OB.hold {V : World} {B K bp bm G n c i : Nat} {vw vs : Value} {f : Lit → Option Sv} {b : Bk} {rs : List Lr} (h : OB V B K bp bm vw (.slice (some ⟨G, 0, none⟩) n c) vs f b rs) (hi : i < b.ls.length) (q : Bool) :
    OB (V.setCell ⟨G, i * 5 + 3, none⟩ (.bool q)) B K bp bm vw (.slice (some ⟨G, 0, none⟩) n c) vs f (hlB b i q) (hlR rs i q) := by
  have hir : i < rs.length := by rw [h.pb.len]; exact hi
  have hk : ∀ k, k ≠ G → (V.setCell ⟨G, i * 5 + 3, none⟩ (.bool q)).heap[k]? = V.heap[k]? := fun k hk => heap_setCell_other _ _ _ _ (by simpa using hk)
  have hn := h.nk (q := G) (Or.inr (Or.inl rfl))
  have hp := h.pb
  have hnot := hp.rowNot (q := G) rfl
  have hs : ∀ a k, (slv vs (wvM f b.ls) (dvO rs) a).ownBlock = some k → (V.setCell ⟨G, i * 5 + 3, none⟩ (.bool q)).heap[k]? = V.heap[k]? := fun a k hk2 => hk k (fun e => hnot.2 a (by rw [← e]; exact hk2))
  obtain ⟨m, hm, ht⟩ := h.tm
  refine ⟨(hk K hn.1.symm).trans h.bx, ⟨h.lo.1, h.lo.2.1, h.lo.2.2.1, by simp; exact h.lo.2.2.2⟩, h.pm, ?_, fun j hj => ?_, ?_, ⟨m, hm, ht.block (hk bm hn.2.2.symm)⟩, fun j hj => ?_, fun a b' ha hb hab => ?_, by show (hlL b.ls i q).length ≤ 31; rw [hlL_len]; exact h.ln⟩
  · have := hp.hold hi q
    rw [← hlL_wv f b.ls i q] at this
    exact this
  · have h3 : j < rs.length := by rw [hlR_len] at hj; exact hj
    have := h.w0 j h3
    rw [hlR_at h3 hj]
    split <;> exact this
  · show IM _ _ bp (hlL b.ls i q).length (plF (hlL b.ls i q) (hlL b.ls i q).length)
    rw [hlL_len, show plF (hlL b.ls i q) b.ls.length = plF b.ls b.ls.length from funext (plF_congr fun j _ => hlL_id _ _ _ _)]
    exact h.ip.block (hk bp hn.2.1.symm)
  · have h4 : j < b.ls.length := by have h9 : j < (hlL b.ls i q).length := hj; rw [hlL_len] at h9; exact h9
    rw [hlB_at h4 hj]
    have := h.id j h4
    split <;> exact this
  · have h3 : a < b.ls.length := by have h9 : a < (hlL b.ls i q).length := ha; rw [hlL_len] at h9; exact h9
    have h4 : b' < b.ls.length := by have h9 : b' < (hlL b.ls i q).length := hb; rw [hlL_len] at h9; exact h9
    rw [hlB_at h3 ha, hlB_at h4 hb]
    have := h.ne a b' h3 h4 hab
    split <;> split <;> exact this

end Go.Proofs.Ytcfjanignfbidaa
