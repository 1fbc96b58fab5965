/- Proved here: an open book: a book whose lots' wafers stand in a map by id, and whose lots' places stand in another. No condition on the program but on its table of types. -/
import Derived.Test.YtcfjanignfbidaaQbL
import Derived.Test.YtcfjanignfbidaaQlU
import Derived.Test.YtcfjanignfbidaaRwG
import Derived.Maps.AppendAt
namespace Go.Proofs.Ytcfjanignfbidaa
open Go.RowKit Go.Maps
set_option linter.unusedVariables false
set_option linter.unusedSimpArgs false

/-- Where the map has the wafers of lot j. -/
def wvM (f : Lit → Option Sv) (ls : List Lo) (j : Nat) : Value := if j < ls.length then ((f (ikI (idA ls j))).getD svN).v else nilV
structure OB (V : World) (B K bp bm : Nat) (vw vl vs : Value) (f : Lit → Option Sv) (b : Bk) (rs : List Lr) : Prop where
  bx : V.heap[K]? = some (.cells #[.int .i64 b.st, vw, vl, vs, .map (some bp), .map (some bm)] 71)
  lo : B ≤ K ∧ B ≤ bp ∧ B ≤ bm ∧ B ≤ V.heap.size
  pm : bp ≠ bm
  pb : PB V B vw vl vs (wvM f b.ls) b rs
  w0 : ∀ j (h : j < rs.length), rs[j].wa = none ∧ rs[j].wn = 0 ∧ rs[j].wc = 0
  ip : IM 3 V bp b.ls.length (plF b.ls b.ls.length)
  tm : ∃ n, n ≤ 1000 ∧ TM V 2 bm n f
  id : ∀ j (h : j < b.ls.length), 1 ≤ b.ls[j].id ∧ b.ls[j].id ≤ 1000000
  ne : ∀ i j (hi : i < b.ls.length) (hj : j < b.ls.length), i < j → b.ls[i].id ≠ b.ls[j].id
  ln : b.ls.length ≤ 31
theorem mapNo {w : World} {g : Nat} {cs : Array Value} {T : TypeId} {b n : Nat} {k : TypeId} {R : Value → Option (DataW Unit × List MemPlace)} {D : DataW Unit} (h1 : w.heap[g]? = some (.cells cs T (0, 0))) (h2 : w.ownsMap Try.prog k R b n D) : g ≠ b := by
  rintro rfl
  obtain ⟨es, cl, h3, _⟩ := h2
  rw [h1] at h3; cases h3
theorem mapNoS {w : World} {g : Nat} {cs : Array Value} {T : TypeId} {b n : Nat} {k : TypeId} {f : Lit → Option Sv} (h1 : w.heap[g]? = some (.cells cs T (0, 0))) (h2 : TM w k b n f) : g ≠ b := by
  rintro rfl
  obtain ⟨D, ⟨es, cl, h3, _⟩, _⟩ := h2.own
  rw [h1] at h3; cases h3
section
variable {V V' : World} {B K bp bm : Nat} {vw vl vs : Value} {f : Lit → Option Sv} {b : Bk} {rs : List Lr}
/-- A block of the book's lists is none of the others. -/
theorem PB.obj {wv : Nat → Value} (h : PB V B vw vl vs wv b rs) {q : Nat} (hq : PBk vw vl vs wv rs q) : ∃ cs T, V.heap[q]? = some (.cells cs T (0, 0)) ∧ (T = 99 ∧ vw.ownBlock = some q ∨ T = 61 ∧ vl.ownBlock = some q ∨ T = 2) := by
  rcases hq with hq | hq | ⟨a, hq⟩
  · obtain ⟨_, _, cs, e⟩ := rowBlk h.wn hq; exact ⟨cs, _, e, Or.inl ⟨rfl, hq⟩⟩
  · obtain ⟨_, _, cs, e⟩ := rowBlk h.row hq; exact ⟨cs, _, e, Or.inr (Or.inl ⟨rfl, hq⟩)⟩
  · obtain ⟨l, h1 | h1⟩ := h.slot a
    · obtain ⟨_, _, cs, e⟩ := rowBlk h1 hq; exact ⟨cs, _, e, Or.inr (Or.inr rfl)⟩
    · rw [h1] at hq; cases hq
theorem OB.nk (h : OB V B K bp bm vw vl vs f b rs) {q : Nat} (hq : PBk vw vl vs (wvM f b.ls) rs q) : q ≠ K ∧ q ≠ bp ∧ q ≠ bm := by
  obtain ⟨cs, T, e, hT⟩ := h.pb.obj hq
  obtain ⟨n, _, ht⟩ := h.tm
  obtain ⟨D, hD, _⟩ := h.ip.own
  refine ⟨fun e2 => ?_, mapNo e hD, mapNoS e ht⟩
  subst e2
  have h2 := h.bx
  rw [e] at h2
  simp only [Option.some.injEq, Obj.cells.injEq] at h2
  rcases hT with ⟨hT, _⟩ | ⟨hT, _⟩ | hT <;> (rw [hT] at h2; exact absurd h2.2.1 (by decide))
theorem OB.kb (h : OB V B K bp bm vw vl vs f b rs) : K ≠ bp ∧ K ≠ bm ∧ K < V.heap.size ∧ bp < V.heap.size ∧ bm < V.heap.size := by
  obtain ⟨n, _, ht⟩ := h.tm
  obtain ⟨D, hD, _⟩ := h.ip.own
  exact ⟨mapNo h.bx hD, mapNoS h.bx ht, ltOf h.bx, h.ip.lt, ht.lt⟩
/-- A slot that holds numbers is not where the lots lie. -/
theorem PB.rowNot {wv : Nat → Value} (h : PB V B vw vl vs wv b rs) {q : Nat} (hq : vl.ownBlock = some q) : vw.ownBlock ≠ some q ∧ ∀ a, (slv vs wv (dvO rs) a).ownBlock ≠ some q := by
  obtain ⟨_, _, cs, e⟩ := rowBlk h.row hq
  refine ⟨fun e2 => ?_, fun a e2 => ?_⟩
  · obtain ⟨_, _, ds, e3⟩ := rowBlk h.wn e2
    exact kindsR e e3 (by decide)
  · obtain ⟨l, h1 | h1⟩ := h.slot a
    · obtain ⟨_, _, ds, e3⟩ := rowBlk h1 e2
      exact kindsR e e3 (by decide)
    · rw [h1] at e2; cases e2
theorem PB.winNot {wv : Nat → Value} (h : PB V B vw vl vs wv b rs) {q : Nat} (hq : vw.ownBlock = some q) : ∀ a, (slv vs wv (dvO rs) a).ownBlock ≠ some q := by
  obtain ⟨_, _, cs, e⟩ := rowBlk h.wn hq
  refine fun a e2 => ?_
  obtain ⟨l, h1 | h1⟩ := h.slot a
  · obtain ⟨_, _, ds, e3⟩ := rowBlk h1 e2
    exact kindsR e e3 (by decide)
  · rw [h1] at e2; cases e2
theorem OB.keep (h : OB V B K bp bm vw vl vs f b rs) (hk : ∀ q, (PBk vw vl vs (wvM f b.ls) rs q ∨ q = K ∨ q = bp ∨ q = bm) → V'.heap[q]? = V.heap[q]?) (hs : V.heap.size ≤ V'.heap.size) : OB V' B K bp bm vw vl vs f b rs := by
  obtain ⟨n, hn, ht⟩ := h.tm
  exact ⟨(hk K (Or.inr (Or.inl rfl))).trans h.bx, ⟨h.lo.1, h.lo.2.1, h.lo.2.2.1, Nat.le_trans h.lo.2.2.2 hs⟩, h.pm, h.pb.keep fun q hq => hk q (Or.inl hq), h.w0, h.ip.block (hk bp (Or.inr (Or.inr (Or.inl rfl)))), ⟨n, hn, ht.block (hk bm (Or.inr (Or.inr (Or.inr rfl))))⟩, h.id, h.ne, h.ln⟩
theorem OB.low {A : Nat} (h : OB V B K bp bm vw vl vs f b rs) (hab : A ≤ B) : OB V A K bp bm vw vl vs f b rs :=
  ⟨h.bx, ⟨Nat.le_trans hab h.lo.1, Nat.le_trans hab h.lo.2.1, Nat.le_trans hab h.lo.2.2.1, Nat.le_trans hab h.lo.2.2.2⟩, h.pm, h.pb.low hab, h.w0, h.ip, h.tm, h.id, h.ne, h.ln⟩
theorem OB.below (h : OB V B K bp bm vw vl vs f b rs) (hb : Below V.heap.size V V') : OB V' B K bp bm vw vl vs f b rs := by
  have hk := h.kb
  refine h.keep (fun q hq => hb.block q ?_) hb.size
  rcases hq with hq | rfl | rfl | rfl
  · exact (h.pb.blk hq).2
  · exact hk.2.2.1
  · exact hk.2.2.2.1
  · exact hk.2.2.2.2
theorem idA_push (ls : List Lo) (l : Lo) (j : Nat) : idA (ls ++ [l]) j = if j = ls.length then l.id else idA ls j := by
  unfold idA
  by_cases h : j = ls.length
  · subst h; simp [List.getD]
  · rw [if_neg h]
    rcases Nat.lt_or_ge j ls.length with h1 | h1
    · simp [List.getD, List.getElem?_append_left h1]
    · simp [List.getD, List.getElem?_eq_none h1, List.getElem?_eq_none (show (ls ++ [l]).length ≤ j by rw [List.length_append, List.length_singleton]; omega)]
theorem plF_congr {ls ms : List Lo} : ∀ {n : Nat}, (∀ i, i < n → idA ls i = idA ms i) → ∀ x, plF ls n x = plF ms n x := by
  intro n
  induction n with
  | zero => intro _ x; rfl
  | succ n ih =>
    intro h x
    unfold plF
    rw [h n (by omega), ih (fun i hi => h i (by omega)) x]
theorem plF_push (ls : List Lo) (l : Lo) (x : Int) : plF (ls ++ [l]) (ls ++ [l]).length x = if l.id = x then some (ls.length : Int) else plF ls ls.length x := by
  rw [List.length_append, List.length_singleton]
  show (if idA (ls ++ [l]) ls.length = x then some (ls.length : Int) else plF (ls ++ [l]) ls.length x) = _
  rw [idA_push, if_pos rfl, plF_congr (ms := ls) (fun i hi => by rw [idA_push, if_neg (by omega)]) x]
/-- A lot more. -/
theorem OB.push {V6 : World} {vl' : Value} {n m : Nat} {sW : Sv} {l : Lo} {r : Lr} (h : OB V B K bp bm vw vl vs f b rs)
    (hk : ∀ q, q < V.heap.size → q ≠ bp → q ≠ bm → vl.ownBlock ≠ some q → q ≠ K → V6.heap[q]? = V.heap[q]?) (hsz : V.heap.size ≤ V6.heap.size)
    (hbx : V6.heap[K]? = some (.cells #[.int .i64 b.st, vw, vl', vs, .map (some bp), .map (some bm)] 71))
    (hrow : OG 61 5 lrC V6 B vl' (rs ++ [r])) (hw : IS V6 V.heap.size sW.v l.ws) (hd : IS V6 V.heap.size r.dv l.dn) (hwd : ∀ g, sW.v.ownBlock = some g → r.dv.ownBlock ≠ some g)
    (hnm : r.id = l.id ∧ r.pa = l.pa ∧ r.hd = l.hd) (hr0 : r.wa = none ∧ r.wn = 0 ∧ r.wc = 0)
    (hI : IM 3 V6 bp (b.ls.length + 1) (plF (b.ls ++ [l]) (b.ls ++ [l]).length)) (hm : m ≤ 1000) (hT : TM V6 2 bm m (updF f (ikI l.id) (some sW)))
    (hid : 1 ≤ l.id ∧ l.id ≤ 1000000) (hne : ∀ i (hi : i < b.ls.length), b.ls[i].id ≠ l.id) (hln : b.ls.length ≤ 30) :
    OB V6 B K bp bm vw vl' vs (updF f (ikI l.id) (some sW)) { b with ls := b.ls ++ [l] } (rs ++ [r]) := by
  have hlen := h.pb.len
  have hold : ∀ q, PBk vw vl vs (wvM f b.ls) rs q → vl.ownBlock ≠ some q → V6.heap[q]? = V.heap[q]? := fun q hq hv => by
    have h1 := h.nk hq
    exact hk q (h.pb.blk hq).2 h1.2.1 h1.2.2 hv h1.1
  have hwv : ∀ j, wvM (updF f (ikI l.id) (some sW)) (b.ls ++ [l]) j = if j = b.ls.length then sW.v else wvM f b.ls j := by
    intro j
    unfold wvM
    rw [List.length_append, List.length_singleton, idA_push]
    by_cases e : j = b.ls.length
    · rw [if_pos (by omega), if_pos e, if_pos e, updF_same _ (ikI_lit _)]; rfl
    · rw [if_neg e, if_neg e]
      by_cases e2 : j < b.ls.length
      · rw [if_pos (by omega), if_pos e2, updF_other (ikI_ne (fun e3 => hne j e2 (by rw [← idA_at e2]; exact e3.symm)))]
      · rw [if_neg (by omega), if_neg e2]
  have hslot : ∀ a, slv vs (wvM (updF f (ikI l.id) (some sW)) (b.ls ++ [l])) (dvO (rs ++ [r])) a = slv vs (wvM f b.ls) (dvO rs) a ∨ (a = .w b.ls.length ∧ slv vs (wvM (updF f (ikI l.id) (some sW)) (b.ls ++ [l])) (dvO (rs ++ [r])) a = sW.v) ∨ (a = .d b.ls.length ∧ slv vs (wvM (updF f (ikI l.id) (some sW)) (b.ls ++ [l])) (dvO (rs ++ [r])) a = r.dv) := by
    intro a
    cases a with
    | s => exact Or.inl rfl
    | w j =>
      have e := hwv j
      by_cases hj : j = b.ls.length
      · rw [if_pos hj] at e; exact Or.inr (Or.inl ⟨by rw [hj], e⟩)
      · rw [if_neg hj] at e; exact Or.inl e
    | d j =>
      have e := dvO_push rs r j
      by_cases hj : j = rs.length
      · rw [if_pos hj] at e; exact Or.inr (Or.inr ⟨by rw [hj, hlen], e⟩)
      · rw [if_neg hj] at e; exact Or.inl e
  have ho : ∀ a g, (slv vs (wvM f b.ls) (dvO rs) a).ownBlock = some g → g < V.heap.size := fun a g hg => (h.pb.sblk hg).2
  have keepS : ∀ {v : Value} {x : List Int}, IS V B v x → (∀ q, v.ownBlock = some q → PBk vw vl vs (wvM f b.ls) rs q) → IS V6 B v x := fun hv hp => hv.kept fun q hq => hold q (hp q hq) fun e => by
    obtain ⟨_, _, cs, e1⟩ := rowBlk h.pb.row e
    obtain ⟨_, _, ds, e2⟩ := rowBlk hv hq
    exact kindsR e1 e2 (by decide)
  have sl : ∀ a q, (slv vs (wvM f b.ls) (dvO rs) a).ownBlock = some q → PBk vw vl vs (wvM f b.ls) rs q := fun a q hq => Or.inr (Or.inr ⟨a, hq⟩)
  refine ⟨hbx, ⟨h.lo.1, h.lo.2.1, h.lo.2.2.1, Nat.le_trans h.lo.2.2.2 hsz⟩, h.pm, ⟨?_, hrow, by simp [hlen], fun j h1 h2 => ?_, fun j h2 => ?_, fun j h1 h2 => ?_, keepS h.pb.sc (fun q hq => sl .s q hq), fun j hj => ?_, ?_⟩, fun j hj => ?_, by simpa using hI, ⟨m, hm, hT⟩, fun j hj => ?_, fun i j hi hj hij => ?_, by simp; omega⟩
  · exact ownsRow_keep h.pb.wn fun q hq => hold q (Or.inl hq) fun e => (h.pb.rowNot e).1 hq
  · simp only [List.length_append, List.length_singleton] at h1 h2
    rcases (by omega : j < rs.length ∨ j = rs.length) with e | e
    · simp only [List.getElem_append_left e, List.getElem_append_left (show j < b.ls.length by omega)]
      exact h.pb.nm j e (by omega)
    · have e2 : j = b.ls.length := by omega
      simp only [List.getElem_append_right (show rs.length ≤ j by omega), List.getElem_append_right (show b.ls.length ≤ j by omega), List.getElem_singleton]
      exact hnm
  · simp only [List.length_append, List.length_singleton] at h2
    rw [hwv j]
    rcases (by omega : j < b.ls.length ∨ j = b.ls.length) with e | e
    · rw [if_neg (by omega)]
      simp only [List.getElem_append_left e]
      exact keepS (h.pb.ws j e) (fun q hq => sl (.w j) q hq)
    · rw [if_pos e]
      simp only [List.getElem_append_right (show b.ls.length ≤ j by omega), List.getElem_singleton]
      exact hw.low h.lo.2.2.2
  · simp only [List.length_append, List.length_singleton] at h1 h2
    rcases (by omega : j < rs.length ∨ j = rs.length) with e | e
    · simp only [List.getElem_append_left e, List.getElem_append_left (show j < b.ls.length by omega)]
      exact keepS (h.pb.dn j e (by omega)) (fun q hq => sl (.d j) q (by show (dvO rs j).ownBlock = some q; rw [dvO_lt e]; exact hq))
    · simp only [List.getElem_append_right (show rs.length ≤ j by omega), List.getElem_append_right (show b.ls.length ≤ j by omega), List.getElem_singleton]
      exact hd.low h.lo.2.2.2
  · rw [hwv j, if_neg (by simp only [List.length_append, List.length_singleton] at hj; omega)]
    exact h.pb.nl j (by simp only [List.length_append, List.length_singleton] at hj; omega)
  · refine h.pb.ap.mix (Z := V.heap.size) ho (fun a => ?_) (fun a c hac g hz ha hc => ?_)
    · rcases hslot a with e | ⟨_, e⟩ | ⟨_, e⟩
      · exact Or.inl e
      · exact Or.inr fun g hg => by rw [e] at hg; exact (IS.lt hw g hg).1
      · exact Or.inr fun g hg => by rw [e] at hg; exact (IS.lt hd g hg).1
    · rcases hslot a with e | ⟨ea, e⟩ | ⟨ea, e⟩
      · rw [e] at ha; have := ho a g ha; omega
      · rw [e] at ha
        rcases hslot c with e' | ⟨eb, e'⟩ | ⟨eb, e'⟩
        · rw [e'] at hc; have := ho c g hc; omega
        · exact hac (ea.trans eb.symm)
        · rw [e'] at hc; exact hwd g ha hc
      · rw [e] at ha
        rcases hslot c with e' | ⟨eb, e'⟩ | ⟨eb, e'⟩
        · rw [e'] at hc; have := ho c g hc; omega
        · rw [e'] at hc; exact hwd g hc ha
        · exact hac (ea.trans eb.symm)
  · simp only [List.length_append, List.length_singleton] at hj
    rcases (by omega : j < rs.length ∨ j = rs.length) with e | e
    · simp only [List.getElem_append_left e]; exact h.w0 j e
    · simp only [List.getElem_append_right (show rs.length ≤ j by omega), List.getElem_singleton]; exact hr0
  · simp only [List.length_append, List.length_singleton] at hj
    rcases (by omega : j < b.ls.length ∨ j = b.ls.length) with e | e
    · simp only [List.getElem_append_left e]; exact h.id j e
    · simp only [List.getElem_append_right (show b.ls.length ≤ j by omega), List.getElem_singleton]; exact hid
  · simp only [List.length_append, List.length_singleton] at hi hj
    rcases (by omega : j < b.ls.length ∨ j = b.ls.length) with e | e
    · simp only [List.getElem_append_left e, List.getElem_append_left (show i < b.ls.length by omega)]; exact h.ne i j (by omega) e hij
    · simp only [List.getElem_append_right (show b.ls.length ≤ j by omega), List.getElem_singleton, List.getElem_append_left (show i < b.ls.length by omega)]; exact hne i (by omega)
end

end Go.Proofs.Ytcfjanignfbidaa
