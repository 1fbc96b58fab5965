/- Proved here: a map that a call has made, whose elements are slices told as they are: looking up, writing, deleting, ranging; and such a map whose slices are lists of the call's own, apart from one another. -/
import Derived.Test.YtcfjanignfbidaaIntsBase
import Derived.Maps.Own
import Derived.Maps.Views
import Derived.Maps.OwnSet
import Derived.Maps.RangeWalk
namespace Go.Proofs.Ytcfjanignfbidaa
open Go.RowKit Go.Maps
set_option linter.unusedVariables false
set_option linter.unusedSimpArgs false

/-- A slice, by its three parts. -/
abbrev Sv := Option Addr × Nat × Nat
abbrev Sv.v (s : Sv) : Value := .slice s.1 s.2.1 s.2.2
def svN : Sv := (none, 0, 0)
def slE (v : Value) : Option (DataW Sv × List MemPlace) :=
  match v with
  | .slice a n c => some (.held (a, n, c), [])
  | _ => none
theorem slE_inv {v : Value} {y : DataW Sv × List MemPlace} (h : slE v = some y) : ∃ s : Sv, v = s.v ∧ y = (.held s, []) := by
  unfold slE at h
  split at h
  · cases h; exact ⟨(_, _, _), rfl, rfl⟩
  · cases h
theorem slE_mk (s : Sv) : slE s.v = some (.held s, []) := rfl
/-- D holds, key by key, what f says. -/
structure Tol (D : DataW Sv) (f : Lit → Option Sv) : Prop where
  hs : ∀ kl, Maps.has D kl = (f kl).isSome
  el : ∀ kl s, f kl = some s → ∀ z, D.atKey kl z = .held s
def updF (f : Lit → Option Sv) (kl : Lit) (s : Option Sv) : Lit → Option Sv := fun q => if q.sameKey kl then s else f q
theorem updF_same (f : Lit → Option Sv) {kl : Lit} (hk : WideAt.IsKeyLit kl) (s : Option Sv) : updF f kl s kl = s := by unfold updF; rw [if_pos (WideAt.sameKey_self hk)]
theorem updF_other {f : Lit → Option Sv} {kl q : Lit} {s : Option Sv} (h : q ≠ kl) : updF f kl s q = f q := by unfold updF; rw [if_neg (by rw [sameKey_ne h]; exact Bool.false_ne_true)]
theorem Tol.none {D : DataW Sv} {f : Lit → Option Sv} (h : Tol D f) {kl : Lit} (hf : f kl = none) (z : DataW Sv) : D.atKey kl z = z := atKey_of_not_has (by rw [h.hs, hf]; rfl) z
theorem Tol.put {D : DataW Sv} {f : Lit → Option Sv} (h : Tol D f) (hm : IsMap D) {kl : Lit} (hk : WideAt.IsKeyLit kl) (s : Sv) : Tol (D.put kl (.held s)) (updF f kl (some s)) := by
  refine ⟨fun q => ?_, fun q u hu z => ?_⟩
  · by_cases e : q = kl
    · subst e; rw [has_put_same hm hk, updF_same _ hk]; rfl
    · rw [has_put_other e, updF_other e]; exact h.hs q
  · by_cases e : q = kl
    · subst e; rw [updF_same _ hk] at hu; cases hu; exact atKey_put_same hm hk _ _
    · rw [updF_other e] at hu; rw [atKey_put_other e]; exact h.el q u hu z
theorem Tol.del {D : DataW Sv} {f : Lit → Option Sv} (h : Tol D f) {kl : Lit} (hk : WideAt.IsKeyLit kl) : Tol (D.del kl) (updF f kl Option.none) := by
  refine ⟨fun q => ?_, fun q u hu z => ?_⟩
  · by_cases e : q = kl
    · subst e; rw [has_del_same, updF_same _ hk]; rfl
    · rw [has_del_other e, updF_other e]; exact h.hs q
  · by_cases e : q = kl
    · subst e; rw [updF_same _ hk] at hu; cases hu
    · rw [updF_other e] at hu; rw [atKey_del_other e]; exact h.el q u hu z
theorem Tol.made : Tol (.map []) (fun _ => Option.none) := ⟨fun _ => rfl, fun _ _ h => by cases h⟩
/-- Block b is a map of at most n entries that holds what f says. -/
structure TM (w : World) (k : TypeId) (b n : Nat) (f : Lit → Option Sv) : Prop where
  own : ∃ D : DataW Sv, w.ownsMap Try.prog k slE b n D ∧ Tol D f
theorem TM.lt {w : World} {k : TypeId} {b n : Nat} {f : Lit → Option Sv} (h : TM w k b n f) : b < w.heap.size := by obtain ⟨D, h1, _⟩ := h.own; exact h1.lt
theorem TM.block {w w' : World} {k : TypeId} {b n : Nat} {f : Lit → Option Sv} (h : TM w k b n f) (hb : w'.heap[b]? = w.heap[b]?) : TM w' k b n f := by
  obtain ⟨D, ⟨es, cl, h1, h2⟩, h3⟩ := h.own
  exact ⟨D, ⟨es, cl, hb.trans h1, h2⟩, h3⟩
theorem TM.below {w w' : World} {k : TypeId} {b n : Nat} {f : Lit → Option Sv} (h : TM w k b n f) (hb : Below w.heap.size w w') : TM w' k b n f := h.block (hb.block b h.lt)
theorem TM.mono {w : World} {k : TypeId} {b n n' : Nat} {f : Lit → Option Sv} (h : TM w k b n f) (hn : n ≤ n') : TM w k b n' f := by
  obtain ⟨D, h1, h2⟩ := h.own; exact ⟨D, h1.mono hn, h2⟩
theorem TM.made (w : World) (k : TypeId) : TM (w.alloc (.map #[] 0)) k w.heap.size 0 (fun _ => none) := ⟨.map [], World.ownsMap_made _ _ _ _, Tol.made⟩
set_option maxRecDepth 10000 in
theorem TM.look {w : World} {k t E : TypeId} {b n : Nat} {f : Lit → Option Sv} (h : TM w k b n f) (K : Keyed Try.prog k) (ht : Try.prog.underlying t = some (.map k E)) (hz : (zeroValue E).run Try.prog w = .ok (.slice none 0 0) w)
    {key : Value} {kl : Lit} (hkey : keyOf Try.prog k key = some kl) : (Instr.lookup t (.map (some b)) key false).run Try.prog w = .ok ((f kl).getD svN).v w := by
  obtain ⟨D, h1, h2⟩ := h.own
  obtain ⟨v, ps, hrun, hR⟩ := h1.lookup K ht hz (slE_mk svN) hkey
  obtain ⟨s, rfl, hs⟩ := slE_inv hR
  rw [hrun]
  injection hs with hs _
  cases hf : f kl with
  | none => rw [h2.none hf] at hs; injection hs with hs; rw [← hs]; rfl
  | some u => rw [h2.el kl u hf] at hs; injection hs with hs; rw [← hs]; rfl

section
variable {w : World} {ops : Array Oper} {rest : List Oper} {o : Oper} {a : Act} {Q : Exit → Act → World → Prop}

set_option maxRecDepth 10000 in
/-- 'm[k]' at the operation. -/
theorem wpList_look_tm (hg : o.guard = none) (m x : Operand) (t : TypeId) (hop : o.op = Op.lookup t m x false)
    (k E : TypeId) (K : Keyed Try.prog k) (ht : Try.prog.underlying t = some (.map k E)) (hz : (zeroValue E).run Try.prog w = .ok (.slice none 0 0) w) (b n : Nat) (f : Lit → Option Sv)
    (hm : a.eval m = .map (some b)) (hT : TM w k b n f) (key : Value) (kl : Lit) (hx : a.eval x = key) (hkey : keyOf Try.prog k key = some kl)
    (hK : ∀ a0 n0 c0, (f kl).getD svN = (a0, n0, c0) → wpList Try.prog ops Q rest (a.put o.dst (.slice a0 n0 c0)) w) :
    wpList Try.prog ops Q (o :: rest) a w := by
  refine wpList_plain hg fun K' hK' => ?_
  have hrun := hT.look K ht hz hkey
  obtain ⟨a0, n0, c0, hs⟩ : ∃ a0 n0 c0, (f kl).getD svN = (a0, n0, c0) := ⟨_, _, _, rfl⟩
  rw [hs] at hrun
  unfold Oper.wp
  simp [execOp, hop, hm, hx, hrun, Result.andThen]
  exact hK' _ _ (hK a0 n0 c0 hs)
/-- 'm[k] = s' at the operation. -/
theorem wpList_put_tm (hg : o.guard = none) (m x v : Operand) (t : TypeId) (hop : o.op = Op.mapUpdate t m x v)
    (k E : TypeId) (K : Keyed Try.prog k) (ht : Try.prog.underlying t = some (.map k E)) (b n : Nat) (f : Lit → Option Sv)
    (hm : a.eval m = .map (some b)) (hT : TM w k b n f) (hn : n < maxLen) (key : Value) (s : Sv) (kl : Lit) (hx : a.eval x = key) (hv : a.eval v = s.v) (hkey : keyOf Try.prog k key = some kl)
    (hK : ∀ w', TM w' k b (n + 1) (updF f kl (some s)) → w.grownBy w' (some b) → wpList Try.prog ops Q rest (a.put o.dst undef) w') :
    wpList Try.prog ops Q (o :: rest) a w := by
  obtain ⟨D, h1, h2⟩ := hT.own
  exact wpList_mapUpdate_own _ hg m x v t hop k E K ht slE b n D hm h1 hn key s.v kl hx hv hkey (.held s) [] (slE_mk s) (fun w' ho hgr => hK w' ⟨_, ho, h2.put h1.isMap (K.key hkey) s⟩ hgr)
/-- 'delete(m, k)' at the operation. -/
theorem wpList_del_tm (hg : o.guard = none) (m x : Operand) (t k : TypeId) (hop : o.op = Op.call { callee := Callee.builtin Builtin.delete, args := #[m, x], argTypes := #[t, k] })
    (E : TypeId) (K : Keyed Try.prog k) (ht : Try.prog.underlying t = some (.map k E)) (b n : Nat) (f : Lit → Option Sv)
    (hm : a.eval m = .map (some b)) (hT : TM w k b n f) (key : Value) (kl : Lit) (hx : a.eval x = key) (hkey : keyOf Try.prog k key = some kl)
    (hK : ∀ w', TM w' k b n (updF f kl none) → w.grownBy w' (some b) → w'.heap.size = w.heap.size → wpList Try.prog ops Q rest (a.put o.dst (.tuple #[])) w') :
    wpList Try.prog ops Q (o :: rest) a w := by
  obtain ⟨D, h1, h2⟩ := hT.own
  refine wpList_plain hg fun K' hK' => ?_
  obtain ⟨w', hrun, r1, r3⟩ := h1.drop K ht hkey o.type
  unfold Oper.wp
  simp [execOp, hop, resolve, invoke, builtin, hm, hx, hrun, Result.andThen]
  refine hK' _ _ (hK w' ⟨_, r1, h2.del (K.key hkey)⟩ r3.grown ?_)
  obtain ⟨es, cl, es', cl', _, rfl⟩ := r3
  simp [ChangeMaps.setBlock]
end

/-- A range over such a map is under way: 'left' tells of each key whether it is still to come. -/
structure TR (w : World) (k : TypeId) (b r n : Nat) (f : Lit → Option Sv) (left : Lit → Bool) (cnt : Nat) : Prop where
  own : ∃ D : DataW Sv, w.ranges Try.prog k slE b r n D left cnt ∧ Tol D f
theorem TR.tm {w : World} {k : TypeId} {b r n cnt : Nat} {f : Lit → Option Sv} {left : Lit → Bool} (h : TR w k b r n f left cnt) : TM w k b n f := by
  obtain ⟨D, h1, h2⟩ := h.own; exact ⟨D, h1.owns, h2⟩
theorem TR.left_eq {w : World} {k : TypeId} {b r n cnt : Nat} {f : Lit → Option Sv} {left : Lit → Bool} (h : TR w k b r n f left cnt) : w.rangeLeft b r = cnt := by
  obtain ⟨D, h1, h2⟩ := h.own; exact h1.left_eq
theorem TR.lt {w : World} {k : TypeId} {b r n cnt : Nat} {f : Lit → Option Sv} {left : Lit → Bool} (h : TR w k b r n f left cnt) : r < w.heap.size := by
  obtain ⟨D, h1, h2⟩ := h.own; exact h1.lt
theorem TR.kept {w w' : World} {k : TypeId} {b r n cnt : Nat} {f : Lit → Option Sv} {left : Lit → Bool} {row : Option Nat} (h : TR w k b r n f left cnt) (hg : w.grownBy w' row) (hb : some b ≠ row) (hr : some r ≠ row) : TR w' k b r n f left cnt := by
  obtain ⟨D, h1, h2⟩ := h.own; exact ⟨D, h1.kept hg hb hr, h2⟩
theorem grown_none {w w' : World} (hb : Below w.heap.size w w') : w.grownBy w' none := ⟨hb.os, hb.tape, hb.output, hb.size, fun k hk _ => hb.block k hk⟩
theorem TR.below {w w' : World} {k : TypeId} {b r n cnt : Nat} {f : Lit → Option Sv} {left : Lit → Bool} (h : TR w k b r n f left cnt) (hb : Below w.heap.size w w') : TR w' k b r n f left cnt := h.kept (grown_none hb) (by simp) (by simp)

section
variable {w : World} {ops : Array Oper} {rest : List Oper} {o : Oper} {a : Act} {Q : Exit → Act → World → Prop}
/-- 'range m' at the operation. -/
theorem wpList_range_tm (hg : o.guard = none) (m : Operand) (t : TypeId) (hop : o.op = Op.range t m) (k E : TypeId) (K : Keyed Try.prog k) (ht : Try.prog.underlying t = some (.map k E)) (b n : Nat) (f : Lit → Option Sv)
    (hm : a.eval m = .map (some b)) (hT : TM w k b n f)
    (hK : ∀ w' cnt, TR w' k b w.heap.size n f (fun kl => (f kl).isSome) cnt → w.grownBy w' none → w'.heap.size = w.heap.size + 1 → wpList Try.prog ops Q rest (a.put o.dst (.pointer (some ⟨w.heap.size, 0, none⟩))) w') :
    wpList Try.prog ops Q (o :: rest) a w := by
  obtain ⟨D, h1, h2⟩ := hT.own
  refine wpList_range_own _ hg m t hop k E K ht slE b n D hm h1 (fun w' hr hgr hs => hK w' (Maps.size D) ⟨D, ?_, h2⟩ hgr hs)
  have e : Maps.has D = fun kl => (f kl).isSome := funext h2.hs
  rw [e] at hr
  exact hr
set_option maxRecDepth 10000 in
/-- One step of the range. -/
theorem wpList_next_tm {α : Type} (hg : o.guard = none) (it : Operand) (hop : o.op = Op.next it false) (k : TypeId) (K : Keyed Try.prog k) (mkK : α → Value)
    (invK : ∀ key kl, keyOf Try.prog k key = some kl → ∃ x, key = mkK x) (b r n : Nat) (f : Lit → Option Sv) (left : Lit → Bool) (cnt : Nat)
    (hit : a.eval it = .pointer (some ⟨r, 0, none⟩)) (h : TR w k b r n f left cnt)
    (hDone : cnt = 0 → (∀ kl, left kl = false) → wpList Try.prog ops Q rest (a.put o.dst (.tuple #[.bool false])) w)
    (hMore : ∀ (x : α) (a0 : Option Addr) (n0 c0 : Nat) (kl : Lit) (w' : World) (cnt' : Nat), keyOf Try.prog k (mkK x) = some kl → left kl = true → f kl = some (a0, n0, c0) → TR w' k b r n f (fun z => left z && !z.sameKey kl) cnt' → cnt' < cnt →
      w.grownBy w' (some r) → w'.heap.size = w.heap.size → (Instr.entry (.pointer (some ⟨r, 0, none⟩))).run Try.prog w' = .ok (.tuple #[mkK x, .slice a0 n0 c0]) w' → wpList Try.prog ops Q rest (a.put o.dst (.tuple #[.bool true, mkK x, .slice a0 n0 c0])) w') :
    wpList Try.prog ops Q (o :: rest) a w := by
  obtain ⟨D, h1, h2⟩ := h.own
  refine wpList_next_ranges (α := α) (β := Sv) _ hg it hop k K slE mkK (fun s => s.v) invK (fun v y hv => by obtain ⟨s, e, _⟩ := slE_inv hv; exact ⟨s, e⟩) b r n D left cnt hit h1 hDone ?_
  intro x c kl y w' cnt' hkey hlk hv hat hrg hlt hgr hsz hen
  obtain ⟨a0, n0, c0⟩ := c
  have hy : y = (.held (a0, n0, c0), []) := by
    have := slE_mk (a0, n0, c0)
    rw [hv] at this
    exact Option.some.inj this
  subst hy
  have hf : f kl = some (a0, n0, c0) := by
    cases hf : f kl with
    | none =>
      exfalso
      have h9 := hat (.nil)
      rw [h2.none hf] at h9
      cases h9
    | some u =>
      have h9 := hat (.nil)
      rw [h2.el kl u hf] at h9
      injection h9 with h9
      rw [h9]
  exact hMore x a0 n0 c0 kl w' cnt' hkey hlk hf ⟨D, hrg, h2⟩ hlt hgr hsz hen
end

section
variable {α : Type}
/-- A map of lists: block b holds the slices f, from block lo on each a list of the call's own, apart from one another. -/
structure GM (T sz : Nat) (enc : α → List Value) (w : World) (k : TypeId) (b lo n : Nat) (f : Lit → Option Sv) (L : Lit → List α) : Prop where
  tm : TM w k b n f
  own : ∀ kl s, f kl = some s → OG T sz enc w lo s.v (L kl)
  no : ∀ kl, f kl = none → L kl = []
  ap : ∀ k1 k2 s1 s2, k1 ≠ k2 → f k1 = some s1 → f k2 = some s2 → s1.v.ownBlock = none ∨ s1.v.ownBlock ≠ s2.v.ownBlock
  lt : b < lo
variable {T sz : Nat} {enc : α → List Value} {w : World} {k : TypeId} {b lo n : Nat} {f : Lit → Option Sv} {L : Lit → List α}
theorem GM.made (T sz : Nat) (enc : α → List Value) (w : World) (k : TypeId) : GM T sz enc (w.alloc (.map #[] 0)) k w.heap.size (w.heap.size + 1) 0 (fun _ => none) (fun _ => []) :=
  ⟨TM.made w k, fun _ _ h => (by cases h), fun _ _ => rfl, fun _ _ _ _ _ h => (by cases h), Nat.lt_succ_self _⟩
theorem GM.below {w' : World} (h : GM T sz enc w k b lo n f L) (hb : Below w.heap.size w w') : GM T sz enc w' k b lo n f L :=
  ⟨h.tm.below hb, fun kl s hs => (h.own kl s hs).below hb, h.no, h.ap, h.lt⟩
theorem OG_nil (T sz : Nat) (enc : α → List Value) (w : World) (lo : Nat) : OG T sz enc w lo (.slice none 0 0) [] := World.ownsRow_nil _ _ _ _
/-- What is looked up. -/
theorem GM.at (h : GM T sz enc w k b lo n f L) (kl : Lit) {s : Sv} (hs : (f kl).getD svN = s) : OG T sz enc w lo s.v (L kl) := by
  subst hs
  cases hf : f kl with
  | none => rw [h.no kl hf]; exact OG_nil _ _ _ _ _
  | some u => exact h.own kl u hf
theorem og_keep {w' : World} {row : Option Nat} {v : Value} {s : List α} (h : OG T sz enc w lo v s) (hg : w.grownBy w' row) (hne : v.ownBlock = none ∨ v.ownBlock ≠ row) : OG T sz enc w' lo v s := World.ownsRow.kept h hg hne
/-- The map as it was, while one of its lists grows. -/
theorem GM.tmAt {w1 : World} (h : GM T sz enc w k b lo n f L) (kl : Lit) (hgr : w.grownBy w1 (((f kl).getD svN).v).ownBlock) : TM w1 k b n f := by
  refine h.tm.block (hgr.block b h.tm.lt (fun e => ?_))
  have := OG.lt (h.at kl rfl) b e.symm
  have := h.lt
  omega
/-- One list has grown, and is laid at its key. -/
theorem GM.push {w1 w2 : World} {n' : Nat} (h : GM T sz enc w k b lo n f L) {kl : Lit} (hk : WideAt.IsKeyLit kl) {s : Sv} {l : List α} (hgr : w.grownBy w1 (((f kl).getD svN).v).ownBlock) (ho : OG T sz enc w1 lo s.v l)
    (hloc : s.v.ownBlock = (((f kl).getD svN).v).ownBlock ∨ ∃ g, s.v.ownBlock = some g ∧ w.heap.size ≤ g) (hT : TM w2 k b n' (updF f kl (some s))) (hg2 : w1.grownBy w2 (some b)) :
    GM T sz enc w2 k b lo n' (updF f kl (some s)) (fun q => if q.sameKey kl then l else L q) := by
  have nb : ∀ {w9 : World} {v : Value} {x : List α}, OG T sz enc w9 lo v x → v.ownBlock = none ∨ v.ownBlock ≠ some b := fun {w9 v x} ho9 => by
    cases hv : v.ownBlock with
    | none => exact Or.inl rfl
    | some g =>
      refine Or.inr (fun e => ?_)
      cases e
      have := (OG.lt ho9 b hv).1
      have := h.lt
      omega
  have apart : ∀ q u, q ≠ kl → f q = some u → u.v.ownBlock = none ∨ u.v.ownBlock ≠ (((f kl).getD svN).v).ownBlock := by
    intro q u hq hu
    cases hf : f kl with
    | none => cases u.v.ownBlock <;> simp [svN, Value.ownBlock]
    | some u2 => exact h.ap q kl u u2 hq hu hf
  have newApart : ∀ q u, q ≠ kl → f q = some u → u.v.ownBlock = none ∨ u.v.ownBlock ≠ s.v.ownBlock := by
    intro q u hq hu
    rcases hloc with h1 | ⟨g, h1, h2⟩
    · rw [h1]; exact apart q u hq hu
    · cases hx : u.v.ownBlock with
      | none => exact Or.inl rfl
      | some gx =>
        refine Or.inr (fun e => ?_)
        rw [h1] at e; cases e
        have := (OG.lt (h.own q u hu) g hx).2
        omega
  refine ⟨hT, fun q u hu => ?_, fun q hq => ?_, fun k1 k2 s1 s2 hne h1 h2 => ?_, h.lt⟩
  · by_cases e : q = kl
    · subst e
      rw [updF_same _ hk] at hu; cases hu
      rw [if_pos (WideAt.sameKey_self hk)]
      exact og_keep ho hg2 (nb ho)
    · rw [updF_other e] at hu
      rw [if_neg (by rw [sameKey_ne e]; exact Bool.false_ne_true)]
      have h9 := og_keep (h.own q u hu) hgr (apart q u e hu)
      exact og_keep h9 hg2 (nb h9)
  · by_cases e : q = kl
    · subst e; rw [updF_same _ hk] at hq; cases hq
    · rw [updF_other e] at hq; rw [if_neg (by rw [sameKey_ne e]; exact Bool.false_ne_true)]; exact h.no q hq
  · by_cases e1 : k1 = kl
    · subst e1
      have e2 : k2 ≠ k1 := fun e => hne e.symm
      rw [updF_same _ hk] at h1; cases h1
      rw [updF_other e2] at h2
      rcases newApart k2 s2 e2 h2 with h3 | h3
      · rw [h3]
        cases s.v.ownBlock <;> simp
      · exact Or.inr (fun e => h3 e.symm)
    · rw [updF_other e1] at h1
      by_cases e2 : k2 = kl
      · subst e2
        rw [updF_same _ hk] at h2; cases h2
        exact newApart k1 s1 e1 h1
      · rw [updF_other e2] at h2
        exact h.ap k1 k2 s1 s2 hne h1 h2
end

theorem ik_wf (x : Int) (h0 : -9223372036854775808 ≤ x) (h1 : x ≤ 9223372036854775807) : (Lit.int .i64 x).wf = true := WalkArith.wf_i64 (by omega)

end Go.Proofs.Ytcfjanignfbidaa
