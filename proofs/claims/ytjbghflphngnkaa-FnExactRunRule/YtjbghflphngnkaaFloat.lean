/- Proved here: a general rule for a statement that calls functions one behind the other, each of which makes new memory alone, and lays their last answer into a new variable: the variable may be laid at whatever time among the calls. No condition on the program. -/
import Derived.Test.YtjbghflphngnkaaKept
import Derived.OrdersHeld
import Derived.Deep.RegionHeld3
namespace Go.Proofs.Ytjbghflphngnkaa
open Go.RowKit
set_option linter.unusedVariables false

section
variable {P : Program} {ops : Array Oper} {Q : Exit → Act → World → Prop}

/-- The calls, one behind the other, each in whatever world has grown out of the one before; 'F': the blocks that the calls have made. -/
def Fl (P : Program) (ops : Array Oper) (R : Act → World → (Nat → Prop) → Prop) : List Nat → Act → World → (Nat → Prop) → Prop
  | [], a, w, F => R a w F
  | c :: cs, a, w, F => ∀ W, Below w.heap.size w W → ∃ o d f args, ops[c]? = some o ∧ o.dst = some d ∧ (execOp a.eval o).run P W = .ok (.enter f args) W ∧
      Calls P f args W fun e w' => ∃ v, e = .returned v ∧ Below W.heap.size W w' ∧ Fl P ops R cs (a.put (some d) v) w' (fun k => F k ∨ (W.heap.size ≤ k ∧ k < w'.heap.size))

/-- What is asked behind the calls: the new variable lies in a block k that none of the calls has made, from B on. -/
def After (P : Program) (z : Array Value) (T : TypeId) (s : Tmp) (B : Nat) (os : Oper) (S : World → Prop) (Q : Exit → Act → World → Prop) (a : Act) (w : World) (F : Nat → Prop) : Prop :=
  ∀ k W, Below w.heap.size w W → B ≤ k → k < W.heap.size → ¬ F k → W.heap[k]? = some (.cells z T) → S W →
    os.wp P (a.put (some s) (.pointer (some ⟨k, 0, none⟩))) W (fun a' w' => S w' ∧ Q .normal a' w') Q

def readyDone (ops : Array Oper) (ja js : Nat) : List Nat → Array Bool → Bool
  | [], l => (Region.ready .any ops l == [js]) && (Region.ready .any ops (l.setIfInBounds js true)).isEmpty
  | c :: cs, l => (Region.ready .any ops l == [c]) && readyDone ops ja js cs (l.setIfInBounds c true)
def readyPend (ops : Array Oper) (ja js : Nat) : List Nat → Array Bool → Bool
  | [], l => (Region.ready .any ops l == [ja]) && readyDone ops ja js [] (l.setIfInBounds ja true)
  | c :: cs, l => (Region.ready .any ops l == [c, ja]) && readyPend ops ja js cs (l.setIfInBounds c true) && readyDone ops ja js (c :: cs) (l.setIfInBounds ja true)
/-- None of the calls looks at the new variable's slot or writes it, and none is guarded. -/
def callsApart (ops : Array Oper) (s : Tmp) (cs : List Nat) : Bool :=
  cs.all fun c => match ops[c]? with
    | some o => !(o.looksAt ops).contains s && o.dst != some s && o.guard.isNone && (match o.op with | .select _ _ => false | _ => true)
    | none => false

theorem wanted_none {o : Oper} (h : o.guard = none) (f : Nat → Option Bool) : Region.wanted o f = true := by
  unfold Region.wanted; rw [h]

theorem Fl.ext {R : Act → World → (Nat → Prop) → Prop} (hR : ∀ a w w' F, R a w F → Below w.heap.size w w' → R a w' F) :
    ∀ (cs : List Nat) (a : Act) (w w' : World) (F : Nat → Prop), Fl P ops R cs a w F → Below w.heap.size w w' → Fl P ops R cs a w' F
  | [], a, w, w', F, h, hb => hR a w w' F h hb
  | c :: cs, a, w, w', F, h, hb => fun W hW => h W (hb.trans (hW.mono hb.size))

theorem After.ext {z : Array Value} {T : TypeId} {s : Tmp} {B : Nat} {os : Oper} {S : World → Prop} (a : Act) (w w' : World) (F : Nat → Prop) (h : After P z T s B os S Q a w F) (hb : Below w.heap.size w w') : After P z T s B os S Q a w' F :=
  fun k W hW => h k W (hb.trans (hW.mono hb.size))

theorem float_done {z : Array Value} {T : TypeId} {s : Tmp} {B : Nat} {os : Oper} {W0 : World} {ja js : Nat} (hos : ops[js]? = some os) (hosg : os.guard = none) :
    ∀ (cs : List Nat) (listed : Array Bool) (a : Act) (w : World) (F : Nat → Prop) (k : Nat), callsApart ops s cs = true → readyDone ops ja js cs listed = true →
      Fl P ops (After P z T s B os (KS W0) Q) cs a w F → B ≤ k → k < w.heap.size → ¬ F k → w.heap[k]? = some (.cells z T) → KS W0 w →
      wpAnyH P .any ops Q (KS W0) (cs.length + 1) listed (a.put (some s) (.pointer (some ⟨k, 0, none⟩))) w
  | [], listed, a, w, F, k, _, hr, h, hB, hk, hF, hz, hS => by
    simp only [readyDone, Bool.and_eq_true, beq_iff_eq, List.isEmpty_iff] at hr
    refine wpAnyH_all hr.1 (by simp) ?_
    intro i hi
    simp only [List.mem_singleton] at hi
    subst hi
    have h' := h k w (Below.refl _ _) hB hk hF hz hS
    unfold wpOp
    simp only [hos, wanted_none hosg, if_true]
    exact Or.inl (Oper.wp_mono (fun a' w' ⟨h1, h2⟩ => ⟨h1, hr.2, h2⟩) h')
  | c :: cs, listed, a, w, F, k, hap, hr, h, hB, hk, hF, hz, hS => by
    simp only [readyDone, Bool.and_eq_true, beq_iff_eq] at hr
    simp only [callsApart, List.all_cons, Bool.and_eq_true] at hap
    refine wpAnyH_all hr.1 (by simp) ?_
    intro i hi
    simp only [List.mem_singleton] at hi
    subst hi
    obtain ⟨o, dd, f, args, ho, hdd, hrun, hcall⟩ := h w (Below.refl _ _)
    have hap1 := hap.1
    rw [ho] at hap1
    simp only [Bool.and_eq_true, Bool.not_eq_true', bne_iff_ne, ne_eq, Option.isNone_iff_eq_none] at hap1
    obtain ⟨⟨⟨ha1, ha2⟩, ha3⟩, ha4⟩ := hap1
    have hsel : ∀ cs b, o.op ≠ .select cs b := fun cs b e => by rw [e] at ha4; simp at ha4
    have hlook : ∀ d, some s = some d → d ∉ o.looksAt ops := fun d e => by
      injection e with e
      subst e
      intro hm
      have := List.contains_iff_mem.2 hm
      rw [ha1] at this
      cases this
    unfold wpOp
    simp only [ho, wanted_none ha3, if_true]
    refine Or.inl ?_
    unfold Oper.wp
    rw [execOp_put o hsel a (some s) _ hlook, hrun]
    simp only [Oper.upon]
    refine hcall.mono ?_
    rintro e w' ⟨v, rfl, hb, hrest⟩
    refine ⟨hS.call hb, ?_⟩
    rw [Act.put_comm a _ v (fun d e e2 => ha2 (by rw [e2]; exact e.symm)), hdd]
    refine float_done hos hosg cs _ _ _ _ k (by simpa [callsApart] using hap.2) hr.2 hrest hB (Nat.lt_of_lt_of_le hk hb.size) ?_ ?_ (hS.call hb)
    · rintro (h1 | h1)
      · exact hF h1
      · omega
    · rw [hb.block k hk]; exact hz

theorem float_pend {z : Array Value} {T : TypeId} {s : Tmp} {B : Nat} {os oa : Oper} {W0 : World} {ja js : Nat} (hos : ops[js]? = some os) (hosg : os.guard = none)
    (hoa : ops[ja]? = some oa) (hoag : oa.guard = none) (hoad : oa.dst = some s)
    (hrun : ∀ (a : Act) (w : World), (execOp a.eval oa).run P w = .ok (.value (.pointer (some ⟨w.heap.size, 0, none⟩))) (w.alloc (.cells z T))) :
    ∀ (cs : List Nat) (listed : Array Bool) (a : Act) (w : World) (F : Nat → Prop), callsApart ops s cs = true → readyPend ops ja js cs listed = true →
      Fl P ops (After P z T s B os (KS W0) Q) cs a w F → B ≤ w.heap.size → (∀ k, F k → k < w.heap.size) → KS W0 w →
      wpAnyH P .any ops Q (KS W0) (cs.length + 2) listed a w := by
  have key : ∀ (cs : List Nat) (listed : Array Bool) (a : Act) (w : World) (F : Nat → Prop), callsApart ops s cs = true → readyDone ops ja js cs (listed.setIfInBounds ja true) = true →
      Fl P ops (After P z T s B os (KS W0) Q) cs a w F → B ≤ w.heap.size → (∀ k, F k → k < w.heap.size) → KS W0 w →
      wpOp P ops Q ja (fun a' w' => KS W0 w' ∧ wpAnyH P .any ops Q (KS W0) (cs.length + 1) (listed.setIfInBounds ja true) a' w') a w := by
    intro cs listed a w F hap hr h hB hF hS
    unfold wpOp
    simp only [hoa, wanted_none hoag, if_true]
    refine Or.inl ?_
    unfold Oper.wp
    rw [hrun]
    simp only [Oper.upon, hoad]
    have hb : Below w.heap.size w (w.alloc (.cells z T)) := (Below.refl _ _).alloc (Nat.le_refl _) _
    refine ⟨hS.alloc _, float_done hos hosg cs _ _ _ F _ hap hr (Fl.ext After.ext cs a w _ F h hb) hB (by simp) (fun hk => ?_) (by show (w.heap.push _)[w.heap.size]? = _; simp) (hS.alloc _)⟩
    have := hF _ hk
    omega
  intro cs
  induction cs with
  | nil =>
    intro listed a w F hap hr h hB hF hS
    simp only [readyPend, Bool.and_eq_true, beq_iff_eq] at hr
    refine wpAnyH_all hr.1 (by simp) ?_
    intro i hi
    simp only [List.mem_singleton] at hi
    subst hi
    exact key [] listed a w F hap hr.2 h hB hF hS
  | cons c cs ih =>
    intro listed a w F hap hr h hB hF hS
    simp only [readyPend, Bool.and_eq_true, beq_iff_eq] at hr
    refine wpAnyH_all hr.1.1 (by simp) ?_
    intro i hi
    simp only [List.mem_cons, List.not_mem_nil, or_false] at hi
    rcases hi with hi | hi
    · subst hi
      obtain ⟨o, dd, f, args, ho, hdd, hrun', hcall⟩ := h w (Below.refl _ _)
      simp only [callsApart, List.all_cons, Bool.and_eq_true] at hap
      have hap1 := hap.1
      rw [ho] at hap1
      simp only [Bool.and_eq_true, Option.isNone_iff_eq_none] at hap1
      unfold wpOp
      simp only [ho, wanted_none hap1.1.2, if_true]
      refine Or.inl ?_
      unfold Oper.wp
      rw [hrun']
      simp only [Oper.upon]
      refine hcall.mono ?_
      rintro e w' ⟨v, rfl, hb, hrest⟩
      rw [hdd]
      refine ⟨hS.call hb, ih _ _ _ _ (by simpa [callsApart] using hap.2) hr.1.2 hrest (Nat.le_trans hB hb.size) ?_ (hS.call hb)⟩
      rintro k (h1 | h1)
      · exact Nat.lt_of_lt_of_le (hF k h1) hb.size
      · exact h1.2
    · subst hi
      exact key (c :: cs) listed a w F hap hr.2 h hB hF hS

theorem setCells_other (b : Nat) : ∀ (vs : List Value) (o : Nat) (w : World) (j : Nat), j ≠ b → (w.setCells b o vs).heap[j]? = w.heap[j]?
  | [], _, _, _, _ => rfl
  | v :: r, o, w, j, h => by
    rw [World.setCells, setCells_other b r (o + 1) _ j h]
    exact Below.heap_setCell _ _ _ _ h
theorem setCells_size (b : Nat) : ∀ (vs : List Value) (o : Nat) (w : World), (w.setCells b o vs).heap.size = w.heap.size
  | [], _, _ => rfl
  | v :: r, o, w => by rw [World.setCells, setCells_size b r (o + 1) _]; simp [World.setCell]
theorem below_setCells {B : Nat} {w0 : World} (b : Nat) (hb : B ≤ b) : ∀ (vs : List Value) (o : Nat) (w : World), Below B w0 w → Below B w0 (w.setCells b o vs)
  | [], _, _, h => h
  | v :: r, o, w, h => below_setCells b hb r (o + 1) _ (h.setCell hb v)

/-- The store of the answer into the new variable. -/
theorem after_store {z : Array Value} {T : TypeId} {s : Tmp} {B : Nat} {os : Oper} {W0 : World} {a : Act} {w : World} {F : Nat → Prop} (hBW : W0.heap.size ≤ B) (ty : TypeId) (x y : Operand) (cells : Array Value)
    (ho : os.op = .store ty x y) (hdst : os.dst = none)
    (hx : ∀ k, (a.put (some s) (.pointer (some ⟨k, 0, none⟩))).eval x = .pointer (some ⟨k, 0, none⟩)) (hy : ∀ k, (a.put (some s) (.pointer (some ⟨k, 0, none⟩))).eval y = .agg cells)
    (hz : z.size = cells.size) (hi : (P.info? ty).map (·.size) = some cells.size) (h1 : cells.all (·.oneCell') = true)
    (h : ∀ k W', KS W0 W' → W0.heap.size ≤ k → k < W'.heap.size → ¬ F k → (∀ j, j ≠ k → j < w.heap.size → W'.heap[j]? = w.heap[j]?) → w.heap.size ≤ W'.heap.size →
      (∀ j v, cells.toList[j]? = some v → W'.cell? ⟨k, j, none⟩ = some v) → Q .normal (a.put (some s) (.pointer (some ⟨k, 0, none⟩))) W') :
    After P z T s B os (KS W0) Q a w F := by
  intro k W hW hB0 hk hF hzk hS
  have hB : W0.heap.size ≤ k := Nat.le_trans hBW hB0
  have ht : W.there k 0 cells.size := by
    intro j hj
    have hj' : j < z.size := by omega
    simp [World.cell?, World.frozen?, hzk, hj']
  have hS' : KS W0 (W.setCells k 0 cells.toList) := KS.of (below_setCells k hB _ _ _ hS.2)
  refine wp_store_mid ty x y ho k 0 cells (hx k) (hy k) ht hi h1 ⟨hS', ?_⟩
  rw [hdst]
  refine h k _ hS' hB (by rw [setCells_size]; exact hk) hF (fun j hj hjw => ?_) (by rw [setCells_size]; exact hW.size) (fun j v hv => ?_)
  · rw [setCells_other _ _ _ _ _ hj]; exact hW.block j hjw
  · have := World.rangeAt_setCells_same W k 0 cells.toList (by simpa using ht) j v hv
    simpa using this

/-- An operation that reads old memory alone, taken first. -/
theorem fl_take {i d : Nat} {oi : Oper} {v : Value} {fuel : Nat} {listed : Array Bool} {a : Act} {w W0 : World} (hi : ops[i]? = some oi) (hd : oi.dst = some d) (hg : oi.guard = none)
    (hs : Region.noSelect ops = true) (hf : Region.free .any ops listed i = true) (hr : (Region.ready .any ops listed).contains i = true)
    (hS : KS W0 w) (hy : ∀ w', (∀ b o, b < W0.heap.size → w'.cell? ⟨b, o, none⟩ = W0.cell? ⟨b, o, none⟩) → (execOp a.eval oi).run P w' = .ok (.value v) w')
    (h : wpAnyH P .any ops (NoPanic Q) (KS W0) fuel (listed.setIfInBounds i true) (a.put (some d) v) w) : wpAnyH P .any ops (NoPanic Q) (KS W0) (fuel + 1) listed a w :=
  wpAnyH_take hi hs hf hr (fun _ _ _ h => h) (Or.inl ⟨wanted_none hg _, fun w' hk => hy w' hk.1⟩) hS (by rw [hd]; exact h)

/-- The beginning. -/
theorem wp_region_float {id : Nat} {a : Act} {w : World} (hm : P.follows .mixedOrders = true)
    (h : KS w w.drew → wpAnyH P .any ops (NoPanic Q) (KS w) ops.size (Array.replicate ops.size false) a w.drew) : (Code.region id ops true).wp P Q a w :=
  wp_region_noPanic (wp_region_held_drew (S := KS w) hm (KS.start w) h)

/-- One operation that yields a value, carried out. -/
theorem op_val {i d : Nat} {o : Oper} {a : Act} {w w' : World} {v : Value} {K : Act → World → Prop} (ho : ops[i]? = some o) (hd : o.dst = some d) (hg : o.guard = none)
    (hrun : (execOp a.eval o).run P w = .ok (.value v) w') (h : K (a.put (some d) v) w') : wpOp P ops Q i K a w := by
  unfold wpOp
  simp only [ho, wanted_none hg, if_true]
  refine Or.inl ?_
  unfold Oper.wp
  rw [hrun]
  simp only [Oper.upon, hd]
  exact h
/-- One call, carried out. -/
theorem op_call {i d : Nat} {o : Oper} {a : Act} {w : World} {f : FuncId} {args : Array Value} {K : Act → World → Prop} (ho : ops[i]? = some o) (hd : o.dst = some d) (hg : o.guard = none)
    (hrun : (execOp a.eval o).run P w = .ok (.enter f args) w) (h : Calls P f args w fun e w' => ∃ v, e = .returned v ∧ K (a.put (some d) v) w') : wpOp P ops Q i K a w := by
  unfold wpOp
  simp only [ho, wanted_none hg, if_true]
  refine Or.inl ?_
  unfold Oper.wp
  rw [hrun]
  simp only [Oper.upon, hd]
  refine h.mono ?_
  rintro e w' ⟨v, rfl, hK⟩
  exact hK

end
end Go.Proofs.Ytjbghflphngnkaa
