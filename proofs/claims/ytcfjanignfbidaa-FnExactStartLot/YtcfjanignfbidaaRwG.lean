/- Proved here: small rules on rows of the call's own memory. No condition on the program. (And ahead of it: Proved here: maps of slices, further: a store as a run; an entry made, and stored into later; an append that says where it lies, inside a statement that may be carried out in several orders.) (And ahead of it: Proved here: small rules for statements that may be carried out in several orders: what must stay below a block; one operation carried out. No condition on the program.) -/
import Derived.Test.YtcfjanignfbidaaFloat
import Derived.Test.YtcfjanignfbidaaTmB
import Derived.WideKeyEntry
import Derived.Maps.AppendAt
import Derived.Test.YtcfjanignfbidaaIntsBase
namespace Go.Proofs.Ytcfjanignfbidaa
open Go.RowKit
set_option linter.unusedVariables false

/-- What lay below B in W lies in w still. -/
def KA (B : Nat) (W w : World) : Prop := (∀ b o, b < B → w.cell? ⟨b, o, none⟩ = W.cell? ⟨b, o, none⟩) ∧ Below B W w
theorem KA.of {B : Nat} {W w : World} (h : Below B W w) : KA B W w := ⟨fun b o hb => h.cell (p := ⟨b, o, none⟩) hb, h⟩
theorem fl_takeA {P : Program} {ops : Array Oper} {Q : Exit → Act → World → Prop} {S : World → Prop} {i d : Nat} {oi : Oper} {v : Value} {fuel : Nat} {listed : Array Bool} {a : Act} {w : World} (hi : ops[i]? = some oi) (hd : oi.dst = some d) (hg : oi.guard = none)
    (hs : Region.noSelect ops = true) (hf : Region.free .any ops listed i = true) (hr : (Region.ready .any ops listed).contains i = true)
    (hS : S w) (hy : ∀ w', S w' → (execOp a.eval oi).run P w' = .ok (.value v) w')
    (h : wpAnyH P .any ops (NoPanic Q) S fuel (listed.setIfInBounds i true) (a.put (some d) v) w) : wpAnyH P .any ops (NoPanic Q) S (fuel + 1) listed a w :=
  wpAnyH_take hi hs hf hr (fun _ _ _ h => h) (Or.inl ⟨wanted_none hg _, fun w' hk => hy w' hk⟩) hS (by rw [hd]; exact h)
theorem wp_region_holdsA {P : Program} {ops : Array Oper} {Q : Exit → Act → World → Prop} {S : World → Prop} {id : Nat} {a : Act} {w : World} (hm : P.follows .mixedOrders = true) (h0 : S w.drew)
    (h : S w.drew → wpAnyH P .any ops (NoPanic Q) S ops.size (Array.replicate ops.size false) a w.drew) : (Code.region id ops true).wp P Q a w :=
  wp_region_noPanic (wp_region_held_drew (S := S) hm h0 h)
theorem op_skipN {P : Program} {ops : Array Oper} {Q : Exit → Act → World → Prop} {i : Nat} {o : Oper} {a : Act} {w w' : World} {K : Act → World → Prop} (ho : ops[i]? = some o) (hg : o.guard = none)
    (hrun : (execOp a.eval o).run P w = .ok .skip w') (h : K (a.put o.dst undef) w') : wpOp P ops Q i K a w := by
  unfold wpOp
  simp only [ho, wanted_none hg, if_true]
  refine Or.inl ?_
  unfold Oper.wp
  rw [hrun]
  exact h
/-- A struct stored whole. -/
theorem op_store {P : Program} {ops : Array Oper} {Q : Exit → Act → World → Prop} {i : Nat} {o : Oper} {a : Act} {w : World} {K : Act → World → Prop} (ho : ops[i]? = some o) (hg : o.guard = none) (hdst : o.dst = none) (ty : TypeId) (x y : Operand) (hop : o.op = .store ty x y) (k : Nat) (cells : Array Value)
    (hx : a.eval x = .pointer (some ⟨k, 0, none⟩)) (hy : a.eval y = .agg cells) (ht : w.there k 0 cells.size) (hi : (P.info? ty).map (·.size) = some cells.size) (h1 : cells.all (·.oneCell') = true)
    (h : K a (w.setCells k 0 cells.toList)) : wpOp P ops Q i K a w := by
  unfold wpOp
  simp only [ho, wanted_none hg, if_true]
  refine Or.inl (wp_store_mid ty x y hop k 0 cells hx hy ht hi h1 ?_)
  rw [hdst]
  exact h
theorem there_two {w : World} {k : Nat} {a b : Value} {T : TypeId} (h : w.heap[k]? = some (.cells #[a, b] T)) : w.there k 0 2 := by
  intro j hj
  have hj2 : j < 2 := hj
  simp [World.cell?, World.frozen?, h, hj2]

end Go.Proofs.Ytcfjanignfbidaa

namespace Go.Proofs.Ytcfjanignfbidaa
open Go.RowKit Go.Maps
set_option linter.unusedVariables false
set_option linter.unusedSimpArgs false

theorem TM.put {w : World} {k t E : TypeId} {b n : Nat} {f : Lit → Option Sv} (h : TM w k b n f) (K : Keyed Try.prog k) (ht : Try.prog.underlying t = some (.map k E)) (hn : n < maxLen) {key : Value} {kl : Lit} (hkey : keyOf Try.prog k key = some kl) (s : Sv) :
    ∃ w', (Instr.mapUpdate t (.map (some b)) key s.v).run Try.prog w = .ok () w' ∧ TM w' k b (n + 1) (updF f kl (some s)) ∧ w.grownBy w' (some b) := by
  obtain ⟨D, h1, h2⟩ := h.own
  obtain ⟨w', hrun, r1, r2⟩ := h1.update K ht hn hkey (slE_mk s)
  exact ⟨w', hrun, ⟨_, r1, h2.put h1.isMap (K.key hkey) s⟩, r2⟩

theorem set_block_same {w : World} {b : Nat} (hb : b < w.heap.size) (o : Obj) : (ChangeMaps.setBlock w b o).heap[b]? = some o := by
  simp [ChangeMaps.setBlock, hb]
theorem set_block_grown (w : World) (b : Nat) (o : Obj) : w.grownBy (ChangeMaps.setBlock w b o) (some b) := by
  refine ⟨rfl, rfl, rfl, by simp [ChangeMaps.setBlock], fun i hi hne => ?_⟩
  have : i ≠ b := fun e => hne (by rw [e])
  simp [ChangeMaps.setBlock, Array.getElem?_setIfInBounds, Ne.symm this]
theorem set_block_size (w : World) (b : Nat) (o : Obj) : (ChangeMaps.setBlock w b o).heap.size = w.heap.size := by simp [ChangeMaps.setBlock]

set_option maxRecDepth 20000 in
theorem TM.entry {w : World} {k t E : TypeId} {b n : Nat} {f : Lit → Option Sv} (h : TM w k b n f) (K : WideMaps.KeyLaw Try.prog k) (ht : Try.prog.underlying t = some (.map k E)) (hz : ∀ u : World, (zeroValue E).run Try.prog u = .ok (.slice none 0 0) u) (hn : n < maxLen) {key : Value} {kl : Lit} (hkey : keyOf Try.prog k key = some kl) :
    ∃ (a0 : Option Addr) (n0 c0 st : Nat) (w1 : World), (f kl).getD svN = (a0, n0, c0) ∧ (Instr.mapEntry t (.map (some b)) key).run Try.prog w = .ok (.tuple #[.slice a0 n0 c0, .int .i64 (st : Int)]) w1 ∧ w.grownBy w1 (some b) ∧ w1.heap.size = w.heap.size ∧
      ∀ (w2 : World) (s : Sv), w2.heap[b]? = w1.heap[b]? → ∃ w3, (Instr.entryStore t (.map (some b)) (.int .i64 (st : Int)) s.v).run Try.prog w2 = .ok () w3 ∧ TM w3 k b (n + 1) (updF f kl (some s)) ∧ w2.grownBy w3 (some b) ∧ w3.heap.size = w2.heap.size := by
  have hlook := h.look (Keyed.of_law K) ht (hz w) hkey
  have hlt := h.lt
  have hT := h
  obtain ⟨D, ⟨es, clock, hb, F, hs, hD⟩, h2⟩ := h.own
  obtain ⟨v0, st, es1, clock1, hrun, hwho, hback⟩ := WideElems.entry_then_store K ht hz hb F hkey
  have hv0 : v0 = ((f kl).getD svN).v := by
    rcases Maps.fit_look false (Keyed.of_law K) ht (hz w) hb F hkey with ⟨hl, hno, _⟩ | ⟨e0, y, hm0, h3, hl, _, _, _⟩
    · rw [hl] at hlook
      injection hlook with hlook _
      rcases hwho with ⟨e1, hm1, hk1, rfl⟩ | ⟨_, rfl⟩
      · exact absurd hk1 (hno e1 hm1)
      · simpa using hlook
    · rw [hl] at hlook
      injection hlook with hlook _
      rcases hwho with ⟨e1, hm1, hk1, rfl⟩ | ⟨hno, _⟩
      · rw [← hlook]
        simp only [Bool.false_eq_true, if_false]
        have := entry_eq_of_key ((MapKept.stamped_iff es clock).1 F.stamped).2.2 hm1 hm0 (hk1.trans h3.symm)
        rw [this]
      · exact absurd h3 (hno e0 hm0)
  obtain ⟨a0, n0, c0, hs0⟩ : ∃ a0 n0 c0, (f kl).getD svN = (a0, n0, c0) := ⟨_, _, _, rfl⟩
  rw [hs0] at hv0
  subst hv0
  refine ⟨a0, n0, c0, st, _, hs0, hrun, set_block_grown _ _ _, set_block_size _ _ _, fun w2 s hw2 => ?_⟩
  rw [set_block_same hlt] at hw2
  obtain ⟨es', clock', hr1, hr2⟩ := hback w2 s.v hw2
  have hlt2 : b < w2.heap.size := (Array.getElem?_eq_some_iff.1 hw2).1
  obtain ⟨w', hr3, hT3, _⟩ := hT.put (Keyed.of_law K) ht hn hkey s
  rw [hr2] at hr3
  injection hr3 with _ hr3
  refine ⟨_, hr1, hT3.block ?_, set_block_grown _ _ _, set_block_size _ _ _⟩
  rw [set_block_same hlt2, ← hr3, set_block_same hlt]

theorem tset2 {w : World} {k : Nat} {a b a' b' : Value} {T : TypeId} (h : w.heap[k]? = some (.cells #[a, b] T)) : (w.setCell ⟨k, 0, none⟩ a').heap[k]? = some (.cells #[a', b] T) ∧ ((w.setCell ⟨k, 0, none⟩ a').setCell ⟨k, 1, none⟩ b').heap[k]? = some (.cells #[a', b'] T) := by
  have h1 := heap_setCell_same w k 0 _ _ a' h
  have h2 := heap_setCell_same _ k 1 _ _ b' h1
  exact ⟨by simpa using h1, by simpa using h2⟩

theorem op_appAt {P : Program} {ops : Array Oper} {Q : Exit → Act → World → Prop} {j dd : Nat} {w : World} {o : Oper} {a : Act} {K : Act → World → Prop} (hj : ops[j]? = some o) (hd : o.dst = some dd) (hgd : o.guard = none) (s x : Operand) (t : TypeId)
    (ho : o.op = .call { callee := .builtin .append, args := #[s, x], argTypes := #[t, t] })
    (base : Nat) (e : TypeId) (i : TypeInfo) (z : Value) (size bytes : Nat) (ht : P.underlying t = some (.slice e)) (hi : P.info? e = some i) (hz : i.zero = some z)
    (hsize : i.size = size) (hby : i.bytes = bytes) (hzs : z.cells.size = size) (hsz : 0 < size)
    (v : Value) (n : Nat) (xs : List Value) (hs : a.eval s = v) (hown : w.ownsRow base e size v n xs)
    (ad : Addr) (m c : Nat) (news : List Value) (hx : a.eval x = .slice (some ad) m c) (hl : news.length = m * size) (hnews : ∀ j u, news[j]? = some u → w.cell? (ad.add j) = some u) (h1 : ∀ u ∈ news, u.oneCell' = true)
    (h63 : n + m ≤ maxLen) (hbytes : (n + m) * bytes ≤ 140737488355328) (hbase : base ≤ w.heap.size)
    (h : ∀ v' w', w'.ownsRow base e size v' (n + m) (xs ++ news) → w.grownBy w' v.ownBlock → (v'.ownBlock = v.ownBlock ∨ v'.ownBlock = some w.heap.size) → K (a.put (some dd) v') w') : wpOp P ops Q j K a w := by
  unfold wpOp
  simp only [hj, wanted_none hgd, if_true]
  refine Or.inl ?_
  obtain ⟨v', w', hr, h2, h3, h4, h5⟩ := run_append_own_at (P := P) w base t o.type e i z size bytes ht hi hz hsize hby hzs hsz v n xs hown ad m c news hl hnews h1 h63 hbytes hbase
  unfold Oper.wp execOp
  simp only [ho, resolve, invoke, builtin, Sem.run_bind, Sem.run_pure, Result.andThen_ok, List.map_toArray, List.map_cons, List.map_nil, hs, hx, hr]
  simp only [Oper.upon, hd]
  exact h v' w' h2 h3 h5

end Go.Proofs.Ytcfjanignfbidaa

namespace Go.Proofs.Ytcfjanignfbidaa
open Go.RowKit
set_option linter.unusedVariables false
set_option linter.unusedSimpArgs false

def rat (vs : List Value) (i : Nat) : Value := vs.getD i (.slice none 0 0)
theorem rat_get {vs : List Value} {i : Nat} (h : i < vs.length) : rat vs i = vs[i] := by simp [rat, h]
theorem kindsR {w : World} {g : Nat} {cs ds : Array Value} {s t : TypeId} (h1 : w.heap[g]? = some (.cells cs s (0, 0))) (h2 : w.heap[g]? = some (.cells ds t (0, 0))) (hn : s ≠ t) : False := by
  rw [h1] at h2
  simp only [Option.some.injEq, Obj.cells.injEq] at h2
  exact hn h2.2.1
theorem rowKept {w w' : World} {B T k n : Nat} {v : Value} {xs : List Value} (h : w.ownsRow B T k v n xs) (hb : ∀ g, v.ownBlock = some g → w'.heap[g]? = w.heap[g]?) : w'.ownsRow B T k v n xs := by
  refine ⟨h.1, ?_⟩
  rcases h.2 with h' | ⟨g, cap, cur, rfl, hB, hg, hr⟩
  · exact Or.inl h'
  · exact Or.inr ⟨g, cap, cur, rfl, hB, by rw [hb g rfl]; exact hg, hr⟩
theorem rowBlk {w : World} {B T k n g : Nat} {v : Value} {xs : List Value} (h : w.ownsRow B T k v n xs) (hg : v.ownBlock = some g) : B ≤ g ∧ g < w.heap.size ∧ ∃ cs, w.heap[g]? = some (.cells cs T (0, 0)) := by
  refine ⟨(World.ownsRow.lt h g hg).1, (World.ownsRow.lt h g hg).2, ?_⟩
  rcases h.2 with ⟨e, _⟩ | ⟨g', cap, cur, e, hB, hgg, hr⟩
  · rw [e] at hg; cases hg
  · rw [e] at hg
    simp only [Value.ownBlock, Option.some.injEq] at hg
    subst hg
    exact ⟨_, hgg⟩
theorem rowLow {w : World} {A B T k n : Nat} {v : Value} {xs : List Value} (h : w.ownsRow B T k v n xs) (hab : A ≤ B) : w.ownsRow A T k v n xs := by
  refine ⟨h.1, ?_⟩
  rcases h.2 with h' | ⟨g, cap, cur, rfl, hB, hr⟩
  · exact Or.inl h'
  · exact Or.inr ⟨g, cap, cur, rfl, by omega, hr⟩

end Go.Proofs.Ytcfjanignfbidaa
