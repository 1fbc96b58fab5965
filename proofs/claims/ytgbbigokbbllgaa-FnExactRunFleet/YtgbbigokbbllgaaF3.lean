/- Proved here: two lists that are copied and a place for an answer, in whatever order they are made. -/
import Derived.Test.YtgbbigokbbllgaaOwF
import Derived.Test.YtgbbigokbbllgaaCpA
import Derived.Test.YtgbbigokbbllgaaReg
import Derived.Test.YtgbbigokbbllgaaCpF
import Derived.Maps.AppendAt
namespace Go.Proofs.Ytgbbigokbbllgaa
open Go.RowKit Go.Maps
set_option linter.unusedVariables false
set_option linter.unusedSimpArgs false

/-- An append inside a statement that may be carried out in several orders: it says where it lies. -/
theorem op_appF {P : Program} {ops : Array Oper} {Q : Exit → Act → World → Prop} {j dd : Nat} {w : World} {o : Oper} {a : Act} {K : Act → World → Prop} (hj : ops[j]? = some o) (hd : o.dst = some dd) (hgd : o.guard = none) (s x : Operand) (t : TypeId)
    (ho : o.op = .call { callee := .builtin .append, args := #[s, x], argTypes := #[t, t] })
    (base : Nat) (e : TypeId) (i : TypeInfo) (z : Value) (size bytes : Nat) (ht : P.underlying t = some (.slice e)) (hi : P.info? e = some i) (hz : i.zero = some z)
    (hsize : i.size = size) (hby : i.bytes = bytes) (hzs : z.cells.size = size) (hsz : 0 < size)
    (v : Value) (n : Nat) (xs : List Value) (hs : a.eval s = v) (hown : w.ownsRow base e size v n xs)
    (ad : Addr) (m c : Nat) (news : List Value) (hx : a.eval x = .slice (some ad) m c) (hl : news.length = m * size) (hnews : ∀ j u, news[j]? = some u → w.cell? (ad.add j) = some u) (h1 : ∀ u ∈ news, u.oneCell' = true)
    (h63 : n + m ≤ maxLen) (hbytes : (n + m) * bytes ≤ 140737488355328) (hbase : base ≤ w.heap.size)
    (h : ∀ v' w', w'.ownsRow base e size v' (n + m) (xs ++ news) → w.grownBy w' v.ownBlock → (v'.ownBlock = v.ownBlock ∨ v'.ownBlock = some w.heap.size) → K (a.put (some dd) v') w') : wpOp P ops Q j K a w := by
  unfold wpOp
  simp only [hj, wanted_none hgd, if_true]
  refine Or.inl ?_
  obtain ⟨v', w', hr, h2, h3, h4, h5⟩ := run_append_own_at (P := P) w base t o.type e i z size bytes ht hi hz hsize hby hzs hsz v n xs hown ad m c news hl hnews h1 h63 hbytes hbase
  unfold Oper.wp execOp
  simp only [ho, resolve, invoke, builtin, Sem.run_bind, Sem.run_pure, Result.andThen_ok, List.map_toArray, List.map_cons, List.map_nil, hs, hx, hr]
  simp only [Oper.upon, hd]
  exact h v' w' h2 h3 h5


structure F3 (V cw : World) (va vb : Value) (xs ys : List Int) (O : Option Nat) : Prop where
  bl : Below V.heap.size V cw
  a : IS cw V.heap.size va xs
  b : IS cw V.heap.size vb ys
  o : ∀ g, O = some g → cw.heap[g]? = some (.cells #[.int .i64 0, .int .i64 0, .slice none 0 0, .slice none 0 0, .slice none 0 0] 56) ∧ V.heap.size ≤ g
  ab : ∀ g, va.ownBlock = some g → vb.ownBlock ≠ some g
  ao : ∀ g, O = some g → va.ownBlock ≠ some g ∧ vb.ownBlock ≠ some g
theorem F3.swap {V cw : World} {va vb : Value} {xs ys : List Int} {O : Option Nat} (h : F3 V cw va vb xs ys O) : F3 V cw vb va ys xs O := ⟨h.bl, h.b, h.a, h.o, fun g h1 h2 => h.ab g h2 h1, fun g hg => ⟨(h.ao g hg).2, (h.ao g hg).1⟩⟩
theorem F3.start (V : World) : F3 V V.drew (.slice none 0 0) (.slice none 0 0) [] [] none :=
  ⟨(Below.refl _ _).drew, ⟨rfl, Or.inl ⟨rfl, rfl⟩⟩, ⟨rfl, Or.inl ⟨rfl, rfl⟩⟩, fun g h => (by cases h), fun g h => (by cases h), fun g h => (by cases h)⟩
theorem F3.mkA {V cw : World} {vb : Value} {ys : List Int} {O : Option Nat} (h : F3 V cw (.slice none 0 0) vb [] ys O) : F3 V (cw.alloc (.cells #[] 2)) (.slice (some ⟨cw.heap.size, 0, none⟩) 0 0) vb [] ys O := by
  have hb : Below cw.heap.size cw (cw.alloc (.cells #[] 2)) := by (repeat' (first | (with_reducible exact Below.refl _ _) | (with_reducible assumption) | (with_reducible refine Below.setCell ?_ ?_ _) | (with_reducible refine Below.alloc ?_ ?_ _) | (with_reducible refine below_drewN ?_ _) | (with_reducible refine Below.drew ?_) | (with_reducible exact Nat.le_refl _) | omega | (simp; done) | (simp; omega)))
  refine ⟨h.bl.trans (hb.mono h.bl.size), is_lit0 cw _ h.bl.size, h.b.bel hb, fun g hg => ⟨(hb.block _ (ltOf (h.o g hg).1)).trans (h.o g hg).1, (h.o g hg).2⟩, fun g h1 h2 => ?_, fun g hg => ⟨fun h1 => ?_, (h.ao g hg).2⟩⟩
  · have e : cw.heap.size = g := Option.some.inj h1
    have := (IS.lt h.b g h2).2
    omega
  · have e : cw.heap.size = g := Option.some.inj h1
    have := ltOf (h.o g hg).1
    omega
theorem F3.mkO {V cw : World} {va vb : Value} {xs ys : List Int} (h : F3 V cw va vb xs ys none) : F3 V (cw.alloc (.cells #[.int .i64 0, .int .i64 0, .slice none 0 0, .slice none 0 0, .slice none 0 0] 56)) va vb xs ys (some cw.heap.size) := by
  have hb : Below cw.heap.size cw (cw.alloc (.cells #[.int .i64 0, .int .i64 0, .slice none 0 0, .slice none 0 0, .slice none 0 0] 56)) := by (repeat' (first | (with_reducible exact Below.refl _ _) | (with_reducible assumption) | (with_reducible refine Below.setCell ?_ ?_ _) | (with_reducible refine Below.alloc ?_ ?_ _) | (with_reducible refine below_drewN ?_ _) | (with_reducible refine Below.drew ?_) | (with_reducible exact Nat.le_refl _) | omega | (simp; done) | (simp; omega)))
  refine ⟨h.bl.trans (hb.mono h.bl.size), h.a.bel hb, h.b.bel hb, fun g hg => ?_, h.ab, fun g hg => ?_⟩
  · have e : cw.heap.size = g := Option.some.inj hg
    rw [← e]
    exact ⟨heap_alloc_new _ _, h.bl.size⟩
  · have e : cw.heap.size = g := Option.some.inj hg
    refine ⟨fun h1 => ?_, fun h1 => ?_⟩
    · have := (IS.lt h.a g h1).2; omega
    · have := (IS.lt h.b g h1).2; omega
theorem F3.apA {V cw w5 : World} {va vb v5 : Value} {ys s : List Int} {O : Option Nat} {n : Nat} (h : F3 V cw va vb [] ys O) (hn : n = s.length) (hown : w5.ownsRow V.heap.size 2 1 v5 (0 + n) ([] ++ s.map (Value.int .i64))) (hg : cw.grownBy w5 va.ownBlock) (hat : v5.ownBlock = va.ownBlock ∨ v5.ownBlock = some cw.heap.size) : F3 V w5 v5 vb s ys O := by
  have hoth : ∀ q, q < cw.heap.size → va.ownBlock ≠ some q → w5.heap[q]? = cw.heap[q]? := fun q h1 h2 => hg.block q h1 (fun e => h2 e.symm)
  have hne : ∀ q, v5.ownBlock = some q → va.ownBlock = some q ∨ q = cw.heap.size := fun q hq => by
    rcases hat with e | e
    · exact Or.inl (by rw [← e]; exact hq)
    · rw [e] at hq; exact Or.inr (Option.some.inj hq).symm
  refine ⟨h.bl.grown hg h.bl.size (fun q hq => (IS.lt h.a q hq).1), ?_, ?_, fun g hO => ?_, fun g h1 h2 => ?_, fun g hO => ⟨fun h1 => ?_, (h.ao g hO).2⟩⟩
  · unfold IS; rw [hn] at hown; simpa using hown
  · exact h.b.kept fun q hq => hoth q (IS.lt h.b q hq).2 fun e => h.ab q e hq
  · exact ⟨(hoth g (ltOf (h.o g hO).1) (h.ao g hO).1).trans (h.o g hO).1, (h.o g hO).2⟩
  · rcases hne g h1 with e | e
    · exact h.ab g e h2
    · have := (IS.lt h.b g h2).2; omega
  · rcases hne g h1 with e | e
    · exact (h.ao g hO).1 e
    · have := ltOf (h.o g hO).1; omega
theorem someF {w : World} {B : Nat} {v : Value} {xs : List Int} (h : IS w B v xs) (hs : v.ownBlock ≠ none) : ∃ g c, v = .slice (some ⟨g, 0, none⟩) xs.length c := by
  rcases h.2 with ⟨rfl, _⟩ | ⟨g, cap, cur, rfl, _⟩
  · exact absurd rfl hs
  · exact ⟨g, cap, rfl⟩
theorem set_five20 {w : World} {k : Nat} {a b c d e a' b' c' d' e' : Value} {T : TypeId} (h : w.heap[k]? = some (.cells #[a, b, c, d, e] T)) : (w.setCells k 0 [a', b', c', d', e']).heap[k]? = some (.cells #[a', b', c', d', e'] T) := by
  have s0 := heap_setCell_same _ _ 0 _ _ a' h
  have s1 := heap_setCell_same _ _ 1 _ _ b' s0
  have s2 := heap_setCell_same _ _ 2 _ _ c' s1
  have s3 := heap_setCell_same _ _ 3 _ _ d' s2
  have s4 := heap_setCell_same _ _ 4 _ _ e' s3
  simpa [World.setCells] using s4
/-- What is there at the end. -/
structure FO (V W : World) (K : Nat) (N : Int) (va vb vm : Value) (xs ys ms : List Int) : Prop where
  bl : Below V.heap.size V W
  a : IS W V.heap.size va xs
  b : IS W V.heap.size vb ys
  m : IS W V.heap.size vm ms
  o : W.heap[K]? = some (.cells #[.int .i64 0, .int .i64 N, va, vb, vm] 56)
  lo : V.heap.size ≤ K
  ab : ∀ g, va.ownBlock = some g → vb.ownBlock ≠ some g
  am : ∀ g, vm.ownBlock = some g → va.ownBlock ≠ some g ∧ vb.ownBlock ≠ some g
  ko : va.ownBlock ≠ some K ∧ vb.ownBlock ≠ some K ∧ vm.ownBlock ≠ some K
theorem FO.of {V cw : World} {va vb : Value} {xs ys : List Int} {K : Nat} {N : Int} (h : F3 V cw va vb xs ys (some K)) : FO V (cw.setCells K 0 [.int .i64 0, .int .i64 N, va, vb, .slice none 0 0]) K N va vb (.slice none 0 0) xs ys [] := by
  have hlo := (h.o K rfl).2
  exact ⟨below_setCells _ hlo _ _ _ h.bl, h.a.kept fun q hq => setCells_off20 _ _ (fun e => (h.ao K rfl).1 (by rw [← e]; exact hq)) _ _, h.b.kept fun q hq => setCells_off20 _ _ (fun e => (h.ao K rfl).2 (by rw [← e]; exact hq)) _ _, ⟨rfl, Or.inl ⟨rfl, rfl⟩⟩, set_five20 (h.o K rfl).1, hlo, h.ab, (fun g hg => by cases hg), ⟨(h.ao K rfl).1, (h.ao K rfl).2, fun e => by cases e⟩⟩

end Go.Proofs.Ytgbbigokbbllgaa
