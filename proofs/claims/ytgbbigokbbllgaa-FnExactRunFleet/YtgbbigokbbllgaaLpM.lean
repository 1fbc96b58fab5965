/- Proved here: the zones while a step of the model goes on, and how what there is turns by one vehicle. -/
import Derived.Test.YtgbbigokbbllgaaStM
import Derived.Test.YtgbbigokbbllgaaF3
import Derived.Test.YtgbbigokbbllgaaGzM
namespace Go.Proofs.Ytgbbigokbbllgaa
open Go.RowKit
set_option linter.unusedVariables false
set_option linter.unusedSimpArgs false

def mvP (Z : Int) (s t : List Int) (k : Nat) : List Int := rgL (fun i => if i < k ∧ mvB Z s t i = true then (s.getD i 0 + 1) % Z else s.getD i 0) s.length
theorem mvP_len (Z : Int) (s t : List Int) (k : Nat) : (mvP Z s t k).length = s.length := rgL_len _ _
theorem mvP_at {Z : Int} {s t : List Int} {k i : Nat} (h : i < s.length) : (mvP Z s t k).getD i 0 = if i < k ∧ mvB Z s t i = true then (s.getD i 0 + 1) % Z else s.getD i 0 := rgL_at _ h
theorem mvP_ext {Z : Int} {s t xs : List Int} {k : Nat} (hl : xs.length = s.length) (h : ∀ i, i < s.length → xs.getD i 0 = (mvP Z s t k).getD i 0) : xs = mvP Z s t k := by
  apply List.ext_getElem (by rw [hl, mvP_len])
  intro i h1 h2
  rw [← gdI h1, ← gdI h2]
  exact h i (by rw [← hl]; exact h1)
theorem mvP_zero (Z : Int) (s t : List Int) : mvP Z s t 0 = s := by
  refine (mvP_ext rfl fun i hi => ?_).symm
  rw [mvP_at hi, if_neg (fun h => by omega)]
theorem mvP_no {Z : Int} {s t : List Int} {k : Nat} (h : mvB Z s t k = false) : mvP Z s t (k + 1) = mvP Z s t k := by
  refine mvP_ext (mvP_len _ _ _ _) fun i hi => ?_
  rw [mvP_at hi, mvP_at hi]
  by_cases e : i < k ∧ mvB Z s t i = true
  · rw [if_pos e, if_pos ⟨by omega, e.2⟩]
  · rw [if_neg e, if_neg]
    rintro ⟨h1, h2⟩
    rcases (by omega : i < k ∨ i = k) with h3 | rfl
    · exact e ⟨h3, h2⟩
    · rw [h] at h2; cases h2
theorem mvP_yes {Z : Int} {s t : List Int} {k : Nat} (hk : k < s.length) (h : mvB Z s t k = true) : mvP Z s t (k + 1) = (mvP Z s t k).set k ((s.getD k 0 + 1) % Z) := by
  refine (mvP_ext (by rw [List.length_set, mvP_len]) fun i hi => ?_).symm
  rw [mvP_at hi]
  by_cases e : i = k
  · subst e
    rw [if_pos ⟨by omega, h⟩]
    simp [List.getD_eq_getElem?_getD, List.getElem?_set, mvP_len, hi]
  · have : ((mvP Z s t k).set k ((s.getD k 0 + 1) % Z)).getD i 0 = (mvP Z s t k).getD i 0 := by
      simp [List.getD_eq_getElem?_getD, List.getElem?_set, show k ≠ i by omega]
    rw [this, mvP_at hi]
    by_cases h1 : i < k ∧ mvB Z s t i = true
    · rw [if_pos h1, if_pos ⟨by omega, h1.2⟩]
    · rw [if_neg h1, if_neg]
      rintro ⟨h2, h3⟩
      exact h1 ⟨by omega, h3⟩
theorem mvP_done (Z : Int) (s t : List Int) : mvP Z s t s.length = mvA Z s t := by
  refine (mvP_ext (mvA_len _ _ _) fun i hi => ?_).symm
  rw [mvP_at hi, mvA_at hi]
  unfold mvX
  by_cases h : mvB Z s t i = true
  · rw [if_pos h, if_pos ⟨hi, h⟩]
  · rw [if_neg h, if_neg (fun e => h e.2)]
theorem FO.bel {V W W1 : World} {K : Nat} {N : Int} {va vb vm : Value} {xs ys ms : List Int} (h : FO V W K N va vb vm xs ys ms) (hb : Below W.heap.size W W1) : FO V W1 K N va vb vm xs ys ms :=
  ⟨h.bl.trans (hb.mono h.bl.size), h.a.bel hb, h.b.bel hb, h.m.bel hb, (hb.block _ (ltOf h.o)).trans h.o, h.lo, h.ab, h.am, h.ko⟩
theorem FO.setA {V W : World} {K g n c : Nat} {N : Int} {vb vm : Value} {xs ys ms : List Int} (h : FO V W K N (.slice (some ⟨g, 0, none⟩) n c) vb vm xs ys ms) (j : Nat) (q : Int) : FO V (W.setCell ⟨g, j, none⟩ (.int .i64 q)) K N (.slice (some ⟨g, 0, none⟩) n c) vb vm (xs.set j q) ys ms := by
  have hg := (IS.lt h.a g rfl).1
  have hoff : ∀ p, p ≠ g → (W.setCell ⟨g, j, none⟩ (.int .i64 q)).heap[p]? = W.heap[p]? := fun p hp => heap_setCell_other _ _ _ _ (by simpa using hp)
  refine ⟨below_setCells g hg [.int .i64 q] j _ h.bl, h.a.setG j q, h.b.kept fun p hp => hoff p (fun e => h.ab g rfl (by rw [← e]; exact hp)), h.m.kept fun p hp => hoff p (fun e => (h.am p hp).1 (by rw [e]; rfl)), (hoff K (fun e => h.ko.1 (by rw [e]; rfl))).trans h.o, h.lo, h.ab, h.am, h.ko⟩
theorem set_fifth20 {w : World} {k : Nat} {a b c d e e' : Value} {T : TypeId} (h : w.heap[k]? = some (.cells #[a, b, c, d, e] T)) : (w.setCell ⟨k, 4, none⟩ e').heap[k]? = some (.cells #[a, b, c, d, e'] T) := by
  have s4 := heap_setCell_same _ _ 4 _ _ e' h
  simpa using s4
theorem FO.app {V W1 w6 : World} {K : Nat} {N x : Int} {va vb vm v6 : Value} {xs ys ms : List Int} (h : FO V W1 K N va vb vm xs ys ms) (hown : IS w6 V.heap.size v6 (ms ++ [x])) (hg : W1.grownBy w6 vm.ownBlock) (hat : v6.ownBlock = vm.ownBlock ∨ v6.ownBlock = some W1.heap.size) : FO V (w6.setCell ⟨K, 4, none⟩ v6) K N va vb v6 xs ys (ms ++ [x]) := by
  have hne : ∀ q, v6.ownBlock = some q → vm.ownBlock = some q ∨ q = W1.heap.size := fun q hq => by
    rcases hat with e | e
    · exact Or.inl (by rw [← e]; exact hq)
    · rw [e] at hq; exact Or.inr (Option.some.inj hq).symm
  have hKl := ltOf h.o
  have h6 : ∀ q, q < W1.heap.size → vm.ownBlock ≠ some q → w6.heap[q]? = W1.heap[q]? := fun q h1 h2 => hg.block q h1 (fun e => h2 e.symm)
  have hK6 : w6.heap[K]? = some (.cells #[.int .i64 0, .int .i64 N, va, vb, vm] 56) := (h6 K hKl h.ko.2.2).trans h.o
  have hoff : ∀ p, p ≠ K → (w6.setCell ⟨K, 4, none⟩ v6).heap[p]? = w6.heap[p]? := fun p hp => heap_setCell_other _ _ _ _ (by simpa using hp)
  have hK : v6.ownBlock ≠ some K := fun e => by
    rcases hne K e with e1 | e1
    · exact h.ko.2.2 e1
    · omega
  refine ⟨below_setCells K h.lo [v6] 4 _ (h.bl.grown hg h.bl.size (fun q hq => (IS.lt h.m q hq).1)), ?_, ?_, hown.kept fun p hp => hoff p (fun e => hK (by rw [← e]; exact hp)), set_fifth20 hK6, h.lo, h.ab, fun g hg9 => ?_, ⟨h.ko.1, h.ko.2.1, hK⟩⟩
  · exact h.a.kept fun p hp => (hoff p (fun e => h.ko.1 (by rw [← e]; exact hp))).trans (h6 p (IS.lt h.a p hp).2 (fun e => (h.am p e).1 hp))
  · exact h.b.kept fun p hp => (hoff p (fun e => h.ko.2.1 (by rw [← e]; exact hp))).trans (h6 p (IS.lt h.b p hp).2 (fun e => (h.am p e).2 hp))
  · rcases hne g hg9 with e | e
    · exact h.am g e
    · refine ⟨fun e1 => ?_, fun e1 => ?_⟩
      · have := (IS.lt h.a g e1).2; omega
      · have := (IS.lt h.b g e1).2; omega
theorem FO.app2 {V W1 w6 : World} {K ml : Nat} {N x : Int} {va vb vm v6 : Value} {xs ys ms M : List Int} (h : FO V W1 K N va vb vm xs ys ms) (hl : ml = ms.length) (hM : M = ms ++ [x]) (hown : w6.ownsRow V.heap.size 2 1 v6 (ml + 1) (ms.map (Value.int .i64) ++ [Value.int .i64 x])) (hg : W1.grownBy w6 vm.ownBlock) (hat : v6.ownBlock = vm.ownBlock ∨ v6.ownBlock = some W1.heap.size) : FO V (w6.setCell ⟨K, 4, none⟩ v6) K N va vb v6 xs ys M := by
  rw [hM]
  refine FO.app h ?_ hg hat
  unfold IS
  rw [List.length_append, ← hl, List.map_append]
  exact hown
theorem set_fl20 {w : World} {k : Nat} {a b c d e b' c' d' : Value} {T : TypeId} (h : w.heap[k]? = some (.cells #[a, b, c, d, e] T)) : (((w.setCell ⟨k, 1, none⟩ b').setCell ⟨k, 2, none⟩ c').setCell ⟨k, 3, none⟩ d').heap[k]? = some (.cells #[a, b', c', d', e] T) := by
  have s1 := heap_setCell_same _ _ 1 _ _ b' h
  have s2 := heap_setCell_same _ _ 2 _ _ c' s1
  have s3 := heap_setCell_same _ _ 3 _ _ d' s2
  simpa using s3
theorem FO.fleet {V W : World} {K : Nat} {N : Int} {va vb vm va' vb' : Value} {xs ys ms xs' : List Int} (h : FO V W K N va vb vm xs ys ms) (ha : IS W V.heap.size va' xs') (hb : IS W V.heap.size vb' ys) (hab : ∀ g, va'.ownBlock = some g → vb'.ownBlock ≠ some g) (hn : ∀ q, BkL va' vb' q → q ≠ K ∧ vm.ownBlock ≠ some q) : FO V (((W.setCell ⟨K, 1, none⟩ (.int .i64 N)).setCell ⟨K, 2, none⟩ va').setCell ⟨K, 3, none⟩ vb') K N va' vb' vm xs' ys ms := by
  have hoff : ∀ p, p ≠ K → (((W.setCell ⟨K, 1, none⟩ (.int .i64 N)).setCell ⟨K, 2, none⟩ va').setCell ⟨K, 3, none⟩ vb').heap[p]? = W.heap[p]? := fun p hp => by
    rw [heap_setCell_other _ _ _ _ (by simpa using hp), heap_setCell_other _ _ _ _ (by simpa using hp), heap_setCell_other _ _ _ _ (by simpa using hp)]
  refine ⟨below_setCells K h.lo [vb'] 3 _ (below_setCells K h.lo [va'] 2 _ (below_setCells K h.lo [.int .i64 N] 1 _ h.bl)), ha.kept fun q hq => hoff q (hn q (Or.inl hq)).1, hb.kept fun q hq => hoff q (hn q (Or.inr hq)).1, h.m.kept fun q hq => hoff q (fun e => h.ko.2.2 (by rw [← e]; exact hq)), set_fl20 h.o, h.lo, hab, fun g hg => ⟨fun e => (hn g (Or.inl e)).2 hg, fun e => (hn g (Or.inr e)).2 hg⟩, ⟨fun e => (hn K (Or.inl e)).1 rfl, fun e => (hn K (Or.inr e)).1 rfl, h.ko.2.2⟩⟩

end Go.Proofs.Ytgbbigokbbllgaa
