/- Proved here: lists of shapes of the call's own; partsIn of the program: each part in the one form, by their first boxes. (And ahead of it: Proved here: oneForm of the program.) -/
import Derived.Test.YtokdpgabmifdjabISweep
import Derived.Test.YtokdpgabmifdjabIEdges
import Derived.Test.YtokdpgabmifdjabIHeights
import Derived.Test.YtokdpgabmifdjabTold
import Derived.Test.YtokdpgabmifdjabRowPut
namespace Go.Proofs.Ytokdpgabmifdjab
open Go.RowKit
set_option linter.unusedVariables false
set_option linter.unusedSimpArgs false

theorem BC.kept {w w' : World} {B : Nat} {v : Value} {s : List Bx} (h : BC w B v s) (hb : ∀ g, v.ownBlock = some g → w'.heap[g]? = w.heap[g]?) : BC w' B v s := by
  obtain ⟨a, c, c', rfl, h⟩ := h
  exact ⟨a, c, c', rfl, h.kept fun g hg => hb g (by cases a <;> simp_all [Value.ownBlock])⟩
theorem BC.lt {w : World} {B g : Nat} {v : Value} {s : List Bx} (h : BC w B v s) (hg : v.ownBlock = some g) : B ≤ g := by
  obtain ⟨a, c, c', rfl, h⟩ := h
  exact (World.ownsRow.lt h g (by cases a <;> simp_all [Value.ownBlock])).1
theorem told_bc {w : World} {B : Nat} {v : Value} {s : List Bx} (h : BC w B v s) : BC w B (toldV v s.length) (toldL s) := by
  unfold toldV toldL; split
  · exact h
  · exact (BS.nil _ _).bc

set_option maxHeartbeats 1000000 in
theorem impl_oneForm {w : World} {v : Value} {s : List Bx} (hn : s.length ≤ 100000) (hx : ∀ q ∈ s, q.x0 < q.x1) (h : RB w v s) :
    Calls Try.prog 54 #[v] w fun e w' => ∃ v', e = .returned v' ∧ BC w' w.heap.size v' (opOf (takesK 1) s []) ∧ Below w.heap.size w w' := by
  obtain ⟨a, c, rfl⟩ := h.form
  have H : Hid (∀ w1, Below w.heap.size w w1 → Calls Try.prog 66 #[.slice a s.length c, .slice none 0 0, .func (.func 67) #[] #[]] w1 fun e w' => ∃ v', e = .returned v' ∧ BC w' w1.heap.size v' (opOf (takesK 1) s []) ∧ Below w1.heap.size w1 w') := fun w1 hb => impl_sweep impl_heights impl_edges word_either rfl (by simpa using hn) (h.below hb) (BS.nil w1 0).rb hx (fun q hq => by cases hq)
  clear h hx hn
  go_enter Try.func54, Try.ntmps54
  go_wp2_with (fail)
  refine (H.out w (Below.refl _ _)).mono ?_
  rintro e w1 ⟨v1, rfl, h1, hb1⟩
  obtain ⟨x, y, z, rfl, h2⟩ := h1
  have H1 : Hid (BC w1 w.heap.size (.slice x (opOf (takesK 1) s []).length z) (opOf (takesK 1) s []) ∧ Below w.heap.size w w1) := ⟨⟨x, y, z, rfl, h2⟩, hb1⟩
  clear h2 hb1
  go_wp2
  go_returns
  exact ⟨_, rfl, H1.out.1, H1.out.2⟩

end Go.Proofs.Ytokdpgabmifdjab

namespace Go.Proofs.Ytokdpgabmifdjab
open Go.RowKit
set_option linter.unusedVariables false
set_option linter.unusedSimpArgs false

theorem info_shape : (Try.prog.info? 24).map (fun i => (i.zero, i.size, i.bytes)) = some (some (.slice none 0 0), 1, 24) := by kernel_rfl
/-- The parts whose first box stands ahead of k. -/
def partsL (s : List Bx) (F : Nat → Nat) (n : Nat) : Nat → List (List Bx)
  | 0 => []
  | k + 1 => if F k = k then partsL s F n k ++ [opOf (takesK 1) (selB s F k n) []] else partsL s F n k
theorem partsL_len (s : List Bx) (F : Nat → Nat) (n k : Nat) : (partsL s F n k).length ≤ k := by
  induction k with
  | zero => exact Nat.le_refl _
  | succ k ih =>
    simp only [partsL]; split
    · simp; omega
    · omega
theorem BC.blk {w : World} {B g : Nat} {v : Value} {s : List Bx} (h : BC w B v s) (hg : v.ownBlock = some g) : g < w.heap.size ∧ ∃ cs, w.heap[g]? = some (.cells cs 49 (0, 0)) := by
  obtain ⟨a, c, c', rfl, h⟩ := h
  have hg' : (Value.slice a s.length c).ownBlock = some g := by cases a <;> simp_all [Value.ownBlock]
  refine ⟨(World.ownsRow.lt h g hg').2, ?_⟩
  rcases h.2 with ⟨e, _⟩ | ⟨g', cap, cur, e, hB, hgg, hr⟩
  · rw [e] at hg'; cases hg'
  · rw [e] at hg'
    simp only [Value.ownBlock, Option.some.injEq] at hg'
    subst hg'
    exact ⟨_, hgg⟩
/-- A list of shapes: the row's cells, and each one's boxes; no two have memory in common. -/
structure PL (w : World) (B : Nat) (v : Value) (ls : List (List Bx)) (vs : List Value) : Prop where
  o : w.ownsRow B 24 1 v ls.length vs
  bx : ∀ i, i < ls.length → BC w B (vs.getD i (.slice none 0 0)) (ls.getD i [])
  ds : ∀ i j, i < j → j < ls.length → ∀ g, (vs.getD i (.slice none 0 0)).ownBlock = some g → (vs.getD j (.slice none 0 0)).ownBlock ≠ some g
theorem PL.len {w : World} {B : Nat} {v : Value} {ls : List (List Bx)} {vs : List Value} (h : PL w B v ls vs) : vs.length = ls.length := by have := h.o.1; omega
theorem PL.nil (w : World) (B : Nat) : PL w B (.slice none 0 0) [] [] := ⟨World.ownsRow_nil _ _ _ _, fun i h => absurd h (by simp), fun i j _ h => absurd h (by simp)⟩
theorem PL.below {w w' : World} {B : Nat} {v : Value} {ls : List (List Bx)} {vs : List Value} (h : PL w B v ls vs) (hb : Below w.heap.size w w') : PL w' B v ls vs := by
  refine ⟨⟨h.o.1, ?_⟩, fun i hi => (h.bx i hi).below hb, h.ds⟩
  rcases h.o.2 with h' | ⟨g, cap, cur, rfl, hB, hg, hr⟩
  · exact Or.inl h'
  · refine Or.inr ⟨g, cap, cur, rfl, hB, ?_, hr⟩
    rw [hb.block g (World.ownsRow.lt h.o g rfl).2]; exact hg
theorem PL.low {w : World} {A B : Nat} {v : Value} {ls : List (List Bx)} {vs : List Value} (h : PL w B v ls vs) (hab : A ≤ B) : PL w A v ls vs := by
  refine ⟨⟨h.o.1, ?_⟩, fun i hi => (h.bx i hi).low hab, h.ds⟩
  rcases h.o.2 with h' | ⟨g, cap, cur, rfl, hB, hr⟩
  · exact Or.inl h'
  · exact Or.inr ⟨g, cap, cur, rfl, by omega, hr⟩
theorem PL.form {w : World} {B : Nat} {v : Value} {ls : List (List Bx)} {vs : List Value} (h : PL w B v ls vs) : ∃ a c, v = .slice a ls.length c := by
  rcases h.o.2 with ⟨rfl, h0⟩ | ⟨g, cap, cur, rfl, _⟩
  · exact ⟨none, 0, by rw [h0]⟩
  · exact ⟨_, _, rfl⟩
theorem PL.rowNot {w : World} {B g k : Nat} {v : Value} {ls : List (List Bx)} {vs : List Value} {cs : Array Value} (h : PL w B v ls vs) (hg : v.ownBlock = some g) (hk : w.heap[k]? = some (.cells cs 49 (0, 0))) : k ≠ g := by
  rintro rfl
  rcases h.o.2 with ⟨rfl, _⟩ | ⟨g', cap, cur, rfl, hB, hgg, hr⟩
  · cases hg
  · simp only [Value.ownBlock, Option.some.injEq] at hg
    subst hg
    rw [hgg] at hk
    simp only [Option.some.injEq, Obj.cells.injEq] at hk
    exact absurd hk.2.1 (by decide)
/-- One more shape, whose memory is new. -/
theorem PL.push {wr W w1 : World} {B : Nat} {v v' u : Value} {ls : List (List Bx)} {vs : List Value} {l : List Bx} {ob : Obj} (h : PL wr B v ls vs) (hb : Below wr.heap.size wr W) (hB : B ≤ wr.heap.size) (hu : BC W wr.heap.size u l)
    (ho : w1.ownsRow B 24 1 v' (ls.length + 1) (vs ++ [u])) (hg : (W.alloc ob).grownBy w1 v.ownBlock) : PL w1 B v' (ls ++ [l]) (vs ++ [u]) := by
  have hl := h.len
  have kept : ∀ g cs, g < W.heap.size → W.heap[g]? = some (.cells cs 49 (0, 0)) → w1.heap[g]? = W.heap[g]? := by
    intro g cs hgl hgc
    rw [hg.block g (by simp; omega) ?_]
    · exact Below.heap_alloc _ _ _ hgl
    · intro e
      exact (h.below hb).rowNot e.symm hgc rfl
  have gl : ∀ i, i < ls.length → (vs ++ [u]).getD i (.slice none 0 0) = vs.getD i (.slice none 0 0) := fun i hi => by
    rw [List.getD_eq_getElem?_getD, List.getElem?_append_left (by omega), ← List.getD_eq_getElem?_getD]
  have gt : (vs ++ [u]).getD ls.length (.slice none 0 0) = u := by
    rw [List.getD_eq_getElem?_getD, List.getElem?_append_right (by omega)]; simp [hl]
  refine ⟨by rw [List.length_append]; exact ho, fun i hi => ?_, fun i j hij hj g hgi => ?_⟩
  · simp only [List.length_append, List.length_singleton] at hi
    by_cases e : i < ls.length
    · rw [gl i e, List.getD_eq_getElem?_getD (l := ls ++ [l]), List.getElem?_append_left e, ← List.getD_eq_getElem?_getD]
      have h1 := (h.bx i e).below hb
      exact h1.kept fun g hgo => by obtain ⟨h2, cs, h3⟩ := h1.blk hgo; exact kept g cs h2 h3
    · have ei : i = ls.length := by omega
      rw [ei, gt, List.getD_eq_getElem?_getD, List.getElem?_append_right (by omega)]
      simp only [Nat.sub_self, List.getElem?_cons_zero, Option.getD_some]
      exact (hu.low hB).kept fun g hgo => by obtain ⟨h2, cs, h3⟩ := hu.blk hgo; exact kept g cs h2 h3
  · simp only [List.length_append, List.length_singleton] at hj
    by_cases e : j < ls.length
    · rw [gl i (by omega)] at hgi
      rw [gl j e]
      exact h.ds i j hij e g hgi
    · have ej : j = ls.length := by omega
      rw [ej, gt]
      rw [gl i (by omega)] at hgi
      intro hgu
      have h1 := hu.lt hgu
      have h2 := ((h.bx i (by omega)).blk hgi).1
      omega

set_option maxRecDepth 10000 in
set_option maxHeartbeats 4000000 in
theorem impl_partsIn {w : World} {a : Option Addr} {n c : Nat} {s : List Bx} (hn : n ≤ 150) (hc : n ≤ c) (hG : Good s) (h : RB w (.slice a n c) s) :
    Calls Try.prog 44 #[.slice a n c] w fun e w' => ∃ v F vs, e = .returned v ∧ Lab (Tc s n 0) n F ∧ PL w' w.heap.size v (partsL s F n n) vs ∧ Below w.heap.size w w' := by
  have hlen : s.length = n := by obtain ⟨_, _, e⟩ := h.form; injection e with _ e2 _; exact e2.symm
  have H : Hid (RB w (.slice a n c) s ∧ Good s) := ⟨h, hG⟩
  have HN : Hid (n = s.length) := hlen.symm
  clear h hG hlen
  obtain ⟨i0, hi, hz0, hz1, hz2⟩ := info_parts info_shape
  go_enter Try.func44, Try.ntmps44
  go_wp2_with (fail)
  refine (impl_pf hn hc H.out.2 H.out.1).mono ?_
  rintro e w1 ⟨v1, xs, rfl, hP⟩
  obtain ⟨f, d, hv1⟩ := hP.o.form
  rw [hP.ln] at hv1
  subst hv1
  have HP : Hid _ := hP
  have hw1 := hP.bl.size
  clear hP
  go_wp2_with (fail)
  go_loopw [4, 11] (fun v i wr => ∃ (k : Nat) (vs : List Value), k ≤ n ∧ i = .int .i64 k ∧ Hid (PL wr w1.heap.size v (partsL s (fun j => xs.getD j 0) n k) vs ∧ Below w1.heap.size w1 wr)) (fun _ i _ => n - (intOf i).toNat)
  case atStart => exact ⟨0, [], Nat.zero_le _, rfl, PL.nil _ _, Below.refl _ _⟩
  case round =>
    obtain ⟨k, vs, hk, rfl, hR⟩ := hrel
    by_cases hlt : k < n
    · obtain ⟨g2, o2, he, _, hg2, hj2⟩ := (HP.out.o.below hR.out.2).pos (by rw [HP.out.ln]; omega)
      simp only [Value.slice.injEq] at he
      obtain ⟨rfl, hx1, hx2⟩ := he
      clear hx1 hx2
      have x0 := hj2 k (by rw [HP.out.ln]; exact hlt)
      have hxb : xs.getD k 0 ≤ 100000 := by have := HP.out.le (a := k) hlt; omega
      obtain ⟨x, hxe⟩ : ∃ x, x = xs.getD k 0 := ⟨_, rfl⟩
      rw [← hxe] at x0 hxb
      obtain ⟨l, hl⟩ : ∃ l, l = selB s (fun j => xs.getD j 0) k n := ⟨_, rfl⟩
      have HS : Hid (partsL s (fun j => xs.getD j 0) n (k + 1) = if x = k then partsL s (fun j => xs.getD j 0) n k ++ [opOf (takesK 1) l []] else partsL s (fun j => xs.getD j 0) n k) := by
        unfold Hid; rw [hl, hxe]; rfl
      have hsl := partsL_len s (fun j => xs.getD j 0) n k
      have hll : l.length ≤ 100000 := by rw [hl]; have := selB_len s (fun j => xs.getD j 0) k n; omega
      have HLX : Hid (∀ q ∈ l, q.x0 < q.x1) := by
        intro q hq
        rw [hl] at hq
        obtain ⟨t, ht, _, rfl⟩ := selB_mem hq
        have := H.out.2.at (k := t) (by rw [← HN.out]; exact ht) rfl
        exact this.1
      have HC : Hid (∀ W, Below wr.heap.size wr W → Calls Try.prog 74 #[.slice a n c, .slice (some ⟨g2, 0, none⟩) n d, .int .i64 (k : Int)] W fun e w' => ∃ v, e = .returned v ∧ SW W w' v l) := by
        intro W hW
        have hbW : Below w1.heap.size w1 W := hR.out.2.trans (hW.mono hR.out.2.size)
        rw [hl]
        exact impl_from k hn rfl (by omega) (fun j hj => by have := HP.out.le (a := j) hj; omega) ((H.out.1.below HP.out.bl).below hbW) (HP.out.o.below hbW)
      have HR : Hid _ := hR.out
      have hwsz := hR.out.2.size
      clear hl hxe hj2 hR
      generalize partsL s (fun j => xs.getD j 0) n k = out at HS HR hsl
      have b0 : (0 : Int) ≤ (k : Int) := by omega
      have b1 : (k : Int) < (n : Int) := by omega
      by_cases hxp : x = k
      · subst hxp
        have hof := HR.out.1.form
        obtain ⟨oa, oc, rfl⟩ := hof
        go_wp2_with (fail)
        refine (HC.out _ (Below.refl _ _)).mono ?_
        rintro e w2 ⟨v2, rfl, hS2⟩
        have hof := hS2.o.form
        obtain ⟨ba, bc, rfl⟩ := hof
        have H2 : Hid _ := hS2
        clear hS2 HC
        go_wp2_with (fail)
        refine (impl_oneForm hll HLX.out H2.out.o.rb).mono ?_
        rintro e w3 ⟨v3, rfl, h3, hb3⟩
        have H3 : Hid (BC w3 wr.heap.size v3 (opOf (takesK 1) l []) ∧ Below wr.heap.size wr w3) := ⟨h3.low H2.out.bl.size, H2.out.bl.trans (hb3.mono H2.out.bl.size)⟩
        obtain ⟨ca, cc, cq, hv3, _⟩ := h3
        subst hv3
        have hw3 := H3.out.2.size
        clear hb3 H2
        go_wp2_with (at_builtin; refine wpList_append_own _ rfl _ _ 34 rfl w1.heap.size 24 i0 (.slice none 0 0) 1 24 Try.underlying34 hi hz0 hz1 hz2 rfl (by decide) _ _ _ rfl (World.ownsRow.alloc (HR.out.1.below H3.out.2).o _) ⟨w3.heap.size, 0, none⟩ 1 1 [.slice ca (opOf (takesK 1) l []).length cq] rfl rfl (World.news_of_block (cs := #[.slice ca (opOf (takesK 1) l []).length cq]) (t := 24) (fr := (0, 0)) (heap_alloc_new w3 _)) (by simp [Value.oneCell']) (by unfold maxLen; omega) (by omega) (by simp; omega) ?_; intro v5 w5 hown5 hgrow5 _)
        have R : Hid (PL w5 w1.heap.size v5 (partsL s (fun j => xs.getD j 0) n (x + 1)) (vs ++ [.slice ca (opOf (takesK 1) l []).length cq]) ∧ Below w1.heap.size w1 w5) := by
          unfold Hid
          rw [HS.out, if_pos trivial]
          refine ⟨HR.out.1.push H3.out.2 hwsz H3.out.1 hown5 hgrow5, ?_⟩
          have hb := HR.out.2.trans (H3.out.2.mono hwsz)
          exact (hb.alloc hb.size _).grown hgrow5 (by simp; omega) (fun k hk => (World.ownsRow.lt HR.out.1.o k hk).1)
        clear hown5 hgrow5 HS HR
        go_wp2
        go_roundw
        case rel => exact ⟨x + 1, _, by omega, by go_num, R.out⟩
        case measure => simp [intOf]; omega
      · have R : Hid (PL wr w1.heap.size u4 (partsL s (fun j => xs.getD j 0) n (k + 1)) vs ∧ Below w1.heap.size w1 wr) := by
          unfold Hid
          rw [HS.out, if_neg hxp]
          exact HR.out
        have n1 : ((x : Int) == (k : Int)) = false := by simp; omega
        clear HS HR HC
        go_wp2
        go_roundw
        case rel => exact ⟨k + 1, vs, by omega, by go_num, R.out⟩
        case measure => simp [intOf]; omega
    · have ek : k = n := by omega
      subst ek
      have hof := hR.out.1.form
      obtain ⟨oa, oc, rfl⟩ := hof
      have HR : Hid _ := hR.out
      clear hR
      go_wp2
      go_returns
      exact ⟨_, _, vs, rfl, HP.out.lab, HR.out.1.low hw1, HP.out.bl.trans (HR.out.2.mono hw1)⟩

end Go.Proofs.Ytokdpgabmifdjab
