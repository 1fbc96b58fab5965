/- Proved here: the program's closure that tells errors; where a bending stands in memory. -/
import Derived.Test.YtfjcebgknpccbabClM
import Derived.Test.YtfjcebgknpccbabLwS
import Derived.Laws.CopyOwn
namespace Go.Proofs.Ytfjcebgknpccbab
open Go.RowKit
set_option linter.unusedVariables false
set_option linter.unusedSimpArgs false

/-- What the closure has caught: three boxes. -/
structure Cau (W : World) (p : Nat) (vt : Value) (len : Int) (u : Value) (K : Int) : Prop where
  b0 : W.heap[p]? = some (.cells #[vt] 28)
  b1 : W.heap[p + 1]? = some (.cells #[.int .i64 len] 2)
  b2 : W.heap[p + 1 + 1]? = some (.cells #[u, .int .i64 K] 33)
theorem Cau.below {W V : World} {p B : Nat} {vt : Value} {len : Int} {u : Value} {K : Int} (h : Cau W p vt len u K) (hb : Below B W V) (hp : p + 3 ≤ B) : Cau V p vt len u K :=
  ⟨(hb.block _ (by omega)).trans h.b0, (hb.block _ (by omega)).trans h.b1, (hb.block _ (by omega)).trans h.b2⟩
def fnV (p : Nat) : Value := .func (Fn.func 30) #[] #[.pointer (some ⟨p, 0, none⟩), .pointer (some ⟨p + 1, 0, none⟩), .pointer (some ⟨p + 1 + 1, 0, none⟩)]

set_option maxHeartbeats 3200000 in
theorem impl_cl (K len : Int) {w : World} {p : Nat} {vt v u : Value} {t s : List Ln} {ws : List Int} (hc : Cau w p vt len u K) (hnt : t.length ≤ 1048576) (hn : s.length ≤ 1048576) (ht : RG 2 lnC w vt t) (h : RG 2 lnC w v s) (hu : RdI w u ws) :
    Calls Try.prog 30 #[v, .pointer (some ⟨p, 0, none⟩), .pointer (some ⟨p + 1, 0, none⟩), .pointer (some ⟨p + 1 + 1, 0, none⟩)] w fun e w' => e = .returned (.agg #[.int .i64 (peC t s len ws K), .int .i64 (peV t s len ws K)]) ∧ Below w.heap.size w w' := by
  obtain ⟨a, c, rfl⟩ := h.form
  obtain ⟨b, d, rfl⟩ := hu.form
  obtain ⟨ta, tc, rfl⟩ := ht.form
  obtain ⟨n, hnn⟩ : ∃ n, n = s.length := ⟨_, rfl⟩
  obtain ⟨m, hmm⟩ : ∃ m, m = ws.length := ⟨_, rfl⟩
  obtain ⟨tn, htn⟩ : ∃ n, n = t.length := ⟨_, rfl⟩
  rw [← hnn] at h ⊢
  rw [← hmm] at hu hc
  rw [← htn] at ht hc
  obtain ⟨C, hC⟩ : ∃ C, C = peC t s len ws K := ⟨_, rfl⟩
  obtain ⟨V, hV⟩ : ∃ V, V = peV t s len ws K := ⟨_, rfl⟩
  rw [← hC, ← hV]
  have HP : Hid (∀ W, Below w.heap.size w W → Calls Try.prog 31 #[.slice ta tn tc, .slice a n c, .int .i64 len, .agg #[.slice b m d, .int .i64 K]] W fun e w' => e = .returned (.agg #[.int .i64 C, .int .i64 V]) ∧ Below W.heap.size W w') := fun W hW => by rw [hC, hV]; exact impl_pe K len hnt hn (ht.below hW) (h.below hW) (hu.below hW)
  have c0 := cellOf hc.b0 0 rfl
  have c1 := cellOf hc.b1 0 rfl
  have c2 := cellOf hc.b2 0 rfl
  have c3 := cellOf hc.b2 1 rfl
  have l0 := ltOf hc.b0
  have l1 := ltOf hc.b1
  have l2 := ltOf hc.b2
  clear h hu ht hnt hn hC hV hnn hmm htn hc
  go_enter Try.func30, Try.ntmps30
  go_wp2_with (fail)
  refine (HP.out _ (by (repeat' (first | (with_reducible exact Below.refl _ _) | (with_reducible assumption) | (with_reducible refine Below.setCell ?_ ?_ _) | (with_reducible refine Below.alloc ?_ ?_ _) | (with_reducible refine below_drewN ?_ _) | (with_reducible refine Below.drew ?_) | (with_reducible exact Nat.le_refl _) | omega | (simp; done) | (simp; omega))))).mono ?_
  rintro e w1 ⟨rfl, hb1⟩
  have k1 := (hb1.block w.heap.size (by simp)).trans (heap_alloc_new w _)
  have HB : Hid (Below w.heap.size w w1) := (show Below w.heap.size w _ from by (repeat' (first | (with_reducible exact Below.refl _ _) | (with_reducible assumption) | (with_reducible refine Below.setCell ?_ ?_ _) | (with_reducible refine Below.alloc ?_ ?_ _) | (with_reducible refine below_drewN ?_ _) | (with_reducible refine Below.drew ?_) | (with_reducible exact Nat.le_refl _) | omega | (simp; done) | (simp; omega)))).trans (hb1.mono (by simp))
  obtain ⟨q0, q1, qf, ql⟩ := kn_two k1
  have qf0 := qf 0
  have qf1 := qf 1
  clear hb1 k1 qf c0 c1 c2 c3 l0 l1 l2
  go_wp2
  try simp only [Exit.inBlock, Exit.then]
  refine bodyPost_ret (by simp [results, Try.results30, go_sem, q0, q1]; try rfl) rfl ⟨rfl, ?_⟩
  have hB := HB.out
  (repeat' (first | (with_reducible exact Below.refl _ _) | (with_reducible assumption) | (with_reducible refine Below.setCell ?_ ?_ _) | (with_reducible refine Below.alloc ?_ ?_ _) | (with_reducible refine below_drewN ?_ _) | (with_reducible refine Below.drew ?_) | (with_reducible exact Nat.le_refl _) | omega | (simp; done) | (simp; omega)))

/-- Where a bending stands: its block, its best ends, those that are tried, the errors. All from lo on. -/
structure BD (lo : Nat) (kb gb cb gt ct n p : Nat) (ev : Value) (X T es : List Int) (V : World) : Prop where
  kb_ : V.heap[kb]? = some (.cells #[.slice (some ⟨gb, 0, none⟩) n cb, .slice (some ⟨gt, 0, none⟩) n ct, ev, fnV p] 64)
  be : IS V lo (.slice (some ⟨gb, 0, none⟩) n cb) X
  tr : IS V lo (.slice (some ⟨gt, 0, none⟩) n ct) T
  er : IS V lo ev es
  d1 : gb ≠ gt ∧ kb ≠ gb ∧ kb ≠ gt ∧ lo ≤ kb
  d2 : ∀ g, ev.ownBlock = some g → g ≠ gb ∧ g ≠ gt ∧ g ≠ kb
theorem BD.next {lo kb gb cb gt ct n p : Nat} {ev : Value} {X T es : List Int} {V V' : World} (h : BD lo kb gb cb gt ct n p ev X T es V) (hb : Below V.heap.size V V') : BD lo kb gb cb gt ct n p ev X T es V' :=
  ⟨(hb.block _ (ltOf h.kb_)).trans h.kb_, h.be.bel hb, h.tr.bel hb, h.er.bel hb, h.d1, h.d2⟩
theorem BD.len {lo kb gb cb gt ct n p : Nat} {ev : Value} {X T es : List Int} {V : World} (h : BD lo kb gb cb gt ct n p ev X T es V) : n = X.length ∧ n = T.length := by
  refine ⟨?_, ?_⟩
  · obtain ⟨_, _, e⟩ := h.be.form; injection e
  · obtain ⟨_, _, e⟩ := h.tr.form; injection e
theorem four_at {w : World} {k : Nat} {a b c d : Value} {T : TypeId} (h : w.heap[k]? = some (.cells #[a, b, c, d] T)) :
    w.cell? ⟨k, 0, none⟩ = some a ∧ w.cell? ⟨k, 1, none⟩ = some b ∧ w.cell? ⟨k, 2, none⟩ = some c ∧ w.cell? ⟨k, 3, none⟩ = some d ∧ (∀ i, w.frozen? ⟨k, i, none⟩ = false) ∧ k < w.heap.size :=
  ⟨cellOf h 0 rfl, cellOf h 1 rfl, cellOf h 2 rfl, cellOf h 3 rfl, frozOf h, ltOf h⟩

/-- A row of numbers laid over by another of the same length. -/
theorem IS.over {w : World} {lo g n c : Nat} {xs ys : List Int} (h : IS w lo (.slice (some ⟨g, 0, none⟩) n c) xs) (hl : ys.length = n) :
    ∃ cur : Array Value, w.heap[g]? = some (.cells cur 2 (0, 0)) ∧ n ≤ cur.size ∧ IS (w.setRow g (cur.toList.take 0 ++ (ys.map (Value.int .i64) ++ cur.toList.drop (0 + (ys.map (Value.int .i64)).length))).toArray) lo (.slice (some ⟨g, 0, none⟩) n c) ys := by
  rcases h.2 with ⟨e, _⟩ | ⟨g', cap, cur, e, hB, hg, hn, hm, hs, ht⟩
  · cases e
  · simp only [Value.slice.injEq, Option.some.injEq, Addr.mk.injEq, and_true] at e
    obtain ⟨rfl, hnl, rfl⟩ := e
    refine ⟨cur, hg, by omega, ?_⟩
    unfold IS
    refine ⟨by simp, Or.inr ⟨g, c, _, by rw [hl], hB, setRow_heap w g _ _ _ _ hg, by omega, hm, ?_, ?_⟩⟩
    · simp; omega
    · simp only [List.take_zero, List.nil_append, List.map_map]
      rw [List.take_left' (by simp)]

end Go.Proofs.Ytfjcebgknpccbab
