/- Proved here: the program's runs of a row (appendRuns): sweepE, behind what is there. -/
import Derived.Test.YtmpbcdolikafpaaSeS
import Derived.Test.YtmpbcdolikafpaaIGo
import Derived.Test.YtmpbcdolikafpaaFloat
import Derived.Test.YtmpbcdolikafpaaEdBase
import Derived.Maps.AppendAt
namespace Go.Proofs.Ytmpbcdolikafpaa
open Go.RowKit
set_option linter.unusedVariables false
set_option linter.unusedSimpArgs false

theorem sweepE_out (K : Bool → Bool → Bool) (a b : Int) : ∀ (M : List Ed) (f s : Int) (op : Bool) (x0 : Int) (out : List Bx), sweepE K a b M f s op x0 out = out ++ sweepE K a b M f s op x0 [] := by
  intro M
  induction M with
  | nil => intro f s op x0 out; simp [sweepE]
  | cons e rest ih =>
    intro f s op x0 out
    unfold sweepE
    split
    · exact ih _ _ _ _ _
    · simp only
      rw [ih]
      conv => rhs; arg 2; rw [ih]
      split <;> simp

/-- The word, as the function's number. -/
structure Word (F : Nat) (K : Bool → Bool → Bool) : Prop where
  calls : ∀ p q W, Calls Try.prog F #[.bool p, .bool q] W fun e w' => e = .returned (.bool (K p q)) ∧ w' = W
  enter : ∀ (args : Array Value) (W : World), (callFunc F args).run Try.prog W = .ok (.enter F args) W
  none : K false false = false

theorem enter_of {f : FuncId} {fn : Func} (hf : Try.prog.funcs[f]? = some fn) (hname : (fn.name == "runtime.NumGoroutine") = false) (hb : fn.body.isSome = true) (args : Array Value) (w : World) : (callFunc f args).run Try.prog w = .ok (.enter f args) w := by
  obtain ⟨c, hc⟩ := Option.isSome_iff_exists.1 hb
  have h1 : fn.name ≠ "runtime.NumGoroutine" := by simpa using hname
  simp [callFunc, hf, h1, hc]

/-- What stands while the runs are put behind. -/
structure AR (w wr : World) (B : Nat) (vo v : Value) (b : Bx) (x0 x1 : Int) (l : List Bx) : Prop where
  o : BS wr B v l
  r : wr.heap[w.heap.size]? = some (.cells #[.int .i64 x0, .int .i64 b.y0, .int .i64 x1, .int .i64 b.y1] 34)
  sz : w.heap.size + 1 ≤ wr.heap.size
  ob : v.ownBlock = vo.ownBlock ∨ ∃ k, v.ownBlock = some k ∧ w.heap.size < k
  nb : v.ownBlock ≠ some w.heap.size
  fr : ∀ k, k < w.heap.size → vo.ownBlock ≠ some k → wr.heap[k]? = w.heap[k]?
  bl : Below B w wr
theorem AR.alloc {w wr : World} {B : Nat} {vo v : Value} {b : Bx} {x0 x1 : Int} {l : List Bx} (h : AR w wr B vo v b x0 x1 l) (hB : B ≤ w.heap.size) (ob : Obj) : AR w (wr.alloc ob) B vo v b x0 x1 l := by
  have hz := h.sz
  refine ⟨World.ownsRow.alloc h.o _, (Below.heap_alloc wr _ _ (by omega)).trans h.r, by simp; omega, h.ob, h.nb, fun k hk hv => (Below.heap_alloc wr _ _ (by omega)).trans (h.fr k hk hv), h.bl.alloc (by omega) _⟩
theorem AR.set {w wr : World} {B : Nat} {vo v : Value} {b : Bx} {x0 x1 : Int} {l : List Bx} (h : AR w wr B vo v b x0 x1 l) (hB : B ≤ w.heap.size) (x : Int) :
    AR w (wr.setCell ⟨w.heap.size, 0, none⟩ (.int .i64 x)) B vo v b x x1 l ∧ AR w (wr.setCell ⟨w.heap.size, 2, none⟩ (.int .i64 x)) B vo v b x0 x l := by
  have hz := h.sz
  have k0 := heap_setCell_same wr w.heap.size 0 _ _ (.int .i64 x) h.r
  have k2 := heap_setCell_same wr w.heap.size 2 _ _ (.int .i64 x) h.r
  refine ⟨⟨h.o.kept fun g hg => heap_setCell_other _ _ _ _ (fun e => h.nb (by rw [hg]; exact congrArg some e)), by simpa using k0, by simpa using hz, h.ob, h.nb, fun k hk hv => (heap_setCell_other _ _ _ _ (by simp; omega)).trans (h.fr k hk hv), h.bl.setCell hB _⟩, ⟨h.o.kept fun g hg => heap_setCell_other _ _ _ _ (fun e => h.nb (by rw [hg]; exact congrArg some e)), by simpa using k2, by simpa using hz, h.ob, h.nb, fun k hk hv => (heap_setCell_other _ _ _ _ (by simp; omega)).trans (h.fr k hk hv), h.bl.setCell hB _⟩⟩
theorem AR.push {w wr w1 : World} {B : Nat} {vo v v' : Value} {b : Bx} {x0 x1 : Int} {l : List Bx} {ob : Obj} (h : AR w wr B vo v b x0 x1 l) (hB : B ≤ w.heap.size)
    (ho : w1.ownsRow B 34 4 v' (l.length + 1) (bflat l ++ bcells ⟨x0, b.y0, x1, b.y1⟩)) (hg : (wr.alloc ob).grownBy w1 v.ownBlock) (hv : v'.ownBlock = v.ownBlock ∨ v'.ownBlock = some (wr.alloc ob).heap.size) : AR w w1 B vo v' b x0 x1 (l ++ [⟨x0, b.y0, x1, b.y1⟩]) := by
  have hp := push_step (w := w) (B := B) h.o (Nat.le_refl _) h.bl (by have := h.sz; omega) ho hg
  have ha := h.alloc hB ob
  have hs := hg.size
  have hz := ha.sz
  refine ⟨hp.1, ?_, by omega, ?_, ?_, ?_, hp.2⟩
  · rw [hg.block _ (by omega) (fun e => ha.nb e.symm)]; exact ha.r
  · rcases hv with hv | hv
    · rw [hv]; exact h.ob
    · exact Or.inr ⟨_, hv, by omega⟩
  · rcases hv with hv | hv
    · rw [hv]; exact h.nb
    · rw [hv]; intro e; injection e with e; omega
  · intro k hk hne
    rw [hg.block _ (by omega) (fun e => ?_)]
    · exact ha.fr k hk hne
    · rcases h.ob with h1 | ⟨j, h1, h2⟩
      · exact hne (by rw [← h1]; exact e.symm)
      · rw [h1] at e; injection e with e; omega

theorem AR.drewN {w wr : World} {B : Nat} {vo v : Value} {b : Bx} {x0 x1 : Int} {l : List Bx} (h : AR w wr B vo v b x0 x1 l) (m : Nat) : AR w (wr.drewN m) B vo v b x0 x1 l :=
  ⟨h.o.kept fun _ _ => rfl, h.r, h.sz, h.ob, h.nb, h.fr, below_drewN h.bl _⟩
theorem cell_blk {w w' : World} {g : Nat} (h : w'.heap[g]? = w.heap[g]?) (o : Nat) : w'.cell? ⟨g, o, none⟩ = w.cell? ⟨g, o, none⟩ := by simp [World.cell?, h]
theorem EAt.same {w w' : World} {g o : Nat} {b : Ed} (h : EAt w g o b) (hb : w'.heap[g]? = w.heap[g]?) : EAt w' g o b :=
  ⟨(cell_blk hb _).trans h.x, (cell_blk hb _).trans h.y0, (cell_blk hb _).trans h.y1, (cell_blk hb _).trans h.f, (cell_blk hb _).trans h.s⟩
theorem row_at {w : World} {k : Nat} {a b c d : Int} (h : w.heap[k]? = some (.cells #[.int .i64 a, .int .i64 b, .int .i64 c, .int .i64 d] 34)) :
    w.cell? ⟨k, 0, none⟩ = some (.int .i64 a) ∧ w.cell? ⟨k, 1, none⟩ = some (.int .i64 b) ∧ w.cell? ⟨k, 2, none⟩ = some (.int .i64 c) ∧ w.cell? ⟨k, 3, none⟩ = some (.int .i64 d) ∧
    w.frozen? ⟨k, 0, none⟩ = false ∧ w.frozen? ⟨k, 2, none⟩ = false ∧ k < w.heap.size := by
  refine ⟨by simp [World.cell?, h], by simp [World.cell?, h], by simp [World.cell?, h], by simp [World.cell?, h], by simp [World.frozen?, h], by simp [World.frozen?, h], ?_⟩
  rcases Nat.lt_or_ge k w.heap.size with h' | h'
  · exact h'
  · rw [Array.getElem?_eq_none h'] at h; cases h

set_option maxRecDepth 10000 in
set_option maxHeartbeats 8000000 in
theorem impl_runs_pos (F : Nat) (K : Bool → Bool → Bool) (hF : Hid (Word F K)) (g o c n : Nat) (B : Nat) (vo : Value) (out : List Bx) (s : List Ed) (b : Bx) (w : World) (hout : Hid (BS w B vo out)) (hB : B ≤ w.heap.size) (hl : Hid (s.length = n)) (hn : n ≤ 10000000) (hno : out.length ≤ 100000000000) (hs : Hid (∀ j, j < n → -1 ≤ (eat s j).f ∧ (eat s j).f ≤ 1 ∧ -1 ≤ (eat s j).s ∧ (eat s j).s ≤ 1)) (hg : g < w.heap.size) (hvg : Hid (vo.ownBlock ≠ some g)) (h : ∀ j, j < n → EAt w g (o + j * 5) (eat s j)) :
    Calls Try.prog 52 #[vo, .agg #[.int .i64 b.x0, .int .i64 b.y0, .int .i64 b.x1, .int .i64 b.y1], .slice (some ⟨g, o, none⟩) n c, .func (.func F) #[] #[]] w fun e w' => ∃ v, e = .returned v ∧ BS w' B v (sweepE K b.y0 b.y1 s 0 0 false b.x0 out) ∧ Below B w w' := by
  have H : Hid _ := h
  clear h
  obtain ⟨i0, hi, hz0, hz1, hz2⟩ := info_parts info_box
  obtain ⟨T, hT⟩ : ∃ T, T = sweepE K b.y0 b.y1 s 0 0 false b.x0 out := ⟨_, rfl⟩
  have HT : Hid _ := hT
  rw [← hT]
  clear hT
  have hent := hF.out.enter
  go_enter Try.func52, Try.ntmps52
  go_wp2
  go_loopw [0, 9, 10, 11, 17] (fun v vf vs vp i wr => ∃ (k : Nat) (f t : Int) (p : Bool), k ≤ n ∧ i = .int .i64 k ∧ vf = .int .i64 f ∧ vs = .int .i64 t ∧ vp = .bool p ∧ -(k : Int) ≤ f ∧ f ≤ k ∧ -(k : Int) ≤ t ∧ t ≤ k ∧ Hid (∃ x0 x1 l, AR w wr B vo v b x0 x1 l ∧ l.length ≤ out.length + k ∧ T = sweepE K b.y0 b.y1 (s.drop k) f t p x0 l)) (fun _ _ _ _ i _ => n - (intOf i).toNat)
  case atStart =>
    refine ⟨0, 0, 0, false, Nat.zero_le _, rfl, rfl, rfl, rfl, by omega, by omega, by omega, by omega, b.x0, b.x1, out, ?_, by omega, by rw [HT.out]; rfl⟩
    refine ⟨World.ownsRow.alloc hout.out _, heap_alloc_new w _, by simp, Or.inl rfl, fun e => ?_, fun k hk _ => Below.heap_alloc w _ _ hk, (Below.refl _ _).alloc hB _⟩
    have := (World.ownsRow.lt hout.out _ e).2
    omega
  case round =>
    obtain ⟨k, f, t, p, hk, rfl, rfl, rfl, rfl, f1, f2, t1, t2, hR⟩ := hrel
    by_cases hlt : k < n
    · obtain ⟨x0, x1, l, ha, hll, hTT⟩ := hR.out
      clear hR
      have hblk := ha.fr g hg hvg.out
      obtain ⟨c0, c1, c2, c3, c4⟩ := (H.out k hlt).same hblk
      obtain ⟨s1, s2, s3, s4⟩ := hs.out k hlt
      have hd := drop_eat (s := s) (k := k) (by rw [hl.out]; exact hlt)
      generalize eat s k = e at c0 c1 c2 c3 c4 s1 s2 s3 s4 hd
      have hgr : g < wr.heap.size := by have := ha.sz; omega
      obtain ⟨r0, r1, r2, r3, z0, z2, hrl⟩ := row_at ha.r
      have HA : Hid (AR w wr B vo _ b x0 x1 l) := ha
      have HD : Hid (s.drop k = e :: s.drop (k + 1)) := hd
      have HT2 : Hid (T = sweepE K b.y0 b.y1 (s.drop k) f t p x0 l) := hTT
      clear ha hd hTT
      have b0 : (0 : Int) ≤ (k : Int) := by omega
      have b1 : (k : Int) < (n : Int) := by omega
      by_cases hk1 : k + 1 < n
      · obtain ⟨d0, _, _, _, _⟩ := (H.out (k + 1) hk1).same hblk
        have hd' := drop_eat (s := s) (k := k + 1) (by rw [hl.out]; exact hk1)
        generalize eat s (k + 1) = e' at d0 hd'
        clear hblk
        have b2 : ((k : Int) + 1) < (n : Int) := by omega
        cases d1 : e'.x == e.x with
        | true =>
          have hx : e'.x = e.x := by simpa using d1
          have HX : Hid (nextAt e.x (s.drop (k + 1)) = true) := by unfold Hid; rw [hd']; simp [nextAt, hx]
          clear hd'
          go_wp2_with (fail)
          go_quiet (fail)
          go_wp2
          go_roundw
          case rel =>
            refine ⟨k + 1, f + e.f, t + e.s, p, by omega, by go_num, by go_num, by go_num, rfl, by omega, by omega, by omega, by omega, x0, x1, l, (HA.out.alloc hB _).drewN _, by omega, ?_⟩
            rw [HT2.out, HD.out, sweepE, if_pos HX.out]
          case measure => simp [intOf]; omega
        | false =>
          have hx : ¬ e'.x = e.x := by simpa using d1
          have HX : Hid (nextAt e.x (s.drop (k + 1)) = false) := by unfold Hid; rw [hd']; simp [nextAt, hx]
          clear hd'
          go_wp2_with (fail)
          go_quiet (fail)
          go_wp2_with (fail)
          refine (hF.out.calls _ _ _).mono ?_
          rintro _ _ ⟨rfl, rfl⟩
          obtain ⟨st, hst⟩ : ∃ st, st = K (decide (0 < f + e.f)) (decide (0 < t + e.s)) := ⟨_, rfl⟩
          rw [← hst]
          have HN : Hid (T = sweepE K b.y0 b.y1 (s.drop (k + 1)) (f + e.f) (t + e.s) st (if (st && !p) = true then e.x else x0) (if (p && !st) = true then l ++ [⟨(if (st && !p) = true then e.x else x0), b.y0, e.x, b.y1⟩] else l)) := by
            unfold Hid
            rw [HT2.out, HD.out, sweepE, if_neg (by rw [HX.out]; simp), hst]
          clear hst
          have HA2 : Hid (AR w ((wr.alloc (.cells #[.int .i64 e.x, .int .i64 e.y0, .int .i64 e.y1, .int .i64 e.f, .int .i64 e.s] 94)).drewN nq) B vo _ b x0 x1 l) := (HA.out.alloc hB _).drewN _
          have hwz := HA.out.sz
          cases st with
          | false =>
            cases p with
            | false =>
              go_wp2
              go_roundw
              case rel => exact ⟨k + 1, f + e.f, t + e.s, false, by omega, by go_num, by go_num, by go_num, rfl, by omega, by omega, by omega, by omega, x0, x1, l, HA2.out, by omega, by simpa using HN.out⟩
              case measure => simp [intOf]; omega
            | true =>
              go_wp2_with (at_builtin; refine wpList_append_own_at _ rfl _ _ 66 rfl B 34 i0 (.agg #[.int .i64 0, .int .i64 0, .int .i64 0, .int .i64 0]) 4 32 Try.underlying66 hi hz0 hz1 hz2 rfl (by decide) _ _ _ rfl (World.ownsRow.alloc (HA2.out.set hB e.x).2.o _) ⟨wr.heap.size + 1, 0, none⟩ 1 1 (bcells ⟨x0, b.y0, e.x, b.y1⟩) rfl rfl (World.news_of_block (cs := #[.int .i64 x0, .int .i64 b.y0, .int .i64 e.x, .int .i64 b.y1]) (t := 34) (fr := (0, 0)) (by have := heap_alloc_new (((wr.alloc (.cells #[.int .i64 e.x, .int .i64 e.y0, .int .i64 e.y1, .int .i64 e.f, .int .i64 e.s] 94)).drewN nq).setCell ⟨w.heap.size, 2, none⟩ (.int .i64 e.x)) (.cells #[.int .i64 x0, .int .i64 b.y0, .int .i64 e.x, .int .i64 b.y1] 34); simpa using this)) (by simp [bcells, Value.oneCell']) (by unfold maxLen; omega) (by omega) (by simp; omega) ?_; intro v' w1 hown1 hgrow1 _ hvv)
              have hp := (HA2.out.set hB e.x).2.push hB hown1 hgrow1 hvv
              clear hown1 hgrow1 hvv
              go_roundw
              case rel => exact ⟨k + 1, f + e.f, t + e.s, false, by omega, by go_num, by go_num, by go_num, rfl, by omega, by omega, by omega, by omega, x0, e.x, l ++ [⟨x0, b.y0, e.x, b.y1⟩], hp, by simp; omega, by simpa using HN.out⟩
              case measure => simp [intOf]; omega
          | true =>
            cases p with
            | false =>
              go_wp2
              go_roundw
              case rel => exact ⟨k + 1, f + e.f, t + e.s, true, by omega, by go_num, by go_num, by go_num, rfl, by omega, by omega, by omega, by omega, e.x, x1, l, (HA2.out.set hB e.x).1, by omega, by simpa using HN.out⟩
              case measure => simp [intOf]; omega
            | true =>
              go_wp2
              go_roundw
              case rel => exact ⟨k + 1, f + e.f, t + e.s, true, by omega, by go_num, by go_num, by go_num, rfl, by omega, by omega, by omega, by omega, x0, x1, l, HA2.out, by omega, by simpa using HN.out⟩
              case measure => simp [intOf]; omega
      · have HX : Hid (nextAt e.x (s.drop (k + 1)) = false) := by unfold Hid; rw [List.drop_eq_nil_of_le (by rw [hl.out]; omega)]; rfl
        clear hblk
        have b2 : ¬ ((k : Int) + 1) < (n : Int) := by omega
        go_wp2_with (fail)
        have hw : IntKind.i64.wrap ((k : Int) + 1) = (k : Int) + 1 := by rw [IntKind.wrap_i64]; omega
        have b3 : decide (IntKind.i64.wrap ((k : Int) + 1) < (n : Int)) = false := by rw [hw]; simp; omega
        have b4 : ¬ ((k : Int) + 1) < (n : Int) := by omega
        go_quiet (fail)
        go_wp2_with (fail)
        refine (hF.out.calls _ _ _).mono ?_
        rintro _ _ ⟨rfl, rfl⟩
        obtain ⟨st, hst⟩ : ∃ st, st = K (decide (0 < f + e.f)) (decide (0 < t + e.s)) := ⟨_, rfl⟩
        rw [← hst]
        have HN : Hid (T = sweepE K b.y0 b.y1 (s.drop (k + 1)) (f + e.f) (t + e.s) st (if (st && !p) = true then e.x else x0) (if (p && !st) = true then l ++ [⟨(if (st && !p) = true then e.x else x0), b.y0, e.x, b.y1⟩] else l)) := by
          unfold Hid
          rw [HT2.out, HD.out, sweepE, if_neg (by rw [HX.out]; simp), hst]
        clear hst
        have HA2 : Hid (AR w ((wr.alloc (.cells #[.int .i64 e.x, .int .i64 e.y0, .int .i64 e.y1, .int .i64 e.f, .int .i64 e.s] 94)).drewN nq) B vo _ b x0 x1 l) := (HA.out.alloc hB _).drewN _
        have hwz := HA.out.sz
        cases st with
        | false =>
          cases p with
          | false =>
            go_wp2
            go_roundw
            case rel => exact ⟨k + 1, f + e.f, t + e.s, false, by omega, by go_num, by go_num, by go_num, rfl, by omega, by omega, by omega, by omega, x0, x1, l, HA2.out, by omega, by simpa using HN.out⟩
            case measure => simp [intOf]; omega
          | true =>
            go_wp2_with (at_builtin; refine wpList_append_own_at _ rfl _ _ 66 rfl B 34 i0 (.agg #[.int .i64 0, .int .i64 0, .int .i64 0, .int .i64 0]) 4 32 Try.underlying66 hi hz0 hz1 hz2 rfl (by decide) _ _ _ rfl (World.ownsRow.alloc (HA2.out.set hB e.x).2.o _) ⟨wr.heap.size + 1, 0, none⟩ 1 1 (bcells ⟨x0, b.y0, e.x, b.y1⟩) rfl rfl (World.news_of_block (cs := #[.int .i64 x0, .int .i64 b.y0, .int .i64 e.x, .int .i64 b.y1]) (t := 34) (fr := (0, 0)) (by have := heap_alloc_new (((wr.alloc (.cells #[.int .i64 e.x, .int .i64 e.y0, .int .i64 e.y1, .int .i64 e.f, .int .i64 e.s] 94)).drewN nq).setCell ⟨w.heap.size, 2, none⟩ (.int .i64 e.x)) (.cells #[.int .i64 x0, .int .i64 b.y0, .int .i64 e.x, .int .i64 b.y1] 34); simpa using this)) (by simp [bcells, Value.oneCell']) (by unfold maxLen; omega) (by omega) (by simp; omega) ?_; intro v' w1 hown1 hgrow1 _ hvv)
            have hp := (HA2.out.set hB e.x).2.push hB hown1 hgrow1 hvv
            clear hown1 hgrow1 hvv
            go_roundw
            case rel => exact ⟨k + 1, f + e.f, t + e.s, false, by omega, by go_num, by go_num, by go_num, rfl, by omega, by omega, by omega, by omega, x0, e.x, l ++ [⟨x0, b.y0, e.x, b.y1⟩], hp, by simp; omega, by simpa using HN.out⟩
            case measure => simp [intOf]; omega
        | true =>
          cases p with
          | false =>
            go_wp2
            go_roundw
            case rel => exact ⟨k + 1, f + e.f, t + e.s, true, by omega, by go_num, by go_num, by go_num, rfl, by omega, by omega, by omega, by omega, e.x, x1, l, (HA2.out.set hB e.x).1, by omega, by simpa using HN.out⟩
            case measure => simp [intOf]; omega
          | true =>
            go_wp2
            go_roundw
            case rel => exact ⟨k + 1, f + e.f, t + e.s, true, by omega, by go_num, by go_num, by go_num, rfl, by omega, by omega, by omega, by omega, x0, x1, l, HA2.out, by omega, by simpa using HN.out⟩
            case measure => simp [intOf]; omega
    · have e : Hid (s.drop k = []) := List.drop_eq_nil_of_le (by rw [hl.out]; omega)
      go_wp2
      go_returns
      obtain ⟨x0, x1, l, ha, _, hT⟩ := hR.out
      rw [e.out] at hT
      exact ⟨_, rfl, by rw [hT]; exact ha.o, ha.bl⟩

set_option maxHeartbeats 1000000 in
theorem impl_runs_zero (F : Nat) (K : Bool → Bool → Bool) (hF : Hid (Word F K)) (a : Option Addr) (c B : Nat) (vo : Value) (out : List Bx) (b : Bx) (w : World) (hout : Hid (BS w B vo out)) (hB : B ≤ w.heap.size) :
    Calls Try.prog 52 #[vo, .agg #[.int .i64 b.x0, .int .i64 b.y0, .int .i64 b.x1, .int .i64 b.y1], .slice a 0 c, .func (.func F) #[] #[]] w fun e w' => ∃ v, e = .returned v ∧ BS w' B v out ∧ Below B w w' := by
  go_enter Try.func52, Try.ntmps52
  go_wp2
  refine wp_loop_rounds 1 ?_
  rw [rounds_succ]
  go_wp2
  go_returns
  exact ⟨_, rfl, World.ownsRow.alloc hout.out _, (Below.refl _ _).alloc hB _⟩

/-- The runs of a row are put behind what is there. -/
theorem impl_runs {F : Nat} {K : Bool → Bool → Bool} (hF : Word F K) {B C : Nat} {vo ve : Value} {out : List Bx} {s : List Ed} (b : Bx) {w : World} (hout : BS w B vo out) (he : ES w C ve s) (hB : B ≤ w.heap.size) (hn : s.length ≤ 10000000) (hno : out.length ≤ 100000000000)
    (hs : ∀ e ∈ s, -1 ≤ e.f ∧ e.f ≤ 1 ∧ -1 ≤ e.s ∧ e.s ≤ 1) (hv : ∀ g, ve.ownBlock = some g → vo.ownBlock ≠ some g) :
    Calls Try.prog 52 #[vo, .agg #[.int .i64 b.x0, .int .i64 b.y0, .int .i64 b.x1, .int .i64 b.y1], ve, .func (.func F) #[] #[]] w fun e w' => ∃ v, e = .returned v ∧ BS w' B v (out ++ sweepE K b.y0 b.y1 s 0 0 false b.x0 []) ∧ Below B w w' := by
  rw [← sweepE_out]
  rcases Nat.eq_zero_or_pos s.length with h0 | hp
  · obtain rfl : s = [] := List.length_eq_zero_iff.1 h0
    obtain ⟨a, c, rfl⟩ := he.form
    exact impl_runs_zero F K hF a c B vo out b w hout hB
  · obtain ⟨g, c, rfl, hC, hg, hj⟩ := he.pos hp
    exact impl_runs_pos F K hF g 0 c _ B vo out s b w hout hB rfl hn hno (fun j hjl => by rw [eat_get hjl]; exact hs _ (List.getElem_mem _)) hg (hv g rfl) hj

end Go.Proofs.Ytmpbcdolikafpaa
