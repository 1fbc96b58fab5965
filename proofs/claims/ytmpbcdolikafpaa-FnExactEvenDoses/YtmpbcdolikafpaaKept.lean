/- Proved here: small rules on worlds that have grown: what was there is there still. No condition on the program. (And ahead of it: Proved here: worlds that differ in some blocks alone. No condition on the program.) (And ahead of it: Proved here: copiedShots of the program.) (And ahead of it: Proved here: copy of a whole list into a list of the call's own that is as long, whatever the size of an element. No condition on the program.) (And ahead of it: Proved here: the arithmetic of evening doses: one dose turned, one tried, a round, all rounds. No condition on the program. (And ahead of it: Proved here: DoseError of the model: weF, dsV. (And ahead of it: Proved here: a number between two others, of the model (l4In).))) -/
import Derived.Test.YtmpbcdolikafpaaIntsBase
import Derived.Test.YtmpbcdolikafpaaSeM
import Derived.Test.YtmpbcdolikafpaaSeS
import Derived.Test.YtmpbcdolikafpaaGen
import Derived.Laws.CopyOwn
import Derived.Test.YtmpbcdolikafpaaBoxF
namespace Go.Proofs.Ytmpbcdolikafpaa
open Go.RowKit
set_option linter.unusedVariables false
set_option linter.unusedSimpArgs false

set_option maxHeartbeats 800000 in
theorem spec_in10 (n a b : Int) (w : World) : Calls Try.prog 15 #[.int .i64 n, .int .i64 a, .int .i64 b] w fun e w' => e = .returned (.bool (decide (a ≤ n ∧ n ≤ b))) ∧ w' = w := by
  obtain ⟨r, hr⟩ : ∃ r, r = decide (a ≤ n ∧ n ≤ b) := ⟨_, rfl⟩
  rw [← hr]
  have H : Hid ((¬ a ≤ n → r = false) ∧ (a ≤ n → n ≤ b → r = true) ∧ (a ≤ n → ¬ n ≤ b → r = false)) := by
    unfold Hid; rw [hr]
    exact ⟨fun h => by simp [h], fun h1 h2 => by simp [h1, h2], fun h1 h2 => by simp [h1, h2]⟩
  clear hr
  by_cases h1 : a ≤ n
  · by_cases h2 : n ≤ b
    · obtain rfl := H.out.2.1 h1 h2
      go_enter Try.func15, Try.ntmps15
      go_wp2
      go_returns
      exact ⟨rfl, rfl⟩
    · obtain rfl := H.out.2.2 h1 h2
      go_enter Try.func15, Try.ntmps15
      go_wp2
      go_returns
      exact ⟨rfl, rfl⟩
  · obtain rfl := H.out.1 h1
    go_enter Try.func15, Try.ntmps15
    go_wp2
    go_returns
    exact ⟨rfl, rfl⟩

end Go.Proofs.Ytmpbcdolikafpaa

namespace Go.Proofs.Ytmpbcdolikafpaa
open Go.RowKit
set_option linter.unusedVariables false
set_option linter.unusedSimpArgs false

/-- What DoseError tells beside its code. -/
def dsE (l : List Sh) (x : Wt) (z : Int) : Int := erA l x.f (spV (mapG l x.f) (htN x.f) (wdN x.f) x.r.toNat x.o x.s) z (wdN x.f) (htN x.f)
def dsV (l : List Sh) (x : Wt) (z : Int) : Int := if weF l x z = 0 then dsE l x z else 0
/-- The writer and the answer's place lie as they were laid. -/
structure FE (w wr : World) (x : Wt) : Prop where
  b : wr.heap[w.heap.size]? = some (.cells #[.int .i64 x.f.x0, .int .i64 x.f.y0, .int .i64 x.f.x1, .int .i64 x.f.y1, .int .i64 x.o, .int .i64 x.s, .int .i64 x.r] 36)
  r : wr.heap[w.heap.size + 1]? = some (.cells #[.int .i64 0, .int .i64 0] 44)
  bl : Below w.heap.size w wr
  sz : w.heap.size + 2 ≤ wr.heap.size
theorem FE.next {w wr W : World} {a : Wt} (h : FE w wr a) (hb : Below wr.heap.size wr W) : FE w W a :=
  ⟨(hb.block _ (by have := h.sz; omega)).trans h.b, (hb.block _ (by have := h.sz; omega)).trans h.r, h.bl.trans (hb.mono h.bl.size), Nat.le_trans h.sz hb.size⟩
theorem FE.start (w : World) (x : Wt) : FE w ((w.alloc (.cells #[.int .i64 x.f.x0, .int .i64 x.f.y0, .int .i64 x.f.x1, .int .i64 x.f.y1, .int .i64 x.o, .int .i64 x.s, .int .i64 x.r] 36)).alloc (.cells #[.int .i64 0, .int .i64 0] 44)) x := by
  have h1 := heap_alloc_new (w.alloc (.cells #[.int .i64 x.f.x0, .int .i64 x.f.y0, .int .i64 x.f.x1, .int .i64 x.f.y1, .int .i64 x.o, .int .i64 x.s, .int .i64 x.r] 36)) (.cells #[.int .i64 0, .int .i64 0] 44)
  simp only [World.size_alloc] at h1
  exact ⟨(Below.heap_alloc _ _ _ (by simp)).trans (heap_alloc_new w _), h1, by (repeat' (first | (with_reducible exact Below.refl _ _) | (with_reducible assumption) | (with_reducible refine Below.setCell ?_ ?_ _) | (with_reducible refine Below.alloc ?_ ?_ _) | (with_reducible refine below_drewN ?_ _) | (with_reducible refine Below.drew ?_) | (with_reducible exact Nat.le_refl _) | omega | (simp; done) | (simp; omega))), by simp⟩

set_option maxRecDepth 10000 in
set_option maxHeartbeats 8000000 in
theorem spec_ds (l : List Sh) (x : Wt) (z : Int) {w : World} {v : Value} (hn : l.length ≤ 1048576) (h : RG 5 shC w v l) :
    Calls Try.prog 14 #[v, .agg #[.int .i64 x.f.x0, .int .i64 x.f.y0, .int .i64 x.f.x1, .int .i64 x.f.y1, .int .i64 x.o, .int .i64 x.s, .int .i64 x.r], .int .i64 z] w fun e w' => e = .returned (.agg #[.int .i64 (weF l x z), .int .i64 (dsV l x z)]) ∧ Below w.heap.size w w' := by
  obtain ⟨a, c, rfl⟩ := h.form
  obtain ⟨n, hnn⟩ : ∃ n, n = l.length := ⟨_, rfl⟩
  obtain ⟨C, hC⟩ : ∃ C, C = weF l x z := ⟨_, rfl⟩
  obtain ⟨V, hV⟩ : ∃ V, V = dsV l x z := ⟨_, rfl⟩
  obtain ⟨y, hy⟩ : ∃ y, y = wsF l x := ⟨_, rfl⟩
  rw [← hnn] at h ⊢
  have H : Hid (RG 5 shC w (.slice a n c) l ∧ y = wsF l x ∧ C = weF l x z ∧ V = dsV l x z) := ⟨h, hy, hC, hV⟩
  have HSF : Hid (∀ W : World, Below w.heap.size w W → Calls Try.prog 29 #[.slice a n c, .agg #[.int .i64 x.f.x0, .int .i64 x.f.y0, .int .i64 x.f.x1, .int .i64 x.f.y1, .int .i64 x.o, .int .i64 x.s, .int .i64 x.r]] W fun e w' => e = .returned (.int .i64 y) ∧ Below W.heap.size W w') := fun W hW => by rw [hy]; exact spec_wsF l x hn (h.below hW)
  rw [← hC, ← hV]
  clear h hnn hC hV hy hn
  go_enter Try.func14, Try.ntmps14
  go_wp2_with (fail)
  refine (HSF.out _ (by (repeat' (first | (with_reducible exact Below.refl _ _) | (with_reducible assumption) | (with_reducible refine Below.setCell ?_ ?_ _) | (with_reducible refine Below.alloc ?_ ?_ _) | (with_reducible refine below_drewN ?_ _) | (with_reducible refine Below.drew ?_) | (with_reducible exact Nat.le_refl _) | omega | (simp; done) | (simp; omega))))).mono ?_
  rintro e w1 ⟨rfl, hb1⟩
  have HK1 : Hid (FE w w1 x) := (FE.start w x).next hb1
  clear hb1 HSF
  by_cases q0 : y = 0
  case neg =>
    have HE : Hid (C = y ∧ V = 0) := by
      have e : weF l x z = y := by rw [weF, if_neg (by rw [← H.out.2.1]; exact q0), H.out.2.1]
      exact ⟨H.out.2.2.1.trans e, by rw [H.out.2.2.2, dsV, if_neg (by rw [e]; exact q0)]⟩
    obtain ⟨r0, r1, f0, f1, hlt2⟩ := two_fw HK1.out.r
    go_wp2
    refine bodyPost_ret (by simp [results, Try.results14, go_sem, r0, r1, hlt2]; rfl) rfl ⟨?_, ?_⟩
    · rw [HE.out.1, HE.out.2]
    · have hb := HK1.out.bl
      (repeat' (first | (with_reducible exact Below.refl _ _) | (with_reducible assumption) | (with_reducible refine Below.setCell ?_ ?_ _) | (with_reducible refine Below.alloc ?_ ?_ _) | (with_reducible refine below_drewN ?_ _) | (with_reducible refine Below.drew ?_) | (with_reducible exact Nat.le_refl _) | omega | (simp; done) | (simp; omega)))
  have HS0 : Hid (wsF l x = 0) := by unfold Hid; rw [← H.out.2.1]; exact q0
  subst q0
  have HIN : Hid (Calls Try.prog 15 #[.int .i64 z, .int .i64 0, .int .i64 1000000000] w1 fun e w' => e = .returned (.bool (decide (0 ≤ z ∧ z ≤ 1000000000))) ∧ w' = w1) := spec_in10 z 0 1000000000 w1
  go_wp2_with (fail)
  refine HIN.out.mono ?_
  rintro e w2 ⟨rfl, rfl⟩
  clear HIN
  by_cases q1 : 0 ≤ z ∧ z ≤ 1000000000
  case neg =>
    have HE : Hid (C = 3 ∧ V = 0) := by
      have e : weF l x z = 3 := by rw [weF, if_pos HS0.out, if_neg q1]
      exact ⟨H.out.2.2.1.trans e, by rw [H.out.2.2.2, dsV, if_neg (by rw [e]; decide)]⟩
    obtain ⟨r0, r1, f0, f1, hlt2⟩ := two_fw HK1.out.r
    rw [decide_eq_false q1]
    clear q1
    go_wp2
    refine bodyPost_ret (by simp [results, Try.results14, go_sem, r0, r1, hlt2]; rfl) rfl ⟨?_, ?_⟩
    · rw [HE.out.1, HE.out.2]
    · have hb := HK1.out.bl
      (repeat' (first | (with_reducible exact Below.refl _ _) | (with_reducible assumption) | (with_reducible refine Below.setCell ?_ ?_ _) | (with_reducible refine Below.alloc ?_ ?_ _) | (with_reducible refine below_drewN ?_ _) | (with_reducible refine Below.drew ?_) | (with_reducible exact Nat.le_refl _) | omega | (simp; done) | (simp; omega)))
  have HE : Hid (C = 0 ∧ V = dsE l x z) := by
    have e : weF l x z = 0 := by rw [weF, if_pos HS0.out, if_pos q1]
    exact ⟨H.out.2.2.1.trans e, by rw [H.out.2.2.2, dsV, if_pos e]⟩
  have HCL : Hid (Calls Try.prog 16 #[.slice a n c, .agg #[.int .i64 x.f.x0, .int .i64 x.f.y0, .int .i64 x.f.x1, .int .i64 x.f.y1, .int .i64 x.o, .int .i64 x.s, .int .i64 x.r], .int .i64 z] w2 fun e w' => e = .returned (.int .i64 (dsE l x z)) ∧ Below w2.heap.size w2 w') := by
    obtain ⟨g1, g2, g3, g4, g5, g6⟩ := spR_good HS0.out
    have h9 := spec_er l x.f x.o x.s x.r.toNat z g1.1 g1.2 g2 g3 g4 g5 q1 (H.out.1.below HK1.out.bl)
    rw [← g6] at h9
    exact h9
  rw [decide_eq_true q1]
  obtain ⟨p0, p1, p2, p3, p4, p5, p6, pf, pl⟩ := wt_seven HK1.out.b
  clear pf q1
  go_wp2_with (fail)
  refine HCL.out.mono ?_
  rintro e w3 ⟨rfl, hb3⟩
  have HK3 : Hid (FE w w3 x) := HK1.out.next hb3
  obtain ⟨r0, r1, f0, f1, hlt2⟩ := two_fw HK3.out.r
  rw [← HE.out.2]
  clear hb3 HCL HK1 p0 p1 p2 p3 p4 p5 p6 pl
  go_wp2
  refine bodyPost_ret (by simp [results, Try.results14, go_sem, r0, r1, hlt2]; rfl) rfl ⟨?_, ?_⟩
  · rw [HE.out.1]
  · have hb := HK3.out.bl
    (repeat' (first | (with_reducible exact Below.refl _ _) | (with_reducible assumption) | (with_reducible refine Below.setCell ?_ ?_ _) | (with_reducible refine Below.alloc ?_ ?_ _) | (with_reducible refine below_drewN ?_ _) | (with_reducible refine Below.drew ?_) | (with_reducible exact Nat.le_refl _) | omega | (simp; done) | (simp; omega)))

end Go.Proofs.Ytmpbcdolikafpaa

namespace Go.Proofs.Ytmpbcdolikafpaa
set_option linter.unusedVariables false
set_option linter.unusedSimpArgs false

/-- The shot at a place; a shot's dose turned. -/
def shA (L : List Sh) (k : Nat) : Sh := L.getD k ⟨⟨0, 0, 0, 0⟩, 0⟩
theorem shA_get {L : List Sh} {k : Nat} (h : k < L.length) : shA L k = L[k] := by
  unfold shA; rw [List.getD_eq_getElem?_getD, List.getElem?_eq_getElem h]; rfl
def setD (L : List Sh) (k : Nat) (d : Int) : List Sh := L.set k ⟨(shA L k).b, (shA L k).d + d⟩
theorem setD_len (L : List Sh) (k : Nat) (d : Int) : (setD L k d).length = L.length := by simp [setD]
theorem setD_bx (L : List Sh) (k : Nat) (d : Int) : bxS (setD L k d) = bxS L := by
  unfold bxS setD
  apply List.ext_getElem?
  intro j
  rw [List.getElem?_map, List.getElem?_map, List.getElem?_set]
  by_cases hj : k = j
  · subst hj
    rw [if_pos rfl]
    by_cases hk : k < L.length
    · rw [if_pos hk, shA_get hk, List.getElem?_eq_getElem hk]; rfl
    · rw [if_neg hk, List.getElem?_eq_none (by omega)]
  · rw [if_neg hj]
theorem setD_mem {L : List Sh} {k : Nat} {d : Int} {q : Sh} (h : q ∈ setD L k d) : q ∈ L ∨ (q.d = (shA L k).d + d) := by
  unfold setD at h
  rcases List.mem_or_eq_of_mem_set h with h | rfl
  · exact Or.inl h
  · exact Or.inr rfl
/-- Which cells count hangs on the boxes alone. -/
theorem cv_bx {l t : List Sh} (h : bxS t = bxS l) (x y : Int) : cvB t x y = cvB l x y := by unfold cvB; rw [h]

/-- Where an evening stands: the book, the errors. -/
abbrev EvS := List Sh × List Int
def lstE (es : List Int) : Int := es.getD (es.length - 1) 0
/-- One dose tried; E tells errors. -/
def evT (E : List Sh → Int) (k : Nat) (d : Int) (S : EvS) : Bool × EvS :=
  if (0 ≤ (shA S.1 k).d + d ∧ (shA S.1 k).d + d ≤ 1000) ∧ E (setD S.1 k d) < lstE S.2 then (true, (setD S.1 k d, S.2 ++ [E (setD S.1 k d)])) else (false, S)
def evA (E : List Sh → Int) (k : Nat) (S : EvS) : Bool × EvS :=
  if (evT E k 1 S).1 = true then evT E k 1 S else evT E k (-1) S
/-- The first k shots of a round. -/
def evR (E : List Sh → Int) : Nat → EvS → Bool × EvS
  | 0, S => (false, S)
  | k + 1, S => ((evR E k S).1 || (evA E k (evR E k S).2).1, (evA E k (evR E k S).2).2)
def evN (E : List Sh → Int) (n : Nat) : Nat → EvS → EvS
  | 0, S => S
  | m + 1, S => if (evR E n S).1 = true then evN E n m (evR E n S).2 else (evR E n S).2
/-- What holds all along: the same boxes, doses in their range; errors, not too many. -/
structure EvO (B : List Bx) (m : Nat) (S : EvS) : Prop where
  bx : bxS S.1 = B
  dr : ∀ q ∈ S.1, 0 ≤ q.d ∧ q.d ≤ 1000
  e0 : 0 < S.2.length
  em : S.2.length ≤ m
theorem EvO.mono {B : List Bx} {m m' : Nat} {S : EvS} (h : EvO B m S) (hm : m ≤ m') : EvO B m' S := ⟨h.bx, h.dr, h.e0, Nat.le_trans h.em hm⟩
theorem EvO.len {B : List Bx} {m : Nat} {S : EvS} (h : EvO B m S) : S.1.length = B.length := by
  have := congrArg List.length h.bx
  unfold bxS at this
  rw [List.length_map] at this
  exact this
theorem evT_ok {E : List Sh → Int} {B : List Bx} {k m : Nat} {d : Int} {S : EvS} (h : EvO B m S) : EvO B (m + 1) (evT E k d S).2 := by
  unfold evT
  split
  · rename_i hc
    refine ⟨(setD_bx S.1 k d).trans h.bx, fun q hq => ?_, by simp, by have := h.em; simp; omega⟩
    rcases setD_mem hq with hq | hq
    · exact h.dr q hq
    · rw [hq]; exact hc.1
  · exact h.mono (by omega)
theorem evT_no {E : List Sh → Int} {k : Nat} {d : Int} {S : EvS} (h : ¬ (evT E k d S).1 = true) : (evT E k d S).2 = S := by
  unfold evT at h ⊢
  split
  · rename_i hc; rw [if_pos hc] at h; exact absurd rfl h
  · rfl
theorem evA_ok {E : List Sh → Int} {B : List Bx} {k m : Nat} {S : EvS} (h : EvO B m S) : EvO B (m + 1) (evA E k S).2 := by
  unfold evA
  split
  · exact evT_ok h
  · exact evT_ok h
theorem evR_ok {E : List Sh → Int} {B : List Bx} {m : Nat} : ∀ (k : Nat) {S : EvS}, EvO B m S → EvO B (m + k) (evR E k S).2
  | 0, S, h => h
  | k + 1, S, h => by rw [evR]; exact evA_ok (evR_ok k h)
theorem evN_ok {E : List Sh → Int} {B : List Bx} {n : Nat} : ∀ (r : Nat) {m : Nat} {S : EvS}, EvO B m S → EvO B (m + n * r) (evN E n r S)
  | 0, m, S, h => by rw [evN]; exact h.mono (by omega)
  | r + 1, m, S, h => by
    have h1 := evR_ok (E := E) n h
    rw [evN]
    split
    · exact (evN_ok r h1).mono (by rw [Nat.mul_add]; omega)
    · exact h1.mono (by rw [Nat.mul_add]; omega)

/-- What EvenDoses answers: its code, the shots, the errors. -/
def evC (l : List Sh) (x : Wt) (z r : Int) : Int := if weF l x z = 0 then (if 0 ≤ r ∧ r ≤ 50 then 0 else 3) else weF l x z
def evF (l : List Sh) (x : Wt) (z r : Int) : EvS := evN (fun t => dsE t x z) l.length r.toNat (l, [dsE l x z])
def evL (l : List Sh) (x : Wt) (z r : Int) : List Sh := if evC l x z r = 0 then (evF l x z r).1 else []
def evE (l : List Sh) (x : Wt) (z r : Int) : List Int := if evC l x z r = 0 then (evF l x z r).2 else []

end Go.Proofs.Ytmpbcdolikafpaa

namespace Go.Proofs.Ytmpbcdolikafpaa
open Go.RowKit
set_option linter.unusedVariables false
set_option linter.unusedSimpArgs false

theorem run_copy_all {P : Program} (w : World) (dT sT ty elem : TypeId) (g n dCap sCap m : Nat) (sp : Option Addr) (cur : Array Value) (t : TypeId) (cs : List Value)
    (hu : P.underlying dT = some (.slice elem)) (hs : (P.info? elem).map (·.size) = some m) (hg : w.heap[g]? = some (.cells cur t (0, 0))) (hn : cs.length = n * m)
    (hsrc : 0 < n → ∃ ad, sp = some ad ∧ ∀ j v, cs[j]? = some v → w.cell? (ad.add j) = some v) (hfit : cs.length ≤ cur.size) (h1 : ∀ v ∈ cs, v.oneCell' = true) :
    (Builtin.copy_ #[dT, sT] ty #[.slice (some ⟨g, 0, none⟩) n dCap, .slice sp n sCap]).run P w = .ok (goInt n) (w.setRow g (cs ++ cur.toList.drop cs.length).toArray) := by
  have hst := run_storeCells_at P g 0 t cs 0 cur w hg (by simpa using hfit) h1
  cases hq : P.info? elem with
  | none => simp [hq] at hs
  | some i =>
    have hi : i.size = m := by simpa [hq] using hs
    by_cases h0 : n = 0
    · subst h0
      obtain rfl : cs = [] := List.eq_nil_of_length_eq_zero (by simpa using hn)
      have hl : ∀ (x : Addr), (loadCells x 0).run P w = .ok #[] w := fun x => by simpa using run_loadCells_list (P := P) w x [] (by simp)
      have he : w.setRow g cur = w := setRow_self w g cur t (0, 0) hg
      cases sp <;> simp [Builtin.copy_, run_underlying hu, Builtin.lenOf, Builtin.firstCells, sizeOf, typeInfo, hq, storeCells, hl, he]
    · obtain ⟨ad, rfl, hsrc2⟩ := hsrc (by omega)
      have hl := run_loadCells_list (P := P) w ad cs hsrc2
      rw [hn] at hl
      simp at hst
      simp [Builtin.copy_, run_underlying hu, Builtin.lenOf, Builtin.firstCells, sizeOf, typeInfo, hq, hi, hl, hst]

theorem wpList_copy_all {P : Program} {w : World} {ops : Array Oper} {rest : List Oper} {o : Oper} {a : Act} {Q : Exit → Act → World → Prop} (hgd : o.guard = none) (d s : Operand) (dT sT : TypeId)
    (ho : o.op = .call { callee := .builtin .copy, args := #[d, s], argTypes := #[dT, sT] }) (elem : TypeId) (hu : P.underlying dT = some (.slice elem)) (m : Nat) (hsz : (P.info? elem).map (·.size) = some m)
    {α : Type} (enc : α → List Value) (hk : ∀ x, (enc x).length = m) (ho1 : ∀ x, ∀ u ∈ enc x, u.oneCell' = true)
    (g n dCap sCap : Nat) (sp : Option Addr) (hd : a.eval d = .slice (some ⟨g, 0, none⟩) n dCap) (hs : a.eval s = .slice sp n sCap) (B : Nat) (ys : List Value)
    (hown : w.ownsRow B elem m (.slice (some ⟨g, 0, none⟩) n dCap) n ys) (L : List α) (hsrc : RG m enc w (.slice sp n sCap) L)
    (w0 : World) (hb : Below B w0 w)
    (h : ∀ w', Hid (OG elem m enc w' B (.slice (some ⟨g, 0, none⟩) n dCap) L) → Hid (Below B w0 w') → wpList P ops Q rest (a.put o.dst (goInt n)) w') :
    wpList P ops Q (o :: rest) a w := by
  have hnl : n = L.length := hsrc.len
  rcases hown.2 with ⟨e, _⟩ | ⟨g', cap, cur, e, hB, hg, hnc, hm, hsz2, htk⟩
  · cases e
  simp only [Value.slice.injEq, Option.some.injEq, Addr.mk.injEq, and_true, true_and] at e
  obtain ⟨rfl, rfl⟩ := e
  have hcl : (L.flatMap enc).length = n * m := by rw [fm_length hk, hnl]
  have hfit : (L.flatMap enc).length ≤ cur.size := by rw [hcl, hsz2]; exact Nat.mul_le_mul_right m hnc
  have hone : ∀ v ∈ L.flatMap enc, v.oneCell' = true := fun v hv => by
    obtain ⟨x, _, hx⟩ := List.mem_flatMap.1 hv
    exact ho1 x v hx
  have hs2 : 0 < n → ∃ ad, sp = some ad ∧ ∀ j v, (L.flatMap enc)[j]? = some v → w.cell? (ad.add j) = some v := fun h0 => by
    obtain ⟨g2, o2, c2, e2, hg2, hj⟩ := hsrc.pos (by omega)
    simp only [Value.slice.injEq] at e2
    obtain ⟨rfl, _, _⟩ := e2
    refine ⟨_, rfl, fun j v hv => ?_⟩
    have hjl : j < L.length * m := by
      rw [← fm_length hk]
      rcases Nat.lt_or_ge j (L.flatMap enc).length with h' | h'
      · exact h'
      · rw [List.getElem?_eq_none h'] at hv; cases hv
    have hm0 : 0 < m := by
      rcases Nat.eq_zero_or_pos m with h' | h'
      · rw [h', Nat.mul_zero] at hjl; omega
      · exact h'
    have hq : j / m < L.length := Nat.div_lt_of_lt_mul (by rw [Nat.mul_comm]; exact hjl)
    have hr : j % m < m := Nat.mod_lt _ hm0
    have ej : j / m * m + j % m = j := by rw [Nat.mul_comm]; exact Nat.div_add_mod j m
    have h2 := fm_get hk L (j / m) (j % m) hq hr
    rw [ej, hv] at h2
    have h3 := hj (j / m) hq (j % m) hr
    rw [← h2, Nat.add_assoc, ej] at h3
    have hadd : (⟨g2, o2, none⟩ : Addr).add j = ⟨g2, o2 + j, none⟩ := by unfold Addr.add; split <;> simp_all
    rw [hadd]
    exact h3
  refine wpList_plain hgd fun K hK => ?_
  obtain ⟨cs, hcs⟩ : ∃ cs, cs = L.flatMap enc := ⟨_, rfl⟩
  rw [← hcs] at hcl hfit hone hs2
  have hrun := run_copy_all (P := P) w dT sT o.type elem g n dCap sCap m sp cur elem cs hu hsz hg hcl hs2 hfit hone
  unfold Oper.wp
  simp only [execOp, ho, resolve, invoke, builtin]
  simp [hd, hs, hrun, Result.andThen]
  refine hK _ _ (h _ ?_ (below_setRow hb hB _))
  unfold Hid OG
  rw [← hcs]
  refine ⟨by rw [hcl, hnl], Or.inr ⟨g, dCap, _, by rw [hnl], hB, setRow_heap w g _ _ _ _ hg, by omega, hm, ?_, ?_⟩⟩
  · simp only [List.size_toArray, List.length_append, List.length_drop, Array.length_toList]; omega
  · rw [← hnl, ← hcl]
    simp only [List.toList_toArray]
    exact List.take_left' rfl

end Go.Proofs.Ytmpbcdolikafpaa

namespace Go.Proofs.Ytmpbcdolikafpaa
open Go.RowKit
set_option linter.unusedVariables false
set_option linter.unusedSimpArgs false

theorem size_Shot : (Try.prog.info? 48).map (·.size) = some 5 := by
  obtain ⟨i0, hi, hz0, hz1, hz2⟩ := info_parts info_Shot
  rw [hi]; simp [hz1]

set_option maxRecDepth 10000 in
set_option maxHeartbeats 3200000 in
theorem impl_cpS {w : World} {v : Value} {s : List Sh} (hn : s.length ≤ 1048576) (h : RG 5 shC w v s) :
    Calls Try.prog 22 #[v] w fun e w' => e = .returned (.slice (some ⟨w.heap.size, 0, none⟩) s.length s.length) ∧ Hid (OG 48 5 shC w' w.heap.size (.slice (some ⟨w.heap.size, 0, none⟩) s.length s.length) s) ∧ Hid (Below w.heap.size w w') := by
  obtain ⟨a, c, rfl⟩ := h.form
  have H : Hid (RG 5 shC w (.slice a s.length c) s) := h
  clear h
  obtain ⟨i0, hi, hz0, hz1, hz2⟩ := info_parts info_Shot
  obtain ⟨n, hnn⟩ : ∃ n, n = s.length := ⟨_, rfl⟩
  rw [← hnn] at hn H ⊢
  clear hnn
  go_enter Try.func22, Try.ntmps22
  go_wp2_with (first | (at_make; refine wpList_make_full _ rfl _ _ 28 rfl w.heap.size 48 i0 (.agg #[.int .i64 0, .int .i64 0, .int .i64 0, .int .i64 0, .int .i64 0]) 5 Try.underlying28 hi hz0 hz1 _ _ _ _ n rfl rfl rfl rfl (by rw [hz2]; omega) (by unfold maxLen; omega) (Nat.le_refl _) ?_; intro w2 hown2 hgrow2; have hb2 : Below w.heap.size w w2 := (Below.refl _ _).grown hgrow2 (Nat.le_refl _) (fun k h => by cases h)) | (refine wpList_copy_all rfl (.tmp 7) (.tmp 8) 28 28 rfl 48 Try.underlying28 5 size_Shot shC shC_len shC_one w.heap.size n n c a rfl rfl w.heap.size _ hown2 s (H.out.below hb2) w hb2 ?_; intro w3 HO3 HB3))
  try simp only [Exit.inBlock, Exit.then]
  refine bodyPost_ret (by simp [results, Try.results22, go_sem]; try rfl) rfl ⟨rfl, HO3, HB3⟩

end Go.Proofs.Ytmpbcdolikafpaa

namespace Go.Proofs.Ytmpbcdolikafpaa
open Go.RowKit
set_option linter.unusedVariables false
set_option linter.unusedSimpArgs false

/-- Nothing but blocks from B on and below Z has turned. -/
structure Chg (B Z : Nat) (w w' : World) : Prop where
  os : w'.os = w.os
  tape : w'.tape = w.tape
  output : w'.output = w.output
  size : w.heap.size ≤ w'.heap.size
  block : ∀ k, k < w.heap.size → (k < B ∨ Z ≤ k) → w'.heap[k]? = w.heap[k]?

theorem Chg.refl (B Z : Nat) (w : World) : Chg B Z w w := ⟨rfl, rfl, rfl, Nat.le_refl _, fun _ _ _ => rfl⟩
theorem Chg.trans {B Z : Nat} {w w' w'' : World} (h : Chg B Z w w') (h' : Chg B Z w' w'') : Chg B Z w w'' :=
  ⟨h'.os.trans h.os, h'.tape.trans h.tape, h'.output.trans h.output, Nat.le_trans h.size h'.size, fun k hk hb => (h'.block k (Nat.lt_of_lt_of_le hk h.size) hb).trans (h.block k hk hb)⟩
theorem Chg.set {B Z g o : Nat} (w : World) (u : Value) (h1 : B ≤ g) (h2 : g < Z) : Chg B Z w (w.setCell ⟨g, o, none⟩ u) :=
  ⟨rfl, rfl, rfl, by simp, fun k hk hb => heap_setCell_other _ _ _ _ (by simp; omega)⟩
theorem Chg.only {B Z g : Nat} {w w' : World} (h : Only g w w') (h1 : B ≤ g) (h2 : g < Z) : Chg B Z w w' :=
  ⟨h.os, h.tape, h.output, by rw [h.size]; exact Nat.le_refl _, fun k hk hb => h.block k (by omega)⟩
theorem Chg.below {B Z A : Nat} {w w' : World} (h : Chg B Z w w') (hA : A ≤ B) (hs : A ≤ w.heap.size) : Below A w w' :=
  ⟨h.os, h.tape, h.output, h.size, fun k hk => h.block k (by omega) (Or.inl (by omega))⟩
theorem Chg.of_below {B Z : Nat} {w w' : World} (h : Below w.heap.size w w') : Chg B Z w w' :=
  ⟨h.os, h.tape, h.output, h.size, fun k hk _ => h.block k hk⟩

end Go.Proofs.Ytmpbcdolikafpaa

namespace Go.Proofs.Ytmpbcdolikafpaa
open Go.RowKit
set_option linter.unusedVariables false

/-- What lay in W lies in w still. -/
def KS (W w : World) : Prop := (∀ b o, b < W.heap.size → w.cell? ⟨b, o, none⟩ = W.cell? ⟨b, o, none⟩) ∧ Below W.heap.size W w

theorem KS.of {W w : World} (h : Below W.heap.size W w) : KS W w := ⟨fun b o hb => h.cell (p := ⟨b, o, none⟩) hb, h⟩
theorem KS.start (W : World) : KS W W.drew := KS.of ((Below.refl _ _).drew)
theorem KS.call {W w w' : World} (h : KS W w) (hb : Below w.heap.size w w') : KS W w' := KS.of (h.2.trans (hb.mono h.2.size))
theorem KS.alloc {W w : World} (h : KS W w) (o : Obj) : KS W (w.alloc o) := KS.of (h.2.alloc h.2.size o)
theorem KS.set {W w : World} (h : KS W w) {p : Addr} (hp : W.heap.size ≤ p.block) (u : Value) : KS W (w.setCell p u) := KS.of (h.2.setCell hp u)

end Go.Proofs.Ytmpbcdolikafpaa
