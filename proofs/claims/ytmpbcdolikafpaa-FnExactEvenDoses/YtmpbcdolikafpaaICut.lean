/- Proved here: cuts of a list of boxes of the call's own: a part can be read as the part's boxes; the front is a list of the call's own. And what the sweep asks of heightsOf and edgesOf. (And ahead of it: Proved here: raiseRow: the boxes of a part of a list of the call's own are raised, in place.) (And ahead of it: Proved here: small facts on bands, while they are raised. No condition on the program. (And ahead of it: Proved here: inBoth is the word of both.)) -/
import Derived.Test.YtmpbcdolikafpaaIRuns
import Derived.Test.YtmpbcdolikafpaaCsB
import Derived.Test.YtmpbcdolikafpaaSeS
import Derived.Test.YtmpbcdolikafpaaIntsBase
import Derived.Test.YtmpbcdolikafpaaShMath2
namespace Go.Proofs.Ytmpbcdolikafpaa
open Go.RowKit
set_option linter.unusedVariables false
set_option linter.unusedSimpArgs false

theorem word_and : Word 38 bothK := by
  refine ⟨?_, enter_of (fn := Try.f38) (by kernel_rfl) (by kernel_rfl) (by kernel_rfl), by kernel_rfl⟩
  intro p q W
  cases p <;> cases q <;> (go_enter Try.func38, Try.ntmps38; go_wp2; go_returns; exact ⟨rfl, rfl⟩)

end Go.Proofs.Ytmpbcdolikafpaa

namespace Go.Proofs.Ytmpbcdolikafpaa
open Go.RowKit
set_option linter.unusedVariables false
set_option linter.unusedSimpArgs false

theorem getD_get {xs : List Int} {j : Nat} (h : j < xs.length) : xs.getD j 0 = xs[j] := by simp [h]
theorem ins_length (v : Int) (xs : List Int) : (ins v xs).length ≤ xs.length + 1 := by
  induction xs with
  | nil => simp [ins]
  | cons x t ih =>
    unfold ins
    split
    · simp
    · split
      · simp
      · simp; omega
theorem endsF_length (f g : Bx → Int) (s : List Bx) : ∀ (xs : List Int), (endsF f g xs s).length ≤ xs.length + 2 * s.length := by
  induction s with
  | nil => intro xs; simp [endsF]
  | cons b t ih =>
    intro xs
    have h1 := ih (ins (g b) (ins (f b) xs))
    have h2 := ins_length (g b) (ins (f b) xs)
    have h3 := ins_length (f b) xs
    simp only [endsF, List.foldl_cons, List.length_cons] at h1 ⊢
    omega
theorem stepR_length (T : Int → Bool) (a b : Int) (out : List Bx) (c d : Int) : (stepR T a b out c d).length ≤ out.length + 1 := by
  unfold stepR
  split
  · split
    · split
      · simp
      · simp
    · simp
  · omega
theorem runsK_length (T : Int → Bool) (a b : Int) : ∀ (xs : List Int) (out : List Bx), (runsK T a b xs out).length ≤ out.length + xs.length := by
  intro xs
  induction xs with
  | nil => intro out; simp [runsK]
  | cons c t ih =>
    intro out
    cases t with
    | nil => simp [runsK]
    | cons d t =>
      have h1 := ih (stepR T a b out c d)
      have h2 := stepR_length T a b out c d
      simp only [runsK, List.length_cons] at h1 ⊢
      omega
theorem runsOf_length (K : Bool → Bool → Bool) (p q : List Bx) (a b : Int) : (runsOf K p q a b).length ≤ 2 * (p.length + q.length) := by
  unfold runsOf
  have h1 := runsK_length (fun x => K (inK p x) (inK q x)) a b (endsF Bx.x0 Bx.x1 (endsF Bx.x0 Bx.x1 [] p) q) []
  have h2 := endsF_length Bx.x0 Bx.x1 p []
  have h3 := endsF_length Bx.x0 Bx.x1 q (endsF Bx.x0 Bx.x1 [] p)
  simp at h1 h2
  omega
theorem op_drop {R : Int → Int → List Bx} {ys : List Int} {k : Nat} {st : List Bx × List Bx} (h : k + 1 < ys.length) : opK R (ys.drop k) st = opK R (ys.drop (k + 1)) (stepO R st (ys.getD k 0) (ys.getD (k + 1) 0)) := by
  rw [List.drop_eq_getElem_cons (show k < ys.length by omega), List.drop_eq_getElem_cons h, opK, getD_get (show k < ys.length by omega), getD_get h]
theorem op_end {R : Int → Int → List Bx} {ys : List Int} {k : Nat} {st : List Bx × List Bx} (h : ys.length ≤ k + 1) : opK R (ys.drop k) st = st.1 ++ st.2 := by
  have hl : (ys.drop k).length ≤ 1 := by simp; omega
  match hd : ys.drop k with
  | [] => rfl
  | [c] => rfl
  | c :: d :: r => rw [hd] at hl; simp at hl

theorem one_boxes (s : List Bx) : ∀ u ∈ bflat s, u.oneCell' = true := by
  intro u hu
  obtain ⟨b, _, hb⟩ := List.mem_flatMap.1 hu
  simp [bcells] at hb
  rcases hb with h | h | h | h <;> subst h <;> rfl
theorem hy1_bat {l : List Bx} (h : 0 < l.length) : hy1 l = (bat l 0).y1 := by
  cases l with
  | nil => simp at h
  | cons b t => rfl
theorem goesK_y {band last : List Bx} {a : Int} (h : (hy1 last == a) = false) : goesK band last a = false := by simp [goesK, h]
theorem goesK_s {band last : List Bx} {a : Int} (h : sameRuns last band = false) : goesK band last a = false := by simp [goesK, h]
theorem stepO_no {R : Int → Int → List Bx} {done last : List Bx} {a b : Int} (h : goesK (R a b) last a = false) : stepO R (done, last) a b = (done ++ last, R a b) := by simp [stepO, h]
theorem stepO_yes {R : Int → Int → List Bx} {done last : List Bx} {a b : Int} (h : goesK (R a b) last a = true) : stepO R (done, last) a b = (done, raise last b) := by simp [stepO, h]
theorem goesK_yes {band last : List Bx} {a : Int} (h1 : 0 < band.length) (h2 : 0 < last.length) (h3 : (hy1 last == a) = true) (h4 : sameRuns last band = true) : goesK band last a = true := by
  have e1 : band.isEmpty = false := by cases band with
    | nil => simp at h1
    | cons _ _ => rfl
  have e2 : last.isEmpty = false := by cases last with
    | nil => simp at h2
    | cons _ _ => rfl
  simp [goesK, e1, e2, h3, h4]
theorem raise_length (l : List Bx) (d : Int) : (raise l d).length = l.length := by simp [raise]
theorem raise_append (l m : List Bx) (d : Int) : raise (l ++ m) d = raise l d ++ raise m d := by simp [raise]
/-- The list while its last band is raised: j boxes of it are done. -/
def Lj (done last : List Bx) (d : Int) (j : Nat) : List Bx := done ++ (raise (last.take j) d ++ last.drop j)
theorem Lj_zero (done last : List Bx) (d : Int) : Lj done last d 0 = done ++ last := by simp [Lj, raise]
theorem Lj_full (done last : List Bx) (d : Int) : Lj done last d last.length = done ++ raise last d := by simp [Lj]
theorem Lj_length {done last : List Bx} {d : Int} {j : Nat} (h : j ≤ last.length) : (Lj done last d j).length = done.length + last.length := by
  simp [Lj, raise_length]; omega
theorem Lj_set {done last : List Bx} {d : Int} {j : Nat} (h : j < last.length) : bat (Lj done last d j) (done.length + j) = bat last j ∧ (Lj done last d j).set (done.length + j) ⟨(bat last j).x0, (bat last j).y0, (bat last j).x1, d⟩ = Lj done last d (j + 1) := by
  have e : Lj done last d j = (done ++ raise (last.take j) d) ++ bat last j :: last.drop (j + 1) := by
    unfold Lj; rw [drop_bat h]; simp
  have hl : (done ++ raise (last.take j) d).length = done.length + j := by simp [raise_length]; omega
  constructor
  · rw [e, bat_get (by simp [raise_length]; omega), List.getElem_append_right (by omega)]
    simp [hl]
  · rw [e, ← hl, List.set_append_right _ _ (by omega), Nat.sub_self, List.set_cons_zero]
    unfold Lj
    rw [take_bat h, raise_append]
    simp [raise]
theorem IS.at {w : World} {B g c : Nat} {xs : List Int} (h : IS w B (.slice (some ⟨g, 0, none⟩) xs.length c) xs) (j : Nat) (hj : j < xs.length) : w.cell? ⟨g, j, none⟩ = some (.int .i64 (xs.getD j 0)) := by
  rw [World.ownsRow.cellAt (w := w) (g := g) (cap := c) h j (by omega)]
  simp [List.getElem?_map, List.getElem?_eq_getElem hj]
theorem BS.ats {w : World} {B g n c : Nat} {s : List Bx} (h : BS w B (.slice (some ⟨g, 0, none⟩) n c) s) (hn : s.length = n) (j i : Nat) (hj : j < s.length) (hi : i < 4) : w.cell? ⟨g, j * 4 + i, none⟩ = (bcells (bat s j))[i]? := by
  subst hn
  rw [World.ownsRow.cellAt (w := w) (g := g) (cap := c) h (j * 4 + i) (by omega), bflat_get s j i hj hi]

end Go.Proofs.Ytmpbcdolikafpaa

namespace Go.Proofs.Ytmpbcdolikafpaa
open Go.RowKit
set_option linter.unusedVariables false
set_option linter.unusedSimpArgs false

theorem bs_raiseT {w : World} {A go n0 oc q j : Nat} {done last tl : List Bx} {d : Int} (h : BS w A (.slice (some ⟨go, 0, none⟩) n0 oc) (Lj done last d j ++ tl)) (hj : j < last.length) (hq : q = done.length + j) :
    w.cell? ⟨go, q * 4 + 3, none⟩ = some (.int .i64 (bat last j).y1) ∧ w.frozen? ⟨go, q * 4 + 3, none⟩ = false ∧ BS (w.setCell ⟨go, q * 4 + 3, none⟩ (.int .i64 d)) A (.slice (some ⟨go, 0, none⟩) n0 oc) (Lj done last d (j + 1) ++ tl) ∧ w.grownBy (w.setCell ⟨go, q * 4 + 3, none⟩ (.int .i64 d)) (some go) := by
  have hn : (Lj done last d j ++ tl).length = n0 := by obtain ⟨a, c, e⟩ := h.form; injection e with _ e2 _; exact e2.symm
  have hL := Lj_set (done := done) (d := d) hj
  have hql : q < (Lj done last d j).length := by rw [Lj_length (by omega)]; omega
  have hq2 : q < (Lj done last d j ++ tl).length := by rw [List.length_append]; omega
  have hbt : bat (Lj done last d j ++ tl) q = bat last j := by
    rw [← hL.1, ← hq, bat_get hq2, bat_get hql, List.getElem_append_left hql]
  have h' : w.ownsRow A 34 4 (.slice (some ⟨go, 0, none⟩) n0 oc) n0 (bflat (Lj done last d j ++ tl)) := by have := h; unfold BS at this; rwa [hn] at this
  refine ⟨?_, World.ownsRow.frozenAt h' _, ?_⟩
  · rw [h.ats hn q 3 hq2 (by omega), hbt]; rfl
  · have hs := World.ownsRow.stored h' (q * 4 + 3) (.int .i64 d)
    refine ⟨?_, hs.2⟩
    rw [bflat_set _ q 3 hq2 (by omega) ⟨(bat last j).x0, (bat last j).y0, (bat last j).x1, d⟩ _ (by rw [hbt]; rfl), List.set_append_left _ _ hql, hq, hL.2] at hs
    have hn2 : (Lj done last d (j + 1) ++ tl).length = n0 := by rw [← hn, List.length_append, List.length_append, Lj_length (by omega), Lj_length (by omega)]
    unfold BS
    rw [hn2, hq]
    exact hs.1

set_option maxRecDepth 10000 in
set_option maxHeartbeats 2000000 in
theorem impl_raise (go n0 oc n c dl : Nat) (A : Nat) (done last tl : List Bx) (d : Int) (w : World) (hl : Hid (last.length = n)) (hdl : Hid (done.length = dl)) (hn : n ≤ 100000000000) (hA : A ≤ w.heap.size) (h : Hid (BS w A (.slice (some ⟨go, 0, none⟩) n0 oc) (done ++ last ++ tl))) :
    Calls Try.prog 55 #[.slice (some ⟨go, dl * 4, none⟩) n c, .int .i64 d] w fun e w' => e = .returned (.tuple #[]) ∧ BS w' A (.slice (some ⟨go, 0, none⟩) n0 oc) (done ++ raise last d ++ tl) ∧ Below A w w' := by
  go_enter Try.func55, Try.ntmps55
  go_wp2
  go_loopw [7] (fun i wr => ∃ k : Nat, k ≤ n ∧ i = .int .i64 k ∧ Hid (BS wr A (.slice (some ⟨go, 0, none⟩) n0 oc) (Lj done last d k ++ tl) ∧ Below A w wr ∧ w.heap.size ≤ wr.heap.size)) (fun i _ => n - (intOf i).toNat)
  case atStart => exact ⟨0, Nat.zero_le _, rfl, by rw [Lj_zero]; exact h.out, Below.refl _ _, Nat.le_refl _⟩
  case round =>
    obtain ⟨k, hk, rfl, hR⟩ := hrel
    by_cases hlt : k < n
    · have hst := bs_raiseT hR.out.1 (j := k) (q := dl + k) (by rw [hl.out]; exact hlt) (by rw [hdl.out])
      have hge := (World.ownsRow.lt hR.out.1 go rfl).1
      have hbl : Below A w (wr.setCell ⟨go, (dl + k) * 4 + 3, none⟩ (.int .i64 d)) := hR.out.2.1.setCell hge _
      have hzz : w.heap.size ≤ (wr.setCell ⟨go, (dl + k) * 4 + 3, none⟩ (.int .i64 d)).heap.size := by simpa using hR.out.2.2
      rw [Nat.add_mul] at hst hbl hzz
      obtain ⟨hc, hf, hb, _⟩ := hst
      have R : Hid _ := And.intro hb (And.intro hbl hzz)
      clear hb hbl hzz hR
      have b0 : (0 : Int) ≤ (k : Int) := by omega
      have b1 : (k : Int) < (n : Int) := by omega
      go_wp2
      go_roundw
      case rel => exact ⟨k + 1, by omega, by go_num, R.out⟩
      case measure => simp [intOf]; omega
    · have e : Hid (k = last.length) := by unfold Hid; rw [hl.out]; omega
      go_wp2
      go_returns
      refine ⟨rfl, ?_, hR.out.2.1⟩
      rw [← Lj_full, ← e.out]
      exact hR.out.1

end Go.Proofs.Ytmpbcdolikafpaa

namespace Go.Proofs.Ytmpbcdolikafpaa
open Go.RowKit
set_option linter.unusedVariables false
set_option linter.unusedSimpArgs false

theorem bat_mid {p q r : List Bx} {j : Nat} (h : j < q.length) : bat (p ++ q ++ r) (p.length + j) = bat q j := by
  rw [bat_get (by simp; omega), bat_get h, List.getElem_append_left (by simp; omega), List.getElem_append_right (by omega)]
  congr 1
  omega
/-- A part of the list, read. -/
theorem BS.cut {w : World} {B g n c : Nat} {p q r : List Bx} (h : BS w B (.slice (some ⟨g, 0, none⟩) n c) (p ++ q ++ r)) {ao : Option Addr} (c' : Nat) (ha : q ≠ [] → ao = some ⟨g, p.length * 4, none⟩) : RB w (.slice ao q.length c') q := by
  refine ⟨ao, c', rfl, fun hq => ⟨g, p.length * 4, ha hq, (World.ownsRow.lt h g rfl).2, fun j hj => ?_⟩⟩
  have hn : (p ++ q ++ r).length = n := by obtain ⟨a, c, e⟩ := h.form; injection e with _ e2 _; exact e2.symm
  have key : ∀ i, i < 4 → w.cell? ⟨g, p.length * 4 + j * 4 + i, none⟩ = (bcells (bat q j))[i]? := by
    intro i hi
    have := h.ats hn (p.length + j) i (by simp; omega) hi
    rw [bat_mid hj, Nat.add_mul] at this
    exact this
  exact ⟨key 0 (by omega), key 1 (by omega), key 2 (by omega), key 3 (by omega)⟩
/-- The front of the list, with the room behind it. -/
theorem BS.front {w : World} {B g n c : Nat} {p q : List Bx} (h : BS w B (.slice (some ⟨g, 0, none⟩) n c) (p ++ q)) : BS w B (.slice (some ⟨g, 0, none⟩) p.length c) p := by
  refine ⟨bflat_length p, Or.inr ?_⟩
  rcases h.2 with ⟨e, _⟩ | ⟨g', cap, cur, e, hB, hg, hn, hm, hs, ht⟩
  · cases e
  · simp only [Value.slice.injEq, Option.some.injEq, Addr.mk.injEq, and_true] at e
    obtain ⟨rfl, rfl, rfl⟩ := e
    rw [List.length_append] at hn
    refine ⟨g, c, cur, rfl, hB, hg, by omega, hm, hs, ?_⟩
    have h2 := congrArg (List.take (p.length * 4)) ht
    rw [List.take_take, bflat_append, List.take_left' (bflat_length p), List.length_append] at h2
    rw [← h2]
    congr 1
    omega

/-- What heightsOf and edgesOf are asked. -/
def HeightsOk : Prop := ∀ (w : World) (va vb : Value) (a b : List Bx), a.length + b.length ≤ 200000 → RB w va a → RB w vb b →
  Calls Try.prog 50 #[va, vb] w fun e w' => ∃ v, e = .returned v ∧ IS w' w.heap.size v (endsF Bx.y0 Bx.y1 (endsF Bx.y0 Bx.y1 [] a) b) ∧ Below w.heap.size w w'
def EdgesOk : Prop := ∀ (w : World) (va vb : Value) (a b : List Bx), a.length + b.length ≤ 200000 → RB w va a → RB w vb b →
  Calls Try.prog 51 #[va, vb] w fun e w' => ∃ v E, e = .returned v ∧ ES w' w.heap.size v E ∧ E.Perm (edges a b) ∧ Rising E ∧ Below w.heap.size w w'

end Go.Proofs.Ytmpbcdolikafpaa
