/- Proved here: what the model makes of two lists of boxes: the sweep over all heights. -/
import Derived.Test.YtpfnhiohbgconaaSRuns
import Derived.Test.YtpfnhiohbgconaaSSame
import Derived.Maps.AppendAt
namespace Go.Proofs.Ytpfnhiohbgconaa
open Go.RowKit
set_option linter.unusedVariables false
set_option linter.unusedSimpArgs false

theorem stepR_length (T : Int → Bool) (a b : Int) (out : List Bx) (c d : Int) : (stepR T a b out c d).length ≤ out.length + 1 := by
  unfold stepR
  split
  · split
    · split
      · simp
      · simp
    · simp
  · omega
theorem runsK_length (T : Int → Bool) (a b : Int) : ∀ (xs : List Int) (out : List Bx), (runsK T a b xs out).length ≤ out.length + xs.length := by
  intro xs
  induction xs with
  | nil => intro out; simp [runsK]
  | cons c t ih =>
    intro out
    cases t with
    | nil => simp [runsK]
    | cons d t =>
      have h1 := ih (stepR T a b out c d)
      have h2 := stepR_length T a b out c d
      simp only [runsK, List.length_cons] at h1 ⊢
      omega
theorem runsOf_length (K : Bool → Bool → Bool) (p q : List Bx) (a b : Int) : (runsOf K p q a b).length ≤ 2 * (p.length + q.length) := by
  unfold runsOf
  have h1 := runsK_length (fun x => K (inK p x) (inK q x)) a b (endsF Bx.x0 Bx.x1 (endsF Bx.x0 Bx.x1 [] p) q) []
  have h2 := endsF_length Bx.x0 Bx.x1 p []
  have h3 := endsF_length Bx.x0 Bx.x1 q (endsF Bx.x0 Bx.x1 [] p)
  simp at h1 h2
  omega
theorem op_drop {R : Int → Int → List Bx} {ys : List Int} {k : Nat} {st : List Bx × List Bx} (h : k + 1 < ys.length) : opK R (ys.drop k) st = opK R (ys.drop (k + 1)) (stepO R st (ys.getD k 0) (ys.getD (k + 1) 0)) := by
  rw [List.drop_eq_getElem_cons (show k < ys.length by omega), List.drop_eq_getElem_cons h, opK, getD_get (show k < ys.length by omega), getD_get h]
theorem op_end {R : Int → Int → List Bx} {ys : List Int} {k : Nat} {st : List Bx × List Bx} (h : ys.length ≤ k + 1) : opK R (ys.drop k) st = st.1 ++ st.2 := by
  have hl : (ys.drop k).length ≤ 1 := by simp; omega
  match hd : ys.drop k with
  | [] => rfl
  | [c] => rfl
  | c :: d :: r => rw [hd] at hl; simp at hl

/-- What stands while the heights are gathered. -/
structure OJ (w wr : World) (vy : Value) (ys : List Int) : Prop where
  is : IS wr w.heap.size vy ys
  ne : vy ≠ .slice none 0 0
  bl : Below w.heap.size w wr
theorem OJ.next {w wr W w3 w4 : World} {vy v4 : Value} {xs ys : List Int} (h : OJ w wr vy xs) (hS : Below wr.heap.size wr W) (hb3 : Below W.heap.size W w3) (hb4 : Below w3.heap.size w3 w4) (hi : IS w4 w.heap.size v4 ys) (hn : v4 ≠ .slice none 0 0) : OJ w w4 v4 ys := by
  have hb : Below wr.heap.size wr w4 := (hS.trans (hb3.mono hS.size)).trans (hb4.mono (Nat.le_trans hS.size hb3.size))
  exact ⟨hi, hn, h.bl.trans (hb.mono h.bl.size)⟩

/-- What stands while the bands are made. -/
structure OP (w wr : World) (vo vl vy : Value) (done last : List Bx) (ys : List Int) : Prop where
  o : BS wr w.heap.size vo (done ++ last)
  on : vo ≠ .slice none 0 0
  l : BS wr w.heap.size vl last
  y : IS wr w.heap.size vy ys
  ol : vo.ownBlock ≠ vl.ownBlock
  oy : vo.ownBlock ≠ vy.ownBlock
  bl : Below w.heap.size w wr
theorem OP.keep {w wr W : World} {vo vl vy : Value} {done last : List Bx} {ys : List Int} (h : OP w wr vo vl vy done last ys) (hb : Below wr.heap.size wr W) : OP w W vo vl vy done last ys :=
  ⟨h.o.below hb, h.on, h.l.below hb, h.y.below' hb, h.ol, h.oy, h.bl.trans (hb.mono h.bl.size)⟩
def ROf (op : Int) (s t : List Bx) (a b : Int) : List Bx := runsOf (takesK op) (rowK s a) (rowK t a) a b
def OR (w wr : World) (vo vl vy : Value) (s t : List Bx) (op : Int) (ys : List Int) (k : Nat) : Prop :=
  ∃ done last, OP w wr vo vl vy done last ys ∧ (done ++ last).length ≤ k * 1000000 ∧ opK (ROf op s t) (ys.drop k) (done, last) = opK (ROf op s t) ys ([], [])

theorem one_boxes (s : List Bx) : ∀ u ∈ bflat s, u.oneCell' = true := by
  intro u hu
  obtain ⟨b, _, hb⟩ := List.mem_flatMap.1 hu
  simp [bcells] at hb
  rcases hb with h | h | h | h <;> subst h <;> rfl
theorem hy1_bat {l : List Bx} (h : 0 < l.length) : hy1 l = (bat l 0).y1 := by
  cases l with
  | nil => simp at h
  | cons b t => rfl
theorem goesK_y {band last : List Bx} {a : Int} (h : (hy1 last == a) = false) : goesK band last a = false := by simp [goesK, h]
theorem goesK_s {band last : List Bx} {a : Int} (h : sameRuns last band = false) : goesK band last a = false := by simp [goesK, h]
theorem stepO_no {R : Int → Int → List Bx} {done last : List Bx} {a b : Int} (h : goesK (R a b) last a = false) : stepO R (done, last) a b = (done ++ last, R a b) := by simp [stepO, h]
theorem stepO_yes {R : Int → Int → List Bx} {done last : List Bx} {a b : Int} (h : goesK (R a b) last a = true) : stepO R (done, last) a b = (done, raise last b) := by simp [stepO, h]
theorem goesK_yes {band last : List Bx} {a : Int} (h1 : 0 < band.length) (h2 : 0 < last.length) (h3 : (hy1 last == a) = true) (h4 : sameRuns last band = true) : goesK band last a = true := by
  have e1 : band.isEmpty = false := by cases band with
    | nil => simp at h1
    | cons _ _ => rfl
  have e2 : last.isEmpty = false := by cases last with
    | nil => simp at h2
    | cons _ _ => rfl
  simp [goesK, e1, e2, h3, h4]
theorem raise_length (l : List Bx) (d : Int) : (raise l d).length = l.length := by simp [raise]
theorem raise_append (l m : List Bx) (d : Int) : raise (l ++ m) d = raise l d ++ raise m d := by simp [raise]
/-- The list while its last band is raised: j boxes of it are done. -/
def Lj (done last : List Bx) (d : Int) (j : Nat) : List Bx := done ++ (raise (last.take j) d ++ last.drop j)
theorem Lj_zero (done last : List Bx) (d : Int) : Lj done last d 0 = done ++ last := by simp [Lj, raise]
theorem Lj_full (done last : List Bx) (d : Int) : Lj done last d last.length = done ++ raise last d := by simp [Lj]
theorem Lj_length {done last : List Bx} {d : Int} {j : Nat} (h : j ≤ last.length) : (Lj done last d j).length = done.length + last.length := by
  simp [Lj, raise_length]; omega
theorem Lj_set {done last : List Bx} {d : Int} {j : Nat} (h : j < last.length) : bat (Lj done last d j) (done.length + j) = bat last j ∧ (Lj done last d j).set (done.length + j) ⟨(bat last j).x0, (bat last j).y0, (bat last j).x1, d⟩ = Lj done last d (j + 1) := by
  have e : Lj done last d j = (done ++ raise (last.take j) d) ++ bat last j :: last.drop (j + 1) := by
    unfold Lj; rw [drop_bat h]; simp
  have hl : (done ++ raise (last.take j) d).length = done.length + j := by simp [raise_length]; omega
  constructor
  · rw [e, bat_get (by simp [raise_length]; omega), List.getElem_append_right (by omega)]
    simp [hl]
  · rw [e, ← hl, List.set_append_right _ _ (by omega), Nat.sub_self, List.set_cons_zero]
    unfold Lj
    rw [take_bat h, raise_append]
    simp [raise]
/-- What stands while the last band is raised. -/
structure OQ (w wr : World) (vo vy : Value) (done last : List Bx) (d : Int) (j : Nat) (ys : List Int) : Prop where
  o : BS wr w.heap.size vo (Lj done last d j)
  y : IS wr w.heap.size vy ys
  bl : Below w.heap.size w wr
theorem IS.at {w : World} {B g c : Nat} {xs : List Int} (h : IS w B (.slice (some ⟨g, 0, none⟩) xs.length c) xs) (j : Nat) (hj : j < xs.length) : w.cell? ⟨g, j, none⟩ = some (.int .i64 (xs.getD j 0)) := by
  rw [World.ownsRow.cellAt (w := w) (g := g) (cap := c) h j (by omega)]
  simp [List.getElem?_map, List.getElem?_eq_getElem hj]
theorem BS.ats {w : World} {B g n c : Nat} {s : List Bx} (h : BS w B (.slice (some ⟨g, 0, none⟩) n c) s) (hn : s.length = n) (j i : Nat) (hj : j < s.length) (hi : i < 4) : w.cell? ⟨g, j * 4 + i, none⟩ = (bcells (bat s j))[i]? := by
  subst hn
  rw [World.ownsRow.cellAt (w := w) (g := g) (cap := c) h (j * 4 + i) (by omega), bflat_get s j i hj hi]
theorem bs_raise {w : World} {A go n0 oc q j : Nat} {done last : List Bx} {d : Int} (h : BS w A (.slice (some ⟨go, 0, none⟩) n0 oc) (Lj done last d j)) (hj : j < last.length) (hq : q = done.length + j) :
    w.cell? ⟨go, q * 4 + 3, none⟩ = some (.int .i64 (bat last j).y1) ∧ BS (w.setCell ⟨go, q * 4 + 3, none⟩ (.int .i64 d)) A (.slice (some ⟨go, 0, none⟩) n0 oc) (Lj done last d (j + 1)) ∧ w.grownBy (w.setCell ⟨go, q * 4 + 3, none⟩ (.int .i64 d)) (some go) := by
  have hn : (Lj done last d j).length = n0 := by obtain ⟨a, c, e⟩ := h.form; injection e with _ e2 _; exact e2.symm
  have hL := Lj_set (done := done) (d := d) hj
  have hql : q < (Lj done last d j).length := by rw [Lj_length (by omega)]; omega
  refine ⟨?_, ?_⟩
  · rw [h.ats hn q 3 hql (by omega), hq, hL.1]; rfl
  · have h' : w.ownsRow A 30 4 (.slice (some ⟨go, 0, none⟩) n0 oc) n0 (bflat (Lj done last d j)) := by have := h; unfold BS at this; rwa [hn] at this
    have hs := World.ownsRow.stored h' (q * 4 + 3) (.int .i64 d)
    refine ⟨?_, hs.2⟩
    rw [bflat_set _ q 3 hql (by omega) ⟨(bat last j).x0, (bat last j).y0, (bat last j).x1, d⟩ _ (by rw [hq, hL.1]; rfl), hq, hL.2] at hs
    have hn2 : (Lj done last d (j + 1)).length = n0 := by rw [Lj_length (by omega), ← hn, Lj_length (by omega)]
    unfold BS
    rw [hn2, hq]
    exact hs.1
theorem OQ.step {w wr W : World} {vo vy : Value} {done last : List Bx} {d : Int} {j g : Nat} {ys : List Int} (h : OQ w wr vo vy done last d j ys) (hb : BS W w.heap.size vo (Lj done last d (j + 1))) (hg : wr.grownBy W (some g)) (hne : vo.ownBlock ≠ vy.ownBlock) (hgo : vo.ownBlock = some g := by rfl) : OQ w W vo vy done last d (j + 1) ys := by
  refine ⟨hb, h.y.kept fun k hk => hg.block k (World.ownsRow.lt h.y k hk).2 fun e => hne (by rw [hgo, hk, e]), h.bl.grown hg h.bl.size fun k hk => ?_⟩
  exact (World.ownsRow.lt h.o k (by rw [hgo]; exact hk)).1
theorem OQ.tail {w wr W : World} {go n0 oc dl : Nat} {vy : Value} {done last : List Bx} {d : Int} {ys : List Int} (h : OQ w wr (.slice (some ⟨go, 0, none⟩) n0 oc) vy done last d last.length ys) (hdl : dl = done.length) (hp : dl < n0) (hb : Below wr.heap.size wr W)
    {ao : Option Addr} (hao : ¬ oc = dl → ao = some ⟨go, dl * 4, none⟩) : ∀ ad, ao = some ad → ∀ j u, (bflat (raise last d))[j]? = some u → W.cell? (ad.add j) = some u := by
  intro ad had j u hu
  have hcap : n0 ≤ oc := by
    rcases h.o.2 with ⟨e, _⟩ | ⟨g, cap, cur, e, _, _, h1, _⟩
    · cases e
    · have hn := h.o.form
      obtain ⟨a2, c2, e2⟩ := hn
      injection e with _ _ e3
      injection e2 with _ e4 _
      omega
  rw [hao (by omega)] at had
  obtain rfl := Option.some.inj had
  have hj : j < (bflat (raise last d)).length := (List.getElem?_eq_some_iff.1 hu).1
  have hg : go < wr.heap.size := (World.ownsRow.lt h.o go rfl).2
  rw [Addr.add_lit, hb.cell (p := ⟨go, dl * 4 + j, none⟩) hg]
  have hc := World.ownsRow.cells h.o (g := go) rfl (dl * 4 + j) u ?_
  · rw [Addr.add_lit, Nat.zero_add] at hc; exact hc
  · rw [Lj_full, bflat_append, List.getElem?_append_right (by rw [bflat_length]; omega), bflat_length, hdl]
    rw [Nat.add_sub_cancel_left]; exact hu
theorem OQ.fin {w wr w5 : World} {vo vy v5 : Value} {done last : List Bx} {d : Int} {ys : List Int} {m : Nat} {ob : Obj} (h : OQ w wr vo vy done last d last.length ys) (hvo : vo ≠ .slice none 0 0) (hne : vo.ownBlock ≠ vy.ownBlock)
    (hown : w5.ownsRow wr.heap.size 30 4 v5 m ([] ++ bflat (raise last d))) (hm : m = last.length) (hg : (wr.alloc ob).grownBy w5 (some wr.heap.size)) : OP w w5 vo v5 vy done (raise last d) ys := by
  have hblk : ∀ g, g < wr.heap.size → w5.heap[g]? = wr.heap[g]? := fun g hl => (hg.block g (by simp; omega) (by intro e; injection e with e; omega)).trans (Below.heap_alloc wr _ _ hl)
  have hs := hg.size
  simp at hs
  have ho : BS wr w.heap.size vo (done ++ raise last d) := by rw [← Lj_full]; exact h.o
  have hz := h.bl.size
  refine ⟨ho.kept fun g hg' => hblk g (World.ownsRow.lt ho g hg').2, hvo, BS.low (B := wr.heap.size) ?_ hz, h.y.kept fun g hg' => hblk g (World.ownsRow.lt h.y g hg').2, ?_, hne, ?_⟩
  · unfold BS; rw [raise_length, ← hm]; simpa using hown
  · intro e
    cases hv : vo.ownBlock with
    | none =>
      rcases ho.2 with ⟨e2, _⟩ | ⟨g, cap, cur, e2, _⟩
      · exact hvo e2
      · rw [e2] at hv; cases hv
    | some g =>
      rw [hv] at e
      have h1 := (World.ownsRow.lt hown g e.symm).1
      have h2 := (World.ownsRow.lt ho g hv).2
      omega
  · exact h.bl.trans ⟨hg.os, hg.tape, hg.output, by omega, fun k hk => hblk k (by omega)⟩
/-- Behind the append of a band. -/
theorem OP.push {w W w1 : World} {vo vl vy vb v' : Value} {done last band : List Bx} {ys : List Int} {m : Nat} (h : OP w W vo vl vy done last ys) (hb : BS W w.heap.size vb band) (hne : vo.ownBlock ≠ vb.ownBlock)
    (hown : w1.ownsRow w.heap.size 30 4 v' m (bflat (done ++ last) ++ bflat band)) (hm : m = (done ++ last).length + band.length) (hg : W.grownBy w1 vo.ownBlock) (hv : v' ≠ .slice none 0 0) (hat : v'.ownBlock = vo.ownBlock ∨ v'.ownBlock = some W.heap.size) :
    OP w w1 v' vb vy (done ++ last) band ys := by
  have hvb : v'.ownBlock ≠ vb.ownBlock := by
    rcases hat with e | e
    · rw [e]; exact hne
    · rw [e]; intro e2; have := (World.ownsRow.lt hb _ e2.symm).2; omega
  have hvy : v'.ownBlock ≠ vy.ownBlock := by
    rcases hat with e | e
    · rw [e]; exact h.oy
    · rw [e]; intro e2; have := (World.ownsRow.lt h.y _ e2.symm).2; omega
  refine ⟨?_, hv, hb.kept fun g hg' => hg.block g (World.ownsRow.lt hb g hg').2 fun e => hne (by rw [hg', e]), h.y.kept fun g hg' => hg.block g (World.ownsRow.lt h.y g hg').2 fun e => h.oy (by rw [hg', e]), hvb, hvy, h.bl.grown hg h.bl.size fun k hk => (World.ownsRow.lt h.o k hk).1⟩
  unfold BS
  rw [bflat_append, List.length_append, ← hm]
  exact hown

set_option maxRecDepth 10000 in
set_option maxHeartbeats 4000000 in
theorem spec_op (op : Int) (aa ab : Option Addr) (ac bc : Nat) (s t : List Bx) (w : World) (hn : s.length + t.length ≤ 500000) (ha : Hid (RB w (.slice aa s.length ac) s)) (hb : Hid (RB w (.slice ab t.length bc) t)) :
    Calls Try.prog 48 #[.int .i64 op, .slice aa s.length ac, .slice ab t.length bc] w fun e w' => ∃ v', e = .returned v' ∧ BS w' w.heap.size v' (opOf (takesK op) s t) ∧ v' ≠ .slice none 0 0 ∧ Below w.heap.size w w' := by
  obtain ⟨i0, hi0, hz0, hz1, hz2⟩ := info_parts info_box
  go_enter Try.func48, Try.ntmps48
  go_wp2_with (fail)
  go_loopw [7, 8] (fun vx i wr => ∃ k : Nat, k ≤ s.length ∧ i = .int .i64 k ∧ Hid (OJ w wr vx (endsF Bx.y0 Bx.y1 [] (s.take k)))) (fun _ i _ => s.length - (intOf i).toNat)
  case atStart => exact ⟨0, Nat.zero_le _, rfl, IS.lit0 _ _ (Nat.le_refl _), by simp, by (repeat' (first | (with_reducible exact Below.refl _ _) | (with_reducible assumption) | (with_reducible refine Below.setCell ?_ ?_ _) | (with_reducible refine Below.alloc ?_ ?_ _) | (with_reducible refine below_drewN ?_ _) | (with_reducible refine Below.drew ?_) | (with_reducible exact Nat.le_refl _) | omega | (simp; done) | (simp; omega)))⟩
  case round =>
    obtain ⟨k, hk, rfl, hR⟩ := hrel
    by_cases hlt : k < s.length
    · have hk' : Hid (k < s.length) := hlt
      obtain ⟨gp, op', cp, hpe, hpg, hpj⟩ := (ha.out.below hR.out.bl).pos (by omega)
      injection hpe with e1 _ e3
      subst e1 e3
      obtain ⟨c0, c1, c2, c3⟩ := hpj k hlt
      clear hpj
      generalize hbb : bat s k = b at c0 c1 c2 c3
      have HB : Hid (bat s k = b) := hbb
      clear hbb
      have b0 : (0 : Int) ≤ (k : Int) := by omega
      have b1 : (k : Int) < (s.length : Int) := by omega
      go_wp2_with (fail)
      refine wp_region_float (by kernel_rfl) (fun hS => ?_)
      refine fl_take (i := 0) (d := 22) (v := u7) rfl rfl rfl (by kernel_rfl) (by kernel_rfl) (by kernel_rfl) hS ?_ ?_
      · intro w' hk; go_simp
      simp only [Act.put, List.setIfInBounds_toArray, List.set_cons_zero, List.set_cons_succ]
      refine fl_take (i := 1) (d := 23) (v := .slice (some ⟨gp, op', none⟩) s.length ac) rfl rfl rfl (by kernel_rfl) (by kernel_rfl) (by kernel_rfl) hS ?_ ?_
      · intro w' hk; go_simp
      simp only [Act.put, List.setIfInBounds_toArray, List.set_cons_zero, List.set_cons_succ]
      refine fl_take (i := 2) (d := 24) (v := .int .i64 k) rfl rfl rfl (by kernel_rfl) (by kernel_rfl) (by kernel_rfl) hS ?_ ?_
      · intro w' hk; go_simp
      simp only [Act.put, List.setIfInBounds_toArray, List.set_cons_zero, List.set_cons_succ]
      refine fl_take (i := 3) (d := 25) (v := .pointer (some ⟨gp, op' + k * 4, none⟩)) rfl rfl rfl (by kernel_rfl) (by kernel_rfl) (by kernel_rfl) hS ?_ ?_
      · intro w' hk; go_simp
      simp only [Act.put, List.setIfInBounds_toArray, List.set_cons_zero, List.set_cons_succ]
      refine fl_take (i := 4) (d := 26) (v := .pointer (some ⟨gp, op' + k * 4 + 1, none⟩)) rfl rfl rfl (by kernel_rfl) (by kernel_rfl) (by kernel_rfl) hS ?_ ?_
      · intro w' hk; go_simp
      simp only [Act.put, List.setIfInBounds_toArray, List.set_cons_zero, List.set_cons_succ]
      refine fl_take (i := 5) (d := 27) (v := .int .i64 b.y0) rfl rfl rfl (by kernel_rfl) (by kernel_rfl) (by kernel_rfl) hS ?_ ?_
      · intro w' hk; go_simp
      simp only [Act.put, List.setIfInBounds_toArray, List.set_cons_zero, List.set_cons_succ]
      refine fl_take (i := 7) (d := 29) (v := .slice (some ⟨gp, op', none⟩) s.length ac) rfl rfl rfl (by kernel_rfl) (by kernel_rfl) (by kernel_rfl) hS ?_ ?_
      · intro w' hk; go_simp
      simp only [Act.put, List.setIfInBounds_toArray, List.set_cons_zero, List.set_cons_succ]
      refine fl_take (i := 8) (d := 30) (v := .int .i64 k) rfl rfl rfl (by kernel_rfl) (by kernel_rfl) (by kernel_rfl) hS ?_ ?_
      · intro w' hk; go_simp
      simp only [Act.put, List.setIfInBounds_toArray, List.set_cons_zero, List.set_cons_succ]
      refine fl_take (i := 9) (d := 31) (v := .pointer (some ⟨gp, op' + k * 4, none⟩)) rfl rfl rfl (by kernel_rfl) (by kernel_rfl) (by kernel_rfl) hS ?_ ?_
      · intro w' hk; go_simp
      simp only [Act.put, List.setIfInBounds_toArray, List.set_cons_zero, List.set_cons_succ]
      refine fl_take (i := 10) (d := 32) (v := .pointer (some ⟨gp, op' + k * 4 + 3, none⟩)) rfl rfl rfl (by kernel_rfl) (by kernel_rfl) (by kernel_rfl) hS ?_ ?_
      · intro w' hk; go_simp
      simp only [Act.put, List.setIfInBounds_toArray, List.set_cons_zero, List.set_cons_succ]
      refine fl_take (i := 11) (d := 33) (v := .int .i64 b.y1) rfl rfl rfl (by kernel_rfl) (by kernel_rfl) (by kernel_rfl) hS ?_ ?_
      · intro w' hk; go_simp
      simp only [Act.put, List.setIfInBounds_toArray, List.set_cons_zero, List.set_cons_succ]
      refine wpAnyH_all (rs := [6]) (by kernel_rfl) (by simp) ?_
      intro i hi
      obtain rfl : i = 6 := by simpa using hi
      refine op_call (d := 28) rfl rfl rfl (by go_simp) ((spec_put (B := w.heap.size) b.y0 (Nat.le_trans (endsF_length _ _ _ _) (by simp; omega)) (endsF_up _ _ _ List.Pairwise.nil) (hR.out.is.below' hS.2) hR.out.ne).mono ?_)
      rintro e w3 ⟨v3, rfl, hi3, hn3, hb3⟩
      refine ⟨_, rfl, hS.call hb3, ?_⟩
      simp only [Act.put, List.setIfInBounds_toArray, List.set_cons_zero, List.set_cons_succ]
      refine wpAnyH_all (rs := [12]) (by kernel_rfl) (by simp) ?_
      intro i hi
      obtain rfl : i = 12 := by simpa using hi
      refine op_call (d := 34) rfl rfl rfl (by go_simp) ((spec_put (B := w.heap.size) b.y1 (Nat.le_trans (ins_length _ _) (by have := endsF_length Bx.y0 Bx.y1 (s.take k) []; simp at this; omega)) (ins_up _ (endsF_up _ _ _ List.Pairwise.nil)) hi3 hn3).mono ?_)
      rintro e w4 ⟨v4, rfl, hi4, hn4, hb4⟩
      have hS4 := (hS.call hb3).call hb4
      refine ⟨_, rfl, hS4, ?_⟩
      simp only [Act.put, List.setIfInBounds_toArray, List.set_cons_zero, List.set_cons_succ]
      refine wpAnyH_all (rs := [13]) (by kernel_rfl) (by simp) ?_
      intro i hi
      obtain rfl : i = 13 := by simpa using hi
      refine op_val (d := 7) (v := v4) (w' := w4) rfl rfl rfl (by go_simp) ?_
      simp only [Act.put, List.setIfInBounds_toArray, List.set_cons_zero, List.set_cons_succ]
      refine ⟨hS4, wpAnyH_done (by kernel_rfl) (NoPanic.normal ?_) _⟩
      have R : Hid (OJ w w4 v4 (endsF Bx.y0 Bx.y1 [] (s.take (k + 1)))) := by
        have := hR.out.next hS.2 hb3 hb4 hi4 hn4
        rwa [← endsF_step Bx.y0 Bx.y1 s k b hk'.out HB.out []] at this
      clear hi3 hn3 hb3 hi4 hn4 hb4 hS4 hS hR
      go_wp2
      go_roundw
      case rel => exact ⟨k + 1, by omega, by go_num, R.out⟩
      case measure => simp [intOf]; omega
    · have R0 : Hid (OJ w wr u7 (endsF Bx.y0 Bx.y1 [] s)) := by
        have := hR.out
        rwa [List.take_of_length_le (by omega)] at this
      clear hR
      go_wp2_with (fail)
      go_loopw [7, 9] (fun vx i wr => ∃ k : Nat, k ≤ t.length ∧ i = .int .i64 k ∧ Hid (OJ w wr vx (endsF Bx.y0 Bx.y1 (endsF Bx.y0 Bx.y1 [] s) (t.take k)))) (fun _ i _ => t.length - (intOf i).toNat)
      case atStart => exact ⟨0, Nat.zero_le _, rfl, R0.out⟩
      case round =>
        clear R0 hk hlt
        obtain ⟨k, hk, rfl, hR⟩ := hrel
        by_cases hlt : k < t.length
        · have hk' : Hid (k < t.length) := hlt
          obtain ⟨gq, oq, cq, hpe, hpg, hpj⟩ := (hb.out.below hR.out.bl).pos (by omega)
          injection hpe with e1 _ e3
          subst e1 e3
          obtain ⟨c0, c1, c2, c3⟩ := hpj k hlt
          clear hpj
          generalize hbb : bat t k = b at c0 c1 c2 c3
          have HB : Hid (bat t k = b) := hbb
          clear hbb
          have b0 : (0 : Int) ≤ (k : Int) := by omega
          have b1 : (k : Int) < (t.length : Int) := by omega
          go_wp2_with (fail)
          refine wp_region_float (by kernel_rfl) (fun hS => ?_)
          refine fl_take (i := 0) (d := 41) (v := u7) rfl rfl rfl (by kernel_rfl) (by kernel_rfl) (by kernel_rfl) hS ?_ ?_
          · intro w' hk; go_simp
          simp only [Act.put, List.setIfInBounds_toArray, List.set_cons_zero, List.set_cons_succ]
          refine fl_take (i := 1) (d := 42) (v := .slice (some ⟨gq, oq, none⟩) t.length bc) rfl rfl rfl (by kernel_rfl) (by kernel_rfl) (by kernel_rfl) hS ?_ ?_
          · intro w' hk; go_simp
          simp only [Act.put, List.setIfInBounds_toArray, List.set_cons_zero, List.set_cons_succ]
          refine fl_take (i := 2) (d := 43) (v := .int .i64 k) rfl rfl rfl (by kernel_rfl) (by kernel_rfl) (by kernel_rfl) hS ?_ ?_
          · intro w' hk; go_simp
          simp only [Act.put, List.setIfInBounds_toArray, List.set_cons_zero, List.set_cons_succ]
          refine fl_take (i := 3) (d := 44) (v := .pointer (some ⟨gq, oq + k * 4, none⟩)) rfl rfl rfl (by kernel_rfl) (by kernel_rfl) (by kernel_rfl) hS ?_ ?_
          · intro w' hk; go_simp
          simp only [Act.put, List.setIfInBounds_toArray, List.set_cons_zero, List.set_cons_succ]
          refine fl_take (i := 4) (d := 45) (v := .pointer (some ⟨gq, oq + k * 4 + 1, none⟩)) rfl rfl rfl (by kernel_rfl) (by kernel_rfl) (by kernel_rfl) hS ?_ ?_
          · intro w' hk; go_simp
          simp only [Act.put, List.setIfInBounds_toArray, List.set_cons_zero, List.set_cons_succ]
          refine fl_take (i := 5) (d := 46) (v := .int .i64 b.y0) rfl rfl rfl (by kernel_rfl) (by kernel_rfl) (by kernel_rfl) hS ?_ ?_
          · intro w' hk; go_simp
          simp only [Act.put, List.setIfInBounds_toArray, List.set_cons_zero, List.set_cons_succ]
          refine fl_take (i := 7) (d := 48) (v := .slice (some ⟨gq, oq, none⟩) t.length bc) rfl rfl rfl (by kernel_rfl) (by kernel_rfl) (by kernel_rfl) hS ?_ ?_
          · intro w' hk; go_simp
          simp only [Act.put, List.setIfInBounds_toArray, List.set_cons_zero, List.set_cons_succ]
          refine fl_take (i := 8) (d := 49) (v := .int .i64 k) rfl rfl rfl (by kernel_rfl) (by kernel_rfl) (by kernel_rfl) hS ?_ ?_
          · intro w' hk; go_simp
          simp only [Act.put, List.setIfInBounds_toArray, List.set_cons_zero, List.set_cons_succ]
          refine fl_take (i := 9) (d := 50) (v := .pointer (some ⟨gq, oq + k * 4, none⟩)) rfl rfl rfl (by kernel_rfl) (by kernel_rfl) (by kernel_rfl) hS ?_ ?_
          · intro w' hk; go_simp
          simp only [Act.put, List.setIfInBounds_toArray, List.set_cons_zero, List.set_cons_succ]
          refine fl_take (i := 10) (d := 51) (v := .pointer (some ⟨gq, oq + k * 4 + 3, none⟩)) rfl rfl rfl (by kernel_rfl) (by kernel_rfl) (by kernel_rfl) hS ?_ ?_
          · intro w' hk; go_simp
          simp only [Act.put, List.setIfInBounds_toArray, List.set_cons_zero, List.set_cons_succ]
          refine fl_take (i := 11) (d := 52) (v := .int .i64 b.y1) rfl rfl rfl (by kernel_rfl) (by kernel_rfl) (by kernel_rfl) hS ?_ ?_
          · intro w' hk; go_simp
          simp only [Act.put, List.setIfInBounds_toArray, List.set_cons_zero, List.set_cons_succ]
          refine wpAnyH_all (rs := [6]) (by kernel_rfl) (by simp) ?_
          intro i hi
          obtain rfl : i = 6 := by simpa using hi
          refine op_call (d := 47) rfl rfl rfl (by go_simp) ((spec_put (B := w.heap.size) b.y0 (Nat.le_trans (endsF_length _ _ _ _) (by have := endsF_length Bx.y0 Bx.y1 s []; simp at this ⊢; omega)) (endsF_up _ _ _ (endsF_up _ _ _ List.Pairwise.nil)) (hR.out.is.below' hS.2) hR.out.ne).mono ?_)
          rintro e w3 ⟨v3, rfl, hi3, hn3, hb3⟩
          refine ⟨_, rfl, hS.call hb3, ?_⟩
          simp only [Act.put, List.setIfInBounds_toArray, List.set_cons_zero, List.set_cons_succ]
          refine wpAnyH_all (rs := [12]) (by kernel_rfl) (by simp) ?_
          intro i hi
          obtain rfl : i = 12 := by simpa using hi
          refine op_call (d := 53) rfl rfl rfl (by go_simp) ((spec_put (B := w.heap.size) b.y1 (Nat.le_trans (ins_length _ _) (by have := endsF_length Bx.y0 Bx.y1 s []; have := endsF_length Bx.y0 Bx.y1 (t.take k) (endsF Bx.y0 Bx.y1 [] s); simp at *; omega)) (ins_up _ (endsF_up _ _ _ (endsF_up _ _ _ List.Pairwise.nil))) hi3 hn3).mono ?_)
          rintro e w4 ⟨v4, rfl, hi4, hn4, hb4⟩
          have hS4 := (hS.call hb3).call hb4
          refine ⟨_, rfl, hS4, ?_⟩
          simp only [Act.put, List.setIfInBounds_toArray, List.set_cons_zero, List.set_cons_succ]
          refine wpAnyH_all (rs := [13]) (by kernel_rfl) (by simp) ?_
          intro i hi
          obtain rfl : i = 13 := by simpa using hi
          refine op_val (d := 7) (v := v4) (w' := w4) rfl rfl rfl (by go_simp) ?_
          simp only [Act.put, List.setIfInBounds_toArray, List.set_cons_zero, List.set_cons_succ]
          refine ⟨hS4, wpAnyH_done (by kernel_rfl) (NoPanic.normal ?_) _⟩
          have R : Hid (OJ w w4 v4 (endsF Bx.y0 Bx.y1 (endsF Bx.y0 Bx.y1 [] s) (t.take (k + 1)))) := by
            have := hR.out.next hS.2 hb3 hb4 hi4 hn4
            rwa [← endsF_step Bx.y0 Bx.y1 t k b hk'.out HB.out _] at this
          clear hi3 hn3 hb3 hi4 hn4 hb4 hS4 hS hR
          go_wp2
          go_roundw
          case rel => exact ⟨k + 1, by omega, by go_num, R.out⟩
          case measure => simp [intOf]; omega
        · have R0 : Hid (OJ w wr u7 (endsF Bx.y0 Bx.y1 (endsF Bx.y0 Bx.y1 [] s) t)) := by
            have := hR.out
            rwa [List.take_of_length_le (by omega)] at this
          clear hR
          have hm : (endsF Bx.y0 Bx.y1 (endsF Bx.y0 Bx.y1 [] s) t).length ≤ 1000000 := by
            have := endsF_length Bx.y0 Bx.y1 s []; have := endsF_length Bx.y0 Bx.y1 t (endsF Bx.y0 Bx.y1 [] s); simp at *; omega
          have HT : Hid (opOf (takesK op) s t = opK (ROf op s t) (endsF Bx.y0 Bx.y1 (endsF Bx.y0 Bx.y1 [] s) t) ([], [])) := rfl
          obtain ⟨ys, hys⟩ : ∃ ys, ys = endsF Bx.y0 Bx.y1 (endsF Bx.y0 Bx.y1 [] s) t := ⟨_, rfl⟩
          rw [← hys] at R0 HT hm
          clear hys
          obtain ⟨ya, yc, hyf⟩ := R0.out.is.form
          subst hyf
          go_wp2_with (fail)
          go_loopw [10, 11, 12] (fun vo vl i wr => ∃ k : Nat, k ≤ ys.length ∧ i = .int .i64 k ∧ Hid (OR w wr vo vl (.slice ya ys.length yc) s t op ys k)) (fun _ _ i _ => ys.length - (intOf i).toNat)
          case atStart =>
            have hz := R0.out.bl.size
            have ha2 : Below wr.heap.size wr (wr.alloc (.cells #[] 30)) := (Below.refl _ _).alloc (Nat.le_refl _) _
            have ha3 : Below (wr.alloc (.cells #[] 30)).heap.size (wr.alloc (.cells #[] 30)) ((wr.alloc (.cells #[] 30)).alloc (.cells #[] 30)) := (Below.refl _ _).alloc (Nat.le_refl _) _
            have hyl := fun g h => (World.ownsRow.lt R0.out.is g h).2
            refine ⟨0, Nat.zero_le _, rfl, [], [], ⟨(BS.lit0 wr _ hz).below ha3, by simp, (by have := BS.lit0 (wr.alloc (.cells #[] 30)) w.heap.size (by simp; omega); simpa using this), (R0.out.is.below' ha2).below' ha3, ?_, ?_, (R0.out.bl.trans (ha2.mono hz)).trans (ha3.mono (by simp; omega))⟩, by simp, rfl⟩
            · simp [Value.ownBlock]
            · intro e; have := hyl wr.heap.size e.symm; omega
          case round =>
            clear R0 hk hlt
            obtain ⟨k, hk, rfl, hR⟩ := hrel
            by_cases hlt : k + 1 < ys.length
            · obtain ⟨done, last, hP, hlen, heq⟩ := hR.out
              have hP0 := hP
              obtain ⟨gy, cy, hye, hyB, hyg, hyj⟩ := hP.y.pos (by omega)
              injection hye with e1 _ e3
              subst e1 e3
              obtain ⟨oa, oc, hof⟩ := hP.o.form
              obtain ⟨n0, hn0⟩ : ∃ n0, n0 = (done ++ last).length := ⟨_, rfl⟩
              rw [← hn0] at hof
              subst hof
              have HN0 : Hid (n0 = done.length + last.length) := by unfold Hid; rw [hn0]; simp
              obtain ⟨dl, hdl⟩ : ∃ dl, dl = done.length := ⟨_, rfl⟩
              have HDL : Hid (dl = done.length) := hdl
              obtain ⟨la, lc, hlf⟩ := hP.l.form
              subst hlf
              obtain ⟨c, hc⟩ : ∃ c, c = ys.getD k 0 := ⟨_, rfl⟩
              obtain ⟨d, hd⟩ : ∃ d, d = ys.getD (k + 1) 0 := ⟨_, rfl⟩
              have cc := hyj k (by omega)
              have cd := hyj (k + 1) (by omega)
              rw [← hc] at cc
              rw [← hd] at cd
              have HP : Hid (OP w wr (.slice oa n0 oc) (.slice la last.length lc) (.slice (some ⟨gy, 0, none⟩) ys.length yc) done last ys) := hP
              have HNX : Hid (∀ st, stepO (ROf op s t) (done, last) c d = st → opK (ROf op s t) (ys.drop (k + 1)) st = opK (ROf op s t) ys ([], [])) := by
                intro st he
                rw [← heq, ← he, hc, hd]
                exact (op_drop hlt).symm
              have HD : Hid (d = ys.getD (k + 1) 0) := hd
              clear hc hd hR hP heq hyj
              have b0 : (0 : Int) ≤ (k : Int) := by omega
              have b1 : (k : Int) + 1 < (ys.length : Int) := by omega
              have b2 : (k : Int) < (ys.length : Int) := by omega
              have hwk : IntKind.i64.wrap ((k : Int) + 1) = (k : Int) + 1 := by rw [IntKind.wrap_i64]; omega
              have b7 : ¬ (k : Int) + 1 < 0 := by omega
              have hlast : n0 ≤ 1000000000000 := by
                have : k * 1000000 ≤ 1000000 * 1000000 := Nat.mul_le_mul_right _ (by omega)
                omega
              have hlast2 : last.length ≤ n0 := by have := HN0.out; omega
              have hdn : dl + last.length = n0 := by have := HN0.out; omega
              have hlen' : n0 ≤ k * 1000000 := by omega
              have HLEN : Hid (n0 ≤ k * 1000000 ∧ dl + last.length = n0 ∧ dl = done.length ∧ n0 = (done ++ last).length) := ⟨hlen', hdn, hdl, hn0⟩
              clear hlen hlen' hdn hdl hn0
              go_wp2_with (fail)
              refine wp_region_float (by kernel_rfl) (fun hS => ?_)
              refine fl_take (i := 0) (d := 63) (v := .int .i64 op) rfl rfl rfl (by kernel_rfl) (by kernel_rfl) (by kernel_rfl) hS ?_ ?_
              · intro w' hk; go_simp
              simp only [Act.put, List.setIfInBounds_toArray, List.set_cons_zero, List.set_cons_succ]
              refine fl_take (i := 1) (d := 64) (v := .slice aa s.length ac) rfl rfl rfl (by kernel_rfl) (by kernel_rfl) (by kernel_rfl) hS ?_ ?_
              · intro w' hk; go_simp
              simp only [Act.put, List.setIfInBounds_toArray, List.set_cons_zero, List.set_cons_succ]
              refine fl_take (i := 2) (d := 65) (v := .slice ab t.length bc) rfl rfl rfl (by kernel_rfl) (by kernel_rfl) (by kernel_rfl) hS ?_ ?_
              · intro w' hk; go_simp
              simp only [Act.put, List.setIfInBounds_toArray, List.set_cons_zero, List.set_cons_succ]
              refine fl_take (i := 3) (d := 66) (v := .slice (some ⟨gy, 0, none⟩) ys.length yc) rfl rfl rfl (by kernel_rfl) (by kernel_rfl) (by kernel_rfl) hS ?_ ?_
              · intro w' hk; go_simp
              simp only [Act.put, List.setIfInBounds_toArray, List.set_cons_zero, List.set_cons_succ]
              refine fl_take (i := 4) (d := 67) (v := .int .i64 k) rfl rfl rfl (by kernel_rfl) (by kernel_rfl) (by kernel_rfl) hS ?_ ?_
              · intro w' hk; go_simp
              simp only [Act.put, List.setIfInBounds_toArray, List.set_cons_zero, List.set_cons_succ]
              refine fl_take (i := 5) (d := 68) (v := .pointer (some ⟨gy, k, none⟩)) rfl rfl rfl (by kernel_rfl) (by kernel_rfl) (by kernel_rfl) hS ?_ ?_
              · intro w' hk; go_simp
              simp only [Act.put, List.setIfInBounds_toArray, List.set_cons_zero, List.set_cons_succ]
              refine fl_take (i := 6) (d := 69) (v := .int .i64 c) rfl rfl rfl (by kernel_rfl) (by kernel_rfl) (by kernel_rfl) hS ?_ ?_
              · intro w' hk; go_simp
              simp only [Act.put, List.setIfInBounds_toArray, List.set_cons_zero, List.set_cons_succ]
              refine fl_take (i := 7) (d := 70) (v := .slice (some ⟨gy, 0, none⟩) ys.length yc) rfl rfl rfl (by kernel_rfl) (by kernel_rfl) (by kernel_rfl) hS ?_ ?_
              · intro w' hk; go_simp
              simp only [Act.put, List.setIfInBounds_toArray, List.set_cons_zero, List.set_cons_succ]
              refine fl_take (i := 8) (d := 71) (v := .int .i64 k) rfl rfl rfl (by kernel_rfl) (by kernel_rfl) (by kernel_rfl) hS ?_ ?_
              · intro w' hk; go_simp
              simp only [Act.put, List.setIfInBounds_toArray, List.set_cons_zero, List.set_cons_succ]
              refine fl_take (i := 9) (d := 72) (v := .int .i64 (k + 1)) rfl rfl rfl (by kernel_rfl) (by kernel_rfl) (by kernel_rfl) hS ?_ ?_
              · intro w' hk; go_simp
              simp only [Act.put, List.setIfInBounds_toArray, List.set_cons_zero, List.set_cons_succ]
              refine fl_take (i := 10) (d := 73) (v := .pointer (some ⟨gy, k + 1, none⟩)) rfl rfl rfl (by kernel_rfl) (by kernel_rfl) (by kernel_rfl) hS ?_ ?_
              · intro w' hk; go_simp
              simp only [Act.put, List.setIfInBounds_toArray, List.set_cons_zero, List.set_cons_succ]
              refine fl_take (i := 11) (d := 74) (v := .int .i64 d) rfl rfl rfl (by kernel_rfl) (by kernel_rfl) (by kernel_rfl) hS ?_ ?_
              · intro w' hk; go_simp
              simp only [Act.put, List.setIfInBounds_toArray, List.set_cons_zero, List.set_cons_succ]
              refine wpAnyH_all (rs := [12]) (by kernel_rfl) (by simp) ?_
              intro i hi
              obtain rfl : i = 12 := by simpa using hi
              refine op_call (d := 75) rfl rfl rfl (by go_simp) ((spec_runs op _ _ s t c d wr.drew (by unfold Hid; omega) (ha.out.below (HP.out.bl.drew)) (hb.out.below (HP.out.bl.drew))).mono ?_)
              rintro e W1 ⟨vb, rfl, hbs, hbn, hb1⟩
              have hS1 := hS.call hb1
              refine ⟨_, rfl, hS1, ?_⟩
              simp only [Act.put, List.setIfInBounds_toArray, List.set_cons_zero, List.set_cons_succ]
              refine wpAnyH_all (rs := [13]) (by kernel_rfl) (by simp) ?_
              intro i hi
              obtain rfl : i = 13 := by simpa using hi
              refine op_val (d := 13) (v := vb) (w' := W1) rfl rfl rfl (by go_simp) ?_
              simp only [Act.put, List.setIfInBounds_toArray, List.set_cons_zero, List.set_cons_succ]
              refine ⟨hS1, wpAnyH_done (by kernel_rfl) (NoPanic.normal ?_) _⟩
              obtain ⟨band, hband⟩ : ∃ band, band = ROf op s t c d := ⟨_, rfl⟩
              have hbl2 : band.length ≤ 1000000 := by
                rw [hband]
                have h1 := runsOf_length (takesK op) (rowK s c) (rowK t c) c d
                have h2 := rowK_length s c
                have h3 := rowK_length t c
                unfold ROf
                omega
              have hbs2 : BS W1 wr.heap.size vb band := by rw [hband]; exact hbs
              obtain ⟨ba, bc', hbf⟩ := hbs2.form
              subst hbf
              obtain ⟨gb, hgb⟩ : ∃ gb, ba = some ⟨gb, 0, none⟩ := by
                rcases hbs2.2 with ⟨h, _⟩ | ⟨g, _, _, h, _⟩
                · exact absurd h hbn
                · injection h with h1 _ _; exact ⟨g, h1⟩
              subst hgb
              have HBD : Hid (band = ROf op s t c d) := hband
              have HP1 : Hid (OP w W1 (.slice oa n0 oc) (.slice la last.length lc) (.slice (some ⟨gy, 0, none⟩) ys.length yc) done last ys) := HP.out.keep hS1.2
              have HB1 : Hid (BS W1 w.heap.size (.slice (some ⟨gb, 0, none⟩) band.length bc') band) := hbs2.low HP.out.bl.size
              have HOB : Hid ((Value.slice oa n0 oc).ownBlock ≠ (Value.slice (some ⟨gb, 0, none⟩) band.length bc').ownBlock) := by
                intro e
                have h1 := (World.ownsRow.lt HP.out.o gb e).2
                have h2 := (World.ownsRow.lt hbs2 gb rfl).1
                omega
              have cc1 : W1.cell? ⟨gy, k, none⟩ = some (.int .i64 c) := by rw [hS1.1 _ _ hyg]; exact cc
              have cd1 : W1.cell? ⟨gy, k + 1, none⟩ = some (.int .i64 d) := by rw [hS1.1 _ _ hyg]; exact cd
              have hgy1 : gy < W1.heap.size := Nat.lt_of_lt_of_le hyg hS1.2.size
              clear hband hbs hbs2 hb1 hS1 hS cc cd HP hbn hP0
              have hbz : (band.length : Int) ≤ 1000000 := by omega
              have hlz : (last.length : Int) ≤ 1000000000000 := by omega
              have hnz : (n0 : Int) ≤ 1000000000000 := by omega
              by_cases hb0 : 0 < band.length
              · by_cases hl0 : 0 < last.length
                · obtain ⟨gl, ol, cl, hle, hlg, hlj⟩ := HP1.out.l.rb.pos (by omega)
                  injection hle with e1 _ e3
                  subst e1 e3
                  obtain ⟨_, _, _, z3⟩ := hlj 0 (by omega)
                  simp only [Nat.zero_mul, Nat.add_zero] at z3
                  obtain ⟨hh, hhe⟩ : ∃ hh, hh = (bat last 0).y1 := ⟨_, rfl⟩
                  rw [← hhe] at z3
                  have HH : Hid (hy1 last = hh) := by rw [hhe]; exact hy1_bat (by omega)
                  clear hlj hhe
                  cases hq : hh == c with
                  | false =>
                    go_wp2_with (fail)
                    (refine wp_region_und (by kernel_rfl) (by kernel_rfl) (fun hund => ?_); (repeat (go_big_quiet_step (fail))); with_reducible refine wpQuiet_nil ?_; clear hund; intro W2 hb2; obtain ⟨hc2, hf2⟩ := bcell hb2)
                    have HP2 : Hid (OP w W2 (.slice oa n0 oc) (.slice (some ⟨gl, ol, none⟩) last.length lc) (.slice (some ⟨gy, 0, none⟩) ys.length yc) done last ys) := HP1.out.keep hb2
                    have HB2 : Hid (BS W2 w.heap.size (.slice (some ⟨gb, 0, none⟩) band.length bc') band) := HB1.out.below hb2
                    have HOW : Hid (W2.ownsRow w.heap.size 30 4 (.slice oa n0 oc) n0 (bflat (done ++ last))) := by
                      have := HP2.out.o; unfold BS at this; rwa [← HLEN.out.2.2.2] at this
                    clear hb2 hc2 hf2 HP1 HB1 cc1 cd1 z3
                    go_wp2_with (at_builtin; refine wpList_append_own_at W2 rfl (.tmp 129) (.tmp 130) 26 rfl w.heap.size 30 i0 (.agg #[.int .i64 0, .int .i64 0, .int .i64 0, .int .i64 0]) 4 32 Try.underlying26 hi0 hz0 hz1 hz2 rfl (by decide) (.slice oa n0 oc) n0 (bflat (done ++ last)) rfl HOW.out ⟨gb, 0, none⟩ band.length bc' (bflat band) rfl (bflat_length _) (World.ownsRow.cells HB2.out rfl) (one_boxes _) (by unfold maxLen; omega) (by omega) HP2.out.bl.size ?_; intro v3 w3 hown3 hgrow3 hv3 hat3)
                    have R : Hid (OR w w3 v3 (.slice (some ⟨gb, 0, none⟩) band.length bc') (.slice (some ⟨gy, 0, none⟩) ys.length yc) s t op ys (k + 1)) := by
                      refine ⟨done ++ last, band, HP2.out.push HB2.out HOB.out hown3 (by rw [← HLEN.out.2.2.2]) hgrow3 (fun e => HP2.out.on (hv3.1 e).1) hat3, ?_, HNX.out _ (by rw [HBD.out]; exact stepO_no (by rw [← HBD.out]; exact (goesK_y (by rw [HH.out]; exact hq))))⟩
                      have h1 := HLEN.out.1
                      have h2 := HLEN.out.2.2.2
                      rw [List.length_append]; omega
                    clear hown3 hgrow3 hv3 hat3
                    go_wp2
                    go_roundw
                    case rel => exact ⟨k + 1, by omega, by go_num, R.out⟩
                    case measure => simp [intOf]; omega
                  | true =>
                    have hsr : Hid (∀ x : Und W1.heap.size W1, Calls Try.prog 92 #[.slice (some ⟨gl, ol, none⟩) last.length lc, .slice (some ⟨gb, 0, none⟩) band.length bc'] x.W fun e w' => e = .returned (.bool (sameRuns last band)) ∧ ∃ n, w' = x.W.drewN n) := fun x => spec_sameRuns (by omega) (HP1.out.l.rb.below x.below) (HB1.out.rb.below x.below)
                    cases hs : sameRuns last band with
                    | false =>
                      rw [hs] at hsr
                      have HSR : Hid (sameRuns last band = false) := hs
                      clear hs
                      go_wp2_with (fail)
                      (refine wp_region_und (by kernel_rfl) (by kernel_rfl) (fun hund => ?_); (repeat (go_big_quiet_step (first | (go_at_call 92; with_reducible refine und_call_drewN (hsr.out _))))); with_reducible refine wpQuiet_nil ?_; clear hund; intro W2 hb2; obtain ⟨hc2, hf2⟩ := bcell hb2)
                      have HP2 : Hid (OP w W2 (.slice oa n0 oc) (.slice (some ⟨gl, ol, none⟩) last.length lc) (.slice (some ⟨gy, 0, none⟩) ys.length yc) done last ys) := HP1.out.keep hb2
                      have HB2 : Hid (BS W2 w.heap.size (.slice (some ⟨gb, 0, none⟩) band.length bc') band) := HB1.out.below hb2
                      have HOW : Hid (W2.ownsRow w.heap.size 30 4 (.slice oa n0 oc) n0 (bflat (done ++ last))) := by
                        have := HP2.out.o; unfold BS at this; rwa [← HLEN.out.2.2.2] at this
                      clear hb2 hc2 hf2 HP1 HB1 cc1 cd1 z3 hsr
                      go_wp2_with (at_builtin; refine wpList_append_own_at W2 rfl (.tmp 129) (.tmp 130) 26 rfl w.heap.size 30 i0 (.agg #[.int .i64 0, .int .i64 0, .int .i64 0, .int .i64 0]) 4 32 Try.underlying26 hi0 hz0 hz1 hz2 rfl (by decide) (.slice oa n0 oc) n0 (bflat (done ++ last)) rfl HOW.out ⟨gb, 0, none⟩ band.length bc' (bflat band) rfl (bflat_length _) (World.ownsRow.cells HB2.out rfl) (one_boxes _) (by unfold maxLen; omega) (by omega) HP2.out.bl.size ?_; intro v3 w3 hown3 hgrow3 hv3 hat3)
                      have R : Hid (OR w w3 v3 (.slice (some ⟨gb, 0, none⟩) band.length bc') (.slice (some ⟨gy, 0, none⟩) ys.length yc) s t op ys (k + 1)) := by
                        refine ⟨done ++ last, band, HP2.out.push HB2.out HOB.out hown3 (by rw [← HLEN.out.2.2.2]) hgrow3 (fun e => HP2.out.on (hv3.1 e).1) hat3, ?_, HNX.out _ (by rw [HBD.out]; exact stepO_no (by rw [← HBD.out]; exact (goesK_s HSR.out)))⟩
                        have h1 := HLEN.out.1
                        have h2 := HLEN.out.2.2.2
                        rw [List.length_append]; omega
                      clear hown3 hgrow3 hv3 hat3
                      go_wp2
                      go_roundw
                      case rel => exact ⟨k + 1, by omega, by go_num, R.out⟩
                      case measure => simp [intOf]; omega
                    | true =>
                      rw [hs] at hsr
                      have HSR : Hid (sameRuns last band = true) := hs
                      clear hs
                      have HOS : Hid (∃ go, oa = some ⟨go, 0, none⟩) := by
                        rcases HP1.out.o.2 with ⟨h, _⟩ | ⟨g, _, _, h, _⟩
                        · exact absurd h HP1.out.on
                        · injection h with h1 _ _; exact ⟨g, h1⟩
                      obtain ⟨go, hgo⟩ := HOS.out
                      subst hgo
                      have HGK : Hid (goesK band last c = true) := goesK_yes (by omega) (by omega) (by rw [HH.out]; exact hq) HSR.out
                      go_wp2_with (fail)
                      (refine wp_region_und (by kernel_rfl) (by kernel_rfl) (fun hund => ?_); (repeat (go_big_quiet_step (first | (go_at_call 92; with_reducible refine und_call_drewN (hsr.out _))))); with_reducible refine wpQuiet_nil ?_; clear hund; intro W2 hb2; obtain ⟨hc2, hf2⟩ := bcell hb2)
                      have hsub : (n0 : Int) - (last.length : Int) = (dl : Int) := by have := HLEN.out.2.1; omega
                      have hdn0 : dl ≤ n0 := by have := HLEN.out.2.1; omega
                      have HQ0 : Hid (OQ w W2 (.slice (some ⟨go, 0, none⟩) n0 oc) (.slice (some ⟨gy, 0, none⟩) ys.length yc) done last d 0 ys) := by
                        have h := HP1.out.keep hb2
                        exact ⟨by rw [Lj_zero]; exact h.o, h.y, h.bl⟩
                      have HON : Hid ((Value.slice (some ⟨go, 0, none⟩) n0 oc).ownBlock ≠ (Value.slice (some ⟨gy, 0, none⟩) ys.length yc).ownBlock) := HP1.out.oy
                      clear hb2 hc2 hf2 HP1 HB1 cc1 cd1 z3 hsr HOB
                      go_wp2_with (fail)
                      go_loopw [14] (fun i wr => ∃ q : Nat, dl ≤ q ∧ q ≤ n0 ∧ i = .int .i64 q ∧ Hid (OQ w wr (.slice (some ⟨go, 0, none⟩) n0 oc) (.slice (some ⟨gy, 0, none⟩) ys.length yc) done last d (q - dl) ys)) (fun i _ => n0 - (intOf i).toNat)
                      case atStart => exact ⟨dl, Nat.le_refl _, hdn0, rfl, by rw [Nat.sub_self]; exact HQ0.out⟩
                      case round =>
                        clear HQ0
                        obtain ⟨q, hq1, hq2, rfl, hQ⟩ := hrel
                        by_cases hlt4 : q < n0
                        · have cdr : wr.cell? ⟨gy, k + 1, none⟩ = some (.int .i64 d) := by rw [HD.out]; exact hQ.out.y.at (k + 1) hlt
                          have hfz : wr.frozen? ⟨go, q * 4 + 3, none⟩ = false := World.ownsRow.frozenAt (n := n0) (cap := oc) (base := w.heap.size) (e := 30) (size := 4) (by have := hQ.out.o; unfold BS at this; rwa [Lj_length (by have := HLEN.out.2.1; omega), ← HLEN.out.2.2.1, HLEN.out.2.1] at this) _
                          have hst := bs_raise hQ.out.o (j := q - dl) (q := q) (by have := HLEN.out.2.1; omega) (by have := HLEN.out.2.2.1; omega)
                          have hcl : wr.cell? ⟨go, q * 4 + 3, none⟩ = some (.int .i64 (bat last (q - dl)).y1) := hst.1
                          have R : Hid (OQ w (wr.setCell ⟨go, q * 4 + 3, none⟩ (.int .i64 d)) (.slice (some ⟨go, 0, none⟩) n0 oc) (.slice (some ⟨gy, 0, none⟩) ys.length yc) done last d (q + 1 - dl) ys) := by
                            have e : q + 1 - dl = q - dl + 1 := by omega
                            rw [e]
                            exact hQ.out.step hst.2.1 hst.2.2 HON.out
                          have b8 : (0 : Int) ≤ (q : Int) := by omega
                          have b9 : (q : Int) < (n0 : Int) := by omega
                          clear hst hQ
                          go_wp2
                          go_roundw
                          case rel => exact ⟨q + 1, by omega, by omega, by go_num, R.out⟩
                          case measure => simp [intOf]; omega
                        · have HF : Hid (OQ w wr (.slice (some ⟨go, 0, none⟩) n0 oc) (.slice (some ⟨gy, 0, none⟩) ys.length yc) done last d last.length ys) := by
                            have e : q - dl = last.length := by have := HLEN.out.2.1; omega
                            rw [← e]; exact hQ.out
                          have HL5 : Hid ((bflat (raise last d)).length = (n0 - dl) * 4) := by
                            unfold Hid; rw [bflat_length, raise_length]; have := HLEN.out.2.1; omega
                          have HCE : Hid (∀ {ao : Option Addr}, (¬ oc = dl → ao = some ⟨go, dl * 4, none⟩) → ∀ ad, ao = some ad → ∀ j u, (bflat (raise last d))[j]? = some u → (wr.alloc (.cells #[] 30)).cell? (ad.add j) = some u) := by
                            intro ao hao
                            exact HF.out.tail (by have := HLEN.out.2.2.1; omega) (by have := HLEN.out.2.1; omega) ((Below.refl _ _).alloc (Nat.le_refl _) _) hao
                          clear hQ
                          go_wp2_with (at_builtin; refine append_own_any rfl (.tmp 120) (.tmp 127) 26 rfl wr.heap.size 30 i0 (.agg #[.int .i64 0, .int .i64 0, .int .i64 0, .int .i64 0]) 4 32 Try.underlying26 hi0 hz0 hz1 hz2 rfl (by decide) (.slice (some ⟨wr.heap.size, 0, none⟩) 0 0) 0 [] rfl (BS.lit0 wr _ (Nat.le_refl _)) _ (n0 - dl) _ (bflat (raise last d)) rfl HL5.out (by intro h; first | (cases h; done) | (split at h <;> cases h)) (HCE.out (by intro h; first | rfl | simp [h])) (one_boxes _) (by unfold maxLen; omega) (by omega) (by simp) ?_; intro v5 w5 hown5 hgrow5 hv5)
                          all_goals
                            have R : Hid (OR w w5 (.slice (some ⟨go, 0, none⟩) n0 oc) v5 (.slice (some ⟨gy, 0, none⟩) ys.length yc) s t op ys (k + 1)) := by
                              refine ⟨done, raise last d, HF.out.fin (by simp) HON.out hown5 (by have := HLEN.out.2.1; omega) hgrow5, ?_, HNX.out _ (stepO_yes (by rw [← HBD.out]; exact HGK.out))⟩
                              have h1 := HLEN.out.1
                              have h2 := HLEN.out.2.2.2
                              simp only [List.length_append, raise_length] at h2 ⊢
                              omega
                            clear hown5 hgrow5 hv5 HF HCE HL5
                            go_roundw
                            case rel => exact ⟨k + 1, by omega, by go_num, R.out⟩
                            case measure => simp [intOf]; omega
                · have hz : Hid (last = []) := List.length_eq_zero_iff.1 (by omega)
                  go_wp2_with (fail)
                  (refine wp_region_und (by kernel_rfl) (by kernel_rfl) (fun hund => ?_); (repeat (go_big_quiet_step (fail))); with_reducible refine wpQuiet_nil ?_; clear hund; intro W2 hb2; obtain ⟨hc2, hf2⟩ := bcell hb2)
                  have HP2 : Hid (OP w W2 (.slice oa n0 oc) (.slice la last.length lc) (.slice (some ⟨gy, 0, none⟩) ys.length yc) done last ys) := HP1.out.keep hb2
                  have HB2 : Hid (BS W2 w.heap.size (.slice (some ⟨gb, 0, none⟩) band.length bc') band) := HB1.out.below hb2
                  have HOW : Hid (W2.ownsRow w.heap.size 30 4 (.slice oa n0 oc) n0 (bflat (done ++ last))) := by
                    have := HP2.out.o; unfold BS at this; rwa [← HLEN.out.2.2.2] at this
                  clear hb2 hc2 hf2 HP1 HB1 cc1 cd1
                  go_wp2_with (at_builtin; refine wpList_append_own_at W2 rfl (.tmp 129) (.tmp 130) 26 rfl w.heap.size 30 i0 (.agg #[.int .i64 0, .int .i64 0, .int .i64 0, .int .i64 0]) 4 32 Try.underlying26 hi0 hz0 hz1 hz2 rfl (by decide) (.slice oa n0 oc) n0 (bflat (done ++ last)) rfl HOW.out ⟨gb, 0, none⟩ band.length bc' (bflat band) rfl (bflat_length _) (World.ownsRow.cells HB2.out rfl) (one_boxes _) (by unfold maxLen; omega) (by omega) HP2.out.bl.size ?_; intro v3 w3 hown3 hgrow3 hv3 hat3)
                  have R : Hid (OR w w3 v3 (.slice (some ⟨gb, 0, none⟩) band.length bc') (.slice (some ⟨gy, 0, none⟩) ys.length yc) s t op ys (k + 1)) := by
                    refine ⟨done ++ last, band, HP2.out.push HB2.out HOB.out hown3 (by rw [← HLEN.out.2.2.2]) hgrow3 (fun e => HP2.out.on (hv3.1 e).1) hat3, ?_, HNX.out _ (by rw [HBD.out]; exact stepO_no (by rw [← HBD.out]; exact (by rw [hz.out]; exact goesK_nil _ _)))⟩
                    have h1 := HLEN.out.1
                    have h2 := HLEN.out.2.2.2
                    rw [List.length_append]; omega
                  clear hown3 hgrow3 hv3 hat3
                  go_wp2
                  go_roundw
                  case rel => exact ⟨k + 1, by omega, by go_num, R.out⟩
                  case measure => simp [intOf]; omega
              · have hz : Hid (band = []) := List.length_eq_zero_iff.1 (by omega)
                go_wp2_with (fail)
                (refine wp_region_und (by kernel_rfl) (by kernel_rfl) (fun hund => ?_); (repeat (go_big_quiet_step (fail))); with_reducible refine wpQuiet_nil ?_; clear hund; intro W2 hb2; obtain ⟨hc2, hf2⟩ := bcell hb2)
                have HP2 : Hid (OP w W2 (.slice oa n0 oc) (.slice la last.length lc) (.slice (some ⟨gy, 0, none⟩) ys.length yc) done last ys) := HP1.out.keep hb2
                have HB2 : Hid (BS W2 w.heap.size (.slice (some ⟨gb, 0, none⟩) band.length bc') band) := HB1.out.below hb2
                have HOW : Hid (W2.ownsRow w.heap.size 30 4 (.slice oa n0 oc) n0 (bflat (done ++ last))) := by
                  have := HP2.out.o; unfold BS at this; rwa [← HLEN.out.2.2.2] at this
                clear hb2 hc2 hf2 HP1 HB1 cc1 cd1
                go_wp2_with (at_builtin; refine wpList_append_own_at W2 rfl (.tmp 129) (.tmp 130) 26 rfl w.heap.size 30 i0 (.agg #[.int .i64 0, .int .i64 0, .int .i64 0, .int .i64 0]) 4 32 Try.underlying26 hi0 hz0 hz1 hz2 rfl (by decide) (.slice oa n0 oc) n0 (bflat (done ++ last)) rfl HOW.out ⟨gb, 0, none⟩ band.length bc' (bflat band) rfl (bflat_length _) (World.ownsRow.cells HB2.out rfl) (one_boxes _) (by unfold maxLen; omega) (by omega) HP2.out.bl.size ?_; intro v3 w3 hown3 hgrow3 hv3 hat3)
                have R : Hid (OR w w3 v3 (.slice (some ⟨gb, 0, none⟩) band.length bc') (.slice (some ⟨gy, 0, none⟩) ys.length yc) s t op ys (k + 1)) := by
                  refine ⟨done ++ last, band, HP2.out.push HB2.out HOB.out hown3 (by rw [← HLEN.out.2.2.2]) hgrow3 (fun e => HP2.out.on (hv3.1 e).1) hat3, ?_, HNX.out _ (by rw [HBD.out]; exact stepO_no (by rw [← HBD.out]; exact (by rw [hz.out]; rfl)))⟩
                  have h1 := HLEN.out.1
                  have h2 := HLEN.out.2.2.2
                  rw [List.length_append]; omega
                clear hown3 hgrow3 hv3 hat3
                go_wp2
                go_roundw
                case rel => exact ⟨k + 1, by omega, by go_num, R.out⟩
                case measure => simp [intOf]; omega
            · have R : Hid (BS wr w.heap.size u10 (opOf (takesK op) s t) ∧ u10 ≠ .slice none 0 0 ∧ Below w.heap.size w wr) := by
                obtain ⟨done, last, hP, hlen, heq⟩ := hR.out
                refine ⟨?_, hP.on, hP.bl⟩
                rw [HT.out, ← heq, op_end (by omega)]; exact hP.o
              clear hR
              go_wp2
              go_returns
              exact ⟨_, rfl, R.out.1, R.out.2.1, R.out.2.2⟩

end Go.Proofs.Ytpfnhiohbgconaa
