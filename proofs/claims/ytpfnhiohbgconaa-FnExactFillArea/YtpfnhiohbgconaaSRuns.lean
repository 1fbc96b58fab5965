/- Proved here: the model's runs of a row of two lists of boxes. -/
import Derived.Test.YtpfnhiohbgconaaSIn
import Derived.Test.YtpfnhiohbgconaaSRow
import Derived.Test.YtpfnhiohbgconaaSPut
import Derived.Test.YtpfnhiohbgconaaSTakes
import Derived.Test.YtpfnhiohbgconaaFloat
namespace Go.Proofs.Ytpfnhiohbgconaa
open Go.RowKit
set_option linter.unusedVariables false
set_option linter.unusedSimpArgs false

theorem ins_length (v : Int) (xs : List Int) : (ins v xs).length ≤ xs.length + 1 := by
  induction xs with
  | nil => simp [ins]
  | cons x t ih =>
    unfold ins
    split
    · simp
    · split
      · simp
      · simp; omega
theorem endsF_length (f g : Bx → Int) (s : List Bx) : ∀ (xs : List Int), (endsF f g xs s).length ≤ xs.length + 2 * s.length := by
  induction s with
  | nil => intro xs; simp [endsF]
  | cons b t ih =>
    intro xs
    have h1 := ih (ins (g b) (ins (f b) xs))
    have h2 := ins_length (g b) (ins (f b) xs)
    have h3 := ins_length (f b) xs
    simp only [endsF, List.foldl_cons, List.length_cons] at h1 ⊢
    omega
theorem endsF_step (f g : Bx → Int) (s : List Bx) (k : Nat) (b : Bx) (h : k < s.length) (hb : bat s k = b) (xs : List Int) : endsF f g xs (s.take (k + 1)) = ins (g b) (ins (f b) (endsF f g xs (s.take k))) := by
  rw [take_bat h, hb]; simp [endsF, List.foldl_append]

/-- What stands while the ends are gathered. -/
structure RI (w wr : World) (vp vq vx : Value) (p q : List Bx) (xs : List Int) : Prop where
  is : IS wr w.heap.size vx xs
  ne : vx ≠ .slice none 0 0
  pp : BS wr w.heap.size vp p
  qq : BS wr w.heap.size vq q
  bl : Below w.heap.size w wr
theorem RI.next {w wr W w3 w4 : World} {vp vq vx v4 : Value} {p q : List Bx} {xs ys : List Int} (h : RI w wr vp vq vx p q xs) (hS : Below wr.heap.size wr W) (hb3 : Below W.heap.size W w3) (hb4 : Below w3.heap.size w3 w4) (hi : IS w4 w.heap.size v4 ys) (hn : v4 ≠ .slice none 0 0) : RI w w4 vp vq v4 p q ys := by
  have hb : Below wr.heap.size wr w4 := (hS.trans (hb3.mono hS.size)).trans (hb4.mono (Nat.le_trans hS.size hb3.size))
  exact ⟨hi, hn, h.pp.below hb, h.qq.below hb, h.bl.trans (hb.mono h.bl.size)⟩

theorem RI.keep {w wr W : World} {vp vq vx : Value} {p q : List Bx} {xs : List Int} (h : RI w wr vp vq vx p q xs) (hb : Below wr.heap.size wr W) : RI w W vp vq vx p q xs :=
  ⟨h.is.below' hb, h.ne, h.pp.below hb, h.qq.below hb, h.bl.trans (hb.mono h.bl.size)⟩
/-- The blocks of the three lists lie below A. -/
structure RA (w wr : World) (vp vq vx : Value) (A : Nat) : Prop where
  lo : w.heap.size ≤ A
  hi : A ≤ wr.heap.size
  p : ∀ g, vp.ownBlock = some g → g < A
  q : ∀ g, vq.ownBlock = some g → g < A
  x : ∀ g, vx.ownBlock = some g → g < A
/-- What stands while the runs are made: the list that is made lies behind the others. -/
def RO (w wr : World) (vp vq vx vo : Value) (p q : List Bx) (xs : List Int) (op a b : Int) (k : Nat) : Prop :=
  ∃ A, RA w wr vp vq vx A ∧ RI w wr vp vq vx p q xs ∧ ∃ out, BS wr A vo out ∧ vo ≠ .slice none 0 0 ∧ out.length ≤ k ∧ runsK (fun x => takesK op (inK p x) (inK q x)) a b (xs.drop k) out = runsK (fun x => takesK op (inK p x) (inK q x)) a b xs []

theorem RI.ra {w wr : World} {vp vq vx : Value} {p q : List Bx} {xs : List Int} (h : RI w wr vp vq vx p q xs) : RA w wr vp vq vx wr.heap.size :=
  ⟨h.bl.size, Nat.le_refl _, fun g hg => (World.ownsRow.lt h.pp g hg).2, fun g hg => (World.ownsRow.lt h.qq g hg).2, fun g hg => (World.ownsRow.lt h.is g hg).2⟩
theorem RA.size {w wr W : World} {vp vq vx : Value} {A : Nat} (h : RA w wr vp vq vx A) (hs : wr.heap.size ≤ W.heap.size) : RA w W vp vq vx A := ⟨h.lo, Nat.le_trans h.hi hs, h.p, h.q, h.x⟩
theorem RI.grown {w W W' : World} {vp vq vx : Value} {p q : List Bx} {xs : List Int} {A : Nat} {row : Option Nat} (h : RI w W vp vq vx p q xs) (ha : RA w W vp vq vx A) (hg : W.grownBy W' row) (hrow : ∀ k, row = some k → A ≤ k) : RI w W' vp vq vx p q xs := by
  refine ⟨h.is.kept fun g hv => hg.block g (World.ownsRow.lt h.is g hv).2 fun e => ?_, h.ne, h.pp.kept fun g hv => hg.block g (World.ownsRow.lt h.pp g hv).2 fun e => ?_, h.qq.kept fun g hv => hg.block g (World.ownsRow.lt h.qq g hv).2 fun e => ?_, h.bl.grown hg h.bl.size fun k hk => Nat.le_trans ha.lo (hrow k hk)⟩
  · have := hrow g e.symm; have := ha.x g hv; omega
  · have := hrow g e.symm; have := ha.p g hv; omega
  · have := hrow g e.symm; have := ha.q g hv; omega
theorem bs_grow {W : World} {A go oc : Nat} {l out : List Bx} {r : Bx} (d : Int) (h : BS W A (.slice (some ⟨go, 0, none⟩) out.length oc) out) (ho : out = l ++ [r]) :
    BS (W.setCell ⟨go, (out.length - 1) * 4 + 2, none⟩ (.int .i64 d)) A (.slice (some ⟨go, 0, none⟩) out.length oc) (l ++ [⟨r.x0, r.y0, d, r.y1⟩]) ∧ W.grownBy (W.setCell ⟨go, (out.length - 1) * 4 + 2, none⟩ (.int .i64 d)) (some go) := by
  have hs := World.ownsRow.stored (w := W) (base := A) (e := 30) (size := 4) (g := go) (n := out.length) (cap := oc) (xs := bflat out) h ((out.length - 1) * 4 + 2) (.int .i64 d)
  refine ⟨?_, hs.2⟩
  have hpos : 0 < out.length := by rw [ho]; simp
  have hb : bat out (out.length - 1) = r := by rw [bat_get (by omega)]; subst ho; simp
  rw [bflat_set out (out.length - 1) 2 (by omega) (by omega) ⟨r.x0, r.y0, d, r.y1⟩ _ (by rw [hb]; rfl)] at hs
  have e : out.set (out.length - 1) ⟨r.x0, r.y0, d, r.y1⟩ = l ++ [⟨r.x0, r.y0, d, r.y1⟩] := by subst ho; simp
  have e2 : (l ++ [(⟨r.x0, r.y0, d, r.y1⟩ : Bx)]).length = out.length := by rw [ho]; simp
  unfold BS
  rw [e2, ← e]
  exact hs.1
/-- What lay in W lies in w still, but for one block. -/
def KB (W : World) (row : Option Nat) (w : World) : Prop := ∀ b o, b < W.heap.size → ¬ some b = row → w.cell? ⟨b, o, none⟩ = W.cell? ⟨b, o, none⟩
theorem KB.start (W : World) (row : Option Nat) : KB W row W.drew := fun b o _ _ => rfl
theorem KB.of {W w : World} {row : Option Nat} (hb : ∀ b, b < W.heap.size → ¬ some b = row → w.heap[b]? = W.heap[b]?) : KB W row w := fun b o h hr => World.cell?_of_block (a := ⟨b, o, none⟩) (hb b h hr)
theorem undrew {w w' : World} {row : Option Nat} (h : w.drew.grownBy w' row) : w.grownBy w' row := ⟨h.os, h.tape, h.output, h.size, h.block⟩
theorem fl_takeS {P : Program} {ops : Array Oper} {Q : Exit → Act → World → Prop} {S : World → Prop} {i d : Nat} {oi : Oper} {v : Value} {fuel : Nat} {listed : Array Bool} {a : Act} {w : World} (hi : ops[i]? = some oi) (hd : oi.dst = some d) (hg : oi.guard = none)
    (hs : Region.noSelect ops = true) (hf : Region.free .any ops listed i = true) (hr : (Region.ready .any ops listed).contains i = true)
    (hS : S w) (hy : ∀ w', S w' → (execOp a.eval oi).run P w' = .ok (.value v) w')
    (h : wpAnyH P .any ops (NoPanic Q) S fuel (listed.setIfInBounds i true) (a.put (some d) v) w) : wpAnyH P .any ops (NoPanic Q) S (fuel + 1) listed a w :=
  wpAnyH_take hi hs hf hr (fun _ _ _ h => h) (Or.inl ⟨wanted_none hg _, fun w' hk => hy w' hk⟩) hS (by rw [hd]; exact h)
theorem wp_region_holds {P : Program} {ops : Array Oper} {Q : Exit → Act → World → Prop} {S : World → Prop} {id : Nat} {a : Act} {w : World} (hm : P.follows .mixedOrders = true) (h0 : S w.drew)
    (h : S w.drew → wpAnyH P .any ops (NoPanic Q) S ops.size (Array.replicate ops.size false) a w.drew) : (Code.region id ops true).wp P Q a w :=
  wp_region_noPanic (wp_region_held_drew (S := S) hm h0 h)
theorem op_append {P : Program} {ops : Array Oper} {Q : Exit → Act → World → Prop} {j dd : Nat} {w : World} {o : Oper} {a : Act} {K : Act → World → Prop} (hj : ops[j]? = some o) (hd : o.dst = some dd) (hgd : o.guard = none) (s x : Operand) (t : TypeId)
    (ho : o.op = .call { callee := .builtin .append, args := #[s, x], argTypes := #[t, t] })
    (base : Nat) (e : TypeId) (i : TypeInfo) (z : Value) (size bytes : Nat) (ht : P.underlying t = some (.slice e)) (hi : P.info? e = some i) (hz : i.zero = some z)
    (hsize : i.size = size) (hby : i.bytes = bytes) (hzs : z.cells.size = size) (hsz : 0 < size)
    (v : Value) (n : Nat) (xs : List Value) (hs : a.eval s = v) (hown : w.ownsRow base e size v n xs)
    (ad : Addr) (m c : Nat) (news : List Value) (hx : a.eval x = .slice (some ad) m c) (hl : news.length = m * size) (hnews : ∀ j u, news[j]? = some u → w.cell? (ad.add j) = some u) (h1 : ∀ u ∈ news, u.oneCell' = true)
    (h63 : n + m ≤ maxLen) (hbytes : (n + m) * bytes ≤ 140737488355328) (hbase : base ≤ w.heap.size)
    (h : ∀ v' w', w'.ownsRow base e size v' (n + m) (xs ++ news) → w.grownBy w' v.ownBlock → (v ≠ .slice none 0 0 → v' ≠ .slice none 0 0) → K (a.put (some dd) v') w') : wpOp P ops Q j K a w := by
  unfold wpOp
  simp only [hj, wanted_none hgd, if_true]
  refine Or.inl (wp_append_own w s x t ho base e i z size bytes ht hi hz hsize hby hzs hsz v n xs hs hown ad m c news hx hl hnews h1 h63 hbytes hbase fun v' w' h2 h3 h4 => ?_)
  rw [hd]
  exact h v' w' h2 h3 fun hn hv => hn (h4.1 hv).1
theorem runs_drop {T : Int → Bool} {a b : Int} {xs : List Int} {k : Nat} {out : List Bx} (h : k + 1 < xs.length) : runsK T a b (xs.drop k) out = runsK T a b (xs.drop (k + 1)) (stepR T a b out (xs.getD k 0) (xs.getD (k + 1) 0)) := by
  rw [List.drop_eq_getElem_cons (show k < xs.length by omega), List.drop_eq_getElem_cons h, runsK, getD_get (show k < xs.length by omega), getD_get h]
theorem runs_end {T : Int → Bool} {a b : Int} {xs : List Int} {k : Nat} {out : List Bx} (h : xs.length ≤ k + 1) : runsK T a b (xs.drop k) out = out := by
  have hl : (xs.drop k).length ≤ 1 := by simp; omega
  match hd : xs.drop k with
  | [] => rfl
  | [c] => rfl
  | c :: d :: r => rw [hd] at hl; simp at hl
theorem stepR_keep {T : Int → Bool} {a b c d : Int} {out : List Bx} (h : T c = false) : stepR T a b out c d = out := by
  unfold stepR; rw [h]; rfl
theorem stepR_grow {T : Int → Bool} {a b c d : Int} {l out : List Bx} {r : Bx} (h : T c = true) (ho : out = l ++ [r]) (hr : r.x1 = c) : stepR T a b out c d = l ++ [⟨r.x0, r.y0, d, r.y1⟩] := by
  unfold stepR; rw [h, ho]; simp [hr]
theorem stepR_push {T : Int → Bool} {a b c d : Int} {l out : List Bx} {r : Bx} (h : T c = true) (ho : out = l ++ [r]) (hr : ¬ r.x1 = c) : stepR T a b out c d = out ++ [⟨c, a, d, b⟩] := by
  unfold stepR; rw [h, ho]; simp [hr]
theorem stepR_first {T : Int → Bool} {a b c d : Int} {out : List Bx} (h : T c = true) (ho : out = []) : stepR T a b out c d = out ++ [⟨c, a, d, b⟩] := by
  unfold stepR; rw [h, ho]; simp
theorem last_bat {out : List Bx} (h : 0 < out.length) : out = out.dropLast ++ [bat out (out.length - 1)] := by
  rw [bat_get (by omega), ← List.getLast_eq_getElem (by intro e; rw [e] at h; simp at h)]
  exact (List.dropLast_concat_getLast _).symm

set_option maxRecDepth 10000 in
set_option maxHeartbeats 4000000 in
theorem spec_runs (op : Int) (va vb : Value) (s t : List Bx) (y0 y1 : Int) (w : World) (hn : Hid (s.length + t.length ≤ 1000000)) (ha : Hid (RB w va s)) (hb : Hid (RB w vb t)) :
    Calls Try.prog 91 #[.int .i64 op, va, vb, .int .i64 y0, .int .i64 y1] w fun e w' => ∃ v', e = .returned v' ∧ BS w' w.heap.size v' (runsOf (takesK op) (rowK s y0) (rowK t y0) y0 y1) ∧ v' ≠ .slice none 0 0 ∧ Below w.heap.size w w' := by
  obtain ⟨i0, hi0, hz0, hz1, hz2⟩ := info_parts info_box
  go_enter Try.func91, Try.ntmps91
  go_wp2_with (fail)
  refine (spec_row y0 (by have := hn.out; omega) ha.out).mono ?_
  rintro e w1 ⟨vp, rfl, hp1, hb1⟩
  have HP1 : Hid (BS w1 w.heap.size vp (rowK s y0)) := hp1
  have HB1 : Hid (Below w.heap.size w w1) := hb1
  clear hp1 hb1
  go_wp2_with (fail)
  refine (spec_row y0 (by have := hn.out; omega) (hb.out.below HB1.out)).mono ?_
  rintro e w2 ⟨vq, rfl, hq2, hb2⟩
  have HQ2 : Hid (BS w2 w.heap.size vq (rowK t y0)) := hq2.low HB1.out.size
  have HP2 : Hid (BS w2 w.heap.size vp (rowK s y0)) := HP1.out.below hb2
  have HB2 : Hid (Below w.heap.size w w2) := HB1.out.trans (hb2.mono HB1.out.size)
  have hnp : (rowK s y0).length + (rowK t y0).length ≤ 1000000 := by
    have := rowK_length s y0; have := rowK_length t y0; have := hn.out; omega
  clear hq2 hb2 HP1 HB1 ha hb hn
  obtain ⟨p, hpe⟩ : ∃ p, p = rowK s y0 := ⟨_, rfl⟩
  obtain ⟨q, hqe⟩ : ∃ q, q = rowK t y0 := ⟨_, rfl⟩
  rw [← hpe] at HP2 hnp
  rw [← hqe] at HQ2 hnp
  have HPE : Hid (p = rowK s y0 ∧ q = rowK t y0) := ⟨hpe, hqe⟩
  clear hpe hqe
  obtain ⟨pa, pc, hpf⟩ := HP2.out.form
  obtain ⟨qa, qc, hqf⟩ := HQ2.out.form
  subst hpf hqf
  go_wp2_with (fail)
  go_loopw [13, 14] (fun vx i wr => ∃ k : Nat, k ≤ p.length ∧ i = .int .i64 k ∧ Hid (RI w wr (.slice pa p.length pc) (.slice qa q.length qc) vx p q (endsF Bx.x0 Bx.x1 [] (p.take k)))) (fun _ i _ => p.length - (intOf i).toNat)
  case atStart =>
    have ha2 : Below w2.heap.size w2 (w2.alloc (.cells #[] 2)) := (Below.refl _ _).alloc (Nat.le_refl _) _
    exact ⟨0, Nat.zero_le _, rfl, IS.lit0 _ _ HB2.out.size, by simp, HP2.out.below ha2, HQ2.out.below ha2, HB2.out.trans (ha2.mono HB2.out.size)⟩
  case round =>
    obtain ⟨k, hk, rfl, hR⟩ := hrel
    by_cases hlt : k < p.length
    · have hk' : Hid (k < p.length) := hlt
      obtain ⟨gp, op', cp, hpe, hpg, hpj⟩ := hR.out.pp.rb.pos (by omega)
      injection hpe with e1 _ e3
      subst e1 e3
      obtain ⟨c0, c1, c2, c3⟩ := hpj k hlt
      clear hpj
      generalize hb : bat p k = b at c0 c1 c2 c3
      have HB : Hid (bat p k = b) := hb
      clear hb
      have b0 : (0 : Int) ≤ (k : Int) := by omega
      have b1 : (k : Int) < (p.length : Int) := by omega
      go_wp2_with (fail)
      refine wp_region_float (by kernel_rfl) (fun hS => ?_)
      refine fl_take (i := 0) (d := 32) (v := u13) rfl rfl rfl (by kernel_rfl) (by kernel_rfl) (by kernel_rfl) hS ?_ ?_
      · intro w' hk; go_simp
      simp only [Act.put, List.setIfInBounds_toArray, List.set_cons_zero, List.set_cons_succ]
      refine fl_take (i := 1) (d := 33) (v := .slice (some ⟨gp, op', none⟩) p.length pc) rfl rfl rfl (by kernel_rfl) (by kernel_rfl) (by kernel_rfl) hS ?_ ?_
      · intro w' hk; go_simp
      simp only [Act.put, List.setIfInBounds_toArray, List.set_cons_zero, List.set_cons_succ]
      refine fl_take (i := 2) (d := 34) (v := .int .i64 k) rfl rfl rfl (by kernel_rfl) (by kernel_rfl) (by kernel_rfl) hS ?_ ?_
      · intro w' hk; go_simp
      simp only [Act.put, List.setIfInBounds_toArray, List.set_cons_zero, List.set_cons_succ]
      refine fl_take (i := 3) (d := 35) (v := .pointer (some ⟨gp, op' + k * 4, none⟩)) rfl rfl rfl (by kernel_rfl) (by kernel_rfl) (by kernel_rfl) hS ?_ ?_
      · intro w' hk; go_simp
      simp only [Act.put, List.setIfInBounds_toArray, List.set_cons_zero, List.set_cons_succ]
      refine fl_take (i := 4) (d := 36) (v := .pointer (some ⟨gp, op' + k * 4, none⟩)) rfl rfl rfl (by kernel_rfl) (by kernel_rfl) (by kernel_rfl) hS ?_ ?_
      · intro w' hk; go_simp
      simp only [Act.put, List.setIfInBounds_toArray, List.set_cons_zero, List.set_cons_succ]
      refine fl_take (i := 5) (d := 37) (v := .int .i64 b.x0) rfl rfl rfl (by kernel_rfl) (by kernel_rfl) (by kernel_rfl) hS ?_ ?_
      · intro w' hk; go_simp
      simp only [Act.put, List.setIfInBounds_toArray, List.set_cons_zero, List.set_cons_succ]
      refine fl_take (i := 7) (d := 39) (v := .slice (some ⟨gp, op', none⟩) p.length pc) rfl rfl rfl (by kernel_rfl) (by kernel_rfl) (by kernel_rfl) hS ?_ ?_
      · intro w' hk; go_simp
      simp only [Act.put, List.setIfInBounds_toArray, List.set_cons_zero, List.set_cons_succ]
      refine fl_take (i := 8) (d := 40) (v := .int .i64 k) rfl rfl rfl (by kernel_rfl) (by kernel_rfl) (by kernel_rfl) hS ?_ ?_
      · intro w' hk; go_simp
      simp only [Act.put, List.setIfInBounds_toArray, List.set_cons_zero, List.set_cons_succ]
      refine fl_take (i := 9) (d := 41) (v := .pointer (some ⟨gp, op' + k * 4, none⟩)) rfl rfl rfl (by kernel_rfl) (by kernel_rfl) (by kernel_rfl) hS ?_ ?_
      · intro w' hk; go_simp
      simp only [Act.put, List.setIfInBounds_toArray, List.set_cons_zero, List.set_cons_succ]
      refine fl_take (i := 10) (d := 42) (v := .pointer (some ⟨gp, op' + k * 4 + 2, none⟩)) rfl rfl rfl (by kernel_rfl) (by kernel_rfl) (by kernel_rfl) hS ?_ ?_
      · intro w' hk; go_simp
      simp only [Act.put, List.setIfInBounds_toArray, List.set_cons_zero, List.set_cons_succ]
      refine fl_take (i := 11) (d := 43) (v := .int .i64 b.x1) rfl rfl rfl (by kernel_rfl) (by kernel_rfl) (by kernel_rfl) hS ?_ ?_
      · intro w' hk; go_simp
      simp only [Act.put, List.setIfInBounds_toArray, List.set_cons_zero, List.set_cons_succ]
      refine wpAnyH_all (rs := [6]) (by kernel_rfl) (by simp) ?_
      intro i hi
      obtain rfl : i = 6 := by simpa using hi
      refine op_call (d := 38) rfl rfl rfl (by go_simp) ((spec_put (B := w.heap.size) b.x0 (Nat.le_trans (endsF_length _ _ _ _) (by simp; omega)) (endsF_up _ _ _ List.Pairwise.nil) (hR.out.is.below' hS.2) hR.out.ne).mono ?_)
      rintro e w3 ⟨v3, rfl, hi3, hn3, hb3⟩
      refine ⟨_, rfl, hS.call hb3, ?_⟩
      simp only [Act.put, List.setIfInBounds_toArray, List.set_cons_zero, List.set_cons_succ]
      refine wpAnyH_all (rs := [12]) (by kernel_rfl) (by simp) ?_
      intro i hi
      obtain rfl : i = 12 := by simpa using hi
      refine op_call (d := 44) rfl rfl rfl (by go_simp) ((spec_put (B := w.heap.size) b.x1 (Nat.le_trans (ins_length _ _) (by have := endsF_length Bx.x0 Bx.x1 (p.take k) []; simp at this; omega)) (ins_up _ (endsF_up _ _ _ List.Pairwise.nil)) hi3 hn3).mono ?_)
      rintro e w4 ⟨v4, rfl, hi4, hn4, hb4⟩
      have hS4 := (hS.call hb3).call hb4
      refine ⟨_, rfl, hS4, ?_⟩
      simp only [Act.put, List.setIfInBounds_toArray, List.set_cons_zero, List.set_cons_succ]
      refine wpAnyH_all (rs := [13]) (by kernel_rfl) (by simp) ?_
      intro i hi
      obtain rfl : i = 13 := by simpa using hi
      refine op_val (d := 13) (v := v4) (w' := w4) rfl rfl rfl (by go_simp) ?_
      simp only [Act.put, List.setIfInBounds_toArray, List.set_cons_zero, List.set_cons_succ]
      refine ⟨hS4, wpAnyH_done (by kernel_rfl) (NoPanic.normal ?_) _⟩
      have R : Hid (RI w w4 (.slice (some ⟨gp, op', none⟩) p.length pc) (.slice qa q.length qc) v4 p q (endsF Bx.x0 Bx.x1 [] (p.take (k + 1)))) := by
        have := hR.out.next hS.2 hb3 hb4 hi4 hn4
        rwa [← endsF_step Bx.x0 Bx.x1 p k b hk'.out HB.out []] at this
      clear hi3 hn3 hb3 hi4 hn4 hb4 hS4 hS hR
      go_wp2
      go_roundw
      case rel => exact ⟨k + 1, by omega, by go_num, R.out⟩
      case measure => simp [intOf]; omega
    · have R0 : Hid (RI w wr (.slice pa p.length pc) (.slice qa q.length qc) u13 p q (endsF Bx.x0 Bx.x1 [] p)) := by
        have := hR.out
        rwa [List.take_of_length_le (by omega)] at this
      clear hR
      go_wp2_with (fail)
      go_loopw [13, 15] (fun vx i wr => ∃ k : Nat, k ≤ q.length ∧ i = .int .i64 k ∧ Hid (RI w wr (.slice pa p.length pc) (.slice qa q.length qc) vx p q (endsF Bx.x0 Bx.x1 (endsF Bx.x0 Bx.x1 [] p) (q.take k)))) (fun _ i _ => q.length - (intOf i).toNat)
      case atStart => exact ⟨0, Nat.zero_le _, rfl, R0.out⟩
      case round =>
        clear R0 hk hlt
        obtain ⟨k, hk, rfl, hR⟩ := hrel
        by_cases hlt : k < q.length
        · have hk' : Hid (k < q.length) := hlt
          obtain ⟨gq, oq, cq, hpe, hpg, hpj⟩ := hR.out.qq.rb.pos (by omega)
          injection hpe with e1 _ e3
          subst e1 e3
          obtain ⟨c0, c1, c2, c3⟩ := hpj k hlt
          clear hpj
          generalize hb : bat q k = b at c0 c1 c2 c3
          have HB : Hid (bat q k = b) := hb
          clear hb
          have b0 : (0 : Int) ≤ (k : Int) := by omega
          have b1 : (k : Int) < (q.length : Int) := by omega
          go_wp2_with (fail)
          refine wp_region_float (by kernel_rfl) (fun hS => ?_)
          refine fl_take (i := 0) (d := 51) (v := u13) rfl rfl rfl (by kernel_rfl) (by kernel_rfl) (by kernel_rfl) hS ?_ ?_
          · intro w' hk; go_simp
          simp only [Act.put, List.setIfInBounds_toArray, List.set_cons_zero, List.set_cons_succ]
          refine fl_take (i := 1) (d := 52) (v := .slice (some ⟨gq, oq, none⟩) q.length qc) rfl rfl rfl (by kernel_rfl) (by kernel_rfl) (by kernel_rfl) hS ?_ ?_
          · intro w' hk; go_simp
          simp only [Act.put, List.setIfInBounds_toArray, List.set_cons_zero, List.set_cons_succ]
          refine fl_take (i := 2) (d := 53) (v := .int .i64 k) rfl rfl rfl (by kernel_rfl) (by kernel_rfl) (by kernel_rfl) hS ?_ ?_
          · intro w' hk; go_simp
          simp only [Act.put, List.setIfInBounds_toArray, List.set_cons_zero, List.set_cons_succ]
          refine fl_take (i := 3) (d := 54) (v := .pointer (some ⟨gq, oq + k * 4, none⟩)) rfl rfl rfl (by kernel_rfl) (by kernel_rfl) (by kernel_rfl) hS ?_ ?_
          · intro w' hk; go_simp
          simp only [Act.put, List.setIfInBounds_toArray, List.set_cons_zero, List.set_cons_succ]
          refine fl_take (i := 4) (d := 55) (v := .pointer (some ⟨gq, oq + k * 4, none⟩)) rfl rfl rfl (by kernel_rfl) (by kernel_rfl) (by kernel_rfl) hS ?_ ?_
          · intro w' hk; go_simp
          simp only [Act.put, List.setIfInBounds_toArray, List.set_cons_zero, List.set_cons_succ]
          refine fl_take (i := 5) (d := 56) (v := .int .i64 b.x0) rfl rfl rfl (by kernel_rfl) (by kernel_rfl) (by kernel_rfl) hS ?_ ?_
          · intro w' hk; go_simp
          simp only [Act.put, List.setIfInBounds_toArray, List.set_cons_zero, List.set_cons_succ]
          refine fl_take (i := 7) (d := 58) (v := .slice (some ⟨gq, oq, none⟩) q.length qc) rfl rfl rfl (by kernel_rfl) (by kernel_rfl) (by kernel_rfl) hS ?_ ?_
          · intro w' hk; go_simp
          simp only [Act.put, List.setIfInBounds_toArray, List.set_cons_zero, List.set_cons_succ]
          refine fl_take (i := 8) (d := 59) (v := .int .i64 k) rfl rfl rfl (by kernel_rfl) (by kernel_rfl) (by kernel_rfl) hS ?_ ?_
          · intro w' hk; go_simp
          simp only [Act.put, List.setIfInBounds_toArray, List.set_cons_zero, List.set_cons_succ]
          refine fl_take (i := 9) (d := 60) (v := .pointer (some ⟨gq, oq + k * 4, none⟩)) rfl rfl rfl (by kernel_rfl) (by kernel_rfl) (by kernel_rfl) hS ?_ ?_
          · intro w' hk; go_simp
          simp only [Act.put, List.setIfInBounds_toArray, List.set_cons_zero, List.set_cons_succ]
          refine fl_take (i := 10) (d := 61) (v := .pointer (some ⟨gq, oq + k * 4 + 2, none⟩)) rfl rfl rfl (by kernel_rfl) (by kernel_rfl) (by kernel_rfl) hS ?_ ?_
          · intro w' hk; go_simp
          simp only [Act.put, List.setIfInBounds_toArray, List.set_cons_zero, List.set_cons_succ]
          refine fl_take (i := 11) (d := 62) (v := .int .i64 b.x1) rfl rfl rfl (by kernel_rfl) (by kernel_rfl) (by kernel_rfl) hS ?_ ?_
          · intro w' hk; go_simp
          simp only [Act.put, List.setIfInBounds_toArray, List.set_cons_zero, List.set_cons_succ]
          refine wpAnyH_all (rs := [6]) (by kernel_rfl) (by simp) ?_
          intro i hi
          obtain rfl : i = 6 := by simpa using hi
          refine op_call (d := 57) rfl rfl rfl (by go_simp) ((spec_put (B := w.heap.size) b.x0 (Nat.le_trans (endsF_length _ _ _ _) (by have := endsF_length Bx.x0 Bx.x1 p []; simp at this ⊢; omega)) (endsF_up _ _ _ (endsF_up _ _ _ List.Pairwise.nil)) (hR.out.is.below' hS.2) hR.out.ne).mono ?_)
          rintro e w3 ⟨v3, rfl, hi3, hn3, hb3⟩
          refine ⟨_, rfl, hS.call hb3, ?_⟩
          simp only [Act.put, List.setIfInBounds_toArray, List.set_cons_zero, List.set_cons_succ]
          refine wpAnyH_all (rs := [12]) (by kernel_rfl) (by simp) ?_
          intro i hi
          obtain rfl : i = 12 := by simpa using hi
          refine op_call (d := 63) rfl rfl rfl (by go_simp) ((spec_put (B := w.heap.size) b.x1 (Nat.le_trans (ins_length _ _) (by have := endsF_length Bx.x0 Bx.x1 p []; have := endsF_length Bx.x0 Bx.x1 (q.take k) (endsF Bx.x0 Bx.x1 [] p); simp at *; omega)) (ins_up _ (endsF_up _ _ _ (endsF_up _ _ _ List.Pairwise.nil))) hi3 hn3).mono ?_)
          rintro e w4 ⟨v4, rfl, hi4, hn4, hb4⟩
          have hS4 := (hS.call hb3).call hb4
          refine ⟨_, rfl, hS4, ?_⟩
          simp only [Act.put, List.setIfInBounds_toArray, List.set_cons_zero, List.set_cons_succ]
          refine wpAnyH_all (rs := [13]) (by kernel_rfl) (by simp) ?_
          intro i hi
          obtain rfl : i = 13 := by simpa using hi
          refine op_val (d := 13) (v := v4) (w' := w4) rfl rfl rfl (by go_simp) ?_
          simp only [Act.put, List.setIfInBounds_toArray, List.set_cons_zero, List.set_cons_succ]
          refine ⟨hS4, wpAnyH_done (by kernel_rfl) (NoPanic.normal ?_) _⟩
          have R : Hid (RI w w4 (.slice pa p.length pc) (.slice (some ⟨gq, oq, none⟩) q.length qc) v4 p q (endsF Bx.x0 Bx.x1 (endsF Bx.x0 Bx.x1 [] p) (q.take (k + 1)))) := by
            have := hR.out.next hS.2 hb3 hb4 hi4 hn4
            rwa [← endsF_step Bx.x0 Bx.x1 q k b hk'.out HB.out _] at this
          clear hi3 hn3 hb3 hi4 hn4 hb4 hS4 hS hR
          go_wp2
          go_roundw
          case rel => exact ⟨k + 1, by omega, by go_num, R.out⟩
          case measure => simp [intOf]; omega
        · have R0 : Hid (RI w wr (.slice pa p.length pc) (.slice qa q.length qc) u13 p q (endsF Bx.x0 Bx.x1 (endsF Bx.x0 Bx.x1 [] p) q)) := by
            have := hR.out
            rwa [List.take_of_length_le (by omega)] at this
          clear hR
          have hm : (endsF Bx.x0 Bx.x1 (endsF Bx.x0 Bx.x1 [] p) q).length ≤ 2000000 := by
            have := endsF_length Bx.x0 Bx.x1 p []; have := endsF_length Bx.x0 Bx.x1 q (endsF Bx.x0 Bx.x1 [] p); simp at *; omega
          have HT : Hid (runsOf (takesK op) (rowK s y0) (rowK t y0) y0 y1 = runsK (fun x => takesK op (inK p x) (inK q x)) y0 y1 (endsF Bx.x0 Bx.x1 (endsF Bx.x0 Bx.x1 [] p) q) []) := by
            unfold Hid; rw [← HPE.out.1, ← HPE.out.2]; rfl
          clear HPE
          obtain ⟨xs, hxs⟩ : ∃ xs, xs = endsF Bx.x0 Bx.x1 (endsF Bx.x0 Bx.x1 [] p) q := ⟨_, rfl⟩
          rw [← hxs] at R0 HT hm
          clear hxs
          obtain ⟨xa, xc, hxf⟩ := R0.out.is.form
          subst hxf
          go_wp2_with (fail)
          go_loopw [16, 17] (fun vo i wr => ∃ k : Nat, k ≤ xs.length ∧ i = .int .i64 k ∧ Hid (RO w wr (.slice pa p.length pc) (.slice qa q.length qc) (.slice xa xs.length xc) vo p q xs op y0 y1 k)) (fun _ i _ => xs.length - (intOf i).toNat)
          case atStart =>
            have ha2 : Below wr.heap.size wr (wr.alloc (.cells #[] 30)) := (Below.refl _ _).alloc (Nat.le_refl _) _
            exact ⟨0, Nat.zero_le _, rfl, wr.heap.size, R0.out.ra.size (by simp), R0.out.keep ha2, [], BS.lit0 _ _ (Nat.le_refl _), by simp, by simp, rfl⟩
          case round =>
            clear R0 hk hlt
            obtain ⟨k, hk, rfl, hR⟩ := hrel
            by_cases hlt : k + 1 < xs.length
            · obtain ⟨A, hRA, hR1, out, hbs, hne, hlen, heq⟩ := hR.out
              obtain ⟨gx, cx, hxe, hxB, hxg, hxj⟩ := hR1.is.pos (by omega)
              injection hxe with e1 _ e3
              subst e1 e3
              obtain ⟨c, hc⟩ : ∃ c, c = xs.getD k 0 := ⟨_, rfl⟩
              obtain ⟨d, hd⟩ : ∃ d, d = xs.getD (k + 1) 0 := ⟨_, rfl⟩
              have cc := hxj k (by omega)
              have cd := hxj (k + 1) (by omega)
              rw [← hc] at cc
              rw [← hd] at cd
              have HC : Hid (c = xs.getD k 0 ∧ d = xs.getD (k + 1) 0) := ⟨hc, hd⟩
              obtain ⟨P, hP⟩ : ∃ P, P = inK p c := ⟨_, rfl⟩
              obtain ⟨Q, hQ⟩ : ∃ Q, Q = inK q c := ⟨_, rfl⟩
              obtain ⟨T, hT⟩ : ∃ T, T = takesK op P Q := ⟨_, rfl⟩
              have HT2 : Hid (T = takesK op (inK p c) (inK q c)) := by unfold Hid; rw [hT, hP, hQ]
              have hcp : Hid (∀ x : Und wr.heap.size wr, Calls Try.prog 105 #[.slice pa p.length pc, .int .i64 c] x.W fun e w' => e = .returned (.bool P) ∧ w' = x.W) := fun x => by rw [hP]; exact spec_in c (by omega) (hR1.pp.rb.below x.below)
              have hcq : Hid (∀ x : Und wr.heap.size wr, Calls Try.prog 105 #[.slice qa q.length qc, .int .i64 c] x.W fun e w' => e = .returned (.bool Q) ∧ w' = x.W) := fun x => by rw [hQ]; exact spec_in c (by omega) (hR1.qq.rb.below x.below)
              have hct : Hid (∀ W, Calls Try.prog 116 #[.int .i64 op, .bool P, .bool Q] W fun e w' => e = .returned (.bool T) ∧ w' = W) := fun W => by rw [hT]; exact spec_takes op P Q W
              have HBS : Hid (BS wr A u16 out ∧ u16 ≠ .slice none 0 0 ∧ out.length ≤ k) := ⟨hbs, hne, hlen⟩
              have HEQ : Hid (runsK (fun x => takesK op (inK p x) (inK q x)) y0 y1 (xs.drop k) out = runsK (fun x => takesK op (inK p x) (inK q x)) y0 y1 xs []) := heq
              have HR1 : Hid (RI w wr (.slice pa p.length pc) (.slice qa q.length qc) (.slice (some ⟨gx, 0, none⟩) xs.length xc) p q xs) := hR1
              clear hc hd hP hQ hT hbs hne hlen heq hR hR1 hxj
              have b0 : (0 : Int) ≤ (k : Int) := by omega
              have b1 : (k : Int) + 1 < (xs.length : Int) := by omega
              have b2 : (k : Int) < (xs.length : Int) := by omega
              go_wp2_with (fail)
              (refine wp_region_und (by kernel_rfl) (by kernel_rfl) (fun hund => ?_); (repeat (go_big_quiet_step (first | (go_at_call 105; with_reducible refine und_call_same (hcp.out _)) | (go_at_call 105; with_reducible refine und_call_same (hcq.out _)) | (go_at_call 116; with_reducible refine und_call_same (hct.out _))))); with_reducible refine wpQuiet_nil ?_; clear hund; intro W1 hb1; obtain ⟨hc1, hf1⟩ := bcell hb1)
              have HRA : Hid (RA w W1 (.slice pa p.length pc) (.slice qa q.length qc) (.slice (some ⟨gx, 0, none⟩) xs.length xc) A) := hRA.size hb1.size
              clear hRA
              have HR2 : Hid (RI w W1 (.slice pa p.length pc) (.slice qa q.length qc) (.slice (some ⟨gx, 0, none⟩) xs.length xc) p q xs) := HR1.out.keep hb1
              have HBS2 : Hid (BS W1 A u16 out ∧ u16 ≠ .slice none 0 0 ∧ out.length ≤ k) := ⟨HBS.out.1.below hb1, HBS.out.2⟩
              have cc1 : W1.cell? ⟨gx, k, none⟩ = some (.int .i64 c) := by rw [hc1 _ _ hxg]; exact cc
              have cd1 : W1.cell? ⟨gx, k + 1, none⟩ = some (.int .i64 d) := by rw [hc1 _ _ hxg]; exact cd
              have HNX : Hid (∀ o2, stepR (fun x => takesK op (inK p x) (inK q x)) y0 y1 out c d = o2 → runsK (fun x => takesK op (inK p x) (inK q x)) y0 y1 (xs.drop (k + 1)) o2 = runsK (fun x => takesK op (inK p x) (inK q x)) y0 y1 xs []) := by
                intro o2 he
                rw [← HEQ.out, ← he, HC.out.1, HC.out.2]
                exact (runs_drop hlt).symm
              have hgx1 : gx < W1.heap.size := Nat.lt_of_lt_of_le hxg hb1.size
              clear HR1 HBS HEQ hcp hcq hct cc cd hb1 hc1 hf1
              cases T with
              | false =>
                go_wp2
                go_roundw
                case rel => exact ⟨k + 1, by omega, by go_num, A, HRA.out, HR2.out, out, HBS2.out.1, HBS2.out.2.1, Nat.le_succ_of_le HBS2.out.2.2, HNX.out _ (stepR_keep HT2.out.symm)⟩
                case measure => simp [intOf]; omega
              | true =>
                obtain ⟨oa, oc, hof⟩ := HBS2.out.1.form
                subst hof
                have hol := HBS2.out.2.2
                by_cases hpos : 0 < out.length
                · obtain ⟨go, co, hoe, hoB, hog, hoj⟩ := HBS2.out.1.pos hpos
                  injection hoe with e1 _ e3
                  subst e1 e3
                  obtain ⟨z0, z1, z2, z3⟩ := hoj (out.length - 1) (by omega)
                  rw [Nat.zero_add] at z0 z1 z2 z3
                  have hfz : W1.frozen? ⟨go, (out.length - 1) * 4 + 2, none⟩ = false := World.ownsRow.frozenAt HBS2.out.1 _
                  obtain ⟨r, hr⟩ : ∃ r, r = bat out (out.length - 1) := ⟨_, rfl⟩
                  rw [← hr] at z0 z1 z2 z3
                  have HRR : Hid (out = out.dropLast ++ [r]) := by rw [hr]; exact last_bat hpos
                  clear hoj hr
                  have b3 : (0 : Int) < (out.length : Int) := by omega
                  have b4 : ((out.length : Int) - 1).toNat = out.length - 1 := by omega
                  have b5 : (0 : Int) ≤ (out.length : Int) - 1 := by omega
                  have b6 : (out.length : Int) ≤ 3000000 := by omega
                  by_cases hrc : r.x1 = c
                  · have d1 : (r.x1 == c) = true := by simp [hrc]
                    have HGR : Hid (∀ m, RO w ((W1.drewN m).setCell ⟨go, (out.length - 1) * 4 + 2, none⟩ (.int .i64 d)) (.slice pa p.length pc) (.slice qa q.length qc) (.slice (some ⟨gx, 0, none⟩) xs.length xc) (.slice (some ⟨go, 0, none⟩) out.length oc) p q xs op y0 y1 (k + 1)) := by
                      intro m
                      have hb2 : Below W1.heap.size W1 (W1.drewN m) := below_drewN (Below.refl _ _) _
                      have hg2 := bs_grow d (HBS2.out.1.below hb2) HRR.out
                      have hra2 := HRA.out.size hb2.size
                      refine ⟨A, hra2.size hg2.2.size, (HR2.out.keep hb2).grown hra2 hg2.2 (fun g hg => by cases hg; exact hoB), _, hg2.1, by simp, ?_, HNX.out _ (stepR_grow HT2.out.symm HRR.out hrc)⟩
                      have := congrArg List.length HRR.out
                      simp at this ⊢
                      omega
                    go_wp2_with (fail)
                    go_quiet (fail)
                    go_wp2
                    go_roundw
                    case rel => exact ⟨k + 1, by omega, by go_num, HGR.out _⟩
                    case measure => simp [intOf]; omega
                  · have d1 : (r.x1 == c) = false := by simp [hrc]
                    have HST : Hid (stepR (fun x => takesK op (inK p x) (inK q x)) y0 y1 out c d = out ++ [⟨c, y0, d, y1⟩]) := stepR_push HT2.out.symm HRR.out hrc
                    go_wp2_with (fail)
                    go_quiet (fail)
                    obtain ⟨W2, hW2⟩ : ∃ W2, W2 = W1.drewN nq := ⟨_, rfl⟩
                    have hb2 : Below W1.heap.size W1 W2 := by rw [hW2]; exact below_drewN (Below.refl _ _) _
                    rw [← hW2]
                    have HR3 : Hid (RI w W2 (.slice pa p.length pc) (.slice qa q.length qc) (.slice (some ⟨gx, 0, none⟩) xs.length xc) p q xs) := HR2.out.keep hb2
                    have HRA3 : Hid (RA w W2 (.slice pa p.length pc) (.slice qa q.length qc) (.slice (some ⟨gx, 0, none⟩) xs.length xc) A) := HRA.out.size hb2.size
                    have HBS3 : Hid (BS W2 A (.slice (some ⟨go, 0, none⟩) out.length oc) out) := HBS2.out.1.below hb2
                    have cc2 : W2.cell? ⟨gx, k, none⟩ = some (.int .i64 c) := by rw [hb2.cell hgx1]; exact cc1
                    have cd2 : W2.cell? ⟨gx, k + 1, none⟩ = some (.int .i64 d) := by rw [hb2.cell hgx1]; exact cd1
                    have hgx2 : gx < W2.heap.size := Nat.lt_of_lt_of_le hgx1 hb2.size
                    clear hW2 hb2 cc1 cd1 HR2 HRA z0 z1 z2 z3 hfz
                    go_wp2_with (fail)
                    obtain ⟨row, hrow0⟩ : ∃ row, row = (Value.slice (some ⟨go, 0, none⟩) out.length oc).ownBlock := ⟨_, rfl⟩
                    have hgr : ¬ some gx = row := by
                      rw [hrow0]; intro e
                      have h1 := (World.ownsRow.lt HBS3.out gx e.symm).1
                      have h2 := HRA3.out.x gx rfl
                      omega
                    have HROW : Hid (row = (Value.slice (some ⟨go, 0, none⟩) out.length oc).ownBlock) := hrow0
                    clear hrow0
                    have hwk : IntKind.i64.wrap ((k : Int) + 1) = (k : Int) + 1 := by rw [IntKind.wrap_i64]; omega
                    have b7 : ¬ (k : Int) + 1 < 0 := by omega
                    have hS0 := KB.start W2 row
                    refine wp_region_holds (S := KB W2 row) (by kernel_rfl) hS0 (fun hS => ?_)
                    refine fl_takeS (i := 0) (d := 114) (v := .slice (some ⟨go, 0, none⟩) out.length oc) rfl rfl rfl (by kernel_rfl) (by kernel_rfl) (by kernel_rfl) hS ?_ ?_
                    · intro w' hk; unfold KB at hk; go_simp
                    simp only [Act.put, List.setIfInBounds_toArray, List.set_cons_zero, List.set_cons_succ]
                    refine fl_takeS (i := 1) (d := 115) (v := .slice (some ⟨gx, 0, none⟩) xs.length xc) rfl rfl rfl (by kernel_rfl) (by kernel_rfl) (by kernel_rfl) hS ?_ ?_
                    · intro w' hk; unfold KB at hk; go_simp
                    simp only [Act.put, List.setIfInBounds_toArray, List.set_cons_zero, List.set_cons_succ]
                    refine fl_takeS (i := 2) (d := 116) (v := .int .i64 k) rfl rfl rfl (by kernel_rfl) (by kernel_rfl) (by kernel_rfl) hS ?_ ?_
                    · intro w' hk; unfold KB at hk; go_simp
                    simp only [Act.put, List.setIfInBounds_toArray, List.set_cons_zero, List.set_cons_succ]
                    refine fl_takeS (i := 3) (d := 117) (v := .pointer (some ⟨gx, k, none⟩)) rfl rfl rfl (by kernel_rfl) (by kernel_rfl) (by kernel_rfl) hS ?_ ?_
                    · intro w' hk; unfold KB at hk; go_simp
                    simp only [Act.put, List.setIfInBounds_toArray, List.set_cons_zero, List.set_cons_succ]
                    refine fl_takeS (i := 4) (d := 118) (v := .int .i64 c) rfl rfl rfl (by kernel_rfl) (by kernel_rfl) (by kernel_rfl) hS ?_ ?_
                    · intro w' hk; unfold KB at hk; go_simp
                    simp only [Act.put, List.setIfInBounds_toArray, List.set_cons_zero, List.set_cons_succ]
                    refine fl_takeS (i := 5) (d := 119) (v := .int .i64 y0) rfl rfl rfl (by kernel_rfl) (by kernel_rfl) (by kernel_rfl) hS ?_ ?_
                    · intro w' hk; unfold KB at hk; go_simp
                    simp only [Act.put, List.setIfInBounds_toArray, List.set_cons_zero, List.set_cons_succ]
                    refine fl_takeS (i := 6) (d := 120) (v := .slice (some ⟨gx, 0, none⟩) xs.length xc) rfl rfl rfl (by kernel_rfl) (by kernel_rfl) (by kernel_rfl) hS ?_ ?_
                    · intro w' hk; unfold KB at hk; go_simp
                    simp only [Act.put, List.setIfInBounds_toArray, List.set_cons_zero, List.set_cons_succ]
                    refine fl_takeS (i := 7) (d := 121) (v := .int .i64 k) rfl rfl rfl (by kernel_rfl) (by kernel_rfl) (by kernel_rfl) hS ?_ ?_
                    · intro w' hk; unfold KB at hk; go_simp
                    simp only [Act.put, List.setIfInBounds_toArray, List.set_cons_zero, List.set_cons_succ]
                    refine fl_takeS (i := 8) (d := 122) (v := .int .i64 (k + 1)) rfl rfl rfl (by kernel_rfl) (by kernel_rfl) (by kernel_rfl) hS ?_ ?_
                    · intro w' hk; unfold KB at hk; go_simp
                    simp only [Act.put, List.setIfInBounds_toArray, List.set_cons_zero, List.set_cons_succ]
                    refine fl_takeS (i := 9) (d := 123) (v := .pointer (some ⟨gx, k + 1, none⟩)) rfl rfl rfl (by kernel_rfl) (by kernel_rfl) (by kernel_rfl) hS ?_ ?_
                    · intro w' hk; unfold KB at hk; go_simp
                    simp only [Act.put, List.setIfInBounds_toArray, List.set_cons_zero, List.set_cons_succ]
                    refine fl_takeS (i := 10) (d := 124) (v := .int .i64 d) rfl rfl rfl (by kernel_rfl) (by kernel_rfl) (by kernel_rfl) hS ?_ ?_
                    · intro w' hk; unfold KB at hk; go_simp
                    simp only [Act.put, List.setIfInBounds_toArray, List.set_cons_zero, List.set_cons_succ]
                    refine fl_takeS (i := 11) (d := 125) (v := .int .i64 y1) rfl rfl rfl (by kernel_rfl) (by kernel_rfl) (by kernel_rfl) hS ?_ ?_
                    · intro w' hk; unfold KB at hk; go_simp
                    simp only [Act.put, List.setIfInBounds_toArray, List.set_cons_zero, List.set_cons_succ]
                    refine fl_takeS (i := 12) (d := 126) (v := .agg #[.int .i64 c, .int .i64 y0, .int .i64 d, .int .i64 y1]) rfl rfl rfl (by kernel_rfl) (by kernel_rfl) (by kernel_rfl) hS ?_ ?_
                    · intro w' hk; unfold KB at hk; go_simp
                    simp only [Act.put, List.setIfInBounds_toArray, List.set_cons_zero, List.set_cons_succ]
                    refine wpAnyH_all (rs := [13]) (by kernel_rfl) (by simp) ?_
                    intro i hi
                    obtain rfl : i = 13 := by simpa using hi
                    refine op_val (d := 127) (v := .slice (some ⟨W2.heap.size, 0, none⟩) 1 1) (w' := (W2.alloc (.cells #[.int .i64 c, .int .i64 y0, .int .i64 d, .int .i64 y1] 30)).drew) rfl rfl rfl (by go_simp; try rfl) ?_
                    simp only [Act.put, List.setIfInBounds_toArray, List.set_cons_zero, List.set_cons_succ]
                    have hk3 : KB W2 row (W2.alloc (.cells #[.int .i64 c, .int .i64 y0, .int .i64 d, .int .i64 y1] 30)).drew := KB.of fun b hb _ => Below.heap_alloc W2 _ _ hb
                    have hnw : ∀ j u, (bcells ⟨c, y0, d, y1⟩)[j]? = some u → (W2.alloc (.cells #[.int .i64 c, .int .i64 y0, .int .i64 d, .int .i64 y1] 30)).drew.cell? ((⟨W2.heap.size, 0, none⟩ : Addr).add j) = some u := World.news_of_block (cs := #[.int .i64 c, .int .i64 y0, .int .i64 d, .int .i64 y1]) (t := 30) (fr := (0, 0)) (heap_alloc_new W2 _)
                    refine ⟨hk3, wpAnyH_all (rs := [14]) (by kernel_rfl) (by simp) ?_⟩
                    intro i hi
                    obtain rfl : i = 14 := by simpa using hi
                    refine op_append (dd := 128) rfl rfl rfl (.tmp 114) (.tmp 127) 26 rfl A 30 i0 (.agg #[.int .i64 0, .int .i64 0, .int .i64 0, .int .i64 0]) 4 32 Try.underlying26 hi0 hz0 hz1 hz2 rfl (by decide) (.slice (some ⟨go, 0, none⟩) out.length oc) out.length (bflat out) rfl ((World.ownsRow.alloc HBS3.out _).drew) ⟨W2.heap.size, 0, none⟩ 1 1 (bcells ⟨c, y0, d, y1⟩) rfl rfl hnw (by simp [bcells, Value.oneCell']) (by unfold maxLen; omega) (by omega) (by have := HRA3.out.hi; simp; omega) ?_
                    intro v4 w4 hown4 hgrow4 hv4
                    have hg4 := undrew hgrow4
                    have hp4 := push_step (w := w) (B := w.heap.size) HBS3.out HRA3.out.lo HR3.out.bl HR3.out.bl.size hown4 hg4
                    have hk4 : KB W2 row w4 := KB.of fun b hb hr => (hg4.block b (by simp; omega) (by rw [← HROW.out]; exact hr)).trans (Below.heap_alloc W2 _ _ hb)
                    have hg5 : W2.grownBy w4 (Value.slice (some ⟨go, 0, none⟩) out.length oc).ownBlock := ⟨hg4.os, hg4.tape, hg4.output, Nat.le_trans (by simp) hg4.size, fun b hb hr => (hg4.block b (by simp; omega) hr).trans (Below.heap_alloc W2 _ _ hb)⟩
                    have R : Hid (RO w w4 (.slice pa p.length pc) (.slice qa q.length qc) (.slice (some ⟨gx, 0, none⟩) xs.length xc) v4 p q xs op y0 y1 (k + 1)) := by
                      refine ⟨A, HRA3.out.size hg5.size, HR3.out.grown HRA3.out hg5 (fun g hg => (World.ownsRow.lt HBS3.out g hg).1), _, hp4.1, hv4 HBS2.out.2.1, ?_, HNX.out _ HST.out⟩
                      simp; omega
                    simp only [Act.put, List.setIfInBounds_toArray, List.set_cons_zero, List.set_cons_succ]
                    refine ⟨hk4, wpAnyH_all (rs := [15]) (by kernel_rfl) (by simp) ?_⟩
                    intro i hi
                    obtain rfl : i = 15 := by simpa using hi
                    refine op_val (d := 16) (v := v4) (w' := w4) rfl rfl rfl (by go_simp) ?_
                    simp only [Act.put, List.setIfInBounds_toArray, List.set_cons_zero, List.set_cons_succ]
                    refine ⟨hk4, wpAnyH_done (by kernel_rfl) (NoPanic.normal ?_) _⟩
                    go_wp2
                    go_roundw
                    case rel => exact ⟨k + 1, by omega, by go_num, R.out⟩
                    case measure => simp [intOf]; omega
                · have hz : out = [] := List.length_eq_zero_iff.1 (by omega)
                  have HST : Hid (stepR (fun x => takesK op (inK p x) (inK q x)) y0 y1 out c d = out ++ [⟨c, y0, d, y1⟩]) := stepR_first HT2.out.symm hz
                  clear hz
                  have b3 : ¬ (0 : Int) < (out.length : Int) := by omega
                  go_wp2_with (fail)
                  go_quiet (fail)
                  obtain ⟨W2, hW2⟩ : ∃ W2, W2 = W1.drewN nq := ⟨_, rfl⟩
                  have hb2 : Below W1.heap.size W1 W2 := by rw [hW2]; exact below_drewN (Below.refl _ _) _
                  rw [← hW2]
                  have HR3 : Hid (RI w W2 (.slice pa p.length pc) (.slice qa q.length qc) (.slice (some ⟨gx, 0, none⟩) xs.length xc) p q xs) := HR2.out.keep hb2
                  have HRA3 : Hid (RA w W2 (.slice pa p.length pc) (.slice qa q.length qc) (.slice (some ⟨gx, 0, none⟩) xs.length xc) A) := HRA.out.size hb2.size
                  have HBS3 : Hid (BS W2 A (.slice oa out.length oc) out) := HBS2.out.1.below hb2
                  have cc2 : W2.cell? ⟨gx, k, none⟩ = some (.int .i64 c) := by rw [hb2.cell hgx1]; exact cc1
                  have cd2 : W2.cell? ⟨gx, k + 1, none⟩ = some (.int .i64 d) := by rw [hb2.cell hgx1]; exact cd1
                  have hgx2 : gx < W2.heap.size := Nat.lt_of_lt_of_le hgx1 hb2.size
                  clear hW2 hb2 cc1 cd1 HR2 HRA
                  go_wp2_with (fail)
                  obtain ⟨row, hrow0⟩ : ∃ row, row = (Value.slice oa out.length oc).ownBlock := ⟨_, rfl⟩
                  have hgr : ¬ some gx = row := by
                    rw [hrow0]; intro e
                    have h1 := (World.ownsRow.lt HBS3.out gx e.symm).1
                    have h2 := HRA3.out.x gx rfl
                    omega
                  have HROW : Hid (row = (Value.slice oa out.length oc).ownBlock) := hrow0
                  clear hrow0
                  have hwk : IntKind.i64.wrap ((k : Int) + 1) = (k : Int) + 1 := by rw [IntKind.wrap_i64]; omega
                  have b7 : ¬ (k : Int) + 1 < 0 := by omega
                  have hS0 := KB.start W2 row
                  refine wp_region_holds (S := KB W2 row) (by kernel_rfl) hS0 (fun hS => ?_)
                  refine fl_takeS (i := 0) (d := 114) (v := .slice oa out.length oc) rfl rfl rfl (by kernel_rfl) (by kernel_rfl) (by kernel_rfl) hS ?_ ?_
                  · intro w' hk; unfold KB at hk; go_simp
                  simp only [Act.put, List.setIfInBounds_toArray, List.set_cons_zero, List.set_cons_succ]
                  refine fl_takeS (i := 1) (d := 115) (v := .slice (some ⟨gx, 0, none⟩) xs.length xc) rfl rfl rfl (by kernel_rfl) (by kernel_rfl) (by kernel_rfl) hS ?_ ?_
                  · intro w' hk; unfold KB at hk; go_simp
                  simp only [Act.put, List.setIfInBounds_toArray, List.set_cons_zero, List.set_cons_succ]
                  refine fl_takeS (i := 2) (d := 116) (v := .int .i64 k) rfl rfl rfl (by kernel_rfl) (by kernel_rfl) (by kernel_rfl) hS ?_ ?_
                  · intro w' hk; unfold KB at hk; go_simp
                  simp only [Act.put, List.setIfInBounds_toArray, List.set_cons_zero, List.set_cons_succ]
                  refine fl_takeS (i := 3) (d := 117) (v := .pointer (some ⟨gx, k, none⟩)) rfl rfl rfl (by kernel_rfl) (by kernel_rfl) (by kernel_rfl) hS ?_ ?_
                  · intro w' hk; unfold KB at hk; go_simp
                  simp only [Act.put, List.setIfInBounds_toArray, List.set_cons_zero, List.set_cons_succ]
                  refine fl_takeS (i := 4) (d := 118) (v := .int .i64 c) rfl rfl rfl (by kernel_rfl) (by kernel_rfl) (by kernel_rfl) hS ?_ ?_
                  · intro w' hk; unfold KB at hk; go_simp
                  simp only [Act.put, List.setIfInBounds_toArray, List.set_cons_zero, List.set_cons_succ]
                  refine fl_takeS (i := 5) (d := 119) (v := .int .i64 y0) rfl rfl rfl (by kernel_rfl) (by kernel_rfl) (by kernel_rfl) hS ?_ ?_
                  · intro w' hk; unfold KB at hk; go_simp
                  simp only [Act.put, List.setIfInBounds_toArray, List.set_cons_zero, List.set_cons_succ]
                  refine fl_takeS (i := 6) (d := 120) (v := .slice (some ⟨gx, 0, none⟩) xs.length xc) rfl rfl rfl (by kernel_rfl) (by kernel_rfl) (by kernel_rfl) hS ?_ ?_
                  · intro w' hk; unfold KB at hk; go_simp
                  simp only [Act.put, List.setIfInBounds_toArray, List.set_cons_zero, List.set_cons_succ]
                  refine fl_takeS (i := 7) (d := 121) (v := .int .i64 k) rfl rfl rfl (by kernel_rfl) (by kernel_rfl) (by kernel_rfl) hS ?_ ?_
                  · intro w' hk; unfold KB at hk; go_simp
                  simp only [Act.put, List.setIfInBounds_toArray, List.set_cons_zero, List.set_cons_succ]
                  refine fl_takeS (i := 8) (d := 122) (v := .int .i64 (k + 1)) rfl rfl rfl (by kernel_rfl) (by kernel_rfl) (by kernel_rfl) hS ?_ ?_
                  · intro w' hk; unfold KB at hk; go_simp
                  simp only [Act.put, List.setIfInBounds_toArray, List.set_cons_zero, List.set_cons_succ]
                  refine fl_takeS (i := 9) (d := 123) (v := .pointer (some ⟨gx, k + 1, none⟩)) rfl rfl rfl (by kernel_rfl) (by kernel_rfl) (by kernel_rfl) hS ?_ ?_
                  · intro w' hk; unfold KB at hk; go_simp
                  simp only [Act.put, List.setIfInBounds_toArray, List.set_cons_zero, List.set_cons_succ]
                  refine fl_takeS (i := 10) (d := 124) (v := .int .i64 d) rfl rfl rfl (by kernel_rfl) (by kernel_rfl) (by kernel_rfl) hS ?_ ?_
                  · intro w' hk; unfold KB at hk; go_simp
                  simp only [Act.put, List.setIfInBounds_toArray, List.set_cons_zero, List.set_cons_succ]
                  refine fl_takeS (i := 11) (d := 125) (v := .int .i64 y1) rfl rfl rfl (by kernel_rfl) (by kernel_rfl) (by kernel_rfl) hS ?_ ?_
                  · intro w' hk; unfold KB at hk; go_simp
                  simp only [Act.put, List.setIfInBounds_toArray, List.set_cons_zero, List.set_cons_succ]
                  refine fl_takeS (i := 12) (d := 126) (v := .agg #[.int .i64 c, .int .i64 y0, .int .i64 d, .int .i64 y1]) rfl rfl rfl (by kernel_rfl) (by kernel_rfl) (by kernel_rfl) hS ?_ ?_
                  · intro w' hk; unfold KB at hk; go_simp
                  simp only [Act.put, List.setIfInBounds_toArray, List.set_cons_zero, List.set_cons_succ]
                  refine wpAnyH_all (rs := [13]) (by kernel_rfl) (by simp) ?_
                  intro i hi
                  obtain rfl : i = 13 := by simpa using hi
                  refine op_val (d := 127) (v := .slice (some ⟨W2.heap.size, 0, none⟩) 1 1) (w' := (W2.alloc (.cells #[.int .i64 c, .int .i64 y0, .int .i64 d, .int .i64 y1] 30)).drew) rfl rfl rfl (by go_simp; try rfl) ?_
                  simp only [Act.put, List.setIfInBounds_toArray, List.set_cons_zero, List.set_cons_succ]
                  have hk3 : KB W2 row (W2.alloc (.cells #[.int .i64 c, .int .i64 y0, .int .i64 d, .int .i64 y1] 30)).drew := KB.of fun b hb _ => Below.heap_alloc W2 _ _ hb
                  have hnw : ∀ j u, (bcells ⟨c, y0, d, y1⟩)[j]? = some u → (W2.alloc (.cells #[.int .i64 c, .int .i64 y0, .int .i64 d, .int .i64 y1] 30)).drew.cell? ((⟨W2.heap.size, 0, none⟩ : Addr).add j) = some u := World.news_of_block (cs := #[.int .i64 c, .int .i64 y0, .int .i64 d, .int .i64 y1]) (t := 30) (fr := (0, 0)) (heap_alloc_new W2 _)
                  refine ⟨hk3, wpAnyH_all (rs := [14]) (by kernel_rfl) (by simp) ?_⟩
                  intro i hi
                  obtain rfl : i = 14 := by simpa using hi
                  refine op_append (dd := 128) rfl rfl rfl (.tmp 114) (.tmp 127) 26 rfl A 30 i0 (.agg #[.int .i64 0, .int .i64 0, .int .i64 0, .int .i64 0]) 4 32 Try.underlying26 hi0 hz0 hz1 hz2 rfl (by decide) (.slice oa out.length oc) out.length (bflat out) rfl ((World.ownsRow.alloc HBS3.out _).drew) ⟨W2.heap.size, 0, none⟩ 1 1 (bcells ⟨c, y0, d, y1⟩) rfl rfl hnw (by simp [bcells, Value.oneCell']) (by unfold maxLen; omega) (by omega) (by have := HRA3.out.hi; simp; omega) ?_
                  intro v4 w4 hown4 hgrow4 hv4
                  have hg4 := undrew hgrow4
                  have hp4 := push_step (w := w) (B := w.heap.size) HBS3.out HRA3.out.lo HR3.out.bl HR3.out.bl.size hown4 hg4
                  have hk4 : KB W2 row w4 := KB.of fun b hb hr => (hg4.block b (by simp; omega) (by rw [← HROW.out]; exact hr)).trans (Below.heap_alloc W2 _ _ hb)
                  have hg5 : W2.grownBy w4 (Value.slice oa out.length oc).ownBlock := ⟨hg4.os, hg4.tape, hg4.output, Nat.le_trans (by simp) hg4.size, fun b hb hr => (hg4.block b (by simp; omega) hr).trans (Below.heap_alloc W2 _ _ hb)⟩
                  have R : Hid (RO w w4 (.slice pa p.length pc) (.slice qa q.length qc) (.slice (some ⟨gx, 0, none⟩) xs.length xc) v4 p q xs op y0 y1 (k + 1)) := by
                    refine ⟨A, HRA3.out.size hg5.size, HR3.out.grown HRA3.out hg5 (fun g hg => (World.ownsRow.lt HBS3.out g hg).1), _, hp4.1, hv4 HBS2.out.2.1, ?_, HNX.out _ HST.out⟩
                    simp; omega
                  simp only [Act.put, List.setIfInBounds_toArray, List.set_cons_zero, List.set_cons_succ]
                  refine ⟨hk4, wpAnyH_all (rs := [15]) (by kernel_rfl) (by simp) ?_⟩
                  intro i hi
                  obtain rfl : i = 15 := by simpa using hi
                  refine op_val (d := 16) (v := v4) (w' := w4) rfl rfl rfl (by go_simp) ?_
                  simp only [Act.put, List.setIfInBounds_toArray, List.set_cons_zero, List.set_cons_succ]
                  refine ⟨hk4, wpAnyH_done (by kernel_rfl) (NoPanic.normal ?_) _⟩
                  go_wp2
                  go_roundw
                  case rel => exact ⟨k + 1, by omega, by go_num, R.out⟩
                  case measure => simp [intOf]; omega
            · have R : Hid (BS wr w.heap.size u16 (runsOf (takesK op) (rowK s y0) (rowK t y0) y0 y1) ∧ u16 ≠ .slice none 0 0 ∧ Below w.heap.size w wr) := by
                obtain ⟨A, hRA, hR1, out, hbs, hne, hlen, heq⟩ := hR.out
                have hshort : runsK (fun x => takesK op (inK p x) (inK q x)) y0 y1 (xs.drop k) out = out := runs_end (by omega)
                refine ⟨?_, hne, hR1.bl⟩
                rw [HT.out, ← heq, hshort]; exact hbs.low hRA.lo
              clear hR
              go_wp2
              go_returns
              exact ⟨_, rfl, R.out.1, R.out.2.1, R.out.2.2⟩

end Go.Proofs.Ytpfnhiohbgconaa
