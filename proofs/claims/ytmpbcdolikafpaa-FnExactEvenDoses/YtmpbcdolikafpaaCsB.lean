/- Proved here: shotBoxes of the program. (And ahead of it: Proved here: the counted cells: those of the frame that a shot has. No condition on the program.) (And ahead of it: Proved here: what is made of lists has no sides but theirs; so it has no more boxes than there are pairs of sides. No condition on the program.) -/
import Derived.Test.YtmpbcdolikafpaaShCount
import Derived.Test.YtmpbcdolikafpaaWtB
import Derived.Test.YtmpbcdolikafpaaBoxBase
import Derived.Deep.AppendLies
namespace Go.Proofs.Ytmpbcdolikafpaa
set_option linter.unusedVariables false
set_option linter.unusedSimpArgs false

def EndsIn (X Y : List Int) (s : List Bx) : Prop := ∀ b ∈ s, b.x0 ∈ X ∧ b.x1 ∈ X ∧ b.y0 ∈ Y ∧ b.y1 ∈ Y
theorem up_len : ∀ (xs E : List Int), Up xs → (∀ x ∈ xs, x ∈ E) → xs.length ≤ E.length := by
  intro xs
  induction xs with
  | nil => intro E _ _; simp
  | cons x t ih =>
    intro E hu h
    have hu' := List.pairwise_cons.1 hu
    have hx := h x (by simp)
    have := ih (E.erase x) hu'.2 fun y hy => by
      have hne : y ≠ x := by have := hu'.1 y hy; omega
      exact (List.mem_erase_of_ne hne).2 (h y (by simp [hy]))
    rw [List.length_erase_of_mem hx] at this
    have hp : 0 < E.length := List.length_pos_of_mem hx
    simp only [List.length_cons]
    omega
theorem runsK_ends {T : Int → Bool} {a b : Int} {E : List Int} : ∀ (xs : List Int) (c : Int) (out : List Bx), (∀ v ∈ c :: xs, v ∈ E) → (∀ r ∈ out, r.x0 ∈ E ∧ r.x1 ∈ E) → ∀ r ∈ runsK T a b (c :: xs) out, r.x0 ∈ E ∧ r.x1 ∈ E := by
  intro xs
  induction xs with
  | nil => intro c out _ h r hr; simp only [runsK] at hr; exact h r hr
  | cons d t ih =>
    intro c out hE h r hr
    rw [runsK] at hr
    refine ih d _ (fun v hv => hE v (by simp at hv ⊢; exact Or.inr hv)) ?_ r hr
    intro q hq
    have hc := hE c (by simp)
    have hd := hE d (by simp)
    have hnew : ∀ q ∈ out ++ [(⟨c, a, d, b⟩ : Bx)], q.x0 ∈ E ∧ q.x1 ∈ E := by
      intro q hq
      rcases List.mem_append.1 hq with hq | hq
      · exact h q hq
      · simp at hq; subst hq; exact ⟨hc, hd⟩
    unfold stepR at hq
    split at hq
    · cases hl : out.getLast? with
      | none => rw [hl] at hq; exact hnew q hq
      | some r =>
        rw [hl] at hq
        simp only at hq
        split at hq
        · rcases List.mem_append.1 hq with hq | hq
          · exact h q (List.dropLast_subset _ hq)
          · simp at hq; subst hq; exact ⟨(h r (List.mem_of_getLast? hl)).1, hd⟩
        · exact hnew q hq
    · exact h q hq
theorem row_ends {X Y : List Int} {s : List Bx} (h : EndsIn X Y s) (y : Int) : EndsIn X Y (rowK s y) := fun b hb => h b (List.mem_filter.1 hb).1
theorem runs_ends {X : List Int} {Y : List Int} {K : Bool → Bool → Bool} {p q : List Bx} (hp : EndsIn X Y p) (hq : EndsIn X Y q) (a b : Int) : (∀ r ∈ runsOf K p q a b, r.x0 ∈ X ∧ r.x1 ∈ X) ∧ (runsOf K p q a b).length ≤ X.length := by
  unfold runsOf
  have hu : Up (endsF Bx.x0 Bx.x1 (endsF Bx.x0 Bx.x1 [] p) q) := endsF_up _ _ _ (endsF_up _ _ _ List.Pairwise.nil)
  have hm : ∀ v ∈ endsF Bx.x0 Bx.x1 (endsF Bx.x0 Bx.x1 [] p) q, v ∈ X := by
    intro v hv
    rw [endsF_mem, endsF_mem] at hv
    rcases hv with (hv | ⟨b, hb, hv⟩) | ⟨b, hb, hv⟩
    · cases hv
    · rcases hv with rfl | rfl
      · exact (hp b hb).1
      · exact (hp b hb).2.1
    · rcases hv with rfl | rfl
      · exact (hq b hb).1
      · exact (hq b hb).2.1
  generalize endsF Bx.x0 Bx.x1 (endsF Bx.x0 Bx.x1 [] p) q = xs at hu hm
  have hl := up_len xs X hu hm
  cases xs with
  | nil => exact ⟨fun r hr => by simp [runsK] at hr, by simp [runsK]⟩
  | cons c t =>
    refine ⟨runsK_ends t c [] hm (fun r hr => by cases hr), ?_⟩
    have := runsK_half (T := fun x => K (inK p x) (inK q x)) (a := a) (b := b) t c [] 0 hu (by intro r hr; cases hr) (by simp)
    simp only [List.length_cons] at hl
    omega
theorem opK_ends {R : Int → Int → List Bx} {X Y : List Int} (hR : ∀ a b, a ∈ Y → b ∈ Y → EndsIn X Y (R a b)) : ∀ (ys : List Int) (st : List Bx × List Bx), (∀ y ∈ ys, y ∈ Y) → EndsIn X Y (st.1 ++ st.2) → EndsIn X Y (opK R ys st) := by
  intro ys
  induction ys with
  | nil => intro st _ h; exact h
  | cons a t ih =>
    intro st hy h
    cases t with
    | nil => exact h
    | cons b t =>
      rw [opK]
      refine ih _ (fun y hy' => hy y (by simp at hy' ⊢; exact Or.inr hy')) ?_
      have ha := hy a (by simp)
      have hb := hy b (by simp)
      unfold stepO
      split
      · intro r hr
        rcases List.mem_append.1 hr with hr | hr
        · exact h r (List.mem_append.2 (Or.inl hr))
        · unfold raise at hr
          obtain ⟨q, hq, rfl⟩ := List.mem_map.1 hr
          have := h q (List.mem_append.2 (Or.inr hq))
          exact ⟨this.1, this.2.1, this.2.2.1, hb⟩
      · intro r hr
        rcases List.mem_append.1 hr with hr | hr
        · exact h r hr
        · exact hR a b ha hb r hr
theorem ys_in {X Y : List Int} {s q : List Bx} (hs : EndsIn X Y s) (hq : EndsIn X Y q) : ∀ v ∈ endsF Bx.y0 Bx.y1 (endsF Bx.y0 Bx.y1 [] s) q, v ∈ Y := by
  intro v hv
  rw [endsF_mem, endsF_mem] at hv
  rcases hv with (hv | ⟨b, hb, hv⟩) | ⟨b, hb, hv⟩
  · cases hv
  · rcases hv with rfl | rfl
    · exact (hs b hb).2.2.1
    · exact (hs b hb).2.2.2
  · rcases hv with rfl | rfl
    · exact (hq b hb).2.2.1
    · exact (hq b hb).2.2.2
/-- What two lists make has only their sides. -/
theorem opOf_ends {K : Bool → Bool → Bool} (hK : K false false = false) {X Y : List Int} {s q : List Bx} (hs : EndsIn X Y s) (hq : EndsIn X Y q) : EndsIn X Y (opOf K s q) := by
  unfold opOf
  refine opK_ends (fun a b ha hb r hr => ?_) _ _ (ys_in hs hq) (fun b hb => by simp at hb)
  have h1 := (runs_ends (K := K) (row_ends hs a) (row_ends hq a) a b).1 r hr
  have h2 := (runsOf_ok K hK (rowK s a) (rowK q a) a b).1.y r hr
  exact ⟨h1.1, h1.2, by rw [h2.1]; exact ha, by rw [h2.2.1]; exact hb⟩
/-- .. so it has few boxes. -/
theorem opOf_few {K : Bool → Bool → Bool} {X Y : List Int} {s q : List Bx} (hs : EndsIn X Y s) (hq : EndsIn X Y q) : (opOf K s q).length ≤ Y.length * X.length := by
  unfold opOf
  have h1 := opK_len (R := fun a b => runsOf K (rowK s a) (rowK q a) a b) (f := fun _ => X.length) (fun a b => (runs_ends (row_ends hs a) (row_ends hq a) a b).2) (endsF Bx.y0 Bx.y1 (endsF Bx.y0 Bx.y1 [] s) q) ([], [])
  have hu : Up (endsF Bx.y0 Bx.y1 (endsF Bx.y0 Bx.y1 [] s) q) := endsF_up _ _ _ (endsF_up _ _ _ List.Pairwise.nil)
  have h2 := up_len _ Y hu (ys_in hs hq)
  rw [sumR_const] at h1
  simp only [List.length_nil, Nat.zero_add] at h1
  exact Nat.le_trans h1 (Nat.mul_le_mul_right _ h2)

/-- A list with at most n sides each way. -/
def Sides (n : Nat) (s : List Bx) : Prop := ∃ X Y : List Int, X.length ≤ n ∧ Y.length ≤ n ∧ EndsIn X Y s
theorem sides_own (s : List Bx) : Sides (2 * s.length) s := by
  refine ⟨s.map Bx.x0 ++ s.map Bx.x1, s.map Bx.y0 ++ s.map Bx.y1, by simp; omega, by simp; omega, fun b hb => ?_⟩
  simp only [List.mem_append, List.mem_map]
  exact ⟨Or.inl ⟨b, hb, rfl⟩, Or.inr ⟨b, hb, rfl⟩, Or.inl ⟨b, hb, rfl⟩, Or.inr ⟨b, hb, rfl⟩⟩
theorem Sides.op {n : Nat} {s : List Bx} (h : Sides n s) : Sides n (opOf or s []) := by
  obtain ⟨X, Y, hX, hY, he⟩ := h
  exact ⟨X, Y, hX, hY, opOf_ends rfl he (fun b hb => by cases hb)⟩
theorem Sides.few {n : Nat} {s : List Bx} (h : Sides n s) : (opOf or s []).length ≤ n * n := by
  obtain ⟨X, Y, hX, hY, he⟩ := h
  exact Nat.le_trans (opOf_few he (fun b hb => by cases hb)) (Nat.mul_le_mul hY hX)

end Go.Proofs.Ytmpbcdolikafpaa

namespace Go.Proofs.Ytmpbcdolikafpaa
set_option linter.unusedVariables false
set_option linter.unusedSimpArgs false

def bothK (p q : Bool) : Bool := p && q
/-- The counted cells' boxes. -/
def cntB (l : List Sh) (f : Bx) : List Bx := opOf bothK (bxS l) [f]
theorem form_okB : ∀ {rows : List (List Bx)} {below : List Bx}, FormB below rows → ∀ b ∈ rows.flatten, b.x0 < b.x1 ∧ b.y0 < b.y1 := by
  intro rows
  induction rows with
  | nil => intro below _ b hb; simp at hb
  | cons r rest ih =>
    intro below h b hb
    rw [List.flatten_cons, List.mem_append] at hb
    rcases hb with hb | hb
    · have h1 := h.2.2.1.y b hb
      have h2 := h.2.1
      exact ⟨h1.2.2, by omega⟩
    · exact ih h.2.2.2.2.2 b hb
theorem cnt_ok (l : List Sh) (f : Bx) : (cntB l f).Pairwise Aft ∧ ∀ b ∈ cntB l f, b.x0 < b.x1 ∧ b.y0 < b.y1 := by
  obtain ⟨rows, e, hf⟩ := opOf_form bothK rfl (bxS l) [f]
  unfold cntB
  rw [e]
  exact ⟨form_after hf, form_okB hf⟩
theorem cnt_in (l : List Sh) (f : Bx) (x y : Int) : inK (rowK (cntB l f) y) x = true ↔ cvB l x y = true ∧ ((f.x0 ≤ x ∧ x < f.x1) ∧ (f.y0 ≤ y ∧ y < f.y1)) := by
  rw [inK_cov]
  have h := opOf_cell bothK rfl (bxS l) [f] x y
  unfold Cell at h
  unfold cntB
  rw [h]
  unfold bothK cvB
  rw [Bool.and_eq_true]
  have e : inK (rowK [f] y) x = true ↔ ((f.x0 ≤ x ∧ x < f.x1) ∧ (f.y0 ≤ y ∧ y < f.y1)) := by
    unfold inK rowK
    simp
    constructor
    · intro h; omega
    · intro h; omega
  rw [e]
theorem has_cell {s : List Bx} {b : Bx} (hb : b ∈ s) {x y : Int} (h : (b.x0 ≤ x ∧ x < b.x1) ∧ (b.y0 ≤ y ∧ y < b.y1)) : inK (rowK s y) x = true := by
  rw [inK_cov]
  exact ⟨b, by unfold rowK; simp [hb]; omega, h.1⟩
theorem cnt_inF (l : List Sh) (f : Bx) : ∀ b ∈ cntB l f, InF f b := by
  intro b hb
  have h1 := (cnt_ok l f).2 b hb
  have h2 := ((cnt_in l f b.x0 b.y0).1 (has_cell hb (by omega))).2
  have h3 := ((cnt_in l f (b.x1 - 1) (b.y1 - 1)).1 (has_cell hb (by omega))).2
  unfold InF
  omega
theorem cnt_len {l : List Sh} {f : Bx} (hl : l.length ≤ 40) : (cntB l f).length ≤ 10000 := by
  have hs : EndsIn ((bxS l).map Bx.x0 ++ (bxS l).map Bx.x1 ++ [f.x0, f.x1]) ((bxS l).map Bx.y0 ++ (bxS l).map Bx.y1 ++ [f.y0, f.y1]) (bxS l) := by
    intro b hb
    have h0 : b.x0 ∈ (bxS l).map Bx.x0 := List.mem_map.2 ⟨b, hb, rfl⟩
    have h1 : b.x1 ∈ (bxS l).map Bx.x1 := List.mem_map.2 ⟨b, hb, rfl⟩
    have h2 : b.y0 ∈ (bxS l).map Bx.y0 := List.mem_map.2 ⟨b, hb, rfl⟩
    have h3 : b.y1 ∈ (bxS l).map Bx.y1 := List.mem_map.2 ⟨b, hb, rfl⟩
    simp only [List.mem_append]
    exact ⟨Or.inl (Or.inl h0), Or.inl (Or.inr h1), Or.inl (Or.inl h2), Or.inl (Or.inr h3)⟩
  have hq : EndsIn ((bxS l).map Bx.x0 ++ (bxS l).map Bx.x1 ++ [f.x0, f.x1]) ((bxS l).map Bx.y0 ++ (bxS l).map Bx.y1 ++ [f.y0, f.y1]) [f] := by
    intro b hb
    rw [List.mem_singleton] at hb
    subst hb
    simp
  have h := opOf_few (K := bothK) hs hq
  have e : (bxS l).length ≤ 40 := by unfold bxS; rw [List.length_map]; exact hl
  unfold cntB
  simp only [List.length_append, List.length_map, List.length_cons, List.length_nil] at h
  refine Nat.le_trans h ?_
  have h9 : (bxS l).length + (bxS l).length + (0 + 1 + 1) ≤ 82 := by omega
  exact Nat.le_trans (Nat.mul_le_mul h9 h9) (by decide)
/-- The sum over the counted boxes is the sum over the frame's cells that a shot has. -/
theorem cnt_er (l : List Sh) {f : Bx} (G : Nat → Nat → Int) (z : Int) {n W : Nat} (hw : f.x1 = f.x0 + (W : Int)) (hh : f.y1 = f.y0 + (n : Int)) : sbL f G z (cntB l f) (cntB l f).length = erA l f G z W n :=
  sb_er G z hw hh (cnt_ok l f).1 (fun b hb => ((cnt_ok l f).2 b hb).2) (cnt_inF l f) fun x y h => by
    rw [cnt_in]
    exact ⟨fun e => e.1, fun e => ⟨e, h⟩⟩

end Go.Proofs.Ytmpbcdolikafpaa

namespace Go.Proofs.Ytmpbcdolikafpaa
open Go.RowKit
set_option linter.unusedVariables false
set_option linter.unusedSimpArgs false

def boxesH (s : List Sh) : List Bx := s.map Sh.b
theorem bfK_ok {b : Bx} (h : bfK b = 0) : b.x0 < b.x1 ∧ b.y0 < b.y1 := by
  unfold bfK at h
  split at h
  · cases h
  · omega
theorem boxesH_len (l : List Sh) : (boxesH l).length = l.length := by simp [boxesH]
theorem boxesH_take (l : List Sh) (k : Nat) : boxesH (l.take k) = (boxesH l).take k := by simp [boxesH]
theorem boxesH_at {l : List Sh} {k : Nat} (h : k < l.length) : bat (boxesH l) k = l[k].b := by rw [bat_get (by rw [boxesH_len]; exact h)]; simp [boxesH]
structure SBx (w wr : World) (v : Value) (l : List Bx) : Prop where
  o : BS wr w.heap.size v l
  bl : Below w.heap.size w wr

set_option maxRecDepth 10000 in
set_option maxHeartbeats 4000000 in
theorem impl_shotB {w : World} {v : Value} {s : List Sh} (hn : s.length ≤ 40) (h : RG 5 shC w v s) :
    Calls Try.prog 37 #[v] w fun e w' => ∃ v', e = .returned v' ∧ BS w' w.heap.size v' (boxesH s) ∧ Below w.heap.size w w' := by
  obtain ⟨a, c, rfl⟩ := h.form
  have H : Hid (RG 5 shC w (.slice a s.length c) s) := h
  clear h
  obtain ⟨i0, hi0, hz0', hz1, hz2⟩ := info_parts info_box
  obtain ⟨n, hnn⟩ : ∃ n, n = s.length := ⟨_, rfl⟩
  have HN : Hid (n = s.length) := hnn
  rw [← hnn] at H hn ⊢
  clear hnn
  go_enter Try.func37, Try.ntmps37
  go_wp2_with (at_make; refine wpList_make_own _ rfl _ _ 66 rfl w.heap.size 34 i0 (.agg #[.int .i64 0, .int .i64 0, .int .i64 0, .int .i64 0]) 4 Try.underlying66 hi0 hz0' hz1 _ _ _ n rfl rfl rfl (by rw [hz2]; omega) (by unfold maxLen; omega) (by omega) ?_; intro w2 hown2 hgrow2)
  have M2 : Hid (SBx w w2 (.slice (some ⟨w.heap.size, 0, none⟩) 0 n) []) := by
    have hb := (Below.refl w.heap.size w).grown hgrow2 (Nat.le_refl _) (fun k h => by cases h)
    exact ⟨hown2, hb⟩
  clear hown2 hgrow2
  go_loopw [3, 11] (fun vo i wr => ∃ (k : Nat), k ≤ n ∧ i = .int .i64 k ∧ Hid (SBx w wr vo (boxesH (s.take k)))) (fun _ i _ => n - (intOf i).toNat)
  case atStart => exact ⟨0, Nat.zero_le _, rfl, M2.out⟩
  case round =>
    clear M2
    obtain ⟨k, hk, rfl, hR⟩ := hrel
    by_cases hlt : k < n
    · have hkl : k < s.length := by rw [← HN.out]; exact hlt
      obtain ⟨g, o, c2, he, hg, hj⟩ := (H.out.below hR.out.bl).pos (by rw [← HN.out]; omega)
      simp only [Value.slice.injEq] at he
      obtain ⟨rfl, hx1, hx2⟩ := he
      clear hx1 hx2
      obtain ⟨c0, c1, c2, c3, c4⟩ := shC_at (hj k hkl)
      obtain ⟨x, hx⟩ : ∃ x, x = s[k] := ⟨_, rfl⟩
      rw [← hx] at c0 c1 c2 c3 c4
      have HST : Hid (boxesH (s.take (k + 1)) = boxesH (s.take k) ++ [x.b]) := by
        unfold Hid boxesH
        rw [List.take_succ_eq_append_getElem hkl, ← hx]
        simp
      have hlen : (boxesH (s.take k)).length = k := by rw [boxesH_len, List.length_take]; omega
      obtain ⟨oa, oc, hof⟩ := hR.out.o.form
      subst hof
      have HM : Hid (SBx w wr (.slice oa (boxesH (s.take k)).length oc) (boxesH (s.take k))) := hR.out
      have hsz := hR.out.bl.size
      clear hx hj hR
      generalize boxesH (s.take k) = out at HM HST hlen ⊢
      have b0 : (0 : Int) ≤ (k : Int) := by omega
      have b1 : (k : Int) < (n : Int) := by omega
      go_wp2_with (at_builtin; refine wpList_append_own _ rfl _ _ 66 rfl w.heap.size 34 i0 (.agg #[.int .i64 0, .int .i64 0, .int .i64 0, .int .i64 0]) 4 32 Try.underlying66 hi0 hz0' hz1 hz2 rfl (by decide) _ _ _ rfl (World.ownsRow.alloc (World.ownsRow.alloc HM.out.o _) _) ⟨wr.heap.size + 1, 0, none⟩ 1 1 (bcells x.b) rfl rfl (World.news_of_block (cs := #[.int .i64 x.b.x0, .int .i64 x.b.y0, .int .i64 x.b.x1, .int .i64 x.b.y1]) (t := 34) (fr := (0, 0)) (sq_at1 wr _ _)) (by simp [bcells, Value.oneCell']) (by unfold maxLen; omega) (by omega) (by simp; omega) ?_; intro v5 w5 hown5 hgrow5 _)
      have R : Hid (SBx w w5 v5 (boxesH (s.take (k + 1)))) := by
        unfold Hid
        rw [HST.out]
        refine ⟨?_, ((HM.out.bl.alloc hsz _).alloc (by simp; omega) _).grown hgrow5 (by simp; omega) (fun k hk => (World.ownsRow.lt HM.out.o k hk).1)⟩
        unfold BS
        rw [bflat_append, List.length_append]
        have e : bflat [x.b] = bcells x.b := by simp [bflat]
        rw [e]; exact hown5
      clear hown5 hgrow5 HM HST c0 c1 c2 c3 c4
      go_wp2
      go_roundw
      case rel => exact ⟨k + 1, by omega, by go_num, R.out⟩
      case measure => simp [intOf]; omega
    · obtain rfl : k = n := by omega
      have HF : Hid (BS wr w.heap.size u3 (boxesH s) ∧ Below w.heap.size w wr) := by
        have h1 := hR.out
        rw [List.take_of_length_le (by rw [← HN.out]; exact Nat.le_refl _)] at h1
        exact ⟨h1.o, h1.bl⟩
      obtain ⟨oa, oc, hof⟩ := HF.out.1.form
      subst hof
      clear hR
      go_wp2
      go_returns
      exact ⟨_, rfl, HF.out.1, HF.out.2⟩

end Go.Proofs.Ytmpbcdolikafpaa
