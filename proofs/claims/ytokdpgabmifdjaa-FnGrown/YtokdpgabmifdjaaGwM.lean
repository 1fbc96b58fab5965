/- Proved here: the arithmetic of FnGrown, over grC, grL, cmL: to grow twice is to grow once; what is grown and shrunk back has all that was there; what is shrunk and grown back has nothing more. No condition on the program. -/
import Derived.Test.YtokdpgabmifdjaaGaM
import Derived.Test.YtokdpgabmifdjaaTnM
namespace Go.Proofs.Ytokdpgabmifdjaa
open Go.RowKit
set_option linter.unusedVariables false
set_option linter.unusedSimpArgs false

theorem bf_ok {b : Bx} : bfK b = 0 ↔ okB b := by
  unfold bfK okB
  constructor
  · intro h
    repeat' (split at h)
    all_goals first | (cases h; done) | omega
  · intro h
    repeat' split
    all_goals first | rfl | omega
theorem told_zero {n : Nat} (h : toldC n = 0) : n ≤ 150 := by
  unfold toldC at h
  split at h
  · assumption
  · cases h
theorem toldL_id {l : List Bx} (h : l.length ≤ 150) : toldL l = l := by unfold toldL; rw [if_pos h]
theorem gr_shape {s : List Bx} {d : Int} (h : grC s d = 0) : shapeK s = 0 := by
  unfold grC at h
  split at h
  · assumption
  · rename_i h0; exact absurd h h0
/-- What comes out of the sweep, near and short, is a shape. -/
theorem op_shape {K : Bool → Bool → Bool} (hK : K false false = false) {X Y : List Bx} (hl : (opOf K X Y).length ≤ 150) (hc : ∀ x y, Cell (opOf K X Y) x y → -10000 ≤ x ∧ x < 10000 ∧ -10000 ≤ y ∧ y < 10000) : shapeK (opOf K X Y) = 0 := by
  obtain ⟨rows, hr, hF⟩ := opOf_form K hK X Y
  have ht := opOf_tall K hK X Y
  have hok : ∀ b ∈ opOf K X Y, okB b := by
    intro b hb
    have hb2 := ht b hb
    have k1 := hc b.x0 b.y0 (cell_of hb ⟨by omega, by omega, by omega, by omega⟩)
    have k2 := hc (b.x1 - 1) (b.y1 - 1) (cell_of hb ⟨by omega, by omega, by omega, by omega⟩)
    unfold okB
    omega
  have hin : inForm (opOf K X Y).length [] (opOf K X Y) = true := by
    refine (form_iff _ ht).1 ?_
    rw [hr]; exact opOf_self hF
  have hbz : boxesK (opOf K X Y) = 0 := by
    unfold boxesK
    rw [if_neg (by omega)]
    exact (firstK_zero_iff _).2 fun b hb => bf_ok.2 (hok b hb)
  unfold shapeK
  rw [if_pos hbz, if_pos hin]
theorem no_cells {K : Bool → Bool → Bool} (hK : K false false = false) {X Y : List Bx} (h : ∀ x y, ¬ Cell (opOf K X Y) x y) : opOf K X Y = [] := by
  have ht := opOf_tall K hK X Y
  cases hl : opOf K X Y with
  | nil => rfl
  | cons b t =>
    exfalso
    have hb : b ∈ opOf K X Y := by rw [hl]; simp
    have := ht b hb
    exact h b.x0 b.y0 (cell_of hb ⟨by omega, by omega, by omega, by omega⟩)
theorem tall_of {s : List Bx} (h : shapeK s = 0) : ∀ b ∈ s, b.x0 < b.x1 ∧ b.y0 < b.y1 := fun b hb => by
  have := shape_ok h b hb; unfold okB at this; omega
/-- What is grown, where it has no code. -/
theorem grown_eq {s : List Bx} {d : Int} (hd : 0 ≤ d ∧ d ≤ 1000) (h : grC s d = 0) : grL s d = opOf or (grS s d) [] ∧ (opOf or (grS s d) []).length ≤ 150 ∧ ∀ b ∈ grS s d, okB b := by
  have hs := gr_shape h
  by_cases hf : firstK (grS s d) = 0
  · have e := gr_pos hs hd hf
    rw [h, takes_or] at e
    have hl := told_zero e.1.symm
    exact ⟨by rw [e.2, toldL_id hl], hl, fun b hb => bf_ok.1 ((firstK_zero_iff _).1 hf b hb)⟩
  · have e := gr_out hs hd hf
    rw [h] at e
    exact absurd e.1.symm hf
theorem shrunk_eq {s : List Bx} {n : Int} (hn : 0 < n ∧ n ≤ 1000) (h : grC s (-n) = 0) : grL s (-n) = shL s n ∧ (shL s n).length ≤ 150 := by
  have hs := gr_shape h
  have e := gr_neg hs (by omega : -1000 ≤ -n ∧ -n < 0)
  rw [h, Int.neg_neg] at e
  have hl := told_zero e.1.symm
  exact ⟨by rw [e.2, toldL_id hl], hl⟩
theorem near_place {X : List Bx} (h : ∀ b ∈ X, okB b) {x y : Int} (hc : Cell X x y) : -10000 ≤ x ∧ x < 10000 ∧ -10000 ≤ y ∧ y < 10000 := by
  obtain ⟨c, hc, a1, a2, a3, a4⟩ := (cell_iff X x y).1 hc
  have := h c hc
  unfold okB at this
  omega
theorem grown_shape {s : List Bx} {d : Int} (hd : 0 ≤ d ∧ d ≤ 1000) (h : grC s d = 0) : shapeK (grL s d) = 0 := by
  obtain ⟨e, hl, hok⟩ := grown_eq hd h
  rw [e]
  exact op_shape rfl hl fun x y hc => near_place hok ((opOf_or_cell _ x y).1 hc)
theorem less_k : ∀ p q, takesK 3 p q = (p && !q) := fun p q => rfl
theorem shrunk_shape {s : List Bx} {n : Int} (hn : 0 < n ∧ n ≤ 1000) (h : grC s (-n) = 0) : shapeK (grL s (-n)) = 0 := by
  obtain ⟨e, hl⟩ := shrunk_eq hn h
  rw [e]
  unfold shL at hl ⊢
  split
  · rfl
  · rename_i h0
    rw [if_neg h0] at hl
    exact op_shape rfl hl fun x y hc => near_place (shape_ok (gr_shape h)) ((less_cell less_k _ _ x y).1 hc).1
/-- To grow twice. -/
theorem grow_two {s : List Bx} {n m : Int} (hn : 0 ≤ n ∧ n ≤ 3) (hm : 0 ≤ m ∧ m ≤ 3) (h1 : grC s n = 0) (h2 : grC s (n + m) = 0) : grC (grL s n) m = 0 ∧ grL (grL s n) m = grL s (n + m) := by
  have hs := gr_shape h1
  obtain ⟨e1, l1, ok1⟩ := grown_eq (by omega : 0 ≤ n ∧ n ≤ 1000) h1
  obtain ⟨e2, l2, ok2⟩ := grown_eq (by omega : 0 ≤ n + m ∧ n + m ≤ 1000) h2
  have hG := grown_shape (by omega : 0 ≤ n ∧ n ≤ 1000) h1
  have hf : firstK (grS (grL s n) m) = 0 := by
    refine (firstK_zero_iff _).2 fun c hc => bf_ok.2 ?_
    obtain ⟨b, hb, rfl⟩ := List.mem_map.1 hc
    have hbt := tall_of hG b hb
    have key : ∀ x y, b.x0 ≤ x → x < b.x1 → b.y0 ≤ y → y < b.y1 → -10000 ≤ x - m ∧ x + m < 10000 ∧ -10000 ≤ y - m ∧ y + m < 10000 := by
      intro x y a1 a2 a3 a4
      have hcell : Cell (grL s n) x y := cell_of hb ⟨a1, a2, a3, a4⟩
      rw [e1] at hcell
      have := (grS_cell (tall_of hs) hn.1 x y).1 ((opOf_or_cell _ x y).1 hcell)
      obtain ⟨u, v, huv, b1, b2, b3, b4⟩ := this
      obtain ⟨q, hq, q1, q2, q3, q4⟩ := (cell_iff s u v).1 huv
      have := ok2 (growB (n + m) q) (List.mem_map.2 ⟨q, hq, rfl⟩)
      unfold okB growB at this
      simp only at this
      omega
    have k1 := key b.x0 b.y0 (by omega) (by omega) (by omega) (by omega)
    have k2 := key (b.x1 - 1) (b.y1 - 1) (by omega) (by omega) (by omega) (by omega)
    unfold okB growB
    simp only
    omega
  have e := gr_pos hG (by omega : 0 ≤ m ∧ m ≤ 1000) hf
  have htw : opOf (takesK 1) (grS (grL s n) m) [] = opOf or (grS s (n + m)) [] := by
    rw [takes_or, e1]; exact grow_twice (tall_of hs) hn.1 hm.1
  rw [htw] at e
  refine ⟨?_, ?_⟩
  · rw [e.1]; unfold toldC; rw [if_pos l2]
  · rw [e.2, toldL_id l2, e2]
theorem cm_less {s t : List Bx} (h : ∀ x y, Cell s x y → Cell t x y) : cmL 3 s t = [] := by
  unfold cmL
  split
  · have : opOf (takesK 3) s t = [] := no_cells rfl fun x y hc => by
      have := (less_cell less_k s t x y).1 hc
      exact this.2 (h x y this.1)
    rw [this]; rfl
  · rfl
theorem nil_cell {x y : Int} (h : Cell [] x y) : False := by
  obtain ⟨c, hc, _⟩ := (cell_iff [] x y).1 h
  cases hc
theorem grow_zero_cell {s : List Bx} (hs : shapeK s = 0) (x y : Int) : Cell (opOf or (grS s 0) []) x y ↔ Cell s x y := by
  rw [opOf_or_cell, grS_cell (tall_of hs) (Int.le_refl 0)]
  constructor
  · rintro ⟨u, v, h, h1, h2, h3, h4⟩
    obtain rfl : u = x := by omega
    obtain rfl : v = y := by omega
    exact h
  · intro h; exact ⟨x, y, h, by omega, by omega, by omega, by omega⟩
/-- Grown and shrunk back: all is there. -/
theorem grow_back {s : List Bx} {n : Int} (hn : 0 ≤ n ∧ n ≤ 3) (h1 : grC s n = 0) (h2 : grC (grL s n) (-n) = 0) : cmL 3 s (grL (grL s n) (-n)) = [] := by
  have hs := gr_shape h1
  obtain ⟨e1, l1, ok1⟩ := grown_eq (by omega : 0 ≤ n ∧ n ≤ 1000) h1
  have hG := grown_shape (by omega : 0 ≤ n ∧ n ≤ 1000) h1
  have hgc : ∀ x y, Cell (grL s n) x y ↔ Cell (grS s n) x y := fun x y => by rw [e1]; exact opOf_or_cell _ x y
  have hsub : ∀ x y, Cell s x y → Cell (grL s n) x y := fun x y h => (hgc x y).2 ((grS_cell (tall_of hs) hn.1 x y).2 ⟨x, y, h, by omega, by omega, by omega, by omega⟩)
  refine cm_less fun x y h => ?_
  by_cases h0 : n = 0
  · subst h0
    obtain ⟨e2, _, _⟩ := grown_eq (by omega : (0 : Int) ≤ -0 ∧ -0 ≤ 1000) h2
    rw [e2]
    exact (grow_zero_cell hG x y).2 (hsub x y h)
  · obtain ⟨e2, l2⟩ := shrunk_eq (by omega : 0 < n ∧ n ≤ 1000) h2
    rw [e2]
    unfold shL
    rw [if_neg (fun hz => by
      have : grL s n = [] := List.length_eq_zero_iff.1 hz
      have hc := hsub x y h
      rw [this] at hc
      exact nil_cell hc)]
    exact back_has less_k (tall_of hs) hn.1 hgc _ x y h
/-- Shrunk and grown back: nothing more. -/
theorem grow_open {s : List Bx} {n : Int} (hn : 0 ≤ n ∧ n ≤ 3) (h1 : grC s (-n) = 0) (h2 : grC (grL s (-n)) n = 0) : cmL 3 (grL (grL s (-n)) n) s = [] := by
  have hs := gr_shape h1
  obtain ⟨e2, l2, ok2⟩ := grown_eq (by omega : 0 ≤ n ∧ n ≤ 1000) h2
  refine cm_less fun x y h => ?_
  rw [e2] at h
  have hS := gr_shape h2
  by_cases h0 : n = 0
  · subst h0
    have hc := (grow_zero_cell hS x y).1 h
    obtain ⟨e1, _, _⟩ := grown_eq (by omega : (0 : Int) ≤ -0 ∧ -0 ≤ 1000) h1
    rw [e1] at hc
    exact (grow_zero_cell hs x y).1 hc
  · obtain ⟨e1, l1⟩ := shrunk_eq (by omega : 0 < n ∧ n ≤ 1000) h1
    have hc := (opOf_or_cell _ x y).1 h
    rw [e1] at hc
    unfold shL at hc
    split at hc
    · simp only [grS, List.map_nil] at hc
      exact absurd hc nil_cell
    · rename_i hz
      exact open_in less_k (B := bnd s s.length) (fun b hb => by
        have := (bnd_all (by omega : 0 < s.length)).1 b hb
        omega) hn.1 x y hc

end Go.Proofs.Ytokdpgabmifdjaa
