/- Proved here: what CoverOf and ApartOf answer, by their parts: gaC, gaL. No condition on the program. (And ahead of it: Proved here: growing, told by cells: the cells of grown boxes are those near a cell; to grow twice is to grow once by both; what is grown and shrunk back has all that was there; what is shrunk and grown again lies in it. Arithmetic alone.) -/
import Derived.Test.YtokdpgabmifdjaaGrowM
import Derived.Test.YtokdpgabmifdjaaTurnM
namespace Go.Proofs.Ytokdpgabmifdjaa
set_option linter.unusedVariables false
set_option linter.unusedSimpArgs false

/-- Cells near cells. -/
def NearC (P : Int → Int → Prop) (d x y : Int) : Prop := ∃ u v, P u v ∧ u - d ≤ x ∧ x ≤ u + d ∧ v - d ≤ y ∧ y ≤ v + d
theorem nearC_congr {P Q : Int → Int → Prop} (h : ∀ x y, P x y ↔ Q x y) (d x y : Int) : NearC P d x y ↔ NearC Q d x y := by
  constructor
  · rintro ⟨u, v, h1, h2⟩; exact ⟨u, v, (h u v).1 h1, h2⟩
  · rintro ⟨u, v, h1, h2⟩; exact ⟨u, v, (h u v).2 h1, h2⟩
theorem between {u x n m : Int} (hn : 0 ≤ n) (hm : 0 ≤ m) (h1 : u - (n + m) ≤ x) (h2 : x ≤ u + (n + m)) : ∃ t, u - n ≤ t ∧ t ≤ u + n ∧ t - m ≤ x ∧ x ≤ t + m := by
  by_cases a : x ≤ u - n
  · exact ⟨u - n, by omega, by omega, by omega, by omega⟩
  · by_cases b : u + n ≤ x
    · exact ⟨u + n, by omega, by omega, by omega, by omega⟩
    · exact ⟨x, by omega, by omega, by omega, by omega⟩
/-- Near and near again. -/
theorem nearC_twice (P : Int → Int → Prop) {n m : Int} (hn : 0 ≤ n) (hm : 0 ≤ m) (x y : Int) : NearC (NearC P n) m x y ↔ NearC P (n + m) x y := by
  constructor
  · rintro ⟨u, v, ⟨p, q, h, h1, h2, h3, h4⟩, h5, h6, h7, h8⟩
    exact ⟨p, q, h, by omega, by omega, by omega, by omega⟩
  · rintro ⟨p, q, h, h1, h2, h3, h4⟩
    obtain ⟨t, a1, a2, a3, a4⟩ := between hn hm h1 h2
    obtain ⟨r, b1, b2, b3, b4⟩ := between hn hm h3 h4
    exact ⟨t, r, ⟨p, q, h, a1, a2, b1, b2⟩, a3, a4, b3, b4⟩
theorem clamp {a b x d : Int} (hab : a < b) (h1 : a - d ≤ x) (h2 : x < b + d) (hd : 0 ≤ d) : ∃ u, a ≤ u ∧ u < b ∧ u - d ≤ x ∧ x ≤ u + d := by
  by_cases h : x < a
  · exact ⟨a, by omega, by omega, by omega, by omega⟩
  · by_cases h' : b ≤ x
    · exact ⟨b - 1, by omega, by omega, by omega, by omega⟩
    · exact ⟨x, by omega, by omega, by omega, by omega⟩
/-- The cells of grown boxes are those near a cell. -/
theorem grS_cell {l : List Bx} (hl : ∀ b ∈ l, b.x0 < b.x1 ∧ b.y0 < b.y1) {d : Int} (hd : 0 ≤ d) (x y : Int) : Cell (grS l d) x y ↔ NearC (Cell l) d x y := by
  rw [cell_iff]
  constructor
  · rintro ⟨c, hc, h1, h2, h3, h4⟩
    obtain ⟨b, hb, rfl⟩ := List.mem_map.1 hc
    simp only [growB] at h1 h2 h3 h4
    obtain ⟨u, a1, a2, a3, a4⟩ := clamp (hl b hb).1 h1 h2 hd
    obtain ⟨v, b1, b2, b3, b4⟩ := clamp (hl b hb).2 h3 h4 hd
    exact ⟨u, v, (cell_iff l u v).2 ⟨b, hb, a1, a2, b1, b2⟩, a3, a4, b3, b4⟩
  · rintro ⟨u, v, h, h1, h2, h3, h4⟩
    obtain ⟨b, hb, a1, a2, a3, a4⟩ := (cell_iff l u v).1 h
    refine ⟨growB d b, List.mem_map.2 ⟨b, hb, rfl⟩, ?_, ?_, ?_, ?_⟩ <;> simp only [growB] <;> omega
/-- To grow twice is to grow once by both. -/
theorem grow_twice {s : List Bx} (hs : ∀ b ∈ s, b.x0 < b.x1 ∧ b.y0 < b.y1) {n m : Int} (hn : 0 ≤ n) (hm : 0 ≤ m) : opOf or (grS (opOf or (grS s n) []) m) [] = opOf or (grS s (n + m)) [] := by
  refine opOf_congr or rfl (fun x y => ?_) fun _ _ => Iff.rfl
  rw [grS_cell (opOf_tall or rfl _ _) hm, grS_cell hs (by omega), ← nearC_twice _ hn hm]
  refine nearC_congr (fun u v => ?_) m x y
  rw [opOf_or_cell, grS_cell hs hn]

theorem less_cell {K : Bool → Bool → Bool} (hK : ∀ p q, K p q = (p && !q)) (s q : List Bx) (x y : Int) : Cell (opOf K s q) x y ↔ Cell s x y ∧ ¬ Cell q x y := by
  rw [opOf_cell K (by rw [hK]; rfl), hK]
  unfold Cell
  rw [← inK_cov, ← inK_cov]
  cases inK (rowK s y) x <;> cases inK (rowK q y) x <;> simp
/-- What is grown and shrunk back has all that was there. -/
theorem back_has {K : Bool → Bool → Bool} (hK : ∀ p q, K p q = (p && !q)) {s g : List Bx} (hs : ∀ b ∈ s, b.x0 < b.x1 ∧ b.y0 < b.y1) {n : Int} (hn : 0 ≤ n) (hg : ∀ x y, Cell g x y ↔ Cell (grS s n) x y) (B : Bx) (x y : Int) (h : Cell s x y) : Cell (opOf K g (grS (opOf K [growB 1 B] g) n)) x y := by
  rw [less_cell hK, grS_cell (opOf_tall K (by rw [hK]; rfl) _ _) hn, hg, grS_cell hs hn]
  refine ⟨⟨x, y, h, by omega, by omega, by omega, by omega⟩, ?_⟩
  rintro ⟨u, v, hm, h1, h2, h3, h4⟩
  rw [less_cell hK] at hm
  refine hm.2 ?_
  rw [hg, grS_cell hs hn]
  exact ⟨x, y, h, by omega, by omega, by omega, by omega⟩
theorem pull {a b u x n : Int} (h1 : a ≤ u) (h2 : u < b) (h3 : u - n ≤ x) (h4 : x ≤ u + n) : ∃ t, a - 1 ≤ t ∧ t ≤ b ∧ u - n ≤ t ∧ t ≤ u + n ∧ (t = x ∨ t < a ∨ b ≤ t) := by
  by_cases p : x < a - 1
  · exact ⟨a - 1, by omega, by omega, by omega, by omega, by omega⟩
  · by_cases q : b < x
    · exact ⟨b, by omega, by omega, by omega, by omega, by omega⟩
    · exact ⟨x, by omega, by omega, by omega, by omega, by omega⟩
/-- What is shrunk and grown again lies in what was there. -/
theorem open_in {K : Bool → Bool → Bool} (hK : ∀ p q, K p q = (p && !q)) {s : List Bx} {B : Bx} (hB : ∀ b ∈ s, B.x0 ≤ b.x0 ∧ B.y0 ≤ b.y0 ∧ b.x1 ≤ B.x1 ∧ b.y1 ≤ B.y1) {n : Int} (hn : 0 ≤ n) (x y : Int) (h : Cell (grS (opOf K s (grS (opOf K [growB 1 B] s) n)) n) x y) : Cell s x y := by
  rw [grS_cell (opOf_tall K (by rw [hK]; rfl) _ _) hn] at h
  obtain ⟨u, v, hc, h1, h2, h3, h4⟩ := h
  rw [less_cell hK, grS_cell (opOf_tall K (by rw [hK]; rfl) _ _) hn] at hc
  refine Classical.byContradiction fun hno => hc.2 ?_
  have hin : ∀ p q, Cell s p q → B.x0 ≤ p ∧ p < B.x1 ∧ B.y0 ≤ q ∧ q < B.y1 := by
    intro p q hpq
    obtain ⟨b, hb, a1, a2, a3, a4⟩ := (cell_iff s p q).1 hpq
    have := hB b hb
    omega
  have huv := hin u v hc.1
  obtain ⟨t, t1, t2, t3, t4, t5⟩ := pull huv.1 huv.2.1 h1 h2
  obtain ⟨r, r1, r2, r3, r4, r5⟩ := pull huv.2.2.1 huv.2.2.2 h3 h4
  refine ⟨t, r, ?_, by omega, by omega, by omega, by omega⟩
  rw [less_cell hK, cell_iff]
  refine ⟨⟨growB 1 B, by simp, ?_, ?_, ?_, ?_⟩, fun hs => ?_⟩
  · simp only [growB]; omega
  · simp only [growB]; omega
  · simp only [growB]; omega
  · simp only [growB]; omega
  · have h5 := hin t r hs
    rcases t5 with e | e | e
    · rcases r5 with e' | e' | e'
      · subst e e'; exact hno hs
      · omega
      · omega
    · omega
    · omega

end Go.Proofs.Ytokdpgabmifdjaa

namespace Go.Proofs.Ytokdpgabmifdjaa
set_option linter.unusedVariables false
set_option linter.unusedSimpArgs false

/-- The code of what s, grown by d, and t make. -/
def gaC (op : Int) (s t : List Bx) (d : Int) : Int :=
  if shapeK s = 0 then (if shapeK t = 0 then (if 0 ≤ d ∧ d ≤ 1000 then (if grC s d = 0 then toldC (opOf (takesK op) (grL s d) t).length else grC s d) else 3) else shapeK t) else shapeK s
def gaL (op : Int) (s t : List Bx) (d : Int) : List Bx :=
  if shapeK s = 0 ∧ shapeK t = 0 ∧ (0 ≤ d ∧ d ≤ 1000) ∧ grC s d = 0 then toldL (opOf (takesK op) (grL s d) t) else []
theorem gaL_length (op : Int) (s t : List Bx) (d : Int) : (gaL op s t d).length ≤ 150 := by
  unfold gaL toldL
  split
  · split
    · assumption
    · simp
  · simp
theorem grL_out {s : List Bx} {d : Int} (h : grC s d ≠ 0) : grL s d = [] := by
  have key : ∀ l : List Bx, toldC l.length ≠ 0 → toldL l = [] := by
    intro l hl
    unfold toldC at hl
    unfold toldL
    split at hl
    · exact absurd rfl hl
    · rename_i hn; rw [if_neg hn]
  unfold grC at h
  unfold grL
  split at h
  · rename_i h0
    rw [if_pos h0]
    split at h
    · rename_i h1; rw [if_pos h1]
    · rename_i h1
      rw [if_neg h1]
      split at h
      · rename_i h2; rw [if_pos h2]; exact key _ h
      · rename_i h2
        rw [if_neg h2]
        split at h
        · rename_i h3; rw [if_pos h3]; exact key _ h
        · rename_i h3; rw [if_neg h3]
  · rename_i h0; rw [if_neg h0]
theorem ga_first {op : Int} {s t : List Bx} {d : Int} (h : shapeK s ≠ 0) : gaC op s t d = shapeK s ∧ gaL op s t d = [] := by
  unfold gaC gaL; rw [if_neg h, if_neg (fun e => h e.1)]; exact ⟨rfl, rfl⟩
theorem ga_second {op : Int} {s t : List Bx} {d : Int} (h0 : shapeK s = 0) (h : shapeK t ≠ 0) : gaC op s t d = shapeK t ∧ gaL op s t d = [] := by
  unfold gaC gaL; rw [if_pos h0, if_neg h, if_neg (fun e => h e.2.1)]; exact ⟨rfl, rfl⟩
theorem ga_far {op : Int} {s t : List Bx} {d : Int} (h0 : shapeK s = 0) (h1 : shapeK t = 0) (h : ¬ (0 ≤ d ∧ d ≤ 1000)) : gaC op s t d = 3 ∧ gaL op s t d = [] := by
  unfold gaC gaL; rw [if_pos h0, if_pos h1, if_neg h, if_neg (fun e => h e.2.2.1)]; exact ⟨rfl, rfl⟩
theorem ga_code {op : Int} {s t : List Bx} {d : Int} (h0 : shapeK s = 0) (h1 : shapeK t = 0) (h2 : 0 ≤ d ∧ d ≤ 1000) (h : grC s d ≠ 0) : gaC op s t d = grC s d ∧ gaL op s t d = [] := by
  unfold gaC gaL; rw [if_pos h0, if_pos h1, if_pos h2, if_neg h, if_neg (fun e => h e.2.2.2)]; exact ⟨rfl, rfl⟩
theorem ga_told {op : Int} {s t : List Bx} {d : Int} (h0 : shapeK s = 0) (h1 : shapeK t = 0) (h2 : 0 ≤ d ∧ d ≤ 1000) (h : grC s d = 0) : gaC op s t d = toldC (opOf (takesK op) (grL s d) t).length ∧ gaL op s t d = toldL (opOf (takesK op) (grL s d) t) := by
  unfold gaC gaL; rw [if_pos h0, if_pos h1, if_pos h2, if_pos h, if_pos ⟨h0, h1, h2, h⟩]; exact ⟨rfl, rfl⟩

theorem grL_x {s : List Bx} {d : Int} (h0 : shapeK s = 0) (h2 : 0 ≤ d ∧ d ≤ 1000) : ∀ q ∈ grL s d, q.x0 < q.x1 := by
  intro q hq
  by_cases hf : firstK (grS s d) = 0
  · rw [(gr_pos h0 h2 hf).2] at hq
    unfold toldL at hq
    split at hq
    · exact (opOf_tall (takesK 1) rfl _ _ q hq).1
    · cases hq
  · rw [(gr_out h0 h2 hf).2] at hq; cases hq

/-- What l4Grown tells: the code, and the grown list. -/
def lgC (s t : List Bx) (d : Int) : Int := if shapeK s = 0 then (if shapeK t = 0 then (if 0 ≤ d ∧ d ≤ 1000 then grC s d else 3) else shapeK t) else shapeK s
def lgL (s t : List Bx) (d : Int) : List Bx := if shapeK s = 0 ∧ shapeK t = 0 ∧ (0 ≤ d ∧ d ≤ 1000) then grL s d else []
theorem lgL_length (s t : List Bx) (d : Int) : (lgL s t d).length ≤ 150 := by
  unfold lgL; split
  · exact grL_length s d
  · simp
theorem lg_ok {s t : List Bx} {d : Int} (h : lgC s t d = 0) : shapeK s = 0 ∧ shapeK t = 0 ∧ (0 ≤ d ∧ d ≤ 1000) ∧ grC s d = 0 := by
  unfold lgC at h
  split at h
  · rename_i h0
    split at h
    · rename_i h1
      split at h
      · rename_i h2; exact ⟨h0, h1, h2, h⟩
      · cases h
    · rename_i h1; exact absurd h h1
  · rename_i h0; exact absurd h h0
theorem ga_lg {op : Int} {s t : List Bx} {d : Int} (h : lgC s t d = 0) : gaC op s t d = toldC (opOf (takesK op) (lgL s t d) t).length ∧ gaL op s t d = toldL (opOf (takesK op) (lgL s t d) t) := by
  obtain ⟨h0, h1, h2, h3⟩ := lg_ok h
  unfold lgL; rw [if_pos ⟨h0, h1, h2⟩]
  exact ga_told h0 h1 h2 h3
theorem ga_lg_not {op : Int} {s t : List Bx} {d : Int} (h : lgC s t d ≠ 0) : gaC op s t d = lgC s t d ∧ gaL op s t d = [] ∧ lgL s t d = [] := by
  unfold lgC at h ⊢
  by_cases h0 : shapeK s = 0
  · rw [if_pos h0] at h ⊢
    by_cases h1 : shapeK t = 0
    · rw [if_pos h1] at h ⊢
      by_cases h2 : 0 ≤ d ∧ d ≤ 1000
      · rw [if_pos h2] at h ⊢
        refine ⟨(ga_code h0 h1 h2 h).1, (ga_code h0 h1 h2 h).2, ?_⟩
        unfold lgL; rw [if_pos ⟨h0, h1, h2⟩]; exact grL_out h
      · rw [if_neg h2]
        refine ⟨(ga_far h0 h1 h2).1, (ga_far h0 h1 h2).2, ?_⟩
        unfold lgL; rw [if_neg (fun e => h2 e.2.2)]
    · rw [if_neg h1]
      refine ⟨(ga_second h0 h1).1, (ga_second h0 h1).2, ?_⟩
      unfold lgL; rw [if_neg (fun e => h1 e.2.1)]
  · rw [if_neg h0]
    refine ⟨(ga_first h0).1, (ga_first h0).2, ?_⟩
    unfold lgL; rw [if_neg (fun e => h0 e.1)]

end Go.Proofs.Ytokdpgabmifdjaa
