/- Proved here: what CoverOf and ApartOf answer, by their parts: gaC, gaL. No condition on the program. (And ahead of it: Proved here: CombineShapes' code and list: cmC, cmL.) -/
import Derived.Test.YtokdpgabmifdjaaRimMath
import Derived.Test.YtokdpgabmifdjaaShGrow
namespace Go.Proofs.Ytokdpgabmifdjaa
open Go.RowKit
set_option linter.unusedVariables false
set_option linter.unusedSimpArgs false

def opOk (op : Int) : Bool := decide (1 ≤ op ∧ op ≤ 4)
def cmC (op : Int) (s t : List Bx) : Int := if opOk op = true then (if shapeK s = 0 then (if shapeK t = 0 then toldC (opOf (takesK op) s t).length else shapeK t) else shapeK s) else 1
def cmL (op : Int) (s t : List Bx) : List Bx := if opOk op = true ∧ shapeK s = 0 ∧ shapeK t = 0 then toldL (opOf (takesK op) s t) else []
theorem cmL_length (op : Int) (s t : List Bx) : (cmL op s t).length ≤ 150 := by
  unfold cmL toldL
  split
  · split
    · assumption
    · simp
  · simp
theorem shapeK_len {s : List Bx} (h : shapeK s = 0) : s.length ≤ 150 := by
  refine (boxesK_zero ?_).1
  unfold shapeK at h
  split at h
  · assumption
  · rename_i h0; exact absurd h h0

theorem shapeK_x {s : List Bx} (h : shapeK s = 0) : ∀ b ∈ s, b.x0 < b.x1 := by
  intro b hb
  refine ((boxesK_zero ?_).2 b hb).1
  unfold shapeK at h
  split at h
  · assumption
  · rename_i h0; exact absurd h h0

end Go.Proofs.Ytokdpgabmifdjaa

namespace Go.Proofs.Ytokdpgabmifdjaa
set_option linter.unusedVariables false
set_option linter.unusedSimpArgs false

/-- The code of what s, grown by d, and t make. -/
def gaC (op : Int) (s t : List Bx) (d : Int) : Int :=
  if shapeK s = 0 then (if shapeK t = 0 then (if 0 ≤ d ∧ d ≤ 1000 then (if grC s d = 0 then toldC (opOf (takesK op) (grL s d) t).length else grC s d) else 3) else shapeK t) else shapeK s
def gaL (op : Int) (s t : List Bx) (d : Int) : List Bx :=
  if shapeK s = 0 ∧ shapeK t = 0 ∧ (0 ≤ d ∧ d ≤ 1000) ∧ grC s d = 0 then toldL (opOf (takesK op) (grL s d) t) else []
theorem gaL_length (op : Int) (s t : List Bx) (d : Int) : (gaL op s t d).length ≤ 150 := by
  unfold gaL toldL
  split
  · split
    · assumption
    · simp
  · simp
theorem grL_out {s : List Bx} {d : Int} (h : grC s d ≠ 0) : grL s d = [] := by
  have key : ∀ l : List Bx, toldC l.length ≠ 0 → toldL l = [] := by
    intro l hl
    unfold toldC at hl
    unfold toldL
    split at hl
    · exact absurd rfl hl
    · rename_i hn; rw [if_neg hn]
  unfold grC at h
  unfold grL
  split at h
  · rename_i h0
    rw [if_pos h0]
    split at h
    · rename_i h1; rw [if_pos h1]
    · rename_i h1
      rw [if_neg h1]
      split at h
      · rename_i h2; rw [if_pos h2]; exact key _ h
      · rename_i h2
        rw [if_neg h2]
        split at h
        · rename_i h3; rw [if_pos h3]; exact key _ h
        · rename_i h3; rw [if_neg h3]
  · rename_i h0; rw [if_neg h0]
theorem ga_first {op : Int} {s t : List Bx} {d : Int} (h : shapeK s ≠ 0) : gaC op s t d = shapeK s ∧ gaL op s t d = [] := by
  unfold gaC gaL; rw [if_neg h, if_neg (fun e => h e.1)]; exact ⟨rfl, rfl⟩
theorem ga_second {op : Int} {s t : List Bx} {d : Int} (h0 : shapeK s = 0) (h : shapeK t ≠ 0) : gaC op s t d = shapeK t ∧ gaL op s t d = [] := by
  unfold gaC gaL; rw [if_pos h0, if_neg h, if_neg (fun e => h e.2.1)]; exact ⟨rfl, rfl⟩
theorem ga_far {op : Int} {s t : List Bx} {d : Int} (h0 : shapeK s = 0) (h1 : shapeK t = 0) (h : ¬ (0 ≤ d ∧ d ≤ 1000)) : gaC op s t d = 3 ∧ gaL op s t d = [] := by
  unfold gaC gaL; rw [if_pos h0, if_pos h1, if_neg h, if_neg (fun e => h e.2.2.1)]; exact ⟨rfl, rfl⟩
theorem ga_code {op : Int} {s t : List Bx} {d : Int} (h0 : shapeK s = 0) (h1 : shapeK t = 0) (h2 : 0 ≤ d ∧ d ≤ 1000) (h : grC s d ≠ 0) : gaC op s t d = grC s d ∧ gaL op s t d = [] := by
  unfold gaC gaL; rw [if_pos h0, if_pos h1, if_pos h2, if_neg h, if_neg (fun e => h e.2.2.2)]; exact ⟨rfl, rfl⟩
theorem ga_told {op : Int} {s t : List Bx} {d : Int} (h0 : shapeK s = 0) (h1 : shapeK t = 0) (h2 : 0 ≤ d ∧ d ≤ 1000) (h : grC s d = 0) : gaC op s t d = toldC (opOf (takesK op) (grL s d) t).length ∧ gaL op s t d = toldL (opOf (takesK op) (grL s d) t) := by
  unfold gaC gaL; rw [if_pos h0, if_pos h1, if_pos h2, if_pos h, if_pos ⟨h0, h1, h2, h⟩]; exact ⟨rfl, rfl⟩

theorem grL_x {s : List Bx} {d : Int} (h0 : shapeK s = 0) (h2 : 0 ≤ d ∧ d ≤ 1000) : ∀ q ∈ grL s d, q.x0 < q.x1 := by
  intro q hq
  by_cases hf : firstK (grS s d) = 0
  · rw [(gr_pos h0 h2 hf).2] at hq
    unfold toldL at hq
    split at hq
    · exact (opOf_tall (takesK 1) rfl _ _ q hq).1
    · cases hq
  · rw [(gr_out h0 h2 hf).2] at hq; cases hq

/-- What l4Grown tells: the code, and the grown list. -/
def lgC (s t : List Bx) (d : Int) : Int := if shapeK s = 0 then (if shapeK t = 0 then (if 0 ≤ d ∧ d ≤ 1000 then grC s d else 3) else shapeK t) else shapeK s
def lgL (s t : List Bx) (d : Int) : List Bx := if shapeK s = 0 ∧ shapeK t = 0 ∧ (0 ≤ d ∧ d ≤ 1000) then grL s d else []
theorem lgL_length (s t : List Bx) (d : Int) : (lgL s t d).length ≤ 150 := by
  unfold lgL; split
  · exact grL_length s d
  · simp
theorem lg_ok {s t : List Bx} {d : Int} (h : lgC s t d = 0) : shapeK s = 0 ∧ shapeK t = 0 ∧ (0 ≤ d ∧ d ≤ 1000) ∧ grC s d = 0 := by
  unfold lgC at h
  split at h
  · rename_i h0
    split at h
    · rename_i h1
      split at h
      · rename_i h2; exact ⟨h0, h1, h2, h⟩
      · cases h
    · rename_i h1; exact absurd h h1
  · rename_i h0; exact absurd h h0
theorem ga_lg {op : Int} {s t : List Bx} {d : Int} (h : lgC s t d = 0) : gaC op s t d = toldC (opOf (takesK op) (lgL s t d) t).length ∧ gaL op s t d = toldL (opOf (takesK op) (lgL s t d) t) := by
  obtain ⟨h0, h1, h2, h3⟩ := lg_ok h
  unfold lgL; rw [if_pos ⟨h0, h1, h2⟩]
  exact ga_told h0 h1 h2 h3
theorem ga_lg_not {op : Int} {s t : List Bx} {d : Int} (h : lgC s t d ≠ 0) : gaC op s t d = lgC s t d ∧ gaL op s t d = [] ∧ lgL s t d = [] := by
  unfold lgC at h ⊢
  by_cases h0 : shapeK s = 0
  · rw [if_pos h0] at h ⊢
    by_cases h1 : shapeK t = 0
    · rw [if_pos h1] at h ⊢
      by_cases h2 : 0 ≤ d ∧ d ≤ 1000
      · rw [if_pos h2] at h ⊢
        refine ⟨(ga_code h0 h1 h2 h).1, (ga_code h0 h1 h2 h).2, ?_⟩
        unfold lgL; rw [if_pos ⟨h0, h1, h2⟩]; exact grL_out h
      · rw [if_neg h2]
        refine ⟨(ga_far h0 h1 h2).1, (ga_far h0 h1 h2).2, ?_⟩
        unfold lgL; rw [if_neg (fun e => h2 e.2.2)]
    · rw [if_neg h1]
      refine ⟨(ga_second h0 h1).1, (ga_second h0 h1).2, ?_⟩
      unfold lgL; rw [if_neg (fun e => h1 e.2.1)]
  · rw [if_neg h0]
    refine ⟨(ga_first h0).1, (ga_first h0).2, ?_⟩
    unfold lgL; rw [if_neg (fun e => h0 e.1)]

end Go.Proofs.Ytokdpgabmifdjaa
