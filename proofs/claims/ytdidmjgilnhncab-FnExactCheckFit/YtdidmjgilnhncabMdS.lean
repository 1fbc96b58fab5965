/- Proved here: the fault of a model, of the model in the document: mdF. -/
import Derived.Test.YtdidmjgilnhncabMaC
import Derived.Test.YtdidmjgilnhncabLwS
import Derived.Test.YtdidmjgilnhncabSFault
import Derived.Deep.DeepCutAuto
namespace Go.Proofs.Ytdidmjgilnhncab
open Go.RowKit
set_option linter.unusedVariables false
set_option linter.unusedSimpArgs false

theorem mdF_codes (m : Mdl) : mdF m = if codeF m.sx.n m.sx.d = 0 ∧ codeF m.sy.n m.sy.d = 0 ∧ codeF m.k.n m.k.d = 0 ∧ codeF m.r.n m.r.d = 0 then 0 else 1 := by
  unfold mdF okM okR codeF
  cases okF m.sx.n m.sx.d <;> cases okF m.sy.n m.sy.d <;> cases okF m.k.n m.k.d <;> cases okF m.r.n m.r.d <;> rfl

set_option maxRecDepth 10000 in
set_option maxHeartbeats 6400000 in
theorem spec_mdF (m : Mdl) (w : World) :
    Calls Try.prog 60 #[.agg #[.int .i64 m.sx.n, .int .i64 m.sx.d, .int .i64 m.sy.n, .int .i64 m.sy.d, .int .i64 m.k.n, .int .i64 m.k.d, .int .i64 m.r.n, .int .i64 m.r.d]] w fun e w' => e = .returned (.int .i64 (mdF m)) ∧ Below w.heap.size w w' := by
  rw [mdF_codes]
  obtain ⟨f1, h1⟩ : ∃ f, f = codeF m.sx.n m.sx.d := ⟨_, rfl⟩
  obtain ⟨f2, h2⟩ : ∃ f, f = codeF m.sy.n m.sy.d := ⟨_, rfl⟩
  obtain ⟨f3, h3⟩ : ∃ f, f = codeF m.k.n m.k.d := ⟨_, rfl⟩
  obtain ⟨f4, h4⟩ : ∃ f, f = codeF m.r.n m.r.d := ⟨_, rfl⟩
  rw [← h1, ← h2, ← h3, ← h4]
  obtain ⟨⟨a, b⟩, ⟨c, d⟩, ⟨e, f⟩, ⟨g, h⟩⟩ := m
  have H1 : Hid (∀ W, Calls Try.prog 47 #[.agg #[.int .i64 a, .int .i64 b]] W fun e w' => e = .returned (.int .i64 f1) ∧ Below W.heap.size W w') := fun W => by rw [h1]; exact spec_fault a b W
  have H2 : Hid (∀ W, Calls Try.prog 47 #[.agg #[.int .i64 c, .int .i64 d]] W fun e w' => e = .returned (.int .i64 f2) ∧ Below W.heap.size W w') := fun W => by rw [h2]; exact spec_fault c d W
  have H3 : Hid (∀ W, Calls Try.prog 47 #[.agg #[.int .i64 e, .int .i64 f]] W fun e w' => e = .returned (.int .i64 f3) ∧ Below W.heap.size W w') := fun W => by rw [h3]; exact spec_fault e f W
  have H4 : Hid (∀ W, Calls Try.prog 47 #[.agg #[.int .i64 g, .int .i64 h]] W fun e w' => e = .returned (.int .i64 f4) ∧ Below W.heap.size W w') := fun W => by rw [h4]; exact spec_fault g h W
  clear h1 h2 h3 h4
  obtain ⟨R, hR⟩ : ∃ R : Int, R = if f1 = 0 ∧ f2 = 0 ∧ f3 = 0 ∧ f4 = 0 then 0 else 1 := ⟨_, rfl⟩
  rw [← hR]
  have HR : Hid (R = if f1 = 0 ∧ f2 = 0 ∧ f3 = 0 ∧ f4 = 0 then 0 else 1) := hR
  clear hR
  obtain ⟨V, hV⟩ : ∃ V, V = w.alloc (.cells #[.int .i64 a, .int .i64 b, .int .i64 c, .int .i64 d, .int .i64 e, .int .i64 f, .int .i64 g, .int .i64 h] 33) := ⟨_, rfl⟩
  have HV : Hid (V.heap[w.heap.size]? = some (.cells #[.int .i64 a, .int .i64 b, .int .i64 c, .int .i64 d, .int .i64 e, .int .i64 f, .int .i64 g, .int .i64 h] 33) ∧ Below w.heap.size w V) := ⟨by rw [hV]; exact heap_alloc_new w _, by rw [hV]; (repeat' (first | (with_reducible exact Below.refl _ _) | (with_reducible assumption) | (with_reducible refine Below.setCell ?_ ?_ _) | (with_reducible refine Below.alloc ?_ ?_ _) | (with_reducible refine below_drewN ?_ _) | (with_reducible refine Below.drew ?_) | (with_reducible exact Nat.le_refl _) | omega | (simp; done) | (simp; omega)))⟩
  go_enter Try.func60, Try.ntmps60
  go_upto_region 1 with fail
  rw [← hV]
  clear hV
  have p0 := cellOf HV.out.1 0 rfl
  have p1 := cellOf HV.out.1 1 rfl
  have pl := ltOf HV.out.1
  go_wp2_with (fail)
  refine (H1.out _).mono ?_
  rintro e w1 ⟨rfl, hb1⟩
  have HW1 : Hid (w1.heap[w.heap.size]? = some (.cells #[.int .i64 a, .int .i64 b, .int .i64 c, .int .i64 d, .int .i64 e, .int .i64 f, .int .i64 g, .int .i64 h] 33) ∧ Below w.heap.size w w1) := ⟨(hb1.block _ (ltOf HV.out.1)).trans HV.out.1, HV.out.2.trans (hb1.mono HV.out.2.size)⟩
  clear hb1 HV p0 p1 pl
  by_cases hf1 : f1 = 0
  case neg =>
    have HZ : Hid (R = 1) := by unfold Hid; rw [HR.out, if_neg (fun h => hf1 h.1)]
    have hA : (f1 != 0) = true := by simpa using hf1
    clear HR
    go_wp2
    go_returns
    exact ⟨by rw [HZ.out]; rfl, HW1.out.2⟩
  have hA1 : (f1 != 0) = false := by rw [hf1]; rfl
  have HF1 : Hid (f1 = 0) := hf1
  clear hf1
  have p2 := cellOf HW1.out.1 2 rfl
  have p3 := cellOf HW1.out.1 3 rfl
  have pl := ltOf HW1.out.1
  go_wp2_with (fail)
  refine (H2.out _).mono ?_
  rintro e w2 ⟨rfl, hb2⟩
  have HW2 : Hid (w2.heap[w.heap.size]? = some (.cells #[.int .i64 a, .int .i64 b, .int .i64 c, .int .i64 d, .int .i64 e, .int .i64 f, .int .i64 g, .int .i64 h] 33) ∧ Below w.heap.size w w2) := ⟨(hb2.block _ (ltOf HW1.out.1)).trans HW1.out.1, HW1.out.2.trans (hb2.mono HW1.out.2.size)⟩
  clear hb2 HW1 p2 p3 pl
  by_cases hf2 : f2 = 0
  case neg =>
    have HZ : Hid (R = 1) := by unfold Hid; rw [HR.out, if_neg (fun h => hf2 h.2.1)]
    have hA : (f2 != 0) = true := by simpa using hf2
    clear HR
    go_wp2
    go_returns
    exact ⟨by rw [HZ.out]; rfl, HW2.out.2⟩
  have hA2 : (f2 != 0) = false := by rw [hf2]; rfl
  have HF2 : Hid (f2 = 0) := hf2
  clear hf2
  have p4 := cellOf HW2.out.1 4 rfl
  have p5 := cellOf HW2.out.1 5 rfl
  have pl := ltOf HW2.out.1
  go_wp2_with (fail)
  refine (H3.out _).mono ?_
  rintro e w3 ⟨rfl, hb3⟩
  have HW3 : Hid (w3.heap[w.heap.size]? = some (.cells #[.int .i64 a, .int .i64 b, .int .i64 c, .int .i64 d, .int .i64 e, .int .i64 f, .int .i64 g, .int .i64 h] 33) ∧ Below w.heap.size w w3) := ⟨(hb3.block _ (ltOf HW2.out.1)).trans HW2.out.1, HW2.out.2.trans (hb3.mono HW2.out.2.size)⟩
  clear hb3 HW2 p4 p5 pl
  by_cases hf3 : f3 = 0
  case neg =>
    have HZ : Hid (R = 1) := by unfold Hid; rw [HR.out, if_neg (fun h => hf3 h.2.2.1)]
    have hA : (f3 != 0) = true := by simpa using hf3
    clear HR
    go_wp2
    go_returns
    exact ⟨by rw [HZ.out]; rfl, HW3.out.2⟩
  have hA3 : (f3 != 0) = false := by rw [hf3]; rfl
  have HF3 : Hid (f3 = 0) := hf3
  clear hf3
  have p6 := cellOf HW3.out.1 6 rfl
  have p7 := cellOf HW3.out.1 7 rfl
  have pl := ltOf HW3.out.1
  go_wp2_with (fail)
  refine (H4.out _).mono ?_
  rintro e w4 ⟨rfl, hb4⟩
  have HW4 : Hid (w4.heap[w.heap.size]? = some (.cells #[.int .i64 a, .int .i64 b, .int .i64 c, .int .i64 d, .int .i64 e, .int .i64 f, .int .i64 g, .int .i64 h] 33) ∧ Below w.heap.size w w4) := ⟨(hb4.block _ (ltOf HW3.out.1)).trans HW3.out.1, HW3.out.2.trans (hb4.mono HW3.out.2.size)⟩
  clear hb4 HW3 p6 p7 pl
  by_cases hf4 : f4 = 0
  case neg =>
    have HZ : Hid (R = 1) := by unfold Hid; rw [HR.out, if_neg (fun h => hf4 h.2.2.2)]
    have hA : (f4 != 0) = true := by simpa using hf4
    clear HR
    go_wp2
    go_returns
    exact ⟨by rw [HZ.out]; rfl, HW4.out.2⟩
  have hA4 : (f4 != 0) = false := by rw [hf4]; rfl
  have HF4 : Hid (f4 = 0) := hf4
  clear hf4
  have HZ : Hid (R = 0) := by unfold Hid; rw [HR.out, if_pos ⟨HF1.out, HF2.out, HF3.out, HF4.out⟩]
  go_wp2
  go_returns
  exact ⟨by rw [HZ.out]; rfl, HW4.out.2⟩

end Go.Proofs.Ytdidmjgilnhncab
