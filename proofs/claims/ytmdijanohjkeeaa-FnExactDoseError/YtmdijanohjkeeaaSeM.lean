/- Proved here: errors of what is spread: sums over the cells that a shot has. No condition on the program. (And ahead of it: Proved here: spreadOf of the program: a function value.) (And ahead of it: Proved here: the faults of shots and a writer together, of both: wsF; with what is wanted: weF.) -/
import Derived.Test.YtmdijanohjkeeaaWtB
import Derived.Test.YtmdijanohjkeeaaWtF
import Derived.Test.YtmdijanohjkeeaaSpC
import Derived.Test.YtmdijanohjkeeaaShMath2
namespace Go.Proofs.Ytmdijanohjkeeaa
open Go.RowKit
set_option linter.unusedVariables false
set_option linter.unusedSimpArgs false

def wsF (l : List Sh) (x : Wt) : Int := if wtF x = 0 then shF l else wtF x
def weF (l : List Sh) (x : Wt) (z : Int) : Int := if wsF l x = 0 then (if 0 ≤ z ∧ z ≤ 1000000000 then 0 else 3) else wsF l x
theorem wsF_good {l : List Sh} {x : Wt} (h : wsF l x = 0) : wtF x = 0 ∧ shF l = 0 := by
  unfold wsF at h
  by_cases h1 : wtF x = 0
  · rw [if_pos h1] at h; exact ⟨h1, h⟩
  · rw [if_neg h1] at h; exact absurd h h1
theorem weF_good {l : List Sh} {x : Wt} {z : Int} (h : weF l x z = 0) : wsF l x = 0 ∧ 0 ≤ z ∧ z ≤ 1000000000 := by
  unfold weF at h
  by_cases h1 : wsF l x = 0
  · rw [if_pos h1] at h
    by_cases h2 : 0 ≤ z ∧ z ≤ 1000000000
    · exact ⟨h1, h2⟩
    · rw [if_neg h2] at h; cases h
  · rw [if_neg h1] at h; exact absurd h h1
theorem first_below {w w1 V : World} (hb : Below V.heap.size V w1) (hv : Below w.heap.size w V := by (repeat' (first | (with_reducible exact Below.refl _ _) | (with_reducible assumption) | (with_reducible refine Below.setCell ?_ ?_ _) | (with_reducible refine Below.alloc ?_ ?_ _) | (with_reducible refine below_drewN ?_ _) | (with_reducible refine Below.drew ?_) | (with_reducible exact Nat.le_refl _) | omega | (simp; done) | (simp; omega)))) : Below w.heap.size w w1 := hv.trans (hb.mono hv.size)

set_option maxRecDepth 10000 in
set_option maxHeartbeats 3200000 in
theorem impl_wsF (l : List Sh) (x : Wt) {w : World} {v : Value} (hn : l.length ≤ 1048576) (h : RG 5 shC w v l) :
    Calls Try.prog 39 #[v, .agg #[.int .i64 x.f.x0, .int .i64 x.f.y0, .int .i64 x.f.x1, .int .i64 x.f.y1, .int .i64 x.o, .int .i64 x.s, .int .i64 x.r]] w fun e w' => e = .returned (.int .i64 (wsF l x)) ∧ Below w.heap.size w w' := by
  obtain ⟨a, c, rfl⟩ := h.form
  obtain ⟨n, hnn⟩ : ∃ n, n = l.length := ⟨_, rfl⟩
  obtain ⟨C, hC⟩ : ∃ C, C = wsF l x := ⟨_, rfl⟩
  obtain ⟨y, hy⟩ : ∃ y, y = wtF x := ⟨_, rfl⟩
  obtain ⟨z, hz⟩ : ∃ z, z = shF l := ⟨_, rfl⟩
  rw [← hnn] at h ⊢
  rw [← hC]
  have H : Hid (C = wsF l x ∧ y = wtF x ∧ z = shF l) := ⟨hC, hy, hz⟩
  have HW : Hid (∀ W : World, Calls Try.prog 50 #[.agg #[.int .i64 x.f.x0, .int .i64 x.f.y0, .int .i64 x.f.x1, .int .i64 x.f.y1, .int .i64 x.o, .int .i64 x.s, .int .i64 x.r]] W fun e w' => e = .returned (.int .i64 y) ∧ Below W.heap.size W w') := fun W => by rw [hy]; exact impl_writer x W
  have HS : Hid (∀ W : World, Below w.heap.size w W → Calls Try.prog 51 #[.slice a n c] W fun e w' => e = .returned (.int .i64 z) ∧ Below W.heap.size W w') := fun W hW => by rw [hz]; exact impl_shots hn (h.below hW)
  clear h hn hnn hC hy hz
  go_enter Try.func39, Try.ntmps39
  go_wp2_with (fail)
  refine (HW.out _).mono ?_
  rintro e w1 ⟨rfl, hb1⟩
  have HB1 : Hid (Below w.heap.size w w1) := first_below hb1
  clear hb1 HW
  by_cases hy0 : y = 0
  case neg =>
    have HE : Hid (C = y) := by unfold Hid; rw [H.out.1, wsF, if_neg (by rw [← H.out.2.1]; exact hy0), H.out.2.1]
    go_wp2
    go_returns
    exact ⟨by rw [HE.out]; rfl, HB1.out⟩
  have HE : Hid (C = z) := by unfold Hid; rw [H.out.1, wsF, if_pos (by rw [← H.out.2.1]; exact hy0), H.out.2.2]
  subst hy0
  go_wp2_with (fail)
  refine (HS.out _ HB1.out).mono ?_
  rintro e w2 ⟨rfl, hb2⟩
  have HB2 : Hid (Below w.heap.size w w2) := HB1.out.trans (hb2.mono HB1.out.size)
  clear hb2
  go_wp2
  go_returns
  exact ⟨by rw [HE.out]; rfl, HB2.out⟩

set_option maxRecDepth 10000 in
set_option maxHeartbeats 3200000 in
theorem spec_wsF (l : List Sh) (x : Wt) {w : World} {v : Value} (hn : l.length ≤ 1048576) (h : RG 5 shC w v l) :
    Calls Try.prog 18 #[v, .agg #[.int .i64 x.f.x0, .int .i64 x.f.y0, .int .i64 x.f.x1, .int .i64 x.f.y1, .int .i64 x.o, .int .i64 x.s, .int .i64 x.r]] w fun e w' => e = .returned (.int .i64 (wsF l x)) ∧ Below w.heap.size w w' := by
  obtain ⟨a, c, rfl⟩ := h.form
  obtain ⟨n, hnn⟩ : ∃ n, n = l.length := ⟨_, rfl⟩
  obtain ⟨C, hC⟩ : ∃ C, C = wsF l x := ⟨_, rfl⟩
  obtain ⟨y, hy⟩ : ∃ y, y = wtF x := ⟨_, rfl⟩
  obtain ⟨z, hz⟩ : ∃ z, z = shF l := ⟨_, rfl⟩
  rw [← hnn] at h ⊢
  rw [← hC]
  have H : Hid (C = wsF l x ∧ y = wtF x ∧ z = shF l) := ⟨hC, hy, hz⟩
  have HW : Hid (∀ W : World, Calls Try.prog 33 #[.agg #[.int .i64 x.f.x0, .int .i64 x.f.y0, .int .i64 x.f.x1, .int .i64 x.f.y1, .int .i64 x.o, .int .i64 x.s, .int .i64 x.r]] W fun e w' => e = .returned (.int .i64 y) ∧ Below W.heap.size W w') := fun W => by rw [hy]; exact spec_writer x W
  have HS : Hid (∀ W : World, Below w.heap.size w W → Calls Try.prog 34 #[.slice a n c] W fun e w' => e = .returned (.int .i64 z) ∧ Below W.heap.size W w') := fun W hW => by rw [hz]; exact spec_shots hn (h.below hW)
  clear h hn hnn hC hy hz
  go_enter Try.func18, Try.ntmps18
  go_wp2_with (fail)
  refine (HW.out _).mono ?_
  rintro e w1 ⟨rfl, hb1⟩
  have HB1 : Hid (Below w.heap.size w w1) := first_below hb1
  clear hb1 HW
  by_cases hy0 : y = 0
  case neg =>
    have HE : Hid (C = y) := by unfold Hid; rw [H.out.1, wsF, if_neg (by rw [← H.out.2.1]; exact hy0), H.out.2.1]
    go_wp2
    go_returns
    exact ⟨by rw [HE.out]; rfl, HB1.out⟩
  have HE : Hid (C = z) := by unfold Hid; rw [H.out.1, wsF, if_pos (by rw [← H.out.2.1]; exact hy0), H.out.2.2]
  subst hy0
  go_wp2_with (fail)
  refine (HS.out _ HB1.out).mono ?_
  rintro e w2 ⟨rfl, hb2⟩
  have HB2 : Hid (Below w.heap.size w w2) := HB1.out.trans (hb2.mono HB1.out.size)
  clear hb2
  go_wp2
  go_returns
  exact ⟨by rw [HE.out]; rfl, HB2.out⟩

end Go.Proofs.Ytmdijanohjkeeaa

namespace Go.Proofs.Ytmdijanohjkeeaa
open Go.RowKit
set_option linter.unusedVariables false
set_option linter.unusedSimpArgs false

theorem spR_good {l : List Sh} {x : Wt} (h : wsF l x = 0) : (l.length ≤ 40 ∧ ∀ y ∈ l, 0 ≤ y.d ∧ y.d ≤ 1000) ∧ frF x.f = 0 ∧ (0 ≤ x.o ∧ x.o ≤ 1000) ∧ (0 ≤ x.s ∧ x.s ≤ 1000) ∧ x.r.toNat ≤ 4 ∧ x.r = (x.r.toNat : Int) := by
  obtain ⟨h1, h2⟩ := wsF_good h
  obtain ⟨h3, h4⟩ := wtF_good h1
  have h5 := shF_good h2
  unfold wtIn at h4
  exact ⟨⟨h5.1, fun y hy => (h5.2 y hy).2⟩, h3, h4.1, h4.2.1, by omega, by omega⟩

set_option maxHeartbeats 1600000 in
theorem impl_spof (x : Wt) (w : World) :
    Calls Try.prog 40 #[.agg #[.int .i64 x.f.x0, .int .i64 x.f.y0, .int .i64 x.f.x1, .int .i64 x.f.y1, .int .i64 x.o, .int .i64 x.s, .int .i64 x.r]] w fun e w' => e = .returned (.func (Fn.func 52) #[] #[.pointer (some ⟨w.heap.size, 0, none⟩)]) ∧ w'.heap[w.heap.size]? = some (.cells #[.int .i64 x.f.x0, .int .i64 x.f.y0, .int .i64 x.f.x1, .int .i64 x.f.y1, .int .i64 x.o, .int .i64 x.s, .int .i64 x.r] 35) ∧ Below w.heap.size w w' := by
  go_enter Try.func40, Try.ntmps40
  go_wp2
  go_returns
  exact ⟨rfl, heap_alloc_new w _, by (repeat' (first | (with_reducible exact Below.refl _ _) | (with_reducible assumption) | (with_reducible refine Below.setCell ?_ ?_ _) | (with_reducible refine Below.alloc ?_ ?_ _) | (with_reducible refine below_drewN ?_ _) | (with_reducible refine Below.drew ?_) | (with_reducible exact Nat.le_refl _) | omega | (simp; done) | (simp; omega)))⟩

end Go.Proofs.Ytmdijanohjkeeaa

namespace Go.Proofs.Ytmdijanohjkeeaa
set_option linter.unusedVariables false
set_option linter.unusedSimpArgs false

/-- The shots' boxes. -/
def bxS (l : List Sh) : List Bx := l.map fun q => q.b
/-- A shot has this cell. -/
def cvB (l : List Sh) (x y : Int) : Bool := inK (rowK (bxS l) y) x
/-- How far off a row's first cells are. -/
def erW (l : List Sh) (f : Bx) (P : Nat → Nat → Int) (z : Int) (j : Nat) : Nat → Int
  | 0 => 0
  | i + 1 => erW l f P z j i + if cvB l (f.x0 + (i : Int)) (f.y0 + (j : Int)) = true then (((P j i - z).natAbs : Nat) : Int) else 0
/-- How far off the first rows are. -/
def erA (l : List Sh) (f : Bx) (P : Nat → Nat → Int) (z : Int) (W : Nat) : Nat → Int
  | 0 => 0
  | j + 1 => erA l f P z W j + erW l f P z j W
theorem erW_bd {l : List Sh} {f : Bx} {P : Nat → Nat → Int} {z : Int} {j W : Nat} (hP : ∀ i, i < W → 0 ≤ P j i ∧ P j i ≤ 24000000000) (hz : 0 ≤ z ∧ z ≤ 1000000000) : ∀ i : Nat, i ≤ W → 0 ≤ erW l f P z j i ∧ erW l f P z j i ≤ i * 24000000000
  | 0, _ => by simp [erW]
  | i + 1, h => by
    have h1 := erW_bd (l := l) (f := f) hP hz i (by omega)
    have h2 := hP i (by omega)
    rw [erW]
    split <;> omega
theorem erA_bd {l : List Sh} {f : Bx} {P : Nat → Nat → Int} {z : Int} {n W : Nat} (hW : W ≤ 24) (hP : ∀ j i, j < n → i < W → 0 ≤ P j i ∧ P j i ≤ 24000000000) (hz : 0 ≤ z ∧ z ≤ 1000000000) : ∀ j : Nat, j ≤ n → 0 ≤ erA l f P z W j ∧ erA l f P z W j ≤ j * 576000000000
  | 0, _ => by simp [erA]
  | j + 1, h => by
    have h1 := erA_bd (l := l) (f := f) hW hP hz j (by omega)
    have h2 := erW_bd (l := l) (f := f) (j := j) (fun i hi => hP j i (by omega) hi) hz W (Nat.le_refl _)
    rw [erA]
    omega
theorem spV_bd {P : Nat → Nat → Int} (hP : ∀ y x, 0 ≤ P y x ∧ P y x ≤ 40000) {n W r : Nat} {o s : Int} (hn : n ≤ 24) (hW : W ≤ 24) (ho : 0 ≤ o ∧ o ≤ 1000) (hs : 0 ≤ s ∧ s ≤ 1000) {y x : Nat} (hy : y < n) (hx : x < W) : 0 ≤ spV P n W r o s y x ∧ spV P n W r o s y x ≤ 24000000000 := by
  have hac : ∀ v, 0 ≤ nrS (P v) W r x ∧ nrS (P v) W r x ≤ 960000 := fun v => by
    have h9 := nrS_bd (g := P v) (c := 40000) (fun m => hP v m) (r := r) hx (by omega)
    refine ⟨h9.1, Int.le_trans h9.2 ?_⟩
    omega
  have h9 := nrS_bd (g := fun v => nrS (P v) W r x) (c := 960000) hac (r := r) hy (by omega)
  have h8 : nrS (fun v => nrS (P v) W r x) n r y ≤ 23040000 := Int.le_trans h9.2 (by omega)
  have h1 := mul_bd ho (hP y x) (by omega)
  have h2 := mul_bd hs ⟨h9.1, h8⟩ (by omega)
  unfold spV
  omega

end Go.Proofs.Ytmdijanohjkeeaa
