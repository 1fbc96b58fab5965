/- Proved here: what tells a list of boxes (l2Told, shapeAnswer): too many is code 2; and ShapeOf of the model. -/
import Derived.Test.YtncenhpnomcnfaaIForm
import Derived.Test.YtncenhpnomcnfaaSwMath2
namespace Go.Proofs.Ytncenhpnomcnfaa
open Go.RowKit
set_option linter.unusedVariables false
set_option linter.unusedSimpArgs false

def toldC (n : Nat) : Int := if n ≤ 150 then 0 else 2
def toldV (v : Value) (n : Nat) : Value := if n ≤ 150 then v else .slice none 0 0
def toldL (s : List Bx) : List Bx := if s.length ≤ 150 then s else []
theorem told_bs {w : World} {B : Nat} {v : Value} {s : List Bx} (h : BS w B v s) : BS w B (toldV v s.length) (toldL s) := by
  unfold toldV toldL; split
  · exact h
  · exact BS.nil _ _

set_option maxHeartbeats 1000000 in
theorem spec_told (a : Option Addr) (n c : Nat) (w : World) :
    Calls Try.prog 33 #[.slice a n c] w fun e w' => e = .returned (.agg #[.int .i64 (toldC n), toldV (.slice a n c) n]) ∧ Below w.heap.size w w' := by
  unfold toldC toldV
  by_cases h : n ≤ 150
  · rw [if_pos h, if_pos h]
    have b0 : ¬ (150 : Int) < (n : Int) := by omega
    go_enter Try.func33, Try.ntmps33
    go_wp2
    go_returns
    exact ⟨rfl, by (repeat' (first | (with_reducible exact Below.refl _ _) | (with_reducible assumption) | (with_reducible refine Below.setCell ?_ ?_ _) | (with_reducible refine Below.alloc ?_ ?_ _) | (with_reducible refine below_drewN ?_ _) | (with_reducible refine Below.drew ?_) | (with_reducible exact Nat.le_refl _) | omega | (simp; done) | (simp; omega)))⟩
  · rw [if_neg h, if_neg h]
    have b0 : (150 : Int) < (n : Int) := by omega
    go_enter Try.func33, Try.ntmps33
    go_wp2
    go_returns
    exact ⟨rfl, by (repeat' (first | (with_reducible exact Below.refl _ _) | (with_reducible assumption) | (with_reducible refine Below.setCell ?_ ?_ _) | (with_reducible refine Below.alloc ?_ ?_ _) | (with_reducible refine below_drewN ?_ _) | (with_reducible refine Below.drew ?_) | (with_reducible exact Nat.le_refl _) | omega | (simp; done) | (simp; omega)))⟩

set_option maxHeartbeats 1000000 in
theorem impl_answer (a : Option Addr) (n c : Nat) (w : World) :
    Calls Try.prog 36 #[.slice a n c] w fun e w' => e = .returned (.agg #[.int .i64 (toldC n), toldV (.slice a n c) n]) ∧ Below w.heap.size w w' := by
  unfold toldC toldV
  by_cases h : n ≤ 150
  · rw [if_pos h, if_pos h]
    have b0 : ¬ (150 : Int) < (n : Int) := by omega
    go_enter Try.func36, Try.ntmps36
    go_wp2
    go_returns
    exact ⟨rfl, by (repeat' (first | (with_reducible exact Below.refl _ _) | (with_reducible assumption) | (with_reducible refine Below.setCell ?_ ?_ _) | (with_reducible refine Below.alloc ?_ ?_ _) | (with_reducible refine below_drewN ?_ _) | (with_reducible refine Below.drew ?_) | (with_reducible exact Nat.le_refl _) | omega | (simp; done) | (simp; omega)))⟩
  · rw [if_neg h, if_neg h]
    have b0 : (150 : Int) < (n : Int) := by omega
    go_enter Try.func36, Try.ntmps36
    go_wp2
    go_returns
    exact ⟨rfl, by (repeat' (first | (with_reducible exact Below.refl _ _) | (with_reducible assumption) | (with_reducible refine Below.setCell ?_ ?_ _) | (with_reducible refine Below.alloc ?_ ?_ _) | (with_reducible refine below_drewN ?_ _) | (with_reducible refine Below.drew ?_) | (with_reducible exact Nat.le_refl _) | omega | (simp; done) | (simp; omega)))⟩

/-- The result's block, behind a call. -/
theorem resT {w w1 : World} {o : Obj} (hb : Below (w.alloc o).heap.size (w.alloc o) w1) : w1.heap[w.heap.size]? = some o ∧ w.heap.size < w1.heap.size ∧ Below w.heap.size w w1 := by
  have h1 := hb.size
  simp at h1
  refine ⟨(hb.block _ (by simp)).trans (heap_alloc_new w o), by omega, ?_⟩
  exact ((Below.refl _ _).alloc (Nat.le_refl _) _).trans (hb.mono (by simp))
theorem cellsT {w : World} {k : Nat} {a b : Value} {t : TypeId} (h : w.heap[k]? = some (.cells #[a, b] t)) : w.cell? ⟨k, 0, none⟩ = some a ∧ w.cell? ⟨k, 1, none⟩ = some b ∧ w.frozen? ⟨k, 0, none⟩ = false ∧ w.frozen? ⟨k, 1, none⟩ = false ∧ k < w.heap.size := by
  refine ⟨by simp [World.cell?, h], by simp [World.cell?, h], by simp [World.frozen?, h], by simp [World.frozen?, h], ?_⟩
  rcases Nat.lt_or_ge k w.heap.size with h' | h'
  · exact h'
  · rw [Array.getElem?_eq_none h'] at h; cases h

def ofC (s : List Bx) : Int := if boxesK s = 0 then toldC (opOf (takesK 1) s []).length else boxesK s
def ofL (s : List Bx) : List Bx := if boxesK s = 0 then toldL (opOf (takesK 1) s []) else []
theorem ofL_length (s : List Bx) : (ofL s).length ≤ 150 := by
  unfold ofL toldL
  split
  · split
    · assumption
    · simp
  · simp

set_option maxRecDepth 10000 in
set_option maxHeartbeats 4000000 in
theorem spec_of {w : World} {v : Value} {s : List Bx} (h : RB w v s) :
    Calls Try.prog 10 #[v] w fun e w' => ∃ vs, e = .returned (.agg #[.int .i64 (ofC s), vs]) ∧ BS w' w.heap.size vs (ofL s) ∧ Below w.heap.size w w' := by
  obtain ⟨a, c, rfl⟩ := h.form
  have H : Hid (RB w (.slice a s.length c) s) := h
  clear h
  obtain ⟨z, hz⟩ : ∃ z, z = boxesK s := ⟨_, rfl⟩
  have HZ : Hid (z = boxesK s) := hz
  clear hz
  by_cases hz0 : z = 0
  · have HE : Hid (ofC s = toldC (opOf (takesK 1) s []).length ∧ ofL s = toldL (opOf (takesK 1) s [])) := by
      unfold Hid ofC ofL; rw [if_pos (HZ.out ▸ hz0), if_pos (HZ.out ▸ hz0)]; exact ⟨rfl, rfl⟩
    subst hz0
    have HL : Hid (s.length ≤ 150) := (boxesK_zero (HZ.out.symm)).1
    go_enter Try.func10, Try.ntmps10
    go_wp2_with (fail)
    refine (spec_boxes (H.out.below ((Below.refl _ _).alloc (Nat.le_refl _) _))).mono ?_
    rintro e w1 ⟨rfl, hb1⟩
    rw [← HZ.out]
    obtain ⟨hk1, hlt1, hB1⟩ := resT hb1
    have HB1 : Hid (Below w.heap.size w w1) := hB1
    have HK1 : Hid _ := hk1
    clear hb1 hk1 hB1
    go_wp2_with (fail)
    refine (spec_op 1 a none c 0 s [] w1 (by have := HL.out; simp; omega) (H.out.below HB1.out) (BS.nil w1 0).rb).mono ?_
    rintro e w2 ⟨v', rfl, ho, hne, hb2⟩
    obtain ⟨a2, c2, rfl⟩ := ho.form
    have HO : Hid _ := ho
    have HB2 : Hid _ := hb2
    clear ho hne hb2
    go_wp2_with (fail)
    refine (spec_told a2 _ c2 w2).mono ?_
    rintro e w3 ⟨rfl, hb3⟩
    have hk3 := (hb3.block _ (Nat.lt_of_lt_of_le hlt1 HB2.out.size)).trans ((HB2.out.block _ hlt1).trans HK1.out)
    obtain ⟨r0, r1, f0, f1, hlt3⟩ := cellsT hk3
    have HR : Hid (BS w3 w1.heap.size (toldV _ _) (toldL (opOf (takesK 1) s [])) ∧ Below w.heap.size w w3) := ⟨(told_bs HO.out).below hb3, HB1.out.trans ((HB2.out.mono (Nat.le_of_lt hlt1)).trans (hb3.mono (Nat.le_of_lt (Nat.lt_of_lt_of_le hlt1 HB2.out.size))))⟩
    clear hb3 hk3
    obtain ⟨a3, c3, h3⟩ := HR.out.1.form
    rw [h3] at HR ⊢
    clear h3
    go_wp2
    refine bodyPost_ret (by simp [results, Try.results10, go_sem, r0, r1, hlt3]; rfl) rfl ⟨.slice a3 (toldL (opOf (takesK 1) s [])).length c3, ?_, ?_, ?_⟩
    · rw [HE.out.1]
    · rw [HE.out.2]
      refine (HR.out.1.kept fun g hg => ?_).low (Nat.le_of_lt hlt1)
      have hge := (World.ownsRow.lt HR.out.1 _ hg).1
      rw [heap_setCell_other _ _ _ _ (by simp; omega), heap_setCell_other _ _ _ _ (by simp; omega)]
    · have hb := HR.out.2
      (repeat' (first | (with_reducible exact Below.refl _ _) | (with_reducible assumption) | (with_reducible refine Below.setCell ?_ ?_ _) | (with_reducible refine Below.alloc ?_ ?_ _) | (with_reducible refine below_drewN ?_ _) | (with_reducible refine Below.drew ?_) | (with_reducible exact Nat.le_refl _) | omega | (simp; done) | (simp; omega)))
  · have HE : Hid (ofC s = z ∧ ofL s = []) := by
      unfold Hid ofC ofL; rw [if_neg (HZ.out ▸ hz0), if_neg (HZ.out ▸ hz0)]; exact ⟨HZ.out.symm, rfl⟩
    go_enter Try.func10, Try.ntmps10
    go_wp2_with (fail)
    refine (spec_boxes (H.out.below ((Below.refl _ _).alloc (Nat.le_refl _) _))).mono ?_
    rintro e w1 ⟨rfl, hb1⟩
    rw [← HZ.out]
    obtain ⟨hk1, hlt1, hB1⟩ := resT hb1
    have HB1 : Hid (Below w.heap.size w w1) := hB1
    obtain ⟨r0, r1, f0, f1, hlt2⟩ := cellsT hk1
    clear hb1 hk1 hB1
    go_wp2
    refine bodyPost_ret (by simp [results, Try.results10, go_sem, r0, r1, hlt2]; rfl) rfl ⟨.slice none 0 0, ?_, ?_, ?_⟩
    · rw [HE.out.1]
    · rw [HE.out.2]; exact BS.nil _ _
    · have hb := HB1.out
      (repeat' (first | (with_reducible exact Below.refl _ _) | (with_reducible assumption) | (with_reducible refine Below.setCell ?_ ?_ _) | (with_reducible refine Below.alloc ?_ ?_ _) | (with_reducible refine below_drewN ?_ _) | (with_reducible refine Below.drew ?_) | (with_reducible exact Nat.le_refl _) | omega | (simp; done) | (simp; omega)))

end Go.Proofs.Ytncenhpnomcnfaa
