/- Proved here: layers as the program holds them (films behind an interface): what is left of one, the book of what is lost, whole layers. -/
import Derived.Test.YtceljakmjddgbabLyM
import Derived.StillTail
namespace Go.Proofs.Ytceljakmjddgbab
open Go.RowKit
set_option linter.unusedVariables false
set_option linter.unusedSimpArgs false

def payL : Lay → Value
  | .who m t => .agg #[.int .i64 m, .int .i64 t]
  | .thi m t b => .agg #[.int .i64 m, .int .i64 t, .int .i64 b]
  | .gon m t => .agg #[.int .i64 m, .int .i64 t]
def tyL : Lay → Nat
  | .who _ _ => 76
  | .thi _ _ _ => 111
  | .gon _ _ => 86
def layV (l : Lay) : Value := .iface (tyL l) (payL l)
def layC (l : Lay) : List Value := [layV l]
theorem layC_len (l : Lay) : (layC l).length = 1 := rfl
theorem layC_one (l : Lay) : ∀ u ∈ layC l, u.oneCell' = true := by
  intro u hu
  simp only [layC, List.mem_singleton] at hu
  subst hu
  rfl
def leftN : Lay → Nat
  | .who _ _ => 104
  | .thi _ _ _ => 106
  | .gon _ _ => 105
theorem inv_left (l : Lay) (w : World) : (callMethod (layV l) "loop.example/g00057/impl.left" #[]).run Try.prog w = .ok (.enter (leftN l) #[payL l]) w := by
  cases l <;> kernel_rfl
theorem info_layer : (Try.prog.info? 88).map (fun i => (i.zero, i.size, i.bytes)) = some (some .nilIface, 1, 16) := by kernel_rfl

set_option maxHeartbeats 1600000 in
theorem impl_left (l : Lay) (h : okL l) (w : World) :
    Calls Try.prog (leftN l) #[payL l] w fun e w' => e = .returned (.agg #[.int .i64 (leftL l).m, .int .i64 (leftL l).t]) ∧ Below w.heap.size w w' := by
  cases l with
  | who m t =>
    show Calls Try.prog 104 #[.agg #[.int .i64 m, .int .i64 t]] w _
    clear h
    go_enter Try.func104, Try.ntmps104
    go_wp2
    go_returns
    exact ⟨rfl, by (repeat' (first | (with_reducible exact Below.refl _ _) | (with_reducible assumption) | (with_reducible refine Below.setCell ?_ ?_ _) | (with_reducible refine Below.alloc ?_ ?_ _) | (with_reducible refine below_drewN ?_ _) | (with_reducible refine Below.drew ?_) | (with_reducible exact Nat.le_refl _) | omega | (simp; done) | (simp; omega)))⟩
  | thi m t b =>
    show Calls Try.prog 106 #[.agg #[.int .i64 m, .int .i64 t, .int .i64 b]] w _
    simp only [okL] at h
    have hw : IntKind.i64.wrap (t - b) = t - b := by rw [IntKind.wrap_i64]; omega
    clear h
    go_enter Try.func106, Try.ntmps106
    go_wp2
    go_returns
    exact ⟨rfl, by (repeat' (first | (with_reducible exact Below.refl _ _) | (with_reducible assumption) | (with_reducible refine Below.setCell ?_ ?_ _) | (with_reducible refine Below.alloc ?_ ?_ _) | (with_reducible refine below_drewN ?_ _) | (with_reducible refine Below.drew ?_) | (with_reducible exact Nat.le_refl _) | omega | (simp; done) | (simp; omega)))⟩
  | gon m t =>
    show Calls Try.prog 105 #[.agg #[.int .i64 m, .int .i64 t]] w _
    clear h
    go_enter Try.func105, Try.ntmps105
    go_wp2
    go_returns
    exact ⟨rfl, by (repeat' (first | (with_reducible exact Below.refl _ _) | (with_reducible assumption) | (with_reducible refine Below.setCell ?_ ?_ _) | (with_reducible refine Below.alloc ?_ ?_ _) | (with_reducible refine below_drewN ?_ _) | (with_reducible refine Below.drew ?_) | (with_reducible exact Nat.le_refl _) | omega | (simp; done) | (simp; omega)))⟩

/-- How a layer of a list that is read lies. -/
theorem la_at {w : World} {a : Option Addr} {n c : Nat} {l : List Lay} (h : RG 1 layC w (.slice a n c) l) {j : Nat} (hj : j < n) :
    ∃ g o, a = some ⟨g, o, none⟩ ∧ g < w.heap.size ∧ w.cell? ⟨g, o + j, none⟩ = some (layV (lat l j)) := by
  have hn := h.len
  obtain ⟨g, o, c', he, hg, hx⟩ := h.pos (by omega)
  injection he with h1 h2 h3
  subst h1
  have hjl : j < l.length := by omega
  have := hx j hjl 0 (by omega)
  rw [Nat.mul_one, Nat.add_zero] at this
  rw [lat_get hjl]
  exact ⟨g, o, rfl, hg, this⟩

end Go.Proofs.Ytceljakmjddgbab
