/- Proved here: whole layers, of the program. (And ahead of it: Proved here: layers as the program holds them (films behind an interface): what is left of one, the book of what is lost, whole layers.) -/
import Derived.Test.YtceljakmjddgbabLyM
import Derived.StillTail
namespace Go.Proofs.Ytceljakmjddgbab
open Go.RowKit
set_option linter.unusedVariables false
set_option linter.unusedSimpArgs false

def payL : Lay → Value
  | .who m t => .agg #[.int .i64 m, .int .i64 t]
  | .thi m t b => .agg #[.int .i64 m, .int .i64 t, .int .i64 b]
  | .gon m t => .agg #[.int .i64 m, .int .i64 t]
def tyL : Lay → Nat
  | .who _ _ => 76
  | .thi _ _ _ => 111
  | .gon _ _ => 86
def layV (l : Lay) : Value := .iface (tyL l) (payL l)
def layC (l : Lay) : List Value := [layV l]
theorem layC_len (l : Lay) : (layC l).length = 1 := rfl
theorem layC_one (l : Lay) : ∀ u ∈ layC l, u.oneCell' = true := by
  intro u hu
  simp only [layC, List.mem_singleton] at hu
  subst hu
  rfl
def leftN : Lay → Nat
  | .who _ _ => 104
  | .thi _ _ _ => 106
  | .gon _ _ => 105
theorem inv_left (l : Lay) (w : World) : (callMethod (layV l) "loop.example/g00057/impl.left" #[]).run Try.prog w = .ok (.enter (leftN l) #[payL l]) w := by
  cases l <;> kernel_rfl
theorem info_layer : (Try.prog.info? 88).map (fun i => (i.zero, i.size, i.bytes)) = some (some .nilIface, 1, 16) := by kernel_rfl

set_option maxHeartbeats 1600000 in
theorem impl_left (l : Lay) (h : okL l) (w : World) :
    Calls Try.prog (leftN l) #[payL l] w fun e w' => e = .returned (.agg #[.int .i64 (leftL l).m, .int .i64 (leftL l).t]) ∧ Below w.heap.size w w' := by
  cases l with
  | who m t =>
    show Calls Try.prog 104 #[.agg #[.int .i64 m, .int .i64 t]] w _
    clear h
    go_enter Try.func104, Try.ntmps104
    go_wp2
    go_returns
    exact ⟨rfl, by (repeat' (first | (with_reducible exact Below.refl _ _) | (with_reducible assumption) | (with_reducible refine Below.setCell ?_ ?_ _) | (with_reducible refine Below.alloc ?_ ?_ _) | (with_reducible refine below_drewN ?_ _) | (with_reducible refine Below.drew ?_) | (with_reducible exact Nat.le_refl _) | omega | (simp; done) | (simp; omega)))⟩
  | thi m t b =>
    show Calls Try.prog 106 #[.agg #[.int .i64 m, .int .i64 t, .int .i64 b]] w _
    simp only [okL] at h
    have hw : IntKind.i64.wrap (t - b) = t - b := by rw [IntKind.wrap_i64]; omega
    clear h
    go_enter Try.func106, Try.ntmps106
    go_wp2
    go_returns
    exact ⟨rfl, by (repeat' (first | (with_reducible exact Below.refl _ _) | (with_reducible assumption) | (with_reducible refine Below.setCell ?_ ?_ _) | (with_reducible refine Below.alloc ?_ ?_ _) | (with_reducible refine below_drewN ?_ _) | (with_reducible refine Below.drew ?_) | (with_reducible exact Nat.le_refl _) | omega | (simp; done) | (simp; omega)))⟩
  | gon m t =>
    show Calls Try.prog 105 #[.agg #[.int .i64 m, .int .i64 t]] w _
    clear h
    go_enter Try.func105, Try.ntmps105
    go_wp2
    go_returns
    exact ⟨rfl, by (repeat' (first | (with_reducible exact Below.refl _ _) | (with_reducible assumption) | (with_reducible refine Below.setCell ?_ ?_ _) | (with_reducible refine Below.alloc ?_ ?_ _) | (with_reducible refine below_drewN ?_ _) | (with_reducible refine Below.drew ?_) | (with_reducible exact Nat.le_refl _) | omega | (simp; done) | (simp; omega)))⟩

/-- How a layer of a list that is read lies. -/
theorem la_at {w : World} {a : Option Addr} {n c : Nat} {l : List Lay} (h : RG 1 layC w (.slice a n c) l) {j : Nat} (hj : j < n) :
    ∃ g o, a = some ⟨g, o, none⟩ ∧ g < w.heap.size ∧ w.cell? ⟨g, o + j, none⟩ = some (layV (lat l j)) := by
  have hn := h.len
  obtain ⟨g, o, c', he, hg, hx⟩ := h.pos (by omega)
  injection he with h1 h2 h3
  subst h1
  have hjl : j < l.length := by omega
  have := hx j hjl 0 (by omega)
  rw [Nat.mul_one, Nat.add_zero] at this
  rw [lat_get hjl]
  exact ⟨g, o, rfl, hg, this⟩

end Go.Proofs.Ytceljakmjddgbab

namespace Go.Proofs.Ytceljakmjddgbab
open Go.RowKit
set_option linter.unusedVariables false
set_option linter.unusedSimpArgs false

/-- The layers of a column, all whole. -/
def whoL (c : List Flm) : List Lay := c.map fun f => .who f.m f.t
theorem whoL_len (c : List Flm) : (whoL c).length = c.length := by simp [whoL]
theorem whoL_at {c : List Flm} {k : Nat} (h : k < c.length) : lat (whoL c) k = .who (fat c k).m (fat c k).t := by
  rw [lat_get (by rw [whoL_len]; exact h), fat_get h]
  simp [whoL]

set_option maxRecDepth 10000 in
set_option maxHeartbeats 6400000 in
theorem impl_whole {w : World} {v : Value} {c : List Flm} (hl : c.length ≤ 1000) (h : RG 2 flC w v c) :
    Calls Try.prog 47 #[v] w fun e w' => e = .returned (.slice (some ⟨w.heap.size, 0, none⟩) c.length c.length) ∧ OG 88 1 layC w' w.heap.size (.slice (some ⟨w.heap.size, 0, none⟩) c.length c.length) (whoL c) ∧ Below w.heap.size w w' := by
  obtain ⟨a, cp, rfl⟩ := h.form
  obtain ⟨n, hnn⟩ : ∃ n, n = c.length := ⟨_, rfl⟩
  rw [← hnn] at h hl ⊢
  have H : Hid (RG 2 flC w (.slice a n cp) c) := h
  have HN : Hid (n = (whoL c).length) := by unfold Hid; rw [whoL_len]; exact hnn
  clear h hnn
  obtain ⟨i0, hi, hz0, hz1, hz2⟩ := info_parts info_layer
  go_enter Try.func47, Try.ntmps47
  go_wp2_with (at_make; refine wpList_make_full _ rfl _ _ 69 rfl w.heap.size 88 i0 .nilIface 1 Try.underlying69 hi hz0 hz1 _ _ _ _ n rfl rfl rfl rfl (by rw [hz2]; omega) (by unfold maxLen; omega) (Nat.le_refl _) ?_; intro w2 hown2 hgrow2)
  have hb2 : Below w.heap.size w w2 := (Below.refl _ _).grown hgrow2 (Nat.le_refl _) (fun k h => by cases h)
  have HS : Hid (Fill 88 1 layC w2 w.heap.size w.heap.size n (whoL c) 0 ∧ Below w.heap.size w w2) := ⟨⟨_, hown2, fun t ht => by omega⟩, hb2⟩
  clear hown2 hgrow2 hb2
  go_loopw [11] (fun i wr => ∃ j : Nat, j ≤ n ∧ i = .int .i64 j ∧ Hid (Fill 88 1 layC wr w.heap.size w.heap.size n (whoL c) j ∧ Below w.heap.size w wr)) (fun i _ => n - (intOf i).toNat)
  case atStart => exact ⟨0, Nat.zero_le _, rfl, HS.out⟩
  case round =>
    clear HS
    obtain ⟨j, hjn, rfl, hR⟩ := hrel
    by_cases hlt : j < n
    · obtain ⟨g, o, rfl, hg, c0, c1⟩ := fl_at (H.out.below hR.out.2) hlt
      have hjl : j < (whoL c).length := by rw [← HN.out]; exact hlt
      obtain ⟨m, hm⟩ : ∃ x, x = (fat c j).m := ⟨_, rfl⟩
      obtain ⟨x, hx⟩ : ∃ x, x = (fat c j).t := ⟨_, rfl⟩
      rw [← hm] at c0
      rw [← hx] at c1
      obtain ⟨V, hV⟩ : ∃ V, V = wr.alloc (.cells #[.int .i64 m, .int .i64 x] 76) := ⟨_, rfl⟩
      have hbV : Below wr.heap.size wr V := by rw [hV]; (repeat' (first | (with_reducible exact Below.refl _ _) | (with_reducible assumption) | (with_reducible refine Below.setCell ?_ ?_ _) | (with_reducible refine Below.alloc ?_ ?_ _) | (with_reducible refine below_drewN ?_ _) | (with_reducible refine Below.drew ?_) | (with_reducible exact Nat.le_refl _) | omega | (simp; done) | (simp; omega)))
      have hF := hR.out.1.below hbV
      obtain ⟨⟨u0, g0⟩, f0⟩ := hF.there j (by omega)
      have hgl := hF.lt.2
      have hput := hF.put layC_len HN.out hjl
      have e : layC (whoL c)[j] = [.iface 76 (.agg #[.int .i64 m, .int .i64 x])] := by
        rw [← lat_get hjl, whoL_at (by rw [← whoL_len c]; exact hjl), ← hm, ← hx]; rfl
      rw [e] at hput
      simp only [putsAt, Nat.mul_one, Nat.add_zero] at hput
      have HP : Hid (Fill 88 1 layC (V.setCell ⟨w.heap.size, j, none⟩ (.iface 76 (.agg #[.int .i64 m, .int .i64 x]))) w.heap.size w.heap.size n (whoL c) (j + 1) ∧ Below w.heap.size w (V.setCell ⟨w.heap.size, j, none⟩ (.iface 76 (.agg #[.int .i64 m, .int .i64 x])))) :=
        ⟨hput, (hR.out.2.trans (hbV.mono hR.out.2.size)).setCell (Nat.le_refl _) _⟩
      rw [hV] at HP g0 f0 hgl
      clear hR hF hput e hbV hm hx hjl hV
      have b0 : (0 : Int) ≤ (j : Int) := by omega
      have b1 : (j : Int) < (n : Int) := by omega
      go_wp2
      go_roundw
      case rel => exact ⟨j + 1, by omega, by go_num, HP.out⟩
      case measure => simp [intOf]; omega
    · have HD : Hid (OG 88 1 layC wr w.heap.size (.slice (some ⟨w.heap.size, 0, none⟩) n n) (whoL c) ∧ Below w.heap.size w wr) := ⟨hR.out.1.done layC_len HN.out (by rw [← HN.out]; omega), hR.out.2⟩
      clear hR
      go_wp2
      go_returns
      exact ⟨rfl, HD.out.1, HD.out.2⟩

end Go.Proofs.Ytceljakmjddgbab
