/- Proved here: the parts of an open book, in whatever order they are made. (And ahead of it: Proved here: whether a book has a lot, and where. No condition on the program.) -/
import Derived.Test.YtcfjanignfbidaaQbM
import Derived.Test.YtcfjanignfbidaaQoM
import Derived.Test.YtcfjanignfbidaaOpA
namespace Go.Proofs.Ytcfjanignfbidaa
open Go.RowKit Go.Maps
set_option linter.unusedVariables false
set_option linter.unusedSimpArgs false

def bgC (b : Bk) (id : Int) : Int := if bkF b ≠ 0 then bkF b else if fdI (idA b.ls) id b.ls.length < 0 then 4 else 0
def bgA (b : Bk) (id : Int) : Int := if bgC b id ≠ 0 then -1 else fdI (idA b.ls) id b.ls.length
theorem bgC_cases {b : Bk} {id : Int} (h : bgC b id = 0) : GBk b ∧ ∃ i, ∃ hi : i < b.ls.length, fdI (idA b.ls) id b.ls.length = (i : Int) ∧ b.ls[i].id = id := by
  unfold bgC at h
  by_cases h0 : bkF b = 0
  · rw [if_neg (by simp [h0])] at h
    by_cases h1 : fdI (idA b.ls) id b.ls.length < 0
    · rw [if_pos h1] at h; cases h
    · obtain ⟨i, h2, h3, h4, _⟩ := fdI_pos (by omega : 0 ≤ fdI (idA b.ls) id b.ls.length)
      exact ⟨bkF_zero h0, i, h2, h3, by rw [← idA_at h2]; exact h4⟩
  · rw [if_pos h0] at h; exact absurd h h0

end Go.Proofs.Ytcfjanignfbidaa

namespace Go.Proofs.Ytcfjanignfbidaa
open Go.RowKit Go.Maps
set_option linter.unusedVariables false
set_option linter.unusedSimpArgs false

structure O4 (V cw : World) (wn : List Wdw) (sc : List Int) (v1 v2 : Option Value) (po mo : Option Nat) : Prop where
  bl : Below V.heap.size V cw
  w : ∀ v, v1 = some v → OG 99 3 wdC cw V.heap.size v wn
  s : ∀ v, v2 = some v → IS cw V.heap.size v sc
  p : ∀ g, po = some g → IM 3 cw g 0 (fun _ => none) ∧ V.heap.size ≤ g
  m : ∀ g, mo = some g → TM cw 2 g 0 (fun _ => none) ∧ V.heap.size ≤ g
  pm : ∀ g k, po = some g → mo = some k → g ≠ k
section
variable {V cw cx : World} {wn : List Wdw} {sc : List Int} {v1 v2 : Option Value} {p m : Option Nat}
theorem O4.start (V : World) (wn : List Wdw) (sc : List Int) : O4 V V.drew wn sc none none none none :=
  ⟨(Below.refl _ _).drew, (fun _ h => by cases h), (fun _ h => by cases h), (fun _ h => by cases h), (fun _ h => by cases h), (fun _ _ h => by cases h)⟩
theorem O4.next (h : O4 V cw wn sc v1 v2 p m) (hb : Below cw.heap.size cw cx) : O4 V cx wn sc v1 v2 p m :=
  ⟨h.bl.trans (hb.mono h.bl.size), fun v hv => (h.w v hv).below hb, fun v hv => (h.s v hv).bel hb, fun g hg => ⟨(h.p g hg).1.below hb, (h.p g hg).2⟩, fun g hg => ⟨(h.m g hg).1.below hb, (h.m g hg).2⟩, h.pm⟩
theorem O4.win {v : Value} (h : O4 V cw wn sc v1 v2 p m) (hb : Below cw.heap.size cw cx) (ho : OG 99 3 wdC cx cw.heap.size v wn) : O4 V cx wn sc (some v) v2 p m := by
  have h' := h.next hb
  exact ⟨h'.bl, fun u hu => by cases hu; exact ho.low h.bl.size, h'.s, h'.p, h'.m, h'.pm⟩
theorem O4.scr {v : Value} (h : O4 V cw wn sc v1 v2 p m) (hb : Below cw.heap.size cw cx) (ho : IS cx cw.heap.size v sc) : O4 V cx wn sc v1 (some v) p m := by
  have h' := h.next hb
  exact ⟨h'.bl, h'.w, fun u hu => by cases hu; exact ho.low h.bl.size, h'.p, h'.m, h'.pm⟩
theorem O4.mkP (h : O4 V cw wn sc v1 v2 p m) : O4 V (cw.alloc (.map #[] 0)) wn sc v1 v2 (some cw.heap.size) m := by
  have h' := h.next (show Below cw.heap.size cw (cw.alloc (.map #[] 0)) from by (repeat' (first | (with_reducible exact Below.refl _ _) | (with_reducible assumption) | (with_reducible refine Below.setCell ?_ ?_ _) | (with_reducible refine Below.alloc ?_ ?_ _) | (with_reducible refine below_drewN ?_ _) | (with_reducible refine Below.drew ?_) | (with_reducible exact Nat.le_refl _) | omega | (simp; done) | (simp; omega))))
  exact ⟨h'.bl, h'.w, h'.s, fun g hg => by cases hg; exact ⟨IM.made _ cw, h.bl.size⟩, h'.m, fun g k hg hk => by
    cases hg
    have := (h.m k hk).1.lt
    omega⟩
theorem O4.mkM (h : O4 V cw wn sc v1 v2 p m) : O4 V (cw.alloc (.map #[] 0)) wn sc v1 v2 p (some cw.heap.size) := by
  have h' := h.next (show Below cw.heap.size cw (cw.alloc (.map #[] 0)) from by (repeat' (first | (with_reducible exact Below.refl _ _) | (with_reducible assumption) | (with_reducible refine Below.setCell ?_ ?_ _) | (with_reducible refine Below.alloc ?_ ?_ _) | (with_reducible refine below_drewN ?_ _) | (with_reducible refine Below.drew ?_) | (with_reducible exact Nat.le_refl _) | omega | (simp; done) | (simp; omega))))
  exact ⟨h'.bl, h'.w, h'.s, h'.p, fun g hg => by cases hg; exact ⟨TM.made cw _, h.bl.size⟩, fun g k hg hk => by
    cases hk
    have := (h.p g hg).1.lt
    omega⟩
/-- The book, opened, without its lots. -/
theorem O4.ob {vw vs : Value} {bp bm : Nat} {st : Int} (h : O4 V cw wn sc (some vw) (some vs) (some bp) (some bm)) :
    OB (cw.alloc (.cells #[.int .i64 st, vw, .slice none 0 0, vs, .map (some bp), .map (some bm)] 71)) V.heap.size cw.heap.size bp bm vw (.slice none 0 0) vs (fun _ => none) ⟨st, wn, [], sc⟩ [] ∧ Below V.heap.size V (cw.alloc (.cells #[.int .i64 st, vw, .slice none 0 0, vs, .map (some bp), .map (some bm)] 71)) ∧ TM (cw.alloc (.cells #[.int .i64 st, vw, .slice none 0 0, vs, .map (some bp), .map (some bm)] 71)) 2 bm 0 (fun _ => none) := by
  have h' := h.next (show Below cw.heap.size cw (cw.alloc (.cells #[.int .i64 st, vw, .slice none 0 0, vs, .map (some bp), .map (some bm)] 71)) from by (repeat' (first | (with_reducible exact Below.refl _ _) | (with_reducible assumption) | (with_reducible refine Below.setCell ?_ ?_ _) | (with_reducible refine Below.alloc ?_ ?_ _) | (with_reducible refine below_drewN ?_ _) | (with_reducible refine Below.drew ?_) | (with_reducible exact Nat.le_refl _) | omega | (simp; done) | (simp; omega))))
  have hz := h.bl.size
  refine ⟨⟨heap_alloc_new _ _, ⟨hz, (h'.p bp rfl).2, (h'.m bm rfl).2, h'.bl.size⟩, h.pm bp bm rfl rfl, ⟨h'.w vw rfl, World.ownsRow_nil _ _ _ _, rfl, fun j h1 => by simp at h1, fun j h1 => by simp at h1, fun j h1 => by simp at h1, h'.s vs rfl, fun j _ => by unfold wvM; rw [if_neg (by simp)]; rfl, ?_⟩, fun j h1 => by simp at h1, (h'.p bp rfl).1, ⟨0, by omega, (h'.m bm rfl).1⟩, fun j h1 => by simp at h1, fun i j h1 => by simp at h1, by simp⟩, h'.bl, (h'.m bm rfl).1⟩
  intro a c hac g hg hc
  have hn : ∀ e, e ≠ Sx.s → (slv vs (wvM (fun _ => none) []) (dvO []) e).ownBlock = none := fun e he => by
    cases e with
    | s => exact absurd rfl he
    | w j => show (wvM (fun _ => none) [] j).ownBlock = none; unfold wvM; rw [if_neg (by simp)]; rfl
    | d j => rfl
  by_cases ha : a = Sx.s
  · rw [hn c (fun e => hac (ha.trans e.symm))] at hc; cases hc
  · rw [hn a ha] at hg; cases hg
end

end Go.Proofs.Ytcfjanignfbidaa
