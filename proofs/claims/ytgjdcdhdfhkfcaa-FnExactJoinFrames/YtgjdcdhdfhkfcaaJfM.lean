/- Proved here: what JoinFrames answers: jfC, jfL; lists of floats cut and joined. -/
import Derived.Test.YtgjdcdhdfhkfcaaFmE
import Derived.Test.YtgjdcdhdfhkfcaaFwR
import Derived.Test.YtgjdcdhdfhkfcaaFmM
namespace Go.Proofs.Ytgjdcdhdfhkfcaa
open Go.RowKit
set_option linter.unusedVariables false
set_option linter.unusedSimpArgs false

def okR (ls : List (List Nat)) : Prop := ∀ i, i < ls.length → (ls.getD i []).length = 8
instance (ls : List (List Nat)) : Decidable (okR ls) := by unfold okR; infer_instance
def jfC (ls : List (List Nat)) : Int := if 25 < ls.length then 2 else if okR ls then 0 else 1
def jfL (ls : List (List Nat)) : List Nat := if jfC ls = 0 then ls.flatten.take (trK ls.flatten ls.flatten.length) else []
theorem trK_congr {a b : List Nat} : ∀ k, (∀ i, i < k → a.getD i 0 = b.getD i 0) → trK a k = trK b k := by
  intro k
  induction k with
  | zero => intro _; rfl
  | succ k ih => intro h; rw [trK, trK, h k (by omega), ih (fun i hi => h i (by omega))]
theorem getD_left {a b : List Nat} {i : Nat} (h : i < a.length) : (a ++ b).getD i 0 = a.getD i 0 := by
  rw [List.getD_eq_getElem?_getD, List.getElem?_append_left h, ← List.getD_eq_getElem?_getD]
theorem getD_right {a b : List Nat} {i : Nat} : (a ++ b).getD (a.length + i) 0 = b.getD i 0 := by
  rw [List.getD_eq_getElem?_getD, List.getElem?_append_right (by omega), Nat.add_sub_cancel_left, ← List.getD_eq_getElem?_getD]
theorem trK_app (a r : List Nat) : ∀ t, trK (a ++ r) (a.length + t) = if 0 < trK r t then a.length + trK r t else trK a a.length := by
  intro t
  induction t with
  | zero => rw [Nat.add_zero, trK_congr a.length (fun i hi => getD_left hi)]; simp [trK]
  | succ t ih =>
    rw [← Nat.add_assoc, trK, getD_right]
    rw [show trK r (t + 1) = if (fv (r.getD t 0)).isNone then trK r t else t + 1 from rfl]
    by_cases hn : (fv (r.getD t 0)).isNone = true
    · rw [if_pos hn, if_pos hn, ih]
    · rw [if_neg hn, if_neg hn, if_pos (by omega)]; omega
theorem flat_take {ls : List (List Nat)} {j : Nat} (h : j < ls.length) : (ls.take (j + 1)).flatten = (ls.take j).flatten ++ ls.getD j [] := by
  rw [List.take_succ_eq_append_getElem h, List.flatten_append, List.getD_eq_getElem?_getD, List.getElem?_eq_getElem h]; simp
theorem flat_len {ls : List (List Nat)} (h : ∀ i, i < ls.length → (ls.getD i []).length = 8) : ∀ j, j ≤ ls.length → ((ls.take j).flatten).length = 8 * j := by
  intro j
  induction j with
  | zero => intro _; simp
  | succ j ih => intro hj; rw [flat_take (by omega), List.length_append, ih (by omega), h j (by omega)]; omega
theorem flat_lenK {ls : List (List Nat)} : ∀ j, j ≤ ls.length → (∀ i, i < j → (ls.getD i []).length = 8) → ((ls.take j).flatten).length = 8 * j := by
  intro j
  induction j with
  | zero => intro _ _; simp
  | succ j ih => intro hj h; rw [flat_take (by omega), List.length_append, ih (by omega) (fun i hi => h i (by omega)), h j (by omega)]; omega
def lnV : Value → Nat
  | .slice _ n _ => n
  | _ => 0
theorem fl_news {W : World} {g o n c : Nat} {s : List Nat} (h : RFl W (.slice (some ⟨g, o, none⟩) n c) s) : ∀ j u, (s.flatMap flC)[j]? = some u → W.cell? ((⟨g, o, none⟩ : Addr).add j) = some u := by
  intro j u hu
  rw [fl_flat] at hu
  have hj : j < s.length := by
    rcases Nat.lt_or_ge j s.length with h' | h'
    · exact h'
    · rw [List.getElem?_eq_none (by simpa using h')] at hu; cases hu
  obtain ⟨g', o', z, ha, hg, hz, c0⟩ := rf_at h (show j < n by rw [h.len]; exact hj)
  injection ha with ha
  injection ha with ha1 ha2
  subst ha1 ha2
  rw [List.getElem?_map, hz] at hu
  simp only [Option.map_some, Option.some.injEq] at hu
  rw [Addr.add_lit, c0, hu]
theorem ones_fl (s : List Nat) : ∀ u ∈ s.flatMap flC, u.oneCell' = true := by
  intro u hu
  rw [fl_flat, List.mem_map] at hu
  obtain ⟨x, _, rfl⟩ := hu
  rfl
theorem fl_joined {w : World} {B : Nat} {v : Value} {a r : List Nat} (h : w.ownsRow B 55 1 v (a.length + r.length) (a.flatMap flC ++ r.flatMap flC)) : OFl w B v (a ++ r) := by
  show w.ownsRow B 55 1 v (a ++ r).length ((a ++ r).flatMap flC)
  rw [List.length_append, List.flatMap_append]; exact h
theorem fl_cut {w : World} {B g n cap k : Nat} {l : List Nat} (h : OFl w B (.slice (some ⟨g, 0, none⟩) n cap) l) (hk : k ≤ n) : OFl w B (.slice (some ⟨g, 0, none⟩) k cap) (l.take k) := by
  have hn : n = l.length := h.rg.len
  have hl : (l.take k).length = k := by rw [List.length_take]; omega
  unfold OFl OG at h ⊢
  rw [hl, fl_flat, List.map_take, ← fl_flat]
  refine ⟨by rw [List.length_take, fl_flat, List.length_map]; omega, ?_⟩
  rcases h.2 with ⟨e, h0⟩ | ⟨g', cap', cur, e, hB, hg, hn', hm, hs, ht⟩
  · cases e
  · injection e with e2 e3 e4
    injection e2 with e5
    injection e5 with e6
    subst e6 e4
    right
    refine ⟨g, cap, cur, rfl, hB, hg, by omega, hm, hs, ?_⟩
    rw [← ht, List.take_take, Nat.min_eq_left (by omega), Nat.mul_one]
theorem fl_kept {w : World} {B : Nat} {v a b : Value} {l : List Nat} (h : OFl w (B + 1) v l) : OFl ((w.setCell ⟨B, 0, none⟩ a).setCell ⟨B, 1, none⟩ b) B v l := by
  refine ownsRow_keep (OG.low h (by omega)) fun g hg => ?_
  have h10 := (OG.lt h g hg).1
  rw [heap_setCell_other _ _ _ _ (by simp; omega), heap_setCell_other _ _ _ _ (by simp; omega)]
theorem fl_some {w : World} {B : Nat} {v : Value} {l : List Nat} (h : OFl w B v l) (hp : 0 < l.length) : ∃ g c, v = .slice (some ⟨g, 0, none⟩) l.length c ∧ B ≤ g ∧ l.length ≤ c := by
  rcases h.2 with ⟨e, h0⟩ | ⟨g, c, cur, e, hB, hg, hn, _⟩
  · omega
  · exact ⟨g, c, e, hB, hn⟩

end Go.Proofs.Ytgjdcdhdfhkfcaa
