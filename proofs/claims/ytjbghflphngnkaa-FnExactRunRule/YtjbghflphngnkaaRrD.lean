/- Proved here: slices.DeleteFunc at jobs, where one alone is meant. -/
import Derived.Test.YtjbghflphngnkaaRrI
import Derived.Test.YtjbghflphngnkaaJoR
import Derived.Deep.Cut
namespace Go.Proofs.Ytjbghflphngnkaa
open Go.RowKit
set_option linter.unusedVariables false
set_option linter.unusedSimpArgs false


theorem erase_at {s : List Jb} {b i : Nat} (hb : b < s.length) (hi : i < s.length - 1) : jA (s.eraseIdx b) i = if i < b then jA s i else jA s (i + 1) := by
  have hl : (s.eraseIdx b).length = s.length - 1 := by rw [List.length_eraseIdx, if_pos hb]
  rw [jA_at (by omega), List.getElem_eraseIdx]
  split
  · rw [jA_at (by omega)]
  · rw [jA_at (by omega)]
theorem jl_ext {s t : List Jb} (hl : s.length = t.length) (h : ∀ i, i < s.length → jA s i = jA t i) : s = t := by
  apply List.ext_getElem hl
  intro i h1 h2
  have := h i h1
  rwa [jA_at h1, jA_at h2] at this
/-- Every old block but g is as it was. -/
def Oth (w : World) (g : Nat) (w' : World) : Prop := w.heap.size ≤ w'.heap.size ∧ ∀ q, q < w.heap.size → q ≠ g → w'.heap[q]? = w.heap[q]?
theorem Oth.bel {w w1 w' : World} {g : Nat} (h : Oth w g w1) (hb : Below w1.heap.size w1 w') : Oth w g w' := ⟨Nat.le_trans h.1 hb.size, fun q h1 h2 => (hb.block q (Nat.lt_of_lt_of_le h1 h.1)).trans (h.2 q h1 h2)⟩
theorem Oth.gr {w w1 w' : World} {g : Nat} (h : Oth w g w1) (hg : w1.grownBy w' (some g)) : Oth w g w' := ⟨Nat.le_trans h.1 hg.size, fun q h1 h2 => (hg.block q (Nat.lt_of_lt_of_le h1 h.1) (fun e => h2 (by injection e))).trans (h.2 q h1 h2)⟩
set_option maxRecDepth 10000 in
set_option maxHeartbeats 6400000 in
theorem df_run {w W : World} {lo g n cap : Nat} {s : List Jb} {y : Jb} {b : Nat} (hn : n ≤ 1000) (hb : b < n) (hy : (jA s b).id = y.id) (hu : ∀ i, i < s.length → (jA s i).id = y.id → i = b) (ho : OJ w lo g n cap s) (hW : Below lo W w) :
    Calls Try.prog 42 #[.slice (some ⟨g, 0, none⟩) n cap, .func (Fn.func 43) #[.agg #[.int .i64 y.id, .int .i64 y.co, .int .i64 y.ti, .int .i64 y.se, .int .i64 y.du, .int .i64 y.we, .int .i64 y.ki]] #[]] w fun e w' => e = .returned (.slice (some ⟨g, 0, none⟩) (n - 1) cap) ∧ OJ w' lo g (n - 1) cap (s.eraseIdx b) ∧ Below lo W w' ∧ Oth w g w' := by
  have hnn : n = s.length := ho.len
  obtain ⟨R, hR⟩ : ∃ R, R = s.eraseIdx b := ⟨_, rfl⟩
  have HIX : Hid (Calls Try.prog 77 #[.slice (some ⟨g, 0, none⟩) n cap, .func (Fn.func 43) #[.agg #[.int .i64 y.id, .int .i64 y.co, .int .i64 y.ti, .int .i64 y.se, .int .i64 y.du, .int .i64 y.we, .int .i64 y.ki]] #[]] w fun e w' => e = .returned (.int .i64 b) ∧ Below w.heap.size w w') := ix_run (by omega) (by omega) hy hu (OG.rg jbC_len ho)
  have HIS : Hid (∀ (x : Jb) (X : World), Calls Try.prog 43 #[.agg #[.int .i64 y.id, .int .i64 y.co, .int .i64 y.ti, .int .i64 y.se, .int .i64 y.du, .int .i64 y.we, .int .i64 y.ki], .agg #[.int .i64 x.id, .int .i64 x.co, .int .i64 x.ti, .int .i64 x.se, .int .i64 x.du, .int .i64 x.we, .int .i64 x.ki]] X fun e w' => e = .returned (.bool (y.id == x.id)) ∧ Below X.heap.size X w') := fun x X => is_run y x X
  have H : Hid (n = s.length ∧ (jA s b).id = y.id ∧ (∀ i, i < s.length → (jA s i).id = y.id → i = b) ∧ R = s.eraseIdx b ∧ lo ≤ g) := ⟨hnn, hy, hu, hR, ho.lt.1⟩
  have HO : Hid (OJ w lo g n cap s ∧ Below lo W w) := ⟨ho, hW⟩
  rw [← hR]
  clear ho hnn hy hu hR hW
  go_enter Try.func42, Try.ntmps42
  go_wp2_with (fail)
  refine HIX.out.mono ?_
  rintro e w1 ⟨rfl, hb1⟩
  have HO1 : Hid (OJ w1 lo g n cap s ∧ Below lo W w1 ∧ Oth w g w1) := ⟨HO.out.1.below hb1, HO.out.2.trans (hb1.mono (by have := HO.out.1.lt; omega)), Oth.bel ⟨Nat.le_refl _, fun _ _ _ => rfl⟩ hb1⟩
  have bm : ((b : Int) == -1) = false := beq_eq_false_iff_ne.2 (by omega)
  clear HIX HO hb1
  go_wp2
  go_loopw [5, 6] (fun i j wr => ∃ (k : Nat) (l2 : List Jb), b ≤ k ∧ k < n ∧ i = .int .i64 (k : Nat) ∧ j = .int .i64 ((k : Int) + 1) ∧ Hid (OJ wr lo g n cap l2 ∧ (Below lo W wr ∧ Oth w g wr) ∧ ∀ q, q < n → jA l2 q = if q < b then jA s q else if q < k then jA s (q + 1) else jA s q)) (fun i _ _ => n - (intOf i).toNat)
  case atStart => exact ⟨b, s, Nat.le_refl _, hb, by go_num, by go_num, HO1.out.1, ⟨HO1.out.2.1, HO1.out.2.2⟩, fun q _ => by by_cases h : q < b <;> simp [h]⟩
  case round =>
    clear HO1
    obtain ⟨i, l2, hk1, hk2, rfl, rfl, hR⟩ := hrel
    by_cases hkn : i + 1 < n
    · obtain ⟨x, hx⟩ : ∃ x, x = jA l2 (i + 1) := ⟨_, rfl⟩
      obtain ⟨j, hj⟩ : ∃ j, j = i + 1 := ⟨_, rfl⟩
      have hji : (i : Int) + 1 = (j : Int) := by omega
      obtain ⟨c0, c1, c2, c3, c4, c5, c6⟩ := hR.out.1.at (j := i + 1) hkn
      rw [← hx] at c0 c1 c2 c3 c4 c5 c6
      rw [← hj] at c0 c1 c2 c3 c4 c5 c6
      obtain ⟨X, hX⟩ : ∃ X, X = wr.alloc (.cells #[.int .i64 x.id, .int .i64 x.co, .int .i64 x.ti, .int .i64 x.se, .int .i64 x.du, .int .i64 x.we, .int .i64 x.ki] 51) := ⟨_, rfl⟩
      have HXX : Hid (OJ X lo g n cap l2 ∧ (Below lo W X ∧ Oth w g X) ∧ X.heap[wr.heap.size]? = some (.cells #[.int .i64 x.id, .int .i64 x.co, .int .i64 x.ti, .int .i64 x.se, .int .i64 x.du, .int .i64 x.we, .int .i64 x.ki] 51) ∧ g < wr.heap.size) := by
        rw [hX]; exact ⟨OG.al hR.out.1 _, ⟨Below.alloc hR.out.2.1.1 (by have := hR.out.1.lt; omega) _, Oth.bel hR.out.2.1.2 ((Below.refl _ _).alloc (Nat.le_refl _) _)⟩, heap_alloc_new _ _, hR.out.1.lt.2⟩
      have HXS : Hid (x = jA s (i + 1) ∧ (y.id == x.id) = false) := by
        have e : x = jA s (i + 1) := by rw [hx, hR.out.2.2 (i + 1) hkn, if_neg (by omega), if_neg (by omega)]
        refine ⟨e, beq_eq_false_iff_ne.2 (fun e2 => ?_)⟩
        have := H.out.2.2.1 (i + 1) (by rw [← H.out.1]; exact hkn) (by rw [← e]; exact e2.symm)
        omega
      have HC2 : Hid (Calls Try.prog 43 #[.agg #[.int .i64 y.id, .int .i64 y.co, .int .i64 y.ti, .int .i64 y.se, .int .i64 y.du, .int .i64 y.we, .int .i64 y.ki], .agg #[.int .i64 x.id, .int .i64 x.co, .int .i64 x.ti, .int .i64 x.se, .int .i64 x.du, .int .i64 x.we, .int .i64 x.ki]] X fun e w' => e = .returned (.bool false) ∧ Below X.heap.size X w') := by rw [← HXS.out.2]; exact HIS.out x X
      have hgl := hR.out.1.lt.2
      have b0 : (0 : Int) ≤ (j : Int) := by omega
      have b1 : (j : Int) < (n : Int) := by omega
      have b2 : (0 : Int) ≤ (i : Int) := by omega
      have b3 : (i : Int) < (n : Int) := by omega
      have HF : Hid (∀ q, q < n → jA l2 q = if q < b then jA s q else if q < i then jA s (q + 1) else jA s q) := hR.out.2.2
      have HJ : Hid (j = i + 1) := hj
      rw [hji]
      clear hR hx hj hji
      go_upto_region 8 with fail
      rw [← hX]
      clear hX c0 c1 c2 c3 c4 c5 c6
      obtain ⟨t0, t1, t2, t3, t4, t5, t6, tl⟩ := jb_cells HXX.out.2.2.1
      go_wp2_with (fail)
      refine HC2.out.mono ?_
      rintro e w5 ⟨rfl, hb5⟩
      have HX5 : Hid (OJ w5 lo g n cap l2 ∧ (Below lo W w5 ∧ Oth w g w5) ∧ w5.heap[wr.heap.size]? = some (.cells #[.int .i64 x.id, .int .i64 x.co, .int .i64 x.ti, .int .i64 x.se, .int .i64 x.du, .int .i64 x.we, .int .i64 x.ki] 51) ∧ g < wr.heap.size) := ⟨HXX.out.1.below hb5, ⟨HXX.out.2.1.1.trans (hb5.mono (by have := HXX.out.1.lt; omega)), HXX.out.2.1.2.bel hb5⟩, (hb5.block _ tl).trans HXX.out.2.2.1, HXX.out.2.2.2⟩
      clear t0 t1 t2 t3 t4 t5 t6 tl hb5 HC2 HXX hgl
      obtain ⟨t0, t1, t2, t3, t4, t5, t6, tl⟩ := jb_cells HX5.out.2.2.1
      obtain ⟨c0, c1, c2, c3, c4, c5, c6⟩ := HX5.out.1.at (j := i) (by omega)
      have fq0 := HX5.out.1.fr (i * 7)
      have fq1 := HX5.out.1.fr (i * 7 + 1)
      have fq2 := HX5.out.1.fr (i * 7 + 2)
      have fq3 := HX5.out.1.fr (i * 7 + 3)
      have fq4 := HX5.out.1.fr (i * 7 + 4)
      have fq5 := HX5.out.1.fr (i * 7 + 5)
      have fq6 := HX5.out.1.fr (i * 7 + 6)
      have hgl := HX5.out.1.lt.2
      obtain ⟨W2, hW2⟩ : ∃ X, X = ((((((((w5.setCell ⟨g, i * 7, none⟩ (.int .i64 x.id)).setCell ⟨g, i * 7 + 1, none⟩ (.int .i64 x.co)).setCell ⟨g, i * 7 + 2, none⟩ (.int .i64 x.ti)).setCell ⟨g, i * 7 + 3, none⟩ (.int .i64 x.se)).setCell ⟨g, i * 7 + 4, none⟩ (.int .i64 x.du)).setCell ⟨g, i * 7 + 5, none⟩ (.int .i64 x.we)).setCell ⟨g, i * 7 + 6, none⟩ (.int .i64 x.ki))) := ⟨_, rfl⟩
      have HW2 : Hid (OJ W2 lo g n cap (l2.set i x) ∧ (Below lo W W2 ∧ Oth w g W2) ∧ ∀ q, q < n → jA (l2.set i x) q = if q < b then jA s q else if q < i + 1 then jA s (q + 1) else jA s q) := by
        obtain ⟨s1, s2⟩ := HX5.out.1.put (j := i) (by omega) x
        rw [hW2]
        refine ⟨s1, ⟨grown_lo HX5.out.2.1.1 s2 H.out.2.2.2.2 (by have := HX5.out.1.lt; omega), HX5.out.2.1.2.gr s2⟩, fun q hq => ?_⟩
        have hl2 : n = l2.length := HX5.out.1.len
        rw [jA_at (by rw [List.length_set]; omega), List.getElem_set]
        by_cases e : i = q
        · rw [if_pos e, if_neg (by omega), if_pos (by omega), HXS.out.1, e]
        · rw [if_neg e, ← jA_at, HF.out q hq]
          by_cases h1 : q < b
          · rw [if_pos h1, if_pos h1]
          · rw [if_neg h1, if_neg h1]
            by_cases h2 : q < i
            · rw [if_pos h2, if_pos (by omega)]
            · rw [if_neg h2, if_neg (by omega)]
      clear HF HXS
      go_upto_region 10 with fail
      rw [← hW2]
      clear hW2 HX5 t0 t1 t2 t3 t4 t5 t6 tl c0 c1 c2 c3 c4 c5 c6 fq0 fq1 fq2 fq3 fq4 fq5 fq6 hgl
      go_wp2
      go_roundw
      case rel => exact ⟨i + 1, l2.set i x, by omega, by omega, by go_num, by (have := HJ.out; go_num), HW2.out⟩
      case measure => simp [intOf]; omega
    · obtain ⟨m, hm⟩ : ∃ m, m = i := ⟨_, rfl⟩
      have hni : n = i + 1 := by omega
      have b1 : ¬ (i : Int) + 1 < (n : Int) := by omega
      have hcap : n ≤ cap := by
        rcases hR.out.1.2 with ⟨e, _⟩ | ⟨g', cap', cur, e, hB, hg, hnn, hmm, hs, ht⟩
        · cases e
        · injection e with _ _ e3; omega
      have hgl := hR.out.1.lt.2
      obtain ⟨c0, c1, c2, c3, c4, c5, c6⟩ := hR.out.1.at (j := i) (by omega)
      have hcl : (Builtin.clear_ #[28] 0 #[.slice (some ⟨g, i * 7, none⟩) 1 (cap - i)]).run Try.prog wr = .ok (.tuple #[]) (wr.setCells g (i * 7) (List.replicate 7 (.int .i64 0))) := clear_one (fun q hq => by
          rcases (by omega : q = 0 ∨ q = 1 ∨ q = 2 ∨ q = 3 ∨ q = 4 ∨ q = 5 ∨ q = 6) with rfl | rfl | rfl | rfl | rfl | rfl | rfl
          · simp [c0]
          · simp [c1]
          · simp [c2]
          · simp [c3]
          · simp [c4]
          · simp [c5]
          · simp [c6]) (fun q _ => hR.out.1.fr _)
      obtain ⟨W2, hW2⟩ : ∃ X, X = wr.setCells g (i * 7) (List.replicate 7 (.int .i64 0)) := ⟨_, rfl⟩
      have HW2 : Hid (OJ W2 lo g i cap R ∧ Below lo W W2 ∧ Oth w g W2) := by
        obtain ⟨s1, s2⟩ := hR.out.1.put (j := i) (by omega) ⟨0, 0, 0, 0, 0, 0, 0⟩
        have e : W2 = ((((((((wr.setCell ⟨g, i * 7, none⟩ (.int .i64 0)).setCell ⟨g, i * 7 + 1, none⟩ (.int .i64 0)).setCell ⟨g, i * 7 + 2, none⟩ (.int .i64 0)).setCell ⟨g, i * 7 + 3, none⟩ (.int .i64 0)).setCell ⟨g, i * 7 + 4, none⟩ (.int .i64 0)).setCell ⟨g, i * 7 + 5, none⟩ (.int .i64 0)).setCell ⟨g, i * 7 + 6, none⟩ (.int .i64 0))) := by rw [hW2]; simp [List.replicate, World.setCells]
        rw [← e] at s1 s2
        have hf := s1.front i (by omega)
        have hl2 : n = l2.length := hR.out.1.len
        have hR2 : (l2.set i ⟨0, 0, 0, 0, 0, 0, 0⟩).take i = R := by
          rw [H.out.2.2.2.1]
          have h1 : n = s.length := H.out.1
          have hle : (s.eraseIdx b).length = s.length - 1 := by rw [List.length_eraseIdx, if_pos (by omega)]
          refine jl_ext (by rw [hle, List.length_take, List.length_set]; omega) (fun q hq => ?_)
          rw [List.length_take, List.length_set] at hq
          have hqi : q < i := by omega
          rw [jA_at (by rw [List.length_take, List.length_set]; omega), List.getElem_take, List.getElem_set, if_neg (by omega), ← jA_at, hR.out.2.2 q (by omega), erase_at (by omega) (by omega)]
          by_cases h2 : q < b
          · rw [if_pos h2, if_pos h2]
          · rw [if_neg h2, if_neg h2, if_pos hqi]
        rw [hR2] at hf
        exact ⟨hf, grown_lo hR.out.2.1.1 s2 H.out.2.2.2.2 (by have := hR.out.1.lt; omega), hR.out.2.1.2.gr s2⟩
      have b2 : (0 : Int) ≤ (i : Int) := by omega
      have b3 : (i : Int) ≤ (n : Int) := by omega
      have b4 : (i : Int) ≤ (cap : Int) := by omega
      clear hR
      subst hni
      go_wp2
      simp only [List.replicate] at hW2
      first | rw [← hW2] | skip
      go_returns
      exact ⟨rfl, HW2.out⟩

end Go.Proofs.Ytjbghflphngnkaa
