/- Proved here: endsOf, assists and ordered of the program. -/
import Derived.Test.YtfjcebgknpccbaaAsM
import Derived.Test.YtfjcebgknpccbaaCcI
import Derived.Test.YtfjcebgknpccbaaSoI
namespace Go.Proofs.Ytfjcebgknpccbaa
open Go.RowKit
set_option linter.unusedVariables false
set_option linter.unusedSimpArgs false

theorem flL_take {ls : List Ln} {k : Nat} (hk : k < ls.length) : flL (ls.take (k + 1)) = flL (ls.take k) ++ [ls[k].f, ls[k].t] := by
  rw [List.take_succ_eq_append_getElem hk, flL_app]; rfl
theorem IS.snoc2 {w : World} {B : Nat} {v : Value} {xs : List Int} {y z : Int} (h : w.ownsRow B 2 1 v (xs.length + 2) (xs.map (Value.int .i64) ++ [.int .i64 y, .int .i64 z])) : IS w B v (xs ++ [y, z]) := by
  unfold IS
  rw [List.length_append, List.map_append]
  exact h
theorem IS.some {w : World} {B : Nat} {v : Value} {xs : List Int} (h : IS w B v xs) (hv : v ≠ .slice none 0 0) : ∃ g c, v = .slice (some ⟨g, 0, none⟩) xs.length c := by
  rcases h.2 with ⟨h1, _⟩ | ⟨g, cap, cur, h1, _⟩
  · exact absurd h1 hv
  · exact ⟨g, cap, h1⟩

set_option maxRecDepth 10000 in
set_option maxHeartbeats 6400000 in
theorem impl_eo {w : World} {v : Value} {ls : List Ln} (hn : ls.length ≤ 100) (h : RG 2 lnC w v ls) :
    Calls Try.prog 56 #[v] w fun e w' => ∃ g n c, e = .returned (.slice (some ⟨g, 0, none⟩) n c) ∧ IS w' w.heap.size (.slice (some ⟨g, 0, none⟩) n c) (flL ls) ∧ Below w.heap.size w w' := by
  obtain ⟨a, c, rfl⟩ := h.form
  obtain ⟨n, hnn⟩ : ∃ n, n = ls.length := ⟨_, rfl⟩
  rw [← hnn] at h hn ⊢
  have H : Hid (RG 2 lnC w (.slice a n c) ls ∧ n = ls.length) := ⟨h, hnn⟩
  clear h hnn
  obtain ⟨i0, hi, hz0, hz1, hz2⟩ := info_parts info_i64
  have e2 : IntKind.i64.wrap (2 * (n : Int)) = 2 * (n : Int) := by rw [IntKind.wrap_i64]; omega
  go_enter Try.func56, Try.ntmps56
  go_wp2_with (at_make; refine wpList_make_own _ rfl _ _ 29 rfl w.heap.size 2 i0 (.int .i64 0) 1 Try.underlying29 hi hz0 hz1 _ _ _ (2 * n) rfl rfl (by omega) (by rw [hz2]; omega) (by unfold maxLen; omega) (Nat.le_refl _) ?_; intro w2 hown2 hgrow2)
  have HS : Hid (IS w2 w.heap.size (.slice (some ⟨w.heap.size, 0, none⟩) 0 (2 * n)) (flL (ls.take 0)) ∧ Below w.heap.size w w2) := ⟨by simpa [IS, flL] using hown2, (Below.refl _ _).grown hgrow2 (Nat.le_refl _) (fun k h => by cases h)⟩
  clear hown2 hgrow2
  go_loopw [3, 12] (fun o i wr => ∃ (k : Nat) (g m c : Nat), k ≤ n ∧ o = .slice (some ⟨g, 0, none⟩) m c ∧ i = .int .i64 k ∧ Hid (IS wr w.heap.size (.slice (some ⟨g, 0, none⟩) m c) (flL (ls.take k)) ∧ Below w.heap.size w wr)) (fun _ i _ => n - (intOf i).toNat)
  case atStart => exact ⟨0, _, _, _, Nat.zero_le _, rfl, rfl, HS.out⟩
  case round =>
    clear HS
    obtain ⟨k, g, m, cc, hk, rfl, rfl, hR⟩ := hrel
    by_cases hlt : k < n
    · have b0 : (0 : Int) ≤ (k : Int) := by omega
      have b1 : (k : Int) < (n : Int) := by omega
      have hkl : k < ls.length := by rw [← H.out.2]; exact hlt
      obtain ⟨gl, o, c2, he, hg, hj⟩ := (H.out.1.below hR.out.2).pos (by omega)
      simp only [Value.slice.injEq] at he
      obtain ⟨rfl, hx1, hx2⟩ := he
      clear hx1 hx2
      obtain ⟨c0, c1⟩ := lnC_at (hj k hkl)
      obtain ⟨x, hx⟩ : ∃ x, x = ls[k] := ⟨_, rfl⟩
      rw [← hx] at c0 c1
      have HST : Hid (flL (ls.take (k + 1)) = flL (ls.take k) ++ [x.f, x.t]) := by unfold Hid; rw [flL_take hkl, hx]
      have hlen : (flL (ls.take k)).length ≤ 200 := by rw [flL_len]; simp; omega
      have hm : m = (flL (ls.take k)).length := by obtain ⟨_, _, e⟩ := hR.out.1.form; injection e
      generalize flL (ls.take k) = cur at hR HST hlen hm ⊢
      have HM : Hid (m = cur.length) := hm
      have hm2 : m ≤ 200 := by omega
      have HO : Hid (∀ W : World, Below wr.heap.size wr W → W.ownsRow w.heap.size 2 1 (.slice (some ⟨g, 0, none⟩) m cc) m (cur.map (Value.int .i64))) := fun W hW => by
        have h := hR.out.1.bel hW
        unfold IS at h
        rw [← hm] at h
        exact h
      have HBL : Hid (Below w.heap.size w wr) := hR.out.2
      have hszo : w.heap.size ≤ wr.heap.size := hR.out.2.size
      clear hx hj hR hm hlen
      go_wp2_with (at_builtin; refine wpList_append_own _ rfl _ _ 29 rfl w.heap.size 2 i0 (.int .i64 0) 1 8 Try.underlying29 hi hz0 hz1 hz2 rfl (by decide) (.slice (some ⟨g, 0, none⟩) m cc) m (cur.map (Value.int .i64)) rfl (HO.out _ (by (repeat' (first | (with_reducible exact Below.refl _ _) | (with_reducible assumption) | (with_reducible refine Below.setCell ?_ ?_ _) | (with_reducible refine Below.alloc ?_ ?_ _) | (with_reducible refine below_drewN ?_ _) | (with_reducible refine Below.drew ?_) | (with_reducible exact Nat.le_refl _) | omega | (simp; done) | (simp; omega))))) ⟨wr.heap.size + 1, 0, none⟩ 2 2 [.int .i64 x.f, .int .i64 x.t] rfl rfl (World.news_of_block (cs := #[.int .i64 x.f, .int .i64 x.t]) (t := 2) (fr := (0, 0)) (by have := heap_alloc_new (wr.alloc (.cells #[.int .i64 x.f, .int .i64 x.t] 60)) (.cells #[.int .i64 x.f, .int .i64 x.t] 2); simpa using this)) (by simp [Value.oneCell']) (by unfold maxLen; omega) (by omega) (by simp; omega) ?_; intro v6 w6 hown6 hgrow6 hnn6)
      have R6 : Hid ((∃ g c, v6 = .slice (some ⟨g, 0, none⟩) (m + 2) c) ∧ IS w6 w.heap.size v6 (flL (ls.take (k + 1))) ∧ Below w.heap.size w w6) := by
        have hi6 : IS w6 w.heap.size v6 (cur ++ [x.f, x.t]) := IS.snoc2 (by rw [← HM.out]; exact hown6)
        refine ⟨?_, by rw [HST.out]; exact hi6, ?_⟩
        · rcases hown6.2 with ⟨_, h0⟩ | ⟨g, cap, cur, h1, _⟩
          · omega
          · exact ⟨g, cap, h1⟩
        · have hB := HBL.out
          refine (show Below w.heap.size w _ from by (repeat' (first | (with_reducible exact Below.refl _ _) | (with_reducible assumption) | (with_reducible refine Below.setCell ?_ ?_ _) | (with_reducible refine Below.alloc ?_ ?_ _) | (with_reducible refine below_drewN ?_ _) | (with_reducible refine Below.drew ?_) | (with_reducible exact Nat.le_refl _) | omega | (simp; done) | (simp; omega)))).grown hgrow6 (by simp; omega) (fun q hq => ?_)
          have := (World.ownsRow.lt (HO.out wr (Below.refl _ _)) q hq).1
          omega
      clear hown6 hgrow6 hnn6 HO HST HM
      obtain ⟨⟨g6, c6, hv6⟩, R6b⟩ := R6.out
      have R7 : Hid (IS w6 w.heap.size (.slice (some ⟨g6, 0, none⟩) (m + 2) c6) (flL (ls.take (k + 1))) ∧ Below w.heap.size w w6) := by rw [← hv6]; exact R6b
      clear R6 R6b
      subst hv6
      go_wp2
      go_roundw
      case rel => exact ⟨k + 1, _, _, _, by omega, rfl, by go_num, R7.out⟩
      case measure => simp [intOf]; omega
    · have b1 : ¬ (k : Int) < (n : Int) := by omega
      have HD : Hid (IS wr w.heap.size (.slice (some ⟨g, 0, none⟩) m cc) (flL ls) ∧ Below w.heap.size w wr) := by
        have h := hR.out
        rw [List.take_of_length_le (by rw [← H.out.2]; omega)] at h
        exact h
      clear hR
      go_wp2
      go_returns
      exact ⟨_, _, _, rfl, HD.out.1, HD.out.2⟩

end Go.Proofs.Ytfjcebgknpccbaa
