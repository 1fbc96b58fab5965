/- Proved here: shotBoxes of the program; what CheckShots tells: csC. -/
import Derived.Test.YtkbbhdnaemjamaaShF
import Derived.Test.YtkbbhdnaemjamaaMtI
import Derived.Test.YtkbbhdnaemjamaaIForm
namespace Go.Proofs.Ytkbbhdnaemjamaa
open Go.RowKit
set_option linter.unusedVariables false
set_option linter.unusedSimpArgs false

def boxesH (s : List Sh) : List Bx := s.map Sh.b
/-- One of the first k has a cell in common with one ahead of it. -/
def tkB (L : List Bx) (k : Nat) : Prop := ∃ i, i < k ∧ meetL (bat L i) (L.take i) = true
noncomputable instance (L : List Bx) (k : Nat) : Decidable (tkB L k) := Classical.propDecidable _
noncomputable def csC (l : List Sh) (s : List Bx) : Int :=
  if shF l = 0 then (if shapeK s = 0 then (if tkB (boxesH l) l.length then 7 else if 0 < (opOf (takesK 3) (boxesH l) s).length then 3 else if 0 < (opOf (takesK 3) s (boxesH l)).length then 4 else 0) else shapeK s) else shF l
theorem csK_zero {s : List Bx} (h : shapeK s = 0) : boxesK s = 0 := by
  unfold shapeK at h
  split at h
  · assumption
  · assumption
theorem bfK_ok {b : Bx} (h : bfK b = 0) : b.x0 < b.x1 ∧ b.y0 < b.y1 := by
  unfold bfK at h
  split at h
  · cases h
  · omega
theorem boxesH_len (l : List Sh) : (boxesH l).length = l.length := by simp [boxesH]
theorem boxesH_take (l : List Sh) (k : Nat) : boxesH (l.take k) = (boxesH l).take k := by simp [boxesH]
theorem boxesH_at {l : List Sh} {k : Nat} (h : k < l.length) : bat (boxesH l) k = l[k].b := by rw [bat_get (by rw [boxesH_len]; exact h)]; simp [boxesH]
theorem tkB_succ {L : List Bx} {k : Nat} (h : ¬ tkB L k) (h' : meetL (bat L k) (L.take k) = false) : ¬ tkB L (k + 1) := by
  rintro ⟨i, hi, e⟩
  rcases (by omega : i < k ∨ i = k) with h1 | rfl
  · exact h ⟨i, h1, e⟩
  · rw [h'] at e; cases e
structure SBx (w wr : World) (v : Value) (l : List Bx) : Prop where
  o : BS wr w.heap.size v l
  bl : Below w.heap.size w wr

set_option maxRecDepth 10000 in
set_option maxHeartbeats 4000000 in
theorem impl_shotB {w : World} {v : Value} {s : List Sh} (hn : s.length ≤ 40) (h : RG 5 shC w v s) :
    Calls Try.prog 51 #[v] w fun e w' => ∃ v', e = .returned v' ∧ BS w' w.heap.size v' (boxesH s) ∧ Below w.heap.size w w' := by
  obtain ⟨a, c, rfl⟩ := h.form
  have H : Hid (RG 5 shC w (.slice a s.length c) s) := h
  clear h
  obtain ⟨i0, hi0, hz0', hz1, hz2⟩ := info_parts info_box
  obtain ⟨n, hnn⟩ : ∃ n, n = s.length := ⟨_, rfl⟩
  have HN : Hid (n = s.length) := hnn
  rw [← hnn] at H hn ⊢
  clear hnn
  go_enter Try.func51, Try.ntmps51
  go_wp2_with (at_make; refine wpList_make_own _ rfl _ _ 41 rfl w.heap.size 34 i0 (.agg #[.int .i64 0, .int .i64 0, .int .i64 0, .int .i64 0]) 4 Try.underlying41 hi0 hz0' hz1 _ _ _ n rfl rfl rfl (by rw [hz2]; omega) (by unfold maxLen; omega) (by omega) ?_; intro w2 hown2 hgrow2)
  have M2 : Hid (SBx w w2 (.slice (some ⟨w.heap.size, 0, none⟩) 0 n) []) := by
    have hb := (Below.refl w.heap.size w).grown hgrow2 (Nat.le_refl _) (fun k h => by cases h)
    exact ⟨hown2, hb⟩
  clear hown2 hgrow2
  go_loopw [3, 11] (fun vo i wr => ∃ (k : Nat), k ≤ n ∧ i = .int .i64 k ∧ Hid (SBx w wr vo (boxesH (s.take k)))) (fun _ i _ => n - (intOf i).toNat)
  case atStart => exact ⟨0, Nat.zero_le _, rfl, M2.out⟩
  case round =>
    clear M2
    obtain ⟨k, hk, rfl, hR⟩ := hrel
    by_cases hlt : k < n
    · have hkl : k < s.length := by rw [← HN.out]; exact hlt
      obtain ⟨g, o, c2, he, hg, hj⟩ := (H.out.below hR.out.bl).pos (by rw [← HN.out]; omega)
      simp only [Value.slice.injEq] at he
      obtain ⟨rfl, hx1, hx2⟩ := he
      clear hx1 hx2
      obtain ⟨c0, c1, c2, c3, c4⟩ := shC_at (hj k hkl)
      obtain ⟨x, hx⟩ : ∃ x, x = s[k] := ⟨_, rfl⟩
      rw [← hx] at c0 c1 c2 c3 c4
      have HST : Hid (boxesH (s.take (k + 1)) = boxesH (s.take k) ++ [x.b]) := by
        unfold Hid boxesH
        rw [List.take_succ_eq_append_getElem hkl, ← hx]
        simp
      have hlen : (boxesH (s.take k)).length = k := by rw [boxesH_len, List.length_take]; omega
      obtain ⟨oa, oc, hof⟩ := hR.out.o.form
      subst hof
      have HM : Hid (SBx w wr (.slice oa (boxesH (s.take k)).length oc) (boxesH (s.take k))) := hR.out
      have hsz := hR.out.bl.size
      clear hx hj hR
      generalize boxesH (s.take k) = out at HM HST hlen ⊢
      have b0 : (0 : Int) ≤ (k : Int) := by omega
      have b1 : (k : Int) < (n : Int) := by omega
      go_wp2_with (at_builtin; refine wpList_append_own _ rfl _ _ 41 rfl w.heap.size 34 i0 (.agg #[.int .i64 0, .int .i64 0, .int .i64 0, .int .i64 0]) 4 32 Try.underlying41 hi0 hz0' hz1 hz2 rfl (by decide) _ _ _ rfl (World.ownsRow.alloc (World.ownsRow.alloc HM.out.o _) _) ⟨wr.heap.size + 1, 0, none⟩ 1 1 (bcells x.b) rfl rfl (World.news_of_block (cs := #[.int .i64 x.b.x0, .int .i64 x.b.y0, .int .i64 x.b.x1, .int .i64 x.b.y1]) (t := 34) (fr := (0, 0)) (sq_at1 wr _ _)) (by simp [bcells, Value.oneCell']) (by unfold maxLen; omega) (by omega) (by simp; omega) ?_; intro v5 w5 hown5 hgrow5 _)
      have R : Hid (SBx w w5 v5 (boxesH (s.take (k + 1)))) := by
        unfold Hid
        rw [HST.out]
        refine ⟨?_, ((HM.out.bl.alloc hsz _).alloc (by simp; omega) _).grown hgrow5 (by simp; omega) (fun k hk => (World.ownsRow.lt HM.out.o k hk).1)⟩
        unfold BS
        rw [bflat_append, List.length_append]
        have e : bflat [x.b] = bcells x.b := by simp [bflat]
        rw [e]; exact hown5
      clear hown5 hgrow5 HM HST c0 c1 c2 c3 c4
      go_wp2
      go_roundw
      case rel => exact ⟨k + 1, by omega, by go_num, R.out⟩
      case measure => simp [intOf]; omega
    · obtain rfl : k = n := by omega
      have HF : Hid (BS wr w.heap.size u3 (boxesH s) ∧ Below w.heap.size w wr) := by
        have h1 := hR.out
        rw [List.take_of_length_le (by rw [← HN.out]; exact Nat.le_refl _)] at h1
        exact ⟨h1.o, h1.bl⟩
      obtain ⟨oa, oc, hof⟩ := HF.out.1.form
      subst hof
      clear hR
      go_wp2
      go_returns
      exact ⟨_, rfl, HF.out.1, HF.out.2⟩

end Go.Proofs.Ytkbbhdnaemjamaa
