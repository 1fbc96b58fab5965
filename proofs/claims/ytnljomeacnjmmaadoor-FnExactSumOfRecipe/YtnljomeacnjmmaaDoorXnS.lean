/- Proved here: places of names in lists of parameters, settings and steps, of the model. -/
import Derived.Test.YtnljomeacnjmmaaDoorXrM
namespace Go.Proofs.YtnljomeacnjmmaaDoor
open Go.ChangeShapes Go.WideShapes Go.ChangeAt Go.RowKit Go.Joins
set_option linter.unusedVariables false
set_option linter.unusedSimpArgs false


set_option maxRecDepth 10000 in
set_option maxHeartbeats 3200000 in
theorem spec_atParam (r : Rr) (s : List Pm) (nm : ByteArray) {W : World} {n : Nat} (hN : r.pn ≤ 2000000) (hn : n ≤ r.pn) (hs : RG 4 pmC W (.slice r.pa r.pn r.pc) s) :
    Calls Tryd.prog 23 #[.agg #[.string r.nm, .slice r.pa r.pn r.pc, .slice r.sa r.sn r.sc], .int .i64 (n : Int), .string nm] W fun e w' => e = .returned (.int .i64 (atL ((s.take n).map (·.nm)) nm)) ∧ Below W.heap.size W w' := by
  have hml : r.pn = s.length := hs.len
  obtain ⟨G, hG⟩ : ∃ G, G = atL ((s.take n).map (·.nm)) nm := ⟨_, rfl⟩
  rw [← hG]
  have H : Hid (RG 4 pmC W (.slice r.pa r.pn r.pc) s ∧ r.pn = s.length ∧ G = atL ((s.take n).map (·.nm)) nm) := ⟨hs, hml, hG⟩
  clear hs hml hG
  go_enter Tryd.func23, Tryd.ntmps23
  go_wp2
  go_loopw [7] (fun i wr => ∃ t : Nat, t ≤ n ∧ i = .int .i64 t ∧ Hid ((∀ i (h : i < s.length), i < t → ¬ (s[i]).nm = nm) ∧ Below W.heap.size W wr ∧ wr.heap[W.heap.size]? = some (.cells #[.string r.nm, .slice r.pa r.pn r.pc, .slice r.sa r.sn r.sc] 33))) (fun i _ => n - (intOf i).toNat)
  case atStart => exact ⟨0, Nat.zero_le _, rfl, fun i _ hi => by omega, by (repeat' (first | (with_reducible exact Below.refl _ _) | (with_reducible assumption) | (with_reducible refine Below.setCell ?_ ?_ _) | (with_reducible refine Below.alloc ?_ ?_ _) | (with_reducible refine below_drewN ?_ _) | (with_reducible refine Below.drew ?_) | (with_reducible exact Nat.le_refl _) | omega | (simp; done) | (simp; omega))), heap_alloc_new _ _⟩
  case round =>
    obtain ⟨t, ht, rfl, hR⟩ := hrel
    by_cases hlt : t < n
    · have htl : t < s.length := by rw [← H.out.2.1]; omega
      obtain ⟨g, o, c2, he, hg, hj⟩ := (H.out.1.below hR.out.2.1).pos (by omega)
      simp only [Value.slice.injEq] at he
      obtain ⟨hx0, hx1, hx2⟩ := he
      clear hx1 hx2
      obtain ⟨c0, c1, c2, c3⟩ := pmC_at (hj t htl)
      obtain ⟨x, hx⟩ : ∃ x, x = s[t] := ⟨_, rfl⟩
      rw [← hx] at c0 c1 c2 c3
      have b0 : (0 : Int) ≤ (t : Int) := by omega
      have b1 : (t : Int) < (r.pn : Int) := by omega
      obtain ⟨p0, p1, p2, pf, pl⟩ := three_at hR.out.2.2
      clear pf
      rw [hx0] at p1
      by_cases hq : x.nm = nm
      · have HG : Hid (G = (t : Int)) := by
          unfold Hid; rw [H.out.2.2]
          exact atL_some (by simp; omega) (fun i hi hit => by simpa using hR.out.1 i (by simp at hi; omega) hit) (by simpa [← hx] using hq)
        have HB : Hid (Below W.heap.size W wr) := hR.out.2.1
        rw [hq] at c0
        clear hj hx hq hR
        go_wp2
        go_returns
        exact ⟨by rw [HG.out]; rfl, HB.out⟩
      · have HG : Hid (∀ i (h : i < s.length), i < t + 1 → ¬ (s[i]).nm = nm) := fun i hi hit => by
          rcases (by omega : i < t ∨ i = t) with h | rfl
          · exact hR.out.1 i hi h
          · rw [← hx]; exact hq
        have HB : Hid (Below W.heap.size W wr ∧ wr.heap[W.heap.size]? = some (.cells #[.string r.nm, .slice r.pa r.pn r.pc, .slice r.sa r.sn r.sc] 33)) := hR.out.2
        have e1 := str_ne hq
        clear hj hx hq hR
        go_wp2
        go_roundw
        case rel => exact ⟨t + 1, by omega, by go_num, HG.out, HB.out⟩
        case measure => simp [intOf]; omega
    · have HM : Hid (G = -1) := by
        unfold Hid; rw [H.out.2.2]
        exact atL_none (fun i hi => by simpa using hR.out.1 i (by simp at hi; omega) (by simp at hi; omega))
      have HB : Hid (Below W.heap.size W wr) := hR.out.2.1
      clear hR
      go_wp2
      go_returns
      exact ⟨by rw [HM.out]; rfl, HB.out⟩

set_option maxRecDepth 10000 in
set_option maxHeartbeats 3200000 in
theorem spec_atSetting {a : Option Addr} {N c : Nat} (s : List Se) (nm : ByteArray) {W : World} {n : Nat} (hN : N ≤ 2000000) (hn : n ≤ N) (hs : RG 4 seC W (.slice a N c) s) :
    Calls Tryd.prog 44 #[.slice a N c, .int .i64 (n : Int), .string nm] W fun e w' => e = .returned (.int .i64 (atL ((s.take n).map (·.nm)) nm)) ∧ Below W.heap.size W w' := by
  have hml : N = s.length := hs.len
  obtain ⟨G, hG⟩ : ∃ G, G = atL ((s.take n).map (·.nm)) nm := ⟨_, rfl⟩
  rw [← hG]
  have H : Hid (RG 4 seC W (.slice a N c) s ∧ N = s.length ∧ G = atL ((s.take n).map (·.nm)) nm) := ⟨hs, hml, hG⟩
  clear hs hml hG
  go_enter Tryd.func44, Tryd.ntmps44
  go_wp2
  go_loopw [7] (fun i wr => ∃ t : Nat, t ≤ n ∧ i = .int .i64 t ∧ Hid ((∀ i (h : i < s.length), i < t → ¬ (s[i]).nm = nm) ∧ Below W.heap.size W wr)) (fun i _ => n - (intOf i).toNat)
  case atStart => exact ⟨0, Nat.zero_le _, rfl, fun i _ hi => by omega, Below.refl _ _⟩
  case round =>
    obtain ⟨t, ht, rfl, hR⟩ := hrel
    by_cases hlt : t < n
    · have htl : t < s.length := by rw [← H.out.2.1]; omega
      obtain ⟨g, o, c2, he, hg, hj⟩ := (H.out.1.below hR.out.2).pos (by omega)
      simp only [Value.slice.injEq] at he
      obtain ⟨hx0, hx1, hx2⟩ := he
      subst hx0
      clear hx1 hx2
      obtain ⟨c0, c1, c2, c3⟩ := seC_at (hj t htl)
      obtain ⟨x, hx⟩ : ∃ x, x = s[t] := ⟨_, rfl⟩
      rw [← hx] at c0 c1 c2 c3
      have b0 : (0 : Int) ≤ (t : Int) := by omega
      have b1 : (t : Int) < (N : Int) := by omega
      by_cases hq : x.nm = nm
      · have HG : Hid (G = (t : Int)) := by
          unfold Hid; rw [H.out.2.2]
          exact atL_some (by simp; omega) (fun i hi hit => by simpa using hR.out.1 i (by simp at hi; omega) hit) (by simpa [← hx] using hq)
        have HB : Hid (Below W.heap.size W wr) := hR.out.2
        rw [hq] at c0
        clear hj hx hq hR
        go_wp2
        go_returns
        exact ⟨by rw [HG.out]; rfl, HB.out⟩
      · have HG : Hid (∀ i (h : i < s.length), i < t + 1 → ¬ (s[i]).nm = nm) := fun i hi hit => by
          rcases (by omega : i < t ∨ i = t) with h | rfl
          · exact hR.out.1 i hi h
          · rw [← hx]; exact hq
        have HB : Hid (Below W.heap.size W wr) := hR.out.2
        have e1 := str_ne hq
        clear hj hx hq hR
        go_wp2
        go_roundw
        case rel => exact ⟨t + 1, by omega, by go_num, HG.out, HB.out⟩
        case measure => simp [intOf]; omega
    · have HM : Hid (G = -1) := by
        unfold Hid; rw [H.out.2.2]
        exact atL_none (fun i hi => by simpa using hR.out.1 i (by simp at hi; omega) (by simp at hi; omega))
      have HB : Hid (Below W.heap.size W wr) := hR.out.2
      clear hR
      go_wp2
      go_returns
      exact ⟨by rw [HM.out]; rfl, HB.out⟩

set_option maxRecDepth 10000 in
set_option maxHeartbeats 3200000 in
theorem spec_atRecipeStep {a : Option Addr} {N c : Nat} (s : List Rs) (nm : ByteArray) {W : World} {n : Nat} (hN : N ≤ 2000000) (hn : n ≤ N) (hs : RG 5 rsC W (.slice a N c) s) :
    Calls Tryd.prog 42 #[.slice a N c, .int .i64 (n : Int), .string nm] W fun e w' => e = .returned (.int .i64 (atL ((s.take n).map (·.nm)) nm)) ∧ Below W.heap.size W w' := by
  have hml : N = s.length := hs.len
  obtain ⟨G, hG⟩ : ∃ G, G = atL ((s.take n).map (·.nm)) nm := ⟨_, rfl⟩
  rw [← hG]
  have H : Hid (RG 5 rsC W (.slice a N c) s ∧ N = s.length ∧ G = atL ((s.take n).map (·.nm)) nm) := ⟨hs, hml, hG⟩
  clear hs hml hG
  go_enter Tryd.func42, Tryd.ntmps42
  go_wp2
  go_loopw [7] (fun i wr => ∃ t : Nat, t ≤ n ∧ i = .int .i64 t ∧ Hid ((∀ i (h : i < s.length), i < t → ¬ (s[i]).nm = nm) ∧ Below W.heap.size W wr)) (fun i _ => n - (intOf i).toNat)
  case atStart => exact ⟨0, Nat.zero_le _, rfl, fun i _ hi => by omega, Below.refl _ _⟩
  case round =>
    obtain ⟨t, ht, rfl, hR⟩ := hrel
    by_cases hlt : t < n
    · have htl : t < s.length := by rw [← H.out.2.1]; omega
      obtain ⟨g, o, c2, he, hg, hj⟩ := (H.out.1.below hR.out.2).pos (by omega)
      simp only [Value.slice.injEq] at he
      obtain ⟨hx0, hx1, hx2⟩ := he
      subst hx0
      clear hx1 hx2
      obtain ⟨c0, c1, c2, c3, c4⟩ := rsC_at (hj t htl)
      obtain ⟨x, hx⟩ : ∃ x, x = s[t] := ⟨_, rfl⟩
      rw [← hx] at c0 c1 c2 c3 c4
      have b0 : (0 : Int) ≤ (t : Int) := by omega
      have b1 : (t : Int) < (N : Int) := by omega
      by_cases hq : x.nm = nm
      · have HG : Hid (G = (t : Int)) := by
          unfold Hid; rw [H.out.2.2]
          exact atL_some (by simp; omega) (fun i hi hit => by simpa using hR.out.1 i (by simp at hi; omega) hit) (by simpa [← hx] using hq)
        have HB : Hid (Below W.heap.size W wr) := hR.out.2
        rw [hq] at c0
        clear hj hx hq hR
        go_wp2
        go_returns
        exact ⟨by rw [HG.out]; rfl, HB.out⟩
      · have HG : Hid (∀ i (h : i < s.length), i < t + 1 → ¬ (s[i]).nm = nm) := fun i hi hit => by
          rcases (by omega : i < t ∨ i = t) with h | rfl
          · exact hR.out.1 i hi h
          · rw [← hx]; exact hq
        have HB : Hid (Below W.heap.size W wr) := hR.out.2
        have e1 := str_ne hq
        clear hj hx hq hR
        go_wp2
        go_roundw
        case rel => exact ⟨t + 1, by omega, by go_num, HG.out, HB.out⟩
        case measure => simp [intOf]; omega
    · have HM : Hid (G = -1) := by
        unfold Hid; rw [H.out.2.2]
        exact atL_none (fun i hi => by simpa using hR.out.1 i (by simp at hi; omega) (by simp at hi; omega))
      have HB : Hid (Below W.heap.size W wr) := hR.out.2
      clear hR
      go_wp2
      go_returns
      exact ⟨by rw [HM.out]; rfl, HB.out⟩

end Go.Proofs.YtnljomeacnjmmaaDoor
