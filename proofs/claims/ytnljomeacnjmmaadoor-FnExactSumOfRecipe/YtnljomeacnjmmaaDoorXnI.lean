/- Proved here: places of names in lists of parameters, settings and steps, of the program. -/
import Derived.Test.YtnljomeacnjmmaaDoorXrM
namespace Go.Proofs.YtnljomeacnjmmaaDoor
open Go.ChangeShapes Go.WideShapes Go.ChangeAt Go.RowKit Go.Joins
set_option linter.unusedVariables false
set_option linter.unusedSimpArgs false


set_option maxRecDepth 10000 in
set_option maxHeartbeats 1600000 in
theorem impl_cloParam (x : Pm) (nm : ByteArray) {W : World} {p : Nat} (hN : W.heap[p]? = some (.cells #[.string nm] 9)) :
    Calls Tryd.prog 66 #[.agg #[.string x.nm, .int .i64 x.lo, .int .i64 x.hi, .int .i64 x.ba], .pointer (some ⟨p, 0, none⟩)] W fun e w' => e = .returned (.bool (decide (x.nm = nm))) ∧ Below W.heap.size W w' := by
  have q0 : W.cell? ⟨p, 0, none⟩ = some (.string nm) := by simp [World.cell?, hN]
  have ql : p < W.heap.size := ltQ hN
  obtain ⟨b, hb⟩ : ∃ b, b = decide (x.nm = nm) := ⟨_, rfl⟩
  rw [← hb]
  clear hN
  by_cases h : x.nm = nm
  · have hb' : b = true := by rw [hb]; exact decide_eq_true h
    subst hb'
    clear hb
    have e1 : (x.nm.toList == (nm).toList) = true := by rw [h]; simp
    rw [← h] at q0
    clear h e1
    go_enter Tryd.func66, Tryd.ntmps66
    go_wp2
    go_returns
    exact ⟨rfl, by (repeat' (first | (with_reducible exact Below.refl _ _) | (with_reducible assumption) | (with_reducible refine Below.setCell ?_ ?_ _) | (with_reducible refine Below.alloc ?_ ?_ _) | (with_reducible refine below_drewN ?_ _) | (with_reducible refine Below.drew ?_) | (with_reducible exact Nat.le_refl _) | omega | (simp; done) | (simp; omega)))⟩
  · have hb' : b = false := by rw [hb]; exact decide_eq_false h
    subst hb'
    clear hb
    have e1 := str_ne h
    go_enter Tryd.func66, Tryd.ntmps66
    go_wp2
    go_returns
    exact ⟨rfl, by (repeat' (first | (with_reducible exact Below.refl _ _) | (with_reducible assumption) | (with_reducible refine Below.setCell ?_ ?_ _) | (with_reducible refine Below.alloc ?_ ?_ _) | (with_reducible refine below_drewN ?_ _) | (with_reducible refine Below.drew ?_) | (with_reducible exact Nat.le_refl _) | omega | (simp; done) | (simp; omega)))⟩
set_option maxRecDepth 10000 in
set_option maxHeartbeats 3200000 in
theorem impl_ixParam (s : List Pm) (nm : ByteArray) {W : World} {p n c : Nat} {a : Option Addr} (hn : n ≤ 2000000) (hs : RG 4 pmC W (.slice a n c) s) (hN : W.heap[p]? = some (.cells #[.string nm] 9)) :
    Calls Tryd.prog 65 #[.slice a n c, .func (Fn.func 66) #[] #[.pointer (some ⟨p, 0, none⟩)]] W fun e w' => e = .returned (.int .i64 (atL (s.map (·.nm)) nm)) ∧ Below W.heap.size W w' := by
  have hml : n = s.length := hs.len
  obtain ⟨G, hG⟩ : ∃ G, G = atL (s.map (·.nm)) nm := ⟨_, rfl⟩
  rw [← hG]
  have H : Hid (RG 4 pmC W (.slice a n c) s ∧ n = s.length ∧ G = atL (s.map (·.nm)) nm) := ⟨hs, hml, hG⟩
  have HC : Hid (∀ x : Pm, ∀ X, Below W.heap.size W X → Calls Tryd.prog 66 #[.agg #[.string x.nm, .int .i64 x.lo, .int .i64 x.hi, .int .i64 x.ba], .pointer (some ⟨p, 0, none⟩)] X fun e w' => e = .returned (.bool (decide (x.nm = nm))) ∧ Below X.heap.size X w') := fun x X hb => impl_cloParam x nm ((hb.block _ (ltQ hN)).trans hN)
  clear hs hml hG hN
  go_enter Tryd.func65, Tryd.ntmps65
  go_wp2
  go_loopw [8] (fun i wr => ∃ t : Nat, t ≤ n ∧ i = .int .i64 t ∧ Hid ((∀ i (h : i < s.length), i < t → ¬ (s[i]).nm = nm) ∧ Below W.heap.size W wr)) (fun i _ => n - (intOf i).toNat)
  case atStart => exact ⟨0, Nat.zero_le _, rfl, fun i _ hi => by omega, Below.refl _ _⟩
  case round =>
    obtain ⟨t, ht, rfl, hR⟩ := hrel
    by_cases hlt : t < n
    · have htl : t < s.length := by rw [← H.out.2.1]; exact hlt
      obtain ⟨g, o, c2, he, hg, hj⟩ := (H.out.1.below hR.out.2).pos (by omega)
      simp only [Value.slice.injEq] at he
      obtain ⟨rfl, hx1, hx2⟩ := he
      clear hx1 hx2
      obtain ⟨c0, c1, c2, c3⟩ := pmC_at (hj t htl)
      obtain ⟨x, hx⟩ : ∃ x, x = s[t] := ⟨_, rfl⟩
      rw [← hx] at c0 c1 c2 c3
      obtain ⟨q, hq⟩ : ∃ q, q = decide (x.nm = nm) := ⟨_, rfl⟩
      have HQ : Hid ((q = true → G = (t : Int)) ∧ (q = false → ∀ i (h : i < s.length), i < t + 1 → ¬ (s[i]).nm = nm)) := by
        refine ⟨fun e => ?_, fun e i hi hit => ?_⟩
        · rw [hq, decide_eq_true_eq] at e
          rw [H.out.2.2]
          exact atL_some (by simpa using htl) (fun i hi hit => by simpa using hR.out.1 i (by simpa using hi) hit) (by simpa [← hx] using e)
        · rw [hq, decide_eq_false_iff_not] at e
          rcases (by omega : i < t ∨ i = t) with h | rfl
          · exact hR.out.1 i hi h
          · rw [← hx]; exact e
      have HC2 : Hid (Calls Tryd.prog 66 #[.agg #[.string x.nm, .int .i64 x.lo, .int .i64 x.hi, .int .i64 x.ba], .pointer (some ⟨p, 0, none⟩)] wr fun e w' => e = .returned (.bool q) ∧ Below wr.heap.size wr w') := by rw [hq]; exact HC.out x wr hR.out.2
      clear hj hx hq
      have b0 : (0 : Int) ≤ (t : Int) := by omega
      have b1 : (t : Int) < (n : Int) := by omega
      go_wp2_with (fail)
      refine HC2.out.mono ?_
      rintro e w5 ⟨rfl, hb5⟩
      have HB : Hid (Below W.heap.size W w5) := hR.out.2.trans (hb5.mono hR.out.2.size)
      clear HC2 hb5 hR c0 c1 c2 c3 hg
      cases q with
      | true =>
        have HG : Hid (G = (t : Int)) := HQ.out.1 rfl
        clear HQ
        go_wp2
        go_returns
        exact ⟨by rw [HG.out]; rfl, HB.out⟩
      | false =>
        have HG : Hid (∀ i (h : i < s.length), i < t + 1 → ¬ (s[i]).nm = nm) := HQ.out.2 rfl
        clear HQ
        go_wp2
        go_roundw
        case rel => exact ⟨t + 1, by omega, by go_num, HG.out, HB.out⟩
        case measure => simp [intOf]; omega
    · have HM : Hid (G = -1) := by
        unfold Hid; rw [H.out.2.2]
        exact atL_none (fun i hi => by simpa using hR.out.1 i (by simpa using hi) (by simp at hi; have := H.out.2.1; omega))
      go_wp2
      go_returns
      exact ⟨by rw [HM.out]; rfl, hR.out.2⟩

set_option maxHeartbeats 1600000 in
theorem impl_atParam (s : List Pm) (nm : ByteArray) {W : World} {n c : Nat} {a : Option Addr} (hn : n ≤ 2000000) (hs : RG 4 pmC W (.slice a n c) s) :
    Calls Tryd.prog 51 #[.slice a n c, .string nm] W fun e w' => e = .returned (.int .i64 (atL (s.map (·.nm)) nm)) ∧ Below W.heap.size W w' := by
  obtain ⟨Z, hZ⟩ : ∃ Z, Z = atL (s.map (·.nm)) nm := ⟨_, rfl⟩
  have HC : Hid (Calls Tryd.prog 65 #[.slice a n c, .func (Fn.func 66) #[] #[.pointer (some ⟨W.heap.size, 0, none⟩)]] (W.alloc (.cells #[.string nm] 9)) fun e w' => e = .returned (.int .i64 Z) ∧ Below (W.alloc (.cells #[.string nm] 9)).heap.size (W.alloc (.cells #[.string nm] 9)) w') := by
    rw [hZ]
    exact impl_ixParam s nm hn (hs.below (by (repeat' (first | (with_reducible exact Below.refl _ _) | (with_reducible assumption) | (with_reducible refine Below.setCell ?_ ?_ _) | (with_reducible refine Below.alloc ?_ ?_ _) | (with_reducible refine below_drewN ?_ _) | (with_reducible refine Below.drew ?_) | (with_reducible exact Nat.le_refl _) | omega | (simp; done) | (simp; omega))))) (heap_alloc_new _ _)
  rw [← hZ]
  clear hZ hs
  go_enter Tryd.func51, Tryd.ntmps51
  go_wp2_with (fail)
  refine HC.out.mono ?_
  rintro e w5 ⟨rfl, hb⟩
  have HB : Hid (Below W.heap.size W w5) := (show Below W.heap.size W (W.alloc (.cells #[.string nm] 9)) by (repeat' (first | (with_reducible exact Below.refl _ _) | (with_reducible assumption) | (with_reducible refine Below.setCell ?_ ?_ _) | (with_reducible refine Below.alloc ?_ ?_ _) | (with_reducible refine below_drewN ?_ _) | (with_reducible refine Below.drew ?_) | (with_reducible exact Nat.le_refl _) | omega | (simp; done) | (simp; omega)))).trans (hb.mono (by simp))
  clear hb HC
  go_wp2
  go_returns
  exact ⟨rfl, HB.out⟩

set_option maxRecDepth 10000 in
set_option maxHeartbeats 1600000 in
theorem impl_cloSetting (x : Se) (nm : ByteArray) {W : World} {p : Nat} (hN : W.heap[p]? = some (.cells #[.string nm] 9)) :
    Calls Tryd.prog 74 #[.agg #[.string x.nm, .int .i64 x.v.k, .int .i64 x.v.n, .string x.v.s], .pointer (some ⟨p, 0, none⟩)] W fun e w' => e = .returned (.bool (decide (x.nm = nm))) ∧ Below W.heap.size W w' := by
  have q0 : W.cell? ⟨p, 0, none⟩ = some (.string nm) := by simp [World.cell?, hN]
  have ql : p < W.heap.size := ltQ hN
  obtain ⟨b, hb⟩ : ∃ b, b = decide (x.nm = nm) := ⟨_, rfl⟩
  rw [← hb]
  clear hN
  by_cases h : x.nm = nm
  · have hb' : b = true := by rw [hb]; exact decide_eq_true h
    subst hb'
    clear hb
    have e1 : (x.nm.toList == (nm).toList) = true := by rw [h]; simp
    rw [← h] at q0
    clear h e1
    go_enter Tryd.func74, Tryd.ntmps74
    go_wp2
    go_returns
    exact ⟨rfl, by (repeat' (first | (with_reducible exact Below.refl _ _) | (with_reducible assumption) | (with_reducible refine Below.setCell ?_ ?_ _) | (with_reducible refine Below.alloc ?_ ?_ _) | (with_reducible refine below_drewN ?_ _) | (with_reducible refine Below.drew ?_) | (with_reducible exact Nat.le_refl _) | omega | (simp; done) | (simp; omega)))⟩
  · have hb' : b = false := by rw [hb]; exact decide_eq_false h
    subst hb'
    clear hb
    have e1 := str_ne h
    go_enter Tryd.func74, Tryd.ntmps74
    go_wp2
    go_returns
    exact ⟨rfl, by (repeat' (first | (with_reducible exact Below.refl _ _) | (with_reducible assumption) | (with_reducible refine Below.setCell ?_ ?_ _) | (with_reducible refine Below.alloc ?_ ?_ _) | (with_reducible refine below_drewN ?_ _) | (with_reducible refine Below.drew ?_) | (with_reducible exact Nat.le_refl _) | omega | (simp; done) | (simp; omega)))⟩
set_option maxRecDepth 10000 in
set_option maxHeartbeats 3200000 in
theorem impl_ixSetting (s : List Se) (nm : ByteArray) {W : World} {p n c : Nat} {a : Option Addr} (hn : n ≤ 2000000) (hs : RG 4 seC W (.slice a n c) s) (hN : W.heap[p]? = some (.cells #[.string nm] 9)) :
    Calls Tryd.prog 73 #[.slice a n c, .func (Fn.func 74) #[] #[.pointer (some ⟨p, 0, none⟩)]] W fun e w' => e = .returned (.int .i64 (atL (s.map (·.nm)) nm)) ∧ Below W.heap.size W w' := by
  have hml : n = s.length := hs.len
  obtain ⟨G, hG⟩ : ∃ G, G = atL (s.map (·.nm)) nm := ⟨_, rfl⟩
  rw [← hG]
  have H : Hid (RG 4 seC W (.slice a n c) s ∧ n = s.length ∧ G = atL (s.map (·.nm)) nm) := ⟨hs, hml, hG⟩
  have HC : Hid (∀ x : Se, ∀ X, Below W.heap.size W X → Calls Tryd.prog 74 #[.agg #[.string x.nm, .int .i64 x.v.k, .int .i64 x.v.n, .string x.v.s], .pointer (some ⟨p, 0, none⟩)] X fun e w' => e = .returned (.bool (decide (x.nm = nm))) ∧ Below X.heap.size X w') := fun x X hb => impl_cloSetting x nm ((hb.block _ (ltQ hN)).trans hN)
  clear hs hml hG hN
  go_enter Tryd.func73, Tryd.ntmps73
  go_wp2
  go_loopw [8] (fun i wr => ∃ t : Nat, t ≤ n ∧ i = .int .i64 t ∧ Hid ((∀ i (h : i < s.length), i < t → ¬ (s[i]).nm = nm) ∧ Below W.heap.size W wr)) (fun i _ => n - (intOf i).toNat)
  case atStart => exact ⟨0, Nat.zero_le _, rfl, fun i _ hi => by omega, Below.refl _ _⟩
  case round =>
    obtain ⟨t, ht, rfl, hR⟩ := hrel
    by_cases hlt : t < n
    · have htl : t < s.length := by rw [← H.out.2.1]; exact hlt
      obtain ⟨g, o, c2, he, hg, hj⟩ := (H.out.1.below hR.out.2).pos (by omega)
      simp only [Value.slice.injEq] at he
      obtain ⟨rfl, hx1, hx2⟩ := he
      clear hx1 hx2
      obtain ⟨c0, c1, c2, c3⟩ := seC_at (hj t htl)
      obtain ⟨x, hx⟩ : ∃ x, x = s[t] := ⟨_, rfl⟩
      rw [← hx] at c0 c1 c2 c3
      obtain ⟨q, hq⟩ : ∃ q, q = decide (x.nm = nm) := ⟨_, rfl⟩
      have HQ : Hid ((q = true → G = (t : Int)) ∧ (q = false → ∀ i (h : i < s.length), i < t + 1 → ¬ (s[i]).nm = nm)) := by
        refine ⟨fun e => ?_, fun e i hi hit => ?_⟩
        · rw [hq, decide_eq_true_eq] at e
          rw [H.out.2.2]
          exact atL_some (by simpa using htl) (fun i hi hit => by simpa using hR.out.1 i (by simpa using hi) hit) (by simpa [← hx] using e)
        · rw [hq, decide_eq_false_iff_not] at e
          rcases (by omega : i < t ∨ i = t) with h | rfl
          · exact hR.out.1 i hi h
          · rw [← hx]; exact e
      have HC2 : Hid (Calls Tryd.prog 74 #[.agg #[.string x.nm, .int .i64 x.v.k, .int .i64 x.v.n, .string x.v.s], .pointer (some ⟨p, 0, none⟩)] wr fun e w' => e = .returned (.bool q) ∧ Below wr.heap.size wr w') := by rw [hq]; exact HC.out x wr hR.out.2
      clear hj hx hq
      have b0 : (0 : Int) ≤ (t : Int) := by omega
      have b1 : (t : Int) < (n : Int) := by omega
      go_wp2_with (fail)
      refine HC2.out.mono ?_
      rintro e w5 ⟨rfl, hb5⟩
      have HB : Hid (Below W.heap.size W w5) := hR.out.2.trans (hb5.mono hR.out.2.size)
      clear HC2 hb5 hR c0 c1 c2 c3 hg
      cases q with
      | true =>
        have HG : Hid (G = (t : Int)) := HQ.out.1 rfl
        clear HQ
        go_wp2
        go_returns
        exact ⟨by rw [HG.out]; rfl, HB.out⟩
      | false =>
        have HG : Hid (∀ i (h : i < s.length), i < t + 1 → ¬ (s[i]).nm = nm) := HQ.out.2 rfl
        clear HQ
        go_wp2
        go_roundw
        case rel => exact ⟨t + 1, by omega, by go_num, HG.out, HB.out⟩
        case measure => simp [intOf]; omega
    · have HM : Hid (G = -1) := by
        unfold Hid; rw [H.out.2.2]
        exact atL_none (fun i hi => by simpa using hR.out.1 i (by simpa using hi) (by simp at hi; have := H.out.2.1; omega))
      go_wp2
      go_returns
      exact ⟨by rw [HM.out]; rfl, hR.out.2⟩

set_option maxHeartbeats 1600000 in
theorem impl_atSetting (s : List Se) (nm : ByteArray) {W : World} {n c : Nat} {a : Option Addr} (hn : n ≤ 2000000) (hs : RG 4 seC W (.slice a n c) s) :
    Calls Tryd.prog 69 #[.slice a n c, .string nm] W fun e w' => e = .returned (.int .i64 (atL (s.map (·.nm)) nm)) ∧ Below W.heap.size W w' := by
  obtain ⟨Z, hZ⟩ : ∃ Z, Z = atL (s.map (·.nm)) nm := ⟨_, rfl⟩
  have HC : Hid (Calls Tryd.prog 73 #[.slice a n c, .func (Fn.func 74) #[] #[.pointer (some ⟨W.heap.size, 0, none⟩)]] (W.alloc (.cells #[.string nm] 9)) fun e w' => e = .returned (.int .i64 Z) ∧ Below (W.alloc (.cells #[.string nm] 9)).heap.size (W.alloc (.cells #[.string nm] 9)) w') := by
    rw [hZ]
    exact impl_ixSetting s nm hn (hs.below (by (repeat' (first | (with_reducible exact Below.refl _ _) | (with_reducible assumption) | (with_reducible refine Below.setCell ?_ ?_ _) | (with_reducible refine Below.alloc ?_ ?_ _) | (with_reducible refine below_drewN ?_ _) | (with_reducible refine Below.drew ?_) | (with_reducible exact Nat.le_refl _) | omega | (simp; done) | (simp; omega))))) (heap_alloc_new _ _)
  rw [← hZ]
  clear hZ hs
  go_enter Tryd.func69, Tryd.ntmps69
  go_wp2_with (fail)
  refine HC.out.mono ?_
  rintro e w5 ⟨rfl, hb⟩
  have HB : Hid (Below W.heap.size W w5) := (show Below W.heap.size W (W.alloc (.cells #[.string nm] 9)) by (repeat' (first | (with_reducible exact Below.refl _ _) | (with_reducible assumption) | (with_reducible refine Below.setCell ?_ ?_ _) | (with_reducible refine Below.alloc ?_ ?_ _) | (with_reducible refine below_drewN ?_ _) | (with_reducible refine Below.drew ?_) | (with_reducible exact Nat.le_refl _) | omega | (simp; done) | (simp; omega)))).trans (hb.mono (by simp))
  clear hb HC
  go_wp2
  go_returns
  exact ⟨rfl, HB.out⟩

set_option maxRecDepth 10000 in
set_option maxHeartbeats 1600000 in
theorem impl_cloRecipeStep (x : Rs) (y : Rs) {W : World} {p : Nat} (hN : W.heap[p]? = some (.cells #[.string y.nm, .int .i64 y.t.k, .int .i64 y.t.n, .string y.t.s, .slice y.sa y.sn y.sc] 64)) :
    Calls Tryd.prog 54 #[.agg #[.string x.nm, .int .i64 x.t.k, .int .i64 x.t.n, .string x.t.s, .slice x.sa x.sn x.sc], .pointer (some ⟨p, 0, none⟩)] W fun e w' => e = .returned (.bool (decide (x.nm = y.nm))) ∧ Below W.heap.size W w' := by
  obtain ⟨q0, q1, q2, q3, q4, qf, ql⟩ := five_at hN
  clear qf
  obtain ⟨b, hb⟩ : ∃ b, b = decide (x.nm = y.nm) := ⟨_, rfl⟩
  rw [← hb]
  clear hN
  by_cases h : x.nm = y.nm
  · have hb' : b = true := by rw [hb]; exact decide_eq_true h
    subst hb'
    clear hb
    have e1 : (x.nm.toList == (y.nm).toList) = true := by rw [h]; simp
    rw [← h] at q0
    clear h e1
    go_enter Tryd.func54, Tryd.ntmps54
    go_wp2
    go_returns
    exact ⟨rfl, by (repeat' (first | (with_reducible exact Below.refl _ _) | (with_reducible assumption) | (with_reducible refine Below.setCell ?_ ?_ _) | (with_reducible refine Below.alloc ?_ ?_ _) | (with_reducible refine below_drewN ?_ _) | (with_reducible refine Below.drew ?_) | (with_reducible exact Nat.le_refl _) | omega | (simp; done) | (simp; omega)))⟩
  · have hb' : b = false := by rw [hb]; exact decide_eq_false h
    subst hb'
    clear hb
    have e1 := str_ne h
    go_enter Tryd.func54, Tryd.ntmps54
    go_wp2
    go_returns
    exact ⟨rfl, by (repeat' (first | (with_reducible exact Below.refl _ _) | (with_reducible assumption) | (with_reducible refine Below.setCell ?_ ?_ _) | (with_reducible refine Below.alloc ?_ ?_ _) | (with_reducible refine below_drewN ?_ _) | (with_reducible refine Below.drew ?_) | (with_reducible exact Nat.le_refl _) | omega | (simp; done) | (simp; omega)))⟩
set_option maxRecDepth 10000 in
set_option maxHeartbeats 3200000 in
theorem impl_ixRecipeStep (s : List Rs) (y : Rs) {W : World} {p n c : Nat} {a : Option Addr} (hn : n ≤ 2000000) (hs : RG 5 rsC W (.slice a n c) s) (hN : W.heap[p]? = some (.cells #[.string y.nm, .int .i64 y.t.k, .int .i64 y.t.n, .string y.t.s, .slice y.sa y.sn y.sc] 64)) :
    Calls Tryd.prog 67 #[.slice a n c, .func (Fn.func 54) #[] #[.pointer (some ⟨p, 0, none⟩)]] W fun e w' => e = .returned (.int .i64 (atL (s.map (·.nm)) y.nm)) ∧ Below W.heap.size W w' := by
  have hml : n = s.length := hs.len
  obtain ⟨G, hG⟩ : ∃ G, G = atL (s.map (·.nm)) y.nm := ⟨_, rfl⟩
  rw [← hG]
  have H : Hid (RG 5 rsC W (.slice a n c) s ∧ n = s.length ∧ G = atL (s.map (·.nm)) y.nm) := ⟨hs, hml, hG⟩
  have HC : Hid (∀ x : Rs, ∀ X, Below W.heap.size W X → Calls Tryd.prog 54 #[.agg #[.string x.nm, .int .i64 x.t.k, .int .i64 x.t.n, .string x.t.s, .slice x.sa x.sn x.sc], .pointer (some ⟨p, 0, none⟩)] X fun e w' => e = .returned (.bool (decide (x.nm = y.nm))) ∧ Below X.heap.size X w') := fun x X hb => impl_cloRecipeStep x y ((hb.block _ (ltQ hN)).trans hN)
  clear hs hml hG hN
  go_enter Tryd.func67, Tryd.ntmps67
  go_wp2
  go_loopw [8] (fun i wr => ∃ t : Nat, t ≤ n ∧ i = .int .i64 t ∧ Hid ((∀ i (h : i < s.length), i < t → ¬ (s[i]).nm = y.nm) ∧ Below W.heap.size W wr)) (fun i _ => n - (intOf i).toNat)
  case atStart => exact ⟨0, Nat.zero_le _, rfl, fun i _ hi => by omega, Below.refl _ _⟩
  case round =>
    obtain ⟨t, ht, rfl, hR⟩ := hrel
    by_cases hlt : t < n
    · have htl : t < s.length := by rw [← H.out.2.1]; exact hlt
      obtain ⟨g, o, c2, he, hg, hj⟩ := (H.out.1.below hR.out.2).pos (by omega)
      simp only [Value.slice.injEq] at he
      obtain ⟨rfl, hx1, hx2⟩ := he
      clear hx1 hx2
      obtain ⟨c0, c1, c2, c3, c4⟩ := rsC_at (hj t htl)
      obtain ⟨x, hx⟩ : ∃ x, x = s[t] := ⟨_, rfl⟩
      rw [← hx] at c0 c1 c2 c3 c4
      obtain ⟨q, hq⟩ : ∃ q, q = decide (x.nm = y.nm) := ⟨_, rfl⟩
      have HQ : Hid ((q = true → G = (t : Int)) ∧ (q = false → ∀ i (h : i < s.length), i < t + 1 → ¬ (s[i]).nm = y.nm)) := by
        refine ⟨fun e => ?_, fun e i hi hit => ?_⟩
        · rw [hq, decide_eq_true_eq] at e
          rw [H.out.2.2]
          exact atL_some (by simpa using htl) (fun i hi hit => by simpa using hR.out.1 i (by simpa using hi) hit) (by simpa [← hx] using e)
        · rw [hq, decide_eq_false_iff_not] at e
          rcases (by omega : i < t ∨ i = t) with h | rfl
          · exact hR.out.1 i hi h
          · rw [← hx]; exact e
      have HC2 : Hid (Calls Tryd.prog 54 #[.agg #[.string x.nm, .int .i64 x.t.k, .int .i64 x.t.n, .string x.t.s, .slice x.sa x.sn x.sc], .pointer (some ⟨p, 0, none⟩)] wr fun e w' => e = .returned (.bool q) ∧ Below wr.heap.size wr w') := by rw [hq]; exact HC.out x wr hR.out.2
      clear hj hx hq
      have b0 : (0 : Int) ≤ (t : Int) := by omega
      have b1 : (t : Int) < (n : Int) := by omega
      go_wp2_with (fail)
      refine HC2.out.mono ?_
      rintro e w5 ⟨rfl, hb5⟩
      have HB : Hid (Below W.heap.size W w5) := hR.out.2.trans (hb5.mono hR.out.2.size)
      clear HC2 hb5 hR c0 c1 c2 c3 c4 hg
      cases q with
      | true =>
        have HG : Hid (G = (t : Int)) := HQ.out.1 rfl
        clear HQ
        go_wp2
        go_returns
        exact ⟨by rw [HG.out]; rfl, HB.out⟩
      | false =>
        have HG : Hid (∀ i (h : i < s.length), i < t + 1 → ¬ (s[i]).nm = y.nm) := HQ.out.2 rfl
        clear HQ
        go_wp2
        go_roundw
        case rel => exact ⟨t + 1, by omega, by go_num, HG.out, HB.out⟩
        case measure => simp [intOf]; omega
    · have HM : Hid (G = -1) := by
        unfold Hid; rw [H.out.2.2]
        exact atL_none (fun i hi => by simpa using hR.out.1 i (by simpa using hi) (by simp at hi; have := H.out.2.1; omega))
      go_wp2
      go_returns
      exact ⟨by rw [HM.out]; rfl, hR.out.2⟩

set_option maxHeartbeats 1600000 in
theorem impl_hasRecipeStep (s : List Rs) (y : Rs) {W : World} {p n c : Nat} {a : Option Addr} (hn : n ≤ 2000000) (hs : RG 5 rsC W (.slice a n c) s) (hN : W.heap[p]? = some (.cells #[.string y.nm, .int .i64 y.t.k, .int .i64 y.t.n, .string y.t.s, .slice y.sa y.sn y.sc] 64)) :
    Calls Tryd.prog 53 #[.slice a n c, .func (Fn.func 54) #[] #[.pointer (some ⟨p, 0, none⟩)]] W fun e w' => e = .returned (.bool (decide (0 ≤ atL (s.map (·.nm)) y.nm))) ∧ Below W.heap.size W w' := by
  obtain ⟨Z, hZ⟩ : ∃ Z, Z = atL (s.map (·.nm)) y.nm := ⟨_, rfl⟩
  have HC' : Hid (Calls Tryd.prog 67 #[.slice a n c, .func (Fn.func 54) #[] #[.pointer (some ⟨p, 0, none⟩)]] W fun e w' => e = .returned (.int .i64 Z) ∧ Below W.heap.size W w') := by
    rw [hZ]
    exact impl_ixRecipeStep s y hn hs hN
  rw [← hZ]
  clear hZ hs hN
  go_enter Tryd.func53, Tryd.ntmps53
  go_wp2_with (fail)
  refine HC'.out.mono ?_
  rintro e w5 ⟨rfl, hb⟩
  have HB : Hid (Below W.heap.size W w5) := hb
  clear hb HC'
  go_wp2
  go_returns
  exact ⟨rfl, HB.out⟩

end Go.Proofs.YtnljomeacnjmmaaDoor
