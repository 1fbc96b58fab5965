/- Proved here: does a number of a list lie outside two bounds, of the program. -/
import Derived.Test.YtbjdalcbdbphkaaPbM
import Derived.Test.YtbjdalcbdbphkaaInsC
namespace Go.Proofs.Ytbjdalcbdbphkaa
open Go.RowKit
set_option linter.unusedVariables false
set_option linter.unusedSimpArgs false
theorem ltQ {w : World} {k : Nat} {o : Obj} (h : w.heap[k]? = some o) : k < w.heap.size := by
  rcases Nat.lt_or_ge k w.heap.size with h1 | h1
  · exact h1
  · rw [Array.getElem?_eq_none h1] at h; cases h

set_option maxRecDepth 10000 in
set_option maxHeartbeats 1600000 in
theorem impl_oc (x lo hi : Int) {W : World} {p q0 : Nat} (hp : W.heap[p]? = some (.cells #[.int .i64 lo] 2)) (hq : W.heap[q0]? = some (.cells #[.int .i64 hi] 2)) :
    Calls Try.prog 114 #[.int .i64 x, .pointer (some ⟨p, 0, none⟩), .pointer (some ⟨q0, 0, none⟩)] W fun e w' => e = .returned (.bool (oo lo hi x)) ∧ Below W.heap.size W w' := by
  have c0 : W.cell? ⟨p, 0, none⟩ = some (.int .i64 lo) := by simp [World.cell?, hp]
  have c1 : W.cell? ⟨q0, 0, none⟩ = some (.int .i64 hi) := by simp [World.cell?, hq]
  obtain ⟨b, hb⟩ : ∃ b, b = decide (lo ≤ x ∧ x ≤ hi) := ⟨_, rfl⟩
  have HC : Hid (∀ X, Calls Try.prog 67 #[.int .i64 x, .int .i64 lo, .int .i64 hi] X fun e w' => e = .returned (.bool b) ∧ w' = X) := fun X => impl_insC x lo hi b hb X
  have HO : Hid (oo lo hi x = !b) := by unfold Hid oo; rw [hb]
  clear hb hp hq
  go_enter Try.func114, Try.ntmps114
  go_wp2_with (fail)
  refine (HC.out _).mono ?_
  rintro e w5 ⟨rfl, hw⟩
  subst w5
  go_wp2
  go_returns
  exact ⟨by rw [HO.out]; rfl, by (repeat' (first | (with_reducible exact Below.refl _ _) | (with_reducible assumption) | (with_reducible refine Below.setCell ?_ ?_ _) | (with_reducible refine Below.alloc ?_ ?_ _) | (with_reducible refine below_drewN ?_ _) | (with_reducible refine Below.drew ?_) | (with_reducible exact Nat.le_refl _) | omega | (simp; done) | (simp; omega)))⟩

set_option maxRecDepth 10000 in
set_option maxHeartbeats 3200000 in
theorem impl_ixO (P : Int → Bool) {s : List Int} {W : World} {n c : Nat} {a : Option Addr} {p q0 : Nat} (hn : n ≤ 2000000) (hs : RdI W (.slice a n c) s) (HC0 : ∀ (x : Int) X, Below W.heap.size W X → Calls Try.prog 114 #[.int .i64 x, .pointer (some ⟨p, 0, none⟩), .pointer (some ⟨q0, 0, none⟩)] X fun e w' => e = .returned (.bool (P x)) ∧ Below X.heap.size X w') :
    Calls Try.prog 116 #[.slice a n c, .func (Fn.func 114) #[] #[.pointer (some ⟨p, 0, none⟩), .pointer (some ⟨q0, 0, none⟩)]] W fun e w' => ∃ r : Int, e = .returned (.int .i64 r) ∧ decide (0 ≤ r) = s.any P ∧ Below W.heap.size W w' := by
  have hml : n = s.length := hs.len
  obtain ⟨G, hG⟩ : ∃ G, G = s.any P := ⟨_, rfl⟩
  rw [← hG]
  have H : Hid (RdI W (.slice a n c) s ∧ n = s.length ∧ G = s.any P) := ⟨hs, hml, hG⟩
  have HC : Hid (∀ (x : Int) X, Below W.heap.size W X → Calls Try.prog 114 #[.int .i64 x, .pointer (some ⟨p, 0, none⟩), .pointer (some ⟨q0, 0, none⟩)] X fun e w' => e = .returned (.bool (P x)) ∧ Below X.heap.size X w') := HC0
  clear hs hml hG HC0
  go_enter Try.func116, Try.ntmps116
  go_wp2
  go_loopw [8] (fun i wr => ∃ t : Nat, t ≤ n ∧ i = .int .i64 t ∧ Hid ((s.drop t).any P = s.any P ∧ Below W.heap.size W wr)) (fun i _ => n - (intOf i).toNat)
  case atStart => exact ⟨0, Nat.zero_le _, rfl, rfl, Below.refl _ _⟩
  case round =>
    obtain ⟨t, ht, rfl, hR⟩ := hrel
    by_cases hlt : t < n
    · have htl : t < s.length := by rw [← H.out.2.1]; exact hlt
      obtain ⟨g, o, rfl, hg, c0⟩ := rd_at (H.out.1.below hR.out.2) hlt
      obtain ⟨x, hx⟩ : ∃ x, x = s[t] := ⟨_, rfl⟩
      rw [getD_at htl, ← hx] at c0
      obtain ⟨q, hq⟩ : ∃ q, q = P x := ⟨_, rfl⟩
      have HQ : Hid (s.any P = (q || (s.drop (t + 1)).any P)) := by unfold Hid; rw [← hR.out.1, any_at htl, hq, hx]
      have HC2 : Hid (Calls Try.prog 114 #[.int .i64 x, .pointer (some ⟨p, 0, none⟩), .pointer (some ⟨q0, 0, none⟩)] wr fun e w' => e = .returned (.bool q) ∧ Below wr.heap.size wr w') := by rw [hq]; exact HC.out x wr hR.out.2
      clear hx hq
      have b0 : (0 : Int) ≤ (t : Int) := by omega
      have b1 : (t : Int) < (n : Int) := by omega
      go_wp2_with (fail)
      refine HC2.out.mono ?_
      rintro e w5 ⟨rfl, hb5⟩
      have HB : Hid (Below W.heap.size W w5) := hR.out.2.trans (hb5.mono hR.out.2.size)
      clear HC2 hb5 hR
      cases q with
      | true =>
        have HG : Hid (G = true) := by unfold Hid; rw [H.out.2.2, HQ.out]; rfl
        clear HQ
        go_wp2
        go_returns
        exact ⟨(t : Int), rfl, by rw [HG.out]; exact decide_eq_true b0, HB.out⟩
      | false =>
        have HG : Hid ((s.drop (t + 1)).any P = s.any P) := by unfold Hid; rw [HQ.out]; rfl
        clear HQ
        go_wp2
        go_roundw
        case rel => exact ⟨t + 1, by omega, by go_num, HG.out, HB.out⟩
        case measure => simp [intOf]; omega
    · have HM : Hid (G = false) := by
        unfold Hid; rw [H.out.2.2, ← hR.out.1, any_end (by rw [← H.out.2.1]; omega)]
      go_wp2
      go_returns
      exact ⟨-1, rfl, by rw [HM.out]; rfl, hR.out.2⟩

set_option maxHeartbeats 1600000 in
theorem impl_cfO (P : Int → Bool) {s : List Int} {W : World} {n c : Nat} {a : Option Addr} {p q0 : Nat} (hn : n ≤ 2000000) (hs : RdI W (.slice a n c) s) (HC0 : ∀ (x : Int) X, Below W.heap.size W X → Calls Try.prog 114 #[.int .i64 x, .pointer (some ⟨p, 0, none⟩), .pointer (some ⟨q0, 0, none⟩)] X fun e w' => e = .returned (.bool (P x)) ∧ Below X.heap.size X w') :
    Calls Try.prog 113 #[.slice a n c, .func (Fn.func 114) #[] #[.pointer (some ⟨p, 0, none⟩), .pointer (some ⟨q0, 0, none⟩)]] W fun e w' => e = .returned (.bool (s.any P)) ∧ Below W.heap.size W w' := by
  obtain ⟨G, hG⟩ : ∃ G, G = s.any P := ⟨_, rfl⟩
  have HC : Hid (Calls Try.prog 116 #[.slice a n c, .func (Fn.func 114) #[] #[.pointer (some ⟨p, 0, none⟩), .pointer (some ⟨q0, 0, none⟩)]] W fun e w' => ∃ r : Int, e = .returned (.int .i64 r) ∧ decide (0 ≤ r) = G ∧ Below W.heap.size W w') := by rw [hG]; exact impl_ixO P hn hs HC0
  rw [← hG]
  clear hG hs HC0
  go_enter Try.func113, Try.ntmps113
  go_wp2_with (fail)
  refine HC.out.mono ?_
  rintro e w5 ⟨r, rfl, hr, hb⟩
  have HB : Hid (Below W.heap.size W w5) := hb
  have HR : Hid (decide (0 ≤ r) = G) := hr
  clear HC hb hr
  go_wp2
  go_returns
  exact ⟨by rw [← HR.out]; rfl, HB.out⟩

set_option maxHeartbeats 1600000 in
theorem impl_any {W : World} {v : Value} {s : List Int} (lo hi : Int) (hn : s.length ≤ 2000000) (hs : RdI W v s) :
    Calls Try.prog 107 #[v, .int .i64 lo, .int .i64 hi] W fun e w' => e = .returned (.bool (s.any (oo lo hi))) ∧ Below W.heap.size W w' := by
  obtain ⟨a, c, rfl⟩ := hs.form
  obtain ⟨n, hnn⟩ : ∃ n, n = s.length := ⟨_, rfl⟩
  rw [← hnn] at hs hn ⊢
  obtain ⟨Z, hZ⟩ : ∃ Z, Z = s.any (oo lo hi) := ⟨_, rfl⟩
  obtain ⟨V, hV⟩ : ∃ V, V = (W.alloc (.cells #[.int .i64 lo] 2)).alloc (.cells #[.int .i64 hi] 2) := ⟨_, rfl⟩
  have k0 : V.heap[W.heap.size]? = some (.cells #[.int .i64 lo] 2) := by rw [hV, heap_alloc_old _ _ (by simp)]; exact heap_alloc_new _ _
  have k1 : V.heap[W.heap.size + 1]? = some (.cells #[.int .i64 hi] 2) := by rw [hV]; have := heap_alloc_new (W.alloc (.cells #[.int .i64 lo] 2)) (.cells #[.int .i64 hi] 2); simpa using this
  have HV : Hid (Below W.heap.size W V) := by unfold Hid; rw [hV]; (repeat' (first | (with_reducible exact Below.refl _ _) | (with_reducible assumption) | (with_reducible refine Below.setCell ?_ ?_ _) | (with_reducible refine Below.alloc ?_ ?_ _) | (with_reducible refine below_drewN ?_ _) | (with_reducible refine Below.drew ?_) | (with_reducible exact Nat.le_refl _) | omega | (simp; done) | (simp; omega)))
  have HC : Hid (Calls Try.prog 113 #[.slice a n c, .func (Fn.func 114) #[] #[.pointer (some ⟨W.heap.size, 0, none⟩), .pointer (some ⟨W.heap.size + 1, 0, none⟩)]] V fun e w' => e = .returned (.bool Z) ∧ Below V.heap.size V w') := by
    rw [hZ]
    exact impl_cfO (oo lo hi) hn (hs.below HV.out) (fun x X hb => impl_oc x lo hi ((hb.block _ (ltQ k0)).trans k0) ((hb.block _ (ltQ k1)).trans k1))
  rw [← hZ]
  clear hZ hs k0 k1 hnn
  go_enter Try.func107, Try.ntmps107
  go_wp2_with (fail)
  rw [← hV]
  refine HC.out.mono ?_
  rintro e w5 ⟨rfl, hb⟩
  have HB : Hid (Below W.heap.size W w5) := HV.out.trans (hb.mono HV.out.size)
  clear hb HC HV hV
  go_wp2
  go_returns
  exact ⟨rfl, HB.out⟩

end Go.Proofs.Ytbjdalcbdbphkaa
