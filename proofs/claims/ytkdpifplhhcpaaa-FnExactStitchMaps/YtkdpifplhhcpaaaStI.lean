/- Proved here: the faults of maps, of the program. -/
import Derived.Test.YtkdpifplhhcpaaaStF
import Derived.Test.YtkdpifplhhcpaaaPbI
import Derived.Test.YtkdpifplhhcpaaaCeQ
namespace Go.Proofs.Ytkdpifplhhcpaaa
open Go.RowKit
set_option linter.unusedVariables false
set_option linter.unusedSimpArgs false

set_option maxHeartbeats 800000 in
theorem impl_m1 (a : Option Addr) (n c : Nat) (hn : n ≤ 2000000) (X : World) : Calls Try.prog 69 #[.slice a n c] X fun e w' => e = .returned (.bool (decide (20 < n))) ∧ Below X.heap.size X w' := by
  by_cases h : (20 : Int) < (n : Int)
  · rw [decide_eq_true (show 20 < n by omega)]
    go_enter Try.func69, Try.ntmps69
    go_wp2
    go_returns
    exact ⟨rfl, Below.refl _ _⟩
  · rw [decide_eq_false (show ¬ 20 < n by omega)]
    go_enter Try.func69, Try.ntmps69
    go_wp2
    go_returns
    exact ⟨rfl, Below.refl _ _⟩
set_option maxHeartbeats 800000 in
theorem impl_m2 (a : Option Addr) (n c : Nat) (hn : n ≤ 2000000) {X : World} {p g o k d m e1 : Nat} {ra : Option Addr} (hp : X.heap[p]? = some (.cells #[.slice (some ⟨g, o, none⟩) k d] 52)) (hk : 0 < k) (h0 : X.cell? ⟨g, o, none⟩ = some (.slice ra m e1)) (hm : m ≤ 2000000) :
    Calls Try.prog 70 #[.slice a n c, .pointer (some ⟨p, 0, none⟩)] X fun e w' => e = .returned (.bool (!decide (n = m))) ∧ Below X.heap.size X w' := by
  have p0 : X.cell? ⟨p, 0, none⟩ = some (.slice (some ⟨g, o, none⟩) k d) := cellOfQ hp 0 rfl
  have b0 : (0 : Int) < (k : Int) := by omega
  clear hp
  by_cases h : n = m
  · rw [decide_eq_true h]
    subst h
    go_enter Try.func70, Try.ntmps70
    go_wp2
    go_returns
    exact ⟨rfl, Below.refl _ _⟩
  · rw [decide_eq_false h]
    have hi : ¬ (n : Int) = (m : Int) := by omega
    have hb : ((n : Int) != (m : Int)) = true := by simpa using hi
    go_enter Try.func70, Try.ntmps70
    go_wp2
    go_returns
    exact ⟨rfl, Below.refl _ _⟩
set_option maxHeartbeats 800000 in
theorem impl_m3 {X : World} {v : Value} {x : List Int} (hn : x.length ≤ 2000000) (hx : RdI X v x) : Calls Try.prog 71 #[v] X fun e w' => e = .returned (.bool (ouM x)) ∧ Below X.heap.size X w' := by
  obtain ⟨q, hq⟩ : ∃ q, q = ouM x := ⟨_, rfl⟩
  have HC : Hid (Calls Try.prog 47 #[v, .int .i64 0, .int .i64 99] X fun e w' => e = .returned (.bool q) ∧ Below X.heap.size X w') := by rw [hq]; exact impl_any 0 99 hn hx
  rw [← hq]
  clear hq hx
  go_enter Try.func71, Try.ntmps71
  go_wp2_with (fail)
  refine HC.out.mono ?_
  rintro e w5 ⟨rfl, hb⟩
  have HB : Hid (Below X.heap.size X w5) := hb
  clear HC hb
  go_wp2
  go_returns
  exact ⟨rfl, HB.out⟩

set_option maxRecDepth 10000 in
set_option maxHeartbeats 3200000 in
theorem impl_ixR1 (P : List Int → Bool) {s : List (List Int)} {W : World} {n c : Nat} {a : Option Addr}  (hn : n ≤ 2000000) (hs : RdR W (.slice a n c) s) (HC0 : ∀ (x : List Int) (ua : Option Addr) (un uc : Nat) X, Below W.heap.size W X → RdI X (.slice ua un uc) x → x ∈ s → Calls Try.prog 69 #[.slice ua un uc] X fun e w' => e = .returned (.bool (P x)) ∧ Below X.heap.size X w') :
    Calls Try.prog 72 #[.slice a n c, .func (Fn.func 69) #[] #[]] W fun e w' => ∃ r : Int, e = .returned (.int .i64 r) ∧ decide (0 ≤ r) = s.any P ∧ Below W.heap.size W w' := by
  have hml : n = s.length := hs.len
  obtain ⟨G, hG⟩ : ∃ G, G = s.any P := ⟨_, rfl⟩
  rw [← hG]
  have H : Hid (RdR W (.slice a n c) s ∧ n = s.length ∧ G = s.any P) := ⟨hs, hml, hG⟩
  have HC : Hid (∀ (x : List Int) (ua : Option Addr) (un uc : Nat) X, Below W.heap.size W X → RdI X (.slice ua un uc) x → x ∈ s → Calls Try.prog 69 #[.slice ua un uc] X fun e w' => e = .returned (.bool (P x)) ∧ Below X.heap.size X w') := HC0
  clear hs hml hG HC0
  go_enter Try.func72, Try.ntmps72
  go_wp2
  go_loopw [8] (fun i wr => ∃ t : Nat, t ≤ n ∧ i = .int .i64 t ∧ Hid ((s.drop t).any P = s.any P ∧ Below W.heap.size W wr)) (fun i _ => n - (intOf i).toNat)
  case atStart => exact ⟨0, Nat.zero_le _, rfl, rfl, Below.refl _ _⟩
  case round =>
    obtain ⟨t, ht, rfl, hR⟩ := hrel
    by_cases hlt : t < n
    · have htl : t < s.length := by rw [← H.out.2.1]; exact hlt
      obtain ⟨g, o, ua, un, uc, rfl, hg, c0, hun, hrd⟩ := (H.out.1.below hR.out.2).at hlt
      obtain ⟨x, hx⟩ : ∃ x, x = s[t] := ⟨_, rfl⟩
      rw [getD_lt htl, ← hx] at hun hrd
      obtain ⟨q, hq⟩ : ∃ q, q = P x := ⟨_, rfl⟩
      have HQ : Hid (s.any P = (q || (s.drop (t + 1)).any P)) := by unfold Hid; rw [← hR.out.1, any_at htl, hq, hx]
      have HC2 : Hid (Calls Try.prog 69 #[.slice ua un uc] wr fun e w' => e = .returned (.bool q) ∧ Below wr.heap.size wr w') := by rw [hq]; exact HC.out x ua un uc wr hR.out.2 hrd (by rw [hx]; exact List.getElem_mem htl)
      clear hx hq hrd hun
      have b0 : (0 : Int) ≤ (t : Int) := by omega
      have b1 : (t : Int) < (n : Int) := by omega
      go_wp2_with (fail)
      refine HC2.out.mono ?_
      rintro e w5 ⟨rfl, hb5⟩
      have HB : Hid (Below W.heap.size W w5) := hR.out.2.trans (hb5.mono hR.out.2.size)
      clear HC2 hb5 hR c0
      cases q with
      | true =>
        have HG : Hid (G = true) := by unfold Hid; rw [H.out.2.2, HQ.out]; rfl
        clear HQ
        go_wp2
        go_returns
        exact ⟨(t : Int), rfl, by rw [HG.out]; exact decide_eq_true b0, HB.out⟩
      | false =>
        have HG : Hid ((s.drop (t + 1)).any P = s.any P) := by unfold Hid; rw [HQ.out]; rfl
        clear HQ
        go_wp2
        go_roundw
        case rel => exact ⟨t + 1, by omega, by go_num, HG.out, HB.out⟩
        case measure => simp [intOf]; omega
    · have HM : Hid (G = false) := by
        unfold Hid; rw [H.out.2.2, ← hR.out.1, any_end (by rw [← H.out.2.1]; omega)]
      go_wp2
      go_returns
      exact ⟨-1, rfl, by rw [HM.out]; rfl, hR.out.2⟩

set_option maxHeartbeats 1600000 in
theorem impl_cfR1 (P : List Int → Bool) {s : List (List Int)} {W : World} {n c : Nat} {a : Option Addr}  (hn : n ≤ 2000000) (hs : RdR W (.slice a n c) s) (HC0 : ∀ (x : List Int) (ua : Option Addr) (un uc : Nat) X, Below W.heap.size W X → RdI X (.slice ua un uc) x → x ∈ s → Calls Try.prog 69 #[.slice ua un uc] X fun e w' => e = .returned (.bool (P x)) ∧ Below X.heap.size X w') :
    Calls Try.prog 68 #[.slice a n c, .func (Fn.func 69) #[] #[]] W fun e w' => e = .returned (.bool (s.any P)) ∧ Below W.heap.size W w' := by
  obtain ⟨G, hG⟩ : ∃ G, G = s.any P := ⟨_, rfl⟩
  have HC : Hid (Calls Try.prog 72 #[.slice a n c, .func (Fn.func 69) #[] #[]] W fun e w' => ∃ r : Int, e = .returned (.int .i64 r) ∧ decide (0 ≤ r) = G ∧ Below W.heap.size W w') := by rw [hG]; exact impl_ixR1 P hn hs HC0
  rw [← hG]
  clear hG hs HC0
  go_enter Try.func68, Try.ntmps68
  go_wp2_with (fail)
  refine HC.out.mono ?_
  rintro e w5 ⟨r, rfl, hr, hb⟩
  have HB : Hid (Below W.heap.size W w5) := hb
  have HR : Hid (decide (0 ≤ r) = G) := hr
  clear HC hb hr
  go_wp2
  go_returns
  exact ⟨by rw [← HR.out]; rfl, HB.out⟩

set_option maxRecDepth 10000 in
set_option maxHeartbeats 3200000 in
theorem impl_ixR2 (P : List Int → Bool) {s : List (List Int)} {W : World} {n c : Nat} {a : Option Addr} {p : Nat} (hn : n ≤ 2000000) (hs : RdR W (.slice a n c) s) (HC0 : ∀ (x : List Int) (ua : Option Addr) (un uc : Nat) X, Below W.heap.size W X → RdI X (.slice ua un uc) x → x ∈ s → Calls Try.prog 70 #[.slice ua un uc, .pointer (some ⟨p, 0, none⟩)] X fun e w' => e = .returned (.bool (P x)) ∧ Below X.heap.size X w') :
    Calls Try.prog 72 #[.slice a n c, .func (Fn.func 70) #[] #[.pointer (some ⟨p, 0, none⟩)]] W fun e w' => ∃ r : Int, e = .returned (.int .i64 r) ∧ decide (0 ≤ r) = s.any P ∧ Below W.heap.size W w' := by
  have hml : n = s.length := hs.len
  obtain ⟨G, hG⟩ : ∃ G, G = s.any P := ⟨_, rfl⟩
  rw [← hG]
  have H : Hid (RdR W (.slice a n c) s ∧ n = s.length ∧ G = s.any P) := ⟨hs, hml, hG⟩
  have HC : Hid (∀ (x : List Int) (ua : Option Addr) (un uc : Nat) X, Below W.heap.size W X → RdI X (.slice ua un uc) x → x ∈ s → Calls Try.prog 70 #[.slice ua un uc, .pointer (some ⟨p, 0, none⟩)] X fun e w' => e = .returned (.bool (P x)) ∧ Below X.heap.size X w') := HC0
  clear hs hml hG HC0
  go_enter Try.func72, Try.ntmps72
  go_wp2
  go_loopw [8] (fun i wr => ∃ t : Nat, t ≤ n ∧ i = .int .i64 t ∧ Hid ((s.drop t).any P = s.any P ∧ Below W.heap.size W wr)) (fun i _ => n - (intOf i).toNat)
  case atStart => exact ⟨0, Nat.zero_le _, rfl, rfl, Below.refl _ _⟩
  case round =>
    obtain ⟨t, ht, rfl, hR⟩ := hrel
    by_cases hlt : t < n
    · have htl : t < s.length := by rw [← H.out.2.1]; exact hlt
      obtain ⟨g, o, ua, un, uc, rfl, hg, c0, hun, hrd⟩ := (H.out.1.below hR.out.2).at hlt
      obtain ⟨x, hx⟩ : ∃ x, x = s[t] := ⟨_, rfl⟩
      rw [getD_lt htl, ← hx] at hun hrd
      obtain ⟨q, hq⟩ : ∃ q, q = P x := ⟨_, rfl⟩
      have HQ : Hid (s.any P = (q || (s.drop (t + 1)).any P)) := by unfold Hid; rw [← hR.out.1, any_at htl, hq, hx]
      have HC2 : Hid (Calls Try.prog 70 #[.slice ua un uc, .pointer (some ⟨p, 0, none⟩)] wr fun e w' => e = .returned (.bool q) ∧ Below wr.heap.size wr w') := by rw [hq]; exact HC.out x ua un uc wr hR.out.2 hrd (by rw [hx]; exact List.getElem_mem htl)
      clear hx hq hrd hun
      have b0 : (0 : Int) ≤ (t : Int) := by omega
      have b1 : (t : Int) < (n : Int) := by omega
      go_wp2_with (fail)
      refine HC2.out.mono ?_
      rintro e w5 ⟨rfl, hb5⟩
      have HB : Hid (Below W.heap.size W w5) := hR.out.2.trans (hb5.mono hR.out.2.size)
      clear HC2 hb5 hR c0
      cases q with
      | true =>
        have HG : Hid (G = true) := by unfold Hid; rw [H.out.2.2, HQ.out]; rfl
        clear HQ
        go_wp2
        go_returns
        exact ⟨(t : Int), rfl, by rw [HG.out]; exact decide_eq_true b0, HB.out⟩
      | false =>
        have HG : Hid ((s.drop (t + 1)).any P = s.any P) := by unfold Hid; rw [HQ.out]; rfl
        clear HQ
        go_wp2
        go_roundw
        case rel => exact ⟨t + 1, by omega, by go_num, HG.out, HB.out⟩
        case measure => simp [intOf]; omega
    · have HM : Hid (G = false) := by
        unfold Hid; rw [H.out.2.2, ← hR.out.1, any_end (by rw [← H.out.2.1]; omega)]
      go_wp2
      go_returns
      exact ⟨-1, rfl, by rw [HM.out]; rfl, hR.out.2⟩

set_option maxHeartbeats 1600000 in
theorem impl_cfR2 (P : List Int → Bool) {s : List (List Int)} {W : World} {n c : Nat} {a : Option Addr} {p : Nat} (hn : n ≤ 2000000) (hs : RdR W (.slice a n c) s) (HC0 : ∀ (x : List Int) (ua : Option Addr) (un uc : Nat) X, Below W.heap.size W X → RdI X (.slice ua un uc) x → x ∈ s → Calls Try.prog 70 #[.slice ua un uc, .pointer (some ⟨p, 0, none⟩)] X fun e w' => e = .returned (.bool (P x)) ∧ Below X.heap.size X w') :
    Calls Try.prog 68 #[.slice a n c, .func (Fn.func 70) #[] #[.pointer (some ⟨p, 0, none⟩)]] W fun e w' => e = .returned (.bool (s.any P)) ∧ Below W.heap.size W w' := by
  obtain ⟨G, hG⟩ : ∃ G, G = s.any P := ⟨_, rfl⟩
  have HC : Hid (Calls Try.prog 72 #[.slice a n c, .func (Fn.func 70) #[] #[.pointer (some ⟨p, 0, none⟩)]] W fun e w' => ∃ r : Int, e = .returned (.int .i64 r) ∧ decide (0 ≤ r) = G ∧ Below W.heap.size W w') := by rw [hG]; exact impl_ixR2 P hn hs HC0
  rw [← hG]
  clear hG hs HC0
  go_enter Try.func68, Try.ntmps68
  go_wp2_with (fail)
  refine HC.out.mono ?_
  rintro e w5 ⟨r, rfl, hr, hb⟩
  have HB : Hid (Below W.heap.size W w5) := hb
  have HR : Hid (decide (0 ≤ r) = G) := hr
  clear HC hb hr
  go_wp2
  go_returns
  exact ⟨by rw [← HR.out]; rfl, HB.out⟩

set_option maxRecDepth 10000 in
set_option maxHeartbeats 3200000 in
theorem impl_ixR3 (P : List Int → Bool) {s : List (List Int)} {W : World} {n c : Nat} {a : Option Addr}  (hn : n ≤ 2000000) (hs : RdR W (.slice a n c) s) (HC0 : ∀ (x : List Int) (ua : Option Addr) (un uc : Nat) X, Below W.heap.size W X → RdI X (.slice ua un uc) x → x ∈ s → Calls Try.prog 71 #[.slice ua un uc] X fun e w' => e = .returned (.bool (P x)) ∧ Below X.heap.size X w') :
    Calls Try.prog 72 #[.slice a n c, .func (Fn.func 71) #[] #[]] W fun e w' => ∃ r : Int, e = .returned (.int .i64 r) ∧ decide (0 ≤ r) = s.any P ∧ Below W.heap.size W w' := by
  have hml : n = s.length := hs.len
  obtain ⟨G, hG⟩ : ∃ G, G = s.any P := ⟨_, rfl⟩
  rw [← hG]
  have H : Hid (RdR W (.slice a n c) s ∧ n = s.length ∧ G = s.any P) := ⟨hs, hml, hG⟩
  have HC : Hid (∀ (x : List Int) (ua : Option Addr) (un uc : Nat) X, Below W.heap.size W X → RdI X (.slice ua un uc) x → x ∈ s → Calls Try.prog 71 #[.slice ua un uc] X fun e w' => e = .returned (.bool (P x)) ∧ Below X.heap.size X w') := HC0
  clear hs hml hG HC0
  go_enter Try.func72, Try.ntmps72
  go_wp2
  go_loopw [8] (fun i wr => ∃ t : Nat, t ≤ n ∧ i = .int .i64 t ∧ Hid ((s.drop t).any P = s.any P ∧ Below W.heap.size W wr)) (fun i _ => n - (intOf i).toNat)
  case atStart => exact ⟨0, Nat.zero_le _, rfl, rfl, Below.refl _ _⟩
  case round =>
    obtain ⟨t, ht, rfl, hR⟩ := hrel
    by_cases hlt : t < n
    · have htl : t < s.length := by rw [← H.out.2.1]; exact hlt
      obtain ⟨g, o, ua, un, uc, rfl, hg, c0, hun, hrd⟩ := (H.out.1.below hR.out.2).at hlt
      obtain ⟨x, hx⟩ : ∃ x, x = s[t] := ⟨_, rfl⟩
      rw [getD_lt htl, ← hx] at hun hrd
      obtain ⟨q, hq⟩ : ∃ q, q = P x := ⟨_, rfl⟩
      have HQ : Hid (s.any P = (q || (s.drop (t + 1)).any P)) := by unfold Hid; rw [← hR.out.1, any_at htl, hq, hx]
      have HC2 : Hid (Calls Try.prog 71 #[.slice ua un uc] wr fun e w' => e = .returned (.bool q) ∧ Below wr.heap.size wr w') := by rw [hq]; exact HC.out x ua un uc wr hR.out.2 hrd (by rw [hx]; exact List.getElem_mem htl)
      clear hx hq hrd hun
      have b0 : (0 : Int) ≤ (t : Int) := by omega
      have b1 : (t : Int) < (n : Int) := by omega
      go_wp2_with (fail)
      refine HC2.out.mono ?_
      rintro e w5 ⟨rfl, hb5⟩
      have HB : Hid (Below W.heap.size W w5) := hR.out.2.trans (hb5.mono hR.out.2.size)
      clear HC2 hb5 hR c0
      cases q with
      | true =>
        have HG : Hid (G = true) := by unfold Hid; rw [H.out.2.2, HQ.out]; rfl
        clear HQ
        go_wp2
        go_returns
        exact ⟨(t : Int), rfl, by rw [HG.out]; exact decide_eq_true b0, HB.out⟩
      | false =>
        have HG : Hid ((s.drop (t + 1)).any P = s.any P) := by unfold Hid; rw [HQ.out]; rfl
        clear HQ
        go_wp2
        go_roundw
        case rel => exact ⟨t + 1, by omega, by go_num, HG.out, HB.out⟩
        case measure => simp [intOf]; omega
    · have HM : Hid (G = false) := by
        unfold Hid; rw [H.out.2.2, ← hR.out.1, any_end (by rw [← H.out.2.1]; omega)]
      go_wp2
      go_returns
      exact ⟨-1, rfl, by rw [HM.out]; rfl, hR.out.2⟩

set_option maxHeartbeats 1600000 in
theorem impl_cfR3 (P : List Int → Bool) {s : List (List Int)} {W : World} {n c : Nat} {a : Option Addr}  (hn : n ≤ 2000000) (hs : RdR W (.slice a n c) s) (HC0 : ∀ (x : List Int) (ua : Option Addr) (un uc : Nat) X, Below W.heap.size W X → RdI X (.slice ua un uc) x → x ∈ s → Calls Try.prog 71 #[.slice ua un uc] X fun e w' => e = .returned (.bool (P x)) ∧ Below X.heap.size X w') :
    Calls Try.prog 68 #[.slice a n c, .func (Fn.func 71) #[] #[]] W fun e w' => e = .returned (.bool (s.any P)) ∧ Below W.heap.size W w' := by
  obtain ⟨G, hG⟩ : ∃ G, G = s.any P := ⟨_, rfl⟩
  have HC : Hid (Calls Try.prog 72 #[.slice a n c, .func (Fn.func 71) #[] #[]] W fun e w' => ∃ r : Int, e = .returned (.int .i64 r) ∧ decide (0 ≤ r) = G ∧ Below W.heap.size W w') := by rw [hG]; exact impl_ixR3 P hn hs HC0
  rw [← hG]
  clear hG hs HC0
  go_enter Try.func68, Try.ntmps68
  go_wp2_with (fail)
  refine HC.out.mono ?_
  rintro e w5 ⟨r, rfl, hr, hb⟩
  have HB : Hid (Below W.heap.size W w5) := hb
  have HR : Hid (decide (0 ≤ r) = G) := hr
  clear HC hb hr
  go_wp2
  go_returns
  exact ⟨by rw [← HR.out]; rfl, HB.out⟩

set_option maxRecDepth 10000 in
set_option maxHeartbeats 6400000 in
theorem impl_smf {W : World} {v : Value} {ls : List (List Int)} (hn : SmR ls) (hs : RdR W v ls) :
    Calls Try.prog 66 #[v] W fun e w' => e = .returned (.int .i64 (smF ls)) ∧ Below W.heap.size W w' := by
  obtain ⟨a, c, rfl⟩ := hs.form
  obtain ⟨n, hnn⟩ : ∃ n, n = ls.length := ⟨_, rfl⟩
  rw [← hnn] at hs ⊢
  have hnl : n ≤ 1048576 := by rw [hnn]; exact hn.len
  obtain ⟨V, hV⟩ : ∃ V, V = W.alloc (.cells #[.slice a n c] 52) := ⟨_, rfl⟩
  have HV : Hid (Below W.heap.size W V ∧ V.heap[W.heap.size]? = some (.cells #[.slice a n c] 52)) := by rw [hV]; exact ⟨by (repeat' (first | (with_reducible exact Below.refl _ _) | (with_reducible assumption) | (with_reducible refine Below.setCell ?_ ?_ _) | (with_reducible refine Below.alloc ?_ ?_ _) | (with_reducible refine below_drewN ?_ _) | (with_reducible refine Below.drew ?_) | (with_reducible exact Nat.le_refl _) | omega | (simp; done) | (simp; omega))), heap_alloc_new _ _⟩
  have H : Hid (RdR V (.slice a n c) ls ∧ n = ls.length ∧ SmR ls) := ⟨hs.below HV.out.1, hnn, hn⟩
  obtain ⟨R, hR⟩ : ∃ R, R = smF ls := ⟨_, rfl⟩
  have v0 : V.cell? ⟨W.heap.size, 0, none⟩ = some (.slice a n c) := cellOfQ HV.out.2 0 rfl
  have vl : W.heap.size < V.heap.size := ltOfQ HV.out.2
  rw [← hR]
  have HSW : Hid (RdR W (.slice a n c) ls) := hs
  clear hs hnn hn
  by_cases h0 : n = 0
  · have HN : Hid (R = 1) := by unfold Hid; rw [hR, smF, if_pos (Or.inl (by rw [← H.out.2.1]; exact h0))]
    clear hR
    subst h0
    go_enter Try.func66, Try.ntmps66
    go_wp2
    go_returns
    exact ⟨by rw [HN.out]; rfl, by rw [← hV]; exact HV.out.1⟩
  have h0i : ¬ (n : Int) = 0 := by omega
  have h0b : ((n : Int) == 0) = false := by simpa using h0i
  have bn : (0 : Int) < (n : Int) := by omega
  obtain ⟨g, o, ra, m, e1, rfl, hgW, rW, hm, hrd⟩ := HSW.out.at (show 0 < n by omega)
  rw [Nat.add_zero] at rW
  have HR0 : Hid (g < V.heap.size ∧ V.cell? ⟨g, o, none⟩ = some (.slice ra m e1)) := ⟨Nat.lt_of_lt_of_le hgW HV.out.1.size, (HV.out.1.cell (p := ⟨g, o, none⟩) hgW).trans rW⟩
  have hm20 : m ≤ 1048576 := by rw [hm]; exact H.out.2.2.row 0
  have HM : Hid (m = (ls.getD 0 []).length) := hm
  clear hrd hm
  by_cases hm0 : m = 0
  · have HN : Hid (R = 1) := by unfold Hid; rw [hR, smF, if_pos (Or.inr (by rw [← HM.out]; exact hm0))]
    clear hR
    subst hm0
    go_enter Try.func66, Try.ntmps66
    go_wp2
    go_returns
    exact ⟨by rw [HN.out]; rfl, by rw [← hV]; exact HV.out.1⟩
  have hm0i : ¬ (m : Int) = 0 := by omega
  have hm0b : ((m : Int) == 0) = false := by simpa using hm0i
  by_cases h20 : (20 : Int) < (n : Int)
  · have HN : Hid (R = 2) := by unfold Hid; rw [hR, smF, if_neg (by rw [← HM.out, ← H.out.2.1]; omega), if_pos (by rw [← H.out.2.1]; omega)]
    clear hR
    go_enter Try.func66, Try.ntmps66
    go_wp2
    go_returns
    exact ⟨by rw [HN.out]; rfl, by rw [← hV]; exact HV.out.1⟩
  obtain ⟨q1, hq1⟩ : ∃ q, q = ls.any lgM := ⟨_, rfl⟩
  obtain ⟨q2, hq2⟩ : ∃ q, q = ls.any (unM m) := ⟨_, rfl⟩
  obtain ⟨q3, hq3⟩ : ∃ q, q = ls.any ouM := ⟨_, rfl⟩
  have HR : Hid (R = if q1 = true then 2 else if q2 = true then 1 else if q3 = true then 3 else 0) := by
    unfold Hid; rw [hR, smF, if_neg (by rw [← HM.out, ← H.out.2.1]; omega), if_neg (by rw [← H.out.2.1]; omega), ← HM.out, hq1, hq2, hq3]
  have hrl : ∀ x ∈ ls, x.length ≤ 1048576 := fun x hx => by
    obtain ⟨i, hi, rfl⟩ := List.getElem_of_mem hx
    have h9 := H.out.2.2.row i
    rw [getD_lt hi] at h9
    exact h9
  have H1 : Hid (∀ X, Below V.heap.size V X → Calls Try.prog 68 #[.slice (some ⟨g, o, none⟩) n c, .func (Fn.func 69) #[] #[]] X fun e w' => e = .returned (.bool q1) ∧ Below X.heap.size X w') := fun X hb => by
    rw [hq1]
    exact impl_cfR1 lgM (by omega) (H.out.1.below hb) (fun x ua un uc Y _ hr hx => by have h9 := hrl x hx; have h8 := hr.len; rw [lgM, ← h8]; exact impl_m1 ua un uc (by omega) Y)
  have H2 : Hid (∀ X, Below V.heap.size V X → Calls Try.prog 68 #[.slice (some ⟨g, o, none⟩) n c, .func (Fn.func 70) #[] #[.pointer (some ⟨W.heap.size, 0, none⟩)]] X fun e w' => e = .returned (.bool q2) ∧ Below X.heap.size X w') := fun X hb => by
    rw [hq2]
    exact impl_cfR2 (unM m) (by omega) (H.out.1.below hb) (fun x ua un uc Y hY hr hx => by
      have h9 := hrl x hx; have h8 := hr.len
      rw [unM, ← h8]
      have hVY : Below V.heap.size V Y := hb.trans (hY.mono hb.size)
      exact impl_m2 ua un uc (by omega) ((hVY.block _ vl).trans HV.out.2) (by omega) ((hVY.cell (p := ⟨g, o, none⟩) HR0.out.1).trans HR0.out.2) (by omega))
  have H3 : Hid (∀ X, Below V.heap.size V X → Calls Try.prog 68 #[.slice (some ⟨g, o, none⟩) n c, .func (Fn.func 71) #[] #[]] X fun e w' => e = .returned (.bool q3) ∧ Below X.heap.size X w') := fun X hb => by
    rw [hq3]
    exact impl_cfR3 ouM (by omega) (H.out.1.below hb) (fun x ua un uc Y _ hr hx => by have h9 := hrl x hx; exact impl_m3 (by omega) hr)
  clear hq1 hq2 hq3 hrl hR
  go_enter Try.func66, Try.ntmps66
  go_wp2_with (fail)
  rw [← hV]
  refine (H1.out V (Below.refl _ _)).mono ?_
  rintro e w1 ⟨rfl, hb1⟩
  have HB1 : Hid (Below V.heap.size V w1) := hb1
  have HW1 : Hid (Below W.heap.size W w1) := HV.out.1.trans (hb1.mono HV.out.1.size)
  clear hb1 H1 rW hgW
  cases q1
  case true =>
    have HN : Hid (R = 2) := by unfold Hid; rw [HR.out, if_pos rfl]
    clear HR
    go_wp2
    go_returns
    exact ⟨by rw [HN.out]; rfl, HW1.out⟩
  have HR2 : Hid (R = if q2 = true then 1 else if q3 = true then 3 else 0) := by unfold Hid; rw [HR.out, if_neg (by decide)]
  have v1 : w1.cell? ⟨W.heap.size, 0, none⟩ = some (.slice (some ⟨g, o, none⟩) n c) := (HB1.out.cell (p := ⟨W.heap.size, 0, none⟩) vl).trans v0
  have vl1 : W.heap.size < w1.heap.size := Nat.lt_of_lt_of_le vl HB1.out.size
  clear HR
  go_wp2_with (fail)
  refine (H2.out w1 HB1.out).mono ?_
  rintro e w2 ⟨rfl, hb2⟩
  have HB2 : Hid (Below V.heap.size V w2) := HB1.out.trans (hb2.mono HB1.out.size)
  have HW2 : Hid (Below W.heap.size W w2) := HV.out.1.trans (HB2.out.mono HV.out.1.size)
  clear hb2 H2
  cases q2
  case true =>
    have HN : Hid (R = 1) := by unfold Hid; rw [HR2.out, if_pos rfl]
    clear HR2
    go_wp2
    go_returns
    exact ⟨by rw [HN.out]; rfl, HW2.out⟩
  have HR3 : Hid (R = if q3 = true then 3 else 0) := by unfold Hid; rw [HR2.out, if_neg (by decide)]
  have v2 : w2.cell? ⟨W.heap.size, 0, none⟩ = some (.slice (some ⟨g, o, none⟩) n c) := (HB2.out.cell (p := ⟨W.heap.size, 0, none⟩) vl).trans v0
  have vl2 : W.heap.size < w2.heap.size := Nat.lt_of_lt_of_le vl HB2.out.size
  clear HR2
  go_wp2_with (fail)
  refine (H3.out w2 HB2.out).mono ?_
  rintro e w3 ⟨rfl, hb3⟩
  have HB3 : Hid (Below V.heap.size V w3) := HB2.out.trans (hb3.mono HB2.out.size)
  have HW3 : Hid (Below W.heap.size W w3) := HV.out.1.trans (HB3.out.mono HV.out.1.size)
  clear hb3 H3
  cases q3
  case true =>
    have HN : Hid (R = 3) := by unfold Hid; rw [HR3.out, if_pos rfl]
    clear HR3
    go_wp2
    go_returns
    exact ⟨by rw [HN.out]; rfl, HW3.out⟩
  have HN : Hid (R = 0) := by unfold Hid; rw [HR3.out, if_neg (by decide)]
  clear HR3
  go_wp2
  go_returns
  exact ⟨by rw [HN.out]; rfl, HW3.out⟩

end Go.Proofs.Ytkdpifplhhcpaaa
