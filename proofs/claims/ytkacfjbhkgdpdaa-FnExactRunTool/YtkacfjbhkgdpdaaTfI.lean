/- Proved here: places of names among approvals, and what is kept behind a loss of power: its fault, of the program. -/
import Derived.Test.YtkacfjbhkgdpdaaKept
import Derived.Test.YtkacfjbhkgdpdaaInsC
import Derived.Test.YtkacfjbhkgdpdaaLwS
import Derived.BigQuiet
import Derived.ChangeMaps5
namespace Go.Proofs.Ytkacfjbhkgdpdaa
open Go.ChangeShapes Go.WideShapes Go.ChangeAt Go.RowKit Go.Joins
set_option linter.unusedVariables false
set_option linter.unusedSimpArgs false

set_option maxRecDepth 10000 in
set_option maxHeartbeats 1600000 in
theorem impl_cloAp (x : Ap) (nm : ByteArray) {W : World} {p : Nat} (hN : W.heap[p]? = some (.cells #[.string nm] 9)) :
    Calls Try.prog 64 #[.agg #[.string x.nm, .int .i64 x.su], .pointer (some ⟨p, 0, none⟩)] W fun e w' => e = .returned (.bool (decide (x.nm = nm))) ∧ Below W.heap.size W w' := by
  have q0 : W.cell? ⟨p, 0, none⟩ = some (.string nm) := by simp [World.cell?, hN]
  have ql : p < W.heap.size := ltOf hN
  obtain ⟨b, hb⟩ : ∃ b, b = decide (x.nm = nm) := ⟨_, rfl⟩
  rw [← hb]
  clear hN
  by_cases h : x.nm = nm
  · have hb' : b = true := by rw [hb]; exact decide_eq_true h
    subst hb'
    clear hb
    have e1 : (x.nm.toList == (nm).toList) = true := by rw [h]; simp
    rw [← h] at q0
    clear h e1
    go_enter Try.func64, Try.ntmps64
    go_wp2
    go_returns
    exact ⟨rfl, by (repeat' (first | (with_reducible exact Below.refl _ _) | (with_reducible assumption) | (with_reducible refine Below.setCell ?_ ?_ _) | (with_reducible refine Below.alloc ?_ ?_ _) | (with_reducible refine below_drewN ?_ _) | (with_reducible refine Below.drew ?_) | (with_reducible exact Nat.le_refl _) | omega | (simp; done) | (simp; omega)))⟩
  · have hb' : b = false := by rw [hb]; exact decide_eq_false h
    subst hb'
    clear hb
    have e1 := str_ne h
    go_enter Try.func64, Try.ntmps64
    go_wp2
    go_returns
    exact ⟨rfl, by (repeat' (first | (with_reducible exact Below.refl _ _) | (with_reducible assumption) | (with_reducible refine Below.setCell ?_ ?_ _) | (with_reducible refine Below.alloc ?_ ?_ _) | (with_reducible refine below_drewN ?_ _) | (with_reducible refine Below.drew ?_) | (with_reducible exact Nat.le_refl _) | omega | (simp; done) | (simp; omega)))⟩
set_option maxRecDepth 10000 in
set_option maxHeartbeats 3200000 in
theorem impl_ixfAp (s : List Ap) (nm : ByteArray) {W : World} {p n c : Nat} {a : Option Addr} (hn : n ≤ 2000000) (hs : RG 2 apC W (.slice a n c) s) (hN : W.heap[p]? = some (.cells #[.string nm] 9)) :
    Calls Try.prog 63 #[.slice a n c, .func (Fn.func 64) #[] #[.pointer (some ⟨p, 0, none⟩)]] W fun e w' => e = .returned (.int .i64 (atL (s.map (·.nm)) nm)) ∧ Below W.heap.size W w' := by
  have hml : n = s.length := hs.len
  obtain ⟨G, hG⟩ : ∃ G, G = atL (s.map (·.nm)) nm := ⟨_, rfl⟩
  rw [← hG]
  have H : Hid (RG 2 apC W (.slice a n c) s ∧ n = s.length ∧ G = atL (s.map (·.nm)) nm) := ⟨hs, hml, hG⟩
  have HC : Hid (∀ x : Ap, ∀ X, Below W.heap.size W X → Calls Try.prog 64 #[.agg #[.string x.nm, .int .i64 x.su], .pointer (some ⟨p, 0, none⟩)] X fun e w' => e = .returned (.bool (decide (x.nm = nm))) ∧ Below X.heap.size X w') := fun x X hb => impl_cloAp x nm ((hb.block _ (ltOf hN)).trans hN)
  clear hs hml hG hN
  go_enter Try.func63, Try.ntmps63
  go_wp2
  go_loopw [8] (fun i wr => ∃ t : Nat, t ≤ n ∧ i = .int .i64 t ∧ Hid ((∀ i (h : i < s.length), i < t → ¬ (s[i]).nm = nm) ∧ Below W.heap.size W wr)) (fun i _ => n - (intOf i).toNat)
  case atStart => exact ⟨0, Nat.zero_le _, rfl, fun i _ hi => by omega, Below.refl _ _⟩
  case round =>
    obtain ⟨t, ht, rfl, hR⟩ := hrel
    by_cases hlt : t < n
    · have htl : t < s.length := by rw [← H.out.2.1]; exact hlt
      obtain ⟨g, o, c2, he, hg, hj⟩ := (H.out.1.below hR.out.2).pos (by omega)
      simp only [Value.slice.injEq] at he
      obtain ⟨rfl, hx1, hx2⟩ := he
      clear hx1 hx2
      obtain ⟨c0, c1⟩ := apC_at (hj t htl)
      obtain ⟨x, hx⟩ : ∃ x, x = s[t] := ⟨_, rfl⟩
      rw [← hx] at c0 c1
      obtain ⟨q, hq⟩ : ∃ q, q = decide (x.nm = nm) := ⟨_, rfl⟩
      have HQ : Hid ((q = true → G = (t : Int)) ∧ (q = false → ∀ i (h : i < s.length), i < t + 1 → ¬ (s[i]).nm = nm)) := by
        refine ⟨fun e => ?_, fun e i hi hit => ?_⟩
        · rw [hq, decide_eq_true_eq] at e
          rw [H.out.2.2]
          exact atL_some (by simpa using htl) (fun i hi hit => by simpa using hR.out.1 i (by simpa using hi) hit) (by simpa [← hx] using e)
        · rw [hq, decide_eq_false_iff_not] at e
          rcases (by omega : i < t ∨ i = t) with h | rfl
          · exact hR.out.1 i hi h
          · rw [← hx]; exact e
      have HC2 : Hid (Calls Try.prog 64 #[.agg #[.string x.nm, .int .i64 x.su], .pointer (some ⟨p, 0, none⟩)] wr fun e w' => e = .returned (.bool q) ∧ Below wr.heap.size wr w') := by rw [hq]; exact HC.out x wr hR.out.2
      clear hj hx hq
      have b0 : (0 : Int) ≤ (t : Int) := by omega
      have b1 : (t : Int) < (n : Int) := by omega
      go_wp2_with (fail)
      refine HC2.out.mono ?_
      rintro e w5 ⟨rfl, hb5⟩
      have HB : Hid (Below W.heap.size W w5) := hR.out.2.trans (hb5.mono hR.out.2.size)
      clear HC2 hb5 hR c0 c1 hg
      cases q with
      | true =>
        have HG : Hid (G = (t : Int)) := HQ.out.1 rfl
        clear HQ
        go_wp2
        go_returns
        exact ⟨by rw [HG.out]; rfl, HB.out⟩
      | false =>
        have HG : Hid (∀ i (h : i < s.length), i < t + 1 → ¬ (s[i]).nm = nm) := HQ.out.2 rfl
        clear HQ
        go_wp2
        go_roundw
        case rel => exact ⟨t + 1, by omega, by go_num, HG.out, HB.out⟩
        case measure => simp [intOf]; omega
    · have HM : Hid (G = -1) := by
        unfold Hid; rw [H.out.2.2]
        exact atL_none (fun i hi => by simpa using hR.out.1 i (by simpa using hi) (by simp at hi; have := H.out.2.1; omega))
      go_wp2
      go_returns
      exact ⟨by rw [HM.out]; rfl, hR.out.2⟩

set_option maxHeartbeats 1600000 in
theorem impl_atAp (s : List Ap) (nm : ByteArray) {W : World} {n c : Nat} {a : Option Addr} (hn : n ≤ 2000000) (hs : RG 2 apC W (.slice a n c) s) :
    Calls Try.prog 58 #[.slice a n c, .string nm] W fun e w' => e = .returned (.int .i64 (atL (s.map (·.nm)) nm)) ∧ Below W.heap.size W w' := by
  obtain ⟨Z, hZ⟩ : ∃ Z, Z = atL (s.map (·.nm)) nm := ⟨_, rfl⟩
  have HC : Hid (Calls Try.prog 63 #[.slice a n c, .func (Fn.func 64) #[] #[.pointer (some ⟨W.heap.size, 0, none⟩)]] (W.alloc (.cells #[.string nm] 9)) fun e w' => e = .returned (.int .i64 Z) ∧ Below (W.alloc (.cells #[.string nm] 9)).heap.size (W.alloc (.cells #[.string nm] 9)) w') := by
    rw [hZ]
    exact impl_ixfAp s nm hn (hs.below (by (repeat' (first | (with_reducible exact Below.refl _ _) | (with_reducible assumption) | (with_reducible refine Below.setCell ?_ ?_ _) | (with_reducible refine Below.alloc ?_ ?_ _) | (with_reducible refine below_drewN ?_ _) | (with_reducible refine Below.drew ?_) | (with_reducible exact Nat.le_refl _) | omega | (simp; done) | (simp; omega))))) (heap_alloc_new _ _)
  rw [← hZ]
  clear hZ hs
  go_enter Try.func58, Try.ntmps58
  go_wp2_with (fail)
  refine HC.out.mono ?_
  rintro e w5 ⟨rfl, hb⟩
  have HB : Hid (Below W.heap.size W w5) := (show Below W.heap.size W (W.alloc (.cells #[.string nm] 9)) by (repeat' (first | (with_reducible exact Below.refl _ _) | (with_reducible assumption) | (with_reducible refine Below.setCell ?_ ?_ _) | (with_reducible refine Below.alloc ?_ ?_ _) | (with_reducible refine below_drewN ?_ _) | (with_reducible refine Below.drew ?_) | (with_reducible exact Nat.le_refl _) | omega | (simp; done) | (simp; omega)))).trans (hb.mono (by simp))
  clear hb HC
  go_wp2
  go_returns
  exact ⟨rfl, HB.out⟩

set_option maxRecDepth 10000 in
set_option maxHeartbeats 6400000 in
theorem impl_kp (A : Int) (R : ByteArray) (S U L : Int) (Q : Bool) {w : World} {a : Option Addr} {n c : Nat} {s : List Ap} (hn : n ≤ 1048576) (hz : ∀ j (h : j < s.length), s[j].nm.size ≤ 2000000) (hc : n ≤ c) (h : RG 2 apC w (.slice a n c) s) :
    Calls Try.prog 50 #[.agg #[.int .i64 A, .string R, .int .i64 S, .int .i64 U, .int .i64 L, .bool Q, .slice a n c]] w fun e w' => e = .returned (.int .i64 (kpF U L s)) ∧ Below w.heap.size w w' := by
  obtain ⟨D, hD⟩ : ∃ D, D = kpF U L s := ⟨_, rfl⟩
  rw [← hD]
  obtain ⟨q, hq⟩ : ∃ q, q = decide (1 ≤ L ∧ L ≤ 1000) := ⟨_, rfl⟩
  obtain ⟨r, hr⟩ : ∃ q, q = decide (0 ≤ U ∧ U ≤ L) := ⟨_, rfl⟩
  have H : Hid (RG 2 apC w (.slice a n c) s ∧ n = s.length ∧ D = (if q = false ∨ r = false then 3 else if 20 < s.length then 2 else fnz (apF s) s.length) ∧ ∀ j (h : j < s.length), s[j].nm.size ≤ 2000000) := by
    refine ⟨h, h.len, ?_, hz⟩
    rw [hD, hq, hr]
    unfold kpF
    simp only [decide_eq_false_iff_not]
  have HI : Hid (∀ W, Calls Try.prog 49 #[.int .i64 L, .int .i64 1, .int .i64 1000] W fun e w' => e = .returned (.bool q) ∧ w' = W) := impl_insC L 1 1000 q hq
  have HJ : Hid (∀ W, Calls Try.prog 49 #[.int .i64 U, .int .i64 0, .int .i64 L] W fun e w' => e = .returned (.bool r) ∧ w' = W) := impl_insC U 0 L r hr
  have HS : Hid (SB w (.cells #[.int .i64 A, .string R, .int .i64 S, .int .i64 U, .int .i64 L, .bool Q, .slice a n c] 31) (w.alloc (.cells #[.int .i64 A, .string R, .int .i64 S, .int .i64 U, .int .i64 L, .bool Q, .slice a n c] 31))) := SB.new _ _
  clear h hz hD hq hr
  go_enter Try.func50, Try.ntmps50
  go_wp2_with (fail)
  obtain ⟨W0, hW0⟩ : ∃ X9, X9 = w.alloc (.cells #[.int .i64 A, .string R, .int .i64 S, .int .i64 U, .int .i64 L, .bool Q, .slice a n c] 31) := ⟨_, rfl⟩
  rw [← hW0] at HS ⊢
  clear hW0
  obtain ⟨p0, p1, p2, p3, p4, p5, p6, pl⟩ := tf_seven HS.out.bx
  refine (HI.out _).mono ?_
  rintro e w5 ⟨rfl, hw5⟩
  subst w5
  clear HI
  cases q with
  | false =>
    have HD : Hid (D = 3) := by unfold Hid; rw [H.out.2.2.1]; simp
    clear HJ
    go_wp2
    go_returns
    exact ⟨by rw [HD.out]; rfl, HS.out.bl⟩
  | true =>
  go_wp2_with (fail)
  refine (HJ.out _).mono ?_
  rintro e w5 ⟨rfl, hw5⟩
  subst w5
  clear HJ
  cases r with
  | false =>
    have HD : Hid (D = 3) := by unfold Hid; rw [H.out.2.2.1]; simp
    go_wp2
    go_returns
    exact ⟨by rw [HD.out]; rfl, HS.out.bl⟩
  | true =>
  by_cases h2 : (20 : Int) < (n : Int)
  · have HD : Hid (D = 2) := by unfold Hid; rw [H.out.2.2.1, if_neg (by simp), if_pos (by rw [← H.out.2.1]; omega)]
    go_wp2
    go_returns
    exact ⟨by rw [HD.out]; rfl, HS.out.bl⟩
  have HD : Hid (D = fnz (apF s) s.length) := by unfold Hid; rw [H.out.2.2.1, if_neg (by simp), if_neg (by rw [← H.out.2.1]; omega)]
  go_wp2
  go_loopw [25] (fun i wr => ∃ k : Nat, k ≤ n ∧ i = .int .i64 k ∧ Hid (SB w (.cells #[.int .i64 A, .string R, .int .i64 S, .int .i64 U, .int .i64 L, .bool Q, .slice a n c] 31) wr ∧ ∀ j, j < k → apF s j = 0)) (fun i _ => n - (intOf i).toNat)
  case atStart => exact ⟨0, Nat.zero_le _, rfl, HS.out, fun j hj => by omega⟩
  case round =>
    clear HS p0 p1 p2 p3 p4 p5 p6 pl
    obtain ⟨k, hk, rfl, hR⟩ := hrel
    obtain ⟨p0, p1, p2, p3, p4, p5, p6, pl⟩ := tf_seven hR.out.1.bx
    clear p0 p1 p2 p3 p4 p5
    by_cases hlt : k < n
    · have hkl : k < s.length := by rw [← H.out.2.1]; exact hlt
      obtain ⟨g, o, c2, he, hg, hj⟩ := (H.out.1.below hR.out.1.bl).pos (by omega)
      simp only [Value.slice.injEq] at he
      obtain ⟨rfl, hx1, hx2⟩ := he
      clear hx1 hx2
      obtain ⟨c0, c1⟩ := apC_at (hj k hkl)
      obtain ⟨y, hy⟩ : ∃ y, y = s[k] := ⟨_, rfl⟩
      rw [← hy] at c0 c1
      obtain ⟨nm, su⟩ := y
      simp only at c0 c1
      obtain ⟨v, hv⟩ : ∃ v, v = nameK nm := ⟨_, rfl⟩
      obtain ⟨r, hr⟩ : ∃ v, v = atL ((s.take k).map (·.nm)) nm := ⟨_, rfl⟩
      have HF : Hid (apF s k = (if v ≠ 0 then v else if 0 ≤ r then 1 else 0) ∧ k < s.length) := by
        refine ⟨?_, hkl⟩
        unfold apF
        rw [getA hkl, ← hy]
        simp only
        rw [← hv, ← hr]
      have HN : Hid (∀ W, Calls Try.prog 57 #[.string nm] W fun e w' => e = .returned (.int .i64 v) ∧ w' = W) := fun W => by
        rw [hv]; exact impl_name nm W (by have := H.out.2.2.2 k hkl; rw [← hy] at this; exact this)
      have b0 : (0 : Int) ≤ (k : Int) := by omega
      have b1 : (k : Int) < (n : Int) := by omega
      have b2 : (k : Int) ≤ (c : Int) := by omega
      have b3 : k ≤ c := by omega
      have HA : Hid (∀ W, Below w.heap.size w W → Calls Try.prog 58 #[.slice (some ⟨g, o, none⟩) k c, .string nm] W fun e w' => e = .returned (.int .i64 r) ∧ Below W.heap.size W w') := fun W hb => by
        rw [hr]; exact impl_atAp (s.take k) nm (by omega) (rg_take (H.out.1.below hb) (by omega))
      have HT : Hid (SB w (.cells #[.int .i64 A, .string R, .int .i64 S, .int .i64 U, .int .i64 L, .bool Q, .slice (some ⟨g, o, none⟩) n c] 31) (wr.alloc (.cells #[.string nm, .int .i64 su] 72)) ∧ (wr.alloc (.cells #[.string nm, .int .i64 su] 72)).heap[wr.heap.size]? = some (.cells #[.string nm, .int .i64 su] 72) ∧ ∀ j, j < k → apF s j = 0) := ⟨hR.out.1.next (by (repeat' (first | (with_reducible exact Below.refl _ _) | (with_reducible assumption) | (with_reducible refine Below.setCell ?_ ?_ _) | (with_reducible refine Below.alloc ?_ ?_ _) | (with_reducible refine below_drewN ?_ _) | (with_reducible refine Below.drew ?_) | (with_reducible exact Nat.le_refl _) | omega | (simp; done) | (simp; omega)))), heap_alloc_new _ _, hR.out.2⟩
      clear hv hr hy hj hkl hR
      go_wp2_with (fail)
      obtain ⟨U5, hU5⟩ : ∃ U, U = wr.alloc (.cells #[.string nm, .int .i64 su] 72) := ⟨_, rfl⟩
      rw [← hU5] at HT ⊢
      obtain ⟨kb, hkb⟩ : ∃ K, K = wr.heap.size := ⟨_, rfl⟩
      rw [← hkb] at HT ⊢
      clear hU5 hkb c0 c1 hg p6 pl
      refine (HN.out _).mono ?_
      rintro e w5 ⟨rfl, hw5⟩
      subst w5
      clear HN
      obtain ⟨_, _, _, _, _, _, p6, pl⟩ := tf_seven HT.out.1.bx
      obtain ⟨d0, d1, dl⟩ := apAgg HT.out.2.1
      by_cases hv0 : v = 0
      case neg =>
        have HE : Hid (D = v) := by
          unfold Hid
          rw [HD.out, fnz_stop HF.out.2 HT.out.2.2 (by rw [HF.out.1, if_pos hv0]; exact hv0), HF.out.1, if_pos hv0]
        have hv1 : (v != 0) = true := by simpa using hv0
        clear HA
        go_wp2
        go_returns
        exact ⟨by rw [HE.out]; rfl, HT.out.1.bl⟩
      subst hv0
      have HC : Hid (∀ y : Und U5.heap.size U5, Calls Try.prog 58 #[.slice (some ⟨g, o, none⟩) k c, .string nm] y.W fun e w' => e = .returned (.int .i64 r) ∧ Below y.W.heap.size y.W w') := fun y => HA.out y.W (HT.out.1.bl.trans (y.below.mono HT.out.1.bl.size))
      clear HA
      by_cases hr0 : 0 ≤ r
      · have HE : Hid (D = 1) := by
          unfold Hid
          have h3 : apF s k = 1 := by rw [HF.out.1, if_neg (by simp), if_pos hr0]
          rw [HD.out, fnz_stop HF.out.2 HT.out.2.2 (by rw [h3]; decide), h3]
        go_wp2
        (refine wp_region_und (by kernel_rfl) (by kernel_rfl) (fun hund => ?_); (repeat (go_big_quiet_step (first | (go_at_call 58; with_reducible refine und_call ?_ (HC.out _); exact Nat.le_refl _)))); with_reducible refine wpQuiet_nil ?_; clear hund; intro W1 hb1; obtain ⟨hc1, hf1⟩ := undcell hb1)
        go_wp2
        go_returns
        exact ⟨by rw [HE.out]; rfl, (HT.out.1.next hb1).bl⟩
      · have HE : Hid (∀ j, j < k + 1 → apF s j = 0) := fun j hj => by
          rcases (by omega : j < k ∨ j = k) with e | rfl
          · exact HT.out.2.2 j e
          · rw [HF.out.1, if_neg (by simp), if_neg hr0]
        go_wp2
        (refine wp_region_und (by kernel_rfl) (by kernel_rfl) (fun hund => ?_); (repeat (go_big_quiet_step (first | (go_at_call 58; with_reducible refine und_call ?_ (HC.out _); exact Nat.le_refl _)))); with_reducible refine wpQuiet_nil ?_; clear hund; intro W1 hb1; obtain ⟨hc1, hf1⟩ := undcell hb1)
        go_wp2
        go_roundw
        case rel => exact ⟨k + 1, by omega, by go_num, HT.out.1.next hb1, HE.out⟩
        case measure => simp [intOf]; omega
    · have HE : Hid (D = 0) := by unfold Hid; rw [HD.out]; exact fnz_zero fun j hj => hR.out.2 j (by rw [← H.out.2.1] at hj; omega)
      have HB : Hid (Below w.heap.size w wr) := hR.out.1.bl
      clear hR
      go_wp2
      go_returns
      exact ⟨by rw [HE.out]; rfl, HB.out⟩

end Go.Proofs.Ytkacfjbhkgdpdaa
