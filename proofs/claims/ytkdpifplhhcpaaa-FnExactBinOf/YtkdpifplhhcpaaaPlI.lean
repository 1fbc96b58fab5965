/- Proved here: BinOf of the program. -/
import Derived.Test.YtkdpifplhhcpaaaPlM
import Derived.Test.YtkdpifplhhcpaaaInsC
import Derived.Test.YtkdpifplhhcpaaaCeQ
import Derived.Test.YtkdpifplhhcpaaaUnd
import Derived.BigQuiet
import Derived.Deep.Cut
namespace Go.Proofs.Ytkdpifplhhcpaaa
open Go.RowKit
set_option linter.unusedVariables false
set_option linter.unusedSimpArgs false

set_option maxHeartbeats 1600000 in
theorem impl_lw (x : Li) (W : World) :
    Calls Try.prog 44 #[.agg #[.int .i64 x.lo, .int .i64 x.hi, .int .i64 x.bi]] W fun e w' => e = .returned (.bool (liW x)) ∧ Below W.heap.size W w' := by
  obtain ⟨V, hV⟩ : ∃ V, V = W.alloc (.cells #[.int .i64 x.lo, .int .i64 x.hi, .int .i64 x.bi] 62) := ⟨_, rfl⟩
  have HV : Hid (Below W.heap.size W V ∧ V.heap[W.heap.size]? = some (.cells #[.int .i64 x.lo, .int .i64 x.hi, .int .i64 x.bi] 62)) := by rw [hV]; exact ⟨by (repeat' (first | (with_reducible exact Below.refl _ _) | (with_reducible assumption) | (with_reducible refine Below.setCell ?_ ?_ _) | (with_reducible refine Below.alloc ?_ ?_ _) | (with_reducible refine below_drewN ?_ _) | (with_reducible refine Below.drew ?_) | (with_reducible exact Nat.le_refl _) | omega | (simp; done) | (simp; omega))), heap_alloc_new _ _⟩
  obtain ⟨q, hq⟩ : ∃ q, q = decide (2 ≤ x.bi ∧ x.bi ≤ 99) := ⟨_, rfl⟩
  have HI : Hid (∀ X, Calls Try.prog 45 #[.int .i64 x.bi, .int .i64 2, .int .i64 99] X fun e w' => e = .returned (.bool q) ∧ w' = X) := fun X => impl_insC x.bi 2 99 q hq X
  have HW : Hid (liW x = (decide (x.hi < x.lo) || !q)) := by unfold Hid liW oo; rw [hq]
  rw [HW.out]
  clear hq HW
  obtain ⟨p0, p1, p2, pl⟩ := li_cells HV.out.2
  by_cases h : x.hi < x.lo
  · rw [decide_eq_true h]
    go_enter Try.func44, Try.ntmps44
    go_wp2
    go_returns
    exact ⟨rfl, by rw [← hV]; exact HV.out.1⟩
  · rw [decide_eq_false h]
    go_enter Try.func44, Try.ntmps44
    go_wp2_with (fail)
    rw [← hV]
    refine (HI.out _).mono ?_
    rintro e w1 ⟨rfl, hw⟩
    subst w1
    go_wp2
    go_returns
    exact ⟨rfl, by first | exact HV.out.1 | (rw [← hV]; exact HV.out.1)⟩

set_option maxRecDepth 10000 in
set_option maxHeartbeats 3200000 in
theorem impl_ixL (P : Li → Bool) {s : List Li} {W : World} {n c : Nat} {a : Option Addr}  (hn : n ≤ 2000000) (hs : RG 3 liC W (.slice a n c) s) (HC0 : ∀ (x : Li) X, Below W.heap.size W X → Calls Try.prog 44 #[.agg #[.int .i64 x.lo, .int .i64 x.hi, .int .i64 x.bi]] X fun e w' => e = .returned (.bool (P x)) ∧ Below X.heap.size X w') :
    Calls Try.prog 63 #[.slice a n c, .func (Fn.func 44) #[] #[]] W fun e w' => ∃ r : Int, e = .returned (.int .i64 r) ∧ decide (0 ≤ r) = s.any P ∧ Below W.heap.size W w' := by
  have hml : n = s.length := hs.len
  obtain ⟨G, hG⟩ : ∃ G, G = s.any P := ⟨_, rfl⟩
  rw [← hG]
  have H : Hid (RG 3 liC W (.slice a n c) s ∧ n = s.length ∧ G = s.any P) := ⟨hs, hml, hG⟩
  have HC : Hid (∀ (x : Li) X, Below W.heap.size W X → Calls Try.prog 44 #[.agg #[.int .i64 x.lo, .int .i64 x.hi, .int .i64 x.bi]] X fun e w' => e = .returned (.bool (P x)) ∧ Below X.heap.size X w') := HC0
  clear hs hml hG HC0
  go_enter Try.func63, Try.ntmps63
  go_wp2
  go_loopw [8] (fun i wr => ∃ t : Nat, t ≤ n ∧ i = .int .i64 t ∧ Hid ((s.drop t).any P = s.any P ∧ Below W.heap.size W wr)) (fun i _ => n - (intOf i).toNat)
  case atStart => exact ⟨0, Nat.zero_le _, rfl, rfl, Below.refl _ _⟩
  case round =>
    obtain ⟨t, ht, rfl, hR⟩ := hrel
    by_cases hlt : t < n
    · have htl : t < s.length := by rw [← H.out.2.1]; exact hlt
      obtain ⟨g, o, d2, he, hg, hj⟩ := (H.out.1.below hR.out.2).pos (by omega)
      simp only [Value.slice.injEq] at he
      obtain ⟨rfl, hx1, hx2⟩ := he
      clear hx1 hx2
      obtain ⟨c0, c1, c2⟩ := liC_at (hj t htl)
      obtain ⟨x, hx⟩ : ∃ x, x = s[t] := ⟨_, rfl⟩
      rw [← hx] at c0 c1 c2
      clear hj
      obtain ⟨q, hq⟩ : ∃ q, q = P x := ⟨_, rfl⟩
      have HQ : Hid (s.any P = (q || (s.drop (t + 1)).any P)) := by unfold Hid; rw [← hR.out.1, any_at htl, hq, hx]
      have HC2 : Hid (Calls Try.prog 44 #[.agg #[.int .i64 x.lo, .int .i64 x.hi, .int .i64 x.bi]] wr fun e w' => e = .returned (.bool q) ∧ Below wr.heap.size wr w') := by rw [hq]; exact HC.out x wr hR.out.2
      clear hx hq
      have b0 : (0 : Int) ≤ (t : Int) := by omega
      have b1 : (t : Int) < (n : Int) := by omega
      go_wp2_with (fail)
      refine HC2.out.mono ?_
      rintro e w5 ⟨rfl, hb5⟩
      have HB : Hid (Below W.heap.size W w5) := hR.out.2.trans (hb5.mono hR.out.2.size)
      clear HC2 hb5 hR
      cases q with
      | true =>
        have HG : Hid (G = true) := by unfold Hid; rw [H.out.2.2, HQ.out]; rfl
        clear HQ
        go_wp2
        go_returns
        exact ⟨(t : Int), rfl, by rw [HG.out]; exact decide_eq_true b0, HB.out⟩
      | false =>
        have HG : Hid ((s.drop (t + 1)).any P = s.any P) := by unfold Hid; rw [HQ.out]; rfl
        clear HQ
        go_wp2
        go_roundw
        case rel => exact ⟨t + 1, by omega, by go_num, HG.out, HB.out⟩
        case measure => simp [intOf]; omega
    · have HM : Hid (G = false) := by
        unfold Hid; rw [H.out.2.2, ← hR.out.1, any_end (by rw [← H.out.2.1]; omega)]
      go_wp2
      go_returns
      exact ⟨-1, rfl, by rw [HM.out]; rfl, hR.out.2⟩

set_option maxHeartbeats 1600000 in
theorem impl_cfL (P : Li → Bool) {s : List Li} {W : World} {n c : Nat} {a : Option Addr}  (hn : n ≤ 2000000) (hs : RG 3 liC W (.slice a n c) s) (HC0 : ∀ (x : Li) X, Below W.heap.size W X → Calls Try.prog 44 #[.agg #[.int .i64 x.lo, .int .i64 x.hi, .int .i64 x.bi]] X fun e w' => e = .returned (.bool (P x)) ∧ Below X.heap.size X w') :
    Calls Try.prog 43 #[.slice a n c, .func (Fn.func 44) #[] #[]] W fun e w' => e = .returned (.bool (s.any P)) ∧ Below W.heap.size W w' := by
  obtain ⟨G, hG⟩ : ∃ G, G = s.any P := ⟨_, rfl⟩
  have HC : Hid (Calls Try.prog 63 #[.slice a n c, .func (Fn.func 44) #[] #[]] W fun e w' => ∃ r : Int, e = .returned (.int .i64 r) ∧ decide (0 ≤ r) = G ∧ Below W.heap.size W w') := by rw [hG]; exact impl_ixL P hn hs HC0
  rw [← hG]
  clear hG hs HC0
  go_enter Try.func43, Try.ntmps43
  go_wp2_with (fail)
  refine HC.out.mono ?_
  rintro e w5 ⟨r, rfl, hr, hb⟩
  have HB : Hid (Below W.heap.size W w5) := hb
  have HR : Hid (decide (0 ≤ r) = G) := hr
  clear HC hb hr
  go_wp2
  go_returns
  exact ⟨by rw [← HR.out]; rfl, HB.out⟩

set_option maxRecDepth 100000 in
set_option maxHeartbeats 6400000 in
theorem impl_bi {W : World} {vm : Value} {m : List Int} {a : Option Addr} {c : Nat} {s : List Li} (hm0 : m.length ≤ 1048576) (hmr : RdI W vm m) (hn : s.length ≤ 1048576) (hs : RG 3 liC W (.slice a s.length c) s) :
    Calls Try.prog 13 #[vm, .slice a s.length c] W fun e w' => e = .returned (.agg #[.int .i64 (biC m s), .int .i64 (biV m s)]) ∧ Below W.heap.size W w' := by
  obtain ⟨am, cm, rfl⟩ := hmr.form
  obtain ⟨k, hk⟩ : ∃ k, k = m.length := ⟨_, rfl⟩
  obtain ⟨n, hnn⟩ : ∃ n, n = s.length := ⟨_, rfl⟩
  rw [← hnn] at hs hn ⊢
  rw [← hk] at hmr hm0 ⊢
  obtain ⟨Z, hZ⟩ : ∃ Z, Z = W.alloc (.cells #[.int .i64 0, .int .i64 0] 26) := ⟨_, rfl⟩
  have HZ : Hid (Below W.heap.size W Z ∧ Z.heap[W.heap.size]? = some (.cells #[.int .i64 0, .int .i64 0] 26)) := by rw [hZ]; exact ⟨by (repeat' (first | (with_reducible exact Below.refl _ _) | (with_reducible assumption) | (with_reducible refine Below.setCell ?_ ?_ _) | (with_reducible refine Below.alloc ?_ ?_ _) | (with_reducible refine below_drewN ?_ _) | (with_reducible refine Below.drew ?_) | (with_reducible exact Nat.le_refl _) | omega | (simp; done) | (simp; omega))), heap_alloc_new _ _⟩
  have H : Hid (RG 3 liC W (.slice a n c) s ∧ n = s.length ∧ RdI W (.slice am k cm) m ∧ k = m.length) := ⟨hs, hnn, hmr, hk⟩
  clear hs hnn hk hmr
  by_cases h0 : (40 : Int) < (k : Int)
  · have HC : Hid (biC m s = 2 ∧ biV m s = 0) := biC_many (by rw [← H.out.2.2.2]; omega)
    go_enter Try.func13, Try.ntmps13
    go_wp2
    go_returns
    exact ⟨by rw [HC.out.1, HC.out.2], by (repeat' (first | (with_reducible exact Below.refl _ _) | (with_reducible assumption) | (with_reducible refine Below.setCell ?_ ?_ _) | (with_reducible refine Below.alloc ?_ ?_ _) | (with_reducible refine below_drewN ?_ _) | (with_reducible refine Below.drew ?_) | (with_reducible exact Nat.le_refl _) | omega | (simp; done) | (simp; omega)))⟩
  have hk40 : k ≤ 40 := by omega
  by_cases h1 : n = k
  case neg =>
    have HC : Hid (biC m s = 1 ∧ biV m s = 0) := biC_len (by rw [← H.out.2.2.2]; omega) (by rw [← H.out.2.2.2, ← H.out.2.1]; exact h1)
    have h1i : ¬ (n : Int) = (k : Int) := by omega
    have h1b : ((n : Int) != (k : Int)) = true := by simpa using h1i
    clear h1
    go_enter Try.func13, Try.ntmps13
    go_wp2
    go_returns
    exact ⟨by rw [HC.out.1, HC.out.2], by (repeat' (first | (with_reducible exact Below.refl _ _) | (with_reducible assumption) | (with_reducible refine Below.setCell ?_ ?_ _) | (with_reducible refine Below.alloc ?_ ?_ _) | (with_reducible refine below_drewN ?_ _) | (with_reducible refine Below.drew ?_) | (with_reducible exact Nat.le_refl _) | omega | (simp; done) | (simp; omega)))⟩
  subst h1
  obtain ⟨q, hq⟩ : ∃ q, q = s.any liW := ⟨_, rfl⟩
  have HC : Hid (Calls Try.prog 43 #[.slice a n c, .func (Fn.func 44) #[] #[]] Z fun e w' => e = .returned (.bool q) ∧ Below Z.heap.size Z w') := by
    rw [hq]
    exact impl_cfL liW (by omega) (H.out.1.below HZ.out.1) (fun x X _ => impl_lw x X)
  have HQ : Hid (q = s.any liW) := hq
  clear hq hn hm0 h0
  go_enter Try.func13, Try.ntmps13
  go_wp2_with (fail)
  rw [← hZ]
  refine HC.out.mono ?_
  rintro e w1 ⟨rfl, hb1⟩
  have HW : Hid (Below W.heap.size W w1 ∧ w1.heap[W.heap.size]? = some (.cells #[.int .i64 0, .int .i64 0] 26)) := ⟨HZ.out.1.trans (hb1.mono HZ.out.1.size), by rw [hb1.block _ (ltOfQ HZ.out.2)]; exact HZ.out.2⟩
  clear hb1 HC HZ hZ
  cases q
  case true =>
    have HE : Hid (biC m s = 1 ∧ biV m s = 0) := biC_bad (by rw [← H.out.2.2.2]; omega) (by rw [← H.out.2.1, ← H.out.2.2.2]) HQ.out.symm
    have z0 := cellOfQ HW.out.2 0 rfl
    have z1 := cellOfQ HW.out.2 1 rfl
    have zl := ltOfQ HW.out.2
    have f0 := frozOfQ HW.out.2 0
    have f1 := frozOfQ HW.out.2 1
    have HB : Hid (Below W.heap.size W w1) := HW.out.1
    go_wp2
    try simp only [Exit.inBlock, Exit.then]
    refine bodyPost_ret (by simp [results, Try.results13, go_sem, z0, z1, zl, f0, f1]; try rfl) rfl ⟨by rw [HE.out.1, HE.out.2], (HB.out.setCell (Nat.le_refl _) _).setCell (Nat.le_refl _) _⟩
  have HOK : Hid (biC m s = 0 ∧ biV m s = biF m s) := biC_ok (by rw [← H.out.2.2.2]; omega) (by rw [← H.out.2.1, ← H.out.2.2.2]) HQ.out.symm
  clear HQ
  go_wp2
  go_loopw [23] (fun i wr => ∃ t : Nat, t ≤ n ∧ i = .int .i64 t ∧ Hid (Below W.heap.size W wr ∧ wr.heap[W.heap.size]? = some (.cells #[.int .i64 0, .int .i64 0] 26) ∧ biF (m.drop t) (s.drop t) = biF m s)) (fun i _ => n - (intOf i).toNat)
  case atStart => exact ⟨0, Nat.zero_le _, rfl, HW.out.1, HW.out.2, rfl⟩
  case round =>
    clear HW
    obtain ⟨t, ht, rfl, hR⟩ := hrel
    by_cases hlt : t < n
    · have htl : t < s.length := by rw [← H.out.2.1]; exact hlt
      have htm : t < m.length := by rw [← H.out.2.2.2]; exact hlt
      have HS := biF_step htm htl
      obtain ⟨g, o, d2, he, hg, hj⟩ := (H.out.1.below hR.out.1).pos (by omega)
      simp only [Value.slice.injEq] at he
      obtain ⟨rfl, hx1, hx2⟩ := he
      clear hx1 hx2
      obtain ⟨c0, c1, c2⟩ := liC_at (hj t htl)
      obtain ⟨x, hx⟩ : ∃ x, x = s[t] := ⟨_, rfl⟩
      rw [← hx] at c0 c1 c2
      clear hj
      rw [← hx] at HS
      obtain ⟨gm, om, rfl, hgm, m0⟩ := rd_at (H.out.2.2.1.below hR.out.1) hlt
      obtain ⟨y, hy⟩ : ∃ y, y = m.getD t 0 := ⟨_, rfl⟩
      rw [← hy] at m0 HS
      obtain ⟨q, hq⟩ : ∃ q, q = decide (x.lo ≤ y ∧ y ≤ x.hi) := ⟨_, rfl⟩
      have HI : Hid (∀ X, Calls Try.prog 45 #[.int .i64 y, .int .i64 x.lo, .int .i64 x.hi] X fun e w' => e = .returned (.bool q) ∧ w' = X) := fun X => impl_insC y x.lo x.hi q hq X
      have HQ : Hid ((q = true → biF (m.drop (t + 1)) (s.drop (t + 1)) = biF m s) ∧ (q = false → biF m s = x.bi)) := by
        have h9 := hR.out.2.2
        rw [HS] at h9
        refine ⟨fun e => ?_, fun e => ?_⟩
        · rw [if_pos (of_decide_eq_true (hq.symm.trans e))] at h9; exact h9
        · rw [if_neg (of_decide_eq_false (hq.symm.trans e))] at h9; exact h9.symm
      obtain ⟨V, hV⟩ : ∃ V, V = wr.alloc (.cells #[.int .i64 x.lo, .int .i64 x.hi, .int .i64 x.bi] 62) := ⟨_, rfl⟩
      have HV : Hid (Below W.heap.size W V ∧ V.heap[W.heap.size]? = some (.cells #[.int .i64 0, .int .i64 0] 26) ∧ V.heap[wr.heap.size]? = some (.cells #[.int .i64 x.lo, .int .i64 x.hi, .int .i64 x.bi] 62)) := by
        rw [hV]; exact ⟨hR.out.1.alloc hR.out.1.size _, by rw [heap_alloc_old _ _ (ltOfQ hR.out.2.1)]; exact hR.out.2.1, heap_alloc_new _ _⟩
      have m1 : V.cell? ⟨gm, om + t, none⟩ = some (.int .i64 y) := by rw [← m0, hV]; exact (Below.alloc (Below.refl _ _) (Nat.le_refl _) _ : Below wr.heap.size wr _).cell (p := ⟨gm, om + t, none⟩) hgm
      have hgm1 : gm < V.heap.size := by rw [hV]; simp; omega
      obtain ⟨b, hb⟩ : ∃ b, b = wr.heap.size := ⟨_, rfl⟩
      clear HS hx hy hR htl htm hq
      have b0 : (0 : Int) ≤ (t : Int) := by omega
      have b1 : (t : Int) < (n : Int) := by omega
      go_upto_region 8 with (fail)
      rw [← hV, ← hb]
      rw [← hb] at HV
      clear hV hb c0 c1 c2 m0 hg hgm
      obtain ⟨p0, p1, p2, pl⟩ := li_cells HV.out.2.2
      go_quiet (first | (go_at_call 45; with_reducible refine Calls.quiet_of_same (HI.out _)))
      have HB : Hid (∀ j, Below W.heap.size W (V.drewN j)) := fun j => below_drewN HV.out.1 j
      cases q
      case true =>
        have HN : Hid (biF (m.drop (t + 1)) (s.drop (t + 1)) = biF m s) := HQ.out.1 rfl
        clear HQ
        go_wp2
        go_roundw
        case rel => exact ⟨t + 1, by omega, by go_num, below_drewN HV.out.1 _, HV.out.2.1, HN.out⟩
        case measure => simp [intOf]; omega
      case false =>
        have HN : Hid (biF m s = x.bi) := HQ.out.2 rfl
        have z0 := cellOfQ HV.out.2.1 0 rfl
        have z1 := cellOfQ HV.out.2.1 1 rfl
        have zl := ltOfQ HV.out.2.1
        have f0 := frozOfQ HV.out.2.1 0
        have f1 := frozOfQ HV.out.2.1 1
        go_wp2
        try simp only [Exit.inBlock, Exit.then]
        refine bodyPost_ret (by simp [results, Try.results13, go_sem, z0, z1, zl, f0, f1, p2]; try rfl) rfl ⟨by rw [HOK.out.1, HOK.out.2, HN.out], (HB.out _ |>.setCell (Nat.le_refl _) _).setCell (Nat.le_refl _) _⟩
    · have HE : Hid (biV m s = 1) := by
        unfold Hid; rw [HOK.out.2, ← hR.out.2.2]; exact biF_end (by rw [← H.out.2.2.2]; omega)
      have z0 := cellOfQ hR.out.2.1 0 rfl
      have z1 := cellOfQ hR.out.2.1 1 rfl
      have zl := ltOfQ hR.out.2.1
      have f0 := frozOfQ hR.out.2.1 0
      have f1 := frozOfQ hR.out.2.1 1
      have HB : Hid (Below W.heap.size W wr) := hR.out.1
      clear hR
      go_wp2
      try simp only [Exit.inBlock, Exit.then]
      refine bodyPost_ret (by simp [results, Try.results13, go_sem, z0, z1, zl, f0, f1]; try rfl) rfl ⟨by rw [HOK.out.1, HE.out], (HB.out.setCell (Nat.le_refl _) _).setCell (Nat.le_refl _) _⟩

end Go.Proofs.Ytkdpifplhhcpaaa
