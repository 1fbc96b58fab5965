/- Proved here: firstFit of the program: the place of the first class that fits. -/
import Derived.Test.YtjacmneopijiaaaVtT
import Derived.Test.YtjacmneopijiaaaInsC
namespace Go.Proofs.Ytjacmneopijiaaa
open Go.RowKit
set_option linter.unusedVariables false
set_option linter.unusedSimpArgs false

theorem cat_two (ls : Nat → List Int) : catN ls 2 = ls 0 ++ ls 1 := by
  rw [catN_succ, catN_succ]; rfl
set_option maxRecDepth 10000 in
set_option maxHeartbeats 12800000 in
theorem impl_ff {W : World} {B n c : Nat} {a : Option Addr} {cs : List Cls} (d : Dft) (hdk : -9223372036854775808 ≤ d.k ∧ d.k ≤ 9223372036854775807) (hn : n ≤ 20) (h : RG 6 vcC W (.slice a n c) cs) (hT : TBL W B cs cs.length) :
    Calls Try.prog 45 #[.agg #[.slice a n c, .map (some (B + 1))], .agg #[.int .i64 d.x, .int .i64 d.y, .int .i64 d.z, .int .i64 d.k]] W fun e w' => e = .returned (.int .i64 (vff d cs : Nat)) ∧ Below W.heap.size W w' := by
  have hnn := h.len
  obtain ⟨R, hR⟩ : ∃ R : Nat, R = vff d cs := ⟨_, rfl⟩
  rw [← hR]
  have HR : Hid (R = vff d cs) := hR
  clear hR
  obtain ⟨V0, hV0⟩ : ∃ V, V = (W.alloc (.cells #[.slice a n c, .map (some (B + 1))] 79)).alloc (.cells #[.int .i64 d.x, .int .i64 d.y, .int .i64 d.z, .int .i64 d.k] 41) := ⟨_, rfl⟩
  obtain ⟨k0, hk0⟩ : ∃ k, k = W.heap.size := ⟨_, rfl⟩
  have b0' : Below W.heap.size W V0 := by rw [hV0]; (repeat' (first | (with_reducible exact Below.refl _ _) | (with_reducible assumption) | (with_reducible refine Below.setCell ?_ ?_ _) | (with_reducible refine Below.alloc ?_ ?_ _) | (with_reducible refine below_drewN ?_ _) | (with_reducible refine Below.drew ?_) | (with_reducible exact Nat.le_refl _) | omega | (simp; done) | (simp; omega)))
  have HB0 : Hid (Below W.heap.size W V0 ∧ V0.heap.size = k0 + 2) := ⟨b0', by rw [hV0, hk0]; simp⟩
  have q0 : V0.heap[k0]? = some (.cells #[.slice a n c, .map (some (B + 1))] 79) := by
    rw [hV0, hk0]; exact (Below.heap_alloc _ _ _ (by simp)).trans (heap_alloc_new W _)
  have q1 : V0.heap[k0 + 1]? = some (.cells #[.int .i64 d.x, .int .i64 d.y, .int .i64 d.z, .int .i64 d.k] 41) := by
    rw [hV0, hk0]; have := heap_alloc_new (W.alloc (.cells #[.slice a n c, .map (some (B + 1))] 79)) (.cells #[.int .i64 d.x, .int .i64 d.y, .int .i64 d.z, .int .i64 d.k] 41); simpa using this
  have HQ : Hid (V0.heap[k0]? = some (.cells #[.slice a n c, .map (some (B + 1))] 79) ∧ V0.heap[k0 + 1]? = some (.cells #[.int .i64 d.x, .int .i64 d.y, .int .i64 d.z, .int .i64 d.k] 41)) := ⟨q0, q1⟩
  have p0 : V0.cell? ⟨k0, 0, none⟩ = some (.slice a n c) := cellOf q0 0 rfl
  have p1 : V0.cell? ⟨k0, 1, none⟩ = some (.map (some (B + 1))) := cellOf q0 1 rfl
  have p2 : V0.cell? ⟨k0 + 1, 2, none⟩ = some (.int .i64 d.z) := cellOf q1 2 rfl
  have p3 : V0.cell? ⟨k0 + 1, 3, none⟩ = some (.int .i64 d.k) := cellOf q1 3 rfl
  have l0 : k0 < V0.heap.size := ltOf q0
  have l1 : k0 + 1 < V0.heap.size := ltOf q1
  obtain ⟨nn, f, hnj, hG0⟩ := hT.below b0'
  obtain ⟨a1, n1, c1, hs1⟩ : ∃ a1 n1 c1, (f (.int .i64 d.k)).getD svN = (a1, n1, c1) := ⟨_, _, _, rfl⟩
  obtain ⟨a2, n2, c2, hs2⟩ : ∃ a2 n2 c2, (f (.int .i64 (-1))).getD svN = (a2, n2, c2) := ⟨_, _, _, rfl⟩
  have g1 := hG0.tm.look tk_law Try.underlying77 (tk_zero _) (tk_key (x := d.k) hdk)
  have g2 := hG0.tm.look tk_law Try.underlying77 (tk_zero _) (tk_key (x := -1) (by omega))
  have o1 := og_nt.1 (hG0.at (.int .i64 d.k) rfl)
  have o2 := og_nt.1 (hG0.at (.int .i64 (-1)) rfl)
  rw [hs1] at g1 o1
  rw [hs2] at g2 o2
  rw [vtL_int] at o1 o2
  obtain ⟨V1, hV1⟩ : ∃ V, V = V0.alloc (.cells #[.slice a1 n1 c1, .slice a2 n2 c2] 110) := ⟨_, rfl⟩
  have b1' : Below V0.heap.size V0 V1 := by rw [hV1]; (repeat' (first | (with_reducible exact Below.refl _ _) | (with_reducible assumption) | (with_reducible refine Below.setCell ?_ ?_ _) | (with_reducible refine Below.alloc ?_ ?_ _) | (with_reducible refine below_drewN ?_ _) | (with_reducible refine Below.drew ?_) | (with_reducible exact Nat.le_refl _) | omega | (simp; done) | (simp; omega)))
  have qs : V1.heap[V0.heap.size]? = some (.cells #[.slice a1 n1 c1, .slice a2 n2 c2] 110) := by rw [hV1]; exact heap_alloc_new V0 _
  have HO : Hid (Calls Try.prog 69 #[.slice (some ⟨V0.heap.size, 0, none⟩) 2 2] V1 fun e w' => ∃ r, e = .returned r ∧ NT w' V1.heap.size r (vord d cs) ∧ Below V1.heap.size V1 w') := by
    have h9 := impl_orderedN (w := V1) (gl := V0.heap.size) (k := 2) (B := B + 2) (vs := fun i => if i = 0 then (a1, n1, c1) else (a2, n2, c2)) (ls := fun i => if i = 0 then vpl cs cs.length d.k else vpl cs cs.length (-1)) (ltOf qs) (by omega)
      (fun i hi => by
        rcases (show i = 0 ∨ i = 1 by omega) with rfl | rfl
        · exact cellOf qs 0 rfl
        · exact cellOf qs 1 rfl)
      (fun i hi => by
        rcases (show i = 0 ∨ i = 1 by omega) with rfl | rfl
        · exact o1.bel b1'
        · exact o2.bel b1')
      (by
        rw [cat_two]
        have e1 := vpl_len cs cs.length d.k
        have e2 := vpl_len cs cs.length (-1)
        simp only [if_true, List.length_append]
        rw [if_neg (by omega)]
        omega)
    rw [cat_two] at h9
    exact h9
  have HC : Hid (RG 6 vcC W (.slice a n c) cs ∧ n = cs.length) := ⟨h, hnn⟩
  have HB1 : Hid (Below V0.heap.size V0 V1) := b1'
  clear qs o1 o2 hG0 hs1 hs2 hT h q0 q1 b0' b1' hnj hdk
  rw [hV0] at g1 g2
  have HV0 : Hid (V0 = (W.alloc (.cells #[.slice a n c, .map (some (B + 1))] 79)).alloc (.cells #[.int .i64 d.x, .int .i64 d.y, .int .i64 d.z, .int .i64 d.k] 41)) := hV0
  have HV1 : Hid (V1 = V0.alloc (.cells #[.slice a1 n1 c1, .slice a2 n2 c2] 110)) := hV1
  have HK0 : Hid (k0 = W.heap.size) := hk0
  have HNR : Hid ((vord d cs).length ≤ 40) := Nat.le_trans (vord_len d cs) (by omega)
  clear hnn hV0 hV1 hk0
  go_enter Try.func45, Try.ntmps45
  go_wp2_with (fail)
  rw [← HV0.out]
  rw [← HV1.out, ← HK0.out]
  have e9 : (k0 + 1 + 1) = V0.heap.size := HB0.out.2.symm
  try rw [e9]
  clear HV0 HK0 HV1 e9
  refine HO.out.mono ?_
  rintro e w1 ⟨r, rfl, hr, hb1⟩
  obtain ⟨ra, rc, hrf⟩ := hr.form
  obtain ⟨rn, hrn⟩ : ∃ m, m = (vord d cs).length := ⟨_, rfl⟩
  rw [← hrn] at hrf
  subst hrf
  have hrb : rn ≤ 40 := by rw [hrn]; exact HNR.out
  have HW1 : Hid (NT w1 V1.heap.size (.slice ra rn rc) (vord d cs) ∧ rn = (vord d cs).length) := ⟨hr, hrn⟩
  have HB : Hid (Below V0.heap.size V0 w1) := HB1.out.trans (hb1.mono HB1.out.size)
  clear hr hrn hb1 HO HB1 g1 g2 p0 p1 p2 p3 l0 l1
  go_wp2
  go_loopw [18] (fun i wr => ∃ t : Nat, t ≤ rn ∧ i = .int .i64 t ∧ Hid (Vno d cs t ∧ Below w1.heap.size w1 wr)) (fun i _ => rn - (intOf i).toNat)
  case atStart => exact ⟨0, Nat.zero_le _, rfl, Vno.zero d cs, Below.refl _ _⟩
  case round =>
    obtain ⟨t, ht, rfl, hR2⟩ := hrel
    have HBr : Hid (Below V0.heap.size V0 wr) := HB.out.trans (hR2.out.2.mono HB.out.size)
    have q0 := (HBr.out.block k0 (by have := HB0.out.2; omega)).trans HQ.out.1
    have q1 := (HBr.out.block (k0 + 1) (by have := HB0.out.2; omega)).trans HQ.out.2
    have p0 : wr.cell? ⟨k0, 0, none⟩ = some (.slice a n c) := cellOf q0 0 rfl
    have p2 : wr.cell? ⟨k0 + 1, 2, none⟩ = some (.int .i64 d.z) := cellOf q1 2 rfl
    have l0 : k0 < wr.heap.size := ltOf q0
    have l1 : k0 + 1 < wr.heap.size := ltOf q1
    clear q0 q1
    have HBW : Hid (Below W.heap.size W wr) := HB0.out.1.trans (HBr.out.mono HB0.out.1.size)
    by_cases hlt : t < rn
    · have htl : t < (vord d cs).length := by rw [← HW1.out.2]; exact hlt
      obtain ⟨i, hi, hx⟩ := vord_at htl
      have hin : i < n := by rw [HC.out.2]; exact hi
      obtain ⟨g, o, rc2, he, hg, hj⟩ := (HW1.out.1.rg.below hR2.out.2).pos (by omega)
      simp only [Value.slice.injEq] at he
      obtain ⟨rfl, hx1, hx2⟩ := he
      have ct : wr.cell? ⟨g, o + t, none⟩ = some (.int .i64 (i : Int)) := by
        have h9 := hj t htl 0 (by omega)
        rw [Nat.mul_one, Nat.add_zero, hx] at h9
        exact h9
      obtain ⟨g2, o2, cc2, he2, hg2, hj2⟩ := (HC.out.1.below HBW.out).pos (by omega)
      simp only [Value.slice.injEq] at he2
      obtain ⟨rfl, hx3, hx4⟩ := he2
      obtain ⟨d0, d1, d2, d3, d4, d5⟩ := vcC_at (hj2 i hi)
      obtain ⟨m, hm⟩ : ∃ m, m = cs[i] := ⟨_, rfl⟩
      rw [← hm] at d0 d1 d2 d3 d4 d5
      obtain ⟨r5, e5⟩ : ∃ r, r = vsz d m := ⟨_, rfl⟩
      have HI : Hid (∀ X, Calls Try.prog 63 #[.int .i64 d.z, .int .i64 m.lo, .int .i64 m.hi] X fun e w' => e = .returned (.bool r5) ∧ w' = X) := fun X => impl_insC _ _ _ _ e5 X
      have HN : Hid ((r5 = true → R = i) ∧ (r5 = false → Vno d cs (t + 1))) := by
        constructor
        · intro h5; rw [HR.out]; exact hR2.out.1.here htl hi hx (by rw [← hm, ← e5]; exact h5)
        · intro h5; exact hR2.out.1.succ htl hi hx (by rw [← hm, ← e5]; exact h5)
      have HBX : Hid (Below w1.heap.size w1 wr) := hR2.out.2
      clear hx1 hx2 hx3 hx4 hj hj2 hx hm e5 hR2 d0 d3 d4 d5 HR
      have b0 : (0 : Int) ≤ (t : Int) := by omega
      have b1 : (t : Int) < (rn : Int) := by omega
      have b2 : (0 : Int) ≤ (i : Int) := by omega
      have b3 : (i : Int) < (n : Int) := by omega
      go_wp2_with (fail)
      (refine wp_region_und (by kernel_rfl) (by kernel_rfl) (fun hund => ?_); (repeat (go_big_quiet_step (first | (go_at_call 63; with_reducible refine und_call_same (HI.out _))))); with_reducible refine wpQuiet_nil ?_; clear hund; intro W1 hb1; obtain ⟨hc1, hf1⟩ := undcell hb1)
      have HBY : Hid (Below w1.heap.size w1 W1 ∧ Below W.heap.size W W1) := ⟨HBX.out.trans (hb1.mono HBX.out.size), HBW.out.trans (hb1.mono HBW.out.size)⟩
      clear hb1 hc1 hf1 ct d1 d2 p0 p2 HI
      cases r5 with
      | true =>
        have HRI := HN.out.1 rfl
        subst HRI
        clear HN
        go_wp2
        go_returns
        exact ⟨rfl, HBY.out.2⟩
      | false =>
        have HV : Hid (Vno d cs (t + 1)) := HN.out.2 rfl
        clear HN
        go_wp2
        go_roundw
        case rel => exact ⟨t + 1, by omega, by go_num, HV.out, HBY.out.1⟩
        case measure => simp [intOf]; omega
    · have HE : Hid (R = n) := by unfold Hid; rw [HR.out, HC.out.2]; exact hR2.out.1.none (by rw [← HW1.out.2]; omega)
      clear HR hR2
      go_wp2
      go_returns
      exact ⟨by rw [HE.out]; rfl, HBW.out⟩

end Go.Proofs.Ytjacmneopijiaaa
