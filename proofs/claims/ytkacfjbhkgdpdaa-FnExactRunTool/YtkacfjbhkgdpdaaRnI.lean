/- Proved here: RunTool of the program. -/
import Derived.Test.YtkacfjbhkgdpdaaRnW
import Derived.Test.YtkacfjbhkgdpdaaTaI
import Derived.Maps.AppendAt
import Derived.Deep.Cut
namespace Go.Proofs.Ytkacfjbhkgdpdaa
open Go.RowKit Go.Maps
set_option linter.unusedVariables false
set_option linter.unusedSimpArgs false

set_option maxRecDepth 10000 in
set_option maxHeartbeats 25600000 in
theorem impl_rn (x : Ts) {w : World} {g o n c : Nat} {s : List Ap} {ea : Option Addr} {m ed : Nat} {es : List Te} (hn : n ≤ 1048576) (hz : ∀ j (h : j < s.length), s[j].nm.size ≤ 2000000) (hc : n ≤ c) (h : RG 2 apC w (.slice (some ⟨g, o, none⟩) n c) s) (hm : m ≤ 1048576) (he : RG 3 teC w (.slice ea m ed) es) :
    Calls Try.prog 19 #[.agg #[.int .i64 x.A, .string x.R, .int .i64 x.S, .int .i64 x.U, .int .i64 x.L, .bool x.Q, .slice (some ⟨g, o, none⟩) n c], .slice ea m ed] w fun e w' => ∃ (vq : Value × Value × Value) (_ : Unit), e = .returned (.agg #[.int .i64 (rtC x s es), .int .i64 (onI (rtC x s es) (rnS x s es es.length).A), .string (onS (rtC x s es) (rnS x s es es.length).R), .int .i64 (onI (rtC x s es) (rnS x s es es.length).S), .int .i64 (onI (rtC x s es) (rnS x s es es.length).U), .int .i64 (onI (rtC x s es) (rnS x s es es.length).L), .bool (onB (rtC x s es) (rnS x s es es.length).Q), vq.1, vq.2.1, vq.2.2]) ∧ OwR w' w.heap.size vq.1 vq.2.1 vq.2.2 (onL (rtC x s es) s) (onC (rtC x s es) (rnC x s es es.length)) (onL (rtC x s es) (rnR x s es es.length)) ∧ Below w.heap.size w w' := by
  obtain ⟨i0, hi0, hz0, hz1, hz2⟩ := info_parts info_i64
  obtain ⟨i1, hi1, hy0, hy1, hy2⟩ := info_ap
  obtain ⟨y, hy⟩ : ∃ Y, Y = tlF x.A x.R x.S x.U x.L x.Q s := ⟨_, rfl⟩
  obtain ⟨D, hD⟩ : ∃ Y, Y = rtC x s es := ⟨_, rfl⟩
  have HF : Hid (∀ W, Below w.heap.size w W → Calls Try.prog 33 #[.agg #[.int .i64 x.A, .string x.R, .int .i64 x.S, .int .i64 x.U, .int .i64 x.L, .bool x.Q, .slice (some ⟨g, o, none⟩) n c]] W fun e w' => e = .returned (.int .i64 y) ∧ Below W.heap.size W w') := fun W hb => by rw [hy]; exact impl_tl x.A x.R x.S x.U x.L x.Q hn hz hc (h.below hb)
  have HCP : Hid (∀ W, Below w.heap.size w W → Calls Try.prog 36 #[.agg #[.int .i64 x.A, .string x.R, .int .i64 x.S, .int .i64 x.U, .int .i64 x.L, .bool x.Q, .slice (some ⟨g, o, none⟩) n c]] W fun e w' => ∃ g' c' : Nat, e = .returned (.agg #[.int .i64 x.A, .string x.R, .int .i64 x.S, .int .i64 x.U, .int .i64 x.L, .bool x.Q, .slice (some ⟨g', 0, none⟩) n c']) ∧ OG 72 2 apC w' W.heap.size (.slice (some ⟨g', 0, none⟩) n c') s ∧ Below W.heap.size W w') := fun W hb => impl_tcp x.A x.R x.S x.U x.L x.Q hn (h.below hb)
  have HTA : Hid (n ≤ 1048576 ∧ (∀ j (h : j < s.length), s[j].nm.size ≤ 2000000) ∧ n = s.length) := ⟨hn, hz, h.len⟩
  have HEV : Hid (RG 3 teC w (.slice ea m ed) es ∧ m = es.length) := ⟨he, he.len⟩
  rw [← hD]
  obtain ⟨xA, hxA⟩ : ∃ Y, Y = onI D (rnS x s es es.length).A := ⟨_, rfl⟩
  obtain ⟨xR, hxR⟩ : ∃ Y, Y = onS D (rnS x s es es.length).R := ⟨_, rfl⟩
  obtain ⟨xS, hxS⟩ : ∃ Y, Y = onI D (rnS x s es es.length).S := ⟨_, rfl⟩
  obtain ⟨xU, hxU⟩ : ∃ Y, Y = onI D (rnS x s es es.length).U := ⟨_, rfl⟩
  obtain ⟨xL, hxL⟩ : ∃ Y, Y = onI D (rnS x s es es.length).L := ⟨_, rfl⟩
  obtain ⟨xQ, hxQ⟩ : ∃ Y, Y = onB D (rnS x s es es.length).Q := ⟨_, rfl⟩
  obtain ⟨xs, hxs⟩ : ∃ Y, Y = onL D s := ⟨_, rfl⟩
  obtain ⟨xc, hxc⟩ : ∃ Y, Y = onC D (rnC x s es es.length) := ⟨_, rfl⟩
  obtain ⟨xr, hxr⟩ : ∃ Y, Y = onL D (rnR x s es es.length) := ⟨_, rfl⟩
  rw [← hxA, ← hxR, ← hxS, ← hxU, ← hxL, ← hxQ, ← hxs, ← hxc, ← hxr]
  have HNO : Hid ((y ≠ 0 → D = y) ∧ (y = 0 → 200 < m → D = 2) ∧ (y = 0 → ¬ 200 < m → D = 0) ∧ (D ≠ 0 → xA = 0 ∧ xR = ⟨#[]⟩ ∧ xS = 0 ∧ xU = 0 ∧ xL = 0 ∧ xQ = false ∧ xs = [] ∧ xc = [] ∧ xr = [])) := by
    rw [hD, HEV.out.2, hy]
    refine ⟨fun e => if_pos e, fun e1 e2 => ?_, fun e1 e2 => ?_, fun e => ?_⟩
    · unfold rtC; rw [if_neg (fun e => e e1), if_pos e2]
    · unfold rtC; rw [if_neg (fun e => e e1), if_neg e2]
    · rw [hD] at hxA hxR hxS hxU hxL hxQ hxs hxc hxr
      exact ⟨hxA.trans (if_neg e), hxR.trans (if_neg e), hxS.trans (if_neg e), hxU.trans (if_neg e), hxL.trans (if_neg e), hxQ.trans (if_neg e), hxs.trans (if_neg e), hxc.trans (if_neg e), hxr.trans (if_neg e)⟩
  have HYE : Hid (D = 0 → xA = (rnS x s es es.length).A ∧ xR = (rnS x s es es.length).R ∧ xS = (rnS x s es es.length).S ∧ xU = (rnS x s es es.length).U ∧ xL = (rnS x s es es.length).L ∧ xQ = (rnS x s es es.length).Q ∧ xs = s ∧ xc = rnC x s es es.length ∧ xr = rnR x s es es.length) := fun e => ⟨hxA.trans (if_pos e), hxR.trans (if_pos e), hxS.trans (if_pos e), hxU.trans (if_pos e), hxL.trans (if_pos e), hxQ.trans (if_pos e), hxs.trans (if_pos e), hxc.trans (if_pos e), hxr.trans (if_pos e)⟩
  have HS : Hid (S2 w (.cells #[.int .i64 x.A, .string x.R, .int .i64 x.S, .int .i64 x.U, .int .i64 x.L, .bool x.Q, .slice (some ⟨g, o, none⟩) n c] 31) (.cells #[.int .i64 0, .int .i64 0, .string ⟨#[]⟩, .int .i64 0, .int .i64 0, .int .i64 0, .bool false, .slice none 0 0, .slice none 0 0, .slice none 0 0] 47) ((w.alloc (.cells #[.int .i64 x.A, .string x.R, .int .i64 x.S, .int .i64 x.U, .int .i64 x.L, .bool x.Q, .slice (some ⟨g, o, none⟩) n c] 31)).alloc (.cells #[.int .i64 0, .int .i64 0, .string ⟨#[]⟩, .int .i64 0, .int .i64 0, .int .i64 0, .bool false, .slice none 0 0, .slice none 0 0, .slice none 0 0] 47))) := S2.new _ _ _
  clear h hn hz hc he hy hD hxA hxR hxS hxU hxL hxQ hxs hxc hxr
  go_enter Try.func19, Try.ntmps19
  go_wp2_with (fail)
  obtain ⟨U0, hU0⟩ : ∃ X9, X9 = ((w.alloc (.cells #[.int .i64 x.A, .string x.R, .int .i64 x.S, .int .i64 x.U, .int .i64 x.L, .bool x.Q, .slice (some ⟨g, o, none⟩) n c] 31)).alloc (.cells #[.int .i64 0, .int .i64 0, .string ⟨#[]⟩, .int .i64 0, .int .i64 0, .int .i64 0, .bool false, .slice none 0 0, .slice none 0 0, .slice none 0 0] 47)) := ⟨_, rfl⟩
  rw [← hU0] at HS ⊢
  clear hU0
  refine (HF.out _ HS.out.bl).mono ?_
  rintro e w1 ⟨rfl, hb1⟩
  have HT : Hid (S2 w (.cells #[.int .i64 x.A, .string x.R, .int .i64 x.S, .int .i64 x.U, .int .i64 x.L, .bool x.Q, .slice (some ⟨g, o, none⟩) n c] 31) (.cells #[.int .i64 0, .int .i64 0, .string ⟨#[]⟩, .int .i64 0, .int .i64 0, .int .i64 0, .bool false, .slice none 0 0, .slice none 0 0, .slice none 0 0] 47) w1) := HS.out.next hb1
  clear hb1 HF HS
  obtain ⟨p0, p1, p2, p3, p4, p5, p6, pl⟩ := tf_seven HT.out.b0
  by_cases hy0' : y = 0
  case neg =>
    have hA1 : (y != 0) = true := by simpa using hy0'
    have HE : Hid (D = y ∧ xA = 0 ∧ xR = ⟨#[]⟩ ∧ xS = 0 ∧ xU = 0 ∧ xL = 0 ∧ xQ = false ∧ xs = [] ∧ xc = [] ∧ xr = []) := ⟨HNO.out.1 hy0', HNO.out.2.2.2 (by rw [HNO.out.1 hy0']; exact hy0')⟩
    obtain ⟨⟨q0, q1, q2, q3, q4, q5, q6, q7, q8, q9⟩, qf, ql⟩ := rn_ten HT.out.b1
    have qf0 := qf 0
    have qf1 := qf 1
    have qf2 := qf 2
    have qf3 := qf 3
    have qf4 := qf 4
    have qf5 := qf 5
    have qf6 := qf 6
    have qf7 := qf 7
    have qf8 := qf 8
    have qf9 := qf 9
    clear qf HNO HYE HCP HTA HEV
    go_wp2
    try simp only [Exit.inBlock, Exit.then]
    refine bodyPost_ret (by simp [results, Try.results19, go_sem, q0, q1, q2, q3, q4, q5, q6, q7, q8, q9]; try rfl) rfl ⟨(.slice none 0 0, .slice none 0 0, .slice none 0 0), (), by rw [HE.out.1, HE.out.2.1, HE.out.2.2.1, HE.out.2.2.2.1, HE.out.2.2.2.2.1, HE.out.2.2.2.2.2.1, HE.out.2.2.2.2.2.2.1], by rw [HE.out.2.2.2.2.2.2.2.1, HE.out.2.2.2.2.2.2.2.2.1, HE.out.2.2.2.2.2.2.2.2.2]; exact owr_none _ _, ?_⟩
    have hB := HT.out.bl
    (repeat' (first | (with_reducible exact Below.refl _ _) | (with_reducible assumption) | (with_reducible refine Below.setCell ?_ ?_ _) | (with_reducible refine Below.alloc ?_ ?_ _) | (with_reducible refine below_drewN ?_ _) | (with_reducible refine Below.drew ?_) | (with_reducible exact Nat.le_refl _) | omega | (simp; done) | (simp; omega)))
  subst hy0'
  by_cases hm200 : 200 < m
  · have hm2 : (200 : Int) < (m : Int) := by omega
    have HE : Hid (D = 2 ∧ xA = 0 ∧ xR = ⟨#[]⟩ ∧ xS = 0 ∧ xU = 0 ∧ xL = 0 ∧ xQ = false ∧ xs = [] ∧ xc = [] ∧ xr = []) := ⟨HNO.out.2.1 (by first | rfl | trivial) hm200, HNO.out.2.2.2 (by rw [HNO.out.2.1 (by first | rfl | trivial) hm200]; decide)⟩
    obtain ⟨⟨q0, q1, q2, q3, q4, q5, q6, q7, q8, q9⟩, qf, ql⟩ := rn_ten HT.out.b1
    have qf0 := qf 0
    have qf1 := qf 1
    have qf2 := qf 2
    have qf3 := qf 3
    have qf4 := qf 4
    have qf5 := qf 5
    have qf6 := qf 6
    have qf7 := qf 7
    have qf8 := qf 8
    have qf9 := qf 9
    clear qf HNO HYE HCP HTA HEV
    go_wp2
    try simp only [Exit.inBlock, Exit.then]
    refine bodyPost_ret (by simp [results, Try.results19, go_sem, q0, q1, q2, q3, q4, q5, q6, q7, q8, q9]; try rfl) rfl ⟨(.slice none 0 0, .slice none 0 0, .slice none 0 0), (), by rw [HE.out.1, HE.out.2.1, HE.out.2.2.1, HE.out.2.2.2.1, HE.out.2.2.2.2.1, HE.out.2.2.2.2.2.1, HE.out.2.2.2.2.2.2.1], by rw [HE.out.2.2.2.2.2.2.2.1, HE.out.2.2.2.2.2.2.2.2.1, HE.out.2.2.2.2.2.2.2.2.2]; exact owr_none _ _, ?_⟩
    have hB := HT.out.bl
    (repeat' (first | (with_reducible exact Below.refl _ _) | (with_reducible assumption) | (with_reducible refine Below.setCell ?_ ?_ _) | (with_reducible refine Below.alloc ?_ ?_ _) | (with_reducible refine below_drewN ?_ _) | (with_reducible refine Below.drew ?_) | (with_reducible exact Nat.le_refl _) | omega | (simp; done) | (simp; omega)))
  have hm2 : ¬ (200 : Int) < (m : Int) := by omega
  have hD0 : D = 0 := HNO.out.2.2.1 (by first | rfl | trivial) hm200
  have HE : Hid (D = 0 ∧ xA = (rnS x s es es.length).A ∧ xR = (rnS x s es es.length).R ∧ xS = (rnS x s es es.length).S ∧ xU = (rnS x s es es.length).U ∧ xL = (rnS x s es es.length).L ∧ xQ = (rnS x s es es.length).Q ∧ xs = s ∧ xc = rnC x s es es.length ∧ xr = rnR x s es es.length) := ⟨hD0, HYE.out hD0⟩
  clear hD0 HNO HYE
  go_wp2_with (fail)
  refine (HCP.out _ HT.out.bl).mono ?_
  rintro e w2 ⟨g1, c1, rfl, hO2, hb2⟩
  obtain ⟨V2, hV2⟩ : ∃ X9, X9 = w2.alloc (.cells #[.int .i64 0, .int .i64 x.A, .string x.R, .int .i64 x.S, .int .i64 x.U, .int .i64 x.L, .bool x.Q, .slice (some ⟨g1, 0, none⟩) n c1, .slice none 0 0, .slice none 0 0] 47) := ⟨_, rfl⟩
  obtain ⟨K, hK⟩ : ∃ X9, X9 = w2.heap.size := ⟨_, rfl⟩
  have hbV : Below w2.heap.size w2 V2 := by rw [hV2]; (repeat' (first | (with_reducible exact Below.refl _ _) | (with_reducible assumption) | (with_reducible refine Below.setCell ?_ ?_ _) | (with_reducible refine Below.alloc ?_ ?_ _) | (with_reducible refine below_drewN ?_ _) | (with_reducible refine Below.drew ?_) | (with_reducible exact Nat.le_refl _) | omega | (simp; done) | (simp; omega)))
  have hl1 := ltOf HT.out.b1
  have hG : GT w1 V2 K x (.slice (some ⟨g1, 0, none⟩) n c1) (.slice none 0 0) (.slice none 0 0) s [] [] := ⟨hb2.trans (hbV.mono hb2.size), OG.below hO2 hbV, ⟨rfl, Or.inl ⟨rfl, rfl⟩⟩, ap_none _ _, by rw [hV2, hK]; exact heap_alloc_new _ _, by rw [hK]; exact hb2.size, fun g hg => (by simp [Value.ownBlock]), fun g hg => (by simp [Value.ownBlock]), fun g hg => (by cases hg), ⟨fun e => by have := (OG.lt hO2 K e).2; omega, (by simp [Value.ownBlock]), (by simp [Value.ownBlock])⟩⟩
  have HG : Hid (GT w1 V2 K x (.slice (some ⟨g1, 0, none⟩) n c1) (.slice none 0 0) (.slice none 0 0) s [] [] ∧ w.heap.size + 1 < w1.heap.size ∧ S2 w (.cells #[.int .i64 x.A, .string x.R, .int .i64 x.S, .int .i64 x.U, .int .i64 x.L, .bool x.Q, .slice (some ⟨g, o, none⟩) n c] 31) (.cells #[.int .i64 0, .int .i64 0, .string ⟨#[]⟩, .int .i64 0, .int .i64 0, .int .i64 0, .bool false, .slice none 0 0, .slice none 0 0, .slice none 0 0] 47) w1) := ⟨hG, hl1, HT.out⟩
  clear hbV hO2 hb2 hG HT HCP p0 p1 p2 p3 p4 p5 p6 pl hl1
  go_upto_region 7 with fail
  rw [← hV2, ← hK]
  clear hV2 hK
  have HW : Hid (w.heap.size + 1 < w1.heap.size ∧ S2 w (.cells #[.int .i64 x.A, .string x.R, .int .i64 x.S, .int .i64 x.U, .int .i64 x.L, .bool x.Q, .slice (some ⟨g, o, none⟩) n c] 31) (.cells #[.int .i64 0, .int .i64 0, .string ⟨#[]⟩, .int .i64 0, .int .i64 0, .int .i64 0, .bool false, .slice none 0 0, .slice none 0 0, .slice none 0 0] 47) w1) := HG.out.2
  go_wp2
  go_loopw [8, 9, 25] (fun _ _ i wr => ∃ (k g1 c1 ml rl : Nat) (ca : Option Addr) (cc : Nat) (ra : Option Addr) (rc : Nat), k ≤ m ∧ i = .int .i64 k ∧ Hid (GT w1 wr K (rnS x s es k) (.slice (some ⟨g1, 0, none⟩) n c1) (.slice ca ml cc) (.slice ra rl rc) s (rnC x s es k) (rnR x s es k))) (fun _ _ i _ => m - (intOf i).toNat)
  case atStart => exact ⟨0, g1, c1, 0, 0, none, 0, none, 0, Nat.zero_le _, rfl, HG.out.1⟩
  case round =>
  clear HG
  obtain ⟨k, g1, c1, ml, rl, ca, cc, ra, rc, hk, rfl, hR⟩ := hrel
  obtain ⟨st, hst⟩ : ∃ y, y = rnS x s es k := ⟨_, rfl⟩
  rw [← hst] at hR
  by_cases hlt : k < m
  · have hks : k < es.length := by rw [← HEV.out.2]; exact hlt
    obtain ⟨ge, oe, ce, hee, hge, hej⟩ := (HEV.out.1.below (HW.out.2.bl.trans (hR.out.bl.mono HW.out.2.bl.size))).pos (show 0 < es.length by omega)
    simp only [Value.slice.injEq] at hee
    obtain ⟨rfl, hx1, hx2⟩ := hee
    clear hx1 hx2
    obtain ⟨ek, er, ez, hev⟩ : ∃ ek er ez, es[k] = (⟨ek, er, ez⟩ : Te) := ⟨_, _, _, rfl⟩
    obtain ⟨c0, c1', c2⟩ := teC_at (hej k hks)
    rw [hev] at c0 c1' c2
    simp only at c0 c1' c2
    have hgd : es.getD k teD = ⟨ek, er, ez⟩ := by rw [List.getD_eq_getElem?_getD, List.getElem?_eq_getElem hks, hev]; rfl
    have hml : ml = k := by have := hR.out.c.rg.len; rw [rnC_len] at this; exact this
    have hrl : rl = (rnR x s es k).length := (OG.rg apC_len hR.out.r).len
    have hrlb : rl ≤ 200 := by have := rnR_len x s es k; omega
    have hcap : n ≤ c1 := by
      rcases hR.out.t.2 with ⟨h9, _⟩ | ⟨_, _, _, h9, _, _, h10, _⟩
      · cases h9
      · injection h9 with _ _ h11; omega
    obtain ⟨D1, hD1⟩ : ∃ y, y = tzC st.A st.R st.S st.U st.L st.Q s ek er ez := ⟨_, rfl⟩
    obtain ⟨F1, hF1⟩ : ∃ y, y = onI D1 (taA ek) := ⟨_, rfl⟩
    obtain ⟨F2, hF2⟩ : ∃ y, y = onS D1 (taR ek st.R er) := ⟨_, rfl⟩
    obtain ⟨F3, hF3⟩ : ∃ y, y = onI D1 (taS ek st.S ez) := ⟨_, rfl⟩
    obtain ⟨F4, hF4⟩ : ∃ y, y = onI D1 (taU st.A st.U ek) := ⟨_, rfl⟩
    obtain ⟨F5, hF5⟩ : ∃ y, y = onI D1 st.L := ⟨_, rfl⟩
    obtain ⟨F6, hF6⟩ : ∃ y, y = onB D1 (taQ ek st.Q) := ⟨_, rfl⟩
    have hK1 : rnK x s es k = D1 := by unfold rnK tsC; rw [← hst, hgd, hD1]
    have HNX : Hid ((D1 ≠ 0 → rnS x s es (k + 1) = st ∧ rnR x s es (k + 1) = rnR x s es k) ∧ (D1 = 0 → (⟨F1, F2, F3, F4, F5, F6⟩ : Ts) = rnS x s es (k + 1)) ∧ rnC x s es (k + 1) = rnC x s es k ++ [D1] ∧ (D1 = 0 → ek = 3 → rnR x s es (k + 1) = rnR x s es k ++ [⟨F2, F3⟩]) ∧ (D1 = 0 → ¬ ek = 3 → rnR x s es (k + 1) = rnR x s es k)) := by
      have hy : D1 = 0 → (⟨F1, F2, F3, F4, F5, F6⟩ : Ts) = rnS x s es (k + 1) := fun e => by
        rw [rnS_yes (by rw [hK1]; exact e), hgd, ← hst, hF1, hF2, hF3, hF4, hF5, hF6, e]
        rfl
      refine ⟨fun e => ?_, hy, by rw [rnC_succ, hK1], fun e e3 => ?_, fun e e3 => rnR_not (by rw [hgd]; exact e3)⟩
      · have h9 := rnS_no (by rw [hK1]; exact e : rnK x s es k ≠ 0)
        rw [hst]; exact h9
      · rw [rnR_run (by rw [hK1]; exact e) (by rw [hgd]; exact e3), ← hy e]
    have HST : Hid (∀ W, Below wr.heap.size wr W → Calls Try.prog 10 #[.agg #[.int .i64 st.A, .string st.R, .int .i64 st.S, .int .i64 st.U, .int .i64 st.L, .bool st.Q, .slice (some ⟨g1, 0, none⟩) n c1], .agg #[.int .i64 ek, .string er, .int .i64 ez]] W fun e w' => ∃ (v : Value) (_ : Unit), e = .returned (.agg #[.int .i64 D1, .int .i64 F1, .string F2, .int .i64 F3, .int .i64 F4, .int .i64 F5, .bool F6, v]) ∧ OG 72 2 apC w' W.heap.size v (onL D1 s) ∧ Below W.heap.size W w' ∧ (D1 = 0 → ∃ g c : Nat, v = .slice (some ⟨g, 0, none⟩) n c)) := fun W hb => by
      rw [hF1, hF2, hF3, hF4, hF5, hF6, hD1]
      exact impl_ta2 st.A st.R st.S st.U st.L st.Q ek er ez HTA.out.1 HTA.out.2.1 hcap (OG.rg apC_len (OG.below hR.out.t hb))
    have HML : Hid (ml = (rnC x s es k).length ∧ rl = (rnR x s es k).length) := ⟨by rw [rnC_len]; exact hml, hrl⟩
    have hml2 : ml ≤ 200 := by omega
    have HR : Hid (GT w1 wr K st (.slice (some ⟨g1, 0, none⟩) n c1) (.slice ca ml cc) (.slice ra rl rc) s (rnC x s es k) (rnR x s es k)) := hR.out
    have b0 : (0 : Int) ≤ (k : Int) := by omega
    have b1 : (k : Int) < (m : Int) := by omega
    clear hst hR hej hev hgd hml hrl hD1 hF1 hF2 hF3 hF4 hF5 hF6 hK1 hks hcap
    go_upto_region 10 with fail
    obtain ⟨W1, hW1⟩ : ∃ X9, X9 = wr.alloc (.cells #[.int .i64 ek, .string er, .int .i64 ez] 36) := ⟨_, rfl⟩
    obtain ⟨K1, hK1⟩ : ∃ X9, X9 = wr.heap.size := ⟨_, rfl⟩
    have hbW : Below wr.heap.size wr W1 := by rw [hW1]; (repeat' (first | (with_reducible exact Below.refl _ _) | (with_reducible assumption) | (with_reducible refine Below.setCell ?_ ?_ _) | (with_reducible refine Below.alloc ?_ ?_ _) | (with_reducible refine below_drewN ?_ _) | (with_reducible refine Below.drew ?_) | (with_reducible exact Nat.le_refl _) | omega | (simp; done) | (simp; omega)))
    have H1 : Hid (GT w1 W1 K st (.slice (some ⟨g1, 0, none⟩) n c1) (.slice ca ml cc) (.slice ra rl rc) s (rnC x s es k) (rnR x s es k) ∧ W1.heap[K1]? = some (.cells #[.int .i64 ek, .string er, .int .i64 ez] 36) ∧ K < K1 ∧ K1 < W1.heap.size ∧ (∀ q, ((Value.slice ca ml cc).ownBlock = some q ∨ (Value.slice ra rl rc).ownBlock = some q) → q < K1) ∧ Below wr.heap.size wr W1) := ⟨HR.out.bel hbW, by rw [hW1, hK1]; exact heap_alloc_new _ _, by rw [hK1]; exact ltOf HR.out.o, by rw [hW1, hK1]; simp, fun q hq => by
      rw [hK1]
      rcases hq with hq | hq
      · exact (IS.lt HR.out.c q hq).2
      · exact (OG.lt HR.out.r q hq).2, hbW⟩
    rw [← hW1, ← hK1]
    clear hbW hW1 hK1 c0 c1' c2 HR hge
    obtain ⟨⟨k0, k1, k2, k3, k4, k5, k6, k7, k8, k9⟩, kf, kl⟩ := rn_ten H1.out.1.o
    obtain ⟨e0, e1, e2, el⟩ : W1.cell? ⟨K1, 0, none⟩ = some (.int .i64 ek) ∧ W1.cell? ⟨K1, 1, none⟩ = some (.string er) ∧ W1.cell? ⟨K1, 2, none⟩ = some (.int .i64 ez) ∧ K1 < W1.heap.size := ⟨cellOf H1.out.2.1 0 rfl, cellOf H1.out.2.1 1 rfl, cellOf H1.out.2.1 2 rfl, ltOf H1.out.2.1⟩
    clear kf
    go_wp2_with (fail)
    refine (HST.out _ H1.out.2.2.2.2.2).mono ?_
    rintro e w4 ⟨v, u, rfl, hO4, hb4, hnz⟩
    obtain ⟨va, vc, hv⟩ := OG.form hO4
    obtain ⟨vn, hvn⟩ : ∃ y, y = (onL D1 s).length := ⟨_, rfl⟩
    rw [← hvn] at hv
    subst hv
    clear hvn
    obtain ⟨W5, hW5⟩ : ∃ X9, X9 = w4.alloc (.cells #[.int .i64 D1, .int .i64 F1, .string F2, .int .i64 F3, .int .i64 F4, .int .i64 F5, .bool F6, .slice va vn vc] 33) := ⟨_, rfl⟩
    obtain ⟨K2, hK2⟩ : ∃ X9, X9 = w4.heap.size := ⟨_, rfl⟩
    have hbW : Below w4.heap.size w4 W5 := by rw [hW5]; (repeat' (first | (with_reducible exact Below.refl _ _) | (with_reducible assumption) | (with_reducible refine Below.setCell ?_ ?_ _) | (with_reducible refine Below.alloc ?_ ?_ _) | (with_reducible refine below_drewN ?_ _) | (with_reducible refine Below.drew ?_) | (with_reducible exact Nat.le_refl _) | omega | (simp; done) | (simp; omega)))
    have H5 : Hid (GT w1 W5 K st (.slice (some ⟨g1, 0, none⟩) n c1) (.slice ca ml cc) (.slice ra rl rc) s (rnC x s es k) (rnR x s es k) ∧ W5.heap[K1]? = some (.cells #[.int .i64 ek, .string er, .int .i64 ez] 36) ∧ W5.heap[K2]? = some (.cells #[.int .i64 D1, .int .i64 F1, .string F2, .int .i64 F3, .int .i64 F4, .int .i64 F5, .bool F6, .slice va vn vc] 33) ∧ K < K1 ∧ K1 < K2 ∧ (∀ q, ((Value.slice ca ml cc).ownBlock = some q ∨ (Value.slice ra rl rc).ownBlock = some q) → q < K1) ∧ (∀ q, (Value.slice va vn vc).ownBlock = some q → K1 < q ∧ q < K2) ∧ OG 72 2 apC W5 w1.heap.size (.slice va vn vc) (onL D1 s) ∧ (D1 = 0 → ∃ g c : Nat, Value.slice va vn vc = .slice (some ⟨g, 0, none⟩) n c)) := by
      have h9 := H1.out.2.2.2.1
      refine ⟨(H1.out.1.bel hb4).bel hbW, (hbW.block _ (Nat.lt_of_lt_of_le h9 hb4.size)).trans ((hb4.block _ h9).trans H1.out.2.1), by rw [hW5, hK2]; exact heap_alloc_new _ _, H1.out.2.2.1, by rw [hK2]; exact Nat.lt_of_lt_of_le h9 hb4.size, H1.out.2.2.2.2.1, fun q hq => ?_, OG.low (OG.below hO4 hbW) H1.out.1.bl.size, hnz⟩
      have h8 := OG.lt hO4 q hq
      omega
    go_upto_region 11 with fail
    rw [← hW5, ← hK2]
    clear hW5 hK2 hbW hO4 hb4 hnz HST H1 k0 k1 k2 k3 k4 k5 k6 k7 k8 k9 kl e0 e1 e2 el
    obtain ⟨⟨k0, k1, k2, k3, k4, k5, k6, k7, k8, k9⟩, kf, kl⟩ := rn_ten H5.out.1.o
    have kf8 := kf 8
    obtain ⟨⟨a0, a1, a2, a3, a4, a5, a6, a7⟩, af, al⟩ := tr_eight H5.out.2.2.1
    clear kf af
    obtain ⟨W6, hW6⟩ : ∃ X9, X9 = W5.alloc (.cells #[.int .i64 D1] 2) := ⟨_, rfl⟩
    have hbW : Below W5.heap.size W5 W6 := by rw [hW6]; (repeat' (first | (with_reducible exact Below.refl _ _) | (with_reducible assumption) | (with_reducible refine Below.setCell ?_ ?_ _) | (with_reducible refine Below.alloc ?_ ?_ _) | (with_reducible refine below_drewN ?_ _) | (with_reducible refine Below.drew ?_) | (with_reducible exact Nat.le_refl _) | omega | (simp; done) | (simp; omega)))
    have HOW : Hid (W6.ownsRow w1.heap.size 2 1 (.slice ca ml cc) ml ((rnC x s es k).map (Value.int .i64)) ∧ GT w1 W6 K st (.slice (some ⟨g1, 0, none⟩) n c1) (.slice ca ml cc) (.slice ra rl rc) s (rnC x s es k) (rnR x s es k) ∧ w1.heap.size ≤ W6.heap.size ∧ W6 = W5.alloc (.cells #[.int .i64 D1] 2) ∧ Below W5.heap.size W5 W6) := by
      have h8 := H5.out.1.bel hbW
      have h9 := h8.c
      unfold IS at h9
      rw [← HML.out.1] at h9
      exact ⟨h9, h8, h8.bl.size, hW6, hbW⟩
    clear hbW
    go_upto_region 12 with (at_builtin; go_loud (rw [← hW6]; refine wpList_append_own_at _ rfl _ _ 45 rfl w1.heap.size 2 i0 (.int .i64 0) 1 8 Try.underlying45 hi0 hz0 hz1 hz2 rfl (by decide) (.slice ca ml cc) ml _ rfl HOW.out.1 ⟨W5.heap.size, 0, none⟩ 1 1 [.int .i64 D1] rfl rfl (World.news_of_block (cs := #[.int .i64 D1]) (t := 2) (fr := (0, 0)) (by rw [HOW.out.2.2.2.1]; exact heap_alloc_new W5 _)) (by simp [Value.oneCell']) (by unfold maxLen; omega) (by omega) HOW.out.2.2.1 ?_); intro v6 w6 hown6 hgrow6 _ hloc6; go_loud (obtain ⟨va6, vc6, rfl⟩ := own_formR hown6; have hx6 := (hgrow6.block K (ltOf HOW.out.2.1.o) (fun e => HOW.out.2.1.ko.2.1 e.symm)).trans HOW.out.2.1.o; have q8 := cellOf hx6 8 rfl; have qf8 := frozOf hx6 8; have ql8 := ltOf hx6; have HR9 : Hid (GT w1 (w6.setCell ⟨K, 8, none⟩ (.slice va6 (ml + 1) vc6)) K st (.slice (some ⟨g1, 0, none⟩) n c1) (.slice va6 (ml + 1) vc6) (.slice ra rl rc) s (rnC x s es (k + 1)) (rnR x s es k) ∧ (w6.setCell ⟨K, 8, none⟩ (.slice va6 (ml + 1) vc6)).heap[K1]? = some (.cells #[.int .i64 ek, .string er, .int .i64 ez] 36) ∧ (w6.setCell ⟨K, 8, none⟩ (.slice va6 (ml + 1) vc6)).heap[K2]? = some (.cells #[.int .i64 D1, .int .i64 F1, .string F2, .int .i64 F3, .int .i64 F4, .int .i64 F5, .bool F6, .slice va vn vc] 33) ∧ OG 72 2 apC (w6.setCell ⟨K, 8, none⟩ (.slice va6 (ml + 1) vc6)) w1.heap.size (.slice va vn vc) (onL D1 s) ∧ (∀ q, (Value.slice va6 (ml + 1) vc6).ownBlock = some q → q < K1 ∨ K2 < q)) := rn_code HOW.out.2.1 H5.out.2.1 H5.out.2.2.1 H5.out.2.2.2.1 H5.out.2.2.2.2.1 H5.out.2.2.2.2.2.1 H5.out.2.2.2.2.2.2.1 H5.out.2.2.2.2.2.2.2.1 HOW.out.2.2.2.2 HML.out.1 HNX.out.2.2.1 hown6 hgrow6 hloc6; clear hown6 hgrow6 hloc6 hx6 HOW))
    obtain ⟨W7, hW7⟩ : ∃ X9, X9 = w6.setCell ⟨K, 8, none⟩ (.slice va6 (ml + 1) vc6) := ⟨_, rfl⟩
    rw [← hW7] at HR9 ⊢
    clear hW6 hW7 q8 qf8 ql8 k0 k1 k2 k3 k4 k5 k6 k7 k8 k9 kl kf8 a0 a1 a2 a3 a4 a5 a6 a7 al
    obtain ⟨⟨k0, k1, k2, k3, k4, k5, k6, k7, k8, k9⟩, kf, kl⟩ := rn_ten HR9.out.1.o
    have kf1 := kf 1
    have kf2 := kf 2
    have kf3 := kf 3
    have kf4 := kf 4
    have kf5 := kf 5
    have kf6 := kf 6
    have kf7 := kf 7
    obtain ⟨⟨a0, a1, a2, a3, a4, a5, a6, a7⟩, af, al⟩ := tr_eight HR9.out.2.2.1
    obtain ⟨e0, e1, e2, el⟩ : W7.cell? ⟨K1, 0, none⟩ = some (.int .i64 ek) ∧ W7.cell? ⟨K1, 1, none⟩ = some (.string er) ∧ W7.cell? ⟨K1, 2, none⟩ = some (.int .i64 ez) ∧ K1 < W7.heap.size := ⟨cellOf HR9.out.2.1 0 rfl, cellOf HR9.out.2.1 1 rfl, cellOf HR9.out.2.1 2 rfl, ltOf HR9.out.2.1⟩
    clear kf af
    have hkk1 : ¬ K1 = K := by have := H5.out.2.2.2.1; omega
    have hkk2 : ¬ K2 = K := by have h1 := H5.out.2.2.2.1; have h2 := H5.out.2.2.2.2.1; omega
    by_cases hz : D1 = 0
    case neg =>
      have hA2 : (D1 != 0) = true := by simpa using hz
      have HN : Hid (GT w1 W7 K (rnS x s es (k + 1)) (.slice (some ⟨g1, 0, none⟩) n c1) (.slice va6 (ml + 1) vc6) (.slice ra rl rc) s (rnC x s es (k + 1)) (rnR x s es (k + 1))) := by
        have h9 := HNX.out.1 hz
        unfold Hid
        rw [h9.1, h9.2]; exact HR9.out.1
      go_wp2
      go_roundw
      case rel => exact ⟨k + 1, g1, c1, ml + 1, rl, va6, vc6, ra, rc, by omega, by go_num, HN.out⟩
      case measure => simp [intOf]; omega
    obtain ⟨g2, c2, hv2⟩ := H5.out.2.2.2.2.2.2.2.2 hz
    injection hv2 with hva hvn hvc
    subst hva hvn hvc
    have HTL : Hid (GT w1 (putT W7 K (⟨F1, F2, F3, F4, F5, F6⟩ : Ts) (.slice (some ⟨g2, 0, none⟩) vn vc)) K (⟨F1, F2, F3, F4, F5, F6⟩ : Ts) (.slice (some ⟨g2, 0, none⟩) vn vc) (.slice va6 (ml + 1) vc6) (.slice ra rl rc) s (rnC x s es (k + 1)) (rnR x s es k)) := HR9.out.1.tool (by have h9 := HR9.out.2.2.2.1; unfold onL at h9; rw [if_pos hz] at h9; exact h9) (fun q hq => by
      have h1 := H5.out.2.2.2.2.2.2.1 q hq
      have h2 := H5.out.2.2.2.1
      refine ⟨by omega, fun e => ?_, fun e => ?_⟩
      · rcases HR9.out.2.2.2.2 q e with h3 | h3 <;> omega
      · have h3 := H5.out.2.2.2.2.2.1 q (Or.inr e); omega)
    have HZ0 : Hid (D1 = 0) := hz
    have hA2 : (D1 != 0) = false := by simp [hz]
    clear hz
    go_upto_region 14 with fail
    obtain ⟨W8, hW8⟩ : ∃ X9, X9 = putT W7 K (⟨F1, F2, F3, F4, F5, F6⟩ : Ts) (.slice (some ⟨g2, 0, none⟩) vn vc) := ⟨_, rfl⟩
    have H8 : Hid (GT w1 W8 K (⟨F1, F2, F3, F4, F5, F6⟩ : Ts) (.slice (some ⟨g2, 0, none⟩) vn vc) (.slice va6 (ml + 1) vc6) (.slice ra rl rc) s (rnC x s es (k + 1)) (rnR x s es k) ∧ W8.heap[K1]? = some (.cells #[.int .i64 ek, .string er, .int .i64 ez] 36) ∧ W8.heap[K2]? = some (.cells #[.int .i64 D1, .int .i64 F1, .string F2, .int .i64 F3, .int .i64 F4, .int .i64 F5, .bool F6, .slice (some ⟨g2, 0, none⟩) vn vc] 33)) := by
      rw [hW8]
      exact ⟨HTL.out, (putT_off _ _ _ _ hkk1).trans HR9.out.2.1, (putT_off _ _ _ _ hkk2).trans HR9.out.2.2.1⟩
    simp only [putT] at hW8
    rw [← hW8]
    clear hW8 HTL HR9 k0 k1 k2 k3 k4 k5 k6 k7 k8 k9 kl kf1 kf2 kf3 kf4 kf5 kf6 kf7 a0 a1 a2 a3 a4 a5 a6 a7 al e0 e1 e2 el
    obtain ⟨e0, e1, e2, el⟩ : W8.cell? ⟨K1, 0, none⟩ = some (.int .i64 ek) ∧ W8.cell? ⟨K1, 1, none⟩ = some (.string er) ∧ W8.cell? ⟨K1, 2, none⟩ = some (.int .i64 ez) ∧ K1 < W8.heap.size := ⟨cellOf H8.out.2.1 0 rfl, cellOf H8.out.2.1 1 rfl, cellOf H8.out.2.1 2 rfl, ltOf H8.out.2.1⟩
    by_cases h3 : ek = 3
    case neg =>
      have HN : Hid (GT w1 W8 K (rnS x s es (k + 1)) (.slice (some ⟨g2, 0, none⟩) vn vc) (.slice va6 (ml + 1) vc6) (.slice ra rl rc) s (rnC x s es (k + 1)) (rnR x s es (k + 1))) := by
        unfold Hid
        rw [← HNX.out.2.1 HZ0.out, HNX.out.2.2.2.2 HZ0.out h3]; exact H8.out.1
      go_wp2
      go_roundw
      case rel => exact ⟨k + 1, g2, vc, ml + 1, rl, va6, vc6, ra, rc, by omega, by go_num, HN.out⟩
      case measure => simp [intOf]; omega
    have HNR : Hid (rnR x s es (k + 1) = rnR x s es k ++ [⟨F2, F3⟩]) := HNX.out.2.2.2.1 HZ0.out h3
    have h32 : (ek == 3) = true := by simp [h3]
    clear h3
    go_upto_region 15 with fail
    obtain ⟨⟨k0, k1, k2, k3, k4, k5, k6, k7, k8, k9⟩, kf, kl⟩ := rn_ten H8.out.1.o
    have kf9 := kf 9
    obtain ⟨⟨a0, a1, a2, a3, a4, a5, a6, a7⟩, af, al⟩ := tr_eight H8.out.2.2
    clear kf af e0 e1 e2 el
    obtain ⟨W9, hW9⟩ : ∃ X9, X9 = W8.alloc (.cells #[.string F2, .int .i64 F3] 72) := ⟨_, rfl⟩
    have hbW : Below W8.heap.size W8 W9 := by rw [hW9]; (repeat' (first | (with_reducible exact Below.refl _ _) | (with_reducible assumption) | (with_reducible refine Below.setCell ?_ ?_ _) | (with_reducible refine Below.alloc ?_ ?_ _) | (with_reducible refine below_drewN ?_ _) | (with_reducible refine Below.drew ?_) | (with_reducible exact Nat.le_refl _) | omega | (simp; done) | (simp; omega)))
    have HOW : Hid (W9.ownsRow w1.heap.size 72 2 (.slice ra rl rc) rl ((rnR x s es k).flatMap apC) ∧ GT w1 W9 K (⟨F1, F2, F3, F4, F5, F6⟩ : Ts) (.slice (some ⟨g2, 0, none⟩) vn vc) (.slice va6 (ml + 1) vc6) (.slice ra rl rc) s (rnC x s es (k + 1)) (rnR x s es k) ∧ w1.heap.size ≤ W9.heap.size ∧ W9 = W8.alloc (.cells #[.string F2, .int .i64 F3] 72)) := by
      have h8 := H8.out.1.bel hbW
      have h9 := h8.r
      unfold OG at h9
      rw [← HML.out.2] at h9
      exact ⟨h9, h8, h8.bl.size, hW9⟩
    clear hbW
    go_upto_region 16 with (at_builtin; go_loud (rw [← hW9]; refine wpList_append_own_at _ rfl _ _ 29 rfl w1.heap.size 72 i1 (.agg #[.string ByteArray.empty, .int .i64 0]) 2 24 Try.underlying29 hi1 hy0 hy1 hy2 rfl (by decide) (.slice ra rl rc) rl _ rfl HOW.out.1 ⟨W8.heap.size, 0, none⟩ 1 1 [.string F2, .int .i64 F3] rfl rfl (World.news_of_block (cs := #[.string F2, .int .i64 F3]) (t := 72) (fr := (0, 0)) (by rw [HOW.out.2.2.2]; exact heap_alloc_new W8 _)) (by simp [Value.oneCell']) (by unfold maxLen; omega) (by omega) HOW.out.2.2.1 ?_); intro v6 w6 hown6 hgrow6 _ hloc6; go_loud (obtain ⟨va7, vc7, rfl⟩ := own_formA hown6; have hx6 := (hgrow6.block K (ltOf HOW.out.2.1.o) (fun e => HOW.out.2.1.ko.2.2 e.symm)).trans HOW.out.2.1.o; have q9 := cellOf hx6 9 rfl; have qf9 := frozOf hx6 9; have ql9 := ltOf hx6; have HRA : Hid (GT w1 (w6.setCell ⟨K, 9, none⟩ (.slice va7 (rl + 1) vc7)) K (rnS x s es (k + 1)) (.slice (some ⟨g2, 0, none⟩) vn vc) (.slice va6 (ml + 1) vc6) (.slice va7 (rl + 1) vc7) s (rnC x s es (k + 1)) (rnR x s es (k + 1))) := (by rw [← HNX.out.2.1 HZ0.out]; exact rn_run HOW.out.2.1 HML.out.2 HNR.out hown6 hgrow6 hloc6); clear hown6 hgrow6 hloc6 hx6 HOW))
    go_wp2
    go_roundw
    case rel => exact ⟨k + 1, g2, vc, ml + 1, rl + 1, va6, vc6, va7, vc7, by omega, by go_num, HRA.out⟩
    case measure => simp [intOf]; omega
  · obtain rfl : k = m := by omega
    have HE2 : Hid (D = 0 ∧ xA = st.A ∧ xR = st.R ∧ xS = st.S ∧ xU = st.U ∧ xL = st.L ∧ xQ = st.Q ∧ xs = s ∧ xc = rnC x s es k ∧ xr = rnR x s es k) := by
      have h9 := HE.out
      rw [← HEV.out.2, ← hst] at h9
      exact h9
    have hbx := (hR.out.bl.block _ HW.out.1).trans HW.out.2.b1
    obtain ⟨⟨q0, q1, q2, q3, q4, q5, q6, q7, q8, q9⟩, qf, ql⟩ := rn_ten hbx
    have qf0 := qf 0
    have qf1 := qf 1
    have qf2 := qf 2
    have qf3 := qf 3
    have qf4 := qf 4
    have qf5 := qf 5
    have qf6 := qf 6
    have qf7 := qf 7
    have qf8 := qf 8
    have qf9 := qf 9
    obtain ⟨⟨k0, k1, k2, k3, k4, k5, k6, k7, k8, k9⟩, kf, kl⟩ := rn_ten hR.out.o
    have HX : Hid (OwR wr w1.heap.size (.slice (some ⟨g1, 0, none⟩) n c1) (.slice ca ml cc) (.slice ra rl rc) s (rnC x s es k) (rnR x s es k) ∧ Below w.heap.size w wr ∧ w.heap.size + 1 < w1.heap.size) := ⟨hR.out.owr, HW.out.2.bl.trans (hR.out.bl.mono HW.out.2.bl.size), HW.out.1⟩
    clear hR qf kf hbx HE hst
    go_wp2
    try simp only [Exit.inBlock, Exit.then]
    refine bodyPost_ret (by simp [results, Try.results19, go_sem, q0, q1, q2, q3, q4, q5, q6, q7, q8, q9]; try rfl) rfl ⟨(.slice (some ⟨g1, 0, none⟩) n c1, .slice ca ml cc, .slice ra rl rc), (), by rw [HE2.out.1, HE2.out.2.1, HE2.out.2.2.1, HE2.out.2.2.2.1, HE2.out.2.2.2.2.1, HE2.out.2.2.2.2.2.1, HE2.out.2.2.2.2.2.2.1], ?_, ?_⟩
    · rw [HE2.out.2.2.2.2.2.2.2.1, HE2.out.2.2.2.2.2.2.2.2.1, HE2.out.2.2.2.2.2.2.2.2.2]
      refine (HX.out.1.keep fun q hq => ?_).low (by have := HX.out.2.2; omega)
      have h9 := (HX.out.1.blk hq).1
      have h8 := HX.out.2.2
      repeat rw [heap_setCell_other _ _ _ _ (by simp; omega)]
    · have hb := HX.out.2.1
      (repeat' (first | (with_reducible exact Below.refl _ _) | (with_reducible assumption) | (with_reducible refine Below.setCell ?_ ?_ _) | (with_reducible refine Below.alloc ?_ ?_ _) | (with_reducible refine below_drewN ?_ _) | (with_reducible refine Below.drew ?_) | (with_reducible exact Nat.le_refl _) | omega | (simp; done) | (simp; omega)))

end Go.Proofs.Ytkacfjbhkgdpdaa
