/- Proved here: ToolAct of the program. -/
import Derived.Test.YtkacfjbhkgdpdaaTaN
import Derived.Test.YtkacfjbhkgdpdaaStO
import Derived.Test.YtkacfjbhkgdpdaaAeS
import Derived.Test.YtkacfjbhkgdpdaaAeT
import Derived.Test.YtkacfjbhkgdpdaaTgI
namespace Go.Proofs.Ytkacfjbhkgdpdaa
open Go.RowKit
set_option linter.unusedVariables false
set_option linter.unusedSimpArgs false

theorem there_nT {w : World} {k m : Nat} {cs : Array Value} {T : TypeId} (h : w.heap[k]? = some (.cells cs T)) (hm : m = cs.size) : w.there k 0 m := by
  intro j hj
  have hj2 : j < cs.size := by rw [← hm]; exact hj
  simp [World.cell?, World.frozen?, h, hj2]
theorem setCells_offT (w : World) (k : Nat) {q : Nat} (h : q ≠ k) : ∀ (vs : List Value) (o : Nat), (w.setCells k o vs).heap[q]? = w.heap[q]? := by
  intro vs
  induction vs generalizing w with
  | nil => intro o; rfl
  | cons v r ih => intro o; rw [World.setCells, ih, heap_setCell_other _ _ _ _ (by simpa using h)]
theorem set_eightT {w : World} {k : Nat} {z a b c d e f g z' a' b' c' d' e' f' g' : Value} {T : TypeId} (h : w.heap[k]? = some (.cells #[z, a, b, c, d, e, f, g] T)) : (w.setCells k 0 [z', a', b', c', d', e', f', g']).heap[k]? = some (.cells #[z', a', b', c', d', e', f', g'] T) := by
  have s0 := heap_setCell_same _ _ 0 _ _ z' h
  have s1 := heap_setCell_same _ _ 1 _ _ a' s0
  have s2 := heap_setCell_same _ _ 2 _ _ b' s1
  have s3 := heap_setCell_same _ _ 3 _ _ c' s2
  have s4 := heap_setCell_same _ _ 4 _ _ d' s3
  have s5 := heap_setCell_same _ _ 5 _ _ e' s4
  have s6 := heap_setCell_same _ _ 6 _ _ f' s5
  have s7 := heap_setCell_same _ _ 7 _ _ g' s6
  simpa [World.setCells] using s7

set_option maxRecDepth 10000 in
set_option maxHeartbeats 12800000 in
theorem impl_ta2 (A : Int) (R : ByteArray) (S U L : Int) (Q : Bool) (k : Int) (er : ByteArray) (es : Int) {w : World} {g o n c : Nat} {s : List Ap} (hn : n ≤ 1048576) (hz : ∀ j (h : j < s.length), s[j].nm.size ≤ 2000000) (hc : n ≤ c) (h : RG 2 apC w (.slice (some ⟨g, o, none⟩) n c) s) :
    Calls Try.prog 10 #[.agg #[.int .i64 A, .string R, .int .i64 S, .int .i64 U, .int .i64 L, .bool Q, .slice (some ⟨g, o, none⟩) n c], .agg #[.int .i64 k, .string er, .int .i64 es]] w fun e w' => ∃ (v : Value) (_ : Unit), e = .returned (.agg #[.int .i64 (tzC A R S U L Q s k er es), .int .i64 (onI (tzC A R S U L Q s k er es) (taA k)), .string (onS (tzC A R S U L Q s k er es) (taR k R er)), .int .i64 (onI (tzC A R S U L Q s k er es) (taS k S es)), .int .i64 (onI (tzC A R S U L Q s k er es) (taU A U k)), .int .i64 (onI (tzC A R S U L Q s k er es) L), .bool (onB (tzC A R S U L Q s k er es) (taQ k Q)), v]) ∧ OG 72 2 apC w' w.heap.size v (onL (tzC A R S U L Q s k er es) s) ∧ Below w.heap.size w w' ∧ ((tzC A R S U L Q s k er es) = 0 → ∃ g c : Nat, v = .slice (some ⟨g, 0, none⟩) n c) := by
  obtain ⟨x, hx⟩ : ∃ D, D = tlF A R S U L Q s := ⟨_, rfl⟩
  obtain ⟨D, hD⟩ : ∃ D, D = tzC A R S U L Q s k er es := ⟨_, rfl⟩
  have HF : Hid (∀ W, Below w.heap.size w W → Calls Try.prog 33 #[.agg #[.int .i64 A, .string R, .int .i64 S, .int .i64 U, .int .i64 L, .bool Q, .slice (some ⟨g, o, none⟩) n c]] W fun e w' => e = .returned (.int .i64 x) ∧ Below W.heap.size W w') := fun W hb => by rw [hx]; exact impl_tl A R S U L Q hn hz hc (h.below hb)
  have HCP : Hid (∀ W, Below w.heap.size w W → Calls Try.prog 36 #[.agg #[.int .i64 A, .string R, .int .i64 S, .int .i64 U, .int .i64 L, .bool Q, .slice (some ⟨g, o, none⟩) n c]] W fun e w' => ∃ g' c' : Nat, e = .returned (.agg #[.int .i64 A, .string R, .int .i64 S, .int .i64 U, .int .i64 L, .bool Q, .slice (some ⟨g', 0, none⟩) n c']) ∧ OG 72 2 apC w' W.heap.size (.slice (some ⟨g', 0, none⟩) n c') s ∧ Below W.heap.size W w') := fun W hb => impl_tcp A R S U L Q hn (h.below hb)
  rw [← hD]
  obtain ⟨xA, hxA⟩ : ∃ Y, Y = onI D (taA k) := ⟨_, rfl⟩
  obtain ⟨xR, hxR⟩ : ∃ Y, Y = onS D (taR k R er) := ⟨_, rfl⟩
  obtain ⟨xS, hxS⟩ : ∃ Y, Y = onI D (taS k S es) := ⟨_, rfl⟩
  obtain ⟨xU, hxU⟩ : ∃ Y, Y = onI D (taU A U k) := ⟨_, rfl⟩
  obtain ⟨xL, hxL⟩ : ∃ Y, Y = onI D L := ⟨_, rfl⟩
  obtain ⟨xQ, hxQ⟩ : ∃ Y, Y = onB D (taQ k Q) := ⟨_, rfl⟩
  obtain ⟨xs, hxs⟩ : ∃ Y, Y = onL D s := ⟨_, rfl⟩
  rw [← hxA, ← hxR, ← hxS, ← hxU, ← hxL, ← hxQ, ← hxs]
  have HV : Hid (x ≠ 0 → D = x ∧ xA = 0 ∧ xR = ⟨#[]⟩ ∧ xS = 0 ∧ xU = 0 ∧ xL = 0 ∧ xQ = false ∧ xs = []) := fun e => by
    have h1 : D = x := by rw [hD, hx]; exact tzC_no (by rw [← hx]; exact e)
    have h2 : D ≠ 0 := by rw [h1]; exact e
    exact ⟨h1, hxA.trans (if_neg h2), hxR.trans (if_neg h2), hxS.trans (if_neg h2), hxU.trans (if_neg h2), hxL.trans (if_neg h2), hxQ.trans (if_neg h2), hxs.trans (if_neg h2)⟩
  have HXS : Hid (xs = onL D s) := hxs
  have HST : Hid (x = 0 → ∃ T : TypeId, (∀ (a1 c1 : Nat) (W : World), Calls Try.prog 35 #[.agg #[.int .i64 A, .string R, .int .i64 S, .int .i64 U, .int .i64 L, .bool Q, .slice (some ⟨a1, 0, none⟩) n c1]] W fun e w' => e = .returned (.iface T (.agg #[.int .i64 A, .string R, .int .i64 S, .int .i64 U, .int .i64 L, .bool Q, .slice (some ⟨a1, 0, none⟩) n c1])) ∧ Below W.heap.size W w') ∧ (∀ (a1 c1 : Nat) (W : World), RG 2 apC W (.slice (some ⟨a1, 0, none⟩) n c1) s → Calls Try.prog 34 #[.iface T (.agg #[.int .i64 A, .string R, .int .i64 S, .int .i64 U, .int .i64 L, .bool Q, .slice (some ⟨a1, 0, none⟩) n c1]), .agg #[.int .i64 k, .string er, .int .i64 es]] W fun e w' => e = .returned (.agg #[.int .i64 D, .int .i64 xA, .string xR, .int .i64 xS, .int .i64 xU, .int .i64 xL, .bool xQ, onV D (.slice (some ⟨a1, 0, none⟩) n c1)]) ∧ Below W.heap.size W w')) := fun e => by
    rw [hx] at e
    have ho := tl_zero e
    have hD2 : D = taC A U L Q k (apB s er es) := by rw [hD]; exact tzC_yes e
    rw [hxA, hxR, hxS, hxU, hxL, hxQ, hD2]
    rcases (by omega : A = 0 ∨ A = 1 ∨ A = 2 ∨ A = 3 ∨ A = 4 ∨ A = 5 ∨ A = 6) with rfl | rfl | rfl | rfl | rfl | rfl | rfl
    · exact ⟨93, fun a1 c1 W => st_0 R S U L Q (some ⟨a1, 0, none⟩) n c1 W, fun a1 c1 W hr => ae_0 R S U L Q (some ⟨a1, 0, none⟩) n c1 k er es s W hn ho.2.2.1 hr⟩
    · exact ⟨97, fun a1 c1 W => st_1 R S U L Q (some ⟨a1, 0, none⟩) n c1 W, fun a1 c1 W hr => ae_1 R S U L Q (some ⟨a1, 0, none⟩) n c1 k er es s W hn ho.2.2.1 hr⟩
    · exact ⟨98, fun a1 c1 W => st_2 R S U L Q (some ⟨a1, 0, none⟩) n c1 W, fun a1 c1 W hr => ae_2 R S U L Q (some ⟨a1, 0, none⟩) n c1 k er es s W hn ho.2.2.1 hr⟩
    · exact ⟨99, fun a1 c1 W => st_3 R S U L Q (some ⟨a1, 0, none⟩) n c1 W, fun a1 c1 W hr => ae_3 R S U L Q (some ⟨a1, 0, none⟩) n c1 k er es s W hn ho.2.2.1 hr⟩
    · exact ⟨100, fun a1 c1 W => st_4 R S U L Q (some ⟨a1, 0, none⟩) n c1 W, fun a1 c1 W hr => ae_4 R S U L Q (some ⟨a1, 0, none⟩) n c1 k er es s W hn ho.2.2.1 hr⟩
    · exact ⟨101, fun a1 c1 W => st_5 R S U L Q (some ⟨a1, 0, none⟩) n c1 W, fun a1 c1 W hr => ae_5 R S U L Q (some ⟨a1, 0, none⟩) n c1 k er es s W hn ho.2.2.1 hr⟩
    · exact ⟨102, fun a1 c1 W => st_6 R S U L Q (some ⟨a1, 0, none⟩) n c1 W, fun a1 c1 W hr => ae_6 R S U L Q (some ⟨a1, 0, none⟩) n c1 k er es s W hn ho.2.2.1 hr⟩
  have HS : Hid (S3 w (.cells #[.int .i64 A, .string R, .int .i64 S, .int .i64 U, .int .i64 L, .bool Q, .slice (some ⟨g, o, none⟩) n c] 31) (.cells #[.int .i64 k, .string er, .int .i64 es] 36) (.cells #[.int .i64 0, .int .i64 0, .string ⟨#[]⟩, .int .i64 0, .int .i64 0, .int .i64 0, .bool false, .slice none 0 0] 33) (((w.alloc (.cells #[.int .i64 A, .string R, .int .i64 S, .int .i64 U, .int .i64 L, .bool Q, .slice (some ⟨g, o, none⟩) n c] 31)).alloc (.cells #[.int .i64 k, .string er, .int .i64 es] 36)).alloc (.cells #[.int .i64 0, .int .i64 0, .string ⟨#[]⟩, .int .i64 0, .int .i64 0, .int .i64 0, .bool false, .slice none 0 0] 33))) := S3.new _ _ _ _
  clear h hn hz hc hx hD hxA hxR hxS hxU hxL hxQ hxs
  go_enter Try.func10, Try.ntmps10
  go_wp2_with (fail)
  obtain ⟨U0, hU0⟩ : ∃ X9, X9 = (((w.alloc (.cells #[.int .i64 A, .string R, .int .i64 S, .int .i64 U, .int .i64 L, .bool Q, .slice (some ⟨g, o, none⟩) n c] 31)).alloc (.cells #[.int .i64 k, .string er, .int .i64 es] 36)).alloc (.cells #[.int .i64 0, .int .i64 0, .string ⟨#[]⟩, .int .i64 0, .int .i64 0, .int .i64 0, .bool false, .slice none 0 0] 33)) := ⟨_, rfl⟩
  rw [← hU0] at HS ⊢
  clear hU0
  refine (HF.out _ HS.out.bl).mono ?_
  rintro e w1 ⟨rfl, hb1⟩
  have HT : Hid (S3 w (.cells #[.int .i64 A, .string R, .int .i64 S, .int .i64 U, .int .i64 L, .bool Q, .slice (some ⟨g, o, none⟩) n c] 31) (.cells #[.int .i64 k, .string er, .int .i64 es] 36) (.cells #[.int .i64 0, .int .i64 0, .string ⟨#[]⟩, .int .i64 0, .int .i64 0, .int .i64 0, .bool false, .slice none 0 0] 33) w1) := HS.out.next hb1
  clear hb1 HF HS
  obtain ⟨p0, p1, p2, p3, p4, p5, p6, pl⟩ := tf_seven HT.out.b0
  by_cases hx0 : x = 0
  case neg =>
    have HE : Hid (D = x ∧ xA = 0 ∧ xR = ⟨#[]⟩ ∧ xS = 0 ∧ xU = 0 ∧ xL = 0 ∧ xQ = false ∧ xs = []) := HV.out hx0
    have hA1 : (x != 0) = true := by simpa using hx0
    clear HV HCP HST
    obtain ⟨⟨q0, q1, q2, q3, q4, q5, q6, q7⟩, ⟨qf0, qf1, qf2, qf3, qf4, qf5, qf6, qf7⟩, ql⟩ := tr_eight HT.out.b2
    go_wp2
    try simp only [Exit.inBlock, Exit.then]
    refine bodyPost_ret (by simp [results, Try.results10, go_sem, q0, q1, q2, q3, q4, q5, q6, q7]; try rfl) rfl ⟨.slice none 0 0, (), by rw [HE.out.1, HE.out.2.1, HE.out.2.2.1, HE.out.2.2.2.1, HE.out.2.2.2.2.1, HE.out.2.2.2.2.2.1, HE.out.2.2.2.2.2.2.1], by rw [HE.out.2.2.2.2.2.2.2]; exact ap_none _ _, ?_, fun e9 => absurd (HE.out.1.symm.trans e9) hx0⟩
    have hB := HT.out.bl
    (repeat' (first | (with_reducible exact Below.refl _ _) | (with_reducible assumption) | (with_reducible refine Below.setCell ?_ ?_ _) | (with_reducible refine Below.alloc ?_ ?_ _) | (with_reducible refine below_drewN ?_ _) | (with_reducible refine Below.drew ?_) | (with_reducible exact Nat.le_refl _) | omega | (simp; done) | (simp; omega)))
  obtain ⟨T, hst, hae⟩ := HST.out hx0
  have HSO : Hid (∀ (a1 c1 : Nat) (W : World), Calls Try.prog 35 #[.agg #[.int .i64 A, .string R, .int .i64 S, .int .i64 U, .int .i64 L, .bool Q, .slice (some ⟨a1, 0, none⟩) n c1]] W fun e w' => e = .returned (.iface T (.agg #[.int .i64 A, .string R, .int .i64 S, .int .i64 U, .int .i64 L, .bool Q, .slice (some ⟨a1, 0, none⟩) n c1])) ∧ Below W.heap.size W w') := hst
  have HAE : Hid (∀ (a1 c1 : Nat) (W : World), RG 2 apC W (.slice (some ⟨a1, 0, none⟩) n c1) s → Calls Try.prog 34 #[.iface T (.agg #[.int .i64 A, .string R, .int .i64 S, .int .i64 U, .int .i64 L, .bool Q, .slice (some ⟨a1, 0, none⟩) n c1]), .agg #[.int .i64 k, .string er, .int .i64 es]] W fun e w' => e = .returned (.agg #[.int .i64 D, .int .i64 xA, .string xR, .int .i64 xS, .int .i64 xU, .int .i64 xL, .bool xQ, onV D (.slice (some ⟨a1, 0, none⟩) n c1)]) ∧ Below W.heap.size W w') := hae
  clear hst hae HST HV
  subst hx0
  obtain ⟨e0, e1, e2, el⟩ : w1.cell? ⟨w.heap.size + 1, 0, none⟩ = some (.int .i64 k) ∧ w1.cell? ⟨w.heap.size + 1, 1, none⟩ = some (.string er) ∧ w1.cell? ⟨w.heap.size + 1, 2, none⟩ = some (.int .i64 es) ∧ w.heap.size + 1 < w1.heap.size := ⟨cellOf HT.out.b1 0 rfl, cellOf HT.out.b1 1 rfl, cellOf HT.out.b1 2 rfl, ltOf HT.out.b1⟩
  go_upto_region 4 with fail
  have hg1 : ¬ w.heap.size = w.heap.size + 2 := by omega
  have hg2 : ¬ w.heap.size + 1 = w.heap.size + 2 := by omega
  refine wp_region_holdsA (S := KG (w.heap.size + 2) w1) (by kernel_rfl) (KG.of fun _ _ _ => rfl) (fun hS => ?_)
  refine fl_takeA (i := 0) (d := 12) (v := .agg #[.int .i64 A, .string R, .int .i64 S, .int .i64 U, .int .i64 L, .bool Q, .slice (some ⟨g, o, none⟩) n c]) rfl rfl rfl (by kernel_rfl) (by kernel_rfl) (by kernel_rfl) hS ?_ ?_
  · intro w' hk; unfold KG at hk; go_simp
  simp only [Act.put, List.setIfInBounds_toArray, List.set_cons_zero, List.set_cons_succ]
  refine fl_takeA (i := 3) (d := 15) (v := .agg #[.int .i64 k, .string er, .int .i64 es]) rfl rfl rfl (by kernel_rfl) (by kernel_rfl) (by kernel_rfl) hS ?_ ?_
  · intro w' hk; unfold KG at hk; go_simp
  simp only [Act.put, List.setIfInBounds_toArray, List.set_cons_zero, List.set_cons_succ]
  refine wpAnyH_all (rs := [1]) (by kernel_rfl) (by simp) ?_
  intro i hi
  obtain rfl : i = 1 := by simpa using hi
  clear hi
  refine op_call (d := 13) rfl rfl rfl (by go_simp) ((HCP.out w1.drew HT.out.bl.drew).mono ?_)
  rintro e y1 ⟨a1, c1, rfl, ho1, hb1⟩
  have hB1 : Below w1.heap.size w1 y1 := ((Below.refl _ _).drew).trans (hb1.mono (Nat.le_refl _))
  refine ⟨_, rfl, KG.of fun b hb _ => hB1.block b hb, ?_⟩
  simp only [Act.put, List.setIfInBounds_toArray, List.set_cons_zero, List.set_cons_succ]
  refine wpAnyH_all (rs := [2]) (by kernel_rfl) (by simp) ?_
  intro i hi
  obtain rfl : i = 2 := by simpa using hi
  clear hi
  refine op_call (d := 14) rfl rfl rfl (by go_simp) ((HSO.out a1 c1 y1).mono ?_)
  rintro e y2 ⟨rfl, hb2⟩
  have hB2 : Below w1.heap.size w1 y2 := hB1.trans (hb2.mono hB1.size)
  have ho2 := OG.below ho1 hb2
  refine ⟨_, rfl, KG.of fun b hb _ => hB2.block b hb, ?_⟩
  simp only [Act.put, List.setIfInBounds_toArray, List.set_cons_zero, List.set_cons_succ]
  refine wpAnyH_all (rs := [4]) (by kernel_rfl) (by simp) ?_
  intro i hi
  obtain rfl : i = 4 := by simpa using hi
  clear hi
  refine op_call (d := 16) rfl rfl rfl (by go_simp) ((HAE.out a1 c1 y2 (OG.rg apC_len ho2)).mono ?_)
  rintro e y3 ⟨rfl, hb3⟩
  have hB3 : Below w1.heap.size w1 y3 := hB2.trans (hb3.mono hB2.size)
  have ho3 := OG.below ho2 hb3
  refine ⟨_, rfl, KG.of fun b hb _ => hB3.block b hb, ?_⟩
  simp only [Act.put, List.setIfInBounds_toArray, List.set_cons_zero, List.set_cons_succ]
  obtain ⟨va, vn, vc, hv⟩ : ∃ va vn vc, onV D (.slice (some ⟨a1, 0, none⟩) n c1) = .slice va vn vc := by
    unfold onV
    by_cases e : D = 0
    · rw [if_pos e]; exact ⟨_, _, _, rfl⟩
    · rw [if_neg e]; exact ⟨_, _, _, rfl⟩
  have hO : OG 72 2 apC y3 w1.heap.size (.slice va vn vc) xs := by
    rw [← hv, HXS.out]
    unfold onV onL
    by_cases e : D = 0
    · rw [if_pos e, if_pos e]; exact ho3
    · rw [if_neg e, if_neg e]; exact ap_none _ _
  rw [hv]
  refine wpAnyH_all (rs := [5]) (by kernel_rfl) (by simp) ?_
  intro i hi
  obtain rfl : i = 5 := by simpa using hi
  clear hi
  have r1 := (hB3.block _ (ltOf HT.out.b2)).trans HT.out.b2
  refine op_store rfl rfl rfl _ _ _ rfl (w.heap.size + 2) #[.int .i64 D, .int .i64 xA, .string xR, .int .i64 xS, .int .i64 xU, .int .i64 xL, .bool xQ, .slice va vn vc] rfl rfl (there_nT r1 rfl) (by kernel_rfl) (by simp [Value.oneCell']) ?_
  have HNZ : Hid (D = 0 → ∃ g c : Nat, (Value.slice va vn vc) = .slice (some ⟨g, 0, none⟩) n c) := fun e9 => ⟨a1, c1, by rw [← hv]; exact if_pos e9⟩
  obtain ⟨X, hX⟩ : ∃ X9, X9 = y3.setCells (w.heap.size + 2) 0 [.int .i64 D, .int .i64 xA, .string xR, .int .i64 xS, .int .i64 xU, .int .i64 xL, .bool xQ, .slice va vn vc] := ⟨_, rfl⟩
  have kX : X.heap[w.heap.size + 2]? = some (.cells #[.int .i64 D, .int .i64 xA, .string xR, .int .i64 xS, .int .i64 xU, .int .i64 xL, .bool xQ, .slice va vn vc] 33) := by rw [hX]; exact set_eightT r1
  have hoff : ∀ q, q ≠ w.heap.size + 2 → X.heap[q]? = y3.heap[q]? := fun q hq => by rw [hX]; exact setCells_offT _ _ hq _ _
  have HX : Hid (OG 72 2 apC X w.heap.size (.slice va vn vc) xs ∧ Below w.heap.size w X) := by
    have hl2 := ltOf HT.out.b2
    refine ⟨OG.low (B := w1.heap.size) (ownsRow_keep hO fun q hq => hoff q (by have := (OG.lt hO q hq).1; omega)) (by omega), ?_⟩
    rw [hX]
    exact below_setCells _ (by omega) _ _ _ (HT.out.bl.trans (hB3.mono HT.out.bl.size))
  refine ⟨KG.of fun b hb hne => ?_, wpAnyH_done (by kernel_rfl) (NoPanic.normal ?_) _⟩
  · show (y3.setCells (w.heap.size + 2) 0 _).heap[b]? = _
    rw [setCells_offT _ _ hne]; exact hB3.block b hb
  rw [show y3.setCells (w.heap.size + 2) 0 (#[Value.int .i64 D, .int .i64 xA, .string xR, .int .i64 xS, .int .i64 xU, .int .i64 xL, .bool xQ, .slice va vn vc] : Array Value).toList = X from hX.symm]
  clear hX hoff r1 hO hv ho3 ho2 ho1 hB1 hB2 hB3 hb1 hb2 hb3 hS p0 p1 p2 p3 p4 p5 p6 pl e0 e1 e2 el HT HAE HSO HCP
  obtain ⟨⟨q0, q1, q2, q3, q4, q5, q6, q7⟩, ⟨qf0, qf1, qf2, qf3, qf4, qf5, qf6, qf7⟩, ql⟩ := tr_eight kX
  clear kX
  go_wp2
  try simp only [Exit.inBlock, Exit.then]
  refine bodyPost_ret (by simp [results, Try.results10, go_sem, q0, q1, q2, q3, q4, q5, q6, q7]; try rfl) rfl ⟨.slice va vn vc, (), rfl, HX.out.1, HX.out.2, HNZ.out⟩

theorem impl_ta (A : Int) (R : ByteArray) (S U L : Int) (Q : Bool) (k : Int) (er : ByteArray) (es : Int) {w : World} {g o n c : Nat} {s : List Ap} (hn : n ≤ 1048576) (hz : ∀ j (h : j < s.length), s[j].nm.size ≤ 2000000) (hc : n ≤ c) (h : RG 2 apC w (.slice (some ⟨g, o, none⟩) n c) s) :
    Calls Try.prog 10 #[.agg #[.int .i64 A, .string R, .int .i64 S, .int .i64 U, .int .i64 L, .bool Q, .slice (some ⟨g, o, none⟩) n c], .agg #[.int .i64 k, .string er, .int .i64 es]] w fun e w' => ∃ (v : Value) (_ : Unit), e = .returned (.agg #[.int .i64 (tzC A R S U L Q s k er es), .int .i64 (onI (tzC A R S U L Q s k er es) (taA k)), .string (onS (tzC A R S U L Q s k er es) (taR k R er)), .int .i64 (onI (tzC A R S U L Q s k er es) (taS k S es)), .int .i64 (onI (tzC A R S U L Q s k er es) (taU A U k)), .int .i64 (onI (tzC A R S U L Q s k er es) L), .bool (onB (tzC A R S U L Q s k er es) (taQ k Q)), v]) ∧ OG 72 2 apC w' w.heap.size v (onL (tzC A R S U L Q s k er es) s) ∧ Below w.heap.size w w' := by
  refine (impl_ta2 A R S U L Q k er es hn hz hc h).mono ?_
  rintro e w' ⟨v, u, h1, h2, h3, _⟩
  exact ⟨v, u, h1, h2, h3⟩

end Go.Proofs.Ytkacfjbhkgdpdaa
