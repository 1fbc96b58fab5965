/- Proved here: 'to grow twice is to grow once by both; what is grown and shrunk back has all that was there, what is shrunk and grown back has nothing more; and the program grows as the model', for every code of bytes, without a condition. -/
import Derived.Test.YtokdpgabmifdjaaRimMath
import Derived.Test.YtokdpgabmifdjaaGwM
import Derived.Test.YtokdpgabmifdjaaIGrow3
import Derived.Test.YtokdpgabmifdjaaSGrow2
import Derived.Test.YtokdpgabmifdjaaSComb
import Derived.Test.YtokdpgabmifdjaaKept
import Derived.Deep.RegionHeld3
import Derived.OpenShut
import Derived.ChangeOld
import Derived.Below
namespace Go.Proofs.Ytokdpgabmifdjaa
open Go.ChangeShapes Go.WideShapes Go.ChangeAt Go.RowKit
set_option linter.unusedVariables false
set_option linter.unusedSimpArgs false

/-- A variable that holds an answer, and its list. -/
structure VarS (V : World) (K : Nat) (C : Int) (v : Value) (L : List Bx) : Prop where
  blk : V.heap[K]? = some (.cells #[.int .i64 C, v] 33)
  lst : RB V v L
theorem VarS.next {V V' : World} {K : Nat} {C : Int} {v : Value} {L : List Bx} (h : VarS V K C v L) (hb : Below V.heap.size V V') : VarS V' K C v L :=
  ⟨(hb.block _ (lt_of_blk h.blk)).trans h.blk, h.lst.below hb⟩
theorem VarS.cells {V : World} {K : Nat} {C : Int} {v : Value} {L : List Bx} (h : VarS V K C v L) : V.cell? ⟨K, 0, none⟩ = some (.int .i64 C) ∧ V.cell? ⟨K, 1, none⟩ = some v ∧ K < V.heap.size := by
  refine ⟨by simp [World.cell?, h.blk], by simp [World.cell?, h.blk], lt_of_blk h.blk⟩
theorem VarS.new {w : World} {C : Int} {v : Value} {L : List Bx} (h : RB w v L) : VarS (w.alloc (.cells #[.int .i64 C, v] 33)) w.heap.size C v L :=
  ⟨heap_alloc_new _ _, h.below ((Below.refl _ _).alloc (Nat.le_refl _) _)⟩
theorem below_allocG (w : World) (o : Obj) : Below w.heap.size w (w.alloc o) := (Below.refl _ _).alloc (Nat.le_refl _) _

theorem fld0 (C : Int) (a : Option Addr) (m c : Nat) (w : World) : (Instr.field 33 (.agg #[.int .i64 C, .slice a m c]) 0).run Try.prog w = .ok (.int .i64 C) w := by kernel_rfl
theorem fld1 (C : Int) (a : Option Addr) (m c : Nat) (w : World) : (Instr.field 33 (.agg #[.int .i64 C, .slice a m c]) 1).run Try.prog w = .ok (.slice a m c) w := by kernel_rfl
/-- The model's and the program's growing, in the words of the walk. -/
theorem specG (d : Int) (hd : -2000 ≤ d ∧ d ≤ 2000) {L M : List Bx} {C : Int} (hC : C = grC L d) (hM : M = grL L d) {w : World} {v : Value} (h : RB w v L) :
    Calls Try.prog 33 #[v, .int .i64 d] w fun e w' => ∃ a c, e = .returned (.agg #[.int .i64 C, .slice a M.length c]) ∧ RB w' (.slice a M.length c) M ∧ Below w.heap.size w w' := by
  subst hC hM
  refine (spec_grow d (by omega) h).mono ?_
  rintro e w' ⟨vs, rfl, hv, hb⟩
  obtain ⟨a, c, rfl⟩ := hv.form
  exact ⟨a, c, rfl, hv.rb, hb⟩
theorem specGc (d : Int) (hd : -2000 ≤ d ∧ d ≤ 2000) {L M : List Bx} {C : Int} (hC : C = grC L d) (hM : M = grL L d) {w : World} {v : Value} (h : RB w v L) :
    Calls Try.prog 33 #[v, .int .i64 d] w fun e w' => ∃ a c, e = .returned (.agg #[.int .i64 C, .slice a M.length c]) ∧ RB w' (.slice a M.length c) M ∧ M.length ≤ c ∧ Below w.heap.size w w' := by
  subst hC hM
  refine (spec_grow d (by omega) h).mono ?_
  rintro e w' ⟨vs, rfl, hv, hb⟩
  obtain ⟨a, c, rfl⟩ := hv.form
  exact ⟨a, c, rfl, hv.rb, hv.cap, hb⟩
theorem implG (d : Int) (hd : -2000 ≤ d ∧ d ≤ 2000) {L M : List Bx} {C : Int} (hC : C = grC L d) (hM : M = grL L d) {w : World} {a : Option Addr} {c : Nat} (hn : L.length ≤ 1048576) (hc : L.length ≤ c) (h : RB w (.slice a L.length c) L) :
    Calls Try.prog 34 #[.slice a L.length c, .int .i64 d] w fun e w' => ∃ a c, e = .returned (.agg #[.int .i64 C, .slice a M.length c]) ∧ RB w' (.slice a M.length c) M ∧ M.length ≤ c ∧ Below w.heap.size w w' := by
  subst hC hM
  refine (impl_growC d (by omega) hn hc h).mono ?_
  rintro e w' ⟨vs, rfl, hv, hb⟩
  have hr := hv.rb
  obtain ⟨a, c, c', rfl, hv⟩ := hv
  exact ⟨a, c', rfl, hr, c'.2, hb⟩
theorem combG {L M R : List Bx} {C : Int} (hC : C = cmC 3 L M) (hR : R = cmL 3 L M) {w : World} {v u : Value} (h : RB w v L) (h' : RB w u M) :
    Calls Try.prog 36 #[.int .i64 3, v, u] w fun e w' => ∃ a c, e = .returned (.agg #[.int .i64 C, .slice a R.length c]) ∧ Below w.heap.size w w' := by
  subst hC hR
  refine (spec_comb 3 h h').mono ?_
  rintro e w' ⟨vs, rfl, hv, hb⟩
  obtain ⟨a, c, rfl⟩ := hv.form
  exact ⟨a, c, rfl, hb⟩

set_option maxRecDepth 10000 in
set_option maxHeartbeats 12000000 in
theorem law_gw (ca : Option Addr) (n cap : Nat) (bs : Nat → Int) (w : World) (hnn : n ≤ maxLen) (hB : ∀ j, 0 ≤ bs j ∧ bs j ≤ 255)
    (hC : 0 < n → ∃ g off, ca = some ⟨g, off, none⟩ ∧ g < w.heap.size ∧ ∀ j, j < n → w.cell? ⟨g, off + j, none⟩ = some (.int .u8 (bs j))) :
    Calls Try.prog 8 #[.slice ca n cap] w fun e w' => e = .returned (.bool true) ∧ Below w.heap.size w w' := by
  by_cases hbig : (1048576 : Int) < n
  · go_enter Try.func8, Try.ntmps8
    go_wp2_with (fail)
    clear hB hC
    refine (big_any _ _ _ _ hnn).mono ?_
    rintro e w' ⟨rfl, hww⟩
    obtain rfl : w = w' := hww.symm
    go_wp2
    go_returns
    exact ⟨rfl, Below.refl _ _⟩
  have hbig' : decide ((1048576 : Int) < n) = false := by simpa using hbig
  have H : Hid (CodeAt w ca n bs) := ⟨by omega, hB, hC⟩
  clear hB hC
  go_enter Try.func8, Try.ntmps8
  go_wp2_with (fail)
  refine (big_any _ _ _ _ hnn).mono ?_
  rintro e w' ⟨rfl, hww⟩
  obtain rfl : w = w' := hww.symm
  go_wp2_with (fail)
  refine (drawG_any ca n cap bs _ H.out.1 H.out.2.1 H.out.2.2).mono ?_
  rintro e w1 ⟨vs, s, x, rfl, hbs, hl, hb1⟩
  obtain ⟨sa, sc, hof⟩ := hbs.form
  subst hof
  have S1 : Hid (RB w1 (.slice sa s.length sc) s ∧ Below w.heap.size w w1 ∧ s.length ≤ sc) := ⟨hbs.rb, hb1, hbs.cap⟩
  have H1 : Hid (CodeAt w1 ca n bs) := ⟨H.out.1, H.out.2.1, fun hp => by
    obtain ⟨g, off, e, hg, hc⟩ := H.out.2.2 hp
    exact ⟨g, off, e, Nat.lt_of_lt_of_le hg hb1.size, fun j hj => (World.cell?_of_block (hb1.block g hg)).trans (hc j hj)⟩⟩
  clear hbs hb1
  go_wp2_with (fail)
  refine (at_any cap 1 4 (by omega) (by omega) H1.out (by omega) (by omega)).mono ?_
  rintro e w2 ⟨q, k2, rfl, q0, q1, hw2⟩
  have hb2 : Below w1.heap.size w1 w2 := by rw [hw2]; exact below_drewN (Below.refl _ _) _
  have H2 : Hid (CodeAt w2 ca n bs) := ⟨H.out.1, H.out.2.1, fun hp => by
    obtain ⟨g, off, e, hg, hc⟩ := H1.out.2.2 hp
    exact ⟨g, off, e, Nat.lt_of_lt_of_le hg hb2.size, fun j hj => (World.cell?_of_block (hb2.block g hg)).trans (hc j hj)⟩⟩
  have S2 : Hid (RB w2 (.slice sa s.length sc) s ∧ Below w.heap.size w w2 ∧ s.length ≤ sc) := ⟨S1.out.1.below hb2, S1.out.2.1.trans (hb2.mono S1.out.2.1.size), S1.out.2.2⟩
  clear hw2 hb2 S1 H1
  go_wp2_with (fail)
  refine (at_any cap 2 4 (by omega) (by omega) H2.out (by omega) (by omega)).mono ?_
  rintro e V0 ⟨p, k3, rfl, p0, p1, hw3⟩
  have hb3 : Below w2.heap.size w2 V0 := by rw [hw3]; exact below_drewN (Below.refl _ _) _
  have S0 : Hid (RB V0 (.slice sa s.length sc) s ∧ Below w.heap.size w V0 ∧ s.length ≤ sc) := ⟨S2.out.1.below hb3, S2.out.2.1.trans (hb3.mono S2.out.2.1.size), S2.out.2.2⟩
  clear hw3 hb3 S2 H2 H
  obtain ⟨C1, hC1⟩ : ∃ C, C = grC s q := ⟨_, rfl⟩
  obtain ⟨G, hG⟩ : ∃ L, L = grL s q := ⟨_, rfl⟩
  obtain ⟨C2, hC2⟩ : ∃ C, C = grC s (-q) := ⟨_, rfl⟩
  obtain ⟨S, hS⟩ : ∃ L, L = grL s (-q) := ⟨_, rfl⟩
  obtain ⟨C3, hC3⟩ : ∃ C, C = grC s (q + p) := ⟨_, rfl⟩
  obtain ⟨A, hA⟩ : ∃ L, L = grL s (q + p) := ⟨_, rfl⟩
  have hGl : G.length ≤ 150 := by rw [hG]; exact grL_length s q
  have hSl : S.length ≤ 150 := by rw [hS]; exact grL_length s (-q)
  have hAl : A.length ≤ 150 := by rw [hA]; exact grL_length s (q + p)
  have HE : Hid (C1 = grC s q ∧ G = grL s q ∧ C2 = grC s (-q) ∧ S = grL s (-q) ∧ C3 = grC s (q + p) ∧ A = grL s (q + p)) := ⟨hC1, hG, hC2, hS, hC3, hA⟩
  have hwq : IntKind.i64.wrap (-q) = -q := by rw [IntKind.wrap_i64]; omega
  have hwp : IntKind.i64.wrap (q + p) = q + p := by rw [IntKind.wrap_i64]; omega
  clear hC1 hG hC2 hS hC3 hA
  go_wp2_with (fail)
  refine (specG q (by omega) HE.out.1 HE.out.2.1 S0.out.1).mono ?_
  rintro e w4 ⟨a7, c7, rfl, hr, hb⟩
  obtain ⟨V1, hV1⟩ : ∃ V, V = w4.alloc (.cells #[.int .i64 C1, .slice a7 G.length c7] 33) := ⟨_, rfl⟩
  obtain ⟨K7, hK7⟩ : ∃ K, K = w4.heap.size := ⟨_, rfl⟩
  have hbV : Below V0.heap.size V0 V1 := by rw [hV1]; exact hb.trans ((below_allocG w4 _).mono hb.size)
  have S1 : Hid (RB V1 (.slice sa s.length sc) s ∧ Below w.heap.size w V1 ∧ s.length ≤ sc ∧ VarS V1 K7 C1 (.slice a7 G.length c7) G) := ⟨S0.out.1.below hbV, S0.out.2.1.trans (hbV.mono S0.out.2.1.size), S0.out.2.2, by rw [hV1, hK7]; exact VarS.new hr⟩
  clear hr hb hbV S0
  go_wp2_with (fail)
  rw [← hV1, ← hK7]
  clear hV1 hK7
  refine (implG q (by omega) HE.out.1 HE.out.2.1 (by omega) S1.out.2.2.1 S1.out.1).mono ?_
  rintro e w5 ⟨a8, c8, rfl, hr, hcap, hb⟩
  obtain ⟨V2, hV2⟩ : ∃ V, V = w5.alloc (.cells #[.int .i64 C1, .slice a8 G.length c8] 33) := ⟨_, rfl⟩
  obtain ⟨K8, hK8⟩ : ∃ K, K = w5.heap.size := ⟨_, rfl⟩
  have hbV : Below V1.heap.size V1 V2 := by rw [hV2]; exact hb.trans ((below_allocG w5 _).mono hb.size)
  have S2 : Hid (RB V2 (.slice sa s.length sc) s ∧ Below w.heap.size w V2 ∧ s.length ≤ sc ∧ VarS V2 K7 C1 (.slice a7 G.length c7) G ∧ VarS V2 K8 C1 (.slice a8 G.length c8) G ∧ G.length ≤ c8) := ⟨S1.out.1.below hbV, S1.out.2.1.trans (hbV.mono S1.out.2.1.size), S1.out.2.2.1, S1.out.2.2.2.next hbV, by rw [hV2, hK8]; exact VarS.new hr, hcap⟩
  have x5 : w5.cell? ⟨K7, 0, none⟩ = some (.int .i64 C1) ∧ w5.cell? ⟨K7, 1, none⟩ = some (.slice a7 G.length c7) ∧ K7 < w5.heap.size := (S1.out.2.2.2.next hb).cells
  obtain ⟨x50, x51, x52⟩ := x5
  clear hr hb hbV S1 hcap
  have hne : (C1 != C1) = false := by simp
  go_wp2_with (fail)
  clear x50 x51 x52
  rw [← hV2, ← hK8]
  clear hV2 hK8
  refine (lwBoxes_same (by omega) S2.out.2.2.2.2.1.lst S2.out.2.2.2.1.lst).mono ?_
  rintro e V3 ⟨rfl, hb⟩
  have S3 : Hid (RB V3 (.slice sa s.length sc) s ∧ Below w.heap.size w V3 ∧ s.length ≤ sc ∧ VarS V3 K8 C1 (.slice a8 G.length c8) G ∧ G.length ≤ c8) := ⟨S2.out.1.below hb, S2.out.2.1.trans (hb.mono S2.out.2.1.size), S2.out.2.2.1, S2.out.2.2.2.2.1.next hb, S2.out.2.2.2.2.2⟩
  clear hb S2
  go_wp2_with (fail)
  refine (specGc (-q) (by omega) HE.out.2.2.1 HE.out.2.2.2.1 S3.out.1).mono ?_
  rintro e w6 ⟨a9, c9, rfl, hr, hcap9, hb⟩
  have hcS : Hid (S.length ≤ c9) := hcap9
  clear hcap9
  obtain ⟨V4, hV4⟩ : ∃ V, V = w6.alloc (.cells #[.int .i64 C2, .slice a9 S.length c9] 33) := ⟨_, rfl⟩
  obtain ⟨K9, hK9⟩ : ∃ K, K = w6.heap.size := ⟨_, rfl⟩
  have hbV : Below V3.heap.size V3 V4 := by rw [hV4]; exact hb.trans ((below_allocG w6 _).mono hb.size)
  have S4 : Hid (RB V4 (.slice sa s.length sc) s ∧ Below w.heap.size w V4 ∧ s.length ≤ sc ∧ VarS V4 K8 C1 (.slice a8 G.length c8) G ∧ G.length ≤ c8 ∧ VarS V4 K9 C2 (.slice a9 S.length c9) S) := ⟨S3.out.1.below hbV, S3.out.2.1.trans (hbV.mono S3.out.2.1.size), S3.out.2.2.1, S3.out.2.2.2.1.next hbV, S3.out.2.2.2.2, by rw [hV4, hK9]; exact VarS.new hr⟩
  clear hr hb hbV S3
  go_wp2_with (fail)
  rw [← hV4, ← hK9]
  clear hV4 hK9
  have hne2 : (C2 != C2) = false := by simp
  have hf0 := fld0
  have hf1 := fld1
  obtain ⟨x0, x1, x2⟩ := S4.out.2.2.2.2.2.cells
  go_region_held3 (fun w' => (∀ bb oo, bb < V4.heap.size → w'.cell? ⟨bb, oo, none⟩ = V4.cell? ⟨bb, oo, none⟩) ∧ Below V4.heap.size V4 w')
    (first | exact KS.start _ | exact hk3 | exact hk2 | exact hk1)
    (first
      | (go_at_call 35; refine (lwBoxes_same (by omega) hr2 ((S4.out.2.2.2.2.2.next hk2.2).lst)).mono ?_; rintro e W3 ⟨rfl, hb3⟩; have hk3 : KS V4 W3 := KS.of (hk2.2.trans (hb3.mono hk2.2.size)))
      | (go_at_call 34; refine (implG (-q) (by omega) HE.out.2.2.1 HE.out.2.2.2.1 (by omega) S4.out.2.2.1 (S4.out.1.below hk1.2)).mono ?_; rintro e W2 ⟨a2, c2, rfl, hr2, hcap2, hb2⟩; have hk2 : KS V4 W2 := KS.of (hk1.2.trans (hb2.mono hk1.2.size)))
      | (go_at_call 34; refine (implG (-q) (by omega) HE.out.2.2.1 HE.out.2.2.2.1 (by omega) S4.out.2.2.1 (S4.out.1.below (KS.start _).2)).mono ?_; rintro e W1 ⟨a1, c1, rfl, hr1, hcap1, hb1⟩; have hk1 : KS V4 W1 := KS.of ((KS.start V4).2.trans (hb1.mono (KS.start V4).2.size))))
  have S5 : Hid (RB W3 (.slice sa s.length sc) s ∧ Below w.heap.size w W3 ∧ s.length ≤ sc ∧ VarS W3 K8 C1 (.slice a8 G.length c8) G ∧ G.length ≤ c8 ∧ VarS W3 K9 C2 (.slice a9 S.length c9) S) := ⟨S4.out.1.below hk3.2, S4.out.2.1.trans (hk3.2.mono S4.out.2.1.size), S4.out.2.2.1, S4.out.2.2.2.1.next hk3.2, S4.out.2.2.2.2.1, S4.out.2.2.2.2.2.next hk3.2⟩
  clear x0 x1 x2 hk1 hk2 hk3 hb1 hb2 hb3 hr1 hr2 hcap1 hcap2 S4 hf0 hf1
  go_wp2_with (fail)
  refine (specG (q + p) (by omega) HE.out.2.2.2.2.1 HE.out.2.2.2.2.2 S5.out.1).mono ?_
  rintro e w7 ⟨a10, c10, rfl, hr, hb⟩
  obtain ⟨V6, hV6⟩ : ∃ V, V = w7.alloc (.cells #[.int .i64 C3, .slice a10 A.length c10] 33) := ⟨_, rfl⟩
  obtain ⟨K10, hK10⟩ : ∃ K, K = w7.heap.size := ⟨_, rfl⟩
  have hbV : Below W3.heap.size W3 V6 := by rw [hV6]; exact hb.trans ((below_allocG w7 _).mono hb.size)
  have S6 : Hid (RB V6 (.slice sa s.length sc) s ∧ Below w.heap.size w V6 ∧ s.length ≤ sc ∧ VarS V6 K8 C1 (.slice a8 G.length c8) G ∧ G.length ≤ c8 ∧ VarS V6 K9 C2 (.slice a9 S.length c9) S ∧ VarS V6 K10 C3 (.slice a10 A.length c10) A) := ⟨S5.out.1.below hbV, S5.out.2.1.trans (hbV.mono S5.out.2.1.size), S5.out.2.2.1, S5.out.2.2.2.1.next hbV, S5.out.2.2.2.2.1, S5.out.2.2.2.2.2.next hbV, by rw [hV6, hK10]; exact VarS.new hr⟩
  obtain ⟨y80, y81, y82⟩ := (S5.out.2.2.2.1.next hb).cells
  obtain ⟨y90, y91, y92⟩ := (S5.out.2.2.2.2.2.next hb).cells
  have hlt7 : K8 < w7.heap.size ∧ K9 < w7.heap.size := ⟨y82, y92⟩
  clear hr hb hbV S5
  by_cases z1 : C1 = 0
  rotate_left
  · have z1' : (C1 != 0) = true := by simpa using z1
    have HB : Hid (Below w.heap.size w V6) := S6.out.2.1
    rw [hV6] at HB
    clear S6 hV6 hK10
    go_wp2
    go_returns
    exact ⟨rfl, HB.out⟩
  by_cases z2 : C2 = 0
  rotate_left
  · have z2' : (C2 != 0) = true := by simpa using z2
    have z1' : (C1 != 0) = false := by simpa using z1
    have HB : Hid (Below w.heap.size w V6) := S6.out.2.1
    rw [hV6] at HB
    clear S6 hV6 hK10
    go_wp2
    go_returns
    exact ⟨rfl, HB.out⟩
  by_cases z3 : C3 = 0
  rotate_left
  · have z3' : (C3 != 0) = true := by simpa using z3
    have z2' : (C2 != 0) = false := by simpa using z2
    have z1' : (C1 != 0) = false := by simpa using z1
    have HB : Hid (Below w.heap.size w V6) := S6.out.2.1
    rw [hV6] at HB
    clear S6 hV6 hK10
    go_wp2
    go_returns
    exact ⟨rfl, HB.out⟩
  obtain ⟨C5, hC5⟩ : ∃ C, C = grC G (-q) := ⟨_, rfl⟩
  obtain ⟨B, hB⟩ : ∃ L, L = grL G (-q) := ⟨_, rfl⟩
  obtain ⟨C6, hC6⟩ : ∃ C, C = grC S q := ⟨_, rfl⟩
  obtain ⟨O, hO⟩ : ∃ L, L = grL S q := ⟨_, rfl⟩
  have HT : Hid ((0 : Int) = grC G p ∧ A = grL G p) := by
    have e1 : grC s q = 0 := by rw [← HE.out.1]; exact z1
    have e3 : grC s (q + p) = 0 := by rw [← HE.out.2.2.2.2.1]; exact z3
    have := grow_two (by omega : 0 ≤ q ∧ q ≤ 3) (by omega : 0 ≤ p ∧ p ≤ 3) e1 e3
    rw [← HE.out.2.1, ← HE.out.2.2.2.2.2] at this
    exact ⟨this.1.symm, this.2.symm⟩
  have HBK : Hid (C5 = 0 → cmL 3 s B = []) := by
    intro e5
    have e1 : grC s q = 0 := by rw [← HE.out.1]; exact z1
    have := grow_back (by omega : 0 ≤ q ∧ q ≤ 3) e1 (by rw [← HE.out.2.1, ← hC5]; exact e5)
    rw [← HE.out.2.1, ← hB] at this
    exact this
  have HOP : Hid (C6 = 0 → cmL 3 O s = []) := by
    intro e6
    have e2 : grC s (-q) = 0 := by rw [← HE.out.2.2.1]; exact z2
    have := grow_open (by omega : 0 ≤ q ∧ q ≤ 3) e2 (by rw [← HE.out.2.2.2.1, ← hC6]; exact e6)
    rw [← HE.out.2.2.2.1, ← hO] at this
    exact this
  have HF : Hid (C5 = grC G (-q) ∧ B = grL G (-q) ∧ C6 = grC S q ∧ O = grL S q) := ⟨hC5, hB, hC6, hO⟩
  have hBl : B.length ≤ 150 := by rw [hB]; exact grL_length G (-q)
  have hOl : O.length ≤ 150 := by rw [hO]; exact grL_length S q
  clear hC5 hB hC6 hO HE
  subst z1 z2 z3
  go_wp2_with (fail)
  clear y80 y81 y82 y90 y91 y92 hlt7
  rw [← hV6, ← hK10]
  clear hV6 hK10
  refine (implG p (by omega) HT.out.1 HT.out.2 (by omega) S6.out.2.2.2.2.1 S6.out.2.2.2.1.lst).mono ?_
  rintro e w8 ⟨a11, c11, rfl, hr, hcap, hb⟩
  obtain ⟨V7, hV7⟩ : ∃ V, V = w8.alloc (.cells #[.int .i64 0, .slice a11 A.length c11] 33) := ⟨_, rfl⟩
  obtain ⟨K11, hK11⟩ : ∃ K, K = w8.heap.size := ⟨_, rfl⟩
  have hbV : Below V6.heap.size V6 V7 := by rw [hV7]; exact hb.trans ((below_allocG w8 _).mono hb.size)
  have S7 : Hid (RB V7 (.slice sa s.length sc) s ∧ Below w.heap.size w V7 ∧ VarS V7 K8 0 (.slice a8 G.length c8) G ∧ G.length ≤ c8 ∧ VarS V7 K9 0 (.slice a9 S.length c9) S ∧ VarS V7 K10 0 (.slice a10 A.length c10) A ∧ VarS V7 K11 0 (.slice a11 A.length c11) A) := ⟨S6.out.1.below hbV, S6.out.2.1.trans (hbV.mono S6.out.2.1.size), S6.out.2.2.2.1.next hbV, S6.out.2.2.2.2.1, S6.out.2.2.2.2.2.1.next hbV, S6.out.2.2.2.2.2.2.next hbV, by rw [hV7, hK11]; exact VarS.new hr⟩
  obtain ⟨y80, y81, y82⟩ := (S6.out.2.2.2.1.next hb).cells
  clear hr hb hbV S6 hcap
  go_wp2_with (fail)
  clear y80 y81 y82
  rw [← hV7, ← hK11]
  clear hV7 hK11
  refine (implG (-q) (by omega) HF.out.1 HF.out.2.1 (by omega) S7.out.2.2.2.1 S7.out.2.2.1.lst).mono ?_
  rintro e w9 ⟨a12, c12, rfl, hr, hcap, hb⟩
  obtain ⟨V8, hV8⟩ : ∃ V, V = w9.alloc (.cells #[.int .i64 C5, .slice a12 B.length c12] 33) := ⟨_, rfl⟩
  obtain ⟨K12, hK12⟩ : ∃ K, K = w9.heap.size := ⟨_, rfl⟩
  have hbV : Below V7.heap.size V7 V8 := by rw [hV8]; exact hb.trans ((below_allocG w9 _).mono hb.size)
  have S8 : Hid (RB V8 (.slice sa s.length sc) s ∧ Below w.heap.size w V8 ∧ VarS V8 K8 0 (.slice a8 G.length c8) G ∧ G.length ≤ c8 ∧ VarS V8 K9 0 (.slice a9 S.length c9) S ∧ VarS V8 K10 0 (.slice a10 A.length c10) A ∧ VarS V8 K11 0 (.slice a11 A.length c11) A ∧ VarS V8 K12 C5 (.slice a12 B.length c12) B) := ⟨S7.out.1.below hbV, S7.out.2.1.trans (hbV.mono S7.out.2.1.size), S7.out.2.2.1.next hbV, S7.out.2.2.2.1, S7.out.2.2.2.2.1.next hbV, S7.out.2.2.2.2.2.1.next hbV, S7.out.2.2.2.2.2.2.next hbV, by rw [hV8, hK12]; exact VarS.new hr⟩
  obtain ⟨y90, y91, y92⟩ := (S7.out.2.2.2.2.1.next hb).cells
  clear hr hb hbV S7 hcap
  go_wp2_with (fail)
  clear y90 y91 y92
  rw [← hV8, ← hK12]
  clear hV8 hK12
  refine (implG q (by omega) HF.out.2.2.1 HF.out.2.2.2 (by omega) hcS.out S8.out.2.2.2.2.1.lst).mono ?_
  rintro e w10 ⟨a13, c13, rfl, hr, hcap, hb⟩
  obtain ⟨V9, hV9⟩ : ∃ V, V = w10.alloc (.cells #[.int .i64 C6, .slice a13 O.length c13] 33) := ⟨_, rfl⟩
  obtain ⟨K13, hK13⟩ : ∃ K, K = w10.heap.size := ⟨_, rfl⟩
  have hbV : Below V8.heap.size V8 V9 := by rw [hV9]; exact hb.trans ((below_allocG w10 _).mono hb.size)
  have S9 : Hid (RB V9 (.slice sa s.length sc) s ∧ Below w.heap.size w V9 ∧ VarS V9 K8 0 (.slice a8 G.length c8) G ∧ G.length ≤ c8 ∧ VarS V9 K9 0 (.slice a9 S.length c9) S ∧ VarS V9 K10 0 (.slice a10 A.length c10) A ∧ VarS V9 K11 0 (.slice a11 A.length c11) A ∧ VarS V9 K12 C5 (.slice a12 B.length c12) B ∧ VarS V9 K13 C6 (.slice a13 O.length c13) O) := ⟨S8.out.1.below hbV, S8.out.2.1.trans (hbV.mono S8.out.2.1.size), S8.out.2.2.1.next hbV, S8.out.2.2.2.1, S8.out.2.2.2.2.1.next hbV, S8.out.2.2.2.2.2.1.next hbV, S8.out.2.2.2.2.2.2.1.next hbV, S8.out.2.2.2.2.2.2.2.next hbV, by rw [hV9, hK13]; exact VarS.new hr⟩
  obtain ⟨y0, y1, y2⟩ := (S8.out.2.2.2.2.2.1.next hb).cells
  obtain ⟨u0, u1, u2⟩ := (S8.out.2.2.2.2.2.2.1.next hb).cells
  clear hr hb hbV S8 hcap
  go_wp2_with (fail)
  clear y0 y1 y2 u0 u1 u2
  rw [← hV9, ← hK13]
  clear hV9 hK13
  refine (lwBoxes_same (by omega) S9.out.2.2.2.2.2.2.1.lst S9.out.2.2.2.2.2.1.lst).mono ?_
  rintro e V10 ⟨rfl, hb⟩
  have S10 : Hid (RB V10 (.slice sa s.length sc) s ∧ Below w.heap.size w V10 ∧ VarS V10 K8 0 (.slice a8 G.length c8) G ∧ G.length ≤ c8 ∧ VarS V10 K9 0 (.slice a9 S.length c9) S ∧ VarS V10 K10 0 (.slice a10 A.length c10) A ∧ VarS V10 K11 0 (.slice a11 A.length c11) A ∧ VarS V10 K12 C5 (.slice a12 B.length c12) B ∧ VarS V10 K13 C6 (.slice a13 O.length c13) O) := ⟨S9.out.1.below hb, S9.out.2.1.trans (hb.mono S9.out.2.1.size), S9.out.2.2.1.next hb, S9.out.2.2.2.1, S9.out.2.2.2.2.1.next hb, S9.out.2.2.2.2.2.1.next hb, S9.out.2.2.2.2.2.2.1.next hb, S9.out.2.2.2.2.2.2.2.1.next hb, S9.out.2.2.2.2.2.2.2.2.next hb⟩
  clear hb S9
  obtain ⟨g0, g1, g2⟩ := S10.out.2.2.1.cells
  obtain ⟨h0, h1, h2⟩ := S10.out.2.2.2.2.1.cells
  obtain ⟨i0, i1, i2⟩ := S10.out.2.2.2.2.2.2.2.1.cells
  obtain ⟨j0, j1, j2⟩ := S10.out.2.2.2.2.2.2.2.2.cells
  have hf0 := fld0
  have hf1 := fld1
  have n5 : (C5 != C5) = false := by simp
  have n6 : (C6 != C6) = false := by simp
  go_wp2_with (fail)
  go_region_held3 (fun w' => (∀ bb oo, bb < V10.heap.size → w'.cell? ⟨bb, oo, none⟩ = V10.cell? ⟨bb, oo, none⟩) ∧ Below V10.heap.size V10 w')
    (first | exact KS.start _ | exact hk2 | exact hk1)
    (first
      | (go_at_call 33; refine (specG q (by omega) HF.out.2.2.1 HF.out.2.2.2 ((S10.out.2.2.2.2.1.next hk1.2).lst)).mono ?_; rintro e W2 ⟨a2, c2, rfl, hr2, hb2⟩; have hk2 : KS V10 W2 := KS.of (hk1.2.trans (hb2.mono hk1.2.size)))
      | (go_at_call 33; refine (specG (-q) (by omega) HF.out.1 HF.out.2.1 ((S10.out.2.2.1.next (KS.start _).2).lst)).mono ?_; rintro e W1 ⟨a1, c1, rfl, hr1, hb1⟩; have hk1 : KS V10 W1 := KS.of ((KS.start V10).2.trans (hb1.mono (KS.start V10).2.size))))
  have S11 : Hid (RB W2 (.slice sa s.length sc) s ∧ Below w.heap.size w W2 ∧ VarS W2 K12 C5 (.slice a12 B.length c12) B ∧ VarS W2 K13 C6 (.slice a13 O.length c13) O) := ⟨S10.out.1.below hk2.2, S10.out.2.1.trans (hk2.2.mono S10.out.2.1.size), S10.out.2.2.2.2.2.2.2.1.next hk2.2, S10.out.2.2.2.2.2.2.2.2.next hk2.2⟩
  clear g0 g1 g2 h0 h1 h2 i0 i1 i2 j0 j1 j2 hk1 hk2 hb1 hb2 hr1 hr2 S10 n5 n6
  by_cases z5 : C5 = 0
  · have hR : Hid (([] : List Bx) = cmL 3 s B) := (HBK.out z5).symm
    subst z5
    obtain ⟨D, hD⟩ : ∃ D, D = cmC 3 s B := ⟨_, rfl⟩
    have HD : Hid (D = cmC 3 s B) := hD
    clear hD
    obtain ⟨i0, i1, i2⟩ := S11.out.2.2.1.cells
    go_wp2_with (fail)
    refine (combG HD.out hR.out S11.out.1 S11.out.2.2.1.lst).mono ?_
    rintro e Y1 ⟨b1, d1, rfl, hb⟩
    have S12 : Hid (RB Y1 (.slice sa s.length sc) s ∧ Below w.heap.size w Y1 ∧ VarS Y1 K12 0 (.slice a12 B.length c12) B ∧ VarS Y1 K13 C6 (.slice a13 O.length c13) O) := ⟨S11.out.1.below hb, S11.out.2.1.trans (hb.mono S11.out.2.1.size), S11.out.2.2.1.next hb, S11.out.2.2.2.next hb⟩
    clear hb i0 i1 i2 S11
    by_cases hD0 : D = 0
    · obtain ⟨i0, i1, i2⟩ := S12.out.2.2.1.cells
      have HD' : Hid ((0 : Int) = cmC 3 s B) := by unfold Hid; rw [← hD0]; exact HD.out
      subst hD0
      go_wp2_with (fail)
      refine (combG HD'.out hR.out S12.out.1 S12.out.2.2.1.lst).mono ?_
      rintro e Y2 ⟨b2, d2, rfl, hb⟩
      have SX : Hid (RB Y2 (.slice sa s.length sc) s ∧ Below w.heap.size w Y2 ∧ VarS Y2 K13 C6 (.slice a13 O.length c13) O) := ⟨S12.out.1.below hb, S12.out.2.1.trans (hb.mono S12.out.2.1.size), S12.out.2.2.2.next hb⟩
      clear hb i0 i1 i2 S12 HD HD' hR
      by_cases z6 : C6 = 0
      · have hR : Hid (([] : List Bx) = cmL 3 O s) := (HOP.out z6).symm
        subst z6
        obtain ⟨i0, i1, i2⟩ := SX.out.2.2.cells
        go_wp2_with (fail)
        refine (combG (C := cmC 3 O s) rfl hR.out SX.out.2.2.lst SX.out.1).mono ?_
        rintro e Z1 ⟨b1, d1, rfl, hb⟩
        have HB : Hid (Below w.heap.size w Z1) := SX.out.2.1.trans (hb.mono SX.out.2.1.size)
        clear hb i0 i1 i2 SX
        generalize cmC 3 O s = D2
        go_wp2
        go_returns
        exact ⟨rfl, HB.out⟩
      · have z6' : (C6 != 0) = true := by simpa using z6
        obtain ⟨i0, i1, i2⟩ := SX.out.2.2.cells
        have HB : Hid (Below w.heap.size w Y2) := SX.out.2.1
        go_wp2
        go_returns
        exact ⟨rfl, HB.out⟩
    · have hD' : (D == 0) = false := by simpa using hD0
      have SX : Hid (RB Y1 (.slice sa s.length sc) s ∧ Below w.heap.size w Y1 ∧ VarS Y1 K13 C6 (.slice a13 O.length c13) O) := ⟨S12.out.1, S12.out.2.1, S12.out.2.2.2⟩
      clear S12 hR HD
      by_cases z6 : C6 = 0
      · have hR : Hid (([] : List Bx) = cmL 3 O s) := (HOP.out z6).symm
        subst z6
        obtain ⟨i0, i1, i2⟩ := SX.out.2.2.cells
        go_wp2_with (fail)
        refine (combG (C := cmC 3 O s) rfl hR.out SX.out.2.2.lst SX.out.1).mono ?_
        rintro e Z1 ⟨b1, d1, rfl, hb⟩
        have HB : Hid (Below w.heap.size w Z1) := SX.out.2.1.trans (hb.mono SX.out.2.1.size)
        clear hb i0 i1 i2 SX
        generalize cmC 3 O s = D2
        go_wp2
        go_returns
        exact ⟨rfl, HB.out⟩
      · have z6' : (C6 != 0) = true := by simpa using z6
        obtain ⟨i0, i1, i2⟩ := SX.out.2.2.cells
        have HB : Hid (Below w.heap.size w Y1) := SX.out.2.1
        go_wp2
        go_returns
        exact ⟨rfl, HB.out⟩
  · have z5' : (C5 == 0) = false := by simpa using z5
    obtain ⟨k0, k1, k2⟩ := S11.out.2.2.1.cells
    have SX : Hid (RB W2 (.slice sa s.length sc) s ∧ Below w.heap.size w W2 ∧ VarS W2 K13 C6 (.slice a13 O.length c13) O) := ⟨S11.out.1, S11.out.2.1, S11.out.2.2.2⟩
    clear S11
    by_cases z6 : C6 = 0
    · have hR : Hid (([] : List Bx) = cmL 3 O s) := (HOP.out z6).symm
      subst z6
      obtain ⟨i0, i1, i2⟩ := SX.out.2.2.cells
      go_wp2_with (fail)
      refine (combG (C := cmC 3 O s) rfl hR.out SX.out.2.2.lst SX.out.1).mono ?_
      rintro e Z1 ⟨b1, d1, rfl, hb⟩
      have HB : Hid (Below w.heap.size w Z1) := SX.out.2.1.trans (hb.mono SX.out.2.1.size)
      clear hb i0 i1 i2 SX
      generalize cmC 3 O s = D2
      go_wp2
      go_returns
      exact ⟨rfl, HB.out⟩
    · have z6' : (C6 != 0) = true := by simpa using z6
      obtain ⟨i0, i1, i2⟩ := SX.out.2.2.cells
      have HB : Hid (Below w.heap.size w W2) := SX.out.2.1
      go_wp2
      go_returns
      exact ⟨rfl, HB.out⟩

theorem own : ownKnob Try.prog.godebug = none := by kernel_rfl
theorem laidOut : laidOutB Try.prog = true := by kernel_rfl

/-- A slice of bytes that came in: nil, or a row of cells. -/
def IsRow (k : IntKind) (w : World) (a : Option Addr) (len cap : Nat) (zs : List Int) : Prop :=
  (a = none ∧ len = 0 ∧ cap = 0 ∧ zs = []) ∨
  ∃ x, a = some x ∧ len ≤ cap ∧ cap ≤ maxLen ∧ zs.length = cap ∧ (∀ i, i < zs.length → w.cell? (x.add i) = some (.int k (zs.getD i 0))) ∧ ∀ n ∈ zs, (Lit.int k n).wf = true

theorem byte_bd (zs : List Int) (h : ∀ n ∈ zs, (Lit.int .u8 n).wf = true) (j : Nat) : 0 ≤ zs.getD j 0 ∧ zs.getD j 0 ≤ 255 := by
  rcases Nat.lt_or_ge j zs.length with hj | hj
  · have hm : zs.getD j 0 ∈ zs := by simp [List.getElem?_eq_getElem hj]
    have := h _ hm
    simpa [Lit.wf, IntKind.min, IntKind.max, IntKind.signed, IntKind.bits] using this
  · simp [List.getElem?_eq_none hj]

theorem walk (a0 : Option Addr) (len0 cap0 : Nat) (z0 : List Int) (w : World) (w0 : IsRow .u8 w a0 len0 cap0 z0) :
    Calls Try.prog 8 #[.slice a0 len0 cap0] w fun e w' => e = .returned (.bool true) ∧ Below w.heap.size w w' := by
  rcases w0 with ⟨rfl, rfl, rfl, rfl⟩ | ⟨x, rfl, hl, hm, hz, hc, hw⟩
  · exact law_gw none 0 0 (fun _ => 0) w (Nat.zero_le _) (fun _ => by omega) (fun h => by omega)
  · refine law_gw (some x) len0 cap0 (fun j => z0.getD j 0) w (Nat.le_trans hl hm) (byte_bd z0 hw) (fun hp => ?_)
    have hx0 := hc 0 (by omega)
    obtain ⟨g, off, sp⟩ := x
    have hsp : sp = none := by
      cases sp with
      | none => rfl
      | some t =>
        exfalso
        simp [World.cell?, Addr.add] at hx0
        split at hx0 <;> cases hx0
    subst hsp
    have hadd : ∀ j, (⟨g, off, none⟩ : Addr).add j = ⟨g, off + j, none⟩ := fun j => by unfold Addr.add; split <;> simp_all
    refine ⟨g, off, rfl, ?_, fun j hj => ?_⟩
    · rw [hadd] at hx0; exact lt_of_cell hx0
    · have := hc j (by omega)
      rw [hadd] at this
      exact this

set_option maxRecDepth 100000 in
theorem gw_lifted (os : Os) (started : os.Started) (H : Type) (enc : TypeId × Value → H) :
    ReturnsInHanded {} Try.checked os 8 .any (Rows.fnGrownSpec.pre6 enc Try.prog Try.f8 Rows.fnGrownRow.domain false) (Rows.fnGrownSpec.post enc Try.prog Try.f8 false true false false) := by
  refine returnsInHanded_of_change (C := Try.checked) own started (by kernel_rfl) Try.func8
    (ChangeSpec.witness6 (enc := enc) (C := Try.checked) false ⟨#[], #[.slice none 0 0], []⟩ 8 (by kernel_rfl) (by kernel_rfl) (by kernel_rfl) (by kernel_rfl)) ?_
  intro W base args ds gs before hval0 hW hcnd _
  have hval : ∀ (j : Nat) t v, Try.f8.params[j]? = some t → args[j]? = some v → Value.okWide Try.prog W .any base t v := hval0
  have hW' := hW
  obtain ⟨p, q, hA0, hV, rfl, hfz, hnd⟩ := hW
  have hA : DataW.TrodAll enc Try.prog W 0 (fun _ => true) true Try.f8.params.toList args.toList ds p := hA0
  rw [Try.params8] at hA hval
  obtain ⟨v0, vs0, d0, ds0, p0, q0, hargs, rfl, rfl, h0, r0⟩ := trodAll_cons hA
  obtain ⟨rfl, rfl, rfl⟩ := trodAll_nil r0
  obtain rfl : args = #[v0] := by cases args; simp_all
  obtain ⟨rfl, rfl⟩ := trodVars_none hV
  obtain ⟨a0, len0, cap0, rfl⟩ := okWide_slice Try.underlying48 (hval 0 48 v0 rfl rfl)
  have k0 := h0
  have lt0 : ∀ x ∈ p0, x.block < W.heap.size := by obtain ⟨m, hm⟩ := k0; exact DataW.trod_lt m _ _ _ hm
  obtain ⟨z0, w0⟩ : ∃ zs, IsRow .u8 W a0 len0 cap0 zs := by
    obtain ⟨fuel, hf⟩ := h0
    rcases open_ints Try.underlying48 Try.underlying5 (by kernel_rfl) hf with ⟨hcs, _⟩ | ⟨x, l, c, zs, hcs, _, hl, hm, hz, _, hcell, hwz⟩
    · simp [Value.cells] at hcs
      obtain ⟨rfl, rfl, rfl⟩ := hcs
      exact ⟨[], .inl ⟨rfl, rfl, rfl, rfl⟩⟩
    · simp [Value.cells] at hcs
      obtain ⟨rfl, rfl, rfl⟩ := hcs
      exact ⟨zs, .inr ⟨_, rfl, hl, hm, by simpa using hz, hcell, hwz⟩⟩
  clear hA0 hval0
  refine (walk a0 len0 cap0 z0 W w0).mono fun e W' ⟨he, bel⟩ => ?_
  subst he
  exact ⟨_, rfl, _, _, _, [], _, [], hW', trodAll_mk1 (shut_bool Try.underlying4 _), (trodAll_cons_mk (Below.trod laidOut (by kernel_rfl) (of_decide_eq_true (by kernel_rfl)) k0 bel lt0) trodAll_mk0), rfl, bel.frame _, fun h => by cases h⟩

theorem gw_over : Rows.fnGrownRow.holds Try.pinned (OpenSpec.ofChange Rows.fnGrownSpec) :=
  OpenClaim.holds_of_wide 8 Try.f8 rfl rfl rfl rfl rfl rfl rfl ⟨rfl, rfl, rfl, rfl, rfl⟩ rfl rfl rfl rfl rfl (by kernel_rfl) Try.func8 (by kernel_rfl)
    (of_decide_eq_true (by kernel_rfl)) (by unfold Func.isWrapper; first | (rw [if_pos (by decide +kernel)]; kernel_rfl) | (rw [if_neg (by decide +kernel)]; exact ⟨rfl, rfl⟩))
    (fun os started H enc _ => gw_lifted os started H enc)

theorem gw_proved : Rows.FnGrownSaid := gw_over
#print axioms gw_proved

end Go.Proofs.Ytokdpgabmifdjaa
