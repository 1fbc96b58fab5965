/- Proved here: 'a shape's area and rim are what its cells, counted one by one, tell; and the program tells them as the model', for every code of bytes, without a condition. -/
import Derived.Test.YtokdpgabmifdjabFcN
import Derived.Test.YtokdpgabmifdjabKept
import Derived.Deep.RegionHeld3
import Derived.OpenShut
import Derived.ChangeOld
import Derived.Below
namespace Go.Proofs.Ytokdpgabmifdjab
open Go.ChangeShapes Go.WideShapes Go.ChangeAt Go.RowKit
set_option linter.unusedVariables false
set_option linter.unusedSimpArgs false

/-- A variable that holds two cells. -/
structure VarI (V : World) (K : Nat) (a b : Value) (t : TypeId) : Prop where
  blk : V.heap[K]? = some (.cells #[a, b] t)
theorem VarI.next {V V' : World} {K : Nat} {a b : Value} {t : TypeId} (h : VarI V K a b t) (hb : Below V.heap.size V V') : VarI V' K a b t :=
  ⟨(hb.block _ (lt_of_blk h.blk)).trans h.blk⟩
theorem VarI.cells {V : World} {K : Nat} {a b : Value} {t : TypeId} (h : VarI V K a b t) : V.cell? ⟨K, 0, none⟩ = some a ∧ V.cell? ⟨K, 1, none⟩ = some b ∧ K < V.heap.size :=
  ⟨by simp [World.cell?, h.blk], by simp [World.cell?, h.blk], lt_of_blk h.blk⟩
theorem VarI.new (w : World) (a b : Value) (t : TypeId) : VarI (w.alloc (.cells #[a, b] t)) w.heap.size a b t := ⟨heap_alloc_new _ _⟩
theorem below_allocF (w : World) (o : Obj) : Below w.heap.size w (w.alloc o) := (Below.refl _ _).alloc (Nat.le_refl _) _
theorem neq_si (C V : Int) (w : World) : Sem.run Try.prog (binOp .neq 45 (.agg #[.int .i64 C, .int .i64 V]) (.agg #[.int .i64 C, .int .i64 V])) w = .ok (.bool false) w := by
  go_simp
theorem fldI1 (C V : Int) (w : World) : (Instr.field 45 (.agg #[.int .i64 C, .int .i64 V]) 1).run Try.prog w = .ok (.int .i64 V) w := by kernel_rfl

set_option maxRecDepth 10000 in
set_option maxHeartbeats 12000000 in
theorem law_ce (ca : Option Addr) (n cap : Nat) (bs : Nat → Int) (w : World) (hnn : n ≤ maxLen) (hB : ∀ j, 0 ≤ bs j ∧ bs j ≤ 255)
    (hC : 0 < n → ∃ g off, ca = some ⟨g, off, none⟩ ∧ g < w.heap.size ∧ ∀ j, j < n → w.cell? ⟨g, off + j, none⟩ = some (.int .u8 (bs j))) :
    Calls Try.prog 7 #[.slice ca n cap] w fun e w' => e = .returned (.bool true) ∧ Below w.heap.size w w' := by
  by_cases hbig : (1048576 : Int) < n
  · go_enter Try.func7, Try.ntmps7
    go_wp2_with (fail)
    clear hB hC
    refine (big_anyF _ _ _ _ hnn).mono ?_
    rintro e w' ⟨rfl, hww⟩
    obtain rfl : w = w' := hww.symm
    go_wp2
    go_returns
    exact ⟨rfl, Below.refl _ _⟩
  have hbig' : decide ((1048576 : Int) < n) = false := by simpa using hbig
  have H : Hid (n ≤ 140737488351232 ∧ (∀ j, 0 ≤ bs j ∧ bs j ≤ 255) ∧ (0 < n → ∃ g off, ca = some ⟨g, off, none⟩ ∧ g < w.heap.size ∧ ∀ j, j < n → w.cell? ⟨g, off + j, none⟩ = some (.int .u8 (bs j)))) := ⟨by omega, hB, hC⟩
  clear hB hC
  go_enter Try.func7, Try.ntmps7
  go_wp2_with (fail)
  refine (big_anyF _ _ _ _ hnn).mono ?_
  rintro e w' ⟨rfl, hww⟩
  obtain rfl : w = w' := hww.symm
  go_wp2_with (fail)
  refine (drawR_any ca n cap bs _ H.out.1 H.out.2.1 H.out.2.2).mono ?_
  rintro e V0 ⟨vs, s, rfl, hbs, hl, hb1⟩
  obtain ⟨sa, sc, hof⟩ := hbs.form
  subst hof
  have S0 : Hid (RB V0 (.slice sa s.length sc) s ∧ Below w.heap.size w V0 ∧ s.length ≤ sc) := ⟨hbs.rb, hb1, hbs.cap⟩
  clear hbs hb1 H
  obtain ⟨z, hz⟩ : ∃ z, z = shapeK s := ⟨_, rfl⟩
  obtain ⟨R, hR⟩ : ∃ z, z = rimV s := ⟨_, rfl⟩
  obtain ⟨A, hA⟩ : ∃ z, z = areaV s := ⟨_, rfl⟩
  have HZ : Hid (z = shapeK s ∧ R = rimV s ∧ A = areaV s) := ⟨hz, hR, hA⟩
  have HIR : Hid (∀ {W : World}, RB W (.slice sa s.length sc) s → Calls Try.prog 28 #[.slice sa s.length sc] W fun e w' => e = .returned (.agg #[.int .i64 z, .int .i64 R]) ∧ Below W.heap.size W w') := fun {W} hW => by rw [hz, hR]; exact impl_rimOf (by omega) S0.out.2.2 hW
  have HSR : Hid (∀ {W : World}, RB W (.slice sa s.length sc) s → Calls Try.prog 29 #[.slice sa s.length sc] W fun e w' => e = .returned (.agg #[.int .i64 z, .int .i64 R]) ∧ Below W.heap.size W w') := fun {W} hW => by rw [hz, hR]; exact spec_rimOf hW
  have HIA : Hid (∀ {W : World}, RB W (.slice sa s.length sc) s → Calls Try.prog 30 #[.slice sa s.length sc] W fun e w' => e = .returned (.agg #[.int .i64 z, .int .i64 A]) ∧ Below W.heap.size W w') := fun {W} hW => by rw [hz, hA]; exact impl_areaOf (by omega) S0.out.2.2 hW
  have HSA : Hid (∀ {W : World}, RB W (.slice sa s.length sc) s → Calls Try.prog 31 #[.slice sa s.length sc] W fun e w' => e = .returned (.agg #[.int .i64 z, .int .i64 A]) ∧ Below W.heap.size W w') := fun {W} hW => by rw [hz, hA]; exact spec_areaOf hW
  clear hz hR hA
  go_wp2_with (fail)
  refine (HIR.out S0.out.1).mono ?_
  rintro e w1 ⟨rfl, hb⟩
  obtain ⟨V1, hV1⟩ : ∃ V, V = w1.alloc (.cells #[.int .i64 z, .int .i64 R] 45) := ⟨_, rfl⟩
  obtain ⟨K4, hK4⟩ : ∃ K, K = w1.heap.size := ⟨_, rfl⟩
  have hbV : Below V0.heap.size V0 V1 := by rw [hV1]; exact hb.trans ((below_allocF w1 _).mono hb.size)
  have S1 : Hid (RB V1 (.slice sa s.length sc) s ∧ Below w.heap.size w V1 ∧ VarI V1 K4 (.int .i64 z) (.int .i64 R) 45) := ⟨S0.out.1.below hbV, S0.out.2.1.trans (hbV.mono S0.out.2.1.size), by rw [hV1, hK4]; exact VarI.new _ _ _ _⟩
  clear hb hbV S0
  go_wp2_with (fail)
  rw [← hV1, ← hK4]
  clear hV1 hK4
  obtain ⟨x0, x1, x2⟩ := S1.out.2.2.cells
  have hq := neq_si
  go_region_held3 (fun w' => (∀ bb oo, bb < V1.heap.size → w'.cell? ⟨bb, oo, none⟩ = V1.cell? ⟨bb, oo, none⟩) ∧ Below V1.heap.size V1 w')
    (first | exact KS.start _ | exact hk3 | exact hk2 | exact hk1)
    (first
      | (go_at_call 31; refine (HSA.out (S1.out.1.below hk2.2)).mono ?_; rintro e W3 ⟨rfl, hb3⟩; have hk3 : KS V1 W3 := KS.of (hk2.2.trans (hb3.mono hk2.2.size)))
      | (go_at_call 30; refine (HIA.out (S1.out.1.below hk1.2)).mono ?_; rintro e W2 ⟨rfl, hb2⟩; have hk2 : KS V1 W2 := KS.of (hk1.2.trans (hb2.mono hk1.2.size)))
      | (go_at_call 29; refine (HSR.out (S1.out.1.below (KS.start _).2)).mono ?_; rintro e W1 ⟨rfl, hb1⟩; have hk1 : KS V1 W1 := KS.of ((KS.start V1).2.trans (hb1.mono (KS.start V1).2.size))))
  have S2 : Hid (RB W3 (.slice sa s.length sc) s ∧ Below w.heap.size w W3 ∧ VarI W3 K4 (.int .i64 z) (.int .i64 R) 45) := ⟨S1.out.1.below hk3.2, S1.out.2.1.trans (hk3.2.mono S1.out.2.1.size), S1.out.2.2.next hk3.2⟩
  clear x0 x1 x2 hk1 hk2 hk3 hb1 hb2 hb3 S1 hq
  go_wp2_with (fail)
  refine (spec_boundsOf S2.out.1).mono ?_
  rintro e w4 ⟨vb, rfl, hvb, hb⟩
  obtain ⟨ba, bc, hvf⟩ := hvb.form
  subst hvf
  obtain ⟨L, hL⟩ : ∃ L, L = bndL s := ⟨_, rfl⟩
  have HLB : Hid (L = bndL s) := hL
  rw [← hL] at hvb ⊢
  have hzz : bndC s = z := by unfold bndC; exact HZ.out.1.symm
  rw [hzz]
  clear hzz hL
  obtain ⟨V5, hV5⟩ : ∃ V, V = w4.alloc (.cells #[.int .i64 z, .slice ba L.length bc] 26) := ⟨_, rfl⟩
  obtain ⟨K5, hK5⟩ : ∃ K, K = w4.heap.size := ⟨_, rfl⟩
  have hbV : Below W3.heap.size W3 V5 := by rw [hV5]; exact hb.trans ((below_allocF w4 _).mono hb.size)
  have S5 : Hid (RB V5 (.slice sa s.length sc) s ∧ Below w.heap.size w V5 ∧ VarI V5 K4 (.int .i64 z) (.int .i64 R) 45 ∧ VarI V5 K5 (.int .i64 z) (.slice ba L.length bc) 26 ∧ RB V5 (.slice ba L.length bc) L) := ⟨S2.out.1.below hbV, S2.out.2.1.trans (hbV.mono S2.out.2.1.size), S2.out.2.2.next hbV, by rw [hV5, hK5]; exact VarI.new _ _ _ _, by rw [hV5]; exact hvb.rb.below (below_allocF w4 _)⟩
  obtain ⟨x0, x1, x2⟩ := (S2.out.2.2.next hb).cells
  clear hb hbV S2 hvb
  go_wp2_with (fail)
  clear x0 x1 x2
  rw [← hV5, ← hK5]
  clear hV5 hK5
  obtain ⟨y0, y1, y2⟩ := S5.out.2.2.1.cells
  obtain ⟨u0, u1, u2⟩ := S5.out.2.2.2.1.cells
  by_cases hz0 : z = 0
  rotate_left
  · have hzn : (z != 0) = true := by simpa using hz0
    have HB : Hid (∀ k, Below w.heap.size w (V5.drewN k)) := fun k => below_drewN S5.out.2.1 k
    clear S5
    go_quiet (fail)
    go_wp2
    go_returns
    exact ⟨rfl, HB.out _⟩
  have hs0 : shapeK s = 0 := by rw [← HZ.out.1]; exact hz0
  have hzn : (z != 0) = false := by simpa using hz0
  by_cases hp : 0 < s.length
  rotate_left
  · have hL0 : L = [] := by rw [HLB.out]; unfold bndL; rw [if_neg (fun e => hp e.2)]
    subst hL0
    have HB : Hid (∀ k, Below w.heap.size w (V5.drewN k)) := fun k => below_drewN S5.out.2.1 k
    clear S5
    go_quiet (fail)
    go_wp2
    go_returns
    exact ⟨rfl, HB.out _⟩
  obtain ⟨f, hf⟩ : ∃ f, f = bnd s s.length := ⟨_, rfl⟩
  have hL1 : L = [f] := by rw [HLB.out]; unfold bndL; rw [if_pos ⟨hs0, hp⟩, hf]
  subst hL1
  obtain ⟨g, o, c5, he, hg, hj⟩ := S5.out.2.2.2.2.pos (by simp)
  simp only [Value.slice.injEq] at he
  obtain ⟨rfl, hx1, hx2⟩ := he
  clear hx1 hx2
  obtain ⟨d0, d1, d2, d3⟩ := hj 0 (by simp)
  have hfb : bat [f] 0 = f := rfl
  rw [hfb] at d0 d1 d2 d3
  simp only [Nat.zero_mul, Nat.add_zero] at d0 d1 d2 d3
  have hlim := (bnd_all hp).2 (-10000) 10000 fun b hb => by have := okS hs0 b hb; omega
  have hall := (bnd_all hp).1 _ (bat_mem hp)
  have hb0 := okS hs0 _ (bat_mem hp)
  rw [← hf] at hlim hall
  have hfx : f.x0 < f.x1 ∧ f.y0 < f.y1 ∧ -10000 ≤ f.x0 ∧ -10000 ≤ f.y0 ∧ f.x1 ≤ 10000 ∧ f.y1 ≤ 10000 := by omega
  have HCA : Hid (A = grid (fun i j => ioC s (f.x0 - 1 + i) (f.y0 - 1 + j)) (f.y1 - f.y0 + 1).toNat (f.x1 - f.x0 + 1).toNat ∧ R = grid (fun i j => rioC s (f.x0 - 1 + i) (f.y0 - 1 + j)) (f.y1 - f.y0 + 1).toNat (f.x1 - f.x0 + 1).toNat) := by
    have h := cells_all hs0 hp
    unfold frH frW at h
    rw [← hf] at h
    exact ⟨HZ.out.2.2.trans h.1, HZ.out.2.1.trans h.2⟩
  have HIN : Hid (∀ x y, ioC s x y = if inSK s x y = true then 1 else 0) := in_io hs0
  clear hlim hall hb0 hj hfb hf HLB
  have hw1 : IntKind.i64.wrap (f.x1 - f.x0) = f.x1 - f.x0 := by rw [IntKind.wrap_i64]; omega
  have hw2 : IntKind.i64.wrap (f.y1 - f.y0) = f.y1 - f.y0 := by rw [IntKind.wrap_i64]; omega
  by_cases hxw : (60 : Int) < f.x1 - f.x0
  · have HB : Hid (∀ k, Below w.heap.size w (V5.drewN k)) := fun k => below_drewN S5.out.2.1 k
    clear S5
    go_quiet (fail)
    go_wp2
    go_returns
    exact ⟨rfl, HB.out _⟩
  by_cases hyw : (60 : Int) < f.y1 - f.y0
  · have HB : Hid (∀ k, Below w.heap.size w (V5.drewN k)) := fun k => below_drewN S5.out.2.1 k
    clear S5
    go_quiet (fail)
    go_wp2
    go_returns
    exact ⟨rfl, HB.out _⟩
  go_quiet (fail)
  obtain ⟨V6, hV6⟩ : ∃ V, V = V5.drewN nq := ⟨_, rfl⟩
  have hb6 : Below V5.heap.size V5 V6 := by rw [hV6]; exact below_drewN (Below.refl _ _) _
  rw [← hV6]
  have S6 : Hid (RB V6 (.slice sa s.length sc) s ∧ Below w.heap.size w V6 ∧ VarI V6 K4 (.int .i64 z) (.int .i64 R) 45) := ⟨S5.out.1.below hb6, S5.out.2.1.trans (hb6.mono S5.out.2.1.size), S5.out.2.2.1.next hb6⟩
  rw [← hb6.cell (p := ⟨g, o, none⟩) hg] at d0
  rw [← hb6.cell (p := ⟨g, o + 1, none⟩) hg] at d1
  rw [← hb6.cell (p := ⟨g, o + 2, none⟩) hg] at d2
  rw [← hb6.cell (p := ⟨g, o + 3, none⟩) hg] at d3
  rw [← hb6.cell (p := ⟨K5, 1, none⟩) u2] at u1
  have hg6 : g < V6.heap.size := Nat.lt_of_lt_of_le hg hb6.size
  have hk6 : K5 < V6.heap.size := Nat.lt_of_lt_of_le u2 hb6.size
  clear hV6 hb6 S5 y0 y1 y2 u0 u2 hg
  obtain ⟨V7, hV7⟩ : ∃ V, V = V6.alloc (.cells #[.int .i64 f.x0, .int .i64 f.y0, .int .i64 f.x1, .int .i64 f.y1] 49) := ⟨_, rfl⟩
  obtain ⟨K6, hK6⟩ : ∃ K, K = V6.heap.size := ⟨_, rfl⟩
  have hbV : Below V6.heap.size V6 V7 := by rw [hV7]; exact below_allocF V6 _
  have hK6b : V7.heap[K6]? = some (.cells #[.int .i64 f.x0, .int .i64 f.y0, .int .i64 f.x1, .int .i64 f.y1] 49) := by rw [hV7, hK6]; exact heap_alloc_new _ _
  have S7 : Hid (RB V7 (.slice sa s.length sc) s ∧ Below w.heap.size w V7 ∧ VarI V7 K4 (.int .i64 z) (.int .i64 R) 45 ∧ V7.heap[K6]? = some (.cells #[.int .i64 f.x0, .int .i64 f.y0, .int .i64 f.x1, .int .i64 f.y1] 49)) := ⟨S6.out.1.below hbV, S6.out.2.1.trans (hbV.mono S6.out.2.1.size), S6.out.2.2.next hbV, hK6b⟩
  have hwy : IntKind.i64.wrap (f.y0 - 1) = f.y0 - 1 := by rw [IntKind.wrap_i64]; omega
  have hwx : IntKind.i64.wrap (f.x0 - 1) = f.x0 - 1 := by rw [IntKind.wrap_i64]; omega
  clear hbV hK6b S6
  go_wp2_with (fail)
  rw [← hV7, ← hK6]
  clear hV7 hK6 d0 d1 d2 d3 u1 hg6 hk6
  obtain ⟨W, hW⟩ : ∃ W, W = (f.x1 - f.x0 + 1).toNat := ⟨_, rfl⟩
  obtain ⟨H, hH⟩ : ∃ H, H = (f.y1 - f.y0 + 1).toNat := ⟨_, rfl⟩
  rw [← hW, ← hH] at HCA
  have hWi : (W : Int) = f.x1 - f.x0 + 1 := by omega
  have hHi : (H : Int) = f.y1 - f.y0 + 1 := by omega
  have hW61 : W ≤ 61 := by omega
  have hH61 : H ≤ 61 := by omega
  clear hW hH
  obtain ⟨rA, hrA⟩ : ∃ rA : Nat → Nat → Int, rA = fun (j i : Nat) => ioC s (f.x0 - 1 + i) (f.y0 - 1 + j) := ⟨_, rfl⟩
  obtain ⟨rR, hrR⟩ : ∃ rR : Nat → Nat → Int, rR = fun (j i : Nat) => rioC s (f.x0 - 1 + i) (f.y0 - 1 + j) := ⟨_, rfl⟩
  obtain ⟨gA, hgA⟩ : ∃ gA : Nat → Int, gA = fun j => sumN (fun j => sumN (rA j) W) j := ⟨_, rfl⟩
  obtain ⟨gR, hgR⟩ : ∃ gR : Nat → Int, gR = fun j => sumN (fun j => sumN (rR j) W) j := ⟨_, rfl⟩
  have HDF : Hid ((∀ j i : Nat, rA j i = ioC s (f.x0 - 1 + i) (f.y0 - 1 + j)) ∧ (∀ j i : Nat, rR j i = rioC s (f.x0 - 1 + i) (f.y0 - 1 + j)) ∧ gA 0 = 0 ∧ gR 0 = 0 ∧ (∀ j, gA (j + 1) = gA j + sumN (rA j) W) ∧ (∀ j, gR (j + 1) = gR j + sumN (rR j) W) ∧ A = gA H ∧ R = gR H) := by
    refine ⟨fun j i => by rw [hrA], fun j i => by rw [hrR], by rw [hgA]; rfl, by rw [hgR]; rfl, fun j => by rw [hgA]; rfl, fun j => by rw [hgR]; rfl, ?_, ?_⟩
    · rw [hgA, hrA]; exact HCA.out.1
    · rw [hgR, hrR]; exact HCA.out.2
  clear hrA hrR hgA hgR HCA
  go_loopw [7, 8, 9] (fun va vr vv wr => ∃ (j : Nat) (a r : Int), j ≤ H ∧ va = .int .i64 a ∧ vr = .int .i64 r ∧ vv = .int .i64 (f.y0 - 1 + j) ∧ 0 ≤ a ∧ a ≤ 100 * (j : Int) ∧ 0 ≤ r ∧ r ≤ 200 * (j : Int) ∧ Hid (a = gA j ∧ r = gR j ∧ Below V7.heap.size V7 wr)) (fun _ _ vv _ => (f.y1 - intOf vv).toNat)
  case atStart => exact ⟨0, 0, 0, Nat.zero_le _, rfl, rfl, by simp, by omega, by omega, by omega, by omega, HDF.out.2.2.1.symm, HDF.out.2.2.2.1.symm, Below.refl _ _⟩
  case round =>
    obtain ⟨j, a, r, hj, rfl, rfl, rfl, a0, a1, r0, r1, hR⟩ := hrel
    have hblk := (hR.out.2.2.block K6 (lt_of_blk S7.out.2.2.2)).trans S7.out.2.2.2
    have e0 : wr.cell? ⟨K6, 0, none⟩ = some (.int .i64 f.x0) := by simp [World.cell?, hblk]
    have e3 : wr.cell? ⟨K6, 3, none⟩ = some (.int .i64 f.y1) := by simp [World.cell?, hblk]
    have hk6 := lt_of_blk hblk
    clear hblk
    by_cases hlt : j < H
    · have b1 : f.y0 - 1 + (j : Int) < f.y1 := by omega
      go_wp2_with (fail)
      clear e0 e3 hk6
      go_loopw [7, 8, 10] (fun va vr vx w2 => ∃ (i : Nat) (a r : Int), i ≤ W ∧ va = .int .i64 a ∧ vr = .int .i64 r ∧ vx = .int .i64 (f.x0 - 1 + i) ∧ 0 ≤ a ∧ a ≤ 100 * (j : Int) + i ∧ 0 ≤ r ∧ r ≤ 200 * (j : Int) + 2 * (i : Int) ∧ Hid (a = gA j + sumN (rA j) i ∧ r = gR j + sumN (rR j) i ∧ Below V7.heap.size V7 w2)) (fun _ _ vx _ => (f.x1 - intOf vx).toNat)
      case atStart => exact ⟨0, a, r, Nat.zero_le _, rfl, rfl, by simp, by omega, by omega, by omega, by omega, by simp only [sumN]; rw [Int.add_zero]; exact hR.out.1, by simp only [sumN]; rw [Int.add_zero]; exact hR.out.2.1, hR.out.2.2⟩
      case round =>
        clear hR a0 a1 r0 r1
        obtain ⟨i, a, r, hi, rfl, rfl, rfl, a0, a1, r0, r1, hR⟩ := hrel
        have hblk := (hR.out.2.2.block K6 (lt_of_blk S7.out.2.2.2)).trans S7.out.2.2.2
        have e2 : wr.cell? ⟨K6, 2, none⟩ = some (.int .i64 f.x1) := by simp [World.cell?, hblk]
        have hk6 := lt_of_blk hblk
        clear hblk
        by_cases hlti : i < W
        · have b2 : f.x0 - 1 + (i : Int) < f.x1 := by omega
          obtain ⟨X, hX⟩ : ∃ X : Int, X = f.x0 - 1 + i := ⟨_, rfl⟩
          obtain ⟨Y, hY⟩ : ∃ Y : Int, Y = f.y0 - 1 + j := ⟨_, rfl⟩
          obtain ⟨p, hpp⟩ : ∃ p, p = inSK s X Y := ⟨_, rfl⟩
          obtain ⟨q, hqq⟩ : ∃ q, q = inSK s (X + 1) Y := ⟨_, rfl⟩
          obtain ⟨t, htt⟩ : ∃ t, t = inSK s X (Y + 1) := ⟨_, rfl⟩
          have HP : Hid (∀ W, RB W (.slice sa s.length sc) s → Calls Try.prog 33 #[.slice sa s.length sc, .int .i64 (f.x0 - 1 + i), .int .i64 (f.y0 - 1 + j)] W fun e w' => e = .returned (.bool p) ∧ Below W.heap.size W w') := fun W hW => by rw [hpp, hX, hY]; exact spec_inShape _ _ hW
          have HQ : Hid (∀ W, RB W (.slice sa s.length sc) s → Calls Try.prog 33 #[.slice sa s.length sc, .int .i64 (f.x0 - 1 + i + 1), .int .i64 (f.y0 - 1 + j)] W fun e w' => e = .returned (.bool q) ∧ Below W.heap.size W w') := fun W hW => by rw [hqq, hX, hY]; exact spec_inShape _ _ hW
          have HT : Hid (∀ W, RB W (.slice sa s.length sc) s → Calls Try.prog 33 #[.slice sa s.length sc, .int .i64 (f.x0 - 1 + i), .int .i64 (f.y0 - 1 + j + 1)] W fun e w' => e = .returned (.bool t) ∧ Below W.heap.size W w') := fun W hW => by rw [htt, hX, hY]; exact spec_inShape _ _ hW
          have HV : Hid (rA j i = (if p = true then 1 else 0) ∧ rR j i = (if (if p = true then (1 : Int) else 0) = (if q = true then 1 else 0) then 0 else 1) + (if (if p = true then (1 : Int) else 0) = (if t = true then 1 else 0) then 0 else 1)) := by
            refine ⟨?_, ?_⟩
            · rw [HDF.out.1, ← hX, ← hY, HIN.out, hpp]
            · rw [HDF.out.2.1, ← hX, ← hY]
              unfold rioC
              rw [HIN.out, HIN.out, HIN.out, hpp, hqq, htt]
          have hwx1 : IntKind.i64.wrap (f.x0 - 1 + (i : Int) + 1) = f.x0 - 1 + (i : Int) + 1 := by rw [IntKind.wrap_i64]; omega
          have hwy1 : IntKind.i64.wrap (f.y0 - 1 + (j : Int) + 1) = f.y0 - 1 + (j : Int) + 1 := by rw [IntKind.wrap_i64]; omega
          clear hX hY hpp hqq htt
          cases p <;> cases q <;> cases t
          · go_wp2_with (fail)
            refine (HP.out _ (S7.out.1.below hR.out.2.2)).mono ?_
            rintro e X1 ⟨rfl, hb1⟩
            have B1 : Hid (Below V7.heap.size V7 X1) := hR.out.2.2.trans (hb1.mono hR.out.2.2.size)
            clear hb1
            go_wp2_with (fail)
            refine (HQ.out _ (S7.out.1.below B1.out)).mono ?_
            rintro e X2 ⟨rfl, hb2⟩
            have B2 : Hid (Below V7.heap.size V7 X2) := B1.out.trans (hb2.mono B1.out.size)
            clear hb2 B1
            go_wp2_with (fail)
            refine (HT.out _ (S7.out.1.below B2.out)).mono ?_
            rintro e X3 ⟨rfl, hb3⟩
            have B3 : Hid (Below V7.heap.size V7 X3) := B2.out.trans (hb3.mono B2.out.size)
            clear hb3 B2
            have HN : Hid (a = gA j + sumN (rA j) (i + 1) ∧ r = gR j + sumN (rR j) (i + 1)) := by
              have h1 := hR.out.1
              have h2 := hR.out.2.1
              have h3 := HV.out
              simp only [sumN]
              rw [h3.1, h3.2, ← Int.add_assoc, ← Int.add_assoc, ← h1, ← h2]
              constructor <;> simp <;> omega
            clear hR HP HQ HT HV
            go_wp2
            go_roundw
            case rel => exact ⟨i + 1, _, _, by omega, rfl, rfl, by go_num, by omega, by omega, by omega, by omega, HN.out.1, HN.out.2, B3.out⟩
            case measure => simp [intOf]; omega
          · go_wp2_with (fail)
            refine (HP.out _ (S7.out.1.below hR.out.2.2)).mono ?_
            rintro e X1 ⟨rfl, hb1⟩
            have B1 : Hid (Below V7.heap.size V7 X1) := hR.out.2.2.trans (hb1.mono hR.out.2.2.size)
            clear hb1
            go_wp2_with (fail)
            refine (HQ.out _ (S7.out.1.below B1.out)).mono ?_
            rintro e X2 ⟨rfl, hb2⟩
            have B2 : Hid (Below V7.heap.size V7 X2) := B1.out.trans (hb2.mono B1.out.size)
            clear hb2 B1
            go_wp2_with (fail)
            refine (HT.out _ (S7.out.1.below B2.out)).mono ?_
            rintro e X3 ⟨rfl, hb3⟩
            have B3 : Hid (Below V7.heap.size V7 X3) := B2.out.trans (hb3.mono B2.out.size)
            clear hb3 B2
            have HN : Hid (a = gA j + sumN (rA j) (i + 1) ∧ r + 1 = gR j + sumN (rR j) (i + 1)) := by
              have h1 := hR.out.1
              have h2 := hR.out.2.1
              have h3 := HV.out
              simp only [sumN]
              rw [h3.1, h3.2, ← Int.add_assoc, ← Int.add_assoc, ← h1, ← h2]
              constructor <;> simp <;> omega
            clear hR HP HQ HT HV
            go_wp2
            go_roundw
            case rel => exact ⟨i + 1, _, _, by omega, rfl, rfl, by go_num, by omega, by omega, by omega, by omega, HN.out.1, HN.out.2, B3.out⟩
            case measure => simp [intOf]; omega
          · go_wp2_with (fail)
            refine (HP.out _ (S7.out.1.below hR.out.2.2)).mono ?_
            rintro e X1 ⟨rfl, hb1⟩
            have B1 : Hid (Below V7.heap.size V7 X1) := hR.out.2.2.trans (hb1.mono hR.out.2.2.size)
            clear hb1
            go_wp2_with (fail)
            refine (HQ.out _ (S7.out.1.below B1.out)).mono ?_
            rintro e X2 ⟨rfl, hb2⟩
            have B2 : Hid (Below V7.heap.size V7 X2) := B1.out.trans (hb2.mono B1.out.size)
            clear hb2 B1
            go_wp2_with (fail)
            refine (HT.out _ (S7.out.1.below B2.out)).mono ?_
            rintro e X3 ⟨rfl, hb3⟩
            have B3 : Hid (Below V7.heap.size V7 X3) := B2.out.trans (hb3.mono B2.out.size)
            clear hb3 B2
            have HN : Hid (a = gA j + sumN (rA j) (i + 1) ∧ r + 1 = gR j + sumN (rR j) (i + 1)) := by
              have h1 := hR.out.1
              have h2 := hR.out.2.1
              have h3 := HV.out
              simp only [sumN]
              rw [h3.1, h3.2, ← Int.add_assoc, ← Int.add_assoc, ← h1, ← h2]
              constructor <;> simp <;> omega
            clear hR HP HQ HT HV
            go_wp2
            go_roundw
            case rel => exact ⟨i + 1, _, _, by omega, rfl, rfl, by go_num, by omega, by omega, by omega, by omega, HN.out.1, HN.out.2, B3.out⟩
            case measure => simp [intOf]; omega
          · go_wp2_with (fail)
            refine (HP.out _ (S7.out.1.below hR.out.2.2)).mono ?_
            rintro e X1 ⟨rfl, hb1⟩
            have B1 : Hid (Below V7.heap.size V7 X1) := hR.out.2.2.trans (hb1.mono hR.out.2.2.size)
            clear hb1
            go_wp2_with (fail)
            refine (HQ.out _ (S7.out.1.below B1.out)).mono ?_
            rintro e X2 ⟨rfl, hb2⟩
            have B2 : Hid (Below V7.heap.size V7 X2) := B1.out.trans (hb2.mono B1.out.size)
            clear hb2 B1
            go_wp2_with (fail)
            refine (HT.out _ (S7.out.1.below B2.out)).mono ?_
            rintro e X3 ⟨rfl, hb3⟩
            have B3 : Hid (Below V7.heap.size V7 X3) := B2.out.trans (hb3.mono B2.out.size)
            clear hb3 B2
            have HN : Hid (a = gA j + sumN (rA j) (i + 1) ∧ r + 1 + 1 = gR j + sumN (rR j) (i + 1)) := by
              have h1 := hR.out.1
              have h2 := hR.out.2.1
              have h3 := HV.out
              simp only [sumN]
              rw [h3.1, h3.2, ← Int.add_assoc, ← Int.add_assoc, ← h1, ← h2]
              constructor <;> simp <;> omega
            clear hR HP HQ HT HV
            go_wp2
            go_roundw
            case rel => exact ⟨i + 1, _, _, by omega, rfl, rfl, by go_num, by omega, by omega, by omega, by omega, HN.out.1, HN.out.2, B3.out⟩
            case measure => simp [intOf]; omega
          · go_wp2_with (fail)
            refine (HP.out _ (S7.out.1.below hR.out.2.2)).mono ?_
            rintro e X1 ⟨rfl, hb1⟩
            have B1 : Hid (Below V7.heap.size V7 X1) := hR.out.2.2.trans (hb1.mono hR.out.2.2.size)
            clear hb1
            go_wp2_with (fail)
            refine (HQ.out _ (S7.out.1.below B1.out)).mono ?_
            rintro e X2 ⟨rfl, hb2⟩
            have B2 : Hid (Below V7.heap.size V7 X2) := B1.out.trans (hb2.mono B1.out.size)
            clear hb2 B1
            go_wp2_with (fail)
            refine (HT.out _ (S7.out.1.below B2.out)).mono ?_
            rintro e X3 ⟨rfl, hb3⟩
            have B3 : Hid (Below V7.heap.size V7 X3) := B2.out.trans (hb3.mono B2.out.size)
            clear hb3 B2
            have HN : Hid (a + 1 = gA j + sumN (rA j) (i + 1) ∧ r + 1 + 1 = gR j + sumN (rR j) (i + 1)) := by
              have h1 := hR.out.1
              have h2 := hR.out.2.1
              have h3 := HV.out
              simp only [sumN]
              rw [h3.1, h3.2, ← Int.add_assoc, ← Int.add_assoc, ← h1, ← h2]
              constructor <;> simp <;> omega
            clear hR HP HQ HT HV
            go_wp2
            go_roundw
            case rel => exact ⟨i + 1, _, _, by omega, rfl, rfl, by go_num, by omega, by omega, by omega, by omega, HN.out.1, HN.out.2, B3.out⟩
            case measure => simp [intOf]; omega
          · go_wp2_with (fail)
            refine (HP.out _ (S7.out.1.below hR.out.2.2)).mono ?_
            rintro e X1 ⟨rfl, hb1⟩
            have B1 : Hid (Below V7.heap.size V7 X1) := hR.out.2.2.trans (hb1.mono hR.out.2.2.size)
            clear hb1
            go_wp2_with (fail)
            refine (HQ.out _ (S7.out.1.below B1.out)).mono ?_
            rintro e X2 ⟨rfl, hb2⟩
            have B2 : Hid (Below V7.heap.size V7 X2) := B1.out.trans (hb2.mono B1.out.size)
            clear hb2 B1
            go_wp2_with (fail)
            refine (HT.out _ (S7.out.1.below B2.out)).mono ?_
            rintro e X3 ⟨rfl, hb3⟩
            have B3 : Hid (Below V7.heap.size V7 X3) := B2.out.trans (hb3.mono B2.out.size)
            clear hb3 B2
            have HN : Hid (a + 1 = gA j + sumN (rA j) (i + 1) ∧ r + 1 = gR j + sumN (rR j) (i + 1)) := by
              have h1 := hR.out.1
              have h2 := hR.out.2.1
              have h3 := HV.out
              simp only [sumN]
              rw [h3.1, h3.2, ← Int.add_assoc, ← Int.add_assoc, ← h1, ← h2]
              constructor <;> simp <;> omega
            clear hR HP HQ HT HV
            go_wp2
            go_roundw
            case rel => exact ⟨i + 1, _, _, by omega, rfl, rfl, by go_num, by omega, by omega, by omega, by omega, HN.out.1, HN.out.2, B3.out⟩
            case measure => simp [intOf]; omega
          · go_wp2_with (fail)
            refine (HP.out _ (S7.out.1.below hR.out.2.2)).mono ?_
            rintro e X1 ⟨rfl, hb1⟩
            have B1 : Hid (Below V7.heap.size V7 X1) := hR.out.2.2.trans (hb1.mono hR.out.2.2.size)
            clear hb1
            go_wp2_with (fail)
            refine (HQ.out _ (S7.out.1.below B1.out)).mono ?_
            rintro e X2 ⟨rfl, hb2⟩
            have B2 : Hid (Below V7.heap.size V7 X2) := B1.out.trans (hb2.mono B1.out.size)
            clear hb2 B1
            go_wp2_with (fail)
            refine (HT.out _ (S7.out.1.below B2.out)).mono ?_
            rintro e X3 ⟨rfl, hb3⟩
            have B3 : Hid (Below V7.heap.size V7 X3) := B2.out.trans (hb3.mono B2.out.size)
            clear hb3 B2
            have HN : Hid (a + 1 = gA j + sumN (rA j) (i + 1) ∧ r + 1 = gR j + sumN (rR j) (i + 1)) := by
              have h1 := hR.out.1
              have h2 := hR.out.2.1
              have h3 := HV.out
              simp only [sumN]
              rw [h3.1, h3.2, ← Int.add_assoc, ← Int.add_assoc, ← h1, ← h2]
              constructor <;> simp <;> omega
            clear hR HP HQ HT HV
            go_wp2
            go_roundw
            case rel => exact ⟨i + 1, _, _, by omega, rfl, rfl, by go_num, by omega, by omega, by omega, by omega, HN.out.1, HN.out.2, B3.out⟩
            case measure => simp [intOf]; omega
          · go_wp2_with (fail)
            refine (HP.out _ (S7.out.1.below hR.out.2.2)).mono ?_
            rintro e X1 ⟨rfl, hb1⟩
            have B1 : Hid (Below V7.heap.size V7 X1) := hR.out.2.2.trans (hb1.mono hR.out.2.2.size)
            clear hb1
            go_wp2_with (fail)
            refine (HQ.out _ (S7.out.1.below B1.out)).mono ?_
            rintro e X2 ⟨rfl, hb2⟩
            have B2 : Hid (Below V7.heap.size V7 X2) := B1.out.trans (hb2.mono B1.out.size)
            clear hb2 B1
            go_wp2_with (fail)
            refine (HT.out _ (S7.out.1.below B2.out)).mono ?_
            rintro e X3 ⟨rfl, hb3⟩
            have B3 : Hid (Below V7.heap.size V7 X3) := B2.out.trans (hb3.mono B2.out.size)
            clear hb3 B2
            have HN : Hid (a + 1 = gA j + sumN (rA j) (i + 1) ∧ r = gR j + sumN (rR j) (i + 1)) := by
              have h1 := hR.out.1
              have h2 := hR.out.2.1
              have h3 := HV.out
              simp only [sumN]
              rw [h3.1, h3.2, ← Int.add_assoc, ← Int.add_assoc, ← h1, ← h2]
              constructor <;> simp <;> omega
            clear hR HP HQ HT HV
            go_wp2
            go_roundw
            case rel => exact ⟨i + 1, _, _, by omega, rfl, rfl, by go_num, by omega, by omega, by omega, by omega, HN.out.1, HN.out.2, B3.out⟩
            case measure => simp [intOf]; omega
        · have HN : Hid (a = gA (j + 1) ∧ r = gR (j + 1) ∧ Below V7.heap.size V7 wr) := by
            have hiW : i = W := by omega
            rw [HDF.out.2.2.2.2.1, HDF.out.2.2.2.2.2.1]
            rw [hiW] at hR
            exact hR.out
          have b2 : ¬ f.x0 - 1 + (i : Int) < f.x1 := by omega
          have hwy1 : IntKind.i64.wrap (f.y0 - 1 + (j : Int) + 1) = f.y0 - 1 + (j : Int) + 1 := by rw [IntKind.wrap_i64]; omega
          clear hR
          go_wp2
          go_roundw
          case rel => exact ⟨j + 1, a, r, by omega, rfl, rfl, by go_num, by omega, by omega, by omega, by omega, HN.out⟩
          case measure => simp [intOf]; omega
    · have HN : Hid (a = A ∧ r = R ∧ Below V7.heap.size V7 wr) := by
        have hjH : j = H := by omega
        rw [hjH] at hR
        exact ⟨hR.out.1.trans HDF.out.2.2.2.2.2.2.1.symm, hR.out.2.1.trans HDF.out.2.2.2.2.2.2.2.symm, hR.out.2.2⟩
      have b1 : ¬ f.y0 - 1 + (j : Int) < f.y1 := by omega
      obtain ⟨rfl, rfl, hbw⟩ := HN.out
      clear hR HN
      have S8 : Hid (RB wr (.slice sa s.length sc) s ∧ Below w.heap.size w wr ∧ VarI wr K4 (.int .i64 z) (.int .i64 r) 45) := ⟨S7.out.1.below hbw, S7.out.2.1.trans (hbw.mono S7.out.2.1.size), S7.out.2.2.1.next hbw⟩
      clear hbw S7
      have hf1 := fldI1
      go_wp2_with (fail)
      refine (HIA.out S8.out.1).mono ?_
      rintro e Z ⟨rfl, hb⟩
      obtain ⟨y0, y1, y2⟩ := (S8.out.2.2.next hb).cells
      have HB : Hid (Below w.heap.size w Z) := S8.out.2.1.trans (hb.mono S8.out.2.1.size)
      clear hb S8
      go_wp2
      go_returns
      exact ⟨rfl, HB.out⟩

theorem own : ownKnob Try.prog.godebug = none := by kernel_rfl
theorem laidOut : laidOutB Try.prog = true := by kernel_rfl

/-- A slice of bytes that came in: nil, or a row of cells. -/
def IsRow (k : IntKind) (w : World) (a : Option Addr) (len cap : Nat) (zs : List Int) : Prop :=
  (a = none ∧ len = 0 ∧ cap = 0 ∧ zs = []) ∨
  ∃ x, a = some x ∧ len ≤ cap ∧ cap ≤ maxLen ∧ zs.length = cap ∧ (∀ i, i < zs.length → w.cell? (x.add i) = some (.int k (zs.getD i 0))) ∧ ∀ n ∈ zs, (Lit.int k n).wf = true

theorem byte_bd (zs : List Int) (h : ∀ n ∈ zs, (Lit.int .u8 n).wf = true) (j : Nat) : 0 ≤ zs.getD j 0 ∧ zs.getD j 0 ≤ 255 := by
  rcases Nat.lt_or_ge j zs.length with hj | hj
  · have hm : zs.getD j 0 ∈ zs := by simp [List.getElem?_eq_getElem hj]
    have := h _ hm
    simpa [Lit.wf, IntKind.min, IntKind.max, IntKind.signed, IntKind.bits] using this
  · simp [List.getElem?_eq_none hj]

theorem walk (a0 : Option Addr) (len0 cap0 : Nat) (z0 : List Int) (w : World) (w0 : IsRow .u8 w a0 len0 cap0 z0) :
    Calls Try.prog 7 #[.slice a0 len0 cap0] w fun e w' => e = .returned (.bool true) ∧ Below w.heap.size w w' := by
  rcases w0 with ⟨rfl, rfl, rfl, rfl⟩ | ⟨x, rfl, hl, hm, hz, hc, hw⟩
  · exact law_ce none 0 0 (fun _ => 0) w (Nat.zero_le _) (fun _ => by omega) (fun h => by omega)
  · refine law_ce (some x) len0 cap0 (fun j => z0.getD j 0) w (Nat.le_trans hl hm) (byte_bd z0 hw) (fun hp => ?_)
    have hx0 := hc 0 (by omega)
    obtain ⟨g, off, sp⟩ := x
    have hsp : sp = none := by
      cases sp with
      | none => rfl
      | some t =>
        exfalso
        simp [World.cell?, Addr.add] at hx0
        split at hx0 <;> cases hx0
    subst hsp
    have hadd : ∀ j, (⟨g, off, none⟩ : Addr).add j = ⟨g, off + j, none⟩ := fun j => by unfold Addr.add; split <;> simp_all
    refine ⟨g, off, rfl, ?_, fun j hj => ?_⟩
    · rw [hadd] at hx0; exact lt_of_cell hx0
    · have := hc j (by omega)
      rw [hadd] at this
      exact this

set_option maxRecDepth 100000 in
theorem ce_lifted (os : Os) (started : os.Started) (H : Type) (enc : TypeId × Value → H) :
    ReturnsInHanded {} Try.checked os 7 .any (Rows.fnCellsSpec.pre6 enc Try.prog Try.f7 Rows.fnCellsRow.domain false) (Rows.fnCellsSpec.post enc Try.prog Try.f7 false true false false) := by
  refine returnsInHanded_of_change (C := Try.checked) own started (by kernel_rfl) Try.func7
    (ChangeSpec.witness6 (enc := enc) (C := Try.checked) false ⟨#[], #[.slice none 0 0], []⟩ 8 (by kernel_rfl) (by kernel_rfl) (by kernel_rfl) (by kernel_rfl)) ?_
  intro W base args ds gs before hval0 hW hcnd _
  have hval : ∀ (j : Nat) t v, Try.f7.params[j]? = some t → args[j]? = some v → Value.okWide Try.prog W .any base t v := hval0
  have hW' := hW
  obtain ⟨p, q, hA0, hV, rfl, hfz, hnd⟩ := hW
  have hA : DataW.TrodAll enc Try.prog W 0 (fun _ => true) true Try.f7.params.toList args.toList ds p := hA0
  rw [Try.params7] at hA hval
  obtain ⟨v0, vs0, d0, ds0, p0, q0, hargs, rfl, rfl, h0, r0⟩ := trodAll_cons hA
  obtain ⟨rfl, rfl, rfl⟩ := trodAll_nil r0
  obtain rfl : args = #[v0] := by cases args; simp_all
  obtain ⟨rfl, rfl⟩ := trodVars_none hV
  obtain ⟨a0, len0, cap0, rfl⟩ := okWide_slice Try.underlying41 (hval 0 41 v0 rfl rfl)
  have k0 := h0
  have lt0 : ∀ x ∈ p0, x.block < W.heap.size := by obtain ⟨m, hm⟩ := k0; exact DataW.trod_lt m _ _ _ hm
  obtain ⟨z0, w0⟩ : ∃ zs, IsRow .u8 W a0 len0 cap0 zs := by
    obtain ⟨fuel, hf⟩ := h0
    rcases open_ints Try.underlying41 Try.underlying5 (by kernel_rfl) hf with ⟨hcs, _⟩ | ⟨x, l, c, zs, hcs, _, hl, hm, hz, _, hcell, hwz⟩
    · simp [Value.cells] at hcs
      obtain ⟨rfl, rfl, rfl⟩ := hcs
      exact ⟨[], .inl ⟨rfl, rfl, rfl, rfl⟩⟩
    · simp [Value.cells] at hcs
      obtain ⟨rfl, rfl, rfl⟩ := hcs
      exact ⟨zs, .inr ⟨_, rfl, hl, hm, by simpa using hz, hcell, hwz⟩⟩
  clear hA0 hval0
  refine (walk a0 len0 cap0 z0 W w0).mono fun e W' ⟨he, bel⟩ => ?_
  subst he
  exact ⟨_, rfl, _, _, _, [], _, [], hW', trodAll_mk1 (shut_bool Try.underlying4 _), (trodAll_cons_mk (Below.trod laidOut (by kernel_rfl) (of_decide_eq_true (by kernel_rfl)) k0 bel lt0) trodAll_mk0), rfl, bel.frame _, fun h => by cases h⟩

theorem ce_over : Rows.fnCellsRow.holds Try.pinned (OpenSpec.ofChange Rows.fnCellsSpec) :=
  OpenClaim.holds_of_wide 7 Try.f7 rfl rfl rfl rfl rfl rfl rfl ⟨rfl, rfl, rfl, rfl, rfl⟩ rfl rfl rfl rfl rfl (by kernel_rfl) Try.func7 (by kernel_rfl)
    (of_decide_eq_true (by kernel_rfl)) (by unfold Func.isWrapper; first | (rw [if_pos (by decide +kernel)]; kernel_rfl) | (rw [if_neg (by decide +kernel)]; exact ⟨rfl, rfl⟩))
    (fun os started H enc _ => ce_lifted os started H enc)

theorem ce_proved : Rows.FnCellsSaid := ce_over
#print axioms ce_proved

end Go.Proofs.Ytokdpgabmifdjab
