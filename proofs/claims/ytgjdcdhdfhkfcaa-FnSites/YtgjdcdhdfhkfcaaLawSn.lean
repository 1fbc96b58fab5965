/- Proved here: 'the sites of a plan lie within it, each with the one across from it, and there is a next one in order', for every code of bytes, without a condition. -/
import Derived.Test.YtgjdcdhdfhkfcaaSiI
import Derived.Test.YtgjdcdhdfhkfcaaSiS
import Derived.Test.YtgjdcdhdfhkfcaaSiG
import Derived.Test.YtgjdcdhdfhkfcaaDrZ
import Derived.Test.YtgjdcdhdfhkfcaaRegG
import Derived.Test.YtgjdcdhdfhkfcaaLwC
import Derived.Test.YtgjdcdhdfhkfcaaRows
import Derived.Deep.RegionHeld3
import Derived.Deep.QuietTactic
import Derived.Deep.DeepCutAuto
import Derived.BigQuiet
import Derived.OpenShut
import Derived.ChangeOld
import Derived.Below
namespace Go.Proofs.Ytgjdcdhdfhkfcaa
open Go.ChangeShapes Go.WideShapes Go.ChangeAt Go.RowKit
set_option linter.unusedVariables false
set_option linter.unusedSimpArgs false

theorem st_at {w : World} {a : Option Addr} {n c : Nat} {s : List Sit} (h : RG 2 siC2 w (.slice a n c) s) {j : Nat} (hj : j < n) : ∃ (g o : Nat) (z : Sit), a = some ⟨g, o, none⟩ ∧ g < w.heap.size ∧ s[j]? = some z ∧ w.cell? ⟨g, o + j * 2, none⟩ = some (.int .i64 z.x) ∧ w.cell? ⟨g, o + j * 2 + 1, none⟩ = some (.int .i64 z.y) := by
  have hn : n = s.length := h.len
  obtain ⟨g, o, c2, he, hg, hx⟩ := h.pos (by omega)
  injection he with he1 he2 he3
  subst he1
  have hl : j < s.length := by omega
  refine ⟨g, o, s[j], rfl, hg, List.getElem?_eq_getElem hl, ?_, ?_⟩
  · have := hx j hl 0 (by omega)
    rw [Nat.add_zero] at this
    rw [this]; rfl
  · have := hx j hl 1 (by omega)
    rw [this]; rfl
set_option maxRecDepth 20000 in
set_option maxHeartbeats 25600000 in
theorem law_sn (ca : Option Addr) (n cap : Nat) (bs : Nat → Int) (w : World) (hnn : n ≤ maxLen) (hB : ∀ j, 0 ≤ bs j ∧ bs j ≤ 255)
    (hC : 0 < n → ∃ g off, ca = some ⟨g, off, none⟩ ∧ g < w.heap.size ∧ ∀ j, j < n → w.cell? ⟨g, off + j, none⟩ = some (.int .u8 (bs j))) :
    Calls Try.prog 3 #[.slice ca n cap] w fun e w' => e = .returned (.bool true) ∧ Below w.heap.size w w' := by
  by_cases hbig : (1048576 : Int) < n
  · go_enter Try.func3, Try.ntmps3
    go_wp2_with (fail)
    clear hB hC
    refine (big_any _ _ _ _ hnn).mono ?_
    rintro e w' ⟨rfl, hww⟩
    obtain rfl : w = w' := hww.symm
    go_wp2
    go_returns
    exact ⟨rfl, Below.refl _ _⟩
  have hbig' : decide ((1048576 : Int) < n) = false := by simpa using hbig
  have HD : Hid (n ≤ 140737488351232 ∧ (∀ j, 0 ≤ bs j ∧ bs j ≤ 255) ∧ (0 < n → ∃ g off, ca = some ⟨g, off, none⟩ ∧ ∀ j, j < n → w.cell? ⟨g, off + j, none⟩ = some (.int .u8 (bs j)))) := ⟨by omega, hB, fun h => by
    obtain ⟨g, off, h1, h2, h3⟩ := hC h
    exact ⟨g, off, h1, h3⟩⟩
  clear hB hC
  go_enter Try.func3, Try.ntmps3
  go_wp2_with (fail)
  refine (big_any _ _ _ _ hnn).mono ?_
  rintro e w' ⟨rfl, hww⟩
  obtain rfl : w = w' := hww.symm
  go_wp2_with (fail)
  refine (drawS_any ca n cap bs _ HD.out.1 HD.out.2.1 HD.out.2.2).mono ?_
  rintro e w1 ⟨X, Y, rfl, hb1⟩
  have HB1 : Hid (Below w.heap.size w w1) := hb1
  obtain ⟨C, hCC⟩ : ∃ C, C = siC X Y := ⟨_, rfl⟩
  obtain ⟨L, hLL⟩ : ∃ L, L = siL X Y := ⟨_, rfl⟩
  obtain ⟨m, hmm⟩ : ∃ m, m = L.length := ⟨_, rfl⟩
  have HIM : Hid (∀ W, Calls Try.prog 11 #[.int .i64 X, .int .i64 Y] W fun e w' => ∃ v, e = .returned (.agg #[.int .i64 C, v]) ∧ OG 31 2 siC2 w' W.heap.size v L ∧ Below W.heap.size W w') := fun W => by rw [hCC, hLL]; exact impl_sites X Y W
  have HSP : Hid (∀ W, Calls Try.prog 12 #[.int .i64 X, .int .i64 Y] W fun e w' => ∃ v, e = .returned (.agg #[.int .i64 C, v]) ∧ (∃ va vc, v = .slice va m vc) ∧ Below W.heap.size W w') := fun W => by
    rw [hCC]
    refine (spec_sites X Y W).mono ?_
    rintro e w' ⟨v, rfl, ho, hb⟩
    obtain ⟨va, vc, hv⟩ := (OG.rg siC2_len ho).form
    exact ⟨v, rfl, ⟨va, vc, by rw [hv, hmm, hLL]⟩, hb⟩
  have HL : Hid (C = siC X Y ∧ L = siL X Y ∧ m = L.length) := ⟨hCC, hLL, hmm⟩
  have hmb : m ≤ 200 := by rw [hmm, hLL]; exact siL_len X Y
  clear hb1 HD hbig hbig' hCC hLL hmm
  go_wp2_with (fail)
  refine (HIM.out _).mono ?_
  rintro e w2 ⟨v, rfl, ho, hb⟩
  obtain ⟨va, vc, hv⟩ := (OG.rg siC2_len ho).form
  rw [← HL.out.2.2] at hv
  subst hv
  obtain ⟨K, hK⟩ : ∃ K, K = w2.heap.size := ⟨_, rfl⟩
  have HB2 : Hid (Below w.heap.size w w2 ∧ RG 2 siC2 w2 (.slice va m vc) L) := ⟨HB1.out.trans (hb.mono HB1.out.size), OG.rg siC2_len ho⟩
  clear ho hb HB1 HIM
  go_upto_region 5 with fail
  obtain ⟨V, hV⟩ : ∃ V, V = w2.alloc (.cells #[.int .i64 C, .slice va m vc] 28) := ⟨_, rfl⟩
  rw [← hV, ← hK]
  have HV : Hid (Below w.heap.size w V ∧ V.heap[K]? = some (.cells #[.int .i64 C, .slice va m vc] 28) ∧ RG 2 siC2 V (.slice va m vc) L) := by
    have hal : Below w2.heap.size w2 V := by rw [hV]; exact (Below.refl _ _).alloc (Nat.le_refl _) _
    exact ⟨HB2.out.1.trans (hal.mono HB2.out.1.size), by rw [hV, hK]; exact heap_alloc_new _ _, HB2.out.2.below hal⟩
  clear hV hK HB2
  obtain ⟨q0, q1, f0, f1, ql⟩ := two_q HV.out.2.1
  have fld0 : ∀ (v : Value) (W : World), (Instr.field 28 (.agg #[.int .i64 C, v]) 0).run Try.prog W = .ok (.int .i64 C) W := fun _ _ => by kernel_rfl
  have fld1 : ∀ (a : Option Addr) (l c : Nat) (W : World), (Instr.field 28 (.agg #[.int .i64 C, .slice a l c]) 1).run Try.prog W = .ok (.slice a l c) W := fun _ _ _ _ => by kernel_rfl
  refine wp_region_float (by kernel_rfl) (fun hS => ?_)
  refine fl_take (i := 0) (d := 20) (v := .pointer (some ⟨K, 0, none⟩)) rfl rfl rfl (by kernel_rfl) (by kernel_rfl) (by kernel_rfl) hS ?_ ?_
  · intro w' hk; go_simp
  simp only [Act.put, List.setIfInBounds_toArray, List.set_cons_zero, List.set_cons_succ]
  refine fl_take (i := 1) (d := 21) (v := .int .i64 C) rfl rfl rfl (by kernel_rfl) (by kernel_rfl) (by kernel_rfl) hS ?_ ?_
  · intro w' hk; go_simp
  simp only [Act.put, List.setIfInBounds_toArray, List.set_cons_zero, List.set_cons_succ]
  refine fl_take (i := 2) (d := 22) (v := .int .i64 X) rfl rfl rfl (by kernel_rfl) (by kernel_rfl) (by kernel_rfl) hS ?_ ?_
  · intro w' hk; go_simp
  simp only [Act.put, List.setIfInBounds_toArray, List.set_cons_zero, List.set_cons_succ]
  refine fl_take (i := 3) (d := 23) (v := .int .i64 Y) rfl rfl rfl (by kernel_rfl) (by kernel_rfl) (by kernel_rfl) hS ?_ ?_
  · intro w' hk; go_simp
  simp only [Act.put, List.setIfInBounds_toArray, List.set_cons_zero, List.set_cons_succ]
  refine wpAnyH_all (rs := [4]) (by kernel_rfl) (by simp) ?_
  intro iz hi
  obtain rfl : iz = 4 := by simpa using hi
  clear hi
  refine op_call (d := 24) rfl rfl rfl (by go_simp) ((HSP.out _).mono ?_)
  rintro e y1 ⟨v1, rfl, hf1, hb1⟩
  have hK1 : KS V y1 := hS.call hb1
  refine ⟨_, rfl, hK1, ?_⟩
  simp only [Act.put, List.setIfInBounds_toArray, List.set_cons_zero, List.set_cons_succ]
  clear hS
  have hS := hK1
  refine fl_take (i := 5) (d := 25) (v := .int .i64 C) rfl rfl rfl (by kernel_rfl) (by kernel_rfl) (by kernel_rfl) hS ?_ ?_
  · intro w' hk; go_simp
  simp only [Act.put, List.setIfInBounds_toArray, List.set_cons_zero, List.set_cons_succ]
  refine fl_take (i := 6) (d := 26) (v := .bool false) rfl rfl rfl (by kernel_rfl) (by kernel_rfl) (by kernel_rfl) hS ?_ ?_
  · intro w' hk; go_simp
  simp only [Act.put, List.setIfInBounds_toArray, List.set_cons_zero, List.set_cons_succ]
  refine fl_take (i := 7) (d := 27) (v := .bool false) rfl rfl rfl (by kernel_rfl) (by kernel_rfl) (by kernel_rfl) hS ?_ ?_
  · intro w' hk; go_simp
  simp only [Act.put, List.setIfInBounds_toArray, List.set_cons_zero, List.set_cons_succ]
  refine fl_takeW (i := 8) (d := 28) (v := .pointer (some ⟨K, 1, none⟩)) rfl rfl rfl (by kernel_rfl) (by kernel_rfl) (by kernel_rfl) hS ?_ ?_
  · intro w' hk; go_simp
  simp only [Act.put, List.setIfInBounds_toArray, List.set_cons_zero, List.set_cons_succ]
  refine fl_takeW (i := 9) (d := 29) (v := .slice va m vc) rfl rfl rfl (by kernel_rfl) (by kernel_rfl) (by kernel_rfl) hS ?_ ?_
  · intro w' hk; go_simp
  simp only [Act.put, List.setIfInBounds_toArray, List.set_cons_zero, List.set_cons_succ]
  refine fl_takeW (i := 10) (d := 30) (v := .int .i64 m) rfl rfl rfl (by kernel_rfl) (by kernel_rfl) (by kernel_rfl) hS ?_ ?_
  · intro w' hk; go_simp
  simp only [Act.put, List.setIfInBounds_toArray, List.set_cons_zero, List.set_cons_succ]
  refine fl_takeW (i := 11) (d := 31) (v := .int .i64 X) rfl rfl rfl (by kernel_rfl) (by kernel_rfl) (by kernel_rfl) hS ?_ ?_
  · intro w' hk; go_simp
  simp only [Act.put, List.setIfInBounds_toArray, List.set_cons_zero, List.set_cons_succ]
  refine fl_takeW (i := 12) (d := 32) (v := .int .i64 Y) rfl rfl rfl (by kernel_rfl) (by kernel_rfl) (by kernel_rfl) hS ?_ ?_
  · intro w' hk; go_simp
  simp only [Act.put, List.setIfInBounds_toArray, List.set_cons_zero, List.set_cons_succ]
  refine wpAnyH_all (rs := [13]) (by kernel_rfl) (by simp) ?_
  intro iz hi
  obtain rfl : iz = 13 := by simpa using hi
  clear hi
  refine op_callW (d := 33) rfl rfl rfl (by go_simp) ((HSP.out _).mono ?_)
  rintro e y2 ⟨v2, rfl, ⟨vb, vd, rfl⟩, hb2⟩
  have hK2 : KS V y2 := hS.call hb2
  refine ⟨_, rfl, hK2, ?_⟩
  simp only [Act.put, List.setIfInBounds_toArray, List.set_cons_zero, List.set_cons_succ]
  clear hS
  have hS := hK2
  refine fl_takeW (i := 14) (d := 34) (v := .slice vb m vd) rfl rfl rfl (by kernel_rfl) (by kernel_rfl) (by kernel_rfl) hS ?_ ?_
  · intro w' hk; go_simp
  simp only [Act.put, List.setIfInBounds_toArray, List.set_cons_zero, List.set_cons_succ]
  refine fl_takeW (i := 15) (d := 35) (v := .int .i64 m) rfl rfl rfl (by kernel_rfl) (by kernel_rfl) (by kernel_rfl) hS ?_ ?_
  · intro w' hk; go_simp
  simp only [Act.put, List.setIfInBounds_toArray, List.set_cons_zero, List.set_cons_succ]
  refine fl_takeW (i := 16) (d := 36) (v := .bool false) rfl rfl rfl (by kernel_rfl) (by kernel_rfl) (by kernel_rfl) hS ?_ ?_
  · intro w' hk; go_simp
  simp only [Act.put, List.setIfInBounds_toArray, List.set_cons_zero, List.set_cons_succ]
  refine fl_take (i := 17) (d := 37) (v := .bool false) rfl rfl rfl (by kernel_rfl) (by kernel_rfl) (by kernel_rfl) hS ?_ ?_
  · intro w' hk; go_simp
  simp only [Act.put, List.setIfInBounds_toArray, List.set_cons_zero, List.set_cons_succ]
  refine wpAnyH_done (by kernel_rfl) (NoPanic.normal ?_) _
  have HW : Hid (Below V.heap.size V y2) := hS.2
  clear hS hK1 hK2 hb1 hb2 hf1 q0 q1 f0 f1 ql fld0 fld1
  obtain ⟨q0, q1, f0, f1, ql⟩ := two_q ((HW.out.block _ (ltOf HV.out.2.1)).trans HV.out.2.1)
  go_wp2
  clear q0 q1 f0 f1 ql HSP
  go_loopw [7] (fun i wr => ∃ k : Nat, k ≤ m ∧ i = .int .i64 k ∧ Hid (Below V.heap.size V wr)) (fun i _ => m - (intOf i).toNat)
  case atStart => exact ⟨0, Nat.zero_le _, rfl, HW.out⟩
  case round =>
    clear HW
    obtain ⟨k, hk, rfl, hR⟩ := hrel
    obtain ⟨q0, q1, f0, f1, ql⟩ := two_q ((hR.out.block _ (ltOf HV.out.2.1)).trans HV.out.2.1)
    by_cases hlt : k < m
    · have hC0 : siC X Y = 0 := by
        by_cases h9 : siC X Y = 0
        · exact h9
        · have h8 := HL.out.2.2
          rw [HL.out.2.1, siL, if_neg h9] at h8
          simp at h8; omega
      have hdom : (0 ≤ X ∧ X ≤ 50) ∧ (1 ≤ Y ∧ Y ≤ 50) := by
        by_cases h9 : (0 ≤ X ∧ X ≤ 50) ∧ (1 ≤ Y ∧ Y ≤ 50)
        · exact h9
        · unfold siC at hC0; rw [if_neg h9] at hC0; omega
      have hLG : L = siG X Y := by rw [HL.out.2.1, siL, if_pos hC0]
      have hlen : m = (siG X Y).length := by rw [HL.out.2.2, hLG]
      obtain ⟨Q, hQ⟩ : ∃ Q, Q = m - 1 - k := ⟨_, rfl⟩
      obtain ⟨g, o, za, ha, hg, hza, ca0, ca1⟩ := st_at (HV.out.2.2.below hR.out) hlt
      obtain ⟨g', o', zb, ha', hg', hzb, cb0, cb1⟩ := st_at (HV.out.2.2.below hR.out) (show Q < m by omega)
      rw [ha] at ha'
      injection ha' with ha'
      injection ha' with ha1 ha2
      subst ha1 ha2 ha
      rw [hLG] at hza hzb
      have hok := si_ok hdom.1 hdom.2 (show k < (siG X Y).length by omega) hza (by rw [← hlen, ← hQ]; exact hzb)
      obtain ⟨ax, hax⟩ : ∃ ax, ax = za.x := ⟨_, rfl⟩
      obtain ⟨ay, hay⟩ : ∃ ay, ay = za.y := ⟨_, rfl⟩
      have hbx : zb.x = -ax := by rw [hax, hok.ox]; omega
      have hby : zb.y = -ay := by rw [hay, hok.oy]; omega
      rw [← hax] at ca0
      rw [← hay] at ca1
      rw [hbx] at cb0
      rw [hby] at cb1
      have hmx : ax.tmod Y = 0 := by rw [hax]; exact hok.mx
      have hmy : ay.tmod Y = 0 := by rw [hay]; exact hok.my
      have hxb : -100 ≤ ax ∧ ax ≤ 100 := by rw [hax]; exact hok.xb
      have hyb : -100 ≤ ay ∧ ay ≤ 100 := by rw [hay]; exact hok.yb
      have hins : ax * ax + ay * ay ≤ X * X := by rw [hax, hay]; exact hok.ins
      have sqx := sq_b hxb.1 hxb.2
      have sqy := sq_b hyb.1 hyb.2
      have sqr := sq_b (x := X) (by omega) (by omega)
      obtain ⟨AA, hAA⟩ : ∃ AA, AA = ax * ax := ⟨_, rfl⟩
      obtain ⟨BB, hBB⟩ : ∃ BB, BB = ay * ay := ⟨_, rfl⟩
      obtain ⟨RR, hRR⟩ : ∃ RR, RR = X * X := ⟨_, rfl⟩
      rw [← hAA] at sqx hins
      rw [← hBB] at sqy hins
      rw [← hRR] at sqr hins
      have eaa : IntKind.i64.wrap (ax * ax) = AA := by rw [← hAA, IntKind.wrap_i64]; omega
      have ebb : IntKind.i64.wrap (ay * ay) = BB := by rw [← hBB, IntKind.wrap_i64]; omega
      have err : IntKind.i64.wrap (X * X) = RR := by rw [← hRR, IntKind.wrap_i64]; omega
      have eab : IntKind.i64.wrap (AA + BB) = AA + BB := by rw [IntKind.wrap_i64]; omega
      have hng : ¬ RR < AA + BB := by omega
      have n1 : IntKind.i64.wrap ax = ax := by rw [IntKind.wrap_i64]; omega
      have n2 : IntKind.i64.wrap ay = ay := by rw [IntKind.wrap_i64]; omega
      have n3 : IntKind.i64.wrap (0 - -ax) = ax := by rw [IntKind.wrap_i64]; omega
      have n4 : IntKind.i64.wrap (0 - -ay) = ay := by rw [IntKind.wrap_i64]; omega
      have n5 : IntKind.i64.wrap 0 = 0 := by decide
      have hY0 : ¬ Y = 0 := by omega
      have eq1 : IntKind.i64.wrap ((m : Int) - 1) = (m : Int) - 1 := by rw [IntKind.wrap_i64]; omega
      have eq2 : IntKind.i64.wrap ((m : Int) - 1 - (k : Int)) = (Q : Int) := by rw [IntKind.wrap_i64]; omega
      have b0 : (0 : Int) ≤ (k : Int) := by omega
      have b1 : (k : Int) < (m : Int) := by omega
      have b2 : (0 : Int) ≤ (Q : Int) := by omega
      have b3 : (Q : Int) < (m : Int) := by omega
      have ek : IntKind.i64.wrap ((k : Int) + 1) = (k : Int) + 1 := by rw [IntKind.wrap_i64]; omega
      have HPV : Hid (0 < k → ∃ px py, wr.cell? ⟨g, o + (k - 1) * 2, none⟩ = some (.int .i64 px) ∧ wr.cell? ⟨g, o + (k - 1) * 2 + 1, none⟩ = some (.int .i64 py) ∧ (py < ay ∨ (py = ay ∧ px < ax))) := fun h0 => by
        obtain ⟨g', o', zp, ha', hg', hzp, cp0, cp1⟩ := st_at (HV.out.2.2.below hR.out) (show k - 1 < m by omega)
        injection ha' with ha'
        injection ha' with ha1 ha2
        subst ha1 ha2
        rw [hLG] at hzp
        have h9 := rise_at hdom.2.1 hzp (by rw [show k - 1 + 1 = k by omega]; exact hza)
        refine ⟨zp.x, zp.y, cp0, cp1, ?_⟩
        rw [hax, hay]; exact h9
      have HBR : Hid (Below V.heap.size V wr) := hR.out
      clear hza hzb hok hax hay hbx hby hAA hBB hRR hins sqx sqy sqr hxb hyb hLG hlen hC0 hdom hR hQ hg'
      by_cases k0 : k = 0
      · have k0' : ¬ (0 : Int) < (k : Int) := by omega
        clear k0
        go_wp2
        have kd : decide ((0 : Int) < (k : Int)) = false := by simpa using k0'
        have kdn : decide (0 < k) = false := by simp; omega
        go_quiet (fail)
        go_wp2
        go_roundw
        case rel => exact ⟨k + 1, by omega, by go_num, by have hb := HBR.out; have hbs := hb.size; unfold Hid; (repeat' (first | (with_reducible exact Below.refl _ _) | (with_reducible assumption) | (with_reducible refine Below.setCell ?_ ?_ _) | (with_reducible refine Below.alloc ?_ ?_ _) | (with_reducible refine below_drewN ?_ _) | (with_reducible refine Below.drew ?_) | (with_reducible exact Nat.le_refl _) | omega | (simp; done) | (simp; omega)))⟩
        case measure => simp [intOf]; omega
      · have k0' : (0 : Int) < (k : Int) := by omega
        obtain ⟨px, py, cp0, cp1, hlp⟩ := HPV.out (by omega)
        have ep : IntKind.i64.wrap ((k : Int) - 1) = ((k - 1 : Nat) : Int) := by rw [IntKind.wrap_i64]; omega
        obtain ⟨K1, hK1⟩ : ∃ K1, K1 = k - 1 := ⟨_, rfl⟩
        rw [← hK1] at cp0 cp1 ep
        have b4 : (0 : Int) ≤ (K1 : Int) := by omega
        have b5 : (K1 : Int) < (m : Int) := by omega
        clear hK1 k0
        rcases hlp with hlp | ⟨hlp, hlq⟩
        · have p1 : ¬ ay < py := by omega
          have p2 : ¬ ay = py := by omega
          have p3 : (ay == py) = false := by simpa using p2
          clear hlp
          go_wp2
          have kd : decide ((0 : Int) < (k : Int)) = true := by simpa using k0'
          have kdn : decide (0 < k) = true := by simp; omega
          have kdm : 0 < k := by omega
          have kd2 : decide (ay < py) = false := by simpa using p1
          go_quiet (fail)
          go_wp2
          go_roundw
          case rel => exact ⟨k + 1, by omega, by go_num, by have hb := HBR.out; have hbs := hb.size; unfold Hid; (repeat' (first | (with_reducible exact Below.refl _ _) | (with_reducible assumption) | (with_reducible refine Below.setCell ?_ ?_ _) | (with_reducible refine Below.alloc ?_ ?_ _) | (with_reducible refine below_drewN ?_ _) | (with_reducible refine Below.drew ?_) | (with_reducible exact Nat.le_refl _) | omega | (simp; done) | (simp; omega)))⟩
          case measure => simp [intOf]; omega
        · subst hlp
          have p1 : ¬ ax ≤ px := by omega
          clear hlq
          go_wp2
          have kd : decide ((0 : Int) < (k : Int)) = true := by simpa using k0'
          have kdn : decide (0 < k) = true := by simp; omega
          have kdm : 0 < k := by omega
          have kd2 : decide (py < py) = false := by simp
          have kd3 : decide (ax ≤ px) = false := by simpa using p1
          go_quiet (fail)
          go_wp2
          go_roundw
          case rel => exact ⟨k + 1, by omega, by go_num, by have hb := HBR.out; have hbs := hb.size; unfold Hid; (repeat' (first | (with_reducible exact Below.refl _ _) | (with_reducible assumption) | (with_reducible refine Below.setCell ?_ ?_ _) | (with_reducible refine Below.alloc ?_ ?_ _) | (with_reducible refine below_drewN ?_ _) | (with_reducible refine Below.drew ?_) | (with_reducible exact Nat.le_refl _) | omega | (simp; done) | (simp; omega)))⟩
          case measure => simp [intOf]; omega
    · have HBR : Hid (Below w.heap.size w wr) := HV.out.1.trans (hR.out.mono HV.out.1.size)
      have hCm : ¬ C = 0 ∨ (C = 0 ∧ (0 : Int) < (m : Int)) := by
        by_cases h9 : C = 0
        · right
          refine ⟨h9, ?_⟩
          have h8 := HL.out.2.2
          rw [HL.out.2.1, siL, if_pos (by rw [← HL.out.1]; exact h9)] at h8
          have := siG_some X Y
          omega
        · exact .inl h9
      clear hR
      rcases hCm with h9 | ⟨rfl, h9⟩
      · have h9' : (C != 0) = true := by simpa using h9
        go_wp2
        go_returns
        exact ⟨rfl, HBR.out⟩
      · have h9n : decide (0 < m) = true := by simp; omega
        have h9m : 0 < m := by omega
        go_wp2
        go_returns
        exact ⟨by first | rfl | simp [h9m], HBR.out⟩

theorem own : ownKnob Try.prog.godebug = none := by kernel_rfl
theorem laidOut : laidOutB Try.prog = true := by kernel_rfl

/-- A slice of bytes that came in: nil, or a row of cells. -/
def IsRow (k : IntKind) (w : World) (a : Option Addr) (len cap : Nat) (zs : List Int) : Prop :=
  (a = none ∧ len = 0 ∧ cap = 0 ∧ zs = []) ∨
  ∃ x, a = some x ∧ len ≤ cap ∧ cap ≤ maxLen ∧ zs.length = cap ∧ (∀ i, i < zs.length → w.cell? (x.add i) = some (.int k (zs.getD i 0))) ∧ ∀ n ∈ zs, (Lit.int k n).wf = true

theorem byte_bd (zs : List Int) (h : ∀ n ∈ zs, (Lit.int .u8 n).wf = true) (j : Nat) : 0 ≤ zs.getD j 0 ∧ zs.getD j 0 ≤ 255 := by
  rcases Nat.lt_or_ge j zs.length with hj | hj
  · have hm : zs.getD j 0 ∈ zs := by simp [List.getElem?_eq_getElem hj]
    have := h _ hm
    simpa [Lit.wf, IntKind.min, IntKind.max, IntKind.signed, IntKind.bits] using this
  · simp [List.getElem?_eq_none hj]

theorem walk (a0 : Option Addr) (len0 cap0 : Nat) (z0 : List Int) (w : World) (w0 : IsRow .u8 w a0 len0 cap0 z0) :
    Calls Try.prog 3 #[.slice a0 len0 cap0] w fun e w' => e = .returned (.bool true) ∧ Below w.heap.size w w' := by
  rcases w0 with ⟨rfl, rfl, rfl, rfl⟩ | ⟨x, rfl, hl, hm, hz, hc, hw⟩
  · exact law_sn none 0 0 (fun _ => 0) w (Nat.zero_le _) (fun _ => by omega) (fun h => by omega)
  · refine law_sn (some x) len0 cap0 (fun j => z0.getD j 0) w (Nat.le_trans hl hm) (byte_bd z0 hw) (fun hp => ?_)
    have hx0 := hc 0 (by omega)
    obtain ⟨g, off, sp⟩ := x
    have hsp : sp = none := by
      cases sp with
      | none => rfl
      | some t =>
        exfalso
        simp [World.cell?, Addr.add] at hx0
        split at hx0 <;> cases hx0
    subst hsp
    have hadd : ∀ j, (⟨g, off, none⟩ : Addr).add j = ⟨g, off + j, none⟩ := fun j => by unfold Addr.add; split <;> simp_all
    refine ⟨g, off, rfl, ?_, fun j hj => ?_⟩
    · rw [hadd] at hx0; exact lt_of_cell hx0
    · have := hc j (by omega)
      rw [hadd] at this
      exact this

set_option maxRecDepth 100000 in
theorem sn14_lifted (os : Os) (started : os.Started) (H : Type) (enc : TypeId × Value → H) :
    ReturnsInHanded {} Try.checked os 3 .any (Rows.fnSitesSpec.pre6 enc Try.prog Try.f3 Rows.fnSitesRow.domain false) (Rows.fnSitesSpec.post enc Try.prog Try.f3 false true false false) := by
  refine returnsInHanded_of_change (C := Try.checked) own started (by kernel_rfl) Try.func3
    (ChangeSpec.witness6 (enc := enc) (C := Try.checked) false ⟨#[], #[.slice none 0 0], []⟩ 8 (by kernel_rfl) (by kernel_rfl) (by kernel_rfl) (by kernel_rfl)) ?_
  intro W base args ds gs before hval0 hW hcnd _
  have hval : ∀ (j : Nat) t v, Try.f3.params[j]? = some t → args[j]? = some v → Value.okWide Try.prog W .any base t v := hval0
  have hW' := hW
  obtain ⟨p, q, hA0, hV, rfl, hfz, hnd⟩ := hW
  have hA : DataW.TrodAll enc Try.prog W 0 (fun _ => true) true Try.f3.params.toList args.toList ds p := hA0
  rw [Try.params3] at hA hval
  obtain ⟨v0, vs0, d0, ds0, p0, q0, hargs, rfl, rfl, h0, r0⟩ := trodAll_cons hA
  obtain ⟨rfl, rfl, rfl⟩ := trodAll_nil r0
  obtain rfl : args = #[v0] := by cases args; simp_all
  obtain ⟨rfl, rfl⟩ := trodVars_none hV
  obtain ⟨a0, len0, cap0, rfl⟩ := okWide_slice Try.underlying22 (hval 0 22 v0 rfl rfl)
  have k0 := h0
  have lt0 : ∀ x ∈ p0, x.block < W.heap.size := by obtain ⟨m, hm⟩ := k0; exact DataW.trod_lt m _ _ _ hm
  obtain ⟨z0, w0⟩ : ∃ zs, IsRow .u8 W a0 len0 cap0 zs := by
    obtain ⟨fuel, hf⟩ := h0
    rcases open_ints Try.underlying22 Try.underlying5 (by kernel_rfl) hf with ⟨hcs, _⟩ | ⟨x, l, c, zs, hcs, _, hl, hm, hz, _, hcell, hwz⟩
    · simp [Value.cells] at hcs
      obtain ⟨rfl, rfl, rfl⟩ := hcs
      exact ⟨[], .inl ⟨rfl, rfl, rfl, rfl⟩⟩
    · simp [Value.cells] at hcs
      obtain ⟨rfl, rfl, rfl⟩ := hcs
      exact ⟨zs, .inr ⟨_, rfl, hl, hm, by simpa using hz, hcell, hwz⟩⟩
  clear hA0 hval0
  refine (walk a0 len0 cap0 z0 W w0).mono fun e W' ⟨he, bel⟩ => ?_
  subst he
  exact ⟨_, rfl, _, _, _, [], _, [], hW', trodAll_mk1 (shut_bool Try.underlying4 _), (trodAll_cons_mk (Below.trod laidOut (by kernel_rfl) (of_decide_eq_true (by kernel_rfl)) k0 bel lt0) trodAll_mk0), rfl, bel.frame _, fun h => by cases h⟩

theorem sn14_over : Rows.fnSitesRow.holds Try.pinned (OpenSpec.ofChange Rows.fnSitesSpec) :=
  OpenClaim.holds_of_wide 3 Try.f3 rfl rfl rfl rfl rfl rfl rfl ⟨rfl, rfl, rfl, rfl, rfl⟩ rfl rfl rfl rfl rfl (by kernel_rfl) Try.func3 (by kernel_rfl)
    (of_decide_eq_true (by kernel_rfl)) (by unfold Func.isWrapper; first | (rw [if_pos (by decide +kernel)]; kernel_rfl) | (rw [if_neg (by decide +kernel)]; exact ⟨rfl, rfl⟩))
    (fun os started H enc _ => sn14_lifted os started H enc)

theorem sn14_proved : Rows.FnSitesSaid := sn14_over
#print axioms sn14_proved

end Go.Proofs.Ytgjdcdhdfhkfcaa
