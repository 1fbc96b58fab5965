/- Proved here: 'no other shift fits better than the one that is told', for every code of bytes, without a condition. -/
import Derived.Test.YtdidmjgilnhncaaSfI
import Derived.Test.YtdidmjgilnhncaaSfS
import Derived.Test.YtdidmjgilnhncaaSfB
import Derived.Test.YtdidmjgilnhncaaDrT
import Derived.Test.YtdidmjgilnhncaaLwC
import Derived.Test.YtdidmjgilnhncaaRows
import Derived.Deep.RegionHeld3
import Derived.Deep.QuietTactic
import Derived.BigQuiet
import Derived.OpenShut
import Derived.ChangeOld
import Derived.Below
namespace Go.Proofs.Ytdidmjgilnhncaa
open Go.ChangeShapes Go.WideShapes Go.ChangeAt Go.RowKit
set_option linter.unusedVariables false
set_option linter.unusedSimpArgs false

theorem below_allocS (w : World) (o : Obj) : Below w.heap.size w (w.alloc o) := (Below.refl _ _).alloc (Nat.le_refl _) _
/-- Where the law stands: the answer, the two lists. -/
structure SI (w V : World) (K : Nat) (C vv : Int) (v1 v2 : Value) (s1 s2 : List Int) : Prop where
  ans : V.heap[K]? = some (.cells #[.int .i64 C, .int .i64 vv] 28)
  m1 : IS V w.heap.size v1 s1
  m2 : IS V w.heap.size v2 s2
  bl : Below w.heap.size w V
theorem SI.next {w V V' : World} {K : Nat} {C vv : Int} {v1 v2 : Value} {s1 s2 : List Int} (h : SI w V K C vv v1 v2 s1 s2) (hb : Below V.heap.size V V') : SI w V' K C vv v1 v2 s1 s2 :=
  ⟨(hb.block K (ltOf h.ans)).trans h.ans, h.m1.bel hb, h.m2.bel hb, h.bl.trans (hb.mono h.bl.size)⟩

set_option maxRecDepth 10000 in
set_option maxHeartbeats 6400000 in
theorem law_si (ca : Option Addr) (n cap : Nat) (bs : Nat → Int) (w : World) (hnn : n ≤ maxLen) (hB : ∀ j, 0 ≤ bs j ∧ bs j ≤ 255)
    (hC : 0 < n → ∃ g off, ca = some ⟨g, off, none⟩ ∧ g < w.heap.size ∧ ∀ j, j < n → w.cell? ⟨g, off + j, none⟩ = some (.int .u8 (bs j))) :
    Calls Try.prog 3 #[.slice ca n cap] w fun e w' => e = .returned (.bool true) ∧ Below w.heap.size w w' := by
  by_cases hbig : (1048576 : Int) < n
  · go_enter Try.func3, Try.ntmps3
    go_wp2_with (fail)
    clear hB hC
    refine (big_any _ _ _ _ hnn).mono ?_
    rintro e w' ⟨rfl, hww⟩
    obtain rfl : w = w' := hww.symm
    go_wp2
    go_returns
    exact ⟨rfl, Below.refl _ _⟩
  have hbig' : decide ((1048576 : Int) < n) = false := by simpa using hbig
  have H : Hid (n ≤ 140737488351232 ∧ (∀ j, 0 ≤ bs j ∧ bs j ≤ 255) ∧ (0 < n → ∃ g off, ca = some ⟨g, off, none⟩ ∧ g < w.heap.size ∧ ∀ j, j < n → w.cell? ⟨g, off + j, none⟩ = some (.int .u8 (bs j)))) := ⟨by omega, hB, hC⟩
  clear hB hC
  go_enter Try.func3, Try.ntmps3
  go_wp2_with (fail)
  refine (big_any _ _ _ _ hnn).mono ?_
  rintro e w' ⟨rfl, hww⟩
  obtain rfl : w = w' := hww.symm
  go_wp2_with (fail)
  refine (drawSf_any ca n cap bs _ H.out.1 H.out.2.1 H.out.2.2).mono ?_
  rintro e w1 ⟨v1, v2, s1, s2, most, rfl, i1, i2, l1, l2, hb1⟩
  obtain ⟨a1, c1, rfl⟩ := i1.form
  obtain ⟨a2, c2, rfl⟩ := i2.form
  have L1 : Hid (IS w1 w.heap.size (.slice a1 s1.length c1) s1 ∧ IS w1 w.heap.size (.slice a2 s2.length c2) s2 ∧ Below w.heap.size w w1) := ⟨i1, i2, hb1⟩
  clear i1 i2 hb1 H hbig hbig'
  go_wp2_with (fail)
  refine (impl_shV most (by omega) (by omega) L1.out.1.rg L1.out.2.1.rg).mono ?_
  rintro e w2 ⟨rfl, hb2⟩
  obtain ⟨C, hCe⟩ : ∃ C, C = shC s1 s2 most := ⟨_, rfl⟩
  obtain ⟨vv, hve⟩ : ∃ v, v = shV s1 s2 most := ⟨_, rfl⟩
  rw [← hCe, ← hve]
  have HE : Hid (C = shC s1 s2 most ∧ vv = shV s1 s2 most) := ⟨hCe, hve⟩
  obtain ⟨V, hV⟩ : ∃ V, V = w2.alloc (.cells #[.int .i64 C, .int .i64 vv] 28) := ⟨_, rfl⟩
  obtain ⟨K, hK⟩ : ∃ K, K = w2.heap.size := ⟨_, rfl⟩
  have HV : Hid (SI w V K C vv (.slice a1 s1.length c1) (.slice a2 s2.length c2) s1 s2) := by
    rw [hV, hK]
    have hal := below_allocS w2 (.cells #[.int .i64 C, .int .i64 vv] 28)
    exact ⟨heap_alloc_new w2 _, (L1.out.1.bel hb2).bel hal, (L1.out.2.1.bel hb2).bel hal, (L1.out.2.2.trans (hb2.mono L1.out.2.2.size)).trans (hal.mono (Nat.le_trans L1.out.2.2.size hb2.size))⟩
  clear hCe hve hb2 L1
  go_upto_region 5 with fail
  rw [← hV, ← hK]
  clear hV hK
  have p0 := cellOf HV.out.ans 0 rfl
  have p1 := cellOf HV.out.ans 1 rfl
  have pl := ltOf HV.out.ans
  have HSP : Hid (∀ W, Below V.heap.size V W → Calls Try.prog 12 #[.slice a1 s1.length c1, .slice a2 s2.length c2, .int .i64 most] W fun e w' => e = .returned (.agg #[.int .i64 C, .int .i64 vv]) ∧ Below W.heap.size W w') := fun W hW => by
    rw [HE.out.1, HE.out.2]
    exact spec_shV most (by omega) (by omega) (HV.out.next hW).m1.rg (HV.out.next hW).m2.rg
  refine wp_region_float (by kernel_rfl) (fun hS => ?_)
  refine fl_take (i := 0) (d := 22) (v := .agg #[.int .i64 C, .int .i64 vv]) rfl rfl rfl (by kernel_rfl) (by kernel_rfl) (by kernel_rfl) hS ?_ ?_
  · intro w' hk; go_simp
  simp only [Act.put, List.setIfInBounds_toArray, List.set_cons_zero, List.set_cons_succ]
  refine fl_take (i := 1) (d := 23) (v := .slice a1 s1.length c1) rfl rfl rfl (by kernel_rfl) (by kernel_rfl) (by kernel_rfl) hS ?_ ?_
  · intro w' hk; go_simp
  simp only [Act.put, List.setIfInBounds_toArray, List.set_cons_zero, List.set_cons_succ]
  refine fl_take (i := 2) (d := 24) (v := .slice a2 s2.length c2) rfl rfl rfl (by kernel_rfl) (by kernel_rfl) (by kernel_rfl) hS ?_ ?_
  · intro w' hk; go_simp
  simp only [Act.put, List.setIfInBounds_toArray, List.set_cons_zero, List.set_cons_succ]
  refine fl_take (i := 3) (d := 25) (v := .int .i64 most) rfl rfl rfl (by kernel_rfl) (by kernel_rfl) (by kernel_rfl) hS ?_ ?_
  · intro w' hk; go_simp
  simp only [Act.put, List.setIfInBounds_toArray, List.set_cons_zero, List.set_cons_succ]
  refine wpAnyH_all (rs := [4]) (by kernel_rfl) (by simp) ?_
  intro i hi
  obtain rfl : i = 4 := by simpa using hi
  clear hi
  refine op_call (d := 26) rfl rfl rfl (by go_simp) ((HSP.out _ hS.2).mono ?_)
  rintro e w3 ⟨rfl, hb3⟩
  have hS3 := hS.call hb3
  refine ⟨_, rfl, hS3, ?_⟩
  simp only [Act.put, List.setIfInBounds_toArray, List.set_cons_zero, List.set_cons_succ]
  clear hS
  have hS := hS3
  refine fl_take (i := 5) (d := 27) (v := .bool false) rfl rfl rfl (by kernel_rfl) (by kernel_rfl) (by kernel_rfl) hS ?_ ?_
  · intro w' hk; go_simp
  simp only [Act.put, List.setIfInBounds_toArray, List.set_cons_zero, List.set_cons_succ]
  refine wpAnyH_done (by kernel_rfl) (NoPanic.normal ?_) _
  have HV3 : Hid (SI w w3 K C vv (.slice a1 s1.length c1) (.slice a2 s2.length c2) s1 s2) := HV.out.next hS3.2
  clear hS3 hS hb3 HSP HV p0 p1 pl
  have p0 := cellOf HV3.out.ans 0 rfl
  have p1 := cellOf HV3.out.ans 1 rfl
  have pl := ltOf HV3.out.ans
  by_cases hC0 : C = 0
  case neg =>
    have hC1 : (C != 0) = true := by simpa using hC0
    go_wp2
    go_returns
    exact ⟨rfl, by have := HV3.out.bl; exact this⟩
  subst hC0
  obtain ⟨k1, k2, k3, k4, k5, k6, k7, k8⟩ := sgF_ok HE.out.1.symm
  obtain ⟨M, rfl⟩ : ∃ M : Nat, most = (M : Int) := ⟨most.toNat, by omega⟩
  have HF : Hid (vv = (bsK s1 s2 (2 * M)).1 ∧ s1.any outS = false ∧ s2.any outS = false) := by
    refine ⟨?_, k5, k6⟩
    have hz : sgF s1 s2 (M : Int) = 0 := HE.out.1.symm
    rw [HE.out.2]; unfold shV; rw [if_pos hz, Int.toNat_natCast]
  have hvb : -1000 ≤ vv ∧ vv ≤ 1000 := by
    have := bsK_bd (a := s1) (b := s2) (2 * M); rw [← HF.out.1] at this; omega
  obtain ⟨Bst, hBst⟩ : ∃ B, B = scA s1 s2 vv := ⟨_, rfl⟩
  have HB : Hid (∀ W, SI w W K 0 vv (.slice a1 s1.length c1) (.slice a2 s2.length c2) s1 s2 → Calls Try.prog 13 #[.slice a1 s1.length c1, .slice a2 s2.length c2, .int .i64 vv] W fun e w' => e = .returned (.int .i64 Bst) ∧ Below W.heap.size W w') := fun W hW => by
    rw [hBst]; exact law_score vv hvb k3 k4 k5 k6 hW.m1.rg hW.m2.rg
  have HSC : Hid (∀ (t : Int) (W : World), -1000 ≤ t ∧ t ≤ 1000 → SI w W K 0 vv (.slice a1 s1.length c1) (.slice a2 s2.length c2) s1 s2 → Calls Try.prog 13 #[.slice a1 s1.length c1, .slice a2 s2.length c2, .int .i64 t] W fun e w' => e = .returned (.int .i64 (scA s1 s2 t)) ∧ Below W.heap.size W w') := fun t W ht hW => law_score t ht k3 k4 k5 k6 hW.m1.rg hW.m2.rg
  have HBE : Hid (∀ t : Int, -(M : Int) ≤ t → t ≤ (M : Int) → scA s1 s2 t ≤ Bst ∧ (abN t < abN vv → scA s1 s2 t < Bst)) := fun t h1 h2 => by
    have := bsK_best s1 s2 M t h1 h2; rw [← HF.out.1, ← hBst] at this; exact this
  obtain ⟨AV, hAV⟩ : ∃ A, A = abN vv := ⟨_, rfl⟩
  have hAVm : AV ≤ (M : Int) := by rw [hAV, HF.out.1]; exact bsK_few s1 s2 M
  have HA : Hid (∀ W, Calls Try.prog 14 #[.int .i64 vv] W fun e w' => e = .returned (.int .i64 AV) ∧ w' = W) := fun W => by rw [hAV]; exact law_abs vv (by omega) (by omega) W
  have HAE : Hid (AV = abN vv) := hAV
  clear hBst hAV HE HF k1 k2 k3 k4 k5 k6 k7
  have hwn : IntKind.i64.wrap (-(M : Int)) = -(M : Int) := by rw [IntKind.wrap_i64]; omega
  go_wp2_with (fail)
  refine (HB.out _ HV3.out).mono ?_
  rintro e w4 ⟨rfl, hb4⟩
  have HV4 : Hid (SI w w4 K 0 vv (.slice a1 s1.length c1) (.slice a2 s2.length c2) s1 s2) := HV3.out.next hb4
  clear hb4 HV3 p0 p1 pl HB
  go_wp2
  go_loopw [8] (fun t wr => ∃ i : Nat, i ≤ 2 * M + 1 ∧ t = .int .i64 (-(M : Int) + (i : Int)) ∧ Hid (SI w wr K 0 vv (.slice a1 s1.length c1) (.slice a2 s2.length c2) s1 s2)) (fun t _ => ((M : Int) + 1 - intOf t).toNat)
  case atStart => exact ⟨0, by omega, by simp, HV4.out⟩
  case round =>
    obtain ⟨i, hi, rfl, hR⟩ := hrel
    obtain ⟨t, ht⟩ : ∃ t, t = -(M : Int) + (i : Int) := ⟨_, rfl⟩
    rw [← ht]
    have HR : Hid (SI w wr K 0 vv (.slice a1 s1.length c1) (.slice a2 s2.length c2) s1 s2) := hR.out
    clear hR HV4
    have HT : Hid (t = -(M : Int) + (i : Int)) := ht
    by_cases hlt : t ≤ (M : Int)
    · have htl : -(M : Int) ≤ t := by omega
      obtain ⟨S, hS⟩ : ∃ S, S = scA s1 s2 t := ⟨_, rfl⟩
      have HC1 : Hid (∀ W, SI w W K 0 vv (.slice a1 s1.length c1) (.slice a2 s2.length c2) s1 s2 → Calls Try.prog 13 #[.slice a1 s1.length c1, .slice a2 s2.length c2, .int .i64 t] W fun e w' => e = .returned (.int .i64 S) ∧ Below W.heap.size W w') := fun W hW => by rw [hS]; exact HSC.out t W (by omega) hW
      obtain ⟨A, hA⟩ : ∃ A, A = abN t := ⟨_, rfl⟩
      have HA1 : Hid (∀ W, Calls Try.prog 14 #[.int .i64 t] W fun e w' => e = .returned (.int .i64 A) ∧ w' = W) := fun W => by rw [hA]; exact law_abs t (by omega) (by omega) W
      have hbe : S ≤ Bst ∧ (A < AV → S < Bst) := by rw [hS, hA, HAE.out]; exact HBE.out t htl hlt
      have hw1 : IntKind.i64.wrap (t + 1) = t + 1 := by rw [IntKind.wrap_i64]; omega
      clear hS hA ht
      go_wp2_with (fail)
      refine (HC1.out _ HR.out).mono ?_
      rintro e w5 ⟨rfl, hb5⟩
      have HR5 : Hid (SI w w5 K 0 vv (.slice a1 s1.length c1) (.slice a2 s2.length c2) s1 s2) := HR.out.next hb5
      clear hb5 HR HC1
      have p1 := cellOf HR5.out.ans 1 rfl
      have pl := ltOf HR5.out.ans
      have hd1 : decide (Bst < S) = false := decide_eq_false (by omega)
      by_cases heq : S = Bst
      · have he : (S == Bst) = true := by simpa using heq
        have hd2 : decide (A < AV) = false := decide_eq_false (by omega)
        clear heq hbe
        go_wp2
        go_quiet (first | (go_at_call 14; with_reducible refine Calls.quiet_of_same (HA1.out _)) | (go_at_call 14; with_reducible refine Calls.quiet_of_same (HA.out _)))
        go_wp2
        go_roundw
        case rel => exact ⟨i + 1, by have := HT.out; omega, by rw [HT.out]; go_num, HR5.out.next (below_drewN (Below.refl _ _) _)⟩
        case measure => simp [intOf]; omega
      · have he : (S == Bst) = false := by simpa using heq
        clear heq hbe
        go_wp2
        go_quiet (fail)
        go_wp2
        go_roundw
        case rel => exact ⟨i + 1, by have := HT.out; omega, by rw [HT.out]; go_num, HR5.out.next (below_drewN (Below.refl _ _) _)⟩
        case measure => simp [intOf]; omega
    · have hlt' : decide (t ≤ (M : Int)) = false := decide_eq_false hlt
      have p1 := cellOf HR.out.ans 1 rfl
      have pl := ltOf HR.out.ans
      go_wp2_with (fail)
      refine (HA.out _).mono ?_
      rintro e w6 ⟨rfl, hw6⟩
      obtain rfl : wr = w6 := hw6.symm
      have hdd : decide (AV ≤ (M : Int)) = true := decide_eq_true hAVm
      go_wp2
      go_returns
      exact ⟨by first | rfl | (rw [hdd]) | (simp; omega), HR.out.bl⟩

theorem own : ownKnob Try.prog.godebug = none := by kernel_rfl
theorem laidOut : laidOutB Try.prog = true := by kernel_rfl

/-- A slice of bytes that came in: nil, or a row of cells. -/
def IsRow (k : IntKind) (w : World) (a : Option Addr) (len cap : Nat) (zs : List Int) : Prop :=
  (a = none ∧ len = 0 ∧ cap = 0 ∧ zs = []) ∨
  ∃ x, a = some x ∧ len ≤ cap ∧ cap ≤ maxLen ∧ zs.length = cap ∧ (∀ i, i < zs.length → w.cell? (x.add i) = some (.int k (zs.getD i 0))) ∧ ∀ n ∈ zs, (Lit.int k n).wf = true

theorem byte_bd (zs : List Int) (h : ∀ n ∈ zs, (Lit.int .u8 n).wf = true) (j : Nat) : 0 ≤ zs.getD j 0 ∧ zs.getD j 0 ≤ 255 := by
  rcases Nat.lt_or_ge j zs.length with hj | hj
  · have hm : zs.getD j 0 ∈ zs := by simp [List.getElem?_eq_getElem hj]
    have := h _ hm
    simpa [Lit.wf, IntKind.min, IntKind.max, IntKind.signed, IntKind.bits] using this
  · simp [List.getElem?_eq_none hj]

theorem walk (a0 : Option Addr) (len0 cap0 : Nat) (z0 : List Int) (w : World) (w0 : IsRow .u8 w a0 len0 cap0 z0) :
    Calls Try.prog 3 #[.slice a0 len0 cap0] w fun e w' => e = .returned (.bool true) ∧ Below w.heap.size w w' := by
  rcases w0 with ⟨rfl, rfl, rfl, rfl⟩ | ⟨x, rfl, hl, hm, hz, hc, hw⟩
  · exact law_si none 0 0 (fun _ => 0) w (Nat.zero_le _) (fun _ => by omega) (fun h => by omega)
  · refine law_si (some x) len0 cap0 (fun j => z0.getD j 0) w (Nat.le_trans hl hm) (byte_bd z0 hw) (fun hp => ?_)
    have hx0 := hc 0 (by omega)
    obtain ⟨g, off, sp⟩ := x
    have hsp : sp = none := by
      cases sp with
      | none => rfl
      | some t =>
        exfalso
        simp [World.cell?, Addr.add] at hx0
        split at hx0 <;> cases hx0
    subst hsp
    have hadd : ∀ j, (⟨g, off, none⟩ : Addr).add j = ⟨g, off + j, none⟩ := fun j => by unfold Addr.add; split <;> simp_all
    refine ⟨g, off, rfl, ?_, fun j hj => ?_⟩
    · rw [hadd] at hx0; exact lt_of_cell hx0
    · have := hc j (by omega)
      rw [hadd] at this
      exact this

set_option maxRecDepth 100000 in
theorem si_lifted (os : Os) (started : os.Started) (H : Type) (enc : TypeId × Value → H) :
    ReturnsInHanded {} Try.checked os 3 .any (Rows.fnShiftsSpec.pre6 enc Try.prog Try.f3 Rows.fnShiftsRow.domain false) (Rows.fnShiftsSpec.post enc Try.prog Try.f3 false true false false) := by
  refine returnsInHanded_of_change (C := Try.checked) own started (by kernel_rfl) Try.func3
    (ChangeSpec.witness6 (enc := enc) (C := Try.checked) false ⟨#[], #[.slice none 0 0], []⟩ 8 (by kernel_rfl) (by kernel_rfl) (by kernel_rfl) (by kernel_rfl)) ?_
  intro W base args ds gs before hval0 hW hcnd _
  have hval : ∀ (j : Nat) t v, Try.f3.params[j]? = some t → args[j]? = some v → Value.okWide Try.prog W .any base t v := hval0
  have hW' := hW
  obtain ⟨p, q, hA0, hV, rfl, hfz, hnd⟩ := hW
  have hA : DataW.TrodAll enc Try.prog W 0 (fun _ => true) true Try.f3.params.toList args.toList ds p := hA0
  rw [Try.params3] at hA hval
  obtain ⟨v0, vs0, d0, ds0, p0, q0, hargs, rfl, rfl, h0, r0⟩ := trodAll_cons hA
  obtain ⟨rfl, rfl, rfl⟩ := trodAll_nil r0
  obtain rfl : args = #[v0] := by cases args; simp_all
  obtain ⟨rfl, rfl⟩ := trodVars_none hV
  obtain ⟨a0, len0, cap0, rfl⟩ := okWide_slice Try.underlying22 (hval 0 22 v0 rfl rfl)
  have k0 := h0
  have lt0 : ∀ x ∈ p0, x.block < W.heap.size := by obtain ⟨m, hm⟩ := k0; exact DataW.trod_lt m _ _ _ hm
  obtain ⟨z0, w0⟩ : ∃ zs, IsRow .u8 W a0 len0 cap0 zs := by
    obtain ⟨fuel, hf⟩ := h0
    rcases open_ints Try.underlying22 Try.underlying5 (by kernel_rfl) hf with ⟨hcs, _⟩ | ⟨x, l, c, zs, hcs, _, hl, hm, hz, _, hcell, hwz⟩
    · simp [Value.cells] at hcs
      obtain ⟨rfl, rfl, rfl⟩ := hcs
      exact ⟨[], .inl ⟨rfl, rfl, rfl, rfl⟩⟩
    · simp [Value.cells] at hcs
      obtain ⟨rfl, rfl, rfl⟩ := hcs
      exact ⟨zs, .inr ⟨_, rfl, hl, hm, by simpa using hz, hcell, hwz⟩⟩
  clear hA0 hval0
  refine (walk a0 len0 cap0 z0 W w0).mono fun e W' ⟨he, bel⟩ => ?_
  subst he
  exact ⟨_, rfl, _, _, _, [], _, [], hW', trodAll_mk1 (shut_bool Try.underlying4 _), (trodAll_cons_mk (Below.trod laidOut (by kernel_rfl) (of_decide_eq_true (by kernel_rfl)) k0 bel lt0) trodAll_mk0), rfl, bel.frame _, fun h => by cases h⟩

theorem si_over : Rows.fnShiftsRow.holds Try.pinned (OpenSpec.ofChange Rows.fnShiftsSpec) :=
  OpenClaim.holds_of_wide 3 Try.f3 rfl rfl rfl rfl rfl rfl rfl ⟨rfl, rfl, rfl, rfl, rfl⟩ rfl rfl rfl rfl rfl (by kernel_rfl) Try.func3 (by kernel_rfl)
    (of_decide_eq_true (by kernel_rfl)) (by unfold Func.isWrapper; first | (rw [if_pos (by decide +kernel)]; kernel_rfl) | (rw [if_neg (by decide +kernel)]; exact ⟨rfl, rfl⟩))
    (fun os started H enc _ => si_lifted os started H enc)

theorem si11_proved : Rows.FnShiftsSaid := si_over
#print axioms si11_proved

end Go.Proofs.Ytdidmjgilnhncaa
