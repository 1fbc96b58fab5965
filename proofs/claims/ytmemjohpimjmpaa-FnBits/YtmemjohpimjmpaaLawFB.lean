/- Proved here: 'floats and bits are told alike, both ways', for every code of bytes, without a condition. -/
import Derived.Test.YtmemjohpimjmpaaDrY
import Derived.Test.YtmemjohpimjmpaaLwC
import Derived.Test.YtmemjohpimjmpaaRows
import Derived.Deep.RegionHeld3
import Derived.Deep.QuietTactic
import Derived.BigQuiet
import Derived.OpenShut
import Derived.ChangeOld
import Derived.Below
namespace Go.Proofs.Ytmemjohpimjmpaa
open Go.ChangeShapes Go.WideShapes Go.ChangeAt Go.RowKit
set_option linter.unusedVariables false
set_option linter.unusedSimpArgs false

theorem bt_twice (x : Nat) : btV (btV x).toNat = btV x := by
  unfold btV
  cases h : fv x with
  | none =>
    simp only [Option.isNone_none, if_true]
    rw [show (9221120237041090560 : Int).toNat = 9221120237041090560 by decide, show fv 9221120237041090560 = none by decide]
    rfl
  | some y =>
    simp only [Option.isNone_some, Bool.false_eq_true, if_false, Int.toNat_natCast]
    rw [h]; rfl
theorem bt_same {x : Nat} (h : fv x = some x) : btV x = x := by unfold btV; rw [h]; rfl
set_option maxRecDepth 10000 in
set_option maxHeartbeats 6400000 in
theorem law_fb (ca : Option Addr) (n cap : Nat) (bs : Nat → Int) (w : World) (hnn : n ≤ maxLen) (hB : ∀ j, 0 ≤ bs j ∧ bs j ≤ 255)
    (hC : 0 < n → ∃ g off, ca = some ⟨g, off, none⟩ ∧ g < w.heap.size ∧ ∀ j, j < n → w.cell? ⟨g, off + j, none⟩ = some (.int .u8 (bs j))) :
    Calls Try.prog 3 #[.slice ca n cap] w fun e w' => e = .returned (.bool true) ∧ Below w.heap.size w w' := by
  by_cases hbig : (1048576 : Int) < n
  · go_enter Try.func3, Try.ntmps3
    go_wp2_with (fail)
    clear hB hC
    refine (big_any _ _ _ _ hnn).mono ?_
    rintro e w' ⟨rfl, hww⟩
    obtain rfl : w = w' := hww.symm
    go_wp2
    go_returns
    exact ⟨rfl, Below.refl _ _⟩
  have hbig' : decide ((1048576 : Int) < n) = false := by simpa using hbig
  have HD : Hid (∀ W, Below w.heap.size w W → n ≤ 140737488351232 ∧ (∀ j, 0 ≤ bs j ∧ bs j ≤ 255) ∧ (0 < n → ∃ g off, ca = some ⟨g, off, none⟩ ∧ ∀ j, j < n → W.cell? ⟨g, off + j, none⟩ = some (.int .u8 (bs j)))) := fun W hW => ⟨by omega, hB, fun h => by
    obtain ⟨g, off, h1, h2, h3⟩ := hC h
    exact ⟨g, off, h1, fun j hj => (hW.cell (p := ⟨g, off + j, none⟩) h2).trans (h3 j hj)⟩⟩
  clear hB hC
  go_enter Try.func3, Try.ntmps3
  go_wp2_with (fail)
  refine (big_any _ _ _ _ hnn).mono ?_
  rintro e w' ⟨rfl, hww⟩
  obtain rfl : w = w' := hww.symm
  go_wp2_with (fail)
  refine (drawB_any ca n cap bs _ (HD.out _ (Below.refl _ _)).1 (HD.out _ (Below.refl _ _)).2.1 (HD.out _ (Below.refl _ _)).2.2).mono ?_
  rintro e w1 ⟨x, rfl, hx, hb1⟩
  have HX : Hid (x < 18446744073709551616) := hx
  have HB1 : Hid (Below w.heap.size w w1) := hb1
  obtain ⟨V, hV⟩ : ∃ V, V = btV x := ⟨_, rfl⟩
  have HI : Hid (∀ W, Calls Try.prog 11 #[.float .f64 x] W fun e w' => e = .returned (.int .u64 V) ∧ w' = W) := fun W => by rw [hV]; exact impl_bits x W
  have HJ : Hid (∀ W, Calls Try.prog 11 #[.float .f64 V.toNat] W fun e w' => e = .returned (.int .u64 V) ∧ w' = W) := fun W => by have := impl_bits V.toNat W; rw [hV, bt_twice] at this; rw [hV]; exact this
  have HS : Hid (∀ W, Calls Try.prog 12 #[.float .f64 x] W fun e w' => e = .returned (.int .u64 V) ∧ ∃ n, w' = W.drewN n) := fun W => by rw [hV]; exact spec_bits x HX.out W
  have HF : Hid (∀ W, Calls Try.prog 13 #[.int .u64 V] W fun e w' => e = .returned (.float .f64 V.toNat) ∧ w' = W) := fun W => impl_from V W
  clear hx hb1 hV
  go_wp2_with (fail)
  refine (HI.out _).mono ?_
  rintro e w' ⟨rfl, hww⟩
  obtain rfl : w1 = w' := hww.symm
  go_wp2_with (fail)
  refine (HS.out _).mono ?_
  rintro e w' ⟨rfl, k, hww⟩
  subst w'
  go_wp2_with (fail)
  refine (HF.out _).mono ?_
  rintro e w' ⟨rfl, hww⟩
  subst w'
  go_wp2_with (fail)
  refine (HJ.out _).mono ?_
  rintro e w' ⟨rfl, hww⟩
  subst w'
  have HB2 : Hid (Below w.heap.size w (w1.drewN k)) := below_drewN HB1.out k
  clear HI HJ HS HF HX HB1
  go_wp2_with (fail)
  refine (drawF_any ca n cap bs _ (HD.out _ HB2.out).1 (HD.out _ HB2.out).2.1 (HD.out _ HB2.out).2.2).mono ?_
  rintro e w2 ⟨b, rfl, b0, b1, hb2⟩
  have HB3 : Hid (Below w.heap.size w w2) := HB2.out.trans (hb2.mono HB2.out.size)
  obtain ⟨g, rfl⟩ : ∃ g : Nat, b = g := ⟨b.toNat, by omega⟩
  have HF : Hid (∀ W, Calls Try.prog 13 #[.int .u64 g] W fun e w' => e = .returned (.float .f64 g) ∧ w' = W) := fun W => impl_from g W
  clear hb2 HB2
  cases hv : fv g with
  | none =>
    have hq : (FloatKind.f64.format.order g g != some .eq) = true := by have := ordE (a := g); rw [hv] at this; exact this
    have hbt : bits .and .u64 ((g : Int) / 4503599627370496) 2047 = 2047 := by
      have h9 := fv_none.1 hv
      have := bits_mask .u64 64 (by decide) (fun n h0 h1 => by rw [IntKind.wrap_u64]; omega) 11 (by decide) ((g : Int) / 4503599627370496) (by omega) (by omega)
      rw [show ((2 : Int) ^ 11 - 1) = 2047 by decide, show ((2 : Int) ^ 11) = 2048 by decide] at this
      rw [this]; omega
    clear hv
    go_wp2_with (fail)
    refine (HF.out _).mono ?_
    rintro e w' ⟨rfl, hww⟩
    obtain rfl : w2 = w' := hww.symm
    go_wp2
    go_returns
    exact ⟨rfl, HB3.out⟩
  | some y =>
    obtain rfl := (fv_some hv).1
    have hq : (FloatKind.f64.format.order g g != some .eq) = false := by have := ordE (a := g); rw [hv] at this; exact this
    have HI : Hid (∀ W, Calls Try.prog 11 #[.float .f64 g] W fun e w' => e = .returned (.int .u64 g) ∧ w' = W) := fun W => by have := impl_bits g W; rw [bt_same hv] at this; exact this
    clear hv
    go_wp2_with (fail)
    refine (HF.out _).mono ?_
    rintro e w' ⟨rfl, hww⟩
    obtain rfl : w2 = w' := hww.symm
    go_wp2_with (fail)
    refine (HI.out _).mono ?_
    rintro e w' ⟨rfl, hww⟩
    obtain rfl : w2 = w' := hww.symm
    go_wp2
    go_returns
    exact ⟨rfl, HB3.out⟩

theorem own : ownKnob Try.prog.godebug = none := by kernel_rfl
theorem laidOut : laidOutB Try.prog = true := by kernel_rfl

/-- A slice of bytes that came in: nil, or a row of cells. -/
def IsRow (k : IntKind) (w : World) (a : Option Addr) (len cap : Nat) (zs : List Int) : Prop :=
  (a = none ∧ len = 0 ∧ cap = 0 ∧ zs = []) ∨
  ∃ x, a = some x ∧ len ≤ cap ∧ cap ≤ maxLen ∧ zs.length = cap ∧ (∀ i, i < zs.length → w.cell? (x.add i) = some (.int k (zs.getD i 0))) ∧ ∀ n ∈ zs, (Lit.int k n).wf = true

theorem byte_bd (zs : List Int) (h : ∀ n ∈ zs, (Lit.int .u8 n).wf = true) (j : Nat) : 0 ≤ zs.getD j 0 ∧ zs.getD j 0 ≤ 255 := by
  rcases Nat.lt_or_ge j zs.length with hj | hj
  · have hm : zs.getD j 0 ∈ zs := by simp [List.getElem?_eq_getElem hj]
    have := h _ hm
    simpa [Lit.wf, IntKind.min, IntKind.max, IntKind.signed, IntKind.bits] using this
  · simp [List.getElem?_eq_none hj]

theorem walk (a0 : Option Addr) (len0 cap0 : Nat) (z0 : List Int) (w : World) (w0 : IsRow .u8 w a0 len0 cap0 z0) :
    Calls Try.prog 3 #[.slice a0 len0 cap0] w fun e w' => e = .returned (.bool true) ∧ Below w.heap.size w w' := by
  rcases w0 with ⟨rfl, rfl, rfl, rfl⟩ | ⟨x, rfl, hl, hm, hz, hc, hw⟩
  · exact law_fb none 0 0 (fun _ => 0) w (Nat.zero_le _) (fun _ => by omega) (fun h => by omega)
  · refine law_fb (some x) len0 cap0 (fun j => z0.getD j 0) w (Nat.le_trans hl hm) (byte_bd z0 hw) (fun hp => ?_)
    have hx0 := hc 0 (by omega)
    obtain ⟨g, off, sp⟩ := x
    have hsp : sp = none := by
      cases sp with
      | none => rfl
      | some t =>
        exfalso
        simp [World.cell?, Addr.add] at hx0
        split at hx0 <;> cases hx0
    subst hsp
    have hadd : ∀ j, (⟨g, off, none⟩ : Addr).add j = ⟨g, off + j, none⟩ := fun j => by unfold Addr.add; split <;> simp_all
    refine ⟨g, off, rfl, ?_, fun j hj => ?_⟩
    · rw [hadd] at hx0; exact lt_of_cell hx0
    · have := hc j (by omega)
      rw [hadd] at this
      exact this

set_option maxRecDepth 100000 in
theorem fb14_lifted (os : Os) (started : os.Started) (H : Type) (enc : TypeId × Value → H) :
    ReturnsInHanded {} Try.checked os 3 .any (Rows.fnBitsSpec.pre6 enc Try.prog Try.f3 Rows.fnBitsRow.domain false) (Rows.fnBitsSpec.post enc Try.prog Try.f3 false true false false) := by
  refine returnsInHanded_of_change (C := Try.checked) own started (by kernel_rfl) Try.func3
    (ChangeSpec.witness6 (enc := enc) (C := Try.checked) false ⟨#[], #[.slice none 0 0], []⟩ 8 (by kernel_rfl) (by kernel_rfl) (by kernel_rfl) (by kernel_rfl)) ?_
  intro W base args ds gs before hval0 hW hcnd _
  have hval : ∀ (j : Nat) t v, Try.f3.params[j]? = some t → args[j]? = some v → Value.okWide Try.prog W .any base t v := hval0
  have hW' := hW
  obtain ⟨p, q, hA0, hV, rfl, hfz, hnd⟩ := hW
  have hA : DataW.TrodAll enc Try.prog W 0 (fun _ => true) true Try.f3.params.toList args.toList ds p := hA0
  rw [Try.params3] at hA hval
  obtain ⟨v0, vs0, d0, ds0, p0, q0, hargs, rfl, rfl, h0, r0⟩ := trodAll_cons hA
  obtain ⟨rfl, rfl, rfl⟩ := trodAll_nil r0
  obtain rfl : args = #[v0] := by cases args; simp_all
  obtain ⟨rfl, rfl⟩ := trodVars_none hV
  obtain ⟨a0, len0, cap0, rfl⟩ := okWide_slice Try.underlying22 (hval 0 22 v0 rfl rfl)
  have k0 := h0
  have lt0 : ∀ x ∈ p0, x.block < W.heap.size := by obtain ⟨m, hm⟩ := k0; exact DataW.trod_lt m _ _ _ hm
  obtain ⟨z0, w0⟩ : ∃ zs, IsRow .u8 W a0 len0 cap0 zs := by
    obtain ⟨fuel, hf⟩ := h0
    rcases open_ints Try.underlying22 Try.underlying5 (by kernel_rfl) hf with ⟨hcs, _⟩ | ⟨x, l, c, zs, hcs, _, hl, hm, hz, _, hcell, hwz⟩
    · simp [Value.cells] at hcs
      obtain ⟨rfl, rfl, rfl⟩ := hcs
      exact ⟨[], .inl ⟨rfl, rfl, rfl, rfl⟩⟩
    · simp [Value.cells] at hcs
      obtain ⟨rfl, rfl, rfl⟩ := hcs
      exact ⟨zs, .inr ⟨_, rfl, hl, hm, by simpa using hz, hcell, hwz⟩⟩
  clear hA0 hval0
  refine (walk a0 len0 cap0 z0 W w0).mono fun e W' ⟨he, bel⟩ => ?_
  subst he
  exact ⟨_, rfl, _, _, _, [], _, [], hW', trodAll_mk1 (shut_bool Try.underlying4 _), (trodAll_cons_mk (Below.trod laidOut (by kernel_rfl) (of_decide_eq_true (by kernel_rfl)) k0 bel lt0) trodAll_mk0), rfl, bel.frame _, fun h => by cases h⟩

theorem fb14_over : Rows.fnBitsRow.holds Try.pinned (OpenSpec.ofChange Rows.fnBitsSpec) :=
  OpenClaim.holds_of_wide 3 Try.f3 rfl rfl rfl rfl rfl rfl rfl ⟨rfl, rfl, rfl, rfl, rfl⟩ rfl rfl rfl rfl rfl (by kernel_rfl) Try.func3 (by kernel_rfl)
    (of_decide_eq_true (by kernel_rfl)) (by unfold Func.isWrapper; first | (rw [if_pos (by decide +kernel)]; kernel_rfl) | (rw [if_neg (by decide +kernel)]; exact ⟨rfl, rfl⟩))
    (fun os started H enc _ => fb14_lifted os started H enc)

theorem fb14_proved : Rows.FnBitsSaid := fb14_over
#print axioms fb14_proved

end Go.Proofs.Ytmemjohpimjmpaa
