/- Proved here: how the laws' package copies and compares lists of floats; how one that came in is read. No condition. -/
import Derived.Test.YtgjdcdhdfhkfcaaFlC
import Derived.Test.YtgjdcdhdfhkfcaaFlS
import Derived.Test.YtgjdcdhdfhkfcaaTyGen
import Derived.BigQuiet
namespace Go.Proofs.Ytgjdcdhdfhkfcaa
open Go.ChangeShapes Go.WideShapes Go.ChangeAt Go.RowKit Go.Joins Go.Deep
set_option linter.unusedVariables false
set_option linter.unusedSimpArgs false

set_option maxRecDepth 10000 in
set_option maxHeartbeats 3200000 in
theorem toFloat64S_any {w : World} {v : Value} {s : List Nat} (hn : s.length ≤ 1048576) (h : RFl w v s) :
    Calls Try.prog 14 #[v] w fun e w' => ∃ g, e = .returned (.slice (some ⟨g, 0, none⟩) s.length s.length) ∧ OFl w' w.heap.size (.slice (some ⟨g, 0, none⟩) s.length s.length) s ∧ Below w.heap.size w w' := by
  obtain ⟨a, c, rfl⟩ := h.form
  have H : Hid (RFl w (.slice a s.length c) s) := h
  clear h
  obtain ⟨i0, hi, hz0, hz1, hz2⟩ := info_parts info_fl
  obtain ⟨n, hnn⟩ : ∃ n, n = s.length := ⟨_, rfl⟩
  have HN : Hid (n = s.length) := hnn
  rw [← hnn] at hn H ⊢
  clear hnn
  go_enter Try.func14, Try.ntmps14
  go_wp2_with (at_make; refine wpList_make_full _ rfl _ _ 32 rfl w.heap.size 55 i0 (.float .f64 0) 1 Try.underlying32 hi hz0 hz1 _ _ _ _ n rfl rfl rfl rfl (by rw [hz2]; omega) (by unfold maxLen; omega) (Nat.le_refl _) ?_; intro w2 hown2 hgrow2)
  have hb2 : Below w.heap.size w w2 := (Below.refl _ _).grown hgrow2 (Nat.le_refl _) (fun k h => by cases h)
  have HS : Hid (Fill 55 1 flC w2 w.heap.size w.heap.size n s 0 ∧ Below w.heap.size w w2) := ⟨⟨_, hown2, fun t ht => by omega⟩, hb2⟩
  clear hown2 hgrow2 hb2
  go_loopw [4] (fun i wr => ∃ j : Nat, j ≤ n ∧ i = .int .i64 j ∧ Hid (Fill 55 1 flC wr w.heap.size w.heap.size n s j ∧ Below w.heap.size w wr)) (fun i _ => n - (intOf i).toNat)
  case atStart => exact ⟨0, Nat.zero_le _, rfl, HS.out⟩
  case round =>
    clear HS
    obtain ⟨j, hjn, rfl, hR⟩ := hrel
    by_cases hlt : j < n
    · have hjl : j < s.length := by rw [← HN.out]; exact hlt
      obtain ⟨g, o, x, ha, hg, hz, c0⟩ := rf_at (H.out.below hR.out.2) hlt
      subst ha
      have HX : Hid (x = s[j]) := by
        unfold Hid
        rw [List.getElem?_eq_getElem hjl] at hz
        injection hz with hz
        exact hz.symm
      clear hz
      have b0 : (0 : Int) ≤ (j : Int) := by omega
      have b1 : (j : Int) < (n : Int) := by omega
      obtain ⟨⟨u0, g0⟩, f0⟩ := hR.out.1.there j (by omega)
      have HP : Hid (Fill 55 1 flC (wr.setCell ⟨w.heap.size, j, none⟩ (.float .f64 x)) w.heap.size w.heap.size n s (j + 1) ∧ Below w.heap.size w (wr.setCell ⟨w.heap.size, j, none⟩ (.float .f64 x))) := by
        have h1 := hR.out.1.put flC_len HN.out hjl
        rw [← HX.out] at h1
        simp only [Nat.mul_one, flC, putsAt, Nat.add_zero] at h1
        exact ⟨h1, hR.out.2.setCell (Nat.le_refl _) _⟩
      clear hR
      go_wp2
      go_roundw
      case rel => exact ⟨j + 1, by omega, by go_num, HP.out⟩
      case measure => simp [intOf]; omega
    · have HD : Hid (OFl wr w.heap.size (.slice (some ⟨w.heap.size, 0, none⟩) n n) s ∧ Below w.heap.size w wr) := ⟨hR.out.1.done flC_len HN.out (by rw [← HN.out]; omega), hR.out.2⟩
      clear hR
      go_wp2
      go_returns
      exact ⟨w.heap.size, rfl, HD.out.1, HD.out.2⟩

theorem same_below (a b : Nat) (h : fv a = fv b) (w : World) : Calls Try.prog 47 #[.float .f64 a, .float .f64 b] w fun e w' => e = .returned (.bool true) ∧ Below w.heap.size w w' :=
  (same_any a b h w).mono fun e w' h9 => ⟨h9.1, by obtain ⟨n, rfl⟩ := h9.2; exact below_drewN (Below.refl _ _) n⟩
set_option maxRecDepth 10000 in
set_option maxHeartbeats 3200000 in
/-- Two lists of one value are alike. -/
theorem eqFloat64S_v {w : World} {va vb : Value} {s t : List Nat} (hn : s.length ≤ 1099511627776) (hst : s.map fv = t.map fv) (ha : RFl w va s) (hb : RFl w vb t) :
    Calls Try.prog 17 #[va, vb] w fun e w' => e = .returned (.bool true) ∧ Below w.heap.size w w' := by
  obtain ⟨a1, c1', rfl⟩ := ha.form
  obtain ⟨a2, c2', rfl⟩ := hb.form
  have hl : s.length = t.length := by have h3 := congrArg List.length hst; simpa using h3
  obtain ⟨n, hnn⟩ : ∃ n, n = s.length := ⟨_, rfl⟩
  rw [← hl, ← hnn] at hb
  rw [← hnn] at ha hn ⊢
  rw [← hl, ← hnn]
  have H : Hid (RFl w (.slice a1 n c1') s ∧ RFl w (.slice a2 n c2') t ∧ n = s.length ∧ s.map fv = t.map fv) := ⟨ha, hb, hnn, hst⟩
  clear ha hb hnn hl hst
  go_enter Try.func17, Try.ntmps17
  go_wp2
  go_loopw [5] (fun i wr => ∃ j : Nat, j ≤ n ∧ i = .int .i64 j ∧ Hid (Below w.heap.size w wr)) (fun i _ => n - (intOf i).toNat)
  case atStart => exact ⟨0, Nat.zero_le _, rfl, Below.refl _ _⟩
  case round =>
    obtain ⟨j, hjn, rfl, hR⟩ := hrel
    by_cases hlt : j < n
    · obtain ⟨g, o, z, ha, hg, hz, c0⟩ := rf_at (H.out.1.below hR.out) hlt
      obtain ⟨g', o', y, ha', hg', hy, d0⟩ := rf_at (H.out.2.1.below hR.out) hlt
      subst ha ha'
      have HV : Hid (fv z = fv y) := by
        have h3 := congrArg (fun l => l[j]?) H.out.2.2.2
        simp only [List.getElem?_map, hz, hy, Option.map_some, Option.some.injEq] at h3
        exact h3
      clear hz hy
      have b0 : (0 : Int) ≤ (j : Int) := by omega
      have b1 : (j : Int) < (n : Int) := by omega
      go_wp2_with (fail)
      (refine wp_region_und (by kernel_rfl) (by kernel_rfl) (fun hund => ?_); (repeat (go_big_quiet_step (first | (go_at_call 47; refine und_call ?_ (same_below z y HV.out _); simp)))); with_reducible refine wpQuiet_nil ?_; clear hund; intro W1 hb1; obtain ⟨hc1, hf1⟩ := undcell hb1)
      have HB : Hid (Below w.heap.size w W1) := hR.out.trans (hb1.mono hR.out.size)
      clear hb1
      go_wp2
      go_roundw
      case rel => exact ⟨j + 1, by omega, by go_num, HB.out⟩
      case measure => simp [intOf]; omega
    · go_wp2
      go_returns
      exact ⟨rfl, hR.out⟩
theorem eqFloat64S_same {w : World} {va vb : Value} {s : List Nat} (hn : s.length ≤ 1099511627776) (ha : RFl w va s) (hb : RFl w vb s) :
    Calls Try.prog 17 #[va, vb] w fun e w' => e = .returned (.bool true) ∧ Below w.heap.size w w' := eqFloat64S_v hn rfl ha hb

theorem trod_fl1 {H : Type} {enc : TypeId × Value → H} {P : Program} {w : World} {base : Nat} {spare : Nat → Bool} {held : Bool} {fuel : Nat} {t : TypeId} {cs : List Value} {x : DataW H × List MemPlace} {k : FloatKind} (ht : P.underlying t = some (.float k)) (h : DataW.trod enc P w base spare held fuel t cs = some x) : ∃ n, cs = [.float k n] ∧ x = (.lit (.float k n), []) ∧ (Lit.float k n).wf = true := by
  cases fuel with
  | zero => simp [DataW.trod] at h
  | succ n =>
    simp only [DataW.trod, ht] at h
    split at h <;> simp_all
    all_goals first
      | (obtain ⟨h1, h2⟩ := h; subst h1; exact ⟨_, ⟨rfl, rfl⟩, h2.symm, by assumption⟩)
      | skip
theorem fl_cell {H : Type} {enc : TypeId × Value → H} {W : World} {fuel : Nat} {cs : List Value} {x : DataW H × List MemPlace} (h : DataW.trod enc Try.prog W 0 (fun _ => true) true fuel 55 cs = some x) : ∃ a : Nat, cs = flC a ∧ True := by
  obtain ⟨n, k, _, _⟩ := trod_fl1 Try.underlying55 h
  exact ⟨n, k, trivial⟩
set_option maxRecDepth 100000 in
/-- A list of floats that came in. -/
theorem floats_open {H : Type} {enc : TypeId × Value → H} {W : World} {base : Nat} {v : Value} {d : DataW H} {p : List MemPlace}
    (hv : Value.okWide Try.prog W .any base 32 v) (h : DataW.Trod enc Try.prog W 0 (fun _ => true) true 32 v d p) :
    ∃ (a : Option Addr) (n c : Nat) (s : List Nat), v = .slice a n c ∧ RFl W (.slice a n c) s ∧ s.length ≤ maxLen := by
  obtain ⟨a0, len0, cap0, rfl⟩ := okWide_slice Try.underlying32 hv
  obtain ⟨fuel, hf⟩ := h
  have : Nonempty Nat := ⟨0⟩
  obtain ⟨a, n, c, s, hcs, h1, h2, _⟩ := rg_of_trod (Q := fun _ => True) Try.underlying32 (show Try.prog.cellsOf 55 = 1 by kernel_rfl) (by omega) flC_len (fun _ _ _ h => fl_cell h) hf
  simp [Value.cells] at hcs
  obtain ⟨rfl, rfl, rfl⟩ := hcs
  exact ⟨a0, len0, cap0, s, rfl, h1, h2⟩

end Go.Proofs.Ytgjdcdhdfhkfcaa
