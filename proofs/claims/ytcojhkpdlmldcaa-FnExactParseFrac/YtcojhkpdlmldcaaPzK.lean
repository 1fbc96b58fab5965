/- Proved here: the program's scan of a fraction's text: as its letters tell (SCo). -/
import Derived.Test.YtcojhkpdlmldcaaPzJ
import Derived.Deep.Cut
namespace Go.Proofs.Ytcojhkpdlmldcaa
open Go.RowKit
set_option linter.unusedVariables false
set_option linter.unusedSimpArgs false

set_option maxRecDepth 1000000 in
set_option maxHeartbeats 3200000 in
theorem impl_scan (s : ByteArray) (w : World) (hs : s.size ≤ 4000) :
    Calls Try.prog 11 #[.string s] w fun e w' => (∃ v, e = .returned v ∧ SCo s v) ∧ Below w.heap.size w w' := by
  go_enter Try.func11, Try.ntmps11
  go_wp2
  go_loopw [6, 7, 8, 9] (fun _ _ _ _ wr => ∃ k : Nat, k ≤ s.size ∧ Hid (SJ w s k wr)) (fun _ _ _ _ wr => s.size - wr.iterPos (w.heap.size + 2))
  case atStart =>
    obtain ⟨a1, a2, a3, a4⟩ := scan_start w _ _ s
    exact ⟨0, Nat.zero_le _, ⟨a1, a2, a3, fun j hj => by omega, a4⟩⟩
  case round =>
    obtain ⟨k, hk, HJ⟩ := hrel
    by_cases hp : k < s.size
    · have hnx : ∀ ty, (Instr.next (.pointer (some ⟨w.heap.size + 2, 0, none⟩)) true ty).run Try.prog wr = _ := fun ty => Lib.run_next_any_at wr (w.heap.size + 2) s k ty HJ.out.i hp
      have hJ := HJ.out
      have hA := (Lib.iterAt_other wr (w.heap.size + 2) w.heap.size s (k + (Utf8.decode s k).2) (by omega)).trans hJ.a
      have hBx := (Lib.iterAt_other wr (w.heap.size + 2) (w.heap.size + 1) s (k + (Utf8.decode s k).2) (by omega)).trans hJ.b
      have hI := Lib.iterAt_heap wr (w.heap.size + 2) s k (k + (Utf8.decode s k).2) hJ.i
      have hL := Lib.below_iterAt hJ.l (k := w.heap.size + 2) (by omega) s (k + (Utf8.decode s k).2)
      have hpos := iterPos_at hJ.i
      have hr : (((Utf8.decode s k).1 : Nat) : Int) = ltr s k ∧ (Utf8.decode s k).2 = 1 ∨ (128 ≤ (((Utf8.decode s k).1 : Nat) : Int) ∧ 128 ≤ ltr s k) := by
        rw [ltr_in hp]
        by_cases ha : (s[k]'hp).toNat < 128
        · rw [decode_ascii s k hp ha]; exact .inl ⟨rfl, rfl⟩
        · have := (decode_high s k hp (by omega)).1
          exact .inr ⟨by omega, by omega⟩
      have hr2 := decode_le s k
      obtain ⟨W1, hW1⟩ : ∃ W1, W1 = wr.iterAt (w.heap.size + 2) s (k + (Utf8.decode s k).2) := ⟨_, rfl⟩
      rw [← hW1] at hnx hA hBx hI hL
      have HT := fun V => impl_take s k (((Utf8.decode s k).1 : Nat) : Int) V (by omega) (hr.imp And.left id)
      have hF : Hid (∀ j, j < k → ftB s j = true) := hJ.f
      clear HJ hJ hW1
      generalize (Utf8.decode s k).1 = r at *
      generalize (Utf8.decode s k).2 = wd at *
      have e1 : Hid (ftB s k = true → wd = 1) := fun h => by
        rcases hr with hr | hr
        · exact hr.2
        · exfalso
          unfold ftB tkB at h
          have := of_decide_eq_true h
          omega
      clear hr
      obtain ⟨y1, hy1⟩ : ∃ y1, stF s (k + 1) = y1 := ⟨_, rfl⟩
      rw [hy1] at HT
      have Hy1 : Hid (stF s (k + 1) = y1) := hy1
      clear hy1
      generalize stF s k = x at HT hBx
      obtain ⟨m, sl, tc, tv, bc, bv⟩ := x
      unfold fscV at HT
      simp only at HT hBx
      have HT' : Hid (∀ V, Calls Try.prog 18 #[.agg #[.bool m, .int .i64 sl, .int .i64 tc, .int .i64 tv, .int .i64 bc, .int .i64 bv], .int .i64 (k : Int), .int .i32 (r : Int)] V fun e w' => (∃ y : FSc, e = .returned (.tuple #[fscV y, .bool (ftB s k)]) ∧ (ftB s k = true → y = y1)) ∧ Below V.heap.size V w') := HT
      clear HT
      have c0 := pzCell hBx 0 rfl
      have c1 := pzCell hBx 1 rfl
      have c2 := pzCell hBx 2 rfl
      have c3 := pzCell hBx 3 rfl
      have c4 := pzCell hBx 4 rfl
      have c5 := pzCell hBx 5 rfl
      have l1 := pzLt hBx
      have hBx' : Hid (W1.heap[w.heap.size + 1]? = _) := hBx
      have hA' : Hid (W1.heap[w.heap.size]? = _) := hA
      have hI' : Hid (W1.heap[w.heap.size + 2]? = _) := hI
      have hL' : Hid (Below w.heap.size w W1) := hL
      clear hBx hA hI hL
      go_wp2_with (fail)
      refine (HT'.out _).mono ?_
      rintro e w1 ⟨⟨y, rfl, hy⟩, hb⟩
      obtain ⟨m', sl', tc', tv', bc', bv'⟩ := y
      unfold fscV
      simp only
      have hA1 := (hb.block _ (pzLt hA'.out)).trans hA'.out
      have hB1 := (hb.block _ (pzLt hBx'.out)).trans hBx'.out
      have hI1 := (hb.block _ (pzLt hI'.out)).trans hI'.out
      have hL1 : Hid (Below w.heap.size w w1) := hL'.out.trans (hb.mono hL'.out.size)
      have q1 := pzFroz hB1
      have q2 := pzLt hB1
      have q3 := pzFroz hA1
      have q4 := pzLt hA1
      have HA : Hid (w1.heap[w.heap.size]? = _) := hA1
      have HB : Hid (w1.heap[w.heap.size + 1]? = _) := hB1
      have HI : Hid (w1.heap[w.heap.size + 2]? = _) := hI1
      clear c0 c1 c2 c3 c4 c5
      have c0 := pzCell hB1 0 rfl
      have c1 := pzCell hB1 1 rfl
      have c2 := pzCell hB1 2 rfl
      have c3 := pzCell hB1 3 rfl
      have c4 := pzCell hB1 4 rfl
      have c5 := pzCell hB1 5 rfl
      have a0 := pzCell hA1 0 rfl
      have a1 := pzCell hA1 1 rfl
      have a2 := pzCell hA1 2 rfl
      have a3 := pzCell hA1 3 rfl
      have a4 := pzCell hA1 4 rfl
      have a5 := pzCell hA1 5 rfl
      clear hb hA1 hB1 hI1 l1 hA' hBx' hI' hL' HT'
      by_cases hfit : ftB s k = true
      · have hyy := hy hfit
        rw [hfit]
        clear hy a0 a1 a2 a3 a4 a5 q3
        go_wp2
        have hw := e1.out hfit
        subst hw
        subst hyy
        have hN := SJ.next (O := .cells #[.bool m', .int .i64 sl', .int .i64 tc', .int .i64 tv', .int .i64 bc', .int .i64 bv'] 36) Hy1.out HA.out HB.out HI.out hF.out hfit hL1.out
        refine ⟨⟨k + 1, hp, hN⟩, ?_⟩
        have hz := iterPos_at hN.i
        simp only at hz
        rw [hz, hpos]
        omega
      · have hfit : ftB s k = false := by simpa using hfit
        rw [hfit]
        clear hy c0 c1 c2 c3 c4 c5 q1 a0 a1 a2 a3 a4 a5 q3 q4 q2
        have HV : Hid (SCo s (.tuple #[.agg #[.bool false, .int .i64 0, .int .i64 0, .int .i64 0, .int .i64 0, .int .i64 0], .int .i64 (k : Int), .bool false])) := .inl ⟨k, hp, hF.out, hfit, rfl⟩
        go_upto_region 7 with fail
        have hA2 := (Below.heap_alloc w1 (.cells #[.bool m', .int .i64 sl', .int .i64 tc', .int .i64 tv', .int .i64 bc', .int .i64 bv'] 36) _ (pzLt HA.out)).trans HA.out
        have hL2 := hL1.out.alloc hL1.out.size (.cells #[.bool m', .int .i64 sl', .int .i64 tc', .int .i64 tv', .int .i64 bc', .int .i64 bv'] 36)
        obtain ⟨W2, hW2⟩ : ∃ W2, W2 = w1.alloc (.cells #[.bool m', .int .i64 sl', .int .i64 tc', .int .i64 tv', .int .i64 bc', .int .i64 bv'] 36) := ⟨_, rfl⟩
        rw [← hW2] at hA2 hL2 ⊢
        have HA2 : Hid (W2.heap[w.heap.size]? = _) := hA2
        have HL2 : Hid (Below w.heap.size w W2) := hL2
        clear hW2 HA HB HI hL1 hL2
        have a0 := pzCell hA2 0 rfl
        have a1 := pzCell hA2 1 rfl
        have a2 := pzCell hA2 2 rfl
        have a3 := pzCell hA2 3 rfl
        have a4 := pzCell hA2 4 rfl
        have a5 := pzCell hA2 5 rfl
        have q3 := pzFroz hA2
        have q4 := pzLt hA2
        clear hA2
        go_wp2
        clear a0 a1 a2 a3 a4 a5 q3
        have hz := pz6 (b0 := (.bool false)) (b1 := (.int .i64 0)) (b2 := (.int .i64 0)) (b3 := (.int .i64 0)) (b4 := (.int .i64 0)) (b5 := (.int .i64 0)) HA2.out
        have hzl := pz6_below (k := w.heap.size) (b0 := (.bool false)) (b1 := (.int .i64 0)) (b2 := (.int .i64 0)) (b3 := (.int .i64 0)) (b4 := (.int .i64 0)) (b5 := (.int .i64 0)) HL2.out (Nat.le_refl _)
        obtain ⟨W3, hW3⟩ : ∃ W3, W3 = ((((((W2.setCell ⟨w.heap.size, 0, none⟩ (.bool false)).setCell ⟨w.heap.size, 1, none⟩ (.int .i64 0)).setCell ⟨w.heap.size, 2, none⟩ (.int .i64 0)).setCell ⟨w.heap.size, 3, none⟩ (.int .i64 0)).setCell ⟨w.heap.size, 4, none⟩ (.int .i64 0)).setCell ⟨w.heap.size, 5, none⟩ (.int .i64 0)) := ⟨_, rfl⟩
        rw [← hW3] at hz hzl ⊢
        clear hW3
        have d0 := pzCell hz 0 rfl
        have d1 := pzCell hz 1 rfl
        have d2 := pzCell hz 2 rfl
        have d3 := pzCell hz 3 rfl
        have d4 := pzCell hz 4 rfl
        have d5 := pzCell hz 5 rfl
        have dl := pzLt hz
        refine bodyPost_ret (by simp [results, Try.results11, go_sem, d0, d1, d2, d3, d4, d5, dl]) rfl ⟨⟨_, rfl, HV.out⟩, hzl⟩
    · have hnx : ∀ ty, (Instr.next (.pointer (some ⟨w.heap.size + 2, 0, none⟩)) true ty).run Try.prog wr = _ := fun ty => Lib.run_next_end_at wr (w.heap.size + 2) s k ty HJ.out.i hp
      have hks : k = s.size := by omega
      have hJ := HJ.out
      have HC := fun V => impl_complete (stF s k) V
      have hF : Hid (∀ j, j < s.size → ftB s j = true) := by rw [← hks]; exact hJ.f
      have hx : Hid (stF s s.size = stF s k) := show stF s s.size = stF s k by rw [hks]
      have hA := hJ.a
      have hB := hJ.b
      have hL : Hid (Below w.heap.size w wr) := hJ.l
      clear hJ HJ hks
      generalize stF s k = x at HC hB hx
      obtain ⟨m, sl, tc, tv, bc, bv⟩ := x
      have hcm : Hid (∀ b, cmB ⟨m, sl, tc, tv, bc, bv⟩ = b → cmB (stF s s.size) = b) := fun b hb => by rw [hx.out]; exact hb
      unfold fscV at HC
      simp only at HC hB
      have HC' : Hid (∀ V, Calls Try.prog 19 #[.agg #[.bool m, .int .i64 sl, .int .i64 tc, .int .i64 tv, .int .i64 bc, .int .i64 bv]] V fun e w' => e = .returned (.bool (cmB ⟨m, sl, tc, tv, bc, bv⟩)) ∧ Below V.heap.size V w') := HC
      clear HC
      generalize cmB ⟨m, sl, tc, tv, bc, bv⟩ = cb at HC' hcm
      have c0 := pzCell hB 0 rfl
      have c1 := pzCell hB 1 rfl
      have c2 := pzCell hB 2 rfl
      have c3 := pzCell hB 3 rfl
      have c4 := pzCell hB 4 rfl
      have c5 := pzCell hB 5 rfl
      have l1 := pzLt hB
      have HA0 : Hid (wr.heap[w.heap.size]? = _) := hA
      have HB0 : Hid (wr.heap[w.heap.size + 1]? = _) := hB
      clear hA hB
      go_wp2_with (fail)
      refine (HC'.out _).mono ?_
      rintro e w1 ⟨rfl, hb⟩
      have hA1 := (hb.block _ (pzLt HA0.out)).trans HA0.out
      have hB1 := (hb.block _ (pzLt HB0.out)).trans HB0.out
      have hL1 : Hid (Below w.heap.size w w1) := hL.out.trans (hb.mono hL.out.size)
      have q3 := pzFroz hA1
      have q4 := pzLt hA1
      clear c0 c1 c2 c3 c4 c5 l1
      have a0 := pzCell hA1 0 rfl
      have a1 := pzCell hA1 1 rfl
      have a2 := pzCell hA1 2 rfl
      have a3 := pzCell hA1 3 rfl
      have a4 := pzCell hA1 4 rfl
      have a5 := pzCell hA1 5 rfl
      have c0 := pzCell hB1 0 rfl
      have c1 := pzCell hB1 1 rfl
      have c2 := pzCell hB1 2 rfl
      have c3 := pzCell hB1 3 rfl
      have c4 := pzCell hB1 4 rfl
      have c5 := pzCell hB1 5 rfl
      have q2 := pzLt hB1
      have HA : Hid (w1.heap[w.heap.size]? = _) := hA1
      clear hb hA1 hB1 HA0 HB0 HC' hL
      cases cb
      · clear c0 c1 c2 c3 c4 c5
        have HV : Hid (SCo s (.tuple #[.agg #[.bool false, .int .i64 0, .int .i64 0, .int .i64 0, .int .i64 0, .int .i64 0], .int .i64 (s.size : Int), .bool false])) := .inr (.inl ⟨hF.out, hcm.out _ rfl, rfl⟩)
        go_wp2
        clear a0 a1 a2 a3 a4 a5 q3
        have hz := pz6 (b0 := (.bool false)) (b1 := (.int .i64 0)) (b2 := (.int .i64 0)) (b3 := (.int .i64 0)) (b4 := (.int .i64 0)) (b5 := (.int .i64 0)) HA.out
        have hzl := pz6_below (k := w.heap.size) (b0 := (.bool false)) (b1 := (.int .i64 0)) (b2 := (.int .i64 0)) (b3 := (.int .i64 0)) (b4 := (.int .i64 0)) (b5 := (.int .i64 0)) hL1.out (Nat.le_refl _)
        obtain ⟨W3, hW3⟩ : ∃ W3, W3 = ((((((w1.setCell ⟨w.heap.size, 0, none⟩ (.bool false)).setCell ⟨w.heap.size, 1, none⟩ (.int .i64 0)).setCell ⟨w.heap.size, 2, none⟩ (.int .i64 0)).setCell ⟨w.heap.size, 3, none⟩ (.int .i64 0)).setCell ⟨w.heap.size, 4, none⟩ (.int .i64 0)).setCell ⟨w.heap.size, 5, none⟩ (.int .i64 0)) := ⟨_, rfl⟩
        rw [← hW3] at hz hzl ⊢
        clear hW3
        have d0 := pzCell hz 0 rfl
        have d1 := pzCell hz 1 rfl
        have d2 := pzCell hz 2 rfl
        have d3 := pzCell hz 3 rfl
        have d4 := pzCell hz 4 rfl
        have d5 := pzCell hz 5 rfl
        have dl := pzLt hz
        refine bodyPost_ret (by simp [results, Try.results11, go_sem, d0, d1, d2, d3, d4, d5, dl]) rfl ⟨⟨_, rfl, HV.out⟩, hzl⟩
      · have HV : Hid (SCo s (.tuple #[.agg #[.bool m, .int .i64 sl, .int .i64 tc, .int .i64 tv, .int .i64 bc, .int .i64 bv], .int .i64 0, .bool true])) := .inr (.inr ⟨hF.out, hcm.out _ rfl, by rw [hx.out]; rfl⟩)
        go_wp2
        clear a0 a1 a2 a3 a4 a5 c0 c1 c2 c3 c4 c5 q3
        have hz := pz6 (b0 := (.bool m)) (b1 := (.int .i64 sl)) (b2 := (.int .i64 tc)) (b3 := (.int .i64 tv)) (b4 := (.int .i64 bc)) (b5 := (.int .i64 bv)) HA.out
        have hzl := pz6_below (k := w.heap.size) (b0 := (.bool m)) (b1 := (.int .i64 sl)) (b2 := (.int .i64 tc)) (b3 := (.int .i64 tv)) (b4 := (.int .i64 bc)) (b5 := (.int .i64 bv)) hL1.out (Nat.le_refl _)
        obtain ⟨W3, hW3⟩ : ∃ W3, W3 = ((((((w1.setCell ⟨w.heap.size, 0, none⟩ (.bool m)).setCell ⟨w.heap.size, 1, none⟩ (.int .i64 sl)).setCell ⟨w.heap.size, 2, none⟩ (.int .i64 tc)).setCell ⟨w.heap.size, 3, none⟩ (.int .i64 tv)).setCell ⟨w.heap.size, 4, none⟩ (.int .i64 bc)).setCell ⟨w.heap.size, 5, none⟩ (.int .i64 bv)) := ⟨_, rfl⟩
        rw [← hW3] at hz hzl ⊢
        clear hW3
        have d0 := pzCell hz 0 rfl
        have d1 := pzCell hz 1 rfl
        have d2 := pzCell hz 2 rfl
        have d3 := pzCell hz 3 rfl
        have d4 := pzCell hz 4 rfl
        have d5 := pzCell hz 5 rfl
        have dl := pzLt hz
        refine bodyPost_ret (by simp [results, Try.results11, go_sem, d0, d1, d2, d3, d4, d5, dl]) rfl ⟨⟨_, rfl, HV.out⟩, hzl⟩
end Go.Proofs.Ytcojhkpdlmldcaa
