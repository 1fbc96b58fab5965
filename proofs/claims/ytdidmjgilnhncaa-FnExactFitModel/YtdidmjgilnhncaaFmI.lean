/- Proved here: sums over marks, quotients of numbers, of the program. -/
import Derived.Test.YtdidmjgilnhncaaFmM
import Derived.Test.YtdidmjgilnhncaaFsB0
import Derived.Test.YtdidmjgilnhncaaLwS
import Derived.Deep.DeepCutAuto
namespace Go.Proofs.Ytdidmjgilnhncaa
open Go.RowKit
set_option linter.unusedVariables false
set_option linter.unusedSimpArgs false

theorem nine_c {w : World} {k : Nat} {a b c d e f g h i : Value} {T : TypeId} (hh : w.heap[k]? = some (.cells #[a, b, c, d, e, f, g, h, i] T)) :
    (w.cell? ⟨k, 0, none⟩ = some a ∧ w.cell? ⟨k, 1, none⟩ = some b ∧ w.cell? ⟨k, 2, none⟩ = some c ∧ w.cell? ⟨k, 3, none⟩ = some d ∧ w.cell? ⟨k, 4, none⟩ = some e ∧ w.cell? ⟨k, 5, none⟩ = some f ∧ w.cell? ⟨k, 6, none⟩ = some g ∧ w.cell? ⟨k, 7, none⟩ = some h ∧ w.cell? ⟨k, 8, none⟩ = some i) ∧ (w.frozen? ⟨k, 0, none⟩ = false ∧ w.frozen? ⟨k, 1, none⟩ = false ∧ w.frozen? ⟨k, 2, none⟩ = false ∧ w.frozen? ⟨k, 3, none⟩ = false ∧ w.frozen? ⟨k, 4, none⟩ = false ∧ w.frozen? ⟨k, 5, none⟩ = false ∧ w.frozen? ⟨k, 6, none⟩ = false ∧ w.frozen? ⟨k, 7, none⟩ = false ∧ w.frozen? ⟨k, 8, none⟩ = false) ∧ k < w.heap.size :=
  ⟨⟨cellOf hh 0 rfl, cellOf hh 1 rfl, cellOf hh 2 rfl, cellOf hh 3 rfl, cellOf hh 4 rfl, cellOf hh 5 rfl, cellOf hh 6 rfl, cellOf hh 7 rfl, cellOf hh 8 rfl⟩, ⟨frozOf hh 0, frozOf hh 1, frozOf hh 2, frozOf hh 3, frozOf hh 4, frozOf hh 5, frozOf hh 6, frozOf hh 7, frozOf hh 8⟩, ltOf hh⟩
theorem set7 {w : World} {k : Nat} {a b c d e f g h i b' c' d' e' f' g' h' : Value} {T : TypeId} (hh : w.heap[k]? = some (.cells #[a, b, c, d, e, f, g, h, i] T)) :
    (((((((w.setCell ⟨k, 1, none⟩ b').setCell ⟨k, 2, none⟩ c').setCell ⟨k, 3, none⟩ d').setCell ⟨k, 4, none⟩ e').setCell ⟨k, 5, none⟩ f').setCell ⟨k, 6, none⟩ g').setCell ⟨k, 7, none⟩ h').heap[k]? = some (.cells #[a, b', c', d', e', f', g', h', i] T) := by
  have h1 := heap_setCell_same w k 1 _ _ b' hh
  have h2 := heap_setCell_same _ k 2 _ _ c' h1
  have h3 := heap_setCell_same _ k 3 _ _ d' h2
  have h4 := heap_setCell_same _ k 4 _ _ e' h3
  have h5 := heap_setCell_same _ k 5 _ _ f' h4
  have h6 := heap_setCell_same _ k 6 _ _ g' h5
  have h7 := heap_setCell_same _ k 7 _ _ h' h6
  simpa using h7
theorem set7_other {w : World} {k j : Nat} {b' c' d' e' f' g' h' : Value} (hn : j ≠ k) :
    (((((((w.setCell ⟨k, 1, none⟩ b').setCell ⟨k, 2, none⟩ c').setCell ⟨k, 3, none⟩ d').setCell ⟨k, 4, none⟩ e').setCell ⟨k, 5, none⟩ f').setCell ⟨k, 6, none⟩ g').setCell ⟨k, 7, none⟩ h').heap[j]? = w.heap[j]? := by
  rw [heap_setCell_other _ _ _ _ (by simpa using hn), heap_setCell_other _ _ _ _ (by simpa using hn), heap_setCell_other _ _ _ _ (by simpa using hn), heap_setCell_other _ _ _ _ (by simpa using hn), heap_setCell_other _ _ _ _ (by simpa using hn), heap_setCell_other _ _ _ _ (by simpa using hn), heap_setCell_other _ _ _ _ (by simpa using hn)]

set_option maxRecDepth 10000 in
set_option maxHeartbeats 12800000 in
theorem impl_sums {w : World} {v : Value} {s : List Mrk} (hm : msF s = 0) (h : RG 4 maC w v s) :
    Calls Try.prog 61 #[v] w fun e w' => e = .returned (.agg #[.int .i64 (s.length : Int), .int .i64 (smM fX s), .int .i64 (smM fY s), .int .i64 (smM fQ s), .int .i64 (smM fU s), .int .i64 (smM fV s), .int .i64 (smM fA s), .int .i64 (smM fB s), .int .i64 (fmD s)]) ∧ Below w.heap.size w w' := by
  obtain ⟨a, c, rfl⟩ := h.form
  have h20 := (msF_ok hm).2.1
  obtain ⟨n, hnn⟩ : ∃ n, n = s.length := ⟨_, rfl⟩
  rw [← hnn] at h h20 ⊢
  obtain ⟨D, hD⟩ : ∃ D, D = fmD s := ⟨_, rfl⟩
  rw [← hD]
  obtain ⟨EX, heX⟩ : ∃ D, D = smM fX s := ⟨_, rfl⟩
  obtain ⟨EY, heY⟩ : ∃ D, D = smM fY s := ⟨_, rfl⟩
  obtain ⟨EQ, heQ⟩ : ∃ D, D = smM fQ s := ⟨_, rfl⟩
  obtain ⟨EU, heU⟩ : ∃ D, D = smM fU s := ⟨_, rfl⟩
  obtain ⟨EV, heV⟩ : ∃ D, D = smM fV s := ⟨_, rfl⟩
  obtain ⟨EA, heA⟩ : ∃ D, D = smM fA s := ⟨_, rfl⟩
  obtain ⟨EB, heB⟩ : ∃ D, D = smM fB s := ⟨_, rfl⟩
  rw [← heX, ← heY, ← heQ, ← heU, ← heV, ← heA, ← heB]
  have HE : Hid (EX = smM fX s ∧ EY = smM fY s ∧ EQ = smM fQ s ∧ EU = smM fU s ∧ EV = smM fV s ∧ EA = smM fA s ∧ EB = smM fB s ∧ D = fmD s) := ⟨heX, heY, heQ, heU, heV, heA, heB, hD⟩
  have H : Hid (RG 4 maC w (.slice a n c) s ∧ n = s.length ∧ msF s = 0) := ⟨h, hnn, hm⟩
  clear h hnn hm hD heX heY heQ heU heV heA heB
  obtain ⟨V, hV⟩ : ∃ V, V = (w.alloc (.cells #[.int .i64 0, .int .i64 0, .int .i64 0, .int .i64 0, .int .i64 0, .int .i64 0, .int .i64 0, .int .i64 0, .int .i64 0] 103)).alloc (.cells #[.int .i64 (n : Int), .int .i64 0, .int .i64 0, .int .i64 0, .int .i64 0, .int .i64 0, .int .i64 0, .int .i64 0, .int .i64 0] 103) := ⟨_, rfl⟩
  have HV : Hid (V.heap[w.heap.size]? = some (.cells #[.int .i64 0, .int .i64 0, .int .i64 0, .int .i64 0, .int .i64 0, .int .i64 0, .int .i64 0, .int .i64 0, .int .i64 0] 103) ∧ Below w.heap.size w V ∧ V.heap[w.heap.size + 1]? = some (.cells #[.int .i64 (n : Int), .int .i64 0, .int .i64 0, .int .i64 0, .int .i64 0, .int .i64 0, .int .i64 0, .int .i64 0, .int .i64 0] 103)) := by
    refine ⟨?_, by rw [hV]; (repeat' (first | (with_reducible exact Below.refl _ _) | (with_reducible assumption) | (with_reducible refine Below.setCell ?_ ?_ _) | (with_reducible refine Below.alloc ?_ ?_ _) | (with_reducible refine below_drewN ?_ _) | (with_reducible refine Below.drew ?_) | (with_reducible exact Nat.le_refl _) | omega | (simp; done) | (simp; omega))), ?_⟩
    · rw [hV]; exact (Below.heap_alloc _ _ _ (by simp)).trans (heap_alloc_new w _)
    · rw [hV]; have := heap_alloc_new (w.alloc (.cells #[.int .i64 0, .int .i64 0, .int .i64 0, .int .i64 0, .int .i64 0, .int .i64 0, .int .i64 0, .int .i64 0, .int .i64 0] 103)) (.cells #[.int .i64 (n : Int), .int .i64 0, .int .i64 0, .int .i64 0, .int .i64 0, .int .i64 0, .int .i64 0, .int .i64 0, .int .i64 0] 103); simpa using this
  go_enter Try.func61, Try.ntmps61
  go_wp2
  rw [← hV]
  clear hV
  go_loopw [11] (fun i wr => ∃ k : Nat, k ≤ n ∧ i = .int .i64 k ∧ Hid (wr.heap[w.heap.size]? = some (.cells #[.int .i64 0, .int .i64 0, .int .i64 0, .int .i64 0, .int .i64 0, .int .i64 0, .int .i64 0, .int .i64 0, .int .i64 0] 103) ∧ Below w.heap.size w wr ∧ wr.heap[w.heap.size + 1]? = some (.cells #[.int .i64 (n : Int), .int .i64 (smM fX (s.take k)), .int .i64 (smM fY (s.take k)), .int .i64 (smM fQ (s.take k)), .int .i64 (smM fU (s.take k)), .int .i64 (smM fV (s.take k)), .int .i64 (smM fA (s.take k)), .int .i64 (smM fB (s.take k)), .int .i64 0] 103))) (fun i _ => n - (intOf i).toNat)
  case atStart => exact ⟨0, Nat.zero_le _, rfl, HV.out⟩
  case round =>
    clear HV
    obtain ⟨k, hk, rfl, hR⟩ := hrel
    have hsb := sums_bd (s := s.take k) (by rw [List.length_take, ← H.out.2.1]; omega) (fun m hm => (msF_ok H.out.2.2).2.2 m (List.mem_of_mem_take hm))
    obtain ⟨SX, hsX⟩ : ∃ D, D = smM fX (s.take k) := ⟨_, rfl⟩
    obtain ⟨SY, hsY⟩ : ∃ D, D = smM fY (s.take k) := ⟨_, rfl⟩
    obtain ⟨SQ, hsQ⟩ : ∃ D, D = smM fQ (s.take k) := ⟨_, rfl⟩
    obtain ⟨SU, hsU⟩ : ∃ D, D = smM fU (s.take k) := ⟨_, rfl⟩
    obtain ⟨SV, hsV⟩ : ∃ D, D = smM fV (s.take k) := ⟨_, rfl⟩
    obtain ⟨SA, hsA⟩ : ∃ D, D = smM fA (s.take k) := ⟨_, rfl⟩
    obtain ⟨SB, hsB⟩ : ∃ D, D = smM fB (s.take k) := ⟨_, rfl⟩
    rw [← hsX, ← hsY, ← hsQ, ← hsU, ← hsV, ← hsA, ← hsB] at hR hsb
    by_cases hlt : k < n
    · have hjl : k < s.length := by rw [← H.out.2.1]; exact hlt
      obtain ⟨g, o, c2, he, hg, hj⟩ := (H.out.1.below hR.out.2.1).pos (by omega)
      simp only [Value.slice.injEq] at he
      obtain ⟨rfl, hx1, hx2⟩ := he
      clear hx1 hx2
      obtain ⟨d0, d1, d2, d3⟩ := maC_at (hj k hjl)
      obtain ⟨mk, hmk⟩ : ∃ x, x = s[k] := ⟨_, rfl⟩
      rw [← hmk] at d0 d1 d2 d3
      have hbd := (msF_ok H.out.2.2).2.2 mk (by rw [hmk]; exact List.getElem_mem hjl)
      have hbm := mk_bd hbd
      have HN : Hid (smM fX (s.take (k + 1)) = SX + fX mk ∧ smM fY (s.take (k + 1)) = SY + fY mk ∧ smM fQ (s.take (k + 1)) = SQ + fQ mk ∧ smM fU (s.take (k + 1)) = SU + fU mk ∧ smM fV (s.take (k + 1)) = SV + fV mk ∧ smM fA (s.take (k + 1)) = SA + fA mk ∧ smM fB (s.take (k + 1)) = SB + fB mk) := by
        rw [hmk, hsX, hsY, hsQ, hsU, hsV, hsA, hsB]
        exact ⟨smM_take fX hjl, smM_take fY hjl, smM_take fQ hjl, smM_take fU hjl, smM_take fV hjl, smM_take fA hjl, smM_take fB hjl⟩
      have HWr : Hid (wr.heap[w.heap.size]? = some (.cells #[.int .i64 0, .int .i64 0, .int .i64 0, .int .i64 0, .int .i64 0, .int .i64 0, .int .i64 0, .int .i64 0, .int .i64 0] 103) ∧ Below w.heap.size w wr ∧ wr.heap[w.heap.size + 1]? = some (.cells #[.int .i64 (n : Int), .int .i64 SX, .int .i64 SY, .int .i64 SQ, .int .i64 SU, .int .i64 SV, .int .i64 SA, .int .i64 SB, .int .i64 0] 103)) := hR.out
      clear hR hj hmk hsX hsY hsQ hsU hsV hsA hsB
      obtain ⟨x, y, dx, dy⟩ := mk
      simp only at hbd hbm
      obtain ⟨xx, hxx⟩ : ∃ z, z = x * x := ⟨_, rfl⟩
      obtain ⟨yy, hyy⟩ : ∃ z, z = y * y := ⟨_, rfl⟩
      obtain ⟨xd, hxd⟩ : ∃ z, z = x * dx := ⟨_, rfl⟩
      obtain ⟨ye, hye⟩ : ∃ z, z = y * dy := ⟨_, rfl⟩
      obtain ⟨xe, hxe⟩ : ∃ z, z = x * dy := ⟨_, rfl⟩
      obtain ⟨yd, hyd⟩ : ∃ z, z = y * dx := ⟨_, rfl⟩
      rw [← hxx, ← hyy, ← hxd, ← hye, ← hxe, ← hyd] at hbm
      have wxx : IntKind.i64.wrap (x * x) = xx := by rw [← hxx, IntKind.wrap_i64]; omega
      have wyy : IntKind.i64.wrap (y * y) = yy := by rw [← hyy, IntKind.wrap_i64]; omega
      have wxd : IntKind.i64.wrap (x * dx) = xd := by rw [← hxd, IntKind.wrap_i64]; omega
      have wye : IntKind.i64.wrap (y * dy) = ye := by rw [← hye, IntKind.wrap_i64]; omega
      have wxe : IntKind.i64.wrap (x * dy) = xe := by rw [← hxe, IntKind.wrap_i64]; omega
      have wyd : IntKind.i64.wrap (y * dx) = yd := by rw [← hyd, IntKind.wrap_i64]; omega
      have v0 : IntKind.i64.wrap (SX + x) = SX + x := by rw [IntKind.wrap_i64]; omega
      have v1 : IntKind.i64.wrap (SY + y) = SY + y := by rw [IntKind.wrap_i64]; omega
      have v2 : IntKind.i64.wrap (xx + yy) = xx + yy := by rw [IntKind.wrap_i64]; omega
      have v3 : IntKind.i64.wrap (SQ + (xx + yy)) = SQ + (xx + yy) := by rw [IntKind.wrap_i64]; omega
      have v4 : IntKind.i64.wrap (SU + dx) = SU + dx := by rw [IntKind.wrap_i64]; omega
      have v5 : IntKind.i64.wrap (SV + dy) = SV + dy := by rw [IntKind.wrap_i64]; omega
      have v6 : IntKind.i64.wrap (xd + ye) = xd + ye := by rw [IntKind.wrap_i64]; omega
      have v7 : IntKind.i64.wrap (SA + (xd + ye)) = SA + (xd + ye) := by rw [IntKind.wrap_i64]; omega
      have v8 : IntKind.i64.wrap (xe - yd) = xe - yd := by rw [IntKind.wrap_i64]; omega
      have v9 : IntKind.i64.wrap (SB + (xe - yd)) = SB + (xe - yd) := by rw [IntKind.wrap_i64]; omega
      have HN2 : Hid (smM fX (s.take (k + 1)) = SX + x ∧ smM fY (s.take (k + 1)) = SY + y ∧ smM fQ (s.take (k + 1)) = SQ + (xx + yy) ∧ smM fU (s.take (k + 1)) = SU + dx ∧ smM fV (s.take (k + 1)) = SV + dy ∧ smM fA (s.take (k + 1)) = SA + (xd + ye) ∧ smM fB (s.take (k + 1)) = SB + (xe - yd)) := by
        rw [hxx, hyy, hxd, hye, hxe, hyd]
        have e := HN.out
        unfold fX fY fQ fU fV fA fB at e ⊢
        exact e
      clear HN hxx hyy hxd hye hxe hyd
      obtain ⟨⟨p0, p1, p2, p3, p4, p5, p6, p7, p8⟩, ⟨pf0, pf1, pf2, pf3, pf4, pf5, pf6, pf7, pf8⟩, pl⟩ := nine_c HWr.out.2.2
      have b0 : (0 : Int) ≤ (k : Int) := by omega
      have b1 : (k : Int) < (n : Int) := by omega
      have hKw : w.heap.size + 1 < wr.heap.size := pl
      go_wp2
      go_roundw
      case rel =>
        refine ⟨k + 1, by omega, by go_num, ?_⟩
        obtain ⟨e1, e2, e3, e4, e5, e6, e7⟩ := HN2.out
        rw [e1, e2, e3, e4, e5, e6, e7]
        have hr0 := ltOf HWr.out.1
        refine ⟨?_, ?_, ?_⟩
        · exact (Below.heap_alloc _ _ _ (by simp; omega)).trans ((set7_other (by omega)).trans HWr.out.1)
        · have hb := HWr.out.2.1
          have hs := hb.size
          (repeat' (first | (with_reducible exact Below.refl _ _) | (with_reducible assumption) | (with_reducible refine Below.setCell ?_ ?_ _) | (with_reducible refine Below.alloc ?_ ?_ _) | (with_reducible refine below_drewN ?_ _) | (with_reducible refine Below.drew ?_) | (with_reducible exact Nat.le_refl _) | omega | (simp; done) | (simp; omega)))
        · exact (Below.heap_alloc _ _ _ (by simp; omega)).trans (set7 HWr.out.2.2)
      case measure => simp [intOf]; omega
    · have hall : s.take k = s := List.take_of_length_le (by rw [← H.out.2.1]; omega)
      rw [hall] at hsX hsY hsQ hsU hsV hsA hsB
      have HS : Hid (EX = SX ∧ EY = SY ∧ EQ = SQ ∧ EU = SU ∧ EV = SV ∧ EA = SA ∧ EB = SB ∧ D = (n : Int) * SQ - SX * SX - SY * SY) := by
        obtain ⟨h1, h2, h3, h4, h5, h6, h7, h8⟩ := HE.out
        refine ⟨h1.trans hsX.symm, h2.trans hsY.symm, h3.trans hsQ.symm, h4.trans hsU.symm, h5.trans hsV.symm, h6.trans hsA.symm, h7.trans hsB.symm, ?_⟩
        rw [h8]; unfold fmD; rw [← H.out.2.1, hsQ, hsX, hsY]
      obtain ⟨nq, hnq⟩ : ∃ z, z = (n : Int) * SQ := ⟨_, rfl⟩
      obtain ⟨x2, hx2⟩ : ∃ z, z = SX * SX := ⟨_, rfl⟩
      obtain ⟨y2, hy2⟩ : ∃ z, z = SY * SY := ⟨_, rfl⟩
      have a1 := pr_in (A := 20) (B := 100000) (x := (n : Int)) (y := SQ) (by omega) (by omega) (by omega) (by omega)
      have a2 := pr_in (A := 1000) (B := 1000) (x := SX) (y := SX) (by omega) (by omega) (by omega) (by omega)
      have a3 := pr_in (A := 1000) (B := 1000) (x := SY) (y := SY) (by omega) (by omega) (by omega) (by omega)
      rw [← hnq] at a1
      rw [← hx2] at a2
      rw [← hy2] at a3
      have w1 : IntKind.i64.wrap ((n : Int) * SQ) = nq := by rw [← hnq, IntKind.wrap_i64]; omega
      have w2 : IntKind.i64.wrap (SX * SX) = x2 := by rw [← hx2, IntKind.wrap_i64]; omega
      have w3 : IntKind.i64.wrap (SY * SY) = y2 := by rw [← hy2, IntKind.wrap_i64]; omega
      have w4 : IntKind.i64.wrap (nq - x2) = nq - x2 := by rw [IntKind.wrap_i64]; omega
      have w5 : IntKind.i64.wrap (nq - x2 - y2) = nq - x2 - y2 := by rw [IntKind.wrap_i64]; omega
      have HS2 : Hid (EX = SX ∧ EY = SY ∧ EQ = SQ ∧ EU = SU ∧ EV = SV ∧ EA = SA ∧ EB = SB ∧ D = nq - x2 - y2) := by
        rw [hnq, hx2, hy2]; exact HS.out
      have HWr : Hid (wr.heap[w.heap.size]? = some (.cells #[.int .i64 0, .int .i64 0, .int .i64 0, .int .i64 0, .int .i64 0, .int .i64 0, .int .i64 0, .int .i64 0, .int .i64 0] 103) ∧ Below w.heap.size w wr ∧ wr.heap[w.heap.size + 1]? = some (.cells #[.int .i64 (n : Int), .int .i64 SX, .int .i64 SY, .int .i64 SQ, .int .i64 SU, .int .i64 SV, .int .i64 SA, .int .i64 SB, .int .i64 0] 103)) := hR.out
      clear hR HS hnq hx2 hy2 a1 a2 a3 hsb hall hsX hsY hsQ hsU hsV hsA hsB
      obtain ⟨⟨p0, p1, p2, p3, p4, p5, p6, p7, p8⟩, ⟨pf0, pf1, pf2, pf3, pf4, pf5, pf6, pf7, pf8⟩, pl⟩ := nine_c HWr.out.2.2
      obtain ⟨⟨q0, q1, q2, q3, q4, q5, q6, q7, q8⟩, ⟨qf0, qf1, qf2, qf3, qf4, qf5, qf6, qf7, qf8⟩, ql⟩ := nine_c HWr.out.1
      have HB : Hid (Below w.heap.size w wr) := HWr.out.2.1
      clear HWr
      go_wp2
      try simp only [Exit.inBlock, Exit.then]
      refine bodyPost_ret (by simp [results, Try.results61, go_sem, q0, q1, q2, q3, q4, q5, q6, q7, q8, ql]; try rfl) rfl ⟨?_, ?_⟩
      · obtain ⟨e1, e2, e3, e4, e5, e6, e7, e8⟩ := HS2.out
        rw [e1, e2, e3, e4, e5, e6, e7, e8] <;> rfl
      · have hb := HB.out
        (repeat' (first | (with_reducible exact Below.refl _ _) | (with_reducible assumption) | (with_reducible refine Below.setCell ?_ ?_ _) | (with_reducible refine Below.alloc ?_ ?_ _) | (with_reducible refine below_drewN ?_ _) | (with_reducible refine Below.drew ?_) | (with_reducible exact Nat.le_refl _) | omega | (simp; done) | (simp; omega)))

set_option maxHeartbeats 1600000 in
theorem impl_make (n d : Int) (w : World) (hd : 1 ≤ d ∧ d ≤ 1000000000000000000) (hn : -1000000000000000000 ≤ n ∧ n ≤ 1000000000000000000) :
    Calls Try.prog 62 #[.int .i64 n, .int .i64 d] w fun e w' => e = .returned (.agg #[.int .i64 (rqQ n d).c, .int .i64 (rqQ n d).n, .int .i64 (rqQ n d).d]) ∧ Below w.heap.size w w' := by
  obtain ⟨q, hq⟩ : ∃ q, q = rqQ n d := ⟨_, rfl⟩
  have HQ : Hid (∀ V, Calls Try.prog 80 #[.int .i64 n, .int .i64 d] V fun e w' => e = .returned (.agg #[.int .i64 (q).c, .int .i64 (q).n, .int .i64 (q).d]) ∧ Below V.heap.size V w') := fun V => by
    rw [hq]; exact impl_rq_pos n d V (by omega) (by omega) (by omega) (by omega)
  rw [← hq]
  clear hq
  obtain ⟨qc, qn, qd⟩ := q
  have h1 : ¬ n < -1000000000000000000 := by omega
  have h2 : ¬ (1000000000000000000 : Int) < n := by omega
  have h3 : ¬ d < -1000000000000000000 := by omega
  have h4 : ¬ (1000000000000000000 : Int) < d := by omega
  have h5 : (d == 0) = false := by simp; omega
  go_enter Try.func62, Try.ntmps62
  go_wp2_with (fail)
  refine (HQ.out _).mono ?_
  rintro e w1 ⟨rfl, hb1⟩
  have j1 := (hb1.block w.heap.size (by simp)).trans (heap_alloc_new w (.cells #[.int .i64 0, .int .i64 0, .int .i64 0] 90))
  obtain ⟨q0, q1, q2, qf0, qf1, qf2, ql⟩ := three_c j1
  have HB : Hid (Below w.heap.size w w1) := (show Below w.heap.size w _ from by (repeat' (first | (with_reducible exact Below.refl _ _) | (with_reducible assumption) | (with_reducible refine Below.setCell ?_ ?_ _) | (with_reducible refine Below.alloc ?_ ?_ _) | (with_reducible refine below_drewN ?_ _) | (with_reducible refine Below.drew ?_) | (with_reducible exact Nat.le_refl _) | omega | (simp; done) | (simp; omega)))).trans (hb1.mono (by simp))
  clear hb1 j1
  go_wp2
  try simp only [Exit.inBlock, Exit.then]
  refine bodyPost_ret (by simp [results, Try.results62, go_sem, q0, q1, q2, ql]; try rfl) rfl ⟨rfl, ?_⟩
  have hb := HB.out
  (repeat' (first | (with_reducible exact Below.refl _ _) | (with_reducible assumption) | (with_reducible refine Below.setCell ?_ ?_ _) | (with_reducible refine Below.alloc ?_ ?_ _) | (with_reducible refine below_drewN ?_ _) | (with_reducible refine Below.drew ?_) | (with_reducible exact Nat.le_refl _) | omega | (simp; done) | (simp; omega)))

end Go.Proofs.Ytdidmjgilnhncaa
