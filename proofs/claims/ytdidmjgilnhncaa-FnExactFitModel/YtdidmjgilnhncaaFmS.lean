/- Proved here: FitModel of the document's model: fmC, fmM. -/
import Derived.Test.YtdidmjgilnhncaaFmM
import Derived.Test.YtdidmjgilnhncaaLwS
import Derived.Test.YtdidmjgilnhncaaMaS
import Derived.Test.YtdidmjgilnhncaaLow
import Derived.StillTail
namespace Go.Proofs.Ytdidmjgilnhncaa
open Go.RowKit
set_option linter.unusedVariables false
set_option linter.unusedSimpArgs false

theorem nine_d {w : World} {k : Nat} {a b c d e f g h i : Value} {T : TypeId} (hh : w.heap[k]? = some (.cells #[a, b, c, d, e, f, g, h, i] T)) :
    (w.cell? ⟨k, 0, none⟩ = some a ∧ w.cell? ⟨k, 1, none⟩ = some b ∧ w.cell? ⟨k, 2, none⟩ = some c ∧ w.cell? ⟨k, 3, none⟩ = some d ∧ w.cell? ⟨k, 4, none⟩ = some e ∧ w.cell? ⟨k, 5, none⟩ = some f ∧ w.cell? ⟨k, 6, none⟩ = some g ∧ w.cell? ⟨k, 7, none⟩ = some h ∧ w.cell? ⟨k, 8, none⟩ = some i) ∧ (w.frozen? ⟨k, 0, none⟩ = false ∧ w.frozen? ⟨k, 1, none⟩ = false ∧ w.frozen? ⟨k, 2, none⟩ = false ∧ w.frozen? ⟨k, 3, none⟩ = false ∧ w.frozen? ⟨k, 4, none⟩ = false ∧ w.frozen? ⟨k, 5, none⟩ = false ∧ w.frozen? ⟨k, 6, none⟩ = false ∧ w.frozen? ⟨k, 7, none⟩ = false ∧ w.frozen? ⟨k, 8, none⟩ = false) ∧ k < w.heap.size :=
  ⟨⟨cellOf hh 0 rfl, cellOf hh 1 rfl, cellOf hh 2 rfl, cellOf hh 3 rfl, cellOf hh 4 rfl, cellOf hh 5 rfl, cellOf hh 6 rfl, cellOf hh 7 rfl, cellOf hh 8 rfl⟩, ⟨frozOf hh 0, frozOf hh 1, frozOf hh 2, frozOf hh 3, frozOf hh 4, frozOf hh 5, frozOf hh 6, frozOf hh 7, frozOf hh 8⟩, ltOf hh⟩


set_option maxRecDepth 10000 in
set_option maxHeartbeats 25600000 in
theorem spec_fm {w : World} {v : Value} {s : List Mrk} (hn : s.length ≤ 1048576) (h : RG 4 maC w v s) :
    Calls Try.prog 26 #[v] w fun e w' => e = .returned (.agg #[.int .i64 (fmC s), .int .i64 (fmM s).sx.n, .int .i64 (fmM s).sx.d, .int .i64 (fmM s).sy.n, .int .i64 (fmM s).sy.d, .int .i64 (fmM s).k.n, .int .i64 (fmM s).k.d, .int .i64 (fmM s).r.n, .int .i64 (fmM s).r.d]) ∧ Below w.heap.size w w' := by
  obtain ⟨a, c, rfl⟩ := h.form
  obtain ⟨n, hnn⟩ : ∃ n, n = s.length := ⟨_, rfl⟩
  obtain ⟨C, hC⟩ : ∃ C, C = fmC s := ⟨_, rfl⟩
  obtain ⟨M, hM⟩ : ∃ C, C = fmM s := ⟨_, rfl⟩
  obtain ⟨ms, hms⟩ : ∃ C, C = msF s := ⟨_, rfl⟩
  rw [← hC, ← hM]
  have HMS : Hid (∀ W, Below w.heap.size w W → Calls Try.prog 16 #[.slice a n c] W fun e w' => e = .returned (.int .i64 ms) ∧ Below W.heap.size W w') := fun W hW => by rw [hms, hnn]; exact spec_msF hn (h.below hW)
  rw [← hnn] at h ⊢
  have H : Hid (RG 4 maC w (.slice a n c) s ∧ n = s.length ∧ C = fmC s ∧ M = fmM s ∧ ms = msF s ∧ (C ≠ 0 → M = md0)) := ⟨h, hnn, hC, hM, hms, fun h0 => by rw [hM]; unfold fmM; rw [if_neg (by rw [← hC]; exact h0)]⟩
  clear h hnn hn hC hM hms
  obtain ⟨V, hV⟩ : ∃ V, V = w.alloc (.cells #[.int .i64 0, .int .i64 0, .int .i64 0, .int .i64 0, .int .i64 0, .int .i64 0, .int .i64 0, .int .i64 0, .int .i64 0] 55) := ⟨_, rfl⟩
  have HV : Hid (V.heap[w.heap.size]? = some (.cells #[.int .i64 0, .int .i64 0, .int .i64 0, .int .i64 0, .int .i64 0, .int .i64 0, .int .i64 0, .int .i64 0, .int .i64 0] 55) ∧ Below w.heap.size w V) := ⟨by rw [hV]; exact heap_alloc_new w _, by rw [hV]; (repeat' (first | (with_reducible exact Below.refl _ _) | (with_reducible assumption) | (with_reducible refine Below.setCell ?_ ?_ _) | (with_reducible refine Below.alloc ?_ ?_ _) | (with_reducible refine below_drewN ?_ _) | (with_reducible refine Below.drew ?_) | (with_reducible exact Nat.le_refl _) | omega | (simp; done) | (simp; omega)))⟩
  go_enter Try.func26, Try.ntmps26
  go_upto_region 1 with fail
  rw [← hV]
  clear hV
  go_wp2_with (fail)
  refine (HMS.out _ HV.out.2).mono ?_
  rintro e w1 ⟨rfl, hb1⟩
  have HW1 : Hid (w1.heap[w.heap.size]? = some (.cells #[.int .i64 0, .int .i64 0, .int .i64 0, .int .i64 0, .int .i64 0, .int .i64 0, .int .i64 0, .int .i64 0, .int .i64 0] 55) ∧ Below w.heap.size w w1) := ⟨(hb1.block _ (ltOf HV.out.1)).trans HV.out.1, HV.out.2.trans (hb1.mono HV.out.2.size)⟩
  clear hb1 HV HMS
  obtain ⟨⟨q0, q1, q2, q3, q4, q5, q6, q7, q8⟩, ⟨qf0, qf1, qf2, qf3, qf4, qf5, qf6, qf7, qf8⟩, ql⟩ := nine_d HW1.out.1
  by_cases hms0 : ms = 0
  case neg =>
    have HE : Hid (C = ms ∧ M = md0) := by
      have e : C = ms := by rw [H.out.2.2.1, fmC_ms (by rw [← H.out.2.2.2.2.1]; exact hms0), H.out.2.2.2.2.1]
      exact ⟨e, H.out.2.2.2.2.2 (by rw [e]; exact hms0)⟩
    have hA : (ms != 0) = true := by simpa using hms0
    have HB : Hid (Below w.heap.size w w1) := HW1.out.2
    clear hms0 HW1
    go_wp2
    try simp only [Exit.inBlock, Exit.then]
    refine bodyPost_ret (by simp [results, Try.results26, go_sem, q0, q1, q2, q3, q4, q5, q6, q7, q8, ql]; try rfl) rfl ⟨by rw [HE.out.1, HE.out.2] <;> rfl, ?_⟩
    have hb := HB.out
    (repeat' (first | (with_reducible exact Below.refl _ _) | (with_reducible assumption) | (with_reducible refine Below.setCell ?_ ?_ _) | (with_reducible refine Below.alloc ?_ ?_ _) | (with_reducible refine below_drewN ?_ _) | (with_reducible refine Below.drew ?_) | (with_reducible exact Nat.le_refl _) | omega | (simp; done) | (simp; omega)))

  have hA : (ms != 0) = false := by rw [hms0]; rfl
  have HM0 : Hid (msF s = 0 ∧ C = orL [(fm1 s).c, (fm2 s).c, (fm3 s).c, (fm4 s).c]) := by
    have e : msF s = 0 := by rw [← H.out.2.2.2.2.1]; exact hms0
    exact ⟨e, by rw [H.out.2.2.1, fmC_or e]⟩
  clear hms0
  clear q0 q1 q2 q3 q4 q5 q6 q7 q8 qf0 qf1 qf2 qf3 qf4 qf5 qf6 qf7 qf8 ql
  have h20 : n ≤ 20 := by rw [H.out.2.1]; exact (msF_ok HM0.out.1).2.1
  go_wp2
  go_loopw [5, 6, 7, 8, 9, 10, 11, 12] (fun r5 r6 r7 r8 r9 r10 r11 i wr => ∃ (k : Nat) (SX SY SQ SU SV SA SB : Int), k ≤ n ∧ i = .int .i64 k ∧ r5 = .int .i64 SX ∧ r6 = .int .i64 SY ∧ r7 = .int .i64 SQ ∧ r8 = .int .i64 SU ∧ r9 = .int .i64 SV ∧ r10 = .int .i64 SA ∧ r11 = .int .i64 SB ∧ Hid (SX = smM fX (s.take k) ∧ SY = smM fY (s.take k) ∧ SQ = smM fQ (s.take k) ∧ SU = smM fU (s.take k) ∧ SV = smM fV (s.take k) ∧ SA = smM fA (s.take k) ∧ SB = smM fB (s.take k) ∧ wr.heap[w.heap.size]? = some (.cells #[.int .i64 0, .int .i64 0, .int .i64 0, .int .i64 0, .int .i64 0, .int .i64 0, .int .i64 0, .int .i64 0, .int .i64 0] 55) ∧ Below w.heap.size w wr)) (fun _ _ _ _ _ _ _ i _ => n - (intOf i).toNat)
  case atStart => exact ⟨0, 0, 0, 0, 0, 0, 0, 0, Nat.zero_le _, rfl, rfl, rfl, rfl, rfl, rfl, rfl, rfl, rfl, rfl, rfl, rfl, rfl, rfl, rfl, HW1.out⟩
  case round =>
    clear HW1
    obtain ⟨k, SX, SY, SQ, SU, SV, SA, SB, hk, rfl, rfl, rfl, rfl, rfl, rfl, rfl, rfl, hR⟩ := hrel
    have hsb := sums_bd (s := s.take k) (by rw [List.length_take, ← H.out.2.1]; omega) (fun m hm => (msF_ok HM0.out.1).2.2 m (List.mem_of_mem_take hm))
    have HR : Hid (wr.heap[w.heap.size]? = some (.cells #[.int .i64 0, .int .i64 0, .int .i64 0, .int .i64 0, .int .i64 0, .int .i64 0, .int .i64 0, .int .i64 0, .int .i64 0] 55) ∧ Below w.heap.size w wr) := hR.out.2.2.2.2.2.2.2
    obtain ⟨hsX, hsY, hsQ, hsU, hsV, hsA, hsB, _, _⟩ := hR.out
    clear hR
    rw [← hsX, ← hsY, ← hsQ, ← hsU, ← hsV, ← hsA, ← hsB] at hsb
    by_cases hlt : k < n
    · have hjl : k < s.length := by rw [← H.out.2.1]; exact hlt
      obtain ⟨g, o, c2, he, hg, hj⟩ := (H.out.1.below HR.out.2).pos (by omega)
      simp only [Value.slice.injEq] at he
      obtain ⟨rfl, hx1, hx2⟩ := he
      clear hx1 hx2
      obtain ⟨d0, d1, d2, d3⟩ := maC_at (hj k hjl)
      obtain ⟨mk, hmk⟩ : ∃ x, x = s[k] := ⟨_, rfl⟩
      rw [← hmk] at d0 d1 d2 d3
      have hbd := (msF_ok HM0.out.1).2.2 mk (by rw [hmk]; exact List.getElem_mem hjl)
      have hbm := mk_bd hbd
      have HN : Hid (SX + fX mk = smM fX (s.take (k + 1)) ∧ SY + fY mk = smM fY (s.take (k + 1)) ∧ SQ + fQ mk = smM fQ (s.take (k + 1)) ∧ SU + fU mk = smM fU (s.take (k + 1)) ∧ SV + fV mk = smM fV (s.take (k + 1)) ∧ SA + fA mk = smM fA (s.take (k + 1)) ∧ SB + fB mk = smM fB (s.take (k + 1))) := by
        rw [hmk, hsX, hsY, hsQ, hsU, hsV, hsA, hsB]
        exact ⟨(smM_take fX hjl).symm, (smM_take fY hjl).symm, (smM_take fQ hjl).symm, (smM_take fU hjl).symm, (smM_take fV hjl).symm, (smM_take fA hjl).symm, (smM_take fB hjl).symm⟩
      clear hj hmk hsX hsY hsQ hsU hsV hsA hsB
      obtain ⟨x, y, dx, dy⟩ := mk
      simp only at hbd hbm
      obtain ⟨xx, hxx⟩ : ∃ z, z = x * x := ⟨_, rfl⟩
      obtain ⟨yy, hyy⟩ : ∃ z, z = y * y := ⟨_, rfl⟩
      obtain ⟨xd, hxd⟩ : ∃ z, z = x * dx := ⟨_, rfl⟩
      obtain ⟨ye, hye⟩ : ∃ z, z = y * dy := ⟨_, rfl⟩
      obtain ⟨xe, hxe⟩ : ∃ z, z = x * dy := ⟨_, rfl⟩
      obtain ⟨yd, hyd⟩ : ∃ z, z = y * dx := ⟨_, rfl⟩
      rw [← hxx, ← hyy, ← hxd, ← hye, ← hxe, ← hyd] at hbm
      have wxx : IntKind.i64.wrap (x * x) = xx := by rw [← hxx, IntKind.wrap_i64]; omega
      have wyy : IntKind.i64.wrap (y * y) = yy := by rw [← hyy, IntKind.wrap_i64]; omega
      have wxd : IntKind.i64.wrap (x * dx) = xd := by rw [← hxd, IntKind.wrap_i64]; omega
      have wye : IntKind.i64.wrap (y * dy) = ye := by rw [← hye, IntKind.wrap_i64]; omega
      have wxe : IntKind.i64.wrap (x * dy) = xe := by rw [← hxe, IntKind.wrap_i64]; omega
      have wyd : IntKind.i64.wrap (y * dx) = yd := by rw [← hyd, IntKind.wrap_i64]; omega
      have v0 : IntKind.i64.wrap (SX + x) = SX + x := by rw [IntKind.wrap_i64]; omega
      have v1 : IntKind.i64.wrap (SY + y) = SY + y := by rw [IntKind.wrap_i64]; omega
      have v2 : IntKind.i64.wrap (SQ + xx) = SQ + xx := by rw [IntKind.wrap_i64]; omega
      have v3 : IntKind.i64.wrap (SQ + xx + yy) = SQ + xx + yy := by rw [IntKind.wrap_i64]; omega
      have v4 : IntKind.i64.wrap (SU + dx) = SU + dx := by rw [IntKind.wrap_i64]; omega
      have v5 : IntKind.i64.wrap (SV + dy) = SV + dy := by rw [IntKind.wrap_i64]; omega
      have v6 : IntKind.i64.wrap (SA + xd) = SA + xd := by rw [IntKind.wrap_i64]; omega
      have v7 : IntKind.i64.wrap (SA + xd + ye) = SA + xd + ye := by rw [IntKind.wrap_i64]; omega
      have v8 : IntKind.i64.wrap (SB + xe) = SB + xe := by rw [IntKind.wrap_i64]; omega
      have v9 : IntKind.i64.wrap (SB + xe - yd) = SB + xe - yd := by rw [IntKind.wrap_i64]; omega
      have HN2 : Hid (SX + x = smM fX (s.take (k + 1)) ∧ SY + y = smM fY (s.take (k + 1)) ∧ SQ + xx + yy = smM fQ (s.take (k + 1)) ∧ SU + dx = smM fU (s.take (k + 1)) ∧ SV + dy = smM fV (s.take (k + 1)) ∧ SA + xd + ye = smM fA (s.take (k + 1)) ∧ SB + xe - yd = smM fB (s.take (k + 1))) := by
        rw [hxx, hyy, hxd, hye, hxe, hyd]
        obtain ⟨e1, e2, e3, e4, e5, e6, e7⟩ := HN.out
        exact ⟨e1, e2, by rw [Int.add_assoc]; exact e3, e4, e5, by rw [Int.add_assoc]; exact e6, by rw [Int.add_sub_assoc]; exact e7⟩
      clear HN hxx hyy hxd hye hxe hyd
      have b0 : (0 : Int) ≤ (k : Int) := by omega
      have b1 : (k : Int) < (n : Int) := by omega
      go_wp2
      go_roundw
      case rel =>
        refine ⟨k + 1, SX + x, SY + y, SQ + xx + yy, SU + dx, SV + dy, SA + xd + ye, SB + xe - yd, by omega, by go_num, by first | rfl | trivial, by first | rfl | trivial, by first | rfl | trivial, by first | rfl | trivial, by first | rfl | trivial, by first | rfl | trivial, by first | rfl | trivial, ?_⟩
        obtain ⟨e1, e2, e3, e4, e5, e6, e7⟩ := HN2.out
        refine ⟨e1, e2, e3, e4, e5, e6, e7, (Below.heap_alloc _ _ _ (ltOf HR.out.1)).trans HR.out.1, ?_⟩
        have hb := HR.out.2
        have hs := hb.size
        (repeat' (first | (with_reducible exact Below.refl _ _) | (with_reducible assumption) | (with_reducible refine Below.setCell ?_ ?_ _) | (with_reducible refine Below.alloc ?_ ?_ _) | (with_reducible refine below_drewN ?_ _) | (with_reducible refine Below.drew ?_) | (with_reducible exact Nat.le_refl _) | omega | (simp; done) | (simp; omega)))
      case measure => simp [intOf]; omega
    · have hall : s.take k = s := List.take_of_length_le (by rw [← H.out.2.1]; omega)
      rw [hall] at hsX hsY hsQ hsU hsV hsA hsB
      obtain ⟨hnb, hdb, hkb, hrb⟩ := fit_bd HM0.out.1
      obtain ⟨D, hD⟩ : ∃ D, D = fmD s := ⟨_, rfl⟩
      rw [← hD] at hdb
      rw [← H.out.2.1] at hnb
      obtain ⟨nq, hnq⟩ : ∃ z, z = (n : Int) * SQ := ⟨_, rfl⟩
      obtain ⟨x2, hx2⟩ : ∃ z, z = SX * SX := ⟨_, rfl⟩
      obtain ⟨y2, hy2⟩ : ∃ z, z = SY * SY := ⟨_, rfl⟩
      have z1 := pr_in (A := 20) (B := 100000) (x := (n : Int)) (y := SQ) (by omega) (by omega) (by omega) (by omega)
      have z2 := pr_in (A := 1000) (B := 1000) (x := SX) (y := SX) (by omega) (by omega) (by omega) (by omega)
      have z3 := pr_in (A := 1000) (B := 1000) (x := SY) (y := SY) (by omega) (by omega) (by omega) (by omega)
      rw [← hnq] at z1
      rw [← hx2] at z2
      rw [← hy2] at z3
      have hDe : nq - x2 - y2 = D := by rw [hnq, hx2, hy2, hD]; unfold fmD; rw [← H.out.2.1, hsQ, hsX, hsY]
      have w1' : IntKind.i64.wrap ((n : Int) * SQ) = nq := by rw [← hnq, IntKind.wrap_i64]; omega
      have w2' : IntKind.i64.wrap (SX * SX) = x2 := by rw [← hx2, IntKind.wrap_i64]; omega
      have w3' : IntKind.i64.wrap (SY * SY) = y2 := by rw [← hy2, IntKind.wrap_i64]; omega
      have w4' : IntKind.i64.wrap (nq - x2) = nq - x2 := by rw [IntKind.wrap_i64]; omega
      have w5' : IntKind.i64.wrap (nq - x2 - y2) = D := by rw [← hDe, IntKind.wrap_i64]; omega
      clear hnq hx2 hy2 z1 z2 z3 hDe
      obtain ⟨na, hna⟩ : ∃ z, z = (n : Int) * SA := ⟨_, rfl⟩
      have bna := pr_in (A := 20) (B := 2000000) (x := (n : Int)) (y := SA) (by omega) (by omega) (by omega) (by omega)
      rw [← hna] at bna
      have wna : IntKind.i64.wrap ((n : Int) * SA) = na := by rw [← hna, IntKind.wrap_i64]; omega
      obtain ⟨xu, hxu⟩ : ∃ z, z = SX * SU := ⟨_, rfl⟩
      have bxu := pr_in (A := 1000) (B := 20000) (x := SX) (y := SU) (by omega) (by omega) (by omega) (by omega)
      rw [← hxu] at bxu
      have wxu : IntKind.i64.wrap (SX * SU) = xu := by rw [← hxu, IntKind.wrap_i64]; omega
      obtain ⟨t1, ht1⟩ : ∃ z, z = na - xu := ⟨_, rfl⟩
      have wt1 : IntKind.i64.wrap (na - xu) = t1 := by rw [ht1, IntKind.wrap_i64]; omega
      obtain ⟨yv, hyv⟩ : ∃ z, z = SY * SV := ⟨_, rfl⟩
      have byv := pr_in (A := 1000) (B := 20000) (x := SY) (y := SV) (by omega) (by omega) (by omega) (by omega)
      rw [← hyv] at byv
      have wyv : IntKind.i64.wrap (SY * SV) = yv := by rw [← hyv, IntKind.wrap_i64]; omega
      obtain ⟨KK, hKK⟩ : ∃ z, z = t1 - yv := ⟨_, rfl⟩
      have wKK : IntKind.i64.wrap (t1 - yv) = KK := by rw [hKK, IntKind.wrap_i64]; omega
      obtain ⟨nb, hnb'⟩ : ∃ z, z = (n : Int) * SB := ⟨_, rfl⟩
      have bnb := pr_in (A := 20) (B := 2000000) (x := (n : Int)) (y := SB) (by omega) (by omega) (by omega) (by omega)
      rw [← hnb'] at bnb
      have wnb : IntKind.i64.wrap ((n : Int) * SB) = nb := by rw [← hnb', IntKind.wrap_i64]; omega
      obtain ⟨xv, hxv⟩ : ∃ z, z = SX * SV := ⟨_, rfl⟩
      have bxv := pr_in (A := 1000) (B := 20000) (x := SX) (y := SV) (by omega) (by omega) (by omega) (by omega)
      rw [← hxv] at bxv
      have wxv : IntKind.i64.wrap (SX * SV) = xv := by rw [← hxv, IntKind.wrap_i64]; omega
      obtain ⟨t2, ht2⟩ : ∃ z, z = nb - xv := ⟨_, rfl⟩
      have wt2 : IntKind.i64.wrap (nb - xv) = t2 := by rw [ht2, IntKind.wrap_i64]; omega
      obtain ⟨yu, hyu⟩ : ∃ z, z = SY * SU := ⟨_, rfl⟩
      have byu := pr_in (A := 1000) (B := 20000) (x := SY) (y := SU) (by omega) (by omega) (by omega) (by omega)
      rw [← hyu] at byu
      have wyu : IntKind.i64.wrap (SY * SU) = yu := by rw [← hyu, IntKind.wrap_i64]; omega
      obtain ⟨RR, hRR⟩ : ∃ z, z = t2 + yu := ⟨_, rfl⟩
      have wRR : IntKind.i64.wrap (t2 + yu) = RR := by rw [hRR, IntKind.wrap_i64]; omega
      obtain ⟨ud, hud⟩ : ∃ z, z = SU * D := ⟨_, rfl⟩
      have bud := pr_in (A := 20000) (B := 4000000) (x := SU) (y := D) (by omega) (by omega) (by omega) (by omega)
      rw [← hud] at bud
      have wud : IntKind.i64.wrap (SU * D) = ud := by rw [← hud, IntKind.wrap_i64]; omega
      obtain ⟨kx, hkx⟩ : ∃ z, z = KK * SX := ⟨_, rfl⟩
      have bkx := pr_in (A := 130000000) (B := 1000) (x := KK) (y := SX) (by omega) (by omega) (by omega) (by omega)
      rw [← hkx] at bkx
      have wkx : IntKind.i64.wrap (KK * SX) = kx := by rw [← hkx, IntKind.wrap_i64]; omega
      obtain ⟨t3, ht3⟩ : ∃ z, z = ud - kx := ⟨_, rfl⟩
      have wt3 : IntKind.i64.wrap (ud - kx) = t3 := by rw [ht3, IntKind.wrap_i64]; omega
      obtain ⟨ry, hry⟩ : ∃ z, z = RR * SY := ⟨_, rfl⟩
      have bry := pr_in (A := 130000000) (B := 1000) (x := RR) (y := SY) (by omega) (by omega) (by omega) (by omega)
      rw [← hry] at bry
      have wry : IntKind.i64.wrap (RR * SY) = ry := by rw [← hry, IntKind.wrap_i64]; omega
      obtain ⟨N1, hN1⟩ : ∃ z, z = t3 + ry := ⟨_, rfl⟩
      have wN1 : IntKind.i64.wrap (t3 + ry) = N1 := by rw [hN1, IntKind.wrap_i64]; omega
      obtain ⟨nd, hnd⟩ : ∃ z, z = (n : Int) * D := ⟨_, rfl⟩
      have bnd := pr_in (A := 20) (B := 4000000) (x := (n : Int)) (y := D) (by omega) (by omega) (by omega) (by omega)
      rw [← hnd] at bnd
      have wnd : IntKind.i64.wrap ((n : Int) * D) = nd := by rw [← hnd, IntKind.wrap_i64]; omega
      obtain ⟨vd, hvd⟩ : ∃ z, z = SV * D := ⟨_, rfl⟩
      have bvd := pr_in (A := 20000) (B := 4000000) (x := SV) (y := D) (by omega) (by omega) (by omega) (by omega)
      rw [← hvd] at bvd
      have wvd : IntKind.i64.wrap (SV * D) = vd := by rw [← hvd, IntKind.wrap_i64]; omega
      obtain ⟨ky, hky⟩ : ∃ z, z = KK * SY := ⟨_, rfl⟩
      have bky := pr_in (A := 130000000) (B := 1000) (x := KK) (y := SY) (by omega) (by omega) (by omega) (by omega)
      rw [← hky] at bky
      have wky : IntKind.i64.wrap (KK * SY) = ky := by rw [← hky, IntKind.wrap_i64]; omega
      obtain ⟨t4, ht4⟩ : ∃ z, z = vd - ky := ⟨_, rfl⟩
      have wt4 : IntKind.i64.wrap (vd - ky) = t4 := by rw [ht4, IntKind.wrap_i64]; omega
      obtain ⟨rx, hrx⟩ : ∃ z, z = RR * SX := ⟨_, rfl⟩
      have brx := pr_in (A := 130000000) (B := 1000) (x := RR) (y := SX) (by omega) (by omega) (by omega) (by omega)
      rw [← hrx] at brx
      have wrx : IntKind.i64.wrap (RR * SX) = rx := by rw [← hrx, IntKind.wrap_i64]; omega
      obtain ⟨N2, hN2⟩ : ∃ z, z = t4 - rx := ⟨_, rfl⟩
      have wN2 : IntKind.i64.wrap (t4 - rx) = N2 := by rw [hN2, IntKind.wrap_i64]; omega
      obtain ⟨A, hAq⟩ : ∃ q, q = rqQ N1 nd := ⟨_, rfl⟩
      obtain ⟨B, hBq⟩ : ∃ q, q = rqQ N2 nd := ⟨_, rfl⟩
      obtain ⟨E, hEq⟩ : ∃ q, q = rqQ KK D := ⟨_, rfl⟩
      obtain ⟨F, hFq⟩ : ∃ q, q = rqQ RR D := ⟨_, rfl⟩
      have HQ : Hid (A = fm1 s ∧ B = fm2 s ∧ E = fm3 s ∧ F = fm4 s) := by
        have eK : KK = fmK s := by rw [hKK, ht1, hna, hxu, hyv, hsA, hsX, hsU, hsY, hsV, H.out.2.1]; rfl
        have eR : RR = fmR s := by rw [hRR, ht2, hnb', hxv, hyu, hsB, hsX, hsU, hsY, hsV, H.out.2.1]; rfl
        refine ⟨?_, ?_, ?_, ?_⟩
        · rw [hAq, hN1, ht3, hud, hkx, hry, hnd, eK, eR, hsU, hsX, hsY, hD, H.out.2.1]; rfl
        · rw [hBq, hN2, ht4, hvd, hky, hrx, hnd, eK, eR, hsV, hsX, hsY, hD, H.out.2.1]; rfl
        · rw [hEq, eK, hD]; rfl
        · rw [hFq, eR, hD]; rfl
      have HMA : Hid (∀ W, Calls Try.prog 60 #[.int .i64 N1, .int .i64 nd] W fun e w' => e = .returned (.agg #[.int .i64 (A).c, .int .i64 (A).n, .int .i64 (A).d]) ∧ Below W.heap.size W w') := fun W => by rw [hAq]; exact spec_low_pos N1 nd W (by have h1 := Int.mul_le_mul (a := 1) (b := 1) (c := (n : Int)) (d := D) (by omega) (by omega) (by omega) (by omega); rw [hnd]; omega) (by omega) (by omega) (by omega)
      have HMB : Hid (∀ W, Calls Try.prog 60 #[.int .i64 N2, .int .i64 nd] W fun e w' => e = .returned (.agg #[.int .i64 (B).c, .int .i64 (B).n, .int .i64 (B).d]) ∧ Below W.heap.size W w') := fun W => by rw [hBq]; exact spec_low_pos N2 nd W (by have h1 := Int.mul_le_mul (a := 1) (b := 1) (c := (n : Int)) (d := D) (by omega) (by omega) (by omega) (by omega); rw [hnd]; omega) (by omega) (by omega) (by omega)
      have HME : Hid (∀ W, Calls Try.prog 60 #[.int .i64 KK, .int .i64 D] W fun e w' => e = .returned (.agg #[.int .i64 (E).c, .int .i64 (E).n, .int .i64 (E).d]) ∧ Below W.heap.size W w') := fun W => by rw [hEq]; exact spec_low_pos KK D W (by omega) (by omega) (by omega) (by omega)
      have HMF : Hid (∀ W, Calls Try.prog 60 #[.int .i64 RR, .int .i64 D] W fun e w' => e = .returned (.agg #[.int .i64 (F).c, .int .i64 (F).n, .int .i64 (F).d]) ∧ Below W.heap.size W w') := fun W => by rw [hFq]; exact spec_low_pos RR D W (by omega) (by omega) (by omega) (by omega)
      have HCC : Hid (C = orL [A.c, B.c, E.c, F.c] ∧ (C = 0 → M = ⟨A.fr, B.fr, E.fr, F.fr⟩)) := by
        obtain ⟨e1, e2, e3, e4⟩ := HQ.out
        rw [e1, e2, e3, e4]
        refine ⟨HM0.out.2, fun h0 => ?_⟩
        rw [H.out.2.2.2.1]; unfold fmM; rw [if_pos (by rw [← H.out.2.2.1]; exact h0)]
      clear HQ hAq hBq hEq hFq hD hnb hdb hkb hrb hsb hall hsX hsY hsQ hsU hsV hsA hsB bna bxu byv bnb bxv byu bud bkx bry bnd bvd bky brx hna hxu ht1 hyv hKK hnb' hxv ht2 hyu hRR hud hkx ht3 hry hN1 hnd hvd hky ht4 hrx hN2
      obtain ⟨Ac, An, Ad⟩ := A
      obtain ⟨Bc, Bn, Bd⟩ := B
      obtain ⟨Ec, En, Ed⟩ := E
      obtain ⟨Fc, Fn, Fd⟩ := F
      go_wp2_with (fail)
      refine (HMA.out _).mono ?_
      rintro e y1 ⟨rfl, hy1⟩
      have HY1 : Hid (y1.heap[w.heap.size]? = some (.cells #[.int .i64 0, .int .i64 0, .int .i64 0, .int .i64 0, .int .i64 0, .int .i64 0, .int .i64 0, .int .i64 0, .int .i64 0] 55) ∧ Below w.heap.size w y1) := ⟨(hy1.block _ (ltOf HR.out.1)).trans HR.out.1, HR.out.2.trans (hy1.mono HR.out.2.size)⟩
      clear hy1 HMA
      go_wp2_with (fail)
      refine (HMB.out _).mono ?_
      rintro e y2 ⟨rfl, hy2⟩
      have HY2 : Hid (y2.heap[w.heap.size]? = some (.cells #[.int .i64 0, .int .i64 0, .int .i64 0, .int .i64 0, .int .i64 0, .int .i64 0, .int .i64 0, .int .i64 0, .int .i64 0] 55) ∧ Below w.heap.size w y2) := ⟨(hy2.block _ (ltOf HY1.out.1)).trans HY1.out.1, HY1.out.2.trans (hy2.mono HY1.out.2.size)⟩
      clear hy2 HMB
      go_wp2_with (fail)
      refine (HME.out _).mono ?_
      rintro e y3 ⟨rfl, hy3⟩
      have HY3 : Hid (y3.heap[w.heap.size]? = some (.cells #[.int .i64 0, .int .i64 0, .int .i64 0, .int .i64 0, .int .i64 0, .int .i64 0, .int .i64 0, .int .i64 0, .int .i64 0] 55) ∧ Below w.heap.size w y3) := ⟨(hy3.block _ (ltOf HY2.out.1)).trans HY2.out.1, HY2.out.2.trans (hy3.mono HY2.out.2.size)⟩
      clear hy3 HME
      go_wp2_with (fail)
      refine (HMF.out _).mono ?_
      rintro e y4 ⟨rfl, hy4⟩
      have HY4 : Hid (y4.heap[w.heap.size]? = some (.cells #[.int .i64 0, .int .i64 0, .int .i64 0, .int .i64 0, .int .i64 0, .int .i64 0, .int .i64 0, .int .i64 0, .int .i64 0] 55) ∧ Below w.heap.size w y4) := ⟨(hy4.block _ (ltOf HY3.out.1)).trans HY3.out.1, HY3.out.2.trans (hy4.mono HY3.out.2.size)⟩
      clear hy4 HMF
      obtain ⟨V6, hV6⟩ : ∃ V, V = y4.alloc (.cells #[.int .i64 Ac, .int .i64 An, .int .i64 Ad, .int .i64 Bc, .int .i64 Bn, .int .i64 Bd, .int .i64 Ec, .int .i64 En, .int .i64 Ed, .int .i64 Fc, .int .i64 Fn, .int .i64 Fd] 90) := ⟨_, rfl⟩
      obtain ⟨K, hK⟩ : ∃ K, K = y4.heap.size := ⟨_, rfl⟩
      have HV6 : Hid (V6.heap[w.heap.size]? = some (.cells #[.int .i64 0, .int .i64 0, .int .i64 0, .int .i64 0, .int .i64 0, .int .i64 0, .int .i64 0, .int .i64 0, .int .i64 0] 55) ∧ Below w.heap.size w V6 ∧ V6.heap[K]? = some (.cells #[.int .i64 Ac, .int .i64 An, .int .i64 Ad, .int .i64 Bc, .int .i64 Bn, .int .i64 Bd, .int .i64 Ec, .int .i64 En, .int .i64 Ed, .int .i64 Fc, .int .i64 Fn, .int .i64 Fd] 90)) := by
        have hb : Below y4.heap.size y4 V6 := by rw [hV6]; (repeat' (first | (with_reducible exact Below.refl _ _) | (with_reducible assumption) | (with_reducible refine Below.setCell ?_ ?_ _) | (with_reducible refine Below.alloc ?_ ?_ _) | (with_reducible refine below_drewN ?_ _) | (with_reducible refine Below.drew ?_) | (with_reducible exact Nat.le_refl _) | omega | (simp; done) | (simp; omega)))
        exact ⟨(hb.block _ (ltOf HY4.out.1)).trans HY4.out.1, HY4.out.2.trans (hb.mono HY4.out.2.size), by rw [hV6, hK]; exact heap_alloc_new y4 _⟩
      clear HY1 HY2 HY3 HY4 HR
      go_wp2
      rw [← hV6, ← hK]
      clear hV6 hK
      go_loopw [18] (fun i wr => ∃ j : Nat, j ≤ 4 ∧ i = .int .i64 j ∧ wr = V6 ∧ Hid (C = orL ([Ac, Bc, Ec, Fc].drop j))) (fun i _ => 4 - (intOf i).toNat)
      case atStart => exact ⟨0, by omega, rfl, rfl, HCC.out.1⟩
      case round =>
        obtain ⟨j, hj, rfl, hwr, hR⟩ := hrel
        obtain rfl : V6 = wr := hwr.symm
        obtain ⟨⟨q0, q1, q2, q3, q4, q5, q6, q7, q8⟩, ⟨qf0, qf1, qf2, qf3, qf4, qf5, qf6, qf7, qf8⟩, ql⟩ := nine_d HV6.out.1
        by_cases hj4 : j < 4
        · obtain ⟨qc, hqc⟩ : ∃ q, q = [Ac, Bc, Ec, Fc].getD j 0 := ⟨_, rfl⟩
          have c0 : V6.cell? ⟨K, j * 3, none⟩ = some (.int .i64 qc) := by
            rw [hqc]
            rcases (by omega : j = 0 ∨ j = 1 ∨ j = 2 ∨ j = 3) with rfl | rfl | rfl | rfl
            · exact cellOf HV6.out.2.2 0 rfl
            · exact cellOf HV6.out.2.2 3 rfl
            · exact cellOf HV6.out.2.2 6 rfl
            · exact cellOf HV6.out.2.2 9 rfl
          have cl := ltOf HV6.out.2.2
          have HN : Hid (C = if qc = 0 then orL ([Ac, Bc, Ec, Fc].drop (j + 1)) else qc) := by
            have e := hR.out
            rw [orL_drop (by simpa using hj4)] at e
            rw [hqc, List.getD_eq_getElem?_getD, List.getElem?_eq_getElem (by simpa using hj4)]
            exact e
          clear hqc hR
          have hj0 : (0 : Int) ≤ (j : Int) := by omega
          have hj1 : (j : Int) < 4 := by omega
          by_cases hq0 : qc = 0
          · have HN2 : Hid (C = orL ([Ac, Bc, Ec, Fc].drop (j + 1))) := by have e := HN.out; rw [if_pos hq0] at e; exact e
            have hA9 : (qc != 0) = false := by rw [hq0]; rfl
            clear HN hq0
            go_wp2
            go_roundw
            case rel => exact ⟨j + 1, by omega, by go_num, by first | rfl | trivial, HN2.out⟩
            case measure => simp [intOf]; omega
          · have hCq : C = qc := by have e := HN.out; rw [if_neg hq0] at e; exact e
            have HE : Hid (C = qc ∧ M = md0) := ⟨hCq, H.out.2.2.2.2.2 (by rw [hCq]; exact hq0)⟩
            have hA9 : (qc != 0) = true := by simpa using hq0
            have HB : Hid (Below w.heap.size w V6) := HV6.out.2.1
            clear HN hq0 hCq
            go_wp2
            try simp only [Exit.inBlock, Exit.then]
            refine bodyPost_ret (by simp [results, Try.results26, go_sem, q0, q1, q2, q3, q4, q5, q6, q7, q8, ql]; try rfl) rfl ⟨by rw [HE.out.1, HE.out.2] <;> rfl, ?_⟩
            have hb := HB.out
            (repeat' (first | (with_reducible exact Below.refl _ _) | (with_reducible assumption) | (with_reducible refine Below.setCell ?_ ?_ _) | (with_reducible refine Below.alloc ?_ ?_ _) | (with_reducible refine below_drewN ?_ _) | (with_reducible refine Below.drew ?_) | (with_reducible exact Nat.le_refl _) | omega | (simp; done) | (simp; omega)))

        · have hC0 : C = 0 := by
            have e := hR.out
            rw [show j = 4 by omega] at e; exact e
          have HE : Hid (C = 0 ∧ M = ⟨⟨An, Ad⟩, ⟨Bn, Bd⟩, ⟨En, Ed⟩, ⟨Fn, Fd⟩⟩) := ⟨hC0, HCC.out.2 hC0⟩
          have HB : Hid (Below w.heap.size w V6) := HV6.out.2.1
          clear hC0 hR
          have c1 := cellOf HV6.out.2.2 1 rfl
          have c2 := cellOf HV6.out.2.2 2 rfl
          have c4 := cellOf HV6.out.2.2 4 rfl
          have c5 := cellOf HV6.out.2.2 5 rfl
          have c7 := cellOf HV6.out.2.2 7 rfl
          have c8 := cellOf HV6.out.2.2 8 rfl
          have c10 := cellOf HV6.out.2.2 10 rfl
          have c11 := cellOf HV6.out.2.2 11 rfl
          have cl := ltOf HV6.out.2.2
          go_wp2_with (fail)
          refine wp_region_still_tail 18 (by kernel_rfl) (by kernel_rfl) ?_
          have hdw : ({ V6 with drawn := V6.drawn + 1 } : World) = V6.drew := rfl
          rw [hdw]
          clear hdw
          simp only [List.take_succ_cons, List.take_zero, List.drop_succ_cons, List.drop_zero]
          iterate 18 still_step
          refine wpStill_nil ?_
          go_wp2
          try simp only [Exit.inBlock, Exit.then]
          refine bodyPost_ret (by simp [results, Try.results26, go_sem, q0, q1, q2, q3, q4, q5, q6, q7, q8, ql]; try rfl) rfl ⟨by rw [HE.out.1, HE.out.2] <;> rfl, ?_⟩
          have hb := HB.out
          (repeat' (first | (with_reducible exact Below.refl _ _) | (with_reducible assumption) | (with_reducible refine Below.setCell ?_ ?_ _) | (with_reducible refine Below.alloc ?_ ?_ _) | (with_reducible refine below_drewN ?_ _) | (with_reducible refine Below.drew ?_) | (with_reducible exact Nat.le_refl _) | omega | (simp; done) | (simp; omega)))


end Go.Proofs.Ytdidmjgilnhncaa
