/- Proved here: FillArea of the model: faC, faL. -/
import Derived.Test.YtpfnhiohbgconaaFaJ
import Derived.Test.YtpfnhiohbgconaaSOp
namespace Go.Proofs.Ytpfnhiohbgconaa
open Go.RowKit
set_option linter.unusedVariables false
set_option linter.unusedSimpArgs false

set_option maxRecDepth 10000 in
set_option maxHeartbeats 8000000 in
theorem spec_fill (a : Bx) (z p d : Int) {w : World} {va : Option Addr} {n c : Nat} {s : List Bx} (hn : s.length ≤ 1048576) (h : RB w (.slice va n c) s) :
    Calls Try.prog 9 #[.agg #[.int .i64 a.x0, .int .i64 a.y0, .int .i64 a.x1, .int .i64 a.y1], .slice va n c, .int .i64 z, .int .i64 p, .int .i64 d] w fun e w' => ∃ vs, e = .returned (.agg #[.int .i64 (faC a s z p d), vs]) ∧ BS w' w.heap.size vs (faL a s z p d) ∧ Below w.heap.size w w' := by
  obtain ⟨y0, hy0⟩ : ∃ y, y = bfK a := ⟨_, rfl⟩
  obtain ⟨y1, hy1⟩ : ∃ y, y = shapeK s := ⟨_, rfl⟩
  obtain ⟨C, hC⟩ : ∃ C, C = faC a s z p d := ⟨_, rfl⟩
  have hnl : n = s.length := by obtain ⟨_, _, e⟩ := h.form; injection e
  have H : Hid (RB w (.slice va n c) s ∧ n = s.length ∧ y0 = bfK a ∧ y1 = shapeK s ∧ C = faC a s z p d) := ⟨h, hnl, hy0, hy1, hC⟩
  have HBF : Hid (∀ W : World, Calls Try.prog 42 #[.agg #[.int .i64 a.x0, .int .i64 a.y0, .int .i64 a.x1, .int .i64 a.y1]] W fun e w' => e = .returned (.int .i64 y0) ∧ Below W.heap.size W w') := fun W => by rw [hy0]; exact spec_box a W
  have HSH : Hid (∀ W : World, Below w.heap.size w W → Calls Try.prog 43 #[.slice va n c] W fun e w' => e = .returned (.int .i64 y1) ∧ Below W.heap.size W w') := fun W hW => by rw [hy1]; exact spec_shape (h.below hW)
  obtain ⟨r0, hr0⟩ : ∃ r, r = decide (1 ≤ z ∧ z ≤ 1000) := ⟨_, rfl⟩
  obtain ⟨r1, hr1⟩ : ∃ r, r = decide (1 ≤ p ∧ p ≤ 1000) := ⟨_, rfl⟩
  obtain ⟨r2, hr2⟩ : ∃ r, r = decide (0 ≤ d ∧ d ≤ 1000) := ⟨_, rfl⟩
  have HI0 : Hid (∀ W, Calls Try.prog 44 #[.int .i64 z, .int .i64 1, .int .i64 1000] W fun e w' => e = .returned (.bool r0) ∧ w' = W) := spec_ins z 1 1000 r0 hr0
  have HI1 : Hid (∀ W, Calls Try.prog 44 #[.int .i64 p, .int .i64 1, .int .i64 1000] W fun e w' => e = .returned (.bool r1) ∧ w' = W) := spec_ins p 1 1000 r1 hr1
  have HI2 : Hid (∀ W, Calls Try.prog 44 #[.int .i64 d, .int .i64 0, .int .i64 1000] W fun e w' => e = .returned (.bool r2) ∧ w' = W) := spec_ins d 0 1000 r2 hr2
  have HRR : Hid (r0 = decide (1 ≤ z ∧ z ≤ 1000) ∧ r1 = decide (1 ≤ p ∧ p ≤ 1000) ∧ r2 = decide (0 ≤ d ∧ d ≤ 1000)) := ⟨hr0, hr1, hr2⟩
  rw [← hC]
  obtain ⟨i0, hi0, hz0, hz1, hz2⟩ := info_parts info_box
  have HN : Hid (s.length ≤ 1048576) := hn
  clear h hnl hy0 hy1 hC hr0 hr1 hr2 hn
  go_enter Try.func9, Try.ntmps9
  go_wp2_with (fail)
  refine (HBF.out _).mono ?_
  rintro e w1 ⟨rfl, hb1⟩
  have HK1 : Hid (FQ w w1 a) := (FQ.start w a).next hb1
  clear hb1 HBF
  by_cases q0 : y0 = 0
  case neg =>
    have HE : Hid (C = y0 ∧ faL a s z p d = []) := by
      refine ⟨?_, ?_⟩
      · rw [H.out.2.2.2.2, faC, if_neg (by rw [← H.out.2.2.1]; exact q0), H.out.2.2.1]
      · rw [faL, if_neg (fun e => q0 (by rw [H.out.2.2.1]; exact e.1))]
    obtain ⟨r0, r1, f0, f1, hlt2⟩ := cellsT HK1.out.r
    go_wp2
    refine bodyPost_ret (by simp [results, Try.results9, go_sem, r0, r1, hlt2]; rfl) rfl ⟨.slice none 0 0, ?_, ?_, ?_⟩
    · rw [HE.out.1]
    · rw [HE.out.2]; exact BS.nil _ _
    · have hb := HK1.out.bl
      (repeat' (first | (with_reducible exact Below.refl _ _) | (with_reducible assumption) | (with_reducible refine Below.setCell ?_ ?_ _) | (with_reducible refine Below.alloc ?_ ?_ _) | (with_reducible refine below_drewN ?_ _) | (with_reducible refine Below.drew ?_) | (with_reducible exact Nat.le_refl _) | omega | (simp; done) | (simp; omega)))
  have HA0 : Hid (bfK a = 0) := by unfold Hid; rw [← H.out.2.2.1]; exact q0
  subst q0
  go_wp2_with (fail)
  refine (HSH.out _ HK1.out.bl).mono ?_
  rintro e w2 ⟨rfl, hb2⟩
  have HK2 : Hid (FQ w w2 a) := HK1.out.next hb2
  clear hb2 HSH HK1
  by_cases q1 : y1 = 0
  case neg =>
    have HE : Hid (C = y1 ∧ faL a s z p d = []) := by
      refine ⟨?_, ?_⟩
      · rw [H.out.2.2.2.2, faC, if_pos HA0.out, if_neg (by rw [← H.out.2.2.2.1]; exact q1), H.out.2.2.2.1]
      · rw [faL, if_neg (fun e => q1 (by rw [H.out.2.2.2.1]; exact e.2.1))]
    obtain ⟨r0, r1, f0, f1, hlt2⟩ := cellsT HK2.out.r
    go_wp2
    refine bodyPost_ret (by simp [results, Try.results9, go_sem, r0, r1, hlt2]; rfl) rfl ⟨.slice none 0 0, ?_, ?_, ?_⟩
    · rw [HE.out.1]
    · rw [HE.out.2]; exact BS.nil _ _
    · have hb := HK2.out.bl
      (repeat' (first | (with_reducible exact Below.refl _ _) | (with_reducible assumption) | (with_reducible refine Below.setCell ?_ ?_ _) | (with_reducible refine Below.alloc ?_ ?_ _) | (with_reducible refine below_drewN ?_ _) | (with_reducible refine Below.drew ?_) | (with_reducible exact Nat.le_refl _) | omega | (simp; done) | (simp; omega)))
  have HS0 : Hid (shapeK s = 0) := by unfold Hid; rw [← H.out.2.2.2.1]; exact q1
  subst q1
  have HBAD : Hid (¬ faIn z p d → C = 3 ∧ faL a s z p d = []) := fun hf => by
    refine ⟨?_, ?_⟩
    · rw [H.out.2.2.2.2, faC, if_pos HA0.out, if_pos HS0.out, if_neg hf]
    · rw [faL, if_neg (fun e => hf e.2.2.1)]
  go_wp2_with (fail)
  refine (HI0.out _).mono ?_
  rintro e w3 ⟨rfl, hw3⟩
  subst w3
  cases r0 with
  | false =>
    have HE : Hid (C = 3 ∧ faL a s z p d = []) := HBAD.out (fun hf => by
      unfold faIn at hf
      have h5 := HRR.out.1; have h6 := decide_eq_false_iff_not.1 h5.symm; omega)
    obtain ⟨r0, r1, f0, f1, hlt2⟩ := cellsT HK2.out.r
    go_wp2
    refine bodyPost_ret (by simp [results, Try.results9, go_sem, r0, r1, hlt2]; rfl) rfl ⟨.slice none 0 0, ?_, ?_, ?_⟩
    · rw [HE.out.1]
    · rw [HE.out.2]; exact BS.nil _ _
    · have hb := HK2.out.bl
      (repeat' (first | (with_reducible exact Below.refl _ _) | (with_reducible assumption) | (with_reducible refine Below.setCell ?_ ?_ _) | (with_reducible refine Below.alloc ?_ ?_ _) | (with_reducible refine below_drewN ?_ _) | (with_reducible refine Below.drew ?_) | (with_reducible exact Nat.le_refl _) | omega | (simp; done) | (simp; omega)))
  | true =>
  have hz : 1 ≤ z ∧ z ≤ 1000 := by simpa using HRR.out.1
  go_wp2_with (fail)
  refine (HI1.out _).mono ?_
  rintro e w3 ⟨rfl, hw3⟩
  subst w3
  cases r1 with
  | false =>
    have HE : Hid (C = 3 ∧ faL a s z p d = []) := HBAD.out (fun hf => by
      unfold faIn at hf
      have h5 := HRR.out.2.1; have h6 := decide_eq_false_iff_not.1 h5.symm; omega)
    obtain ⟨r0, r1, f0, f1, hlt2⟩ := cellsT HK2.out.r
    go_wp2
    refine bodyPost_ret (by simp [results, Try.results9, go_sem, r0, r1, hlt2]; rfl) rfl ⟨.slice none 0 0, ?_, ?_, ?_⟩
    · rw [HE.out.1]
    · rw [HE.out.2]; exact BS.nil _ _
    · have hb := HK2.out.bl
      (repeat' (first | (with_reducible exact Below.refl _ _) | (with_reducible assumption) | (with_reducible refine Below.setCell ?_ ?_ _) | (with_reducible refine Below.alloc ?_ ?_ _) | (with_reducible refine below_drewN ?_ _) | (with_reducible refine Below.drew ?_) | (with_reducible exact Nat.le_refl _) | omega | (simp; done) | (simp; omega)))
  | true =>
  have hp : 1 ≤ p ∧ p ≤ 1000 := by simpa using HRR.out.2.1
  by_cases hzp : p < z
  · have HE : Hid (C = 3 ∧ faL a s z p d = []) := HBAD.out (fun hf => by
      unfold faIn at hf
      omega)
    obtain ⟨r0, r1, f0, f1, hlt2⟩ := cellsT HK2.out.r
    go_wp2
    refine bodyPost_ret (by simp [results, Try.results9, go_sem, r0, r1, hlt2]; rfl) rfl ⟨.slice none 0 0, ?_, ?_, ?_⟩
    · rw [HE.out.1]
    · rw [HE.out.2]; exact BS.nil _ _
    · have hb := HK2.out.bl
      (repeat' (first | (with_reducible exact Below.refl _ _) | (with_reducible assumption) | (with_reducible refine Below.setCell ?_ ?_ _) | (with_reducible refine Below.alloc ?_ ?_ _) | (with_reducible refine below_drewN ?_ _) | (with_reducible refine Below.drew ?_) | (with_reducible exact Nat.le_refl _) | omega | (simp; done) | (simp; omega)))
  have hzp' : ¬ p < z := hzp
  go_wp2_with (fail)
  refine (HI2.out _).mono ?_
  rintro e w3 ⟨rfl, hw3⟩
  subst w3
  cases r2 with
  | false =>
    have HE : Hid (C = 3 ∧ faL a s z p d = []) := HBAD.out (fun hf => by
      unfold faIn at hf
      have h5 := HRR.out.2.2; have h6 := decide_eq_false_iff_not.1 h5.symm; omega)
    obtain ⟨r0, r1, f0, f1, hlt2⟩ := cellsT HK2.out.r
    go_wp2
    refine bodyPost_ret (by simp [results, Try.results9, go_sem, r0, r1, hlt2]; rfl) rfl ⟨.slice none 0 0, ?_, ?_, ?_⟩
    · rw [HE.out.1]
    · rw [HE.out.2]; exact BS.nil _ _
    · have hb := HK2.out.bl
      (repeat' (first | (with_reducible exact Below.refl _ _) | (with_reducible assumption) | (with_reducible refine Below.setCell ?_ ?_ _) | (with_reducible refine Below.alloc ?_ ?_ _) | (with_reducible refine below_drewN ?_ _) | (with_reducible refine Below.drew ?_) | (with_reducible exact Nat.le_refl _) | omega | (simp; done) | (simp; omega)))
  | true =>
  have hd : 0 ≤ d ∧ d ≤ 1000 := by simpa using HRR.out.2.2
  have HIN : Hid (faIn z p d) := by unfold Hid faIn; omega
  have HOK : Hid (OkA a) := bfK_okA HA0.out
  have HKP : Hid (s.length ≤ 150 ∧ ∀ b ∈ s, OkM b) := by
    have hb := boxesK_zero (faK_zero HS0.out)
    exact ⟨hb.1, fun b hb' => ⟨(hb.2 b hb').1, (hb.2 b hb').2.1⟩⟩
  clear HRR HI0 HI1 HI2
  have hoka := HOK.out
  unfold OkA at hoka
  have s1 : IntKind.i64.wrap (a.x1 - a.x0) = a.x1 - a.x0 := by rw [IntKind.wrap_i64]; omega
  have s2 : IntKind.i64.wrap (a.y1 - a.y0) = a.y1 - a.y0 := by rw [IntKind.wrap_i64]; omega
  have l1 := roomN_le (len := a.x1 - a.x0) (z := z) (p := p) (by omega) hz.1 (by omega)
  have l2 := roomN_le (len := a.y1 - a.y0) (z := z) (p := p) (by omega) hz.1 (by omega)
  have l3 := cntA l1 l2
  obtain ⟨nx, hnx⟩ : ∃ nx, nx = roomN (a.x1 - a.x0) z p := ⟨_, rfl⟩
  obtain ⟨ny, hny⟩ : ∃ ny, ny = roomN (a.y1 - a.y0) z p := ⟨_, rfl⟩
  have HNX : Hid (nx = roomN (a.x1 - a.x0) z p ∧ ny = roomN (a.y1 - a.y0) z p) := ⟨hnx, hny⟩
  have HC1 : Hid (∀ W, Calls Try.prog 45 #[.int .i64 (a.x1 - a.x0), .int .i64 z, .int .i64 p] W fun e w' => e = .returned (.int .i64 (nx : Int)) ∧ w' = W) := fun W => by rw [hnx]; exact spec_room _ z p W hz.1 hz.2 (by omega) hp.2 (by omega) (by omega)
  have HC2 : Hid (∀ W, Calls Try.prog 45 #[.int .i64 (a.y1 - a.y0), .int .i64 z, .int .i64 p] W fun e w' => e = .returned (.int .i64 (ny : Int)) ∧ w' = W) := fun W => by rw [hny]; exact spec_room _ z p W hz.1 hz.2 (by omega) hp.2 (by omega) (by omega)
  rw [← hnx] at l1 l3
  rw [← hny] at l2 l3
  have hmul : (nx : Int) * (ny : Int) = ((nx * ny : Nat) : Int) := by simp
  have hw3 : IntKind.i64.wrap ((nx : Int) * (ny : Int)) = ((nx * ny : Nat) : Int) := by rw [hmul, IntKind.wrap_i64]; omega
  obtain ⟨N, hN⟩ : ∃ N, N = nx * ny := ⟨_, rfl⟩
  have HNN : Hid (N = faN a z p) := by unfold Hid faN; rw [hN, hnx, hny]
  rw [← hN] at hw3 l3
  have HZP : Hid (1 ≤ z ∧ z ≤ 1000 ∧ 1 ≤ p ∧ p ≤ 1000 ∧ 0 ≤ d ∧ d ≤ 1000) := by unfold Hid; omega
  have HC : Hid (C = if 150 < N then 2 else toldC (opOf (takesK 1) (flL a s z p d) []).length) := by
    unfold Hid
    rw [H.out.2.2.2.2, faC, if_pos HA0.out, if_pos HS0.out, if_pos HIN.out, HNN.out]
  have HL : Hid (¬ 150 < N → faL a s z p d = toldL (opOf (takesK 1) (flL a s z p d) [])) := fun h1 => by
    rw [HNN.out] at h1
    rw [faL, if_pos ⟨HA0.out, HS0.out, HIN.out, h1⟩]
  clear hnx hny hmul hN hoka
  obtain ⟨p0, p1, p2, p3, pl⟩ := mt_four HK2.out.b
  go_wp2_with (fail)
  refine (HC1.out _).mono ?_
  rintro e w3 ⟨rfl, hw3'⟩
  subst w3
  go_wp2_with (fail)
  refine (HC2.out _).mono ?_
  rintro e w3 ⟨rfl, hw3'⟩
  subst w3
  clear HC1 HC2 s1 s2
  by_cases h150 : (150 : Int) < (N : Int)
  · have HE : Hid (C = 2 ∧ faL a s z p d = []) := by
      refine ⟨by rw [HC.out, if_pos (by omega)], ?_⟩
      rw [faL, if_neg (fun e => e.2.2.2 (by rw [← HNN.out]; omega))]
    clear p0 p1 p2 p3 pl
    obtain ⟨r0, r1, f0, f1, hlt2⟩ := cellsT HK2.out.r
    go_wp2
    refine bodyPost_ret (by simp [results, Try.results9, go_sem, r0, r1, hlt2]; rfl) rfl ⟨.slice none 0 0, ?_, ?_, ?_⟩
    · rw [HE.out.1]
    · rw [HE.out.2]; exact BS.nil _ _
    · have hb := HK2.out.bl
      (repeat' (first | (with_reducible exact Below.refl _ _) | (with_reducible assumption) | (with_reducible refine Below.setCell ?_ ?_ _) | (with_reducible refine Below.alloc ?_ ?_ _) | (with_reducible refine below_drewN ?_ _) | (with_reducible refine Below.drew ?_) | (with_reducible exact Nat.le_refl _) | omega | (simp; done) | (simp; omega)))
  have HE : Hid (C = toldC (opOf (takesK 1) (flL a s z p d) []).length ∧ faL a s z p d = toldL (opOf (takesK 1) (flL a s z p d) [])) := ⟨by rw [HC.out, if_neg (by omega)], HL.out (by omega)⟩
  have HSX : Hid ((∀ j : Nat, j < ny → 0 ≤ (j : Int) * p ∧ (j : Int) * p ≤ 20000) ∧ ∀ i : Nat, i < nx → 0 ≤ (i : Int) * p ∧ (i : Int) * p ≤ 20000) := by
    have ha' := HOK.out
    unfold OkA at ha'
    refine ⟨fun j hj => ?_, fun i hi => ?_⟩
    · have h1 := (roomN_lt (len := a.y1 - a.y0) (z := z) (p := p) (by omega) j).2 (by rw [← HNX.out.2]; exact hj)
      have h2 : 0 ≤ (j : Int) * p := Int.mul_nonneg (by omega) (by omega)
      omega
    · have h1 := (roomN_lt (len := a.x1 - a.x0) (z := z) (p := p) (by omega) i).2 (by rw [← HNX.out.1]; exact hi)
      have h2 : 0 ≤ (i : Int) * p := Int.mul_nonneg (by omega) (by omega)
      omega
  have HN150 : Hid (nx * ny ≤ 150) := by
    unfold Hid
    have h1 := HNN.out
    unfold faN at h1
    rw [← HNX.out.1, ← HNX.out.2] at h1
    omega
  have HL0 : Hid (LV w2 (w2.alloc (.cells #[] 30)) (.slice (some ⟨w2.heap.size, 0, none⟩) 0 0) []) := ⟨BS.lit0 _ _ (Nat.le_refl _), (Below.refl _ _).alloc (Nat.le_refl _) _⟩
  clear HC HL HBAD
  go_wp2
  clear p0 p1 p2 p3 pl hw3 l3 h150
  go_loopw [15, 16] (fun vo v wr => ∃ j : Nat, j ≤ ny ∧ v = .int .i64 (j : Int) ∧ Hid (LV w2 wr vo ((sqS a z p j).filter (flP s d)))) (fun _ v _ => ny - (intOf v).toNat)
  case atStart => exact ⟨0, Nat.zero_le _, rfl, HL0.out⟩
  case round =>
    clear HL0
    obtain ⟨j, hj, rfl, hR⟩ := hrel
    by_cases hlt : j < ny
    · have hlt' : (j : Int) < (ny : Int) := by omega
      go_wp2
      go_loopw [15, 17] (fun vo v wr => ∃ i : Nat, i ≤ nx ∧ v = .int .i64 (i : Int) ∧ Hid (LV w2 wr vo ((sqS a z p j ++ sqR a z p (a.y0 + j * p) i).filter (flP s d)))) (fun _ v _ => nx - (intOf v).toNat)
      case atStart => exact ⟨0, Nat.zero_le _, rfl, by have := hR.out; unfold Hid; simpa [sqR] using this⟩
      case round =>
        clear hR
        obtain ⟨i, hi, rfl, hQ⟩ := hrel
        by_cases hlx : i < nx
        · have hlx' : (i : Int) < (nx : Int) := by omega
          have hoka := HOK.out
          unfold OkA at hoka
          have hz' := HZP.out
          have g1 := HSX.out.1 j hlt
          have g2 := HSX.out.2 i hlx
          obtain ⟨x, hx⟩ : ∃ x, x = a.x0 + i * p := ⟨_, rfl⟩
          obtain ⟨y, hy⟩ : ∃ y, y = a.y0 + j * p := ⟨_, rfl⟩
          have m1 : IntKind.i64.wrap ((i : Int) * p) = (i : Int) * p := by rw [IntKind.wrap_i64]; omega
          have m2 : IntKind.i64.wrap ((j : Int) * p) = (j : Int) * p := by rw [IntKind.wrap_i64]; omega
          have m3 : IntKind.i64.wrap (a.x0 + (i : Int) * p) = x := by rw [IntKind.wrap_i64]; omega
          have m4 : IntKind.i64.wrap (a.y0 + (j : Int) * p) = y := by rw [IntKind.wrap_i64]; omega
          have m5 : IntKind.i64.wrap (x - d) = x - d := by rw [IntKind.wrap_i64]; omega
          have m6 : IntKind.i64.wrap (y - d) = y - d := by rw [IntKind.wrap_i64]; omega
          have m7 : IntKind.i64.wrap (x + z) = x + z := by rw [IntKind.wrap_i64]; omega
          have m8 : IntKind.i64.wrap (y + z) = y + z := by rw [IntKind.wrap_i64]; omega
          have m9 : IntKind.i64.wrap (x + z + d) = x + z + d := by rw [IntKind.wrap_i64]; omega
          have m10 : IntKind.i64.wrap (y + z + d) = y + z + d := by rw [IntKind.wrap_i64]; omega
          obtain ⟨t, ht⟩ : ∃ t, t = meetL ⟨x - d, y - d, x + z + d, y + z + d⟩ s := ⟨_, rfl⟩
          have HM : Hid (∀ W, Below w.heap.size w W → Calls Try.prog 46 #[.slice va n c, .agg #[.int .i64 (x - d), .int .i64 (y - d), .int .i64 (x + z + d), .int .i64 (y + z + d)]] W fun e w' => e = .returned (.bool t) ∧ Below W.heap.size W w') := fun W hW => by
            rw [ht]
            exact spec_touches ⟨x - d, y - d, x + z + d, y + z + d⟩ ⟨by simp only; omega, by simp only; omega⟩ HN.out HKP.out.2 (H.out.1.below hW)
          have HST : Hid ((sqS a z p j ++ sqR a z p (a.y0 + j * p) (i + 1)).filter (flP s d) = (sqS a z p j ++ sqR a z p (a.y0 + j * p) i).filter (flP s d) ++ (if (!t) = true then [⟨x, y, x + z, y + z⟩] else [])) := by
            unfold Hid
            rw [sqR_succ, ← List.append_assoc, ← hx, ← hy, filter_snoc (!t) (by unfold flP grwB; simp only; rw [ht])]
          have hlen : ((sqS a z p j ++ sqR a z p (a.y0 + j * p) i).filter (flP s d)).length ≤ 150 := by
            refine Nat.le_trans (List.length_filter_le _ _) ?_
            rw [List.length_append, sqS_len, sqR_len, ← HNX.out.1]
            have h1 := rowsA hlt (Nat.le_of_lt hlx)
            have h2 := HN150.out
            omega
          obtain ⟨oa, oc', hof⟩ := hQ.out.o.form
          subst hof
          have HLV : Hid (LV w2 wr (.slice oa ((sqS a z p j ++ sqR a z p (a.y0 + j * p) i).filter (flP s d)).length oc') ((sqS a z p j ++ sqR a z p (a.y0 + j * p) i).filter (flP s d))) := hQ.out
          have HKR : Hid (FQ w wr a) := HK2.out.next hQ.out.bl
          clear hx hy ht hQ hoka g1 g2 hz'
          generalize (sqS a z p j ++ sqR a z p (a.y0 + j * p) i).filter (flP s d) = out at HLV HST hlen ⊢
          obtain ⟨p0, p1, p2, p3, pl⟩ := mt_four HKR.out.b
          go_wp2_with (fail)
          refine (HM.out _ HKR.out.bl).mono ?_
          rintro e w6 ⟨rfl, hb6⟩
          have HLV6 : Hid (LV w2 w6 (.slice oa out.length oc') out) := HLV.out.next hb6
          have hsz6 := HLV6.out.bl.size
          clear hb6 HLV HKR p0 p1 p2 p3 pl HM m1 m2 m3 m4 m5 m6 m9 m10
          cases t with
          | true =>
            have R : Hid (LV w2 w6 (.slice oa out.length oc') ((sqS a z p j ++ sqR a z p (a.y0 + j * p) (i + 1)).filter (flP s d))) := by
              unfold Hid; rw [HST.out]; simpa using HLV6.out
            clear HLV6 HST
            go_wp2
            go_roundw
            case rel => exact ⟨i + 1, by omega, by go_num, R.out⟩
            case measure => simp [intOf]; omega
          | false =>
            go_wp2_with (at_builtin; refine wpList_append_own _ rfl _ _ 26 rfl w2.heap.size 30 i0 (.agg #[.int .i64 0, .int .i64 0, .int .i64 0, .int .i64 0]) 4 32 Try.underlying26 hi0 hz0 hz1 hz2 rfl (by decide) _ _ _ rfl (World.ownsRow.alloc HLV6.out.o _) ⟨w6.heap.size, 0, none⟩ 1 1 (bcells ⟨x, y, x + z, y + z⟩) rfl rfl (World.news_of_block (cs := #[.int .i64 x, .int .i64 y, .int .i64 (x + z), .int .i64 (y + z)]) (t := 30) (fr := (0, 0)) (heap_alloc_new w6 _)) (by simp [bcells, Value.oneCell']) (by unfold maxLen; omega) (by omega) (by simp; omega) ?_; intro v7 w7 hown7 hgrow7 _)
            have R : Hid (LV w2 w7 v7 ((sqS a z p j ++ sqR a z p (a.y0 + j * p) (i + 1)).filter (flP s d))) := by
              unfold Hid; rw [HST.out]
              exact HLV6.out.push hown7 hgrow7
            clear HLV6 HST hown7 hgrow7
            go_wp2
            go_roundw
            case rel => exact ⟨i + 1, by omega, by go_num, R.out⟩
            case measure => simp [intOf]; omega
        · have R : Hid (LV w2 wr u15 ((sqS a z p (j + 1)).filter (flP s d))) := by
            have h1 := hQ.out
            have e : i = roomN (a.x1 - a.x0) z p := by rw [← HNX.out.1]; omega
            rw [e] at h1
            unfold Hid
            rw [sqS_succ]
            exact h1
          have hlx' : ¬ (i : Int) < (nx : Int) := by omega
          clear hQ
          go_wp2
          go_roundw
          case rel => exact ⟨j + 1, by omega, by go_num, R.out⟩
          case measure => simp [intOf]; omega
    · have HF : Hid (LV w2 wr u15 (flL a s z p d)) := by
        have h1 := hR.out
        have e : j = roomN (a.y1 - a.y0) z p := by rw [← HNX.out.2]; omega
        rw [e] at h1
        exact h1
      have hlt' : ¬ (j : Int) < (ny : Int) := by omega
      have HFX : Hid ((flL a s z p d).length ≤ 150) := by
        have h1 := flL_len a s z p d
        have h2 := HN150.out
        unfold faN at h1
        rw [← HNX.out.1, ← HNX.out.2] at h1
        unfold Hid
        omega
      obtain ⟨fb, fc, hof⟩ := HF.out.o.form
      subst hof
      obtain ⟨L, hL⟩ : ∃ L, L = opOf (takesK 1) (flL a s z p d) [] := ⟨_, rfl⟩
      have HOF : Hid (Calls Try.prog 48 #[.int .i64 1, .slice fb (flL a s z p d).length fc, .slice none 0 0] wr fun e w' => ∃ v', e = .returned v' ∧ BS w' wr.heap.size v' L ∧ Below wr.heap.size wr w') := by
        have h2 := spec_op 1 fb none fc 0 (flL a s z p d) [] wr (by have := HFX.out; simp; omega) HF.out.o.rb (BS.nil wr 0).rb
        rw [← hL] at h2
        refine h2.mono ?_
        rintro e w' ⟨v', rfl, ho, _, hb⟩
        exact ⟨v', rfl, ho, hb⟩
      rw [← hL] at HE
      have HK5 : Hid (FQ w wr a) := HK2.out.next HF.out.bl
      have hszr := HK5.out.sz
      clear hR hL HFX HF
      go_wp2_with (fail)
      refine HOF.out.mono ?_
      rintro e w5 ⟨v5, rfl, ho5, hb5⟩
      obtain ⟨x5, z5, hof5⟩ := ho5.form
      subst hof5
      have HO5 : Hid (BS w5 wr.heap.size (.slice x5 L.length z5) L ∧ FQ w w5 a) := ⟨ho5, HK5.out.next hb5⟩
      clear ho5 hb5 HK5 HOF
      go_wp2_with (fail)
      refine (spec_told x5 _ z5 w5).mono ?_
      rintro e w6 ⟨rfl, hb6⟩
      have HR : Hid (BS w6 wr.heap.size (toldV (.slice x5 L.length z5) L.length) (toldL L) ∧ FQ w w6 a) := ⟨(told_bs HO5.out.1).below hb6, HO5.out.2.next hb6⟩
      clear hb6 HO5
      obtain ⟨r0, r1, f0, f1, hlt3⟩ := cellsT HR.out.2.r
      obtain ⟨a3, c3, h3⟩ := HR.out.1.form
      rw [h3] at HR ⊢
      clear h3
      go_wp2
      refine bodyPost_ret (by simp [results, Try.results9, go_sem, r0, r1, hlt3]; rfl) rfl ⟨.slice a3 (toldL L).length c3, ?_, ?_, ?_⟩
      · rw [HE.out.1]
      · rw [HE.out.2]
        refine BS.kept (HR.out.1.low (by omega)) fun g hg => ?_
        have hge := (World.ownsRow.lt HR.out.1 g hg).1
        rw [heap_setCell_other _ _ _ _ (by simp; omega), heap_setCell_other _ _ _ _ (by simp; omega)]
      · have hb := HR.out.2.bl
        (repeat' (first | (with_reducible exact Below.refl _ _) | (with_reducible assumption) | (with_reducible refine Below.setCell ?_ ?_ _) | (with_reducible refine Below.alloc ?_ ?_ _) | (with_reducible refine below_drewN ?_ _) | (with_reducible refine Below.drew ?_) | (with_reducible exact Nat.le_refl _) | omega | (simp; done) | (simp; omega)))

end Go.Proofs.Ytpfnhiohbgconaa
