/- Proved here: FillArea of the program: faC, faL. -/
import Derived.Test.YtpfnhiohbgconaaFaI
import Derived.Test.YtpfnhiohbgconaaIOne
namespace Go.Proofs.Ytpfnhiohbgconaa
open Go.RowKit
set_option linter.unusedVariables false
set_option linter.unusedSimpArgs false

/-- The area and the answer's place lie as they were laid. -/
structure FQ (w wr : World) (a : Bx) : Prop where
  b : wr.heap[w.heap.size]? = some (.cells #[.int .i64 a.x0, .int .i64 a.y0, .int .i64 a.x1, .int .i64 a.y1] 30)
  r : wr.heap[w.heap.size + 1]? = some (.cells #[.int .i64 0, .slice none 0 0] 28)
  bl : Below w.heap.size w wr
  sz : w.heap.size + 2 ≤ wr.heap.size
theorem FQ.next {w wr W : World} {a : Bx} (h : FQ w wr a) (hb : Below wr.heap.size wr W) : FQ w W a :=
  ⟨(hb.block _ (by have := h.sz; omega)).trans h.b, (hb.block _ (by have := h.sz; omega)).trans h.r, h.bl.trans (hb.mono h.bl.size), Nat.le_trans h.sz hb.size⟩
theorem FQ.start (w : World) (a : Bx) : FQ w ((w.alloc (.cells #[.int .i64 a.x0, .int .i64 a.y0, .int .i64 a.x1, .int .i64 a.y1] 30)).alloc (.cells #[.int .i64 0, .slice none 0 0] 28)) a := by
  have h1 := heap_alloc_new (w.alloc (.cells #[.int .i64 a.x0, .int .i64 a.y0, .int .i64 a.x1, .int .i64 a.y1] 30)) (.cells #[.int .i64 0, .slice none 0 0] 28)
  simp only [World.size_alloc] at h1
  exact ⟨(Below.heap_alloc _ _ _ (by simp)).trans (heap_alloc_new w _), h1, by (repeat' (first | (with_reducible exact Below.refl _ _) | (with_reducible assumption) | (with_reducible refine Below.setCell ?_ ?_ _) | (with_reducible refine Below.alloc ?_ ?_ _) | (with_reducible refine below_drewN ?_ _) | (with_reducible refine Below.drew ?_) | (with_reducible exact Nat.le_refl _) | omega | (simp; done) | (simp; omega))), by simp⟩
/-- The squares that stay. -/
structure LV (w wr : World) (vo : Value) (out : List Bx) : Prop where
  o : BS wr w.heap.size vo out
  bl : Below w.heap.size w wr
theorem LV.next {w wr w' : World} {vo : Value} {l : List Bx} (h : LV w wr vo l) (hb : Below wr.heap.size wr w') : LV w w' vo l := ⟨h.o.below hb, h.bl.trans (hb.mono h.bl.size)⟩
theorem LV.push {w wr w1 : World} {v v' : Value} {l : List Bx} {b : Bx} {ob : Obj} (h : LV w wr v l) (ho : w1.ownsRow w.heap.size 30 4 v' (l.length + 1) (bflat l ++ bcells b)) (hg : (wr.alloc ob).grownBy w1 v.ownBlock) : LV w w1 v' (l ++ [b]) := by
  have hsz := h.bl.size
  refine ⟨?_, (h.bl.alloc h.bl.size ob).grown hg (by simp; omega) (fun k hk => (World.ownsRow.lt h.o k hk).1)⟩
  unfold BS
  rw [bflat_append, List.length_append]
  have e : bflat [b] = bcells b := by simp [bflat]
  rw [e]; exact ho
theorem filter_snoc {P : Bx → Bool} {l : List Bx} {q : Bx} (t : Bool) (h : P q = t) : (l ++ [q]).filter P = l.filter P ++ (if t then [q] else []) := by
  rw [List.filter_append]
  cases t <;> simp [h]

set_option maxRecDepth 10000 in
set_option maxHeartbeats 8000000 in
theorem impl_fill (a : Bx) (z p d : Int) {w : World} {va : Option Addr} {n c : Nat} {s : List Bx} (hn : s.length ≤ 1048576) (hc : n ≤ c) (h : RB w (.slice va n c) s) :
    Calls Try.prog 12 #[.agg #[.int .i64 a.x0, .int .i64 a.y0, .int .i64 a.x1, .int .i64 a.y1], .slice va n c, .int .i64 z, .int .i64 p, .int .i64 d] w fun e w' => ∃ vs, e = .returned (.agg #[.int .i64 (faC a s z p d), vs]) ∧ BC w' w.heap.size vs (faL a s z p d) ∧ Below w.heap.size w w' := by
  obtain ⟨y0, hy0⟩ : ∃ y, y = bfK a := ⟨_, rfl⟩
  obtain ⟨y1, hy1⟩ : ∃ y, y = shapeK s := ⟨_, rfl⟩
  obtain ⟨C, hC⟩ : ∃ C, C = faC a s z p d := ⟨_, rfl⟩
  have hnl : n = s.length := by obtain ⟨_, _, e⟩ := h.form; injection e
  have H : Hid (RB w (.slice va n c) s ∧ n = s.length ∧ y0 = bfK a ∧ y1 = shapeK s ∧ C = faC a s z p d) := ⟨h, hnl, hy0, hy1, hC⟩
  have HBF : Hid (∀ W : World, Calls Try.prog 49 #[.agg #[.int .i64 a.x0, .int .i64 a.y0, .int .i64 a.x1, .int .i64 a.y1]] W fun e w' => e = .returned (.int .i64 y0) ∧ Below W.heap.size W w') := fun W => by rw [hy0]; exact impl_box a W
  have HSH : Hid (∀ W : World, Below w.heap.size w W → Calls Try.prog 50 #[.slice va n c] W fun e w' => e = .returned (.int .i64 y1) ∧ Below W.heap.size W w') := fun W hW => by rw [hy1]; exact impl_shape (by omega) hc (h.below hW)
  obtain ⟨r0, hr0⟩ : ∃ r, r = decide (1 ≤ z ∧ z ≤ 1000) := ⟨_, rfl⟩
  obtain ⟨r1, hr1⟩ : ∃ r, r = decide (z ≤ p ∧ p ≤ 1000) := ⟨_, rfl⟩
  obtain ⟨r2, hr2⟩ : ∃ r, r = decide (0 ≤ d ∧ d ≤ 1000) := ⟨_, rfl⟩
  have HI0 : Hid (∀ W, Calls Try.prog 51 #[.int .i64 z, .int .i64 1, .int .i64 1000] W fun e w' => e = .returned (.bool r0) ∧ w' = W) := impl_ins z 1 1000 r0 hr0
  have HI1 : Hid (∀ W, Calls Try.prog 51 #[.int .i64 p, .int .i64 z, .int .i64 1000] W fun e w' => e = .returned (.bool r1) ∧ w' = W) := impl_ins p z 1000 r1 hr1
  have HI2 : Hid (∀ W, Calls Try.prog 51 #[.int .i64 d, .int .i64 0, .int .i64 1000] W fun e w' => e = .returned (.bool r2) ∧ w' = W) := impl_ins d 0 1000 r2 hr2
  have HRR : Hid (r0 = decide (1 ≤ z ∧ z ≤ 1000) ∧ r1 = decide (z ≤ p ∧ p ≤ 1000) ∧ r2 = decide (0 ≤ d ∧ d ≤ 1000)) := ⟨hr0, hr1, hr2⟩
  rw [← hC]
  obtain ⟨i0, hi0, hz0, hz1, hz2⟩ := info_parts info_box
  have HN : Hid (s.length ≤ 1048576) := hn
  clear h hnl hy0 hy1 hC hr0 hr1 hr2 hn hc
  go_enter Try.func12, Try.ntmps12
  go_wp2_with (fail)
  refine (HBF.out _).mono ?_
  rintro e w1 ⟨rfl, hb1⟩
  have HK1 : Hid (FQ w w1 a) := (FQ.start w a).next hb1
  clear hb1 HBF
  by_cases q0 : y0 = 0
  case neg =>
    have HE : Hid (C = y0 ∧ faL a s z p d = []) := by
      refine ⟨?_, ?_⟩
      · rw [H.out.2.2.2.2, faC, if_neg (by rw [← H.out.2.2.1]; exact q0), H.out.2.2.1]
      · rw [faL, if_neg (fun e => q0 (by rw [H.out.2.2.1]; exact e.1))]
    obtain ⟨r0, r1, f0, f1, hlt2⟩ := cellsT HK1.out.r
    go_wp2
    refine bodyPost_ret (by simp [results, Try.results12, go_sem, r0, r1, hlt2]; rfl) rfl ⟨.slice none 0 0, ?_, ?_, ?_⟩
    · rw [HE.out.1]
    · rw [HE.out.2]; exact (BS.nil _ _).bc
    · have hb := HK1.out.bl
      (repeat' (first | (with_reducible exact Below.refl _ _) | (with_reducible assumption) | (with_reducible refine Below.setCell ?_ ?_ _) | (with_reducible refine Below.alloc ?_ ?_ _) | (with_reducible refine below_drewN ?_ _) | (with_reducible refine Below.drew ?_) | (with_reducible exact Nat.le_refl _) | omega | (simp; done) | (simp; omega)))
  have HA0 : Hid (bfK a = 0) := by unfold Hid; rw [← H.out.2.2.1]; exact q0
  subst q0
  go_wp2_with (fail)
  refine (HSH.out _ HK1.out.bl).mono ?_
  rintro e w2 ⟨rfl, hb2⟩
  have HK2 : Hid (FQ w w2 a) := HK1.out.next hb2
  clear hb2 HSH HK1
  by_cases q1 : y1 = 0
  case neg =>
    have HE : Hid (C = y1 ∧ faL a s z p d = []) := by
      refine ⟨?_, ?_⟩
      · rw [H.out.2.2.2.2, faC, if_pos HA0.out, if_neg (by rw [← H.out.2.2.2.1]; exact q1), H.out.2.2.2.1]
      · rw [faL, if_neg (fun e => q1 (by rw [H.out.2.2.2.1]; exact e.2.1))]
    obtain ⟨r0, r1, f0, f1, hlt2⟩ := cellsT HK2.out.r
    go_wp2
    refine bodyPost_ret (by simp [results, Try.results12, go_sem, r0, r1, hlt2]; rfl) rfl ⟨.slice none 0 0, ?_, ?_, ?_⟩
    · rw [HE.out.1]
    · rw [HE.out.2]; exact (BS.nil _ _).bc
    · have hb := HK2.out.bl
      (repeat' (first | (with_reducible exact Below.refl _ _) | (with_reducible assumption) | (with_reducible refine Below.setCell ?_ ?_ _) | (with_reducible refine Below.alloc ?_ ?_ _) | (with_reducible refine below_drewN ?_ _) | (with_reducible refine Below.drew ?_) | (with_reducible exact Nat.le_refl _) | omega | (simp; done) | (simp; omega)))
  have HS0 : Hid (shapeK s = 0) := by unfold Hid; rw [← H.out.2.2.2.1]; exact q1
  subst q1
  have HBAD : Hid (¬ faIn z p d → C = 3 ∧ faL a s z p d = []) := fun hf => by
    refine ⟨?_, ?_⟩
    · rw [H.out.2.2.2.2, faC, if_pos HA0.out, if_pos HS0.out, if_neg hf]
    · rw [faL, if_neg (fun e => hf e.2.2.1)]
  go_wp2_with (fail)
  refine (HI0.out _).mono ?_
  rintro e w3 ⟨rfl, hw3⟩
  subst w3
  cases r0 with
  | false =>
    have HE : Hid (C = 3 ∧ faL a s z p d = []) := HBAD.out (fun hf => by
      unfold faIn at hf
      have h5 := HRR.out.1; have h6 := decide_eq_false_iff_not.1 h5.symm; omega)
    obtain ⟨r0, r1, f0, f1, hlt2⟩ := cellsT HK2.out.r
    go_wp2
    refine bodyPost_ret (by simp [results, Try.results12, go_sem, r0, r1, hlt2]; rfl) rfl ⟨.slice none 0 0, ?_, ?_, ?_⟩
    · rw [HE.out.1]
    · rw [HE.out.2]; exact (BS.nil _ _).bc
    · have hb := HK2.out.bl
      (repeat' (first | (with_reducible exact Below.refl _ _) | (with_reducible assumption) | (with_reducible refine Below.setCell ?_ ?_ _) | (with_reducible refine Below.alloc ?_ ?_ _) | (with_reducible refine below_drewN ?_ _) | (with_reducible refine Below.drew ?_) | (with_reducible exact Nat.le_refl _) | omega | (simp; done) | (simp; omega)))
  | true =>
  have hz : 1 ≤ z ∧ z ≤ 1000 := by simpa using HRR.out.1
  go_wp2_with (fail)
  refine (HI1.out _).mono ?_
  rintro e w3 ⟨rfl, hw3⟩
  subst w3
  cases r1 with
  | false =>
    have HE : Hid (C = 3 ∧ faL a s z p d = []) := HBAD.out (fun hf => by
      unfold faIn at hf
      have h5 := HRR.out.2.1; have h6 := decide_eq_false_iff_not.1 h5.symm; omega)
    obtain ⟨r0, r1, f0, f1, hlt2⟩ := cellsT HK2.out.r
    go_wp2
    refine bodyPost_ret (by simp [results, Try.results12, go_sem, r0, r1, hlt2]; rfl) rfl ⟨.slice none 0 0, ?_, ?_, ?_⟩
    · rw [HE.out.1]
    · rw [HE.out.2]; exact (BS.nil _ _).bc
    · have hb := HK2.out.bl
      (repeat' (first | (with_reducible exact Below.refl _ _) | (with_reducible assumption) | (with_reducible refine Below.setCell ?_ ?_ _) | (with_reducible refine Below.alloc ?_ ?_ _) | (with_reducible refine below_drewN ?_ _) | (with_reducible refine Below.drew ?_) | (with_reducible exact Nat.le_refl _) | omega | (simp; done) | (simp; omega)))
  | true =>
  have hp : z ≤ p ∧ p ≤ 1000 := by simpa using HRR.out.2.1
  go_wp2_with (fail)
  refine (HI2.out _).mono ?_
  rintro e w3 ⟨rfl, hw3⟩
  subst w3
  cases r2 with
  | false =>
    have HE : Hid (C = 3 ∧ faL a s z p d = []) := HBAD.out (fun hf => by
      unfold faIn at hf
      have h5 := HRR.out.2.2; have h6 := decide_eq_false_iff_not.1 h5.symm; omega)
    obtain ⟨r0, r1, f0, f1, hlt2⟩ := cellsT HK2.out.r
    go_wp2
    refine bodyPost_ret (by simp [results, Try.results12, go_sem, r0, r1, hlt2]; rfl) rfl ⟨.slice none 0 0, ?_, ?_, ?_⟩
    · rw [HE.out.1]
    · rw [HE.out.2]; exact (BS.nil _ _).bc
    · have hb := HK2.out.bl
      (repeat' (first | (with_reducible exact Below.refl _ _) | (with_reducible assumption) | (with_reducible refine Below.setCell ?_ ?_ _) | (with_reducible refine Below.alloc ?_ ?_ _) | (with_reducible refine below_drewN ?_ _) | (with_reducible refine Below.drew ?_) | (with_reducible exact Nat.le_refl _) | omega | (simp; done) | (simp; omega)))
  | true =>
  have hd : 0 ≤ d ∧ d ≤ 1000 := by simpa using HRR.out.2.2
  have HIN : Hid (faIn z p d) := by unfold Hid faIn; omega
  have HOK : Hid (OkA a) := bfK_okA HA0.out
  have HKP : Hid (s.length ≤ 150 ∧ ∀ b ∈ s, OkM b) := by
    have hb := boxesK_zero (faK_zero HS0.out)
    exact ⟨hb.1, fun b hb' => ⟨(hb.2 b hb').1, (hb.2 b hb').2.1⟩⟩
  clear HRR HI0 HI1 HI2
  have hoka := HOK.out
  unfold OkA at hoka
  have s1 : IntKind.i64.wrap (a.x1 - a.x0) = a.x1 - a.x0 := by rw [IntKind.wrap_i64]; omega
  have s2 : IntKind.i64.wrap (a.y1 - a.y0) = a.y1 - a.y0 := by rw [IntKind.wrap_i64]; omega
  have l1 := roomN_le (len := a.x1 - a.x0) (z := z) (p := p) (by omega) hz.1 (by omega)
  have l2 := roomN_le (len := a.y1 - a.y0) (z := z) (p := p) (by omega) hz.1 (by omega)
  have l3 := cntA l1 l2
  obtain ⟨nx, hnx⟩ : ∃ nx, nx = roomN (a.x1 - a.x0) z p := ⟨_, rfl⟩
  obtain ⟨ny, hny⟩ : ∃ ny, ny = roomN (a.y1 - a.y0) z p := ⟨_, rfl⟩
  have HNX : Hid (nx = roomN (a.x1 - a.x0) z p ∧ ny = roomN (a.y1 - a.y0) z p) := ⟨hnx, hny⟩
  have HC1 : Hid (∀ W, Calls Try.prog 52 #[.int .i64 (a.x1 - a.x0), .int .i64 z, .int .i64 p] W fun e w' => e = .returned (.int .i64 (nx : Int)) ∧ w' = W) := fun W => by rw [hnx]; exact impl_along _ z p W hz.1 hz.2 (by omega) hp.2 (by omega) (by omega)
  have HC2 : Hid (∀ W, Calls Try.prog 52 #[.int .i64 (a.y1 - a.y0), .int .i64 z, .int .i64 p] W fun e w' => e = .returned (.int .i64 (ny : Int)) ∧ w' = W) := fun W => by rw [hny]; exact impl_along _ z p W hz.1 hz.2 (by omega) hp.2 (by omega) (by omega)
  rw [← hnx] at l1 l3
  rw [← hny] at l2 l3
  have hmul : (nx : Int) * (ny : Int) = ((nx * ny : Nat) : Int) := by simp
  have hw3 : IntKind.i64.wrap ((nx : Int) * (ny : Int)) = ((nx * ny : Nat) : Int) := by rw [hmul, IntKind.wrap_i64]; omega
  obtain ⟨N, hN⟩ : ∃ N, N = nx * ny := ⟨_, rfl⟩
  have HNN : Hid (N = faN a z p) := by unfold Hid faN; rw [hN, hnx, hny]
  rw [← hN] at hw3 l3
  have HZP : Hid (1 ≤ z ∧ z ≤ 1000 ∧ 1 ≤ p ∧ p ≤ 1000 ∧ 0 ≤ d ∧ d ≤ 1000) := by unfold Hid; omega
  have HC : Hid (C = if 150 < N then 2 else toldC (opOf (takesK 1) (flL a s z p d) []).length) := by
    unfold Hid
    rw [H.out.2.2.2.2, faC, if_pos HA0.out, if_pos HS0.out, if_pos HIN.out, HNN.out]
  have HL : Hid (¬ 150 < N → faL a s z p d = toldL (opOf (takesK 1) (flL a s z p d) [])) := fun h1 => by
    rw [HNN.out] at h1
    rw [faL, if_pos ⟨HA0.out, HS0.out, HIN.out, h1⟩]
  clear hnx hny hmul hN hoka
  obtain ⟨p0, p1, p2, p3, pl⟩ := mt_four HK2.out.b
  go_wp2_with (fail)
  (refine wp_region_und (by kernel_rfl) (by kernel_rfl) (fun hund => ?_); (repeat (go_big_quiet_step (first | (go_at_call 52; with_reducible refine und_call_same (HC1.out _)) | (go_at_call 52; with_reducible refine und_call_same (HC2.out _))))); with_reducible refine wpQuiet_nil ?_; clear hund; intro W1 hb1; obtain ⟨hc1, hf1⟩ := bcell hb1)
  have HK3 : Hid (FQ w W1 a) := HK2.out.next hb1
  clear hb1 hc1 hf1 p0 p1 p2 p3 pl HK2 s1 s2 HC1 HC2 hw3
  by_cases h150 : (150 : Int) < (N : Int)
  · have HE : Hid (C = 2 ∧ faL a s z p d = []) := by
      refine ⟨by rw [HC.out, if_pos (by omega)], ?_⟩
      rw [faL, if_neg (fun e => e.2.2.2 (by rw [← HNN.out]; omega))]
    obtain ⟨r0, r1, f0, f1, hlt2⟩ := cellsT HK3.out.r
    go_wp2
    refine bodyPost_ret (by simp [results, Try.results12, go_sem, r0, r1, hlt2]; rfl) rfl ⟨.slice none 0 0, ?_, ?_, ?_⟩
    · rw [HE.out.1]
    · rw [HE.out.2]; exact (BS.nil _ _).bc
    · have hb := HK3.out.bl
      (repeat' (first | (with_reducible exact Below.refl _ _) | (with_reducible assumption) | (with_reducible refine Below.setCell ?_ ?_ _) | (with_reducible refine Below.alloc ?_ ?_ _) | (with_reducible refine below_drewN ?_ _) | (with_reducible refine Below.drew ?_) | (with_reducible exact Nat.le_refl _) | omega | (simp; done) | (simp; omega)))
  have HE : Hid (C = toldC (opOf (takesK 1) (flL a s z p d) []).length ∧ faL a s z p d = toldL (opOf (takesK 1) (flL a s z p d) [])) := ⟨by rw [HC.out, if_neg (by omega)], HL.out (by omega)⟩
  have HSQ : Hid (∀ W, Calls Try.prog 53 #[.agg #[.int .i64 a.x0, .int .i64 a.y0, .int .i64 a.x1, .int .i64 a.y1], .int .i64 z, .int .i64 p] W fun e w' => ∃ v, e = .returned v ∧ BS w' W.heap.size v (sqL a z p) ∧ Below W.heap.size W w') := fun W => impl_squares a z p W HOK.out HZP.out.1 HZP.out.2.1 HZP.out.2.2.1 HZP.out.2.2.2.1 (by rw [← HNN.out]; omega)
  obtain ⟨p0, p1, p2, p3, pl⟩ := mt_four HK3.out.b
  go_wp2_with (fail)
  refine (HSQ.out _).mono ?_
  rintro e w4 ⟨v4, rfl, hs4, hb4⟩
  obtain ⟨m, hm⟩ : ∃ m, m = (sqL a z p).length := ⟨_, rfl⟩
  obtain ⟨oa, oc, hof⟩ := hs4.form
  rw [← hm] at hof
  subst hof
  have HK4 : Hid (FQ w w4 a) := HK3.out.next hb4
  have HS4 : Hid (BS w4 W1.heap.size (.slice oa m oc) (sqL a z p) ∧ m = (sqL a z p).length ∧ m ≤ 150) := ⟨hs4, hm, by rw [hm, sqL_len]; have := HNN.out; unfold faN at this; omega⟩
  have hm150 := HS4.out.2.2
  clear hs4 hb4 HK3 HSQ p0 p1 p2 p3 pl hm
  go_wp2
  go_loopw [13, 67] (fun vo i wr => ∃ k : Nat, k ≤ m ∧ i = .int .i64 k ∧ Hid (LV w4 wr vo (((sqL a z p).take k).filter (flP s d)))) (fun _ i _ => m - (intOf i).toNat)
  case atStart => exact ⟨0, Nat.zero_le _, rfl, BS.nil _ _, Below.refl _ _⟩
  case round =>
    obtain ⟨k, hk, rfl, hR⟩ := hrel
    by_cases hlt : k < m
    · have hkl : k < (sqL a z p).length := by rw [← HS4.out.2.1]; exact hlt
      obtain ⟨g, cap, he, hB0, hg0, hj⟩ := (HS4.out.1.below hR.out.bl).pos (by omega)
      simp only [Value.slice.injEq] at he
      obtain ⟨rfl, hx1, rfl⟩ := he
      clear hx1
      obtain ⟨c0, c1, c2, c3⟩ := hj k hkl
      simp only [Nat.zero_add] at c0 c1 c2 c3
      obtain ⟨q, hq⟩ : ∃ q, q = bat (sqL a z p) k := ⟨_, rfl⟩
      rw [← hq] at c0 c1 c2 c3
      have hqin := sqL_in (b := q) HOK.out HZP.out.1 HZP.out.2.2.1 (by rw [hq, bat_get hkl]; exact List.getElem_mem hkl)
      have hoka := HOK.out
      unfold OkA at hoka
      obtain ⟨q', hq'⟩ : ∃ q', q' = grwB d q := ⟨_, rfl⟩
      obtain ⟨t, ht⟩ : ∃ t, t = meetL q' s := ⟨_, rfl⟩
      have HG : Hid (∀ W, Calls Try.prog 54 #[.agg #[.int .i64 q.x0, .int .i64 q.y0, .int .i64 q.x1, .int .i64 q.y1], .int .i64 d] W fun e w' => e = .returned (.agg #[.int .i64 q'.x0, .int .i64 q'.y0, .int .i64 q'.x1, .int .i64 q'.y1]) ∧ Below W.heap.size W w') := fun W => by rw [hq']; exact impl_grwB q d W ⟨HZP.out.2.2.2.2.1, HZP.out.2.2.2.2.2⟩ (by omega)
      have HM : Hid (∀ W, Below w.heap.size w W → Calls Try.prog 55 #[.agg #[.int .i64 q'.x0, .int .i64 q'.y0, .int .i64 q'.x1, .int .i64 q'.y1], .slice va n c] W fun e w' => e = .returned (.bool t) ∧ Below W.heap.size W w') := fun W hW => by rw [ht]; exact impl_meets q' HN.out (H.out.1.below hW)
      have HST : Hid (((sqL a z p).take (k + 1)).filter (flP s d) = ((sqL a z p).take k).filter (flP s d) ++ (if (!t) = true then [q] else [])) := by
        unfold Hid
        rw [take_bat hkl, ← hq, filter_snoc (!t) (by unfold flP; rw [← hq', ← ht])]
      have hlen : (((sqL a z p).take k).filter (flP s d)).length ≤ 150 := Nat.le_trans (List.length_filter_le _ _) (by rw [List.length_take]; omega)
      obtain ⟨oa, oc', hof⟩ := hR.out.o.form
      subst hof
      have HLV : Hid (LV w4 wr (.slice oa (((sqL a z p).take k).filter (flP s d)).length oc') (((sqL a z p).take k).filter (flP s d))) := hR.out
      have HBW : Hid (Below w.heap.size w wr) := HK4.out.bl.trans (hR.out.bl.mono HK4.out.bl.size)
      have hszr := hR.out.bl.size
      have hszw := HBW.out.size
      clear hq hj hqin hoka hq' ht hR
      generalize ((sqL a z p).take k).filter (flP s d) = out at HLV HST hlen ⊢
      have b0 : (0 : Int) ≤ (k : Int) := by omega
      have b1 : (k : Int) < (m : Int) := by omega
      go_wp2_with (fail)
      refine (HG.out _).mono ?_
      rintro e w5 ⟨rfl, hb5⟩
      have k5 := (hb5.block wr.heap.size (by simp)).trans (heap_alloc_new wr _)
      have hb5' : Below wr.heap.size wr w5 := Below.trans (by (repeat' (first | (with_reducible exact Below.refl _ _) | (with_reducible assumption) | (with_reducible refine Below.setCell ?_ ?_ _) | (with_reducible refine Below.alloc ?_ ?_ _) | (with_reducible refine below_drewN ?_ _) | (with_reducible refine Below.drew ?_) | (with_reducible exact Nat.le_refl _) | omega | (simp; done) | (simp; omega)))) (hb5.mono (by simp))
      have hz5 : wr.heap.size < w5.heap.size := by have := hb5.size; simp at this; omega
      have HLV5 : Hid (LV w4 w5 (.slice oa out.length oc') out ∧ Below w.heap.size w w5) := ⟨HLV.out.next hb5', HBW.out.trans (hb5'.mono hszw)⟩
      have HK5 : Hid (w5.heap[wr.heap.size]? = some (.cells #[.int .i64 q.x0, .int .i64 q.y0, .int .i64 q.x1, .int .i64 q.y1] 30)) := k5
      clear hb5 hb5' k5 HLV HBW c0 c1 c2 c3 HG
      go_wp2_with (fail)
      refine (HM.out _ HLV5.out.2).mono ?_
      rintro e w6 ⟨rfl, hb6⟩
      have HLV6 : Hid (LV w4 w6 (.slice oa out.length oc') out) := HLV5.out.1.next hb6
      have hsz6 := HLV6.out.bl.size
      obtain ⟨e0, e1, e2, e3, el⟩ := mt_four ((hb6.block _ hz5).trans HK5.out)
      clear hb6 HLV5 HK5 HM
      cases t with
      | true =>
        have R : Hid (LV w4 w6 (.slice oa out.length oc') (((sqL a z p).take (k + 1)).filter (flP s d))) := by
          unfold Hid; rw [HST.out]; simpa using HLV6.out
        clear HLV6 HST
        go_wp2
        go_roundw
        case rel => exact ⟨k + 1, by omega, by go_num, R.out⟩
        case measure => simp [intOf]; omega
      | false =>
        go_wp2_with (at_builtin; refine wpList_append_own _ rfl _ _ 26 rfl w4.heap.size 30 i0 (.agg #[.int .i64 0, .int .i64 0, .int .i64 0, .int .i64 0]) 4 32 Try.underlying26 hi0 hz0 hz1 hz2 rfl (by decide) _ _ _ rfl (World.ownsRow.alloc HLV6.out.o _) ⟨w6.heap.size, 0, none⟩ 1 1 (bcells q) rfl rfl (World.news_of_block (cs := #[.int .i64 q.x0, .int .i64 q.y0, .int .i64 q.x1, .int .i64 q.y1]) (t := 30) (fr := (0, 0)) (heap_alloc_new w6 _)) (by simp [bcells, Value.oneCell']) (by unfold maxLen; omega) (by omega) (by simp; omega) ?_; intro v7 w7 hown7 hgrow7 _)
        have R : Hid (LV w4 w7 v7 (((sqL a z p).take (k + 1)).filter (flP s d))) := by
          unfold Hid; rw [HST.out]
          exact HLV6.out.push hown7 hgrow7
        clear HLV6 HST hown7 hgrow7 e0 e1 e2 e3 el
        go_wp2
        go_roundw
        case rel => exact ⟨k + 1, by omega, by go_num, R.out⟩
        case measure => simp [intOf]; omega
    · have HF : Hid (LV w4 wr u13 (flL a s z p d)) := by
        have h1 := hR.out
        rw [List.take_of_length_le (by rw [← HS4.out.2.1]; omega)] at h1
        exact h1
      have HFX : Hid ((∀ q ∈ flL a s z p d, q.x0 < q.x1) ∧ (flL a s z p d).length ≤ 150) := by
        refine ⟨fun q hq => (sqL_in HOK.out HZP.out.1 HZP.out.2.2.1 ((List.mem_filter.1 hq).1)).1, ?_⟩
        have h1 := flL_len a s z p d
        rw [← HNN.out] at h1
        omega
      obtain ⟨fb, fc, hof⟩ := HF.out.o.form
      subst hof
      obtain ⟨L, hL⟩ : ∃ L, L = opOf (takesK 1) (flL a s z p d) [] := ⟨_, rfl⟩
      have HOF : Hid (Calls Try.prog 57 #[.slice fb (flL a s z p d).length fc] wr fun e w' => ∃ v', e = .returned v' ∧ BC w' wr.heap.size v' L ∧ Below wr.heap.size wr w') := by
        unfold Hid; rw [hL]
        exact impl_oneForm (by have := HFX.out.2; omega) HFX.out.1 HF.out.o.rb
      rw [← hL] at HE
      have HK5 : Hid (FQ w wr a) := HK4.out.next HF.out.bl
      have hszr := HK5.out.sz
      clear hR hL HFX HF
      go_wp2_with (fail)
      refine HOF.out.mono ?_
      rintro e w5 ⟨v5, rfl, ho5, hb5⟩
      obtain ⟨x5, z5, hof5⟩ : ∃ a2 c2, v5 = .slice a2 L.length c2 := by obtain ⟨x, y, z, e, _⟩ := ho5; exact ⟨x, z, e⟩
      subst hof5
      have HO5 : Hid (BC w5 wr.heap.size (.slice x5 L.length z5) L ∧ FQ w w5 a) := ⟨ho5, HK5.out.next hb5⟩
      clear ho5 hb5 HK5 HOF
      go_wp2_with (fail)
      refine (impl_answer x5 _ z5 w5).mono ?_
      rintro e w6 ⟨rfl, hb6⟩
      have HR : Hid (BC w6 wr.heap.size (toldV (.slice x5 L.length z5) L.length) (toldL L) ∧ FQ w w6 a) := ⟨(told_bc HO5.out.1).below hb6, HO5.out.2.next hb6⟩
      clear hb6 HO5
      obtain ⟨r0, r1, f0, f1, hlt3⟩ := cellsT HR.out.2.r
      obtain ⟨a3, c3, h3⟩ : ∃ a3 c3, toldV (.slice x5 L.length z5) L.length = .slice a3 (toldL L).length c3 := by obtain ⟨x, y, z, e, _⟩ := HR.out.1; exact ⟨x, z, e⟩
      rw [h3] at HR ⊢
      clear h3
      go_wp2
      refine bodyPost_ret (by simp [results, Try.results12, go_sem, r0, r1, hlt3]; rfl) rfl ⟨.slice a3 (toldL L).length c3, ?_, ?_, ?_⟩
      · rw [HE.out.1]
      · rw [HE.out.2]
        refine (HR.out.1.kept fun g hg => ?_).low (by omega)
        have hge := HR.out.1.lt hg
        rw [heap_setCell_other _ _ _ _ (by simp; omega), heap_setCell_other _ _ _ _ (by simp; omega)]
      · have hb := HR.out.2.bl
        (repeat' (first | (with_reducible exact Below.refl _ _) | (with_reducible assumption) | (with_reducible refine Below.setCell ?_ ?_ _) | (with_reducible refine Below.alloc ?_ ?_ _) | (with_reducible refine below_drewN ?_ _) | (with_reducible refine Below.drew ?_) | (with_reducible exact Nat.le_refl _) | omega | (simp; done) | (simp; omega)))

end Go.Proofs.Ytpfnhiohbgconaa
