/- Proved here: 'over residues images add up over the shifts, and a shift by the whole period is none', for every code of bytes, without a condition. -/
import Derived.Test.YtcplddblfhbejaaIaM
import Derived.Test.YtcplddblfhbejaaRows
import Derived.Deep.RegionHeld3
import Derived.OpenShut
import Derived.ChangeOld
import Derived.Below
namespace Go.Proofs.Ytcplddblfhbejaa
open Go.ChangeShapes Go.WideShapes Go.ChangeAt Go.RowKit
set_option linter.unusedVariables false
set_option linter.unusedSimpArgs false

/-- The world of the law: what was drawn stands. -/
structure LI (w V : World) (ca : Option Addr) (n : Nat) (bs : Nat → Int) (v1 v2 v3 : Value) (s1 s2 s3 : List Int) : Prop where
  bl : Below w.heap.size w V
  co : CodeAt V ca n bs
  m1 : IS V w.heap.size v1 s1
  m2 : IS V w.heap.size v2 s2
  m3 : IS V w.heap.size v3 s3
theorem LI.next {w V V' : World} {ca : Option Addr} {n : Nat} {bs : Nat → Int} {v1 v2 v3 : Value} {s1 s2 s3 : List Int} (h : LI w V ca n bs v1 v2 v3 s1 s2 s3) (hb : Below V.heap.size V V') : LI w V' ca n bs v1 v2 v3 s1 s2 s3 :=
  ⟨h.bl.trans (hb.mono h.bl.size), h.co.next hb, h.m1.bel hb, h.m2.bel hb, h.m3.bel hb⟩
theorem LI.new {w V : World} {ca : Option Addr} {n : Nat} {bs : Nat → Int} {v1 v2 v3 : Value} {s1 s2 s3 : List Int} (h : LI w V ca n bs v1 v2 v3 s1 s2 s3) (o : Obj) : LI w (V.alloc o) ca n bs v1 v2 v3 s1 s2 s3 := h.next (below_allocI _ _)
theorem VarI.alloc {V : World} {K : Nat} {C : Int} {v : Value} {B : Nat} {xs : List Int} (h : VarI V K C v B xs) (o : Obj) : VarI (V.alloc o) K C v B xs := h.next (below_allocI _ _)
theorem im_any {a1 a2 a3 : Option Addr} {n c1 m c2 l c3 : Nat} {w : World} {mk bk ss : List Int} (hn : n ≤ 64) (hm : RdI w (.slice a1 n c1) mk) (hb : RdI w (.slice a2 m c2) bk) (hs : RdI w (.slice a3 l c3) ss) :
    Calls Try.prog 10 #[.slice a1 n c1, .slice a2 m c2, .slice a3 l c3] w fun e w' => ∃ a c, e = .returned (.agg #[.int .i64 (miC mk.length bk.length ss.length), .slice a (miL mk bk ss).length c]) ∧ IS w' w.heap.size (.slice a (miL mk bk ss).length c) (miL mk bk ss) ∧ Below w.heap.size w w' := by
  refine (impl_mi (by omega) hm hb hs).mono ?_
  rintro e w' ⟨v, rfl, h, hbl⟩
  obtain ⟨a, c, rfl⟩ := h.form
  exact ⟨a, c, rfl, h, hbl⟩
theorem sm_any {a1 a2 a3 : Option Addr} {n c1 m c2 l c3 : Nat} {w : World} {mk bk ss : List Int} (hn : n ≤ 64) (hm : RdI w (.slice a1 n c1) mk) (hb : RdI w (.slice a2 m c2) bk) (hs : RdI w (.slice a3 l c3) ss) :
    Calls Try.prog 11 #[.slice a1 n c1, .slice a2 m c2, .slice a3 l c3] w fun e w' => ∃ a c, e = .returned (.agg #[.int .i64 (miC mk.length bk.length ss.length), .slice a (miL mk bk ss).length c]) ∧ IS w' w.heap.size (.slice a (miL mk bk ss).length c) (miL mk bk ss) ∧ Below w.heap.size w w' := by
  refine (spec_mi (by omega) hm hb hs).mono ?_
  rintro e w' ⟨v, rfl, h, hbl⟩
  obtain ⟨a, c, rfl⟩ := h.form
  exact ⟨a, c, rfl, h, hbl⟩
theorem miL_few (mk bk ss : List Int) : (miL mk bk ss).length ≤ 32 := by
  unfold miL
  split
  · rename_i h
    unfold miC at h
    split at h
    · cases h
    · split at h
      · cases h
      · simp [miK]; omega
  · simp
theorem miC_in (n m l : Nat) : miC n m l = 0 ∨ miC n m l = 1 ∨ miC n m l = 2 := by
  unfold miC
  split
  · exact Or.inr (Or.inl rfl)
  · split
    · exact Or.inr (Or.inr rfl)
    · exact Or.inl rfl
theorem miC_ok {n m l : Nat} (h : miC n m l = 0) : ¬ badN n m ∧ n ≤ 32 ∧ l ≤ 12 := by
  unfold miC at h
  split at h
  · cases h
  · rename_i hb
    split at h
    · cases h
    · exact ⟨hb, by omega, by omega⟩
theorem miC_of {n m l : Nat} (h : ¬ badN n m) (h1 : n ≤ 32) (h2 : l ≤ 12) : miC n m l = 0 := by
  unfold miC
  rw [if_neg h, if_neg (by omega)]

theorem im_part {a1 a2 a3 : Option Addr} {n c1 m c2 l c3 : Nat} {w : World} {mk bk ss : List Int} (hC : ¬ badN mk.length bk.length) (h32 : mk.length ≤ 32) (h12 : ss.length ≤ 12) (hm : RdI w (.slice a1 n c1) mk) (hb : RdI w (.slice a2 m c2) bk) (hs : RdI w (.slice a3 l c3) ss) :
    Calls Try.prog 10 #[.slice a1 n c1, .slice a2 m c2, .slice a3 l c3] w fun e w' => ∃ g c, e = .returned (.agg #[.int .i64 0, .slice (some ⟨g, 0, none⟩) mk.length c]) ∧ IS w' w.heap.size (.slice (some ⟨g, 0, none⟩) mk.length c) (miK mk bk ss) ∧ Below w.heap.size w w' := by
  have hn : n = mk.length := hm.len
  have hC0 := miC_of hC h32 h12
  refine (im_any (by omega) hm hb hs).mono ?_
  rintro e w' ⟨a, c, rfl, h, hbl⟩
  have hL : miL mk bk ss = miK mk bk ss := by unfold miL; rw [if_pos hC0]
  have hl : (miL mk bk ss).length = mk.length := by rw [hL, miK_len]
  have h0 : 0 < mk.length := by
    rcases Nat.eq_zero_or_pos mk.length with h0 | h0
    · exact absurd (Or.inl h0) hC
    · exact h0
  obtain ⟨g, c', he, _, _, _⟩ := h.pos (by omega)
  rw [he] at h
  rw [hl] at h he
  rw [hC0]
  refine ⟨g, c', ?_, by rw [← hL]; exact h, hbl⟩
  rw [hl, he]

set_option maxRecDepth 10000 in
set_option maxHeartbeats 6400000 in
theorem law_ia (ca : Option Addr) (n cap : Nat) (bs : Nat → Int) (w : World) (hnn : n ≤ maxLen) (hB : ∀ j, 0 ≤ bs j ∧ bs j ≤ 255)
    (hC : 0 < n → ∃ g off, ca = some ⟨g, off, none⟩ ∧ g < w.heap.size ∧ ∀ j, j < n → w.cell? ⟨g, off + j, none⟩ = some (.int .u8 (bs j))) :
    Calls Try.prog 3 #[.slice ca n cap] w fun e w' => e = .returned (.bool true) ∧ Below w.heap.size w w' := by
  by_cases hbig : (1048576 : Int) < n
  · go_enter Try.func3, Try.ntmps3
    go_wp2_with (fail)
    clear hB hC
    refine (big_any _ _ _ _ hnn).mono ?_
    rintro e w' ⟨rfl, hww⟩
    obtain rfl : w = w' := hww.symm
    go_wp2
    go_returns
    exact ⟨rfl, Below.refl _ _⟩
  have hbig' : decide ((1048576 : Int) < n) = false := by simpa using hbig
  have H : Hid (CodeAt w ca n bs) := ⟨by omega, hB, hC⟩
  clear hB hC
  go_enter Try.func3, Try.ntmps3
  go_wp2_with (fail)
  refine (big_any _ _ _ _ hnn).mono ?_
  rintro e w' ⟨rfl, hww⟩
  obtain rfl : w = w' := hww.symm
  go_wp2_with (fail)
  refine (drawMi_any ca n cap bs _ H.out.1 H.out.2.1 H.out.2.2).mono ?_
  rintro e w1 ⟨v1, v2, v3, s1, s2, s3, rfl, i1, i2, i3, l1, l2, l3, hb1⟩
  obtain ⟨a1, c1, rfl⟩ := i1.form
  obtain ⟨a2, c2, rfl⟩ := i2.form
  obtain ⟨a3, c3, rfl⟩ := i3.form
  have L1 : Hid (LI w w1 ca n bs (.slice a1 s1.length c1) (.slice a2 s2.length c2) (.slice a3 s3.length c3) s1 s2 s3) := ⟨hb1, H.out.next hb1, i1, i2, i3⟩
  clear i1 i2 i3 hb1 H
  go_wp2_with (fail)
  refine (im_any (by omega) L1.out.m1.rg L1.out.m2.rg L1.out.m3.rg).mono ?_
  rintro e w2 ⟨a6, c6, rfl, h6, hb2⟩
  have L2 : Hid (LI w w2 ca n bs (.slice a1 s1.length c1) (.slice a2 s2.length c2) (.slice a3 s3.length c3) s1 s2 s3 ∧ IS w2 w1.heap.size (.slice a6 (miL s1 s2 s3).length c6) (miL s1 s2 s3)) := ⟨L1.out.next hb2, h6⟩
  clear L1 h6 hb2
  go_wp2_with (fail)
  have L3 := L2.out.1.new (.cells #[.int .i64 (miC s1.length s2.length s3.length), .slice a6 (miL s1 s2 s3).length c6] 28)
  refine (sm_any (by omega) L3.m1.rg L3.m2.rg L3.m3.rg).mono ?_
  rintro e w3 ⟨a7, c7, rfl, h7, hb3⟩
  have HS3 : Hid (LI w w3 ca n bs (.slice a1 s1.length c1) (.slice a2 s2.length c2) (.slice a3 s3.length c3) s1 s2 s3 ∧ VarI w3 w2.heap.size (miC s1.length s2.length s3.length) (.slice a6 (miL s1 s2 s3).length c6) w1.heap.size (miL s1 s2 s3) ∧ IS w3 w2.heap.size (.slice a7 (miL s1 s2 s3).length c7) (miL s1 s2 s3)) := ⟨L3.next hb3, (VarI.new L2.out.2).next hb3, h7.low (by simp)⟩
  obtain ⟨p0, p1⟩ := HS3.out.2.1.cells
  have k6 := lt_of_blk HS3.out.2.1.blk
  have hfew := miL_few s1 s2 s3
  generalize hCe : miC s1.length s2.length s3.length = C at *
  generalize hLe : miL s1 s2 s3 = L at *
  clear L2 L3 h7 hb3
  go_wp2_with (fail)
  have M3 := (HS3.out.2.1.alloc (.cells #[.int .i64 C, .slice a7 L.length c7] 28))
  have M7 := HS3.out.2.2.bel (below_allocI w3 (.cells #[.int .i64 C, .slice a7 L.length c7] 28))
  have L4 := HS3.out.1.new (.cells #[.int .i64 C, .slice a7 L.length c7] 28)
  refine (numsI (by omega) M3.lst M7).mono ?_
  rintro e w4 ⟨rfl, kd, hw4⟩
  have hb4 : Below (w3.alloc (.cells #[.int .i64 C, .slice a7 L.length c7] 28)).heap.size (w3.alloc (.cells #[.int .i64 C, .slice a7 L.length c7] 28)) w4 := by rw [hw4]; exact below_drewN (Below.refl _ _) _
  have HS4 : Hid (LI w w4 ca n bs (.slice a1 s1.length c1) (.slice a2 s2.length c2) (.slice a3 s3.length c3) s1 s2 s3 ∧ VarI w4 w2.heap.size C (.slice a6 L.length c6) w1.heap.size L) := ⟨L4.next hb4, M3.next hb4⟩
  clear hw4 hb4 L4 M3 M7 HS3 p0 p1 k6
  obtain ⟨p0, p1⟩ := HS4.out.2.cells
  have k6 := lt_of_blk HS4.out.2.blk
  generalize hK6 : w2.heap.size = K6 at *
  clear hK6
  by_cases hC0 : C = 0
  case neg =>
    have hC1 : (C != 0) = true := by simpa using hC0
    go_wp2
    go_returns
    exact ⟨rfl, by have := HS4.out.1.bl; exact this⟩
  subst hC0
  rcases Nat.eq_zero_or_pos s3.length with h30 | h3p
  · have h30' : ((s3.length : Int) == 0) = true := by simp; simpa using h30
    go_wp2
    go_returns
    exact ⟨rfl, by have := HS4.out.1.bl; exact this⟩
  have h3z : ¬ (s3.length : Int) = 0 := by omega
  have hok := miC_ok hCe
  have hn1 : 0 < s1.length := by
    rcases Nat.eq_zero_or_pos s1.length with h0 | h0
    · exact absurd (Or.inl h0) hok.1
    · exact h0
  have HL : Hid (L = miK s1 s2 s3) := by
    unfold Hid
    rw [← hLe]
    unfold miL
    rw [if_pos hCe]
  clear hLe hCe
  obtain ⟨g3, c3x, he3, _, _, _⟩ := HS4.out.1.m3.pos h3p
  injection he3 with he3a _ he3c
  subst he3a
  clear he3c
  have hcap := HS4.out.1.m3.caps
  go_wp2_with (fail)
  refine (at_any _ _ _ (by omega) (by omega) HS4.out.1.co (by omega) (by omega)).mono ?_
  rintro e w5 ⟨r, kd5, rfl, r0, r1, hw5⟩
  have hb5 : Below w4.heap.size w4 w5 := by rw [hw5]; exact below_drewN (Below.refl _ _) _
  have HS5 : Hid (LI w w5 ca n bs (.slice a1 s1.length c1) (.slice a2 s2.length c2) (.slice (some ⟨g3, 0, none⟩) s3.length c3) s1 s2 s3 ∧ VarI w5 K6 0 (.slice a6 L.length c6) w1.heap.size L) := ⟨HS4.out.1.next hb5, HS4.out.2.next hb5⟩
  clear hw5 hb5 HS4 p0 p1 k6
  obtain ⟨q, rfl⟩ := Int.eq_ofNat_of_zero_le r0
  have hq : q < s3.length := by omega
  have q1 : (q : Int) ≤ (c3 : Int) := by omega
  have q2 : (q : Int) ≤ (s3.length : Int) := by omega
  have q3 : (s3.length : Int) ≤ (c3 : Int) := by omega
  obtain ⟨g6, c6x, he6, _, _, _⟩ := HS5.out.2.lst.pos (by rw [HL.out, miK_len]; exact hn1)
  injection he6 with he6a _ he6c
  subst he6a
  clear he6c
  have hLl : L.length = s1.length := by rw [HL.out, miK_len]
  rw [hLl] at HS5
  have HO : Hid (¬ badN s1.length s2.length) := hok.1
  have hok1 := hok.2.1
  have hok2 := hok.2.2
  clear hok
  go_wp2_with (fail)
  refine (im_part HO.out hok1 (by simp; omega) HS5.out.1.m1.rg HS5.out.1.m2.rg (HS5.out.1.m3.pre q c3 (by omega))).mono ?_
  rintro e w6 ⟨g8, c8, rfl, h8, hb6⟩
  have HS6 : Hid (LI w w6 ca n bs (.slice a1 s1.length c1) (.slice a2 s2.length c2) (.slice (some ⟨g3, 0, none⟩) s3.length c3) s1 s2 s3 ∧ VarI w6 K6 0 (.slice (some ⟨g6, 0, none⟩) s1.length c6) w1.heap.size L ∧ IS w6 w5.heap.size (.slice (some ⟨g8, 0, none⟩) s1.length c8) (miK s1 s2 (s3.take q))) := ⟨HS5.out.1.next hb6, HS5.out.2.next hb6, h8⟩
  clear hb6 h8 HS5
  go_wp2_with (fail)
  have L7 := HS6.out.1.new (.cells #[.int .i64 0, .slice (some ⟨g8, 0, none⟩) s1.length c8] 28)
  refine (im_part HO.out hok1 (by simp; omega) L7.m1.rg L7.m2.rg (L7.m3.post q _ (by omega))).mono ?_
  rintro e w7 ⟨g9, c9, rfl, h9, hb7⟩
  have HS7 : Hid (LI w w7 ca n bs (.slice a1 s1.length c1) (.slice a2 s2.length c2) (.slice (some ⟨g3, 0, none⟩) s3.length c3) s1 s2 s3 ∧ VarI w7 K6 0 (.slice (some ⟨g6, 0, none⟩) s1.length c6) w1.heap.size L ∧ VarI w7 w6.heap.size 0 (.slice (some ⟨g8, 0, none⟩) s1.length c8) w5.heap.size (miK s1 s2 (s3.take q)) ∧ IS w7 w6.heap.size (.slice (some ⟨g9, 0, none⟩) s1.length c9) (miK s1 s2 (s3.drop q))) := ⟨L7.next hb7, (HS6.out.2.1.alloc _).next hb7, (VarI.new HS6.out.2.2).next hb7, h9.low (by simp)⟩
  clear hb7 h9 HS6 L7
  go_wp2_with (fail)
  have HS8 : Hid (LI w (w7.alloc (.cells #[.int .i64 0, .slice (some ⟨g9, 0, none⟩) s1.length c9] 28)) ca n bs (.slice a1 s1.length c1) (.slice a2 s2.length c2) (.slice (some ⟨g3, 0, none⟩) s3.length c3) s1 s2 s3 ∧ VarI (w7.alloc (.cells #[.int .i64 0, .slice (some ⟨g9, 0, none⟩) s1.length c9] 28)) K6 0 (.slice (some ⟨g6, 0, none⟩) s1.length c6) w1.heap.size L ∧ VarI (w7.alloc (.cells #[.int .i64 0, .slice (some ⟨g9, 0, none⟩) s1.length c9] 28)) w6.heap.size 0 (.slice (some ⟨g8, 0, none⟩) s1.length c8) w5.heap.size (miK s1 s2 (s3.take q)) ∧ VarI (w7.alloc (.cells #[.int .i64 0, .slice (some ⟨g9, 0, none⟩) s1.length c9] 28)) w7.heap.size 0 (.slice (some ⟨g9, 0, none⟩) s1.length c9) w6.heap.size (miK s1 s2 (s3.drop q))) := ⟨HS7.out.1.new _, HS7.out.2.1.alloc _, HS7.out.2.2.1.alloc _, VarI.new HS7.out.2.2.2⟩
  clear HS7
  generalize hV8 : w7.alloc (.cells #[.int .i64 0, .slice (some ⟨g9, 0, none⟩) s1.length c9] 28) = V8 at *
  generalize hK8 : w6.heap.size = K8 at *
  generalize hK9 : w7.heap.size = K9 at *
  clear hV8 hK8 hK9
  go_loopw [11] (fun i wr => ∃ k m : Nat, k ≤ s1.length ∧ i = .int .i64 k ∧ wr = V8.drewN m) (fun i _ => s1.length - (intOf i).toNat)
  case atStart => exact ⟨0, 0, Nat.zero_le _, rfl, rfl⟩
  case round =>
    obtain ⟨j, m, hj, rfl, rfl⟩ := hrel
    by_cases hlt : j < s1.length
    · have y6 := HS8.out.2.1.lst.cat (j := j) (by rw [hLl]; exact hlt)
      have y8 := HS8.out.2.2.1.lst.cat (j := j) (by rw [miK_len]; exact hlt)
      have y9 := HS8.out.2.2.2.lst.cat (j := j) (by rw [miK_len]; exact hlt)
      have hadd := miK_add s1 s2 s3 q j (by omega) hlt
      have d8 := miK_bd s1 s2 (s3.take q) j hlt
      have d9 := miK_bd s1 s2 (s3.drop q) j hlt
      rw [HL.out] at y6
      generalize (miK s1 s2 s3).getD j 0 = z6 at *
      generalize (miK s1 s2 (s3.take q)).getD j 0 = z8 at *
      generalize (miK s1 s2 (s3.drop q)).getD j 0 = z9 at *
      have ht : (z8 + z9).tmod 998244353 = z6 := by rw [Int.tmod_eq_emod_of_nonneg (by omega)]; exact hadd
      obtain ⟨p0, p1⟩ := HS8.out.2.1.cells
      obtain ⟨p2, p3⟩ := HS8.out.2.2.1.cells
      obtain ⟨p4, p5⟩ := HS8.out.2.2.2.cells
      clear hadd
      have b0 : (0 : Int) ≤ (j : Int) := by omega
      have b1 : (j : Int) < (s1.length : Int) := by omega
      go_wp2
      go_quiet (fail)
      go_wp2
      go_roundw
      case rel => exact ⟨j + 1, m + nq, by omega, by go_num, rfl⟩
      case measure => simp [intOf]; omega
    · have LL : LI w (V8.drewN m) ca n bs (.slice a1 s1.length c1) (.slice a2 s2.length c2) (.slice (some ⟨g3, 0, none⟩) s3.length c3) s1 s2 s3 := HS8.out.1.next (below_drewN (Below.refl _ _) _)
      have HT : Hid (LI w (V8.drewN m) ca n bs (.slice a1 s1.length c1) (.slice a2 s2.length c2) (.slice (some ⟨g3, 0, none⟩) s3.length c3) s1 s2 s3) := LL
      clear LL HS8
      go_wp2_with (fail)
      have L9 := HT.out.new (.cells #[.int .i64 (q : Int)] 2)
      refine (im_part HO.out hok1 (by simp) L9.m1.rg L9.m2.rg (rd_one (heap_alloc_new _ _))).mono ?_
      rintro e w9 ⟨g12, c12, rfl, h12, hb9⟩
      have HS9 : Hid (LI w w9 ca n bs (.slice a1 s1.length c1) (.slice a2 s2.length c2) (.slice (some ⟨g3, 0, none⟩) s3.length c3) s1 s2 s3 ∧ IS w9 ((V8.drewN m).alloc (.cells #[.int .i64 (q : Int)] 2)).heap.size (.slice (some ⟨g12, 0, none⟩) s1.length c12) (miK s1 s2 [(q : Int)])) := ⟨L9.next hb9, h12⟩
      clear hb9 h12 HT L9
      go_wp2_with (fail)
      have L10 := (HS9.out.1.new (.cells #[.int .i64 0, .slice (some ⟨g12, 0, none⟩) s1.length c12] 28)).new (.cells #[.int .i64 ((q : Int) + (s1.length : Int))] 2)
      have hrd : RdI ((w9.alloc (.cells #[.int .i64 0, .slice (some ⟨g12, 0, none⟩) s1.length c12] 28)).alloc (.cells #[.int .i64 ((q : Int) + (s1.length : Int))] 2)) (.slice (some ⟨w9.heap.size + 1, 0, none⟩) 1 1) [(q : Int) + (s1.length : Int)] := by
        have := heap_alloc_new (w9.alloc (.cells #[.int .i64 0, .slice (some ⟨g12, 0, none⟩) s1.length c12] 28)) (.cells #[.int .i64 ((q : Int) + (s1.length : Int))] 2)
        rw [show (w9.alloc (.cells #[.int .i64 0, .slice (some ⟨g12, 0, none⟩) s1.length c12] 28)).heap.size = w9.heap.size + 1 by simp] at this
        exact rd_one this
      refine (im_part HO.out hok1 (by simp) L10.m1.rg L10.m2.rg hrd).mono ?_
      rintro e w10 ⟨g13, c13, rfl, h13, hb10⟩
      rw [miK_round] at h13
      have HS10 : Hid (LI w w10 ca n bs (.slice a1 s1.length c1) (.slice a2 s2.length c2) (.slice (some ⟨g3, 0, none⟩) s3.length c3) s1 s2 s3 ∧ VarI w10 w9.heap.size 0 (.slice (some ⟨g12, 0, none⟩) s1.length c12) _ (miK s1 s2 [(q : Int)]) ∧ IS w10 _ (.slice (some ⟨g13, 0, none⟩) s1.length c13) (miK s1 s2 [(q : Int)])) := ⟨L10.next hb10, ((VarI.new HS9.out.2).alloc _).next hb10, h13⟩
      clear hb10 h13 HS9 L10 hrd
      obtain ⟨p0, p1⟩ := HS10.out.2.1.cells
      have k9 := lt_of_blk HS10.out.2.1.blk
      go_wp2_with (fail)
      have M1 := HS10.out.2.1.lst.bel (below_allocI w10 (.cells #[.int .i64 0, .slice (some ⟨g13, 0, none⟩) s1.length c13] 28))
      have M2 := HS10.out.2.2.bel (below_allocI w10 (.cells #[.int .i64 0, .slice (some ⟨g13, 0, none⟩) s1.length c13] 28))
      have M0 := HS10.out.1.new (.cells #[.int .i64 0, .slice (some ⟨g13, 0, none⟩) s1.length c13] 28)
      refine (numsI (by rw [miK_len]; omega) M1 M2).mono ?_
      rintro e w11 ⟨rfl, kd, hw11⟩
      have hb11 : Below (w10.alloc (.cells #[.int .i64 0, .slice (some ⟨g13, 0, none⟩) s1.length c13] 28)).heap.size (w10.alloc (.cells #[.int .i64 0, .slice (some ⟨g13, 0, none⟩) s1.length c13] 28)) w11 := by rw [hw11]; exact below_drewN (Below.refl _ _) _
      have HF : Hid (Below w.heap.size w w11) := (M0.next hb11).bl
      clear hw11 hb11 M0 M1 M2 HS10 p0 p1 k9
      go_wp2
      go_returns
      exact ⟨rfl, HF.out⟩

theorem own : ownKnob Try.prog.godebug = none := by kernel_rfl
theorem laidOut : laidOutB Try.prog = true := by kernel_rfl

/-- A slice of bytes that came in: nil, or a row of cells. -/
def IsRow (k : IntKind) (w : World) (a : Option Addr) (len cap : Nat) (zs : List Int) : Prop :=
  (a = none ∧ len = 0 ∧ cap = 0 ∧ zs = []) ∨
  ∃ x, a = some x ∧ len ≤ cap ∧ cap ≤ maxLen ∧ zs.length = cap ∧ (∀ i, i < zs.length → w.cell? (x.add i) = some (.int k (zs.getD i 0))) ∧ ∀ n ∈ zs, (Lit.int k n).wf = true

theorem byte_bd (zs : List Int) (h : ∀ n ∈ zs, (Lit.int .u8 n).wf = true) (j : Nat) : 0 ≤ zs.getD j 0 ∧ zs.getD j 0 ≤ 255 := by
  rcases Nat.lt_or_ge j zs.length with hj | hj
  · have hm : zs.getD j 0 ∈ zs := by simp [List.getElem?_eq_getElem hj]
    have := h _ hm
    simpa [Lit.wf, IntKind.min, IntKind.max, IntKind.signed, IntKind.bits] using this
  · simp [List.getElem?_eq_none hj]

theorem walk (a0 : Option Addr) (len0 cap0 : Nat) (z0 : List Int) (w : World) (w0 : IsRow .u8 w a0 len0 cap0 z0) :
    Calls Try.prog 3 #[.slice a0 len0 cap0] w fun e w' => e = .returned (.bool true) ∧ Below w.heap.size w w' := by
  rcases w0 with ⟨rfl, rfl, rfl, rfl⟩ | ⟨x, rfl, hl, hm, hz, hc, hw⟩
  · exact law_ia none 0 0 (fun _ => 0) w (Nat.zero_le _) (fun _ => by omega) (fun h => by omega)
  · refine law_ia (some x) len0 cap0 (fun j => z0.getD j 0) w (Nat.le_trans hl hm) (byte_bd z0 hw) (fun hp => ?_)
    have hx0 := hc 0 (by omega)
    obtain ⟨g, off, sp⟩ := x
    have hsp : sp = none := by
      cases sp with
      | none => rfl
      | some t =>
        exfalso
        simp [World.cell?, Addr.add] at hx0
        split at hx0 <;> cases hx0
    subst hsp
    have hadd : ∀ j, (⟨g, off, none⟩ : Addr).add j = ⟨g, off + j, none⟩ := fun j => by unfold Addr.add; split <;> simp_all
    refine ⟨g, off, rfl, ?_, fun j hj => ?_⟩
    · rw [hadd] at hx0; exact lt_of_cell hx0
    · have := hc j (by omega)
      rw [hadd] at this
      exact this

set_option maxRecDepth 100000 in
theorem ia_lifted (os : Os) (started : os.Started) (H : Type) (enc : TypeId × Value → H) :
    ReturnsInHanded {} Try.checked os 3 .any (Rows.fnModImagesSpec.pre6 enc Try.prog Try.f3 Rows.fnModImagesRow.domain false) (Rows.fnModImagesSpec.post enc Try.prog Try.f3 false true false false) := by
  refine returnsInHanded_of_change (C := Try.checked) own started (by kernel_rfl) Try.func3
    (ChangeSpec.witness6 (enc := enc) (C := Try.checked) false ⟨#[], #[.slice none 0 0], []⟩ 8 (by kernel_rfl) (by kernel_rfl) (by kernel_rfl) (by kernel_rfl)) ?_
  intro W base args ds gs before hval0 hW hcnd _
  have hval : ∀ (j : Nat) t v, Try.f3.params[j]? = some t → args[j]? = some v → Value.okWide Try.prog W .any base t v := hval0
  have hW' := hW
  obtain ⟨p, q, hA0, hV, rfl, hfz, hnd⟩ := hW
  have hA : DataW.TrodAll enc Try.prog W 0 (fun _ => true) true Try.f3.params.toList args.toList ds p := hA0
  rw [Try.params3] at hA hval
  obtain ⟨v0, vs0, d0, ds0, p0, q0, hargs, rfl, rfl, h0, r0⟩ := trodAll_cons hA
  obtain ⟨rfl, rfl, rfl⟩ := trodAll_nil r0
  obtain rfl : args = #[v0] := by cases args; simp_all
  obtain ⟨rfl, rfl⟩ := trodVars_none hV
  obtain ⟨a0, len0, cap0, rfl⟩ := okWide_slice Try.underlying22 (hval 0 22 v0 rfl rfl)
  have k0 := h0
  have lt0 : ∀ x ∈ p0, x.block < W.heap.size := by obtain ⟨m, hm⟩ := k0; exact DataW.trod_lt m _ _ _ hm
  obtain ⟨z0, w0⟩ : ∃ zs, IsRow .u8 W a0 len0 cap0 zs := by
    obtain ⟨fuel, hf⟩ := h0
    rcases open_ints Try.underlying22 Try.underlying5 (by kernel_rfl) hf with ⟨hcs, _⟩ | ⟨x, l, c, zs, hcs, _, hl, hm, hz, _, hcell, hwz⟩
    · simp [Value.cells] at hcs
      obtain ⟨rfl, rfl, rfl⟩ := hcs
      exact ⟨[], .inl ⟨rfl, rfl, rfl, rfl⟩⟩
    · simp [Value.cells] at hcs
      obtain ⟨rfl, rfl, rfl⟩ := hcs
      exact ⟨zs, .inr ⟨_, rfl, hl, hm, by simpa using hz, hcell, hwz⟩⟩
  clear hA0 hval0
  refine (walk a0 len0 cap0 z0 W w0).mono fun e W' ⟨he, bel⟩ => ?_
  subst he
  exact ⟨_, rfl, _, _, _, [], _, [], hW', trodAll_mk1 (shut_bool Try.underlying4 _), (trodAll_cons_mk (Below.trod laidOut (by kernel_rfl) (of_decide_eq_true (by kernel_rfl)) k0 bel lt0) trodAll_mk0), rfl, bel.frame _, fun h => by cases h⟩

theorem ia_over : Rows.fnModImagesRow.holds Try.pinned (OpenSpec.ofChange Rows.fnModImagesSpec) :=
  OpenClaim.holds_of_wide 3 Try.f3 rfl rfl rfl rfl rfl rfl rfl ⟨rfl, rfl, rfl, rfl, rfl⟩ rfl rfl rfl rfl rfl (by kernel_rfl) Try.func3 (by kernel_rfl)
    (of_decide_eq_true (by kernel_rfl)) (by unfold Func.isWrapper; first | (rw [if_pos (by decide +kernel)]; kernel_rfl) | (rw [if_neg (by decide +kernel)]; exact ⟨rfl, rfl⟩))
    (fun os started H enc _ => ia_lifted os started H enc)

theorem ia_proved : Rows.FnModImagesSaid := ia_over
#print axioms ia_proved

end Go.Proofs.Ytcplddblfhbejaa
