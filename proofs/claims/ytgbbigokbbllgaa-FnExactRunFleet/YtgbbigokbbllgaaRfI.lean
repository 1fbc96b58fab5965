/- Proved here: RunFleet of the program. -/
import Derived.Test.YtgbbigokbbllgaaChV
import Derived.Test.YtgbbigokbbllgaaStI
import Derived.Test.YtgbbigokbbllgaaCpF
import Derived.Test.YtgbbigokbbllgaaFzI
import Derived.Test.YtgbbigokbbllgaaInsC
import Derived.Maps.AppendAt
import Derived.Deep.AppendLies
import Derived.Deep.Cut
namespace Go.Proofs.Ytgbbigokbbllgaa
open Go.RowKit Go.Maps
set_option linter.unusedVariables false
set_option linter.unusedSimpArgs false

set_option maxRecDepth 10000 in
set_option maxHeartbeats 25600000 in
theorem impl_rf (Z st : Int) {w : World} {ga oa gb ob c d : Nat} {s t : List Int} (hn : s.length ≤ 1048576 ∧ t.length ≤ 1048576) (hc : s.length ≤ c) (h : RdL w (.slice (some ⟨ga, oa, none⟩) s.length c) (.slice (some ⟨gb, ob, none⟩) t.length d) s t) :
    Calls Try.prog 37 #[.agg #[.int .i64 Z, .slice (some ⟨ga, oa, none⟩) s.length c, .slice (some ⟨gb, ob, none⟩) t.length d], .int .i64 st] w fun e w' => ∃ (vq : Value × Value × Value) (_ : Unit), e = .returned (.agg #[.int .i64 (rfC Z s t st), .int .i64 (rfZ Z s t st), vq.1, vq.2.1, vq.2.2]) ∧ OwF w' w.heap.size vq.1 vq.2.1 vq.2.2 (rfA Z s t st) (rfT Z s t st) (rfM Z s t st) ∧ Below w.heap.size w w' := by
  obtain ⟨i0, hi0, hz0, hz1, hz2⟩ := info_parts info_i64
  obtain ⟨n, hnn⟩ : ∃ n, n = s.length := ⟨_, rfl⟩
  obtain ⟨m, hmm⟩ : ∃ n, n = t.length := ⟨_, rfl⟩
  obtain ⟨x, hx⟩ : ∃ D, D = flF Z s t := ⟨_, rfl⟩
  obtain ⟨q, hq⟩ : ∃ q, q = decide (0 ≤ st ∧ st ≤ 200) := ⟨_, rfl⟩
  obtain ⟨CD, hCD⟩ : ∃ D, D = rfC Z s t st := ⟨_, rfl⟩
  obtain ⟨ZN, hZN⟩ : ∃ D, D = rfZ Z s t st := ⟨_, rfl⟩
  have HI : Hid (∀ W, Calls Try.prog 42 #[.int .i64 st, .int .i64 0, .int .i64 200] W fun e w' => e = .returned (.bool q) ∧ w' = W) := impl_insC st 0 200 q hq
  have HF : Hid (∀ W, Below w.heap.size w W → Calls Try.prog 23 #[.agg #[.int .i64 Z, .slice (some ⟨ga, oa, none⟩) n c, .slice (some ⟨gb, ob, none⟩) m d]] W fun e w' => e = .returned (.int .i64 x) ∧ Below W.heap.size W w') := fun W hb => by
    rw [hx, hnn, hmm]; exact impl_ff Z hn hc (h.below hb)
  have HRD : Hid (RdL w (.slice (some ⟨ga, oa, none⟩) n c) (.slice (some ⟨gb, ob, none⟩) m d) s t) := by unfold Hid; rw [hnn, hmm]; exact h
  have HB : Hid ((x ≠ 0 → CD = x) ∧ (x = 0 → q = false → CD = 3) ∧ (x = 0 → q = true → CD = 0) ∧ (CD ≠ 0 → ZN = 0 ∧ rfA Z s t st = [] ∧ rfT Z s t st = [] ∧ rfM Z s t st = []) ∧ (CD = 0 → FlOk Z s t ∧ (0 ≤ st ∧ st ≤ 200) ∧ ZN = Z ∧ rfA Z s t st = ruA Z s t st.toNat ∧ rfT Z s t st = t ∧ rfM Z s t st = ruM Z s t st.toNat) ∧ n = s.length ∧ m = t.length) := by
    refine ⟨fun e => ?_, fun e1 e2 => ?_, fun e1 e2 => ?_, fun e => ?_, fun e => ?_, hnn, hmm⟩
    · rw [hx] at e; rw [hCD, hx]; unfold rfC; rw [if_pos e]
    · rw [hCD]; unfold rfC; rw [if_neg (by rw [← hx, e1]; simp), if_neg (by rw [hq] at e2; simpa using e2)]
    · rw [hCD]; unfold rfC; rw [if_neg (by rw [← hx, e1]; simp), if_pos (by rw [hq] at e2; simpa using e2)]
    · rw [hCD] at e; rw [hZN]; exact rf_none e
    · rw [hCD] at e; rw [hZN]; exact ⟨flF_ok (rfC_ok e).1, (rfC_ok e).2, rf_some e⟩
  rw [← hCD, ← hZN, ← hnn, ← hmm]
  have HS : Hid (S2 w (.cells #[.int .i64 Z, .slice (some ⟨ga, oa, none⟩) n c, .slice (some ⟨gb, ob, none⟩) m d] 45) (.cells #[.int .i64 0, .int .i64 0, .slice none 0 0, .slice none 0 0, .slice none 0 0] 56) ((w.alloc (.cells #[.int .i64 Z, .slice (some ⟨ga, oa, none⟩) n c, .slice (some ⟨gb, ob, none⟩) m d] 45)).alloc (.cells #[.int .i64 0, .int .i64 0, .slice none 0 0, .slice none 0 0, .slice none 0 0] 56))) := S2.new _ _ _
  clear h hnn hmm hx hn hc hZN hCD hq
  go_enter Try.func37, Try.ntmps37
  go_wp2_with (fail)
  obtain ⟨U, hU⟩ : ∃ X9, X9 = (w.alloc (.cells #[.int .i64 Z, .slice (some ⟨ga, oa, none⟩) n c, .slice (some ⟨gb, ob, none⟩) m d] 45)).alloc (.cells #[.int .i64 0, .int .i64 0, .slice none 0 0, .slice none 0 0, .slice none 0 0] 56) := ⟨_, rfl⟩
  rw [← hU] at HS ⊢
  clear hU
  refine (HF.out _ HS.out.bl).mono ?_
  rintro e w1 ⟨rfl, hb1⟩
  have HT : Hid (S2 w (.cells #[.int .i64 Z, .slice (some ⟨ga, oa, none⟩) n c, .slice (some ⟨gb, ob, none⟩) m d] 45) (.cells #[.int .i64 0, .int .i64 0, .slice none 0 0, .slice none 0 0, .slice none 0 0] 56) w1) := HS.out.next hb1
  clear hb1 HF HS
  obtain ⟨p0, p1, p2, pf, pl⟩ := tw_three HT.out.b0
  clear pf
  by_cases hx0 : x = 0
  case neg =>
    have HV : Hid (CD = x ∧ ZN = 0 ∧ rfA Z s t st = [] ∧ rfT Z s t st = [] ∧ rfM Z s t st = []) := ⟨HB.out.1 hx0, HB.out.2.2.2.1 (by rw [HB.out.1 hx0]; exact hx0)⟩
    have hA1 : (x != 0) = true := by simpa using hx0
    obtain ⟨q0, q1, q2, q3, q4, qf, ql⟩ := five_F HT.out.b1
    have qf0 := qf 0
    have qf1 := qf 1
    have qf2 := qf 2
    have qf3 := qf 3
    have qf4 := qf 4
    clear qf HB HI
    go_wp2
    try simp only [Exit.inBlock, Exit.then]
    refine bodyPost_ret (by simp [results, Try.results37, go_sem, q0, q1, q2, q3, q4]; try rfl) rfl ⟨(.slice none 0 0, .slice none 0 0, .slice none 0 0), (), by rw [HV.out.2.1, HV.out.1], by rw [HV.out.2.2.1, HV.out.2.2.2.1, HV.out.2.2.2.2]; exact owf_none _ _, ?_⟩
    have hB := HT.out.bl
    (repeat' (first | (with_reducible exact Below.refl _ _) | (with_reducible assumption) | (with_reducible refine Below.setCell ?_ ?_ _) | (with_reducible refine Below.alloc ?_ ?_ _) | (with_reducible refine below_drewN ?_ _) | (with_reducible refine Below.drew ?_) | (with_reducible exact Nat.le_refl _) | omega | (simp; done) | (simp; omega)))
  subst hx0
  have hA0 : ((0 : Int) != 0) = false := by simp
  go_wp2_with (fail)
  refine (HI.out _).mono ?_
  rintro e w2 ⟨rfl, hw2⟩
  obtain rfl : w1 = w2 := hw2.symm
  clear hw2 HI hA0
  cases q with
  | false =>
    have HV : Hid (CD = 3 ∧ ZN = 0 ∧ rfA Z s t st = [] ∧ rfT Z s t st = [] ∧ rfM Z s t st = []) := by
      have h3 := HB.out.2.1 (by first | rfl | trivial) rfl
      exact ⟨h3, HB.out.2.2.2.1 (by rw [h3]; decide)⟩
    obtain ⟨q0, q1, q2, q3, q4, qf, ql⟩ := five_F HT.out.b1
    have qf0 := qf 0
    have qf1 := qf 1
    have qf2 := qf 2
    have qf3 := qf 3
    have qf4 := qf 4
    clear qf HB
    go_wp2
    try simp only [Exit.inBlock, Exit.then]
    refine bodyPost_ret (by simp [results, Try.results37, go_sem, q0, q1, q2, q3, q4]; try rfl) rfl ⟨(.slice none 0 0, .slice none 0 0, .slice none 0 0), (), by rw [HV.out.2.1, HV.out.1], by rw [HV.out.2.2.1, HV.out.2.2.2.1, HV.out.2.2.2.2]; exact owf_none _ _, ?_⟩
    have hB := HT.out.bl
    (repeat' (first | (with_reducible exact Below.refl _ _) | (with_reducible assumption) | (with_reducible refine Below.setCell ?_ ?_ _) | (with_reducible refine Below.alloc ?_ ?_ _) | (with_reducible refine below_drewN ?_ _) | (with_reducible refine Below.drew ?_) | (with_reducible exact Nat.le_refl _) | omega | (simp; done) | (simp; omega)))
  | true =>
  have hc0 : CD = 0 := HB.out.2.2.1 (by first | rfl | trivial) rfl
  have ho : FlOk Z s t := (HB.out.2.2.2.2.1 hc0).1
  obtain ⟨N, hN⟩ : ∃ N : Nat, Z = (N : Int) := ⟨Z.toNat, by have := ho.z; omega⟩
  subst hN
  have hst := (HB.out.2.2.2.2.1 hc0).2.1
  obtain ⟨r, hr⟩ : ∃ r : Nat, st = (r : Int) := ⟨st.toNat, by omega⟩
  subst hr
  have HV : Hid (CD = 0 ∧ FlOk (N : Int) s t ∧ ZN = (N : Int) ∧ rfA (N : Int) s t (r : Int) = ruA (N : Int) s t r ∧ rfT (N : Int) s t (r : Int) = t ∧ rfM (N : Int) s t (r : Int) = ruM (N : Int) s t r) := ⟨hc0, ho, (HB.out.2.2.2.2.1 hc0).2.2⟩
  have hr200 : r ≤ 200 := by omega
  have hl1 : w.heap.size + 1 < w1.heap.size := ltOf HT.out.b1
  have hmn : m = n := by rw [HB.out.2.2.2.2.2.2, HB.out.2.2.2.2.2.1]; exact ho.l
  subst hmn
  have HNN : Hid (m = s.length) := HB.out.2.2.2.2.2.1
  have hm30 : m ≤ 30 := by have h1 := ho.m; have h2 := ho.z; have h3 := HNN.out; omega
  clear ho HB hst hc0
  have HCP : Hid (Calls Try.prog 54 #[.agg #[.int .i64 (N : Int), .slice (some ⟨ga, oa, none⟩) m c, .slice (some ⟨gb, ob, none⟩) m d]] w1 fun e w' => ∃ v1 v2, e = .returned (.agg #[.int .i64 (N : Int), v1, v2]) ∧ OwL w' w1.heap.size v1 v2 s t ∧ Below w1.heap.size w1 w') := by
    have h9 := impl_cop (N : Int) (w := w1) (ga := ga) (oa := oa) (gb := gb) (ob := ob) (c := c) (d := d) (s := s) (t := t) ⟨by have := HNN.out; omega, by rw [HV.out.2.1.l]; have := HNN.out; omega⟩ (by rw [HV.out.2.1.l, ← HNN.out]; exact HRD.out.below HT.out.bl)
    rw [HV.out.2.1.l, ← HNN.out] at h9
    exact h9
  go_wp2_with (fail)
  refine HCP.out.mono ?_
  rintro e w2 ⟨v1, v2, rfl, hO2, hb2⟩
  obtain ⟨a1, c1, hv1⟩ := hO2.form1
  obtain ⟨b1, d1, hv2⟩ := hO2.form2
  rw [← HNN.out] at hv1
  rw [HV.out.2.1.l, ← HNN.out] at hv2
  subst hv1 hv2
  obtain ⟨V, hVd⟩ : ∃ X9, X9 = w2.alloc (.cells #[.int .i64 (N : Int), .slice a1 m c1, .slice b1 m d1] 45) := ⟨_, rfl⟩
  obtain ⟨K, hK⟩ : ∃ X9, X9 = w2.heap.size := ⟨_, rfl⟩
  have hbV : Below w2.heap.size w2 V := by rw [hVd]; (repeat' (first | (with_reducible exact Below.refl _ _) | (with_reducible assumption) | (with_reducible refine Below.setCell ?_ ?_ _) | (with_reducible refine Below.alloc ?_ ?_ _) | (with_reducible refine below_drewN ?_ _) | (with_reducible refine Below.drew ?_) | (with_reducible exact Nat.le_refl _) | omega | (simp; done) | (simp; omega)))
  have kV : V.heap[K]? = some (.cells #[.int .i64 (N : Int), .slice a1 m c1, .slice b1 m d1] 45) := by rw [hVd, hK]; exact heap_alloc_new _ _
  have hsV : V.heap.size = K + 1 := by rw [hVd, hK]; simp
  have hw12 := hb2.size
  have HO : Hid (OwL V w1.heap.size (.slice a1 m c1) (.slice b1 m d1) s t ∧ S2 w (.cells #[.int .i64 (N : Int), .slice (some ⟨ga, oa, none⟩) m c, .slice (some ⟨gb, ob, none⟩) m d] 45) (.cells #[.int .i64 0, .int .i64 0, .slice none 0 0, .slice none 0 0, .slice none 0 0] 56) V ∧ w1.heap.size ≤ K ∧ V.heap.size = K + 1 ∧ V.heap[K]? = some (.cells #[.int .i64 (N : Int), .slice a1 m c1, .slice b1 m d1] 45) ∧ (∀ q, BkL (.slice a1 m c1) (.slice b1 m d1) q → q < K)) := ⟨hO2.keep fun q hq => hbV.block q (hO2.blk hq).2, (HT.out.next hb2).next hbV, by omega, hsV, kV, fun q hq => by rw [hK]; exact (hO2.blk hq).2⟩
  clear hO2 hb2 hbV kV HCP HT p0 p1 p2 pl hsV
  have hKV : K < V.heap.size := by have := HO.out.2.2.2.1; omega
  go_upto_region 7 with fail
  rw [← hVd, ← hK]
  clear hVd hK
  go_wp2_with (at_make; refine wpList_make_own _ rfl _ _ 22 rfl V.heap.size 2 i0 (.int .i64 0) 1 Try.underlying22 hi0 hz0 hz1 _ _ _ r rfl rfl rfl (by rw [hz2]; omega) (by unfold maxLen; omega) (Nat.le_refl _) ?_; intro w3 hown3 hgrow3; have HS3 : Hid (Below V.heap.size V w3 ∧ IS w3 V.heap.size (.slice (some ⟨V.heap.size, 0, none⟩) 0 r) (ruM (N : Int) s t 0)) := ⟨(Below.refl _ _).grown hgrow3 (Nat.le_refl _) (fun k h => by cases h), hown3⟩; clear hown3 hgrow3)
  go_wp2
  go_loopw [7, 23] (fun l i wr => ∃ (k ml : Nat) (ma : Option Addr) (mc : Nat), k ≤ r ∧ Hid (ml = k) ∧ l = .slice ma ml mc ∧ i = .int .i64 k ∧ Hid (ChV (.slice a1 m c1) V wr ∧ IS wr V.heap.size (.slice ma ml mc) (ruM (N : Int) s t k) ∧ OwL wr w1.heap.size (.slice a1 m c1) (.slice b1 m d1) (ruA (N : Int) s t k) t)) (fun _ i _ => r - (intOf i).toNat)
  case atStart => exact ⟨0, 0, _, _, Nat.zero_le _, rfl, rfl, rfl, ChV.of_below HS3.out.1, HS3.out.2, HO.out.1.keep fun q hq => HS3.out.1.block q (HO.out.1.blk hq).2⟩
  case round =>
  clear HS3
  obtain ⟨k, ml, ma, mc, hk, hmk, rfl, rfl, hR⟩ := hrel
  have HMK : Hid (ml = k) := hmk
  have hml2 : ml ≤ 200 := by have := hmk.out; omega
  clear hmk
  have hne : ∀ q, q < w1.heap.size ∨ q = K → (Value.slice a1 m c1).ownBlock ≠ some q := fun q hq e => by
    have h1 := HO.out.2.2.2.2.2 q (Or.inl e)
    have h2 := (HO.out.1.blk (Or.inl e)).1
    omega
  have hVs := HO.out.2.2.2.1
  have hwK := HO.out.2.2.1
  have hkr : wr.heap[K]? = some (.cells #[.int .i64 (N : Int), .slice a1 m c1, .slice b1 m d1] 45) := (hR.out.1.block K hKV (hne _ (Or.inr rfl))).trans HO.out.2.2.2.2.1
  have hsz := hR.out.1.size
  by_cases hlt : k < r
  · have hok := ruA_ok HV.out.2.1 k
    have HST : Hid (Calls Try.prog 55 #[.pointer (some ⟨K, 0, none⟩)] wr fun e w' => ∃ v, e = .returned v ∧ IS w' wr.heap.size v (mvM (N : Int) (ruA (N : Int) s t k) t m) ∧ OwL w' w1.heap.size (.slice a1 m c1) (.slice b1 m d1) (mvA (N : Int) (ruA (N : Int) s t k) t) t ∧ ChV (.slice a1 m c1) wr w') := impl_st N K hkr (by rw [ruA_len]; exact HNN.out) hok hR.out.2.2 (fun e => by have := HO.out.2.2.2.2.2 K e; omega)
    have HR : Hid (ChV (.slice a1 m c1) V wr ∧ IS wr V.heap.size (.slice ma ml mc) (ruM (N : Int) s t k) ∧ V.heap.size ≤ wr.heap.size) := ⟨hR.out.1, hR.out.2.1, hsz⟩
    have HSZ : Hid (V.heap.size = K + 1 ∧ w1.heap.size ≤ K) := ⟨hVs, hwK⟩
    clear hR hkr hsz hok hVs hwK
    go_wp2_with (fail)
    refine HST.out.mono ?_
    rintro e w4 ⟨v3, rfl, hI3, hO4, hch⟩
    obtain ⟨xa, xc, hv3⟩ := hI3.form
    obtain ⟨xl, hxl⟩ : ∃ l, l = (mvM (N : Int) (ruA (N : Int) s t k) t m).length := ⟨_, rfl⟩
    rw [← hxl] at hv3
    subst hv3
    have HNX : Hid (ruM (N : Int) s t (k + 1) = ruM (N : Int) s t k ++ [(xl : Int)] ∧ ml = (ruM (N : Int) s t k).length) := ⟨by rw [ruM_next, ← HNN.out, hxl], by rw [ruM_len]; exact HMK.out⟩
    obtain ⟨W1, hW1⟩ : ∃ X9, X9 = w4.alloc (.cells #[.int .i64 (xl : Int)] 2) := ⟨_, rfl⟩
    have hb4 : Below w4.heap.size w4 W1 := by rw [hW1]; (repeat' (first | (with_reducible exact Below.refl _ _) | (with_reducible assumption) | (with_reducible refine Below.setCell ?_ ?_ _) | (with_reducible refine Below.alloc ?_ ?_ _) | (with_reducible refine below_drewN ?_ _) | (with_reducible refine Below.drew ?_) | (with_reducible exact Nat.le_refl _) | omega | (simp; done) | (simp; omega)))
    have hI4 : IS W1 V.heap.size (.slice ma ml mc) (ruM (N : Int) s t k) := (HR.out.2.1.kept fun q hq => (hch.block q (IS.lt HR.out.2.1 q hq).2 (fun e => by
      have h1 := HO.out.2.2.2.2.2 q (Or.inl e)
      have h2 := (IS.lt HR.out.2.1 q hq).1
      have h3 := HSZ.out
      omega))).kept fun q hq => hb4.block q (by have h3 := (IS.lt HR.out.2.1 q hq).2; have h4 := hch.size; omega)
    have HOW : Hid (W1.ownsRow V.heap.size 2 1 (.slice ma ml mc) ml ((ruM (N : Int) s t k).map (Value.int .i64)) ∧ OwL W1 w1.heap.size (.slice a1 m c1) (.slice b1 m d1) (mvA (N : Int) (ruA (N : Int) s t k) t) t ∧ ChV (.slice a1 m c1) V W1 ∧ V.heap.size ≤ W1.heap.size ∧ W1 = w4.alloc (.cells #[.int .i64 (xl : Int)] 2)) := by
      have h9 := hI4
      unfold IS at h9
      rw [← HNX.out.2] at h9
      have hc9 := (HR.out.1.trans hch).trans (ChV.of_below hb4)
      exact ⟨h9, hO4.keep fun q hq => hb4.block q (hO4.blk hq).2, hc9, hc9.size, hW1⟩
    clear hI3 hO4 hch hb4 hI4 HST HR hxl hne
    go_wp2_with (at_builtin; go_loud (rw [← hW1]; refine wpList_append_own_at _ rfl _ _ 22 rfl V.heap.size 2 i0 (.int .i64 0) 1 8 Try.underlying22 hi0 hz0 hz1 hz2 rfl (by decide) (.slice ma ml mc) ml _ rfl HOW.out.1 ⟨w4.heap.size, 0, none⟩ 1 1 [.int .i64 (xl : Int)] rfl rfl (World.news_of_block (cs := #[.int .i64 (xl : Int)]) (t := 2) (fr := (0, 0)) (by rw [HOW.out.2.2.2.2]; exact heap_alloc_new w4 _)) (by simp [Value.oneCell']) (by unfold maxLen; omega) (by omega) HOW.out.2.2.2.1 ?_); intro v6 w6 hown6 hgrow6 _ hloc6; go_loud (obtain ⟨va6, vc6, rfl⟩ := own_formL hown6))
    have R : Hid (ChV (.slice a1 m c1) V w6 ∧ IS w6 V.heap.size (.slice va6 (ml + 1) vc6) (ruM (N : Int) s t (k + 1)) ∧ OwL w6 w1.heap.size (.slice a1 m c1) (.slice b1 m d1) (ruA (N : Int) s t (k + 1)) t) := by
      have hlow : ∀ q, (Value.slice ma ml mc).ownBlock = some q → V.heap.size ≤ q := fun q hq => (World.ownsRow.lt HOW.out.1 q hq).1
      have hb6 : Below V.heap.size W1 w6 := (Below.refl _ _).grown hgrow6 HOW.out.2.2.2.1 hlow
      refine ⟨⟨?_, ?_, ?_, ?_, ?_⟩, ?_, ?_⟩
      · exact hb6.os.trans HOW.out.2.2.1.os
      · exact hb6.tape.trans HOW.out.2.2.1.tape
      · exact hb6.output.trans HOW.out.2.2.1.output
      · exact Nat.le_trans HOW.out.2.2.2.1 hb6.size
      · intro q h1 h2
        exact (hb6.block q h1).trans (HOW.out.2.2.1.block q h1 h2)
      · rw [HNX.out.1]; unfold IS; rw [List.length_append, ← HNX.out.2, List.map_append]; exact hown6
      · exact HOW.out.2.1.keep fun q hq => hb6.block q (by have := HO.out.2.2.2.2.2 q hq; have := HSZ.out; omega)
    clear hown6 hgrow6 hloc6 HOW
    go_wp2
    go_roundw
    case rel => exact ⟨k + 1, ml + 1, va6, vc6, by omega, (show ml + 1 = k + 1 by rw [HMK.out]), rfl, by go_num, R.out⟩
    case measure => simp [intOf]; omega
  · obtain rfl : k = r := by omega
    have r1 : wr.heap[w.heap.size + 1]? = some (.cells #[.int .i64 0, .int .i64 0, .slice none 0 0, .slice none 0 0, .slice none 0 0] 56) := (hR.out.1.block _ (by omega) (hne _ (Or.inl hl1))).trans HO.out.2.1.b1
    obtain ⟨q0, q1, q2, q3, q4, qf, ql⟩ := five_F r1
    have qf0 := qf 0
    have qf1 := qf 1
    have qf2 := qf 2
    have qf3 := qf 3
    have qf4 := qf 4
    obtain ⟨p0, p1, p2, pf, pl⟩ := tw_three hkr
    have HE : Hid (OwF (((((wr.setCell ⟨w.heap.size + 1, 0, none⟩ (.int .i64 0)).setCell ⟨w.heap.size + 1, 1, none⟩ (.int .i64 (N : Int))).setCell ⟨w.heap.size + 1, 2, none⟩ (.slice a1 m c1)).setCell ⟨w.heap.size + 1, 3, none⟩ (.slice b1 m d1)).setCell ⟨w.heap.size + 1, 4, none⟩ (.slice ma ml mc)) w.heap.size (.slice a1 m c1) (.slice b1 m d1) (.slice ma ml mc) (ruA (N : Int) s t k) t (ruM (N : Int) s t k) ∧ Below w.heap.size w (((((wr.setCell ⟨w.heap.size + 1, 0, none⟩ (.int .i64 0)).setCell ⟨w.heap.size + 1, 1, none⟩ (.int .i64 (N : Int))).setCell ⟨w.heap.size + 1, 2, none⟩ (.slice a1 m c1)).setCell ⟨w.heap.size + 1, 3, none⟩ (.slice b1 m d1)).setCell ⟨w.heap.size + 1, 4, none⟩ (.slice ma ml mc))) := by
      have hoff : ∀ q, q ≠ w.heap.size + 1 → (((((wr.setCell ⟨w.heap.size + 1, 0, none⟩ (.int .i64 0)).setCell ⟨w.heap.size + 1, 1, none⟩ (.int .i64 (N : Int))).setCell ⟨w.heap.size + 1, 2, none⟩ (.slice a1 m c1)).setCell ⟨w.heap.size + 1, 3, none⟩ (.slice b1 m d1)).setCell ⟨w.heap.size + 1, 4, none⟩ (.slice ma ml mc)).heap[q]? = wr.heap[q]? := fun q hq => by
        rw [heap_setCell_other _ _ _ _ (by simpa using hq), heap_setCell_other _ _ _ _ (by simpa using hq), heap_setCell_other _ _ _ _ (by simpa using hq), heap_setCell_other _ _ _ _ (by simpa using hq), heap_setCell_other _ _ _ _ (by simpa using hq)]
      have hB4 : Below w.heap.size w wr := HO.out.2.1.bl.trans (hR.out.1.below HO.out.2.1.bl.size (fun g hg => by have := (HO.out.1.blk (Or.inl hg)).1; omega))
      refine ⟨⟨(hR.out.2.2.keep fun q hq => hoff q (by have := (HO.out.1.blk hq).1; omega)).low (by omega), (hR.out.2.1.kept fun q hq => hoff q (by have := (IS.lt hR.out.2.1 q hq).1; omega)).low (by omega), fun g hg hb => ?_⟩, ?_⟩
      · have h3 := (IS.lt hR.out.2.1 g hg).1
        have h4 := HO.out.2.2.2.2.2 g hb
        omega
      · (repeat' (first | (with_reducible exact Below.refl _ _) | (with_reducible assumption) | (with_reducible refine Below.setCell ?_ ?_ _) | (with_reducible refine Below.alloc ?_ ?_ _) | (with_reducible refine below_drewN ?_ _) | (with_reducible refine Below.drew ?_) | (with_reducible exact Nat.le_refl _) | omega | (simp; done) | (simp; omega)))
    clear qf pf r1 hne hR hkr hVs hwK hsz
    go_wp2
    try simp only [Exit.inBlock, Exit.then]
    refine bodyPost_ret (by simp [results, Try.results37, go_sem, q0, q1, q2, q3, q4]; try rfl) rfl ⟨(.slice a1 m c1, .slice b1 m d1, .slice ma ml mc), (), by rw [HV.out.2.2.1, HV.out.1], by rw [HV.out.2.2.2.1, HV.out.2.2.2.2.1, HV.out.2.2.2.2.2]; exact HE.out.1, HE.out.2⟩

end Go.Proofs.Ytgbbigokbbllgaa
