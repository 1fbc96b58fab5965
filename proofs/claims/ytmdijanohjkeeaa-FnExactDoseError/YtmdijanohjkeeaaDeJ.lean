/- Proved here: DoseError of the program. (And ahead of it: Proved here: errorFault of the program: weF.) -/
import Derived.Test.YtmdijanohjkeeaaSeM
import Derived.Test.YtmdijanohjkeeaaBoxF
import Derived.Test.YtmdijanohjkeeaaDeI
import Derived.Test.YtmdijanohjkeeaaSeT
namespace Go.Proofs.Ytmdijanohjkeeaa
open Go.RowKit
set_option linter.unusedVariables false
set_option linter.unusedSimpArgs false

set_option maxRecDepth 10000 in
set_option maxHeartbeats 3200000 in
theorem impl_weF (l : List Sh) (x : Wt) (z : Int) {w : World} {v : Value} (hn : l.length ≤ 1048576) (h : RG 5 shC w v l) :
    Calls Try.prog 23 #[v, .agg #[.int .i64 x.f.x0, .int .i64 x.f.y0, .int .i64 x.f.x1, .int .i64 x.f.y1, .int .i64 x.o, .int .i64 x.s, .int .i64 x.r], .int .i64 z] w fun e w' => e = .returned (.int .i64 (weF l x z)) ∧ Below w.heap.size w w' := by
  obtain ⟨a, c, rfl⟩ := h.form
  obtain ⟨n, hnn⟩ : ∃ n, n = l.length := ⟨_, rfl⟩
  obtain ⟨C, hC⟩ : ∃ C, C = weF l x z := ⟨_, rfl⟩
  obtain ⟨y, hy⟩ : ∃ y, y = wsF l x := ⟨_, rfl⟩
  rw [← hnn] at h ⊢
  rw [← hC]
  have H : Hid (C = weF l x z ∧ y = wsF l x) := ⟨hC, hy⟩
  have HW : Hid (∀ W : World, Below w.heap.size w W → Calls Try.prog 39 #[.slice a n c, .agg #[.int .i64 x.f.x0, .int .i64 x.f.y0, .int .i64 x.f.x1, .int .i64 x.f.y1, .int .i64 x.o, .int .i64 x.s, .int .i64 x.r]] W fun e w' => e = .returned (.int .i64 y) ∧ Below W.heap.size W w') := fun W hW => by rw [hy]; exact impl_wsF l x hn (h.below hW)
  clear h hn hnn hC hy
  go_enter Try.func23, Try.ntmps23
  go_wp2_with (fail)
  refine (HW.out _ (by (repeat' (first | (with_reducible exact Below.refl _ _) | (with_reducible assumption) | (with_reducible refine Below.setCell ?_ ?_ _) | (with_reducible refine Below.alloc ?_ ?_ _) | (with_reducible refine below_drewN ?_ _) | (with_reducible refine Below.drew ?_) | (with_reducible exact Nat.le_refl _) | omega | (simp; done) | (simp; omega))))).mono ?_
  rintro e w1 ⟨rfl, hb1⟩
  have HB1 : Hid (Below w.heap.size w w1) := first_below hb1
  clear hb1 HW
  by_cases hy0 : y = 0
  case neg =>
    have HE : Hid (C = y) := by unfold Hid; rw [H.out.1, weF, if_neg (by rw [← H.out.2]; exact hy0), H.out.2]
    go_wp2
    go_returns
    exact ⟨by rw [HE.out]; rfl, HB1.out⟩
  have HE : Hid (C = if 0 ≤ z ∧ z ≤ 1000000000 then 0 else 3) := by unfold Hid; rw [H.out.1, weF, if_pos (by rw [← H.out.2]; exact hy0)]
  have HI : Hid (Calls Try.prog 26 #[.int .i64 z, .int .i64 0, .int .i64 1000000000] w1 fun e w' => e = .returned (.bool (decide (0 ≤ z ∧ z ≤ 1000000000))) ∧ w' = w1) := impl_ins z 0 1000000000 _ rfl w1
  subst hy0
  go_wp2_with (fail)
  refine HI.out.mono ?_
  rintro e w2 ⟨rfl, rfl⟩
  by_cases hz : 0 ≤ z ∧ z ≤ 1000000000
  · have HC : Hid (C = 0) := by unfold Hid; rw [HE.out, if_pos hz]
    rw [decide_eq_true hz]
    clear hz HE HI
    go_wp2
    go_returns
    exact ⟨by rw [HC.out]; rfl, HB1.out⟩
  · have HC : Hid (C = 3) := by unfold Hid; rw [HE.out, if_neg hz]
    rw [decide_eq_false hz]
    clear hz HE HI
    go_wp2
    go_returns
    exact ⟨by rw [HC.out]; rfl, HB1.out⟩

end Go.Proofs.Ytmdijanohjkeeaa

namespace Go.Proofs.Ytmdijanohjkeeaa
open Go.RowKit
set_option linter.unusedVariables false
set_option linter.unusedSimpArgs false

set_option maxRecDepth 10000 in
set_option maxHeartbeats 12800000 in
theorem impl_de (hH : HeightsOk) (hE : EdgesOk) (l : List Sh) (x : Wt) (z : Int) {w : World} {v : Value} (hn : l.length ≤ 1048576) (h : RG 5 shC w v l) :
    Calls Try.prog 9 #[v, .agg #[.int .i64 x.f.x0, .int .i64 x.f.y0, .int .i64 x.f.x1, .int .i64 x.f.y1, .int .i64 x.o, .int .i64 x.s, .int .i64 x.r], .int .i64 z] w fun e w' => e = .returned (.agg #[.int .i64 (weF l x z), .int .i64 (dsV l x z)]) ∧ Below w.heap.size w w' := by
  obtain ⟨a, c, rfl⟩ := h.form
  obtain ⟨n, hnn⟩ : ∃ n, n = l.length := ⟨_, rfl⟩
  rw [← hnn] at h ⊢
  have H : Hid (RG 5 shC w (.slice a n c) l) := h
  have HHE : Hid (HeightsOk ∧ EdgesOk ∧ l.length ≤ 1048576) := ⟨hH, hE, hn⟩
  obtain ⟨C, hC⟩ : ∃ C, C = weF l x z := ⟨_, rfl⟩
  obtain ⟨Q, hQ⟩ : ∃ Q, Q = dsV l x z := ⟨_, rfl⟩
  rw [← hC, ← hQ]
  have HC : Hid (C = weF l x z ∧ Q = dsV l x z) := ⟨hC, hQ⟩
  have HW : Hid (∀ V, Below w.heap.size w V → Calls Try.prog 23 #[.slice a n c, .agg #[.int .i64 x.f.x0, .int .i64 x.f.y0, .int .i64 x.f.x1, .int .i64 x.f.y1, .int .i64 x.o, .int .i64 x.s, .int .i64 x.r], .int .i64 z] V fun e w' => e = .returned (.int .i64 C) ∧ Below V.heap.size V w') := fun V hV => by
    rw [hC]; exact impl_weF l x z HHE.out.2.2 (H.out.below hV)
  clear h hH hE hn hnn hC hQ
  go_enter Try.func9, Try.ntmps9
  go_wp2_with (fail)
  refine (HW.out _ (by (repeat' (first | (with_reducible exact Below.refl _ _) | (with_reducible assumption) | (with_reducible refine Below.setCell ?_ ?_ _) | (with_reducible refine Below.alloc ?_ ?_ _) | (with_reducible refine below_drewN ?_ _) | (with_reducible refine Below.drew ?_) | (with_reducible exact Nat.le_refl _) | omega | (simp; done) | (simp; omega))))).mono ?_
  rintro e w1 ⟨rfl, hb1⟩
  have HB : Hid (BB w [(w.heap.size, .cells #[.int .i64 x.f.x0, .int .i64 x.f.y0, .int .i64 x.f.x1, .int .i64 x.f.y1, .int .i64 x.o, .int .i64 x.s, .int .i64 x.r] 35), (w.heap.size + 1, .cells #[.int .i64 0, .int .i64 0] 29)] (w.heap.size + 1 + 1) w1) := (((BB.start w).push rfl _).push (k := w.heap.size + 1) (by simp) _).grow hb1 (by omega) (by have := hb1.size; simpa using this)
  clear hb1 HW
  obtain ⟨k0, hk0⟩ : ∃ k, k = w.heap.size := ⟨_, rfl⟩
  rw [← hk0] at HB ⊢
  clear hk0
  by_cases h0 : C ≠ 0
  · have hC2 : (C != 0) = true := by simpa using h0
    obtain rfl : 0 = Q := by rw [HC.out.2, dsV, if_neg (by rw [← HC.out.1]; exact h0)]
    clear HC
    have t0 := cellOf (HB.out.at 1 rfl) 0 rfl
    have t1 := cellOf (HB.out.at 1 rfl) 1 rfl
    have f0 := frozOf (HB.out.at 1 rfl) 0
    have f1 := frozOf (HB.out.at 1 rfl) 1
    have tl := ltOf (HB.out.at 1 rfl)
    have q2 := (HB.out.set 1 0 rfl (.int .i64 C)).set 1 1 rfl (.int .i64 0)
    have u0 := cellOf (q2.at 1 rfl) 0 rfl
    have u1 := cellOf (q2.at 1 rfl) 1 rfl
    have QB : Hid _ := q2.bl
    clear q2
    go_wp2
    refine bodyPost_ret (by simp [results, Try.results9, go_sem, u0, u1]) rfl ⟨rfl, QB.out⟩
  have h0' : C = 0 := by simpa using h0
  have hw0 : weF l x z = 0 := by rw [← HC.out.1]; exact h0'
  have hq : Q = dsE l x z := by rw [HC.out.2, dsV, if_pos hw0]
  have hws : wsF l x = 0 ∧ 0 ≤ z ∧ z ≤ 1000000000 := by
    unfold weF at hw0
    split at hw0
    · rename_i h1
      split at hw0
      · rename_i h2; exact ⟨h1, h2⟩
      · omega
    · rename_i h1; exact absurd hw0 h1
  have hgd := spR_good hws.1
  have hsh := shF_good (wsF_good hws.1).2
  have hfb := frF_box hgd.2.1
  have hlb : ∀ q ∈ boxesH l, q.x0 < q.x1 := fun q hq => by
    obtain ⟨s, hs, rfl⟩ := List.mem_map.1 hq
    exact (bfK_ok (hsh.2 s hs).1).1
  have HEO : Hid (∀ V, Below w.heap.size w V → Calls Try.prog 24 #[.slice a n c, .agg #[.int .i64 x.f.x0, .int .i64 x.f.y0, .int .i64 x.f.x1, .int .i64 x.f.y1, .int .i64 x.o, .int .i64 x.s, .int .i64 x.r], .int .i64 z] V fun e w' => ∃ (q1 q2 q3 q4 p : Nat) (T1 : TypeId) (za : Option Addr) (zn zc : Nat), e = .returned (.func (Fn.func 44) #[] #[.pointer (some ⟨q1, 0, none⟩), .pointer (some ⟨q2, 0, none⟩), .pointer (some ⟨q3, 0, none⟩), .pointer (some ⟨q4, 0, none⟩)]) ∧ Hid (Calls Try.prog 44 #[.slice a n c, .pointer (some ⟨q1, 0, none⟩), .pointer (some ⟨q2, 0, none⟩), .pointer (some ⟨q3, 0, none⟩), .pointer (some ⟨q4, 0, none⟩)] w' fun e w'' => e = .returned (.int .i64 Q) ∧ Below w'.heap.size w' w'') ∧ Below V.heap.size V w') := fun V hV => by
    refine (impl_eo HHE.out.1 HHE.out.2.1 l x z hgd.1.1 hlb (by omega) (H.out.below hV)).mono ?_
    rintro e w' ⟨q1, q2, q3, q4, p, T1, za, zn, zc, rfl, hx, hb⟩
    refine ⟨q1, q2, q3, q4, p, T1, za, zn, zc, rfl, ?_, hb⟩
    obtain ⟨x1, x2, x3, x4, x5, x6⟩ := hx.out
    rw [hgd.2.2.2.2.2] at x3 x5
    have hcu : Cu w' q1 q2 q3 q4 p T1 (.slice za zn zc) x.f x.o x.s x.r.toNat z := ⟨x1, x2, x3, x4, x5⟩
    have hcs : ∀ k, k < (cntB l x.f).length → InF x.f (bat (cntB l x.f) k) := fun k hk => cnt_inF l x.f _ (by rw [bat_get hk]; exact List.getElem_mem hk)
    have := impl_ec l x.f x.o x.s x.r.toNat z (cntB l x.f) hgd.1.1 hgd.1.2 hgd.2.1 hgd.2.2.1 hgd.2.2.2.1 hgd.2.2.2.2.1 hws.2 (cnt_len hgd.1.1) hcs x6 hcu ((H.out.below hV).below hb)
    rw [cnt_er l _ z (show x.f.x1 = x.f.x0 + ((wdN x.f : Nat) : Int) by unfold wdN; omega) (show x.f.y1 = x.f.y0 + ((htN x.f : Nat) : Int) by unfold htN; omega)] at this
    rw [hq]
    exact this
  subst h0'
  have a0 := cellOf (HB.out.at 0 rfl) 0 rfl
  have a1 := cellOf (HB.out.at 0 rfl) 1 rfl
  have a2 := cellOf (HB.out.at 0 rfl) 2 rfl
  have a3 := cellOf (HB.out.at 0 rfl) 3 rfl
  have a4 := cellOf (HB.out.at 0 rfl) 4 rfl
  have a5 := cellOf (HB.out.at 0 rfl) 5 rfl
  have a6 := cellOf (HB.out.at 0 rfl) 6 rfl
  have al := ltOf (HB.out.at 0 rfl)
  clear h0 hw0 hq hws hgd hsh hfb hlb HC
  go_wp2_with (fail)
  refine (HEO.out _ HB.out.bl).mono ?_
  rintro e w2 ⟨q1, q2, q3, q4, p, T1, za, zn, zc, rfl, hx, hb2⟩
  have HB2 : Hid (BB w [(k0, .cells #[.int .i64 x.f.x0, .int .i64 x.f.y0, .int .i64 x.f.x1, .int .i64 x.f.y1, .int .i64 x.o, .int .i64 x.s, .int .i64 x.r] 35), (k0 + 1, .cells #[.int .i64 0, .int .i64 0] 29)] (k0 + 1 + 1) w2) := HB.out.below hb2
  clear hb2 HEO HB a0 a1 a2 a3 a4 a5 a6 al
  go_wp2_with (fail)
  refine hx.out.mono ?_
  rintro e w3 ⟨rfl, hb3⟩
  have HB3 : Hid (BB w [(k0, .cells #[.int .i64 x.f.x0, .int .i64 x.f.y0, .int .i64 x.f.x1, .int .i64 x.f.y1, .int .i64 x.o, .int .i64 x.s, .int .i64 x.r] 35), (k0 + 1, .cells #[.int .i64 0, .int .i64 0] 29)] (k0 + 1 + 1) w3) := HB2.out.below hb3
  clear hb3 HB2 hx
  have t0 := cellOf (HB3.out.at 1 rfl) 0 rfl
  have t1 := cellOf (HB3.out.at 1 rfl) 1 rfl
  have f0 := frozOf (HB3.out.at 1 rfl) 0
  have f1 := frozOf (HB3.out.at 1 rfl) 1
  have tl := ltOf (HB3.out.at 1 rfl)
  have q2 := (HB3.out.set 1 0 rfl (.int .i64 0)).set 1 1 rfl (.int .i64 Q)
  have u0 := cellOf (q2.at 1 rfl) 0 rfl
  have u1 := cellOf (q2.at 1 rfl) 1 rfl
  have QB : Hid _ := q2.bl
  clear q2
  go_wp2
  refine bodyPost_ret (by simp [results, Try.results9, go_sem, u0, u1]) rfl ⟨rfl, QB.out⟩

end Go.Proofs.Ytmdijanohjkeeaa
