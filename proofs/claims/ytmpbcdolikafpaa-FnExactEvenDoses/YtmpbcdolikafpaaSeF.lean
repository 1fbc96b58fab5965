/- Proved here: errorFault of the program: weF. (And ahead of it: Proved here: boxes of a call's own, as one list. No condition on the program.) (And ahead of it: Proved here: a round of the program's evening.) -/
import Derived.Test.YtmpbcdolikafpaaEvT
import Derived.Test.YtmpbcdolikafpaaEvC
import Derived.Test.YtmpbcdolikafpaaSeM
import Derived.Test.YtmpbcdolikafpaaBoxF
namespace Go.Proofs.Ytmpbcdolikafpaa
open Go.RowKit
set_option linter.unusedVariables false
set_option linter.unusedSimpArgs false

/-- An evening stands at S. -/
def Evn (lo ke : Nat) (fn : Value) (S : EvS) (V : World) : Prop := ∃ bv ev, ED lo ke bv ev fn S V
theorem Evn.next {lo ke : Nat} {fn : Value} {S : EvS} {V V' : World} (h : Evn lo ke fn S V) (hb : Below V.heap.size V V') : Evn lo ke fn S V' := by
  obtain ⟨bv, ev, h⟩ := h
  exact ⟨bv, ev, h.next hb⟩
/-- What tells errors is told so in every world that keeps what lies below lo. -/
def Tells (lo q1 q2 q3 q4 : Nat) (E : List Sh → Int) (B : List Bx) (w : World) : Prop :=
  ∀ (V : World) (v : Value) (t : List Sh), Below lo w V → bxS t = B → (∀ q ∈ t, 0 ≤ q.d ∧ q.d ≤ 1000) → RG 5 shC V v t → Calls Try.prog 39 #[v, .pointer (some ⟨q1, 0, none⟩), .pointer (some ⟨q2, 0, none⟩), .pointer (some ⟨q3, 0, none⟩), .pointer (some ⟨q4, 0, none⟩)] V fun e w' => e = .returned (.int .i64 (E t)) ∧ Below V.heap.size V w'

set_option maxHeartbeats 12800000 in
theorem impl_evr {w : World} {lo ke q1 q2 q3 q4 : Nat} {S : EvS} {B : List Bx} {m : Nat} (E : List Sh → Int)
    (hB : Evn lo ke (ecV q1 q2 q3 q4) S w) (hok : EvO B m S) (hm : m + B.length ≤ 3000) (hBl : B.length ≤ 40) (hlo : lo ≤ w.heap.size) (hE : Tells lo q1 q2 q3 q4 E B w) :
    Calls Try.prog 23 #[.pointer (some ⟨ke, 0, none⟩)] w fun e w' => e = .returned (.bool (evR E B.length S).1) ∧ Evn lo ke (ecV q1 q2 q3 q4) (evR E B.length S).2 w' ∧ Below lo w w' := by
  obtain ⟨n, hnn⟩ : ∃ n, n = B.length := ⟨_, rfl⟩
  obtain ⟨fn, hfn⟩ : ∃ f, f = ecV q1 q2 q3 q4 := ⟨_, rfl⟩
  rw [← hfn] at hB ⊢
  rw [← hnn] at hm hBl ⊢
  have HT : Hid (∀ (W W' : World) (k : Nat) (d : Int) (S1 : EvS), Evn lo ke fn S1 W → Below W.heap.size W W' → EvO B 3000 S1 → k < n → (d = 1 ∨ d = -1) → Below lo w W → Calls Try.prog 40 #[.pointer (some ⟨ke, 0, none⟩), .int .i64 k, .int .i64 d] W' fun e w' => e = .returned (.bool (evT E k d S1).1) ∧ Evn lo ke fn (evT E k d S1).2 w' ∧ Below lo w w') := by
    intro W W' k d S1 hb hbW hS1 hk hd hW
    have hW' : Below lo w W' := hW.trans (hbW.mono (Nat.le_trans hlo hW.size))
    obtain ⟨bv, ev, hb⟩ := hb.next hbW
    rw [hfn] at hb
    refine (impl_evt E hb hS1 (Nat.le_refl _) (by omega) (by omega) hd (Nat.le_trans hlo hW'.size) (fun V v t hV => hE V v t (hW'.trans hV))).mono ?_
    rintro e w' ⟨h1, h2, h3⟩
    rw [hfn]
    exact ⟨h1, h2, hW'.trans h3⟩
  have HOK : Hid (∀ j, j ≤ n → EvO B 3000 (evR E j S).2) := fun j hj => (evR_ok j hok).mono (by omega)
  have HB0 : Hid (Evn lo ke fn S w) := hB
  have HS : Hid (Below lo w w) := Below.refl _ _
  obtain ⟨bv, ev, hB⟩ := hB
  obtain ⟨ba, bc, hbv⟩ := (OG.rg shC_len hB.bo).form
  have hbv' : bv = .slice ba n bc := by rw [hnn, ← hok.len]; exact hbv
  subst hbv'
  obtain ⟨a0, a1, a2, af, al⟩ := three_at hB.kb
  clear hok hm hE hB af hbv hnn hfn
  go_enter Try.func23, Try.ntmps23
  go_wp2
  go_loopw [3, 10] (fun q i wr => ∃ j : Nat, j ≤ n ∧ q = .bool (evR E j S).1 ∧ i = .int .i64 j ∧ Hid (Evn lo ke fn (evR E j S).2 wr ∧ Below lo w wr)) (fun _ i _ => n - (intOf i).toNat)
  case atStart => exact ⟨0, Nat.zero_le _, rfl, rfl, by first | exact ⟨HB0.out, HS.out⟩ | exact ⟨HB0.out.next (by (repeat' (first | (with_reducible exact Below.refl _ _) | (with_reducible assumption) | (with_reducible refine Below.setCell ?_ ?_ _) | (with_reducible refine Below.alloc ?_ ?_ _) | (with_reducible refine below_drewN ?_ _) | (with_reducible refine Below.drew ?_) | (with_reducible exact Nat.le_refl _) | omega | (simp; done) | (simp; omega)))), (by (repeat' (first | (with_reducible exact Below.refl _ _) | (with_reducible assumption) | (with_reducible refine Below.setCell ?_ ?_ _) | (with_reducible refine Below.alloc ?_ ?_ _) | (with_reducible refine below_drewN ?_ _) | (with_reducible refine Below.drew ?_) | (with_reducible exact Nat.le_refl _) | omega | (simp; done) | (simp; omega))))⟩⟩
  case round =>
    clear HS HB0 a0 a1 a2 al
    obtain ⟨j, hj, rfl, rfl, hR⟩ := hrel
    by_cases hlt : j < n
    · have b0 : (0 : Int) ≤ (j : Int) := by omega
      have b1 : (j : Int) < (n : Int) := by omega
      have HO1 := HOK.out j hj
      obtain ⟨R, hRd⟩ : ∃ R, R = evR E j S := ⟨_, rfl⟩
      have HR1 : Hid (evR E (j + 1) S = (R.1 || (evA E j R.2).1, (evA E j R.2).2)) := by unfold Hid; rw [hRd]; rfl
      rw [← hRd] at hR HO1 ⊢
      clear hRd
      obtain ⟨B0, S1⟩ := R
      have HO2 : Hid (EvO B 3000 S1) := HO1
      clear HO1
      go_wp2_with (fail)
      refine (HT.out wr _ j 1 S1 hR.out.1 (by (repeat' (first | (with_reducible exact Below.refl _ _) | (with_reducible assumption) | (with_reducible refine Below.setCell ?_ ?_ _) | (with_reducible refine Below.alloc ?_ ?_ _) | (with_reducible refine below_drewN ?_ _) | (with_reducible refine Below.drew ?_) | (with_reducible exact Nat.le_refl _) | omega | (simp; done) | (simp; omega)))) HO2.out hlt (Or.inl rfl) hR.out.2).mono ?_
      rintro e w1 ⟨rfl, hb1, hbb1⟩
      obtain ⟨T1, hT1⟩ : ∃ T, T = evT E j 1 S1 := ⟨_, rfl⟩
      have HN1 : Hid (T1.1 = false → T1.2 = S1) := by intro h; rw [hT1] at h ⊢; exact evT_no (by simp [h])
      have HA1 : Hid (T1.1 = true → evA E j S1 = T1) := by intro h; rw [hT1] at h ⊢; unfold evA; rw [if_pos h]
      have HA2 : Hid (T1.1 = false → evA E j S1 = evT E j (-1) S1) := by intro h; rw [hT1] at h; unfold evA; rw [if_neg (by simp [h])]
      rw [← hT1] at hb1 ⊢
      clear hT1
      obtain ⟨q1, S2⟩ := T1
      have HB1 : Hid (Evn lo ke fn S2 w1 ∧ Below lo w w1) := ⟨hb1, hbb1⟩
      clear hb1 hbb1 hR
      cases q1 with
      | true =>
        have HA : Hid (evA E j S1 = (true, S2)) := HA1.out rfl
        clear HA1 HA2 HN1
        go_wp2_with (fail)
        go_roundw
        case rel => exact ⟨j + 1, by omega, by rw [HR1.out, HA.out]; simp, by go_num, by rw [HR1.out, HA.out]; exact ⟨HB1.out.1.next (by (repeat' (first | (with_reducible exact Below.refl _ _) | (with_reducible assumption) | (with_reducible refine Below.setCell ?_ ?_ _) | (with_reducible refine Below.alloc ?_ ?_ _) | (with_reducible refine below_drewN ?_ _) | (with_reducible refine Below.drew ?_) | (with_reducible exact Nat.le_refl _) | omega | (simp; done) | (simp; omega)))), (by have h := HB1.out.2; (repeat' (first | (with_reducible exact Below.refl _ _) | (with_reducible assumption) | (with_reducible refine Below.setCell ?_ ?_ _) | (with_reducible refine Below.alloc ?_ ?_ _) | (with_reducible refine below_drewN ?_ _) | (with_reducible refine Below.drew ?_) | (with_reducible exact Nat.le_refl _) | omega | (simp; done) | (simp; omega))))⟩⟩
        case measure => simp [intOf]; omega
      | false =>
        have hs2 : S2 = S1 := HN1.out rfl
        subst hs2
        have HA : Hid (evA E j S2 = evT E j (-1) S2) := HA2.out rfl
        clear HA1 HA2 HN1
        go_wp2_with (fail)
        refine (HT.out w1 _ j (-1) S2 HB1.out.1 (by (repeat' (first | (with_reducible exact Below.refl _ _) | (with_reducible assumption) | (with_reducible refine Below.setCell ?_ ?_ _) | (with_reducible refine Below.alloc ?_ ?_ _) | (with_reducible refine below_drewN ?_ _) | (with_reducible refine Below.drew ?_) | (with_reducible exact Nat.le_refl _) | omega | (simp; done) | (simp; omega)))) HO2.out hlt (Or.inr rfl) HB1.out.2).mono ?_
        rintro e w2 ⟨rfl, hb2, hbb2⟩
        obtain ⟨T2, hT2⟩ : ∃ T, T = evT E j (-1) S2 := ⟨_, rfl⟩
        have HA3 : Hid (evA E j S2 = T2) := by unfold Hid; rw [HA.out, hT2]
        rw [← hT2] at hb2 ⊢
        clear hT2
        obtain ⟨q2, S3⟩ := T2
        have HB2 : Hid (Evn lo ke fn S3 w2 ∧ Below lo w w2) := ⟨hb2, hbb2⟩
        clear hb2 hbb2 HB1 HA
        cases q2 with
        | true =>
          go_wp2_with (fail)
          go_roundw
          case rel => exact ⟨j + 1, by omega, by rw [HR1.out, HA3.out]; simp, by go_num, by rw [HR1.out, HA3.out]; exact ⟨HB2.out.1.next (by (repeat' (first | (with_reducible exact Below.refl _ _) | (with_reducible assumption) | (with_reducible refine Below.setCell ?_ ?_ _) | (with_reducible refine Below.alloc ?_ ?_ _) | (with_reducible refine below_drewN ?_ _) | (with_reducible refine Below.drew ?_) | (with_reducible exact Nat.le_refl _) | omega | (simp; done) | (simp; omega)))), (by have h := HB2.out.2; (repeat' (first | (with_reducible exact Below.refl _ _) | (with_reducible assumption) | (with_reducible refine Below.setCell ?_ ?_ _) | (with_reducible refine Below.alloc ?_ ?_ _) | (with_reducible refine below_drewN ?_ _) | (with_reducible refine Below.drew ?_) | (with_reducible exact Nat.le_refl _) | omega | (simp; done) | (simp; omega))))⟩⟩
          case measure => simp [intOf]; omega
        | false =>
          go_wp2_with (fail)
          go_roundw
          case rel => exact ⟨j + 1, by omega, by rw [HR1.out, HA3.out]; simp, by go_num, by rw [HR1.out, HA3.out]; exact ⟨HB2.out.1.next (by (repeat' (first | (with_reducible exact Below.refl _ _) | (with_reducible assumption) | (with_reducible refine Below.setCell ?_ ?_ _) | (with_reducible refine Below.alloc ?_ ?_ _) | (with_reducible refine below_drewN ?_ _) | (with_reducible refine Below.drew ?_) | (with_reducible exact Nat.le_refl _) | omega | (simp; done) | (simp; omega)))), (by have h := HB2.out.2; (repeat' (first | (with_reducible exact Below.refl _ _) | (with_reducible assumption) | (with_reducible refine Below.setCell ?_ ?_ _) | (with_reducible refine Below.alloc ?_ ?_ _) | (with_reducible refine below_drewN ?_ _) | (with_reducible refine Below.drew ?_) | (with_reducible exact Nat.le_refl _) | omega | (simp; done) | (simp; omega))))⟩⟩
          case measure => simp [intOf]; omega
    · have b1 : ¬ (j : Int) < (n : Int) := by omega
      obtain rfl : j = n := by omega
      go_wp2
      go_returns
      exact ⟨rfl, hR.out.1, hR.out.2⟩

end Go.Proofs.Ytmpbcdolikafpaa

namespace Go.Proofs.Ytmpbcdolikafpaa
open Go.RowKit
set_option linter.unusedVariables false
set_option linter.unusedSimpArgs false

/-- Boxes of the call's own, all below N. -/
structure BB (W : World) (bs : List (Nat × Obj)) (N : Nat) (wr : World) : Prop where
  bx : ∀ p ∈ bs, wr.heap[p.1]? = some p.2
  lo : ∀ p ∈ bs, W.heap.size ≤ p.1 ∧ p.1 < N
  nd : bs.Pairwise (fun a b => a.1 ≠ b.1)
  bl : Below W.heap.size W wr
  sz : N ≤ wr.heap.size
theorem BB.at {W : World} {bs : List (Nat × Obj)} {N : Nat} {wr : World} (h : BB W bs N wr) (i : Nat) {k : Nat} {o : Obj} (hi : bs[i]? = some (k, o)) : wr.heap[k]? = some o := h.bx _ (List.mem_of_getElem? hi)
theorem BB.keep {W : World} {bs : List (Nat × Obj)} {N : Nat} {wr w' : World} (h : BB W bs N wr) (hs : ∀ q, W.heap.size ≤ q → q < N → w'.heap[q]? = wr.heap[q]?) (hb : Below W.heap.size W w') (hz : wr.heap.size ≤ w'.heap.size) : BB W bs N w' :=
  ⟨fun p hp => (hs p.1 (h.lo p hp).1 (h.lo p hp).2).trans (h.bx p hp), h.lo, h.nd, hb, Nat.le_trans h.sz hz⟩
theorem BB.below {W : World} {bs : List (Nat × Obj)} {N : Nat} {wr w' : World} (h : BB W bs N wr) (hb : Below wr.heap.size wr w') : BB W bs N w' :=
  h.keep (fun q _ hq => hb.block q (Nat.lt_of_lt_of_le hq h.sz)) (h.bl.trans (hb.mono h.bl.size)) hb.size
theorem BB.set {W : World} {bs : List (Nat × Obj)} {N : Nat} {wr : World} (h : BB W bs N wr) (i : Nat) {k : Nat} (j : Nat) {cs : Array Value} {T : TypeId} (hi : bs[i]? = some (k, .cells cs T)) (v : Value) : BB W (bs.set i (k, .cells (cs.setIfInBounds j v) T)) N (wr.setCell ⟨k, j, none⟩ v) := by
  obtain ⟨hil, hie⟩ := List.getElem?_eq_some_iff.1 hi
  have hk := h.lo _ (List.mem_of_getElem? hi)
  refine ⟨fun p hp => ?_, fun p hp => ?_, ?_, h.bl.setCell (p := ⟨k, j, none⟩) hk.1 _, by simpa using h.sz⟩
  · obtain ⟨q, hq, rfl⟩ := List.getElem_of_mem hp
    rw [List.length_set] at hq
    by_cases e : i = q
    · subst e
      simp only [List.getElem_set_self]
      exact heap_setCell_same _ _ j _ _ v (h.at i hi)
    · rw [List.getElem_set_ne e]
      rw [heap_setCell_other _ _ _ _ ?_]
      · exact h.bx _ (List.getElem_mem hq)
      · have hp := List.pairwise_iff_getElem.1 h.nd
        rcases Nat.lt_or_ge i q with h1 | h1
        · have := hp i q hil hq h1; rw [hie] at this; exact fun e => this e.symm
        · have := hp q i hq hil (by omega); rw [hie] at this; exact this
  · obtain ⟨q, hq, rfl⟩ := List.getElem_of_mem hp
    rw [List.length_set] at hq
    by_cases e : i = q
    · subst e; simpa using hk
    · rw [List.getElem_set_ne e]; exact h.lo _ (List.getElem_mem hq)
  · rw [List.pairwise_iff_getElem]
    intro a b ha hb hab
    rw [List.length_set] at ha hb
    have hp := List.pairwise_iff_getElem.1 h.nd a b ha hb hab
    rw [List.getElem_set, List.getElem_set]
    split <;> split
    · omega
    · rename_i h1 _; subst h1; rw [hie] at hp; exact hp
    · rename_i _ h1; subst h1; rw [hie] at hp; exact hp
    · exact hp
/-- A store into memory of the call's own that is none of the boxes. -/
theorem BB.other {W : World} {bs : List (Nat × Obj)} {N g j : Nat} {wr : World} (h : BB W bs N wr) (hg : W.heap.size ≤ g) (hn : ∀ p ∈ bs, p.1 ≠ g) (v : Value) : BB W bs N (wr.setCell ⟨g, j, none⟩ v) :=
  ⟨fun p hp => (heap_setCell_other _ _ _ _ (hn p hp)).trans (h.bx p hp), h.lo, h.nd, h.bl.setCell (p := ⟨g, j, none⟩) hg _, by simpa using h.sz⟩
theorem BB.start (W : World) : BB W [] W.heap.size W := ⟨fun _ h => (by cases h), fun _ h => (by cases h), List.Pairwise.nil, Below.refl _ _, Nat.le_refl _⟩
theorem BB.grow {W : World} {bs : List (Nat × Obj)} {N M : Nat} {wr w' : World} (h : BB W bs N wr) (hb : Below wr.heap.size wr w') (hN : N ≤ M) (hM : M ≤ w'.heap.size) : BB W bs M w' := by
  have h1 := h.below hb
  exact ⟨h1.bx, fun p hp => ⟨(h1.lo p hp).1, Nat.lt_of_lt_of_le (h1.lo p hp).2 hN⟩, h1.nd, h1.bl, hM⟩
theorem BB.push {W : World} {bs : List (Nat × Obj)} {N : Nat} {wr : World} (h : BB W bs N wr) {k : Nat} (hk : k = wr.heap.size) (o : Obj) : BB W (bs ++ [(k, o)]) (k + 1) (wr.alloc o) := by
  subst hk
  have hb : Below wr.heap.size wr (wr.alloc o) := (Below.refl _ _).alloc (Nat.le_refl _) _
  have h1 := h.grow (M := wr.heap.size + 1) hb (by have := h.sz; omega) (by simp)
  refine ⟨fun p hp => ?_, fun p hp => ?_, ?_, h1.bl, h1.sz⟩
  · rcases List.mem_append.1 hp with h2 | h2
    · exact h1.bx p h2
    · rw [List.mem_singleton.1 h2]; exact heap_alloc_new _ _
  · rcases List.mem_append.1 hp with h2 | h2
    · exact h1.lo p h2
    · rw [List.mem_singleton.1 h2]; exact ⟨h.bl.size, by simp⟩
  · rw [List.pairwise_append]
    refine ⟨h.nd, List.pairwise_singleton _ _, fun a ha b hb2 => ?_⟩
    rw [List.mem_singleton.1 hb2]
    have := (h.lo a ha).2
    have := h.sz
    show a.1 ≠ wr.heap.size
    omega

end Go.Proofs.Ytmpbcdolikafpaa

namespace Go.Proofs.Ytmpbcdolikafpaa
open Go.RowKit
set_option linter.unusedVariables false
set_option linter.unusedSimpArgs false

set_option maxRecDepth 10000 in
set_option maxHeartbeats 3200000 in
theorem impl_weF (l : List Sh) (x : Wt) (z : Int) {w : World} {v : Value} (hn : l.length ≤ 1048576) (h : RG 5 shC w v l) :
    Calls Try.prog 19 #[v, .agg #[.int .i64 x.f.x0, .int .i64 x.f.y0, .int .i64 x.f.x1, .int .i64 x.f.y1, .int .i64 x.o, .int .i64 x.s, .int .i64 x.r], .int .i64 z] w fun e w' => e = .returned (.int .i64 (weF l x z)) ∧ Below w.heap.size w w' := by
  obtain ⟨a, c, rfl⟩ := h.form
  obtain ⟨n, hnn⟩ : ∃ n, n = l.length := ⟨_, rfl⟩
  obtain ⟨C, hC⟩ : ∃ C, C = weF l x z := ⟨_, rfl⟩
  obtain ⟨y, hy⟩ : ∃ y, y = wsF l x := ⟨_, rfl⟩
  rw [← hnn] at h ⊢
  rw [← hC]
  have H : Hid (C = weF l x z ∧ y = wsF l x) := ⟨hC, hy⟩
  have HW : Hid (∀ W : World, Below w.heap.size w W → Calls Try.prog 34 #[.slice a n c, .agg #[.int .i64 x.f.x0, .int .i64 x.f.y0, .int .i64 x.f.x1, .int .i64 x.f.y1, .int .i64 x.o, .int .i64 x.s, .int .i64 x.r]] W fun e w' => e = .returned (.int .i64 y) ∧ Below W.heap.size W w') := fun W hW => by rw [hy]; exact impl_wsF l x hn (h.below hW)
  clear h hn hnn hC hy
  go_enter Try.func19, Try.ntmps19
  go_wp2_with (fail)
  refine (HW.out _ (by (repeat' (first | (with_reducible exact Below.refl _ _) | (with_reducible assumption) | (with_reducible refine Below.setCell ?_ ?_ _) | (with_reducible refine Below.alloc ?_ ?_ _) | (with_reducible refine below_drewN ?_ _) | (with_reducible refine Below.drew ?_) | (with_reducible exact Nat.le_refl _) | omega | (simp; done) | (simp; omega))))).mono ?_
  rintro e w1 ⟨rfl, hb1⟩
  have HB1 : Hid (Below w.heap.size w w1) := first_below hb1
  clear hb1 HW
  by_cases hy0 : y = 0
  case neg =>
    have HE : Hid (C = y) := by unfold Hid; rw [H.out.1, weF, if_neg (by rw [← H.out.2]; exact hy0), H.out.2]
    go_wp2
    go_returns
    exact ⟨by rw [HE.out]; rfl, HB1.out⟩
  have HE : Hid (C = if 0 ≤ z ∧ z ≤ 1000000000 then 0 else 3) := by unfold Hid; rw [H.out.1, weF, if_pos (by rw [← H.out.2]; exact hy0)]
  have HI : Hid (Calls Try.prog 20 #[.int .i64 z, .int .i64 0, .int .i64 1000000000] w1 fun e w' => e = .returned (.bool (decide (0 ≤ z ∧ z ≤ 1000000000))) ∧ w' = w1) := impl_ins z 0 1000000000 _ rfl w1
  subst hy0
  go_wp2_with (fail)
  refine HI.out.mono ?_
  rintro e w2 ⟨rfl, rfl⟩
  by_cases hz : 0 ≤ z ∧ z ≤ 1000000000
  · have HC : Hid (C = 0) := by unfold Hid; rw [HE.out, if_pos hz]
    rw [decide_eq_true hz]
    clear hz HE HI
    go_wp2
    go_returns
    exact ⟨by rw [HC.out]; rfl, HB1.out⟩
  · have HC : Hid (C = 3) := by unfold Hid; rw [HE.out, if_neg hz]
    rw [decide_eq_false hz]
    clear hz HE HI
    go_wp2
    go_returns
    exact ⟨by rw [HC.out]; rfl, HB1.out⟩

end Go.Proofs.Ytmpbcdolikafpaa
