/- Proved here: a round of the program's bending. -/
import Derived.Test.YtfjcebgknpccbabClT
namespace Go.Proofs.Ytfjcebgknpccbab
open Go.RowKit
set_option linter.unusedVariables false
set_option linter.unusedSimpArgs false

/-- A bending stands at S. -/
def Ben (lo kb n p : Nat) (S : ClS) (V : World) : Prop := ∃ gb cb gt ct ev T, BD lo kb gb cb gt ct n p ev (flL S.1) T S.2 V
theorem Ben.next {lo kb n p : Nat} {S : ClS} {V V' : World} (h : Ben lo kb n p S V) (hb : Below V.heap.size V V') : Ben lo kb n p S V' := by
  obtain ⟨gb, cb, gt, ct, ev, T, h⟩ := h
  exact ⟨gb, cb, gt, ct, ev, T, h.next hb⟩

set_option maxHeartbeats 12800000 in
theorem impl_rd {w : World} {lo kb n p : Nat} {t : List Ln} {len : Int} {ws : List Int} {K : Int} {S : ClS} {vt u : Value} {m : Nat}
    (hB : Ben lo kb n p S w) (hok : OkS len n m S) (hm : m + n ≤ 2000) (hlo : lo ≤ w.heap.size) (hp : p + 3 ≤ lo)
    (hc : Cau w p vt len u K) (hlt : lnF t len = 0) (hkn : knF ws K = 0) (htl : ∀ V, Below lo w V → RG 2 lnC V vt t) (hul : ∀ V, Below lo w V → RdI V u ws) :
    Calls Try.prog 34 #[.pointer (some ⟨kb, 0, none⟩)] w fun e w' => e = .returned (.bool (rdS t len ws K n S).1) ∧ Ben lo kb n p (rdS t len ws K n S).2 w' ∧ Below lo w w' := by
  have HT : Hid (∀ (W W' : World) (k : Nat) (d : Int) (S1 : ClS), Ben lo kb n p S1 W → Below W.heap.size W W' → OkS len n 2000 S1 → k < n → (d = 1 ∨ d = -1) → Below lo w W → Calls Try.prog 49 #[.pointer (some ⟨kb, 0, none⟩), .int .i64 k, .int .i64 d] W' fun e w' => e = .returned (.bool (tryS t len ws K k d S1).1) ∧ Ben lo kb n p (tryS t len ws K k d S1).2 w' ∧ Below lo w w') := by
    intro W W' k d S1 hb hbW hS1 hk hd hW
    have hW' : Below lo w W' := hW.trans (hbW.mono (Nat.le_trans hlo hW.size))
    obtain ⟨gb, cb, gt, ct, ev, T, hb⟩ := hb.next hbW
    refine (impl_try hb hS1 (Nat.le_refl _) hk hd (Nat.le_trans hlo hW'.size) hp (hc.below hW' hp) hlt hkn (fun V hV => htl V (hW'.trans hV)) (fun V hV => hul V (hW'.trans hV))).mono ?_
    rintro e w' ⟨h1, h2, h3⟩
    exact ⟨h1, h2, hW'.trans h3⟩
  have HOK : Hid (∀ j, j ≤ n → OkS len n 2000 (rdS t len ws K j S).2) := fun j hj => (rdS_ok j hok).mono (by omega)
  have HB0 : Hid (Ben lo kb n p S w) := hB
  have hn24 : n ≤ 24 := by have := hok.ll; have := (lnF_good hok.lf).2.2.1; omega
  have HS : Hid (Below lo w w) := Below.refl _ _
  clear hok hm hc hlt hkn htl hul
  obtain ⟨gb, cb, gt, ct, ev, T, hB⟩ := hB
  obtain ⟨a0, a1, a2, a3, af, al⟩ := four_at hB.kb_
  clear hB af
  go_enter Try.func34, Try.ntmps34
  go_wp2
  go_loopw [3, 10] (fun q i wr => ∃ j : Nat, j ≤ n ∧ q = .bool (rdS t len ws K j S).1 ∧ i = .int .i64 j ∧ Hid (Ben lo kb n p (rdS t len ws K j S).2 wr ∧ Below lo w wr)) (fun _ i _ => n - (intOf i).toNat)
  case atStart => exact ⟨0, Nat.zero_le _, rfl, rfl, by first | exact ⟨HB0.out, HS.out⟩ | exact ⟨HB0.out.next (by (repeat' (first | (with_reducible exact Below.refl _ _) | (with_reducible assumption) | (with_reducible refine Below.setCell ?_ ?_ _) | (with_reducible refine Below.alloc ?_ ?_ _) | (with_reducible refine below_drewN ?_ _) | (with_reducible refine Below.drew ?_) | (with_reducible exact Nat.le_refl _) | omega | (simp; done) | (simp; omega)))), (by (repeat' (first | (with_reducible exact Below.refl _ _) | (with_reducible assumption) | (with_reducible refine Below.setCell ?_ ?_ _) | (with_reducible refine Below.alloc ?_ ?_ _) | (with_reducible refine below_drewN ?_ _) | (with_reducible refine Below.drew ?_) | (with_reducible exact Nat.le_refl _) | omega | (simp; done) | (simp; omega))))⟩⟩
  case round =>
    clear HS HB0 a0 a1 a2 a3 al
    obtain ⟨j, hj, rfl, rfl, hR⟩ := hrel
    by_cases hlt : j < n
    · have b0 : (0 : Int) ≤ (j : Int) := by omega
      have b1 : (j : Int) < (n : Int) := by omega
      have HO1 := HOK.out j hj
      obtain ⟨R, hRd⟩ : ∃ R, R = rdS t len ws K j S := ⟨_, rfl⟩
      have HR1 : Hid (rdS t len ws K (j + 1) S = (R.1 || (atS t len ws K j R.2).1, (atS t len ws K j R.2).2)) := by unfold Hid; rw [hRd]; rfl
      rw [← hRd] at hR HO1 ⊢
      clear hRd
      obtain ⟨B, S1⟩ := R
      have HO2 : Hid (OkS len n 2000 S1) := HO1
      clear HO1
      go_wp2_with (fail)
      refine (HT.out wr _ j (-1) S1 hR.out.1 (by (repeat' (first | (with_reducible exact Below.refl _ _) | (with_reducible assumption) | (with_reducible refine Below.setCell ?_ ?_ _) | (with_reducible refine Below.alloc ?_ ?_ _) | (with_reducible refine below_drewN ?_ _) | (with_reducible refine Below.drew ?_) | (with_reducible exact Nat.le_refl _) | omega | (simp; done) | (simp; omega)))) HO2.out hlt (Or.inr rfl) hR.out.2).mono ?_
      rintro e w1 ⟨rfl, hb1, hbb1⟩
      obtain ⟨T1, hT1⟩ : ∃ T, T = tryS t len ws K j (-1) S1 := ⟨_, rfl⟩
      have HN1 : Hid (T1.1 = false → T1.2 = S1) := by intro h; rw [hT1] at h ⊢; exact tryS_no (by simp [h])
      have HA1 : Hid (T1.1 = true → atS t len ws K j S1 = T1) := by intro h; rw [hT1] at h ⊢; unfold atS; rw [if_pos h]
      have HA2 : Hid (T1.1 = false → atS t len ws K j S1 = tryS t len ws K j 1 S1) := by intro h; rw [hT1] at h; unfold atS; rw [if_neg (by simp [h])]
      rw [← hT1] at hb1 ⊢
      clear hT1
      obtain ⟨q1, S2⟩ := T1
      have HB1 : Hid (Ben lo kb n p S2 w1 ∧ Below lo w w1) := ⟨hb1, hbb1⟩
      clear hb1 hbb1 hR
      cases q1 with
      | true =>
        have HA : Hid (atS t len ws K j S1 = (true, S2)) := HA1.out rfl
        clear HA1 HA2 HN1
        go_wp2_with (fail)
        go_roundw
        case rel => exact ⟨j + 1, by omega, by rw [HR1.out, HA.out]; simp, by go_num, by rw [HR1.out, HA.out]; exact ⟨HB1.out.1.next (by (repeat' (first | (with_reducible exact Below.refl _ _) | (with_reducible assumption) | (with_reducible refine Below.setCell ?_ ?_ _) | (with_reducible refine Below.alloc ?_ ?_ _) | (with_reducible refine below_drewN ?_ _) | (with_reducible refine Below.drew ?_) | (with_reducible exact Nat.le_refl _) | omega | (simp; done) | (simp; omega)))), (by have h := HB1.out.2; (repeat' (first | (with_reducible exact Below.refl _ _) | (with_reducible assumption) | (with_reducible refine Below.setCell ?_ ?_ _) | (with_reducible refine Below.alloc ?_ ?_ _) | (with_reducible refine below_drewN ?_ _) | (with_reducible refine Below.drew ?_) | (with_reducible exact Nat.le_refl _) | omega | (simp; done) | (simp; omega))))⟩⟩
        case measure => simp [intOf]; omega
      | false =>
        have hs2 : S2 = S1 := HN1.out rfl
        subst hs2
        have HA : Hid (atS t len ws K j S2 = tryS t len ws K j 1 S2) := HA2.out rfl
        clear HA1 HA2 HN1
        go_wp2_with (fail)
        refine (HT.out w1 _ j 1 S2 HB1.out.1 (by (repeat' (first | (with_reducible exact Below.refl _ _) | (with_reducible assumption) | (with_reducible refine Below.setCell ?_ ?_ _) | (with_reducible refine Below.alloc ?_ ?_ _) | (with_reducible refine below_drewN ?_ _) | (with_reducible refine Below.drew ?_) | (with_reducible exact Nat.le_refl _) | omega | (simp; done) | (simp; omega)))) HO2.out hlt (Or.inl rfl) HB1.out.2).mono ?_
        rintro e w2 ⟨rfl, hb2, hbb2⟩
        obtain ⟨T2, hT2⟩ : ∃ T, T = tryS t len ws K j 1 S2 := ⟨_, rfl⟩
        have HA3 : Hid (atS t len ws K j S2 = T2) := by unfold Hid; rw [HA.out, hT2]
        rw [← hT2] at hb2 ⊢
        clear hT2
        obtain ⟨q2, S3⟩ := T2
        have HB2 : Hid (Ben lo kb n p S3 w2 ∧ Below lo w w2) := ⟨hb2, hbb2⟩
        clear hb2 hbb2 HB1 HA
        cases q2 with
        | true =>
          go_wp2_with (fail)
          go_roundw
          case rel => exact ⟨j + 1, by omega, by rw [HR1.out, HA3.out]; simp, by go_num, by rw [HR1.out, HA3.out]; exact ⟨HB2.out.1.next (by (repeat' (first | (with_reducible exact Below.refl _ _) | (with_reducible assumption) | (with_reducible refine Below.setCell ?_ ?_ _) | (with_reducible refine Below.alloc ?_ ?_ _) | (with_reducible refine below_drewN ?_ _) | (with_reducible refine Below.drew ?_) | (with_reducible exact Nat.le_refl _) | omega | (simp; done) | (simp; omega)))), (by have h := HB2.out.2; (repeat' (first | (with_reducible exact Below.refl _ _) | (with_reducible assumption) | (with_reducible refine Below.setCell ?_ ?_ _) | (with_reducible refine Below.alloc ?_ ?_ _) | (with_reducible refine below_drewN ?_ _) | (with_reducible refine Below.drew ?_) | (with_reducible exact Nat.le_refl _) | omega | (simp; done) | (simp; omega))))⟩⟩
          case measure => simp [intOf]; omega
        | false =>
          go_wp2_with (fail)
          go_roundw
          case rel => exact ⟨j + 1, by omega, by rw [HR1.out, HA3.out]; simp, by go_num, by rw [HR1.out, HA3.out]; exact ⟨HB2.out.1.next (by (repeat' (first | (with_reducible exact Below.refl _ _) | (with_reducible assumption) | (with_reducible refine Below.setCell ?_ ?_ _) | (with_reducible refine Below.alloc ?_ ?_ _) | (with_reducible refine below_drewN ?_ _) | (with_reducible refine Below.drew ?_) | (with_reducible exact Nat.le_refl _) | omega | (simp; done) | (simp; omega)))), (by have h := HB2.out.2; (repeat' (first | (with_reducible exact Below.refl _ _) | (with_reducible assumption) | (with_reducible refine Below.setCell ?_ ?_ _) | (with_reducible refine Below.alloc ?_ ?_ _) | (with_reducible refine below_drewN ?_ _) | (with_reducible refine Below.drew ?_) | (with_reducible exact Nat.le_refl _) | omega | (simp; done) | (simp; omega))))⟩⟩
          case measure => simp [intOf]; omega
    · have b1 : ¬ (j : Int) < (n : Int) := by omega
      obtain rfl : j = n := by omega
      go_wp2
      go_returns
      exact ⟨rfl, hR.out.1, hR.out.2⟩

end Go.Proofs.Ytfjcebgknpccbab
