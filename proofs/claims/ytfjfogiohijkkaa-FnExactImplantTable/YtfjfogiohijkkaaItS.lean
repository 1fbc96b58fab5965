/- Proved here: ImplantTable of the model. -/
import Derived.Test.YtfjfogiohijkkaaPfX
import Derived.Test.YtfjfogiohijkkaaPfS
import Derived.Test.YtfjfogiohijkkaaPfT
import Derived.Test.YtfjfogiohijkkaaItM
import Derived.StillTail
namespace Go.Proofs.Ytfjfogiohijkkaa
open Go.RowKit
set_option linter.unusedVariables false
set_option linter.unusedSimpArgs false

set_option maxRecDepth 100000 in
set_option maxHeartbeats 12800000 in
theorem spec_table (o d f : Int) {W : World} {v : Value} {s : List Int} {v2 : Value} {sh : List Int} (hm : sh.length ≤ 1048576) (hb : RdI W v2 sh) (hn : s.length ≤ 1048576) (h : RdI W v s) :
    Calls Try.prog 17 #[.agg #[v, .int .i64 o], .int .i64 d, v2, .int .i64 f] W fun e w' => ∃ v' , e = .returned (.agg #[.int .i64 (itC s o d sh f), v', .int .i64 (tdO (itC s o d sh f) (itT s o d sh f.toNat sh.length))]) ∧ IS w' W.heap.size v' (tdL (itC s o d sh f) (itL s d sh f.toNat sh.length)) ∧ Below W.heap.size W w' := by
  obtain ⟨ua, uc, rfl⟩ := h.form
  obtain ⟨n, hnn⟩ : ∃ n, n = s.length := ⟨_, rfl⟩
  rw [← hnn] at h hn ⊢
  have HN : Hid (n = s.length) := hnn
  have H : Hid (RdI W (.slice ua n uc) s) := h
  obtain ⟨CC, hCC⟩ : ∃ x, x = itC s o d sh f := ⟨_, rfl⟩
  rw [← hCC]
  obtain ⟨LL, hLL⟩ : ∃ x, x = tdL CC (itL s d sh f.toNat sh.length) := ⟨_, rfl⟩
  obtain ⟨QQ, hQQ⟩ : ∃ x, x = tdO CC (itT s o d sh f.toNat sh.length) := ⟨_, rfl⟩
  rw [← hLL, ← hQQ]
  obtain ⟨sa, sc, rfl⟩ := hb.form
  obtain ⟨m, hmm⟩ : ∃ m, m = sh.length := ⟨_, rfl⟩
  rw [← hmm] at hb hm ⊢
  have HMM : Hid (m = sh.length) := hmm
  have H2 : Hid (RdI W (.slice sa m sc) sh) := hb
  clear hb hmm
  have HZ : Hid (CC ≠ 0 → LL = [] ∧ QQ = 0) := fun h9 => by rw [hLL, hQQ, tdL, tdO, if_neg h9, if_neg h9]; exact ⟨rfl, rfl⟩
  have HF : Hid (CC = itC s o d sh f ∧ LL = tdL CC (itL s d sh f.toNat sh.length) ∧ QQ = tdO CC (itT s o d sh f.toNat sh.length)) := ⟨hCC, hLL, hQQ⟩
  obtain ⟨C, hC⟩ : ∃ C, C = pfC s o := ⟨_, rfl⟩
  have HP : Hid (∀ V, Below W.heap.size W V → Calls Try.prog 10 #[.agg #[.slice ua n uc, .int .i64 o]] V fun e w' => e = .returned (.int .i64 C) ∧ Below V.heap.size V w') := fun V hV => by
    have := spec_pf o (by rw [← HN.out]; exact hn) (H.out.below hV)
    rwa [← hC] at this
  have HC : Hid (C = pfC s o) := hC
  clear hC hCC hLL hQQ h hnn
  by_cases h0 : C ≠ 0
  · have hC2 : (C != 0) = true := by simpa using h0
    have hcc : CC = C := by rw [HF.out.1, HC.out]; exact itC_bad (by rw [← HC.out]; exact h0)
    obtain ⟨e1, e2⟩ := HZ.out (by rw [hcc]; exact h0)
    subst e1 e2
    clear HF
    subst hcc
    go_enter Try.func17, Try.ntmps17
    go_wp2_with (fail)
    refine (HP.out _ (by (repeat' (first | (with_reducible exact Below.refl _ _) | (with_reducible assumption) | (with_reducible refine Below.setCell ?_ ?_ _) | (with_reducible refine Below.alloc ?_ ?_ _) | (with_reducible refine below_drewN ?_ _) | (with_reducible refine Below.drew ?_) | (with_reducible exact Nat.le_refl _) | omega | (simp; done) | (simp; omega))))).mono ?_
    rintro e w1 ⟨rfl, hb1⟩
    have HB : Hid (BB W [(W.heap.size, .cells #[.slice ua n uc, .int .i64 o] 27), (W.heap.size + 1, .cells #[.int .i64 0, .slice none 0 0, .int .i64 0] 36)] (W.heap.size + 1 + 1) w1) := (((BB.start W).push rfl _).push (k := W.heap.size + 1) (by simp) _).grow hb1 (by omega) (by have := hb1.size; simpa using this)
    clear hb1
    obtain ⟨k0, hk0⟩ : ∃ k, k = W.heap.size := ⟨_, rfl⟩
    rw [← hk0] at HB ⊢
    have HK : Hid (k0 = W.heap.size) := hk0
    clear hk0
    have a0_0 := cellOf (HB.out.at 0 rfl) 0 rfl
    have a0_1 := cellOf (HB.out.at 0 rfl) 1 rfl
    have a0_l := ltOf (HB.out.at 0 rfl)
    have t0 := cellOf (HB.out.at 1 rfl) 0 rfl
    have f0 := frozOf (HB.out.at 1 rfl) 0
    have t1 := cellOf (HB.out.at 1 rfl) 1 rfl
    have f1 := frozOf (HB.out.at 1 rfl) 1
    have t2 := cellOf (HB.out.at 1 rfl) 2 rfl
    have f2 := frozOf (HB.out.at 1 rfl) 2
    have tl := ltOf (HB.out.at 1 rfl)
    have q2 := (((HB.out.set 1 0 rfl (.int .i64 CC)).set 1 1 rfl (.slice none 0 0)).set 1 2 rfl (.int .i64 0))
    have u0 := cellOf (q2.at 1 rfl) 0 rfl
    have u1 := cellOf (q2.at 1 rfl) 1 rfl
    have u2 := cellOf (q2.at 1 rfl) 2 rfl
    have QB : Hid _ := q2.bl
    clear q2
    go_wp2
    refine bodyPost_ret (by simp [results, Try.results17, go_sem, u0, u1, u2]) rfl ⟨.slice none 0 0, rfl, World.ownsRow_nil _ _ _ _, QB.out⟩
  have h0' : C = 0 := by simpa using h0
  have hC0 : pfC s o = 0 := by rw [← HC.out]; exact h0'
  have HG : Hid (PG s o ∧ pfC s o = 0) := ⟨pfC_ok hC0, hC0⟩
  subst h0'
  clear h0 hC0 HC
  by_cases h1 : m = 0
  · have hcc : CC = 1 := by rw [HF.out.1, itC_f HG.out.2 (by rw [itF_0 (d := d) (f := f) (show sh.length = 0 by rw [← HMM.out]; exact h1)]; decide)]; exact itF_0 (d := d) (f := f) (show sh.length = 0 by rw [← HMM.out]; exact h1)
    obtain ⟨e1, e2⟩ := HZ.out (by rw [hcc]; decide)
    subst e1 e2
    clear HF
    subst hcc
    clear H2
    subst h1
    go_enter Try.func17, Try.ntmps17
    go_wp2_with (fail)
    refine (HP.out _ (by (repeat' (first | (with_reducible exact Below.refl _ _) | (with_reducible assumption) | (with_reducible refine Below.setCell ?_ ?_ _) | (with_reducible refine Below.alloc ?_ ?_ _) | (with_reducible refine below_drewN ?_ _) | (with_reducible refine Below.drew ?_) | (with_reducible exact Nat.le_refl _) | omega | (simp; done) | (simp; omega))))).mono ?_
    rintro e w1 ⟨rfl, hb1⟩
    have HB : Hid (BB W [(W.heap.size, .cells #[.slice ua n uc, .int .i64 o] 27), (W.heap.size + 1, .cells #[.int .i64 0, .slice none 0 0, .int .i64 0] 36)] (W.heap.size + 1 + 1) w1) := (((BB.start W).push rfl _).push (k := W.heap.size + 1) (by simp) _).grow hb1 (by omega) (by have := hb1.size; simpa using this)
    clear hb1
    obtain ⟨k0, hk0⟩ : ∃ k, k = W.heap.size := ⟨_, rfl⟩
    rw [← hk0] at HB ⊢
    have HK : Hid (k0 = W.heap.size) := hk0
    clear hk0
    have a0_0 := cellOf (HB.out.at 0 rfl) 0 rfl
    have a0_1 := cellOf (HB.out.at 0 rfl) 1 rfl
    have a0_l := ltOf (HB.out.at 0 rfl)
    have t0 := cellOf (HB.out.at 1 rfl) 0 rfl
    have f0 := frozOf (HB.out.at 1 rfl) 0
    have t1 := cellOf (HB.out.at 1 rfl) 1 rfl
    have f1 := frozOf (HB.out.at 1 rfl) 1
    have t2 := cellOf (HB.out.at 1 rfl) 2 rfl
    have f2 := frozOf (HB.out.at 1 rfl) 2
    have tl := ltOf (HB.out.at 1 rfl)
    have q2 := (((HB.out.set 1 0 rfl (.int .i64 1)).set 1 1 rfl (.slice none 0 0)).set 1 2 rfl (.int .i64 0))
    have u0 := cellOf (q2.at 1 rfl) 0 rfl
    have u1 := cellOf (q2.at 1 rfl) 1 rfl
    have u2 := cellOf (q2.at 1 rfl) 2 rfl
    have QB : Hid _ := q2.bl
    clear q2
    go_wp2
    refine bodyPost_ret (by simp [results, Try.results17, go_sem, u0, u1, u2]) rfl ⟨.slice none 0 0, rfl, World.ownsRow_nil _ _ _ _, QB.out⟩
  have b0 : ¬ (m : Int) = 0 := by omega
  have b1 : ((m : Int) == 0) = false := by simpa using b0
  by_cases h2 : 40 < m
  · have b2 : (40 : Int) < (m : Int) := by omega
    have hcc : CC = 2 := by rw [HF.out.1, itC_f HG.out.2 (by rw [itF_many (d := d) (f := f) (show 40 < sh.length by rw [← HMM.out]; exact h2)]; decide)]; exact itF_many (d := d) (f := f) (show 40 < sh.length by rw [← HMM.out]; exact h2)
    obtain ⟨e1, e2⟩ := HZ.out (by rw [hcc]; decide)
    subst e1 e2
    clear HF
    subst hcc
    go_enter Try.func17, Try.ntmps17
    go_wp2_with (fail)
    refine (HP.out _ (by (repeat' (first | (with_reducible exact Below.refl _ _) | (with_reducible assumption) | (with_reducible refine Below.setCell ?_ ?_ _) | (with_reducible refine Below.alloc ?_ ?_ _) | (with_reducible refine below_drewN ?_ _) | (with_reducible refine Below.drew ?_) | (with_reducible exact Nat.le_refl _) | omega | (simp; done) | (simp; omega))))).mono ?_
    rintro e w1 ⟨rfl, hb1⟩
    have HB : Hid (BB W [(W.heap.size, .cells #[.slice ua n uc, .int .i64 o] 27), (W.heap.size + 1, .cells #[.int .i64 0, .slice none 0 0, .int .i64 0] 36)] (W.heap.size + 1 + 1) w1) := (((BB.start W).push rfl _).push (k := W.heap.size + 1) (by simp) _).grow hb1 (by omega) (by have := hb1.size; simpa using this)
    clear hb1
    obtain ⟨k0, hk0⟩ : ∃ k, k = W.heap.size := ⟨_, rfl⟩
    rw [← hk0] at HB ⊢
    have HK : Hid (k0 = W.heap.size) := hk0
    clear hk0
    have a0_0 := cellOf (HB.out.at 0 rfl) 0 rfl
    have a0_1 := cellOf (HB.out.at 0 rfl) 1 rfl
    have a0_l := ltOf (HB.out.at 0 rfl)
    have t0 := cellOf (HB.out.at 1 rfl) 0 rfl
    have f0 := frozOf (HB.out.at 1 rfl) 0
    have t1 := cellOf (HB.out.at 1 rfl) 1 rfl
    have f1 := frozOf (HB.out.at 1 rfl) 1
    have t2 := cellOf (HB.out.at 1 rfl) 2 rfl
    have f2 := frozOf (HB.out.at 1 rfl) 2
    have tl := ltOf (HB.out.at 1 rfl)
    have q2 := (((HB.out.set 1 0 rfl (.int .i64 2)).set 1 1 rfl (.slice none 0 0)).set 1 2 rfl (.int .i64 0))
    have u0 := cellOf (q2.at 1 rfl) 0 rfl
    have u1 := cellOf (q2.at 1 rfl) 1 rfl
    have u2 := cellOf (q2.at 1 rfl) 2 rfl
    have QB : Hid _ := q2.bl
    clear q2
    go_wp2
    refine bodyPost_ret (by simp [results, Try.results17, go_sem, u0, u1, u2]) rfl ⟨.slice none 0 0, rfl, World.ownsRow_nil _ _ _ _, QB.out⟩
  have b2 : ¬ (40 : Int) < (m : Int) := by omega
  have HL0 : Hid (sh.length ≠ 0 ∧ ¬ 40 < sh.length) := by unfold Hid; rw [← HMM.out]; exact ⟨h1, h2⟩
  obtain ⟨r1, hr1⟩ : ∃ r, r = decide (0 ≤ d ∧ d ≤ 1000000) := ⟨_, rfl⟩
  obtain ⟨r2, hr2⟩ : ∃ r, r = decide (0 ≤ f ∧ f ≤ 40) := ⟨_, rfl⟩
  have HR : Hid (r1 = decide (0 ≤ d ∧ d ≤ 1000000) ∧ r2 = decide (0 ≤ f ∧ f ≤ 40) ∧ itD d f = (r1 && r2)) := ⟨hr1, hr2, by rw [hr1, hr2, itD]; exact Bool.decide_and _ _⟩
  clear hr1 hr2 h1
  go_enter Try.func17, Try.ntmps17
  go_wp2_with (fail)
  refine (HP.out _ (by (repeat' (first | (with_reducible exact Below.refl _ _) | (with_reducible assumption) | (with_reducible refine Below.setCell ?_ ?_ _) | (with_reducible refine Below.alloc ?_ ?_ _) | (with_reducible refine below_drewN ?_ _) | (with_reducible refine Below.drew ?_) | (with_reducible exact Nat.le_refl _) | omega | (simp; done) | (simp; omega))))).mono ?_
  rintro e w1 ⟨rfl, hb1⟩
  have HB : Hid (BB W [(W.heap.size, .cells #[.slice ua n uc, .int .i64 o] 27), (W.heap.size + 1, .cells #[.int .i64 0, .slice none 0 0, .int .i64 0] 36)] (W.heap.size + 1 + 1) w1) := (((BB.start W).push rfl _).push (k := W.heap.size + 1) (by simp) _).grow hb1 (by omega) (by have := hb1.size; simpa using this)
  clear hb1
  obtain ⟨k0, hk0⟩ : ∃ k, k = W.heap.size := ⟨_, rfl⟩
  rw [← hk0] at HB ⊢
  have HK : Hid (k0 = W.heap.size) := hk0
  clear hk0
  have a0_0 := cellOf (HB.out.at 0 rfl) 0 rfl
  have a0_1 := cellOf (HB.out.at 0 rfl) 1 rfl
  have a0_l := ltOf (HB.out.at 0 rfl)
  clear HP
  go_wp2_with (fail)
  go_loop [10, 11] (fun q i => ∃ (k : Nat) (S : Int), k ≤ m ∧ i = .int .i64 k ∧ q = .int .i64 S ∧ 0 ≤ S ∧ S ≤ 1000000 ∧ Hid (S = suL (sh.take k) ∧ ∀ j, j < k → inS (sh.getD j 0) = true)) (fun _ i => m - (intOf i).toNat)
  case atStart => exact ⟨0, 0, Nat.zero_le _, rfl, rfl, by omega, by omega, by simp [suL], fun j hj => by omega⟩
  case round =>
    obtain ⟨k, S, hk, rfl, rfl, hS0, hS1, hR⟩ := hrel
    by_cases hlt : k < m
    · obtain ⟨g, oo, rfl, hg, d0⟩ := rd_at (H2.out.below HB.out.bl) hlt
      obtain ⟨x, hx⟩ : ∃ x, x = sh.getD k 0 := ⟨_, rfl⟩
      obtain ⟨r, hr⟩ : ∃ r, r = inS x := ⟨_, rfl⟩
      rw [← hx] at d0
      have HX : Hid (r = inS x ∧ x = sh.getD k 0) := ⟨hr, hx⟩
      clear hr hx
      have b3 : (0 : Int) ≤ (k : Int) := by omega
      have b4 : (k : Int) < (m : Int) := by omega
      go_wp2_with (fail)
      refine (spec_ins x 0 1000 r HX.out.1 _).mono ?_
      rintro e w3 ⟨rfl, hw⟩
      obtain rfl : w1 = w3 := hw.symm
      clear hw
      cases r with
      | true =>
        have hks : k < sh.length := by rw [← HMM.out]; exact hlt
        have hal : ∀ j, j < k + 1 → inS (sh.getD j 0) = true := by
          intro j hj
          by_cases e : j = k
          · rw [e, ← HX.out.2]; exact HX.out.1.symm
          · exact hR.out.2 j (by omega)
        have hq := suS_bd (k + 1) hks hal
        have hS2 : S + x = suL (sh.take (k + 1)) := by rw [suL_take hks, hR.out.1, HX.out.2]
        have HS : Hid (S + x = suL (sh.take (k + 1)) ∧ (∀ j, j < k + 1 → inS (sh.getD j 0) = true) ∧ 0 ≤ S + x ∧ S + x ≤ 1000000) := ⟨hS2, hal, by omega, by omega⟩
        have k1 : IntKind.i64.wrap (S + x) = S + x := by rw [IntKind.wrap_i64]; omega
        clear hq hS2 hal hks hR
        go_wp2
        go_round
        case rel => exact ⟨k + 1, S + x, by omega, by go_num, rfl, HS.out.2.2.1, HS.out.2.2.2, HS.out.1, HS.out.2.1⟩
        case measure => simp [intOf] <;> omega
      | false =>
        have hks : k < sh.length := by rw [← HMM.out]; exact hlt
        have hf3 : itF d sh f = 3 := itF_at HL0.out.1 HL0.out.2 hks (by rw [← HX.out.2]; exact HX.out.1.symm)
        clear hR hks
        have hcc : CC = 3 := by rw [HF.out.1, itC_f HG.out.2 (by rw [hf3]; decide)]; exact hf3
        obtain ⟨e1, e2⟩ := HZ.out (by rw [hcc]; decide)
        subst e1 e2
        clear HF
        subst hcc
        have t0 := cellOf (HB.out.at 1 rfl) 0 rfl
        have f0 := frozOf (HB.out.at 1 rfl) 0
        have t1 := cellOf (HB.out.at 1 rfl) 1 rfl
        have f1 := frozOf (HB.out.at 1 rfl) 1
        have t2 := cellOf (HB.out.at 1 rfl) 2 rfl
        have f2 := frozOf (HB.out.at 1 rfl) 2
        have tl := ltOf (HB.out.at 1 rfl)
        have q2 := (((HB.out.set 1 0 rfl (.int .i64 3)).set 1 1 rfl (.slice none 0 0)).set 1 2 rfl (.int .i64 0))
        have u0 := cellOf (q2.at 1 rfl) 0 rfl
        have u1 := cellOf (q2.at 1 rfl) 1 rfl
        have u2 := cellOf (q2.at 1 rfl) 2 rfl
        have QB : Hid _ := q2.bl
        clear q2
        go_wp2
        refine bodyPost_ret (by simp [results, Try.results17, go_sem, u0, u1, u2]) rfl ⟨.slice none 0 0, rfl, World.ownsRow_nil _ _ _ _, QB.out⟩
    have hkm : k = sh.length := by rw [← HMM.out]; omega
    have HS : Hid (S = suL sh ∧ ∀ j, j < sh.length → inS (sh.getD j 0) = true) := ⟨by rw [hR.out.1, hkm, List.take_length], fun j hj => hR.out.2 j (by omega)⟩
    clear hR hkm
    go_wp2_with (fail)
    refine (spec_ins d 0 1000000 r1 HR.out.1 _).mono ?_
    rintro e w3 ⟨rfl, hw⟩
    obtain rfl : w1 = w3 := hw.symm
    clear hw
    cases r1 with
    | false =>
      have hf3 : itF d sh f = 3 := itF_d HL0.out.1 HL0.out.2 (by rw [HR.out.2.2]; rfl)
      have hcc : CC = 3 := by rw [HF.out.1, itC_f HG.out.2 (by rw [hf3]; decide)]; exact hf3
      obtain ⟨e1, e2⟩ := HZ.out (by rw [hcc]; decide)
      subst e1 e2
      clear HF
      subst hcc
      have t0 := cellOf (HB.out.at 1 rfl) 0 rfl
      have f0 := frozOf (HB.out.at 1 rfl) 0
      have t1 := cellOf (HB.out.at 1 rfl) 1 rfl
      have f1 := frozOf (HB.out.at 1 rfl) 1
      have t2 := cellOf (HB.out.at 1 rfl) 2 rfl
      have f2 := frozOf (HB.out.at 1 rfl) 2
      have tl := ltOf (HB.out.at 1 rfl)
      have q2 := (((HB.out.set 1 0 rfl (.int .i64 3)).set 1 1 rfl (.slice none 0 0)).set 1 2 rfl (.int .i64 0))
      have u0 := cellOf (q2.at 1 rfl) 0 rfl
      have u1 := cellOf (q2.at 1 rfl) 1 rfl
      have u2 := cellOf (q2.at 1 rfl) 2 rfl
      have QB : Hid _ := q2.bl
      clear q2
      go_wp2
      refine bodyPost_ret (by simp [results, Try.results17, go_sem, u0, u1, u2]) rfl ⟨.slice none 0 0, rfl, World.ownsRow_nil _ _ _ _, QB.out⟩
    | true =>
    go_wp2_with (fail)
    refine (spec_ins f 0 40 r2 HR.out.2.1 _).mono ?_
    rintro e w3 ⟨rfl, hw⟩
    obtain rfl : w1 = w3 := hw.symm
    clear hw
    cases r2 with
    | false =>
      have hf3 : itF d sh f = 3 := itF_d HL0.out.1 HL0.out.2 (by rw [HR.out.2.2]; rfl)
      have hcc : CC = 3 := by rw [HF.out.1, itC_f HG.out.2 (by rw [hf3]; decide)]; exact hf3
      obtain ⟨e1, e2⟩ := HZ.out (by rw [hcc]; decide)
      subst e1 e2
      clear HF
      subst hcc
      have t0 := cellOf (HB.out.at 1 rfl) 0 rfl
      have f0 := frozOf (HB.out.at 1 rfl) 0
      have t1 := cellOf (HB.out.at 1 rfl) 1 rfl
      have f1 := frozOf (HB.out.at 1 rfl) 1
      have t2 := cellOf (HB.out.at 1 rfl) 2 rfl
      have f2 := frozOf (HB.out.at 1 rfl) 2
      have tl := ltOf (HB.out.at 1 rfl)
      have q2 := (((HB.out.set 1 0 rfl (.int .i64 3)).set 1 1 rfl (.slice none 0 0)).set 1 2 rfl (.int .i64 0))
      have u0 := cellOf (q2.at 1 rfl) 0 rfl
      have u1 := cellOf (q2.at 1 rfl) 1 rfl
      have u2 := cellOf (q2.at 1 rfl) 2 rfl
      have QB : Hid _ := q2.bl
      clear q2
      go_wp2
      refine bodyPost_ret (by simp [results, Try.results17, go_sem, u0, u1, u2]) rfl ⟨.slice none 0 0, rfl, World.ownsRow_nil _ _ _ _, QB.out⟩
    | true =>
    by_cases hb : 1000 < S
    · have hf3 : itF d sh f = 3 := itF_sum HL0.out.1 HL0.out.2 (by rw [← HS.out.1]; exact hb)
      have hcc : CC = 3 := by rw [HF.out.1, itC_f HG.out.2 (by rw [hf3]; decide)]; exact hf3
      obtain ⟨e1, e2⟩ := HZ.out (by rw [hcc]; decide)
      subst e1 e2
      clear HF
      subst hcc
      have t0 := cellOf (HB.out.at 1 rfl) 0 rfl
      have f0 := frozOf (HB.out.at 1 rfl) 0
      have t1 := cellOf (HB.out.at 1 rfl) 1 rfl
      have f1 := frozOf (HB.out.at 1 rfl) 1
      have t2 := cellOf (HB.out.at 1 rfl) 2 rfl
      have f2 := frozOf (HB.out.at 1 rfl) 2
      have tl := ltOf (HB.out.at 1 rfl)
      have q2 := (((HB.out.set 1 0 rfl (.int .i64 3)).set 1 1 rfl (.slice none 0 0)).set 1 2 rfl (.int .i64 0))
      have u0 := cellOf (q2.at 1 rfl) 0 rfl
      have u1 := cellOf (q2.at 1 rfl) 1 rfl
      have u2 := cellOf (q2.at 1 rfl) 2 rfl
      have QB : Hid _ := q2.bl
      clear q2
      go_wp2
      refine bodyPost_ret (by simp [results, Try.results17, go_sem, u0, u1, u2]) rfl ⟨.slice none 0 0, rfl, World.ownsRow_nil _ _ _ _, QB.out⟩
    have hE0 : itF d sh f = 0 := itF_good HL0.out.1 HL0.out.2 (by rw [HR.out.2.2]; rfl) HS.out.2 (by rw [← HS.out.1]; omega)
    have HI : Hid (IG d sh f ∧ itF d sh f = 0) := ⟨itF_ok hE0, hE0⟩
    clear hE0 HS HL0
    have HCP : Hid (∀ V, Below W.heap.size W V → Calls Try.prog 36 #[.agg #[.slice ua n uc, .int .i64 o]] V fun e w' => ∃ g c, e = .returned (.agg #[.slice (some ⟨g, 0, none⟩) n c, .int .i64 o]) ∧ IS w' V.heap.size (.slice (some ⟨g, 0, none⟩) n c) s ∧ Below V.heap.size V w') := fun V hV => by
      have := spec_cpd o HG.out.1.pos (by rw [← HN.out]; exact hn) (H.out.below hV)
      rwa [← HN.out] at this
    go_wp2_with (fail)
    refine (HCP.out _ HB.out.bl).mono ?_
    rintro e w2 ⟨g, cp, rfl, hi2, hb2⟩
    have HB2 : Hid (BB W [(k0, .cells #[.slice ua n uc, .int .i64 o] 27), (k0 + 1, .cells #[.int .i64 0, .slice none 0 0, .int .i64 0] 36)] (k0 + 1 + 1) w2) := HB.out.below hb2
    have hgl := (IS.lt hi2 g rfl)
    have hsz := HB.out.sz
    have hW1 := HB.out.bl.size
    clear a0_0 a0_1 a0_l HCP
    go_wp2_with (fail)
    obtain ⟨K, hKK⟩ : ∃ K, K = w2.heap.size := ⟨_, rfl⟩
    obtain ⟨V, hV⟩ : ∃ V, V = w2.alloc (.cells #[.slice (some ⟨g, 0, none⟩) n cp, .int .i64 o] 27) := ⟨_, rfl⟩
    have hVb : Below w2.heap.size w2 V := by rw [hV]; (repeat' (first | (with_reducible exact Below.refl _ _) | (with_reducible assumption) | (with_reducible refine Below.setCell ?_ ?_ _) | (with_reducible refine Below.alloc ?_ ?_ _) | (with_reducible refine below_drewN ?_ _) | (with_reducible refine Below.drew ?_) | (with_reducible exact Nat.le_refl _) | omega | (simp; done) | (simp; omega)))
    obtain ⟨fn, hfn⟩ : ∃ k : Nat, f = (k : Int) := ⟨f.toNat, by have := HI.out.1.f; omega⟩
    subst hfn
    have HR0 : Hid (MP W.heap.size K g n cp (itL s d sh fn 0) o V ∧ BB W [(k0, .cells #[.slice ua n uc, .int .i64 o] 27), (k0 + 1, .cells #[.int .i64 0, .slice none 0 0, .int .i64 0] 36)] (k0 + 1 + 1) V) := by
      refine ⟨⟨by rw [hV, hKK]; exact heap_alloc_new _ _, (hi2.bel hVb).low (by omega), by omega, HN.out, ⟨by omega, by have := hb2.size; omega⟩⟩, HB2.out.below hVb⟩
    have HNE : Hid (g ≠ k0 + 1 ∧ K ≠ k0 + 1 ∧ g ≠ K ∧ K ≠ k0 ∧ g ≠ k0) := by have := hb2.size; exact ⟨by omega, by omega, by omega, by omega, by omega⟩
    rw [← hV, ← hKK]
    clear hV hVb hi2 hb2 hgl hsz hW1 HB2 hKK HB hS0 hS1 hlt hk hb
    go_loopw [13, 14, 15] (fun l i _ wr => ∃ (k : Nat) (lf : Int), k ≤ m ∧ i = .int .i64 k ∧ l = .int .i64 lf ∧ Hid (MP W.heap.size K g n cp (itL s d sh fn k) o wr ∧ BB W [(k0, .cells #[.slice ua n uc, .int .i64 o] 27), (k0 + 1, .cells #[.int .i64 0, .slice none 0 0, .int .i64 0] 36)] (k0 + 1 + 1) wr ∧ o + lf = itT s o d sh fn k ∧ - (1000000 * (k : Int)) ≤ lf ∧ lf ≤ 1000000)) (fun _ i _ _ => m - (intOf i).toNat)
    case atStart => exact ⟨0, d, Nat.zero_le _, rfl, rfl, HR0.out.1, HR0.out.2, by rw [itT], by have := HI.out.1.d; omega, by have := HI.out.1.d; omega⟩
    case round =>
      clear HR0
      obtain ⟨k, lf, hk, rfl, rfl, hR⟩ := hrel
      have hml := HI.out.1.len
      have hm40 : m ≤ 40 := by rw [HMM.out]; exact hml
      have hfb := HI.out.1.f
      obtain ⟨h9a, h9b, h9c, h9f, h9g⟩ := hR.out
      have k5 : IntKind.i64.wrap ((fn : Int) + (k : Int)) = ((fn + k : Nat) : Int) := by rw [IntKind.wrap_i64]; omega
      have ma0 := cellOf h9a.bx 0 rfl
      have ma1 := cellOf h9a.bx 1 rfl
      have m1f := frozOf h9a.bx 1
      have mal := ltOf h9a.bx
      by_cases hlt : k < m ∧ fn + k < n
      · obtain ⟨hlt1, hlt2⟩ := hlt
        obtain ⟨gq, oq, rfl, hgq, d0⟩ := rd_at (H2.out.below h9b.bl) hlt1
        obtain ⟨x, hx⟩ : ∃ x, x = sh.getD k 0 := ⟨_, rfl⟩
        obtain ⟨P, hP⟩ : ∃ P, P = itP d sh k := ⟨_, rfl⟩
        have hpb := itP_bd HI.out.1 k
        rw [← hP, ← hx] at hpb
        rw [← hx] at d0
        have k1 : IntKind.i64.wrap (d * x) = d * x := by rw [IntKind.wrap_i64]; omega
        have k2 : Int.tdiv (d * x) 1000 = P := by rw [Int.tdiv_eq_ediv_of_nonneg hpb.2.2.1, hP, itP, hx]
        have k3 : IntKind.i64.wrap P = P := by rw [IntKind.wrap_i64]; omega
        have k4 : IntKind.i64.wrap (lf - P) = lf - P := by rw [IntKind.wrap_i64]; omega
        have hLb := itL_bd HG.out.1 HI.out.1 fn k (fn + k)
        obtain ⟨y, hy⟩ : ∃ y, y = (itL s d sh fn k).getD (fn + k) 0 := ⟨_, rfl⟩
        obtain ⟨c0, c1⟩ := h9a.cell hlt2
        rw [← hy] at c0 hLb
        have k6 : IntKind.i64.wrap (y + P) = y + P := by rw [IntKind.wrap_i64]; omega
        have hgl := h9a.lt.1
        obtain ⟨j, hj⟩ : ∃ j, j = fn + k := ⟨_, rfl⟩
        have HR5 : Hid (MP W.heap.size K g n cp (itL s d sh fn (k + 1)) o (wr.drew.setCell ⟨g, j, none⟩ (.int .i64 (y + P))) ∧ BB W [(k0, .cells #[.slice ua n uc, .int .i64 o] 27), (k0 + 1, .cells #[.int .i64 0, .slice none 0 0, .int .i64 0] 36)] (k0 + 1 + 1) (wr.drew.setCell ⟨g, j, none⟩ (.int .i64 (y + P))) ∧ o + (lf - P) = itT s o d sh fn (k + 1) ∧ - (1000000 * ((k + 1 : Nat) : Int)) ≤ lf - P ∧ lf - P ≤ 1000000) := by
          have hd : Below wr.heap.size wr wr.drew := (Below.refl _ _).drew
          refine ⟨?_, (h9b.below hd).other h9a.lo.1 (fun p hp => ?_) _, ?_, by omega, by omega⟩
          · have := (h9a.below hd).setL j (y + P)
            rw [itL, ptL, ← hP, ← hy, ← hj]; exact this
          · simp only [List.mem_cons, List.not_mem_nil, or_false] at hp
            rcases hp with rfl | rfl
            · exact fun e => HNE.out.2.2.2.2 e.symm
            · exact fun e => HNE.out.1 e.symm
          · rw [itT, if_pos (by rw [← HN.out]; exact hlt2), ← hP, ← h9c]; omega
        rw [← hj] at k5 c0 c1
        have b3 : (0 : Int) ≤ (k : Int) := by omega
        have b4 : (k : Int) < (m : Int) := by omega
        have b5 : (0 : Int) ≤ (j : Int) := by omega
        have b6 : (j : Int) < (n : Int) := by omega
        clear hR hx hP hpb h9a h9b h9c h9f h9g hLb hml hfb hy hj hm40
        go_wp2_with (fail)
        refine wp_region_still_tail 15 (by kernel_rfl) (by kernel_rfl) ?_
        have hdw : ({ wr with drawn := wr.drawn + 1 } : World) = wr.drew := rfl
        rw [hdw]
        clear hdw
        simp only [List.take_succ_cons, List.take_zero, List.drop_succ_cons, List.drop_zero]
        iterate 15 still_step
        refine wpStill_nil ?_
        go_wp2
        go_roundw
        case rel => exact ⟨k + 1, lf - P, by omega, by go_num, rfl, HR5.out⟩
        case measure => simp [intOf] <;> omega
      · have HE : Hid (itL s d sh fn m = itL s d sh fn k ∧ itT s o d sh fn m = itT s o d sh fn k) := by
          by_cases h1 : k = m
          · rw [h1]; exact ⟨rfl, rfl⟩
          · exact it_stop (by rw [← HN.out]; omega) m hk
        have hlt' : (m : Int) ≤ (k : Int) ∨ (k : Int) < (m : Int) ∧ (n : Int) ≤ ((fn + k : Nat) : Int) := by omega
        obtain ⟨j, hj⟩ : ∃ j, j = fn + k := ⟨_, rfl⟩
        rw [← hj] at k5 hlt'
        have hO := HG.out.1.o0
        have k1 : IntKind.i64.wrap (o + lf) = o + lf := by rw [IntKind.wrap_i64]; omega
        obtain ⟨V5, hV5⟩ : ∃ V, V = wr.setCell ⟨K, 1, none⟩ (.int .i64 (o + lf)) := ⟨_, rfl⟩
        obtain ⟨M, hM⟩ : ∃ M, M = itL s d sh fn k := ⟨_, rfl⟩
        have HM : Hid (MP W.heap.size K g n cp M (o + lf) V5) := by rw [hV5, hM]; exact h9a.setO (o + lf)
        have HX : Hid (BB W [(k0, .cells #[.slice ua n uc, .int .i64 o] 27), (k0 + 1, .cells #[.int .i64 0, .slice none 0 0, .int .i64 0] 36)] (k0 + 1 + 1) V5) := by
          rw [hV5]
          refine h9b.other h9a.lo.2 (fun p hp => ?_) _
          simp only [List.mem_cons, List.not_mem_nil, or_false] at hp
          rcases hp with rfl | rfl
          · exact fun e => HNE.out.2.2.2.1 e.symm
          · exact fun e => HNE.out.2.1 e.symm
        have hln : M.length ≤ 1048576 := by rw [hM, itL_len, ← HN.out]; exact hn
        have HCM : Hid (CC = pfC M (o + lf) ∧ LL = tdL CC M ∧ QQ = tdO CC (o + lf)) := by
          have h8 := HF.out
          rw [itC_in HG.out.2 HI.out.2] at h8
          rw [hM, h9c, ← HE.out.1, ← HE.out.2, HMM.out]
          exact h8
        have HV5 : Hid (V5 = wr.setCell ⟨K, 1, none⟩ (.int .i64 (o + lf))) := hV5
        clear hR h9a h9b h9c h9f h9g hml hM hV5 hj hlt hm40 hfb hO HE
        rcases hlt' with hq | ⟨hq1, hq2⟩
        · have q1 : ¬ (k : Int) < (m : Int) := by omega
          by_cases hz : pfC (M) ((o + lf)) = 0
          · obtain ⟨e1, e2, e3⟩ : CC = 0 ∧ LL = M ∧ QQ = (o + lf) := ⟨by rw [HCM.out.1, hz], by rw [HCM.out.2.1, tdL, if_pos (by rw [HCM.out.1, hz])], by rw [HCM.out.2.2, tdO, if_pos (by rw [HCM.out.1, hz])]⟩
            have HA : Hid (∀ V, Below V5.heap.size V5 V → Calls Try.prog 37 #[.agg #[.slice (some ⟨g, 0, none⟩) n cp, .int .i64 (o + lf)]] V fun e w' => e = .returned (.agg #[.int .i64 0, .slice (some ⟨g, 0, none⟩) n cp, .int .i64 QQ]) ∧ Below V.heap.size V w') := fun V hV => by
              have := spec_ans_ok hz (HM.out.rd.below hV)
              rw [e3]; exact this
            clear hz
            subst e1
            clear e3
            have HLL : Hid (LL = M) := e2
            clear e2
            go_wp2_with (fail)
            rw [← HV5.out]
            refine (HA.out _ (Below.refl _ _)).mono ?_
            rintro e w5 ⟨rfl, hb5⟩
            have HX5 := HX.out.below hb5
            have HM5 := HM.out.below hb5
            clear hb5 ma0 ma1 mal
            have t0 := cellOf (HX5.at 1 rfl) 0 rfl
            have f0 := frozOf (HX5.at 1 rfl) 0
            have t1 := cellOf (HX5.at 1 rfl) 1 rfl
            have f1 := frozOf (HX5.at 1 rfl) 1
            have t2 := cellOf (HX5.at 1 rfl) 2 rfl
            have f2 := frozOf (HX5.at 1 rfl) 2
            have tl := ltOf (HX5.at 1 rfl)
            have q2 := (((HX5.set 1 0 rfl (.int .i64 0)).set 1 1 rfl (.slice (some ⟨g, 0, none⟩) n cp)).set 1 2 rfl (.int .i64 QQ))
            have q3 := q2
            have u0 := cellOf (q3.at 1 rfl) 0 rfl
            have u1 := cellOf (q3.at 1 rfl) 1 rfl
            have u2 := cellOf (q3.at 1 rfl) 2 rfl
            have QB : Hid _ := q3.bl
            have HI : Hid (IS (((w5.setCell ⟨k0 + 1, 0, none⟩ (.int .i64 0)).setCell ⟨k0 + 1, 1, none⟩ (.slice (some ⟨g, 0, none⟩) n cp)).setCell ⟨k0 + 1, 2, none⟩ (.int .i64 QQ)) W.heap.size (.slice (some ⟨g, 0, none⟩) n cp) LL) := by
              unfold Hid
              rw [HLL.out]
              refine HM5.is.keepE ?_
              rw [heap_setCell_other _ _ _ _ HNE.out.1, heap_setCell_other _ _ _ _ HNE.out.1, heap_setCell_other _ _ _ _ HNE.out.1]
            clear q2 q3
            go_wp2
            refine bodyPost_ret (by simp [results, Try.results17, go_sem, u0, u1, u2]) rfl ⟨.slice (some ⟨g, 0, none⟩) n cp, rfl, HI.out, QB.out⟩
          · obtain ⟨e1, e2⟩ := HZ.out (by rw [HCM.out.1]; exact hz)
            have HA : Hid (∀ V, Below V5.heap.size V5 V → Calls Try.prog 37 #[.agg #[.slice (some ⟨g, 0, none⟩) n cp, .int .i64 (o + lf)]] V fun e w' => e = .returned (.agg #[.int .i64 CC, .slice none 0 0, .int .i64 0]) ∧ Below V.heap.size V w') := fun V hV => by
              have := spec_ans_bad hln hz (HM.out.rd.below hV)
              rwa [← HCM.out.1] at this
            clear hz
            subst e1 e2
            go_wp2_with (fail)
            rw [← HV5.out]
            refine (HA.out _ (Below.refl _ _)).mono ?_
            rintro e w5 ⟨rfl, hb5⟩
            have HX5 := HX.out.below hb5
            have HM5 := HM.out.below hb5
            clear hb5 ma0 ma1 mal
            have t0 := cellOf (HX5.at 1 rfl) 0 rfl
            have f0 := frozOf (HX5.at 1 rfl) 0
            have t1 := cellOf (HX5.at 1 rfl) 1 rfl
            have f1 := frozOf (HX5.at 1 rfl) 1
            have t2 := cellOf (HX5.at 1 rfl) 2 rfl
            have f2 := frozOf (HX5.at 1 rfl) 2
            have tl := ltOf (HX5.at 1 rfl)
            have q2 := (((HX5.set 1 0 rfl (.int .i64 CC)).set 1 1 rfl (.slice none 0 0)).set 1 2 rfl (.int .i64 0))
            have q3 := q2
            have u0 := cellOf (q3.at 1 rfl) 0 rfl
            have u1 := cellOf (q3.at 1 rfl) 1 rfl
            have u2 := cellOf (q3.at 1 rfl) 2 rfl
            have QB : Hid _ := q3.bl
            clear q2 q3
            go_wp2
            refine bodyPost_ret (by simp [results, Try.results17, go_sem, u0, u1, u2]) rfl ⟨.slice none 0 0, rfl, World.ownsRow_nil _ _ _ _, QB.out⟩
        · have q2 : ¬ (j : Int) < (n : Int) := by omega
          by_cases hz : pfC (M) ((o + lf)) = 0
          · obtain ⟨e1, e2, e3⟩ : CC = 0 ∧ LL = M ∧ QQ = (o + lf) := ⟨by rw [HCM.out.1, hz], by rw [HCM.out.2.1, tdL, if_pos (by rw [HCM.out.1, hz])], by rw [HCM.out.2.2, tdO, if_pos (by rw [HCM.out.1, hz])]⟩
            have HA : Hid (∀ V, Below V5.heap.size V5 V → Calls Try.prog 37 #[.agg #[.slice (some ⟨g, 0, none⟩) n cp, .int .i64 (o + lf)]] V fun e w' => e = .returned (.agg #[.int .i64 0, .slice (some ⟨g, 0, none⟩) n cp, .int .i64 QQ]) ∧ Below V.heap.size V w') := fun V hV => by
              have := spec_ans_ok hz (HM.out.rd.below hV)
              rw [e3]; exact this
            clear hz
            subst e1
            clear e3
            have HLL : Hid (LL = M) := e2
            clear e2
            go_wp2_with (fail)
            rw [← HV5.out]
            refine (HA.out _ (Below.refl _ _)).mono ?_
            rintro e w5 ⟨rfl, hb5⟩
            have HX5 := HX.out.below hb5
            have HM5 := HM.out.below hb5
            clear hb5 ma0 ma1 mal
            have t0 := cellOf (HX5.at 1 rfl) 0 rfl
            have f0 := frozOf (HX5.at 1 rfl) 0
            have t1 := cellOf (HX5.at 1 rfl) 1 rfl
            have f1 := frozOf (HX5.at 1 rfl) 1
            have t2 := cellOf (HX5.at 1 rfl) 2 rfl
            have f2 := frozOf (HX5.at 1 rfl) 2
            have tl := ltOf (HX5.at 1 rfl)
            have q2 := (((HX5.set 1 0 rfl (.int .i64 0)).set 1 1 rfl (.slice (some ⟨g, 0, none⟩) n cp)).set 1 2 rfl (.int .i64 QQ))
            have q3 := q2
            have u0 := cellOf (q3.at 1 rfl) 0 rfl
            have u1 := cellOf (q3.at 1 rfl) 1 rfl
            have u2 := cellOf (q3.at 1 rfl) 2 rfl
            have QB : Hid _ := q3.bl
            have HI : Hid (IS (((w5.setCell ⟨k0 + 1, 0, none⟩ (.int .i64 0)).setCell ⟨k0 + 1, 1, none⟩ (.slice (some ⟨g, 0, none⟩) n cp)).setCell ⟨k0 + 1, 2, none⟩ (.int .i64 QQ)) W.heap.size (.slice (some ⟨g, 0, none⟩) n cp) LL) := by
              unfold Hid
              rw [HLL.out]
              refine HM5.is.keepE ?_
              rw [heap_setCell_other _ _ _ _ HNE.out.1, heap_setCell_other _ _ _ _ HNE.out.1, heap_setCell_other _ _ _ _ HNE.out.1]
            clear q2 q3
            go_wp2
            refine bodyPost_ret (by simp [results, Try.results17, go_sem, u0, u1, u2]) rfl ⟨.slice (some ⟨g, 0, none⟩) n cp, rfl, HI.out, QB.out⟩
          · obtain ⟨e1, e2⟩ := HZ.out (by rw [HCM.out.1]; exact hz)
            have HA : Hid (∀ V, Below V5.heap.size V5 V → Calls Try.prog 37 #[.agg #[.slice (some ⟨g, 0, none⟩) n cp, .int .i64 (o + lf)]] V fun e w' => e = .returned (.agg #[.int .i64 CC, .slice none 0 0, .int .i64 0]) ∧ Below V.heap.size V w') := fun V hV => by
              have := spec_ans_bad hln hz (HM.out.rd.below hV)
              rwa [← HCM.out.1] at this
            clear hz
            subst e1 e2
            go_wp2_with (fail)
            rw [← HV5.out]
            refine (HA.out _ (Below.refl _ _)).mono ?_
            rintro e w5 ⟨rfl, hb5⟩
            have HX5 := HX.out.below hb5
            have HM5 := HM.out.below hb5
            clear hb5 ma0 ma1 mal
            have t0 := cellOf (HX5.at 1 rfl) 0 rfl
            have f0 := frozOf (HX5.at 1 rfl) 0
            have t1 := cellOf (HX5.at 1 rfl) 1 rfl
            have f1 := frozOf (HX5.at 1 rfl) 1
            have t2 := cellOf (HX5.at 1 rfl) 2 rfl
            have f2 := frozOf (HX5.at 1 rfl) 2
            have tl := ltOf (HX5.at 1 rfl)
            have q2 := (((HX5.set 1 0 rfl (.int .i64 CC)).set 1 1 rfl (.slice none 0 0)).set 1 2 rfl (.int .i64 0))
            have q3 := q2
            have u0 := cellOf (q3.at 1 rfl) 0 rfl
            have u1 := cellOf (q3.at 1 rfl) 1 rfl
            have u2 := cellOf (q3.at 1 rfl) 2 rfl
            have QB : Hid _ := q3.bl
            clear q2 q3
            go_wp2
            refine bodyPost_ret (by simp [results, Try.results17, go_sem, u0, u1, u2]) rfl ⟨.slice none 0 0, rfl, World.ownsRow_nil _ _ _ _, QB.out⟩

end Go.Proofs.Ytfjfogiohijkkaa
