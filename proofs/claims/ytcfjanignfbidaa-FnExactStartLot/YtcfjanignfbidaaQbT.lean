/- Proved here: a lot's fault of the model: loA. -/
import Derived.Test.YtcfjanignfbidaaQbS
import Derived.BigQuiet
namespace Go.Proofs.Ytcfjanignfbidaa
open Go.RowKit Go.Maps
set_option linter.unusedVariables false
set_option linter.unusedSimpArgs false

set_option maxRecDepth 10000 in
set_option maxHeartbeats 6400000 in
theorem spec_lot {st : Int} {w : World} {vw vl vs : Value} {b : Bk} (hst : b.st = st) (hs : smBk 1048576 b) (h : RdBk w vw vl vs b) (i : Nat) (hi : i < b.ls.length) :
    Calls Try.prog 65 #[.agg #[.int .i64 st, vw, vl, vs], .int .i64 i] w fun e w' => e = .returned (.int .i64 (loA b i)) ∧ Below w.heap.size w w' := by
  obtain ⟨wwa, wwc, e1⟩ := h.wn.form
  obtain ⟨la, lc, e2⟩ := h.ls.form
  obtain ⟨xa, xc, e3⟩ := h.sc.form
  subst e1 e2 e3
  obtain ⟨wwn, hwn⟩ : ∃ n, n = b.wn.length := ⟨_, rfl⟩
  obtain ⟨ln, hln⟩ : ∃ n, n = b.ls.length := ⟨_, rfl⟩
  obtain ⟨xn, hxn⟩ : ∃ n, n = b.sc.length := ⟨_, rfl⟩
  rw [← hwn, ← hln, ← hxn] at h ⊢
  obtain ⟨K, hK⟩ : ∃ K, K = loA b i := ⟨_, rfl⟩
  rw [← hK]
  obtain ⟨g, o, c2, he, hg, r, h1, c0, c1, c2', c3, c4⟩ := h.ls.at hi
  simp only [Value.slice.injEq] at he
  obtain ⟨rfl, hx1, hx2⟩ := he
  clear hx1 hx2
  obtain ⟨l, hl⟩ : ∃ l, l = b.ls[i] := ⟨_, rfl⟩
  rw [← hl] at h1
  have hsl : smLo 1048576 l := by rw [hl]; exact hs.at_ i hi
  have hln9 : ln ≤ 1048576 := by have := hs.ls; omega
  have hil : i < ln := by rw [hln]; exact hi
  have hKl : K = loC st (fun x => decide (0 ≤ fdI (idA b.ls) x i)) l := by rw [hK]; unfold loA; rw [hst, show b.ls.getD i lo0 = b.ls[i] from by simp [List.getD, hi], ← hl]
  obtain ⟨ri, rp, wa, wn, wc, D, da, dn, dc⟩ := r
  have e1 := h1.id; have e3 := h1.pa
  simp only at e1 e3 c0 c1 c2' c3 c4
  subst ri rp
  obtain ⟨I, hI⟩ : ∃ I, I = l.id := ⟨_, rfl⟩
  obtain ⟨P, hP⟩ : ∃ I, I = l.pa := ⟨_, rfl⟩
  obtain ⟨dd, hdd⟩ : ∃ I, I = l.dn := ⟨_, rfl⟩
  obtain ⟨fI, hfI⟩ : ∃ I, I = fdI (idA b.ls) l.id i := ⟨_, rfl⟩
  obtain ⟨fP, hfP⟩ : ∃ I, I = fdI (idA b.ls) l.pa i := ⟨_, rfl⟩
  have hwn' : wn = l.ws.length := h1.ws.len
  have hdn : dn = dd.length := by rw [hdd]; exact h1.dn.len
  have H : Hid (RdI w (.slice da dn dc) dd) := by unfold Hid; rw [hdd]; exact h1.dn
  have hns : wn ≤ 1048576 ∧ dn ≤ 1048576 := by have := hsl.1; have := hsl.2.1; rw [hdd] at hdn; omega
  obtain ⟨W, hW⟩ : ∃ W, W = (w.alloc (.cells #[.int .i64 st, .slice wwa wwn wwc, .slice (some ⟨g, o, none⟩) ln lc, .slice xa xn xc] 31)).alloc (.cells #[.int .i64 l.id, .int .i64 l.pa, .slice wa wn wc, .bool D, .slice da dn dc] 61) := ⟨_, rfl⟩
  have HW : Hid (Below w.heap.size w W ∧ W.heap[w.heap.size]? = some (.cells #[.int .i64 st, .slice wwa wwn wwc, .slice (some ⟨g, o, none⟩) ln lc, .slice xa xn xc] 31) ∧ W.heap[w.heap.size + 1]? = some (.cells #[.int .i64 l.id, .int .i64 l.pa, .slice wa wn wc, .bool D, .slice da dn dc] 61)) := by
    rw [hW]
    refine ⟨by (repeat' (first | (with_reducible exact Below.refl _ _) | (with_reducible assumption) | (with_reducible refine Below.setCell ?_ ?_ _) | (with_reducible refine Below.alloc ?_ ?_ _) | (with_reducible refine below_drewN ?_ _) | (with_reducible refine Below.drew ?_) | (with_reducible exact Nat.le_refl _) | omega | (simp; done) | (simp; omega))), (Below.heap_alloc _ _ _ (by simp)).trans (heap_alloc_new w _), ?_⟩
    have := heap_alloc_new (w.alloc (.cells #[.int .i64 st, .slice wwa wwn wwc, .slice (some ⟨g, o, none⟩) ln lc, .slice xa xn xc] 31)) (.cells #[.int .i64 l.id, .int .i64 l.pa, .slice wa wn wc, .bool D, .slice da dn dc] 61); simpa using this
  have HFI : Hid (Calls Try.prog 67 #[.slice (some ⟨g, o, none⟩) ln lc, .int .i64 i, .int .i64 I] W fun e w' => e = .returned (.int .i64 fI) ∧ w' = W) := by
    rw [hfI, ← hI]; exact spec_fd i I (by omega) (by omega) (h.ls.below HW.out.1)
  have HFP : Hid (Calls Try.prog 67 #[.slice (some ⟨g, o, none⟩) ln lc, .int .i64 i, .int .i64 P] W fun e w' => e = .returned (.int .i64 fP) ∧ w' = W) := by
    rw [hfP, ← hP]; exact spec_fd i P (by omega) (by omega) (h.ls.below HW.out.1)
  have HI : Hid (∀ (y : Int) W q, q = decide (0 ≤ y ∧ y ≤ 1000000000) → Calls Try.prog 61 #[.int .i64 y, .int .i64 0, .int .i64 1000000000] W fun e w' => e = .returned (.bool q) ∧ w' = W) := fun y W q hq => spec_ins y 0 1000000000 q hq W
  have HID : Hid (∀ W q, q = decide (1 ≤ I ∧ I ≤ 1000000) → Calls Try.prog 66 #[.int .i64 I] W fun e w' => e = .returned (.bool q) ∧ w' = W) := fun W q hq => spec_id I q hq W
  have HK0 : Hid ((¬ (1 ≤ I ∧ I ≤ 1000000) → K = 1) ∧ ((1 ≤ I ∧ I ≤ 1000000) → 0 ≤ fI → K = 1) ∧ ((1 ≤ I ∧ I ≤ 1000000) → fI < 0 → P ≠ 0 → fP < 0 → K = 4) ∧ ((1 ≤ I ∧ I ≤ 1000000) → fI < 0 → (P = 0 ∨ 0 ≤ fP) → ((25 < wn ∨ st < (dn : Int)) → K = 2) ∧ (¬ (25 < wn ∨ st < (dn : Int)) → K = frm (dnK dd) 0 (dn - 0)))) := by
    unfold Hid
    unfold loC at hKl
    simp only [← hI, ← hP, ← hdd, ← hwn', ← hdn] at hKl
    rw [← hI] at hfI
    rw [← hP] at hfP
    simp only [← hfI, ← hfP, decide_eq_false_iff_not] at hKl
    refine ⟨fun h => ?_, fun h1 h2 => ?_, fun h1 h2 h3 h4 => ?_, fun h1 h2 h3 => ⟨fun h4 => ?_, fun h4 => ?_⟩⟩
    · rw [if_neg (fun e => h e.1)] at hKl; exact hKl
    · rw [if_neg (fun e => e.2 h2)] at hKl; exact hKl
    · rw [if_pos ⟨h1, by omega⟩, if_pos ⟨h3, by omega⟩] at hKl; exact hKl
    · rw [if_pos ⟨h1, by omega⟩, if_neg (by omega), if_pos h4] at hKl; exact hKl
    · rw [if_pos ⟨h1, by omega⟩, if_neg (by omega), if_neg h4] at hKl; exact hKl
  rw [← hI, ← hP] at hW HW
  have p0 := cellOfQ HW.out.2.1 0 rfl
  have p2 := cellOfQ HW.out.2.1 2 rfl
  have pl := ltOfQ HW.out.2.1
  have q0 := cellOfQ HW.out.2.2 0 rfl
  have q1 := cellOfQ HW.out.2.2 1 rfl
  have q2 := cellOfQ HW.out.2.2 2 rfl
  have q4 := cellOfQ HW.out.2.2 4 rfl
  have ql := ltOfQ HW.out.2.2
  rw [← hI] at c0
  rw [← hP] at c1
  clear hI hP hdd hK hKl hfI hfP hwn' hdn h1 h hl hsl hs hst hwn hln hxn hi
  have b8 : (0 : Int) ≤ (i : Int) := by omega
  have b9 : (i : Int) < (ln : Int) := by omega
  by_cases hIr : 1 ≤ I ∧ I ≤ 1000000
  case neg =>
    have HR : Hid (K = 1) := HK0.out.1 hIr
    have HDD : Hid (false = decide (1 ≤ I ∧ I ≤ 1000000)) := by unfold Hid; rw [decide_eq_false hIr]
    clear HK0 hIr
    go_enter Try.func65, Try.ntmps65
    go_wp2_with (fail)
    rw [← hW]
    clear hW
    refine (HID.out W false HDD.out).mono ?_
    rintro e w1 ⟨rfl, hw1⟩
    subst w1
    go_wp2
    go_returns
    exact ⟨by rw [HR.out]; rfl, HW.out.1⟩
  have HDD : Hid (true = decide (1 ≤ I ∧ I ≤ 1000000)) := by unfold Hid; rw [decide_eq_true hIr]
  have HIR : Hid (1 ≤ I ∧ I ≤ 1000000) := hIr
  clear hIr
  by_cases hF0 : 0 ≤ fI
  · have HR : Hid (K = 1) := HK0.out.2.1 HIR.out hF0
    clear HK0
    go_enter Try.func65, Try.ntmps65
    go_wp2_with (fail)
    rw [← hW]
    clear hW
    refine (HID.out W true HDD.out).mono ?_
    rintro e w1 ⟨rfl, hw1⟩
    subst w1
    go_wp2_with (fail)
    refine HFI.out.mono ?_
    rintro e w1 ⟨rfl, hw1⟩
    subst w1
    go_wp2
    go_returns
    exact ⟨by rw [HR.out]; rfl, HW.out.1⟩
  have HF0 : Hid (fI < 0) := by unfold Hid; omega
  by_cases hP0 : P = 0
  · have HK : Hid (((25 < wn ∨ st < (dn : Int)) → K = 2) ∧ (¬ (25 < wn ∨ st < (dn : Int)) → K = frm (dnK dd) 0 (dn - 0))) := HK0.out.2.2.2 HIR.out HF0.out (Or.inl hP0)
    subst hP0
    clear HK0 HFP
    by_cases h3 : 25 < (wn : Int)
    · have HR : Hid (K = 2) := HK.out.1 (Or.inl (by omega))
      clear HK
      go_enter Try.func65, Try.ntmps65
      go_wp2_with (fail)
      rw [← hW]
      clear hW
      refine (HID.out W true HDD.out).mono ?_
      rintro e w1 ⟨rfl, hw1⟩
      subst w1
      go_wp2_with (fail)
      refine HFI.out.mono ?_
      rintro e w1 ⟨rfl, hw1⟩
      subst w1
      go_wp2
      go_returns
      exact ⟨by rw [HR.out]; rfl, HW.out.1⟩
    by_cases h4 : st < (dn : Int)
    · have HR : Hid (K = 2) := HK.out.1 (Or.inr h4)
      clear HK
      go_enter Try.func65, Try.ntmps65
      go_wp2_with (fail)
      rw [← hW]
      clear hW
      refine (HID.out W true HDD.out).mono ?_
      rintro e w1 ⟨rfl, hw1⟩
      subst w1
      go_wp2_with (fail)
      refine HFI.out.mono ?_
      rintro e w1 ⟨rfl, hw1⟩
      subst w1
      go_wp2
      go_returns
      exact ⟨by rw [HR.out]; rfl, HW.out.1⟩
    have HF : Hid (K = frm (dnK dd) 0 (dn - 0)) := HK.out.2 (by omega)
    clear HK
    go_enter Try.func65, Try.ntmps65
    go_wp2_with (fail)
    rw [← hW]
    clear hW
    refine (HID.out W true HDD.out).mono ?_
    rintro e w1 ⟨rfl, hw1⟩
    subst w1
    go_wp2_with (fail)
    refine HFI.out.mono ?_
    rintro e w1 ⟨rfl, hw1⟩
    subst w1
    go_wp2
    go_loopw [6] (fun i wr => ∃ j : Nat, j ≤ dn ∧ i = .int .i64 j ∧ Hid (frm (dnK dd) j (dn - j) = K ∧ Below W.heap.size W wr)) (fun i _ => dn - (intOf i).toNat)
    case atStart => exact ⟨0, Nat.zero_le _, rfl, HF.out.symm, Below.refl _ _⟩
    case round =>
      clear HF HID p0 p2 q0 q1 q2 q4 ql pl
      obtain ⟨j, hjn, rfl, hR⟩ := hrel
      have HBW : Hid (Below w.heap.size w wr) := HW.out.1.trans (hR.out.2.mono HW.out.1.size)
      have q4 := cellOfQ ((hR.out.2.block _ (ltOfQ HW.out.2.2)).trans HW.out.2.2) 4 rfl
      have ql := ltOfQ ((hR.out.2.block _ (ltOfQ HW.out.2.2)).trans HW.out.2.2)
      by_cases hlt : j < dn
      · obtain ⟨g, o, rfl, hg, hc⟩ := rd_at (H.out.below HBW.out) hlt
        obtain ⟨y, hy⟩ : ∃ y, y = dd.getD j 0 := ⟨_, rfl⟩
        rw [← hy] at hc
        have hstep : Hid ((¬ (0 ≤ y ∧ y ≤ 1000000000) → 3 = K) ∧ ((0 ≤ y ∧ y ≤ 1000000000) → (0 < j ∧ y < dd.getD (j - 1) 0) → 1 = K) ∧ ((0 ≤ y ∧ y ≤ 1000000000) → ¬ (0 < j ∧ y < dd.getD (j - 1) 0) → frm (dnK dd) (j + 1) (dn - (j + 1)) = K)) := by
          have e : dnK dd j = if 0 ≤ y ∧ y ≤ 1000000000 then (if 0 < j ∧ y < dd.getD (j - 1) 0 then 1 else 0) else 3 := by rw [hy]; rfl
          refine ⟨fun h => ?_, fun h1 h2 => ?_, fun h1 h2 => ?_⟩
          · rw [if_neg h] at e; rw [← hR.out.1]; exact (frm_hit hlt e (by decide)).symm
          · rw [if_pos h1, if_pos h2] at e; rw [← hR.out.1]; exact (frm_hit hlt e (by decide)).symm
          · rw [if_pos h1, if_neg h2] at e; rw [← hR.out.1]; exact (frm_miss hlt e).symm
        have HB : Hid (Below W.heap.size W wr) := hR.out.2
        clear hy hR
        have b0 : (0 : Int) ≤ (j : Int) := by omega
        have b1 : (j : Int) < (dn : Int) := by omega
        by_cases h5 : 0 ≤ y ∧ y ≤ 1000000000
        · have HD : Hid (true = decide (0 ≤ y ∧ y ≤ 1000000000)) := by unfold Hid; rw [decide_eq_true h5]
          rcases Nat.eq_zero_or_pos j with h0 | h0
          · have HN : Hid (frm (dnK dd) (j + 1) (dn - (j + 1)) = K) := hstep.out.2.2 h5 (by omega)
            have h6 : decide ((0 : Int) < (j : Int)) = false := decide_eq_false (by omega)
            have h6n : decide (0 < j) = false := decide_eq_false (by omega)
            clear hstep h5 h0
            go_wp2_with (fail)
            refine (HI.out y _ true HD.out).mono ?_
            rintro e w2 ⟨rfl, hw2⟩
            subst w2
            go_wp2_with (fail)
            (refine wp_region_und (by kernel_rfl) (by kernel_rfl) (fun hund => ?_); (repeat (go_big_quiet_step (fail))); with_reducible refine wpQuiet_nil ?_; clear hund; intro W1 hb1; obtain ⟨hc1, hf1⟩ := undcell hb1)
            have HX : Hid (Below W.heap.size W W1) := HB.out.trans (hb1.mono HB.out.size)
            clear hb1 hc1 hf1 hc q4 ql HBW HB
            go_wp2
            go_roundw
            case rel => exact ⟨j + 1, by omega, by go_num, HN.out, HX.out⟩
            case measure => simp [intOf]; omega
          · have h6 : (0 : Int) < (j : Int) := by omega
            obtain ⟨g', o', he', hg', hc'⟩ := rd_at (H.out.below HBW.out) (show j - 1 < dn by omega)
            injection he' with he'
            injection he' with he1 he2
            subst he1 he2
            obtain ⟨z, hz⟩ : ∃ y, y = dd.getD (j - 1) 0 := ⟨_, rfl⟩
            rw [← hz] at hc' hstep
            have hix : ((j : Int) - 1).toNat = j - 1 := by omega
            have b2 : (0 : Int) ≤ (j : Int) - 1 := by omega
            have b3 : (j : Int) - 1 < (dn : Int) := by omega
            by_cases h7 : y < z
            · have HN : Hid (1 = K) := hstep.out.2.1 h5 ⟨h0, h7⟩
              clear hstep h5 hz
              go_wp2_with (fail)
              refine (HI.out y _ true HD.out).mono ?_
              rintro e w2 ⟨rfl, hw2⟩
              subst w2
              go_wp2_with (fail)
              (refine wp_region_und (by kernel_rfl) (by kernel_rfl) (fun hund => ?_); (repeat (go_big_quiet_step (fail))); with_reducible refine wpQuiet_nil ?_; clear hund; intro W1 hb1; obtain ⟨hc1, hf1⟩ := undcell hb1)
              have HX : Hid (Below w.heap.size w W1) := HBW.out.trans (hb1.mono HBW.out.size)
              clear hb1 hc1 hf1 hc hc' q4 ql HBW HB
              go_wp2
              go_returns
              exact ⟨by rw [← HN.out]; rfl, HX.out⟩
            · have HN : Hid (frm (dnK dd) (j + 1) (dn - (j + 1)) = K) := hstep.out.2.2 h5 (by omega)
              clear hstep h5 hz
              go_wp2_with (fail)
              refine (HI.out y _ true HD.out).mono ?_
              rintro e w2 ⟨rfl, hw2⟩
              subst w2
              go_wp2_with (fail)
              (refine wp_region_und (by kernel_rfl) (by kernel_rfl) (fun hund => ?_); (repeat (go_big_quiet_step (fail))); with_reducible refine wpQuiet_nil ?_; clear hund; intro W1 hb1; obtain ⟨hc1, hf1⟩ := undcell hb1)
              have HX : Hid (Below W.heap.size W W1) := HB.out.trans (hb1.mono HB.out.size)
              clear hb1 hc1 hf1 hc hc' q4 ql HBW HB
              go_wp2
              go_roundw
              case rel => exact ⟨j + 1, by omega, by go_num, HN.out, HX.out⟩
              case measure => simp [intOf]; omega
        · have HD : Hid (false = decide (0 ≤ y ∧ y ≤ 1000000000)) := by unfold Hid; rw [decide_eq_false h5]
          have HN : Hid (3 = K) := hstep.out.1 h5
          clear hstep h5
          go_wp2_with (fail)
          refine (HI.out y _ false HD.out).mono ?_
          rintro e w2 ⟨rfl, hw2⟩
          subst w2
          go_wp2
          go_returns
          exact ⟨by rw [← HN.out]; rfl, HBW.out⟩
      · obtain rfl : j = dn := by omega
        have HN : Hid (0 = K) := by have e := hR.out.1; rw [frm_end] at e; exact e
        clear hR
        go_wp2
        go_returns
        exact ⟨by rw [← HN.out]; rfl, HBW.out⟩
  have hP1 : (P == 0) = false := beq_eq_false_iff_ne.2 hP0
  by_cases hF1 : fP < 0
  · have HR : Hid (K = 4) := HK0.out.2.2.1 HIR.out HF0.out hP0 hF1
    clear HK0
    go_enter Try.func65, Try.ntmps65
    go_wp2_with (fail)
    rw [← hW]
    clear hW
    refine (HID.out W true HDD.out).mono ?_
    rintro e w1 ⟨rfl, hw1⟩
    subst w1
    go_wp2_with (fail)
    refine HFI.out.mono ?_
    rintro e w1 ⟨rfl, hw1⟩
    subst w1
    go_wp2_with (fail)
    refine HFP.out.mono ?_
    rintro e w1 ⟨rfl, hw1⟩
    subst w1
    go_wp2
    go_returns
    exact ⟨by rw [HR.out]; rfl, HW.out.1⟩
  have HK : Hid (((25 < wn ∨ st < (dn : Int)) → K = 2) ∧ (¬ (25 < wn ∨ st < (dn : Int)) → K = frm (dnK dd) 0 (dn - 0))) := HK0.out.2.2.2 HIR.out HF0.out (Or.inr (by omega))
  clear HK0
  by_cases h3 : 25 < (wn : Int)
  · have HR : Hid (K = 2) := HK.out.1 (Or.inl (by omega))
    clear HK
    go_enter Try.func65, Try.ntmps65
    go_wp2_with (fail)
    rw [← hW]
    clear hW
    refine (HID.out W true HDD.out).mono ?_
    rintro e w1 ⟨rfl, hw1⟩
    subst w1
    go_wp2_with (fail)
    refine HFI.out.mono ?_
    rintro e w1 ⟨rfl, hw1⟩
    subst w1
    go_wp2_with (fail)
    refine HFP.out.mono ?_
    rintro e w1 ⟨rfl, hw1⟩
    subst w1
    go_wp2
    go_returns
    exact ⟨by rw [HR.out]; rfl, HW.out.1⟩
  by_cases h4 : st < (dn : Int)
  · have HR : Hid (K = 2) := HK.out.1 (Or.inr h4)
    clear HK
    go_enter Try.func65, Try.ntmps65
    go_wp2_with (fail)
    rw [← hW]
    clear hW
    refine (HID.out W true HDD.out).mono ?_
    rintro e w1 ⟨rfl, hw1⟩
    subst w1
    go_wp2_with (fail)
    refine HFI.out.mono ?_
    rintro e w1 ⟨rfl, hw1⟩
    subst w1
    go_wp2_with (fail)
    refine HFP.out.mono ?_
    rintro e w1 ⟨rfl, hw1⟩
    subst w1
    go_wp2
    go_returns
    exact ⟨by rw [HR.out]; rfl, HW.out.1⟩
  have HF : Hid (K = frm (dnK dd) 0 (dn - 0)) := HK.out.2 (by omega)
  clear HK
  go_enter Try.func65, Try.ntmps65
  go_wp2_with (fail)
  rw [← hW]
  clear hW
  refine (HID.out W true HDD.out).mono ?_
  rintro e w1 ⟨rfl, hw1⟩
  subst w1
  go_wp2_with (fail)
  refine HFI.out.mono ?_
  rintro e w1 ⟨rfl, hw1⟩
  subst w1
  go_wp2_with (fail)
  refine HFP.out.mono ?_
  rintro e w1 ⟨rfl, hw1⟩
  subst w1
  go_wp2
  go_loopw [6] (fun i wr => ∃ j : Nat, j ≤ dn ∧ i = .int .i64 j ∧ Hid (frm (dnK dd) j (dn - j) = K ∧ Below W.heap.size W wr)) (fun i _ => dn - (intOf i).toNat)
  case atStart => exact ⟨0, Nat.zero_le _, rfl, HF.out.symm, Below.refl _ _⟩
  case round =>
    clear HF HID p0 p2 q0 q1 q2 q4 ql pl
    obtain ⟨j, hjn, rfl, hR⟩ := hrel
    have HBW : Hid (Below w.heap.size w wr) := HW.out.1.trans (hR.out.2.mono HW.out.1.size)
    have q4 := cellOfQ ((hR.out.2.block _ (ltOfQ HW.out.2.2)).trans HW.out.2.2) 4 rfl
    have ql := ltOfQ ((hR.out.2.block _ (ltOfQ HW.out.2.2)).trans HW.out.2.2)
    by_cases hlt : j < dn
    · obtain ⟨g, o, rfl, hg, hc⟩ := rd_at (H.out.below HBW.out) hlt
      obtain ⟨y, hy⟩ : ∃ y, y = dd.getD j 0 := ⟨_, rfl⟩
      rw [← hy] at hc
      have hstep : Hid ((¬ (0 ≤ y ∧ y ≤ 1000000000) → 3 = K) ∧ ((0 ≤ y ∧ y ≤ 1000000000) → (0 < j ∧ y < dd.getD (j - 1) 0) → 1 = K) ∧ ((0 ≤ y ∧ y ≤ 1000000000) → ¬ (0 < j ∧ y < dd.getD (j - 1) 0) → frm (dnK dd) (j + 1) (dn - (j + 1)) = K)) := by
        have e : dnK dd j = if 0 ≤ y ∧ y ≤ 1000000000 then (if 0 < j ∧ y < dd.getD (j - 1) 0 then 1 else 0) else 3 := by rw [hy]; rfl
        refine ⟨fun h => ?_, fun h1 h2 => ?_, fun h1 h2 => ?_⟩
        · rw [if_neg h] at e; rw [← hR.out.1]; exact (frm_hit hlt e (by decide)).symm
        · rw [if_pos h1, if_pos h2] at e; rw [← hR.out.1]; exact (frm_hit hlt e (by decide)).symm
        · rw [if_pos h1, if_neg h2] at e; rw [← hR.out.1]; exact (frm_miss hlt e).symm
      have HB : Hid (Below W.heap.size W wr) := hR.out.2
      clear hy hR
      have b0 : (0 : Int) ≤ (j : Int) := by omega
      have b1 : (j : Int) < (dn : Int) := by omega
      by_cases h5 : 0 ≤ y ∧ y ≤ 1000000000
      · have HD : Hid (true = decide (0 ≤ y ∧ y ≤ 1000000000)) := by unfold Hid; rw [decide_eq_true h5]
        rcases Nat.eq_zero_or_pos j with h0 | h0
        · have HN : Hid (frm (dnK dd) (j + 1) (dn - (j + 1)) = K) := hstep.out.2.2 h5 (by omega)
          have h6 : decide ((0 : Int) < (j : Int)) = false := decide_eq_false (by omega)
          have h6n : decide (0 < j) = false := decide_eq_false (by omega)
          clear hstep h5 h0
          go_wp2_with (fail)
          refine (HI.out y _ true HD.out).mono ?_
          rintro e w2 ⟨rfl, hw2⟩
          subst w2
          go_wp2_with (fail)
          (refine wp_region_und (by kernel_rfl) (by kernel_rfl) (fun hund => ?_); (repeat (go_big_quiet_step (fail))); with_reducible refine wpQuiet_nil ?_; clear hund; intro W1 hb1; obtain ⟨hc1, hf1⟩ := undcell hb1)
          have HX : Hid (Below W.heap.size W W1) := HB.out.trans (hb1.mono HB.out.size)
          clear hb1 hc1 hf1 hc q4 ql HBW HB
          go_wp2
          go_roundw
          case rel => exact ⟨j + 1, by omega, by go_num, HN.out, HX.out⟩
          case measure => simp [intOf]; omega
        · have h6 : (0 : Int) < (j : Int) := by omega
          obtain ⟨g', o', he', hg', hc'⟩ := rd_at (H.out.below HBW.out) (show j - 1 < dn by omega)
          injection he' with he'
          injection he' with he1 he2
          subst he1 he2
          obtain ⟨z, hz⟩ : ∃ y, y = dd.getD (j - 1) 0 := ⟨_, rfl⟩
          rw [← hz] at hc' hstep
          have hix : ((j : Int) - 1).toNat = j - 1 := by omega
          have b2 : (0 : Int) ≤ (j : Int) - 1 := by omega
          have b3 : (j : Int) - 1 < (dn : Int) := by omega
          by_cases h7 : y < z
          · have HN : Hid (1 = K) := hstep.out.2.1 h5 ⟨h0, h7⟩
            clear hstep h5 hz
            go_wp2_with (fail)
            refine (HI.out y _ true HD.out).mono ?_
            rintro e w2 ⟨rfl, hw2⟩
            subst w2
            go_wp2_with (fail)
            (refine wp_region_und (by kernel_rfl) (by kernel_rfl) (fun hund => ?_); (repeat (go_big_quiet_step (fail))); with_reducible refine wpQuiet_nil ?_; clear hund; intro W1 hb1; obtain ⟨hc1, hf1⟩ := undcell hb1)
            have HX : Hid (Below w.heap.size w W1) := HBW.out.trans (hb1.mono HBW.out.size)
            clear hb1 hc1 hf1 hc hc' q4 ql HBW HB
            go_wp2
            go_returns
            exact ⟨by rw [← HN.out]; rfl, HX.out⟩
          · have HN : Hid (frm (dnK dd) (j + 1) (dn - (j + 1)) = K) := hstep.out.2.2 h5 (by omega)
            clear hstep h5 hz
            go_wp2_with (fail)
            refine (HI.out y _ true HD.out).mono ?_
            rintro e w2 ⟨rfl, hw2⟩
            subst w2
            go_wp2_with (fail)
            (refine wp_region_und (by kernel_rfl) (by kernel_rfl) (fun hund => ?_); (repeat (go_big_quiet_step (fail))); with_reducible refine wpQuiet_nil ?_; clear hund; intro W1 hb1; obtain ⟨hc1, hf1⟩ := undcell hb1)
            have HX : Hid (Below W.heap.size W W1) := HB.out.trans (hb1.mono HB.out.size)
            clear hb1 hc1 hf1 hc hc' q4 ql HBW HB
            go_wp2
            go_roundw
            case rel => exact ⟨j + 1, by omega, by go_num, HN.out, HX.out⟩
            case measure => simp [intOf]; omega
      · have HD : Hid (false = decide (0 ≤ y ∧ y ≤ 1000000000)) := by unfold Hid; rw [decide_eq_false h5]
        have HN : Hid (3 = K) := hstep.out.1 h5
        clear hstep h5
        go_wp2_with (fail)
        refine (HI.out y _ false HD.out).mono ?_
        rintro e w2 ⟨rfl, hw2⟩
        subst w2
        go_wp2
        go_returns
        exact ⟨by rw [← HN.out]; rfl, HBW.out⟩
    · obtain rfl : j = dn := by omega
      have HN : Hid (0 = K) := by have e := hR.out.1; rw [frm_end] at e; exact e
      clear hR
      go_wp2
      go_returns
      exact ⟨by rw [← HN.out]; rfl, HBW.out⟩

end Go.Proofs.Ytcfjanignfbidaa
