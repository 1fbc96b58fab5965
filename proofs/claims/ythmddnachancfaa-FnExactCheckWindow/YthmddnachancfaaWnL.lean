/- Proved here: LargestWindow of the program. -/
import Derived.Test.YthmddnachancfaaWnG
import Derived.Test.YthmddnachancfaaWnR
import Derived.Test.YthmddnachancfaaWnP
namespace Go.Proofs.Ythmddnachancfaa
open Go.RowKit
set_option linter.unusedVariables false
set_option linter.unusedSimpArgs false

/-- Where the looking for the greatest window stands. -/
structure LWS (w wr : World) (KD KB : Nat) (rd : Array Value) (b : Wnd) : Prop where
  r : wr.heap[w.heap.size]? = some (.cells #[.int .i64 0, .int .i64 0, .int .i64 0, .int .i64 0, .int .i64 0, .int .i64 0] 36)
  d : wr.heap[KD]? = some (.cells rd 58)
  b : wr.heap[KB]? = some (.cells #[.int .i64 0, .int .i64 b.a, .int .i64 b.x0, .int .i64 b.y0, .int .i64 b.x1, .int .i64 b.y1] 36)
  bl : Below w.heap.size w wr
  o : w.heap.size < KD ∧ KD < KB
theorem LWS.next {w wr wr' : World} {KD KB : Nat} {rd : Array Value} {b : Wnd} (h : LWS w wr KD KB rd b) (hb : Below wr.heap.size wr wr') : LWS w wr' KD KB rd b :=
  ⟨(hb.block _ (ltOf h.r)).trans h.r, (hb.block _ (ltOf h.d)).trans h.d, (hb.block _ (ltOf h.b)).trans h.b, h.bl.trans (hb.mono h.bl.size), h.o⟩
theorem LWS.put {w wr : World} {KD KB : Nat} {rd : Array Value} {b : Wnd} (h : LWS w wr KD KB rd b) (c : Wnd) : LWS w ((((((wr.setCell ⟨KB, 0, none⟩ (.int .i64 0)).setCell ⟨KB, 1, none⟩ (.int .i64 c.a)).setCell ⟨KB, 2, none⟩ (.int .i64 c.x0)).setCell ⟨KB, 3, none⟩ (.int .i64 c.y0)).setCell ⟨KB, 4, none⟩ (.int .i64 c.x1)).setCell ⟨KB, 5, none⟩ (.int .i64 c.y1)) KD KB rd c := by
  have ho := h.o
  have o : ∀ k, k ≠ KB → ((((((wr.setCell ⟨KB, 0, none⟩ (.int .i64 0)).setCell ⟨KB, 1, none⟩ (.int .i64 c.a)).setCell ⟨KB, 2, none⟩ (.int .i64 c.x0)).setCell ⟨KB, 3, none⟩ (.int .i64 c.y0)).setCell ⟨KB, 4, none⟩ (.int .i64 c.x1)).setCell ⟨KB, 5, none⟩ (.int .i64 c.y1)).heap[k]? = wr.heap[k]? := fun k hk => by
    repeat rw [heap_setCell_other _ _ _ _ (show k ≠ _ from hk)]
  refine ⟨(o _ (by omega)).trans h.r, (o _ (by omega)).trans h.d, st_same6 h.b, ?_, h.o⟩
  have hb := h.bl
  have hk : w.heap.size ≤ KB := by omega
  (repeat' (first | (with_reducible exact Below.refl _ _) | (with_reducible assumption) | (with_reducible refine Below.setCell ?_ ?_ _) | (with_reducible refine Below.alloc ?_ ?_ _) | (with_reducible refine below_drewN ?_ _) | (with_reducible refine Below.drew ?_) | (with_reducible exact Nat.le_refl _) | omega | (simp; done) | (simp; omega)))

def wR (C : Int) (b : Wnd) : Value := .agg #[.int .i64 C, .int .i64 b.a, .int .i64 b.x0, .int .i64 b.y0, .int .i64 b.x1, .int .i64 b.y1]

set_option maxRecDepth 10000 in
set_option maxHeartbeats 25600000 in
theorem impl_lw {w : World} {v : Value} {ls : List (List Int)} (hn : SmR ls) (h : RdR w v ls) :
    Calls Try.prog 21 #[v] w fun e w' => e = .returned (.agg #[.int .i64 (lwC ls), .int .i64 (lwW ls).a, .int .i64 (lwW ls).x0, .int .i64 (lwW ls).y0, .int .i64 (lwW ls).x1, .int .i64 (lwW ls).y1]) ∧ Below w.heap.size w w' := by
  obtain ⟨a, c, rfl⟩ := h.form
  obtain ⟨n, hnn⟩ : ∃ n, n = ls.length := ⟨_, rfl⟩
  obtain ⟨C, hC⟩ : ∃ C, C = pmC ls := ⟨_, rfl⟩
  obtain ⟨D, hD⟩ : ∃ C, C = lwC ls := ⟨_, rfl⟩
  obtain ⟨E, hE⟩ : ∃ C, C = lwW ls := ⟨_, rfl⟩
  rw [← hD, ← hE]
  have HDE : Hid (D = (if C = 0 then (if (lwB ls).a = 0 then 4 else 0) else C) ∧ E = if D = 0 then lwB ls else wz) := ⟨by rw [hD, hC]; rfl, by rw [hE, hD]; rfl⟩
  rw [← hnn] at h ⊢
  have hn' : n ≤ 1048576 := by rw [hnn]; exact hn.len
  have HF : Hid (∀ W, Below w.heap.size w W → Calls Try.prog 46 #[.slice a n c] W fun e w' => e = .returned (.int .i64 C) ∧ w' = W) := fun W hW => by rw [hC]; exact impl_pm hn (h.below hW)
  have H : Hid (RdR w (.slice a n c) ls ∧ n = ls.length ∧ C = pmC ls) := ⟨h, hnn, hC⟩
  clear h hn hC hnn hD hE
  go_enter Try.func21, Try.ntmps21
  go_wp2_with (fail)
  refine (HF.out _ (by (repeat' (first | (with_reducible exact Below.refl _ _) | (with_reducible assumption) | (with_reducible refine Below.setCell ?_ ?_ _) | (with_reducible refine Below.alloc ?_ ?_ _) | (with_reducible refine below_drewN ?_ _) | (with_reducible refine Below.drew ?_) | (with_reducible exact Nat.le_refl _) | omega | (simp; done) | (simp; omega))))).mono ?_
  rintro e w1 ⟨rfl, hw⟩
  subst hw
  clear HF
  by_cases hA0 : C = 0
  case neg =>
    have HV : Hid (D = C ∧ E = wz) := by
      have := HDE.out; rw [if_neg hA0] at this; refine ⟨this.1, ?_⟩; rw [this.2, if_neg (by rw [this.1]; exact hA0)]
    have hA1 : (C != 0) = true := by simpa using hA0
    go_wp2
    go_returns
    exact ⟨by rw [HV.out.1, HV.out.2]; rfl, by (repeat' (first | (with_reducible exact Below.refl _ _) | (with_reducible assumption) | (with_reducible refine Below.setCell ?_ ?_ _) | (with_reducible refine Below.alloc ?_ ?_ _) | (with_reducible refine below_drewN ?_ _) | (with_reducible refine Below.drew ?_) | (with_reducible exact Nat.le_refl _) | omega | (simp; done) | (simp; omega)))⟩
  have hG := pmC_good (H.out.2.2.symm.trans hA0)
  obtain ⟨wd, hwd⟩ : ∃ n, n = (ls.getD 0 []).length := ⟨_, rfl⟩
  have hn16 : n ≤ 16 := by rw [H.out.2.1]; exact hG.h1
  have hn0 : 0 < n := by rw [H.out.2.1]; exact hG.h0
  have hw16 : wd ≤ 16 := by rw [hwd]; exact hG.w1
  have hw0 : 0 < wd := by rw [hwd]; exact hG.w0
  obtain ⟨P, hP⟩ : ∃ P, P = oneP ls := ⟨_, rfl⟩
  have HV : Hid (D = (if (alN P n wd n).a = 0 then 4 else 0) ∧ E = if D = 0 then alN P n wd n else wz) := by
    have := HDE.out; rw [if_pos hA0] at this
    have e : lwB ls = alN P n wd n := by unfold lwB; rw [hP, H.out.2.1, hwd]
    rw [e] at this; exact this
  clear HDE
  obtain ⟨g, o, ua, un, uc, rfl, hg, c0, hun, hrd⟩ := H.out.1.at hn0
  clear hg c0 hun hrd ua un uc
  have HEND : Hid (∀ V, Below w.heap.size w V → Calls Try.prog 40 #[.agg #[.slice (some ⟨g, o, none⟩) n c, .slice none 0 0, .int .i64 0, .int .i64 0]] V fun e w' => e = .returned (.agg #[.int .i64 wd, .int .i64 n]) ∧ Below V.heap.size V w') := fun V hV => by
    rw [hwd]; exact impl_end hn0 (by omega) (H.out.1.below hV)
  have HFROM : Hid (∀ V (x y : Nat), Below w.heap.size w V → x < wd → y < n → Calls Try.prog 49 #[.agg #[.int .i64 x, .int .i64 y], .agg #[.int .i64 wd, .int .i64 n], .func (.func 50) #[.agg #[.slice (some ⟨g, o, none⟩) n c, .slice none 0 0, .int .i64 0, .int .i64 0]] #[]] V fun e w' => e = .returned (.agg #[.int .i64 0, .int .i64 (lfN P wd y x (n - y) wz).a, .int .i64 (lfN P wd y x (n - y) wz).x0, .int .i64 (lfN P wd y x (n - y) wz).y0, .int .i64 (lfN P wd y x (n - y) wz).x1, .int .i64 (lfN P wd y x (n - y) wz).y1]) ∧ Below V.heap.size V w') := fun V x y hV hx hy => by
    have := kd_one (oa := none) (on := 0) (oc := 0) (lo := 0) (hi := 0) hG (H.out.1.below hV)
    rw [← hwd, ← hP] at this
    exact impl_from x y hy hx hn16 hw16 this
  have HG : Hid (RdR w (.slice (some ⟨g, o, none⟩) n c) ls ∧ Sh n wd ls) := ⟨H.out.1, by have := hG.sh; rw [← H.out.2.1, ← hwd] at this; exact this⟩
  clear hG hwd hP H
  subst hA0
  go_upto_region 6 with fail
  obtain ⟨V, hV⟩ : ∃ V, V = ((w.alloc (.cells #[.int .i64 0, .int .i64 0, .int .i64 0, .int .i64 0, .int .i64 0, .int .i64 0] 36)).alloc (.cells #[.slice (some ⟨g, o, none⟩) n c, .slice none 0 0, .int .i64 0, .int .i64 0] 58)).alloc (.cells #[.int .i64 0, .int .i64 0, .int .i64 0, .int .i64 0, .int .i64 0, .int .i64 0] 36) := ⟨_, rfl⟩
  rw [← hV]
  obtain ⟨k0, k1, k2, hb, hs⟩ := al3 hV
  obtain ⟨KD, hKD⟩ : ∃ K, K = w.heap.size + 1 := ⟨_, rfl⟩
  rw [← hKD] at k1 k2 ⊢
  obtain ⟨KB, hKB⟩ : ∃ K, K = KD + 1 := ⟨_, rfl⟩
  rw [← hKB] at k2 ⊢
  have HS : Hid (LWS w V KD KB #[.slice (some ⟨g, o, none⟩) n c, .slice none 0 0, .int .i64 0, .int .i64 0] (alN P n wd 0)) := ⟨k0, k1, k2, hb, by omega⟩
  clear hV hKD hKB k0 k1 k2 hb hs
  go_wp2
  go_loopw [21] (fun i wr => ∃ (k : Nat), k ≤ n ∧ i = .int .i64 k ∧ Hid (LWS w wr KD KB #[.slice (some ⟨g, o, none⟩) n c, .slice none 0 0, .int .i64 0, .int .i64 0] (alN P n wd k))) (fun i _ => n - (intOf i).toNat)
  case atStart => exact ⟨0, Nat.zero_le _, rfl, HS.out⟩
  case round =>
    clear HS
    obtain ⟨k, hk, rfl, hR⟩ := hrel
    by_cases hlt : k < n
    · obtain ⟨g', o', ra, rn, rc, he, hg, c0, hrn, hrd⟩ := (HG.out.1.below hR.out.bl).at hlt
      injection he with he
      injection he with he1 he2
      subst he1 he2
      rw [HG.out.2.wd k hlt] at hrn
      subst hrn
      clear hrd
      have b0 : (0 : Int) ≤ (k : Int) := by omega
      have b1 : (k : Int) < (n : Int) := by omega
      have HR : Hid (LWS w wr KD KB #[.slice (some ⟨g, o, none⟩) n c, .slice none 0 0, .int .i64 0, .int .i64 0] (rwN P n rn k 0 (alN P n rn k))) := hR.out
      clear hR
      go_wp2
      clear c0 hg
      go_loopw [28] (fun i wr => ∃ (q : Nat), q ≤ rn ∧ i = .int .i64 q ∧ Hid (LWS w wr KD KB #[.slice (some ⟨g, o, none⟩) n c, .slice none 0 0, .int .i64 0, .int .i64 0] (rwN P n rn k q (alN P n rn k)))) (fun i _ => rn - (intOf i).toNat)
      case atStart => exact ⟨0, Nat.zero_le _, rfl, HR.out⟩
      case round =>
        clear HR
        obtain ⟨q, hq, rfl, hR⟩ := hrel
        by_cases hlt2 : q < rn
        · obtain ⟨b, hb⟩ : ∃ b, b = rwN P n rn k q (alN P n rn k) := ⟨_, rfl⟩
          obtain ⟨L, hL⟩ : ∃ L, L = lfN P rn k q (n - k) wz := ⟨_, rfl⟩
          have HN : Hid (rwN P n rn k (q + 1) (alN P n rn k) = btr b L) := by unfold Hid; rw [rwN, hb, hL]
          have HR : Hid (LWS w wr KD KB #[.slice (some ⟨g, o, none⟩) n c, .slice none 0 0, .int .i64 0, .int .i64 0] b) := by rw [hb]; exact hR.out
          have HFR : Hid (∀ V, Below w.heap.size w V → Calls Try.prog 49 #[.agg #[.int .i64 q, .int .i64 k], .agg #[.int .i64 rn, .int .i64 n], .func (.func 50) #[.agg #[.slice (some ⟨g, o, none⟩) n c, .slice none 0 0, .int .i64 0, .int .i64 0]] #[]] V fun e w' => e = .returned (.agg #[.int .i64 0, .int .i64 L.a, .int .i64 L.x0, .int .i64 L.y0, .int .i64 L.x1, .int .i64 L.y1]) ∧ Below V.heap.size V w') := fun V hV => by rw [hL]; exact HFROM.out V q k hV hlt2 hlt
          clear hR hb hL
          obtain ⟨e0, e1, e2, e3, el⟩ := four_of HR.out.d
          have hBw := HR.out.bl
          have b2 : (q : Int) < (rn : Int) := by omega
          go_wp2_with (fail)
          refine wp_region_float (by kernel_rfl) (fun hS => ?_)
          refine fl_take (i := 0) (d := 31) (v := .int .i64 q) rfl rfl rfl (by kernel_rfl) (by kernel_rfl) (by kernel_rfl) hS ?_ ?_
          · intro w' hk; go_simp
          simp only [Act.put, List.setIfInBounds_toArray, List.set_cons_zero, List.set_cons_succ]
          refine fl_take (i := 1) (d := 32) (v := .int .i64 k) rfl rfl rfl (by kernel_rfl) (by kernel_rfl) (by kernel_rfl) hS ?_ ?_
          · intro w' hk; go_simp
          simp only [Act.put, List.setIfInBounds_toArray, List.set_cons_zero, List.set_cons_succ]
          refine fl_take (i := 2) (d := 33) (v := .agg #[.int .i64 q, .int .i64 k]) rfl rfl rfl (by kernel_rfl) (by kernel_rfl) (by kernel_rfl) hS ?_ ?_
          · intro w' hk; go_simp
          simp only [Act.put, List.setIfInBounds_toArray, List.set_cons_zero, List.set_cons_succ]
          refine fl_take (i := 3) (d := 34) (v := .agg #[.slice (some ⟨g, o, none⟩) n c, .slice none 0 0, .int .i64 0, .int .i64 0]) rfl rfl rfl (by kernel_rfl) (by kernel_rfl) (by kernel_rfl) hS ?_ ?_
          · intro w' hk; go_simp
          simp only [Act.put, List.setIfInBounds_toArray, List.set_cons_zero, List.set_cons_succ]
          refine fl_take (i := 5) (d := 36) (v := .agg #[.slice (some ⟨g, o, none⟩) n c, .slice none 0 0, .int .i64 0, .int .i64 0]) rfl rfl rfl (by kernel_rfl) (by kernel_rfl) (by kernel_rfl) hS ?_ ?_
          · intro w' hk; go_simp
          simp only [Act.put, List.setIfInBounds_toArray, List.set_cons_zero, List.set_cons_succ]
          refine fl_take (i := 6) (d := 37) (v := .func (.func 50) #[.agg #[.slice (some ⟨g, o, none⟩) n c, .slice none 0 0, .int .i64 0, .int .i64 0]] #[]) rfl rfl rfl (by kernel_rfl) (by kernel_rfl) (by kernel_rfl) hS ?_ ?_
          · intro w' hk; go_simp
          simp only [Act.put, List.setIfInBounds_toArray, List.set_cons_zero, List.set_cons_succ]
          refine float_pend (z := #[.int .i64 0, .int .i64 0, .int .i64 0, .int .i64 0, .int .i64 0, .int .i64 0]) (T := 36) (ja := 8) (js := 9) rfl rfl rfl rfl rfl (fun a w => by go_simp) [4, 7] _ _ _ (fun _ => False) (by kernel_rfl) (by kernel_rfl) ?_ (Nat.le_refl _) (fun _ h => h.elim) hS
          intro y0 hW0
          have hB0 : Below wr.heap.size wr y0 := hS.2.trans (hW0.mono hS.2.size)
          refine ⟨_, 35, _, _, rfl, rfl, by go_simp, (HEND.out y0 (hBw.trans (hB0.mono hBw.size))).mono ?_⟩
          rintro e q0 ⟨rfl, hb0⟩
          have hC0 : Below wr.heap.size wr q0 := hB0.trans (hb0.mono hB0.size)
          refine ⟨_, rfl, hb0, ?_⟩
          simp only [Act.put, List.setIfInBounds_toArray, List.set_cons_zero, List.set_cons_succ]
          intro y1 hW1
          have hB1 : Below wr.heap.size wr y1 := hC0.trans (hW1.mono hC0.size)
          refine ⟨_, 38, _, _, rfl, rfl, by go_simp, (HFR.out y1 (hBw.trans (hB1.mono hBw.size))).mono ?_⟩
          rintro e ye ⟨rfl, hbq⟩
          refine ⟨_, rfl, hbq, ?_⟩
          simp only [Act.put, List.setIfInBounds_toArray, List.set_cons_zero, List.set_cons_succ]
          unfold Fl
          refine after_store ?_ _ _ _ #[.int .i64 0, .int .i64 L.a, .int .i64 L.x0, .int .i64 L.y0, .int .i64 L.x1, .int .i64 L.y1] (by rfl) (by rfl) (fun _ => by rfl) (fun _ => by rfl) (by simp) (by kernel_rfl) (by simp [Value.oneCell']) ?_
          · exact Nat.le_refl _
          intro K V5 hK hk1 hk2 hF hoth hsz hcell
          simp only [Act.put, List.setIfInBounds_toArray, List.set_cons_zero, List.set_cons_succ]
          refine NoPanic.normal ?_
          have H5 : Hid (LWS w V5 KD KB #[.slice (some ⟨g, o, none⟩) n c, .slice none 0 0, .int .i64 0, .int .i64 0] b) := HR.out.next hK.2
          have t0 : V5.cell? ⟨K, 0, none⟩ = some (.int .i64 0) := hcell 0 _ rfl
          have t1 : V5.cell? ⟨K, 1, none⟩ = some (.int .i64 L.a) := hcell 1 _ rfl
          have t2 : V5.cell? ⟨K, 2, none⟩ = some (.int .i64 L.x0) := hcell 2 _ rfl
          have t3 : V5.cell? ⟨K, 3, none⟩ = some (.int .i64 L.y0) := hcell 3 _ rfl
          have t4 : V5.cell? ⟨K, 4, none⟩ = some (.int .i64 L.x1) := hcell 4 _ rfl
          have t5 : V5.cell? ⟨K, 5, none⟩ = some (.int .i64 L.y1) := hcell 5 _ rfl
          clear hS hW0 hB0 hb0 hC0 hW1 hB1 hbq hK hk1 hF hoth hsz hcell HFR HR e0 e1 e2 e3 el hBw
          obtain ⟨d0, d1, d2, d3, d4, d5, df, dl⟩ := six_of H5.out.b
          have f0 := df 0
          have f1 := df 1
          have f2 := df 2
          have f3 := df 3
          have f4 := df 4
          have f5 := df 5
          clear df
          by_cases hgt : b.a < L.a
          · have HP : Hid (LWS w ((((((V5.setCell ⟨KB, 0, none⟩ (.int .i64 0)).setCell ⟨KB, 1, none⟩ (.int .i64 L.a)).setCell ⟨KB, 2, none⟩ (.int .i64 L.x0)).setCell ⟨KB, 3, none⟩ (.int .i64 L.y0)).setCell ⟨KB, 4, none⟩ (.int .i64 L.x1)).setCell ⟨KB, 5, none⟩ (.int .i64 L.y1)) KD KB #[.slice (some ⟨g, o, none⟩) n c, .slice none 0 0, .int .i64 0, .int .i64 0] (rwN P n rn k (q + 1) (alN P n rn k))) := by
              unfold Hid
              rw [HN.out, btr, if_pos hgt]
              exact H5.out.put L
            clear H5 HN
            go_wp2
            go_roundw
            case rel => exact ⟨q + 1, by omega, by go_num, HP.out⟩
            case measure => simp [intOf]; omega
          · have HP : Hid (LWS w V5 KD KB #[.slice (some ⟨g, o, none⟩) n c, .slice none 0 0, .int .i64 0, .int .i64 0] (rwN P n rn k (q + 1) (alN P n rn k))) := by
              unfold Hid
              rw [HN.out, btr, if_neg hgt]
              exact H5.out
            clear H5 HN
            go_wp2
            go_roundw
            case rel => exact ⟨q + 1, by omega, by go_num, HP.out⟩
            case measure => simp [intOf]; omega
        · have HP : Hid (LWS w wr KD KB #[.slice (some ⟨g, o, none⟩) n c, .slice none 0 0, .int .i64 0, .int .i64 0] (alN P n rn (k + 1))) := by
            have h := hR.out
            rw [show q = rn by omega] at h
            exact h
          clear hR
          go_wp2
          go_roundw
          case rel => exact ⟨k + 1, by omega, by go_num, HP.out⟩
          case measure => simp [intOf]; omega
    · obtain ⟨b, hb⟩ : ∃ b, b = alN P n wd n := ⟨_, rfl⟩
      have HF : Hid (LWS w wr KD KB #[.slice (some ⟨g, o, none⟩) n c, .slice none 0 0, .int .i64 0, .int .i64 0] b ∧ D = (if b.a = 0 then 4 else 0) ∧ E = if D = 0 then b else wz) := by
        rw [hb]; refine ⟨?_, HV.out⟩; rw [show k = n by omega] at hR; exact hR.out
      clear hR HV hb
      obtain ⟨d0, d1, d2, d3, d4, d5, df, dl⟩ := six_of HF.out.1.b
      obtain ⟨r0, r1, r2, r3, r4, r5, rf, rl⟩ := six_of HF.out.1.r
      have f0 := rf 0
      have f1 := rf 1
      have f2 := rf 2
      have f3 := rf 3
      have f4 := rf 4
      have f5 := rf 5
      clear df rf
      by_cases hz : b.a = 0
      · have HZ : Hid (D = 4 ∧ E = wz) := by
          have := HF.out.2; rw [if_pos hz] at this; refine ⟨this.1, ?_⟩; rw [this.2, if_neg (by rw [this.1]; decide)]
        have hz1 : (b.a == 0) = true := by simpa using hz
        clear hz
        go_wp2
        try simp only [Exit.inBlock, Exit.then]
        refine bodyPost_ret (by simp [results, Try.results21, go_sem, r0, r1, r2, r3, r4, r5, rl]; try rfl) rfl ⟨by rw [HZ.out.1, HZ.out.2]; rfl, ?_⟩
        have hb := HF.out.1.bl
        (repeat' (first | (with_reducible exact Below.refl _ _) | (with_reducible assumption) | (with_reducible refine Below.setCell ?_ ?_ _) | (with_reducible refine Below.alloc ?_ ?_ _) | (with_reducible refine below_drewN ?_ _) | (with_reducible refine Below.drew ?_) | (with_reducible exact Nat.le_refl _) | omega | (simp; done) | (simp; omega)))
      · have HZ : Hid (D = 0 ∧ E = b) := by
          have := HF.out.2; rw [if_neg hz] at this; refine ⟨this.1, ?_⟩; rw [this.2, if_pos this.1]
        have hz1 : (b.a == 0) = false := by simpa using hz
        go_wp2
        try simp only [Exit.inBlock, Exit.then]
        refine bodyPost_ret (by simp [results, Try.results21, go_sem, r0, r1, r2, r3, r4, r5, rl]; try rfl) rfl ⟨by rw [HZ.out.1, HZ.out.2], ?_⟩
        have hb := HF.out.1.bl
        (repeat' (first | (with_reducible exact Below.refl _ _) | (with_reducible assumption) | (with_reducible refine Below.setCell ?_ ?_ _) | (with_reducible refine Below.alloc ?_ ?_ _) | (with_reducible refine below_drewN ?_ _) | (with_reducible refine Below.drew ?_) | (with_reducible exact Nat.le_refl _) | omega | (simp; done) | (simp; omega)))

end Go.Proofs.Ythmddnachancfaa
