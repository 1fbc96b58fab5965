/- Proved here: PolishTo of the model. -/
import Derived.Test.YtceljakmjddgbabMnS
import Derived.Maps.AppendAt
import Derived.Deep.AppendLies
namespace Go.Proofs.Ytceljakmjddgbab
open Go.RowKit
set_option linter.unusedVariables false
set_option linter.unusedSimpArgs false

set_option maxRecDepth 10000 in
set_option maxHeartbeats 25600000 in
theorem spec_polishTo {w : World} {v : Value} {s : List (List Flm)} (m : Int) (hn : SmF s) (h : RsC w v s) :
    Calls Try.prog 23 #[.agg #[v], .int .i64 m] w fun e w' => ∃ (vq : Value × Value) (vs : List Value), e = .returned (.agg #[.int .i64 (poC s m), vq.1, vq.2]) ∧ RoE w' w.heap.size vq.1 vq.2 (etL (poC s m) (fun i => poL (s.getD i []) m) s.length) (etG (poC s m) (fun i => poL (s.getD i []) m) s.length) vs ∧ Below w.heap.size w w' := by
  obtain ⟨a, c, rfl⟩ := h.form
  obtain ⟨n, hnn⟩ : ∃ n, n = s.length := ⟨_, rfl⟩
  obtain ⟨F, hF0⟩ : ∃ F, F = secF s := ⟨_, rfl⟩
  obtain ⟨C, hC⟩ : ∃ C, C = poC s m := ⟨_, rfl⟩
  obtain ⟨L, hL⟩ : ∃ L, L = etL C (fun i => poL (s.getD i []) m) n := ⟨_, rfl⟩
  obtain ⟨G, hG⟩ : ∃ G, G = etG C (fun i => poL (s.getD i []) m) n := ⟨_, rfl⟩
  rw [← hnn] at h ⊢
  rw [← hC, ← hL, ← hG]
  have HSF : Hid (∀ W, Below w.heap.size w W → Calls Try.prog 36 #[.agg #[.slice a n c]] W fun e w' => e = .returned (.int .i64 F) ∧ Below W.heap.size W w') := fun W hW => by rw [hF0]; exact spec_secF hn (h.rs.below hW)
  have H : Hid (RsC w (.slice a n c) s ∧ n = s.length ∧ F = secF s ∧ C = poC s m ∧ L = etL C (fun i => poL (s.getD i []) m) n ∧ G = etG C (fun i => poL (s.getD i []) m) n) := ⟨h, hnn, hF0, hC, hL, hG⟩
  have HBAD : Hid (∀ D, poC s m = D → D ≠ 0 → C = D ∧ ∀ W : World, RoE W w.heap.size (.slice none 0 0) (.slice none 0 0) L G []) := fun D hD hd => by
    have hc2 : C = D := by rw [hC, hD]
    refine ⟨hc2, fun W => ?_⟩
    rw [hL, hG, etL, etG, if_neg (by rw [hc2]; exact hd), if_neg (by rw [hc2]; exact hd)]
    exact ⟨RoF.nil _ _, World.ownsRow_nil _ _ _ _⟩
  clear h hnn hn hF0 hC hL hG
  go_enter Try.func23, Try.ntmps23
  go_wp2_with (fail)
  refine (HSF.out _ (by (repeat' (first | (with_reducible exact Below.refl _ _) | (with_reducible assumption) | (with_reducible refine Below.setCell ?_ ?_ _) | (with_reducible refine Below.alloc ?_ ?_ _) | (with_reducible refine below_drewN ?_ _) | (with_reducible refine Below.drew ?_) | (with_reducible exact Nat.le_refl _) | omega | (simp; done) | (simp; omega))))).mono ?_
  rintro e w1 ⟨rfl, hb1⟩
  have k0 := (hb1.block w.heap.size (by simp <;> omega)).trans ((Below.heap_alloc _ _ _ (by simp)).trans (heap_alloc_new w _))
  have k1 := (hb1.block (w.heap.size + 1) (by simp)).trans (kn_at1s w _ _)
  have hbw : Below w.heap.size w w1 := (show Below w.heap.size w _ from by (repeat' (first | (with_reducible exact Below.refl _ _) | (with_reducible assumption) | (with_reducible refine Below.setCell ?_ ?_ _) | (with_reducible refine Below.alloc ?_ ?_ _) | (with_reducible refine below_drewN ?_ _) | (with_reducible refine Below.drew ?_) | (with_reducible exact Nat.le_refl _) | omega | (simp; done) | (simp; omega)))).trans (hb1.mono (by simp; omega))
  have H1 : Hid (Below w.heap.size w w1 ∧ w1.heap[w.heap.size + 1]? = some (.cells #[.int .i64 0, .slice none 0 0, .slice none 0 0] 32) ∧ w1.heap[w.heap.size]? = some (.cells #[.slice a n c] 30)) := ⟨hbw, k1, k0⟩
  obtain ⟨a0, al⟩ := one_ofs k0
  obtain ⟨p0, p1, p2, f0, f1, f2, pl⟩ := three_s k1
  have HB0 : Hid (∀ D : Int, Below w.heap.size w (((w1.setCell ⟨w.heap.size + 1, 0, none⟩ (.int .i64 D)).setCell ⟨w.heap.size + 1, 1, none⟩ (.slice none 0 0)).setCell ⟨w.heap.size + 1, 2, none⟩ (.slice none 0 0))) := fun D => by
    have := H1.out.1; (repeat' (first | (with_reducible exact Below.refl _ _) | (with_reducible assumption) | (with_reducible refine Below.setCell ?_ ?_ _) | (with_reducible refine Below.alloc ?_ ?_ _) | (with_reducible refine below_drewN ?_ _) | (with_reducible refine Below.drew ?_) | (with_reducible exact Nat.le_refl _) | omega | (simp; done) | (simp; omega)))
  clear hb1 k0 k1 hbw HSF
  by_cases hF : F = 0
  case neg =>
    have HE : Hid _ := HBAD.out F (by rw [poC, ← H.out.2.2.1, if_neg hF]) hF
    have hF' : (F == 0) = false := by simpa using hF
    go_wp2
    refine bodyPost_ret (by simp [results, Try.results23, go_sem, p0, p1, p2, pl]; try rfl) rfl ?_
    first | exact ⟨(_, _), [], by rw [HE.out.1] <;> rfl, HE.out.2 _, HB0.out _⟩ | exact ⟨_, _, by rw [HE.out.1] <;> rfl, ⟨[], HE.out.2 _⟩, HB0.out _⟩
  have HF : Hid (secF s = 0) := H.out.2.2.1 ▸ hF
  subst hF
  go_wp2_with (fail)
  refine (spec_in10 m 0 100000 _).mono ?_
  rintro e w2 ⟨rfl, rfl⟩
  by_cases hm : 0 ≤ m ∧ m ≤ 100000
  case neg =>
    rw [decide_eq_false hm]
    have HE : Hid _ := HBAD.out 3 (by rw [poC, if_pos HF.out, if_neg hm]) (by decide)
    clear hm
    go_wp2
    refine bodyPost_ret (by simp [results, Try.results23, go_sem, p0, p1, p2, pl]; try rfl) rfl ?_
    first | exact ⟨(_, _), [], by rw [HE.out.1] <;> rfl, HE.out.2 _, HB0.out _⟩ | exact ⟨_, _, by rw [HE.out.1] <;> rfl, ⟨[], HE.out.2 _⟩, HB0.out _⟩
  rw [decide_eq_true hm]
  have HM : Hid (0 ≤ m ∧ m ≤ 100000) := hm
  have HC0 : Hid (C = 0) := by unfold Hid; rw [H.out.2.2.2.1, poC, if_pos HF.out, if_pos hm]
  have HGS : Hid (GS s) := secF_zero.1 HF.out
  clear hm HBAD HB0
  have hn16 : n ≤ 16 := by rw [H.out.2.1]; exact HGS.out.len
  obtain ⟨w1, hw1e⟩ : ∃ x, x = w2 := ⟨_, rfl⟩
  subst hw1e
  obtain ⟨i0, hi0, hz0, hz1, hz2⟩ := info_parts info_rowF
  clear p0 p1 p2 f0 f1 f2 pl
  obtain ⟨LL, hLL⟩ : ∃ LL, LL = aftS (fun i => poL (s.getD i []) m) s.length := ⟨_, rfl⟩
  have HLL : Hid (LL = aftS (fun i => poL (s.getD i []) m) s.length ∧ LL.length = n) := ⟨hLL, by rw [hLL, aftS_len, H.out.2.1]⟩
  clear hLL
  obtain ⟨K, hK⟩ : ∃ K, K = w1.heap.size := ⟨_, rfl⟩
  obtain ⟨w4, hw4⟩ : ∃ x, x = w1.alloc (.cells #[.slice none 0 0] 30) := ⟨_, rfl⟩
  have HS0 : Hid (∃ vs, PP w1 K none 0 0 LL vs w4) := by
    refine ⟨[], by rw [List.take_zero]; exact RoF.nil _ _, by rw [hw4, hK]; exact heap_alloc_new _ _, by rw [hw4]; (repeat' (first | (with_reducible exact Below.refl _ _) | (with_reducible assumption) | (with_reducible refine Below.setCell ?_ ?_ _) | (with_reducible refine Below.alloc ?_ ?_ _) | (with_reducible refine below_drewN ?_ _) | (with_reducible refine Below.drew ?_) | (with_reducible exact Nat.le_refl _) | omega | (simp; done) | (simp; omega))), by rw [hw4, hK]; simp, by omega⟩
  go_wp2
  rw [← hw4, ← hK]
  clear hw4 hK a0 al
  go_loopw [7] (fun i wr => ∃ j : Nat, j ≤ n ∧ i = .int .i64 j ∧ ∃ oa oc, Hid (∃ vs, PP w1 K oa j oc LL vs wr)) (fun i _ => n - (intOf i).toNat)
  case atStart => exact ⟨0, Nat.zero_le _, rfl, none, 0, HS0.out⟩
  case round =>
    clear HS0
    obtain ⟨j, hjn, rfl, oa, oc, hR⟩ := hrel
    obtain ⟨vs, hPP⟩ := hR.out
    obtain ⟨w2, hw2⟩ : ∃ x, x = wr := ⟨_, rfl⟩
    subst hw2
    have HPP : Hid (PP w1 K oa j oc LL vs w2) := hPP
    have s0 := cellOf ((hPP.bl.block _ (ltOf H1.out.2.2)).trans H1.out.2.2) 0 rfl
    have s1 := ltOf ((hPP.bl.block _ (ltOf H1.out.2.2)).trans H1.out.2.2)
    clear hR hPP
    by_cases hlt : j < n
    · obtain ⟨g, o, ua, un, uc, rfl, hg, c0, hun, hrd⟩ := H.out.1.rs.at hlt
      have hjs : j < s.length := by rw [← H.out.2.1]; exact hlt
      obtain ⟨col, hcol⟩ : ∃ x, x = s.getD j [] := ⟨_, rfl⟩
      have hgc := HGS.out.col j hjs
      rw [← hcol] at hgc hun hrd
      have hu24 : un ≤ 24 := by rw [hun]; exact hgc.len
      have HD : Hid (RG 2 flC w (.slice ua un uc) col ∧ un = col.length ∧ GC col ∧ col = s.getD j [] ∧ j < s.length) := ⟨hrd, hun, hgc, hcol, hjs⟩
      have HY : Hid (g < w.heap.size ∧ w.cell? ⟨g, o + j, none⟩ = some (.slice ua un uc)) := ⟨hg, c0⟩
      have HW2 : Hid (Below w.heap.size w w2) := H1.out.1.trans (HPP.out.bl.mono H1.out.1.size)
      clear hrd hun hgc hcol hjs hg c0
      have b0 : (0 : Int) ≤ (j : Int) := by omega
      have b1 : (j : Int) < (n : Int) := by omega
      go_wp2
      clear s0 s1
      obtain ⟨w3, hw3⟩ : ∃ x, x = w2.alloc (.cells #[] 76) := ⟨_, rfl⟩
      have hb3 : Below w2.heap.size w2 w3 := by rw [hw3]; (repeat' (first | (with_reducible exact Below.refl _ _) | (with_reducible assumption) | (with_reducible refine Below.setCell ?_ ?_ _) | (with_reducible refine Below.alloc ?_ ?_ _) | (with_reducible refine below_drewN ?_ _) | (with_reducible refine Below.drew ?_) | (with_reducible exact Nat.le_refl _) | omega | (simp; done) | (simp; omega)))
      have HI0 : Hid (OG 76 2 flC w3 w2.heap.size (.slice (some ⟨w2.heap.size, 0, none⟩) 0 0) (putA (poL col m) 0) ∧ Below w2.heap.size w2 w3) := by
        refine ⟨?_, hb3⟩
        rw [hw3]
        exact World.ownsRow_lit w2 #[] 0 (Nat.le_refl _) (by decide) (by simp)
      rw [← hw3]
      clear hw3 hb3
      go_loopw [8, 9, 10] (fun q r i wr => ∃ (k : Nat) (t : Int) (ca : Option Addr) (cn cp : Nat), k ≤ un ∧ i = .int .i64 k ∧ r = .int .i64 t ∧ q = .slice ca cn cp ∧ 0 ≤ t ∧ t ≤ 100000 ∧ Hid (t = topA col k ∧ OG 76 2 flC wr w2.heap.size (.slice ca cn cp) (putA (poL col m) k) ∧ Below w2.heap.size w2 wr)) (fun _ _ i _ => un - (intOf i).toNat)
      case atStart => exact ⟨0, 0, _, _, _, Nat.zero_le _, rfl, rfl, rfl, by omega, by omega, rfl, HI0.out⟩
      case round =>
        clear HI0
        obtain ⟨k, t, ca, cn, cp, hkn, rfl, rfl, rfl, ht0, ht1, hR⟩ := hrel
        have hbw : Below w.heap.size w wr := HW2.out.trans (hR.out.2.2.mono HW2.out.size)
        have hk0 := (hR.out.2.2.block _ (Nat.lt_of_lt_of_le (ltOf H1.out.2.2) HPP.out.bl.size)).trans ((HPP.out.bl.block _ (ltOf H1.out.2.2)).trans H1.out.2.2)
        have s0 := cellOf hk0 0 rfl
        have s1 := ltOf hk0
        have c0 : wr.cell? ⟨g, o + j, none⟩ = some (.slice ua un uc) := (hbw.cell (p := ⟨g, o + j, none⟩) HY.out.1).trans HY.out.2
        have hg : g < wr.heap.size := Nat.lt_of_lt_of_le HY.out.1 hbw.size
        by_cases hlt2 : k < un
        · obtain ⟨g2, o2, rfl, hg2, d0, d1⟩ := fl_at (HD.out.1.below hbw) hlt2
          have hkl : k < col.length := by rw [← HD.out.2.1]; exact hlt2
          obtain ⟨fm, hfm⟩ : ∃ x, x = (fat col k).m := ⟨_, rfl⟩
          obtain ⟨x, hx⟩ : ∃ x, x = (fat col k).t := ⟨_, rfl⟩
          rw [← hfm] at d0
          rw [← hx] at d1
          have HT1 : Hid (t + x = topA col (k + 1)) := by unfold Hid; rw [topA, ← hR.out.1, hx]
          have hx0 := (HD.out.2.2.1.t hkl).1
          rw [← hx] at hx0
          have hx1 := (HD.out.2.2.1.upto (show k + 1 ≤ col.length from hkl)).2
          rw [← HT1.out] at hx1
          have hmb := HM.out
          obtain ⟨mi, hmi⟩ : ∃ y : Int, y = if m - t < x then m - t else x := ⟨_, rfl⟩
          obtain ⟨ma, hma⟩ : ∃ y : Int, y = if mi > 0 then mi else 0 := ⟨_, rfl⟩
          have HLF : Hid (leftL (lat (poL col m) k) = ⟨fm, ma⟩) := by
            unfold Hid
            rw [poL_at m hkl, poF_left (by rw [← hx]; exact hx0), ← hx, ← hfm, ← hR.out.1, hma, hmi]
          have hmab : 0 ≤ ma ∧ ma ≤ 100000 := by
            rw [hma, hmi]
            split
            · split <;> omega
            · omega
          have HMI : Hid (∀ W, Calls Try.prog 55 #[.int .i64 x, .int .i64 (m - t)] W fun e w' => e = .returned (.int .i64 mi) ∧ w' = W) := fun W => by rw [hmi]; exact spec_mn x (m - t) W
          have HMA : Hid (∀ W, Calls Try.prog 54 #[.int .i64 0, .int .i64 mi] W fun e w' => e = .returned (.int .i64 ma) ∧ w' = W) := fun W => by rw [hma]; exact spec_mx 0 mi W
          have hok := (po_ly HGS.out m).ok j HD.out.2.2.2.2
          have hlen : (poL (s.getD j []) m).length = col.length := by rw [poL_len, HD.out.2.2.2.1]
          rw [← HD.out.2.2.2.1] at hok hlen
          have hpb := putA_bound (ls := poL col m) hok (show k ≤ (poL col m).length by rw [hlen]; omega)
          have hpl := putA_len (poL col m) k
          obtain ⟨V, hV⟩ : ∃ V, V = wr.alloc (.cells #[.int .i64 fm, .int .i64 x] 76) := ⟨_, rfl⟩
          have hbV : Below wr.heap.size wr V := by rw [hV]; (repeat' (first | (with_reducible exact Below.refl _ _) | (with_reducible assumption) | (with_reducible refine Below.setCell ?_ ?_ _) | (with_reducible refine Below.alloc ?_ ?_ _) | (with_reducible refine below_drewN ?_ _) | (with_reducible refine Below.drew ?_) | (with_reducible exact Nat.le_refl _) | omega | (simp; done) | (simp; omega)))
          have hkV : V.heap[wr.heap.size]? = some (.cells #[.int .i64 fm, .int .i64 x] 76) := by rw [hV]; exact heap_alloc_new _ _
          have hoV := hR.out.2.1.below hbV
          have hcl : ∀ q, (Value.slice ca cn cp).ownBlock = some q → q < wr.heap.size ∧ w2.heap.size ≤ q := fun q hq => ⟨(rowBlk hR.out.2.1 hq).2.1, (rowBlk hR.out.2.1 hq).1⟩
          have HPU : Hid (Calls Try.prog 53 #[.slice ca cn cp, .int .i64 fm, .int .i64 ma] V.drew fun e w' => ∃ v', e = .returned v' ∧ PF w2.heap.size V.drew w' (.slice ca cn cp) v' (putA (poL col m) (k + 1))) := by
            rw [putA, HLF.out]
            refine spec_put12 fm ma (Nat.le_trans hR.out.2.2.size hbV.size) (by omega) (by omega) (fun q hq => ?_) hoV
            have h4 := hpb.1 q hq
            have h5 := top_part hpb.1 hq
            have h6 := hpb.2
            omega
          have HV : Hid (V = wr.alloc (.cells #[.int .i64 fm, .int .i64 x] 76) ∧ Below w2.heap.size w2 V ∧ V.heap[wr.heap.size]? = some (.cells #[.int .i64 fm, .int .i64 x] 76)) := ⟨hV, hR.out.2.2.trans (hbV.mono hR.out.2.2.size), hkV⟩
          have HCL : Hid (∀ q, (Value.slice ca cn cp).ownBlock = some q → q < wr.heap.size ∧ w2.heap.size ≤ q) := hcl
          have hsub : IntKind.i64.wrap (m - t) = m - t := by rw [IntKind.wrap_i64]; omega
          clear hR hbw hk0 hfm hx hmi hma hmab hok hlen hpb hpl hbV hkV hoV hcl hV hkl hmb
          have b2 : (0 : Int) ≤ (k : Int) := by omega
          have b3 : (k : Int) < (un : Int) := by omega
          have b5 : (0 : Int) ≤ t + x := by omega
          go_wp2_with (fail)
          rw [← HV.out.1]
          clear s0 s1 c0 hg d0 d1 hg2
          refine wp_region_holdsA (S := fun w' => w'.heap[wr.heap.size]? = some (.cells #[.int .i64 fm, .int .i64 x] 76)) (by kernel_rfl) HV.out.2.2 (fun hS => ?_)
          refine fl_takeA (i := 0) (d := 49) (v := .slice ca cn cp) rfl rfl rfl (by kernel_rfl) (by kernel_rfl) (by kernel_rfl) hS ?_ ?_
          · intro w' hk; have x0 := cellOf hk 0 rfl; have x1 := cellOf hk 1 rfl; have x2 := ltOf hk; go_simp
          simp only [Act.put, List.setIfInBounds_toArray, List.set_cons_zero, List.set_cons_succ]
          refine fl_takeA (i := 1) (d := 50) (v := .pointer (some ⟨wr.heap.size, 0, none⟩)) rfl rfl rfl (by kernel_rfl) (by kernel_rfl) (by kernel_rfl) hS ?_ ?_
          · intro w' hk; have x0 := cellOf hk 0 rfl; have x1 := cellOf hk 1 rfl; have x2 := ltOf hk; go_simp
          simp only [Act.put, List.setIfInBounds_toArray, List.set_cons_zero, List.set_cons_succ]
          refine fl_takeA (i := 2) (d := 51) (v := .int .i64 fm) rfl rfl rfl (by kernel_rfl) (by kernel_rfl) (by kernel_rfl) hS ?_ ?_
          · intro w' hk; have x0 := cellOf hk 0 rfl; have x1 := cellOf hk 1 rfl; have x2 := ltOf hk; go_simp
          simp only [Act.put, List.setIfInBounds_toArray, List.set_cons_zero, List.set_cons_succ]
          refine fl_takeA (i := 3) (d := 52) (v := .pointer (some ⟨wr.heap.size, 1, none⟩)) rfl rfl rfl (by kernel_rfl) (by kernel_rfl) (by kernel_rfl) hS ?_ ?_
          · intro w' hk; have x0 := cellOf hk 0 rfl; have x1 := cellOf hk 1 rfl; have x2 := ltOf hk; go_simp
          simp only [Act.put, List.setIfInBounds_toArray, List.set_cons_zero, List.set_cons_succ]
          refine fl_takeA (i := 4) (d := 53) (v := .int .i64 x) rfl rfl rfl (by kernel_rfl) (by kernel_rfl) (by kernel_rfl) hS ?_ ?_
          · intro w' hk; have x0 := cellOf hk 0 rfl; have x1 := cellOf hk 1 rfl; have x2 := ltOf hk; go_simp
          simp only [Act.put, List.setIfInBounds_toArray, List.set_cons_zero, List.set_cons_succ]
          refine fl_takeA (i := 5) (d := 54) (v := .int .i64 m) rfl rfl rfl (by kernel_rfl) (by kernel_rfl) (by kernel_rfl) hS ?_ ?_
          · intro w' hk; have x0 := cellOf hk 0 rfl; have x1 := cellOf hk 1 rfl; have x2 := ltOf hk; go_simp
          simp only [Act.put, List.setIfInBounds_toArray, List.set_cons_zero, List.set_cons_succ]
          refine fl_takeA (i := 6) (d := 55) (v := .int .i64 t) rfl rfl rfl (by kernel_rfl) (by kernel_rfl) (by kernel_rfl) hS ?_ ?_
          · intro w' hk; have x0 := cellOf hk 0 rfl; have x1 := cellOf hk 1 rfl; have x2 := ltOf hk; go_simp
          simp only [Act.put, List.setIfInBounds_toArray, List.set_cons_zero, List.set_cons_succ]
          refine fl_takeA (i := 7) (d := 56) (v := .int .i64 (m - t)) rfl rfl rfl (by kernel_rfl) (by kernel_rfl) (by kernel_rfl) hS ?_ ?_
          · intro w' hk; have x0 := cellOf hk 0 rfl; have x1 := cellOf hk 1 rfl; have x2 := ltOf hk; go_simp; try rw [hsub]
          simp only [Act.put, List.setIfInBounds_toArray, List.set_cons_zero, List.set_cons_succ]
          refine wpAnyH_all (rs := [8]) (by kernel_rfl) (by simp) ?_
          intro i hi
          obtain rfl : i = 8 := by simpa using hi
          clear hi
          refine op_call (d := 57) rfl rfl rfl (by go_simp) ((HMI.out _).mono ?_)
          rintro e y1 ⟨rfl, rfl⟩
          refine ⟨_, rfl, hS, ?_⟩
          simp only [Act.put, List.setIfInBounds_toArray, List.set_cons_zero, List.set_cons_succ]
          refine wpAnyH_all (rs := [9]) (by kernel_rfl) (by simp) ?_
          intro i hi
          obtain rfl : i = 9 := by simpa using hi
          clear hi
          refine op_call (d := 58) rfl rfl rfl (by go_simp) ((HMA.out _).mono ?_)
          rintro e y1 ⟨rfl, rfl⟩
          refine ⟨_, rfl, hS, ?_⟩
          simp only [Act.put, List.setIfInBounds_toArray, List.set_cons_zero, List.set_cons_succ]
          refine wpAnyH_all (rs := [10]) (by kernel_rfl) (by simp) ?_
          intro i hi
          obtain rfl : i = 10 := by simpa using hi
          clear hi
          refine op_call (d := 59) rfl rfl rfl (by go_simp) (HPU.out.mono ?_)
          rintro e y2 ⟨v2, rfl, hpf⟩
          obtain ⟨xa, xc, hvf⟩ := hpf.o.form
          obtain ⟨xn, hxn⟩ : ∃ x, x = (putA (poL col m) (k + 1)).length := ⟨_, rfl⟩
          rw [← hxn] at hvf
          subst hvf
          clear hxn
          have hS2 : y2.heap[wr.heap.size]? = some (.cells #[.int .i64 fm, .int .i64 x] 76) := by
            rw [← HV.out.2.2]
            exact hpf.g.block _ (ltOf HV.out.2.2) fun e => by have := (HCL.out _ e.symm).1; omega
          have HX : Hid (OG 76 2 flC y2 w2.heap.size (.slice xa xn xc) (putA (poL col m) (k + 1)) ∧ Below w2.heap.size w2 y2) := by
            have hD : Below V.heap.size V V.drew := (Below.refl _ _).drew
            have h7 : Below w2.heap.size w2 V.drew := HV.out.2.1.trans (hD.mono HV.out.2.1.size)
            exact ⟨hpf.o, h7.grown hpf.g h7.size fun q hq => (HCL.out q hq).2⟩
          refine ⟨_, rfl, hS2, ?_⟩
          simp only [Act.put, List.setIfInBounds_toArray, List.set_cons_zero, List.set_cons_succ]
          refine wpAnyH_all (rs := [11]) (by kernel_rfl) (by simp) ?_
          intro i hi
          obtain rfl : i = 11 := by simpa using hi
          clear hi
          refine op_val (d := 8) (v := .slice xa xn xc) (w' := y2) rfl rfl rfl (by go_simp; try rfl) ?_
          simp only [Act.put, List.setIfInBounds_toArray, List.set_cons_zero, List.set_cons_succ]
          refine ⟨hS2, wpAnyH_done (by kernel_rfl) (NoPanic.normal ?_) _⟩
          have z1 := cellOf hS2 1 rfl
          have z2 := ltOf hS2
          clear hS hS2 hpf HPU HMI HMA HV HCL hsub
          go_wp2
          go_roundw
          case rel => exact ⟨k + 1, t + x, xa, xn, xc, by omega, by go_num, by go_num, rfl, by omega, hx1, HT1.out, HX.out⟩
          case measure => simp [intOf]; omega
        · have HCO : Hid (OG 76 2 flC wr w2.heap.size (.slice ca cn cp) (putA (poL col m) (poL col m).length) ∧ Below w2.heap.size w2 wr) := by
            have h1 := hR.out.2
            rw [show k = (poL col m).length by rw [poL_len, ← HD.out.2.1]; omega] at h1
            exact h1
          have hkb := (hR.out.2.2.block _ (ltOf HPP.out.kb)).trans HPP.out.kb
          have q0 := cellOf hkb 0 rfl
          have q1 := ltOf hkb
          have HKB : Hid (wr.heap[K]? = some (.cells #[.slice oa j oc] 30)) := hkb
          have HTL : Hid ((LL.take j).length = j) := by unfold Hid; rw [List.length_take, HLL.out.2]; omega
          have hbz : K + 1 ≤ wr.heap.size := Nat.le_trans HPP.out.ks HCO.out.2.size
          have HOR : Hid (wr.ownsRow (K + 1) 62 1 (.slice oa j oc) j vs) := by
            have h1 := (HPP.out.ro.below HCO.out.2).o
            rw [HTL.out] at h1
            exact h1
          have HNX : Hid (LL.take (j + 1) = LL.take j ++ [putA (poL col m) (poL col m).length]) := by
            have hjl : j < LL.length := by rw [HLL.out.2]; exact hlt
            unfold Hid
            rw [List.take_succ_eq_append_getElem hjl]
            congr 2
            have h3 : LL[j] = (aftS (fun i => poL (s.getD i []) m) s.length).getD j [] := by rw [← HLL.out.1]; simp [hjl]
            rw [h3, aftS_at _ HD.out.2.2.2.2, HD.out.2.2.2.1]
          clear hR hbw hk0 hkb
          go_wp2_with (at_builtin; refine wpList_append_own_at _ rfl _ _ 28 rfl (K + 1) 62 i0 (.slice none 0 0) 1 24 Try.underlying28 hi0 hz0 hz1 hz2 rfl (by decide) _ _ _ rfl (World.ownsRow.alloc HOR.out _) ⟨wr.heap.size, 0, none⟩ 1 1 [.slice ca cn cp] rfl rfl (World.news_of_block (cs := #[.slice ca cn cp]) (t := 62) (fr := (0, 0)) (heap_alloc_new wr _)) (by simp [Value.oneCell']) (by unfold maxLen; omega) (by omega) (by simp; omega) ?_; intro v6 w6 hown6 hgrow6 _ _; obtain ⟨e6, e7, e8⟩ := keep_box HKB.out HOR.out hgrow6; obtain ⟨na, nc, hv6, HP3⟩ := pp_push HPP.out HCO.out.2 HCO.out.1 HTL.out hown6 hgrow6 HNX.out (by rw [HLL.out.2]; omega); subst hv6; have R : Hid _ := HP3; clear hown6 hgrow6 HP3)
          go_wp2
          go_roundw
          case rel => exact ⟨j + 1, by omega, by go_num, na, nc, R.out⟩
          case measure => simp [intOf]; omega
    · obtain ⟨gC, cc, hv9, _, _, _⟩ := HPP.out.ro.pos (by rw [List.length_take, HLL.out.2]; have := HGS.out.pos; have := H.out.2.1; omega)
      have hjn' : j = n := by omega
      subst hjn'
      have hX : DP w w1 K j cc gC LL w2 := by
        rw [List.length_take, HLL.out.2, Nat.min_self] at hv9
        have h1 := HPP.out.ro
        have h2 := HPP.out.kb
        rw [show LL.take j = LL by rw [← HLL.out.2]; exact List.take_length] at h1
        rw [hv9] at h1 h2
        exact ⟨⟨vs, h1.low (by have := HPP.out.vk; omega)⟩, h2, HPP.out.bl⟩
      have hoe : oa = some ⟨gC, 0, none⟩ ∧ oc = cc := by
        injection hv9 with e1 e2 e3
        exact ⟨e1, e3⟩
      obtain ⟨rfl, rfl⟩ := hoe
      have HX : Hid (DP w w1 K j oc gC LL w2) := hX
      clear hX hv9 s0 s1
      have b0' := cellOf HX.out.kb 0 rfl
      have bl' := ltOf HX.out.kb
      have HLY : Hid (LyOk s (fun i => poL (s.getD i []) m)) := po_ly HGS.out m
      have HAE : Hid (LL = aftS (fun i => poL (s.getD i []) m) s.length) := HLL.out.1
      have HGO : Hid (Calls Try.prog 40 #[.agg #[.slice a j c], .agg #[.slice (some ⟨gC, 0, none⟩) j oc]] w2 fun e w' => ∃ ga gc, e = .returned (.agg #[.int .i64 0, .slice (some ⟨gC, 0, none⟩) j oc, .slice ga 12 gc]) ∧ IS w' w2.heap.size (.slice ga 12 gc) G ∧ Below w2.heap.size w2 w') := by
        obtain ⟨vs, hro⟩ := HX.out.ro
        rw [HAE.out] at hro
        have h9 := spec_gone HGS.out.ws (aft_ws HGS.out HLY.out) (H.out.1.rs.below (H1.out.1.trans (HX.out.bl.mono H1.out.1.size))) hro.rd
        rw [aftS_len, books_all HGS.out HLY.out] at h9
        have e2 : G = goA (fun i => poL (s.getD i []) m) s.length := by rw [H.out.2.2.2.2.2, etG, if_pos HC0.out, H.out.2.1]
        rw [e2]
        exact h9
      have hsb := (HX.out.bl.block _ (ltOf H1.out.2.2)).trans H1.out.2.2
      have x0 := cellOf hsb 0 rfl
      have x1 := ltOf hsb
      clear hsb
      go_wp2_with (fail)
      refine HGO.out.mono ?_
      rintro e w5 ⟨ga, gc, rfl, hgo, hb5⟩
      have hX5 := HX.out.below hb5
      have k1 := (hX5.bl.block _ (ltOf H1.out.2.1)).trans H1.out.2.1
      obtain ⟨p0, p1, p2, f0, f1, f2, pl⟩ := three_s k1
      obtain ⟨W, hW⟩ : ∃ W, W = ((w5.setCell ⟨w.heap.size + 1, 0, none⟩ (.int .i64 0)).setCell ⟨w.heap.size + 1, 1, none⟩ (.slice (some ⟨gC, 0, none⟩) j oc)).setCell ⟨w.heap.size + 1, 2, none⟩ (.slice ga 12 gc) := ⟨_, rfl⟩
      have HFI : Hid (∃ vs, RoE W w.heap.size (.slice (some ⟨gC, 0, none⟩) j oc) (.slice ga 12 gc) L G vs ∧ Below w.heap.size w W) := by
        have hbW : Below w.heap.size w W := by rw [hW]; have := H1.out.1.trans (hX5.bl.mono H1.out.1.size); (repeat' (first | (with_reducible exact Below.refl _ _) | (with_reducible assumption) | (with_reducible refine Below.setCell ?_ ?_ _) | (with_reducible refine Below.alloc ?_ ?_ _) | (with_reducible refine below_drewN ?_ _) | (with_reducible refine Below.drew ?_) | (with_reducible exact Nat.le_refl _) | omega | (simp; done) | (simp; omega)))
        obtain ⟨vs, hro⟩ := hX5.ro
        rw [HAE.out] at hro
        have ho : ∀ z, w1.heap.size ≤ z → W.heap[z]? = w5.heap[z]? := fun z hz => by
          have := ltOf H1.out.2.1
          rw [hW, heap_setCell_other _ _ _ _ (by simp; omega), heap_setCell_other _ _ _ _ (by simp; omega), heap_setCell_other _ _ _ _ (by simp; omega)]
        have e1 : L = aftS (fun i => poL (s.getD i []) m) s.length := by rw [H.out.2.2.2.2.1, etL, if_pos HC0.out, H.out.2.1]
        refine ⟨vs, ⟨?_, ?_⟩, hbW⟩
        · rw [e1]
          exact (hro.kept (fun z hz => ho z (rowBlk hro.o hz).1) (fun i hi z hz => ho z (rowBlk (hro.bx i hi) hz).1)).low H1.out.1.size
        · have h8 := rowLow (IS.kept (w' := W) hgo (fun q hq => ho q (Nat.le_trans HX.out.bl.size (World.ownsRow.lt hgo q hq).1))) (Nat.le_trans H1.out.1.size HX.out.bl.size)
          exact h8
      have HWW : Hid _ := hW
      clear hW hX5 k1 hb5 hgo HGO x0 x1
      go_wp2
      rw [← HWW.out]
      obtain ⟨vs, z1, z2⟩ := HFI.out
      refine bodyPost_ret (by rw [HWW.out]; simp [results, Try.results23, go_sem, p0, p1, p2, pl]; try rfl) rfl ?_
      first | exact ⟨(_, _), vs, by rw [HC0.out] <;> rfl, z1, z2⟩ | exact ⟨_, _, by rw [HC0.out] <;> rfl, ⟨vs, z1⟩, z2⟩


end Go.Proofs.Ytceljakmjddgbab
