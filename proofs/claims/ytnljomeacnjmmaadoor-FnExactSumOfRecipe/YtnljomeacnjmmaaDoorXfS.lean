/- Proved here: the text of a recipe, of the model. -/
import Derived.Test.YtnljomeacnjmmaaDoorXlS
import Derived.Test.YtnljomeacnjmmaaDoorXfM
import Derived.Test.YtnljomeacnjmmaaDoorXrS
import Derived.Test.YtnljomeacnjmmaaDoorFloat
namespace Go.Proofs.YtnljomeacnjmmaaDoor
open Go.ChangeShapes Go.WideShapes Go.ChangeAt Go.RowKit Go.Joins
set_option linter.unusedVariables false
set_option linter.unusedSimpArgs false


set_option maxRecDepth 10000 in
set_option maxHeartbeats 25600000 in
theorem spec_fo (r : Rr) (c : Rp) (W : World) (hs : smRp 1048576 c) (h : Rr1 W r c) :
    Calls Tryd.prog 13 #[.agg #[.string r.nm, .slice r.pa r.pn r.pc, .slice r.sa r.sn r.sc]] W fun e w' => e = .returned (.string (foS c)) ∧ Below W.heap.size W w' := by
  obtain ⟨rs, hrg, hrel⟩ := h.ss
  obtain ⟨K, hK⟩ : ∃ K, K = rfK c := ⟨_, rfl⟩
  obtain ⟨F, hF⟩ : ∃ F, F = foS c := ⟨_, rfl⟩
  have hpl : r.pn = c.ps.length := h.ps.len
  have hsl : r.sn = c.ss.length := h.ss.len
  have hsr : r.sn = rs.length := hrg.len
  have HF : Hid (∀ X, Below W.heap.size W X → Calls Tryd.prog 12 #[.agg #[.string r.nm, .slice r.pa r.pn r.pc, .slice r.sa r.sn r.sc]] X fun e w' => e = .returned (.int .i64 K) ∧ Below X.heap.size X w') := fun X hb => by rw [hK]; exact spec_rf r c X hs (h.below hb)
  rw [← hF]
  obtain ⟨V0, hV0⟩ : ∃ V, V = W.alloc (.cells #[.string r.nm, .slice r.pa r.pn r.pc, .slice r.sa r.sn r.sc] 33) := ⟨_, rfl⟩
  have HB0 : Hid (Below W.heap.size W V0 ∧ V0.heap[W.heap.size]? = some (.cells #[.string r.nm, .slice r.pa r.pn r.pc, .slice r.sa r.sn r.sc] 33)) := ⟨by rw [hV0]; (repeat' (first | (with_reducible exact Below.refl _ _) | (with_reducible assumption) | (with_reducible refine Below.setCell ?_ ?_ _) | (with_reducible refine Below.alloc ?_ ?_ _) | (with_reducible refine below_drewN ?_ _) | (with_reducible refine Below.drew ?_) | (with_reducible exact Nat.le_refl _) | omega | (simp; done) | (simp; omega))), by rw [hV0]; exact heap_alloc_new _ _⟩
  have HV0 : Hid (V0 = W.alloc (.cells #[.string r.nm, .slice r.pa r.pn r.pc, .slice r.sa r.sn r.sc] 33)) := hV0
  clear hV0
  by_cases hk0 : K = 0
  case neg =>
    have hF0 : F = ⟨#[]⟩ := by rw [hF]; unfold foS; rw [← hK, if_neg hk0]
    subst hF0
    clear hK hF hpl hsl hsr h hs hrg hrel
    go_enter Tryd.func13, Tryd.ntmps13
    go_wp2_with (fail)
    rw [← HV0.out]
    clear HV0
    refine (HF.out _ HB0.out.1).mono ?_
    rintro e w1 ⟨rfl, hb1⟩
    have HB1 : Hid (Below W.heap.size W w1) := HB0.out.1.trans (hb1.mono HB0.out.1.size)
    clear hb1 HB0 HF
    go_wp2
    go_returns
    exact ⟨rfl, HB1.out⟩
  have hok := rp_ok (hK.symm.trans hk0)
  have HFF : Hid (F = if 4000 < (foT c).size then ⟨#[]⟩ else foT c) := by unfold Hid; rw [hF]; unfold foS; rw [← hK, if_pos hk0]
  have hpn20 : r.pn ≤ 20 := by have := hok.pn; omega
  have hsn40 : r.sn ≤ 40 := by have := hok.sn; omega
  have hnm : r.nm.size ≤ 16 := by rw [h.nm]; exact (nameK_len hok.nm).2
  have HP : Hid (RG 4 pmC W (.slice r.pa r.pn r.pc) c.ps ∧ r.pn = c.ps.length ∧ ∀ (i : Nat) (hi : i < c.ps.length), (c.ps[i]).nm.size ≤ 16 ∧ ∀ n ∈ [(c.ps[i]).lo, (c.ps[i]).hi, (c.ps[i]).ba], -1000000000 ≤ n ∧ n ≤ 1000000000) := ⟨h.ps, hpl, fun i hi => by
    have hp := hok.ps i hi
    have h1 := hp.lo
    have h2 := hp.hi
    have h3 := hp.ba
    refine ⟨(nameK_len hp.nm).2, fun n hn => ?_⟩
    simp only [List.mem_cons, List.not_mem_nil, or_false] at hn
    rcases hn with rfl | rfl | rfl <;> omega⟩
  have HS : Hid (RG 5 rsC W (.slice r.sa r.sn r.sc) rs ∧ r.sn = c.ss.length ∧ r.sn = rs.length) := ⟨hrg, hsl, hsr⟩
  have HST : Hid (∀ (i : Nat) (hi : i < c.ss.length) (hi' : i < rs.length), (rs[i]).nm = (c.ss[i]).nm ∧ (c.ss[i]).nm.size ≤ 16 ∧ (rs[i]).sn = (c.ss[i]).ss.length ∧ (rs[i]).sn ≤ 8 ∧ RG 4 seC W (.slice (rs[i]).sa (rs[i]).sn (rs[i]).sc) (c.ss[i]).ss ∧ (vtS (c.ss[i]).t).size ≤ 2002000001 ∧
      (∀ X, Below W.heap.size W X → Calls Tryd.prog 27 #[.agg #[.int .i64 (rs[i]).t.k, .int .i64 (rs[i]).t.n, .string (rs[i]).t.s]] X fun e w' => e = .returned (.string (vtS (c.ss[i]).t)) ∧ Below X.heap.size X w') ∧
      ∀ (j : Nat) (hj : j < (c.ss[i]).ss.length), ((c.ss[i]).ss[j]).nm.size ≤ 16 ∧ (vtS ((c.ss[i]).ss[j]).v).size ≤ 2002000001 ∧ ∀ X, Below W.heap.size W X → Calls Tryd.prog 27 #[.agg #[.int .i64 ((c.ss[i]).ss[j]).v.k, .int .i64 ((c.ss[i]).ss[j]).v.n, .string ((c.ss[i]).ss[j]).v.s]] X fun e w' => e = .returned (.string (vtS ((c.ss[i]).ss[j]).v)) ∧ Below X.heap.size X w') := fun i hi hi' => by
    have hr1 := hrel.at_ i hi' hi
    have hsp := hok.ss i hi
    have hsm := hs.ss i hi
    have hm1 := hsm.t
    unfold smV at hm1
    refine ⟨hr1.nm, (nameK_len hsp.nm).2, hr1.ss.len, by rw [hr1.ss.len]; exact hsp.few, hr1.ss, vtS_size _ (by omega), fun X hb => by rw [hr1.t]; exact spec_vt _ X (by omega), fun j hj => ?_⟩
    have hm2 := (hsm.ss j hj).2
    exact ⟨(nameK_len (hsp.ss j hj).nm).2, vtS_size _ (by omega), fun X hb => spec_vt _ X (by omega)⟩
  have HRN : Hid (r.nm = c.nm) := h.nm
  subst hk0
  clear hK hF hpl hsl hsr h hs hrg hrel hok
  go_enter Tryd.func13, Tryd.ntmps13
  go_wp2_with (fail)
  rw [← HV0.out]
  clear HV0
  refine (HF.out _ HB0.out.1).mono ?_
  rintro e w1 ⟨rfl, hb1⟩
  have HB1 : Hid (Below W.heap.size W w1 ∧ w1.heap[W.heap.size]? = some (.cells #[.string r.nm, .slice r.pa r.pn r.pc, .slice r.sa r.sn r.sc] 33)) := ⟨HB0.out.1.trans (hb1.mono HB0.out.1.size), (hb1.block _ (ltQ HB0.out.2)).trans HB0.out.2⟩
  obtain ⟨p0, p1, p2, pf, pl⟩ := three_at HB1.out.2
  clear hb1 HB0 HF pf
  go_wp2
  clear p0 p1 p2 pl
  go_loopw [3, 4] (fun q i wr => ∃ (t : Nat) (Y : ByteArray), i = .int .i64 t ∧ t ≤ r.pn ∧ q = .string Y ∧ Y.size ≤ (t + 1) * 10000000000 ∧ Hid (Y = linN (wRec ++ c.nm) [] ++ catN (fun i => prT (c.ps.getD i pmD)) t ∧ Below W.heap.size W wr ∧ wr.heap[W.heap.size]? = some (.cells #[.string r.nm, .slice r.pa r.pn r.pc, .slice r.sa r.sn r.sc] 33))) (fun _ i _ => r.pn - (intOf i).toNat)
  case atStart =>
    refine ⟨0, _, rfl, Nat.zero_le _, rfl, ?_, ?_, HB1.out⟩
    · rw [ba_size, ba_size]
      have e1 : (⟨#[10]⟩ : ByteArray).size = 1 := rfl
      have e2 : (⟨#[114, 101, 99, 105, 112, 101, 32]⟩ : ByteArray).size = 7 := rfl
      omega
    · rw [rec_line, HRN.out]; exact (ba_nil _).symm
  case round =>
    clear HB1
    obtain ⟨t, Y, rfl, htt, rfl, hYs, hR⟩ := hrel
    obtain ⟨p0, p1, p2, pf, pl⟩ := three_at hR.out.2.2
    clear pf
    by_cases hlt : t < r.pn
    · have htl : t < c.ps.length := by rw [← HP.out.2.1]; exact hlt
      obtain ⟨g, o, c2, he, hg, hj⟩ := (HP.out.1.below hR.out.2.1).pos (by omega)
      simp only [Value.slice.injEq] at he
      obtain ⟨hx0, hx1, hx2⟩ := he
      clear hx1 hx2
      obtain ⟨c0, c1, c2, c3⟩ := pmC_at (hj t htl)
      obtain ⟨y, hy⟩ : ∃ y, y = c.ps[t] := ⟨_, rfl⟩
      rw [← hy] at c0 c1 c2 c3
      obtain ⟨hyn, hyb⟩ := HP.out.2.2 t htl
      rw [← hy] at hyn hyb
      have HYB : Hid (∀ n ∈ [y.lo, y.hi, y.ba], -1000000000 ≤ n ∧ n ≤ 1000000000) := hyb
      obtain ⟨L, hL⟩ : ∃ L, L = prT y := ⟨_, rfl⟩
      have hLs : L.size ≤ 10000000000 := by rw [hL]; exact prT_size y hyn hyb
      have HLn : Hid (∀ (X : World) (v : Value), NSl X v [y.lo, y.hi, y.ba] → Calls Tryd.prog 26 #[.string (⟨#[112, 97, 114, 97, 109, 32]⟩ ++ y.nm), v] X fun e w' => e = .returned (.string L) ∧ Below X.heap.size X w') := fun X v hv => by
        rw [hL]
        exact spec_line _ v _ X hv hyb (by simp) (by have e : ((⟨#[112, 97, 114, 97, 109, 32]⟩ : ByteArray) ++ y.nm).size = 6 + y.nm.size := by rw [ba_size]; rfl
                                                     omega)
      have HY : Hid (Y ++ L = linN (wRec ++ c.nm) [] ++ catN (fun i => prT (c.ps.getD i pmD)) (t + 1)) := by
        unfold Hid
        rw [catN_snoc, getD_at htl, ← hy, ← hL, ← ba_assoc, hR.out.1]
      have HR : Hid (Below W.heap.size W wr ∧ wr.heap[W.heap.size]? = some (.cells #[.string r.nm, .slice r.pa r.pn r.pc, .slice r.sa r.sn r.sc] 33)) := hR.out.2
      have HX0 : Hid (r.pa = some ⟨g, o, none⟩) := hx0
      rw [hx0] at p1
      clear hj hy hL hyb hR hx0
      have b0 : (0 : Int) ≤ (t : Int) := by omega
      have b1 : (t : Int) < (r.pn : Int) := by omega
      go_wp2_with (fail)
      · refine wp_region_float (by kernel_rfl) (fun hS => ?_)
        refine fl_take (i := 0) (d := 21) (v := .string Y) rfl rfl rfl (by kernel_rfl) (by kernel_rfl) (by kernel_rfl) hS ?_ ?_
        · intro w' hk; go_simp
        simp only [Act.put, List.setIfInBounds_toArray, List.set_cons_zero, List.set_cons_succ]
        refine fl_take (i := 1) (d := 22) (v := .pointer (some ⟨W.heap.size, 1, none⟩)) rfl rfl rfl (by kernel_rfl) (by kernel_rfl) (by kernel_rfl) hS ?_ ?_
        · intro w' hk; go_simp
        simp only [Act.put, List.setIfInBounds_toArray, List.set_cons_zero, List.set_cons_succ]
        refine fl_take (i := 2) (d := 23) (v := .slice (some ⟨g, o, none⟩) r.pn r.pc) rfl rfl rfl (by kernel_rfl) (by kernel_rfl) (by kernel_rfl) hS ?_ ?_
        · intro w' hk; go_simp
        simp only [Act.put, List.setIfInBounds_toArray, List.set_cons_zero, List.set_cons_succ]
        refine fl_take (i := 3) (d := 24) (v := .int .i64 (t : Int)) rfl rfl rfl (by kernel_rfl) (by kernel_rfl) (by kernel_rfl) hS ?_ ?_
        · intro w' hk; go_simp
        simp only [Act.put, List.setIfInBounds_toArray, List.set_cons_zero, List.set_cons_succ]
        refine fl_take (i := 4) (d := 25) (v := .pointer (some ⟨g, o + t * 4, none⟩)) rfl rfl rfl (by kernel_rfl) (by kernel_rfl) (by kernel_rfl) hS ?_ ?_
        · intro w' hk; go_simp
        simp only [Act.put, List.setIfInBounds_toArray, List.set_cons_zero, List.set_cons_succ]
        refine fl_take (i := 5) (d := 26) (v := .pointer (some ⟨g, o + t * 4, none⟩)) rfl rfl rfl (by kernel_rfl) (by kernel_rfl) (by kernel_rfl) hS ?_ ?_
        · intro w' hk; go_simp
        simp only [Act.put, List.setIfInBounds_toArray, List.set_cons_zero, List.set_cons_succ]
        refine fl_take (i := 6) (d := 27) (v := .string y.nm) rfl rfl rfl (by kernel_rfl) (by kernel_rfl) (by kernel_rfl) hS ?_ ?_
        · intro w' hk; go_simp
        simp only [Act.put, List.setIfInBounds_toArray, List.set_cons_zero, List.set_cons_succ]
        refine fl_take (i := 7) (d := 28) (v := .string (⟨#[112, 97, 114, 97, 109, 32]⟩ ++ y.nm)) rfl rfl rfl (by kernel_rfl) (by kernel_rfl) (by kernel_rfl) hS ?_ ?_
        · intro w' hk; go_simp; omega
        simp only [Act.put, List.setIfInBounds_toArray, List.set_cons_zero, List.set_cons_succ]
        refine fl_take (i := 8) (d := 29) (v := .pointer (some ⟨W.heap.size, 1, none⟩)) rfl rfl rfl (by kernel_rfl) (by kernel_rfl) (by kernel_rfl) hS ?_ ?_
        · intro w' hk; go_simp
        simp only [Act.put, List.setIfInBounds_toArray, List.set_cons_zero, List.set_cons_succ]
        refine fl_take (i := 9) (d := 30) (v := .slice (some ⟨g, o, none⟩) r.pn r.pc) rfl rfl rfl (by kernel_rfl) (by kernel_rfl) (by kernel_rfl) hS ?_ ?_
        · intro w' hk; go_simp
        simp only [Act.put, List.setIfInBounds_toArray, List.set_cons_zero, List.set_cons_succ]
        refine fl_take (i := 10) (d := 31) (v := .int .i64 (t : Int)) rfl rfl rfl (by kernel_rfl) (by kernel_rfl) (by kernel_rfl) hS ?_ ?_
        · intro w' hk; go_simp
        simp only [Act.put, List.setIfInBounds_toArray, List.set_cons_zero, List.set_cons_succ]
        refine fl_take (i := 11) (d := 32) (v := .pointer (some ⟨g, o + t * 4, none⟩)) rfl rfl rfl (by kernel_rfl) (by kernel_rfl) (by kernel_rfl) hS ?_ ?_
        · intro w' hk; go_simp
        simp only [Act.put, List.setIfInBounds_toArray, List.set_cons_zero, List.set_cons_succ]
        refine fl_take (i := 12) (d := 33) (v := .pointer (some ⟨g, o + t * 4 + 1, none⟩)) rfl rfl rfl (by kernel_rfl) (by kernel_rfl) (by kernel_rfl) hS ?_ ?_
        · intro w' hk; go_simp
        simp only [Act.put, List.setIfInBounds_toArray, List.set_cons_zero, List.set_cons_succ]
        refine fl_take (i := 13) (d := 34) (v := .int .i64 y.lo) rfl rfl rfl (by kernel_rfl) (by kernel_rfl) (by kernel_rfl) hS ?_ ?_
        · intro w' hk; go_simp
        simp only [Act.put, List.setIfInBounds_toArray, List.set_cons_zero, List.set_cons_succ]
        refine fl_take (i := 14) (d := 35) (v := .pointer (some ⟨W.heap.size, 1, none⟩)) rfl rfl rfl (by kernel_rfl) (by kernel_rfl) (by kernel_rfl) hS ?_ ?_
        · intro w' hk; go_simp
        simp only [Act.put, List.setIfInBounds_toArray, List.set_cons_zero, List.set_cons_succ]
        refine fl_take (i := 15) (d := 36) (v := .slice (some ⟨g, o, none⟩) r.pn r.pc) rfl rfl rfl (by kernel_rfl) (by kernel_rfl) (by kernel_rfl) hS ?_ ?_
        · intro w' hk; go_simp
        simp only [Act.put, List.setIfInBounds_toArray, List.set_cons_zero, List.set_cons_succ]
        refine fl_take (i := 16) (d := 37) (v := .int .i64 (t : Int)) rfl rfl rfl (by kernel_rfl) (by kernel_rfl) (by kernel_rfl) hS ?_ ?_
        · intro w' hk; go_simp
        simp only [Act.put, List.setIfInBounds_toArray, List.set_cons_zero, List.set_cons_succ]
        refine fl_take (i := 17) (d := 38) (v := .pointer (some ⟨g, o + t * 4, none⟩)) rfl rfl rfl (by kernel_rfl) (by kernel_rfl) (by kernel_rfl) hS ?_ ?_
        · intro w' hk; go_simp
        simp only [Act.put, List.setIfInBounds_toArray, List.set_cons_zero, List.set_cons_succ]
        refine fl_take (i := 18) (d := 39) (v := .pointer (some ⟨g, o + t * 4 + 2, none⟩)) rfl rfl rfl (by kernel_rfl) (by kernel_rfl) (by kernel_rfl) hS ?_ ?_
        · intro w' hk; go_simp
        simp only [Act.put, List.setIfInBounds_toArray, List.set_cons_zero, List.set_cons_succ]
        refine fl_take (i := 19) (d := 40) (v := .int .i64 y.hi) rfl rfl rfl (by kernel_rfl) (by kernel_rfl) (by kernel_rfl) hS ?_ ?_
        · intro w' hk; go_simp
        simp only [Act.put, List.setIfInBounds_toArray, List.set_cons_zero, List.set_cons_succ]
        refine fl_take (i := 20) (d := 41) (v := .pointer (some ⟨W.heap.size, 1, none⟩)) rfl rfl rfl (by kernel_rfl) (by kernel_rfl) (by kernel_rfl) hS ?_ ?_
        · intro w' hk; go_simp
        simp only [Act.put, List.setIfInBounds_toArray, List.set_cons_zero, List.set_cons_succ]
        refine fl_take (i := 21) (d := 42) (v := .slice (some ⟨g, o, none⟩) r.pn r.pc) rfl rfl rfl (by kernel_rfl) (by kernel_rfl) (by kernel_rfl) hS ?_ ?_
        · intro w' hk; go_simp
        simp only [Act.put, List.setIfInBounds_toArray, List.set_cons_zero, List.set_cons_succ]
        refine fl_take (i := 22) (d := 43) (v := .int .i64 (t : Int)) rfl rfl rfl (by kernel_rfl) (by kernel_rfl) (by kernel_rfl) hS ?_ ?_
        · intro w' hk; go_simp
        simp only [Act.put, List.setIfInBounds_toArray, List.set_cons_zero, List.set_cons_succ]
        refine fl_take (i := 23) (d := 44) (v := .pointer (some ⟨g, o + t * 4, none⟩)) rfl rfl rfl (by kernel_rfl) (by kernel_rfl) (by kernel_rfl) hS ?_ ?_
        · intro w' hk; go_simp
        simp only [Act.put, List.setIfInBounds_toArray, List.set_cons_zero, List.set_cons_succ]
        refine fl_take (i := 24) (d := 45) (v := .pointer (some ⟨g, o + t * 4 + 3, none⟩)) rfl rfl rfl (by kernel_rfl) (by kernel_rfl) (by kernel_rfl) hS ?_ ?_
        · intro w' hk; go_simp
        simp only [Act.put, List.setIfInBounds_toArray, List.set_cons_zero, List.set_cons_succ]
        refine fl_take (i := 25) (d := 46) (v := .int .i64 y.ba) rfl rfl rfl (by kernel_rfl) (by kernel_rfl) (by kernel_rfl) hS ?_ ?_
        · intro w' hk; go_simp
        simp only [Act.put, List.setIfInBounds_toArray, List.set_cons_zero, List.set_cons_succ]
        refine wpAnyH_all (rs := [26]) (by kernel_rfl) (by simp) ?_
        intro i hi
        obtain rfl : i = 26 := by simpa using hi
        obtain ⟨VN, hVN⟩ : ∃ V, V = wr.drew.alloc (.cells #[.int .i64 y.lo, .int .i64 y.hi, .int .i64 y.ba] 2) := ⟨_, rfl⟩
        refine op_val (d := 47) (v := .slice (some ⟨wr.drew.heap.size, 0, none⟩) 3 3) (w' := VN) rfl rfl rfl (by rw [hVN]; go_simp; try rfl) ?_
        simp only [Act.put, List.setIfInBounds_toArray, List.set_cons_zero, List.set_cons_succ]
        have hbN : Below wr.heap.size wr VN := by rw [hVN]; (repeat' (first | (with_reducible exact Below.refl _ _) | (with_reducible assumption) | (with_reducible refine Below.setCell ?_ ?_ _) | (with_reducible refine Below.alloc ?_ ?_ _) | (with_reducible refine below_drewN ?_ _) | (with_reducible refine Below.drew ?_) | (with_reducible exact Nat.le_refl _) | omega | (simp; done) | (simp; omega)))
        have hK1 : KS wr VN := ⟨fun b o hb => hbN.cell (p := ⟨b, o, none⟩) hb, hbN⟩
        refine ⟨hK1, ?_⟩
        have hNS : NSl VN (.slice (some ⟨wr.drew.heap.size, 0, none⟩) 3 3) [y.lo, y.hi, y.ba] := ⟨_, rfl, fun _ => ⟨_, _, rfl, by rw [hVN]; exact heap_alloc_new _ _⟩⟩
        refine wpAnyH_all (rs := [27]) (by kernel_rfl) (by simp) ?_
        intro i hi
        obtain rfl : i = 27 := by simpa using hi
        refine op_call (d := 48) rfl rfl rfl (by go_simp) ((HLn.out VN _ hNS).mono ?_)
        rintro e y1 ⟨rfl, hb5⟩
        have hK5 : KS wr y1 := hK1.call hb5
        refine ⟨_, rfl, hK5, ?_⟩
        simp only [Act.put, List.setIfInBounds_toArray, List.set_cons_zero, List.set_cons_succ]
        refine wpAnyH_all (rs := [28]) (by kernel_rfl) (by simp) ?_
        intro i hi
        obtain rfl : i = 28 := by simpa using hi
        refine op_val (d := 49) (v := .string (Y ++ L)) (w' := y1) rfl rfl rfl (by go_simp; omega) ?_
        simp only [Act.put, List.setIfInBounds_toArray, List.set_cons_zero, List.set_cons_succ]
        refine ⟨hK5, ?_⟩
        refine wpAnyH_all (rs := [29]) (by kernel_rfl) (by simp) ?_
        intro i hi
        obtain rfl : i = 29 := by simpa using hi
        refine op_val (d := 3) (v := .string (Y ++ L)) (w' := y1) rfl rfl rfl (by go_simp; try rfl) ?_
        simp only [Act.put, List.setIfInBounds_toArray, List.set_cons_zero, List.set_cons_succ]
        refine ⟨hK5, wpAnyH_done (by kernel_rfl) (NoPanic.normal ?_) _⟩
        have HB5 : Hid (Below W.heap.size W y1 ∧ y1.heap[W.heap.size]? = some (.cells #[.string r.nm, .slice r.pa r.pn r.pc, .slice r.sa r.sn r.sc] 33)) := ⟨HR.out.1.trans (hK5.2.mono HR.out.1.size), (hK5.2.block _ (ltQ HR.out.2)).trans HR.out.2⟩
        clear hK5 hb5 hNS hK1 hbN hVN hS HR c0 c1 c2 c3 p0 p1 p2 pl hg HLn HYB
        go_wp2
        go_roundw
        case rel => exact ⟨t + 1, Y ++ L, by go_num, by omega, rfl, by rw [ba_size]; push_cast; omega, HY.out, HB5.out⟩
        case measure => simp [intOf]; omega
    · have HY : Hid (Y = linN (wRec ++ c.nm) [] ++ catN (fun i => prT (c.ps.getD i pmD)) c.ps.length ∧ Below W.heap.size W wr ∧ wr.heap[W.heap.size]? = some (.cells #[.string r.nm, .slice r.pa r.pn r.pc, .slice r.sa r.sn r.sc] 33)) := by
        have e : t = c.ps.length := by have := HP.out.2.1; omega
        rw [← e]; exact hR.out
      have hYs2 : Y.size ≤ 210000000000 := by omega
      clear hR hYs HP
      go_wp2
      clear p0 p1 p2 pl
      go_loopw [3, 5] (fun q i wr => ∃ (t : Nat) (Z : ByteArray), i = .int .i64 t ∧ t ≤ r.sn ∧ q = .string Z ∧ Z.size ≤ 210000000000 + t * 90000000000 ∧ Hid (Z = Y ++ catN (fun i => spT (c.ss.getD i spD)) t ∧ Below W.heap.size W wr ∧ wr.heap[W.heap.size]? = some (.cells #[.string r.nm, .slice r.pa r.pn r.pc, .slice r.sa r.sn r.sc] 33))) (fun _ i _ => r.sn - (intOf i).toNat)
      case atStart => exact ⟨0, Y, rfl, Nat.zero_le _, rfl, by omega, (ba_nil _).symm, HY.out.2⟩
      case round =>
        have HYY : Hid (Y = linN (wRec ++ c.nm) [] ++ catN (fun i => prT (c.ps.getD i pmD)) c.ps.length) := HY.out.1
        clear HY
        obtain ⟨t, Z, rfl, htt, rfl, hZs, hR⟩ := hrel
        obtain ⟨p0, p1, p2, pf, pl⟩ := three_at hR.out.2.2
        clear pf
        by_cases hlt : t < r.sn
        · have htl : t < c.ss.length := by rw [← HS.out.2.1]; exact hlt
          have htr : t < rs.length := by rw [← HS.out.2.2]; exact hlt
          obtain ⟨g, o, c2, he, hg, hj⟩ := (HS.out.1.below hR.out.2.1).pos (by omega)
          simp only [Value.slice.injEq] at he
          obtain ⟨hx0, hx1, hx2⟩ := he
          clear hx1 hx2
          obtain ⟨c0, c1, c2, c3, c4⟩ := rsC_at (hj t htr)
          obtain ⟨y, hy⟩ : ∃ y, y = rs[t] := ⟨_, rfl⟩
          obtain ⟨d, hd⟩ : ∃ d, d = c.ss[t] := ⟨_, rfl⟩
          rw [← hy] at c0 c1 c2 c3 c4
          obtain ⟨f1, f2, f3, f4, f5, f6, f7, f8⟩ := HST.out t htl htr
          rw [← hy, ← hd] at f1 f3 f5 f7
          rw [← hy] at f4
          rw [← hd] at f2 f6 f8
          rw [f1] at c0
          obtain ⟨U, hU⟩ : ∃ U, U = vtS d.t := ⟨_, rfl⟩
          rw [← hU] at f6 f7
          have HG : Hid (∃ g5 o5, ∀ X, Below W.heap.size W X → g < X.heap.size ∧ X.cell? ⟨g, o + t * 5 + 4, none⟩ = some (.slice y.sa y.sn y.sc)) := ⟨0, 0, fun X hb => by
            have hgW : g < W.heap.size := by
              obtain ⟨g', o', c2', he', hg', _⟩ := HS.out.1.pos (by omega)
              simp only [Value.slice.injEq] at he'
              have := hx0.symm.trans he'.1
              simp only [Option.some.injEq, Addr.mk.injEq] at this
              omega
            have e9 : X.cell? ⟨g, o + t * 5 + 4, none⟩ = wr.cell? ⟨g, o + t * 5 + 4, none⟩ := by simp [World.cell?, hb.block g hgW, hR.out.2.1.block g hgW]
            exact ⟨Nat.lt_of_lt_of_le hgW hb.size, e9.trans c4⟩⟩
          have HC : Hid (∀ X : Und wr.heap.size wr, Calls Tryd.prog 27 #[.agg #[.int .i64 y.t.k, .int .i64 y.t.n, .string y.t.s]] X.W fun e w' => e = .returned (.string U) ∧ Below X.W.heap.size X.W w') := fun X => f7 X.W (hR.out.2.1.trans (X.below.mono hR.out.2.1.size))
          obtain ⟨Z1, hZ1⟩ : ∃ Z1, Z1 = ((((Z ++ ⟨#[115, 116, 101, 112, 32]⟩) ++ d.nm) ++ ⟨#[32]⟩) ++ U) ++ ⟨#[10]⟩ := ⟨_, rfl⟩
          have hZ1e : Z1 = Z ++ stT d := by rw [hZ1, stp_line, hU]; rfl
          have hZ1s : Z1.size ≤ 210000000000 + t * 90000000000 + 10000000000 := by
            rw [hZ1e, ba_size]
            have := val_line_size wStp d.nm U (by decide) f2 f6
            rw [hU] at this
            have e9 : (stT d).size ≤ 10000000000 := this
            omega
          have HZ1 : Hid (Z1 = ((((Z ++ ⟨#[115, 116, 101, 112, 32]⟩) ++ d.nm) ++ ⟨#[32]⟩) ++ U) ++ ⟨#[10]⟩ ∧ Z1 = Z ++ stT d ∧ Z = Y ++ catN (fun i => spT (c.ss.getD i spD)) t ∧ d = c.ss[t]) := ⟨hZ1, hZ1e, hR.out.1, hd⟩
          have HSE : Hid (RG 4 seC W (.slice y.sa y.sn y.sc) d.ss ∧ y.sn = d.ss.length ∧ ∀ (j : Nat) (hj : j < d.ss.length), (d.ss[j]).nm.size ≤ 16 ∧ (vtS (d.ss[j]).v).size ≤ 2002000001 ∧ ∀ X, Below W.heap.size W X → Calls Tryd.prog 27 #[.agg #[.int .i64 (d.ss[j]).v.k, .int .i64 (d.ss[j]).v.n, .string (d.ss[j]).v.s]] X fun e w' => e = .returned (.string (vtS (d.ss[j]).v)) ∧ Below X.heap.size X w') := ⟨f5, f3, f8⟩
          have HR : Hid (Below W.heap.size W wr ∧ wr.heap[W.heap.size]? = some (.cells #[.string r.nm, .slice r.pa r.pn r.pc, .slice r.sa r.sn r.sc] 33)) := hR.out.2
          have hsa : r.sa = some ⟨g, o, none⟩ := hx0
          rw [hx0] at p2
          have hy8 : y.sn ≤ 8 := f4
          clear hj hy hd f1 f3 f4 f5 f7 f8 hU hZ1 hZ1e hR hx0
          have b0 : (0 : Int) ≤ (t : Int) := by omega
          have b1 : (t : Int) < (r.sn : Int) := by omega
          go_wp2_with (fail)
          (refine wp_region_und (by kernel_rfl) (by kernel_rfl) (fun hund => ?_); (repeat (go_big_quiet_step (first | (go_at_call 27; with_reducible refine und_call ?_ (HC.out _); exact Nat.le_refl _)))); with_reducible refine wpQuiet_nil ?_; clear hund; intro W1 hb1; obtain ⟨hc1, hf1⟩ := undcell hb1)
          have HB5 : Hid (Below W.heap.size W W1 ∧ W1.heap[W.heap.size]? = some (.cells #[.string r.nm, .slice r.pa r.pn r.pc, .slice r.sa r.sn r.sc] 33)) := ⟨HR.out.1.trans (hb1.mono HR.out.1.size), (hb1.block _ (ltQ HR.out.2)).trans HR.out.2⟩
          clear hb1 hc1 hf1 HC HR c0 c1 c2 c3 c4 p0 p1 p2 pl hg
          rw [← HZ1.out.1]
          go_wp2
          go_loopw [3, 6] (fun q i wr => ∃ (k : Nat) (Q : ByteArray), i = .int .i64 k ∧ k ≤ y.sn ∧ q = .string Q ∧ Q.size ≤ 210000000000 + t * 90000000000 + 10000000000 + k * 10000000000 ∧ Hid (Q = Z1 ++ catN (fun j => seT (d.ss.getD j seD)) k ∧ Below W.heap.size W wr ∧ wr.heap[W.heap.size]? = some (.cells #[.string r.nm, .slice r.pa r.pn r.pc, .slice r.sa r.sn r.sc] 33))) (fun _ i _ => y.sn - (intOf i).toNat)
          case atStart => exact ⟨0, Z1, rfl, Nat.zero_le _, rfl, by omega, (ba_nil _).symm, HB5.out⟩
          case round =>
            clear HB5
            obtain ⟨k, Q, rfl, hkk, rfl, hQs, hR⟩ := hrel
            obtain ⟨p0, p1, p2, pf, pl⟩ := three_at hR.out.2.2
            clear pf
            obtain ⟨_, _, HG2⟩ := HG.out
            obtain ⟨gl, c4⟩ := HG2 _ hR.out.2.1
            rw [hsa] at p2
            have b2 : (0 : Int) ≤ (k : Int) := by omega
            by_cases hlk : k < y.sn
            · have hkl : k < d.ss.length := by rw [← HSE.out.2.1]; exact hlk
              obtain ⟨g2, o2, c2, he, hg, hj⟩ := (HSE.out.1.below hR.out.2.1).pos (by omega)
              simp only [Value.slice.injEq] at he
              obtain ⟨hx0, hx1, hx2⟩ := he
              clear hx1 hx2
              obtain ⟨e0, e1, e2, e3⟩ := seC_at (hj k hkl)
              obtain ⟨x, hx⟩ : ∃ x, x = d.ss[k] := ⟨_, rfl⟩
              rw [← hx] at e0 e1 e2 e3
              obtain ⟨f1, f3, f7⟩ := HSE.out.2.2 k hkl
              rw [← hx] at f1 f3 f7
              obtain ⟨U2, hU⟩ : ∃ U, U = vtS x.v := ⟨_, rfl⟩
              rw [← hU] at f3 f7
              have HC : Hid (∀ X : Und wr.heap.size wr, Calls Tryd.prog 27 #[.agg #[.int .i64 x.v.k, .int .i64 x.v.n, .string x.v.s]] X.W fun e w' => e = .returned (.string U2) ∧ Below X.W.heap.size X.W w') := fun X => f7 X.W (hR.out.2.1.trans (X.below.mono hR.out.2.1.size))
              obtain ⟨Q1, hQ1⟩ : ∃ Q1, Q1 = ((((Q ++ ⟨#[115, 101, 116, 32]⟩) ++ x.nm) ++ ⟨#[32]⟩) ++ U2) ++ ⟨#[10]⟩ := ⟨_, rfl⟩
              have hQ1e : Q1 = Q ++ seT x := by rw [hQ1, set_line, hU]; rfl
              have hQ1s : Q1.size ≤ 210000000000 + t * 90000000000 + 10000000000 + (k + 1) * 10000000000 := by
                rw [hQ1e, ba_size]
                have := val_line_size wSet x.nm U2 (by decide) f1 f3
                rw [hU] at this
                have e9 : (seT x).size ≤ 10000000000 := this
                omega
              have HQ1 : Hid (Q1 = ((((Q ++ ⟨#[115, 101, 116, 32]⟩) ++ x.nm) ++ ⟨#[32]⟩) ++ U2) ++ ⟨#[10]⟩ ∧ Q1 = Z1 ++ catN (fun j => seT (d.ss.getD j seD)) (k + 1)) := ⟨hQ1, by rw [hQ1e, catN_snoc, getD_at hkl, ← hx, ← ba_assoc, hR.out.1]⟩
              have HR : Hid (Below W.heap.size W wr ∧ wr.heap[W.heap.size]? = some (.cells #[.string r.nm, .slice r.pa r.pn r.pc, .slice r.sa r.sn r.sc] 33)) := hR.out.2
              have hs2 : y.sa = some ⟨g2, o2, none⟩ := hx0
              rw [hx0] at c4
              clear hj hx f7 hU hQ1 hQ1e hR hx0
              have b3 : (k : Int) < (y.sn : Int) := by omega
              go_wp2_with (fail)
              (refine wp_region_und (by kernel_rfl) (by kernel_rfl) (fun hund => ?_); (repeat (go_big_quiet_step (first | (go_at_call 27; with_reducible refine und_call ?_ (HC.out _); exact Nat.le_refl _)))); with_reducible refine wpQuiet_nil ?_; clear hund; intro W2 hb2; obtain ⟨hc2, hf2⟩ := undcell hb2)
              have HB6 : Hid (Below W.heap.size W W2 ∧ W2.heap[W.heap.size]? = some (.cells #[.string r.nm, .slice r.pa r.pn r.pc, .slice r.sa r.sn r.sc] 33)) := ⟨HR.out.1.trans (hb2.mono HR.out.1.size), (hb2.block _ (ltQ HR.out.2)).trans HR.out.2⟩
              clear hb2 hc2 hf2 HC HR c4 gl e0 e1 e2 e3 p0 p1 p2 pl hg
              rw [← HQ1.out.1]
              go_wp2
              go_roundw
              case rel => exact ⟨k + 1, Q1, by go_num, by omega, rfl, by push_cast at hQ1s ⊢; omega, HQ1.out.2, HB6.out⟩
              case measure => simp [intOf]; omega
            · have HE : Hid (Q = Y ++ catN (fun i => spT (c.ss.getD i spD)) (t + 1) ∧ Below W.heap.size W wr ∧ wr.heap[W.heap.size]? = some (.cells #[.string r.nm, .slice r.pa r.pn r.pc, .slice r.sa r.sn r.sc] 33)) := by
                refine ⟨?_, hR.out.2⟩
                have ek : k = d.ss.length := by have := HSE.out.2.1; omega
                rw [hR.out.1, HZ1.out.2.1, HZ1.out.2.2.1, catN_snoc, getD_at htl, ← HZ1.out.2.2.2, ek]
                unfold spT
                simp only [ba_assoc]
              have hQs2 : Q.size ≤ 210000000000 + (t + 1) * 90000000000 := by omega
              clear hR hQs
              go_wp2
              go_roundw
              case rel => exact ⟨t + 1, Q, by go_num, by omega, rfl, by push_cast at hQs2 ⊢; omega, HE.out⟩
              case measure => simp [intOf]; omega
        · have HE : Hid (Z = foT c ∧ Below W.heap.size W wr) := by
            refine ⟨?_, hR.out.2.1⟩
            have et : t = c.ss.length := by have := HS.out.2.1; omega
            rw [hR.out.1, et, HYY.out]; rfl
          clear hR
          by_cases hbig : 4000 < Z.size
          · have hFe : F = ⟨#[]⟩ := by rw [HFF.out, ← HE.out.1, if_pos hbig]
            subst hFe
            clear HFF
            go_wp2
            go_returns
            exact ⟨rfl, HE.out.2⟩
          · have hFe : F = Z := by rw [HFF.out, ← HE.out.1, if_neg hbig]
            subst hFe
            clear HFF
            go_wp2
            go_returns
            exact ⟨rfl, HE.out.2⟩

end Go.Proofs.YtnljomeacnjmmaaDoor
