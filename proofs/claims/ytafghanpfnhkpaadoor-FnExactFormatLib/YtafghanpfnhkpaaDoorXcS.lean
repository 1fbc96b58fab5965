/- Proved here: the text of a layout, of the model. -/
import Derived.Test.YtafghanpfnhkpaaDoorXcN
import Derived.Test.YtafghanpfnhkpaaDoorXlS
import Derived.Test.YtafghanpfnhkpaaDoorSLib2
import Derived.Test.YtafghanpfnhkpaaDoorFloat
import Derived.Test.YtafghanpfnhkpaaDoorReg
namespace Go.Proofs.YtafghanpfnhkpaaDoor
open Go.ChangeShapes Go.WideShapes Go.ChangeAt Go.RowKit Go.Joins
set_option linter.unusedVariables false
set_option linter.unusedSimpArgs false

set_option maxHeartbeats 400000 in
theorem spec_flag (b : Bool) (w : World) : Calls Tryd.prog 12 #[.bool b] w fun e w' => e = .returned (.int .i64 (flN b)) ∧ w' = w := by
  cases b with
  | true =>
    go_enter Tryd.func12, Tryd.ntmps12
    go_wp2
    go_returns
    exact ⟨rfl, rfl⟩
  | false =>
    go_enter Tryd.func12, Tryd.ntmps12
    go_wp2
    go_returns
    exact ⟨rfl, rfl⟩
theorem bnd_k {z T k : Nat} (h : z ≤ T + 1200000 + k * 1200000) (hk : k ≤ 60) : z ≤ T + 73200000 := by omega
theorem bnd_n {z t n : Nat} (h : z ≤ t * 100000000 + 73200000 + n * 1200000) (hn : n ≤ 20) : z ≤ (t + 1) * 100000000 := by omega
theorem cel_line (Y nm : ByteArray) : ((Y ++ ⟨#[99, 101, 108, 108, 32]⟩) ++ nm) ++ ⟨#[10]⟩ = Y ++ linN (wCel ++ nm) [] := by
  show ((Y ++ wCel) ++ nm) ++ ⟨#[10]⟩ = Y ++ ((wCel ++ nm) ++ ⟨#[10]⟩)
  simp only [ba_assoc]
set_option maxRecDepth 100000 in
set_option maxHeartbeats 25600000 in
theorem spec_fl (a : Option Addr) (m cc : Nat) (s : List Cl) (W : World) (hm : m ≤ 2000000) (h : RK W (.slice a m cc) s) (hsm : ∀ j (h : j < s.length), smC 1048576 s[j]) :
    Calls Tryd.prog 5 #[.slice a m cc] W fun e w' => e = .returned (.string (flS s)) ∧ Below W.heap.size W w' := by
  obtain ⟨K, hK⟩ : ∃ K, K = libK s := ⟨_, rfl⟩
  obtain ⟨F, hF⟩ : ∃ F, F = flS s := ⟨_, rfl⟩
  have HF : Hid (Calls Tryd.prog 10 #[.slice a m cc] W fun e w' => e = .returned (.int .i64 K) ∧ Below W.heap.size W w') := by rw [hK]; exact spec_lib a m cc s W hm h hsm
  rw [← hF]
  by_cases hk0 : K = 0
  case neg =>
    have hF0 : F = ⟨#[]⟩ := by rw [hF]; unfold flS; rw [← hK, if_neg hk0]
    subst hF0
    clear hK hF h hsm
    go_enter Tryd.func5, Tryd.ntmps5
    go_wp2_with (fail)
    refine HF.out.mono ?_
    rintro e w1 ⟨rfl, hb1⟩
    have HB1 : Hid (Below W.heap.size W w1) := hb1
    clear hb1 HF
    go_wp2
    go_returns
    exact ⟨rfl, HB1.out⟩
  have hok := lib_ok (hK.symm.trans hk0)
  have HFF : Hid (F = if 4000 < (flT s).size then ⟨#[]⟩ else flT s) := by unfold Hid; rw [hF]; unfold flS; rw [← hK, if_pos hk0]
  obtain ⟨rs, hrs, hrel⟩ := h
  have hmr : m = rs.length := hrs.len
  have hms : m = s.length := hmr.trans hrel.len
  have hm20 : m ≤ 20 := by have := hok.1; omega
  have HS : Hid (RG 3 rcC W (.slice a m cc) rs ∧ RelK W rs s ∧ m = rs.length ∧ m = s.length ∧ (∀ j (h : j < s.length), ClOk s[j]) ∧ ∀ j (h : j < s.length), smC 1048576 s[j]) := ⟨hrs, hrel, hmr, hms, hok.2, hsm⟩
  subst hk0
  clear hK hF hrs hrel hmr hms hok hsm
  go_enter Tryd.func5, Tryd.ntmps5
  go_wp2_with (fail)
  refine HF.out.mono ?_
  rintro e w1 ⟨rfl, hb1⟩
  have HB1 : Hid (Below W.heap.size W w1) := hb1
  clear hb1 HF
  go_wp2
  go_loopw [3, 4] (fun q i wr => ∃ (t : Nat) (Y : ByteArray), i = .int .i64 t ∧ t ≤ m ∧ q = .string Y ∧ Y.size ≤ t * 100000000 ∧ Hid (Y = catN (fun i => clT (s.getD i clD)) t ∧ Below W.heap.size W wr)) (fun _ i _ => m - (intOf i).toNat)
  case atStart => exact ⟨0, ⟨#[]⟩, rfl, Nat.zero_le _, rfl, by simp [ByteArray.size], rfl, HB1.out⟩
  case round =>
    clear HB1
    obtain ⟨t, Y, rfl, htt, rfl, hYs, hR⟩ := hrel
    by_cases hlt : t < m
    · have htl : t < s.length := by rw [← HS.out.2.2.2.1]; exact hlt
      have htr : t < rs.length := by rw [← HS.out.2.2.1]; exact hlt
      obtain ⟨g, o, c2, he, hg, hj⟩ := (HS.out.1.below hR.out.2).pos (by omega)
      simp only [Value.slice.injEq] at he
      obtain ⟨rfl, hx1, hx2⟩ := he
      clear hx1 hx2
      obtain ⟨c0, c1, c2⟩ := rcC_at (hj t htr)
      obtain ⟨r, hr⟩ : ∃ r, r = rs[t] := ⟨_, rfl⟩
      rw [← hr] at c0 c1 c2
      obtain ⟨d, hd⟩ : ∃ d, d = s[t] := ⟨_, rfl⟩
      have hr1 := HS.out.2.1.at_ t htr htl
      rw [← hr, ← hd] at hr1
      have hok := HS.out.2.2.2.2.1 t htl
      rw [← hd] at hok
      have hsm1 := HS.out.2.2.2.2.2 t htl
      rw [← hd] at hsm1
      have hrn : r.nm.size ≤ 16 := by rw [hr1.nm]; exact hok.nm
      have hb60 : r.bn ≤ 60 := by have h1 := hok.bn; have h2 := hr1.bs.len; omega
      have hp20 : r.pn ≤ 20 := by have h1 := hok.pn; have h2 := hr1.ps.len; omega
      have hgW : g < W.heap.size := by
        obtain ⟨g', o', c2', he', hg', _⟩ := HS.out.1.pos (by omega)
        simp only [Value.slice.injEq, Option.some.injEq, Addr.mk.injEq] at he'
        omega
      have HG : Hid (∀ X, Below W.heap.size W X → g < X.heap.size ∧ X.cell? ⟨g, o + t * 3 + 1, none⟩ = some (.slice r.ba r.bn r.bc) ∧ X.cell? ⟨g, o + t * 3 + 2, none⟩ = some (.slice r.pa r.pn r.pc)) := fun X hb => by
        have e9 : ∀ k, X.cell? ⟨g, k, none⟩ = wr.cell? ⟨g, k, none⟩ := fun k => by simp [World.cell?, hb.block g hgW, hR.out.2.block g hgW]
        exact ⟨Nat.lt_of_lt_of_le hgW hb.size, (e9 _).trans c1, (e9 _).trans c2⟩
      obtain ⟨Y0, hY0⟩ : ∃ Z, Z = ((Y ++ ⟨#[99, 101, 108, 108, 32]⟩) ++ r.nm) ++ ⟨#[10]⟩ := ⟨_, rfl⟩
      have hY0e : Y0 = Y ++ linN (wCel ++ d.nm) [] := by rw [hY0, cel_line, hr1.nm]
      have hY0s : Y0.size ≤ t * 100000000 + 1200000 := by
        rw [hY0e, ba_size]
        have := cel_size hok.nm
        omega
      have HY0 : Hid (Y0 = ((Y ++ ⟨#[99, 101, 108, 108, 32]⟩) ++ r.nm) ++ ⟨#[10]⟩ ∧ Y0 = Y ++ linN (wCel ++ d.nm) []) := ⟨hY0, hY0e⟩
      have HD : Hid (Rc1 W r d ∧ ClOk d ∧ smC 1048576 d ∧ r.bn = d.bs.length ∧ r.pn = d.ps.length) := ⟨hr1, hok, hsm1, hr1.bs.len, hr1.ps.len⟩
      have HYY : Hid (Y = catN (fun i => clT (s.getD i clD)) t ∧ d = s[t]) := ⟨hR.out.1, hd⟩
      have HR : Hid (Below W.heap.size W wr) := hR.out.2
      clear hj hr hd hr1 hok hsm1 hY0 hY0e hR hgW
      have b0 : (0 : Int) ≤ (t : Int) := by omega
      have b1 : (t : Int) < (m : Int) := by omega
      go_wp2
      rw [← HY0.out.1]
      clear c0 c1 c2 hg
      go_loopw [3, 5] (fun q i wr => ∃ (k : Nat) (Z : ByteArray), i = .int .i64 k ∧ k ≤ r.bn ∧ q = .string Z ∧ Z.size ≤ t * 100000000 + 1200000 + k * 1200000 ∧ Hid (Z = Y0 ++ catN (fun i => lbT (d.bs.getD i lbD)) k ∧ Below W.heap.size W wr)) (fun _ i _ => r.bn - (intOf i).toNat)
      case atStart => exact ⟨0, Y0, rfl, Nat.zero_le _, rfl, by omega, (ba_nil _).symm, HR.out⟩
      case round =>
        clear HR
        obtain ⟨k, Z, rfl, hkk, rfl, hZs, hR⟩ := hrel
        obtain ⟨gl, c1, c2⟩ := HG.out _ hR.out.2
        by_cases hlk : k < r.bn
        · have hkl : k < d.bs.length := by rw [← HD.out.2.2.2.1]; exact hlk
          obtain ⟨g2, o2, c9, he, hg, hj⟩ := (HD.out.1.bs.below hR.out.2).pos (by omega)
          simp only [Value.slice.injEq] at he
          obtain ⟨hx0, hx1, hx2⟩ := he
          clear hx1 hx2
          obtain ⟨e0, e1, e2, e3, e4⟩ := lbC_at (hj k hkl)
          obtain ⟨y, hy⟩ : ∃ y, y = d.bs[k] := ⟨_, rfl⟩
          rw [← hy] at e0 e1 e2 e3 e4
          have hyb := HD.out.2.1.bs y (by rw [hy]; exact List.getElem_mem _)
          obtain ⟨L, hL⟩ : ∃ L, L = lbT y := ⟨_, rfl⟩
          have hLs : L.size ≤ 1200000 := by rw [hL]; exact lbT_size hyb
          obtain ⟨VP, hVP⟩ : ∃ V, V = (wr.alloc (.cells #[.int .i64 y.l, .int .i64 y.b.x0, .int .i64 y.b.y0, .int .i64 y.b.x1, .int .i64 y.b.y1] 42)).alloc (.cells #[.int .i64 y.l, .int .i64 y.b.x0, .int .i64 y.b.y0, .int .i64 y.b.x1, .int .i64 y.b.y1] 2) := ⟨_, rfl⟩
          have hbP : Below wr.heap.size wr VP := by rw [hVP]; (repeat' (first | (with_reducible exact Below.refl _ _) | (with_reducible assumption) | (with_reducible refine Below.setCell ?_ ?_ _) | (with_reducible refine Below.alloc ?_ ?_ _) | (with_reducible refine below_drewN ?_ _) | (with_reducible refine Below.drew ?_) | (with_reducible exact Nat.le_refl _) | omega | (simp; done) | (simp; omega)))
          have HLn : Hid (Calls Tryd.prog 11 #[.string ⟨#[98, 111, 120]⟩, .slice (some ⟨wr.heap.size + 1, 0, none⟩) 5 5] VP fun e w' => e = .returned (.string L) ∧ Below VP.heap.size VP w') := by
            rw [hL]
            refine spec_line wBox _ (lbN y) VP ⟨_, rfl, fun _ => ⟨_, (0, 0), rfl, ?_⟩⟩ (wide hyb) (by simp [lbN]) ?_
            · rw [hVP]; exact heap_alloc_at1 wr _ _
            · have e2 : wBox.size = 3 := rfl; omega
          have HBP : Hid (Below W.heap.size W VP) := hR.out.2.trans (hbP.mono hR.out.2.size)
          have HZ : Hid (Z ++ L = Y0 ++ catN (fun i => lbT (d.bs.getD i lbD)) (k + 1)) := by
            unfold Hid
            rw [catN_snoc, getD_c hkl, ← hy, ← hL, ← ba_assoc, hR.out.1]
          have HVP : Hid (VP = (wr.alloc (.cells #[.int .i64 y.l, .int .i64 y.b.x0, .int .i64 y.b.y0, .int .i64 y.b.x1, .int .i64 y.b.y1] 42)).alloc (.cells #[.int .i64 y.l, .int .i64 y.b.x0, .int .i64 y.b.y0, .int .i64 y.b.x1, .int .i64 y.b.y1] 2)) := hVP
          have hsa : r.ba = some ⟨g2, o2, none⟩ := hx0
          rw [hx0] at c1
          clear hj hy hyb hR hx0 hVP hbP hL
          have b2 : (0 : Int) ≤ (k : Int) := by omega
          have b3 : (k : Int) < (r.bn : Int) := by omega
          go_wp2_with (fail)
          rw [← HVP.out]
          clear HVP
          refine HLn.out.mono ?_
          rintro e w5 ⟨rfl, hb5⟩
          have HB5 : Hid (Below W.heap.size W w5) := HBP.out.trans (hb5.mono HBP.out.size)
          clear hb5 HLn HBP c1 c2 gl e0 e1 e2 e3 e4 hg
          go_wp2
          try rw [← hsa]
          go_roundw
          case rel => exact ⟨k + 1, Z ++ L, by go_num, by omega, rfl, by rw [ba_size]; push_cast; omega, HZ.out, HB5.out⟩
          case measure => simp [intOf]; omega
        · have HZ : Hid (Z = Y0 ++ catN (fun i => lbT (d.bs.getD i lbD)) d.bs.length ∧ Below W.heap.size W wr) := by
            have e : k = d.bs.length := by have := HD.out.2.2.2.1; omega
            rw [← e]; exact hR.out
          have hZs2 : Z.size ≤ t * 100000000 + 73200000 := bnd_k hZs (Nat.le_trans hkk hb60)
          clear hR hZs
          have b2 : (0 : Int) ≤ (k : Int) := by omega
          go_wp2
          clear c1 c2 gl
          go_loopw [3, 7] (fun q i wr => ∃ (k : Nat) (Q : ByteArray), i = .int .i64 k ∧ k ≤ r.pn ∧ q = .string Q ∧ Q.size ≤ t * 100000000 + 73200000 + k * 1200000 ∧ Hid (Q = Z ++ catN (fun i => plT (d.ps.getD i plD)) k ∧ Below W.heap.size W wr)) (fun _ i _ => r.pn - (intOf i).toNat)
          case atStart => exact ⟨0, Z, rfl, Nat.zero_le _, rfl, by omega, (ba_nil _).symm, HZ.out.2⟩
          case round =>
            have HZZ : Hid (Z = Y0 ++ catN (fun i => lbT (d.bs.getD i lbD)) d.bs.length) := HZ.out.1
            clear HZ
            obtain ⟨n, Q, rfl, hnn, rfl, hQs, hR⟩ := hrel
            obtain ⟨gl, c1, c2⟩ := HG.out _ hR.out.2
            by_cases hln : n < r.pn
            · have hnl : n < d.ps.length := by rw [← HD.out.2.2.2.2]; exact hln
              obtain ⟨g2, o2, c9, he, hg, hj⟩ := (HD.out.1.ps.below hR.out.2).pos (by omega)
              simp only [Value.slice.injEq] at he
              obtain ⟨hx0, hx1, hx2⟩ := he
              clear hx1 hx2
              obtain ⟨e0, e1, e2, e3, e4, e5, e6, e7, e8⟩ := plC_at (hj n hnl)
              obtain ⟨y, hy⟩ : ∃ y, y = d.ps[n] := ⟨_, rfl⟩
              rw [← hy] at e0 e1 e2 e3 e4 e5 e6 e7 e8
              have hyb := HD.out.2.1.ps y (by rw [hy]; exact List.getElem_mem _)
              have hyc : y.c.size ≤ 1048576 := by have := HD.out.2.2.1.pl n hnl; unfold smP at this; rw [hy]; omega
              obtain ⟨L, hL⟩ : ∃ L, L = plT y := ⟨_, rfl⟩
              have hLs : L.size ≤ 1200000 := by rw [hL]; exact plT_size hyc hyb
              obtain ⟨V, hV⟩ : ∃ V, V = wr.alloc (.cells #[.string y.c, .int .i64 y.x, .int .i64 y.y, .int .i64 y.t, .bool y.f, .int .i64 y.nx, .int .i64 y.ny, .int .i64 y.dx, .int .i64 y.dy] 45) := ⟨_, rfl⟩
              obtain ⟨q, hq⟩ : ∃ q, q = wr.heap.size := ⟨_, rfl⟩
              have hbV : Below wr.heap.size wr V := by rw [hV]; (repeat' (first | (with_reducible exact Below.refl _ _) | (with_reducible assumption) | (with_reducible refine Below.setCell ?_ ?_ _) | (with_reducible refine Below.alloc ?_ ?_ _) | (with_reducible refine below_drewN ?_ _) | (with_reducible refine Below.drew ?_) | (with_reducible exact Nat.le_refl _) | omega | (simp; done) | (simp; omega)))
              have HB3 : Hid (Below W.heap.size W V ∧ V.heap[q]? = some (.cells #[.string y.c, .int .i64 y.x, .int .i64 y.y, .int .i64 y.t, .bool y.f, .int .i64 y.nx, .int .i64 y.ny, .int .i64 y.dx, .int .i64 y.dy] 45)) := ⟨hR.out.2.trans (hbV.mono hR.out.2.size), by rw [hV, hq]; exact heap_alloc_new _ _⟩
              have HLn : Hid (∀ (X' : World) (v : Value), NSl X' v (plN y) → Calls Tryd.prog 11 #[.string (⟨#[112, 108, 97, 99, 101, 32]⟩ ++ y.c), v] X' fun e w' => e = .returned (.string L) ∧ Below X'.heap.size X' w') := fun X' v hv => by
                rw [hL]
                exact spec_line (wPlc ++ y.c) v (plN y) X' hv (wide hyb) (by simp [plN]) (by rw [ba_size]; have e2 : wPlc.size = 6 := rfl; omega)
              have HZ1 : Hid (Q ++ L = Z ++ catN (fun i => plT (d.ps.getD i plD)) (n + 1)) := by
                unfold Hid; rw [catN_snoc, getD_c hnl, ← hy, ← hL, ← ba_assoc, hR.out.1]
              have HV : Hid (V = wr.alloc (.cells #[.string y.c, .int .i64 y.x, .int .i64 y.y, .int .i64 y.t, .bool y.f, .int .i64 y.nx, .int .i64 y.ny, .int .i64 y.dx, .int .i64 y.dy] 45) ∧ q = wr.heap.size) := ⟨hV, hq⟩
              have hsa : r.pa = some ⟨g2, o2, none⟩ := hx0
              rw [hx0] at c2
              clear hj hy hyb hR hx0 hV hq hbV hL
              have b4 : (0 : Int) ≤ (n : Int) := by omega
              have b5 : (n : Int) < (r.pn : Int) := by omega
              go_wp2_with (fail)
              rw [← HV.out.1, ← HV.out.2]
              clear HV c1 c2 gl e0 e1 e2 e3 e4 e5 e6 e7 e8 hg
              refine wp_region_holdsA (S := fun w' => w'.heap[q]? = some (.cells #[.string y.c, .int .i64 y.x, .int .i64 y.y, .int .i64 y.t, .bool y.f, .int .i64 y.nx, .int .i64 y.ny, .int .i64 y.dx, .int .i64 y.dy] 45)) (by kernel_rfl) HB3.out.2 (fun hS => ?_)
              refine fl_takeA (i := 0) (d := 81) (v := .string Q) rfl rfl rfl (by kernel_rfl) (by kernel_rfl) (by kernel_rfl) hS ?_ ?_
              · intro w' hk; obtain ⟨a0, a1, a2, a3, a4, a5, a6, a7, a8, al⟩ := nine_at hk; go_simp
              simp only [Act.put, List.setIfInBounds_toArray, List.set_cons_zero, List.set_cons_succ]
              refine fl_takeA (i := 1) (d := 82) (v := .pointer (some ⟨q, 0, none⟩)) rfl rfl rfl (by kernel_rfl) (by kernel_rfl) (by kernel_rfl) hS ?_ ?_
              · intro w' hk; obtain ⟨a0, a1, a2, a3, a4, a5, a6, a7, a8, al⟩ := nine_at hk; go_simp
              simp only [Act.put, List.setIfInBounds_toArray, List.set_cons_zero, List.set_cons_succ]
              refine fl_takeA (i := 2) (d := 83) (v := .string y.c) rfl rfl rfl (by kernel_rfl) (by kernel_rfl) (by kernel_rfl) hS ?_ ?_
              · intro w' hk; obtain ⟨a0, a1, a2, a3, a4, a5, a6, a7, a8, al⟩ := nine_at hk; go_simp
              simp only [Act.put, List.setIfInBounds_toArray, List.set_cons_zero, List.set_cons_succ]
              refine fl_takeA (i := 3) (d := 84) (v := .string (⟨#[112, 108, 97, 99, 101, 32]⟩ ++ y.c)) rfl rfl rfl (by kernel_rfl) (by kernel_rfl) (by kernel_rfl) hS ?_ ?_
              · intro w' hk; obtain ⟨a0, a1, a2, a3, a4, a5, a6, a7, a8, al⟩ := nine_at hk; go_simp; omega
              simp only [Act.put, List.setIfInBounds_toArray, List.set_cons_zero, List.set_cons_succ]
              refine fl_takeA (i := 4) (d := 85) (v := .pointer (some ⟨q, 1, none⟩)) rfl rfl rfl (by kernel_rfl) (by kernel_rfl) (by kernel_rfl) hS ?_ ?_
              · intro w' hk; obtain ⟨a0, a1, a2, a3, a4, a5, a6, a7, a8, al⟩ := nine_at hk; go_simp
              simp only [Act.put, List.setIfInBounds_toArray, List.set_cons_zero, List.set_cons_succ]
              refine fl_takeA (i := 5) (d := 86) (v := .int .i64 y.x) rfl rfl rfl (by kernel_rfl) (by kernel_rfl) (by kernel_rfl) hS ?_ ?_
              · intro w' hk; obtain ⟨a0, a1, a2, a3, a4, a5, a6, a7, a8, al⟩ := nine_at hk; go_simp
              simp only [Act.put, List.setIfInBounds_toArray, List.set_cons_zero, List.set_cons_succ]
              refine fl_takeA (i := 6) (d := 87) (v := .pointer (some ⟨q, 2, none⟩)) rfl rfl rfl (by kernel_rfl) (by kernel_rfl) (by kernel_rfl) hS ?_ ?_
              · intro w' hk; obtain ⟨a0, a1, a2, a3, a4, a5, a6, a7, a8, al⟩ := nine_at hk; go_simp
              simp only [Act.put, List.setIfInBounds_toArray, List.set_cons_zero, List.set_cons_succ]
              refine fl_takeA (i := 7) (d := 88) (v := .int .i64 y.y) rfl rfl rfl (by kernel_rfl) (by kernel_rfl) (by kernel_rfl) hS ?_ ?_
              · intro w' hk; obtain ⟨a0, a1, a2, a3, a4, a5, a6, a7, a8, al⟩ := nine_at hk; go_simp
              simp only [Act.put, List.setIfInBounds_toArray, List.set_cons_zero, List.set_cons_succ]
              refine fl_takeA (i := 8) (d := 89) (v := .pointer (some ⟨q, 3, none⟩)) rfl rfl rfl (by kernel_rfl) (by kernel_rfl) (by kernel_rfl) hS ?_ ?_
              · intro w' hk; obtain ⟨a0, a1, a2, a3, a4, a5, a6, a7, a8, al⟩ := nine_at hk; go_simp
              simp only [Act.put, List.setIfInBounds_toArray, List.set_cons_zero, List.set_cons_succ]
              refine fl_takeA (i := 9) (d := 90) (v := .int .i64 y.t) rfl rfl rfl (by kernel_rfl) (by kernel_rfl) (by kernel_rfl) hS ?_ ?_
              · intro w' hk; obtain ⟨a0, a1, a2, a3, a4, a5, a6, a7, a8, al⟩ := nine_at hk; go_simp
              simp only [Act.put, List.setIfInBounds_toArray, List.set_cons_zero, List.set_cons_succ]
              refine fl_takeA (i := 10) (d := 91) (v := .pointer (some ⟨q, 4, none⟩)) rfl rfl rfl (by kernel_rfl) (by kernel_rfl) (by kernel_rfl) hS ?_ ?_
              · intro w' hk; obtain ⟨a0, a1, a2, a3, a4, a5, a6, a7, a8, al⟩ := nine_at hk; go_simp
              simp only [Act.put, List.setIfInBounds_toArray, List.set_cons_zero, List.set_cons_succ]
              refine fl_takeA (i := 11) (d := 92) (v := .bool y.f) rfl rfl rfl (by kernel_rfl) (by kernel_rfl) (by kernel_rfl) hS ?_ ?_
              · intro w' hk; obtain ⟨a0, a1, a2, a3, a4, a5, a6, a7, a8, al⟩ := nine_at hk; go_simp
              simp only [Act.put, List.setIfInBounds_toArray, List.set_cons_zero, List.set_cons_succ]
              refine fl_takeA (i := 13) (d := 94) (v := .pointer (some ⟨q, 5, none⟩)) rfl rfl rfl (by kernel_rfl) (by kernel_rfl) (by kernel_rfl) hS ?_ ?_
              · intro w' hk; obtain ⟨a0, a1, a2, a3, a4, a5, a6, a7, a8, al⟩ := nine_at hk; go_simp
              simp only [Act.put, List.setIfInBounds_toArray, List.set_cons_zero, List.set_cons_succ]
              refine fl_takeA (i := 14) (d := 95) (v := .int .i64 y.nx) rfl rfl rfl (by kernel_rfl) (by kernel_rfl) (by kernel_rfl) hS ?_ ?_
              · intro w' hk; obtain ⟨a0, a1, a2, a3, a4, a5, a6, a7, a8, al⟩ := nine_at hk; go_simp
              simp only [Act.put, List.setIfInBounds_toArray, List.set_cons_zero, List.set_cons_succ]
              refine fl_takeA (i := 15) (d := 96) (v := .pointer (some ⟨q, 6, none⟩)) rfl rfl rfl (by kernel_rfl) (by kernel_rfl) (by kernel_rfl) hS ?_ ?_
              · intro w' hk; obtain ⟨a0, a1, a2, a3, a4, a5, a6, a7, a8, al⟩ := nine_at hk; go_simp
              simp only [Act.put, List.setIfInBounds_toArray, List.set_cons_zero, List.set_cons_succ]
              refine fl_takeA (i := 16) (d := 97) (v := .int .i64 y.ny) rfl rfl rfl (by kernel_rfl) (by kernel_rfl) (by kernel_rfl) hS ?_ ?_
              · intro w' hk; obtain ⟨a0, a1, a2, a3, a4, a5, a6, a7, a8, al⟩ := nine_at hk; go_simp
              simp only [Act.put, List.setIfInBounds_toArray, List.set_cons_zero, List.set_cons_succ]
              refine fl_takeA (i := 17) (d := 98) (v := .pointer (some ⟨q, 7, none⟩)) rfl rfl rfl (by kernel_rfl) (by kernel_rfl) (by kernel_rfl) hS ?_ ?_
              · intro w' hk; obtain ⟨a0, a1, a2, a3, a4, a5, a6, a7, a8, al⟩ := nine_at hk; go_simp
              simp only [Act.put, List.setIfInBounds_toArray, List.set_cons_zero, List.set_cons_succ]
              refine fl_takeA (i := 18) (d := 99) (v := .int .i64 y.dx) rfl rfl rfl (by kernel_rfl) (by kernel_rfl) (by kernel_rfl) hS ?_ ?_
              · intro w' hk; obtain ⟨a0, a1, a2, a3, a4, a5, a6, a7, a8, al⟩ := nine_at hk; go_simp
              simp only [Act.put, List.setIfInBounds_toArray, List.set_cons_zero, List.set_cons_succ]
              refine fl_takeA (i := 19) (d := 100) (v := .pointer (some ⟨q, 8, none⟩)) rfl rfl rfl (by kernel_rfl) (by kernel_rfl) (by kernel_rfl) hS ?_ ?_
              · intro w' hk; obtain ⟨a0, a1, a2, a3, a4, a5, a6, a7, a8, al⟩ := nine_at hk; go_simp
              simp only [Act.put, List.setIfInBounds_toArray, List.set_cons_zero, List.set_cons_succ]
              refine fl_takeA (i := 20) (d := 101) (v := .int .i64 y.dy) rfl rfl rfl (by kernel_rfl) (by kernel_rfl) (by kernel_rfl) hS ?_ ?_
              · intro w' hk; obtain ⟨a0, a1, a2, a3, a4, a5, a6, a7, a8, al⟩ := nine_at hk; go_simp
              simp only [Act.put, List.setIfInBounds_toArray, List.set_cons_zero, List.set_cons_succ]
              refine wpAnyH_all (rs := [12]) (by kernel_rfl) (by simp) ?_
              intro i hi
              obtain rfl : i = 12 := by simpa using hi
              refine op_call (d := 93) rfl rfl rfl (by go_simp) ((spec_flag y.f V.drew).mono ?_)
              rintro e y1 ⟨rfl, rfl⟩
              refine ⟨_, rfl, hS, ?_⟩
              simp only [Act.put, List.setIfInBounds_toArray, List.set_cons_zero, List.set_cons_succ]
              refine wpAnyH_all (rs := [21]) (by kernel_rfl) (by simp) ?_
              intro i hi
              obtain rfl : i = 21 := by simpa using hi
              obtain ⟨VN, hVN⟩ : ∃ V', V' = V.drew.alloc (.cells #[.int .i64 y.x, .int .i64 y.y, .int .i64 y.t, .int .i64 (flN y.f), .int .i64 y.nx, .int .i64 y.ny, .int .i64 y.dx, .int .i64 y.dy] 2) := ⟨_, rfl⟩
              refine op_val (d := 102) (v := .slice (some ⟨V.drew.heap.size, 0, none⟩) 8 8) (w' := VN) rfl rfl rfl (by rw [hVN]; go_simp; try rfl) ?_
              simp only [Act.put, List.setIfInBounds_toArray, List.set_cons_zero, List.set_cons_succ]
              have hbN : Below V.heap.size V VN := by rw [hVN]; (repeat' (first | (with_reducible exact Below.refl _ _) | (with_reducible assumption) | (with_reducible refine Below.setCell ?_ ?_ _) | (with_reducible refine Below.alloc ?_ ?_ _) | (with_reducible refine below_drewN ?_ _) | (with_reducible refine Below.drew ?_) | (with_reducible exact Nat.le_refl _) | omega | (simp; done) | (simp; omega)))
              have hS1 : VN.heap[q]? = some (.cells #[.string y.c, .int .i64 y.x, .int .i64 y.y, .int .i64 y.t, .bool y.f, .int .i64 y.nx, .int .i64 y.ny, .int .i64 y.dx, .int .i64 y.dy] 45) := (hbN.block _ (ltC HB3.out.2)).trans HB3.out.2
              refine ⟨hS1, ?_⟩
              have hNS : NSl VN (.slice (some ⟨V.drew.heap.size, 0, none⟩) 8 8) (plN y) := ⟨_, rfl, fun _ => ⟨_, (0, 0), rfl, by rw [hVN]; exact heap_alloc_new _ _⟩⟩
              refine wpAnyH_all (rs := [22]) (by kernel_rfl) (by simp) ?_
              intro i hi
              obtain rfl : i = 22 := by simpa using hi
              refine op_call (d := 103) rfl rfl rfl (by go_simp) ((HLn.out VN _ hNS).mono ?_)
              rintro e y2 ⟨rfl, hb6⟩
              have hbY : Below V.heap.size V y2 := hbN.trans (hb6.mono hbN.size)
              have hS2 : y2.heap[q]? = some (.cells #[.string y.c, .int .i64 y.x, .int .i64 y.y, .int .i64 y.t, .bool y.f, .int .i64 y.nx, .int .i64 y.ny, .int .i64 y.dx, .int .i64 y.dy] 45) := (hbY.block _ (ltC HB3.out.2)).trans HB3.out.2
              refine ⟨_, rfl, hS2, ?_⟩
              simp only [Act.put, List.setIfInBounds_toArray, List.set_cons_zero, List.set_cons_succ]
              refine wpAnyH_all (rs := [23]) (by kernel_rfl) (by simp) ?_
              intro i hi
              obtain rfl : i = 23 := by simpa using hi
              refine op_val (d := 104) (v := .string (Q ++ L)) (w' := y2) rfl rfl rfl (by go_simp; omega) ?_
              simp only [Act.put, List.setIfInBounds_toArray, List.set_cons_zero, List.set_cons_succ]
              refine ⟨hS2, ?_⟩
              refine wpAnyH_all (rs := [24]) (by kernel_rfl) (by simp) ?_
              intro i hi
              obtain rfl : i = 24 := by simpa using hi
              refine op_val (d := 3) (v := .string (Q ++ L)) (w' := y2) rfl rfl rfl (by go_simp; try rfl) ?_
              simp only [Act.put, List.setIfInBounds_toArray, List.set_cons_zero, List.set_cons_succ]
              refine ⟨hS2, wpAnyH_done (by kernel_rfl) (NoPanic.normal ?_) _⟩
              have HB5 : Hid (Below W.heap.size W y2) := HB3.out.1.trans (hbY.mono HB3.out.1.size)
              clear hS hS1 hS2 hb6 hbY hbN hNS hVN HB3 HLn
              go_wp2
              try rw [← hsa]
              go_roundw
              case rel => exact ⟨n + 1, Q ++ L, by go_num, by omega, rfl, by rw [ba_size]; push_cast; omega, HZ1.out, HB5.out⟩
              case measure => simp [intOf]; omega
            · have HE : Hid (Q = catN (fun i => clT (s.getD i clD)) (t + 1) ∧ Below W.heap.size W wr) := by
                refine ⟨?_, hR.out.2⟩
                have ek : n = d.ps.length := by have := HD.out.2.2.2.2; omega
                rw [hR.out.1, HZZ.out, HY0.out.2, HYY.out.1, catN_snoc, getD_c htl, ← HYY.out.2, ek]
                unfold clT
                simp only [ba_assoc]
              have hQs2 : Q.size ≤ (t + 1) * 100000000 := bnd_n hQs (Nat.le_trans hnn hp20)
              clear hR hQs
              have b4 : (0 : Int) ≤ (n : Int) := by omega
              go_wp2
              go_roundw
              case rel => exact ⟨t + 1, Q, by go_num, by omega, rfl, by push_cast at hQs2 ⊢; omega, HE.out⟩
              case measure => simp [intOf]; omega
    · have HE : Hid (Y = flT s ∧ Below W.heap.size W wr) := by
        refine ⟨?_, hR.out.2⟩
        have et : t = s.length := by have := HS.out.2.2.2.1; omega
        rw [hR.out.1, et]; rfl
      clear hR
      by_cases hbig : 4000 < Y.size
      · have hFe : F = ⟨#[]⟩ := by rw [HFF.out, ← HE.out.1, if_pos hbig]
        subst hFe
        clear HFF
        go_wp2
        go_returns
        exact ⟨rfl, HE.out.2⟩
      · have hFe : F = Y := by rw [HFF.out, ← HE.out.1, if_neg hbig]
        subst hFe
        clear HFF
        go_wp2
        go_returns
        exact ⟨rfl, HE.out.2⟩

end Go.Proofs.YtafghanpfnhkpaaDoor
