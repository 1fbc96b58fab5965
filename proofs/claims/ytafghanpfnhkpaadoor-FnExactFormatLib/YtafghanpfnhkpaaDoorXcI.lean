/- Proved here: the text of a cell and of a layout, of the program. -/
import Derived.Test.YtafghanpfnhkpaaDoorXcN
import Derived.Test.YtafghanpfnhkpaaDoorXlI
import Derived.Test.YtafghanpfnhkpaaDoorILib3
import Derived.Test.YtafghanpfnhkpaaDoorReg
import Derived.Deep.DeepCutAuto
namespace Go.Proofs.YtafghanpfnhkpaaDoor
open Go.ChangeShapes Go.WideShapes Go.ChangeAt Go.RowKit Go.Joins
set_option linter.unusedVariables false
set_option linter.unusedSimpArgs false

set_option maxHeartbeats 400000 in
theorem impl_one (b : Bool) (w : World) : Calls Tryd.prog 27 #[.bool b] w fun e w' => e = .returned (.int .i64 (flN b)) ∧ w' = w := by
  cases b with
  | true =>
    go_enter Tryd.func27, Tryd.ntmps27
    go_wp2
    go_returns
    exact ⟨rfl, rfl⟩
  | false =>
    go_enter Tryd.func27, Tryd.ntmps27
    go_wp2
    go_returns
    exact ⟨rfl, rfl⟩
theorem OKb.at {b q : Nat} {w w' : World} {o : Obj} (h : OKb b w w') (hq : w.heap[q]? = some o) (hn : q ≠ b) (ho : ∀ c fz, o ≠ .cells c 5 fz) : w'.heap[q]? = some o :=
  h q o hq (by intro e; injection e with e; exact hn e) ho
set_option maxRecDepth 100000 in
set_option maxHeartbeats 25600000 in
theorem impl_wc (b : Nat) (X : ByteArray) (r : Rc) (c : Cl) (w : World) (ht : Hid (TBb b w)) (hS : SBu b b X.data.toList w) (hC : ∀ X', Below b w X' → Rc1 X' r c) (hok : ClOk c) (hsm : smC 1048576 c) (hX : X.size ≤ 2000000000) :
    Calls Tryd.prog 15 #[.pointer (some ⟨b, 0, none⟩), .agg #[.string r.nm, .slice r.ba r.bn r.bc, .slice r.pa r.pn r.pc]] w fun e w' => (∃ v, e = .returned v) ∧ SBu b b (X ++ clT c).data.toList w' ∧ Below b w w' := by
  have hr := hC w (Below.refl _ _)
  have hrn : r.nm.size ≤ 16 := by rw [hr.nm]; exact hok.nm
  have hbl : r.bn = c.bs.length := hr.bs.len
  have hpl : r.pn = c.ps.length := hr.ps.len
  have hb60 : r.bn ≤ 60 := by have := hok.bn; omega
  have hp20 : r.pn ≤ 20 := by have := hok.pn; omega
  have HRN : Hid (r.nm = c.nm) := hr.nm
  have hlow := hS.lo
  obtain ⟨V0, hV0⟩ : ∃ V, V = w.alloc (.cells #[.string r.nm, .slice r.ba r.bn r.bc, .slice r.pa r.pn r.pc] 38) := ⟨_, rfl⟩
  obtain ⟨p, hp⟩ : ∃ p, p = w.heap.size := ⟨_, rfl⟩
  have hbV : Below w.heap.size w V0 := by rw [hV0]; (repeat' (first | (with_reducible exact Below.refl _ _) | (with_reducible assumption) | (with_reducible refine Below.setCell ?_ ?_ _) | (with_reducible refine Below.alloc ?_ ?_ _) | (with_reducible refine below_drewN ?_ _) | (with_reducible refine Below.drew ?_) | (with_reducible exact Nat.le_refl _) | omega | (simp; done) | (simp; omega)))
  have hpb : p ≠ b := by omega
  have HB0 : Hid (SBu b b X.data.toList V0 ∧ Below b w V0 ∧ V0.heap[p]? = some (.cells #[.string r.nm, .slice r.ba r.bn r.bc, .slice r.pa r.pn r.pc] 38)) := ⟨hS.next hbV, hbV.mono (by omega), by rw [hV0, hp]; exact heap_alloc_new _ _⟩
  have HV0 : Hid (V0 = w.alloc (.cells #[.string r.nm, .slice r.ba r.bn r.bc, .slice r.pa r.pn r.pc] 38) ∧ p = w.heap.size) := ⟨hV0, hp⟩
  have HCC : Hid (∀ X', Below b w X' → Rc1 X' r c) := hC
  have HOK : Hid (ClOk c ∧ smC 1048576 c ∧ r.bn = c.bs.length ∧ r.pn = c.ps.length) := ⟨hok, hsm, hbl, hpl⟩
  have hcs := cel_size (nm := r.nm) hrn
  have HL0 : Hid (Calls Tryd.prog 26 #[.pointer (some ⟨b, 0, none⟩), .string (⟨#[99, 101, 108, 108, 32]⟩ ++ r.nm), .slice none 0 0] V0 fun e w' => (∃ v, e = .returned v) ∧ SBa b b (X ++ linN (wCel ++ r.nm) []).data.toList w' ∧ Below b V0 w' ∧ OKb b V0 w') := impl_wl b b X (wCel ++ r.nm) _ [] V0 (ht.out.step HB0.out.2.1) HB0.out.1 (NSl.nil _) (fun n hn => by cases hn) (by simp) (by rw [ba_size]; have e2 : wCel.size = 5 := rfl; omega)
  clear hr hbl hpl hC hok hsm hS hV0 hp hbV
  go_enter Tryd.func15, Tryd.ntmps15
  go_wp2_with (fail)
  rw [← HV0.out.1, ← HV0.out.2]
  clear HV0
  refine HL0.out.mono ?_
  rintro e w1 ⟨⟨v1, rfl⟩, h1, hb1, ho1⟩
  obtain ⟨Y0, hY0⟩ : ∃ Y, Y = X ++ linN (wCel ++ r.nm) [] := ⟨_, rfl⟩
  rw [← hY0] at h1
  have hY0s : Y0.size ≤ X.size + 1200000 := by rw [hY0, ba_size]; omega
  have HY0 : Hid (Y0 = X ++ linN (wCel ++ c.nm) []) := by unfold Hid; rw [hY0, HRN.out]
  have HB1 : Hid (SBu b b Y0.data.toList w1 ∧ Below b w w1 ∧ w1.heap[p]? = some (.cells #[.string r.nm, .slice r.ba r.bn r.bc, .slice r.pa r.pn r.pc] 38)) := ⟨h1.bu, HB0.out.2.1.trans hb1, ho1.at HB0.out.2.2 hpb (fun c fz e => by injection e with _ e _; exact absurd e (by decide))⟩
  obtain ⟨p0, p1, p2, pl⟩ := three_at HB1.out.2.2
  clear h1 hb1 ho1 HL0 HB0 hY0
  go_wp2
  clear p0 p1 p2 pl
  go_loopw [16] (fun i wr => ∃ (t : Nat) (Y : ByteArray), i = .int .i64 t ∧ t ≤ r.bn ∧ Y.size ≤ X.size + 1200000 + t * 1200000 ∧ Hid (Y = Y0 ++ catN (fun i => lbT (c.bs.getD i lbD)) t ∧ SBu b b Y.data.toList wr ∧ Below b w wr ∧ wr.heap[p]? = some (.cells #[.string r.nm, .slice r.ba r.bn r.bc, .slice r.pa r.pn r.pc] 38))) (fun i _ => r.bn - (intOf i).toNat)
  case atStart => exact ⟨0, Y0, rfl, Nat.zero_le _, by omega, (ba_nil _).symm, HB1.out⟩
  case round =>
    clear HB1
    obtain ⟨t, Y, rfl, htt, hYs, hR⟩ := hrel
    by_cases hlt : t < r.bn
    · have htl : t < c.bs.length := by rw [← HOK.out.2.2.1]; exact hlt
      obtain ⟨g, o, c2, he, hg, hj⟩ := (HCC.out _ hR.out.2.2.1).bs.pos (by omega)
      simp only [Value.slice.injEq] at he
      obtain ⟨hx0, hx1, hx2⟩ := he
      clear hx1 hx2
      obtain ⟨c0, c1, c2, c3, c4⟩ := lbC_at (hj t htl)
      obtain ⟨y, hy⟩ : ∃ y, y = c.bs[t] := ⟨_, rfl⟩
      rw [← hy] at c0 c1 c2 c3 c4
      have hyb := HOK.out.1.bs y (by rw [hy]; exact List.getElem_mem _)
      have hLs := lbT_size hyb
      have hlow2 := hR.out.2.1.lo
      obtain ⟨VP, hVP⟩ : ∃ V, V = (wr.alloc (.cells #[.int .i64 y.l, .int .i64 y.b.x0, .int .i64 y.b.y0, .int .i64 y.b.x1, .int .i64 y.b.y1] 42)).alloc (.cells #[.int .i64 y.l, .int .i64 y.b.x0, .int .i64 y.b.y0, .int .i64 y.b.x1, .int .i64 y.b.y1] 2) := ⟨_, rfl⟩
      have hbP : Below wr.heap.size wr VP := by rw [hVP]; (repeat' (first | (with_reducible exact Below.refl _ _) | (with_reducible assumption) | (with_reducible refine Below.setCell ?_ ?_ _) | (with_reducible refine Below.alloc ?_ ?_ _) | (with_reducible refine below_drewN ?_ _) | (with_reducible refine Below.drew ?_) | (with_reducible exact Nat.le_refl _) | omega | (simp; done) | (simp; omega)))
      have HBP : Hid (Below b w VP ∧ VP.heap[p]? = some (.cells #[.string r.nm, .slice r.ba r.bn r.bc, .slice r.pa r.pn r.pc] 38)) := ⟨hR.out.2.2.1.trans (hbP.mono (by omega)), (hbP.block _ (ltC hR.out.2.2.2)).trans hR.out.2.2.2⟩
      have HLn : Hid (Calls Tryd.prog 26 #[.pointer (some ⟨b, 0, none⟩), .string ⟨#[98, 111, 120]⟩, .slice (some ⟨wr.heap.size + 1, 0, none⟩) 5 5] VP fun e w' => (∃ v, e = .returned v) ∧ SBa b b (Y ++ lbT y).data.toList w' ∧ Below b VP w' ∧ OKb b VP w') := by
        refine impl_wl b b Y wBox _ (lbN y) VP (ht.out.step HBP.out.1) (hR.out.2.1.next hbP) ⟨_, rfl, fun _ => ⟨_, (0, 0), rfl, ?_⟩⟩ (wide hyb) (by simp [lbN]) ?_
        · rw [hVP]; exact heap_alloc_at1 wr _ _
        · have e2 : wBox.size = 3 := rfl; omega
      have HY : Hid (Y ++ lbT y = Y0 ++ catN (fun i => lbT (c.bs.getD i lbD)) (t + 1)) := by
        unfold Hid
        rw [catN_snoc, getD_c htl, ← hy, ← ba_assoc, hR.out.1]
      have HVP : Hid (VP = (wr.alloc (.cells #[.int .i64 y.l, .int .i64 y.b.x0, .int .i64 y.b.y0, .int .i64 y.b.x1, .int .i64 y.b.y1] 42)).alloc (.cells #[.int .i64 y.l, .int .i64 y.b.x0, .int .i64 y.b.y0, .int .i64 y.b.x1, .int .i64 y.b.y1] 2)) := hVP
      have hsa : r.ba = some ⟨g, o, none⟩ := hx0
      clear hj hy hyb hR hx0 hVP hbP
      have b0 : (0 : Int) ≤ (t : Int) := by omega
      have b1 : (t : Int) < (r.bn : Int) := by omega
      go_wp2_with (fail)
      rw [← HVP.out]
      clear HVP
      refine HLn.out.mono ?_
      rintro e w5 ⟨⟨v5, rfl⟩, h5, hb5, ho5⟩
      have HB5 : Hid (SBu b b (Y ++ lbT y).data.toList w5 ∧ Below b w w5 ∧ w5.heap[p]? = some (.cells #[.string r.nm, .slice r.ba r.bn r.bc, .slice r.pa r.pn r.pc] 38)) := ⟨h5.bu, HBP.out.1.trans hb5, ho5.at HBP.out.2 hpb (fun c fz e => by injection e with _ e _; exact absurd e (by decide))⟩
      clear h5 hb5 ho5 HLn HBP c0 c1 c2 c3 c4 hg
      go_wp2
      try rw [← hsa]
      go_roundw
      case rel => exact ⟨t + 1, Y ++ lbT y, by go_num, by omega, by rw [ba_size]; push_cast; omega, HY.out, HB5.out⟩
      case measure => simp [intOf]; omega
    · have HY : Hid (Y = Y0 ++ catN (fun i => lbT (c.bs.getD i lbD)) c.bs.length ∧ SBu b b Y.data.toList wr ∧ Below b w wr ∧ wr.heap[p]? = some (.cells #[.string r.nm, .slice r.ba r.bn r.bc, .slice r.pa r.pn r.pc] 38)) := by
        have e : t = c.bs.length := by have := HOK.out.2.2.1; omega
        rw [← e]; exact hR.out
      have hYs2 : Y.size ≤ X.size + 73200000 := by omega
      obtain ⟨p0, p1, p2, pl⟩ := three_at hR.out.2.2.2
      clear hR hYs
      go_wp2
      clear p0 p1 p2 pl
      go_loopw [41] (fun i wr => ∃ (t : Nat) (Z : ByteArray), i = .int .i64 t ∧ t ≤ r.pn ∧ Z.size ≤ X.size + 73200000 + t * 1200000 ∧ Hid (Z = Y ++ catN (fun i => plT (c.ps.getD i plD)) t ∧ SBu b b Z.data.toList wr ∧ Below b w wr)) (fun i _ => r.pn - (intOf i).toNat)
      case atStart => exact ⟨0, Y, rfl, Nat.zero_le _, by omega, (ba_nil _).symm, HY.out.2.1, HY.out.2.2.1⟩
      case round =>
        have HYY : Hid (Y = Y0 ++ catN (fun i => lbT (c.bs.getD i lbD)) c.bs.length) := HY.out.1
        clear HY
        obtain ⟨t, Z, rfl, htt, hZs, hR⟩ := hrel
        by_cases hlt : t < r.pn
        · have htl : t < c.ps.length := by rw [← HOK.out.2.2.2]; exact hlt
          obtain ⟨g, o, c2, he, hg, hj⟩ := (HCC.out _ hR.out.2.2).ps.pos (by omega)
          simp only [Value.slice.injEq] at he
          obtain ⟨hx0, hx1, hx2⟩ := he
          clear hx1 hx2
          obtain ⟨c0, c1, c2, c3, c4, c5, c6, c7, c8⟩ := plC_at (hj t htl)
          obtain ⟨y, hy⟩ : ∃ y, y = c.ps[t] := ⟨_, rfl⟩
          rw [← hy] at c0 c1 c2 c3 c4 c5 c6 c7 c8
          have hyb := HOK.out.1.ps y (by rw [hy]; exact List.getElem_mem _)
          have hyc : y.c.size ≤ 1048576 := by have := HOK.out.2.1.pl t htl; unfold smP at this; rw [hy]; omega
          have hLs := plT_size hyc hyb
          have hlow2 := hR.out.2.1.lo
          obtain ⟨V, hV⟩ : ∃ V, V = wr.alloc (.cells #[.string y.c, .int .i64 y.x, .int .i64 y.y, .int .i64 y.t, .bool y.f, .int .i64 y.nx, .int .i64 y.ny, .int .i64 y.dx, .int .i64 y.dy] 45) := ⟨_, rfl⟩
          obtain ⟨q, hq⟩ : ∃ q, q = wr.heap.size := ⟨_, rfl⟩
          have hbV : Below wr.heap.size wr V := by rw [hV]; (repeat' (first | (with_reducible exact Below.refl _ _) | (with_reducible assumption) | (with_reducible refine Below.setCell ?_ ?_ _) | (with_reducible refine Below.alloc ?_ ?_ _) | (with_reducible refine below_drewN ?_ _) | (with_reducible refine Below.drew ?_) | (with_reducible exact Nat.le_refl _) | omega | (simp; done) | (simp; omega)))
          have HB3 : Hid (SBu b b Z.data.toList V ∧ Below b w V ∧ V.heap[q]? = some (.cells #[.string y.c, .int .i64 y.x, .int .i64 y.y, .int .i64 y.t, .bool y.f, .int .i64 y.nx, .int .i64 y.ny, .int .i64 y.dx, .int .i64 y.dy] 45) ∧ q ≠ b) := ⟨hR.out.2.1.next hbV, hR.out.2.2.trans (hbV.mono (by omega)), by rw [hV, hq]; exact heap_alloc_new _ _, by omega⟩
          have HLn : Hid (∀ (X' : World) (v : Value), NSl X' v (plN y) → SBu b b Z.data.toList X' → Below b w X' → Calls Tryd.prog 26 #[.pointer (some ⟨b, 0, none⟩), .string (⟨#[112, 108, 97, 99, 101, 32]⟩ ++ y.c), v] X' fun e w' => (∃ v, e = .returned v) ∧ SBa b b (Z ++ plT y).data.toList w' ∧ Below b X' w' ∧ OKb b X' w') := fun X' v hv hX1 hX2 => impl_wl b b Z (wPlc ++ y.c) v (plN y) X' (ht.out.step hX2) hX1 hv (wide hyb) (by simp [plN]) (by rw [ba_size]; have e2 : wPlc.size = 6 := rfl; omega)
          have HZ1 : Hid (Z ++ plT y = Y ++ catN (fun i => plT (c.ps.getD i plD)) (t + 1)) := by
            unfold Hid; rw [catN_snoc, getD_c htl, ← hy, ← ba_assoc, hR.out.1]
          have HV : Hid (V = wr.alloc (.cells #[.string y.c, .int .i64 y.x, .int .i64 y.y, .int .i64 y.t, .bool y.f, .int .i64 y.nx, .int .i64 y.ny, .int .i64 y.dx, .int .i64 y.dy] 45) ∧ q = wr.heap.size) := ⟨hV, hq⟩
          have hsa : r.pa = some ⟨g, o, none⟩ := hx0
          clear hj hy hyb hR hx0 hV hq hbV
          have b0 : (0 : Int) ≤ (t : Int) := by omega
          have b1 : (t : Int) < (r.pn : Int) := by omega
          go_wp2_with (fail)
          rw [← HV.out.1, ← HV.out.2]
          clear HV c0 c1 c2 c3 c4 c5 c6 c7 c8 hg
          refine wp_region_holdsA (S := fun w' => w'.heap[q]? = some (.cells #[.string y.c, .int .i64 y.x, .int .i64 y.y, .int .i64 y.t, .bool y.f, .int .i64 y.nx, .int .i64 y.ny, .int .i64 y.dx, .int .i64 y.dy] 45)) (by kernel_rfl) HB3.out.2.2.1 (fun hS => ?_)
          refine fl_takeA (i := 0) (d := 45) (v := .pointer (some ⟨b, 0, none⟩)) rfl rfl rfl (by kernel_rfl) (by kernel_rfl) (by kernel_rfl) hS ?_ ?_
          · intro w' hk; obtain ⟨a0, a1, a2, a3, a4, a5, a6, a7, a8, al⟩ := nine_at hk; go_simp
          simp only [Act.put, List.setIfInBounds_toArray, List.set_cons_zero, List.set_cons_succ]
          refine fl_takeA (i := 1) (d := 46) (v := .pointer (some ⟨q, 0, none⟩)) rfl rfl rfl (by kernel_rfl) (by kernel_rfl) (by kernel_rfl) hS ?_ ?_
          · intro w' hk; obtain ⟨a0, a1, a2, a3, a4, a5, a6, a7, a8, al⟩ := nine_at hk; go_simp
          simp only [Act.put, List.setIfInBounds_toArray, List.set_cons_zero, List.set_cons_succ]
          refine fl_takeA (i := 2) (d := 47) (v := .string y.c) rfl rfl rfl (by kernel_rfl) (by kernel_rfl) (by kernel_rfl) hS ?_ ?_
          · intro w' hk; obtain ⟨a0, a1, a2, a3, a4, a5, a6, a7, a8, al⟩ := nine_at hk; go_simp
          simp only [Act.put, List.setIfInBounds_toArray, List.set_cons_zero, List.set_cons_succ]
          refine fl_takeA (i := 3) (d := 48) (v := .string (⟨#[112, 108, 97, 99, 101, 32]⟩ ++ y.c)) rfl rfl rfl (by kernel_rfl) (by kernel_rfl) (by kernel_rfl) hS ?_ ?_
          · intro w' hk; obtain ⟨a0, a1, a2, a3, a4, a5, a6, a7, a8, al⟩ := nine_at hk; go_simp; omega
          simp only [Act.put, List.setIfInBounds_toArray, List.set_cons_zero, List.set_cons_succ]
          refine fl_takeA (i := 4) (d := 49) (v := .pointer (some ⟨q, 1, none⟩)) rfl rfl rfl (by kernel_rfl) (by kernel_rfl) (by kernel_rfl) hS ?_ ?_
          · intro w' hk; obtain ⟨a0, a1, a2, a3, a4, a5, a6, a7, a8, al⟩ := nine_at hk; go_simp
          simp only [Act.put, List.setIfInBounds_toArray, List.set_cons_zero, List.set_cons_succ]
          refine fl_takeA (i := 5) (d := 50) (v := .int .i64 y.x) rfl rfl rfl (by kernel_rfl) (by kernel_rfl) (by kernel_rfl) hS ?_ ?_
          · intro w' hk; obtain ⟨a0, a1, a2, a3, a4, a5, a6, a7, a8, al⟩ := nine_at hk; go_simp
          simp only [Act.put, List.setIfInBounds_toArray, List.set_cons_zero, List.set_cons_succ]
          refine fl_takeA (i := 6) (d := 51) (v := .pointer (some ⟨q, 2, none⟩)) rfl rfl rfl (by kernel_rfl) (by kernel_rfl) (by kernel_rfl) hS ?_ ?_
          · intro w' hk; obtain ⟨a0, a1, a2, a3, a4, a5, a6, a7, a8, al⟩ := nine_at hk; go_simp
          simp only [Act.put, List.setIfInBounds_toArray, List.set_cons_zero, List.set_cons_succ]
          refine fl_takeA (i := 7) (d := 52) (v := .int .i64 y.y) rfl rfl rfl (by kernel_rfl) (by kernel_rfl) (by kernel_rfl) hS ?_ ?_
          · intro w' hk; obtain ⟨a0, a1, a2, a3, a4, a5, a6, a7, a8, al⟩ := nine_at hk; go_simp
          simp only [Act.put, List.setIfInBounds_toArray, List.set_cons_zero, List.set_cons_succ]
          refine fl_takeA (i := 8) (d := 53) (v := .pointer (some ⟨q, 3, none⟩)) rfl rfl rfl (by kernel_rfl) (by kernel_rfl) (by kernel_rfl) hS ?_ ?_
          · intro w' hk; obtain ⟨a0, a1, a2, a3, a4, a5, a6, a7, a8, al⟩ := nine_at hk; go_simp
          simp only [Act.put, List.setIfInBounds_toArray, List.set_cons_zero, List.set_cons_succ]
          refine fl_takeA (i := 9) (d := 54) (v := .int .i64 y.t) rfl rfl rfl (by kernel_rfl) (by kernel_rfl) (by kernel_rfl) hS ?_ ?_
          · intro w' hk; obtain ⟨a0, a1, a2, a3, a4, a5, a6, a7, a8, al⟩ := nine_at hk; go_simp
          simp only [Act.put, List.setIfInBounds_toArray, List.set_cons_zero, List.set_cons_succ]
          refine fl_takeA (i := 10) (d := 55) (v := .pointer (some ⟨q, 4, none⟩)) rfl rfl rfl (by kernel_rfl) (by kernel_rfl) (by kernel_rfl) hS ?_ ?_
          · intro w' hk; obtain ⟨a0, a1, a2, a3, a4, a5, a6, a7, a8, al⟩ := nine_at hk; go_simp
          simp only [Act.put, List.setIfInBounds_toArray, List.set_cons_zero, List.set_cons_succ]
          refine fl_takeA (i := 11) (d := 56) (v := .bool y.f) rfl rfl rfl (by kernel_rfl) (by kernel_rfl) (by kernel_rfl) hS ?_ ?_
          · intro w' hk; obtain ⟨a0, a1, a2, a3, a4, a5, a6, a7, a8, al⟩ := nine_at hk; go_simp
          simp only [Act.put, List.setIfInBounds_toArray, List.set_cons_zero, List.set_cons_succ]
          refine fl_takeA (i := 13) (d := 58) (v := .pointer (some ⟨q, 5, none⟩)) rfl rfl rfl (by kernel_rfl) (by kernel_rfl) (by kernel_rfl) hS ?_ ?_
          · intro w' hk; obtain ⟨a0, a1, a2, a3, a4, a5, a6, a7, a8, al⟩ := nine_at hk; go_simp
          simp only [Act.put, List.setIfInBounds_toArray, List.set_cons_zero, List.set_cons_succ]
          refine fl_takeA (i := 14) (d := 59) (v := .int .i64 y.nx) rfl rfl rfl (by kernel_rfl) (by kernel_rfl) (by kernel_rfl) hS ?_ ?_
          · intro w' hk; obtain ⟨a0, a1, a2, a3, a4, a5, a6, a7, a8, al⟩ := nine_at hk; go_simp
          simp only [Act.put, List.setIfInBounds_toArray, List.set_cons_zero, List.set_cons_succ]
          refine fl_takeA (i := 15) (d := 60) (v := .pointer (some ⟨q, 6, none⟩)) rfl rfl rfl (by kernel_rfl) (by kernel_rfl) (by kernel_rfl) hS ?_ ?_
          · intro w' hk; obtain ⟨a0, a1, a2, a3, a4, a5, a6, a7, a8, al⟩ := nine_at hk; go_simp
          simp only [Act.put, List.setIfInBounds_toArray, List.set_cons_zero, List.set_cons_succ]
          refine fl_takeA (i := 16) (d := 61) (v := .int .i64 y.ny) rfl rfl rfl (by kernel_rfl) (by kernel_rfl) (by kernel_rfl) hS ?_ ?_
          · intro w' hk; obtain ⟨a0, a1, a2, a3, a4, a5, a6, a7, a8, al⟩ := nine_at hk; go_simp
          simp only [Act.put, List.setIfInBounds_toArray, List.set_cons_zero, List.set_cons_succ]
          refine fl_takeA (i := 17) (d := 62) (v := .pointer (some ⟨q, 7, none⟩)) rfl rfl rfl (by kernel_rfl) (by kernel_rfl) (by kernel_rfl) hS ?_ ?_
          · intro w' hk; obtain ⟨a0, a1, a2, a3, a4, a5, a6, a7, a8, al⟩ := nine_at hk; go_simp
          simp only [Act.put, List.setIfInBounds_toArray, List.set_cons_zero, List.set_cons_succ]
          refine fl_takeA (i := 18) (d := 63) (v := .int .i64 y.dx) rfl rfl rfl (by kernel_rfl) (by kernel_rfl) (by kernel_rfl) hS ?_ ?_
          · intro w' hk; obtain ⟨a0, a1, a2, a3, a4, a5, a6, a7, a8, al⟩ := nine_at hk; go_simp
          simp only [Act.put, List.setIfInBounds_toArray, List.set_cons_zero, List.set_cons_succ]
          refine fl_takeA (i := 19) (d := 64) (v := .pointer (some ⟨q, 8, none⟩)) rfl rfl rfl (by kernel_rfl) (by kernel_rfl) (by kernel_rfl) hS ?_ ?_
          · intro w' hk; obtain ⟨a0, a1, a2, a3, a4, a5, a6, a7, a8, al⟩ := nine_at hk; go_simp
          simp only [Act.put, List.setIfInBounds_toArray, List.set_cons_zero, List.set_cons_succ]
          refine fl_takeA (i := 20) (d := 65) (v := .int .i64 y.dy) rfl rfl rfl (by kernel_rfl) (by kernel_rfl) (by kernel_rfl) hS ?_ ?_
          · intro w' hk; obtain ⟨a0, a1, a2, a3, a4, a5, a6, a7, a8, al⟩ := nine_at hk; go_simp
          simp only [Act.put, List.setIfInBounds_toArray, List.set_cons_zero, List.set_cons_succ]
          refine wpAnyH_all (rs := [12]) (by kernel_rfl) (by simp) ?_
          intro i hi
          obtain rfl : i = 12 := by simpa using hi
          refine op_call (d := 57) rfl rfl rfl (by go_simp) ((impl_one y.f V.drew).mono ?_)
          rintro e y1 ⟨rfl, rfl⟩
          refine ⟨_, rfl, hS, ?_⟩
          simp only [Act.put, List.setIfInBounds_toArray, List.set_cons_zero, List.set_cons_succ]
          refine wpAnyH_all (rs := [21]) (by kernel_rfl) (by simp) ?_
          intro i hi
          obtain rfl : i = 21 := by simpa using hi
          obtain ⟨VN, hVN⟩ : ∃ V', V' = V.drew.alloc (.cells #[.int .i64 y.x, .int .i64 y.y, .int .i64 y.t, .int .i64 (flN y.f), .int .i64 y.nx, .int .i64 y.ny, .int .i64 y.dx, .int .i64 y.dy] 2) := ⟨_, rfl⟩
          refine op_val (d := 66) (v := .slice (some ⟨V.drew.heap.size, 0, none⟩) 8 8) (w' := VN) rfl rfl rfl (by rw [hVN]; go_simp; try rfl) ?_
          simp only [Act.put, List.setIfInBounds_toArray, List.set_cons_zero, List.set_cons_succ]
          have hbN : Below V.heap.size V VN := by rw [hVN]; (repeat' (first | (with_reducible exact Below.refl _ _) | (with_reducible assumption) | (with_reducible refine Below.setCell ?_ ?_ _) | (with_reducible refine Below.alloc ?_ ?_ _) | (with_reducible refine below_drewN ?_ _) | (with_reducible refine Below.drew ?_) | (with_reducible exact Nat.le_refl _) | omega | (simp; done) | (simp; omega)))
          have hS1 : VN.heap[q]? = some (.cells #[.string y.c, .int .i64 y.x, .int .i64 y.y, .int .i64 y.t, .bool y.f, .int .i64 y.nx, .int .i64 y.ny, .int .i64 y.dx, .int .i64 y.dy] 45) := (hbN.block _ (ltC HB3.out.2.2.1)).trans HB3.out.2.2.1
          refine ⟨hS1, ?_⟩
          have hNS : NSl VN (.slice (some ⟨V.drew.heap.size, 0, none⟩) 8 8) (plN y) := ⟨_, rfl, fun _ => ⟨_, (0, 0), rfl, by rw [hVN]; exact heap_alloc_new _ _⟩⟩
          have hlowV := HB3.out.1.lo
          have HY1 : Hid (SBu b b Z.data.toList VN ∧ Below b w VN) := ⟨HB3.out.1.next hbN, HB3.out.2.1.trans (hbN.mono (by omega))⟩
          refine wpAnyH_all (rs := [22]) (by kernel_rfl) (by simp) ?_
          intro i hi
          obtain rfl : i = 22 := by simpa using hi
          refine op_call (d := 67) rfl rfl rfl (by go_simp) ((HLn.out VN _ hNS HY1.out.1 HY1.out.2).mono ?_)
          rintro e y2 ⟨⟨v2, rfl⟩, h6, hb6, ho6⟩
          have hS2 : y2.heap[q]? = some (.cells #[.string y.c, .int .i64 y.x, .int .i64 y.y, .int .i64 y.t, .bool y.f, .int .i64 y.nx, .int .i64 y.ny, .int .i64 y.dx, .int .i64 y.dy] 45) := ho6.at hS1 HB3.out.2.2.2 (fun c fz e => by injection e with _ e _; exact absurd e (by decide))
          refine ⟨_, rfl, hS2, ?_⟩
          simp only [Act.put, List.setIfInBounds_toArray, List.set_cons_zero, List.set_cons_succ]
          refine wpAnyH_done (by kernel_rfl) (NoPanic.normal ?_) _
          have HB5 : Hid (SBu b b (Z ++ plT y).data.toList y2 ∧ Below b w y2) := ⟨h6.bu, HY1.out.2.trans hb6⟩
          clear hS hS1 hS2 h6 hb6 ho6 hbN hNS hVN HY1 HB3 HLn
          go_wp2
          try rw [← hsa]
          go_roundw
          case rel => exact ⟨t + 1, Z ++ plT y, by go_num, by omega, by rw [ba_size]; push_cast; omega, HZ1.out, HB5.out⟩
          case measure => simp [intOf]; omega
        · have HE : Hid (Z = X ++ clT c ∧ SBu b b Z.data.toList wr ∧ Below b w wr) := by
            refine ⟨?_, hR.out.2⟩
            have et : t = c.ps.length := by have := HOK.out.2.2.2; omega
            rw [hR.out.1, et, HYY.out, HY0.out]
            unfold clT
            simp only [ba_assoc]
          clear hR
          go_wp2
          go_end0
          exact ⟨⟨_, rfl⟩, by rw [← HE.out.1]; exact HE.out.2⟩

set_option maxRecDepth 100000 in
set_option maxHeartbeats 12800000 in
theorem impl_fl (a : Option Addr) (m cc : Nat) (s : List Cl) (W : World) (ht : Hid (Tab W)) (hm : m ≤ 2000000) (h : RK W (.slice a m cc) s) (hsm : ∀ j (h : j < s.length), smC 1048576 s[j]) :
    Calls Tryd.prog 7 #[.slice a m cc] W fun e w' => e = .returned (.string (flS s)) ∧ Below W.heap.size W w' := by
  obtain ⟨K, hK⟩ : ∃ K, K = libK s := ⟨_, rfl⟩
  obtain ⟨F, hF⟩ : ∃ F, F = flS s := ⟨_, rfl⟩
  have HF : Hid (Calls Tryd.prog 14 #[.slice a m cc] W fun e w' => e = .returned (.int .i64 K) ∧ Below W.heap.size W w') := by rw [hK]; exact impl_lib a m cc s W hm h hsm
  rw [← hF]
  by_cases hk0 : K = 0
  case neg =>
    have hF0 : F = ⟨#[]⟩ := by rw [hF]; unfold flS; rw [← hK, if_neg hk0]
    subst hF0
    clear hK hF h hsm ht
    go_enter Tryd.func7, Tryd.ntmps7
    go_wp2_with (fail)
    refine HF.out.mono ?_
    rintro e w1 ⟨rfl, hb1⟩
    have HB1 : Hid (Below W.heap.size W w1) := hb1
    clear hb1 HF
    go_wp2
    go_returns
    exact ⟨rfl, HB1.out⟩
  have hok := lib_ok (hK.symm.trans hk0)
  have HFF : Hid (F = if 4000 < (flT s).size then ⟨#[]⟩ else flT s) := by unfold Hid; rw [hF]; unfold flS; rw [← hK, if_pos hk0]
  obtain ⟨rs, hrs, hrel⟩ := h
  have hmr : m = rs.length := hrs.len
  have hms : m = s.length := hmr.trans hrel.len
  have hm20 : m ≤ 20 := by have := hok.1; omega
  have HS : Hid (RG 3 rcC W (.slice a m cc) rs ∧ RelK W rs s ∧ m = rs.length ∧ m = s.length ∧ (∀ j (h : j < s.length), ClOk s[j]) ∧ ∀ j (h : j < s.length), smC 1048576 s[j]) := ⟨hrs, hrel, hmr, hms, hok.2, hsm⟩
  subst hk0
  clear hK hF hrs hrel hmr hms hok hsm
  go_enter Tryd.func7, Tryd.ntmps7
  go_wp2_with (fail)
  refine HF.out.mono ?_
  rintro e w1 ⟨rfl, hb1⟩
  have HB1 : Hid (Below W.heap.size W w1) := hb1
  clear hb1 HF
  obtain ⟨b, hb⟩ : ∃ b, b = w1.heap.size := ⟨_, rfl⟩
  obtain ⟨V1, hV1⟩ : ∃ V, V = w1.alloc (.cells #[.pointer none, .slice none 0 0] 51) := ⟨_, rfl⟩
  have HBW : Hid (Below W.heap.size W V1 ∧ W.heap.size ≤ b ∧ V1.heap.size = b + 1) := ⟨by rw [hV1]; exact HB1.out.alloc HB1.out.size _, by rw [hb]; exact HB1.out.size, by rw [hV1, hb]; simp⟩
  have HWX : Hid (∀ X, Below b V1 X → Below W.heap.size W X) := fun X hX => HBW.out.1.trans (hX.mono HBW.out.2.1)
  have HTB : Hid (TBb b V1) := fun X hX => ht.out.step (HWX.out X hX)
  have HSB : Hid (SBu b b (⟨#[]⟩ : ByteArray).data.toList V1) := by
    unfold Hid; rw [hV1, hb]; exact SBu.new w1
  have HV1 : Hid (V1 = w1.alloc (.cells #[.pointer none, .slice none 0 0] 51) ∧ b = w1.heap.size) := ⟨hV1, hb⟩
  clear hV1 hb ht HB1
  go_upto_region 5 with (fail)
  rw [← HV1.out.1, ← HV1.out.2]
  clear HV1
  go_loopw [11] (fun i wr => ∃ (t : Nat) (Z : ByteArray), i = .int .i64 t ∧ t ≤ m ∧ Z.size ≤ t * 100000000 ∧ Hid (Z = catN (fun i => clT (s.getD i clD)) t ∧ SBu b b Z.data.toList wr ∧ Below b V1 wr)) (fun i _ => m - (intOf i).toNat)
  case atStart => exact ⟨0, ⟨#[]⟩, rfl, Nat.zero_le _, by simp [ByteArray.size], rfl, HSB.out, Below.refl _ _⟩
  case round =>
    clear HSB
    obtain ⟨t, Z, rfl, htt, hZs, hR⟩ := hrel
    by_cases hlt : t < m
    · have htl : t < s.length := by rw [← HS.out.2.2.2.1]; exact hlt
      have htr : t < rs.length := by rw [← HS.out.2.2.1]; exact hlt
      obtain ⟨g, o, c2, he, hg, hj⟩ := (HS.out.1.below (HWX.out _ hR.out.2.2)).pos (by omega)
      simp only [Value.slice.injEq] at he
      obtain ⟨rfl, hx1, hx2⟩ := he
      clear hx1 hx2
      obtain ⟨c0, c1, c2⟩ := rcC_at (hj t htr)
      obtain ⟨r, hr⟩ : ∃ r, r = rs[t] := ⟨_, rfl⟩
      rw [← hr] at c0 c1 c2
      obtain ⟨d, hd⟩ : ∃ d, d = s[t] := ⟨_, rfl⟩
      have hlow2 := hR.out.2.1.lo
      obtain ⟨V, hV⟩ : ∃ V, V = wr.alloc (.cells #[.string r.nm, .slice r.ba r.bn r.bc, .slice r.pa r.pn r.pc] 38) := ⟨_, rfl⟩
      have hbV : Below wr.heap.size wr V := by rw [hV]; (repeat' (first | (with_reducible exact Below.refl _ _) | (with_reducible assumption) | (with_reducible refine Below.setCell ?_ ?_ _) | (with_reducible refine Below.alloc ?_ ?_ _) | (with_reducible refine below_drewN ?_ _) | (with_reducible refine Below.drew ?_) | (with_reducible exact Nat.le_refl _) | omega | (simp; done) | (simp; omega)))
      have HBV : Hid (Below b V1 V) := hR.out.2.2.trans (hbV.mono (by omega))
      have HC : Hid (Calls Tryd.prog 15 #[.pointer (some ⟨b, 0, none⟩), .agg #[.string r.nm, .slice r.ba r.bn r.bc, .slice r.pa r.pn r.pc]] V fun e w' => (∃ v, e = .returned v) ∧ SBu b b (Z ++ clT d).data.toList w' ∧ Below b V w') := by
        refine impl_wc b Z r d V (HTB.out.step HBV.out) (hR.out.2.1.next hbV) (fun X' hX' => ?_) (by rw [hd]; exact HS.out.2.2.2.2.1 t htl) (by rw [hd]; exact HS.out.2.2.2.2.2 t htl) (by omega)
        have := (HS.out.2.1.below (HWX.out _ (HBV.out.trans hX'))).at_ t htr htl
        rw [← hr, ← hd] at this
        exact this
      have HZ1 : Hid (Z ++ clT d = catN (fun i => clT (s.getD i clD)) (t + 1) ∧ (Z ++ clT d).size ≤ (t + 1) * 100000000) := by
        refine ⟨by rw [catN_snoc, getD_c htl, ← hd, hR.out.1], ?_⟩
        rw [ba_size]
        have := clT_size (c := d) (by rw [hd]; exact HS.out.2.2.2.2.1 t htl) (fun j hj => by
          have h9 := (HS.out.2.2.2.2.2 t htl).pl j (by rw [← hd]; exact hj)
          unfold smP at h9
          subst hd
          omega)
        omega
      have HV : Hid (V = wr.alloc (.cells #[.string r.nm, .slice r.ba r.bn r.bc, .slice r.pa r.pn r.pc] 38)) := hV
      clear hj hr hd hR hV hbV
      have b0 : (0 : Int) ≤ (t : Int) := by omega
      have b1 : (t : Int) < (m : Int) := by omega
      go_wp2_with (fail)
      rw [← HV.out]
      clear HV
      refine HC.out.mono ?_
      rintro e w5 ⟨⟨v5, rfl⟩, h5, hb5⟩
      have HB5 : Hid (SBu b b (Z ++ clT d).data.toList w5 ∧ Below b V1 w5) := ⟨h5, HBV.out.trans hb5⟩
      clear h5 hb5 HC HBV c0 c1 c2 hg
      go_wp2
      go_roundw
      case rel => exact ⟨t + 1, Z ++ clT d, by go_num, by omega, by have := HZ1.out.2; push_cast; omega, HZ1.out.1, HB5.out⟩
      case measure => simp [intOf]; omega
    · have HE : Hid (Z = flT s ∧ Below b V1 wr ∧ SBu b b Z.data.toList wr) := by
        refine ⟨?_, hR.out.2.2, hR.out.2.1⟩
        have et : t = s.length := by have := HS.out.2.2.2.1; omega
        rw [hR.out.1, et]; rfl
      have HLE : Hid (∀ X, SBu b b Z.data.toList X → Calls Tryd.prog 16 #[.pointer (some ⟨b, 0, none⟩)] X fun e w' => e = .returned (.int .i64 (Z.size : Int)) ∧ w' = X) := fun X hX => by
        have := Tryd.Builder_Len b b _ X hX
        rw [Lib.byteCells_length] at this
        exact this
      have hlow := hR.out.2.1.lo
      clear hR
      go_wp2_with (fail)
      refine (HLE.out wr HE.out.2.2).mono ?_
      rintro e w7 ⟨rfl, rfl⟩
      clear HLE
      by_cases hbig : 4000 < Z.size
      · have hFe : F = ⟨#[]⟩ := by rw [HFF.out, ← HE.out.1, if_pos hbig]
        subst hFe
        clear HFF
        have hbig2 : (4000 : Int) < (Z.size : Int) := by omega
        go_wp2
        go_returns
        exact ⟨rfl, HWX.out _ HE.out.2.1⟩
      · have hFe : F = Z := by rw [HFF.out, ← HE.out.1, if_neg hbig]
        subst hFe
        clear HFF
        have hbig2 : ¬ (4000 : Int) < (F.size : Int) := by omega
        have HST2 : Hid (Calls Tryd.prog 17 #[.pointer (some ⟨b, 0, none⟩)] w7 fun e w' => e = .returned (.string F) ∧ Below b w7 w') := Tryd.Builder_String_any b b F.data.toList w7 HE.out.2.2 (by omega)
        go_wp2_with (fail)
        refine HST2.out.mono ?_
        rintro e w8 ⟨rfl, hb8⟩
        have HB8 : Hid (Below W.heap.size W w8) := HWX.out _ (HE.out.2.1.trans hb8)
        clear hb8 HST2
        go_wp2
        go_returns
        exact ⟨rfl, HB8.out⟩

end Go.Proofs.YtafghanpfnhkpaaDoor
