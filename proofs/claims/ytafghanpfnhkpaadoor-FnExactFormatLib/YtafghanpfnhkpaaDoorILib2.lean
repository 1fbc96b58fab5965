/- Proved here: cellFault and LibFault of the program: clK, libK. -/
import Derived.Test.YtafghanpfnhkpaaDoorILib
import Derived.Test.YtafghanpfnhkpaaDoorSLib2
namespace Go.Proofs.YtafghanpfnhkpaaDoor
open Go.RowKit Go.WideMaps Go.Maps
set_option linter.unusedVariables false
set_option linter.unusedSimpArgs false

/-- Which names are ahead, by how often. -/
def ahC (cnt : ByteArray → Int) (nm : ByteArray) : Bool := decide (0 < cnt nm)

/-- The cell's copy in a block of the call's own. -/
structure LD (w wr : World) (nm : ByteArray) (vb vp : Value) : Prop where
  c : wr.heap[w.heap.size]? = some (.cells #[.string nm, vb, vp] 38)
  bl : Below w.heap.size w wr
theorem LD.next {w wr w' : World} {nm : ByteArray} {vb vp : Value} (h : LD w wr nm vb vp) (hb : Below wr.heap.size wr w') : LD w w' nm vb vp :=
  ⟨(hb.block _ (three_at h.c).2.2.2).trans h.c, h.bl.trans (hb.mono h.bl.size)⟩

set_option maxRecDepth 10000 in
set_option maxHeartbeats 6400000 in
theorem impl_cellf' (nm : ByteArray) (ba : Option Addr) (bn bc : Nat) (pa : Option Addr) (pn pc : Nat) (x : Cl) (b n : Nat) (cnt : ByteArray → Int) (w : World) (hc : ∀ q, 0 ≤ cnt q) (hsm : smC 1048576 x) (hnm : nm = x.nm) (hbs : RG 5 lbC w (.slice ba bn bc) x.bs) (hps : RG 9 plC w (.slice pa pn pc) x.ps) (hM : MN w b n cnt) :
    Calls Tryd.prog 25 #[.agg #[.string nm, .slice ba bn bc, .slice pa pn pc], .map (some b)] w fun e w' => e = .returned (.int .i64 (clK (ahC cnt) x)) ∧ Below w.heap.size w w' := by
  obtain ⟨K, hK⟩ : ∃ K, K = clK (ahC cnt) x := ⟨_, rfl⟩
  rw [← hK]
  have H : Hid (nm = x.nm ∧ smC 1048576 x ∧ K = clK (ahC cnt) x ∧ MN w b n cnt ∧ ∀ q, 0 ≤ cnt q) := ⟨hnm, hsm, hK, hM, hc⟩
  have HRB : Hid (RG 5 lbC w (.slice ba bn bc) x.bs) := hbs
  have HRP : Hid (RG 9 plC w (.slice pa pn pc) x.ps) := hps
  have hbn : bn = x.bs.length := hbs.len
  have hpn : pn = x.ps.length := hps.len
  have HBN : Hid (bn = x.bs.length ∧ pn = x.ps.length) := ⟨hbn, hpn⟩
  have hbn2 : bn ≤ 2000000 := by rw [hbn]; have := hsm.bs; omega
  have hpn2 : pn ≤ 2000000 := by rw [hpn]; have := hsm.ps; omega
  have hnmc := fun w => impl_name nm w (by rw [hnm]; have := hsm.nm; omega)
  have hL0 : Hid (LD w (w.alloc (.cells #[.string nm, .slice ba bn bc, .slice pa pn pc] 38)) nm (.slice ba bn bc) (.slice pa pn pc)) := ⟨heap_alloc_new _ _, (Below.refl _ _).alloc (Nat.le_refl _) _⟩
  have hlook := (hM.below hL0.out.bl).look (s := nm) (by rw [hnm]; have := hsm.nm; unfold maxLen; omega)
  obtain ⟨q, hq⟩ : ∃ q, q = cnt nm := ⟨_, rfl⟩
  rw [← hq] at hlook
  have HQ : Hid (q = cnt x.nm) := by unfold Hid; rw [hq, hnm]
  have hq0 : 0 ≤ q := by rw [hq]; exact hc _
  clear hnm hbs hps hsm hK hbn hpn hM hc hq
  obtain ⟨z, hz⟩ : ∃ z, z = nameK nm := ⟨_, rfl⟩
  have HZ : Hid (z = nameK nm) := hz
  rw [← hz] at hnmc
  clear hz
  by_cases hz0 : z = 0
  case neg =>
    have HK : Hid (K = z) := by
      unfold Hid
      rw [H.out.2.2.1]
      unfold clK
      rw [if_neg (by rw [← H.out.1, ← HZ.out]; exact hz0), ← H.out.1, ← HZ.out]
    go_enter Tryd.func25, Tryd.ntmps25
    go_wp2_with (fail)
    refine (hnmc _).mono ?_
    rintro e w1 ⟨rfl, rfl⟩
    go_wp2
    go_returns
    exact ⟨by rw [HK.out]; rfl, hL0.out.bl⟩
  have HN0 : Hid (nameK x.nm = 0) := by unfold Hid; rw [← H.out.1, ← HZ.out]; exact hz0
  subst hz0
  by_cases hqp : 0 < q
  · have HK : Hid (K = 1) := by
      unfold Hid
      rw [H.out.2.2.1]
      unfold clK
      rw [if_pos HN0.out, if_pos (by unfold ahC; rw [← HQ.out]; simpa using hqp)]
    go_enter Tryd.func25, Tryd.ntmps25
    go_wp2_with (fail)
    refine (hnmc _).mono ?_
    rintro e w1 ⟨rfl, rfl⟩
    go_wp2
    go_returns
    exact ⟨by rw [HK.out]; rfl, hL0.out.bl⟩
  · have HAF : Hid (ahC cnt x.nm = false) := by unfold Hid ahC; rw [← HQ.out]; simpa using hqp
    by_cases hmany : 60 < bn ∨ 20 < pn
    · have HK : Hid (K = 2) := by
        unfold Hid
        rw [H.out.2.2.1]
        unfold clK
        rw [if_pos HN0.out, if_neg (by rw [HAF.out]; simp), if_pos (by rw [← HBN.out.1, ← HBN.out.2]; exact hmany)]
      go_enter Tryd.func25, Tryd.ntmps25
      go_wp2_with (fail)
      refine (hnmc _).mono ?_
      rintro e w1 ⟨rfl, rfl⟩
      by_cases h60 : (60 : Int) < (bn : Int)
      · go_wp2
        go_returns
        exact ⟨by rw [HK.out]; rfl, hL0.out.bl⟩
      · have h20 : (20 : Int) < (pn : Int) := by omega
        go_wp2
        go_returns
        exact ⟨by rw [HK.out]; rfl, hL0.out.bl⟩
    · have h60 : ¬ (60 : Int) < (bn : Int) := by omega
      have h20 : ¬ (20 : Int) < (pn : Int) := by omega
      have HK : Hid (K = if firstOf lbK x.bs = 0 then firstOf (fun p => plK (ahC cnt p.c) p) x.ps else firstOf lbK x.bs) := by
        unfold Hid
        rw [H.out.2.2.1]
        unfold clK
        rw [if_pos HN0.out, if_neg (by rw [HAF.out]; simp), if_neg (by rw [← HBN.out.1, ← HBN.out.2]; exact hmany)]
      clear hmany
      go_enter Tryd.func25, Tryd.ntmps25
      go_wp2_with (fail)
      refine (hnmc _).mono ?_
      rintro e w1 ⟨rfl, rfl⟩
      clear hnmc
      go_wp2
      clear hlook
      go_loopw [36] (fun i wr => ∃ k : Nat, i = .int .i64 k ∧ k ≤ bn ∧ Hid (firstOf lbK (x.bs.drop k) = firstOf lbK x.bs ∧ LD w wr nm (.slice ba bn bc) (.slice pa pn pc))) (fun i _ => 2000000 - (intOf i).toNat)
      case atStart => exact ⟨0, rfl, Nat.zero_le _, rfl, hL0.out⟩
      case round =>
        obtain ⟨k, rfl, hk, hR⟩ := hrel
        by_cases hlt : k < bn
        · have hkx : k < x.bs.length := by rw [← HBN.out.1]; exact hlt
          obtain ⟨bg, bo, bc2, hbe, hbg, hbj⟩ := (HRB.out.below hR.out.2.bl).pos (by omega)
          simp only [Value.slice.injEq] at hbe
          obtain ⟨rfl, hx1, hx2⟩ := hbe
          obtain ⟨c0, c1, c2, c3, c4⟩ := lbC_at (hbj k hkx)
          obtain ⟨y, hy⟩ : ∃ y, y = x.bs[k] := ⟨_, rfl⟩
          rw [← hy] at c0 c1 c2 c3 c4
          have HY : Hid (k < x.bs.length ∧ lbK x.bs[k] = lbK y) := ⟨hkx, by rw [hy]⟩
          clear hx1 hx2 hbj hy
          have d0 : (0 : Int) ≤ (k : Int) := by omega
          have d1 : (k : Int) < (bn : Int) := by omega
          obtain ⟨t, ht⟩ : ∃ t, t = lbK y := ⟨_, rfl⟩
          have hlb := fun w => impl_lbf y w
          rw [← ht] at hlb
          have HT : Hid (t = lbK y) := ht
          clear ht
          go_wp2_with (fail)
          refine (hlb _).mono ?_
          rintro e w2 ⟨rfl, hb2⟩
          have HL2 : Hid (LD w w2 nm (.slice (some ⟨bg, bo, none⟩) bn bc) (.slice pa pn pc)) := hR.out.2.next (Below.trans (by (repeat' (first | (with_reducible exact Below.refl _ _) | (with_reducible assumption) | (with_reducible refine Below.setCell ?_ ?_ _) | (with_reducible refine Below.alloc ?_ ?_ _) | (with_reducible refine below_drewN ?_ _) | (with_reducible refine Below.drew ?_) | (with_reducible exact Nat.le_refl _) | omega | (simp; done) | (simp; omega)))) (hb2.mono (by simp)))
          clear hb2 c0 c1 c2 c3 c4 hlb
          by_cases ht0 : t = 0
          · have HN : Hid (firstOf lbK (x.bs.drop (k + 1)) = firstOf lbK x.bs) := firstOf_miss HY.out.1 hR.out.1 (by rw [HY.out.2, ← HT.out]; exact ht0)
            subst ht0
            clear hR
            go_wp2
            go_roundw
            case rel => exact ⟨k + 1, by go_num, by omega, HN.out, HL2.out⟩
            case measure => simp [intOf]; omega
          · have HK1 : Hid (K = t) := by
              unfold Hid
              have hh := firstOf_hit HY.out.1 hR.out.1 (by rw [HY.out.2, ← HT.out]; exact ht0)
              rw [HK.out, hh, HY.out.2, ← HT.out, if_neg ht0]
            clear hR
            go_wp2
            go_returns
            exact ⟨by rw [HK1.out]; rfl, HL2.out.bl⟩
        · have HK2 : Hid (K = firstOf (fun p => plK (ahC cnt p.c) p) x.ps) := by
            unfold Hid
            rw [HK.out, if_pos (firstOf_end (by rw [← HBN.out.1]; omega) hR.out.1)]
          have HL1 : Hid (LD w wr nm (.slice ba bn bc) (.slice pa pn pc)) := hR.out.2
          clear hR HK
          obtain ⟨wq, hwq⟩ : ∃ wq, wq = wr := ⟨_, rfl⟩
          rw [← hwq] at HL1 ⊢
          clear hwq
          obtain ⟨p0, p1, p2, plt⟩ := three_at HL1.out.c
          go_wp2
          clear p0 p1 p2 plt
          go_loopw [49] (fun i wr => ∃ k : Nat, i = .int .i64 k ∧ k ≤ pn ∧ Hid (firstOf (fun p => plK (ahC cnt p.c) p) (x.ps.drop k) = firstOf (fun p => plK (ahC cnt p.c) p) x.ps ∧ LD w wr nm (.slice ba bn bc) (.slice pa pn pc))) (fun i _ => 2000000 - (intOf i).toNat)
          case atStart => exact ⟨0, rfl, Nat.zero_le _, rfl, HL1.out⟩
          case round =>
            clear HL1
            obtain ⟨k, rfl, hk, hR⟩ := hrel
            by_cases hlt : k < pn
            · have hkx : k < x.ps.length := by rw [← HBN.out.2]; exact hlt
              obtain ⟨bg, bo, bc2, hbe, hbg, hbj⟩ := (HRP.out.below hR.out.2.bl).pos (by omega)
              simp only [Value.slice.injEq] at hbe
              obtain ⟨rfl, hx1, hx2⟩ := hbe
              obtain ⟨c0, c1, c2, c3, c4, c5, c6, c7, c8⟩ := plC_at (hbj k hkx)
              obtain ⟨y, hy⟩ : ∃ y, y = x.ps[k] := ⟨_, rfl⟩
              rw [← hy] at c0 c1 c2 c3 c4 c5 c6 c7 c8
              have HY : Hid (k < x.ps.length ∧ x.ps[k] = y ∧ smP 1048576 y) := ⟨hkx, by rw [hy], by rw [hy]; exact H.out.2.1.pl k hkx⟩
              clear hx1 hx2 hbj hy
              have d0 : (0 : Int) ≤ (k : Int) := by omega
              have d1 : (k : Int) < (pn : Int) := by omega
              obtain ⟨t, ht⟩ : ∃ t, t = plK (ahC cnt y.c) y := ⟨_, rfl⟩
              have HPC : Hid (∀ W, Below wr.heap.size wr W → Calls Tryd.prog 40 #[.agg #[.string y.c, .int .i64 y.x, .int .i64 y.y, .int .i64 y.t, .bool y.f, .int .i64 y.nx, .int .i64 y.ny, .int .i64 y.dx, .int .i64 y.dy], .map (some b)] W fun e w' => e = .returned (.int .i64 t) ∧ Below W.heap.size W w') := fun W hW => by
                rw [ht]
                exact impl_place y b n cnt W (by have := HY.out.2.2; unfold smP at this; unfold maxLen; omega) (H.out.2.2.2.2 _) ((H.out.2.2.2.1.below hR.out.2.bl).below hW)
              have HT : Hid (t = plK (ahC cnt y.c) y) := ht
              clear ht
              go_wp2_with (fail)
              refine (HPC.out _ (by (repeat' (first | (with_reducible exact Below.refl _ _) | (with_reducible assumption) | (with_reducible refine Below.setCell ?_ ?_ _) | (with_reducible refine Below.alloc ?_ ?_ _) | (with_reducible refine below_drewN ?_ _) | (with_reducible refine Below.drew ?_) | (with_reducible exact Nat.le_refl _) | omega | (simp; done) | (simp; omega))))).mono ?_
              rintro e w2 ⟨rfl, hb2⟩
              have HL2 : Hid (LD w w2 nm (.slice ba bn bc) (.slice (some ⟨bg, bo, none⟩) pn pc)) := hR.out.2.next (Below.trans (by (repeat' (first | (with_reducible exact Below.refl _ _) | (with_reducible assumption) | (with_reducible refine Below.setCell ?_ ?_ _) | (with_reducible refine Below.alloc ?_ ?_ _) | (with_reducible refine below_drewN ?_ _) | (with_reducible refine Below.drew ?_) | (with_reducible exact Nat.le_refl _) | omega | (simp; done) | (simp; omega)))) (hb2.mono (by simp)))
              clear hb2 c0 c1 c2 c3 c4 c5 c6 c7 c8 HPC
              by_cases ht0 : t = 0
              · have HN : Hid (firstOf (fun p => plK (ahC cnt p.c) p) (x.ps.drop (k + 1)) = firstOf (fun p => plK (ahC cnt p.c) p) x.ps) := firstOf_miss HY.out.1 hR.out.1 (by show plK (ahC cnt x.ps[k].c) x.ps[k] = 0; rw [HY.out.2.1, ← HT.out]; exact ht0)
                subst ht0
                clear hR
                go_wp2
                go_roundw
                case rel => exact ⟨k + 1, by go_num, by omega, HN.out, HL2.out⟩
                case measure => simp [intOf]; omega
              · have HK1 : Hid (K = t) := by
                  unfold Hid
                  have hh := firstOf_hit HY.out.1 hR.out.1 (by show ¬ plK (ahC cnt x.ps[k].c) x.ps[k] = 0; rw [HY.out.2.1, ← HT.out]; exact ht0)
                  rw [HK2.out, hh]
                  show plK (ahC cnt x.ps[k].c) x.ps[k] = t
                  rw [HY.out.2.1, ← HT.out]
                clear hR
                go_wp2
                go_returns
                exact ⟨by rw [HK1.out]; rfl, HL2.out.bl⟩
            · have HK1 : Hid (K = 0) := by
                unfold Hid
                rw [HK2.out, firstOf_end (by rw [← HBN.out.2]; omega) hR.out.1]
              have HB : Hid (Below w.heap.size w wr) := hR.out.2.bl
              clear hR
              go_wp2
              go_returns
              exact ⟨by rw [HK1.out]; rfl, HB.out⟩

theorem impl_cellf (r : Rc) (x : Cl) (b n : Nat) (cnt : ByteArray → Int) (w : World) (hc : ∀ q, 0 ≤ cnt q) (hsm : smC 1048576 x) (hr1 : Rc1 w r x) (hM : MN w b n cnt) :
    Calls Tryd.prog 25 #[.agg #[.string r.nm, .slice r.ba r.bn r.bc, .slice r.pa r.pn r.pc], .map (some b)] w fun e w' => e = .returned (.int .i64 (clK (ahC cnt) x)) ∧ Below w.heap.size w w' :=
  impl_cellf' r.nm r.ba r.bn r.bc r.pa r.pn r.pc x b n cnt w hc hsm hr1.nm hr1.bs hr1.ps hM

end Go.Proofs.YtafghanpfnhkpaaDoor
