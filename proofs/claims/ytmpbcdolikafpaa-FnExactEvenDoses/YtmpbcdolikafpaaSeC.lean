/- Proved here: the closure of errorsOf, of the program: sbL. -/
import Derived.Test.YtmpbcdolikafpaaSeM
namespace Go.Proofs.Ytmpbcdolikafpaa
open Go.RowKit
set_option linter.unusedVariables false
set_option linter.unusedSimpArgs false

/-- How far off the cells of boxes are: of a row, of a box, of the first boxes. -/
def sbR (f : Bx) (G : Nat → Nat → Int) (z : Int) (b : Bx) (j : Nat) : Nat → Int
  | 0 => 0
  | i + 1 => sbR f G z b j i + (((G (b.y0 + (j : Int) - f.y0).toNat (b.x0 + (i : Int) - f.x0).toNat - z).natAbs : Nat) : Int)
def sbB (f : Bx) (G : Nat → Nat → Int) (z : Int) (b : Bx) : Nat → Int
  | 0 => 0
  | j + 1 => sbB f G z b j + sbR f G z b j (wdN b)
def sbL (f : Bx) (G : Nat → Nat → Int) (z : Int) (cs : List Bx) : Nat → Int
  | 0 => 0
  | k + 1 => sbL f G z cs k + sbB f G z (bat cs k) (htN (bat cs k))
/-- A box lies in the frame. -/
def InF (f b : Bx) : Prop := (f.x0 ≤ b.x0 ∧ b.x0 ≤ b.x1 ∧ b.x1 ≤ f.x1) ∧ (f.y0 ≤ b.y0 ∧ b.y0 ≤ b.y1 ∧ b.y1 ≤ f.y1)
theorem sbR_bd {f : Bx} {G : Nat → Nat → Int} {z : Int} {b : Bx} {n W : Nat} (hw : f.x1 = f.x0 + (W : Int)) (hh : f.y1 = f.y0 + (n : Int)) (hb : InF f b) (hP : ∀ j i, j < n → i < W → 0 ≤ G j i ∧ G j i ≤ 24000000000) (hz : 0 ≤ z ∧ z ≤ 1000000000) {j : Nat} (hj : j < htN b) : ∀ i : Nat, i ≤ wdN b → 0 ≤ sbR f G z b j i ∧ sbR f G z b j i ≤ i * 24000000000
  | 0, _ => by simp [sbR]
  | i + 1, h => by
    have h1 := sbR_bd hw hh hb hP hz hj i (by omega)
    unfold InF at hb
    unfold htN at hj
    unfold wdN at h
    have h2 := hP (b.y0 + (j : Int) - f.y0).toNat (b.x0 + (i : Int) - f.x0).toNat (by omega) (by omega)
    rw [sbR]
    omega
theorem sbB_bd {f : Bx} {G : Nat → Nat → Int} {z : Int} {b : Bx} {n W : Nat} (hw : f.x1 = f.x0 + (W : Int)) (hh : f.y1 = f.y0 + (n : Int)) (hW : W ≤ 24) (hb : InF f b) (hP : ∀ j i, j < n → i < W → 0 ≤ G j i ∧ G j i ≤ 24000000000) (hz : 0 ≤ z ∧ z ≤ 1000000000) : ∀ j : Nat, j ≤ htN b → 0 ≤ sbB f G z b j ∧ sbB f G z b j ≤ j * 576000000000
  | 0, _ => by simp [sbB]
  | j + 1, h => by
    have h1 := sbB_bd hw hh hW hb hP hz j (by omega)
    have h2 := sbR_bd hw hh hb hP hz (j := j) (by omega) (wdN b) (Nat.le_refl _)
    have h3 : wdN b ≤ 24 := by unfold InF at hb; unfold wdN; omega
    rw [sbB]
    omega
theorem sbL_bd {f : Bx} {G : Nat → Nat → Int} {z : Int} {cs : List Bx} {n W : Nat} (hw : f.x1 = f.x0 + (W : Int)) (hh : f.y1 = f.y0 + (n : Int)) (hn : n ≤ 24) (hW : W ≤ 24) (hb : ∀ k, k < cs.length → InF f (bat cs k)) (hP : ∀ j i, j < n → i < W → 0 ≤ G j i ∧ G j i ≤ 24000000000) (hz : 0 ≤ z ∧ z ≤ 1000000000) : ∀ k : Nat, k ≤ cs.length → 0 ≤ sbL f G z cs k ∧ sbL f G z cs k ≤ k * 13824000000000
  | 0, _ => by simp [sbL]
  | k + 1, h => by
    have h1 := sbL_bd hw hh hn hW hb hP hz k (by omega)
    have hbk := hb k (by omega)
    have h2 := sbB_bd hw hh hW hbk hP hz (htN (bat cs k)) (Nat.le_refl _)
    have h3 : htN (bat cs k) ≤ 24 := by unfold InF at hbk; unfold htN; omega
    rw [sbL]
    omega
theorem cell0 {w : World} {k : Nat} {v : Value} {T : TypeId} (h : w.heap[k]? = some (.cells #[v] T)) : w.cell? ⟨k, 0, none⟩ = some v ∧ k < w.heap.size := by
  refine ⟨by simp [World.cell?, h], ?_⟩
  rcases Nat.lt_or_ge k w.heap.size with h' | h'
  · exact h'
  · rw [Array.getElem?_eq_none h'] at h; cases h
/-- What the closure has caught. -/
structure Cu (V : World) (q1 q2 q3 q4 p : Nat) (T1 : TypeId) (vc : Value) (f : Bx) (o s : Int) (r : Nat) (z : Int) : Prop where
  b1 : V.heap[q1]? = some (.cells #[.func (Fn.func 47) #[] #[.pointer (some ⟨p, 0, none⟩)]] T1)
  b2 : V.heap[q2]? = some (.cells #[vc] 66)
  b3 : V.heap[q3]? = some (.cells #[.int .i64 f.x0, .int .i64 f.y0, .int .i64 f.x1, .int .i64 f.y1, .int .i64 o, .int .i64 s, .int .i64 r] 36)
  b4 : V.heap[q4]? = some (.cells #[.int .i64 z] 2)
  b5 : V.heap[p]? = some (.cells #[.int .i64 f.x0, .int .i64 f.y0, .int .i64 f.x1, .int .i64 f.y1, .int .i64 o, .int .i64 s, .int .i64 r] 36)
theorem Cu.below {V V' : World} {q1 q2 q3 q4 p : Nat} {T1 : TypeId} {vc : Value} {f : Bx} {o s : Int} {r : Nat} {z : Int} (h : Cu V q1 q2 q3 q4 p T1 vc f o s r z) (hb : Below V.heap.size V V') : Cu V' q1 q2 q3 q4 p T1 vc f o s r z :=
  ⟨(hb.block _ (cell0 h.b1).2).trans h.b1, (hb.block _ (cell0 h.b2).2).trans h.b2, (hb.block _ (wt_seven h.b3).2.2.2.2.2.2.2.2).trans h.b3, (hb.block _ (cell0 h.b4).2).trans h.b4, (hb.block _ (wt_seven h.b5).2.2.2.2.2.2.2.2).trans h.b5⟩
/-- What is read in the loops: the caught boxes, the rows, the list. -/
structure EC (V : World) (q1 q2 q3 q4 p : Nat) (T1 : TypeId) (vc : Value) (f : Bx) (o s : Int) (r : Nat) (z : Int) (B g1 n c1 W : Nat) (M : List (List Int)) (vs1 : List Value) (cs : List Bx) : Prop where
  cu : Cu V q1 q2 q3 q4 p T1 vc f o s r z
  g : GVP V B g1 n c1 W n M vs1
  rb : RB V vc cs
theorem EC.below {V V' : World} {q1 q2 q3 q4 p : Nat} {T1 : TypeId} {vc : Value} {f : Bx} {o s : Int} {r : Nat} {z : Int} {B g1 n c1 W : Nat} {M : List (List Int)} {vs1 : List Value} {cs : List Bx} (h : EC V q1 q2 q3 q4 p T1 vc f o s r z B g1 n c1 W M vs1 cs) (hb : Below V.heap.size V V') : EC V' q1 q2 q3 q4 p T1 vc f o s r z B g1 n c1 W M vs1 cs :=
  ⟨h.cu.below hb, h.g.below hb, h.rb.below hb⟩

set_option maxRecDepth 10000 in
set_option maxHeartbeats 12800000 in
theorem impl_ec (l : List Sh) (f : Bx) (o s : Int) (r : Nat) (z : Int) (cs : List Bx) {w : World} {v vc : Value} {q1 q2 q3 q4 p : Nat} {T1 : TypeId} (hl : l.length ≤ 40) (hd : ∀ x ∈ l, 0 ≤ x.d ∧ x.d ≤ 1000) (hf : frF f = 0) (ho : 0 ≤ o ∧ o ≤ 1000) (hs : 0 ≤ s ∧ s ≤ 1000) (hr : r ≤ 4) (hz : 0 ≤ z ∧ z ≤ 1000000000)
    (hcl : cs.length ≤ 10000) (hci : ∀ k, k < cs.length → InF f (bat cs k)) (hc : RB w vc cs) (hcu : Cu w q1 q2 q3 q4 p T1 vc f o s r z) (h : RG 5 shC w v l) :
    Calls Try.prog 39 #[v, .pointer (some ⟨q1, 0, none⟩), .pointer (some ⟨q2, 0, none⟩), .pointer (some ⟨q3, 0, none⟩), .pointer (some ⟨q4, 0, none⟩)] w fun e w' => e = .returned (.int .i64 (sbL f (spV (mapG l f) (htN f) (wdN f) r o s) z cs cs.length)) ∧ Below w.heap.size w w' := by
  have hfb := frF_box hf
  obtain ⟨n, hnn⟩ : ∃ n, n = htN f := ⟨_, rfl⟩
  obtain ⟨W, hWW⟩ : ∃ W, W = wdN f := ⟨_, rfl⟩
  obtain ⟨G, hG⟩ : ∃ G, G = spV (mapG l f) (htN f) (wdN f) r o s := ⟨_, rfl⟩
  have hnb : n ≤ 24 ∧ 0 < n := by rw [hnn]; unfold htN; omega
  have hWb : W ≤ 24 ∧ 0 < W := by rw [hWW]; unfold wdN; omega
  have hw1 : f.x1 = f.x0 + (W : Int) := by rw [hWW]; unfold wdN; omega
  have hh1 : f.y1 = f.y0 + (n : Int) := by rw [hnn]; unfold htN; omega
  have HF : Hid (f.x1 = f.x0 + (W : Int) ∧ f.y1 = f.y0 + (n : Int) ∧ -10000 ≤ f.x0 ∧ f.x0 ≤ 10000 ∧ -10000 ≤ f.y0 ∧ f.y0 ≤ 10000) := ⟨hw1, hh1, by omega, by omega, by omega, by omega⟩
  rw [← hG]
  obtain ⟨a, c, rfl⟩ := h.form
  have HRW : Hid (Calls Try.prog 47 #[.slice a l.length c, .pointer (some ⟨p, 0, none⟩)] w fun e w' => ∃ v' vs, e = .returned v' ∧ RI w' w.heap.size v' (gridL G n W) vs ∧ Below w.heap.size w w') := by
    have h9 := impl_spc l f o s r hl hd hf ho hs hr hcu.b5 h
    unfold spL at h9
    rw [← hG, ← hnn, ← hWW] at h9
    exact h9
  have HGB : Hid (∀ j i, j < n → i < W → 0 ≤ G j i ∧ G j i ≤ 24000000000) := fun j i hj hi => by
    rw [hG, ← hnn, ← hWW]; exact spV_bd (mapG_bd hl hd) hnb.1 hWb.1 ho hs hj hi
  generalize l.length = ln at HRW ⊢
  obtain ⟨ca, cc, rfl⟩ := hc.form
  obtain ⟨m, hm⟩ : ∃ m, m = cs.length := ⟨_, rfl⟩
  rw [← hm] at hc hcu hcl ⊢
  have HC : Hid (m = cs.length ∧ ∀ k, k < m → InF f (bat cs k)) := ⟨hm, by rw [hm]; exact hci⟩
  have HW : Hid (Cu w q1 q2 q3 q4 p T1 (.slice ca m cc) f o s r z ∧ RB w (.slice ca m cc) cs) := ⟨hcu, hc⟩
  obtain ⟨t1, l1⟩ := cell0 hcu.b1
  clear h hf hfb hnn hWW hd hG hw1 hh1 hl hm hc hcu hci
  go_enter Try.func39, Try.ntmps39
  go_wp2_with (fail)
  refine HRW.out.mono ?_
  rintro e w1 ⟨v1, vs1, rfl, hr1, hb1⟩
  obtain ⟨g1, c1, hv1, _⟩ := hr1.pos (by rw [gridL_len]; omega)
  rw [gridL_len] at hv1
  subst hv1
  have HE : Hid (EC w1 q1 q2 q3 q4 p T1 (.slice ca m cc) f o s r z w.heap.size g1 n c1 W (gridL G n W) vs1 cs ∧ Below w.heap.size w w1) :=
    ⟨⟨HW.out.1.below hb1, ⟨hr1, gridL_len _ _ _, (gridL_shW G n W).wd, Nat.le_refl _, hWb.2⟩, HW.out.2.below hb1⟩, hb1⟩
  obtain ⟨t2, l2⟩ := cell0 HE.out.1.cu.b2
  clear hr1 hb1 HRW t1 l1
  go_wp2_with (fail)
  clear t2 l2
  go_loopw [8, 19] (fun sm i wr => ∃ (k : Nat), k ≤ m ∧ i = .int .i64 k ∧ sm = .int .i64 (sbL f G z cs k) ∧ Hid (Below w1.heap.size w1 wr)) (fun _ i _ => m - (intOf i).toNat)
  case atStart => exact ⟨0, Nat.zero_le _, rfl, rfl, Below.refl _ _⟩
  case round =>
    obtain ⟨k, hk, rfl, rfl, hR⟩ := hrel
    by_cases hlk : k < m
    · obtain ⟨g, go, c2, he, hg, hj⟩ := (HE.out.1.rb.below hR.out).pos (by rw [← HC.out.1]; omega)
      simp only [Value.slice.injEq] at he
      obtain ⟨rfl, hx1, hx2⟩ := he
      clear hx1 hx2
      obtain ⟨d0, d1, d2, d3⟩ := hj k (by rw [← HC.out.1]; exact hlk)
      obtain ⟨b, hb⟩ : ∃ b, b = bat cs k := ⟨_, rfl⟩
      rw [← hb] at d0 d1 d2 d3
      obtain ⟨S1, hS1⟩ : ∃ S, S = sbL f G z cs k := ⟨_, rfl⟩
      rw [← hS1]
      have HB : Hid (b = bat cs k ∧ InF f b) := ⟨hb, by rw [hb]; exact HC.out.2 k hlk⟩
      have HS1 : Hid (S1 = sbL f G z cs k ∧ 0 ≤ S1 ∧ S1 ≤ 10000 * 13824000000000) := by
        have h1 := sbL_bd HF.out.1 HF.out.2.1 hnb.1 hWb.1 (by rw [← HC.out.1]; exact HC.out.2) HGB.out hz k (by rw [← HC.out.1]; exact hk)
        exact ⟨hS1, by omega, by omega⟩
      have HR : Hid (Below w1.heap.size w1 wr) := hR.out
      have i0 : (0 : Int) ≤ (k : Int) := by omega
      have i1 : (k : Int) < (m : Int) := by omega
      obtain ⟨K, hK⟩ : ∃ K, K = wr.heap.size := ⟨_, rfl⟩
      have HKB : Hid ((wr.alloc (.cells #[.int .i64 b.x0, .int .i64 b.y0, .int .i64 b.x1, .int .i64 b.y1] 34)).heap[K]? = some (.cells #[.int .i64 b.x0, .int .i64 b.y0, .int .i64 b.x1, .int .i64 b.y1] 34) ∧ Below w1.heap.size w1 (wr.alloc (.cells #[.int .i64 b.x0, .int .i64 b.y0, .int .i64 b.x1, .int .i64 b.y1] 34))) :=
        ⟨by rw [hK]; exact heap_alloc_new wr _, hR.out.alloc hR.out.size _⟩
      clear hb hj hS1 hR hk
      go_wp2_with (fail)
      rw [← hK]
      clear d0 d1 d2 d3 hg hK
      go_loopw [8, 11] (fun sm y wr => ∃ (j : Nat), j ≤ htN b ∧ y = .int .i64 (b.y0 + (j : Int)) ∧ sm = .int .i64 (S1 + sbB f G z b j) ∧ Hid (wr.heap[K]? = some (.cells #[.int .i64 b.x0, .int .i64 b.y0, .int .i64 b.x1, .int .i64 b.y1] 34) ∧ Below w1.heap.size w1 wr)) (fun _ y _ => (b.y1 - intOf y).toNat)
      case atStart => exact ⟨0, Nat.zero_le _, by simp, by simp [sbB], HKB.out⟩
      case round =>
        clear HKB HR
        obtain ⟨j, hj, rfl, rfl, hR⟩ := hrel
        obtain ⟨p0, p1, p2, p3, pf, pl⟩ := wt_four hR.out.1
        have hF := HF.out
        have hB := HB.out.2
        unfold InF at hB
        have hhb : (htN b : Int) = b.y1 - b.y0 := by unfold htN; omega
        obtain ⟨y, hy⟩ : ∃ y, y = b.y0 + (j : Int) := ⟨_, rfl⟩
        rw [← hy]
        by_cases hlt : j < htN b
        · have hly : y < b.y1 := by omega
          have hwy : IntKind.i64.wrap (y + 1) = y + 1 := by rw [IntKind.wrap_i64]; omega
          obtain ⟨ii, hii⟩ : ∃ ii : Nat, y - f.y0 = (ii : Int) := ⟨(y - f.y0).toNat, by omega⟩
          have hwi : IntKind.i64.wrap (y - f.y0) = (ii : Int) := by rw [IntKind.wrap_i64]; omega
          have HY : Hid (y = b.y0 + (j : Int) ∧ y + 1 = b.y0 + ((j + 1 : Nat) : Int) ∧ ii < n ∧ (b.y0 + (j : Int) - f.y0).toNat = ii) := ⟨hy, by omega, by omega, by omega⟩
          obtain ⟨S0, hS0⟩ : ∃ S, S = S1 + sbB f G z b j := ⟨_, rfl⟩
          rw [← hS0]
          have HS0 : Hid (S0 = S1 + sbB f G z b j ∧ 0 ≤ S0 ∧ S0 ≤ 10001 * 13824000000000) := by
            have h1 := sbB_bd hF.1 hF.2.1 hWb.1 HB.out.2 HGB.out hz j hj
            have h2 := HS1.out.2
            exact ⟨hS0, by omega, by omega⟩
          have HR : Hid (wr.heap[K]? = some (.cells #[.int .i64 b.x0, .int .i64 b.y0, .int .i64 b.x1, .int .i64 b.y1] 34) ∧ Below w1.heap.size w1 wr) := hR.out
          clear hR hy hj hS0 pf hF hB hhb hii
          go_wp2_with (fail)
          clear p0 p1 p2 p3 pl
          go_loopw [8, 12] (fun sm x wr => ∃ (i : Nat), i ≤ wdN b ∧ x = .int .i64 (b.x0 + (i : Int)) ∧ sm = .int .i64 (S0 + sbR f G z b j i) ∧ Hid (wr.heap[K]? = some (.cells #[.int .i64 b.x0, .int .i64 b.y0, .int .i64 b.x1, .int .i64 b.y1] 34) ∧ Below w1.heap.size w1 wr)) (fun _ x _ => (b.x1 - intOf x).toNat)
          case atStart => exact ⟨0, Nat.zero_le _, by simp, by simp [sbR], HR.out⟩
          case round =>
            clear HR
            obtain ⟨i, hi, rfl, rfl, hR⟩ := hrel
            obtain ⟨p0, p1, p2, p3, pf, pl⟩ := wt_four hR.out.1
            have hF := HF.out
            have hB := HB.out.2
            unfold InF at hB
            have hwb : (wdN b : Int) = b.x1 - b.x0 := by unfold wdN; omega
            obtain ⟨x, hx⟩ : ∃ x, x = b.x0 + (i : Int) := ⟨_, rfl⟩
            rw [← hx]
            by_cases hlx : i < wdN b
            · have hlx' : x < b.x1 := by omega
              have hwx : IntKind.i64.wrap (x + 1) = x + 1 := by rw [IntKind.wrap_i64]; omega
              obtain ⟨jj, hjj⟩ : ∃ jj : Nat, x - f.x0 = (jj : Int) := ⟨(x - f.x0).toNat, by omega⟩
              have hwj : IntKind.i64.wrap (x - f.x0) = (jj : Int) := by rw [IntKind.wrap_i64]; omega
              have hin := HY.out.2.2.1
              have hjn : jj < W := by omega
              have HU : Hid (x = b.x0 + (i : Int) ∧ x + 1 = b.x0 + ((i + 1 : Nat) : Int) ∧ (b.x0 + (i : Int) - f.x0).toNat = jj) := ⟨hx, by omega, by omega⟩
              have hE := HE.out.1.below hR.out.2
              obtain ⟨gi, ci, hri, a0, hg1l, hgil, _, _, _, hcells1⟩ := hE.g.at hin
              obtain ⟨a1, _⟩ := hcells1 jj hjn
              rw [gridL_at2 _ hin hjn] at a1
              obtain ⟨D, hD⟩ : ∃ D, D = G ii jj := ⟨_, rfl⟩
              rw [← hD] at a1
              have hDb := HGB.out ii jj hin hjn
              rw [← hD] at hDb
              obtain ⟨r0, r1, r2, r3, _, _, _, _, rl⟩ := wt_seven hE.cu.b3
              obtain ⟨t4, l4⟩ := cell0 hE.cu.b4
              obtain ⟨S, hS⟩ : ∃ S, S = S0 + sbR f G z b j i := ⟨_, rfl⟩
              rw [← hS]
              have hSb : 0 ≤ S ∧ S ≤ 10002 * 13824000000000 := by
                have h1 := sbR_bd hF.1 hF.2.1 HB.out.2 HGB.out hz hlt i hi
                have h2 := HS0.out.2
                omega
              obtain ⟨E, hEE⟩ : ∃ E, E = D - z := ⟨_, rfl⟩
              obtain ⟨N, hNN⟩ : ∃ N, N = -E := ⟨_, rfl⟩
              have hwc : IntKind.i64.wrap (D - z) = E := by rw [← hEE, IntKind.wrap_i64]; omega
              have hwn : IntKind.i64.wrap (-E) = N := by rw [← hNN, IntKind.wrap_i64]; omega
              have HST : Hid (S + ((E.natAbs : Nat) : Int) = S0 + sbR f G z b j (i + 1)) := by
                unfold Hid
                rw [hS, sbR, HY.out.2.2.2, HU.out.2.2, ← hD, ← hEE]; omega
              have HR : Hid (wr.heap[K]? = some (.cells #[.int .i64 b.x0, .int .i64 b.y0, .int .i64 b.x1, .int .i64 b.y1] 34) ∧ Below w1.heap.size w1 wr) := hR.out
              have b0 : (0 : Int) ≤ (ii : Int) := by omega
              have b1 : (ii : Int) < (n : Int) := by omega
              have b2 : (0 : Int) ≤ (jj : Int) := by omega
              have b3 : (jj : Int) < (W : Int) := by omega
              by_cases hEN : E < N
              · have hwd : IntKind.i64.wrap (S + N) = S + N := by rw [IntKind.wrap_i64]; omega
                have HA : Hid (S + N = S0 + sbR f G z b j (i + 1)) := by
                  have := HST.out; unfold Hid; omega
                clear hR hx hi pf hF hB hwb hjj hE hri hcells1 hD hDb hS hEE hNN HST
                go_wp2_with (fail)
                (refine wp_region_und (by kernel_rfl) (by kernel_rfl) (fun hund => ?_); (repeat (go_big_quiet_step (fail))); with_reducible refine wpQuiet_nil ?_; clear hund; intro W1 hb1; obtain ⟨hc1, hf1⟩ := undcell hb1)
                have HB9 : Hid (W1.heap[K]? = some (.cells #[.int .i64 b.x0, .int .i64 b.y0, .int .i64 b.x1, .int .i64 b.y1] 34) ∧ Below w1.heap.size w1 W1) := ⟨(hb1.block _ pl).trans HR.out.1, HR.out.2.trans (hb1.mono HR.out.2.size)⟩
                clear hb1 hc1 hf1
                go_wp2
                go_roundw
                case rel => exact ⟨i + 1, by omega, by rw [← HU.out.2.1], by rw [HA.out], HB9.out⟩
                case measure => have := HU.out; have := HF.out; simp [intOf]; omega
              · have hwd : IntKind.i64.wrap (S + E) = S + E := by rw [IntKind.wrap_i64]; omega
                have HA : Hid (S + E = S0 + sbR f G z b j (i + 1)) := by
                  have := HST.out; unfold Hid; omega
                clear hR hx hi pf hF hB hwb hjj hE hri hcells1 hD hDb hS hEE hNN HST
                go_wp2_with (fail)
                (refine wp_region_und (by kernel_rfl) (by kernel_rfl) (fun hund => ?_); (repeat (go_big_quiet_step (fail))); with_reducible refine wpQuiet_nil ?_; clear hund; intro W1 hb1; obtain ⟨hc1, hf1⟩ := undcell hb1)
                have HB9 : Hid (W1.heap[K]? = some (.cells #[.int .i64 b.x0, .int .i64 b.y0, .int .i64 b.x1, .int .i64 b.y1] 34) ∧ Below w1.heap.size w1 W1) := ⟨(hb1.block _ pl).trans HR.out.1, HR.out.2.trans (hb1.mono HR.out.2.size)⟩
                clear hb1 hc1 hf1
                go_wp2
                go_roundw
                case rel => exact ⟨i + 1, by omega, by rw [← HU.out.2.1], by rw [HA.out], HB9.out⟩
                case measure => have := HU.out; have := HF.out; simp [intOf]; omega
            · have hlx' : ¬ x < b.x1 := by omega
              have HA : Hid (S0 + sbR f G z b j i = S1 + sbB f G z b (j + 1)) := by
                unfold Hid
                rw [sbB, HS0.out.1, show i = wdN b by omega]; omega
              have HR : Hid (wr.heap[K]? = some (.cells #[.int .i64 b.x0, .int .i64 b.y0, .int .i64 b.x1, .int .i64 b.y1] 34) ∧ Below w1.heap.size w1 wr) := hR.out
              rw [HA.out]
              clear hR hx hi pf hF hB hwb
              go_wp2
              go_roundw
              case rel => exact ⟨j + 1, by omega, by rw [← HY.out.2.1], rfl, HR.out⟩
              case measure => have := HY.out; have := HF.out; simp [intOf]; omega
        · have hly : ¬ y < b.y1 := by omega
          have HA : Hid (S1 + sbB f G z b j = sbL f G z cs (k + 1)) := by
            unfold Hid
            rw [sbL, HS1.out.1, ← HB.out.1, show j = htN b by omega]
          have HR : Hid (Below w1.heap.size w1 wr) := hR.out.2
          rw [HA.out]
          clear hR hy hj pf hF hB hhb
          go_wp2
          go_roundw
          case rel => exact ⟨k + 1, by omega, by go_num, rfl, HR.out⟩
          case measure => simp [intOf]; omega
    · have HA : Hid (Below w.heap.size w wr ∧ k = m) := ⟨HE.out.2.trans (hR.out.mono HE.out.2.size), by omega⟩
      clear hR hk
      go_wp2
      go_returns
      exact ⟨by rw [HA.out.2]; rfl, HA.out.1⟩

end Go.Proofs.Ytmpbcdolikafpaa
