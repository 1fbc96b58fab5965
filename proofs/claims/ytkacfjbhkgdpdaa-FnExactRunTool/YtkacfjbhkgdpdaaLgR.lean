/- Proved here: how the laws' package marks logs of tools. -/
import Derived.Test.YtkacfjbhkgdpdaaRnW
import Derived.Test.YtkacfjbhkgdpdaaOwT
import Derived.Test.YtkacfjbhkgdpdaaMkTl
import Derived.Test.YtkacfjbhkgdpdaaMkI
namespace Go.Proofs.Ytkacfjbhkgdpdaa
open Go.ChangeShapes Go.WideShapes Go.ChangeAt Go.RowKit Go.Joins
set_option linter.unusedVariables false
set_option linter.unusedSimpArgs false

def BkR (v1 v2 v3 : Value) (q : Nat) : Prop := v1.ownBlock = some q ∨ v2.ownBlock = some q ∨ v3.ownBlock = some q
def LtR (v1 v2 v3 : Value) (Z : Nat) : Prop := ∀ q, BkR v1 v2 v3 q → q < Z
theorem OwR.rd {V : World} {B : Nat} {v1 v2 v3 : Value} {s : List Ap} {cs : List Int} {rs : List Ap} (h : OwR V B v1 v2 v3 s cs rs) : RdG V v1 v2 v3 s cs rs :=
  ⟨OG.rg (T := 72) (B := B) apC_len h.t, IS.rg (B := B) h.c, OG.rg (T := 72) (B := B) apC_len h.r⟩
theorem OwR.lt {V : World} {B : Nat} {v1 v2 v3 : Value} {s : List Ap} {cs : List Int} {rs : List Ap} (h : OwR V B v1 v2 v3 s cs rs) : LtR v1 v2 v3 V.heap.size := fun q hq => (h.blk hq).2
def DiR (v1 v2 v3 : Value) : Prop := (∀ g, v1.ownBlock = some g → v2.ownBlock ≠ some g) ∧ (∀ g, v1.ownBlock = some g → v3.ownBlock ≠ some g) ∧ (∀ g, v2.ownBlock = some g → v3.ownBlock ≠ some g)
theorem Ow.rR {V : World} {B hi : Nat} {v1 v2 v3 : Value} {s : List Ap} {cs : List Int} {rs : List Ap} (h : OwR V B v1 v2 v3 s cs rs) (h1 : B ≤ hi) (h2 : hi ≤ V.heap.size) (hh : LtR v1 v2 v3 hi) : Ow B hi (fun V => OwR V B v1 v2 v3 s cs rs) V := by
  have H := Ow.and (Ow.row h.t h1 h2 fun g hg => hh g (Or.inl hg)) (Ow.and (Ow.row h.c h1 h2 fun g hg => hh g (Or.inr (Or.inl hg))) (Ow.row h.r h1 h2 fun g hg => hh g (Or.inr (Or.inr hg))))
  exact ⟨h, fun W hW => ⟨(H.keep W hW).1, (H.keep W hW).2.1, (H.keep W hW).2.2, h.tc, h.tr, h.cr⟩, H.le⟩
theorem Ow.rAllR {V V0 : World} {v1 v2 v3 : Value} {s : List Ap} {cs : List Int} {rs : List Ap} (h : OwR V V0.heap.size v1 v2 v3 s cs rs) (hb : Below V0.heap.size V0 V) : Ow V0.heap.size V.heap.size (fun V => OwR V V0.heap.size v1 v2 v3 s cs rs) V :=
  Ow.rR h hb.size (Nat.le_refl _) h.lt
def MkR (V : World) (B : Nat) (v1 v2 v3 : Value) (n m k : Nat) : Prop := V.ownsRow B 72 2 v1 n (mkP stApproval 2 1 (n * 2)) ∧ V.ownsRow B 2 1 v2 m (mkV (1 + 2 * (n : Int)) m) ∧ V.ownsRow B 72 2 v3 k (mkP stApproval 2 (1 + 2 * (n : Int) + (m : Int)) (k * 2))
theorem Ow.mR {V : World} {B hi n m k : Nat} {v1 v2 v3 : Value} (h : MkR V B v1 v2 v3 n m k) (h1 : B ≤ hi) (h2 : hi ≤ V.heap.size) (hh : LtR v1 v2 v3 hi) : Ow B hi (fun V => MkR V B v1 v2 v3 n m k) V :=
  Ow.and (Ow.row h.1 h1 h2 fun g hg => hh g (Or.inl hg)) (Ow.and (Ow.row h.2.1 h1 h2 fun g hg => hh g (Or.inr (Or.inl hg))) (Ow.row h.2.2 h1 h2 fun g hg => hh g (Or.inr (Or.inr hg))))
theorem own_form9 {w : World} {B n k : Nat} {t : TypeId} {v : Value} {ys : List Value} (h : w.ownsRow B t k v n ys) : ∃ a c, v = .slice a n c := by
  rcases h.2 with ⟨rfl, rfl⟩ | ⟨g, cap, cur, rfl, _⟩
  · exact ⟨_, _, rfl⟩
  · exact ⟨_, _, rfl⟩

theorem eqToolLog_to (C A : Int) (R : ByteArray) (S U L : Int) (Q : Bool) {w : World} {va vb vc va' vb' vc' : Value} {s : List Ap} {cs : List Int} {rs : List Ap} (hn : s.length ≤ 1048576 ∧ cs.length ≤ 1048576 ∧ rs.length ≤ 1048576) (h1 : RdG w va vb vc s cs rs) (h2 : RdG w va' vb' vc' s cs rs) :
    Calls Try.prog 20 #[.agg #[.int .i64 C, .int .i64 A, .string R, .int .i64 S, .int .i64 U, .int .i64 L, .bool Q, va, vb, vc], .agg #[.int .i64 C, .int .i64 A, .string R, .int .i64 S, .int .i64 U, .int .i64 L, .bool Q, va', vb', vc']] w fun e w' => e = .returned (.bool true) ∧ Below w.heap.size w w' := eqToolLog_same C A R S U L Q hn h1 h2
theorem rn_bound (x : Ts) {s : List Ap} {es : List Te} (h1 : s.length ≤ 1048576) (h2 : es.length ≤ 1048576) : (onL (rtC x s es) s).length ≤ 1048576 ∧ (onC (rtC x s es) (rnC x s es es.length)).length ≤ 1048576 ∧ (onL (rtC x s es) (rnR x s es es.length)).length ≤ 1048576 := by
  refine ⟨onL_len fun _ => h1, ?_, onL_len fun _ => Nat.le_trans (rnR_len x s es _) h2⟩
  unfold onC
  split
  · rw [rnC_len]; exact h2
  · exact Nat.zero_le _

set_option maxHeartbeats 3200000 in
theorem markToolLog_to (C A : Int) (R : ByteArray) (S U L : Int) (Q : Bool) {w : World} {B Z : Nat} {v1 v2 v3 : Value} {s : List Ap} {cs : List Int} {rs : List Ap} (hn : s.length ≤ 1048576 ∧ cs.length ≤ 1048576 ∧ rs.length ≤ 1048576) (h : OwR w B v1 v2 v3 s cs rs) (hZ : LtR v1 v2 v3 Z) :
    Calls Try.prog 23 #[.agg #[.int .i64 C, .int .i64 A, .string R, .int .i64 S, .int .i64 U, .int .i64 L, .bool Q, v1, v2, v3], .int .i64 1] w fun e w' => e = .returned (.int .i64 (1 + 2 * (s.length : Int) + (cs.length : Int) + 2 * (rs.length : Int))) ∧ MkR w' B v1 v2 v3 s.length cs.length rs.length ∧ Chg B Z w w' := by
  obtain ⟨a, c, e1⟩ := own_form9 h.t
  obtain ⟨b, d, e2⟩ := own_form9 h.c
  obtain ⟨f, hh, e3⟩ := own_form9 h.r
  obtain ⟨n, hnn⟩ : ∃ m, m = s.length := ⟨_, rfl⟩
  obtain ⟨m, hmm⟩ : ∃ m, m = cs.length := ⟨_, rfl⟩
  obtain ⟨k, hkk⟩ : ∃ m, m = rs.length := ⟨_, rfl⟩
  rw [← hnn] at e1
  rw [← hmm] at e2
  rw [← hkk] at e3
  subst e1 e2 e3
  obtain ⟨T0, hT0⟩ : ∃ T, T = 1 + 2 * (n : Int) := ⟨_, rfl⟩
  obtain ⟨T1, hT1⟩ : ∃ T, T = T0 + (m : Int) := ⟨_, rfl⟩
  obtain ⟨T2, hT2⟩ : ∃ T, T = T1 + 2 * (k : Int) := ⟨_, rfl⟩
  have hb0 : 0 ≤ T0 ∧ T0 ≤ 1000000000000 := by omega
  have hb1 : 0 ≤ T1 ∧ T1 ≤ 1000000000000 := by omega
  obtain ⟨X, hX⟩ : ∃ X, X = w.alloc (.cells #[.int .i64 C, .int .i64 A, .string R, .int .i64 S, .int .i64 U, .int .i64 L, .bool Q, .slice a n c, .slice b m d, .slice f k hh] 47) := ⟨_, rfl⟩
  have hbX : Below w.heap.size w X := by rw [hX]; (repeat' (first | (with_reducible exact Below.refl _ _) | (with_reducible assumption) | (with_reducible refine Below.setCell ?_ ?_ _) | (with_reducible refine Below.alloc ?_ ?_ _) | (with_reducible refine below_drewN ?_ _) | (with_reducible refine Below.drew ?_) | (with_reducible exact Nat.le_refl _) | omega | (simp; done) | (simp; omega)))
  have kX : X.heap[w.heap.size]? = some (.cells #[.int .i64 C, .int .i64 A, .string R, .int .i64 S, .int .i64 U, .int .i64 L, .bool Q, .slice a n c, .slice b m d, .slice f k hh] 47) := by rw [hX]; exact heap_alloc_new w _
  have hwX : OwR X B (.slice a n c) (.slice b m d) (.slice f k hh) s cs rs := h.keep fun q hq => hbX.block q (h.blk hq).2
  have HM0 : Hid (Calls Try.prog 13 #[.agg #[.int .i64 A, .string R, .int .i64 S, .int .i64 U, .int .i64 L, .bool Q, .slice a n c], .int .i64 1] X fun e w' => e = .returned (.int .i64 T0) ∧ w'.ownsRow (bLo (.slice a n c)) 72 2 (.slice a n c) n (mkP stApproval 2 1 (n * 2)) ∧ Chg (bLo (.slice a n c)) (bHi (.slice a n c)) X w') := by
    rw [hT0]
    exact markTool_to A R S U L Q 1 (by omega) (by omega) (by omega) (own_tight (by have h9 := hwX.t; unfold OG at h9; rw [← hnn] at h9; exact h9)) (tight_lt _)
  have HM1 : Hid (∀ W : World, W.ownsRow B 2 1 (.slice b m d) m (cs.map (Value.int .i64)) → Calls Try.prog 43 #[.slice b m d, .int .i64 T0] W fun e w' => e = .returned (.int .i64 T1) ∧ w'.ownsRow (bLo (.slice b m d)) 2 1 (.slice b m d) m (mkV T0 m) ∧ Chg (bLo (.slice b m d)) (bHi (.slice b m d)) W w') := fun W hW => by
    rw [hT1]; exact markInt64S_to T0 (by omega) hb0.1 hb0.2 (own_tight hW) (tight_lt _)
  have HM2 : Hid (∀ W : World, W.ownsRow B 72 2 (.slice f k hh) k (rs.flatMap apC) → Calls Try.prog 38 #[.slice f k hh, .int .i64 T1] W fun e w' => e = .returned (.int .i64 T2) ∧ w'.ownsRow (bLo (.slice f k hh)) 72 2 (.slice f k hh) k (mkP stApproval 2 T1 (k * 2)) ∧ Chg (bLo (.slice f k hh)) (bHi (.slice f k hh)) W w') := fun W hW => by
    rw [hT2]; exact markApprovalS_to T1 (by omega) hb1.1 hb1.2 (own_tight hW) (tight_lt _)
  have H : Hid (OwR w B (.slice a n c) (.slice b m d) (.slice f k hh) s cs rs ∧ LtR (.slice a n c) (.slice b m d) (.slice f k hh) Z ∧ T0 = 1 + 2 * (n : Int) ∧ T1 = T0 + (m : Int) ∧ Below w.heap.size w X ∧ OwR X B (.slice a n c) (.slice b m d) (.slice f k hh) s cs rs) := ⟨h, hZ, hT0, hT1, hbX, hwX⟩
  have HN : Hid (n = s.length ∧ m = cs.length ∧ k = rs.length) := ⟨hnn, hmm, hkk⟩
  rw [← hnn, ← hmm, ← hkk, ← hT0, ← hT1, ← hT2]
  have HK : Hid (X.heap[w.heap.size]? = some (.cells #[.int .i64 C, .int .i64 A, .string R, .int .i64 S, .int .i64 U, .int .i64 L, .bool Q, .slice a n c, .slice b m d, .slice f k hh] 47)) := kX
  clear h hZ hn hnn hmm hkk hT0 hT1 hT2 hbX kX hwX
  go_enter Try.func23, Try.ntmps23
  go_wp2_with (fail)
  rw [← hX]
  clear hX
  refine HM0.out.mono ?_
  rintro e w1 ⟨rfl, hm1, hch⟩
  have hof : ∀ q, q < X.heap.size → (Value.slice a n c).ownBlock ≠ some q → w1.heap[q]? = X.heap[q]? := fun q hq hv => hch.off hq hv
  have k1 : w1.heap[w.heap.size]? = some (.cells #[.int .i64 C, .int .i64 A, .string R, .int .i64 S, .int .i64 U, .int .i64 L, .bool Q, .slice a n c, .slice b m d, .slice f k hh] 47) := (hof _ (ltOf HK.out) fun e => by have := (H.out.1.blk (Or.inl e)).2; omega).trans HK.out
  have HG : Hid (w1.ownsRow B 2 1 (.slice b m d) m (cs.map (Value.int .i64)) ∧ w1.ownsRow B 72 2 (.slice f k hh) k (rs.flatMap apC) ∧ w1.ownsRow B 72 2 (.slice a n c) n (mkP stApproval 2 1 (n * 2)) ∧ Chg B Z w w1 ∧ X.heap.size ≤ w1.heap.size) := by
    refine ⟨?_, ?_, own_back hm1 fun g hg => (H.out.1.blk (Or.inl hg)).1, (Chg.of_below H.out.2.2.2.2.1).trans (hch.tight fun g hg => ⟨(H.out.1.blk (Or.inl hg)).1, H.out.2.1 g (Or.inl hg)⟩), hch.size⟩
    · have h1 := H.out.2.2.2.2.2.c
      unfold IS at h1
      rw [← HN.out.2.1] at h1
      exact ownsRow_keep h1 fun q hq => hof q (H.out.2.2.2.2.2.blk (Or.inr (Or.inl hq))).2 fun e => H.out.1.tc q e hq
    · have h1 := H.out.2.2.2.2.2.r
      unfold OG at h1
      rw [← HN.out.2.2] at h1
      exact ownsRow_keep h1 fun q hq => hof q (H.out.2.2.2.2.2.blk (Or.inr (Or.inr hq))).2 fun e => H.out.1.tr q e hq
  have HK1 : Hid (w1.heap[w.heap.size]? = some (.cells #[.int .i64 C, .int .i64 A, .string R, .int .i64 S, .int .i64 U, .int .i64 L, .bool Q, .slice a n c, .slice b m d, .slice f k hh] 47)) := k1
  obtain ⟨p0, p1, p2, p3, p4, p5, p6, p7, p8, p9, pf, pl⟩ := lg_ten k1
  clear hm1 hch hof k1 pf HM0 HK
  go_wp2_with (fail)
  refine (HM1.out _ HG.out.1).mono ?_
  rintro e w2 ⟨rfl, hm2, hch⟩
  have hof : ∀ q, q < w1.heap.size → (Value.slice b m d).ownBlock ≠ some q → w2.heap[q]? = w1.heap[q]? := fun q hq hv => hch.off hq hv
  have k2 : w2.heap[w.heap.size]? = some (.cells #[.int .i64 C, .int .i64 A, .string R, .int .i64 S, .int .i64 U, .int .i64 L, .bool Q, .slice a n c, .slice b m d, .slice f k hh] 47) := (hof _ (ltOf HK1.out) fun e => by have := (H.out.1.blk (Or.inr (Or.inl e))).2; omega).trans HK1.out
  have HG2 : Hid (w2.ownsRow B 2 1 (.slice b m d) m (mkV T0 m) ∧ w2.ownsRow B 72 2 (.slice f k hh) k (rs.flatMap apC) ∧ w2.ownsRow B 72 2 (.slice a n c) n (mkP stApproval 2 1 (n * 2)) ∧ Chg B Z w w2) := by
    refine ⟨own_back hm2 fun g hg => (H.out.1.blk (Or.inr (Or.inl hg))).1, ownsRow_keep HG.out.2.1 fun q hq => hof q (World.ownsRow.lt HG.out.2.1 q hq).2 fun e => H.out.1.cr q e hq, ownsRow_keep HG.out.2.2.1 fun q hq => hof q (World.ownsRow.lt HG.out.2.2.1 q hq).2 fun e => H.out.1.tc q hq e, HG.out.2.2.2.1.trans (hch.tight fun g hg => ⟨(H.out.1.blk (Or.inr (Or.inl hg))).1, H.out.2.1 g (Or.inr (Or.inl hg))⟩)⟩
  clear p0 p1 p2 p3 p4 p5 p6 p7 p8 p9 pl hm2 hch hof HG HM1 HK1
  obtain ⟨p0, p1, p2, p3, p4, p5, p6, p7, p8, p9, pf, pl⟩ := lg_ten k2
  clear k2 pf
  go_wp2_with (fail)
  refine (HM2.out _ HG2.out.2.1).mono ?_
  rintro e w3 ⟨rfl, hm3, hch⟩
  have HC : Hid (MkR w3 B (.slice a n c) (.slice b m d) (.slice f k hh) n m k ∧ Chg B Z w w3) := by
    have hof : ∀ q, q < w2.heap.size → (Value.slice f k hh).ownBlock ≠ some q → w3.heap[q]? = w2.heap[q]? := fun q hq hv => hch.off hq hv
    refine ⟨⟨ownsRow_keep HG2.out.2.2.1 fun q hq => hof q (World.ownsRow.lt HG2.out.2.2.1 q hq).2 fun e => H.out.1.tr q hq e, ?_, ?_⟩, HG2.out.2.2.2.trans (hch.tight fun g hg => ⟨(H.out.1.blk (Or.inr (Or.inr hg))).1, H.out.2.1 g (Or.inr (Or.inr hg))⟩)⟩
    · rw [← H.out.2.2.1]
      exact ownsRow_keep HG2.out.1 fun q hq => hof q (World.ownsRow.lt HG2.out.1 q hq).2 fun e => H.out.1.cr q hq e
    · rw [← H.out.2.2.1, ← H.out.2.2.2.1]
      exact own_back hm3 fun g hg => (H.out.1.blk (Or.inr (Or.inr hg))).1
  clear hm3 hch HG2 HM2
  go_wp2
  go_returns
  exact ⟨rfl, HC.out.1, HC.out.2⟩

set_option maxHeartbeats 3200000 in
theorem heldToolLog_to (C A : Int) (R : ByteArray) (S U L : Int) (Q : Bool) {w : World} {B n m k : Nat} {v1 v2 v3 : Value} (hn : n ≤ 1048576 ∧ m ≤ 1048576 ∧ k ≤ 1048576) (h : MkR w B v1 v2 v3 n m k) :
    Calls Try.prog 24 #[.agg #[.int .i64 C, .int .i64 A, .string R, .int .i64 S, .int .i64 U, .int .i64 L, .bool Q, v1, v2, v3], .int .i64 1] w fun e w' => e = .returned (.int .i64 (1 + 2 * (n : Int) + (m : Int) + 2 * (k : Int))) ∧ Below w.heap.size w w' := by
  obtain ⟨a, c, e1⟩ := own_form9 h.1
  obtain ⟨b, d, e2⟩ := own_form9 h.2.1
  obtain ⟨f, hh, e3⟩ := own_form9 h.2.2
  subst e1 e2 e3
  obtain ⟨T0, hT0⟩ : ∃ T, T = 1 + 2 * (n : Int) := ⟨_, rfl⟩
  obtain ⟨T1, hT1⟩ : ∃ T, T = T0 + (m : Int) := ⟨_, rfl⟩
  obtain ⟨T2, hT2⟩ : ∃ T, T = T1 + 2 * (k : Int) := ⟨_, rfl⟩
  rw [← hT0, ← hT1, ← hT2]
  have hb0 : 0 ≤ T0 ∧ T0 ≤ 1000000000000 := by omega
  have hb1 : 0 ≤ T1 ∧ T1 ≤ 1000000000000 := by omega
  have hc0 : ¬ T0 < 0 := by omega
  have hc1 : ¬ T1 < 0 := by omega
  have hc2 : ¬ T2 < 0 := by omega
  have HM0 : Hid (∀ W : World, Below w.heap.size w W → Calls Try.prog 39 #[.agg #[.int .i64 A, .string R, .int .i64 S, .int .i64 U, .int .i64 L, .bool Q, .slice a n c], .int .i64 1] W fun e w' => e = .returned (.int .i64 T0) ∧ Below W.heap.size W w') := fun W hW => by
    rw [hT0]; exact heldTool_to A R S U L Q 1 hn.1 (by omega) (by omega) (ownsRow_keep h.1 fun q hq => hW.block q (World.ownsRow.lt h.1 q hq).2)
  have HM1 : Hid (∀ W : World, Below w.heap.size w W → Calls Try.prog 44 #[.slice b m d, .int .i64 T0] W fun e w' => e = .returned (.int .i64 T1) ∧ w' = W) := fun W hW => by
    rw [hT1]; exact heldInt64S_to T0 hn.2.1 hb0.1 hb0.2 (by rw [hT0]; exact ownsRow_keep h.2.1 fun q hq => hW.block q (World.ownsRow.lt h.2.1 q hq).2)
  have HM2 : Hid (∀ W : World, Below w.heap.size w W → Calls Try.prog 45 #[.slice f k hh, .int .i64 T1] W fun e w' => e = .returned (.int .i64 T2) ∧ Below W.heap.size W w') := fun W hW => by
    rw [hT2]; exact heldApprovalS_to T1 hn.2.2 hb1.1 hb1.2 (by rw [hT1, hT0]; exact ownsRow_keep h.2.2 fun q hq => hW.block q (World.ownsRow.lt h.2.2 q hq).2)
  clear h hn hT0 hT1 hT2
  obtain ⟨X, hX⟩ : ∃ X, X = w.alloc (.cells #[.int .i64 C, .int .i64 A, .string R, .int .i64 S, .int .i64 U, .int .i64 L, .bool Q, .slice a n c, .slice b m d, .slice f k hh] 47) := ⟨_, rfl⟩
  have HX : Hid (Below w.heap.size w X ∧ X.heap[w.heap.size]? = some (.cells #[.int .i64 C, .int .i64 A, .string R, .int .i64 S, .int .i64 U, .int .i64 L, .bool Q, .slice a n c, .slice b m d, .slice f k hh] 47)) := ⟨by rw [hX]; (repeat' (first | (with_reducible exact Below.refl _ _) | (with_reducible assumption) | (with_reducible refine Below.setCell ?_ ?_ _) | (with_reducible refine Below.alloc ?_ ?_ _) | (with_reducible refine below_drewN ?_ _) | (with_reducible refine Below.drew ?_) | (with_reducible exact Nat.le_refl _) | omega | (simp; done) | (simp; omega))), by rw [hX]; exact heap_alloc_new w _⟩
  go_enter Try.func24, Try.ntmps24
  go_wp2_with (fail)
  rw [← hX]
  clear hX
  refine (HM0.out _ HX.out.1).mono ?_
  rintro e w1 ⟨rfl, hb⟩
  have k1 := (hb.block _ (ltOf HX.out.2)).trans HX.out.2
  have HB1 : Hid (Below w.heap.size w w1) := HX.out.1.trans (hb.mono HX.out.1.size)
  obtain ⟨p0, p1, p2, p3, p4, p5, p6, p7, p8, p9, pf, pl⟩ := lg_ten k1
  have HK1 : Hid (w1.heap[w.heap.size]? = some (.cells #[.int .i64 C, .int .i64 A, .string R, .int .i64 S, .int .i64 U, .int .i64 L, .bool Q, .slice a n c, .slice b m d, .slice f k hh] 47)) := k1
  clear hb k1 pf HM0 HX
  go_wp2_with (fail)
  refine (HM1.out _ HB1.out).mono ?_
  rintro e w2 ⟨rfl, hw⟩
  subst w2
  go_wp2_with (fail)
  refine (HM2.out _ HB1.out).mono ?_
  rintro e w3 ⟨rfl, hb⟩
  have HB2 : Hid (Below w.heap.size w w3) := HB1.out.trans (hb.mono HB1.out.size)
  clear hb
  go_wp2
  go_returns
  exact ⟨rfl, HB2.out⟩

end Go.Proofs.Ytkacfjbhkgdpdaa
