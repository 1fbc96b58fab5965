/- Proved here: CutBlocks of the model: mgF, cbL. -/
import Derived.Test.YtejpjbihdclngaaCbM
import Derived.Test.YtejpjbihdclngaaBkV
import Derived.Test.YtejpjbihdclngaaOpN
import Derived.Test.YtejpjbihdclngaaLwS
import Derived.Test.YtejpjbihdclngaaYwO
import Derived.Test.YtejpjbihdclngaaMsS
import Derived.Deep.Cut
import Derived.Deep.DeepCutAuto
import Derived.Maps.AppendAt
namespace Go.Proofs.Ytejpjbihdclngaa
open Go.RowKit Go.Maps
set_option linter.unusedVariables false
set_option linter.unusedSimpArgs false

/-- Where the cutting stands: the message, the answer's place, the rows. -/
structure CS (w wr : World) (mo : Obj) (v : Value) (ls : List (List UInt8)) (vs : List Value) : Prop where
  bl : Below w.heap.size w wr
  b0 : wr.heap[w.heap.size]? = some mo
  b1 : wr.heap[w.heap.size + 1]? = some (.cells #[.int .i64 0, .slice none 0 0] 42)
  ro : RoY wr (w.heap.size + 2) v ls vs
theorem CS.next {w wr wr' : World} {mo : Obj} {v : Value} {ls : List (List UInt8)} {vs : List Value} (h : CS w wr mo v ls vs) (hb : Below wr.heap.size wr wr') : CS w wr' mo v ls vs :=
  ⟨h.bl.trans (hb.mono h.bl.size), (hb.block _ (ltOf h.b0)).trans h.b0, (hb.block _ (ltOf h.b1)).trans h.b1, h.ro.below hb⟩
theorem CS.push {w wr W w1 : World} {m : Nat} {mo ob : Obj} {v v' u : Value} {ls : List (List UInt8)} {vs : List Value} {l : List UInt8} (h : CS w wr mo v ls vs) (hb : Below wr.heap.size wr W) (hu : OBy W wr.heap.size u l) (hm : m = ls.length)
    (ho : w1.ownsRow (w.heap.size + 2) 22 1 v' (m + 1) (vs ++ [u])) (hg : (W.alloc ob).grownBy w1 v.ownBlock) : CS w w1 mo v' (ls ++ [l]) (vs ++ [u]) := by
  have hs := ltOf h.b1
  have hW := h.next hb
  have hsz := hb.size
  have hlt : ∀ q, v.ownBlock = some q → w.heap.size + 2 ≤ q := fun q hq => (rowBlk h.ro.o hq).1
  have hbl : ∀ j, j ≤ w.heap.size + 1 → w1.heap[j]? = W.heap[j]? := fun j hj => by
    rw [hg.block _ (by simp; omega) (fun e => by have := hlt _ e.symm; omega), Below.heap_alloc _ _ _ (by omega)]
  refine ⟨(hW.bl.alloc hW.bl.size _).grown hg (by have := hW.bl.size; simp; omega) (fun q hq => by have := hlt q hq; omega), (hbl _ (by omega)).trans hW.b0, (hbl _ (Nat.le_refl _)).trans hW.b1, h.ro.push hb (by omega) hu (by rw [← hm]; exact ho) hg⟩
theorem two_D {w : World} {k : Nat} {a b : Value} {T : TypeId} (h : w.heap[k]? = some (.cells #[a, b] T)) :
    w.cell? ⟨k, 0, none⟩ = some a ∧ w.cell? ⟨k, 1, none⟩ = some b ∧ w.frozen? ⟨k, 0, none⟩ = false ∧ w.frozen? ⟨k, 1, none⟩ = false ∧ k < w.heap.size := ⟨cellOf h 0 rfl, cellOf h 1 rfl, frozOf h 0, frozOf h 1, ltOf h⟩
theorem four_D {w : World} {k : Nat} {a b c d : Value} {T : TypeId} (h : w.heap[k]? = some (.cells #[a, b, c, d] T)) :
    w.cell? ⟨k, 0, none⟩ = some a ∧ w.cell? ⟨k, 1, none⟩ = some b ∧ w.cell? ⟨k, 2, none⟩ = some c ∧ w.cell? ⟨k, 3, none⟩ = some d ∧ k < w.heap.size := ⟨cellOf h 0 rfl, cellOf h 1 rfl, cellOf h 2 rfl, cellOf h 3 rfl, ltOf h⟩
theorem own_someD {w : World} {B T k n : Nat} {v : Value} {xs : List Value} (h : w.ownsRow B T k v n xs) (hn : 0 < n) : ∃ g c, v = .slice (some ⟨g, 0, none⟩) n c ∧ n ≤ c ∧ B ≤ g ∧ g < w.heap.size := by
  rcases h.2 with ⟨rfl, h0⟩ | ⟨g, cap, cur, rfl, hB, hg, hc, _⟩
  · omega
  · exact ⟨g, cap, rfl, hc, hB, (World.ownsRow.lt h g rfl).2⟩
theorem cb_rows {w W : World} {mo : Obj} {va : Option Addr} {k vc : Nat} {ls : List (List UInt8)} {vs : List Value} (h : CS w W mo (.slice va k vc) ls vs) : W.ownsRow (w.heap.size + 2) 22 1 (.slice va k vc) k vs := by
  have h9 := h.ro.o
  have hk : k = ls.length := by obtain ⟨_, _, e⟩ := h.ro.form; injection e
  rw [hk] at h9 ⊢; exact h9
theorem cb_join {wr W2 W4 : World} {bl HD : List UInt8} {S P gb cb : Nat} {S1 S2 : Int} {v4 : Value} {oo : Obj} (hb : bl = HD ++ [hiB S, loB S]) (hl : HD.length = 6 + P) (hf : [hiB S, loB S].flatMap byC = [.int .u8 S1, .int .u8 S2])
    (h2 : OBy W2 wr.heap.size (.slice (some ⟨gb, 0, none⟩) (6 + P) cb) HD ∧ Below wr.heap.size wr W2) (hown : W4.ownsRow wr.heap.size 5 1 v4 (6 + P + 2) (HD.flatMap byC ++ [.int .u8 S1, .int .u8 S2])) (hg : (W2.alloc oo).grownBy W4 (Value.slice (some ⟨gb, 0, none⟩) (6 + P) cb).ownBlock) (hgb : wr.heap.size ≤ gb) :
    OBy W4 wr.heap.size v4 bl ∧ Below wr.heap.size wr W4 := by
  refine ⟨?_, (h2.2.alloc h2.2.size _).grown hg (by have := h2.2.size; simp; omega) (fun q hq => by simp only [Value.ownBlock, Option.some.injEq] at hq; omega)⟩
  rw [hb]
  refine OBy.join ?_
  rw [hl, hf]; exact hown
set_option maxRecDepth 10000 in
set_option maxHeartbeats 25600000 in
theorem spec_cb (A B C : Int) {w : World} {g o c : Nat} {s : List UInt8} (hn : s.length ≤ 1048576) (h : RBy w (.slice (some ⟨g, o, none⟩) s.length c) s) (hc : s.length ≤ c) :
    Calls Try.prog 19 #[.agg #[.int .i64 A, .int .i64 B, .int .i64 C, .slice (some ⟨g, o, none⟩) s.length c]] w fun e w' => ∃ v vs, e = .returned (.agg #[.int .i64 (mgF A B C s.length), v]) ∧ RoY w' w.heap.size v (cbL A B C s) vs ∧ Below w.heap.size w w' := by
  obtain ⟨i0, hi, hz0, hz1, hz2⟩ := info_parts info_rowY
  obtain ⟨j0, hj, hy0, hy1, hy2⟩ := info_parts info_by
  obtain ⟨n, hnn⟩ : ∃ n, n = s.length := ⟨_, rfl⟩
  rw [← hnn] at h hn hc ⊢
  obtain ⟨Cd, hCd⟩ : ∃ X, X = mgF A B C n := ⟨_, rfl⟩
  obtain ⟨LL, hLL⟩ : ∃ X, X = cbL A B C s := ⟨_, rfl⟩
  rw [← hCd, ← hLL]
  have HMG : Hid (∀ W, Below w.heap.size w W → Calls Try.prog 15 #[.agg #[.int .i64 A, .int .i64 B, .int .i64 C, .slice (some ⟨g, o, none⟩) n c]] W fun e w' => e = .returned (.int .i64 Cd) ∧ Below W.heap.size W w') := fun W hW => by
    have h9 := spec_mg A B C (s := s) (h.below hW); rw [← hnn, ← hCd] at h9; exact h9
  have H : Hid (RBy w (.slice (some ⟨g, o, none⟩) n c) s ∧ n = s.length ∧ Cd = mgF A B C n ∧ LL = cbL A B C s) := ⟨h, hnn, hCd, hLL⟩
  clear h hnn hCd hLL
  obtain ⟨W0, hW0⟩ : ∃ W, W = (w.alloc (.cells #[.int .i64 A, .int .i64 B, .int .i64 C, .slice (some ⟨g, o, none⟩) n c] 36)).alloc (.cells #[.int .i64 0, .slice none 0 0] 42) := ⟨_, rfl⟩
  have HW0 : Hid (Below w.heap.size w W0 ∧ W0.heap[w.heap.size]? = some (.cells #[.int .i64 A, .int .i64 B, .int .i64 C, .slice (some ⟨g, o, none⟩) n c] 36) ∧ W0.heap[w.heap.size + 1]? = some (.cells #[.int .i64 0, .slice none 0 0] 42) ∧ W0.heap.size = w.heap.size + 2) := by
    rw [hW0]
    refine ⟨by (repeat' (first | (with_reducible exact Below.refl _ _) | (with_reducible assumption) | (with_reducible refine Below.setCell ?_ ?_ _) | (with_reducible refine Below.alloc ?_ ?_ _) | (with_reducible refine below_drewN ?_ _) | (with_reducible refine Below.drew ?_) | (with_reducible exact Nat.le_refl _) | omega | (simp; done) | (simp; omega))), (Below.heap_alloc _ _ _ (by simp)).trans (heap_alloc_new w _), ?_, by simp⟩
    have := heap_alloc_new (w.alloc (.cells #[.int .i64 A, .int .i64 B, .int .i64 C, .slice (some ⟨g, o, none⟩) n c] 36)) (.cells #[.int .i64 0, .slice none 0 0] 42)
    simpa using this
  go_enter Try.func19, Try.ntmps19
  go_upto_region 1 with fail
  rw [← hW0]
  clear hW0
  obtain ⟨m0, m1, m2, m3, ml⟩ := four_D HW0.out.2.1
  go_wp2_with (fail)
  refine (HMG.out W0 HW0.out.1).mono ?_
  rintro e w1 ⟨rfl, hb⟩
  have HW1 : Hid (Below w.heap.size w w1 ∧ w1.heap[w.heap.size]? = some (.cells #[.int .i64 A, .int .i64 B, .int .i64 C, .slice (some ⟨g, o, none⟩) n c] 36) ∧ w1.heap[w.heap.size + 1]? = some (.cells #[.int .i64 0, .slice none 0 0] 42) ∧ w.heap.size + 2 ≤ w1.heap.size) :=
    ⟨HW0.out.1.trans (hb.mono HW0.out.1.size), (hb.block _ (ltOf HW0.out.2.1)).trans HW0.out.2.1, (hb.block _ (ltOf HW0.out.2.2.1)).trans HW0.out.2.2.1, by have := hb.size; have := HW0.out.2.2.2; omega⟩
  clear hb HW0 HMG m0 m1 m2 m3 ml
  by_cases hC0 : Cd = 0
  case neg =>
    have HZ : Hid (LL = []) := by unfold Hid; rw [H.out.2.2.2, cbL, ← H.out.2.1, ← H.out.2.2.1, if_neg hC0]
    have hA : (Cd != 0) = true := by simpa using hC0
    obtain ⟨p0, p1, pf0, pf1, pl⟩ := two_D HW1.out.2.2.1
    clear H
    go_wp2
    try simp only [Exit.inBlock, Exit.then]
    refine bodyPost_ret (by simp [results, Try.results19, go_sem, p0, p1, pl]; try rfl) rfl ⟨.slice none 0 0, [], rfl, by rw [HZ.out]; exact RoY.nil _ _, ?_⟩
    have hb := HW1.out.1
    (repeat' (first | (with_reducible exact Below.refl _ _) | (with_reducible assumption) | (with_reducible refine Below.setCell ?_ ?_ _) | (with_reducible refine Below.alloc ?_ ?_ _) | (with_reducible refine below_drewN ?_ _) | (with_reducible refine Below.drew ?_) | (with_reducible exact Nat.le_refl _) | omega | (simp; done) | (simp; omega)))
  have hA : (Cd != 0) = false := by rw [hC0]; rfl
  have hgd := mgF_good (H.out.2.2.1.symm.trans hC0)
  have hn2 : n ≤ 2000 := hgd.2.2.2.2.2.2
  have HLL : Hid (LL = cbR A B C s (cbN s)) := by unfold Hid; rw [H.out.2.2.2, cbL, ← H.out.2.1, ← H.out.2.2.1, if_pos hC0]
  have HC0 : Hid (Cd = 0) := hC0
  clear hC0 hgd
  obtain ⟨W2, hW2⟩ : ∃ W, W = w1.alloc (.cells #[] 22) := ⟨_, rfl⟩
  obtain ⟨K2, hK2⟩ : ∃ K, K = w1.heap.size := ⟨_, rfl⟩
  have HS : Hid (CS w W2 (.cells #[.int .i64 A, .int .i64 B, .int .i64 C, .slice (some ⟨g, o, none⟩) n c] 36) (.slice (some ⟨K2, 0, none⟩) 0 0) (cbR A B C s 0) []) := by
    have hs := HW1.out.2.2.2
    rw [hW2, hK2]
    exact ⟨HW1.out.1.alloc HW1.out.1.size _, (Below.heap_alloc _ _ _ (by omega)).trans HW1.out.2.1, (Below.heap_alloc _ _ _ (by omega)).trans HW1.out.2.2.1, RoY.lit0 w1 _ hs⟩
  go_upto_region 5 with fail
  rw [← hW2, ← hK2]
  clear hW2 hK2 HW1
  go_wp2
  go_loopw [4, 5] (fun vo at0 wr => ∃ (k a : Nat) (v : Value) (vs : List Value), v = vo ∧ at0 = .int .i64 (a : Int) ∧ k ≤ 64 ∧ (k = 0 ∨ k = 1 ∨ 32 * (k - 1) < n) ∧ Hid (a = 32 * k ∧ CS w wr (.cells #[.int .i64 A, .int .i64 B, .int .i64 C, .slice (some ⟨g, o, none⟩) n c] 36) v (cbR A B C s k) vs)) (fun _ at0 _ => 2100 - (intOf at0).toNat)
  case atStart => exact ⟨0, 0, _, [], rfl, rfl, by omega, Or.inl rfl, rfl, HS.out⟩
  case round =>
    clear HS
    obtain ⟨k, a, v, vs, rfl, rfl, hk64, hk3, hQ⟩ := hrel
    obtain ⟨va, vc, hvf⟩ := hQ.out.2.ro.form
    rw [cbR_len] at hvf
    subst hvf
    have HQ : Hid (CS w wr (.cells #[.int .i64 A, .int .i64 B, .int .i64 C, .slice (some ⟨g, o, none⟩) n c] 36) (.slice va k vc) (cbR A B C s k) vs) := hQ.out.2
    have HAK : Hid (a = 32 * k ∧ (k = 0 ∨ k = 1 ∨ 32 * (k - 1) < n)) := ⟨hQ.out.1, hk3⟩
    have hab : a ≤ 2048 := by have := hQ.out.1; omega
    clear hQ hk3
    obtain ⟨m0, m1, m2, m3, ml⟩ := four_D HQ.out.b0
    by_cases hgo : a = 0 ∨ a < n
    case neg =>
      have HE : Hid (LL = cbR A B C s k) := by
        have h9 := HAK.out
        unfold Hid; rw [HLL.out, ← cb_end (s := s) (k := k) (by have := H.out.2.1; omega) (by have := H.out.2.1; omega)]
      have ha0 : ((a : Int) == 0) = false := by simp; omega
      have han : ¬ (a : Int) < (n : Int) := by omega
      have han2 : decide ((a : Int) < (n : Int)) = false := decide_eq_false han
      obtain ⟨p0, p1, pf0, pf1, pl⟩ := two_D HQ.out.b1
      clear H HLL HAK
      go_wp2
      try simp only [Exit.inBlock, Exit.then]
      refine bodyPost_ret (by simp [results, Try.results19, go_sem, p0, p1, pl]; try rfl) rfl ?_
      first | refine ⟨.slice va k vc, vs, ?_, ?_, ?_⟩ | refine ⟨.slice va k vc, ?_, ⟨vs, ?_⟩, ?_⟩
      · rw [HC0.out]
      · rw [HE.out]
        refine RoY.low (B := w.heap.size + 2) (HQ.out.ro.kept (fun q hq => ?_) (fun j hj q hq => ?_)) (by omega)
        · have := (rowBlk HQ.out.ro.o hq).1
          rw [heap_setCell_other _ _ _ _ (by simp; omega), heap_setCell_other _ _ _ _ (by simp; omega)]
        · have := (rowBlk (HQ.out.ro.bx j hj) hq).1
          rw [heap_setCell_other _ _ _ _ (by simp; omega), heap_setCell_other _ _ _ _ (by simp; omega)]
      · have hb := HQ.out.bl
        (repeat' (first | (with_reducible exact Below.refl _ _) | (with_reducible assumption) | (with_reducible refine Below.setCell ?_ ?_ _) | (with_reducible refine Below.alloc ?_ ?_ _) | (with_reducible refine below_drewN ?_ _) | (with_reducible refine Below.drew ?_) | (with_reducible exact Nat.le_refl _) | omega | (simp; done) | (simp; omega)))
    have hgo2 : ((a : Int) == 0) = true ∨ (((a : Int) == 0) = false ∧ (a : Int) < (n : Int)) := by
      rcases Nat.eq_zero_or_pos a with h9 | h9
      · left; rw [h9]; rfl
      · right; exact ⟨by simp; omega, by omega⟩
    obtain ⟨P, hP⟩ : ∃ P, P = min 32 (n - a) := ⟨_, rfl⟩
    obtain ⟨LT, hLT⟩ : ∃ b, b = lsB s k := ⟨_, rfl⟩
    have hLT2 : LT = decide (n ≤ a + 32) := by rw [hLT, lsB, ← H.out.2.1, HAK.out.1]
    obtain ⟨DD, hDD⟩ : ∃ D, D = piB s k := ⟨_, rfl⟩
    have hDl : DD.length = P := by
      rw [hDD, piB, List.length_drop, List.length_take, ← H.out.2.1, hP, HAK.out.1]; omega
    obtain ⟨HD, hHD⟩ : ∃ L, L = hdB A B C ((k : Int) + 1) LT DD := ⟨_, rfl⟩
    have HHL : Hid (HD.length = 6 + P) := by unfold Hid; rw [hHD, hdB_len, hDl]
    have HBL : Hid (cbB A B C s k = HD ++ [hiB (suV (HD.drop 1)), loB (suV (HD.drop 1))]) := by unfold Hid; rw [hHD, hLT, hDD]; rfl
    obtain ⟨Z0, hZ0⟩ : ∃ Z, Z = (5 + (P : Int)) % 256 := ⟨_, rfl⟩
    obtain ⟨Z1, hZ1⟩ : ∃ Z, Z = A % 256 := ⟨_, rfl⟩
    obtain ⟨Z2, hZ2⟩ : ∃ Z, Z = B % 256 := ⟨_, rfl⟩
    obtain ⟨Z3, hZ3⟩ : ∃ Z, Z = ((k : Int) + 1) % 256 := ⟨_, rfl⟩
    obtain ⟨Z4, hZ4⟩ : ∃ Z, Z = C % 256 := ⟨_, rfl⟩
    have HF6 : ∀ Z5 : Int, Z5 = (if LT then 1 else 0) → [.int .u8 Z0, .int .u8 Z1, .int .u8 Z2, .int .u8 Z3, .int .u8 Z4, .int .u8 Z5] ++ DD.flatMap byC = HD.flatMap byC := fun Z5 h5 => by
      rw [hHD, hdB, List.flatMap_append, hd_flat, hZ0, hZ1, hZ2, hZ3, hZ4, h5, hDl]
      cases LT <;> rfl
    have HF6 : Hid (∀ Z5 : Int, Z5 = (if LT then 1 else 0) → [.int .u8 Z0, .int .u8 Z1, .int .u8 Z2, .int .u8 Z3, .int .u8 Z4, .int .u8 Z5] ++ DD.flatMap byC = HD.flatMap byC) := HF6
    have hw1 : IntKind.u8.wrap A = Z1 := by rw [hZ1]; exact IntKind.wrap_u8 _
    have hw2 : IntKind.u8.wrap B = Z2 := by rw [hZ2]; exact IntKind.wrap_u8 _
    have hw3 : IntKind.u8.wrap ((k : Int) + 1) = Z3 := by rw [hZ3]; exact IntKind.wrap_u8 _
    have hw4 : IntKind.u8.wrap C = Z4 := by rw [hZ4]; exact IntKind.wrap_u8 _
    have HZ0 : Hid (Z0 = (5 + (P : Int)) % 256) := hZ0
    have HDT : Hid (∀ (W : World) (o2 c2 : Nat), Below w.heap.size w W → (o2 = o + a ∨ P = 0) → RBy W (.slice (some ⟨g, o2, none⟩) P c2) DD) := fun W o2 c2 hW ho => by
      rcases ho with rfl | h0
      · have h1 := RBy.cut (H.out.1.below hW) a (a + P) c2 (by omega) (by have h9 := hgo; omega)
        rw [show a + P - a = P by omega] at h1
        have e : (s.take (a + P)).drop a = DD := by
          rw [hDD, ← piB_cut (s := s) (k := k) (j := a + P) (by rw [← H.out.2.1, hP, HAK.out.1]; have h9 := HAK.out.1; have h8 := hgo; omega), HAK.out.1]
        rw [e] at h1
        exact h1
      · have h0' : DD = [] := List.length_eq_zero_iff.1 (by rw [hDl, h0])
        rw [h0', h0]; exact RG.nil _ _ _ _ _
    have HDL : Hid ((DD.flatMap byC).length = P * 1) := by unfold Hid; rw [by_flen, hDl]
    have hP32 : P ≤ 32 := by omega
    have HP : Hid (P = min 32 (n - a) ∧ LT = decide (n ≤ a + 32)) := ⟨hP, hLT2⟩
    obtain ⟨S, hSS⟩ : ∃ S, S = suV (HD.drop 1) := ⟨_, rfl⟩
    have hSb : S < 65536 := by rw [hSS]; exact suK_lt _ _
    have HSU : Hid (∀ (W : World) (gb cb : Nat), RBy W (.slice (some ⟨gb, 0, none⟩) (6 + P) cb) HD → Calls Try.prog 50 #[.slice (some ⟨gb, 1, none⟩) (5 + P) (cb - 1)] W fun e w' => e = .returned (.int .i64 (S : Int)) ∧ w' = W) := fun W gb cb hW => by
      have h1 := RBy.cut hW 1 (6 + P) (cb - 1) (by omega) (Nat.le_refl _)
      rw [Nat.zero_add, List.take_of_length_le (by rw [HHL.out]; omega), show 6 + P - 1 = 5 + P by omega] at h1
      rw [hSS]
      exact spec_sum (by rw [List.length_drop, HHL.out]; omega) h1
    rw [← hSS] at HBL
    have hq1 : IntKind.u8.wrap ((S : Int) / 256) = (S : Int) / 256 := by rw [IntKind.wrap_u8]; omega
    have hq2 : IntKind.u8.wrap (S : Int) = (S : Int) % 256 := IntKind.wrap_u8 _
    have hq3 : (S : Int).tdiv 256 = (S : Int) / 256 := Int.tdiv_eq_ediv_of_nonneg (by omega)
    obtain ⟨S1, hS1⟩ : ∃ S1, S1 = (S : Int) / 256 := ⟨_, rfl⟩
    obtain ⟨S2, hS2⟩ : ∃ S2, S2 = (S : Int) % 256 := ⟨_, rfl⟩
    rw [← hS1] at hq1 hq3
    rw [← hS2] at hq2
    have hq4 : IntKind.u8.wrap S1 = S1 := by rw [hS1, IntKind.wrap_u8]; omega
    have hS1b : 0 ≤ S1 ∧ S1 ≤ 255 := by rw [hS1]; omega
    have hS1c : wrap64 S1 % 256 = S1 := by unfold wrap64; omega
    have HSF : Hid ([hiB S, loB S].flatMap byC = [.int .u8 S1, .int .u8 S2]) := by
      unfold Hid
      show [Value.int .u8 ((hiB S).toNat : Int), Value.int .u8 ((loB S).toNat : Int)] = _
      rw [hiB_nat hSb, loB_nat, hS1, hS2]; rfl
    clear hS1 hS2 hSS hZ0 hZ1 hZ2 hZ3 hZ4 hHD hDl hDD hLT hLT2 hP HLL hq1
    have hkw : IntKind.i64.wrap ((k : Int) + 1) = (k : Int) + 1 := by rw [IntKind.wrap_i64]; omega
    have HNS : Hid (n = s.length) := H.out.2.1
    clear H
    have HSZ : Hid (w.heap.size + 2 ≤ wr.heap.size) := by unfold Hid; have := ltOf HQ.out.b1; omega
    by_cases hnl : n < a + 32
    · have he1 : (n : Int) < (a : Int) + 32 := by omega
      have hwz : IntKind.u8.wrap (5 + (n : Int) - (a : Int)) = Z0 := by
        have hPn : P = n - a := by have := HP.out.1; omega
        rw [HZ0.out, hPn, IntKind.wrap_u8, show (((n - a : Nat)) : Int) = (n : Int) - (a : Int) by omega]; congr 1; omega
      have hwz2 : (n - a : Nat) = P := by have := HP.out.1; omega
      have HWZ : Hid (P = n - a) := hwz2.symm
      have han : a ≤ n := by omega
      have hnc : n ≤ c := hc
      rcases hgo2 with hg1 | ⟨hg1, hg2⟩
      · by_cases hca : c = a
        · obtain rfl : a = 0 := by simpa using hg1
          obtain rfl : c = 0 := hca
          obtain rfl : n = 0 := by omega
          obtain rfl : P = 0 := by have := HP.out.1; omega
          obtain rfl : Z0 = 5 := by rw [HZ0.out]; rfl
          clear hwz hwz2 HWZ han hnc
          skip
          have HOW1 : Hid ((wr.alloc (.cells #[.int .u8 5, .int .u8 Z1, .int .u8 Z2, .int .u8 Z3, .int .u8 Z4, .int .u8 1] 5)).ownsRow wr.heap.size 5 1 (.slice (some ⟨wr.heap.size, 0, none⟩) 6 6) 6 [.int .u8 5, .int .u8 Z1, .int .u8 Z2, .int .u8 Z3, .int .u8 Z4, .int .u8 1]) := World.ownsRow_lit (e := 5) (size := 1) (base := wr.heap.size) wr #[.int .u8 5, .int .u8 Z1, .int .u8 Z2, .int .u8 Z3, .int .u8 Z4, .int .u8 1] 6 (Nat.le_refl _) (by decide) (by simp)
          have HDW : Hid (RBy (wr.alloc (.cells #[.int .u8 5, .int .u8 Z1, .int .u8 Z2, .int .u8 Z3, .int .u8 Z4, .int .u8 1] 5)) (.slice (some ⟨g, o, none⟩) 0 (0 - 0)) DD) := HDT.out _ _ _ (HQ.out.bl.alloc HQ.out.bl.size _) (by omega)
          go_wp2_with (at_builtin; go_loud (refine appAny rfl _ _ 22 rfl wr.heap.size 5 j0 (.int .u8 0) 1 1 Try.underlying22 hj hy0 hy1 hy2 rfl (by decide) (.slice (some ⟨wr.heap.size, 0, none⟩) 6 6) 6 [.int .u8 5, .int .u8 Z1, .int .u8 Z2, .int .u8 Z3, .int .u8 Z4, .int .u8 1] rfl HOW1.out (some ⟨g, o, none⟩) 0 (0 - 0) (DD.flatMap byC) rfl HDL.out (by intro h; cases h) (by_news HDW.out) (byC_one DD) (by unfold maxLen; omega) (by omega) (by simp) ?_); intro v2 W2 hown2 hgrow2 _; go_loud (obtain ⟨gb, cb, rfl, hcb, hgb, hgb2⟩ := own_someD hown2 (by omega)))
          have HW2 : Hid (OBy W2 wr.heap.size (.slice (some ⟨gb, 0, none⟩) (6 + 0) cb) HD ∧ Below wr.heap.size wr W2) := by
            refine ⟨?_, ((Below.refl _ _).alloc (Nat.le_refl _) _).grown hgrow2 (by simp) (fun q hq => by simp only [Value.ownBlock, Option.some.injEq] at hq; omega)⟩
            show World.ownsRow _ _ _ _ _ _ _
            rw [HHL.out, ← HF6.out 1 (by rw [HP.out.2]; rw [decide_eq_true (by omega)]; rfl)]; exact hown2
          clear hown2 hgrow2 HOW1 HDW
          refine (HSU.out W2 gb cb HW2.out.1.rg).mono ?_
          rintro e w3 ⟨rfl, hw3'⟩
          subst w3
          have HOW2 : Hid (W2.ownsRow wr.heap.size 5 1 (.slice (some ⟨gb, 0, none⟩) (6 + 0) cb) (6 + 0) (HD.flatMap byC)) := by
            have h9 : W2.ownsRow wr.heap.size 5 1 (.slice (some ⟨gb, 0, none⟩) (6 + 0) cb) HD.length (HD.flatMap byC) := HW2.out.1
            rw [HHL.out] at h9; exact h9
          have hs2 := HW2.out.2.size
          have hs9 := HSZ.out
          go_wp2_with (first | (at_builtin; refine wpList_append_own _ rfl _ _ 22 rfl wr.heap.size 5 j0 (.int .u8 0) 1 1 Try.underlying22 hj hy0 hy1 hy2 rfl (by decide) (.slice (some ⟨gb, 0, none⟩) (6 + 0) cb) (6 + 0) (HD.flatMap byC) rfl (World.ownsRow.alloc HOW2.out _) ⟨W2.heap.size, 0, none⟩ 2 2 [.int .u8 S1, .int .u8 S2] rfl rfl (World.news_of_block (cs := #[.int .u8 S1, .int .u8 S2]) (t := 5) (fr := (0, 0)) (heap_alloc_new W2 _)) (by simp [Value.oneCell']) (by unfold maxLen; omega) (by omega) (by simp; omega) ?_; intro v4 W4 hown4 hgrow4 _; obtain ⟨ga, ca, rfl, hca, hga, hga2⟩ := own_someD hown4 (by omega); have HW4 : Hid (OBy W4 wr.heap.size (.slice (some ⟨ga, 0, none⟩) (6 + 0 + 2) ca) (cbB A B C s k) ∧ Below wr.heap.size wr W4) := (cb_join HBL.out HHL.out HSF.out HW2.out hown4 hgrow4 hgb); have hs4 := HW4.out.2.size; have HOW4 : Hid (W4.ownsRow (w.heap.size + 2) 22 1 (.slice va k vc) k vs) := (cb_rows (HQ.out.next HW4.out.2)); clear hown4 hgrow4) | (at_builtin; refine wpList_append_own _ rfl _ _ 40 rfl (w.heap.size + 2) 22 i0 (.slice none 0 0) 1 24 Try.underlying40 hi hz0 hz1 hz2 rfl (by decide) (.slice va k vc) k vs rfl (World.ownsRow.alloc HOW4.out _) ⟨W4.heap.size, 0, none⟩ 1 1 [.slice (some ⟨ga, 0, none⟩) (6 + 0 + 2) ca] rfl rfl (World.news_of_block (cs := #[.slice (some ⟨ga, 0, none⟩) (6 + 0 + 2) ca]) (t := 22) (fr := (0, 0)) (heap_alloc_new W4 _)) (by simp [Value.oneCell']) (by unfold maxLen; omega) (by omega) (by simp; omega) ?_; intro v7 w7 hown7 hgrow7 _))
          have HM : Hid (CS w w7 (.cells #[.int .i64 A, .int .i64 B, .int .i64 C, .slice (some ⟨g, o, none⟩) 0 0] 36) v7 (cbR A B C s (k + 1)) (vs ++ [.slice (some ⟨ga, 0, none⟩) (6 + 0 + 2) ca])) := HQ.out.push HW4.out.2 HW4.out.1 (cbR_len A B C s k).symm hown7 hgrow7
          clear hown7 hgrow7
          go_roundw
          case rel => exact ⟨k + 1, 0 + 32, v7, _, rfl, by go_num, by have := HAK.out; omega, by have := HAK.out; omega, by have := HAK.out; omega, HM.out⟩
          case measure => first | (simp [intOf]; done) | (simp [intOf]; omega)
        · have hca2 : ¬ c - a = 0 := by omega
          skip
          have HOW1 : Hid ((wr.alloc (.cells #[.int .u8 Z0, .int .u8 Z1, .int .u8 Z2, .int .u8 Z3, .int .u8 Z4, .int .u8 1] 5)).ownsRow wr.heap.size 5 1 (.slice (some ⟨wr.heap.size, 0, none⟩) 6 6) 6 [.int .u8 Z0, .int .u8 Z1, .int .u8 Z2, .int .u8 Z3, .int .u8 Z4, .int .u8 1]) := World.ownsRow_lit (e := 5) (size := 1) (base := wr.heap.size) wr #[.int .u8 Z0, .int .u8 Z1, .int .u8 Z2, .int .u8 Z3, .int .u8 Z4, .int .u8 1] 6 (Nat.le_refl _) (by decide) (by simp)
          have HDW : Hid (RBy (wr.alloc (.cells #[.int .u8 Z0, .int .u8 Z1, .int .u8 Z2, .int .u8 Z3, .int .u8 Z4, .int .u8 1] 5)) (.slice (some ⟨g, o + a, none⟩) P (c - a)) DD) := HDT.out _ _ _ (HQ.out.bl.alloc HQ.out.bl.size _) (by omega)
          go_wp2_with (at_builtin; go_loud (refine appAny rfl _ _ 22 rfl wr.heap.size 5 j0 (.int .u8 0) 1 1 Try.underlying22 hj hy0 hy1 hy2 rfl (by decide) (.slice (some ⟨wr.heap.size, 0, none⟩) 6 6) 6 [.int .u8 Z0, .int .u8 Z1, .int .u8 Z2, .int .u8 Z3, .int .u8 Z4, .int .u8 1] rfl HOW1.out (some ⟨g, o + a, none⟩) P (c - a) (DD.flatMap byC) rfl HDL.out (by intro h; cases h) (by_news HDW.out) (byC_one DD) (by unfold maxLen; omega) (by omega) (by simp) ?_); intro v2 W2 hown2 hgrow2 _; go_loud (obtain ⟨gb, cb, rfl, hcb, hgb, hgb2⟩ := own_someD hown2 (by omega)))
          have HW2 : Hid (OBy W2 wr.heap.size (.slice (some ⟨gb, 0, none⟩) (6 + P) cb) HD ∧ Below wr.heap.size wr W2) := by
            refine ⟨?_, ((Below.refl _ _).alloc (Nat.le_refl _) _).grown hgrow2 (by simp) (fun q hq => by simp only [Value.ownBlock, Option.some.injEq] at hq; omega)⟩
            show World.ownsRow _ _ _ _ _ _ _
            rw [HHL.out, ← HF6.out 1 (by rw [HP.out.2]; rw [decide_eq_true (by omega)]; rfl)]; exact hown2
          clear hown2 hgrow2 HOW1 HDW
          refine (HSU.out W2 gb cb HW2.out.1.rg).mono ?_
          rintro e w3 ⟨rfl, hw3'⟩
          subst w3
          have HOW2 : Hid (W2.ownsRow wr.heap.size 5 1 (.slice (some ⟨gb, 0, none⟩) (6 + P) cb) (6 + P) (HD.flatMap byC)) := by
            have h9 : W2.ownsRow wr.heap.size 5 1 (.slice (some ⟨gb, 0, none⟩) (6 + P) cb) HD.length (HD.flatMap byC) := HW2.out.1
            rw [HHL.out] at h9; exact h9
          have hs2 := HW2.out.2.size
          have hs9 := HSZ.out
          go_wp2_with (first | (at_builtin; refine wpList_append_own _ rfl _ _ 22 rfl wr.heap.size 5 j0 (.int .u8 0) 1 1 Try.underlying22 hj hy0 hy1 hy2 rfl (by decide) (.slice (some ⟨gb, 0, none⟩) (6 + P) cb) (6 + P) (HD.flatMap byC) rfl (World.ownsRow.alloc HOW2.out _) ⟨W2.heap.size, 0, none⟩ 2 2 [.int .u8 S1, .int .u8 S2] rfl rfl (World.news_of_block (cs := #[.int .u8 S1, .int .u8 S2]) (t := 5) (fr := (0, 0)) (heap_alloc_new W2 _)) (by simp [Value.oneCell']) (by unfold maxLen; omega) (by omega) (by simp; omega) ?_; intro v4 W4 hown4 hgrow4 _; obtain ⟨ga, ca, rfl, hca, hga, hga2⟩ := own_someD hown4 (by omega); have HW4 : Hid (OBy W4 wr.heap.size (.slice (some ⟨ga, 0, none⟩) (6 + P + 2) ca) (cbB A B C s k) ∧ Below wr.heap.size wr W4) := (cb_join HBL.out HHL.out HSF.out HW2.out hown4 hgrow4 hgb); have hs4 := HW4.out.2.size; have HOW4 : Hid (W4.ownsRow (w.heap.size + 2) 22 1 (.slice va k vc) k vs) := (cb_rows (HQ.out.next HW4.out.2)); clear hown4 hgrow4) | (at_builtin; refine wpList_append_own _ rfl _ _ 40 rfl (w.heap.size + 2) 22 i0 (.slice none 0 0) 1 24 Try.underlying40 hi hz0 hz1 hz2 rfl (by decide) (.slice va k vc) k vs rfl (World.ownsRow.alloc HOW4.out _) ⟨W4.heap.size, 0, none⟩ 1 1 [.slice (some ⟨ga, 0, none⟩) (6 + P + 2) ca] rfl rfl (World.news_of_block (cs := #[.slice (some ⟨ga, 0, none⟩) (6 + P + 2) ca]) (t := 22) (fr := (0, 0)) (heap_alloc_new W4 _)) (by simp [Value.oneCell']) (by unfold maxLen; omega) (by omega) (by simp; omega) ?_; intro v7 w7 hown7 hgrow7 _))
          have HM : Hid (CS w w7 (.cells #[.int .i64 A, .int .i64 B, .int .i64 C, .slice (some ⟨g, o, none⟩) n c] 36) v7 (cbR A B C s (k + 1)) (vs ++ [.slice (some ⟨ga, 0, none⟩) (6 + P + 2) ca])) := HQ.out.push HW4.out.2 HW4.out.1 (cbR_len A B C s k).symm hown7 hgrow7
          clear hown7 hgrow7
          go_roundw
          case rel => exact ⟨k + 1, a + 32, v7, _, rfl, by go_num, by have := HAK.out; omega, by have := HAK.out; omega, by have := HAK.out; omega, HM.out⟩
          case measure => first | (simp [intOf]; done) | (simp [intOf]; omega)
      · have hca : ¬ c = a := by omega
        have hca2 : ¬ c - a = 0 := by omega
        skip
        have HOW1 : Hid ((wr.alloc (.cells #[.int .u8 Z0, .int .u8 Z1, .int .u8 Z2, .int .u8 Z3, .int .u8 Z4, .int .u8 1] 5)).ownsRow wr.heap.size 5 1 (.slice (some ⟨wr.heap.size, 0, none⟩) 6 6) 6 [.int .u8 Z0, .int .u8 Z1, .int .u8 Z2, .int .u8 Z3, .int .u8 Z4, .int .u8 1]) := World.ownsRow_lit (e := 5) (size := 1) (base := wr.heap.size) wr #[.int .u8 Z0, .int .u8 Z1, .int .u8 Z2, .int .u8 Z3, .int .u8 Z4, .int .u8 1] 6 (Nat.le_refl _) (by decide) (by simp)
        have HDW : Hid (RBy (wr.alloc (.cells #[.int .u8 Z0, .int .u8 Z1, .int .u8 Z2, .int .u8 Z3, .int .u8 Z4, .int .u8 1] 5)) (.slice (some ⟨g, o + a, none⟩) P (c - a)) DD) := HDT.out _ _ _ (HQ.out.bl.alloc HQ.out.bl.size _) (by omega)
        go_wp2_with (at_builtin; go_loud (refine appAny rfl _ _ 22 rfl wr.heap.size 5 j0 (.int .u8 0) 1 1 Try.underlying22 hj hy0 hy1 hy2 rfl (by decide) (.slice (some ⟨wr.heap.size, 0, none⟩) 6 6) 6 [.int .u8 Z0, .int .u8 Z1, .int .u8 Z2, .int .u8 Z3, .int .u8 Z4, .int .u8 1] rfl HOW1.out (some ⟨g, o + a, none⟩) P (c - a) (DD.flatMap byC) rfl HDL.out (by intro h; cases h) (by_news HDW.out) (byC_one DD) (by unfold maxLen; omega) (by omega) (by simp) ?_); intro v2 W2 hown2 hgrow2 _; go_loud (obtain ⟨gb, cb, rfl, hcb, hgb, hgb2⟩ := own_someD hown2 (by omega)))
        have HW2 : Hid (OBy W2 wr.heap.size (.slice (some ⟨gb, 0, none⟩) (6 + P) cb) HD ∧ Below wr.heap.size wr W2) := by
          refine ⟨?_, ((Below.refl _ _).alloc (Nat.le_refl _) _).grown hgrow2 (by simp) (fun q hq => by simp only [Value.ownBlock, Option.some.injEq] at hq; omega)⟩
          show World.ownsRow _ _ _ _ _ _ _
          rw [HHL.out, ← HF6.out 1 (by rw [HP.out.2]; rw [decide_eq_true (by omega)]; rfl)]; exact hown2
        clear hown2 hgrow2 HOW1 HDW
        refine (HSU.out W2 gb cb HW2.out.1.rg).mono ?_
        rintro e w3 ⟨rfl, hw3'⟩
        subst w3
        have HOW2 : Hid (W2.ownsRow wr.heap.size 5 1 (.slice (some ⟨gb, 0, none⟩) (6 + P) cb) (6 + P) (HD.flatMap byC)) := by
          have h9 : W2.ownsRow wr.heap.size 5 1 (.slice (some ⟨gb, 0, none⟩) (6 + P) cb) HD.length (HD.flatMap byC) := HW2.out.1
          rw [HHL.out] at h9; exact h9
        have hs2 := HW2.out.2.size
        have hs9 := HSZ.out
        go_wp2_with (first | (at_builtin; refine wpList_append_own _ rfl _ _ 22 rfl wr.heap.size 5 j0 (.int .u8 0) 1 1 Try.underlying22 hj hy0 hy1 hy2 rfl (by decide) (.slice (some ⟨gb, 0, none⟩) (6 + P) cb) (6 + P) (HD.flatMap byC) rfl (World.ownsRow.alloc HOW2.out _) ⟨W2.heap.size, 0, none⟩ 2 2 [.int .u8 S1, .int .u8 S2] rfl rfl (World.news_of_block (cs := #[.int .u8 S1, .int .u8 S2]) (t := 5) (fr := (0, 0)) (heap_alloc_new W2 _)) (by simp [Value.oneCell']) (by unfold maxLen; omega) (by omega) (by simp; omega) ?_; intro v4 W4 hown4 hgrow4 _; obtain ⟨ga, ca, rfl, hca, hga, hga2⟩ := own_someD hown4 (by omega); have HW4 : Hid (OBy W4 wr.heap.size (.slice (some ⟨ga, 0, none⟩) (6 + P + 2) ca) (cbB A B C s k) ∧ Below wr.heap.size wr W4) := (cb_join HBL.out HHL.out HSF.out HW2.out hown4 hgrow4 hgb); have hs4 := HW4.out.2.size; have HOW4 : Hid (W4.ownsRow (w.heap.size + 2) 22 1 (.slice va k vc) k vs) := (cb_rows (HQ.out.next HW4.out.2)); clear hown4 hgrow4) | (at_builtin; refine wpList_append_own _ rfl _ _ 40 rfl (w.heap.size + 2) 22 i0 (.slice none 0 0) 1 24 Try.underlying40 hi hz0 hz1 hz2 rfl (by decide) (.slice va k vc) k vs rfl (World.ownsRow.alloc HOW4.out _) ⟨W4.heap.size, 0, none⟩ 1 1 [.slice (some ⟨ga, 0, none⟩) (6 + P + 2) ca] rfl rfl (World.news_of_block (cs := #[.slice (some ⟨ga, 0, none⟩) (6 + P + 2) ca]) (t := 22) (fr := (0, 0)) (heap_alloc_new W4 _)) (by simp [Value.oneCell']) (by unfold maxLen; omega) (by omega) (by simp; omega) ?_; intro v7 w7 hown7 hgrow7 _))
        have HM : Hid (CS w w7 (.cells #[.int .i64 A, .int .i64 B, .int .i64 C, .slice (some ⟨g, o, none⟩) n c] 36) v7 (cbR A B C s (k + 1)) (vs ++ [.slice (some ⟨ga, 0, none⟩) (6 + P + 2) ca])) := HQ.out.push HW4.out.2 HW4.out.1 (cbR_len A B C s k).symm hown7 hgrow7
        clear hown7 hgrow7
        go_roundw
        case rel => exact ⟨k + 1, a + 32, v7, _, rfl, by go_num, by have := HAK.out; omega, by have := HAK.out; omega, by have := HAK.out; omega, HM.out⟩
        case measure => first | (simp [intOf]; done) | (simp [intOf]; omega)
    · have he1 : ¬ (n : Int) < (a : Int) + 32 := by omega
      obtain rfl : P = 32 := by have := HP.out.1; omega
      have hca : ¬ c = a := by omega
      have hca2 : ¬ c - a = 0 := by omega
      have hac : a + 32 ≤ c := by omega
      have hwz : IntKind.u8.wrap (5 + ((a : Int) + 32) - (a : Int)) = Z0 := by
        rw [HZ0.out, IntKind.wrap_u8]; congr 1; omega
      have hwz3 : Z0 = 37 := by rw [HZ0.out]; rfl
      have HZ37 : Hid (Z0 = 37) := hwz3
      clear hwz3
      have hwz4 : a + 32 - a = 32 := by omega
      have hwz5 : ((a : Int) + 32).toNat = a + 32 := by omega
      by_cases hla : n = a + 32
      · have he2 : ((a : Int) + 32 == (n : Int)) = true := by simp; omega
        have HLA : Hid (n = a + 32) := hla
        have hle : (a : Int) + 32 ≤ (n : Int) := by omega
        clear hla
        rcases hgo2 with hg1 | ⟨hg1, hg2⟩
        · skip
          skip
          have HOW1 : Hid ((wr.alloc (.cells #[.int .u8 Z0, .int .u8 Z1, .int .u8 Z2, .int .u8 Z3, .int .u8 Z4, .int .u8 1] 5)).ownsRow wr.heap.size 5 1 (.slice (some ⟨wr.heap.size, 0, none⟩) 6 6) 6 [.int .u8 Z0, .int .u8 Z1, .int .u8 Z2, .int .u8 Z3, .int .u8 Z4, .int .u8 1]) := World.ownsRow_lit (e := 5) (size := 1) (base := wr.heap.size) wr #[.int .u8 Z0, .int .u8 Z1, .int .u8 Z2, .int .u8 Z3, .int .u8 Z4, .int .u8 1] 6 (Nat.le_refl _) (by decide) (by simp)
          have HDW : Hid (RBy (wr.alloc (.cells #[.int .u8 Z0, .int .u8 Z1, .int .u8 Z2, .int .u8 Z3, .int .u8 Z4, .int .u8 1] 5)) (.slice (some ⟨g, o + a, none⟩) 32 (c - a)) DD) := HDT.out _ _ _ (HQ.out.bl.alloc HQ.out.bl.size _) (by omega)
          go_wp2_with (at_builtin; go_loud (refine appAny rfl _ _ 22 rfl wr.heap.size 5 j0 (.int .u8 0) 1 1 Try.underlying22 hj hy0 hy1 hy2 rfl (by decide) (.slice (some ⟨wr.heap.size, 0, none⟩) 6 6) 6 [.int .u8 Z0, .int .u8 Z1, .int .u8 Z2, .int .u8 Z3, .int .u8 Z4, .int .u8 1] rfl HOW1.out (some ⟨g, o + a, none⟩) 32 (c - a) (DD.flatMap byC) rfl HDL.out (by intro h; cases h) (by_news HDW.out) (byC_one DD) (by unfold maxLen; omega) (by omega) (by simp) ?_); intro v2 W2 hown2 hgrow2 _; go_loud (obtain ⟨gb, cb, rfl, hcb, hgb, hgb2⟩ := own_someD hown2 (by omega)))
          have HW2 : Hid (OBy W2 wr.heap.size (.slice (some ⟨gb, 0, none⟩) (6 + 32) cb) HD ∧ Below wr.heap.size wr W2) := by
            refine ⟨?_, ((Below.refl _ _).alloc (Nat.le_refl _) _).grown hgrow2 (by simp) (fun q hq => by simp only [Value.ownBlock, Option.some.injEq] at hq; omega)⟩
            show World.ownsRow _ _ _ _ _ _ _
            rw [HHL.out, ← HF6.out 1 (by rw [HP.out.2]; have := HLA.out; rw [decide_eq_true (by omega)]; rfl)]; exact hown2
          clear hown2 hgrow2 HOW1 HDW
          refine (HSU.out W2 gb cb HW2.out.1.rg).mono ?_
          rintro e w3 ⟨rfl, hw3'⟩
          subst w3
          have HOW2 : Hid (W2.ownsRow wr.heap.size 5 1 (.slice (some ⟨gb, 0, none⟩) (6 + 32) cb) (6 + 32) (HD.flatMap byC)) := by
            have h9 : W2.ownsRow wr.heap.size 5 1 (.slice (some ⟨gb, 0, none⟩) (6 + 32) cb) HD.length (HD.flatMap byC) := HW2.out.1
            rw [HHL.out] at h9; exact h9
          have hs2 := HW2.out.2.size
          have hs9 := HSZ.out
          go_wp2_with (first | (at_builtin; refine wpList_append_own _ rfl _ _ 22 rfl wr.heap.size 5 j0 (.int .u8 0) 1 1 Try.underlying22 hj hy0 hy1 hy2 rfl (by decide) (.slice (some ⟨gb, 0, none⟩) (6 + 32) cb) (6 + 32) (HD.flatMap byC) rfl (World.ownsRow.alloc HOW2.out _) ⟨W2.heap.size, 0, none⟩ 2 2 [.int .u8 S1, .int .u8 S2] rfl rfl (World.news_of_block (cs := #[.int .u8 S1, .int .u8 S2]) (t := 5) (fr := (0, 0)) (heap_alloc_new W2 _)) (by simp [Value.oneCell']) (by unfold maxLen; omega) (by omega) (by simp; omega) ?_; intro v4 W4 hown4 hgrow4 _; obtain ⟨ga, ca, rfl, hca, hga, hga2⟩ := own_someD hown4 (by omega); have HW4 : Hid (OBy W4 wr.heap.size (.slice (some ⟨ga, 0, none⟩) (6 + 32 + 2) ca) (cbB A B C s k) ∧ Below wr.heap.size wr W4) := (cb_join HBL.out HHL.out HSF.out HW2.out hown4 hgrow4 hgb); have hs4 := HW4.out.2.size; have HOW4 : Hid (W4.ownsRow (w.heap.size + 2) 22 1 (.slice va k vc) k vs) := (cb_rows (HQ.out.next HW4.out.2)); clear hown4 hgrow4) | (at_builtin; refine wpList_append_own _ rfl _ _ 40 rfl (w.heap.size + 2) 22 i0 (.slice none 0 0) 1 24 Try.underlying40 hi hz0 hz1 hz2 rfl (by decide) (.slice va k vc) k vs rfl (World.ownsRow.alloc HOW4.out _) ⟨W4.heap.size, 0, none⟩ 1 1 [.slice (some ⟨ga, 0, none⟩) (6 + 32 + 2) ca] rfl rfl (World.news_of_block (cs := #[.slice (some ⟨ga, 0, none⟩) (6 + 32 + 2) ca]) (t := 22) (fr := (0, 0)) (heap_alloc_new W4 _)) (by simp [Value.oneCell']) (by unfold maxLen; omega) (by omega) (by simp; omega) ?_; intro v7 w7 hown7 hgrow7 _))
          have HM : Hid (CS w w7 (.cells #[.int .i64 A, .int .i64 B, .int .i64 C, .slice (some ⟨g, o, none⟩) n c] 36) v7 (cbR A B C s (k + 1)) (vs ++ [.slice (some ⟨ga, 0, none⟩) (6 + 32 + 2) ca])) := HQ.out.push HW4.out.2 HW4.out.1 (cbR_len A B C s k).symm hown7 hgrow7
          clear hown7 hgrow7
          go_roundw
          case rel => exact ⟨k + 1, a + 32, v7, _, rfl, by go_num, by have := HAK.out; omega, by have := HAK.out; omega, by have := HAK.out; omega, HM.out⟩
          case measure => first | (simp [intOf]; done) | (simp [intOf]; omega)
        · skip
          skip
          have HOW1 : Hid ((wr.alloc (.cells #[.int .u8 Z0, .int .u8 Z1, .int .u8 Z2, .int .u8 Z3, .int .u8 Z4, .int .u8 1] 5)).ownsRow wr.heap.size 5 1 (.slice (some ⟨wr.heap.size, 0, none⟩) 6 6) 6 [.int .u8 Z0, .int .u8 Z1, .int .u8 Z2, .int .u8 Z3, .int .u8 Z4, .int .u8 1]) := World.ownsRow_lit (e := 5) (size := 1) (base := wr.heap.size) wr #[.int .u8 Z0, .int .u8 Z1, .int .u8 Z2, .int .u8 Z3, .int .u8 Z4, .int .u8 1] 6 (Nat.le_refl _) (by decide) (by simp)
          have HDW : Hid (RBy (wr.alloc (.cells #[.int .u8 Z0, .int .u8 Z1, .int .u8 Z2, .int .u8 Z3, .int .u8 Z4, .int .u8 1] 5)) (.slice (some ⟨g, o + a, none⟩) 32 (c - a)) DD) := HDT.out _ _ _ (HQ.out.bl.alloc HQ.out.bl.size _) (by omega)
          go_wp2_with (at_builtin; go_loud (refine appAny rfl _ _ 22 rfl wr.heap.size 5 j0 (.int .u8 0) 1 1 Try.underlying22 hj hy0 hy1 hy2 rfl (by decide) (.slice (some ⟨wr.heap.size, 0, none⟩) 6 6) 6 [.int .u8 Z0, .int .u8 Z1, .int .u8 Z2, .int .u8 Z3, .int .u8 Z4, .int .u8 1] rfl HOW1.out (some ⟨g, o + a, none⟩) 32 (c - a) (DD.flatMap byC) rfl HDL.out (by intro h; cases h) (by_news HDW.out) (byC_one DD) (by unfold maxLen; omega) (by omega) (by simp) ?_); intro v2 W2 hown2 hgrow2 _; go_loud (obtain ⟨gb, cb, rfl, hcb, hgb, hgb2⟩ := own_someD hown2 (by omega)))
          have HW2 : Hid (OBy W2 wr.heap.size (.slice (some ⟨gb, 0, none⟩) (6 + 32) cb) HD ∧ Below wr.heap.size wr W2) := by
            refine ⟨?_, ((Below.refl _ _).alloc (Nat.le_refl _) _).grown hgrow2 (by simp) (fun q hq => by simp only [Value.ownBlock, Option.some.injEq] at hq; omega)⟩
            show World.ownsRow _ _ _ _ _ _ _
            rw [HHL.out, ← HF6.out 1 (by rw [HP.out.2]; have := HLA.out; rw [decide_eq_true (by omega)]; rfl)]; exact hown2
          clear hown2 hgrow2 HOW1 HDW
          refine (HSU.out W2 gb cb HW2.out.1.rg).mono ?_
          rintro e w3 ⟨rfl, hw3'⟩
          subst w3
          have HOW2 : Hid (W2.ownsRow wr.heap.size 5 1 (.slice (some ⟨gb, 0, none⟩) (6 + 32) cb) (6 + 32) (HD.flatMap byC)) := by
            have h9 : W2.ownsRow wr.heap.size 5 1 (.slice (some ⟨gb, 0, none⟩) (6 + 32) cb) HD.length (HD.flatMap byC) := HW2.out.1
            rw [HHL.out] at h9; exact h9
          have hs2 := HW2.out.2.size
          have hs9 := HSZ.out
          go_wp2_with (first | (at_builtin; refine wpList_append_own _ rfl _ _ 22 rfl wr.heap.size 5 j0 (.int .u8 0) 1 1 Try.underlying22 hj hy0 hy1 hy2 rfl (by decide) (.slice (some ⟨gb, 0, none⟩) (6 + 32) cb) (6 + 32) (HD.flatMap byC) rfl (World.ownsRow.alloc HOW2.out _) ⟨W2.heap.size, 0, none⟩ 2 2 [.int .u8 S1, .int .u8 S2] rfl rfl (World.news_of_block (cs := #[.int .u8 S1, .int .u8 S2]) (t := 5) (fr := (0, 0)) (heap_alloc_new W2 _)) (by simp [Value.oneCell']) (by unfold maxLen; omega) (by omega) (by simp; omega) ?_; intro v4 W4 hown4 hgrow4 _; obtain ⟨ga, ca, rfl, hca, hga, hga2⟩ := own_someD hown4 (by omega); have HW4 : Hid (OBy W4 wr.heap.size (.slice (some ⟨ga, 0, none⟩) (6 + 32 + 2) ca) (cbB A B C s k) ∧ Below wr.heap.size wr W4) := (cb_join HBL.out HHL.out HSF.out HW2.out hown4 hgrow4 hgb); have hs4 := HW4.out.2.size; have HOW4 : Hid (W4.ownsRow (w.heap.size + 2) 22 1 (.slice va k vc) k vs) := (cb_rows (HQ.out.next HW4.out.2)); clear hown4 hgrow4) | (at_builtin; refine wpList_append_own _ rfl _ _ 40 rfl (w.heap.size + 2) 22 i0 (.slice none 0 0) 1 24 Try.underlying40 hi hz0 hz1 hz2 rfl (by decide) (.slice va k vc) k vs rfl (World.ownsRow.alloc HOW4.out _) ⟨W4.heap.size, 0, none⟩ 1 1 [.slice (some ⟨ga, 0, none⟩) (6 + 32 + 2) ca] rfl rfl (World.news_of_block (cs := #[.slice (some ⟨ga, 0, none⟩) (6 + 32 + 2) ca]) (t := 22) (fr := (0, 0)) (heap_alloc_new W4 _)) (by simp [Value.oneCell']) (by unfold maxLen; omega) (by omega) (by simp; omega) ?_; intro v7 w7 hown7 hgrow7 _))
          have HM : Hid (CS w w7 (.cells #[.int .i64 A, .int .i64 B, .int .i64 C, .slice (some ⟨g, o, none⟩) n c] 36) v7 (cbR A B C s (k + 1)) (vs ++ [.slice (some ⟨ga, 0, none⟩) (6 + 32 + 2) ca])) := HQ.out.push HW4.out.2 HW4.out.1 (cbR_len A B C s k).symm hown7 hgrow7
          clear hown7 hgrow7
          go_roundw
          case rel => exact ⟨k + 1, a + 32, v7, _, rfl, by go_num, by have := HAK.out; omega, by have := HAK.out; omega, by have := HAK.out; omega, HM.out⟩
          case measure => first | (simp [intOf]; done) | (simp [intOf]; omega)
      · have he2 : ((a : Int) + 32 == (n : Int)) = false := by simp; omega
        have HLA : Hid (¬ n = a + 32) := hla
        have hle : (a : Int) + 32 ≤ (n : Int) := by omega
        rcases hgo2 with hg1 | ⟨hg1, hg2⟩
        · skip
          skip
          have HOW1 : Hid ((wr.alloc (.cells #[.int .u8 Z0, .int .u8 Z1, .int .u8 Z2, .int .u8 Z3, .int .u8 Z4, .int .u8 0] 5)).ownsRow wr.heap.size 5 1 (.slice (some ⟨wr.heap.size, 0, none⟩) 6 6) 6 [.int .u8 Z0, .int .u8 Z1, .int .u8 Z2, .int .u8 Z3, .int .u8 Z4, .int .u8 0]) := World.ownsRow_lit (e := 5) (size := 1) (base := wr.heap.size) wr #[.int .u8 Z0, .int .u8 Z1, .int .u8 Z2, .int .u8 Z3, .int .u8 Z4, .int .u8 0] 6 (Nat.le_refl _) (by decide) (by simp)
          have HDW : Hid (RBy (wr.alloc (.cells #[.int .u8 Z0, .int .u8 Z1, .int .u8 Z2, .int .u8 Z3, .int .u8 Z4, .int .u8 0] 5)) (.slice (some ⟨g, o + a, none⟩) 32 (c - a)) DD) := HDT.out _ _ _ (HQ.out.bl.alloc HQ.out.bl.size _) (by omega)
          go_wp2_with (at_builtin; go_loud (refine appAny rfl _ _ 22 rfl wr.heap.size 5 j0 (.int .u8 0) 1 1 Try.underlying22 hj hy0 hy1 hy2 rfl (by decide) (.slice (some ⟨wr.heap.size, 0, none⟩) 6 6) 6 [.int .u8 Z0, .int .u8 Z1, .int .u8 Z2, .int .u8 Z3, .int .u8 Z4, .int .u8 0] rfl HOW1.out (some ⟨g, o + a, none⟩) 32 (c - a) (DD.flatMap byC) rfl HDL.out (by intro h; cases h) (by_news HDW.out) (byC_one DD) (by unfold maxLen; omega) (by omega) (by simp) ?_); intro v2 W2 hown2 hgrow2 _; go_loud (obtain ⟨gb, cb, rfl, hcb, hgb, hgb2⟩ := own_someD hown2 (by omega)))
          have HW2 : Hid (OBy W2 wr.heap.size (.slice (some ⟨gb, 0, none⟩) (6 + 32) cb) HD ∧ Below wr.heap.size wr W2) := by
            refine ⟨?_, ((Below.refl _ _).alloc (Nat.le_refl _) _).grown hgrow2 (by simp) (fun q hq => by simp only [Value.ownBlock, Option.some.injEq] at hq; omega)⟩
            show World.ownsRow _ _ _ _ _ _ _
            rw [HHL.out, ← HF6.out 0 (by rw [HP.out.2]; have := HLA.out; rw [decide_eq_false (by omega)]; rfl)]; exact hown2
          clear hown2 hgrow2 HOW1 HDW
          refine (HSU.out W2 gb cb HW2.out.1.rg).mono ?_
          rintro e w3 ⟨rfl, hw3'⟩
          subst w3
          have HOW2 : Hid (W2.ownsRow wr.heap.size 5 1 (.slice (some ⟨gb, 0, none⟩) (6 + 32) cb) (6 + 32) (HD.flatMap byC)) := by
            have h9 : W2.ownsRow wr.heap.size 5 1 (.slice (some ⟨gb, 0, none⟩) (6 + 32) cb) HD.length (HD.flatMap byC) := HW2.out.1
            rw [HHL.out] at h9; exact h9
          have hs2 := HW2.out.2.size
          have hs9 := HSZ.out
          go_wp2_with (first | (at_builtin; refine wpList_append_own _ rfl _ _ 22 rfl wr.heap.size 5 j0 (.int .u8 0) 1 1 Try.underlying22 hj hy0 hy1 hy2 rfl (by decide) (.slice (some ⟨gb, 0, none⟩) (6 + 32) cb) (6 + 32) (HD.flatMap byC) rfl (World.ownsRow.alloc HOW2.out _) ⟨W2.heap.size, 0, none⟩ 2 2 [.int .u8 S1, .int .u8 S2] rfl rfl (World.news_of_block (cs := #[.int .u8 S1, .int .u8 S2]) (t := 5) (fr := (0, 0)) (heap_alloc_new W2 _)) (by simp [Value.oneCell']) (by unfold maxLen; omega) (by omega) (by simp; omega) ?_; intro v4 W4 hown4 hgrow4 _; obtain ⟨ga, ca, rfl, hca, hga, hga2⟩ := own_someD hown4 (by omega); have HW4 : Hid (OBy W4 wr.heap.size (.slice (some ⟨ga, 0, none⟩) (6 + 32 + 2) ca) (cbB A B C s k) ∧ Below wr.heap.size wr W4) := (cb_join HBL.out HHL.out HSF.out HW2.out hown4 hgrow4 hgb); have hs4 := HW4.out.2.size; have HOW4 : Hid (W4.ownsRow (w.heap.size + 2) 22 1 (.slice va k vc) k vs) := (cb_rows (HQ.out.next HW4.out.2)); clear hown4 hgrow4) | (at_builtin; refine wpList_append_own _ rfl _ _ 40 rfl (w.heap.size + 2) 22 i0 (.slice none 0 0) 1 24 Try.underlying40 hi hz0 hz1 hz2 rfl (by decide) (.slice va k vc) k vs rfl (World.ownsRow.alloc HOW4.out _) ⟨W4.heap.size, 0, none⟩ 1 1 [.slice (some ⟨ga, 0, none⟩) (6 + 32 + 2) ca] rfl rfl (World.news_of_block (cs := #[.slice (some ⟨ga, 0, none⟩) (6 + 32 + 2) ca]) (t := 22) (fr := (0, 0)) (heap_alloc_new W4 _)) (by simp [Value.oneCell']) (by unfold maxLen; omega) (by omega) (by simp; omega) ?_; intro v7 w7 hown7 hgrow7 _))
          have HM : Hid (CS w w7 (.cells #[.int .i64 A, .int .i64 B, .int .i64 C, .slice (some ⟨g, o, none⟩) n c] 36) v7 (cbR A B C s (k + 1)) (vs ++ [.slice (some ⟨ga, 0, none⟩) (6 + 32 + 2) ca])) := HQ.out.push HW4.out.2 HW4.out.1 (cbR_len A B C s k).symm hown7 hgrow7
          clear hown7 hgrow7
          go_roundw
          case rel => exact ⟨k + 1, a + 32, v7, _, rfl, by go_num, by have := HAK.out; omega, by have := HAK.out; omega, by have := HAK.out; omega, HM.out⟩
          case measure => first | (simp [intOf]; done) | (simp [intOf]; omega)
        · skip
          skip
          have HOW1 : Hid ((wr.alloc (.cells #[.int .u8 Z0, .int .u8 Z1, .int .u8 Z2, .int .u8 Z3, .int .u8 Z4, .int .u8 0] 5)).ownsRow wr.heap.size 5 1 (.slice (some ⟨wr.heap.size, 0, none⟩) 6 6) 6 [.int .u8 Z0, .int .u8 Z1, .int .u8 Z2, .int .u8 Z3, .int .u8 Z4, .int .u8 0]) := World.ownsRow_lit (e := 5) (size := 1) (base := wr.heap.size) wr #[.int .u8 Z0, .int .u8 Z1, .int .u8 Z2, .int .u8 Z3, .int .u8 Z4, .int .u8 0] 6 (Nat.le_refl _) (by decide) (by simp)
          have HDW : Hid (RBy (wr.alloc (.cells #[.int .u8 Z0, .int .u8 Z1, .int .u8 Z2, .int .u8 Z3, .int .u8 Z4, .int .u8 0] 5)) (.slice (some ⟨g, o + a, none⟩) 32 (c - a)) DD) := HDT.out _ _ _ (HQ.out.bl.alloc HQ.out.bl.size _) (by omega)
          go_wp2_with (at_builtin; go_loud (refine appAny rfl _ _ 22 rfl wr.heap.size 5 j0 (.int .u8 0) 1 1 Try.underlying22 hj hy0 hy1 hy2 rfl (by decide) (.slice (some ⟨wr.heap.size, 0, none⟩) 6 6) 6 [.int .u8 Z0, .int .u8 Z1, .int .u8 Z2, .int .u8 Z3, .int .u8 Z4, .int .u8 0] rfl HOW1.out (some ⟨g, o + a, none⟩) 32 (c - a) (DD.flatMap byC) rfl HDL.out (by intro h; cases h) (by_news HDW.out) (byC_one DD) (by unfold maxLen; omega) (by omega) (by simp) ?_); intro v2 W2 hown2 hgrow2 _; go_loud (obtain ⟨gb, cb, rfl, hcb, hgb, hgb2⟩ := own_someD hown2 (by omega)))
          have HW2 : Hid (OBy W2 wr.heap.size (.slice (some ⟨gb, 0, none⟩) (6 + 32) cb) HD ∧ Below wr.heap.size wr W2) := by
            refine ⟨?_, ((Below.refl _ _).alloc (Nat.le_refl _) _).grown hgrow2 (by simp) (fun q hq => by simp only [Value.ownBlock, Option.some.injEq] at hq; omega)⟩
            show World.ownsRow _ _ _ _ _ _ _
            rw [HHL.out, ← HF6.out 0 (by rw [HP.out.2]; have := HLA.out; rw [decide_eq_false (by omega)]; rfl)]; exact hown2
          clear hown2 hgrow2 HOW1 HDW
          refine (HSU.out W2 gb cb HW2.out.1.rg).mono ?_
          rintro e w3 ⟨rfl, hw3'⟩
          subst w3
          have HOW2 : Hid (W2.ownsRow wr.heap.size 5 1 (.slice (some ⟨gb, 0, none⟩) (6 + 32) cb) (6 + 32) (HD.flatMap byC)) := by
            have h9 : W2.ownsRow wr.heap.size 5 1 (.slice (some ⟨gb, 0, none⟩) (6 + 32) cb) HD.length (HD.flatMap byC) := HW2.out.1
            rw [HHL.out] at h9; exact h9
          have hs2 := HW2.out.2.size
          have hs9 := HSZ.out
          go_wp2_with (first | (at_builtin; refine wpList_append_own _ rfl _ _ 22 rfl wr.heap.size 5 j0 (.int .u8 0) 1 1 Try.underlying22 hj hy0 hy1 hy2 rfl (by decide) (.slice (some ⟨gb, 0, none⟩) (6 + 32) cb) (6 + 32) (HD.flatMap byC) rfl (World.ownsRow.alloc HOW2.out _) ⟨W2.heap.size, 0, none⟩ 2 2 [.int .u8 S1, .int .u8 S2] rfl rfl (World.news_of_block (cs := #[.int .u8 S1, .int .u8 S2]) (t := 5) (fr := (0, 0)) (heap_alloc_new W2 _)) (by simp [Value.oneCell']) (by unfold maxLen; omega) (by omega) (by simp; omega) ?_; intro v4 W4 hown4 hgrow4 _; obtain ⟨ga, ca, rfl, hca, hga, hga2⟩ := own_someD hown4 (by omega); have HW4 : Hid (OBy W4 wr.heap.size (.slice (some ⟨ga, 0, none⟩) (6 + 32 + 2) ca) (cbB A B C s k) ∧ Below wr.heap.size wr W4) := (cb_join HBL.out HHL.out HSF.out HW2.out hown4 hgrow4 hgb); have hs4 := HW4.out.2.size; have HOW4 : Hid (W4.ownsRow (w.heap.size + 2) 22 1 (.slice va k vc) k vs) := (cb_rows (HQ.out.next HW4.out.2)); clear hown4 hgrow4) | (at_builtin; refine wpList_append_own _ rfl _ _ 40 rfl (w.heap.size + 2) 22 i0 (.slice none 0 0) 1 24 Try.underlying40 hi hz0 hz1 hz2 rfl (by decide) (.slice va k vc) k vs rfl (World.ownsRow.alloc HOW4.out _) ⟨W4.heap.size, 0, none⟩ 1 1 [.slice (some ⟨ga, 0, none⟩) (6 + 32 + 2) ca] rfl rfl (World.news_of_block (cs := #[.slice (some ⟨ga, 0, none⟩) (6 + 32 + 2) ca]) (t := 22) (fr := (0, 0)) (heap_alloc_new W4 _)) (by simp [Value.oneCell']) (by unfold maxLen; omega) (by omega) (by simp; omega) ?_; intro v7 w7 hown7 hgrow7 _))
          have HM : Hid (CS w w7 (.cells #[.int .i64 A, .int .i64 B, .int .i64 C, .slice (some ⟨g, o, none⟩) n c] 36) v7 (cbR A B C s (k + 1)) (vs ++ [.slice (some ⟨ga, 0, none⟩) (6 + 32 + 2) ca])) := HQ.out.push HW4.out.2 HW4.out.1 (cbR_len A B C s k).symm hown7 hgrow7
          clear hown7 hgrow7
          go_roundw
          case rel => exact ⟨k + 1, a + 32, v7, _, rfl, by go_num, by have := HAK.out; omega, by have := HAK.out; omega, by have := HAK.out; omega, HM.out⟩
          case measure => first | (simp [intOf]; done) | (simp [intOf]; omega)

end Go.Proofs.Ytejpjbihdclngaa
