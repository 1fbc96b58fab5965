/- Proved here: MatchNets of both: its code and its naming. -/
import Derived.Test.YtbfieehlekgjeaaNsS
namespace Go.Proofs.Ytbfieehlekgjeaa
open Go.RowKit
set_option linter.unusedVariables false
set_option linter.unusedSimpArgs false

def mnR (N M : Int) (a b : List Dv) : Option (List Int) := if nlF N a = 0 ∧ nlF M b = 0 ∧ N = M ∧ a.length = b.length then srch (fun so => sdB so a b) N.toNat N.toNat [] else none
def mnC (N M : Int) (a b : List Dv) : Int := if nlF N a = 0 then (if nlF M b = 0 then (if mnR N M a b = none then 4 else 0) else nlF M b) else nlF N a
def mnL (N M : Int) (a b : List Dv) : List Int := (mnR N M a b).getD []
theorem srch_len (ok : List Int → Bool) (n : Nat) : ∀ (f : Nat) (so xs : List Int), srch ok n f so = some xs → xs.length = so.length + f := by
  intro f
  induction f with
  | zero =>
    intro so xs h
    rw [srch] at h
    split at h
    · simp at h; rw [← h]; rfl
    · cases h
  | succ f ih =>
    intro so xs h
    rw [srch, List.findSome?_eq_some_iff] at h
    obtain ⟨_, v, _, _, hv, _⟩ := h
    split at hv
    · cases hv
    · have := ih _ _ hv
      simp at this
      omega
theorem mnL_len (N M : Int) (a b : List Dv) : (mnL N M a b).length ≤ 1048576 := by
  unfold mnL
  cases h : mnR N M a b with
  | none => simp
  | some xs =>
    unfold mnR at h
    split at h
    · rename_i hc
      have h1 := srch_len _ _ _ _ _ h
      have h2 := (nlF_good hc.1).n7
      simp at h1 ⊢
      omega
    · cases h
/-- The two boxed netlists and the answer's variable. -/
structure B3 (w : World) (N M : Int) (va vb : Value) (W : World) : Prop where
  b2 : B2 w N M va vb W
  r : W.heap[w.heap.size + 2]? = some (.cells #[.int .i64 0, .slice none 0 0] 60)
theorem B3.next {w : World} {N M : Int} {va vb : Value} {V V' : World} (h : B3 w N M va vb V) (hb : Below V.heap.size V V') : B3 w N M va vb V' := ⟨h.b2.next hb, (hb.block _ (two_at h.r).2.2.2).trans h.r⟩
theorem B3.new (w : World) (N M : Int) (va vb : Value) : B3 w N M va vb (((w.alloc (.cells #[.int .i64 N, va] 42)).alloc (.cells #[.int .i64 M, vb] 42)).alloc (.cells #[.int .i64 0, .slice none 0 0] 60)) :=
  ⟨(B2.new w N M va vb).next (by (repeat' (first | (with_reducible exact Below.refl _ _) | (with_reducible assumption) | (with_reducible refine Below.setCell ?_ ?_ _) | (with_reducible refine Below.alloc ?_ ?_ _) | (with_reducible refine below_drewN ?_ _) | (with_reducible refine Below.drew ?_) | (with_reducible exact Nat.le_refl _) | omega | (simp; done) | (simp; omega)))), hp_at2 w _ _ _⟩
/-- The answer is written. -/
theorem B3.ret {w : World} {N M : Int} {va vb : Value} {V : World} (h : B3 w N M va vb V) (C : Int) (u : Value) : Below w.heap.size w ((V.setCell ⟨w.heap.size + 2, 0, none⟩ (.int .i64 C)).setCell ⟨w.heap.size + 2, 1, none⟩ u) ∧ ((V.setCell ⟨w.heap.size + 2, 0, none⟩ (.int .i64 C)).setCell ⟨w.heap.size + 2, 1, none⟩ u).heap[w.heap.size + 2]? = some (.cells #[.int .i64 C, u] 60) := by
  refine ⟨(h.b2.bl.setCell (by simp) _).setCell (by simp) _, ?_⟩
  have s0 := heap_setCell_same _ _ 0 _ _ (.int .i64 C) h.r
  have s1 := heap_setCell_same _ _ 1 _ _ u s0
  simpa using s1

set_option maxRecDepth 10000 in
set_option maxHeartbeats 6400000 in
theorem impl_mn (N M : Int) {w : World} {va vb : Value} {a b : List Dv} (hal : a.length ≤ 1048576) (hbl : b.length ≤ 1048576) (hsa : ∀ j (h : j < a.length), smD 1048576 a[j]) (hsb : ∀ j (h : j < b.length), smD 1048576 b[j]) (ha : RD w va a) (hb : RD w vb b) :
    Calls Try.prog 30 #[.agg #[.int .i64 N, va], .agg #[.int .i64 M, vb]] w fun e w' => ∃ v, e = .returned (.agg #[.int .i64 (mnC N M a b), v]) ∧ IS w' w.heap.size v (mnL N M a b) ∧ Below w.heap.size w w' := by
  obtain ⟨aa, ca, rfl⟩ := ha.form
  obtain ⟨ab, cb, rfl⟩ := hb.form
  obtain ⟨la, hla⟩ : ∃ la, la = a.length := ⟨_, rfl⟩
  obtain ⟨lb, hlb⟩ : ∃ lb, lb = b.length := ⟨_, rfl⟩
  obtain ⟨F, hF⟩ : ∃ F, F = nlF N a := ⟨_, rfl⟩
  obtain ⟨G, hG⟩ : ∃ G, G = nlF M b := ⟨_, rfl⟩
  obtain ⟨C, hC⟩ : ∃ C, C = mnC N M a b := ⟨_, rfl⟩
  obtain ⟨L, hL⟩ : ∃ L, L = mnL N M a b := ⟨_, rfl⟩
  rw [← hla] at ha ⊢
  rw [← hlb] at hb ⊢
  rw [← hC, ← hL]
  have H : Hid ((RD w (.slice aa la ca) a ∧ RD w (.slice ab lb cb) b) ∧ (la = a.length ∧ lb = b.length) ∧ C = mnC N M a b ∧ L = mnL N M a b) := ⟨⟨ha, hb⟩, ⟨hla, hlb⟩, hC, hL⟩
  have HSM : Hid ((∀ j (h : j < a.length), smD 1048576 a[j]) ∧ ∀ j (h : j < b.length), smD 1048576 b[j]) := ⟨hsa, hsb⟩
  have HFA : Hid (F = nlF N a ∧ ∀ W, Below w.heap.size w W → Calls Try.prog 16 #[.agg #[.int .i64 N, .slice aa la ca]] W fun e w' => e = .returned (.int .i64 F) ∧ Below W.heap.size W w') := ⟨hF, fun W hW => by rw [hF]; exact impl_nl N hal hsa (ha.below hW)⟩
  have HFB : Hid (G = nlF M b ∧ ∀ W, Below w.heap.size w W → Calls Try.prog 16 #[.agg #[.int .i64 M, .slice ab lb cb]] W fun e w' => e = .returned (.int .i64 G) ∧ Below W.heap.size W w') := ⟨hG, fun W hW => by rw [hG]; exact impl_nl M hbl hsb (hb.below hW)⟩
  clear ha hb hla hlb hF hG hC hL hal hbl hsa hsb
  go_enter Try.func30, Try.ntmps30
  go_wp2_with (fail)
  refine (HFA.out.2 _ (by (repeat' (first | (with_reducible exact Below.refl _ _) | (with_reducible assumption) | (with_reducible refine Below.setCell ?_ ?_ _) | (with_reducible refine Below.alloc ?_ ?_ _) | (with_reducible refine below_drewN ?_ _) | (with_reducible refine Below.drew ?_) | (with_reducible exact Nat.le_refl _) | omega | (simp; done) | (simp; omega))))).mono ?_
  rintro e w1 ⟨rfl, hb1⟩
  have B1 : Hid (B3 w N M (.slice aa la ca) (.slice ab lb cb) w1) := (B3.new w N M _ _).next hb1
  clear hb1
  by_cases hF0 : F = 0
  case neg =>
    have hCF : F = C := by rw [H.out.2.2.1, mnC, if_neg (by rw [← HFA.out.1]; exact hF0), HFA.out.1]
    have hLF : [] = L := by rw [H.out.2.2.2, mnL, mnR, if_neg (fun e => hF0 (by rw [HFA.out.1, e.1]))]; rfl
    subst hLF
    subst hCF
    obtain ⟨r0, r1, rf, rlt⟩ := two_at B1.out.r
    have rf0 := rf 0
    have rf1 := rf 1
    obtain ⟨W2, hW2⟩ : ∃ W2, W2 = (w1.setCell ⟨w.heap.size + 2, 0, none⟩ (.int .i64 F)).setCell ⟨w.heap.size + 2, 1, none⟩ (.slice none 0 0) := ⟨_, rfl⟩
    have hret := B1.out.ret (F) (.slice none 0 0)
    rw [← hW2] at hret
    obtain ⟨t0, t1, tf, tl⟩ := two_at hret.2
    have HF : Hid (IS W2 w.heap.size (.slice none 0 0) ([]) ∧ Below w.heap.size w W2) := ⟨⟨rfl, Or.inl ⟨rfl, rfl⟩⟩, hret.1⟩
    have HW2 : Hid _ := hW2
    clear hret hW2
    go_wp2
    rw [← HW2.out]
    refine bodyPost_ret (by simp [results, Try.results30, go_sem, t0, t1]) rfl ⟨.slice none 0 0, rfl, by first | exact HF.out.1 | (rw [HLL.out]; exact HF.out.1), HF.out.2⟩
  obtain ⟨a0, a1, b0, b1, l1, l2⟩ := SB2_two B1.out.b2.bx
  subst hF0
  go_wp2_with (fail)
  refine (HFB.out.2 _ B1.out.b2.bl).mono ?_
  rintro e w2 ⟨rfl, hb2⟩
  have B2' : Hid (B3 w N M (.slice aa la ca) (.slice ab lb cb) w2) := B1.out.next hb2
  clear hb2 a0 a1 b0 b1 l1 l2
  by_cases hG0 : G = 0
  case neg =>
    have hCF : G = C := by rw [H.out.2.2.1, mnC, if_pos HFA.out.1.symm, if_neg (by rw [← HFB.out.1]; exact hG0), HFB.out.1]
    have hLF : [] = L := by rw [H.out.2.2.2, mnL, mnR, if_neg (fun e => hG0 (by rw [HFB.out.1, e.2.1]))]; rfl
    subst hLF
    subst hCF
    obtain ⟨r0, r1, rf, rlt⟩ := two_at B2'.out.r
    have rf0 := rf 0
    have rf1 := rf 1
    obtain ⟨W2, hW2⟩ : ∃ W2, W2 = (w2.setCell ⟨w.heap.size + 2, 0, none⟩ (.int .i64 G)).setCell ⟨w.heap.size + 2, 1, none⟩ (.slice none 0 0) := ⟨_, rfl⟩
    have hret := B2'.out.ret (G) (.slice none 0 0)
    rw [← hW2] at hret
    obtain ⟨t0, t1, tf, tl⟩ := two_at hret.2
    have HF : Hid (IS W2 w.heap.size (.slice none 0 0) ([]) ∧ Below w.heap.size w W2) := ⟨⟨rfl, Or.inl ⟨rfl, rfl⟩⟩, hret.1⟩
    have HW2 : Hid _ := hW2
    clear hret hW2
    go_wp2
    rw [← HW2.out]
    refine bodyPost_ret (by simp [results, Try.results30, go_sem, t0, t1]) rfl ⟨.slice none 0 0, rfl, by first | exact HF.out.1 | (rw [HLL.out]; exact HF.out.1), HF.out.2⟩
  obtain ⟨a0, a1, b0, b1, l1, l2⟩ := SB2_two B2'.out.b2.bx
  subst hG0
  go_wp2_with (fail)
  refine (impl_asMany N M aa ab la lb ca cb _).mono ?_
  rintro e w3 ⟨rfl, hb3⟩
  have B3' : Hid (B3 w N M (.slice aa la ca) (.slice ab lb cb) w3) := B2'.out.next hb3
  clear hb3 a0 a1 b0 b1 l1 l2
  by_cases hNM : N = M ∧ la = lb
  case neg =>
    have hdec : decide (N = M ∧ la = lb) = false := decide_eq_false hNM
    rw [hdec]
    have hR0 : mnR N M a b = none := by rw [mnR, if_neg (fun e => hNM ⟨e.2.2.1, by rw [H.out.2.1.1, H.out.2.1.2]; exact e.2.2.2⟩)]
    have hCF : 4 = C := by rw [H.out.2.2.1, mnC, if_pos HFA.out.1.symm, if_pos HFB.out.1.symm, if_pos hR0]
    have hLF : [] = L := by rw [H.out.2.2.2, mnL, hR0]; rfl
    subst hLF
    subst hCF
    obtain ⟨r0, r1, rf, rlt⟩ := two_at B3'.out.r
    have rf0 := rf 0
    have rf1 := rf 1
    obtain ⟨W2, hW2⟩ : ∃ W2, W2 = (w3.setCell ⟨w.heap.size + 2, 0, none⟩ (.int .i64 4)).setCell ⟨w.heap.size + 2, 1, none⟩ (.slice none 0 0) := ⟨_, rfl⟩
    have hret := B3'.out.ret (4) (.slice none 0 0)
    rw [← hW2] at hret
    obtain ⟨t0, t1, tf, tl⟩ := two_at hret.2
    have HF : Hid (IS W2 w.heap.size (.slice none 0 0) ([]) ∧ Below w.heap.size w W2) := ⟨⟨rfl, Or.inl ⟨rfl, rfl⟩⟩, hret.1⟩
    have HW2 : Hid _ := hW2
    clear hret hW2
    go_wp2
    rw [← HW2.out]
    refine bodyPost_ret (by simp [results, Try.results30, go_sem, t0, t1]) rfl ⟨.slice none 0 0, rfl, by first | exact HF.out.1 | (rw [HLL.out]; exact HF.out.1), HF.out.2⟩
  have hdec : decide (N = M ∧ la = lb) = true := decide_eq_true hNM
  rw [hdec]
  clear hdec
  obtain ⟨hN1, hl1⟩ := hNM
  subst hN1
  subst hl1
  obtain ⟨a0, a1, b0, b1, l1, l2⟩ := SB2_two B3'.out.b2.bx
  have HAB : Hid (a.length = b.length) := by unfold Hid; rw [← H.out.2.1.1, ← H.out.2.1.2]
  have hn0 := (nlF_good HFA.out.1.symm).n0
  obtain ⟨n, hn⟩ : ∃ n : Nat, N = (n : Int) := ⟨N.toNat, by omega⟩
  subst hn
  have HMR : Hid (mnR (n : Int) (n : Int) a b = srch (fun so => sdB so a b) n n []) := by
    unfold Hid
    rw [mnR, if_pos ⟨HFA.out.1.symm, HFB.out.1.symm, rfl, HAB.out⟩, Int.toNat_natCast]
  have hlt3 := (two_at B3'.out.r).2.2.2
  have HCALL : Hid (Calls Try.prog 58 #[.agg #[.int .i64 (n : Int), .slice aa la ca], .agg #[.int .i64 (n : Int), .slice ab la cb], .slice none 0 0] w3 fun e w' => ∃ v q, e = .returned (.tuple #[v, .bool q]) ∧ FR (mnR (n : Int) (n : Int) a b) w' (w.heap.size + 3) v q ∧ Below w3.heap.size w3 w') := by
    unfold Hid
    rw [HMR.out]
    exact impl_first n (n : Int) a b (nlF_good HFA.out.1.symm) (nlF_good HFB.out.1.symm) n [] w3 (w.heap.size + 3) _ _ _ (by simp) (Beg.nil n) (H.out.1.1.below B3'.out.b2.bl) (H.out.1.2.below B3'.out.b2.bl) ⟨rfl, Or.inl ⟨rfl, rfl⟩⟩ (by omega)
  clear HMR hn0
  go_wp2_with (fail)
  refine HCALL.out.mono ?_
  rintro e w4 ⟨v4, q4, rfl, hf4, hb4⟩
  have B4 : Hid (B3 w (n : Int) (n : Int) (.slice aa la ca) (.slice ab la cb) w4) := B3'.out.next hb4
  clear hb4 a0 a1 b0 b1 l1 l2 hlt3 HCALL
  obtain ⟨R, hR⟩ : ∃ R, R = mnR (n : Int) (n : Int) a b := ⟨_, rfl⟩
  rw [← hR] at hf4
  cases R with
  | none =>
    obtain rfl : q4 = false := hf4
    have hR0 : mnR (n : Int) (n : Int) a b = none := hR.symm
    have hCF : 4 = C := by rw [H.out.2.2.1, mnC, if_pos HFA.out.1.symm, if_pos HFB.out.1.symm, if_pos hR0]
    have hLF : [] = L := by rw [H.out.2.2.2, mnL, hR0]; rfl
    subst hLF
    subst hCF
    obtain ⟨r0, r1, rf, rlt⟩ := two_at B4.out.r
    have rf0 := rf 0
    have rf1 := rf 1
    obtain ⟨W2, hW2⟩ : ∃ W2, W2 = (w4.setCell ⟨w.heap.size + 2, 0, none⟩ (.int .i64 4)).setCell ⟨w.heap.size + 2, 1, none⟩ (.slice none 0 0) := ⟨_, rfl⟩
    have hret := B4.out.ret (4) (.slice none 0 0)
    rw [← hW2] at hret
    obtain ⟨t0, t1, tf, tl⟩ := two_at hret.2
    have HF : Hid (IS W2 w.heap.size (.slice none 0 0) ([]) ∧ Below w.heap.size w W2) := ⟨⟨rfl, Or.inl ⟨rfl, rfl⟩⟩, hret.1⟩
    have HW2 : Hid _ := hW2
    clear hret hW2
    go_wp2
    rw [← HW2.out]
    refine bodyPost_ret (by simp [results, Try.results30, go_sem, t0, t1]) rfl ⟨.slice none 0 0, rfl, by first | exact HF.out.1 | (rw [HLL.out]; exact HF.out.1), HF.out.2⟩
  | some xs =>
    obtain rfl : q4 = true := hf4.1
    have HI : Hid (IS w4 (w.heap.size + 3) v4 xs) := hf4.2
    clear hf4
    have hCF : 0 = C := by rw [H.out.2.2.1, mnC, if_pos HFA.out.1.symm, if_pos HFB.out.1.symm, if_neg (by rw [← hR]; simp)]
    have hLF : xs = L := by rw [H.out.2.2.2, mnL, ← hR]; rfl
    subst hLF
    subst hCF
    clear hR
    obtain ⟨fa, fc, hf⟩ := HI.out.form
    obtain ⟨fl, hfl⟩ : ∃ fl, fl = xs.length := ⟨_, rfl⟩
    rw [← hfl] at hf
    subst hf
    clear hfl
    obtain ⟨r0, r1, rf, rlt⟩ := two_at B4.out.r
    have rf0 := rf 0
    have rf1 := rf 1
    obtain ⟨W2, hW2⟩ : ∃ W2, W2 = (w4.setCell ⟨w.heap.size + 2, 0, none⟩ (.int .i64 0)).setCell ⟨w.heap.size + 2, 1, none⟩ (.slice fa fl fc) := ⟨_, rfl⟩
    have hret := B4.out.ret (0) (.slice fa fl fc)
    rw [← hW2] at hret
    obtain ⟨t0, t1, tf, tl⟩ := two_at hret.2
    have HF : Hid (IS W2 w.heap.size (.slice fa fl fc) (xs) ∧ Below w.heap.size w W2) := ⟨(HI.out.kept (w' := W2) fun q hq => by have := (IS.lt HI.out q hq).1; rw [hW2, heap_setCell_other _ _ _ _ (by simp; omega), heap_setCell_other _ _ _ _ (by simp; omega)]).low (by omega), hret.1⟩
    have HW2 : Hid _ := hW2
    clear hret hW2
    go_wp2
    rw [← HW2.out]
    refine bodyPost_ret (by simp [results, Try.results30, go_sem, t0, t1]) rfl ⟨.slice fa fl fc, rfl, by first | exact HF.out.1 | (rw [HLL.out]; exact HF.out.1), HF.out.2⟩

set_option maxRecDepth 10000 in
set_option maxHeartbeats 6400000 in
theorem spec_mn (N M : Int) {w : World} {va vb : Value} {a b : List Dv} (hal : a.length ≤ 1048576) (hbl : b.length ≤ 1048576) (hsa : ∀ j (h : j < a.length), smD 1048576 a[j]) (hsb : ∀ j (h : j < b.length), smD 1048576 b[j]) (ha : RD w va a) (hb : RD w vb b) :
    Calls Try.prog 29 #[.agg #[.int .i64 N, va], .agg #[.int .i64 M, vb]] w fun e w' => ∃ v, e = .returned (.agg #[.int .i64 (mnC N M a b), v]) ∧ IS w' w.heap.size v (mnL N M a b) ∧ Below w.heap.size w w' := by
  obtain ⟨aa, ca, rfl⟩ := ha.form
  obtain ⟨ab, cb, rfl⟩ := hb.form
  obtain ⟨la, hla⟩ : ∃ la, la = a.length := ⟨_, rfl⟩
  obtain ⟨lb, hlb⟩ : ∃ lb, lb = b.length := ⟨_, rfl⟩
  obtain ⟨F, hF⟩ : ∃ F, F = nlF N a := ⟨_, rfl⟩
  obtain ⟨G, hG⟩ : ∃ G, G = nlF M b := ⟨_, rfl⟩
  obtain ⟨C, hC⟩ : ∃ C, C = mnC N M a b := ⟨_, rfl⟩
  obtain ⟨L, hL⟩ : ∃ L, L = mnL N M a b := ⟨_, rfl⟩
  rw [← hla] at ha ⊢
  rw [← hlb] at hb ⊢
  rw [← hC, ← hL]
  have H : Hid ((RD w (.slice aa la ca) a ∧ RD w (.slice ab lb cb) b) ∧ (la = a.length ∧ lb = b.length) ∧ C = mnC N M a b ∧ L = mnL N M a b) := ⟨⟨ha, hb⟩, ⟨hla, hlb⟩, hC, hL⟩
  have HSM : Hid ((∀ j (h : j < a.length), smD 1048576 a[j]) ∧ ∀ j (h : j < b.length), smD 1048576 b[j]) := ⟨hsa, hsb⟩
  have HFA : Hid (F = nlF N a ∧ ∀ W, Below w.heap.size w W → Calls Try.prog 14 #[.agg #[.int .i64 N, .slice aa la ca]] W fun e w' => e = .returned (.int .i64 F) ∧ Below W.heap.size W w') := ⟨hF, fun W hW => by rw [hF]; exact spec_nl N hal hsa (ha.below hW)⟩
  have HFB : Hid (G = nlF M b ∧ ∀ W, Below w.heap.size w W → Calls Try.prog 14 #[.agg #[.int .i64 M, .slice ab lb cb]] W fun e w' => e = .returned (.int .i64 G) ∧ Below W.heap.size W w') := ⟨hG, fun W hW => by rw [hG]; exact spec_nl M hbl hsb (hb.below hW)⟩
  clear ha hb hla hlb hF hG hC hL hal hbl hsa hsb
  go_enter Try.func29, Try.ntmps29
  go_wp2_with (fail)
  refine (HFA.out.2 _ (by (repeat' (first | (with_reducible exact Below.refl _ _) | (with_reducible assumption) | (with_reducible refine Below.setCell ?_ ?_ _) | (with_reducible refine Below.alloc ?_ ?_ _) | (with_reducible refine below_drewN ?_ _) | (with_reducible refine Below.drew ?_) | (with_reducible exact Nat.le_refl _) | omega | (simp; done) | (simp; omega))))).mono ?_
  rintro e w1 ⟨rfl, hb1⟩
  have B1 : Hid (B3 w N M (.slice aa la ca) (.slice ab lb cb) w1) := (B3.new w N M _ _).next hb1
  clear hb1
  by_cases hF0 : F = 0
  case neg =>
    have hCF : F = C := by rw [H.out.2.2.1, mnC, if_neg (by rw [← HFA.out.1]; exact hF0), HFA.out.1]
    have hLF : [] = L := by rw [H.out.2.2.2, mnL, mnR, if_neg (fun e => hF0 (by rw [HFA.out.1, e.1]))]; rfl
    subst hLF
    subst hCF
    obtain ⟨r0, r1, rf, rlt⟩ := two_at B1.out.r
    have rf0 := rf 0
    have rf1 := rf 1
    obtain ⟨W2, hW2⟩ : ∃ W2, W2 = (w1.setCell ⟨w.heap.size + 2, 0, none⟩ (.int .i64 F)).setCell ⟨w.heap.size + 2, 1, none⟩ (.slice none 0 0) := ⟨_, rfl⟩
    have hret := B1.out.ret (F) (.slice none 0 0)
    rw [← hW2] at hret
    obtain ⟨t0, t1, tf, tl⟩ := two_at hret.2
    have HF : Hid (IS W2 w.heap.size (.slice none 0 0) ([]) ∧ Below w.heap.size w W2) := ⟨⟨rfl, Or.inl ⟨rfl, rfl⟩⟩, hret.1⟩
    have HW2 : Hid _ := hW2
    clear hret hW2
    go_wp2
    rw [← HW2.out]
    refine bodyPost_ret (by simp [results, Try.results29, go_sem, t0, t1]) rfl ⟨.slice none 0 0, rfl, by first | exact HF.out.1 | (rw [HLL.out]; exact HF.out.1), HF.out.2⟩
  obtain ⟨a0, a1, b0, b1, l1, l2⟩ := SB2_two B1.out.b2.bx
  subst hF0
  go_wp2_with (fail)
  refine (HFB.out.2 _ B1.out.b2.bl).mono ?_
  rintro e w2 ⟨rfl, hb2⟩
  have B2' : Hid (B3 w N M (.slice aa la ca) (.slice ab lb cb) w2) := B1.out.next hb2
  clear hb2 a0 a1 b0 b1 l1 l2
  by_cases hG0 : G = 0
  case neg =>
    have hCF : G = C := by rw [H.out.2.2.1, mnC, if_pos HFA.out.1.symm, if_neg (by rw [← HFB.out.1]; exact hG0), HFB.out.1]
    have hLF : [] = L := by rw [H.out.2.2.2, mnL, mnR, if_neg (fun e => hG0 (by rw [HFB.out.1, e.2.1]))]; rfl
    subst hLF
    subst hCF
    obtain ⟨r0, r1, rf, rlt⟩ := two_at B2'.out.r
    have rf0 := rf 0
    have rf1 := rf 1
    obtain ⟨W2, hW2⟩ : ∃ W2, W2 = (w2.setCell ⟨w.heap.size + 2, 0, none⟩ (.int .i64 G)).setCell ⟨w.heap.size + 2, 1, none⟩ (.slice none 0 0) := ⟨_, rfl⟩
    have hret := B2'.out.ret (G) (.slice none 0 0)
    rw [← hW2] at hret
    obtain ⟨t0, t1, tf, tl⟩ := two_at hret.2
    have HF : Hid (IS W2 w.heap.size (.slice none 0 0) ([]) ∧ Below w.heap.size w W2) := ⟨⟨rfl, Or.inl ⟨rfl, rfl⟩⟩, hret.1⟩
    have HW2 : Hid _ := hW2
    clear hret hW2
    go_wp2
    rw [← HW2.out]
    refine bodyPost_ret (by simp [results, Try.results29, go_sem, t0, t1]) rfl ⟨.slice none 0 0, rfl, by first | exact HF.out.1 | (rw [HLL.out]; exact HF.out.1), HF.out.2⟩
  obtain ⟨a0, a1, b0, b1, l1, l2⟩ := SB2_two B2'.out.b2.bx
  subst hG0
  have B3' : Hid (B3 w N M (.slice aa la ca) (.slice ab lb cb) w2) := B2'.out
  by_cases hNM : N = M
  case neg =>
    have hR0 : mnR N M a b = none := by rw [mnR, if_neg (fun e => hNM e.2.2.1)]
    have hCF : 4 = C := by rw [H.out.2.2.1, mnC, if_pos HFA.out.1.symm, if_pos HFB.out.1.symm, if_pos hR0]
    have hLF : [] = L := by rw [H.out.2.2.2, mnL, hR0]; rfl
    subst hLF
    subst hCF
    obtain ⟨r0, r1, rf, rlt⟩ := two_at B3'.out.r
    have rf0 := rf 0
    have rf1 := rf 1
    obtain ⟨W2, hW2⟩ : ∃ W2, W2 = (w2.setCell ⟨w.heap.size + 2, 0, none⟩ (.int .i64 4)).setCell ⟨w.heap.size + 2, 1, none⟩ (.slice none 0 0) := ⟨_, rfl⟩
    have hret := B3'.out.ret (4) (.slice none 0 0)
    rw [← hW2] at hret
    obtain ⟨t0, t1, tf, tl⟩ := two_at hret.2
    have HF : Hid (IS W2 w.heap.size (.slice none 0 0) ([]) ∧ Below w.heap.size w W2) := ⟨⟨rfl, Or.inl ⟨rfl, rfl⟩⟩, hret.1⟩
    have HW2 : Hid _ := hW2
    clear hret hW2
    go_wp2
    rw [← HW2.out]
    refine bodyPost_ret (by simp [results, Try.results29, go_sem, t0, t1]) rfl ⟨.slice none 0 0, rfl, by first | exact HF.out.1 | (rw [HLL.out]; exact HF.out.1), HF.out.2⟩
  subst hNM
  by_cases hll : la = lb
  case neg =>
    have hi : ¬ (la : Int) = (lb : Int) := by omega
    have hR0 : mnR N N a b = none := by rw [mnR, if_neg (fun e => hll (by rw [H.out.2.1.1, H.out.2.1.2]; exact e.2.2.2))]
    have hCF : 4 = C := by rw [H.out.2.2.1, mnC, if_pos HFA.out.1.symm, if_pos HFB.out.1.symm, if_pos hR0]
    have hLF : [] = L := by rw [H.out.2.2.2, mnL, hR0]; rfl
    subst hLF
    subst hCF
    obtain ⟨r0, r1, rf, rlt⟩ := two_at B3'.out.r
    have rf0 := rf 0
    have rf1 := rf 1
    obtain ⟨W2, hW2⟩ : ∃ W2, W2 = (w2.setCell ⟨w.heap.size + 2, 0, none⟩ (.int .i64 4)).setCell ⟨w.heap.size + 2, 1, none⟩ (.slice none 0 0) := ⟨_, rfl⟩
    have hret := B3'.out.ret (4) (.slice none 0 0)
    rw [← hW2] at hret
    obtain ⟨t0, t1, tf, tl⟩ := two_at hret.2
    have HF : Hid (IS W2 w.heap.size (.slice none 0 0) ([]) ∧ Below w.heap.size w W2) := ⟨⟨rfl, Or.inl ⟨rfl, rfl⟩⟩, hret.1⟩
    have HW2 : Hid _ := hW2
    clear hret hW2
    go_wp2
    rw [← HW2.out]
    refine bodyPost_ret (by simp [results, Try.results29, go_sem, t0, t1]) rfl ⟨.slice none 0 0, rfl, by first | exact HF.out.1 | (rw [HLL.out]; exact HF.out.1), HF.out.2⟩
  subst hll
  have HAB : Hid (a.length = b.length) := by unfold Hid; rw [← H.out.2.1.1, ← H.out.2.1.2]
  have hn0 := (nlF_good HFA.out.1.symm).n0
  obtain ⟨n, hn⟩ : ∃ n : Nat, N = (n : Int) := ⟨N.toNat, by omega⟩
  subst hn
  have HMR : Hid (mnR (n : Int) (n : Int) a b = srch (fun so => sdB so a b) n n []) := by
    unfold Hid
    rw [mnR, if_pos ⟨HFA.out.1.symm, HFB.out.1.symm, rfl, HAB.out⟩, Int.toNat_natCast]
  have hlt3 := (two_at B3'.out.r).2.2.2
  have HCALL : Hid (Calls Try.prog 57 #[.agg #[.int .i64 (n : Int), .slice aa la ca], .agg #[.int .i64 (n : Int), .slice ab la cb], .slice none 0 0] w2 fun e w' => ∃ v q, e = .returned (.tuple #[v, .bool q]) ∧ FR (mnR (n : Int) (n : Int) a b) w' (w.heap.size + 3) v q ∧ Below w2.heap.size w2 w') := by
    unfold Hid
    rw [HMR.out]
    exact spec_search n a b HFA.out.1.symm HFB.out.1.symm HAB.out HSM.out.1 HSM.out.2 n [] w2 (w.heap.size + 3) _ _ _ (by simp) (Beg.nil n) (H.out.1.1.below B3'.out.b2.bl) (H.out.1.2.below B3'.out.b2.bl) ⟨rfl, Or.inl ⟨rfl, rfl⟩⟩ (by omega)
  clear HMR hn0
  go_wp2_with (fail)
  refine HCALL.out.mono ?_
  rintro e w4 ⟨v4, q4, rfl, hf4, hb4⟩
  have B4 : Hid (B3 w (n : Int) (n : Int) (.slice aa la ca) (.slice ab la cb) w4) := B3'.out.next hb4
  clear hb4 a0 a1 b0 b1 l1 l2 hlt3 HCALL
  obtain ⟨R, hR⟩ : ∃ R, R = mnR (n : Int) (n : Int) a b := ⟨_, rfl⟩
  rw [← hR] at hf4
  cases R with
  | none =>
    obtain rfl : q4 = false := hf4
    have hR0 : mnR (n : Int) (n : Int) a b = none := hR.symm
    have hCF : 4 = C := by rw [H.out.2.2.1, mnC, if_pos HFA.out.1.symm, if_pos HFB.out.1.symm, if_pos hR0]
    have hLF : [] = L := by rw [H.out.2.2.2, mnL, hR0]; rfl
    subst hLF
    subst hCF
    obtain ⟨r0, r1, rf, rlt⟩ := two_at B4.out.r
    have rf0 := rf 0
    have rf1 := rf 1
    obtain ⟨W2, hW2⟩ : ∃ W2, W2 = (w4.setCell ⟨w.heap.size + 2, 0, none⟩ (.int .i64 4)).setCell ⟨w.heap.size + 2, 1, none⟩ (.slice none 0 0) := ⟨_, rfl⟩
    have hret := B4.out.ret (4) (.slice none 0 0)
    rw [← hW2] at hret
    obtain ⟨t0, t1, tf, tl⟩ := two_at hret.2
    have HF : Hid (IS W2 w.heap.size (.slice none 0 0) ([]) ∧ Below w.heap.size w W2) := ⟨⟨rfl, Or.inl ⟨rfl, rfl⟩⟩, hret.1⟩
    have HW2 : Hid _ := hW2
    clear hret hW2
    go_wp2
    rw [← HW2.out]
    refine bodyPost_ret (by simp [results, Try.results29, go_sem, t0, t1]) rfl ⟨.slice none 0 0, rfl, by first | exact HF.out.1 | (rw [HLL.out]; exact HF.out.1), HF.out.2⟩
  | some xs =>
    obtain rfl : q4 = true := hf4.1
    have HI : Hid (IS w4 (w.heap.size + 3) v4 xs) := hf4.2
    clear hf4
    have hCF : 0 = C := by rw [H.out.2.2.1, mnC, if_pos HFA.out.1.symm, if_pos HFB.out.1.symm, if_neg (by rw [← hR]; simp)]
    have hLF : xs = L := by rw [H.out.2.2.2, mnL, ← hR]; rfl
    subst hLF
    subst hCF
    clear hR
    obtain ⟨fa, fc, hf⟩ := HI.out.form
    obtain ⟨fl, hfl⟩ : ∃ fl, fl = xs.length := ⟨_, rfl⟩
    rw [← hfl] at hf
    subst hf
    clear hfl
    obtain ⟨r0, r1, rf, rlt⟩ := two_at B4.out.r
    have rf0 := rf 0
    have rf1 := rf 1
    obtain ⟨W2, hW2⟩ : ∃ W2, W2 = (w4.setCell ⟨w.heap.size + 2, 0, none⟩ (.int .i64 0)).setCell ⟨w.heap.size + 2, 1, none⟩ (.slice fa fl fc) := ⟨_, rfl⟩
    have hret := B4.out.ret (0) (.slice fa fl fc)
    rw [← hW2] at hret
    obtain ⟨t0, t1, tf, tl⟩ := two_at hret.2
    have HF : Hid (IS W2 w.heap.size (.slice fa fl fc) (xs) ∧ Below w.heap.size w W2) := ⟨(HI.out.kept (w' := W2) fun q hq => by have := (IS.lt HI.out q hq).1; rw [hW2, heap_setCell_other _ _ _ _ (by simp; omega), heap_setCell_other _ _ _ _ (by simp; omega)]).low (by omega), hret.1⟩
    have HW2 : Hid _ := hW2
    clear hret hW2
    go_wp2
    rw [← HW2.out]
    refine bodyPost_ret (by simp [results, Try.results29, go_sem, t0, t1]) rfl ⟨.slice fa fl fc, rfl, by first | exact HF.out.1 | (rw [HLL.out]; exact HF.out.1), HF.out.2⟩

end Go.Proofs.Ytbfieehlekgjeaa
