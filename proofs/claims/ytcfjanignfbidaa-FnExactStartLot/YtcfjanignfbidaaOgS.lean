/- Proved here: a list of the call's own grows by one element; what is made with room. No condition. (And ahead of it: Proved here: HoldLot of the program.) -/
import Derived.Test.YtcfjanignfbidaaQaH
import Derived.Test.YtcfjanignfbidaaQaI
import Derived.Test.YtcfjanignfbidaaQoP
import Derived.Test.YtcfjanignfbidaaQoO
import Derived.Test.YtcfjanignfbidaaQoL
import Derived.Test.YtcfjanignfbidaaIntsBase
namespace Go.Proofs.Ytcfjanignfbidaa
open Go.RowKit Go.Maps
set_option linter.unusedVariables false
set_option linter.unusedSimpArgs false

def bkZ : Bk := ⟨0, [], [], []⟩
def hdB (b : Bk) (id : Int) (q : Bool) : Bk := if bgC b id ≠ 0 then bkZ else hlB b (fdI (idA b.ls) id b.ls.length).toNat q
theorem PB.nil (w : World) (B : Nat) : PB w B nilV nilV nilV (wvO []) bkZ [] :=
  ⟨⟨by simp [bkZ], Or.inl ⟨rfl, rfl⟩⟩, ⟨rfl, Or.inl ⟨rfl, rfl⟩⟩, rfl, fun j h => absurd h (Nat.not_lt_zero _), fun j h => absurd h (Nat.not_lt_zero _), fun j h => absurd h (Nat.not_lt_zero _), ⟨rfl, Or.inl ⟨rfl, rfl⟩⟩, fun j _ => rfl, fun a b' _ g hg => by cases a <;> cases hg⟩
theorem rd_oneA {w : World} {g c : Nat} {x : Int} {T : TypeId} (h : w.heap[g]? = some (.cells #[.int .i64 x] T)) : RdI w (.slice (some ⟨g, 0, none⟩) 1 c) [x] := by
  refine ⟨_, c, rfl, fun _ => ⟨g, 0, rfl, ltOf h, fun j hj i hi => ?_⟩⟩
  obtain rfl : i = 0 := by omega
  have hj' : j < 1 := hj
  obtain rfl : j = 0 := by omega
  simp [World.cell?, h, inC]
theorem ofC_oneA (b : Bk) (id : Int) : ofC b [id] = bgC b id := by
  unfold ofC bgC
  by_cases h : bkF b ≠ 0
  · rw [if_pos h, if_pos h]
  · rw [if_neg h, if_neg h]
    by_cases h1 : fdI (idA b.ls) id b.ls.length < 0
    · rw [if_pos h1, if_neg (fun e => by have := e id (by simp); omega)]
    · rw [if_neg h1, if_pos (fun x hx => by simp only [List.mem_singleton] at hx; subst hx; omega)]
set_option maxRecDepth 10000 in
set_option maxHeartbeats 3200000 in
theorem impl_hl {st : Int} {w : World} {vw vl vs : Value} {b : Bk} (id : Int) (q : Bool) (hst : b.st = st) (hidw : (Lit.int .i64 id).wf = true) (hs : smBk 1048576 b) (h : RdX w vw vl vs b) :
    Calls Try.prog 26 #[.agg #[.int .i64 st, vw, vl, vs], .int .i64 id, .bool q] w fun e w' => ∃ (vq : Value × Value × Value) (rs : List Lr), e = .returned (.agg #[.int .i64 (bgC b id), .int .i64 0, .int .i64 (hdB b id q).st, vq.1, vq.2.1, vq.2.2]) ∧ PB w' w.heap.size vq.1 vq.2.1 vq.2.2 (wvO rs) (hdB b id q) rs ∧ Below w.heap.size w w' := by
  obtain ⟨wa, wc, e1⟩ := h.wn.form
  obtain ⟨la, lc, e2⟩ := h.ls.rlo.form
  obtain ⟨xa, xc, e3⟩ := h.sc.form
  subst e1 e2 e3
  obtain ⟨wn, hwn⟩ : ∃ n, n = b.wn.length := ⟨_, rfl⟩
  obtain ⟨ln, hln⟩ : ∃ n, n = b.ls.length := ⟨_, rfl⟩
  obtain ⟨xn, hxn⟩ : ∃ n, n = b.sc.length := ⟨_, rfl⟩
  rw [← hwn, ← hln, ← hxn] at h ⊢
  obtain ⟨C, hC⟩ : ∃ K, K = bgC b id := ⟨_, rfl⟩
  obtain ⟨RB, hRB⟩ : ∃ K, K = hdB b id q := ⟨_, rfl⟩
  rw [← hC, ← hRB]
  obtain ⟨W, hW⟩ : ∃ W, W = (w.alloc (.cells #[.int .i64 st, .slice wa wn wc, .slice la ln lc, .slice xa xn xc] 31)).alloc (.cells #[.int .i64 0, .int .i64 0, .int .i64 0, .slice none 0 0, .slice none 0 0, .slice none 0 0] 33) := ⟨_, rfl⟩
  have HW : Hid (Below w.heap.size w W ∧ W.heap[w.heap.size + 1]? = some (.cells #[.int .i64 0, .int .i64 0, .int .i64 0, .slice none 0 0, .slice none 0 0, .slice none 0 0] 33)) := by
    rw [hW]
    refine ⟨by (repeat' (first | (with_reducible exact Below.refl _ _) | (with_reducible assumption) | (with_reducible refine Below.setCell ?_ ?_ _) | (with_reducible refine Below.alloc ?_ ?_ _) | (with_reducible refine below_drewN ?_ _) | (with_reducible refine Below.drew ?_) | (with_reducible exact Nat.le_refl _) | omega | (simp; done) | (simp; omega))), ?_⟩
    have := heap_alloc_new (w.alloc (.cells #[.int .i64 st, .slice wa wn wc, .slice la ln lc, .slice xa xn xc] 31)) (.cells #[.int .i64 0, .int .i64 0, .int .i64 0, .slice none 0 0, .slice none 0 0, .slice none 0 0] 33); simpa using this
  obtain ⟨Y, hY⟩ : ∃ Y, Y = W.alloc (.cells #[.int .i64 id] 2) := ⟨_, rfl⟩
  have HY : Hid (Below W.heap.size W Y ∧ Y.heap[W.heap.size]? = some (.cells #[.int .i64 id] 2)) := by rw [hY]; exact ⟨by (repeat' (first | (with_reducible exact Below.refl _ _) | (with_reducible assumption) | (with_reducible refine Below.setCell ?_ ?_ _) | (with_reducible refine Below.alloc ?_ ?_ _) | (with_reducible refine below_drewN ?_ _) | (with_reducible refine Below.drew ?_) | (with_reducible exact Nat.le_refl _) | omega | (simp; done) | (simp; omega))), heap_alloc_new _ _⟩
  have HB : Hid (Calls Try.prog 42 #[.agg #[.int .i64 st, .slice wa wn wc, .slice la ln lc, .slice xa xn xc], .slice (some ⟨W.heap.size, 0, none⟩) 1 1] Y fun e w' => ∃ p, e = .returned (.tuple #[.pointer p, .int .i64 C]) ∧ (C ≠ 0 → p = none) ∧ (C = 0 → ∃ K, p = some ⟨K, 0, none⟩ ∧ OBx w' Y.heap.size K b) ∧ Below Y.heap.size Y w') := by
    rw [hC, ← ofC_oneA]
    exact impl_opf hst hs ((h.below HW.out.1).below HY.out.1) (rd_oneA HY.out.2) (by simp) (fun x hx => by simp only [List.mem_singleton] at hx; subst hx; exact hidw)
  have HR0 : Hid (C = bgC b id ∧ RB = hdB b id q ∧ b.st = st) := ⟨hC, hRB, hst⟩
  have hWs : W.heap.size = w.heap.size + 2 := by rw [hW]; simp
  clear h hs hst hwn hln hxn hC hRB hidw
  go_enter Try.func26, Try.ntmps26
  go_wp2_with (fail)
  rw [← hW]
  clear hW
  try rw [← hWs]
  rw [← hY]
  clear hY hWs
  refine HB.out.mono ?_
  rintro e w1 ⟨p, rfl, hpn, hps, hb1⟩
  have hBY : Below W.heap.size W w1 := HY.out.1.trans (hb1.mono HY.out.1.size)
  have m1 := (hBY.block _ (ltOfQ HW.out.2)).trans HW.out.2
  have HE : Hid (Below w.heap.size w w1) := HW.out.1.trans (hBY.mono HW.out.1.size)
  have HM : Hid (w1.heap[w.heap.size + 1]? = some (.cells #[.int .i64 0, .int .i64 0, .int .i64 0, .slice none 0 0, .slice none 0 0, .slice none 0 0] 33) ∧ w.heap.size + 1 < Y.heap.size ∧ w.heap.size ≤ Y.heap.size ∧ Y.heap.size ≤ w1.heap.size) := ⟨m1, Nat.lt_of_lt_of_le (ltOfQ HW.out.2) HY.out.1.size, Nat.le_trans HW.out.1.size HY.out.1.size, hb1.size⟩
  clear hb1 HB HW HY m1 hBY
  by_cases hC0 : C = 0
  case neg =>
    have HR : Hid (RB = bkZ) := by unfold Hid; rw [HR0.out.2.1, hdB, if_pos (by rw [← HR0.out.1]; exact hC0)]
    have hCb : (C == 0) = false := beq_eq_false_iff_ne.2 hC0
    obtain ⟨r0, r1, r2, r3, r4, r5, rl⟩ := six_of HM.out.1
    have qf := fun i => frozOf HM.out.1 i
    have qf0 := qf 0
    have qf1 := qf 1
    have qf2 := qf 2
    have qf3 := qf 3
    have qf4 := qf 4
    have qf5 := qf 5
    clear hps hpn qf
    go_wp2
    try simp only [Exit.inBlock, Exit.then]
    refine bodyPost_ret (by simp [results, Try.results26, go_sem, r0, r1, r2, r3, r4, r5, rl, qf0, qf1, qf2, qf3, qf4, qf5]; try rfl) rfl ⟨(nilV, nilV, nilV), [], by rw [HR.out]; rfl, by rw [HR.out]; exact PB.nil _ _, ?_⟩
    have hb := HE.out
    (repeat' (first | (with_reducible exact Below.refl _ _) | (with_reducible assumption) | (with_reducible refine Below.setCell ?_ ?_ _) | (with_reducible refine Below.alloc ?_ ?_ _) | (with_reducible refine below_drewN ?_ _) | (with_reducible refine Below.drew ?_) | (with_reducible exact Nat.le_refl _) | omega | (simp; done) | (simp; omega)))
  have HC0 : Hid (bgC b id = 0) := by unfold Hid; rw [← HR0.out.1]; exact hC0
  obtain ⟨K, rfl, hob⟩ := hps hC0
  clear hpn hps
  subst hC0
  obtain ⟨hG, i, hi, hfi, hid⟩ := bgC_cases HC0.out
  have HR : Hid (RB = hlB b i q) := by unfold Hid; rw [HR0.out.2.1, hdB, if_neg (fun e => e HC0.out), hfi, Int.toNat_natCast]
  obtain ⟨bp, bm, vw', vl', vs', f0, rs, m, hob, _, _⟩ := hob
  obtain ⟨G, cG, hvl, hG1, hG2, hat⟩ := hob.row (by omega)
  subst hvl
  obtain ⟨n, hn⟩ : ∃ n, n = b.ls.length := ⟨_, rfl⟩
  rw [← hn] at hob
  have hir : i < rs.length := by rw [hob.pb.len]; exact hi
  have HOB : Hid (OB w1 Y.heap.size K bp bm vw' (.slice (some ⟨G, 0, none⟩) n cG) vs' f0 b rs ∧ n = b.ls.length ∧ i < b.ls.length ∧ Y.heap.size ≤ G ∧ G < w1.heap.size) := ⟨hob, hn, hi, hG1, hG2⟩
  have HL : Hid (Calls Try.prog 56 #[.pointer (some ⟨K, 0, none⟩), .int .i64 id] w1 fun e w' => e = .returned (.pointer (some ⟨G, i * 5, none⟩)) ∧ Below w1.heap.size w1 w') := impl_lot n hn hob hi id hid.symm
  have HCC : Hid (w1.cell? ⟨G, i * 5 + 3, none⟩ = some (.bool rs[i].hd)) := (hat i hir).c.2.2.2.1
  obtain ⟨hd0, hhd⟩ : ∃ x, x = rs[i].hd := ⟨_, rfl⟩
  rw [← hhd] at HCC
  clear hhd hfi hid hG hob hat hG1 hG2 hn hir hi
  go_wp2_with (fail)
  refine HL.out.mono ?_
  rintro e w2 ⟨rfl, hb2⟩
  have HO2 : Hid (OB w2 Y.heap.size K bp bm vw' (.slice (some ⟨G, 0, none⟩) n cG) vs' f0 b rs) := HOB.out.1.below hb2
  have k3 := (hb2.cell (p := ⟨G, i * 5 + 3, none⟩) HOB.out.2.2.2.2).trans HCC.out
  have kl : G < w2.heap.size := Nat.lt_of_lt_of_le HOB.out.2.2.2.2 hb2.size
  have kf : w2.frozen? ⟨G, i * 5 + 3, none⟩ = false := by
    have h9 := HO2.out.pb.row
    unfold OG at h9
    rw [HO2.out.pb.len, ← HOB.out.2.1] at h9
    exact World.ownsRow.frozenAt h9 (i * 5 + 3)
  obtain ⟨V, hV⟩ : ∃ V, V = w2.setCell ⟨G, i * 5 + 3, none⟩ (.bool q) := ⟨_, rfl⟩
  have HV : Hid (OB V Y.heap.size K bp bm vw' (.slice (some ⟨G, 0, none⟩) n cG) vs' f0 (hlB b i q) (hlR rs i q) ∧ Below w.heap.size w V ∧ V.heap[w.heap.size + 1]? = some (.cells #[.int .i64 0, .int .i64 0, .int .i64 0, .slice none 0 0, .slice none 0 0, .slice none 0 0] 33)) := by
    refine ⟨by rw [hV]; exact HO2.out.hold HOB.out.2.2.1 q, ?_, ?_⟩
    · have hb := HE.out.trans (hb2.mono HE.out.size)
      have h1 := HOB.out.2.2.2.1
      have h2 := HM.out.2.2.1
      rw [hV]
      (repeat' (first | (with_reducible exact Below.refl _ _) | (with_reducible assumption) | (with_reducible refine Below.setCell ?_ ?_ _) | (with_reducible refine Below.alloc ?_ ?_ _) | (with_reducible refine below_drewN ?_ _) | (with_reducible refine Below.drew ?_) | (with_reducible exact Nat.le_refl _) | omega | (simp; done) | (simp; omega)))
    · rw [hV, heap_setCell_other _ _ _ _ (by have h1 := HOB.out.2.2.2.1; have h2 := HM.out.2.1; simp; omega)]
      exact (hb2.block _ (ltOfQ HM.out.1)).trans HM.out.1
  have HA : Hid (Calls Try.prog 47 #[.pointer (some ⟨K, 0, none⟩)] V fun e w' => e = .returned (.agg #[.int .i64 0, .int .i64 0, .int .i64 st, vw', .slice (some ⟨G, 0, none⟩) n cG, vs']) ∧ PB w' Y.heap.size vw' (.slice (some ⟨G, 0, none⟩) n cG) vs' (wvO (rsW f0 (hlB b i q).ls (hlR rs i q) (hlB b i q).ls.length)) (hlB b i q) (rsW f0 (hlB b i q).ls (hlR rs i q) (hlB b i q).ls.length) ∧ Below Y.heap.size V w') := impl_ans st HR0.out.2.2 (by rw [HOB.out.2.1]; exact (hlL_len _ _ _).symm) (by have := HOB.out.2.1; have := HOB.out.2.2.1; omega) HV.out.1
  obtain ⟨wa', wc', ew⟩ := (OG.rg wdC_len HO2.out.pb.wn).form
  obtain ⟨xa', xc', ex⟩ := HO2.out.pb.sc.form
  obtain ⟨wn', hwn'⟩ : ∃ n, n = b.wn.length := ⟨_, rfl⟩
  obtain ⟨xn', hxn'⟩ : ∃ n, n = b.sc.length := ⟨_, rfl⟩
  rw [← hwn'] at ew
  rw [← hxn'] at ex
  subst ew ex
  clear hwn' hxn' hb2 HL
  go_wp2_with (fail)
  rw [← hV]
  clear hV k3 kl kf
  refine HA.out.mono ?_
  rintro e w3 ⟨rfl, hpb, hb3⟩
  have m3 := (hb3.block (w.heap.size + 1) HM.out.2.1).trans HV.out.2.2
  have HE3 : Hid (Below w.heap.size V w3 ∧ Below w.heap.size w V) := ⟨hb3.mono HM.out.2.2.1, HV.out.2.1⟩
  have HPB : Hid (PB w3 Y.heap.size (.slice wa' wn' wc') (.slice (some ⟨G, 0, none⟩) n cG) (.slice xa' xn' xc') (wvO (rsW f0 (hlB b i q).ls (hlR rs i q) (hlB b i q).ls.length)) (hlB b i q) (rsW f0 (hlB b i q).ls (hlR rs i q) (hlB b i q).ls.length)) := hpb
  obtain ⟨r0, r1, r2, r3, r4, r5, rl⟩ := six_of m3
  have qf := fun i => frozOf m3 i
  have qf0 := qf 0
  have qf1 := qf 1
  have qf2 := qf 2
  have qf3 := qf 3
  have qf4 := qf 4
  have qf5 := qf 5
  clear qf m3 hpb hb3 HA HV
  go_wp2
  try simp only [Exit.inBlock, Exit.then]
  refine bodyPost_ret (by simp [results, Try.results26, go_sem, r0, r1, r2, r3, r4, r5, rl, qf0, qf1, qf2, qf3, qf4, qf5]; try rfl) rfl ⟨(.slice wa' wn' wc', .slice (some ⟨G, 0, none⟩) n cG, .slice xa' xn' xc'), _, by rw [HR.out]; exact congrArg _ (congrArg _ (by rw [show (hlB b i q).st = st from HR0.out.2.2])), by rw [HR.out]; refine PB.low (PB.keep HPB.out fun k hk => ?_) HM.out.2.2.1; have h1 := (HPB.out.blk hk).1; have h2 := HM.out.2.1; have hoff : ∀ (u : World) o v, (u.setCell ⟨w.heap.size + 1, o, none⟩ v).heap[k]? = u.heap[k]? := fun u o v => heap_setCell_other _ _ _ _ (by simp; omega); rw [hoff, hoff, hoff, hoff, hoff, hoff], ?_⟩
  have hb := HE3.out.2.trans (HE3.out.1.mono (Nat.le_refl _))
  (repeat' (first | (with_reducible exact Below.refl _ _) | (with_reducible assumption) | (with_reducible refine Below.setCell ?_ ?_ _) | (with_reducible refine Below.alloc ?_ ?_ _) | (with_reducible refine below_drewN ?_ _) | (with_reducible refine Below.drew ?_) | (with_reducible exact Nat.le_refl _) | omega | (simp; done) | (simp; omega)))

end Go.Proofs.Ytcfjanignfbidaa

namespace Go.Proofs.Ytcfjanignfbidaa
open Go.RowKit
set_option linter.unusedVariables false
set_option linter.unusedSimpArgs false


theorem OG.fm {α : Type} {T k : Nat} {enc : α → List Value} {w : World} {B : Nat} {v : Value} {s : List α} (h : OG T k enc w B v s) : ∃ a c, v = .slice a s.length c := by
  rcases h.2 with ⟨rfl, h0⟩ | ⟨g, cap, cur, rfl, _⟩
  · exact ⟨none, 0, by rw [h0]⟩
  · exact ⟨_, _, rfl⟩
theorem OG.nl (T k : Nat) {α : Type} (enc : α → List Value) (w : World) (B : Nat) : OG T k enc w B (.slice none 0 0) ([] : List α) := ⟨by simp, Or.inl ⟨rfl, rfl⟩⟩
/-- One more, over a world that has grown by W. -/
theorem OG.st {α : Type} {T k : Nat} {enc : α → List Value} {w V w5 : World} {B : Nat} {v v5 : Value} {s : List α} (p : α) (h : OG T k enc V B v s) (hb : Below B w V) (hl : B ≤ V.heap.size) (ho : w5.ownsRow B T k v5 (s.length + 1) (s.flatMap enc ++ enc p)) (hg : V.grownBy w5 v.ownBlock) : OG T k enc w5 B v5 (s ++ [p]) ∧ Below B w w5 ∧ B ≤ w5.heap.size := by
  refine ⟨?_, hb.grown hg hl (fun q hq => (World.ownsRow.lt h q hq).1), Nat.le_trans hl hg.size⟩
  unfold OG
  rw [List.length_append, List.flatMap_append]
  simpa using ho
theorem OG.s1 {α : Type} {T k : Nat} {enc : α → List Value} {w5 : World} {B : Nat} {v5 : Value} {s : List α} (p : α) (ho : w5.ownsRow B T k v5 (s.length + 1) (s.flatMap enc ++ enc p)) : OG T k enc w5 B v5 (s ++ [p]) := by
  unfold OG
  rw [List.length_append, List.flatMap_append]
  simpa using ho
theorem OG.al {α : Type} {T k : Nat} {enc : α → List Value} {V : World} {B : Nat} {v : Value} {s : List α} (h : OG T k enc V B v s) (o : Obj) : OG T k enc (V.alloc o) B v s := World.ownsRow.alloc h o
theorem OG.kp {α : Type} {T k : Nat} {enc : α → List Value} {w w' : World} {B : Nat} {v : Value} {s : List α} {row : Option Nat} (h : OG T k enc w B v s) (hg : w.grownBy w' row) (hne : v.ownBlock = none ∨ v.ownBlock ≠ row) : OG T k enc w' B v s := World.ownsRow.kept h hg hne

end Go.Proofs.Ytcfjanignfbidaa
