/- Proved here: 'the program's FitModel answers as the model's; it writes into no argument', without a condition. -/
import Derived.Test.YtdidmjgilnhncaaFmP
import Derived.Test.YtdidmjgilnhncaaFmS
import Derived.Test.YtdidmjgilnhncaaMaB
import Derived.Test.YtdidmjgilnhncaaMoR
import Derived.Test.YtdidmjgilnhncaaLwS
import Derived.Test.YtdidmjgilnhncaaRows
namespace Go.Proofs.Ytdidmjgilnhncaa
open Go.ChangeShapes Go.WideShapes Go.ChangeAt Go.RowKit Go.Joins
set_option linter.unusedVariables false
set_option linter.unusedSimpArgs false

theorem own : ownKnob Try.prog.godebug = none := by kernel_rfl
theorem laidOut : laidOutB Try.prog = true := by kernel_rfl

set_option maxRecDepth 10000 in
set_option maxHeartbeats 25600000 in
theorem law_fm11 {w : World} {sa0 : Option Addr} {sn0 sc0 : Nat} (s0 : List Mrk) (hm0 : s0.length ≤ maxLen) (hr0 : RG 4 maC w (.slice sa0 sn0 sc0) s0) :
    Calls Try.prog 7 #[.slice sa0 sn0 sc0] w fun e w' => e = .returned (.bool true) ∧ Below w.heap.size w w' := by
  have HM0 : Hid (sn0 ≤ maxLen) := by unfold Hid; rw [hr0.len]; exact hm0
  have HR0 : Hid (RG 4 maC w (.slice sa0 sn0 sc0) s0) := hr0
  have HE0 : Hid (sn0 = s0.length) := hr0.len
  clear hm0 hr0
  have Z0 : Hid (LS w [] w) := LS.start w
  go_enter Try.func7, Try.ntmps7
  go_wp2_with (fail)
  refine (szMarkS_gen sa0 sn0 sc0 1048576 _ (by omega) (by omega) HM0.out).mono ?_
  rintro e w1 ⟨r0, rfl, hq0, hb⟩
  have Z1 : Hid (LS w [] w1) := Z0.out.next hb
  clear Z0 hb
  rcases hq0 with hneg | ⟨u0, v0, tt0⟩
  · go_wp2
    go_returns
    exact ⟨rfl, Z1.out.bl⟩
  have hl0 : ¬ r0 < 0 := by omega
  have HL0 : Hid (s0.length ≤ 1048576) := by unfold Hid; rw [← HE0.out]; omega
  obtain ⟨C0, hC0⟩ : ∃ X, X = fmC s0 := ⟨_, rfl⟩
  obtain ⟨C1, hC1⟩ : ∃ X, X = (fmM s0).sx.n := ⟨_, rfl⟩
  obtain ⟨C2, hC2⟩ : ∃ X, X = (fmM s0).sx.d := ⟨_, rfl⟩
  obtain ⟨C3, hC3⟩ : ∃ X, X = (fmM s0).sy.n := ⟨_, rfl⟩
  obtain ⟨C4, hC4⟩ : ∃ X, X = (fmM s0).sy.d := ⟨_, rfl⟩
  obtain ⟨C5, hC5⟩ : ∃ X, X = (fmM s0).k.n := ⟨_, rfl⟩
  obtain ⟨C6, hC6⟩ : ∃ X, X = (fmM s0).k.d := ⟨_, rfl⟩
  obtain ⟨C7, hC7⟩ : ∃ X, X = (fmM s0).r.n := ⟨_, rfl⟩
  obtain ⟨C8, hC8⟩ : ∃ X, X = (fmM s0).r.d := ⟨_, rfl⟩
  have HSP : Hid (∀ (W : World) (g0 : Nat), (RG 4 maC W (.slice (some ⟨g0, 0, none⟩) s0.length s0.length) s0) → Calls Try.prog 26 #[.slice (some ⟨g0, 0, none⟩) s0.length s0.length] W fun e w' => e = .returned (.agg #[.int .i64 C0, .int .i64 C1, .int .i64 C2, .int .i64 C3, .int .i64 C4, .int .i64 C5, .int .i64 C6, .int .i64 C7, .int .i64 C8]) ∧ Below W.heap.size W w') := fun W g0 h0 => by
    rw [hC8, hC7, hC6, hC5, hC4, hC3, hC2, hC1, hC0]
    exact spec_fm HL0.out h0
  have HIM : Hid (∀ (W : World) (g0 : Nat), (RG 4 maC W (.slice (some ⟨g0, 0, none⟩) s0.length s0.length) s0) → Calls Try.prog 27 #[.slice (some ⟨g0, 0, none⟩) s0.length s0.length] W fun e w' => e = .returned (.agg #[.int .i64 C0, .int .i64 C1, .int .i64 C2, .int .i64 C3, .int .i64 C4, .int .i64 C5, .int .i64 C6, .int .i64 C7, .int .i64 C8]) ∧ Below W.heap.size W w') := fun W g0 h0 => by
    rw [hC8, hC7, hC6, hC5, hC4, hC3, hC2, hC1, hC0]
    exact impl_fm HL0.out h0
  clear hC0 hC1 hC2 hC3 hC4 hC5 hC6 hC7 hC8 u0 v0 tt0
  go_wp2_with (fail)
  refine (toMarkS_any HL0.out (HR0.out.below Z1.out.bl)).mono ?_
  rintro e w2 ⟨ga0, rfl, ho, hb⟩
  have Z2 : Hid (LS w [(w1.heap.size, w2.heap.size, fun V : World => V.ownsRow w1.heap.size 76 4 (.slice (some ⟨ga0, 0, none⟩) s0.length s0.length) s0.length (s0.flatMap maC))] w2) := Z1.out.push hb (Ow.rowAll ho hb) (Nat.le_refl _)
  clear Z1 hb ho
  go_wp2_with (fail)
  refine (HSP.out w2 ga0 (OG.rg (T := 76) (B := w1.heap.size) maC_len (show w2.ownsRow w1.heap.size 76 4 (.slice (some ⟨ga0, 0, none⟩) s0.length s0.length) s0.length (s0.flatMap maC) from Z2.out.get 0 rfl))).mono ?_
  rintro e w3 ⟨rfl, hb⟩
  have Z3 : Hid (LS w [(w1.heap.size, w2.heap.size, fun V : World => V.ownsRow w1.heap.size 76 4 (.slice (some ⟨ga0, 0, none⟩) s0.length s0.length) s0.length (s0.flatMap maC))] w3) := Z2.out.next hb
  clear Z2 hb
  have Z4 : Hid (LS w [(w1.heap.size, w2.heap.size, fun V : World => V.ownsRow w1.heap.size 76 4 (.slice (some ⟨ga0, 0, none⟩) s0.length s0.length) s0.length (s0.flatMap maC)), (w3.heap.size, w3.heap.size + 1, fun V : World => V.heap[w3.heap.size]? = some (Obj.cells #[.int .i64 C0, .int .i64 C1, .int .i64 C2, .int .i64 C3, .int .i64 C4, .int .i64 C5, .int .i64 C6, .int .i64 C7, .int .i64 C8] 55))] (w3.alloc (Obj.cells #[.int .i64 C0, .int .i64 C1, .int .i64 C2, .int .i64 C3, .int .i64 C4, .int .i64 C5, .int .i64 C6, .int .i64 C7, .int .i64 C8] 55))) := Z3.out.push (by (repeat' (first | (with_reducible exact Below.refl _ _) | (with_reducible assumption) | (with_reducible refine Below.setCell ?_ ?_ _) | (with_reducible refine Below.alloc ?_ ?_ _) | (with_reducible refine below_drewN ?_ _) | (with_reducible refine Below.drew ?_) | (with_reducible exact Nat.le_refl _) | omega | (simp; done) | (simp; omega)))) (Ow.block (heap_alloc_new _ _)) (Nat.le_refl _)
  clear Z3
  go_wp2_with (fail)
  obtain ⟨Va, hV⟩ : ∃ V, V = w3.alloc (Obj.cells #[.int .i64 C0, .int .i64 C1, .int .i64 C2, .int .i64 C3, .int .i64 C4, .int .i64 C5, .int .i64 C6, .int .i64 C7, .int .i64 C8] 55) := ⟨_, rfl⟩
  rw [← hV] at Z4 ⊢
  obtain ⟨Ka, hK⟩ : ∃ K, K = w3.heap.size := ⟨_, rfl⟩
  rw [← hK] at Z4  ⊢
  clear hV hK
  refine (toMarkS_any HL0.out (HR0.out.below Z4.out.bl)).mono ?_
  rintro e w4 ⟨x0, rfl, ho, hb⟩
  have Z5 : Hid (LS w [(w1.heap.size, w2.heap.size, fun V : World => V.ownsRow w1.heap.size 76 4 (.slice (some ⟨ga0, 0, none⟩) s0.length s0.length) s0.length (s0.flatMap maC)), (Ka, Ka + 1, fun V : World => V.heap[Ka]? = some (Obj.cells #[.int .i64 C0, .int .i64 C1, .int .i64 C2, .int .i64 C3, .int .i64 C4, .int .i64 C5, .int .i64 C6, .int .i64 C7, .int .i64 C8] 55)), (Va.heap.size, w4.heap.size, fun V : World => V.ownsRow Va.heap.size 76 4 (.slice (some ⟨x0, 0, none⟩) s0.length s0.length) s0.length (s0.flatMap maC))] w4) := Z4.out.push hb (Ow.rowAll ho hb) (Nat.le_refl _)
  clear Z4 hb ho
  go_wp2_with (fail)
  refine (HIM.out w4 x0 (OG.rg (T := 76) (B := Va.heap.size) maC_len (show w4.ownsRow Va.heap.size 76 4 (.slice (some ⟨x0, 0, none⟩) s0.length s0.length) s0.length (s0.flatMap maC) from Z5.out.get 2 rfl))).mono ?_
  rintro e w5 ⟨rfl, hb⟩
  have Z6 : Hid (LS w [(w1.heap.size, w2.heap.size, fun V : World => V.ownsRow w1.heap.size 76 4 (.slice (some ⟨ga0, 0, none⟩) s0.length s0.length) s0.length (s0.flatMap maC)), (Ka, Ka + 1, fun V : World => V.heap[Ka]? = some (Obj.cells #[.int .i64 C0, .int .i64 C1, .int .i64 C2, .int .i64 C3, .int .i64 C4, .int .i64 C5, .int .i64 C6, .int .i64 C7, .int .i64 C8] 55)), (Va.heap.size, w4.heap.size, fun V : World => V.ownsRow Va.heap.size 76 4 (.slice (some ⟨x0, 0, none⟩) s0.length s0.length) s0.length (s0.flatMap maC))] w5) := Z5.out.next hb
  clear Z5 hb
  have kva := Z6.out.get 1 rfl
  have cva_0 : w5.cell? ⟨Ka, 0, none⟩ = some (.int .i64 C0) := cellOf kva 0 rfl
  have cva_1 : w5.cell? ⟨Ka, 1, none⟩ = some (.int .i64 C1) := cellOf kva 1 rfl
  have cva_2 : w5.cell? ⟨Ka, 2, none⟩ = some (.int .i64 C2) := cellOf kva 2 rfl
  have cva_3 : w5.cell? ⟨Ka, 3, none⟩ = some (.int .i64 C3) := cellOf kva 3 rfl
  have cva_4 : w5.cell? ⟨Ka, 4, none⟩ = some (.int .i64 C4) := cellOf kva 4 rfl
  have cva_5 : w5.cell? ⟨Ka, 5, none⟩ = some (.int .i64 C5) := cellOf kva 5 rfl
  have cva_6 : w5.cell? ⟨Ka, 6, none⟩ = some (.int .i64 C6) := cellOf kva 6 rfl
  have cva_7 : w5.cell? ⟨Ka, 7, none⟩ = some (.int .i64 C7) := cellOf kva 7 rfl
  have cva_8 : w5.cell? ⟨Ka, 8, none⟩ = some (.int .i64 C8) := cellOf kva 8 rfl
  have lva : Ka < w5.heap.size := ltOf kva
  clear kva
  have Z7 : Hid (LS w [(w1.heap.size, w2.heap.size, fun V : World => V.ownsRow w1.heap.size 76 4 (.slice (some ⟨ga0, 0, none⟩) s0.length s0.length) s0.length (s0.flatMap maC)), (Ka, Ka + 1, fun V : World => V.heap[Ka]? = some (Obj.cells #[.int .i64 C0, .int .i64 C1, .int .i64 C2, .int .i64 C3, .int .i64 C4, .int .i64 C5, .int .i64 C6, .int .i64 C7, .int .i64 C8] 55)), (Va.heap.size, w4.heap.size, fun V : World => V.ownsRow Va.heap.size 76 4 (.slice (some ⟨x0, 0, none⟩) s0.length s0.length) s0.length (s0.flatMap maC)), (w5.heap.size, w5.heap.size + 1, fun V : World => V.heap[w5.heap.size]? = some (Obj.cells #[.int .i64 C0, .int .i64 C1, .int .i64 C2, .int .i64 C3, .int .i64 C4, .int .i64 C5, .int .i64 C6, .int .i64 C7, .int .i64 C8] 55))] (w5.alloc (Obj.cells #[.int .i64 C0, .int .i64 C1, .int .i64 C2, .int .i64 C3, .int .i64 C4, .int .i64 C5, .int .i64 C6, .int .i64 C7, .int .i64 C8] 55))) := Z6.out.push (by (repeat' (first | (with_reducible exact Below.refl _ _) | (with_reducible assumption) | (with_reducible refine Below.setCell ?_ ?_ _) | (with_reducible refine Below.alloc ?_ ?_ _) | (with_reducible refine below_drewN ?_ _) | (with_reducible refine Below.drew ?_) | (with_reducible exact Nat.le_refl _) | omega | (simp; done) | (simp; omega)))) (Ow.block (heap_alloc_new _ _)) (Nat.le_refl _)
  clear Z6
  go_wp2_with (fail)
  obtain ⟨Vg, hV⟩ : ∃ V, V = w5.alloc (Obj.cells #[.int .i64 C0, .int .i64 C1, .int .i64 C2, .int .i64 C3, .int .i64 C4, .int .i64 C5, .int .i64 C6, .int .i64 C7, .int .i64 C8] 55) := ⟨_, rfl⟩
  rw [← hV] at Z7 ⊢
  obtain ⟨Kg, hK⟩ : ∃ K, K = w5.heap.size := ⟨_, rfl⟩
  rw [← hK] at Z7  ⊢
  clear hV hK
  clear cva_0 cva_1 cva_2 cva_3 cva_4 cva_5 cva_6 cva_7 cva_8 lva
  refine (eqModelResult_to C0 C1 C2 C3 C4 C5 C6 C7 C8 _).mono ?_
  rintro e w6 ⟨rfl, hb⟩
  have Z8 : Hid (LS w [(w1.heap.size, w2.heap.size, fun V : World => V.ownsRow w1.heap.size 76 4 (.slice (some ⟨ga0, 0, none⟩) s0.length s0.length) s0.length (s0.flatMap maC)), (Ka, Ka + 1, fun V : World => V.heap[Ka]? = some (Obj.cells #[.int .i64 C0, .int .i64 C1, .int .i64 C2, .int .i64 C3, .int .i64 C4, .int .i64 C5, .int .i64 C6, .int .i64 C7, .int .i64 C8] 55)), (Va.heap.size, w4.heap.size, fun V : World => V.ownsRow Va.heap.size 76 4 (.slice (some ⟨x0, 0, none⟩) s0.length s0.length) s0.length (s0.flatMap maC)), (Kg, Kg + 1, fun V : World => V.heap[Kg]? = some (Obj.cells #[.int .i64 C0, .int .i64 C1, .int .i64 C2, .int .i64 C3, .int .i64 C4, .int .i64 C5, .int .i64 C6, .int .i64 C7, .int .i64 C8] 55))] w6) := Z7.out.next hb
  clear Z7 hb
  go_wp2_with (fail)
  refine (toMarkS_any HL0.out (HR0.out.below Z8.out.bl)).mono ?_
  rintro e w7 ⟨e0, rfl, ho, hb⟩
  have Z9 : Hid (LS w [(w1.heap.size, w2.heap.size, fun V : World => V.ownsRow w1.heap.size 76 4 (.slice (some ⟨ga0, 0, none⟩) s0.length s0.length) s0.length (s0.flatMap maC)), (Ka, Ka + 1, fun V : World => V.heap[Ka]? = some (Obj.cells #[.int .i64 C0, .int .i64 C1, .int .i64 C2, .int .i64 C3, .int .i64 C4, .int .i64 C5, .int .i64 C6, .int .i64 C7, .int .i64 C8] 55)), (Va.heap.size, w4.heap.size, fun V : World => V.ownsRow Va.heap.size 76 4 (.slice (some ⟨x0, 0, none⟩) s0.length s0.length) s0.length (s0.flatMap maC)), (Kg, Kg + 1, fun V : World => V.heap[Kg]? = some (Obj.cells #[.int .i64 C0, .int .i64 C1, .int .i64 C2, .int .i64 C3, .int .i64 C4, .int .i64 C5, .int .i64 C6, .int .i64 C7, .int .i64 C8] 55)), (w6.heap.size, w7.heap.size, fun V : World => V.ownsRow w6.heap.size 76 4 (.slice (some ⟨e0, 0, none⟩) s0.length s0.length) s0.length (s0.flatMap maC))] w7) := Z8.out.push hb (Ow.rowAll ho hb) (Nat.le_refl _)
  clear Z8 hb ho
  go_wp2_with (fail)
  refine (eqMarkS_same (by have := HL0.out; omega) (OG.rg (T := 76) (B := Va.heap.size) maC_len (show w7.ownsRow Va.heap.size 76 4 (.slice (some ⟨x0, 0, none⟩) s0.length s0.length) s0.length (s0.flatMap maC) from Z9.out.get 2 rfl)) (OG.rg (T := 76) (B := w6.heap.size) maC_len (show w7.ownsRow w6.heap.size 76 4 (.slice (some ⟨e0, 0, none⟩) s0.length s0.length) s0.length (s0.flatMap maC) from Z9.out.get 4 rfl))).mono ?_
  rintro e w8 ⟨rfl, hb⟩
  have Z10 : Hid (LS w [(w1.heap.size, w2.heap.size, fun V : World => V.ownsRow w1.heap.size 76 4 (.slice (some ⟨ga0, 0, none⟩) s0.length s0.length) s0.length (s0.flatMap maC)), (Ka, Ka + 1, fun V : World => V.heap[Ka]? = some (Obj.cells #[.int .i64 C0, .int .i64 C1, .int .i64 C2, .int .i64 C3, .int .i64 C4, .int .i64 C5, .int .i64 C6, .int .i64 C7, .int .i64 C8] 55)), (Va.heap.size, w4.heap.size, fun V : World => V.ownsRow Va.heap.size 76 4 (.slice (some ⟨x0, 0, none⟩) s0.length s0.length) s0.length (s0.flatMap maC)), (Kg, Kg + 1, fun V : World => V.heap[Kg]? = some (Obj.cells #[.int .i64 C0, .int .i64 C1, .int .i64 C2, .int .i64 C3, .int .i64 C4, .int .i64 C5, .int .i64 C6, .int .i64 C7, .int .i64 C8] 55)), (w6.heap.size, w7.heap.size, fun V : World => V.ownsRow w6.heap.size 76 4 (.slice (some ⟨e0, 0, none⟩) s0.length s0.length) s0.length (s0.flatMap maC))] w8) := Z9.out.next hb
  clear Z9 hb
  go_wp2
  go_returns
  exact ⟨rfl, Z10.out.bl⟩

set_option maxRecDepth 100000 in
theorem fm11_lifted (os : Os) (started : os.Started) (H : Type) (enc : TypeId × Value → H) :
    ReturnsInHanded {} Try.checked os 7 .any (Rows.fnExactFitModelSpec.pre6 enc Try.prog Try.f7 Rows.fnExactFitModelRow.domain false) (Rows.fnExactFitModelSpec.post enc Try.prog Try.f7 false true false false) := by
  refine returnsInHanded_of_change (C := Try.checked) own started (by kernel_rfl) Try.func7
    (ChangeSpec.witness6 (enc := enc) (C := Try.checked) false ⟨#[], #[.slice none 0 0], []⟩ 8 (by kernel_rfl) (by kernel_rfl) (by kernel_rfl) (by kernel_rfl)) ?_
  intro W base args ds gs before hval0 hW hcnd _
  have hval : ∀ (j : Nat) t v, Try.f7.params[j]? = some t → args[j]? = some v → Value.okWide Try.prog W .any base t v := hval0
  have hW' := hW
  obtain ⟨p, q, hA0, hV, rfl, hfz, hnd⟩ := hW
  have hA : DataW.TrodAll enc Try.prog W 0 (fun _ => true) true Try.f7.params.toList args.toList ds p := hA0
  rw [Try.params7] at hA hval
  obtain ⟨v0, vs0, d0, ds0, p0, q0, hargs, rfl, rfl, h0, r0⟩ := trodAll_cons hA
  obtain ⟨rfl, rfl, rfl⟩ := trodAll_nil r0
  obtain rfl : args = #[v0] := by cases args; simp_all
  obtain ⟨rfl, rfl⟩ := trodVars_none hV
  have k0 := h0
  have lt0 : ∀ x ∈ p0, x.block < W.heap.size := by obtain ⟨m, hm⟩ := k0; exact DataW.trod_lt m _ _ _ hm
  obtain ⟨sa0, sn0, sc0, s0, rfl, rb0, sl0⟩ := marks_open (hval 0 32 v0 rfl rfl) h0
  clear hA0 hval0
  refine (law_fm11 s0 sl0 rb0).mono fun e W' ⟨he, hg⟩ => ?_
  subst he
  exact ⟨_, rfl, _, _, _, [], _, [], hW', trodAll_mk1 (shut_bool Try.underlying4 _), (trodAll_cons_mk (Below.trod laidOut (by kernel_rfl) (of_decide_eq_true (by kernel_rfl)) k0 hg lt0) trodAll_mk0), rfl, hg.frame _, fun h => by cases h⟩

theorem fm11_over : Rows.fnExactFitModelRow.holds Try.pinned (OpenSpec.ofChange Rows.fnExactFitModelSpec) :=
  OpenClaim.holds_of_wide 7 Try.f7 rfl rfl rfl rfl rfl rfl rfl ⟨rfl, rfl, rfl, rfl, rfl⟩ rfl rfl rfl rfl rfl (by kernel_rfl) Try.func7 (by kernel_rfl)
    (of_decide_eq_true (by kernel_rfl)) (by unfold Func.isWrapper; first | (rw [if_pos (by decide +kernel)]; kernel_rfl) | (rw [if_neg (by decide +kernel)]; exact ⟨rfl, rfl⟩))
    (fun os started H enc _ => fm11_lifted os started H enc)

theorem fm11_proved : Rows.FnExactFitModelSaid :=
  fm11_over
#print axioms fm11_proved

end Go.Proofs.Ytdidmjgilnhncaa
