/- Proved here: 'the program's PickJob answers as the model's; it writes into no argument', without a condition. -/
import Derived.Test.YtecobfhlpjlpkaaPjK
import Derived.Test.YtecobfhlpjlpkaaPjT
import Derived.Test.YtecobfhlpjlpkaaDjB
import Derived.Test.YtecobfhlpjlpkaaMkSI
import Derived.Test.YtecobfhlpjlpkaaLwS
import Derived.Test.YtecobfhlpjlpkaaRows
namespace Go.Proofs.Ytecobfhlpjlpkaa
open Go.ChangeShapes Go.WideShapes Go.ChangeAt Go.RowKit Go.Joins
set_option linter.unusedVariables false
set_option linter.unusedSimpArgs false

theorem own : ownKnob Try.prog.godebug = none := by kernel_rfl
theorem laidOut : laidOutB Try.prog = true := by kernel_rfl

set_option maxRecDepth 10000 in
set_option maxHeartbeats 25600000 in
theorem law_pj22 {w : World}  {sa0 : Option Addr} {sn0 sc0 : Nat} (s0 : List Jb) (hm0 : s0.length ≤ maxLen) (hr0 : RG 7 jbC w (.slice sa0 sn0 sc0) s0) (n1 : Int) (n2 : Int) :
    Calls Try.prog 6 #[.slice sa0 sn0 sc0, .int .i64 n1, .int .i64 n2] w fun e w' => e = .returned (.bool true) ∧ Below w.heap.size w w' := by
  have HM0 : Hid (sn0 ≤ maxLen) := by unfold Hid; rw [hr0.len]; exact hm0
  have HR0 : Hid (RG 7 jbC w (.slice sa0 sn0 sc0) s0) := hr0
  have HE0 : Hid (sn0 = s0.length) := hr0.len
  clear hm0 hr0
  have Z0 : Hid (LS w [] w) := LS.start w
  go_enter Try.func6, Try.ntmps6
  go_wp2_with (fail)
  refine (szJobS_gen sa0 sn0 sc0 1048576 _ (by omega) (by omega) HM0.out).mono ?_
  rintro e w1 ⟨r0, rfl, hq0, hb⟩
  have Z1 : Hid (LS w [] w1) := Z0.out.next hb
  clear Z0 hb
  rcases hq0 with hneg | ⟨u0, v0, tt0⟩
  · go_wp2
    go_returns
    exact ⟨rfl, Z1.out.bl⟩
  have hl0 : ¬ r0 < 0 := by omega
  have HL0 : Hid (s0.length ≤ 1048576) := by unfold Hid; rw [← HE0.out]; omega
  obtain ⟨C0, hC0⟩ : ∃ X, X = pjC s0 n1 n2 := ⟨_, rfl⟩
  obtain ⟨C1, hC1⟩ : ∃ X, X = pjV s0 n1 n2 := ⟨_, rfl⟩
  have HSP : Hid (∀ (W : World) (g0 : Nat), (RG 7 jbC W (.slice (some ⟨g0, 0, none⟩) s0.length s0.length) s0) → Calls Try.prog 21 #[.slice (some ⟨g0, 0, none⟩) s0.length s0.length, .int .i64 n1, .int .i64 n2] W fun e w' => e = .returned (.agg #[.int .i64 C0, .int .i64 C1]) ∧ Below W.heap.size W w') := fun W g0 h0 => by
    rw [hC1, hC0]
    exact spec_pj n1 n2 HL0.out (Nat.le_refl _) h0
  have HIM : Hid (∀ (W : World) (g0 : Nat), (RG 7 jbC W (.slice (some ⟨g0, 0, none⟩) s0.length s0.length) s0) → Calls Try.prog 22 #[.slice (some ⟨g0, 0, none⟩) s0.length s0.length, .int .i64 n1, .int .i64 n2] W fun e w' => e = .returned (.agg #[.int .i64 C0, .int .i64 C1]) ∧ Below W.heap.size W w') := fun W g0 h0 => by
    rw [hC1, hC0]
    exact impl_pj n1 n2 HL0.out (Nat.le_refl _) h0
  clear hC0 hC1 u0 v0 tt0
  go_wp2_with (fail)
  refine (toJobS_any HL0.out (HR0.out.below Z1.out.bl)).mono ?_
  rintro e w2 ⟨ga0, rfl, ho, hb⟩
  have Z2 : Hid (LS w [(w1.heap.size, w2.heap.size, fun V : World => V.ownsRow w1.heap.size 48 7 (.slice (some ⟨ga0, 0, none⟩) s0.length s0.length) s0.length (s0.flatMap jbC))] w2) := Z1.out.push hb (Ow.rowAll ho hb) (Nat.le_refl _)
  clear Z1 hb ho
  go_wp2_with (fail)
  refine (HSP.out w2 ga0 (OG.rg (T := 48) (B := w1.heap.size) jbC_len (show w2.ownsRow w1.heap.size 48 7 (.slice (some ⟨ga0, 0, none⟩) s0.length s0.length) s0.length (s0.flatMap jbC) from Z2.out.get 0 rfl))).mono ?_
  rintro e w3 ⟨rfl, hb⟩
  have Z3 : Hid (LS w [(w1.heap.size, w2.heap.size, fun V : World => V.ownsRow w1.heap.size 48 7 (.slice (some ⟨ga0, 0, none⟩) s0.length s0.length) s0.length (s0.flatMap jbC))] w3) := Z2.out.next hb
  clear Z2 hb
  have Z4 : Hid (LS w [(w1.heap.size, w2.heap.size, fun V : World => V.ownsRow w1.heap.size 48 7 (.slice (some ⟨ga0, 0, none⟩) s0.length s0.length) s0.length (s0.flatMap jbC)), (w3.heap.size, w3.heap.size + 1, fun V : World => V.heap[w3.heap.size]? = some (Obj.cells #[.int .i64 C0, .int .i64 C1] 31))] (w3.alloc (Obj.cells #[.int .i64 C0, .int .i64 C1] 31))) := Z3.out.push (by (repeat' (first | (with_reducible exact Below.refl _ _) | (with_reducible assumption) | (with_reducible refine Below.setCell ?_ ?_ _) | (with_reducible refine Below.alloc ?_ ?_ _) | (with_reducible refine below_drewN ?_ _) | (with_reducible refine Below.drew ?_) | (with_reducible exact Nat.le_refl _) | omega | (simp; done) | (simp; omega)))) (Ow.block (heap_alloc_new _ _)) (Nat.le_refl _)
  clear Z3
  go_wp2_with (fail)
  obtain ⟨Va, hV⟩ : ∃ V, V = w3.alloc (Obj.cells #[.int .i64 C0, .int .i64 C1] 31) := ⟨_, rfl⟩
  rw [← hV] at Z4 ⊢
  obtain ⟨Ka, hK⟩ : ∃ K, K = w3.heap.size := ⟨_, rfl⟩
  rw [← hK] at Z4  ⊢
  clear hV hK
  refine (toJobS_any HL0.out (HR0.out.below Z4.out.bl)).mono ?_
  rintro e w4 ⟨x0, rfl, ho, hb⟩
  have Z5 : Hid (LS w [(w1.heap.size, w2.heap.size, fun V : World => V.ownsRow w1.heap.size 48 7 (.slice (some ⟨ga0, 0, none⟩) s0.length s0.length) s0.length (s0.flatMap jbC)), (Ka, Ka + 1, fun V : World => V.heap[Ka]? = some (Obj.cells #[.int .i64 C0, .int .i64 C1] 31)), (Va.heap.size, w4.heap.size, fun V : World => V.ownsRow Va.heap.size 48 7 (.slice (some ⟨x0, 0, none⟩) s0.length s0.length) s0.length (s0.flatMap jbC))] w4) := Z4.out.push hb (Ow.rowAll ho hb) (Nat.le_refl _)
  clear Z4 hb ho
  go_wp2_with (fail)
  refine (HIM.out w4 x0 (OG.rg (T := 48) (B := Va.heap.size) jbC_len (show w4.ownsRow Va.heap.size 48 7 (.slice (some ⟨x0, 0, none⟩) s0.length s0.length) s0.length (s0.flatMap jbC) from Z5.out.get 2 rfl))).mono ?_
  rintro e w5 ⟨rfl, hb⟩
  have Z6 : Hid (LS w [(w1.heap.size, w2.heap.size, fun V : World => V.ownsRow w1.heap.size 48 7 (.slice (some ⟨ga0, 0, none⟩) s0.length s0.length) s0.length (s0.flatMap jbC)), (Ka, Ka + 1, fun V : World => V.heap[Ka]? = some (Obj.cells #[.int .i64 C0, .int .i64 C1] 31)), (Va.heap.size, w4.heap.size, fun V : World => V.ownsRow Va.heap.size 48 7 (.slice (some ⟨x0, 0, none⟩) s0.length s0.length) s0.length (s0.flatMap jbC))] w5) := Z5.out.next hb
  clear Z5 hb
  have kva := Z6.out.get 1 rfl
  have cva_0 : w5.cell? ⟨Ka, 0, none⟩ = some (.int .i64 C0) := cellOf kva 0 rfl
  have cva_1 : w5.cell? ⟨Ka, 1, none⟩ = some (.int .i64 C1) := cellOf kva 1 rfl
  have lva : Ka < w5.heap.size := ltOf kva
  clear kva
  have Z7 : Hid (LS w [(w1.heap.size, w2.heap.size, fun V : World => V.ownsRow w1.heap.size 48 7 (.slice (some ⟨ga0, 0, none⟩) s0.length s0.length) s0.length (s0.flatMap jbC)), (Ka, Ka + 1, fun V : World => V.heap[Ka]? = some (Obj.cells #[.int .i64 C0, .int .i64 C1] 31)), (Va.heap.size, w4.heap.size, fun V : World => V.ownsRow Va.heap.size 48 7 (.slice (some ⟨x0, 0, none⟩) s0.length s0.length) s0.length (s0.flatMap jbC)), (w5.heap.size, w5.heap.size + 1, fun V : World => V.heap[w5.heap.size]? = some (Obj.cells #[.int .i64 C0, .int .i64 C1] 31))] (w5.alloc (Obj.cells #[.int .i64 C0, .int .i64 C1] 31))) := Z6.out.push (by (repeat' (first | (with_reducible exact Below.refl _ _) | (with_reducible assumption) | (with_reducible refine Below.setCell ?_ ?_ _) | (with_reducible refine Below.alloc ?_ ?_ _) | (with_reducible refine below_drewN ?_ _) | (with_reducible refine Below.drew ?_) | (with_reducible exact Nat.le_refl _) | omega | (simp; done) | (simp; omega)))) (Ow.block (heap_alloc_new _ _)) (Nat.le_refl _)
  clear Z6
  go_wp2_with (fail)
  obtain ⟨Vg, hV⟩ : ∃ V, V = w5.alloc (Obj.cells #[.int .i64 C0, .int .i64 C1] 31) := ⟨_, rfl⟩
  rw [← hV] at Z7 ⊢
  obtain ⟨Kg, hK⟩ : ∃ K, K = w5.heap.size := ⟨_, rfl⟩
  rw [← hK] at Z7  ⊢
  clear hV hK
  clear cva_0 cva_1 lva
  refine (eqShapeInt_to C0 C1 _).mono ?_
  rintro e w6 ⟨rfl, hb⟩
  have Z8 : Hid (LS w [(w1.heap.size, w2.heap.size, fun V : World => V.ownsRow w1.heap.size 48 7 (.slice (some ⟨ga0, 0, none⟩) s0.length s0.length) s0.length (s0.flatMap jbC)), (Ka, Ka + 1, fun V : World => V.heap[Ka]? = some (Obj.cells #[.int .i64 C0, .int .i64 C1] 31)), (Va.heap.size, w4.heap.size, fun V : World => V.ownsRow Va.heap.size 48 7 (.slice (some ⟨x0, 0, none⟩) s0.length s0.length) s0.length (s0.flatMap jbC)), (Kg, Kg + 1, fun V : World => V.heap[Kg]? = some (Obj.cells #[.int .i64 C0, .int .i64 C1] 31))] w6) := Z7.out.next hb
  clear Z7 hb
  go_wp2_with (fail)
  refine (toJobS_any HL0.out (HR0.out.below Z8.out.bl)).mono ?_
  rintro e w7 ⟨e0, rfl, ho, hb⟩
  have Z9 : Hid (LS w [(w1.heap.size, w2.heap.size, fun V : World => V.ownsRow w1.heap.size 48 7 (.slice (some ⟨ga0, 0, none⟩) s0.length s0.length) s0.length (s0.flatMap jbC)), (Ka, Ka + 1, fun V : World => V.heap[Ka]? = some (Obj.cells #[.int .i64 C0, .int .i64 C1] 31)), (Va.heap.size, w4.heap.size, fun V : World => V.ownsRow Va.heap.size 48 7 (.slice (some ⟨x0, 0, none⟩) s0.length s0.length) s0.length (s0.flatMap jbC)), (Kg, Kg + 1, fun V : World => V.heap[Kg]? = some (Obj.cells #[.int .i64 C0, .int .i64 C1] 31)), (w6.heap.size, w7.heap.size, fun V : World => V.ownsRow w6.heap.size 48 7 (.slice (some ⟨e0, 0, none⟩) s0.length s0.length) s0.length (s0.flatMap jbC))] w7) := Z8.out.push hb (Ow.rowAll ho hb) (Nat.le_refl _)
  clear Z8 hb ho
  go_wp2_with (fail)
  refine (eqJobS_same (by have := HL0.out; omega) (OG.rg (T := 48) (B := Va.heap.size) jbC_len (show w7.ownsRow Va.heap.size 48 7 (.slice (some ⟨x0, 0, none⟩) s0.length s0.length) s0.length (s0.flatMap jbC) from Z9.out.get 2 rfl)) (OG.rg (T := 48) (B := w6.heap.size) jbC_len (show w7.ownsRow w6.heap.size 48 7 (.slice (some ⟨e0, 0, none⟩) s0.length s0.length) s0.length (s0.flatMap jbC) from Z9.out.get 4 rfl))).mono ?_
  rintro e w8 ⟨rfl, hb⟩
  have Z10 : Hid (LS w [(w1.heap.size, w2.heap.size, fun V : World => V.ownsRow w1.heap.size 48 7 (.slice (some ⟨ga0, 0, none⟩) s0.length s0.length) s0.length (s0.flatMap jbC)), (Ka, Ka + 1, fun V : World => V.heap[Ka]? = some (Obj.cells #[.int .i64 C0, .int .i64 C1] 31)), (Va.heap.size, w4.heap.size, fun V : World => V.ownsRow Va.heap.size 48 7 (.slice (some ⟨x0, 0, none⟩) s0.length s0.length) s0.length (s0.flatMap jbC)), (Kg, Kg + 1, fun V : World => V.heap[Kg]? = some (Obj.cells #[.int .i64 C0, .int .i64 C1] 31)), (w6.heap.size, w7.heap.size, fun V : World => V.ownsRow w6.heap.size 48 7 (.slice (some ⟨e0, 0, none⟩) s0.length s0.length) s0.length (s0.flatMap jbC))] w8) := Z9.out.next hb
  clear Z9 hb
  go_wp2
  go_returns
  exact ⟨rfl, Z10.out.bl⟩

set_option maxRecDepth 100000 in
theorem pj22_lifted (os : Os) (started : os.Started) (H : Type) (enc : TypeId × Value → H) :
    ReturnsInHanded {} Try.checked os 6 .any (Rows.fnExactPickJobSpec.pre6 enc Try.prog Try.f6 Rows.fnExactPickJobRow.domain false) (Rows.fnExactPickJobSpec.post enc Try.prog Try.f6 false true false false) := by
  refine returnsInHanded_of_change (C := Try.checked) own started (by kernel_rfl) Try.func6
    (ChangeSpec.witness6 (enc := enc) (C := Try.checked) false ⟨#[], #[.slice none 0 0, .int .i64 0, .int .i64 0], []⟩ 8 (by kernel_rfl) (by kernel_rfl) (by kernel_rfl) (by kernel_rfl)) ?_
  intro W base args ds gs before hval0 hW hcnd _
  have hval : ∀ (j : Nat) t v, Try.f6.params[j]? = some t → args[j]? = some v → Value.okWide Try.prog W .any base t v := hval0
  have hW' := hW
  obtain ⟨p, q, hA0, hV, rfl, hfz, hnd⟩ := hW
  have hA : DataW.TrodAll enc Try.prog W 0 (fun _ => true) true Try.f6.params.toList args.toList ds p := hA0
  rw [Try.params6] at hA hval
  obtain ⟨v0, vs0, d0, ds0, p0, q0, hargs, rfl, rfl, h0, r0⟩ := trodAll_cons hA
  obtain ⟨v1, vs1, d1, ds1, p1, q1, rfl, rfl, rfl, h1, r1⟩ := trodAll_cons r0
  obtain ⟨v2, vs2, d2, ds2, p2, q2, rfl, rfl, rfl, h2, r2⟩ := trodAll_cons r1
  obtain ⟨rfl, rfl, rfl⟩ := trodAll_nil r2
  obtain rfl : args = #[v0, v1, v2] := by cases args; simp_all
  obtain ⟨rfl, rfl⟩ := trodVars_none hV
  have k0 := h0
  have lt0 : ∀ x ∈ p0, x.block < W.heap.size := by obtain ⟨m, hm⟩ := k0; exact DataW.trod_lt m _ _ _ hm
  obtain ⟨sa0, sn0, sc0, s0, rfl, rb0, sl0⟩ := jobs_open (hval 0 22 v0 rfl rfl) h0
  obtain ⟨n1, rfl, rfl, rfl, wn1⟩ := open_int Try.underlying2 (hval 1 2 v1 rfl rfl) h1
  obtain ⟨n2, rfl, rfl, rfl, wn2⟩ := open_int Try.underlying2 (hval 2 2 v2 rfl rfl) h2
  clear hA0 hval0
  refine (law_pj22 s0 sl0 rb0 n1 n2).mono fun e W' ⟨he, hg⟩ => ?_
  subst he
  exact ⟨_, rfl, _, _, _, [], _, [], hW', trodAll_mk1 (shut_bool Try.underlying4 _), (trodAll_cons_mk (Below.trod laidOut (by kernel_rfl) (of_decide_eq_true (by kernel_rfl)) k0 hg lt0) (trodAll_cons_mk (shut_int Try.underlying2 wn1) (trodAll_cons_mk (shut_int Try.underlying2 wn2) trodAll_mk0))), rfl, hg.frame _, fun h => by cases h⟩

theorem pj22_over : Rows.fnExactPickJobRow.holds Try.pinned (OpenSpec.ofChange Rows.fnExactPickJobSpec) :=
  OpenClaim.holds_of_wide 6 Try.f6 rfl rfl rfl rfl rfl rfl rfl ⟨rfl, rfl, rfl, rfl, rfl⟩ rfl rfl rfl rfl rfl (by kernel_rfl) Try.func6 (by kernel_rfl)
    (of_decide_eq_true (by kernel_rfl)) (by unfold Func.isWrapper; first | (rw [if_pos (by decide +kernel)]; kernel_rfl) | (rw [if_neg (by decide +kernel)]; exact ⟨rfl, rfl⟩))
    (fun os started H enc _ => pj22_lifted os started H enc)

theorem pj22_proved : Rows.FnExactPickJobSaid :=
  pj22_over
#print axioms pj22_proved

end Go.Proofs.Ytecobfhlpjlpkaa
