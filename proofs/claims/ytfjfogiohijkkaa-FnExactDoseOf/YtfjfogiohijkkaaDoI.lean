/- Proved here: DoseOf of the program. -/
import Derived.Test.YtfjfogiohijkkaaPfX
import Derived.Test.YtfjfogiohijkkaaPfI
import Derived.Test.YtfjfogiohijkkaaDoM
namespace Go.Proofs.Ytfjfogiohijkkaa
open Go.RowKit Go.Shelf
set_option linter.unusedVariables false
set_option linter.unusedSimpArgs false
attribute [local go_sem] Oper.semAt_some

set_option maxRecDepth 100000 in
set_option maxHeartbeats 12800000 in
theorem impl_dose (o : Int) {W : World} {v : Value} {s : List Int} (hn : s.length ≤ 1048576) (h : RdI W v s) :
    Calls Try.prog 15 #[.agg #[v, .int .i64 o]] W fun e w' => e = .returned (.agg #[.int .i64 (pfC s o), .int .i64 (doV s o)]) ∧ Below W.heap.size W w' := by
  obtain ⟨ua, uc, rfl⟩ := h.form
  obtain ⟨n, hnn⟩ : ∃ n, n = s.length := ⟨_, rfl⟩
  rw [← hnn] at h hn ⊢
  have HN : Hid (n = s.length) := hnn
  have H : Hid (RdI W (.slice ua n uc) s) := h
  obtain ⟨C, hC⟩ : ∃ C, C = pfC s o := ⟨_, rfl⟩
  rw [← hC]
  have HP : Hid (∀ V, Below W.heap.size W V → Calls Try.prog 12 #[.agg #[.slice ua n uc, .int .i64 o]] V fun e w' => e = .returned (.int .i64 C) ∧ Below V.heap.size V w') := fun V hV => by
    have := impl_pf o (by rw [← HN.out]; exact hn) (H.out.below hV)
    rwa [← hC] at this
  have HDV : Hid (C ≠ 0 → doV s o = 0) := fun h9 => by rw [doV, if_neg (by rw [← hC]; exact h9)]
  obtain ⟨DV, hDV⟩ : ∃ x, x = doV s o := ⟨_, rfl⟩
  rw [← hDV] at HDV ⊢
  by_cases h0 : C ≠ 0
  · have hC2 : (C != 0) = true := by simpa using h0
    have hD0 : DV = 0 := HDV.out h0
    clear hDV hC hnn h
    subst hD0
    go_enter Try.func15, Try.ntmps15
    go_wp2_with (fail)
    refine (HP.out _ (by (repeat' (first | (with_reducible exact Below.refl _ _) | (with_reducible assumption) | (with_reducible refine Below.setCell ?_ ?_ _) | (with_reducible refine Below.alloc ?_ ?_ _) | (with_reducible refine below_drewN ?_ _) | (with_reducible refine Below.drew ?_) | (with_reducible exact Nat.le_refl _) | omega | (simp; done) | (simp; omega))))).mono ?_
    rintro e w1 ⟨rfl, hb1⟩
    have HB : Hid (BB W [(W.heap.size, .cells #[.slice ua n uc, .int .i64 o] 27), (W.heap.size + 1, .cells #[.int .i64 0, .int .i64 0] 32)] (W.heap.size + 2) w1) := (((BB.start W).push rfl _).push (k := W.heap.size + 1) (by simp) _).grow hb1 (by omega) (by have := hb1.size; simpa using this)
    clear hb1
    obtain ⟨k0, hk0⟩ : ∃ k, k = W.heap.size := ⟨_, rfl⟩
    rw [← hk0] at HB ⊢
    have t0 := cellOf (HB.out.at 1 rfl) 0 rfl
    have t1 := cellOf (HB.out.at 1 rfl) 1 rfl
    have f0 := frozOf (HB.out.at 1 rfl) 0
    have f1 := frozOf (HB.out.at 1 rfl) 1
    have tl := ltOf (HB.out.at 1 rfl)
    have q2 := (HB.out.set 1 0 rfl (.int .i64 C)).set 1 1 rfl (.int .i64 0)
    have u0 := cellOf (q2.at 1 rfl) 0 rfl
    have u1 := cellOf (q2.at 1 rfl) 1 rfl
    have QB : Hid _ := q2.bl
    clear q2 hk0
    go_wp2
    refine bodyPost_ret (by simp [results, Try.results15, go_sem, u0, u1]) rfl ⟨rfl, QB.out⟩
  have h0' : C = 0 := by simpa using h0
  have HG : Hid (PG s o) := pfC_ok (by rw [← hC]; exact h0')
  have HVV : Hid (DV = o + suL s) := by unfold Hid; rw [hDV, doV, if_pos (by rw [← hC]; exact h0')]
  subst h0'
  clear hC hDV h hnn h0 HDV
  refine (callsIn_wide (n := 4)).1 ?_
  refine callsIn_of_wp_marks Try.func15 rfl trivial ?_ rfl
  simp only [Try.ntmps15, List.size_toArray, List.length_cons, List.length_nil, Nat.reduceAdd, Nat.reduceSub, Array.replicate_succ, Array.replicate_zero, List.push_toArray, List.append_toArray, List.nil_append, List.cons_append]
  gi_wp2_with (fail)
  refine ⟨trivial, (callsIn_wide.2 (HP.out _ (by (repeat' (first | (with_reducible exact Below.refl _ _) | (with_reducible assumption) | (with_reducible refine Below.setCell ?_ ?_ _) | (with_reducible refine Below.alloc ?_ ?_ _) | (with_reducible refine below_drewN ?_ _) | (with_reducible refine Below.drew ?_) | (with_reducible exact Nat.le_refl _) | omega | (simp; done) | (simp; omega)))))).mono ?_⟩
  rintro e w1 ⟨rfl, hb1⟩
  have HB : Hid (BB W [(W.heap.size, .cells #[.slice ua n uc, .int .i64 o] 27), (W.heap.size + 1, .cells #[.int .i64 0, .int .i64 0] 32)] (W.heap.size + 2) w1) := (((BB.start W).push rfl _).push (k := W.heap.size + 1) (by simp) _).grow hb1 (by omega) (by have := hb1.size; simpa using this)
  clear hb1 HP
  obtain ⟨k0, hk0⟩ : ∃ k, k = W.heap.size := ⟨_, rfl⟩
  rw [← hk0] at HB ⊢
  have HK : Hid (k0 = W.heap.size) := hk0
  clear hk0
  have a0 := cellOf (HB.out.at 0 rfl) 0 rfl
  have a1 := cellOf (HB.out.at 0 rfl) 1 rfl
  have al := ltOf (HB.out.at 0 rfl)
  gi_wp2_with (fail)
  obtain ⟨k2, hk2⟩ : ∃ k, k = w1.heap.size := ⟨_, rfl⟩
  have HB2 : Hid (BB W [(k0, .cells #[.slice ua n uc, .int .i64 o] 27), (k0 + 1, .cells #[.int .i64 0, .int .i64 0] 32), (k2, .cells #[.int .i64 o] 2)] (k2 + 1) (w1.alloc (.cells #[.int .i64 o] 2))) := HB.out.push hk2 _
  rw [← hk2]
  obtain ⟨w2, hw2⟩ : ∃ w, w = w1.alloc (.cells #[.int .i64 o] 2) := ⟨_, rfl⟩
  have hs2 : w2.heap.size = k2 + 1 := by rw [hw2, hk2]; simp
  rw [← hw2] at HB2 ⊢
  clear hw2 hk2 a0 a1 al HB
  refine ⟨trivial, (callsIn_wide.2 (dp_fn _ _ _ _ _)).mono ?_⟩
  rintro e w3 ⟨rfl, rfl⟩
  obtain ⟨V, hV⟩ : ∃ V, V = w2.alloc (.cells #[.slice ua n uc, .int .i64 o] 27) := ⟨_, rfl⟩
  have HE : Hid (BB W [(k0, .cells #[.slice ua n uc, .int .i64 o] 27), (k0 + 1, .cells #[.int .i64 0, .int .i64 0] 32), (k2, .cells #[.int .i64 o] 2)] (k2 + 2) V) := by
    rw [hV]; exact HB2.out.grow (by (repeat' (first | (with_reducible exact Below.refl _ _) | (with_reducible assumption) | (with_reducible refine Below.setCell ?_ ?_ _) | (with_reducible refine Below.alloc ?_ ?_ _) | (with_reducible refine below_drewN ?_ _) | (with_reducible refine Below.drew ?_) | (with_reducible exact Nat.le_refl _) | omega | (simp; done) | (simp; omega)))) (by omega) (by simp; omega)
  have HBs : Hid (V.heap[k2 + 1]? = some (.cells #[.slice ua n uc, .int .i64 o] 27)) := by unfold Hid; rw [hV, ← hs2]; exact heap_alloc_new _ _
  have HV : Hid (V.heap.size = k2 + 2 ∧ W.heap.size ≤ k2) := ⟨by rw [hV]; simp; omega, by have := (HB2.out.lo _ (List.mem_of_getElem? (i := 2) rfl)).1; exact this⟩
  gi_wp2_with (fail)
  rw [← hV]
  clear hV hs2 HB2
  refine wpIn_rangeFunc_ownG (α := Dp s) (w := V) rfl (by omega) (gf := 46) (lb := #[.pointer (some ⟨k2 + 1, 0, none⟩)]) rfl trivial (enters_of Try.func46 (by kernel_rfl) rfl)
    (dp_stops Fence.wide 3 trivial rfl (by omega) (k2 + 1) W.heap.size uc n o ua s HN.out hn V HBs.out (by have := HV.out; omega) (fun W' h' => H.out.below (HE.out.bl.trans h')))
    belowK_t (belowK_b (by have := HV.out; omega)) (Below.refl _ _) (fun _ => rfl)
    (fun pre wr => Hid (BB W [(k0, .cells #[.slice ua n uc, .int .i64 o] 27), (k0 + 1, .cells #[.int .i64 0, .int .i64 0] 32), (k2, .cells #[.int .i64 (o + suD pre)] 2)] (k2 + 2) wr))
    (fun cc pre wr => False)
    ?hI ?hIx ?h0 ?a1 ?assign ?body ?done ?stop
  case assign =>
    intro l x A K hK
    unfold dpE
    gi_wp2
    exact hK
  case hI =>
    rintro pre A B row hx hg hr
    exact hx.out.own (by have := HV.out; omega) (by have := HV.out; omega) hg hr
  case hIx =>
    rintro cc pre A B row hx hg hr
    exact hx
  case h0 => show Hid _; unfold Hid; have := HE.out; simpa [suD] using this
  case body =>
    rintro l pre y A hx hlt
    obtain ⟨x, hxx⟩ : ∃ x, x = y.1.2 := ⟨_, rfl⟩
    obtain ⟨S, hS⟩ : ∃ S, S = o + suD pre := ⟨_, rfl⟩
    have hb0 := suD_bd HG.out.c pre
    have hb1 := HG.out.c y.1.1
    rw [← y.2.2, ← hxx] at hb1
    have hb2 := HG.out.o0
    have hb3 := HG.out.len
    have k1 : IntKind.i64.wrap (S + x) = S + x := by rw [IntKind.wrap_i64]; omega
    have c2 : A.cell? ⟨k2, 0, none⟩ = some (.int .i64 S) := by rw [hS]; exact cellOf (hx.out.at 2 rfl) 0 rfl
    have c2f := frozOf (hx.out.at 2 rfl) 0
    have c2l := ltOf (hx.out.at 2 rfl)
    have HR : Hid (BB W [(k0, .cells #[.slice ua n uc, .int .i64 o] 27), (k0 + 1, .cells #[.int .i64 0, .int .i64 0] 32), (k2, .cells #[.int .i64 (o + suD (pre ++ [y]))] 2)] (k2 + 2) (A.setCell ⟨k2, 0, none⟩ (.int .i64 (S + x)))) := by
      rw [suD_snoc, ← Int.add_assoc, ← hS, ← hxx]
      exact hx.out.set 2 0 rfl (.int .i64 (S + x))
    rw [← hxx]
    clear hxx hS hx hb0 hb1 hb2 hb3
    gi_wp2
    exact ⟨(KeepsOthers.setCell _ _ _).from _, (Below.refl _ _).setCell (p := ⟨k2, 0, none⟩) HV.out.2 _, HR.out⟩
  case done =>
    rintro D xs A hD hS hx hK
    have hx2 : BB W [(k0, .cells #[.slice ua n uc, .int .i64 o] 27), (k0 + 1, .cells #[.int .i64 0, .int .i64 0] 32), (k2, .cells #[.int .i64 DV] 2)] (k2 + 2) A := by
      have := hx.out
      rwa [hS, suD_all, ← HVV.out] at this
    clear hx hS
    have HX : Hid _ := hx2
    have c2 := cellOf (hx2.at 2 rfl) 0 rfl
    have c2l := ltOf (hx2.at 2 rfl)
    have t0 := cellOf (hx2.at 1 rfl) 0 rfl
    have t1 := cellOf (hx2.at 1 rfl) 1 rfl
    have f0 := frozOf (hx2.at 1 rfl) 0
    have f1 := frozOf (hx2.at 1 rfl) 1
    have tl := ltOf (hx2.at 1 rfl)
    have q1 := (hx2.set 1 0 rfl (.int .i64 0)).set 1 1 rfl (.int .i64 DV)
    have hK2 := (KeepsOthers.setCell (A.setCell ⟨k0 + 1, 0, none⟩ (.int .i64 0)) ⟨k0 + 1, 1, none⟩ (.int .i64 DV)).same D _ ((KeepsOthers.setCell A ⟨k0 + 1, 0, none⟩ (.int .i64 0)).same D _ hK rfl) rfl
    have q2 := q1.own (B := V.heap.size) (by have := HV.out; omega) (by have := HV.out; omega) (grownBy_putObj' _ D (.deferred none)) (fun r e => by cases e; exact ⟨hD, _, hK2, rfl⟩)
    have u0 := cellOf (q2.at 1 rfl) 0 rfl
    have u1 := cellOf (q2.at 1 rfl) 1 rfl
    have QB : Hid _ := q2.bl
    clear hx2 q1 q2
    gi_wp2
    refine ⟨by simp, .inl ⟨_, _, rfl, run_takeDeferred hK2, ?_⟩⟩
    exact ⟨_, (by simp [results, Try.results15, go_sem, u0, u1]), rfl, QB.out⟩
  case stop =>
    rintro D cc pre A hD hS hx hK
    exact hx.elim

end Go.Proofs.Ytfjfogiohijkkaa
