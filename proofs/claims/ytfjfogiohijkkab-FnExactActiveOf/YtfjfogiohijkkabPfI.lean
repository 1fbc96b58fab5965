/- Proved here: ProfileFault of the program. -/
import Derived.Test.YtfjfogiohijkkabPfX
namespace Go.Proofs.Ytfjfogiohijkkab
open Go.RowKit Go.Shelf
set_option linter.unusedVariables false
set_option linter.unusedSimpArgs false
attribute [local go_sem] Oper.semAt_some

set_option maxRecDepth 100000 in
set_option maxHeartbeats 12800000 in
theorem impl_pf (o : Int) {W : World} {v : Value} {s : List Int} (hn : s.length ≤ 1048576) (h : RdI W v s) :
    Calls Try.prog 21 #[.agg #[v, .int .i64 o]] W fun e w' => e = .returned (.int .i64 (pfC s o)) ∧ Below W.heap.size W w' := by
  obtain ⟨ua, uc, rfl⟩ := h.form
  obtain ⟨n, hnn⟩ : ∃ n, n = s.length := ⟨_, rfl⟩
  rw [← hnn] at h hn ⊢
  have HN : Hid (n = s.length) := hnn
  have H : Hid (RdI W (.slice ua n uc) s) := h
  obtain ⟨C, hC⟩ : ∃ C, C = pfC s o := ⟨_, rfl⟩
  rw [← hC]
  by_cases h0 : n = 0
  · have e : C = 1 := by rw [hC]; exact pfC_0 (by omega)
    subst e
    clear hC hnn h
    subst h0
    go_enter Try.func21, Try.ntmps21
    go_wp2
    go_returns
    exact ⟨rfl, by (repeat' (first | (with_reducible exact Below.refl _ _) | (with_reducible assumption) | (with_reducible refine Below.setCell ?_ ?_ _) | (with_reducible refine Below.alloc ?_ ?_ _) | (with_reducible refine below_drewN ?_ _) | (with_reducible refine Below.drew ?_) | (with_reducible exact Nat.le_refl _) | omega | (simp; done) | (simp; omega)))⟩
  have b0 : ¬ (n : Int) = 0 := by omega
  have b1 : ((n : Int) == 0) = false := by simpa using b0
  by_cases h1 : 40 < n
  · have e : C = 2 := by rw [hC]; exact pfC_many (by omega)
    subst e
    have b2 : (40 : Int) < (n : Int) := by omega
    clear hC hnn h
    go_enter Try.func21, Try.ntmps21
    go_wp2
    go_returns
    exact ⟨rfl, by (repeat' (first | (with_reducible exact Below.refl _ _) | (with_reducible assumption) | (with_reducible refine Below.setCell ?_ ?_ _) | (with_reducible refine Below.alloc ?_ ?_ _) | (with_reducible refine below_drewN ?_ _) | (with_reducible refine Below.drew ?_) | (with_reducible exact Nat.le_refl _) | omega | (simp; done) | (simp; omega)))⟩
  have b2 : ¬ (40 : Int) < (n : Int) := by omega
  have HC : Hid (C = pfC s o ∧ s.length ≠ 0 ∧ ¬ 40 < s.length) := ⟨hC, by omega, by omega⟩
  clear hC hnn h h0
  refine (callsIn_wide (n := 4)).1 ?_
  refine callsIn_of_wp_marks Try.func21 rfl trivial ?_ rfl
  simp only [Try.ntmps21, List.size_toArray, List.length_cons, List.length_nil, Nat.reduceAdd, Nat.reduceSub, Array.replicate_succ, Array.replicate_zero, List.push_toArray, List.append_toArray, List.nil_append, List.cons_append]
  gi_wp2_with (fail)
  refine ⟨trivial, (callsIn_wide.2 (dp_fn _ _ _ _ _)).mono ?_⟩
  rintro e w2 ⟨rfl, rfl⟩
  obtain ⟨k0, hk0⟩ : ∃ k, k = W.heap.size := ⟨_, rfl⟩
  obtain ⟨V, hV⟩ : ∃ V, V = ((W.alloc (.cells #[.slice ua n uc, .int .i64 o] 29)).alloc (.cells #[.int .i64 0] 2)).alloc (.cells #[.slice ua n uc, .int .i64 o] 29) := ⟨_, rfl⟩
  have HE0 : Hid (BB W [(k0, .cells #[.slice ua n uc, .int .i64 o] 29), (k0 + 1, .cells #[.int .i64 0] 2)] (k0 + 3) V) := by
    refine ⟨?_, by simp; omega, by simp, by rw [hV]; (repeat' (first | (with_reducible exact Below.refl _ _) | (with_reducible assumption) | (with_reducible refine Below.setCell ?_ ?_ _) | (with_reducible refine Below.alloc ?_ ?_ _) | (with_reducible refine below_drewN ?_ _) | (with_reducible refine Below.drew ?_) | (with_reducible exact Nat.le_refl _) | omega | (simp; done) | (simp; omega))), by rw [hV, hk0]; simp⟩
    intro p hp
    rw [hV, hk0] at *
    simp only [List.mem_cons, List.not_mem_nil, or_false] at hp
    rcases hp with rfl | rfl
    · exact (Below.heap_alloc _ _ _ (by simp; omega)).trans ((Below.heap_alloc _ _ _ (by simp)).trans (heap_alloc_new W _))
    · refine (Below.heap_alloc _ _ _ (by simp)).trans ?_
      have := heap_alloc_new (W.alloc (.cells #[.slice ua n uc, .int .i64 o] 29)) (.cells #[.int .i64 0] 2)
      simpa using this
  have HBs : Hid (V.heap[k0 + 2]? = some (.cells #[.slice ua n uc, .int .i64 o] 29)) := by
    unfold Hid
    rw [hV, hk0, show W.heap.size + 2 = W.heap.size + 1 + 1 from rfl]
    have := heap_alloc_new ((W.alloc (.cells #[.slice ua n uc, .int .i64 o] 29)).alloc (.cells #[.int .i64 0] 2)) (.cells #[.slice ua n uc, .int .i64 o] 29)
    simpa using this
  have HV : Hid (V.heap.size = k0 + 3 ∧ W.heap.size = k0) := ⟨by rw [hV, hk0]; simp, hk0.symm⟩
  gi_wp2_with (fail)
  rw [← hV, ← hk0]
  clear hV hk0
  refine wpIn_rangeFunc_ownG (α := Dp s) (w := V) rfl (by omega) (gf := 32) (lb := #[.pointer (some ⟨k0 + 2, 0, none⟩)]) rfl trivial (enters_of Try.func32 (by kernel_rfl) rfl)
    (dp_stops Fence.wide 3 trivial rfl (by omega) (k0 + 2) k0 uc n o ua s HN.out hn V HBs.out (by have := HV.out; omega) (fun W' h' => H.out.below (HE0.out.bl.trans (by rw [HV.out.2]; exact h'))))
    belowK_t (belowK_b (by have := HV.out; omega)) (Below.refl _ _) (fun _ => rfl)
    (fun pre wr => Hid (BB W [(k0, .cells #[.slice ua n uc, .int .i64 o] 29), (k0 + 1, .cells #[.int .i64 0] 2)] (k0 + 3) wr ∧ ∀ x ∈ pre, inA x.1.2 = true))
    (fun cc pre wr => cc = .ret ∧ Hid (BB W [(k0, .cells #[.slice ua n uc, .int .i64 o] 29), (k0 + 1, .cells #[.int .i64 3] 2)] (k0 + 3) wr ∧ C = 3))
    ?hI ?hIx ?h0 ?a1 ?assign ?body ?done ?stop
  case assign =>
    intro l x A K hK
    unfold dpE
    gi_wp2
    exact hK
  case hI =>
    rintro pre A B row hx hg hr
    exact ⟨hx.out.1.own (by have := HV.out; omega) (by have := HV.out; omega) hg hr, hx.out.2⟩
  case hIx =>
    rintro cc pre A B row ⟨rfl, hx⟩ hg hr
    exact ⟨rfl, hx.out.1.own (by have := HV.out; omega) (by have := HV.out; omega) hg hr, hx.out.2⟩
  case h0 => exact ⟨HE0.out, by simp⟩
  case body =>
    rintro l pre y A hx hlt
    obtain ⟨x, hxx⟩ : ∃ x, x = y.1.2 := ⟨_, rfl⟩
    obtain ⟨r, hr⟩ : ∃ r, r = inA x := ⟨_, rfl⟩
    have HR : Hid (r = inA x ∧ y.1.1 < s.length ∧ x = s.getD y.1.1 0 ∧ x = y.1.2) := ⟨hr, y.2.1, by rw [hxx]; exact y.2.2, hxx⟩
    rw [← hxx]
    clear hr hlt hxx
    have k1 := cellOf (hx.out.1.at 1 rfl) 0 rfl
    have k1f := frozOf (hx.out.1.at 1 rfl) 0
    have k1l := ltOf (hx.out.1.at 1 rfl)
    gi_wp2_with (fail)
    refine ⟨trivial, (CallsIn.inRound l (callsIn_wide.2 (impl_ins x 0 1000000000 r HR.out.1 _))).mono ?_⟩
    rintro e w3 ⟨rfl, rfl⟩
    cases r with
    | true =>
      gi_wp2
      refine ⟨KeepsFrom.refl _ _, Below.refl _ _, hx.out.1, ?_⟩
      intro y hy
      rcases List.mem_append.1 hy with h1 | h1
      · exact hx.out.2 y h1
      · rw [List.mem_singleton.1 h1, ← HR.out.2.2.2]; exact HR.out.1.symm
    | false =>
      gi_wp2
      refine ⟨(KeepsOthers.setCell _ _ _).from _, rfl, hx.out.1.set 1 0 rfl (.int .i64 3), ?_⟩
      rw [HC.out.1]
      exact pfC_at HC.out.2.1 HC.out.2.2 HR.out.2.1 (by rw [← HR.out.2.2.1]; exact HR.out.1.symm)
  case done =>
    rintro D xs A hD hS hx hK
    have k0c := cellOf (hx.out.1.at 0 rfl) 1 rfl
    have k0l := ltOf (hx.out.1.at 0 rfl)
    have k1 := cellOf (hx.out.1.at 1 rfl) 0 rfl
    have k1f := frozOf (hx.out.1.at 1 rfl) 0
    have k1l := ltOf (hx.out.1.at 1 rfl)
    obtain ⟨r, hr⟩ : ∃ r, r = inA o := ⟨_, rfl⟩
    have HR : Hid (r = inA o) := hr
    have HCr : Hid (C = if r = true then 0 else 3) := by
      unfold Hid
      rw [HC.out.1]
      cases r with
      | true => exact pfC_good HC.out.2.1 HC.out.2.2 (fun i hi => hx.out.2 _ (by rw [hS]; exact dpL_mem hi)) hr.symm
      | false => exact pfC_out HC.out.2.1 HC.out.2.2 hr.symm
    clear hr hS
    gi_wp2_with (fail)
    refine ⟨trivial, (callsIn_wide.2 (impl_ins o 0 1000000000 r HR.out _)).mono ?_⟩
    rintro e w3 ⟨rfl, rfl⟩
    cases r with
    | true =>
      obtain rfl : C = 0 := HCr.out
      gi_wp2
      have hK2 := (KeepsOthers.setCell w3 ⟨k0 + 1, 0, none⟩ (.int .i64 0)).same D _ hK rfl
      have q1 := (hx.out.1.set 1 0 rfl (.int .i64 0))
      have q2 := q1.own (B := V.heap.size) (by have := HV.out; omega) (by have := HV.out; omega) (grownBy_putObj' _ D (.deferred none)) (fun r e => by cases e; exact ⟨hD, _, hK2, rfl⟩)
      have t0 := cellOf (q2.at 1 rfl) 0 rfl
      refine ⟨by simp, .inl ⟨_, _, rfl, run_takeDeferred hK2, ?_⟩⟩
      exact ⟨_, (by simp [results, Try.results21, go_sem, t0]), rfl, q2.bl⟩
    | false =>
      obtain rfl : C = 3 := HCr.out
      gi_wp2
      have hK2 := (KeepsOthers.setCell w3 ⟨k0 + 1, 0, none⟩ (.int .i64 3)).same D _ hK rfl
      have q1 := (hx.out.1.set 1 0 rfl (.int .i64 3))
      have q2 := q1.own (B := V.heap.size) (by have := HV.out; omega) (by have := HV.out; omega) (grownBy_putObj' _ D (.deferred none)) (fun r e => by cases e; exact ⟨hD, _, hK2, rfl⟩)
      have t0 := cellOf (q2.at 1 rfl) 0 rfl
      refine ⟨by simp, .inl ⟨_, _, rfl, run_takeDeferred hK2, ?_⟩⟩
      exact ⟨_, (by simp [results, Try.results21, go_sem, t0]), rfl, q2.bl⟩
  case stop =>
    rintro D cc pre A hD hS ⟨rfl, hx⟩ hK
    obtain rfl : C = 3 := hx.out.2
    gi_wp2
    have q2 := hx.out.1.own (B := V.heap.size) (by have := HV.out; omega) (by have := HV.out; omega) (grownBy_putObj' _ D (.deferred none)) (fun r e => by cases e; exact ⟨hD, _, hK, rfl⟩)
    have t0 := cellOf (q2.at 1 rfl) 0 rfl
    refine ⟨by simp, .inl ⟨_, _, rfl, run_takeDeferred hK, ?_⟩⟩
    exact ⟨_, (by simp [results, Try.results21, go_sem, t0]), rfl, q2.bl⟩

end Go.Proofs.Ytfjfogiohijkkab
