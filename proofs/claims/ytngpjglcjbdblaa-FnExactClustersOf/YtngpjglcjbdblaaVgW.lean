/- Proved here: take of the program: one more defect. -/
import Derived.Test.YtngpjglcjbdblaaVgU
import Derived.Deep.AppendLies
import Derived.StillTail
import Derived.Deep.DeepCutAuto
namespace Go.Proofs.Ytngpjglcjbdblaa
open Go.RowKit Go.Maps
set_option linter.unusedVariables false
set_option linter.unusedSimpArgs false

theorem Chg.step {B Z : Nat} {V w w' : World} {row : Option Nat} (h : Chg B Z V w) (hg : w.grownBy w' row) (hr : ∀ g, row = some g → (B ≤ g ∧ g < Z) ∨ V.heap.size ≤ g) : Chg B Z V w' :=
  ⟨hg.os.trans h.os, hg.tape.trans h.tape, hg.output.trans h.output, Nat.le_trans h.size hg.size, fun k hk hb => (hg.block k (Nat.lt_of_lt_of_le hk h.size) (fun e => by rcases hr k e.symm with h9 | h9 <;> omega)).trans (h.block k hk hb)⟩
theorem nd_len : ∀ (k : Nat) (l : List Nat), l.Nodup → (∀ c ∈ l, c < k) → l.length ≤ k := by
  intro k
  induction k with
  | zero =>
    intro l _ h
    cases l with
    | nil => exact Nat.le_refl _
    | cons a t => exact absurd (h a List.mem_cons_self) (by omega)
  | succ k ih =>
    intro l hl h
    have h1 := ih (l.erase k) (hl.erase k) (fun c hc => by
      have h2 := (List.Nodup.mem_erase_iff hl).1 hc
      have h3 := h c h2.2
      have h4 := h2.1
      omega)
    rw [List.length_erase] at h1
    split at h1 <;> omega
theorem joinL_take (nb : Nat → Nat → Bool) (k : Nat) {cs : List Nat} {t : Nat} (h : t < cs.length) : joinL nb k (cs.take (t + 1)) = joinL nb k (cs.take t) ++ vmem (fr nb k) k cs[t] := by
  unfold joinL
  rw [List.take_succ_eq_append_getElem h, List.flatMap_append]
  simp
theorem joinL_len {nb : Nat → Nat → Bool} {k : Nat} {cs : List Nat} (hs : ∀ x y, nb x y = nb y x) (h : Fst nb k (fr nb k) cs) (t : Nat) : (joinL nb k (cs.take t)).length ≤ k + 1 := by
  have h1 := congrArg List.length (join_ord hs h)
  rw [List.length_mergeSort, up_len, up_len] at h1
  have h2 : (vmem (fr nb (k + 1)) (k + 1) (mnF nb k (fr nb k))).length ≤ k + 1 := by
    unfold vmem
    exact Nat.le_trans (List.length_filter_le _ _) (by simp)
  have h3 : (joinL nb k cs).length = (joinL nb k (cs.take t)).length + ((cs.drop t).flatMap (vmem (fr nb k) k)).length := by
    unfold joinL
    conv => lhs; rw [← List.take_append_drop t cs]
    rw [List.flatMap_append, List.length_cons, List.length_cons, List.length_append]
    omega
  omega
set_option maxRecDepth 10000 in
set_option maxHeartbeats 25600000 in
theorem impl_take {W : World} {B k n dc : Nat} {da : Option Addr} {near : Int} {s : List Dft} {nb : Nat → Nat → Bool} (hnb : nb = nbS s near) (hok : ∀ d ∈ s, Vok d) (hn : n ≤ 60) (hk : k < n) (hs : RG 4 vdC W (.slice da n dc) s) (hC : CLU W B (fr nb k) k) :
    Calls Try.prog 25 #[.map (some B), .int .i64 (k : Int), .slice da n dc, .int .i64 near] W fun e w' => e = .returned (.tuple #[]) ∧ CLU w' B (fr nb (k + 1)) (k + 1) ∧ Chg B (B + 1) W w' := by
  have hsy : ∀ x y, nb x y = nb y x := by rw [hnb]; exact nbS_sym s near
  have hlab := fr_lab hsy k
  obtain ⟨nn, f, hnn, hG0, hne⟩ := hC
  have hBW : B < W.heap.size := hG0.tm.lt
  obtain ⟨p, hp⟩ : ∃ p, p = W.heap.size := ⟨_, rfl⟩
  obtain ⟨V, hV⟩ : ∃ V, V = (((W.alloc (.cells #[.int .i64 (k : Int)] 3)).alloc (.cells #[.slice da n dc] 28)).alloc (.cells #[.int .i64 near] 2)) := ⟨_, rfl⟩
  obtain ⟨r, hr⟩ : ∃ r, r = V.heap.size := ⟨_, rfl⟩
  have bV : Below W.heap.size W V := by rw [hV]; (repeat' (first | (with_reducible exact Below.refl _ _) | (with_reducible assumption) | (with_reducible refine Below.setCell ?_ ?_ _) | (with_reducible refine Below.alloc ?_ ?_ _) | (with_reducible refine below_drewN ?_ _) | (with_reducible refine Below.drew ?_) | (with_reducible exact Nat.le_refl _) | omega | (simp; done) | (simp; omega)))
  have hNB : NB V p k n da dc near := by
    rw [hV, hp]
    refine ⟨?_, ?_, ?_⟩
    · exact (Below.heap_alloc _ _ _ (by simp; omega)).trans ((Below.heap_alloc _ _ _ (by simp)).trans (heap_alloc_new W _))
    · refine (Below.heap_alloc _ _ _ (by simp)).trans ?_
      have := heap_alloc_new (W.alloc (.cells #[.int .i64 (k : Int)] 3)) (.cells #[.slice da n dc] 28)
      simpa using this
    · have := heap_alloc_new ((W.alloc (.cells #[.int .i64 (k : Int)] 3)).alloc (.cells #[.slice da n dc] 28)) (.cells #[.int .i64 near] 2)
      simpa using this
  have hG := hG0.below bV
  have HG : Hid (GM 3 1 inC V 3 B (B + 1) nn f (vgm (fr nb k) k) ∧ ∀ q u, f q = some u → vgm (fr nb k) k q ≠ []) := ⟨hG, hne⟩
  have HT5 : TM (((W.alloc (.cells #[.int .i64 (k : Int)] 3)).alloc (.cells #[.slice da n dc] 28)).alloc (.cells #[.int .i64 near] 2)) 3 B nn f := by rw [← hV]; exact hG.tm
  have HW : Hid (Below W.heap.size W V ∧ B < W.heap.size ∧ RG 4 vdC V (.slice da n dc) s ∧ NB V p k n da dc near ∧ p = W.heap.size ∧ W.heap.size ≤ r ∧ nb = nbS s near) := ⟨bV, hBW, hs.below bV, hNB, hp, by rw [hr]; exact bV.size, hnb⟩
  have HOK : Hid ((∀ d ∈ s, Vok d) ∧ (∀ x y, nb x y = nb y x) ∧ (∀ i, i < k → fr nb k i ≤ i)) := ⟨hok, hsy, hlab.le⟩
  have HV : Hid (V = (((W.alloc (.cells #[.int .i64 (k : Int)] 3)).alloc (.cells #[.slice da n dc] 28)).alloc (.cells #[.int .i64 near] 2)) ∧ r = V.heap.size ∧ p = W.heap.size) := ⟨hV, hr, hp⟩
  have HVR : Hid (r = V.heap.size) := hr
  have hp1 : W.heap.size + 1 + 1 = p + 2 := by omega
  have hp2 : W.heap.size + 1 = p + 1 := by omega
  have hp3 : W.heap.size = p := by omega
  clear hG0 hne bV hNB hG hs hok hsy hlab hBW hnb hV hr hp
  go_enter Try.func25, Try.ntmps25
  go_wp2_with (first
    | (at_range; refine wpList_range_tm rfl _ 51 rfl 3 44 ik_law Try.underlying51 B nn f rfl HT5 ?_; intro w6 cnt6 hr6 hg6 hs6)
    | go_in)
  go_frame
  rw [← HV.out.1] at hr6 hg6 hs6 ⊢
  have er : V.heap.size = r := HV.out.2.1.symm
  rw [er] at hr6 hs6 ⊢
  try simp only [hp1, hp2, hp3]
  have b6 : Below V.heap.size V w6 := ⟨hg6.os, hg6.tape, hg6.output, hg6.size, fun q hq => hg6.block q hq (by simp)⟩
  have HS6 : Hid (∃ cnt, TR w6 3 B r nn f (fun kl => (f kl).isSome) cnt ∧ NT w6 (r + 1) (.slice none 0 0) (up (([] : List Nat))) ∧ (([] : List Nat)).Nodup ∧ (∀ d9, d9 ∈ (([] : List Nat)) ↔ ((fun kl => (f kl).isSome) (ik d9) = false ∧ tch nb k (fr nb k) d9 = true ∧ (f (ik d9)).isSome = true)) ∧ Below r V w6 ∧ r < w6.heap.size) :=
    ⟨cnt6, hr6, World.ownsRow_nil _ _ _ _, List.nodup_nil, fun c => ⟨fun h => by simp at h, fun h => by have h1 : (f (ik c)).isSome = false := h.1; rw [h.2.2] at h1; cases h1⟩, by rw [← er]; exact b6, by omega⟩
  clear hr6 hg6 hs6 HT5 HV b6 er hp1 hp2 hp3
  go_loopw [9] (fun o wr => ∃ (left : Lit → Bool) (cnt : Nat) (cs : List Nat) (v : Value), v = o ∧ Hid (TR wr 3 B r nn f left cnt ∧ NT wr (r + 1) v (up cs) ∧ cs.Nodup ∧ (∀ d9, d9 ∈ cs ↔ (left (ik d9) = false ∧ tch nb k (fr nb k) d9 = true ∧ (f (ik d9)).isSome = true)) ∧ Below r V wr ∧ r < wr.heap.size)) (fun _ wr => wr.rangeLeft B r)
  case atStart => obtain ⟨c9, h9⟩ := HS6.out; exact ⟨_, c9, [], _, rfl, h9⟩
  case round =>
    clear HS6
    obtain ⟨left, cnt, cs, v, rfl, hR⟩ := hrel
    obtain ⟨hTR, hNT, hnd, hmem, hBr, hrw⟩ := hR.out
    obtain ⟨va, vc, rfl⟩ := hNT.form
    obtain ⟨mc, hmc⟩ : ∃ m, m = cs.length := ⟨_, rfl⟩
    rw [up_len, ← hmc] at hNT ⊢
    have hmc6 : mc ≤ 60 := by
      rw [hmc]
      refine Nat.le_trans (nd_len k cs hnd (fun c hc => ?_)) (by omega)
      obtain ⟨j, hj, hFj, _⟩ := tch_iff.1 ((hmem c).1 hc).2.1
      have := HOK.out.2.2 j hj
      omega
    have HMC : Hid (mc = cs.length) := hmc
    clear hmc
    go_wp2_with (first
      | (at_next; refine wpList_next_tm (α := Int) rfl _ rfl 3 ik_law (fun x => .int .i64 x) ik_inv B r nn f left cnt rfl hTR ?_ ?_)
      | go_in)
    · intro _ hl0
      have hsome : ∀ c, tch nb k (fr nb k) c = true → (f (ik c)).isSome = true := fun c h => by
        obtain ⟨j, hj, hFj, _⟩ := tch_iff.1 h
        cases hf : f (ik c) with
        | none =>
          have h9 := HG.out.1.no _ hf
          rw [vgm_at] at h9
          have h8 : j ∈ vmem (fr nb k) k c := vmem_mem.2 ⟨hj, hFj⟩
          unfold up at h9
          rw [List.map_eq_nil_iff] at h9
          rw [h9] at h8
          cases h8
        | some u => rfl
      have hF : Fst nb k (fr nb k) cs := ⟨hnd, fun c => ⟨fun h => ((hmem c).1 h).2.1, fun h => (hmem c).2 ⟨hl0 _, h, hsome c h⟩⟩⟩
      obtain ⟨V5, hV5⟩ : ∃ x, x = wr := ⟨_, rfl⟩
      subst hV5
      obtain ⟨lo, hlo⟩ : ∃ l, l = V5.heap.size := ⟨_, rfl⟩
      have hB5 : Below V.heap.size V V5 := by rw [← HVR.out]; exact hBr
      have H5 : Hid (NT V5 (r + 1) (.slice va mc vc) (up cs) ∧ Below V.heap.size V V5 ∧ Fst nb k (fr nb k) cs ∧ mc = cs.length ∧ lo = V5.heap.size ∧ r < lo ∧ (∀ c, tch nb k (fr nb k) c = true → (f (ik c)).isSome = true)) := ⟨hNT, hB5, hF, HMC.out, hlo, by rw [hlo]; exact hrw, hsome⟩
      have qp := (hB5.block _ (ltOf HW.out.2.2.2.1.1)).trans HW.out.2.2.2.1.1
      have c0 : V5.cell? ⟨p, 0, none⟩ = some (.int .i64 (k : Int)) := cellOf qp 0 rfl
      have pl := ltOf qp
      obtain ⟨V6, hV6⟩ : ∃ V, V = V5.alloc (.cells #[.int .i64 (k : Int)] 3) := ⟨_, rfl⟩
      have b6 : Below V5.heap.size V5 V6 := by rw [hV6]; (repeat' (first | (with_reducible exact Below.refl _ _) | (with_reducible assumption) | (with_reducible refine Below.setCell ?_ ?_ _) | (with_reducible refine Below.alloc ?_ ?_ _) | (with_reducible refine below_drewN ?_ _) | (with_reducible refine Below.drew ?_) | (with_reducible exact Nat.le_refl _) | omega | (simp; done) | (simp; omega)))
      have HS7 : Hid (TM V6 3 B nn (fdel (cs.take 0) f) ∧ NT V6 lo (.slice (some ⟨lo, 0, none⟩) 1 1) (up (joinL nb k (cs.take 0))) ∧ Chg B (B + 1) V5 V6 ∧ lo < V6.heap.size) := by
        refine ⟨?_, ?_, Chg.of_below b6, by rw [hV6, hlo]; simp⟩
        · rw [List.take_zero, fdel_nil]; exact hTR.tm.below b6
        · rw [List.take_zero, hV6, hlo]
          exact World.ownsRow_lit V5 #[.int .i64 (k : Int)] 1 (Nat.le_refl _) (by decide) (by simp)
      have HV6 : Hid (V6 = V5.alloc (.cells #[.int .i64 (k : Int)] 3) ∧ lo = V5.heap.size) := ⟨hV6, hlo⟩
      clear hV6 b6 qp hlo hB5 hF hsome hTR hNT hnd hmem hBr hrw hR hl0
      go_wp2
      rw [← HV6.out.1, ← HV6.out.2]
      clear HV6 c0 pl
      go_loopw [12, 34] (fun o i wr => ∃ (t : Nat) (v : Value), t ≤ mc ∧ v = o ∧ i = .int .i64 t ∧ Hid (TM wr 3 B nn (fdel (cs.take t) f) ∧ NT wr lo v (up (joinL nb k (cs.take t))) ∧ Chg B (B + 1) V5 wr ∧ lo < wr.heap.size)) (fun _ i _ => mc - (intOf i).toNat)
      case atStart => exact ⟨0, _, Nat.zero_le _, rfl, rfl, HS7.out⟩
      case round =>
        clear HS7
        obtain ⟨t, v, ht, rfl, rfl, hT⟩ := hrel
        obtain ⟨hTM, hNT, hCh, hlw⟩ := hT.out
        obtain ⟨ja, jc, rfl⟩ := hNT.form
        obtain ⟨jn, hjn⟩ : ∃ m, m = (joinL nb k (cs.take t)).length := ⟨_, rfl⟩
        have hjn6 : jn ≤ 61 := by rw [hjn]; have := joinL_len HOK.out.2.1 H5.out.2.2.1 t; omega
        rw [up_len, ← hjn] at hNT ⊢
        have hVB : B + 1 ≤ V.heap.size := by have h1 := HW.out.2.1; have h2 := HW.out.1.size; omega
        by_cases hlt : t < mc
        · have htl : t < cs.length := by rw [← H5.out.2.2.2.1]; exact hlt
          have hcsw : NT wr (r + 1) (.slice va mc vc) (up cs) := og_nt.1 (og_keepB (og_nt.2 H5.out.1) (fun g hg9 => hCh.block g (NT.lt H5.out.1 g hg9).2 (Or.inr (by have h1 := (NT.lt H5.out.1 g hg9).1; have h2 := HVR.out; omega))))
          obtain ⟨g, o, c2, he, hg, hj⟩ := hcsw.rg.pos (by rw [up_len]; omega)
          simp only [Value.slice.injEq] at he
          obtain ⟨rfl, hx1, hx2⟩ := he
          clear hx1 hx2
          have c0 := hj t (by rw [up_len]; exact htl) 0 (by simp [inC])
          obtain ⟨c, hc⟩ : ∃ c, c = cs[t] := ⟨_, rfl⟩
          have c1 : wr.cell? ⟨g, o + t, none⟩ = some (.int .i64 (c : Int)) := by rw [hc]; simpa [inC, up] using c0
          have hcin : c ∈ cs := by rw [hc]; exact List.getElem_mem _
          have htc := (H5.out.2.2.1.mem c).1 hcin
          have hck : c < k := by
            obtain ⟨j, hj9, hFj, _⟩ := tch_iff.1 htc
            have := HOK.out.2.2 j hj9
            omega
          have hcn : c ∉ cs.take t := by
            have h9 := H5.out.2.2.1.nd
            rw [← List.take_append_drop t cs, List.drop_eq_getElem_cons htl, List.nodup_append] at h9
            exact fun hin => h9.2.2 c hin c (by rw [hc]; exact List.mem_cons_self) rfl
          obtain ⟨⟨a0, n0, c0'⟩, hf⟩ : ∃ u, f (ik c) = some u := Option.isSome_iff_exists.1 (H5.out.2.2.2.2.2.2 c htc)
          have hlook : (Instr.lookup 51 (.map (some B)) (.int .i64 (c : Int)) false).run Try.prog wr = .ok (.slice a0 n0 c0') wr := by
            have h9 := hTM.look ik_law Try.underlying51 (ik_zero _) (ik_key c (by omega))
            rw [fdel_at hcn, hf] at h9
            exact h9
          have hmV := HG.out.1.own (ik c) (a0, n0, c0') hf
          rw [vgm_at] at hmV
          have hmw : NT wr (B + 1) (.slice a0 n0 c0') (up (vmem (fr nb k) k c)) := og_nt.1 (og_keepB hmV (fun g9 hg9 => by
            have h1 := OG.lt hmV g9 hg9
            rw [hCh.block g9 (Nat.lt_of_lt_of_le h1.2 H5.out.2.1.size) (Or.inr h1.1)]
            exact H5.out.2.1.block g9 h1.2))
          have hn0 : n0 = (vmem (fr nb k) k c).length := by
            obtain ⟨_, _, e9⟩ := hmw.form
            injection e9 with _ e9 _
            rw [e9, up_len]
          have hn06 : n0 ≤ 60 := by
            rw [hn0]
            unfold vmem
            exact Nat.le_trans (List.length_filter_le _ _) (by simp; omega)
          obtain ⟨ga, hga⟩ : ∃ ga : Nat, a0 = some ⟨ga, 0, none⟩ := by
            rcases hmw.two with ⟨h1, h2⟩ | ⟨ga, c9, h1, _⟩
            · obtain ⟨j, hj9, hFj, _⟩ := tch_iff.1 htc
              have h8 : j ∈ vmem (fr nb k) k c := vmem_mem.2 ⟨hj9, hFj⟩
              unfold up at h2
              rw [List.map_eq_nil_iff] at h2
              rw [h2] at h8
              cases h8
            · injection h1 with h1 _ _
              exact ⟨ga, h1⟩
          subst hga
          have HNW : Hid (∀ jj u, ((up (vmem (fr nb k) k c)).map (Value.int .i64))[jj]? = some u → wr.cell? ((⟨ga, 0, none⟩ : Addr).add jj) = some u) := NT.news hmw _ rfl
          have HNL : Hid (((up (vmem (fr nb k) k c)).map (Value.int .i64)).length = n0 * 1) := by unfold Hid; rw [List.length_map, up_len, hn0]; omega
          have HN1 : Hid (∀ u ∈ (up (vmem (fr nb k) k c)).map (Value.int .i64), u.oneCell' = true) := by
            intro u hu
            obtain ⟨z, _, rfl⟩ := List.mem_map.1 hu
            rfl
          have HOW : Hid (wr.ownsRow lo 3 1 (.slice ja jn jc) jn ((up (joinL nb k (cs.take t))).map (Value.int .i64))) := by
            have h9 := hNT
            unfold NT at h9
            rw [up_len, ← hjn] at h9
            exact h9
          have HLL : Hid (lo ≤ wr.heap.size) := Nat.le_of_lt hlw
          have HPU : Hid (∀ v3 w3, w3.ownsRow lo 3 1 v3 (jn + n0) ((up (joinL nb k (cs.take t))).map (Value.int .i64) ++ (up (vmem (fr nb k) k c)).map (Value.int .i64)) → wr.grownBy w3 (Value.slice ja jn jc).ownBlock → TM w3 3 B nn (fdel (cs.take t) f) ∧ ∀ w7, TM w7 3 B nn (updF (fdel (cs.take t) f) (ik c) none) → w3.grownBy w7 (some B) → w7.heap.size = w3.heap.size → TM w7 3 B nn (fdel (cs.take (t + 1)) f) ∧ NT w7 lo v3 (up (joinL nb k (cs.take (t + 1)))) ∧ Chg B (B + 1) V5 w7 ∧ lo < w7.heap.size) := by
            intro v3 w3 h1 h2
            have hlow : ∀ g9, (Value.slice ja jn jc).ownBlock = some g9 → lo ≤ g9 := fun g9 hg9 => (NT.lt hNT g9 hg9).1
            have hBl : B < lo := by have h3 := H5.out.2.2.2.2.2.1; have h4 := HVR.out; omega
            have hT3 : TM w3 3 B nn (fdel (cs.take t) f) := hTM.block (h2.block B hTM.lt (fun e => by have := hlow B e.symm; omega))
            refine ⟨hT3, fun w7 h7 hg7 hs7 => ⟨?_, ?_, ?_, ?_⟩⟩
            · rw [List.take_succ_eq_append_getElem htl, ← hc, ← fdel_snoc]; exact h7
            · have h9 : NT w3 lo v3 (up (joinL nb k (cs.take (t + 1)))) := by
                unfold NT
                rw [joinL_take nb k htl, ← hc, up_app, List.length_append, up_len, up_len, ← hjn, ← hn0, List.map_append]
                exact h1
              exact og_nt.1 (og_keep (og_nt.2 h9) hg7 (by
                cases hv : v3.ownBlock with
                | none => exact Or.inl rfl
                | some g9 => exact Or.inr (fun e => by injection e with e; have := (NT.lt h9 g9 hv).1; omega)))
            · refine (hCh.step h2 (fun g9 hg9 => Or.inr (by have h3 := hlow g9 hg9; have h4 := H5.out.2.2.2.2.1; omega))).step hg7 (fun g9 hg9 => Or.inl (by injection hg9 with hg9; omega))
            · have := h2.size; omega
          obtain ⟨i0, hi0, hz0, hz1, hz2⟩ := info_parts info_vint
          have hkey : keyOf Try.prog 3 (.int .i64 (c : Int)) = some (ik c) := ik_key c (by omega)
          have b0 : (0 : Int) ≤ (t : Int) := by omega
          have b1 : (t : Int) < (mc : Int) := by omega
          clear hcsw hj c0 hc hcin htc hcn hmV hmw hn0 hTM hNT hCh hlw hT hjn hf
          go_wp2_with (first
            | (at_builtin; refine wpList_append_own_at _ rfl _ _ 44 rfl lo 3 i0 (.int .i64 0) 1 8 Try.underlying44 hi0 hz0 hz1 hz2 rfl (by decide) (.slice ja jn jc) jn _ rfl HOW.out ⟨ga, 0, none⟩ n0 c0' _ rfl HNL.out HNW.out HN1.out (by unfold maxLen; omega) (by omega) HLL.out ?_; intro v3 w3 hown3 hgrow3 _ _; have HP := HPU.out v3 w3 hown3 hgrow3; have hTM3 := HP.1; have HN3 : Hid (∀ w7, TM w7 3 B nn (updF (fdel (cs.take t) f) (ik c) none) → w3.grownBy w7 (some B) → w7.heap.size = w3.heap.size → TM w7 3 B nn (fdel (cs.take (t + 1)) f) ∧ NT w7 lo v3 (up (joinL nb k (cs.take (t + 1)))) ∧ Chg B (B + 1) V5 w7 ∧ lo < w7.heap.size) := HP.2; clear HP hown3 hgrow3)
            | (at_delete; refine wpList_del_tm rfl _ _ 51 3 rfl 44 ik_law Try.underlying51 B nn _ rfl hTM3 (.int .i64 (c : Int)) (ik c) rfl hkey ?_; intro w7 hT7 hg7 hs7; have HN7 := HN3.out w7 hT7 hg7 hs7; have HN8 : Hid (TM w7 3 B nn (fdel (cs.take (t + 1)) f) ∧ NT w7 lo v3 (up (joinL nb k (cs.take (t + 1)))) ∧ Chg B (B + 1) V5 w7 ∧ lo < w7.heap.size) := HN7; clear HN7 hT7 hg7 hs7 HN3 hTM3)
            | go_in)
          go_roundw
          case rel => exact ⟨t + 1, v3, by omega, rfl, by go_num, HN8.out⟩
          case measure => simp [intOf]; omega
        · obtain rfl : t = mc := by omega
          have etk : cs.take t = cs := by rw [H5.out.2.2.2.1]; exact List.take_length
          rw [etk] at hTM hNT hjn
          obtain ⟨mm, hmm⟩ : ∃ m, m = mnF nb k (fr nb k) := ⟨_, rfl⟩
          obtain ⟨gl, hgl⟩ : ∃ g, g = wr.heap.size := ⟨_, rfl⟩
          obtain ⟨V8, hV8⟩ : ∃ V, V = wr.alloc (.cells #[.slice ja jn jc] 44) := ⟨_, rfl⟩
          have b8 : Below wr.heap.size wr V8 := by rw [hV8]; (repeat' (first | (with_reducible exact Below.refl _ _) | (with_reducible assumption) | (with_reducible refine Below.setCell ?_ ?_ _) | (with_reducible refine Below.alloc ?_ ?_ _) | (with_reducible refine below_drewN ?_ _) | (with_reducible refine Below.drew ?_) | (with_reducible exact Nat.le_refl _) | omega | (simp; done) | (simp; omega)))
          have q8 : V8.heap[gl]? = some (.cells #[.slice ja jn jc] 44) := by rw [hV8, hgl]; exact heap_alloc_new wr _
          have HOR : Hid (Calls Try.prog 39 #[.slice (some ⟨gl, 0, none⟩) 1 1] V8 fun e w' => ∃ r, e = .returned r ∧ NT w' V8.heap.size r (up (vmem (fr nb (k + 1)) (k + 1) mm)) ∧ Below V8.heap.size V8 w') := by
            have h9 := impl_orderedN (w := V8) (gl := gl) (k := 1) (B := lo) (vs := fun _ => (ja, jn, jc)) (ls := fun _ => up (joinL nb k cs)) (ltOf q8) (by omega)
              (fun i hi => by obtain rfl : i = 0 := by omega
                              exact cellOf q8 0 rfl) (fun i hi => hNT.bel b8) (by
                have h8 : catN (fun _ => up (joinL nb k cs)) 1 = up (joinL nb k cs) := by simp [catN]
                rw [h8, up_len, ← hjn]; omega)
            have h8 : catN (fun _ => up (joinL nb k cs)) 1 = up (joinL nb k cs) := by simp [catN]
            rw [h8, join_ord HOK.out.2.1 H5.out.2.2.1, ← hmm] at h9
            exact h9
          have HW8 : Hid (TM V8 3 B nn (fdel cs f) ∧ Chg B (B + 1) V V8 ∧ lo < V8.heap.size ∧ V.heap.size ≤ V8.heap.size) := ⟨hTM.below b8, ((Chg.of_below H5.out.2.1).trans hCh).trans (Chg.of_below b8), Nat.lt_of_lt_of_le hlw b8.size, Nat.le_trans H5.out.2.1.size (Nat.le_trans hCh.size b8.size)⟩
          have HV8 : Hid (V8 = wr.alloc (.cells #[.slice ja jn jc] 44) ∧ gl = wr.heap.size) := ⟨hV8, hgl⟩
          have hmk : mm ≤ k := by rw [hmm]; exact mn_lt nb k
          have hlab := fr_lab HOK.out.2.1 (k + 1)
          have hhd : ∃ tl, vmem (fr nb (k + 1)) (k + 1) mm = mm :: tl := by
            refine vmem_head hlab.le (by omega) ?_
            have h1 := hlab.own k (by omega)
            rw [show fr nb (k + 1) k = mm from by rw [fr_of, if_pos (Or.inl rfl), hmm]] at h1
            exact h1
          have HHD : Hid (mm = mnF nb k (fr nb k) ∧ ∃ tl, vmem (fr nb (k + 1)) (k + 1) mm = mm :: tl) := ⟨hmm, hhd⟩
          clear hhd hlab hmm hgl hV8 b8 q8 hTM hNT hCh hlw hT hjn etk
          go_wp2_with (fail)
          rw [← HV8.out.1, ← HV8.out.2]
          clear HV8
          refine HOR.out.mono ?_
          rintro e w9 ⟨rv, rfl, hr9, hb9⟩
          obtain ⟨tl, htl⟩ := HHD.out.2
          obtain ⟨gr, cr, hrv, _⟩ : ∃ g c, rv = .slice (some ⟨g, 0, none⟩) (up (vmem (fr nb (k + 1)) (k + 1) mm)).length c ∧ (up (vmem (fr nb (k + 1)) (k + 1) mm)).length ≤ c := by
            rcases hr9.two with ⟨h1, h2⟩ | h1
            · rw [htl] at h2; simp [up] at h2
            · exact h1
          obtain ⟨ln, hln⟩ : ∃ m, m = (up (vmem (fr nb (k + 1)) (k + 1) mm)).length := ⟨_, rfl⟩
          rw [← hln] at hrv
          subst hrv
          have hl1 : 1 ≤ ln := by rw [hln, htl]; simp [up]
          obtain ⟨g2, o2, c9, he2, hg2, hj2⟩ := hr9.rg.pos (by omega)
          simp only [Value.slice.injEq, Option.some.injEq, Addr.mk.injEq, and_true] at he2
          obtain ⟨⟨rfl, rfl⟩, hx1, hx2⟩ := he2
          clear hx1 hx2
          have c0 := hj2 0 (by omega) 0 (by simp [inC])
          have c1 : w9.cell? ⟨gr, 0, none⟩ = some (.int .i64 (mm : Int)) := by simpa [inC, up, htl] using c0
          have hT9 := HW8.out.1.below hb9
          obtain ⟨w10, hrun, hT10, hg10⟩ := hT9.put ik_law Try.underlying51 (by unfold maxLen; omega) (ik_key mm (by omega)) (some ⟨gr, 0, none⟩, ln, cr)
          have hCh9 : Chg B (B + 1) V w9 := HW8.out.2.1.trans (Chg.of_below hb9)
          have HFI : Hid (CLU w10 B (fr nb (k + 1)) (k + 1) ∧ Chg B (B + 1) W w10) := by
            refine ⟨clu_put (V := V) (w7 := w9) (r := (some ⟨gr, 0, none⟩, ln, cr)) HOK.out.2.1 H5.out.2.2.1 hnn HG.out.1 HG.out.2 hVB hCh9 ?_ ?_ hg10, ?_⟩
            · rw [← HHD.out.1]; exact NT.low hr9 HW8.out.2.2.2
            · rw [← HHD.out.1]; exact hT10
            · exact ((Chg.of_below HW.out.1).trans hCh9).step hg10 (fun g9 hg9 => Or.inl (by injection hg9 with hg9; omega))
          have b1 : (0 : Int) < (ln : Int) := by omega
          clear hr9 hb9 htl hj2 c0 hT9 hT10 hg10 hCh9 HW8 HOR HHD hln
          go_wp2
          go_returns
          exact ⟨rfl, HFI.out⟩
    · intro x a0 n0 c0 kl w8 cnt8 hkey hlk hf hTR8 hlt8 hg8 hs8 hen
      obtain ⟨i, hi, hkl⟩ := vgm_key (HG.out.2 kl _ hf)
      obtain ⟨c, hc⟩ : ∃ c, c = fr nb k i := ⟨_, rfl⟩
      rw [← hc] at hkl
      have hck : c < k := by have := HOK.out.2.2 i hi; omega
      obtain ⟨x', e1, e2, _⟩ := Maps.keyOf_int_inv Try.underlying3 hkey
      have hxc : x = (c : Int) := by
        injection e1 with _ e1
        rw [hkl] at e2
        unfold ik at e2
        injection e2 with _ e2
        omega
      subst hxc
      subst hkl
      clear e1 e2 hkey hc hi
      have hB8 : Below r V w8 := hBr.grown hg8 (Nat.le_of_lt hrw) (fun q hq => by injection hq with hq; omega)
      have hB8' : Below V.heap.size V w8 := by rw [← HVR.out]; exact hB8
      have hog := HG.out.1.own (ik c) (a0, n0, c0) hf
      rw [vgm_at] at hog
      have hpl : NT w8 (B + 1) (.slice a0 n0 c0) (up (vmem (fr nb k) k c)) := (og_nt.1 hog).bel hB8'
      have hn0 : n0 ≤ 60 := by
        obtain ⟨_, _, e9⟩ := hpl.form
        injection e9 with _ e9 _
        rw [e9, up_len]
        unfold vmem
        exact Nat.le_trans (List.length_filter_le _ _) (by simp; omega)
      obtain ⟨y, hy⟩ : ∃ y, y = tch nb k (fr nb k) c := ⟨_, rfl⟩
      have HCT : Hid (Calls Try.prog 38 #[.slice a0 n0 c0, .func (Fn.func 36) #[] #[.pointer (some ⟨p + 1, 0, none⟩), .pointer (some ⟨p, 0, none⟩), .pointer (some ⟨p + 2, 0, none⟩)]] w8 fun e w' => e = .returned (.bool y) ∧ Below w8.heap.size w8 w') := by
        rw [hy, ← tch_mem]
        have h9 := impl_anyN (xs := vmem (fr nb k) k c) HOK.out.1 hn hk (fun j hj => by have := (vmem_mem.1 hj).1; omega) hn0 (HW.out.2.2.1.below hB8') (HW.out.2.2.2.1.below hB8') hpl
        rw [← HW.out.2.2.2.2.2.2] at h9
        exact h9
      have hNT8 : NT w8 (r + 1) (.slice va mc vc) (up cs) := og_nt.1 (og_keep (og_nt.2 hNT) hg8 (by
        cases hv : (Value.slice va mc vc).ownBlock with
        | none => exact Or.inl rfl
        | some g => exact Or.inr (fun e => by injection e with e; have := (NT.lt hNT g hv).1; omega)))
      have hmem8 : ∀ b : Bool, y = b → ∀ c', c' ∈ (if b then cs ++ [c] else cs) ↔ ((fun z => left z && !z.sameKey (ik c)) (ik c') = false ∧ tch nb k (fr nb k) c' = true ∧ (f (ik c')).isSome = true) := by
        intro b hb c'
        by_cases e : c' = c
        · subst e
          have h1 : c' ∉ cs := fun h => by have := ((hmem c').1 h).1; rw [hlk] at this; cases this
          cases b with
          | true => simp [ik_same, ← hy, hb, hf]
          | false => simp [h1, ← hy, hb]
        · have h1 : (ik c').sameKey (ik c) = false := by rw [ik_dec]; simp; exact fun h => e h.symm
          have h2 := hmem c'
          cases b with
          | true => simp [h1, e, h2]
          | false => simp [h1, h2]
      have hcn : c ∉ cs := fun h => by have := ((hmem c).1 h).1; rw [hlk] at this; cases this
      have HLT : Hid (cnt8 < cnt ∧ wr.rangeLeft B r = cnt) := ⟨hlt8, hTR.left_eq⟩
      have H8 : Hid (TR w8 3 B r nn f (fun z => left z && !z.sameKey (ik c)) cnt8 ∧ NT w8 (r + 1) (.slice va mc vc) (up cs) ∧ Below r V w8 ∧ r < w8.heap.size ∧ cs.Nodup ∧ c ∉ cs ∧ mc = cs.length) := ⟨hTR8, hNT8, hB8, by omega, hnd, hcn, HMC.out⟩
      have HM8 : Hid (∀ b : Bool, y = b → ∀ c', c' ∈ (if b then cs ++ [c] else cs) ↔ ((fun z => left z && !z.sameKey (ik c)) (ik c') = false ∧ tch nb k (fr nb k) c' = true ∧ (f (ik c')).isSome = true)) := hmem8
      clear hmem8 hcn hNT8 hpl hog hB8 hB8' hTR8 hlt8 hg8 hs8 hlk hf hTR hNT hnd hmem hBr hrw hR hy
      go_wp2_with (fail)
      refine HCT.out.mono ?_
      rintro e w9 ⟨rfl, hb9⟩
      clear hen HCT
      cases y with
      | false =>
        have HN : Hid (TR w9 3 B r nn f (fun z => left z && !z.sameKey (ik c)) cnt8 ∧ NT w9 (r + 1) (.slice va mc vc) (up (cs)) ∧ (cs).Nodup ∧ (∀ d9, d9 ∈ (cs) ↔ ((fun z => left z && !z.sameKey (ik c)) (ik d9) = false ∧ tch nb k (fr nb k) d9 = true ∧ (f (ik d9)).isSome = true)) ∧ Below r V w9 ∧ r < w9.heap.size) := ⟨H8.out.1.below hb9, H8.out.2.1.bel hb9, H8.out.2.2.2.2.1, fun c' => HM8.out false rfl c', H8.out.2.2.1.trans (hb9.mono (by have := H8.out.2.2.2.1; omega)), Nat.lt_of_lt_of_le H8.out.2.2.2.1 hb9.size⟩
        clear hb9 H8 HM8
        go_wp2
        go_roundw
        case rel => exact ⟨_, _, cs, _, rfl, HN.out⟩
        case measure => rw [HN.out.1.left_eq, HLT.out.2]; exact HLT.out.1
      | true =>
        have HOW : Hid ((w9.alloc (.cells #[.int .i64 (c : Int)] 3)).ownsRow (r + 1) 3 1 (.slice va mc vc) mc ((up cs).map (Value.int .i64))) := by
          have h9 := H8.out.2.1.bel hb9
          unfold NT at h9
          rw [up_len, ← H8.out.2.2.2.2.2.2] at h9
          exact World.ownsRow.alloc h9 _
        have HNW : Hid (∀ jj u, [Value.int .i64 (c : Int)][jj]? = some u → (w9.alloc (.cells #[.int .i64 (c : Int)] 3)).cell? ((⟨w9.heap.size, 0, none⟩ : Addr).add jj) = some u) := World.news_of_block (cs := #[.int .i64 (c : Int)]) (t := 3) (fr := (0, 0)) (heap_alloc_new w9 _)
        have hs9 := hb9.size
        have HLL : Hid (r + 1 ≤ (w9.alloc (.cells #[.int .i64 (c : Int)] 3)).heap.size) := by have := H8.out.2.2.2.1; unfold Hid; simp; omega
        have HPU : Hid (∀ v3 w3, w3.ownsRow (r + 1) 3 1 v3 (mc + 1) ((up cs).map (Value.int .i64) ++ [.int .i64 (c : Int)]) → (w9.alloc (.cells #[.int .i64 (c : Int)] 3)).grownBy w3 (Value.slice va mc vc).ownBlock → TR w3 3 B r nn f (fun z => left z && !z.sameKey (ik c)) cnt8 ∧ NT w3 (r + 1) v3 (up (cs ++ [c])) ∧ (cs ++ [c]).Nodup ∧ (∀ d9, d9 ∈ (cs ++ [c]) ↔ ((fun z => left z && !z.sameKey (ik c)) (ik d9) = false ∧ tch nb k (fr nb k) d9 = true ∧ (f (ik d9)).isSome = true)) ∧ Below r V w3 ∧ r < w3.heap.size) := by
          intro v3 w3 h1 h2
          have hlw : ∀ g, (Value.slice va mc vc).ownBlock = some g → r + 1 ≤ g := fun g hg9 => (NT.lt H8.out.2.1 g hg9).1
          have hBB := HW.out.2.1
          have hrr := HW.out.2.2.2.2.2.1
          have b9 : Below w9.heap.size w9 (w9.alloc (.cells #[.int .i64 (c : Int)] 3)) := by (repeat' (first | (with_reducible exact Below.refl _ _) | (with_reducible assumption) | (with_reducible refine Below.setCell ?_ ?_ _) | (with_reducible refine Below.alloc ?_ ?_ _) | (with_reducible refine below_drewN ?_ _) | (with_reducible refine Below.drew ?_) | (with_reducible exact Nat.le_refl _) | omega | (simp; done) | (simp; omega)))
          refine ⟨((H8.out.1.below hb9).below b9).kept h2 (fun e => by have := hlw B e.symm; omega) (fun e => by have := hlw r e.symm; omega), ?_, ?_, fun c' => HM8.out true rfl c', ?_, ?_⟩
          · unfold NT
            rw [up_app, List.length_append, up_len, ← H8.out.2.2.2.2.2.2, List.map_append]
            exact h1
          · rw [List.nodup_append]
            refine ⟨H8.out.2.2.2.2.1, by simp, fun a ha b hb e => ?_⟩
            have hbc : b = c := by simpa using hb
            exact H8.out.2.2.2.2.2.1 (by rw [← hbc, ← e]; exact ha)
          · refine ((H8.out.2.2.1.trans (hb9.mono (by have := H8.out.2.2.2.1; omega))).trans (b9.mono (by have := H8.out.2.2.2.1; omega))).grown h2 (by have := HLL.out; omega) (fun g hg9 => by have := hlw g hg9; omega)
          · have := h2.size; have := HLL.out; omega
        obtain ⟨i0, hi0, hz0, hz1, hz2⟩ := info_parts info_vint
        clear hb9 H8 HM8
        go_wp2_with (at_builtin; refine wpList_append_own_at _ rfl _ _ 44 rfl (r + 1) 3 i0 (.int .i64 0) 1 8 Try.underlying44 hi0 hz0 hz1 hz2 rfl (by decide) (.slice va mc vc) mc _ rfl HOW.out ⟨w9.heap.size, 0, none⟩ 1 1 [.int .i64 (c : Int)] rfl rfl HNW.out (by simp [Value.oneCell']) (by unfold maxLen; omega) (by omega) HLL.out ?_; intro v3 w3 hown3 hgrow3 _ _; have HN := HPU.out v3 w3 hown3 hgrow3; have HN2 : Hid (TR w3 3 B r nn f (fun z => left z && !z.sameKey (ik c)) cnt8 ∧ NT w3 (r + 1) v3 (up (cs ++ [c])) ∧ (cs ++ [c]).Nodup ∧ (∀ d9, d9 ∈ (cs ++ [c]) ↔ ((fun z => left z && !z.sameKey (ik c)) (ik d9) = false ∧ tch nb k (fr nb k) d9 = true ∧ (f (ik d9)).isSome = true)) ∧ Below r V w3 ∧ r < w3.heap.size) := HN; clear HN hown3 hgrow3)
        go_roundw
        case rel => exact ⟨_, _, cs ++ [c], _, rfl, HN2.out⟩
        case measure => rw [HN2.out.1.left_eq, HLT.out.2]; exact HLT.out.1

end Go.Proofs.Ytngpjglcjbdblaa
