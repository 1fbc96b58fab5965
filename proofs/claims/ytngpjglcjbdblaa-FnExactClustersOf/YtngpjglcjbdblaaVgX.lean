/- Proved here: the numbers of the clusters, of the program. -/
import Derived.Test.YtngpjglcjbdblaaVgW
import Derived.Test.YtngpjglcjbdblaaVkE
import Derived.Test.YtngpjglcjbdblaaNlJ
import Derived.Deep.AppendLies
import Derived.StillTail
import Derived.Deep.DeepCutAuto
namespace Go.Proofs.Ytngpjglcjbdblaa
open Go.RowKit Go.Maps
set_option linter.unusedVariables false
set_option linter.unusedSimpArgs false

def reps (F : Nat → Nat) (n : Nat) : List Nat := (List.range n).filter (fun c => decide (F c = c))
theorem reps_mem {F : Nat → Nat} {n c : Nat} : c ∈ reps F n ↔ c < n ∧ F c = c := by unfold reps; simp
theorem reps_sorted (F : Nat → Nat) (n : Nat) : (reps F n).Pairwise (· < ·) := List.Pairwise.filter _ List.pairwise_lt_range
theorem reps_cnt (F : Nat → Nat) (c : Nat) : (reps F c).length = cnt F c := by
  induction c with
  | zero => rfl
  | succ c ih =>
    unfold reps at ih ⊢
    rw [List.range_succ, List.filter_append, List.length_append, ih]
    simp only [cnt]
    by_cases h : F c = c <;> simp [h]
theorem reps_split {F : Nat → Nat} {n c : Nat} (hc : c < n) (h : F c = c) : ∃ t, reps F n = reps F c ++ c :: t := by
  induction n with
  | zero => omega
  | succ n ih =>
    unfold reps at ih ⊢
    rw [List.range_succ, List.filter_append]
    by_cases e : c < n
    · obtain ⟨t, ht⟩ := ih e
      exact ⟨t ++ [n].filter (fun c => decide (F c = c)), by rw [ht]; simp⟩
    · have : c = n := by omega
      subst this
      exact ⟨[], by simp [h]⟩
theorem reps_at {F : Nat → Nat} {n t : Nat} (ht : t < (reps F n).length) : cnt F (reps F n)[t] = t := by
  have hm := reps_mem.1 (List.getElem_mem ht)
  have hs := List.pairwise_iff_getElem.1 (reps_sorted F n)
  obtain ⟨c, hc⟩ : ∃ c, c = (reps F n)[t] := ⟨_, rfl⟩
  rw [← hc] at hm ⊢
  obtain ⟨r, hr⟩ := reps_split hm.1 hm.2
  have hl := reps_cnt F c
  have hlt : (reps F c).length < (reps F n).length := by rw [hr]; simp
  have he : (reps F n)[(reps F c).length] = c := by
    have h9 : (reps F n)[(reps F c).length]? = some c := by rw [hr]; simp
    rw [List.getElem?_eq_getElem hlt] at h9
    exact Option.some.inj h9
  rw [← hl]
  rcases Nat.lt_trichotomy (reps F c).length t with h | h | h
  · have := hs _ _ hlt ht h; omega
  · exact h
  · have := hs _ _ ht hlt h; omega
theorem reps_has {F : Nat → Nat} {n i : Nat} (hle : ∀ i, i < n → F i ≤ i) (hown : ∀ i, i < n → F (F i) = F i) (hi : i < n) : ∃ h : cnt F (F i) < (reps F n).length, (reps F n)[cnt F (F i)] = F i := by
  have hm : F i ∈ reps F n := reps_mem.2 ⟨by have := hle i hi; omega, hown i hi⟩
  obtain ⟨t, ht, he⟩ := List.getElem_of_mem hm
  have h9 := reps_at ht
  rw [he] at h9
  subst h9
  exact ⟨ht, he⟩
/-- The numbers of some, nought for the others. -/
def zz (F : Nat → Nat) (n : Nat) (P : Nat → Bool) : List Int := (List.range n).map (fun i => if P i then ((cnt F (F i) : Nat) : Int) else 0)
theorem zz_len (F : Nat → Nat) (n : Nat) (P : Nat → Bool) : (zz F n P).length = n := by unfold zz; simp
theorem zz_set {F : Nat → Nat} {n : Nat} {P : Nat → Bool} {j : Nat} {x : Int} (hx : x = ((cnt F (F j) : Nat) : Int)) : (zz F n P).set j x = zz F n (fun i => P i || decide (i = j)) := by
  apply List.ext_getElem
  · simp [zz_len]
  · intro i h1 h2
    rw [List.getElem_set]
    unfold zz
    simp only [List.getElem_map, List.getElem_range]
    by_cases e : j = i
    · subst e; simp [hx]
    · rw [if_neg e]
      have : ¬ i = j := fun h => e h.symm
      simp [this]
theorem zz_congr {F : Nat → Nat} {n : Nat} {P Q : Nat → Bool} (h : ∀ i, i < n → P i = Q i) : zz F n P = zz F n Q := by
  unfold zz
  apply List.map_congr_left
  intro i hi
  rw [h i (List.mem_range.1 hi)]
theorem zz_none (F : Nat → Nat) (n : Nat) : zz F n (fun _ => false) = List.replicate n 0 := by
  unfold zz
  apply List.ext_getElem <;> simp
def nums (F : Nat → Nat) (n : Nat) : List Int := (List.range n).map (fun a => ((cnt F (F a) : Nat) : Int))
theorem zz_all {F : Nat → Nat} {n : Nat} {P : Nat → Bool} (h : ∀ i, i < n → P i = true) : zz F n P = nums F n := by
  unfold zz nums
  apply List.map_congr_left
  intro i hi
  rw [h i (List.mem_range.1 hi)]; rfl
set_option maxRecDepth 10000 in
set_option maxHeartbeats 25600000 in
theorem impl_numbers {W : World} {B n : Nat} {F : Nat → Nat} (hn : n ≤ 60) (hle : ∀ i, i < n → F i ≤ i) (hown : ∀ i, i < n → F (F i) = F i) (hC : CLU W B F n) :
    Calls Try.prog 26 #[.map (some B), .int .i64 (n : Int)] W fun e w' => ∃ v, e = .returned v ∧ IS w' W.heap.size v (nums F n) ∧ Below W.heap.size W w' := by
  obtain ⟨nn, f, hnn, hG, hne⟩ := hC
  obtain ⟨r, hr⟩ : ∃ r, r = W.heap.size := ⟨_, rfl⟩
  have HG : Hid (GM 3 1 inC W 3 B (B + 1) nn f (vgm F n) ∧ (∀ q u, f q = some u → vgm F n q ≠ []) ∧ (∀ i, i < n → F i ≤ i) ∧ (∀ i, i < n → F (F i) = F i) ∧ B < r) := ⟨hG, hne, hle, hown, by rw [hr]; exact hG.tm.lt⟩
  have HT5 : TM W 3 B nn f := hG.tm
  have HR : Hid (r = W.heap.size) := hr
  clear hG hne hle hown hr
  go_enter Try.func26, Try.ntmps26
  go_wp2_with (first
    | (at_range; refine wpList_range_tm rfl _ 51 rfl 3 44 ik_law Try.underlying51 B nn f rfl HT5 ?_; intro w6 cnt6 hr6 hg6 hs6)
    | go_in)
  go_frame
  rw [← HR.out] at hr6 hs6 ⊢
  have b6 : Below W.heap.size W w6 := ⟨hg6.os, hg6.tape, hg6.output, hg6.size, fun q hq => hg6.block q hq (by simp)⟩
  have HS6 : Hid (∃ kq, TR w6 3 B r nn f (fun kl => (f kl).isSome) kq ∧ NT w6 (r + 1) (.slice none 0 0) (up (([] : List Nat))) ∧ (([] : List Nat)).Nodup ∧ (∀ d9, d9 ∈ (([] : List Nat)) ↔ ((fun kl => (f kl).isSome) (ik d9) = false ∧ (f (ik d9)).isSome = true)) ∧ Below r W w6 ∧ r < w6.heap.size) :=
    ⟨cnt6, hr6, World.ownsRow_nil _ _ _ _, List.nodup_nil, fun c => ⟨fun h => by simp at h, fun h => by have h1 : (f (ik c)).isSome = false := h.1; rw [h.2] at h1; cases h1⟩, by rw [HR.out]; exact b6, by omega⟩
  clear hr6 hg6 hs6 HT5 b6
  go_loopw [5] (fun o wr => ∃ (left : Lit → Bool) (kq : Nat) (cs : List Nat) (v : Value), v = o ∧ Hid (TR wr 3 B r nn f left kq ∧ NT wr (r + 1) v (up cs) ∧ cs.Nodup ∧ (∀ d9, d9 ∈ cs ↔ (left (ik d9) = false ∧ (f (ik d9)).isSome = true)) ∧ Below r W wr ∧ r < wr.heap.size)) (fun _ wr => wr.rangeLeft B r)
  case atStart => obtain ⟨c9, h9⟩ := HS6.out; exact ⟨_, c9, [], _, rfl, h9⟩
  case round =>
    clear HS6
    obtain ⟨left, kq, cs, v, rfl, hR⟩ := hrel
    obtain ⟨hTR, hNT, hnd, hmem, hBr, hrw⟩ := hR.out
    obtain ⟨va, vc, rfl⟩ := hNT.form
    obtain ⟨mc, hmc⟩ : ∃ m, m = cs.length := ⟨_, rfl⟩
    rw [up_len, ← hmc] at hNT ⊢
    have hrep : ∀ c, (f (ik c)).isSome = true → c < n ∧ F c = c := fun c h => by
      obtain ⟨u, hu⟩ := Option.isSome_iff_exists.1 h
      obtain ⟨i, hi, he⟩ := vgm_key (HG.out.2.1 _ _ hu)
      have e := ik_inj he
      subst e
      exact ⟨by have := HG.out.2.2.1 i hi; omega, HG.out.2.2.2.1 i hi⟩
    have hmc6 : mc ≤ 60 := by
      rw [hmc]
      exact Nat.le_trans (nd_len n cs hnd (fun c hc => (hrep c ((hmem c).1 hc).2).1)) hn
    have HMC : Hid (mc = cs.length) := hmc
    clear hmc
    go_wp2_with (first
      | (at_next; refine wpList_next_tm (α := Int) rfl _ rfl 3 ik_law (fun x => .int .i64 x) ik_inv B r nn f left kq rfl hTR ?_ ?_)
      | go_in)
    · intro _ hl0
      have hcs : ∀ c, c ∈ cs ↔ c ∈ reps F n := fun c => by
        rw [hmem c, reps_mem]
        refine ⟨fun h => hrep c h.2, fun h => ⟨hl0 _, ?_⟩⟩
        cases hf : f (ik c) with
        | none =>
          have h9 := HG.out.1.no _ hf
          rw [vgm_at] at h9
          have h8 : c ∈ vmem F n c := vmem_mem.2 h
          unfold up at h9
          rw [List.map_eq_nil_iff] at h9
          rw [h9] at h8
          cases h8
        | some u => rfl
      have hord : ordN (up cs) = up (reps F n) := ord_eq hnd (reps_sorted F n) hcs
      obtain ⟨V5, hV5⟩ : ∃ x, x = wr := ⟨_, rfl⟩
      subst hV5
      obtain ⟨g, hg⟩ : ∃ g, g = V5.heap.size := ⟨_, rfl⟩
      have H5 : Hid (NT V5 (r + 1) (.slice va mc vc) (up cs) ∧ Below r W V5 ∧ ordN (up cs) = up (reps F n) ∧ mc = cs.length ∧ g = V5.heap.size ∧ r < g) := ⟨hNT, hBr, hord, HMC.out, hg, by rw [hg]; exact hrw⟩
      clear hg hcs hord hTR hNT hnd hmem hBr hrw hR hl0 hrep HMC
      obtain ⟨i0, hi, hz0, hz1, hz2⟩ := info_parts info_i64
      have hA1 : (0 : Int) ≤ (n : Int) := by omega
      go_wp2_with (at_make; refine wpList_make_full _ rfl _ _ 24 rfl V5.heap.size 2 i0 (.int .i64 0) 1 Try.underlying24 hi hz0 hz1 _ _ _ _ n rfl rfl rfl rfl (by rw [hz2]; omega) (by unfold maxLen; omega) (Nat.le_refl _) ?_; intro w6 hown6 hgrow6)
      have hg9 : V5.heap.size = g := H5.out.2.2.2.2.1.symm
      rw [hg9] at hown6 ⊢
      clear hg9
      have hI6 : IS w6 g (.slice (some ⟨g, 0, none⟩) n n) (List.replicate n 0) := IS.made hown6
      have b56 : Below V5.heap.size V5 w6 := (Below.refl _ _).grown hgrow6 (Nat.le_refl _) (fun k h => by cases h)
      obtain ⟨gl, hgl⟩ : ∃ g, g = w6.heap.size := ⟨_, rfl⟩
      obtain ⟨V8, hV8⟩ : ∃ V, V = w6.alloc (.cells #[.slice va mc vc] 44) := ⟨_, rfl⟩
      have b8 : Below w6.heap.size w6 V8 := by rw [hV8]; (repeat' (first | (with_reducible exact Below.refl _ _) | (with_reducible assumption) | (with_reducible refine Below.setCell ?_ ?_ _) | (with_reducible refine Below.alloc ?_ ?_ _) | (with_reducible refine below_drewN ?_ _) | (with_reducible refine Below.drew ?_) | (with_reducible exact Nat.le_refl _) | omega | (simp; done) | (simp; omega)))
      have b58 : Below V5.heap.size V5 V8 := b56.trans (b8.mono b56.size)
      have q8 : V8.heap[gl]? = some (.cells #[.slice va mc vc] 44) := by rw [hV8, hgl]; exact heap_alloc_new w6 _
      have hgl6 : g < w6.heap.size := (IS.lt hI6 g rfl).2
      have HOR : Hid (Calls Try.prog 39 #[.slice (some ⟨gl, 0, none⟩) 1 1] V8 fun e w' => ∃ r, e = .returned r ∧ NT w' V8.heap.size r (up (reps F n)) ∧ Below V8.heap.size V8 w') := by
        have h9 := impl_orderedN (w := V8) (gl := gl) (k := 1) (B := r + 1) (vs := fun _ => (va, mc, vc)) (ls := fun _ => up cs) (ltOf q8) (by omega)
          (fun i hi => by obtain rfl : i = 0 := by omega
                          exact cellOf q8 0 rfl) (fun i hi => H5.out.1.bel b58) (by
            have h8 : catN (fun _ => up cs) 1 = up cs := by simp [catN]
            rw [h8, up_len, ← H5.out.2.2.2.1]; omega)
        have h8 : catN (fun _ => up cs) 1 = up cs := by simp [catN]
        rw [h8, H5.out.2.2.1] at h9
        exact h9
      rw [← hV8, ← hgl]
      refine HOR.out.mono ?_
      rintro e w9 ⟨rv, rfl, hr9, hb9⟩
      obtain ⟨ra, rc, rfl⟩ := hr9.form
      obtain ⟨mr, hmr⟩ : ∃ m, m = (reps F n).length := ⟨_, rfl⟩
      rw [up_len, ← hmr] at hr9 ⊢
      have hmr6 : mr ≤ 60 := by rw [hmr]; unfold reps; exact Nat.le_trans (List.length_filter_le _ _) (by simp; exact hn)
      have b69 : Below w6.heap.size w6 w9 := b8.trans (hb9.mono b8.size)
      have b59 : Below V5.heap.size V5 w9 := b58.trans (hb9.mono b58.size)
      have H9 : Hid (NT w9 (g + 1) (.slice ra mr rc) (up (reps F n)) ∧ Below r W w9 ∧ IS w9 g (.slice (some ⟨g, 0, none⟩) n n) (zz F n (fun i => decide (cnt F (F i) < 0))) ∧ r < g ∧ mr = (reps F n).length ∧ B < r ∧ g < w9.heap.size) :=
        ⟨NT.low hr9 (by have := b8.size; omega), H5.out.2.1.trans (b59.mono (by have h1 := H5.out.2.2.2.2.1; have h2 := H5.out.2.2.2.2.2; omega)), by rw [zz_congr (Q := fun _ => false) (fun i _ => by simp), zz_none]; exact hI6.bel b69, H5.out.2.2.2.2.2, hmr, HG.out.2.2.2.2, Nat.lt_of_lt_of_le hgl6 b69.size⟩
      clear hgl hV8 b8 b58 q8 hgl6 HOR hr9 hb9 hmr b69 b59 hI6 b56 hown6 hgrow6 H5
      go_wp2
      go_loopw [28] (fun i wr => ∃ t : Nat, t ≤ mr ∧ i = .int .i64 t ∧ Hid (IS wr g (.slice (some ⟨g, 0, none⟩) n n) (zz F n (fun i => decide (cnt F (F i) < t))) ∧ Chg g (g + 1) w9 wr)) (fun i _ => mr - (intOf i).toNat)
      case atStart => exact ⟨0, Nat.zero_le _, rfl, H9.out.2.2.1, Chg.refl _ _ _⟩
      case round =>
        obtain ⟨t, ht, rfl, hT⟩ := hrel
        by_cases hlt : t < mr
        · have htl : t < (reps F n).length := by rw [← H9.out.2.2.2.2.1]; exact hlt
          have hrw9 : NT wr (g + 1) (.slice ra mr rc) (up (reps F n)) := og_nt.1 (og_keepB (og_nt.2 H9.out.1) (fun g9 hg9 => hT.out.2.block g9 (NT.lt H9.out.1 g9 hg9).2 (Or.inr (NT.lt H9.out.1 g9 hg9).1)))
          obtain ⟨g2, o, c2, he, hg2, hj⟩ := hrw9.rg.pos (by rw [up_len]; omega)
          simp only [Value.slice.injEq] at he
          obtain ⟨rfl, hx1, hx2⟩ := he
          clear hx1 hx2
          have c0 := hj t (by rw [up_len]; exact htl) 0 (by simp [inC])
          obtain ⟨c, hc⟩ : ∃ c, c = (reps F n)[t] := ⟨_, rfl⟩
          have c1 : wr.cell? ⟨g2, o + t, none⟩ = some (.int .i64 (c : Int)) := by rw [hc]; simpa [inC, up] using c0
          have hcr := reps_mem.1 (show c ∈ reps F n by rw [hc]; exact List.getElem_mem _)
          have hct : cnt F c = t := by rw [hc]; exact reps_at htl
          obtain ⟨⟨a0, n0, c0'⟩, hf⟩ : ∃ u, f (ik c) = some u := by
            cases hf : f (ik c) with
            | none =>
              have h9 := HG.out.1.no _ hf
              rw [vgm_at] at h9
              have h8 : c ∈ vmem F n c := vmem_mem.2 hcr
              unfold up at h9
              rw [List.map_eq_nil_iff] at h9
              rw [h9] at h8
              cases h8
            | some u => exact ⟨u, rfl⟩
          have hkeep : ∀ wx, Chg g (g + 1) w9 wx → ∀ q, q < r → wx.heap[q]? = W.heap[q]? := fun wx hC q hq => by
            have h1 := H9.out.2.2.2.1
            have h2 := HR.out
            rw [hC.block q (by have := H9.out.2.2.2.2.2.2; omega) (Or.inl (by omega))]
            exact H9.out.2.1.block q hq
          have hTM : TM wr 3 B nn f := HG.out.1.tm.block (hkeep wr hT.out.2 B HG.out.2.2.2.2)
          have hlook : (Instr.lookup 51 (.map (some B)) (.int .i64 (c : Int)) false).run Try.prog wr = .ok (.slice a0 n0 c0') wr := by
            have h9 := hTM.look ik_law Try.underlying51 (ik_zero _) (ik_key c (by omega))
            rw [hf] at h9
            exact h9
          have hmV := HG.out.1.own (ik c) (a0, n0, c0') hf
          rw [vgm_at] at hmV
          have HMW : Hid (∀ wx, Chg g (g + 1) w9 wx → NT wx (B + 1) (.slice a0 n0 c0') (up (vmem F n c))) := fun wx hC => og_nt.1 (og_keepB hmV (fun g9 hg9 => hkeep wx hC g9 (by have := (OG.lt hmV g9 hg9).2; have := HR.out; omega)))
          have hn0 : n0 = (vmem F n c).length := by
            obtain ⟨_, _, e9⟩ := (HMW.out wr hT.out.2).form
            injection e9 with _ e9 _
            rw [e9, up_len]
          have hn06 : n0 ≤ 60 := by
            rw [hn0]
            unfold vmem
            exact Nat.le_trans (List.length_filter_le _ _) (by simp; omega)
          have HVM : Hid (n0 = (vmem F n c).length ∧ cnt F c = t ∧ c = (reps F n)[t]) := ⟨hn0, hct, hc⟩
          have HST : Hid (IS wr g (.slice (some ⟨g, 0, none⟩) n n) (zz F n (fun i => decide (cnt F (F i) < t) || decide (i ∈ (vmem F n c).take 0))) ∧ Chg g (g + 1) w9 wr) := ⟨by rw [zz_congr (Q := fun i => decide (cnt F (F i) < t)) (fun i _ => by simp)]; exact hT.out.1, hT.out.2⟩
          have b0 : (0 : Int) ≤ (t : Int) := by omega
          have b1 : (t : Int) < (mr : Int) := by omega
          clear hrw9 hj c0 hc hcr hct hf hkeep hTM hmV hn0 hT
          go_wp2
          go_loopw [37] (fun i wr => ∃ u : Nat, u ≤ n0 ∧ i = .int .i64 u ∧ Hid (IS wr g (.slice (some ⟨g, 0, none⟩) n n) (zz F n (fun i => decide (cnt F (F i) < t) || decide (i ∈ (vmem F n c).take u))) ∧ Chg g (g + 1) w9 wr)) (fun i _ => n0 - (intOf i).toNat)
          case atStart => exact ⟨0, Nat.zero_le _, rfl, HST.out⟩
          case round =>
            clear HST hlook c1
            obtain ⟨u, hu, rfl, hU⟩ := hrel
            by_cases hlu : u < n0
            · have hul : u < (vmem F n c).length := by rw [← HVM.out.1]; exact hlu
              obtain ⟨g3, o3, c3, he3, hg3, hj3⟩ := (HMW.out _ hU.out.2).rg.pos (by rw [up_len]; omega)
              simp only [Value.slice.injEq] at he3
              obtain ⟨rfl, hx1, hx2⟩ := he3
              clear hx1 hx2
              have d0 := hj3 u (by rw [up_len]; exact hul) 0 (by simp [inC])
              obtain ⟨j, hjj⟩ : ∃ j, j = (vmem F n c)[u] := ⟨_, rfl⟩
              have d1 : wr.cell? ⟨g3, o3 + u, none⟩ = some (.int .i64 (j : Int)) := by rw [hjj]; simpa [inC, up] using d0
              have hjm := vmem_mem.1 (show j ∈ vmem F n c by rw [hjj]; exact List.getElem_mem _)
              obtain ⟨y, hy⟩ : ∃ y, (zz F n (fun i => decide (cnt F (F i) < t) || decide (i ∈ (vmem F n c).take u)))[j]? = some y := ⟨_, List.getElem?_eq_getElem (by rw [zz_len]; exact hjm.1)⟩
              obtain ⟨e0, ef⟩ := hU.out.1.cellAt hy
              have el := (IS.lt hU.out.1 g rfl).2
              have HN : Hid (IS (wr.setCell ⟨g, j, none⟩ (.int .i64 (t : Int))) g (.slice (some ⟨g, 0, none⟩) n n) (zz F n (fun i => decide (cnt F (F i) < t) || decide (i ∈ (vmem F n c).take (u + 1)))) ∧ Chg g (g + 1) w9 (wr.setCell ⟨g, j, none⟩ (.int .i64 (t : Int)))) := by
                refine ⟨?_, hU.out.2.trans (Chg.set _ _ (Nat.le_refl _) (by omega))⟩
                have h9 := hU.out.1.put j (t : Int)
                rw [zz_set (by rw [hjm.2, HVM.out.2.1])] at h9
                rw [zz_congr (Q := fun i => (decide (cnt F (F i) < t) || decide (i ∈ (vmem F n c).take u)) || decide (i = j)) (fun i _ => by
                  rw [List.take_succ_eq_append_getElem hul, ← hjj]
                  by_cases h1 : cnt F (F i) < t <;> by_cases h2 : i ∈ (vmem F n c).take u <;> by_cases h3 : i = j <;> simp [h1, h2, h3])]
                exact h9
              have b2 : (0 : Int) ≤ (u : Int) := by omega
              have b3 : (u : Int) < (n0 : Int) := by omega
              have b4 : (0 : Int) ≤ (j : Int) := by omega
              have b5 : (j : Int) < (n : Int) := by omega
              clear hjj hj3 d0 hy hU
              go_wp2
              go_roundw
              case rel => exact ⟨u + 1, by omega, by go_num, HN.out⟩
              case measure => simp [intOf]; omega
            · obtain rfl : u = n0 := by omega
              have HN : Hid (IS wr g (.slice (some ⟨g, 0, none⟩) n n) (zz F n (fun i => decide (cnt F (F i) < t + 1))) ∧ Chg g (g + 1) w9 wr) := by
                refine ⟨?_, hU.out.2⟩
                have h9 := hU.out.1
                rw [zz_congr (Q := fun i => decide (cnt F (F i) < t + 1)) (fun i hi => by
                  rw [HVM.out.1, List.take_length]
                  obtain ⟨h1, h2⟩ := reps_has HG.out.2.2.1 HG.out.2.2.2.1 hi
                  by_cases h3 : F i = c
                  · have h4 : cnt F (F i) = t := by rw [h3]; exact HVM.out.2.1
                    have h5 : i ∈ vmem F n c := vmem_mem.2 ⟨hi, h3⟩
                    simp [h4, h5]
                  · have h4 : cnt F (F i) ≠ t := fun e => h3 (by rw [← h2, HVM.out.2.2]; simp only [e])
                    have h5 : i ∉ vmem F n c := fun h => h3 (vmem_mem.1 h).2
                    simp only [h5, decide_false, Bool.or_false]
                    by_cases h6 : cnt F (F i) < t
                    · simp [h6]; omega
                    · simp [h6]; omega)] at h9
                exact h9
              clear hU
              go_wp2
              go_roundw
              case rel => exact ⟨t + 1, by omega, by go_num, HN.out⟩
              case measure => simp [intOf]; omega
        · obtain rfl : t = mr := by omega
          have HE : Hid (IS wr W.heap.size (.slice (some ⟨g, 0, none⟩) n n) (nums F n) ∧ Below W.heap.size W wr) := by
            have h1 := H9.out.2.2.2.1
            have h2 := HR.out
            refine ⟨?_, ?_⟩
            · have h9 := hT.out.1
              rw [zz_all (fun i hi => by
                obtain ⟨h3, _⟩ := reps_has HG.out.2.2.1 HG.out.2.2.2.1 hi
                rw [← H9.out.2.2.2.2.1] at h3
                simp [h3])] at h9
              exact IS.low h9 (by omega)
            · have h9 : Below r W wr := H9.out.2.1.trans (hT.out.2.below (by omega) (by have := H9.out.2.2.2.2.2.2; omega))
              rw [← h2]; exact h9
          clear hT hlt
          go_wp2
          go_returns
          exact ⟨_, rfl, HE.out⟩
    · intro x a0 n0 c0 kl w8 cnt8 hkey hlk hf hTR8 hlt8 hg8 hs8 hen
      obtain ⟨i, hi, hkl⟩ := vgm_key (HG.out.2.1 kl _ hf)
      obtain ⟨c, hc⟩ : ∃ c, c = F i := ⟨_, rfl⟩
      rw [← hc] at hkl
      have hck : c < n := by have := HG.out.2.2.1 i hi; omega
      obtain ⟨x', e1, e2, _⟩ := Maps.keyOf_int_inv Try.underlying3 hkey
      have hxc : x = (c : Int) := by
        injection e1 with _ e1
        rw [hkl] at e2
        unfold ik at e2
        injection e2 with _ e2
        omega
      subst hxc
      subst hkl
      clear e1 e2 hkey hc hi
      have hB8 : Below r W w8 := hBr.grown hg8 (Nat.le_of_lt hrw) (fun q hq => by injection hq with hq; omega)
      have hNT8 : NT w8 (r + 1) (.slice va mc vc) (up cs) := og_nt.1 (og_keep (og_nt.2 hNT) hg8 (by
        cases hv : (Value.slice va mc vc).ownBlock with
        | none => exact Or.inl rfl
        | some g => exact Or.inr (fun e => by injection e with e; have := (NT.lt hNT g hv).1; omega)))
      have hcn : c ∉ cs := fun h => by have := ((hmem c).1 h).1; rw [hlk] at this; cases this
      have hmem8 : ∀ c', c' ∈ cs ++ [c] ↔ ((fun z => left z && !z.sameKey (ik c)) (ik c') = false ∧ (f (ik c')).isSome = true) := by
        intro c'
        by_cases e : c' = c
        · subst e; simp [ik_same, hf]
        · have h1 : (ik c').sameKey (ik c) = false := by rw [ik_dec]; simp; exact fun h => e h.symm
          simp [h1, e, hmem c']
      have HLT : Hid (cnt8 < kq ∧ wr.rangeLeft B r = kq) := ⟨hlt8, hTR.left_eq⟩
      have HOW : Hid ((w8.alloc (.cells #[.int .i64 (c : Int)] 3)).ownsRow (r + 1) 3 1 (.slice va mc vc) mc ((up cs).map (Value.int .i64))) := by
        have h9 := hNT8
        unfold NT at h9
        rw [up_len, ← HMC.out] at h9
        exact World.ownsRow.alloc h9 _
      have HNW : Hid (∀ jj u, [Value.int .i64 (c : Int)][jj]? = some u → (w8.alloc (.cells #[.int .i64 (c : Int)] 3)).cell? ((⟨w8.heap.size, 0, none⟩ : Addr).add jj) = some u) := World.news_of_block (cs := #[.int .i64 (c : Int)]) (t := 3) (fr := (0, 0)) (heap_alloc_new w8 _)
      have HLL : Hid (r + 1 ≤ (w8.alloc (.cells #[.int .i64 (c : Int)] 3)).heap.size) := by unfold Hid; simp; omega
      have HPU : Hid (∀ v3 w3, w3.ownsRow (r + 1) 3 1 v3 (mc + 1) ((up cs).map (Value.int .i64) ++ [.int .i64 (c : Int)]) → (w8.alloc (.cells #[.int .i64 (c : Int)] 3)).grownBy w3 (Value.slice va mc vc).ownBlock → TR w3 3 B r nn f (fun z => left z && !z.sameKey (ik c)) cnt8 ∧ NT w3 (r + 1) v3 (up (cs ++ [c])) ∧ (cs ++ [c]).Nodup ∧ (∀ d9, d9 ∈ (cs ++ [c]) ↔ ((fun z => left z && !z.sameKey (ik c)) (ik d9) = false ∧ (f (ik d9)).isSome = true)) ∧ Below r W w3 ∧ r < w3.heap.size) := by
        intro v3 w3 h1 h2
        have hlw : ∀ g, (Value.slice va mc vc).ownBlock = some g → r + 1 ≤ g := fun g hg9 => (NT.lt hNT8 g hg9).1
        have hBB := HG.out.2.2.2.2
        have b9 : Below w8.heap.size w8 (w8.alloc (.cells #[.int .i64 (c : Int)] 3)) := by (repeat' (first | (with_reducible exact Below.refl _ _) | (with_reducible assumption) | (with_reducible refine Below.setCell ?_ ?_ _) | (with_reducible refine Below.alloc ?_ ?_ _) | (with_reducible refine below_drewN ?_ _) | (with_reducible refine Below.drew ?_) | (with_reducible exact Nat.le_refl _) | omega | (simp; done) | (simp; omega)))
        refine ⟨(hTR8.below b9).kept h2 (fun e => by have := hlw B e.symm; omega) (fun e => by have := hlw r e.symm; omega), ?_, ?_, hmem8, ?_, ?_⟩
        · unfold NT
          rw [up_app, List.length_append, up_len, ← HMC.out, List.map_append]
          exact h1
        · rw [List.nodup_append]
          refine ⟨hnd, by simp, fun a ha b hb e => ?_⟩
          have hbc : b = c := by simpa using hb
          exact hcn (by rw [← hbc, ← e]; exact ha)
        · exact (hB8.trans (b9.mono (by omega))).grown h2 (by have := HLL.out; omega) (fun g hg9 => by have := hlw g hg9; omega)
        · have := h2.size; have := HLL.out; omega
      obtain ⟨i0, hi0, hz0, hz1, hz2⟩ := info_parts info_vint
      clear hmem8 hcn hNT8 hB8 hTR8 hlt8 hg8 hs8 hlk hf hTR hNT hnd hmem hBr hrw hR hrep HMC
      go_wp2_with (at_builtin; refine wpList_append_own_at _ rfl _ _ 44 rfl (r + 1) 3 i0 (.int .i64 0) 1 8 Try.underlying44 hi0 hz0 hz1 hz2 rfl (by decide) (.slice va mc vc) mc _ rfl HOW.out ⟨w8.heap.size, 0, none⟩ 1 1 [.int .i64 (c : Int)] rfl rfl HNW.out (by simp [Value.oneCell']) (by unfold maxLen; omega) (by omega) HLL.out ?_; intro v3 w3 hown3 hgrow3 _ _; have HN := HPU.out v3 w3 hown3 hgrow3; have HN2 : Hid (TR w3 3 B r nn f (fun z => left z && !z.sameKey (ik c)) cnt8 ∧ NT w3 (r + 1) v3 (up (cs ++ [c])) ∧ (cs ++ [c]).Nodup ∧ (∀ d9, d9 ∈ (cs ++ [c]) ↔ ((fun z => left z && !z.sameKey (ik c)) (ik d9) = false ∧ (f (ik d9)).isSome = true)) ∧ Below r W w3 ∧ r < w3.heap.size) := HN; clear HN hown3 hgrow3)
      go_roundw
      case rel => exact ⟨_, _, cs ++ [c], _, rfl, HN2.out⟩
      case measure => rw [HN2.out.1.left_eq, HLT.out.2]; exact HLT.out.1

end Go.Proofs.Ytngpjglcjbdblaa
