/- Proved here: ClassBook of the program. -/
import Derived.Test.YtjacmneopijiaaaVkM
import Derived.Test.YtjacmneopijiaaaRowPut
import Derived.Test.YtjacmneopijiaaaVtI
import Derived.Test.YtjacmneopijiaaaVxI
import Derived.Deep.AppendLies
namespace Go.Proofs.Ytjacmneopijiaaa
open Go.RowKit Go.Maps
set_option linter.unusedVariables false
set_option linter.unusedSimpArgs false

set_option maxRecDepth 10000 in
set_option maxHeartbeats 25600000 in
theorem impl_vk {W : World} {v u : Value} {s : List Dft} {cs : List Cls} (hn : s.length ≤ 1048576) (hm : cs.length ≤ 1048576) (h : RG 4 vdC W v s) (k : RG 6 vcC W u cs) :
    Calls Try.prog 24 #[v, u] W fun e w' => ∃ v, e = .returned (.agg #[.int .i64 (vkC s cs), v]) ∧ IS w' W.heap.size v (vkL s cs) ∧ Below W.heap.size W w' := by
  obtain ⟨da, dc, rfl⟩ := h.form
  obtain ⟨ca, cc, rfl⟩ := k.form
  obtain ⟨C, hC⟩ : ∃ C, C = vkC s cs := ⟨_, rfl⟩
  obtain ⟨L, hL⟩ : ∃ L, L = vkL s cs := ⟨_, rfl⟩
  obtain ⟨dn, hdn⟩ : ∃ n, n = s.length := ⟨_, rfl⟩
  obtain ⟨cn, hcn⟩ : ∃ n, n = cs.length := ⟨_, rfl⟩
  have HF : Hid (∀ X, Below W.heap.size W X → Calls Try.prog 47 #[.slice da dn dc, .slice ca cn cc] X fun e w' => e = .returned (.int .i64 C) ∧ Below X.heap.size X w') := fun X hX => by
    rw [hC, hdn, hcn]; exact impl_vx hn hm (h.below hX) (k.below hX)
  rw [← hdn] at h ⊢
  rw [← hcn] at k ⊢
  rw [← hC, ← hL]
  have H : Hid (RG 4 vdC W (.slice da dn dc) s ∧ RG 6 vcC W (.slice ca cn cc) cs ∧ C = vxF s cs ∧ dn = s.length ∧ cn = cs.length) := ⟨h, k, hC, hdn, hcn⟩
  have HL : Hid (L = vkL s cs) := hL
  clear h k hC hdn hcn hL hn hm
  obtain ⟨k0, hk0⟩ : ∃ k, k = W.heap.size := ⟨_, rfl⟩
  obtain ⟨V0, hV0⟩ : ∃ V, V = W.alloc (.cells #[.int .i64 0, .slice none 0 0] 47) := ⟨_, rfl⟩
  have HB0 : Hid (Below k0 W V0 ∧ V0.heap.size = k0 + 1 ∧ k0 = W.heap.size) := ⟨by rw [hV0, hk0]; (repeat' (first | (with_reducible exact Below.refl _ _) | (with_reducible assumption) | (with_reducible refine Below.setCell ?_ ?_ _) | (with_reducible refine Below.alloc ?_ ?_ _) | (with_reducible refine below_drewN ?_ _) | (with_reducible refine Below.drew ?_) | (with_reducible exact Nat.le_refl _) | omega | (simp; done) | (simp; omega))), by rw [hV0, hk0]; simp, hk0⟩
  have HQ1 : Hid (V0.heap[k0]? = some (.cells #[.int .i64 0, .slice none 0 0] 47)) := by rw [hV0, hk0]; exact heap_alloc_new W _
  have HV0 : Hid (V0 = W.alloc (.cells #[.int .i64 0, .slice none 0 0] 47) ∧ k0 = W.heap.size) := ⟨hV0, hk0⟩
  clear hV0 hk0
  go_enter Try.func24, Try.ntmps24
  go_wp2_with (fail)
  rw [← HV0.out.1, ← HV0.out.2]
  clear HV0
  refine (HF.out _ (by rw [← HB0.out.2.2]; exact HB0.out.1)).mono ?_
  rintro e w1 ⟨rfl, hb1⟩
  have HB1 : Hid (Below k0 W w1) := HB0.out.1.trans (hb1.mono (by have := HB0.out.2; omega))
  have q1 := (hb1.block k0 (by have := HB0.out.2; omega)).trans HQ1.out
  have HKW : Hid (k0 = W.heap.size ∧ k0 + 1 ≤ w1.heap.size) := ⟨HB0.out.2.2, by have := hb1.size; have := HB0.out.2; omega⟩
  clear hb1 HQ1 HB0 HF
  by_cases hc : C = 0
  case neg =>
    have hc2 : (C != 0) = true := by simp [hc]
    have HE : Hid (L = []) := by unfold Hid; rw [HL.out]; exact vkL_bad (by rw [← H.out.2.2.1]; exact hc)
    have z0 : w1.cell? ⟨k0, 0, none⟩ = some (.int .i64 0) := cellOf q1 0 rfl
    have z1 : w1.cell? ⟨k0, 1, none⟩ = some (.slice none 0 0) := cellOf q1 1 rfl
    have zf0 := frozOf q1 0
    have zf1 := frozOf q1 1
    have zl := ltOf q1
    have e1 : (w1.setCell ⟨k0, 0, none⟩ (.int .i64 C)).cell? ⟨k0, 0, none⟩ = some (.int .i64 C) := cellOf (tset2 (b' := .int .i64 0) q1).1 0 rfl
    have e2 : ((w1.setCell ⟨k0, 0, none⟩ (.int .i64 C)).setCell ⟨k0, 1, none⟩ (.slice none 0 0)).cell? ⟨k0, 1, none⟩ = some (.slice none 0 0) := cellOf (tset2 q1).2 1 rfl
    have e3 : ((w1.setCell ⟨k0, 0, none⟩ (.int .i64 C)).setCell ⟨k0, 1, none⟩ (.slice none 0 0)).cell? ⟨k0, 0, none⟩ = some (.int .i64 C) := cellOf (tset2 q1).2 0 rfl
    clear q1 hc
    go_wp2
    refine bodyPost_ret (by simp [results, Try.results24, go_sem, e1, e2, e3, zl]; try rfl) rfl ?_
    refine ⟨.slice none 0 0, rfl, ?_, ?_⟩
    · rw [HE.out]; exact World.ownsRow_nil _ _ _ _
    · rw [← HKW.out.1]
      exact (HB1.out.setCell (Nat.le_refl _) _).setCell (Nat.le_refl _) _
  obtain ⟨hf1, hf2⟩ := vxF_ok (s := s) (cs := cs) (by rw [← H.out.2.2.1]; exact hc)
  have hdok := vdF_ok hf1
  have hcok := vcF_ok hf2
  have HL2 : Hid (L = vkT cs s dn (cn + 1)) := by unfold Hid; rw [HL.out, vkL_ok (by rw [← H.out.2.2.1]; exact hc), H.out.2.2.2.1, H.out.2.2.2.2]
  have hdb : dn ≤ 60 := by rw [H.out.2.2.2.1]; exact hdok.1
  have hcb : cn ≤ 20 := by rw [H.out.2.2.2.2]; exact hcok.1
  clear HL hf1 hf2
  subst hc
  obtain ⟨i0, hi, hz0, hz1, hz2⟩ := info_parts info_i64
  have hA1 : (0 : Int) ≤ (cn : Int) := by omega
  obtain ⟨tb, htb⟩ : ∃ t, t = w1.heap.size := ⟨_, rfl⟩
  have HT : Hid (Calls Try.prog 44 #[.slice ca cn cc] w1 fun e w' => e = .returned (.agg #[.slice ca cn cc, .map (some (tb + 1))]) ∧ TBL w' tb cs cs.length ∧ Below w1.heap.size w1 w') := by
    rw [htb]; exact impl_table hcok.1 hcok.2 (H.out.2.1.below (by rw [← HKW.out.1]; exact HB1.out))
  have HTB : Hid (tb = w1.heap.size) := htb
  clear htb
  have hmk := ck_make
  go_wp2_with (fail)
  refine HT.out.mono ?_
  rintro e w2 ⟨rfl, hT2, hb2⟩
  obtain ⟨b, hb⟩ : ∃ b, b = w2.heap.size := ⟨_, rfl⟩
  obtain ⟨m, hm⟩ : ∃ m, m = cn + 1 := ⟨_, rfl⟩
  obtain ⟨V2, hV2⟩ : ∃ V, V = (w2.alloc (.map #[] 0)).alloc (.cells #[.slice ca cn cc, .map (some (tb + 1))] 79) := ⟨_, rfl⟩
  have HW2 : Hid (TBL w2 tb cs cs.length ∧ Below k0 W w2 ∧ w2.heap[k0]? = some (.cells #[.int .i64 0, .slice none 0 0] 47) ∧ k0 < b ∧ b = w2.heap.size) :=
    ⟨hT2, HB1.out.trans (hb2.mono (by have := HKW.out.2; omega)), (hb2.block _ (ltOf q1)).trans q1, by have := hb2.size; have := HKW.out.2; omega, hb⟩
  have HS0 : Hid (0 ≤ 0 ∧ CM V2 b 0 m (vkN cs (s.take 0)) ∧ V2.heap[b + 1]? = some (.cells #[.slice ca cn cc, .map (some (tb + 1))] 79) ∧ Below w2.heap.size w2 V2) := by
    refine ⟨Nat.le_refl _, ?_, ?_, ?_⟩
    · rw [hV2, hb]
      exact ((CM.made w2 m).below (by (repeat' (first | (with_reducible exact Below.refl _ _) | (with_reducible assumption) | (with_reducible refine Below.setCell ?_ ?_ _) | (with_reducible refine Below.alloc ?_ ?_ _) | (with_reducible refine below_drewN ?_ _) | (with_reducible refine Below.drew ?_) | (with_reducible exact Nat.le_refl _) | omega | (simp; done) | (simp; omega))))).conv (fun q => by simp [vkN_nil])
    · rw [hV2, hb]
      have := heap_alloc_new (w2.alloc (.map #[] 0)) (.cells #[.slice ca cn cc, .map (some (tb + 1))] 79)
      simpa using this
    · rw [hV2]; (repeat' (first | (with_reducible exact Below.refl _ _) | (with_reducible assumption) | (with_reducible refine Below.setCell ?_ ?_ _) | (with_reducible refine Below.alloc ?_ ?_ _) | (with_reducible refine below_drewN ?_ _) | (with_reducible refine Below.drew ?_) | (with_reducible exact Nat.le_refl _) | omega | (simp; done) | (simp; omega)))
  have HV2 : Hid (V2 = (w2.alloc (.map #[] 0)).alloc (.cells #[.slice ca cn cc, .map (some (tb + 1))] 79) ∧ b = w2.heap.size) := ⟨hV2, hb⟩
  have HM : Hid (m = cn + 1) := hm
  clear hT2 hb2 hb hm hV2 HT q1 HB1
  go_wp2
  rw [← HV2.out.1, ← HV2.out.2]
  clear HV2 hmk
  go_loopw [25] (fun i wr => ∃ j nn : Nat, j ≤ dn ∧ i = .int .i64 j ∧ Hid (nn ≤ j ∧ CM wr b nn m (vkN cs (s.take j)) ∧ wr.heap[b + 1]? = some (.cells #[.slice ca cn cc, .map (some (tb + 1))] 79) ∧ Below w2.heap.size w2 wr)) (fun i _ => dn - (intOf i).toNat)
  case atStart => exact ⟨0, 0, Nat.zero_le _, rfl, HS0.out⟩
  case round =>
    clear HS0
    obtain ⟨j, nn, hj, rfl, hR⟩ := hrel
    have hB2 := hR.out.2.2.2
    have hBW : Below W.heap.size W wr := by rw [← HKW.out.1]; exact HW2.out.2.1.trans (hB2.mono (by have := HW2.out.2.2.2; omega))
    by_cases hlt : j < dn
    · have hjl : j < s.length := by rw [← H.out.2.2.2.1]; exact hlt
      obtain ⟨gd, od, c2, he, hgd, hjc⟩ := (H.out.1.below hBW).pos (by omega)
      simp only [Value.slice.injEq] at he
      obtain ⟨rfl, hx1, hx2⟩ := he
      clear hx1 hx2
      obtain ⟨c0, c1, c2', c3⟩ := vdC_at (hjc j hjl)
      obtain ⟨d, hd⟩ : ∃ d, d = s[j] := ⟨_, rfl⟩
      rw [← hd] at c0 c1 c2' c3
      have hdk : Vok d := by rw [hd]; exact hdok.2 _ (List.getElem_mem _)
      obtain ⟨R, hRR⟩ : ∃ R, R = vff d cs := ⟨_, rfl⟩
      obtain ⟨V, hV⟩ : ∃ V, V = wr.alloc (.cells #[.int .i64 d.x, .int .i64 d.y, .int .i64 d.z, .int .i64 d.k] 41) := ⟨_, rfl⟩
      have bV : Below wr.heap.size wr V := by rw [hV]; (repeat' (first | (with_reducible exact Below.refl _ _) | (with_reducible assumption) | (with_reducible refine Below.setCell ?_ ?_ _) | (with_reducible refine Below.alloc ?_ ?_ _) | (with_reducible refine below_drewN ?_ _) | (with_reducible refine Below.drew ?_) | (with_reducible exact Nat.le_refl _) | omega | (simp; done) | (simp; omega)))
      have bWV : Below W.heap.size W V := hBW.trans (bV.mono hBW.size)
      have b2V : Below w2.heap.size w2 V := hB2.trans (bV.mono hB2.size)
      have HFF : Hid (Calls Try.prog 45 #[.agg #[.slice ca cn cc, .map (some (tb + 1))], .agg #[.int .i64 d.x, .int .i64 d.y, .int .i64 d.z, .int .i64 d.k]] V fun e w' => e = .returned (.int .i64 (R : Int)) ∧ Below V.heap.size V w') := by
        rw [hRR]; exact impl_ff d (by have h9 := hdk.2.2.2.2.2.2; omega) hcb (H.out.2.1.below bWV) (HW2.out.1.below b2V)
      have hRm : R < m := by have h9 := vff_le d cs; rw [← hRR, ← H.out.2.2.2.2] at h9; have := HM.out; omega
      obtain ⟨X, hX⟩ : ∃ X, X = vkN cs (s.take j) R := ⟨_, rfl⟩
      have hXb : 0 ≤ X ∧ X ≤ 60 := by
        rw [hX]
        have h9 := vkN_bd cs (s.take j) R
        have h8 : (s.take j).length ≤ j := by simp; omega
        omega
      have HNX : Hid (X = vkN cs (s.take j) R ∧ ∀ q, (if R = q then X + 1 else vkN cs (s.take j) q) = vkN cs (s.take (j + 1)) q) := by
        refine ⟨hX, fun q => ?_⟩
        rw [vkN_succ hjl, ← hd, ← hRR]
        by_cases e9 : R = q
        · rw [if_pos e9, if_pos e9, hX, e9]
        · rw [if_neg e9, if_neg e9]
      have HQV : Hid (nn ≤ j ∧ CM V b nn m (vkN cs (s.take j)) ∧ V.heap[b + 1]? = some (.cells #[.slice ca cn cc, .map (some (tb + 1))] 79) ∧ Below w2.heap.size w2 V) := ⟨hR.out.1, hR.out.2.1.below bV, (bV.block _ (ltOf hR.out.2.2.1)).trans hR.out.2.2.1, b2V⟩
      have HV : Hid (V = wr.alloc (.cells #[.int .i64 d.x, .int .i64 d.y, .int .i64 d.z, .int .i64 d.k] 41)) := hV
      have t0 : wr.cell? ⟨b + 1, 0, none⟩ = some (.slice ca cn cc) := cellOf hR.out.2.2.1 0 rfl
      have t1 : wr.cell? ⟨b + 1, 1, none⟩ = some (.map (some (tb + 1))) := cellOf hR.out.2.2.1 1 rfl
      have tl := ltOf hR.out.2.2.1
      clear hjc hd hdk hRR hX hR hBW hB2 hV bV bWV b2V
      have b0 : (0 : Int) ≤ (j : Int) := by omega
      have b1 : (j : Int) < (dn : Int) := by omega
      go_wp2_with (fail)
      rw [← HV.out]
      clear HV t0 t1 tl c0 c1 c2' c3 hgd
      refine HFF.out.mono ?_
      rintro e w5 ⟨rfl, hb5⟩
      have hC5 := HQV.out.2.1.below hb5
      have hl := hC5.look (i := R) (by have := HM.out; omega)
      rw [← HNX.out.1] at hl
      obtain ⟨w6, hu, hC6, hg6⟩ := hC5.put hRm (by have := HM.out; omega) (by have := HQV.out.1; omega) (v := X + 1) (by omega)
      have q5 := (hb5.block _ (ltOf HQV.out.2.2.1)).trans HQV.out.2.2.1
      have HNE : Hid (nn + 1 ≤ j + 1 ∧ CM w6 b (nn + 1) m (vkN cs (s.take (j + 1))) ∧ w6.heap[b + 1]? = some (.cells #[.slice ca cn cc, .map (some (tb + 1))] 79) ∧ Below w2.heap.size w2 w6) :=
        ⟨by have := HQV.out.1; omega, hC6.conv HNX.out.2, (hg6.block _ (ltOf q5) (fun e => by injection e with e; omega)).trans q5, (HQV.out.2.2.2.trans (hb5.mono HQV.out.2.2.2.size)).grown hg6 (by have := hb5.size; have := HQV.out.2.2.2.size; omega) (fun q hq => by injection hq with hq; have := HW2.out.2.2.2.2; omega)⟩
      clear hb5 hC5 hC6 hg6 q5 HQV HFF HNX
      go_wp2
      go_roundw
      case rel => exact ⟨j + 1, nn + 1, by omega, by go_num, HNE.out⟩
      case measure => simp [intOf]; omega
    · obtain rfl : j = dn := by omega
      obtain ⟨D, hD, hCT⟩ := hR.out.2.1.own
      have HCT : Hid (CT D m (vkN cs (s.take j))) := hCT
      have HB2 : Hid (Below w2.heap.size w2 wr) := hB2
      obtain ⟨g, hg⟩ : ∃ g, g = wr.heap.size := ⟨_, rfl⟩
      have HGG : Hid (g = wr.heap.size ∧ b + 1 < g) := ⟨hg, by rw [hg]; exact ltOf hR.out.2.2.1⟩
      clear hCT hB2 hBW hR hlt hg
      go_wp2_with (first
        | (at_make; refine wpList_make_full _ rfl _ _ 45 rfl wr.heap.size 2 i0 (.int .i64 0) 1 Try.underlying45 hi hz0 hz1 _ _ _ _ (cn + 1) rfl rfl (by simp) (by simp) (by rw [hz2]; omega) (by unfold maxLen; omega) (Nat.le_refl _) ?_; intro w6 hown6 hgrow6; have hD6 := hD.kept hgrow6 (by simp))
        | (at_range; refine wpList_range_own _ rfl _ 83 rfl 3 2 ck_law Try.underlying83 _ b nn D rfl hD6 ?_; intro w7 hrg7 hg7 hs7)
        | go_in)
      go_frame
      obtain ⟨r, hr⟩ : ∃ r, r = w6.heap.size := ⟨_, rfl⟩
      rw [← hr] at hrg7 ⊢
      rw [← HGG.out.1] at hown6 ⊢
      rw [← HM.out] at hown6 ⊢
      have HB6 : Hid (Below w2.heap.size w2 w6) := HB2.out.grown hgrow6 HB2.out.size (fun k h => by cases h)
      have hI6 : IS w6 g (.slice (some ⟨g, 0, none⟩) m m) (List.replicate m 0) := IS.made hown6
      have HGR : Hid (g < r) := by rw [hr]; exact (hI6.lt g rfl).2
      have HS7 : Hid (w7.ranges Try.prog 3 (plainElem Try.prog 2) b r nn D (Maps.has D) (Maps.size D) ∧ CL (Maps.has D) (vkN cs (s.take j)) m (List.replicate m 0) ∧ IS w7 g (.slice (some ⟨g, 0, none⟩) m m) (List.replicate m 0) ∧ Below w2.heap.size w2 w7) :=
        ⟨hrg7, CL.start HCT.out, hI6.bel ⟨hg7.os, hg7.tape, hg7.output, hg7.size, fun k hk => hg7.block k hk (by simp)⟩, HB6.out.grown hg7 HB6.out.size (fun k h => by cases h)⟩
      clear hrg7 hg7 hs7 hI6 HB6 hr hown6 hgrow6 hD6 hD
      go_loopw [42] (fun _ wq => ∃ (left : Lit → Bool) (kk : Nat) (Z : List Int), Hid (wq.ranges Try.prog 3 (plainElem Try.prog 2) b r nn D left kk ∧ CL left (vkN cs (s.take j)) m Z ∧ IS wq g (.slice (some ⟨g, 0, none⟩) m m) Z ∧ Below w2.heap.size w2 wq)) (fun _ wq => wq.rangeLeft b r)
      case atStart => exact ⟨_, _, _, HS7.out⟩
      case round =>
        clear HS7
        obtain ⟨left, kk, Z, hR2⟩ := hrel
        have hrg := hR2.out.1
        go_wp2_with (first
          | (at_next; refine wpList_next_ranges_ii _ rfl _ rfl 3 2 .i64 .i64 ck_law Try.underlying3 Try.underlying2 b r nn _ _ _ rfl hrg ?_ ?_)
          | go_in)
        · intro _ hl0
          have HD : Hid (IS wr g (.slice (some ⟨g, 0, none⟩) m m) L ∧ Below k0 W wr) := ⟨by
            have h9 := hR2.out.2.1.stop hl0
            have h8 : L = Z := by rw [HL2.out, h9, HM.out]; rfl
            rw [h8]; exact hR2.out.2.2.1, HW2.out.2.1.trans (hR2.out.2.2.2.mono (by have := HW2.out.2.2.2; omega))⟩
          have q2 := (hR2.out.2.2.2.block _ (ltOf HW2.out.2.2.1)).trans HW2.out.2.2.1
          have HGK : Hid (g ≠ k0 ∧ k0 ≤ g) := by have h8 := HW2.out.2.2.2.1; have h7 := HGG.out.2; exact ⟨by omega, by omega⟩
          have z0 : wr.cell? ⟨k0, 0, none⟩ = some (.int .i64 0) := cellOf q2 0 rfl
          have z1 : wr.cell? ⟨k0, 1, none⟩ = some (.slice none 0 0) := cellOf q2 1 rfl
          have zf0 := frozOf q2 0
          have zf1 := frozOf q2 1
          have zl := ltOf q2
          have e1 : (wr.setCell ⟨k0, 0, none⟩ (.int .i64 0)).cell? ⟨k0, 0, none⟩ = some (.int .i64 0) := cellOf (tset2 (b' := .int .i64 0) q2).1 0 rfl
          have e2 : ((wr.setCell ⟨k0, 0, none⟩ (.int .i64 0)).setCell ⟨k0, 1, none⟩ (.slice (some ⟨g, 0, none⟩) m m)).cell? ⟨k0, 1, none⟩ = some (.slice (some ⟨g, 0, none⟩) m m) := cellOf (tset2 q2).2 1 rfl
          have e3 : ((wr.setCell ⟨k0, 0, none⟩ (.int .i64 0)).setCell ⟨k0, 1, none⟩ (.slice (some ⟨g, 0, none⟩) m m)).cell? ⟨k0, 0, none⟩ = some (.int .i64 0) := cellOf (tset2 q2).2 0 rfl
          clear q2 hR2 hrg hl0
          go_wp2
          refine bodyPost_ret (by simp [results, Try.results24, go_sem, e1, e2, e3, zl]; try rfl) rfl ?_
          refine ⟨_, rfl, ?_, ?_⟩
          · refine IS.low (A := W.heap.size) ?_ (by rw [← HKW.out.1]; exact HGK.out.2)
            refine HD.out.1.kept (fun q hq => ?_)
            have h9 : q = g := by injection hq with hq; exact hq.symm
            subst h9
            rw [heap_setCell_other _ _ _ _ (by simpa using HGK.out.1), heap_setCell_other _ _ _ _ (by simpa using HGK.out.1)]
          · rw [← HKW.out.1]
            exact (HD.out.2.setCell (Nat.le_refl _) _).setCell (Nat.le_refl _) _
        · intro x c w8 k8 hwx hwc hlx hat hrg8 hlt8 hg8 hs8 hen
          obtain ⟨i, hi8, rfl, hc8⟩ := HCT.out.key hrg hlx hat
          have hI8 : IS w8 g (.slice (some ⟨g, 0, none⟩) m m) Z := hR2.out.2.2.1.kept (fun q hq => by
            have h9 : q = g := by injection hq with hq; exact hq.symm
            subst h9
            exact hg8.block q (hR2.out.2.2.1.lt q rfl).2 (fun e => by injection e with e; have := HGR.out; omega))
          obtain ⟨y, hy⟩ : ∃ y, Z[i]? = some y := ⟨_, List.getElem?_eq_getElem (by rw [hR2.out.2.1.1]; exact hi8)⟩
          obtain ⟨t1, tf⟩ := hI8.cellAt hy
          have tl := (hI8.lt g rfl).2
          have hB8 : Below w2.heap.size w2 w8 := hR2.out.2.2.2.grown hg8 hR2.out.2.2.2.size (fun q hq => by injection hq with hq; have h9 := HGR.out; have h8 := HGG.out.2; have h7 := HW2.out.2.2.2.2; omega)
          have HNX : Hid ((w8.setCell ⟨g, i, none⟩ (.int .i64 c)).ranges Try.prog 3 (plainElem Try.prog 2) b r nn D (fun z => left z && !z.sameKey (.int .i64 (i : Int))) k8 ∧ CL (fun z => left z && !z.sameKey (.int .i64 (i : Int))) (vkN cs (s.take j)) m (Z.set i c) ∧ IS (w8.setCell ⟨g, i, none⟩ (.int .i64 c)) g (.slice (some ⟨g, 0, none⟩) m m) (Z.set i c) ∧ Below w2.heap.size w2 (w8.setCell ⟨g, i, none⟩ (.int .i64 c))) := by
            refine ⟨hrg8.kept (row := some g) ⟨rfl, rfl, rfl, by simp, fun q hq hne => heap_setCell_other _ _ _ _ (fun e => hne (by simpa using congrArg some e))⟩ (fun e => by injection e with e; have := HGG.out.2; omega) (fun e => by injection e with e; have := HGR.out; omega), hR2.out.2.1.step hi8 hc8, hI8.put i c, hB8.setCell (by have h8 := HGG.out.2; have h7 := HW2.out.2.2.2.2; show w2.heap.size ≤ g; omega) _⟩
          have HLT : Hid (k8 < kk ∧ wr.rangeLeft b r = kk) := ⟨hlt8, hrg.left_eq⟩
          have b0 : (0 : Int) ≤ (i : Int) := by omega
          have b1 : (i : Int) < (m : Int) := by omega
          clear hR2 hrg hrg8 hI8 hB8 hg8 hs8 hlx hat hwx hwc hc8 hy hlt8
          go_wp2
          go_roundw
          case rel => exact ⟨_, _, _, HNX.out⟩
          case measure => rw [HNX.out.1.left_eq, HLT.out.2]; exact HLT.out.1

end Go.Proofs.Ytjacmneopijiaaa
