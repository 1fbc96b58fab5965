/- Proved here: YieldOf of the program. -/
import Derived.Test.YtjacmneopijiaaaVyF
import Derived.Test.YtjacmneopijiaaaVhI
import Derived.Test.YtjacmneopijiaaaVxI
import Derived.Test.YtjacmneopijiaaaFqD
import Derived.Deep.DeepCutAuto
namespace Go.Proofs.Ytjacmneopijiaaa
open Go.RowKit Go.Maps
set_option linter.unusedVariables false
set_option linter.unusedSimpArgs false

/-- The defects of all dice, row by row, up to row j, column i. -/
def vyL (s : List Dft) (p : Int) (W j i : Nat) : List (List Dft) := (List.range j).flatMap (fun b : Nat => (List.range W).map (fun a : Nat => vbL s p (pk (a : Int) (b : Int)))) ++ (List.range i).map (fun a : Nat => vbL s p (pk (a : Int) (j : Int)))
theorem vyL_map (s : List Dft) (cs : List Cls) (p : Int) (W j i : Nat) : (vyL s p W j i).map (fun l => vsG cs l ⟨0, 1, 1⟩) = vyT s cs p W j i := by
  unfold vyL vyT
  rw [List.map_append, List.map_flatMap]
  simp only [List.map_map]
  rfl
theorem vyL_succ (s : List Dft) (p : Int) (W j i : Nat) : vyL s p W j (i + 1) = vyL s p W j i ++ [vbL s p (pk (i : Int) (j : Int))] := by
  unfold vyL; rw [List.range_succ, List.map_append, List.append_assoc]; rfl
theorem vyL_row (s : List Dft) (p : Int) (W j : Nat) : vyL s p W j W = vyL s p W (j + 1) 0 := by
  unfold vyL; rw [List.range_succ, List.flatMap_append]; simp
theorem vyL_len (s : List Dft) (p : Int) (W j i : Nat) : (vyL s p W j i).length = j * W + i := by
  have h := congrArg List.length (vyL_map s [] p W j i)
  rw [List.length_map, vyT_len] at h
  exact h
theorem vy_mem {s : List Dft} {p : Int} {W j i : Nat} {l : List Dft} (hl : l ∈ vyL s p W j i) : ∃ K, l = vbL s p K := by
  unfold vyL at hl
  rw [List.mem_append, List.mem_flatMap] at hl
  rcases hl with ⟨b, _, hb⟩ | hb
  · obtain ⟨a, _, rfl⟩ := List.mem_map.1 hb
    exact ⟨_, rfl⟩
  · obtain ⟨a, _, rfl⟩ := List.mem_map.1 hb
    exact ⟨_, rfl⟩
theorem vy_ok {s : List Dft} {p : Int} {W j i t : Nat} (h : s.length ≤ 60 ∧ ∀ d ∈ s, Vok d) (ht : t < (vyL s p W j i).length) : ((vyL s p W j i)[t]).length ≤ 60 ∧ ∀ d ∈ (vyL s p W j i)[t], Vok d := by
  obtain ⟨K, e⟩ := vy_mem (List.getElem_mem ht)
  rw [e]
  exact vb_ok h.1 h.2
theorem dl_push {P : Sv → List Dft → Prop} {ss : List Sv} {L : List (List Dft)} {u : Sv} {l : List Dft} (hlen : ss.length = L.length) (h : ∀ i (h1 : i < ss.length) (h2 : i < L.length), P ss[i] L[i]) (hu : P u l) : ∀ i (h1 : i < (ss ++ [u]).length) (h2 : i < (L ++ [l]).length), P (ss ++ [u])[i] (L ++ [l])[i] := by
  intro i h1 h2
  by_cases hi : i < ss.length
  · rw [List.getElem_append_left hi, List.getElem_append_left (by omega)]; exact h i hi (by omega)
  · have e : i = ss.length := by simp at h1; omega
    subst e
    have e1 : (ss ++ [u])[ss.length] = u := by simp
    have e2 : (L ++ [l])[ss.length] = l := by simp [hlen]
    rw [e1, e2]; exact hu
theorem hd_field (c O : Int) (ta : Option Addr) (tn tc : Nat) (w : World) : (Instr.field 92 (.agg #[.int .i64 c, .slice ta tn tc, .int .i64 O]) 0).run Try.prog w = .ok (.int .i64 c) w := by kernel_rfl
theorem info_hd : (Try.prog.info? 87).map (fun i => (i.zero, i.size, i.bytes)) = some (some (.agg #[.slice none 0 0, .slice none 0 0, .map none]), 3, 56) := by kernel_rfl
/-- The dice so far: their list, and each one's defects. -/
def DI (tab mp : Value) (V w : World) (lo : Nat) (v : Value) (L : List (List Dft)) : Prop := ∃ ss : List Sv, OG 87 3 (hdC tab mp) w lo v ss ∧ ss.length = L.length ∧ ∀ i (h1 : i < ss.length) (h2 : i < L.length), RG 4 vdC V (ss[i]).v L[i]
theorem DI.start (tab mp : Value) (V w : World) (lo : Nat) : DI tab mp V w lo (.slice none 0 0) [] := ⟨[], World.ownsRow_nil _ _ _ _, rfl, fun i h1 => absurd h1 (by simp)⟩

set_option maxRecDepth 10000 in
set_option maxHeartbeats 25600000 in
theorem impl_vy {W : World} {v u : Value} {s : List Dft} {cs : List Cls} (wd hg p : Int) (hn : s.length ≤ 1048576) (hm : cs.length ≤ 1048576) (h : RG 4 vdC W v s) (k : RG 6 vcC W u cs) :
    Calls Try.prog 34 #[v, u, .int .i64 wd, .int .i64 hg, .int .i64 p] W fun e w' => e = .returned (.agg #[.int .i64 (vyQ s cs wd hg p).c, .int .i64 (vyQ s cs wd hg p).n, .int .i64 (vyQ s cs wd hg p).d]) ∧ Below W.heap.size W w' := by
  obtain ⟨da, dc, rfl⟩ := h.form
  obtain ⟨ca, cc, rfl⟩ := k.form
  obtain ⟨Q, hQ⟩ : ∃ Q, Q = vyQ s cs wd hg p := ⟨_, rfl⟩
  obtain ⟨C, hC⟩ : ∃ C, C = vhC s wd hg p := ⟨_, rfl⟩
  obtain ⟨F, hF⟩ : ∃ F, F = vcF cs := ⟨_, rfl⟩
  obtain ⟨dn, hdn⟩ : ∃ n, n = s.length := ⟨_, rfl⟩
  obtain ⟨cn, hcn⟩ : ∃ n, n = cs.length := ⟨_, rfl⟩
  obtain ⟨O, hO⟩ : ∃ O, O = vhO s wd hg p := ⟨_, rfl⟩
  have HH : Hid (∀ X, Below W.heap.size W X → Calls Try.prog 58 #[.slice da dn dc, .int .i64 wd, .int .i64 hg, .int .i64 p] X fun e w' => (∃ va vn vc, e = .returned (.agg #[.int .i64 C, .slice va vn vc, .int .i64 O])) ∧ Below X.heap.size X w') := fun X hX => by
    rw [hC, hO, hdn]
    refine (impl_vh wd hg p hn (h.below hX)).mono ?_
    rintro e w9 ⟨v9, vs9, rfl, hr9, hb9⟩
    obtain ⟨va, vc, rfl⟩ := hr9.form
    exact ⟨⟨_, _, _, rfl⟩, hb9⟩
  have HF : Hid (∀ X, Below W.heap.size W X → Calls Try.prog 17 #[.slice ca cn cc] X fun e w' => e = .returned (.int .i64 F) ∧ Below X.heap.size X w') := fun X hX => by
    rw [hF, hcn]; exact impl_vcF hm (k.below hX)
  rw [← hdn] at h ⊢
  rw [← hcn] at k ⊢
  rw [← hQ]
  have H : Hid (RG 4 vdC W (.slice da dn dc) s ∧ RG 6 vcC W (.slice ca cn cc) cs ∧ C = vhC s wd hg p ∧ F = vcF cs ∧ dn = s.length ∧ cn = cs.length) := ⟨h, k, hC, hF, hdn, hcn⟩
  have HQ : Hid (Q = vyQ s cs wd hg p) := hQ
  clear h k hF hdn hcn hQ hn hm hC hO
  obtain ⟨k0, hk0⟩ : ∃ k, k = W.heap.size := ⟨_, rfl⟩
  obtain ⟨V0, hV0⟩ : ∃ V, V = W.alloc (.cells #[.int .i64 0, .int .i64 0, .int .i64 0] 57) := ⟨_, rfl⟩
  have HB0 : Hid (Below k0 W V0 ∧ V0.heap.size = k0 + 1 ∧ k0 = W.heap.size) := ⟨by rw [hV0, hk0]; (repeat' (first | (with_reducible exact Below.refl _ _) | (with_reducible assumption) | (with_reducible refine Below.setCell ?_ ?_ _) | (with_reducible refine Below.alloc ?_ ?_ _) | (with_reducible refine below_drewN ?_ _) | (with_reducible refine Below.drew ?_) | (with_reducible exact Nat.le_refl _) | omega | (simp; done) | (simp; omega))), by rw [hV0, hk0]; simp, hk0⟩
  have HQ1 : Hid (V0.heap[k0]? = some (.cells #[.int .i64 0, .int .i64 0, .int .i64 0] 57)) := by rw [hV0, hk0]; exact heap_alloc_new W _
  have HV0 : Hid (V0 = W.alloc (.cells #[.int .i64 0, .int .i64 0, .int .i64 0] 57) ∧ k0 = W.heap.size) := ⟨hV0, hk0⟩
  clear hV0 hk0
  go_enter Try.func34, Try.ntmps34
  go_wp2_with (fail)
  rw [← HV0.out.1, ← HV0.out.2]
  clear HV0
  refine (HH.out _ (by rw [← HB0.out.2.2]; exact HB0.out.1)).mono ?_
  rintro e w1 ⟨⟨ta, tn, tc, rfl⟩, hb1⟩
  have HB1 : Hid (Below k0 W w1) := HB0.out.1.trans (hb1.mono (by have := HB0.out.2; omega))
  have HQA : Hid (w1.heap[k0]? = some (.cells #[.int .i64 0, .int .i64 0, .int .i64 0] 57)) := (hb1.block k0 (by have := HB0.out.2; omega)).trans HQ1.out
  have HKW : Hid (k0 = W.heap.size ∧ k0 + 1 ≤ w1.heap.size) := ⟨HB0.out.2.2, by have := hb1.size; have := HB0.out.2; omega⟩
  clear hb1 HQ1 HB0 HH
  have hfd := hd_field C O ta tn tc
  by_cases hc : C = 0
  case neg =>
    have hc2 : (C != 0) = true := by simp [hc]
    have HE : Hid (Q = ⟨C, 0, 0⟩) := by unfold Hid; rw [HQ.out]; unfold vyQ; rw [if_neg (by rw [← H.out.2.2.1]; exact hc), H.out.2.2.1]
    have q1 := HQA.out
    have z0 : w1.cell? ⟨k0, 0, none⟩ = some (.int .i64 0) := cellOf q1 0 rfl
    have z1 : w1.cell? ⟨k0, 1, none⟩ = some (.int .i64 0) := cellOf q1 1 rfl
    have z2 : w1.cell? ⟨k0, 2, none⟩ = some (.int .i64 0) := cellOf q1 2 rfl
    have zf0 := frozOf q1 0
    have zf1 := frozOf q1 1
    have zf2 := frozOf q1 2
    have zl := ltOf q1
    obtain ⟨e1, e2, e3, e4, e5, e6⟩ := set3e (a' := .int .i64 C) (b' := .int .i64 0) (c' := .int .i64 0) q1
    clear q1 hc
    go_wp2
    refine bodyPost_ret (by simp [results, Try.results34, go_sem, e1, e2, e3, e4, e5, e6, zl]; try rfl) rfl ?_
    refine ⟨by rw [HE.out], ?_⟩
    rw [← HKW.out.1]
    exact set3b HB1.out (Nat.le_refl _)
  obtain ⟨hf1, hwd, hhg, hp⟩ := vhC_ok (s := s) (w := wd) (h := hg) (p := p) (by rw [← H.out.2.2.1]; exact hc)
  have hdok := vdF_ok hf1
  have hhC : vhC s wd hg p = 0 := by rw [← H.out.2.2.1]; exact hc
  have hc2 : (C != 0) = false := by simp [hc]
  clear hf1
  subst hc

  go_wp2_with (fail)
  clear hfd
  refine (HF.out _ (by rw [← HKW.out.1]; exact HB1.out)).mono ?_
  rintro e w2 ⟨rfl, hb2⟩
  have HB2 : Hid (Below k0 W w2) := HB1.out.trans (hb2.mono (by have := HKW.out.2; omega))
  have HQB : Hid (w2.heap[k0]? = some (.cells #[.int .i64 0, .int .i64 0, .int .i64 0] 57)) := (hb2.block _ (ltOf HQA.out)).trans HQA.out
  have HK2 : Hid (k0 + 1 ≤ w2.heap.size) := by have := hb2.size; have := HKW.out.2; unfold Hid; omega
  clear hb2 HQA HB1 HF
  by_cases hf : F = 0
  case neg =>
    have hf2 : (F != 0) = true := by simp [hf]
    have HE : Hid (Q = ⟨F, 0, 0⟩) := by unfold Hid; rw [HQ.out]; unfold vyQ; rw [if_pos hhC, if_neg (by rw [← H.out.2.2.2.1]; exact hf), H.out.2.2.2.1]
    have q1 := HQB.out
    have z0 : w2.cell? ⟨k0, 0, none⟩ = some (.int .i64 0) := cellOf q1 0 rfl
    have z1 : w2.cell? ⟨k0, 1, none⟩ = some (.int .i64 0) := cellOf q1 1 rfl
    have z2 : w2.cell? ⟨k0, 2, none⟩ = some (.int .i64 0) := cellOf q1 2 rfl
    have zf0 := frozOf q1 0
    have zf1 := frozOf q1 1
    have zf2 := frozOf q1 2
    have zl := ltOf q1
    obtain ⟨e1, e2, e3, e4, e5, e6⟩ := set3e (a' := .int .i64 F) (b' := .int .i64 0) (c' := .int .i64 0) q1
    clear q1 hf hhC hdok
    go_wp2
    refine bodyPost_ret (by simp [results, Try.results34, go_sem, e1, e2, e3, e4, e5, e6, zl]; try rfl) rfl ?_
    refine ⟨by rw [HE.out], ?_⟩
    rw [← HKW.out.1]
    exact set3b HB2.out (Nat.le_refl _)
  have hcok := vcF_ok (s := cs) (by rw [← H.out.2.2.2.1]; exact hf)
  have HQ2 : Hid (Q = if (vyS s cs wd hg p).c = 0 then diQ (vyS s cs wd hg p).fr (whole (wd * hg)) else ⟨(vyS s cs wd hg p).c, 0, 0⟩) := by
    unfold Hid; rw [HQ.out]; unfold vyQ; rw [if_pos hhC, if_pos (by rw [← H.out.2.2.2.1]; exact hf)]
  clear HQ hhC
  subst hf
  obtain ⟨WN, rfl⟩ : ∃ n : Nat, wd = n := ⟨wd.toNat, by omega⟩
  obtain ⟨NH, rfl⟩ : ∃ n : Nat, hg = n := ⟨hg.toNat, by omega⟩
  obtain ⟨Z, hZ⟩ : ∃ Z, Z = vyS s cs WN NH p := ⟨_, rfl⟩
  have HZ : Hid (Z = sumA (whole 0) (vyT s cs p WN NH 0) ∧ Q = if Z.c = 0 then diQ Z.fr (whole ((WN : Int) * NH)) else ⟨Z.c, 0, 0⟩) := ⟨by rw [hZ]; unfold vyS; simp, by rw [hZ]; exact HQ2.out⟩
  have hWN : 1 ≤ WN ∧ WN ≤ 20 := by omega
  have hNH : 1 ≤ NH ∧ NH ≤ 20 := by omega
  have wr9 : IntKind.i64.wrap ((WN : Int) * (NH : Int)) = (WN : Int) * (NH : Int) := by
    have h9 : WN * NH ≤ 20 * 20 := Nat.mul_le_mul hWN.2 hNH.2
    have h8 : ((WN * NH : Nat) : Int) = (WN : Int) * (NH : Int) := by simp
    rw [IntKind.wrap_i64, ← h8]; omega
  clear hZ HQ2 hwd hhg

  obtain ⟨tb, htb⟩ : ∃ t, t = w2.heap.size := ⟨_, rfl⟩
  have HT : Hid (Calls Try.prog 44 #[.slice ca cn cc] w2 fun e w' => e = .returned (.agg #[.slice ca cn cc, .map (some (tb + 1))]) ∧ TBL w' tb cs cs.length ∧ Below w2.heap.size w2 w') := by
    rw [htb]; exact impl_table hcok.1 hcok.2 (H.out.2.1.below (by rw [← HKW.out.1]; exact HB2.out))
  clear htb
  go_wp2_with (fail)
  refine HT.out.mono ?_
  rintro e w3 ⟨rfl, hT3, hb3⟩
  have HB3 : Hid (Below k0 W w3 ∧ w3.heap[k0]? = some (.cells #[.int .i64 0, .int .i64 0, .int .i64 0] 57) ∧ TBL w3 tb cs cs.length ∧ k0 + 1 ≤ w3.heap.size) :=
    ⟨HB2.out.trans (hb3.mono (by have := HK2.out; omega)), (hb3.block _ (ltOf HQB.out)).trans HQB.out, hT3, by have := hb3.size; have := HK2.out; omega⟩
  clear hT3 hb3 HB2 HQB HK2 HT
  obtain ⟨B, hB⟩ : ∃ B, B = w3.heap.size := ⟨_, rfl⟩
  have HD : Hid (Calls Try.prog 59 #[.slice da dn dc, .int .i64 p] w3 fun e w' => e = .returned (.map (some B)) ∧ DBD w' B s p s.length ∧ Below w3.heap.size w3 w') := by
    rw [hB]; exact impl_dbd hdok.1 hdok.2 hp (H.out.1.below (by rw [← HKW.out.1]; exact HB3.out.1))
  clear hB
  go_wp2_with (fail)
  refine HD.out.mono ?_
  rintro e w4 ⟨rfl, hD4, hb4⟩
  obtain ⟨kt, hkt⟩ : ∃ k, k = w4.heap.size := ⟨_, rfl⟩
  obtain ⟨V4, hV4⟩ : ∃ V, V = w4.alloc (.cells #[.slice ca cn cc, .map (some (tb + 1))] 79) := ⟨_, rfl⟩
  have b4 : Below w4.heap.size w4 V4 := by rw [hV4]; (repeat' (first | (with_reducible exact Below.refl _ _) | (with_reducible assumption) | (with_reducible refine Below.setCell ?_ ?_ _) | (with_reducible refine Below.alloc ?_ ?_ _) | (with_reducible refine below_drewN ?_ _) | (with_reducible refine Below.drew ?_) | (with_reducible exact Nat.le_refl _) | omega | (simp; done) | (simp; omega)))
  have b34 : Below w3.heap.size w3 V4 := hb4.trans (b4.mono hb4.size)
  obtain ⟨nn, f, hnn, hG0, _⟩ := hD4
  have hG := hG0.below b4
  rw [List.take_length] at hG
  have HV : Hid (Below k0 W V4 ∧ V4.heap[k0]? = some (.cells #[.int .i64 0, .int .i64 0, .int .i64 0] 57) ∧ TBL V4 tb cs cs.length ∧ V4.heap[kt]? = some (.cells #[.slice ca cn cc, .map (some (tb + 1))] 79) ∧ k0 + 1 ≤ V4.heap.size) :=
    ⟨HB3.out.1.trans (b34.mono (by have := HB3.out.2.2.2; omega)), (b34.block _ (ltOf HB3.out.2.1)).trans HB3.out.2.1, HB3.out.2.2.1.below b34, by rw [hV4, hkt]; exact heap_alloc_new w4 _, by have := b34.size; have := HB3.out.2.2.2; omega⟩
  have HG : Hid (GM 41 4 vdC V4 104 B (B + 1) nn f (vbL s p)) := hG
  have HV4 : Hid (V4 = w4.alloc (.cells #[.slice ca cn cc, .map (some (tb + 1))] 79) ∧ kt = w4.heap.size) := ⟨hV4, hkt⟩
  clear hkt hV4 b4 b34 hnn hG0 hG hb4 HD HB3
  obtain ⟨lo, hlo⟩ : ∃ l, l = V4.heap.size := ⟨_, rfl⟩
  have HLO : Hid (lo = V4.heap.size) := hlo
  clear hlo
  obtain ⟨tab, htab⟩ : ∃ t, t = Value.slice ca cn cc := ⟨_, rfl⟩
  obtain ⟨mp, hmp⟩ : ∃ t, t = Value.map (some (tb + 1)) := ⟨_, rfl⟩
  have HTM : Hid (tab = Value.slice ca cn cc ∧ mp = Value.map (some (tb + 1))) := ⟨htab, hmp⟩
  clear htab hmp
  obtain ⟨i0, hi0, hz0, hz1, hz2⟩ := info_parts info_hd
  go_wp2
  rw [← HV4.out.1, ← HV4.out.2]
  clear HV4
  go_loopw [15, 41] (fun o i wr => ∃ (j : Nat) (v : Value), j ≤ NH ∧ v = o ∧ i = .int .i64 j ∧ Hid (DI tab mp V4 wr lo v (vyL s p WN j 0) ∧ Below lo V4 wr)) (fun _ i _ => NH - (intOf i).toNat)
  case atStart => exact ⟨0, _, Nat.zero_le _, rfl, rfl, DI.start _ _ _ _ _, Below.refl _ _⟩
  case round =>
    obtain ⟨j, v, hj, rfl, rfl, hR⟩ := hrel
    by_cases hlt : j < NH
    · go_wp2
      go_loopw [15, 45] (fun o i wx => ∃ (a : Nat) (v : Value), a ≤ WN ∧ v = o ∧ i = .int .i64 a ∧ Hid (DI tab mp V4 wx lo v (vyL s p WN j a) ∧ Below lo V4 wx)) (fun _ i _ => WN - (intOf i).toNat)
      case atStart => exact ⟨0, _, Nat.zero_le _, rfl, rfl, hR.out⟩
      case round =>
        clear hR
        obtain ⟨wx, hwx⟩ : ∃ x, x = wr := ⟨_, rfl⟩
        subst hwx
        obtain ⟨a, v, ha, rfl, rfl, hR⟩ := hrel
        by_cases hla : a < WN
        · obtain ⟨⟨ss, hog, hsl, hrg⟩, hBx⟩ := hR.out
          obtain ⟨sa, sc, rfl⟩ := (OG.rg (hdC_len _ _) hog).form
          obtain ⟨m, hm⟩ : ∃ m, m = ss.length := ⟨_, rfl⟩
          rw [← hm] at hog ⊢
          have hm4 : m ≤ 400 := by
            have h9 : j * WN ≤ 20 * 20 := Nat.mul_le_mul (by omega) hWN.2
            have h8 : j * WN + WN ≤ 20 * 20 := by
              have : (j + 1) * WN ≤ 20 * 20 := Nat.mul_le_mul (by omega) hWN.2
              rw [Nat.add_mul] at this; omega
            rw [hm, hsl, vyL_len]; omega
          obtain ⟨x0', xn, xc, hu⟩ : ∃ a0 n0 c0, (f (pk (a : Int) (j : Int))).getD svN = (a0, n0, c0) := ⟨_, _, _, rfl⟩
          have hat := OG.rg vdC_len (HG.out.at (pk (a : Int) (j : Int)) hu)
          obtain ⟨X, hX⟩ : ∃ X, X = wx.drew := ⟨_, rfl⟩
          have bX : Below wx.heap.size wx X := by rw [hX]; exact (Below.refl _ _).drew
          have hBx2 : Below V4.heap.size V4 wx := by rw [← HLO.out]; exact hBx
          have bVX : Below V4.heap.size V4 X := hBx2.trans (bX.mono hBx2.size)
          have hkey : keyOf Try.prog 104 (.agg #[.int .i64 (a : Int), .int .i64 (j : Int)]) = some (pk (a : Int) (j : Int)) := pt_key (by omega) (by omega)
          have HLK : Hid (∀ Y, TM Y 104 B nn f → (Instr.lookup 99 (.map (some B)) (.agg #[.int .i64 (a : Int), .int .i64 (j : Int)]) false).run Try.prog Y = .ok (.slice x0' xn xc) Y) := fun Y hY => by
            have h9 := hY.look pt_keyed Try.underlying99 (dk_zero _) hkey
            rw [hu] at h9
            exact h9
          have hS0 : TM X 104 B nn f ∧ X.heap[kt]? = some (.cells #[.slice ca cn cc, .map (some (tb + 1))] 79) := ⟨HG.out.tm.below bVX, (bVX.block _ (ltOf HV.out.2.2.2.1)).trans HV.out.2.2.2.1⟩
          obtain ⟨X2, hX2⟩ : ∃ X2, X2 = X.alloc (.cells #[.slice x0' xn xc, .slice ca cn cc, .map (some (tb + 1))] 87) := ⟨_, rfl⟩
          have bX2 : Below X.heap.size X X2 := by rw [hX2]; (repeat' (first | (with_reducible exact Below.refl _ _) | (with_reducible assumption) | (with_reducible refine Below.setCell ?_ ?_ _) | (with_reducible refine Below.alloc ?_ ?_ _) | (with_reducible refine below_drewN ?_ _) | (with_reducible refine Below.drew ?_) | (with_reducible exact Nat.le_refl _) | omega | (simp; done) | (simp; omega)))
          have hX2k : ∀ w', X2.grownBy w' (Value.slice sa m sc).ownBlock → TM w' 104 B nn f ∧ w'.heap[kt]? = some (.cells #[.slice ca cn cc, .map (some (tb + 1))] 79) := fun w' hg' => by
            have hlw : ∀ g, (Value.slice sa m sc).ownBlock = some g → V4.heap.size ≤ g := fun g hg9 => by rw [← HLO.out]; exact (OG.lt hog g hg9).1
            have hne : ∀ q, q < V4.heap.size → w'.heap[q]? = V4.heap[q]? := fun q hq => by
              have h1 := bVX.block q hq
              have h2 := bX2.block q (Nat.lt_of_lt_of_le hq bVX.size)
              have h3 := hg'.block q (Nat.lt_of_lt_of_le hq (Nat.le_trans bVX.size bX2.size)) (fun e => by have := hlw q e.symm; omega)
              rw [h3, h2, h1]
            exact ⟨HG.out.tm.block (hne B HG.out.tm.lt), (hne kt (ltOf HV.out.2.2.2.1)).trans HV.out.2.2.2.1⟩
          have HK2 : Hid (∀ w', X2.grownBy w' (Value.slice sa m sc).ownBlock → TM w' 104 B nn f ∧ w'.heap[kt]? = some (.cells #[.slice ca cn cc, .map (some (tb + 1))] 79)) := hX2k
          have HS2 : Hid (TM X2 104 B nn f ∧ X2.heap[kt]? = some (.cells #[.slice ca cn cc, .map (some (tb + 1))] 79)) := ⟨hS0.1.below bX2, (bX2.block _ (ltOf hS0.2)).trans hS0.2⟩
          have HOW : Hid (X2.ownsRow lo 87 3 (.slice sa m sc) m (ss.flatMap (hdC tab mp))) := by
            have h9 := (hog.below bX).below bX2
            unfold OG at h9
            rw [← hm] at h9
            exact h9
          have HNW : Hid (∀ jj u, [Value.slice x0' xn xc, .slice ca cn cc, .map (some (tb + 1))][jj]? = some u → X2.cell? ((⟨X.heap.size, 0, none⟩ : Addr).add jj) = some u) := by
            have hq : X2.heap[X.heap.size]? = some (.cells #[.slice x0' xn xc, .slice ca cn cc, .map (some (tb + 1))] 87) := by rw [hX2]; exact heap_alloc_new X _
            exact World.news_of_block (cs := #[.slice x0' xn xc, .slice ca cn cc, .map (some (tb + 1))]) (t := 87) (fr := (0, 0)) hq
          have HLL : Hid (lo ≤ X2.heap.size) := by rw [HLO.out]; have h1 := bVX.size; have h2 := bX2.size; unfold Hid; omega
          have HPU : Hid (∀ v3 w3, w3.ownsRow lo 87 3 v3 (m + 1) (ss.flatMap (hdC tab mp) ++ [.slice x0' xn xc, .slice ca cn cc, .map (some (tb + 1))]) → X2.grownBy w3 (Value.slice sa m sc).ownBlock → DI tab mp V4 w3 lo v3 (vyL s p WN j (a + 1)) ∧ Below lo V4 w3) := by
            intro v3 w3 h1 h2
            refine ⟨⟨ss ++ [(x0', xn, xc)], ?_, ?_, ?_⟩, ?_⟩
            · unfold OG
              rw [List.length_append, ← hm, List.flatMap_append]
              have e9 : [(x0', xn, xc)].flatMap (hdC tab mp) = [.slice x0' xn xc, .slice ca cn cc, .map (some (tb + 1))] := by rw [HTM.out.1, HTM.out.2]; rfl
              rw [e9]
              exact h1
            · rw [vyL_succ, List.length_append, List.length_append, hsl]; rfl
            · rw [vyL_succ]
              exact dl_push (P := fun u l => RG 4 vdC V4 u.v l) hsl hrg hat
            · refine ((hBx.trans (bX.mono (by rw [HLO.out]; exact hBx2.size))).trans (bX2.mono (by rw [HLO.out]; exact bVX.size))).grown h2 HLL.out (fun g hg9 => (OG.lt hog g hg9).1)
          have HX2 : Hid (X2 = X.alloc (.cells #[.slice x0' xn xc, .slice ca cn cc, .map (some (tb + 1))] 87)) := hX2
          clear hog hsl hrg hBx hm hu hat bX hBx2 bVX hkey hX2 bX2 hX2k hR
          go_wp2_with (fail)
          have hm0 : wx.drew = X := hX.symm
          clear hX
          refine wp_region_holdsA (S := fun w' => TM w' 104 B nn f ∧ w'.heap[kt]? = some (.cells #[.slice ca cn cc, .map (some (tb + 1))] 79)) (by kernel_rfl) (by rw [hm0]; exact hS0) (fun hS => ?_)
          rw [hm0] at hS ⊢
          clear hm0 hS0
          refine fl_takeA (i := 0) (d := 48) (v := .slice sa m sc) rfl rfl rfl (by kernel_rfl) (by kernel_rfl) (by kernel_rfl) hS ?_ ?_
          · intro w' hk; go_simp
          simp only [Act.put, List.setIfInBounds_toArray, List.set_cons_zero, List.set_cons_succ]
          refine fl_takeA (i := 1) (d := 49) (v := .map (some B)) rfl rfl rfl (by kernel_rfl) (by kernel_rfl) (by kernel_rfl) hS ?_ ?_
          · intro w' hk; go_simp
          simp only [Act.put, List.setIfInBounds_toArray, List.set_cons_zero, List.set_cons_succ]
          refine fl_takeA (i := 2) (d := 50) (v := .int .i64 (a : Int)) rfl rfl rfl (by kernel_rfl) (by kernel_rfl) (by kernel_rfl) hS ?_ ?_
          · intro w' hk; go_simp
          simp only [Act.put, List.setIfInBounds_toArray, List.set_cons_zero, List.set_cons_succ]
          refine fl_takeA (i := 3) (d := 51) (v := .int .i64 (j : Int)) rfl rfl rfl (by kernel_rfl) (by kernel_rfl) (by kernel_rfl) hS ?_ ?_
          · intro w' hk; go_simp
          simp only [Act.put, List.setIfInBounds_toArray, List.set_cons_zero, List.set_cons_succ]
          refine fl_takeA (i := 4) (d := 52) (v := .agg #[.int .i64 (a : Int), .int .i64 (j : Int)]) rfl rfl rfl (by kernel_rfl) (by kernel_rfl) (by kernel_rfl) hS ?_ ?_
          · intro w' hk; go_simp
          simp only [Act.put, List.setIfInBounds_toArray, List.set_cons_zero, List.set_cons_succ]
          refine fl_takeA (i := 5) (d := 53) (v := .slice x0' xn xc) rfl rfl rfl (by kernel_rfl) (by kernel_rfl) (by kernel_rfl) hS ?_ ?_
          · intro w' hk; have x9 := HLK.out _ hk.1; go_simp
          simp only [Act.put, List.setIfInBounds_toArray, List.set_cons_zero, List.set_cons_succ]
          refine fl_takeA (i := 6) (d := 54) (v := .agg #[.slice ca cn cc, .map (some (tb + 1))]) rfl rfl rfl (by kernel_rfl) (by kernel_rfl) (by kernel_rfl) hS ?_ ?_
          · intro w' hk; have y0 := cellOf hk.2 0 rfl; have y1 := cellOf hk.2 1 rfl; have y2 := ltOf hk.2; go_simp
          simp only [Act.put, List.setIfInBounds_toArray, List.set_cons_zero, List.set_cons_succ]
          refine fl_takeA (i := 7) (d := 55) (v := .agg #[.slice x0' xn xc, .slice ca cn cc, .map (some (tb + 1))]) rfl rfl rfl (by kernel_rfl) (by kernel_rfl) (by kernel_rfl) hS ?_ ?_
          · intro w' hk; go_simp
          simp only [Act.put, List.setIfInBounds_toArray, List.set_cons_zero, List.set_cons_succ]
          refine wpAnyH_all (rs := [8]) (by kernel_rfl) (by simp) ?_
          intro iz hi
          obtain rfl : iz = 8 := by simpa using hi
          clear hi
          refine op_val (d := 56) (v := .slice (some ⟨X.heap.size, 0, none⟩) 1 1) (w' := X2) rfl rfl rfl (by go_simp; exact HX2.out.symm) ?_
          simp only [Act.put, List.setIfInBounds_toArray, List.set_cons_zero, List.set_cons_succ]
          refine ⟨HS2.out, ?_⟩
          refine wpAnyH_all (rs := [9]) (by kernel_rfl) (by simp) ?_
          intro iz hi
          obtain rfl : iz = 9 := by simpa using hi
          clear hi
          refine op_appAt (dd := 57) rfl rfl rfl _ _ 102 rfl lo 87 i0 (.agg #[.slice none 0 0, .slice none 0 0, .map none]) 3 56 Try.underlying102 hi0 hz0 hz1 hz2 rfl (by decide) (.slice sa m sc) m _ rfl HOW.out ⟨X.heap.size, 0, none⟩ 1 1 [.slice x0' xn xc, .slice ca cn cc, .map (some (tb + 1))] rfl rfl HNW.out (by simp [Value.oneCell']) (by unfold maxLen; omega) (by omega) HLL.out ?_
          intro v3 w3 hown3 hgrow3 hloc3
          have HN3 : Hid (DI tab mp V4 w3 lo v3 (vyL s p WN j (a + 1)) ∧ Below lo V4 w3) := HPU.out v3 w3 hown3 hgrow3
          have HS3 := HK2.out w3 hgrow3
          refine ⟨HS3, ?_⟩
          simp only [Act.put, List.setIfInBounds_toArray, List.set_cons_zero, List.set_cons_succ]
          refine wpAnyH_all (rs := [10]) (by kernel_rfl) (by simp) ?_
          intro iz hi
          obtain rfl : iz = 10 := by simpa using hi
          clear hi
          refine op_val (d := 15) (v := v3) (w' := w3) rfl rfl rfl (by go_simp; try rfl) ?_
          simp only [Act.put, List.setIfInBounds_toArray, List.set_cons_zero, List.set_cons_succ]
          refine ⟨HS3, ?_⟩
          refine wpAnyH_done (by kernel_rfl) (NoPanic.normal ?_) _
          clear hown3 hgrow3 hloc3 HPU HOW HNW HLL HX2 HS2 HK2 HLK hS HS3
          go_wp2
          go_roundw
          case rel => exact ⟨a + 1, v3, by omega, rfl, by go_num, HN3.out⟩
          case measure => simp [intOf]; omega
        · obtain rfl : a = WN := by omega
          have HN : Hid (DI tab mp V4 wx lo v (vyL s p a (j + 1) 0) ∧ Below lo V4 wx) := by rw [← vyL_row]; exact hR.out
          clear hR
          go_wp2
          go_roundw
          case rel => exact ⟨j + 1, v, by omega, rfl, by go_num, HN.out⟩
          case measure => simp [intOf]; omega
    · obtain rfl : j = NH := by omega
      obtain ⟨⟨ss, hog, hsl, hrg⟩, hBr⟩ := hR.out
      have hrs := OG.rg (hdC_len _ _) hog
      obtain ⟨sa, sc, rfl⟩ := hrs.form
      obtain ⟨m, hm⟩ : ∃ m, m = ss.length := ⟨_, rfl⟩
      rw [← hm] at hrs ⊢
      have hmL : (vyL s p WN j 0).length = m := by rw [hm]; exact hsl.symm
      have hm4 : m ≤ 400 := by
        have h9 : j * WN ≤ 20 * 20 := Nat.mul_le_mul hNH.2 hWN.2
        rw [← hmL, vyL_len]; omega
      obtain ⟨U, hU⟩ : ∃ U, U = zq Z := ⟨_, rfl⟩
      have HWH : Hid (∀ X, Calls Try.prog 61 #[.int .i64 0] X fun e w' => e = .returned (.agg #[.int .i64 0, .int .i64 1]) ∧ Below X.heap.size X w') := fun X => impl_whole 0 X
      have hBr2 : Below V4.heap.size V4 wr := by rw [← HLO.out]; exact hBr
      have HFR : Hid (∀ X, Below wr.heap.size wr X → Calls Try.prog 60 #[.slice sa m sc, .agg #[.int .i64 0, .int .i64 1]] X fun e w' => e = .returned (.agg #[.int .i64 U.c, .int .i64 U.n, .int .i64 U.d]) ∧ Below X.heap.size X w') := fun X hX => by
        have bVX : Below V4.heap.size V4 X := hBr2.trans (hX.mono hBr2.size)
        have bWX : Below W.heap.size W X := by rw [← HKW.out.1]; exact HV.out.1.trans (bVX.mono (by have := HV.out.2.2.2.2; omega))
        have h9 := impl_from15 (W := X) (B := tb) (L := vyL s p WN j 0) hm4 hmL (by rw [H.out.2.2.2.2.2]; exact hcok.1) hcok.2 (by rw [← HTM.out.1, ← HTM.out.2]; exact hrs.below hX)
          (fun i h1 h2 => ⟨(hrg i h1 h2).below bVX, vy_ok hdok h2⟩) (H.out.2.1.below bWX) (HV.out.2.2.1.below bVX)
        rw [vyL_map, ← HZ.out.1, ← hU] at h9
        exact h9
      have HBR : Hid (Below k0 W wr ∧ wr.heap[k0]? = some (.cells #[.int .i64 0, .int .i64 0, .int .i64 0] 57)) := ⟨HV.out.1.trans (hBr2.mono (by have := HV.out.2.2.2.2; omega)), (hBr2.block _ (ltOf HV.out.2.1)).trans HV.out.2.1⟩
      have HU : Hid (U = zq Z) := hU
      clear hU hrs hog hsl hrg hBr hR hm hmL hBr2 hdok hcok HG HV HTM
      go_wp2_with (fail)
      refine (HWH.out _).mono ?_
      rintro e w5 ⟨rfl, hb5⟩
      go_wp2_with (fail)
      refine (HFR.out _ hb5).mono ?_
      rintro e w6 ⟨rfl, hb6⟩
      obtain ⟨Uc, Un, Ud⟩ := U
      obtain ⟨ku, hku⟩ : ∃ k, k = w6.heap.size := ⟨_, rfl⟩
      obtain ⟨V6, hV6⟩ : ∃ V, V = w6.alloc (.cells #[.int .i64 Uc, .int .i64 Un, .int .i64 Ud] 57) := ⟨_, rfl⟩
      have b56 : Below wr.heap.size wr w6 := hb5.trans (hb6.mono hb5.size)
      have b6 : Below w6.heap.size w6 V6 := by rw [hV6]; (repeat' (first | (with_reducible exact Below.refl _ _) | (with_reducible assumption) | (with_reducible refine Below.setCell ?_ ?_ _) | (with_reducible refine Below.alloc ?_ ?_ _) | (with_reducible refine below_drewN ?_ _) | (with_reducible refine Below.drew ?_) | (with_reducible exact Nat.le_refl _) | omega | (simp; done) | (simp; omega)))
      have br6 : Below wr.heap.size wr V6 := b56.trans (b6.mono b56.size)
      have HS6 : Hid (V6.heap[ku]? = some (.cells #[.int .i64 Uc, .int .i64 Un, .int .i64 Ud] 57) ∧ V6.heap[k0]? = some (.cells #[.int .i64 0, .int .i64 0, .int .i64 0] 57) ∧ Below k0 W V6 ∧ k0 < ku) :=
        ⟨by rw [hV6, hku]; exact heap_alloc_new w6 _, (br6.block _ (ltOf HBR.out.2)).trans HBR.out.2, HBR.out.1.trans (br6.mono (by have := ltOf HBR.out.2; omega)), by rw [hku]; have := ltOf HBR.out.2; have := b56.size; omega⟩
      have HV6 : Hid (V6 = w6.alloc (.cells #[.int .i64 Uc, .int .i64 Un, .int .i64 Ud] 57) ∧ ku = w6.heap.size) := ⟨hV6, hku⟩
      clear hku hV6 b56 b6 br6 hb5 hb6 HFR HWH HBR
      go_upto_region 19 with fail
      rw [← HV6.out.1, ← HV6.out.2]
      clear HV6
      have t0 : V6.cell? ⟨ku, 0, none⟩ = some (.int .i64 Uc) := cellOf HS6.out.1 0 rfl
      have t1 : V6.cell? ⟨ku, 1, none⟩ = some (.int .i64 Un) := cellOf HS6.out.1 1 rfl
      have t2 : V6.cell? ⟨ku, 2, none⟩ = some (.int .i64 Ud) := cellOf HS6.out.1 2 rfl
      have tl := ltOf HS6.out.1
      by_cases hu : Uc = 0
      case neg =>
        have hu2 : (Uc != 0) = true := by simp [hu]
        have HE : Hid (Q = ⟨Uc, Un, Ud⟩) := by
          have h9 := HU.out
          have hz : ¬ Z.c = 0 := fun e => hu (by rw [zq_ok e] at h9; rw [← h9] at e; exact e)
          rw [zq_not hz] at h9
          unfold Hid; rw [HZ.out.2, if_neg hz, h9]
        have q1 := HS6.out.2.1
        have z0 : V6.cell? ⟨k0, 0, none⟩ = some (.int .i64 0) := cellOf q1 0 rfl
        have z1 : V6.cell? ⟨k0, 1, none⟩ = some (.int .i64 0) := cellOf q1 1 rfl
        have z2 : V6.cell? ⟨k0, 2, none⟩ = some (.int .i64 0) := cellOf q1 2 rfl
        have zf0 := frozOf q1 0
        have zf1 := frozOf q1 1
        have zf2 := frozOf q1 2
        have zl := ltOf q1
        obtain ⟨e1, e2, e3, e4, e5, e6⟩ := set3e (a' := .int .i64 Uc) (b' := .int .i64 Un) (c' := .int .i64 Ud) q1
        clear q1 hu
        go_wp2
        refine bodyPost_ret (by simp [results, Try.results34, go_sem, e1, e2, e3, e4, e5, e6, zl]; try rfl) rfl ?_
        refine ⟨by rw [HE.out], ?_⟩
        rw [← HKW.out.1]
        exact set3b HS6.out.2.2.1 (Nat.le_refl _)
      have hu2 : (Uc != 0) = false := by simp [hu]
      obtain ⟨A, hA⟩ : ∃ A, A = (WN : Int) * (j : Int) := ⟨_, rfl⟩
      have HE : Hid (Q = diQ ⟨Un, Ud⟩ (whole A)) := by
        have h9 := HU.out
        have hz : Z.c = 0 := Classical.byContradiction (fun e => e (by rw [zq_not e] at h9; rw [← hu]; injection h9 with h9; exact h9.symm))
        rw [zq_ok hz] at h9
        unfold Hid; rw [HZ.out.2, if_pos hz, ← h9, hA]; rfl
      rw [← hA] at wr9
      have HA : Hid (A = (WN : Int) * (j : Int)) := hA
      have hA2 : (WN : Int) * (j : Int) = A := hA.symm
      have HWA : Hid (∀ X, Calls Try.prog 61 #[.int .i64 A] X fun e w' => e = .returned (.agg #[.int .i64 A, .int .i64 1]) ∧ Below X.heap.size X w') := fun X => impl_whole A X
      have HDV : Hid (∀ X, Calls Try.prog 62 #[.agg #[.int .i64 Un, .int .i64 Ud], .agg #[.int .i64 A, .int .i64 1]] X fun e w' => e = .returned (.agg #[.int .i64 Q.c, .int .i64 Q.n, .int .i64 Q.d]) ∧ Below X.heap.size X w') := fun X => by
        rw [HE.out]; exact impl_diQ ⟨Un, Ud⟩ (whole A) X
      subst hu
      clear HZ HE HU hA
      go_wp2_with (fail)
      obtain ⟨X, hX⟩ : ∃ X, X = V6.drew := ⟨_, rfl⟩
      have bX : Below V6.heap.size V6 X := by rw [hX]; exact (Below.refl _ _).drew
      have hm0 : V6.drew = X := hX.symm
      have hS0 : X.heap[ku]? = some (.cells #[.int .i64 0, .int .i64 Un, .int .i64 Ud] 57) := (bX.block _ (ltOf HS6.out.1)).trans HS6.out.1
      have HX : Hid (X.heap[k0]? = some (.cells #[.int .i64 0, .int .i64 0, .int .i64 0] 57) ∧ Below k0 W X ∧ k0 < ku ∧ k0 < X.heap.size) := ⟨(bX.block _ (ltOf HS6.out.2.1)).trans HS6.out.2.1, HS6.out.2.2.1.trans (bX.mono (by have := ltOf HS6.out.2.1; omega)), HS6.out.2.2.2, by have := ltOf HS6.out.2.1; have := bX.size; omega⟩
      clear hX bX t0 t1 t2 tl HS6
      refine wp_region_holdsA (S := fun w' => w'.heap[ku]? = some (.cells #[.int .i64 0, .int .i64 Un, .int .i64 Ud] 57)) (by kernel_rfl) (by rw [hm0]; exact hS0) (fun hS => ?_)
      rw [hm0] at hS ⊢
      clear hm0
      refine fl_takeA (i := 0) (d := 67) (v := .pointer (some ⟨ku, 1, none⟩)) rfl rfl rfl (by kernel_rfl) (by kernel_rfl) (by kernel_rfl) hS ?_ ?_
      · intro w' hk; have y1 := cellOf hk 1 rfl; have y2 := ltOf hk; go_simp
      simp only [Act.put, List.setIfInBounds_toArray, List.set_cons_zero, List.set_cons_succ]
      refine fl_takeA (i := 1) (d := 68) (v := .agg #[.int .i64 Un, .int .i64 Ud]) rfl rfl rfl (by kernel_rfl) (by kernel_rfl) (by kernel_rfl) hS ?_ ?_
      · intro w' hk; have y0 := cellOf hk 1 rfl; have y1 := cellOf hk 2 rfl; have y2 := ltOf hk; go_simp
      simp only [Act.put, List.setIfInBounds_toArray, List.set_cons_zero, List.set_cons_succ]
      refine fl_takeA (i := 2) (d := 69) (v := .int .i64 (WN : Int)) rfl rfl rfl (by kernel_rfl) (by kernel_rfl) (by kernel_rfl) hS ?_ ?_
      · intro w' hk; go_simp
      simp only [Act.put, List.setIfInBounds_toArray, List.set_cons_zero, List.set_cons_succ]
      refine fl_takeA (i := 3) (d := 70) (v := .int .i64 (j : Int)) rfl rfl rfl (by kernel_rfl) (by kernel_rfl) (by kernel_rfl) hS ?_ ?_
      · intro w' hk; go_simp
      simp only [Act.put, List.setIfInBounds_toArray, List.set_cons_zero, List.set_cons_succ]
      refine fl_takeA (i := 4) (d := 71) (v := .int .i64 A) rfl rfl rfl (by kernel_rfl) (by kernel_rfl) (by kernel_rfl) hS ?_ ?_
      · intro w' hk; go_simp
      simp only [Act.put, List.setIfInBounds_toArray, List.set_cons_zero, List.set_cons_succ]
      refine wpAnyH_all (rs := [5]) (by kernel_rfl) (by simp) ?_
      intro iz hi
      obtain rfl : iz = 5 := by simpa using hi
      clear hi
      refine op_call (d := 72) rfl rfl rfl (by go_simp) ((HWA.out X).mono ?_)
      rintro e y1 ⟨rfl, hb7⟩
      have hs7 := (hb7.block _ (ltOf hS0)).trans hS0
      refine ⟨_, rfl, hs7, ?_⟩
      simp only [Act.put, List.setIfInBounds_toArray, List.set_cons_zero, List.set_cons_succ]
      refine wpAnyH_all (rs := [6]) (by kernel_rfl) (by simp) ?_
      intro iz hi
      obtain rfl : iz = 6 := by simpa using hi
      clear hi
      refine op_call (d := 73) rfl rfl rfl (by go_simp) ((HDV.out y1).mono ?_)
      rintro e y2 ⟨rfl, hb8⟩
      have hs8 := (hb8.block _ (ltOf hs7)).trans hs7
      refine ⟨_, rfl, hs8, ?_⟩
      simp only [Act.put, List.setIfInBounds_toArray, List.set_cons_zero, List.set_cons_succ]
      obtain ⟨Qc, Qn, Qd⟩ := Q
      have b78 : Below X.heap.size X y2 := hb7.trans (hb8.mono hb7.size)
      have q1 := (b78.block _ (ltOf HX.out.1)).trans HX.out.1
      have HB9 : Hid (Below k0 W y2) := HX.out.2.1.trans (b78.mono (by have := HX.out.2.2; omega))
      have hne : ku ≠ k0 := by have := HX.out.2.2.1; omega
      have z0 : y2.cell? ⟨k0, 0, none⟩ = some (.int .i64 0) := cellOf q1 0 rfl
      have z1 : y2.cell? ⟨k0, 1, none⟩ = some (.int .i64 0) := cellOf q1 1 rfl
      have z2 : y2.cell? ⟨k0, 2, none⟩ = some (.int .i64 0) := cellOf q1 2 rfl
      have zf0 := frozOf q1 0
      have zf1 := frozOf q1 1
      have zf2 := frozOf q1 2
      have zl := ltOf q1
      obtain ⟨e1, e2, e3, e4, e5, e6⟩ := set3e (a' := .int .i64 Qc) (b' := .int .i64 Qn) (c' := .int .i64 Qd) q1
      refine wpAnyH_all (rs := [7]) (by kernel_rfl) (by simp) ?_
      intro iz hi
      obtain rfl : iz = 7 := by simpa using hi
      clear hi
      refine op_skipN (w' := ((y2.setCell ⟨k0, 0, none⟩ (.int .i64 Qc)).setCell ⟨k0, 1, none⟩ (.int .i64 Qn)).setCell ⟨k0, 2, none⟩ (.int .i64 Qd)) rfl rfl (by go_simp; try rfl) ?_
      refine ⟨(vset3_other hne).trans hs8, wpAnyH_done (by kernel_rfl) (NoPanic.normal ?_) _⟩
      clear q1 hs8 hs7 hb8 hb7 b78 hS0 hS HX HWA HDV
      go_wp2
      refine bodyPost_ret (by simp [results, Try.results34, go_sem, e1, e2, e3, e4, e5, e6, zl]; try rfl) rfl ?_
      refine ⟨rfl, ?_⟩
      rw [← HKW.out.1]
      exact set3b HB9.out (Nat.le_refl _)

end Go.Proofs.Ytjacmneopijiaaa
