/- Proved here: l12Etch of the model. (And ahead of it: Proved here: columns of the model turned one by one. No condition on the program.) -/
import Derived.Test.YtceljakmjddgbabEtM
import Derived.Test.YtceljakmjddgbabDsM
import Derived.Test.YtceljakmjddgbabLsG
import Derived.Test.YtceljakmjddgbabFsG
import Derived.Test.YtceljakmjddgbabKept
namespace Go.Proofs.Ytceljakmjddgbab
open Go.RowKit
set_option linter.unusedVariables false
set_option linter.unusedSimpArgs false

/-- The first j columns are turned. -/
def mpK (s : List (List Flm)) (f : List Flm → List Flm) (j : Nat) : List (List Flm) := (List.range s.length).map fun q => if q < j then f (s.getD q []) else s.getD q []
theorem mpK_len (s : List (List Flm)) (f : List Flm → List Flm) (j : Nat) : (mpK s f j).length = s.length := by simp [mpK]
theorem mpK_zero (s : List (List Flm)) (f : List Flm → List Flm) : mpK s f 0 = s := by
  apply List.ext_getElem
  · simp [mpK]
  · intro i h1 h2
    simp [mpK, h2]
theorem mpK_at (s : List (List Flm)) (f : List Flm → List Flm) {j : Nat} (h : j < s.length) : (mpK s f j).getD j [] = s.getD j [] := by simp [mpK, h]
theorem mpK_set (s : List (List Flm)) (f : List Flm → List Flm) {j : Nat} (h : j < s.length) : (mpK s f j).set j (f (s.getD j [])) = mpK s f (j + 1) := by
  apply List.ext_getElem
  · simp [mpK]
  · intro i h1 h2
    rw [List.length_set, mpK_len] at h1
    rw [List.getElem_set]
    split
    · rename_i e; subst e; simp [mpK]
    · rename_i e
      simp only [mpK, List.getElem_map, List.getElem_range]
      by_cases h3 : i < j
      · rw [if_pos h3, if_pos (by omega)]
      · rw [if_neg h3, if_neg (by omega)]
theorem mpK_same (s : List (List Flm)) (f : List Flm → List Flm) {j : Nat} (h : f (s.getD j []) = s.getD j []) : mpK s f j = mpK s f (j + 1) := by
  unfold mpK
  apply List.map_congr_left
  intro q _
  by_cases h3 : q < j
  · rw [if_pos h3, if_pos (by omega)]
  · rw [if_neg h3]
    split
    · rw [show q = j by omega, h]
    · rfl
theorem mpK_aft {s : List (List Flm)} {f : List Flm → List Flm} {lays : Nat → List Lay} (h : ∀ i, i < s.length → putA (lays i) (lays i).length = f (s.getD i [])) : mpK s f s.length = aftS lays s.length := by
  unfold mpK aftS
  apply List.map_congr_left
  intro q hq
  have hq' : q < s.length := by simpa using hq
  rw [if_pos hq', h q hq']
/-- What stripping leaves of a column. -/
def stF (m : Int) (c : List Flm) : List Flm := if 0 < c.length ∧ (fat c (c.length - 1)).m = m then c.take (c.length - 1) else c
/-- A list of the call's own, cut at its end. -/
theorem og_cut {w : World} {B g n cap k : Nat} {l : List Flm} (h : OG 76 2 flC w B (.slice (some ⟨g, 0, none⟩) n cap) l) (hk : k ≤ n) : OG 76 2 flC w B (.slice (some ⟨g, 0, none⟩) k cap) (l.take k) := by
  have hn : n = l.length := by obtain ⟨_, _, e⟩ := h.form; injection e
  have hl : (l.take k).length = k := by rw [List.length_take]; omega
  have e1 : (l.take k).flatMap flC = (l.flatMap flC).take (k * 2) := by
    apply List.ext_getElem?
    intro t
    rcases Nat.lt_or_ge t (k * 2) with ht | ht
    · obtain ⟨j, i, rfl, hi⟩ : ∃ j i, t = j * 2 + i ∧ i < 2 := ⟨t / 2, t % 2, by omega, by omega⟩
      rw [fm_get flC_len _ j i (by rw [hl]; omega) hi, List.getElem?_take_of_lt ht, fm_get flC_len l j i (by omega) hi]
      congr 1
      rw [List.getElem_take]
    · rw [List.getElem?_eq_none (by rw [fm_length flC_len, hl]; exact ht), List.getElem?_eq_none (by rw [List.length_take]; omega)]
  unfold OG
  rw [hl, e1]
  refine ⟨by rw [List.length_take, fm_length flC_len]; omega, ?_⟩
  rcases h.2 with ⟨e, h0⟩ | ⟨g', cap', cur, e, hB, hg, hn', hm, hs, ht⟩
  · cases e
  · injection e with e2 e3 e4
    injection e2 with e5
    injection e5 with e6
    subst e6 e4
    right
    refine ⟨g, cap, cur, rfl, hB, hg, by omega, hm, hs, ?_⟩
    rw [← ht, List.take_take, Nat.min_eq_left (by omega)]
theorem three_s {w : World} {k : Nat} {a b c : Value} {T : TypeId} (h : w.heap[k]? = some (.cells #[a, b, c] T)) :
    w.cell? ⟨k, 0, none⟩ = some a ∧ w.cell? ⟨k, 1, none⟩ = some b ∧ w.cell? ⟨k, 2, none⟩ = some c ∧ w.frozen? ⟨k, 0, none⟩ = false ∧ w.frozen? ⟨k, 1, none⟩ = false ∧ w.frozen? ⟨k, 2, none⟩ = false ∧ k < w.heap.size :=
  ⟨cellOf h 0 rfl, cellOf h 1 rfl, cellOf h 2 rfl, frozOf h 0, frozOf h 1, frozOf h 2, ltOf h⟩

end Go.Proofs.Ytceljakmjddgbab

namespace Go.Proofs.Ytceljakmjddgbab
open Go.RowKit
set_option linter.unusedVariables false
set_option linter.unusedSimpArgs false

def lenV : Value → Nat
  | .slice _ n _ => n
  | _ => 0
theorem take_set {c : List Flm} {p : Nat} (hp : p < c.length) : (c.take (p + 1)).set p (fat c p) = c.take (p + 1) := by
  apply List.ext_getElem
  · simp
  · intro i h1 h2
    rw [List.getElem_set]
    split
    · rename_i e; subst e; rw [List.getElem_take, fat_get hp]
    · rfl

set_option maxRecDepth 10000 in
set_option maxHeartbeats 12800000 in
theorem spec_etch {W : World} {B n cap rg ro rc : Nat} {xa : Option Addr} {c : List Flm} {ra : List Int} {t : Int} (hc : GC c) (hra : ∀ f, 0 ≤ raO ra f ∧ raO ra f ≤ 1000) (ht : 0 ≤ t ∧ t ≤ 100000) (hrg : rg < W.heap.size) (hrc : ∀ k, k < 12 → W.cell? ⟨rg, ro + k, none⟩ = some (.int .i64 (ra.getD k 0))) (h : OG 76 2 flC W B (.slice xa n cap) c) :
    Calls Try.prog 39 #[.slice xa n cap, .slice (some ⟨rg, ro, none⟩) 12 rc, .int .i64 t] W fun e w' => ∃ v', e = .returned v' ∧ PF B W w' (.slice xa n cap) v' (ebF c ra c.length t) := by
  have hnl : n = c.length := by obtain ⟨_, _, e⟩ := h.form; injection e
  have HN : Hid (n = c.length ∧ GC c) := ⟨hnl, hc⟩
  have hn24 : n ≤ 24 := by rw [hnl]; exact hc.len
  rcases Nat.eq_zero_or_pos n with h0 | h0
  · have HF : Hid (PF B W W (.slice xa n cap) (.slice xa n cap) (ebF c ra c.length t)) := by
      refine ⟨?_, ⟨rfl, rfl, rfl, Nat.le_refl _, fun _ _ _ => rfl⟩, fun j hj => Or.inr hj⟩
      have e : c = [] := List.eq_nil_of_length_eq_zero (by omega)
      rw [e] at h ⊢
      exact h
    subst h0
    clear h hc hra hrc
    go_enter Try.func39, Try.ntmps39
    go_wp2
    go_loopw [0, 2] (fun cv tv wr => cv = .slice xa 0 cap ∧ tv = .int .i64 t ∧ wr = W) (fun _ _ _ => 0)
    case atStart => exact ⟨rfl, rfl, rfl⟩
    case round =>
      obtain ⟨rfl, rfl, rfl⟩ := hrel
      go_wp2
      go_returns
      exact ⟨_, rfl, HF.out⟩
  obtain ⟨g, rfl⟩ : ∃ g, xa = some ⟨g, 0, none⟩ := by
    rcases h.2 with ⟨e, h9⟩ | ⟨g9, cap9, cur, e, _⟩
    · omega
    · injection e with e1; exact ⟨g9, e1⟩
  have H : Hid (OG 76 2 flC W B (.slice (some ⟨g, 0, none⟩) n cap) c) := h
  have HRC : Hid (∀ k, k < 12 → W.cell? ⟨rg, ro + k, none⟩ = some (.int .i64 (ra.getD k 0))) := hrc
  have HRA : Hid (∀ f, 0 ≤ raO ra f ∧ raO ra f ≤ 1000) := hra
  have hcap : (n : Int) ≤ (cap : Int) := by
    rcases h.2 with ⟨e, h9⟩ | ⟨g9, cap9, cur, e, _, _, h5, _⟩
    · cases e
    · injection e with e1 e2 e3; rw [← e3] at h5; omega
  clear h hc hra hrc hnl
  go_enter Try.func39, Try.ntmps39
  go_wp2
  go_loopw [0, 2] (fun cv tv wr => ∃ (j : Nat) (t' : Int), j ≤ n ∧ cv = .slice (some ⟨g, 0, none⟩) j cap ∧ tv = .int .i64 t' ∧ 0 ≤ t' ∧ t' ≤ 100000 ∧ wr = W ∧ Hid (ebF c ra c.length t = ebF c ra j t')) (fun cv _ _ => lenV cv)
  case atStart => exact ⟨n, t, Nat.le_refl _, rfl, rfl, ht.1, ht.2, rfl, by rw [HN.out.1]; rfl⟩
  case round =>
    obtain ⟨j, t', hjn, rfl, rfl, ht0, ht1, rfl, hx⟩ := hrel
    rcases Nat.eq_zero_or_pos j with hj0 | hj0
    · have HF : Hid (PF B wr wr (.slice (some ⟨g, 0, none⟩) n cap) (.slice (some ⟨g, 0, none⟩) 0 cap) (ebF c ra c.length t)) := by
        refine ⟨?_, ⟨rfl, rfl, rfl, Nat.le_refl _, fun _ _ _ => rfl⟩, fun j hj => Or.inr hj⟩
        rw [hx.out, hj0]
        have h1 := og_cut H.out (Nat.zero_le n)
        rw [List.take_zero] at h1
        exact h1
      subst hj0
      clear hx
      go_wp2
      go_returns
      exact ⟨_, rfl, HF.out⟩
    obtain ⟨p, hp⟩ : ∃ p, j = p + 1 := ⟨j - 1, by omega⟩
    have hpc : p < c.length := by rw [← HN.out.1]; omega
    obtain ⟨g', o', he, hgl, d0, d1⟩ := fl_at (OG.rg flC_len H.out) (show p < n by omega)
    injection he with he1
    injection he1 with he2 he3
    subst he2 he3
    rw [Nat.zero_add] at d0 d1
    obtain ⟨fm, hfm⟩ : ∃ x, x = (fat c p).m := ⟨_, rfl⟩
    obtain ⟨ft, hft⟩ : ∃ x, x = (fat c p).t := ⟨_, rfl⟩
    have hff : fat c p = ⟨fm, ft⟩ := by rw [hfm, hft]
    have hmb := HN.out.2.m hpc
    have htb := HN.out.2.t hpc
    rw [← hfm] at d0 hmb
    rw [← hft] at d1 htb
    obtain ⟨q, hq⟩ : ∃ q : Nat, q = (fm - 1).toNat := ⟨_, rfl⟩
    have hq12 : q < 12 := by omega
    obtain ⟨r, hr0⟩ : ∃ r, r = raO ra ⟨fm, ft⟩ := ⟨_, rfl⟩
    have hrb := HRA.out ⟨fm, ft⟩
    rw [← hr0] at hrb
    have c4 : wr.cell? ⟨rg, ro + q, none⟩ = some (.int .i64 r) := by rw [HRC.out q hq12, hr0, hq]; rfl
    have k1 : IntKind.i64.wrap ((j : Int) - 1) = (p : Int) := by rw [IntKind.wrap_i64]; omega
    have k2 : (j : Int) - 1 = (p : Int) := by omega
    have k3 : (0 : Int) ≤ (p : Int) := by omega
    have k4 : (p : Int) < (j : Int) := by omega
    have k5 : IntKind.i64.wrap (fm - 1) = (q : Int) := by rw [IntKind.wrap_i64]; omega
    have k6 : fm - 1 = (q : Int) := by omega
    have k7 : (0 : Int) ≤ (q : Int) := by omega
    have k8 : (q : Int) < 12 := by omega
    have k9 : (0 : Int) < (j : Int) := by omega
    have k10 : (p : Int) ≤ (cap : Int) := by omega
    obtain ⟨P0, hP0⟩ : ∃ x : Int, x = r * t' := ⟨_, rfl⟩
    have hP1 : 0 ≤ P0 := by rw [hP0]; exact Int.mul_nonneg hrb.1 ht0
    have hP2 : P0 ≤ 1000 * 100000 := by rw [hP0]; exact Int.mul_le_mul hrb.2 ht1 ht0 (by omega)
    have HP : Hid (ebF c ra c.length t = if P0 < ft then (c.take (p + 1)).set p ⟨fm, ft - P0⟩ else ebF c ra p (t' - neO ra ⟨fm, ft⟩)) := by
      unfold Hid; rw [hx.out, hp, ebF, hff, ← hr0, ← hP0]
    have HJ : Hid (j = p + 1 ∧ p < c.length ∧ fat c p = ⟨fm, ft⟩ ∧ r = raO ra ⟨fm, ft⟩ ∧ P0 = r * t') := ⟨hp, hpc, hff, hr0, hP0⟩
    have HCU : Hid (OG 76 2 flC wr B (.slice (some ⟨g, 0, none⟩) j cap) (c.take (p + 1))) := by
      rw [hp]; exact og_cut H.out (show p + 1 ≤ n by omega)
    clear hx hfm hft hff hq hr0 hp
    by_cases hr : r = 0
    · have HF : Hid (PF B wr wr (.slice (some ⟨g, 0, none⟩) n cap) (.slice (some ⟨g, 0, none⟩) j cap) (ebF c ra c.length t)) := by
        refine ⟨?_, ⟨rfl, rfl, rfl, Nat.le_refl _, fun _ _ _ => rfl⟩, fun j hj => Or.inr hj⟩
        have e0 : P0 = 0 := by rw [hP0, hr, Int.zero_mul]
        rw [HP.out, if_pos (by omega), e0, Int.sub_zero, ← HJ.out.2.2.1, take_set HJ.out.2.1]
        exact HCU.out
      subst hr
      clear hP0
      go_wp2
      go_returns
      exact ⟨_, rfl, HF.out⟩
    have hr1 : 1 ≤ r := by omega
    have hr8 : (r == 0) = false := by simpa using hr
    obtain ⟨nd, hnd⟩ : ∃ x, x = neO ra ⟨fm, ft⟩ := ⟨_, rfl⟩
    have hdiv : Int.tdiv (ft + r - 1) r = nd := by
      rw [hnd, Int.tdiv_eq_ediv_of_nonneg (by omega), neO, ← HJ.out.2.2.2.1]
    have hnd2 : 0 ≤ nd ∧ nd ≤ 200000 := by
      rw [← hdiv, Int.tdiv_eq_ediv_of_nonneg (by omega)]
      refine ⟨Int.ediv_nonneg (by omega) (by omega), ?_⟩
      have := Int.ediv_le_self (a := ft + r - 1) r (by omega)
      omega
    have hw1 : IntKind.i64.wrap (ft + r) = ft + r := by rw [IntKind.wrap_i64]; omega
    have hw2 : IntKind.i64.wrap (ft + r - 1) = ft + r - 1 := by rw [IntKind.wrap_i64]; omega
    have hw3 : IntKind.i64.wrap nd = nd := by rw [IntKind.wrap_i64]; omega
    by_cases hlt : P0 < ft
    · have hgt := ne_gt (t := t') (by rw [← HJ.out.2.2.2.1]; exact hr1) (show raO ra ⟨fm, ft⟩ * t' < ft by rw [← HJ.out.2.2.2.1, ← hP0]; exact hlt)
      rw [← hnd] at hgt
      have hgt2 : ¬ nd ≤ t' := by omega
      have hmul : IntKind.i64.wrap (r * t') = P0 := by rw [← hP0, IntKind.wrap_i64]; omega
      have hw5 : IntKind.i64.wrap (ft - P0) = ft - P0 := by rw [IntKind.wrap_i64]; omega
      have f1 : wr.frozen? ⟨g, p * 2 + 1, none⟩ = false := by
        have h9 := H.out
        unfold OG at h9
        rw [← HN.out.1] at h9
        exact World.ownsRow.frozenAt h9 _
      have HF : Hid (PF B wr (wr.setCell ⟨g, p * 2 + 1, none⟩ (.int .i64 (ft - P0))) (.slice (some ⟨g, 0, none⟩) n cap) (.slice (some ⟨g, 0, none⟩) j cap) (ebF c ra c.length t)) := by
        have h1 := og_thick HCU.out (show p < (c.take (p + 1)).length by rw [List.length_take]; have := HJ.out.2.1; omega) (ft - P0)
        have e : fat (c.take (p + 1)) p = fat c p := by
          unfold fat
          rw [List.getD_eq_getElem?_getD, List.getElem?_take_of_lt (by omega), ← List.getD_eq_getElem?_getD]
        rw [e, HJ.out.2.2.1] at h1
        refine ⟨?_, ⟨rfl, rfl, rfl, by simp, fun k _ hk => heap_setCell_other _ _ _ _ (fun e => hk (by rw [e]; rfl))⟩, fun j hj => Or.inr hj⟩
        rw [HP.out, if_pos hlt]
        exact h1
      clear hnd HP HCU hP0
      go_wp2
      go_returns
      exact ⟨_, rfl, HF.out⟩
    · have hle := ne_le (t := t') (HRA.out ⟨fm, ft⟩).1 htb.1 (by rw [← HJ.out.2.2.2.1, ← hP0]; exact hlt)
      rw [← hnd] at hle
      have hw4 : IntKind.i64.wrap (t' - nd) = t' - nd := by rw [IntKind.wrap_i64]; omega
      have HX : Hid (ebF c ra c.length t = ebF c ra p (t' - nd)) := by unfold Hid; rw [HP.out, if_neg hlt, hnd]
      have hle2 : nd ≤ t' := hle.2.2
      clear hnd HP HCU hP0
      go_wp2
      go_roundw
      case rel => exact ⟨p, t' - nd, by omega, rfl, by go_num, by omega, by omega, by first | rfl | trivial, HX.out⟩
      case measure => simp [lenV]; omega

end Go.Proofs.Ytceljakmjddgbab
