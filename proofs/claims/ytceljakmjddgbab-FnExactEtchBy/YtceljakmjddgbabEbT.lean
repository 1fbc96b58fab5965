/- Proved here: EtchBy of the model. -/
import Derived.Test.YtceljakmjddgbabEbE
import Derived.Test.YtceljakmjddgbabEbJ
import Derived.Test.YtceljakmjddgbabEsP
namespace Go.Proofs.Ytceljakmjddgbab
open Go.RowKit
set_option linter.unusedVariables false
set_option linter.unusedSimpArgs false
/-- The first j columns are turned. -/
def mqK (s : List (List Flm)) (f : Nat → List Flm → List Flm) (j : Nat) : List (List Flm) := (List.range s.length).map fun q => if q < j then f q (s.getD q []) else s.getD q []
theorem mqK_len (s : List (List Flm)) (f : Nat → List Flm → List Flm) (j : Nat) : (mqK s f j).length = s.length := by simp [mqK]
theorem mqK_zero (s : List (List Flm)) (f : Nat → List Flm → List Flm) : mqK s f 0 = s := by
  apply List.ext_getElem
  · simp [mqK]
  · intro i h1 h2
    simp [mqK, h2]
theorem mqK_at (s : List (List Flm)) (f : Nat → List Flm → List Flm) {j : Nat} (h : j < s.length) : (mqK s f j).getD j [] = s.getD j [] := by simp [mqK, h]
theorem mqK_set (s : List (List Flm)) (f : Nat → List Flm → List Flm) {j : Nat} (h : j < s.length) : (mqK s f j).set j (f j (s.getD j [])) = mqK s f (j + 1) := by
  apply List.ext_getElem
  · simp [mqK]
  · intro i h1 h2
    rw [List.length_set, mqK_len] at h1
    rw [List.getElem_set]
    split
    · rename_i e; subst e; simp [mqK]
    · rename_i e
      simp only [mqK, List.getElem_map, List.getElem_range]
      by_cases h3 : i < j
      · rw [if_pos h3, if_pos (by omega)]
      · rw [if_neg h3, if_neg (by omega)]
theorem mqK_same (s : List (List Flm)) (f : Nat → List Flm → List Flm) {j : Nat} (h : f j (s.getD j []) = s.getD j []) : mqK s f j = mqK s f (j + 1) := by
  unfold mqK
  apply List.map_congr_left
  intro q _
  by_cases h3 : q < j
  · rw [if_pos h3, if_pos (by omega)]
  · rw [if_neg h3]
    split
    · rw [show q = j by omega, h]
    · rfl
theorem mqK_aft {s : List (List Flm)} {f : Nat → List Flm → List Flm} {lays : Nat → List Lay} (h : ∀ i, i < s.length → putA (lays i) (lays i).length = f i (s.getD i [])) : mqK s f s.length = aftS lays s.length := by
  unfold mqK aftS
  apply List.map_congr_left
  intro q hq
  have hq' : q < s.length := by simpa using hq
  rw [if_pos hq', h q hq']

/-- What etching leaves of a column, behind its mask. -/
def ecF (ra : List Int) (t : Int) (mk : List Bool) (q : Nat) (c : List Flm) : List Flm := if mk.getD q false = true then c else ebF c ra c.length t
theorem ec_put {s : List (List Flm)} {ra : List Int} {t : Int} {mk : List Bool} {i : Nat} (h : GC (s.getD i [])) (hra : ∀ f, 0 ≤ raO ra f) (ht : 0 ≤ t) : putA (ebY s ra t mk i) (ebY s ra t mk i).length = ecF ra t mk i (s.getD i []) := by
  by_cases h9 : mk.getD i false = true
  · rw [ebY, ecF, if_pos h9, if_pos h9, whoL_len, putA_who h (Nat.le_refl _), List.take_length]
  · rw [ebY, ecF, if_neg h9, if_neg h9, ebL_put h hra ht]

set_option maxRecDepth 10000 in
set_option maxHeartbeats 25600000 in
theorem spec_etchBy {w : World} {v : Value} {s : List (List Flm)} {xa ma : Option Addr} {xn xc mn mc : Nat} {ra : List Int} {mk : List Bool} (m : Int) (hn : SmF s) (h : RsC w v s) (hx : RdI w (.slice xa xn xc) ra) (hy : RG 1 boC w (.slice ma mn mc) mk) (hxl : xn ≤ 1048576) (hml : mn ≤ 1048576) :
    Calls Try.prog 9 #[.agg #[v], .slice xa xn xc, .int .i64 m, .slice ma mn mc] w fun e w' => ∃ (vq : Value × Value) (vs : List Value), e = .returned (.agg #[.int .i64 (ebC s ra m mk), vq.1, vq.2]) ∧ RoE w' w.heap.size vq.1 vq.2 (etL (ebC s ra m mk) (ebY s ra m mk) s.length) (etG (ebC s ra m mk) (ebY s ra m mk) s.length) vs ∧ Below w.heap.size w w' := by
  obtain ⟨a, c, rfl⟩ := h.form
  obtain ⟨n, hnn⟩ : ∃ n, n = s.length := ⟨_, rfl⟩
  obtain ⟨F, hF0⟩ : ∃ F, F = secF s := ⟨_, rfl⟩
  obtain ⟨C, hC⟩ : ∃ C, C = ebC s ra m mk := ⟨_, rfl⟩
  obtain ⟨L, hL⟩ : ∃ L, L = etL C (ebY s ra m mk) n := ⟨_, rfl⟩
  obtain ⟨G, hG⟩ : ∃ G, G = etG C (ebY s ra m mk) n := ⟨_, rfl⟩
  rw [← hnn] at h ⊢
  rw [← hC, ← hL, ← hG]
  have HSF : Hid (∀ W, Below w.heap.size w W → Calls Try.prog 36 #[.agg #[.slice a n c]] W fun e w' => e = .returned (.int .i64 F) ∧ Below W.heap.size W w') := fun W hW => by rw [hF0]; exact spec_secF hn (h.rs.below hW)
  have H : Hid (RsC w (.slice a n c) s ∧ n = s.length ∧ F = secF s ∧ C = ebC s ra m mk ∧ L = etL C (ebY s ra m mk) n ∧ G = etG C (ebY s ra m mk) n) := ⟨h, hnn, hF0, hC, hL, hG⟩
  have HBAD : Hid (∀ D, ebC s ra m mk = D → D ≠ 0 → C = D ∧ ∀ W : World, RoE W w.heap.size (.slice none 0 0) (.slice none 0 0) L G []) := fun D hD hd => by
    have hc2 : C = D := by rw [hC, hD]
    refine ⟨hc2, fun W => ?_⟩
    rw [hL, hG, etL, etG, if_neg (by rw [hc2]; exact hd), if_neg (by rw [hc2]; exact hd)]
    exact ⟨RoF.nil _ _, World.ownsRow_nil _ _ _ _⟩
  have hxn : xn = ra.length := by obtain ⟨_, _, e, _⟩ := hx; injection e
  have hmn : mn = mk.length := by obtain ⟨_, _, e, _⟩ := hy; injection e
  have hnl : n ≤ 1048576 := by have := hn.len; omega
  have HXY : Hid (RdI w (.slice xa xn xc) ra ∧ RG 1 boC w (.slice ma mn mc) mk ∧ xn = ra.length ∧ mn = mk.length) := ⟨hx, hy, hxn, hmn⟩
  clear h hnn hn hF0 hC hL hG hx hy hxn hmn
  go_enter Try.func9, Try.ntmps9
  go_wp2_with (fail)
  refine (HSF.out _ (by (repeat' (first | (with_reducible exact Below.refl _ _) | (with_reducible assumption) | (with_reducible refine Below.setCell ?_ ?_ _) | (with_reducible refine Below.alloc ?_ ?_ _) | (with_reducible refine below_drewN ?_ _) | (with_reducible refine Below.drew ?_) | (with_reducible exact Nat.le_refl _) | omega | (simp; done) | (simp; omega))))).mono ?_
  rintro e w1 ⟨rfl, hb1⟩
  have k0 := (hb1.block w.heap.size (by simp <;> omega)).trans ((Below.heap_alloc _ _ _ (by simp)).trans (heap_alloc_new w _))
  have k1 := (hb1.block (w.heap.size + 1) (by simp)).trans (kn_at1s w _ _)
  have hbw : Below w.heap.size w w1 := (show Below w.heap.size w _ from by (repeat' (first | (with_reducible exact Below.refl _ _) | (with_reducible assumption) | (with_reducible refine Below.setCell ?_ ?_ _) | (with_reducible refine Below.alloc ?_ ?_ _) | (with_reducible refine below_drewN ?_ _) | (with_reducible refine Below.drew ?_) | (with_reducible exact Nat.le_refl _) | omega | (simp; done) | (simp; omega)))).trans (hb1.mono (by simp; omega))
  have H1 : Hid (Below w.heap.size w w1 ∧ w1.heap[w.heap.size + 1]? = some (.cells #[.int .i64 0, .slice none 0 0, .slice none 0 0] 32) ∧ w1.heap[w.heap.size]? = some (.cells #[.slice a n c] 30)) := ⟨hbw, k1, k0⟩
  obtain ⟨a0, al⟩ := one_ofs k0
  obtain ⟨p0, p1, p2, f0, f1, f2, pl⟩ := three_s k1
  have HB0 : Hid (∀ D : Int, Below w.heap.size w (((w1.setCell ⟨w.heap.size + 1, 0, none⟩ (.int .i64 D)).setCell ⟨w.heap.size + 1, 1, none⟩ (.slice none 0 0)).setCell ⟨w.heap.size + 1, 2, none⟩ (.slice none 0 0))) := fun D => by
    have := H1.out.1; (repeat' (first | (with_reducible exact Below.refl _ _) | (with_reducible assumption) | (with_reducible refine Below.setCell ?_ ?_ _) | (with_reducible refine Below.alloc ?_ ?_ _) | (with_reducible refine below_drewN ?_ _) | (with_reducible refine Below.drew ?_) | (with_reducible exact Nat.le_refl _) | omega | (simp; done) | (simp; omega)))
  clear hb1 k0 k1 hbw HSF
  by_cases hF : F = 0
  case neg =>
    have HE : Hid _ := HBAD.out F (by rw [ebC, ← H.out.2.2.1, if_neg hF]) hF
    have hF' : (F == 0) = false := by simpa using hF
    go_wp2
    refine bodyPost_ret (by simp [results, Try.results9, go_sem, p0, p1, p2, pl]; try rfl) rfl ?_
    first | exact ⟨(_, _), [], by rw [HE.out.1] <;> rfl, HE.out.2 _, HB0.out _⟩ | exact ⟨_, _, by rw [HE.out.1] <;> rfl, ⟨[], HE.out.2 _⟩, HB0.out _⟩
  have HF : Hid (secF s = 0) := H.out.2.2.1 ▸ hF
  subst hF
  by_cases h12 : xn = 12 ∧ mn = n
  case neg =>
    have HE : Hid _ := HBAD.out 1 (by rw [ebC, if_pos HF.out, if_neg (fun h => h12 ⟨by rw [HXY.out.2.2.1]; exact h.1, by rw [HXY.out.2.2.2, H.out.2.1]; exact h.2⟩)]) (by decide)
    by_cases hxa : xn = 12
    · have hm2 : ¬ (mn : Int) = (n : Int) := by have : mn ≠ n := fun e => h12 ⟨hxa, e⟩; omega
      have hm' : ((mn : Int) == (n : Int)) = false := by simp; omega
      subst hxa
      clear h12
      go_wp2
      refine bodyPost_ret (by simp [results, Try.results9, go_sem, p0, p1, p2, pl]; try rfl) rfl ?_
      first | exact ⟨(_, _), [], by rw [HE.out.1] <;> rfl, HE.out.2 _, HB0.out _⟩ | exact ⟨_, _, by rw [HE.out.1] <;> rfl, ⟨[], HE.out.2 _⟩, HB0.out _⟩
    · have hm2 : ¬ (xn : Int) = 12 := by omega
      have hm' : ((xn : Int) == 12) = false := by simp; omega
      clear h12
      go_wp2
      refine bodyPost_ret (by simp [results, Try.results9, go_sem, p0, p1, p2, pl]; try rfl) rfl ?_
      first | exact ⟨(_, _), [], by rw [HE.out.1] <;> rfl, HE.out.2 _, HB0.out _⟩ | exact ⟨_, _, by rw [HE.out.1] <;> rfl, ⟨[], HE.out.2 _⟩, HB0.out _⟩
  obtain ⟨hxa, hma⟩ := h12
  subst hxa
  obtain ⟨rg, ro, rfl, hrg, hrc⟩ := rdI_all HXY.out.1 (by omega)
  have HRC : Hid (rg < w.heap.size ∧ (∀ k, k < 12 → w.cell? ⟨rg, ro + k, none⟩ = some (.int .i64 (ra.getD k 0))) ∧ ra.length = 12 ∧ mk.length = s.length ∧ mn = n) := ⟨hrg, hrc, HXY.out.2.2.1.symm, by rw [← HXY.out.2.2.2, hma, H.out.2.1], hma⟩
  clear hrg hrc
  have HBD3 : Hid (erF ra ≠ 0 ∨ ¬ (0 ≤ m ∧ m ≤ 100000) → C = 3 ∧ ∀ W : World, RoE W w.heap.size (.slice none 0 0) (.slice none 0 0) L G []) := fun h => by
    refine HBAD.out 3 ?_ (by decide)
    rw [ebC, if_pos HF.out, if_pos ⟨HRC.out.2.2.1, HRC.out.2.2.2.1⟩]
    by_cases h9 : erF ra = 0
    · rw [if_pos h9, if_neg]
      rcases h with h | h
      · exact absurd h9 h
      · exact h
    · rw [if_neg h9]
  subst hma
  go_wp2
  go_loopw [10] (fun i wr => ∃ j : Nat, j ≤ 12 ∧ i = .int .i64 j ∧ wr = w1 ∧ Hid (∀ k, k < j → 0 ≤ ra.getD k 0 ∧ ra.getD k 0 ≤ 1000)) (fun i _ => 12 - (intOf i).toNat)
  case atStart => exact ⟨0, Nat.zero_le _, rfl, rfl, fun k hk => by omega⟩
  case round =>
    obtain ⟨j, hj, rfl, rfl, hx⟩ := hrel
    by_cases hlt : j < 12
    · have c0 := (H1.out.1.cell (p := ⟨rg, ro + j, none⟩) HRC.out.1).trans (HRC.out.2.1 j hlt)
      have c1 : rg < wr.heap.size := Nat.lt_of_lt_of_le HRC.out.1 H1.out.1.size
      obtain ⟨r, hr⟩ : ∃ r, r = ra.getD j 0 := ⟨_, rfl⟩
      rw [← hr] at c0
      have b0 : (0 : Int) ≤ (j : Int) := by omega
      have b1 : (j : Int) < 12 := by omega
      by_cases hin : 0 ≤ r ∧ r ≤ 1000
      · have HX : Hid (∀ k, k < j + 1 → 0 ≤ ra.getD k 0 ∧ ra.getD k 0 ≤ 1000) := fun k hk => by
          rcases Nat.lt_or_ge k j with h1 | h1
          · exact hx.out k h1
          · rw [show k = j by omega, ← hr]; exact hin
        clear hx hr
        go_wp2_with (fail)
        refine (spec_in10 r 0 1000 _).mono ?_
        rintro e w2 ⟨rfl, rfl⟩
        rw [decide_eq_true hin]
        go_wp2
        go_roundw
        case rel => exact ⟨j + 1, by omega, by go_num, by first | rfl | trivial, HX.out⟩
        case measure => simp [intOf]; omega
      · have HE : Hid _ := HBD3.out (Or.inl (fun e => by
          unfold erF at e
          split at e
          · rename_i h9; exact hin (by rw [hr]; exact h9 j (by rw [HRC.out.2.2.1]; exact hlt))
          · cases e))
        clear hx hr
        go_wp2_with (fail)
        refine (spec_in10 r 0 1000 _).mono ?_
        rintro e w2 ⟨rfl, rfl⟩
        rw [decide_eq_false hin]
        go_wp2
        refine bodyPost_ret (by simp [results, Try.results9, go_sem, p0, p1, p2, pl]; try rfl) rfl ?_
        first | exact ⟨(_, _), [], by rw [HE.out.1] <;> rfl, HE.out.2 _, HB0.out _⟩ | exact ⟨_, _, by rw [HE.out.1] <;> rfl, ⟨[], HE.out.2 _⟩, HB0.out _⟩
    obtain rfl : j = 12 := by omega
    have HER : Hid (erF ra = 0) := by
      unfold Hid erF
      rw [if_pos fun k hk => hx.out k (by rw [HRC.out.2.2.1] at hk; exact hk)]
    clear hx
    go_wp2_with (fail)
    refine (spec_in10 m 0 100000 _).mono ?_
    rintro e w2 ⟨rfl, rfl⟩
    by_cases hm : 0 ≤ m ∧ m ≤ 100000
    case neg =>
      rw [decide_eq_false hm]
      have HE : Hid _ := HBD3.out (Or.inr hm)
      clear hm
      go_wp2
      refine bodyPost_ret (by simp [results, Try.results9, go_sem, p0, p1, p2, pl]; try rfl) rfl ?_
      first | exact ⟨(_, _), [], by rw [HE.out.1] <;> rfl, HE.out.2 _, HB0.out _⟩ | exact ⟨_, _, by rw [HE.out.1] <;> rfl, ⟨[], HE.out.2 _⟩, HB0.out _⟩
    rw [decide_eq_true hm]
    have HM : Hid (0 ≤ m ∧ m ≤ 100000) := hm
    have HC0 : Hid (C = 0) := by unfold Hid; rw [H.out.2.2.2.1, ebC, if_pos HF.out, if_pos ⟨HRC.out.2.2.1, HRC.out.2.2.2.1⟩, if_pos HER.out, if_pos hm]
    have HGS : Hid (GS s) := secF_zero.1 HF.out
    clear hm HBAD HB0 HBD3
    have hn16 : mn ≤ 16 := by rw [H.out.2.1]; exact HGS.out.len
    obtain ⟨w1, hw1e⟩ : ∃ x, x = w2 := ⟨_, rfl⟩
    subst hw1e
    obtain ⟨n, hnn⟩ : ∃ n, n = mn := ⟨_, rfl⟩
    subst hnn
    have HCP : Hid (Calls Try.prog 38 #[.agg #[.slice a n c]] w1 fun e w' => ∃ v' vs, e = .returned (.agg #[v']) ∧ RoF w' w1.heap.size v' s vs ∧ Below w1.heap.size w1 w') := spec_copy12 HGS.out (H.out.1.below H1.out.1)
    go_wp2_with (fail)
    refine HCP.out.mono ?_
    rintro e w3 ⟨v3, vs0, rfl, hro3, hb3⟩
    obtain ⟨gC, cc, hv3, hgB, _, _⟩ := hro3.pos (by have := HGS.out.pos; omega)
    rw [← H.out.2.1] at hv3
    subst hv3
    clear HCP p0 p1 p2 f0 f1 f2 pl a0 al
    go_wp2_with (fail)
    obtain ⟨K, hK⟩ : ∃ K, K = w3.heap.size := ⟨_, rfl⟩
    obtain ⟨w4, hw4⟩ : ∃ x, x = w3.alloc (.cells #[.slice (some ⟨gC, 0, none⟩) n cc] 30) := ⟨_, rfl⟩
    have HS0 : Hid (DP w w1 K n cc gC (mqK s (ecF ra m mk) 0) w4) := by
      have hb4 : Below w3.heap.size w3 w4 := by rw [hw4]; (repeat' (first | (with_reducible exact Below.refl _ _) | (with_reducible assumption) | (with_reducible refine Below.setCell ?_ ?_ _) | (with_reducible refine Below.alloc ?_ ?_ _) | (with_reducible refine below_drewN ?_ _) | (with_reducible refine Below.drew ?_) | (with_reducible exact Nat.le_refl _) | omega | (simp; done) | (simp; omega)))
      exact ⟨⟨vs0, by rw [mqK_zero]; exact hro3.below hb4⟩, by rw [hw4, hK]; exact heap_alloc_new _ _, hb3.trans (hb4.mono hb3.size)⟩
    go_wp2
    rw [← hw4, ← hK]
    clear hw4 hK hro3 hb3 hgB
    go_loopw [12] (fun i wr => ∃ j : Nat, j ≤ n ∧ i = .int .i64 j ∧ Hid (DP w w1 K n cc gC (mqK s (ecF ra m mk) j) wr)) (fun i _ => n - (intOf i).toNat)
    case atStart => exact ⟨0, Nat.zero_le _, rfl, HS0.out⟩
    case round =>
      clear HS0
      obtain ⟨j, hjn, rfl, hR⟩ := hrel
      have b0' := cellOf hR.out.kb 0 rfl
      have bl' := ltOf hR.out.kb
      by_cases hlt : j < n
      · obtain ⟨vs, hro⟩ := hR.out.ro
        have hjs : j < s.length := by rw [← H.out.2.1]; exact hlt
        have HJ : Hid (j < s.length) := hjs
        have hjl : j < (mqK s (ecF ra m mk) j).length := by rw [mqK_len]; exact hjs
        have hbw : Below w.heap.size w wr := H1.out.1.trans (hR.out.bl.mono H1.out.1.size)
        obtain ⟨mg, mo, rfl, hmg, hmc⟩ := rdB_at HXY.out.2.1 hlt
        have m0 := (hbw.cell (p := ⟨mg, mo + j, none⟩) hmg).trans hmc
        have m1 : mg < wr.heap.size := Nat.lt_of_lt_of_le hmg hbw.size
        obtain ⟨bv, hbv⟩ : ∃ x, x = mk.getD j false := ⟨_, rfl⟩
        rw [← hbv] at m0
        have b0 : (0 : Int) ≤ (j : Int) := by omega
        have b1 : (j : Int) < (n : Int) := by omega
        clear hmc hmg
        cases bv with
        | true =>
          have HX : Hid (DP w w1 K n cc gC (mqK s (ecF ra m mk) (j + 1)) wr) := by
            rw [← mqK_same s (ecF ra m mk) (by unfold ecF; rw [if_pos hbv.symm])]
            exact hR.out
          clear hR hro hbv hbw
          go_wp2
          go_roundw
          case rel => exact ⟨j + 1, by omega, by go_num, HX.out⟩
          case measure => simp [intOf]; omega
        | false =>
        obtain ⟨gc', cc', he, _, hgcl, hcc⟩ := hro.pos (by omega)
        injection he with he1 he2 he3
        injection he1 with he4
        injection he4 with he5
        subst he5
        have c0 := hcc j hjl
        have fz : wr.frozen? ⟨gC, j, none⟩ = false := World.ownsRow.frozenAt (show wr.ownsRow w1.heap.size 62 1 (.slice (some ⟨gC, 0, none⟩) n cc) n vs by have := hro.o; rw [mqK_len, ← H.out.2.1] at this; exact this) j
        have hrow := hro.bx j hjl
        rw [mqK_at s (ecF ra m mk) hjs] at hrow
        obtain ⟨xv, hxv⟩ : ∃ x, x = rat vs j := ⟨_, rfl⟩
        rw [← hxv] at c0 hrow
        have hgc := HGS.out.col j hjs
        have HK : Hid (DP w w1 K n cc gC (mqK s (ecF ra m mk) j) wr ∧ RoF wr w1.heap.size (.slice (some ⟨gC, 0, none⟩) n cc) (mqK s (ecF ra m mk) j) vs ∧ j < (mqK s (ecF ra m mk) j).length ∧ xv = rat vs j) := ⟨hR.out, hro, hjl, hxv⟩
        have HFJ : Hid (ecF ra m mk j (s.getD j []) = ebF (s.getD j []) ra (s.getD j []).length m) := by unfold Hid ecF; rw [if_neg (by rw [← hbv]; decide)]
        obtain ⟨xva, xvc, hxvf⟩ := hrow.form
        obtain ⟨xvn, hxvn⟩ : ∃ x, x = (s.getD j []).length := ⟨_, rfl⟩
        rw [← hxvn] at hxvf
        have HPU : Hid (∀ W, Below wr.heap.size wr W → Calls Try.prog 39 #[xv, .slice (some ⟨rg, ro, none⟩) 12 xc, .int .i64 m] W fun e w' => ∃ v', e = .returned v' ∧ PF w1.heap.size W w' xv v' (ebF (s.getD j []) ra (s.getD j []).length m)) := fun W hW => by
          have hbW := hbw.trans (hW.mono hbw.size)
          have hrW := hrow.below hW
          rw [hxvf] at hrW ⊢
          exact spec_etch hgc (erF_ok HER.out) HM.out (Nat.lt_of_lt_of_le HRC.out.1 hbW.size) (fun k hk => (hbW.cell (p := ⟨rg, ro + k, none⟩) HRC.out.1).trans (HRC.out.2.1 k hk)) hrW
        clear hro hrow hcc he2 he3 hxv hjl hjs hgc hbv hbw hxvn
        go_wp2_with (fail)
        have hkb := hR.out.kb
        clear b0' bl' hR m0 m1
        have hD0 : Below wr.heap.size wr wr.drew := (Below.refl _ _).drew
        refine wp_region_holdsA (S := fun w' => w'.heap[K]? = some (.cells #[.slice (some ⟨gC, 0, none⟩) n cc] 30)) (by kernel_rfl) hkb (fun hS => ?_)
        refine fl_takeA (i := 0) (d := 62) (v := .pointer (some ⟨K, 0, none⟩)) rfl rfl rfl (by kernel_rfl) (by kernel_rfl) (by kernel_rfl) hS ?_ ?_
        · intro w' hk; have x0 := cellOf hk 0 rfl; have x1 := ltOf hk; go_simp
        simp only [Act.put, List.setIfInBounds_toArray, List.set_cons_zero, List.set_cons_succ]
        refine fl_takeA (i := 1) (d := 63) (v := .slice (some ⟨gC, 0, none⟩) n cc) rfl rfl rfl (by kernel_rfl) (by kernel_rfl) (by kernel_rfl) hS ?_ ?_
        · intro w' hk; have x0 := cellOf hk 0 rfl; have x1 := ltOf hk; go_simp
        simp only [Act.put, List.setIfInBounds_toArray, List.set_cons_zero, List.set_cons_succ]
        refine fl_takeA (i := 2) (d := 64) (v := .int .i64 j) rfl rfl rfl (by kernel_rfl) (by kernel_rfl) (by kernel_rfl) hS ?_ ?_
        · intro w' hk; have x0 := cellOf hk 0 rfl; have x1 := ltOf hk; go_simp
        simp only [Act.put, List.setIfInBounds_toArray, List.set_cons_zero, List.set_cons_succ]
        refine fl_takeA (i := 3) (d := 65) (v := .pointer (some ⟨K, 0, none⟩)) rfl rfl rfl (by kernel_rfl) (by kernel_rfl) (by kernel_rfl) hS ?_ ?_
        · intro w' hk; have x0 := cellOf hk 0 rfl; have x1 := ltOf hk; go_simp
        simp only [Act.put, List.setIfInBounds_toArray, List.set_cons_zero, List.set_cons_succ]
        refine fl_takeA (i := 4) (d := 66) (v := .slice (some ⟨gC, 0, none⟩) n cc) rfl rfl rfl (by kernel_rfl) (by kernel_rfl) (by kernel_rfl) hS ?_ ?_
        · intro w' hk; have x0 := cellOf hk 0 rfl; have x1 := ltOf hk; go_simp
        simp only [Act.put, List.setIfInBounds_toArray, List.set_cons_zero, List.set_cons_succ]
        refine fl_takeA (i := 5) (d := 67) (v := .int .i64 j) rfl rfl rfl (by kernel_rfl) (by kernel_rfl) (by kernel_rfl) hS ?_ ?_
        · intro w' hk; have x0 := cellOf hk 0 rfl; have x1 := ltOf hk; go_simp
        simp only [Act.put, List.setIfInBounds_toArray, List.set_cons_zero, List.set_cons_succ]
        refine fl_takeA (i := 6) (d := 68) (v := .pointer (some ⟨gC, j, none⟩)) rfl rfl rfl (by kernel_rfl) (by kernel_rfl) (by kernel_rfl) hS ?_ ?_
        · intro w' hk; have x0 := cellOf hk 0 rfl; have x1 := ltOf hk; go_simp
        simp only [Act.put, List.setIfInBounds_toArray, List.set_cons_zero, List.set_cons_succ]
        refine fl_takeA (i := 8) (d := 70) (v := .slice (some ⟨rg, ro, none⟩) 12 xc) rfl rfl rfl (by kernel_rfl) (by kernel_rfl) (by kernel_rfl) hS ?_ ?_
        · intro w' hk; have x0 := cellOf hk 0 rfl; have x1 := ltOf hk; go_simp
        simp only [Act.put, List.setIfInBounds_toArray, List.set_cons_zero, List.set_cons_succ]
        refine fl_takeA (i := 9) (d := 71) (v := .int .i64 m) rfl rfl rfl (by kernel_rfl) (by kernel_rfl) (by kernel_rfl) hS ?_ ?_
        · intro w' hk; have x0 := cellOf hk 0 rfl; have x1 := ltOf hk; go_simp
        simp only [Act.put, List.setIfInBounds_toArray, List.set_cons_zero, List.set_cons_succ]
        refine wpAnyH_all (rs := [7]) (by kernel_rfl) (by simp) ?_
        intro i hi
        obtain rfl : i = 7 := by simpa using hi
        clear hi
        refine op_val (d := 69) (v := xv) (w' := wr.drew) rfl rfl rfl (by go_simp) ?_
        simp only [Act.put, List.setIfInBounds_toArray, List.set_cons_zero, List.set_cons_succ]
        refine ⟨hS, ?_⟩
        refine wpAnyH_all (rs := [10]) (by kernel_rfl) (by simp) ?_
        intro i hi
        obtain rfl : i = 10 := by simpa using hi
        clear hi
        refine op_call (d := 72) rfl rfl rfl (by go_simp) ((HPU.out wr.drew hD0).mono ?_)
        rintro e y2 ⟨v2, rfl, hpf⟩
        obtain ⟨xa, xc2, hvf⟩ := hpf.o.form
        obtain ⟨xn, hxn⟩ : ∃ x, x = (ebF (s.getD j []) ra (s.getD j []).length m).length := ⟨_, rfl⟩
        rw [← hxn] at hvf
        subst hvf
        clear hxn
        have hA2 := (HK.out.1.below hD0).swap (HK.out.2.1.below hD0) HK.out.2.2.1 (by rw [← HK.out.2.2.2]; exact hpf)
        rw [← HFJ.out, mqK_set s (ecF ra m mk) HJ.out] at hA2
        have hhh : y2.heap[gC]? = wr.heap[gC]? := hA2.2.1
        have e0 : y2.cell? ⟨gC, j, none⟩ = some xv := by rw [← c0]; simp [World.cell?, hhh]
        have e1 : y2.frozen? ⟨gC, j, none⟩ = false := by rw [← fz]; simp [World.frozen?, hhh]
        have e2 : gC < y2.heap.size := Nat.lt_of_lt_of_le hgcl hpf.g.size
        refine ⟨_, rfl, hA2.2.2, ?_⟩
        simp only [Act.put, List.setIfInBounds_toArray, List.set_cons_zero, List.set_cons_succ]
        refine wpAnyH_all (rs := [11]) (by kernel_rfl) (by simp) ?_
        intro i hi
        obtain rfl : i = 11 := by simpa using hi
        clear hi
        refine op_val (d := 73) (v := .pointer (some ⟨gC, j, none⟩)) (w' := y2) rfl rfl rfl (by go_simp) ?_
        simp only [Act.put, List.setIfInBounds_toArray, List.set_cons_zero, List.set_cons_succ]
        refine ⟨hA2.2.2, ?_⟩
        refine wpAnyH_all (rs := [12]) (by kernel_rfl) (by simp) ?_
        intro i hi
        obtain rfl : i = 12 := by simpa using hi
        clear hi
        refine op_skipN (w' := y2.setCell ⟨gC, j, none⟩ (.slice xa xn xc2)) rfl rfl (by go_simp) ?_
        refine ⟨hA2.1.kb, wpAnyH_done (by kernel_rfl) (NoPanic.normal ?_) _⟩
        have HX : Hid (DP w w1 K n cc gC (mqK s (ecF ra m mk) (j + 1)) (y2.setCell ⟨gC, j, none⟩ (.slice xa xn xc2))) := hA2.1
        clear hA2 hpf hhh e0 e1 e2 c0 fz hgcl hD0
        go_wp2
        go_roundw
        case rel => exact ⟨j + 1, by omega, by go_num, HX.out⟩
        case measure => simp [intOf]; omega
      · have hX := hR.out
        rw [show j = s.length by rw [← H.out.2.1]; omega] at hX
        have HX : Hid (DP w w1 K n cc gC (mqK s (ecF ra m mk) s.length) wr) := hX
        clear hX hR
        have HLY : Hid (LyOk s (ebY s ra m mk)) := eb_ly HGS.out (fun f => (erF_ok HER.out f).1) HM.out.1 mk
        have HAE : Hid (mqK s (ecF ra m mk) s.length = aftS (ebY s ra m mk) s.length) := mqK_aft fun i hi => ec_put (HGS.out.col i hi) (fun f => (erF_ok HER.out f).1) HM.out.1
        have HGO : Hid (Calls Try.prog 40 #[.agg #[.slice a n c], .agg #[.slice (some ⟨gC, 0, none⟩) n cc]] wr fun e w' => ∃ ga gc, e = .returned (.agg #[.int .i64 0, .slice (some ⟨gC, 0, none⟩) n cc, .slice ga 12 gc]) ∧ IS w' wr.heap.size (.slice ga 12 gc) G ∧ Below wr.heap.size wr w') := by
          obtain ⟨vs, hro⟩ := HX.out.ro
          rw [HAE.out] at hro
          have h9 := spec_gone HGS.out.ws (aft_ws HGS.out HLY.out) (H.out.1.rs.below (H1.out.1.trans (HX.out.bl.mono H1.out.1.size))) hro.rd
          rw [aftS_len, books_all HGS.out HLY.out] at h9
          have e2 : G = goA (ebY s ra m mk) s.length := by rw [H.out.2.2.2.2.2, etG, if_pos HC0.out, H.out.2.1]
          rw [e2]
          exact h9
        have hsb := (HX.out.bl.block _ (ltOf H1.out.2.2)).trans H1.out.2.2
        have x0 := cellOf hsb 0 rfl
        have x1 := ltOf hsb
        clear hsb
        go_wp2_with (fail)
        refine HGO.out.mono ?_
        rintro e w5 ⟨ga, gc, rfl, hgo, hb5⟩
        have hX5 := HX.out.below hb5
        have k1 := (hX5.bl.block _ (ltOf H1.out.2.1)).trans H1.out.2.1
        obtain ⟨p0, p1, p2, f0, f1, f2, pl⟩ := three_s k1
        obtain ⟨W, hW⟩ : ∃ W, W = ((w5.setCell ⟨w.heap.size + 1, 0, none⟩ (.int .i64 0)).setCell ⟨w.heap.size + 1, 1, none⟩ (.slice (some ⟨gC, 0, none⟩) n cc)).setCell ⟨w.heap.size + 1, 2, none⟩ (.slice ga 12 gc) := ⟨_, rfl⟩
        have HFI : Hid (∃ vs, RoE W w.heap.size (.slice (some ⟨gC, 0, none⟩) n cc) (.slice ga 12 gc) L G vs ∧ Below w.heap.size w W) := by
          have hbW : Below w.heap.size w W := by rw [hW]; have := H1.out.1.trans (hX5.bl.mono H1.out.1.size); (repeat' (first | (with_reducible exact Below.refl _ _) | (with_reducible assumption) | (with_reducible refine Below.setCell ?_ ?_ _) | (with_reducible refine Below.alloc ?_ ?_ _) | (with_reducible refine below_drewN ?_ _) | (with_reducible refine Below.drew ?_) | (with_reducible exact Nat.le_refl _) | omega | (simp; done) | (simp; omega)))
          obtain ⟨vs, hro⟩ := hX5.ro
          rw [HAE.out] at hro
          have ho : ∀ z, w1.heap.size ≤ z → W.heap[z]? = w5.heap[z]? := fun z hz => by
            have := ltOf H1.out.2.1
            rw [hW, heap_setCell_other _ _ _ _ (by simp; omega), heap_setCell_other _ _ _ _ (by simp; omega), heap_setCell_other _ _ _ _ (by simp; omega)]
          have e1 : L = aftS (ebY s ra m mk) s.length := by rw [H.out.2.2.2.2.1, etL, if_pos HC0.out, H.out.2.1]
          refine ⟨vs, ⟨?_, ?_⟩, hbW⟩
          · rw [e1]
            exact (hro.kept (fun z hz => ho z (rowBlk hro.o hz).1) (fun i hi z hz => ho z (rowBlk (hro.bx i hi) hz).1)).low H1.out.1.size
          · have h8 := rowLow (IS.kept (w' := W) hgo (fun q hq => ho q (Nat.le_trans HX.out.bl.size (World.ownsRow.lt hgo q hq).1))) (Nat.le_trans H1.out.1.size HX.out.bl.size)
            exact h8
        have HWW : Hid _ := hW
        clear hW hX5 k1 hb5 hgo HGO x0 x1
        go_wp2
        rw [← HWW.out]
        obtain ⟨vs, z1, z2⟩ := HFI.out
        refine bodyPost_ret (by rw [HWW.out]; simp [results, Try.results9, go_sem, p0, p1, p2, pl]; try rfl) rfl ?_
        first | exact ⟨(_, _), vs, by rw [HC0.out] <;> rfl, z1, z2⟩ | exact ⟨_, _, by rw [HC0.out] <;> rfl, ⟨vs, z1⟩, z2⟩


end Go.Proofs.Ytceljakmjddgbab
