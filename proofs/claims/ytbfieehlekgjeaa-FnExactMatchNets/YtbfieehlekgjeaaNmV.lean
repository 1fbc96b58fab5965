/- Proved here: the laws' package writes 1, 2, .. into lists of devices, and holds them; compares answers of RenameNets. -/
import Derived.Test.YtbfieehlekgjeaaNlT
import Derived.Test.YtbfieehlekgjeaaInts
namespace Go.Proofs.Ytbfieehlekgjeaa
open Go.ChangeShapes Go.WideShapes Go.ChangeAt Go.RowKit Go.Joins
set_option linter.unusedVariables false
set_option linter.unusedSimpArgs false

/-- The first number of device j. -/
def stD (s : List Dv) (k : Int) : Nat → Int
  | 0 => k
  | j + 1 => stD s k j + 1 + (((s[j]?).map fun d => d.p.length).getD 0 : Nat)
theorem stD_step {s : List Dv} {k : Int} {j : Nat} (h : j < s.length) : stD s k (j + 1) = stD s k j + 1 + (s[j].p.length : Int) := by
  rw [stD, List.getElem?_eq_getElem h]; rfl
theorem stD_le {s : List Dv} {k : Int} (h : ∀ j (h : j < s.length), s[j].p.length ≤ 1048576) : ∀ j, j ≤ s.length → k ≤ stD s k j ∧ stD s k j ≤ k + (j : Int) * 1048577 := by
  intro j
  induction j with
  | zero => intro _; simp [stD]
  | succ j ih =>
    intro hj
    have h1 := ih (by omega)
    have h2 := h j (by omega)
    rw [stD_step (by omega)]
    omega
/-- The list with its numbers. -/
def mkD (s : List Dv) (k : Int) : List Dv := (List.range s.length).map fun j => ⟨stD s k j, marks (stD s k j + 1) (((s[j]?).map fun d => d.p.length).getD 0)⟩
theorem mkD_len (s : List Dv) (k : Int) : (mkD s k).length = s.length := by simp [mkD]
theorem mkD_at {s : List Dv} {k : Int} {j : Nat} (h : j < (mkD s k).length) (h' : j < s.length) : (mkD s k)[j] = ⟨stD s k j, marks (stD s k j + 1) s[j].p.length⟩ := by
  simp [mkD, List.getElem?_eq_getElem h']

theorem fm_set {rs : List Rd} {j : Nat} {K : Int} (h : j < rs.length) : (rs.set j ⟨K, rs[j].a, rs[j].n, rs[j].c⟩).flatMap rdC = (rs.flatMap rdC).set (j * 2) (.int .i64 K) := by
  apply List.ext_getElem?
  intro t
  have hl : (rs.flatMap rdC).length = rs.length * 2 := fm_length rdC_len rs
  have hl2 : ((rs.set j ⟨K, rs[j].a, rs[j].n, rs[j].c⟩).flatMap rdC).length = rs.length * 2 := by rw [fm_length rdC_len]; simp
  rcases Nat.lt_or_ge t (rs.length * 2) with ht | ht
  · obtain ⟨i, c, rfl, hc⟩ : ∃ i c, t = i * 2 + c ∧ c < 2 := ⟨t / 2, t % 2, by omega, by omega⟩
    have hi : i < rs.length := by omega
    rw [fm_get rdC_len _ i c (by simpa using hi) hc]
    by_cases hij : i = j
    · subst hij
      rw [List.getElem_set_self]
      rcases (by omega : c = 0 ∨ c = 1) with rfl | rfl
      · rw [Nat.add_zero, List.getElem?_set_self (by omega)]; rfl
      · rw [List.getElem?_set_ne (by omega), fm_get rdC_len rs i 1 hi (by omega)]; rfl
    · rw [List.getElem_set_ne (fun e => hij e.symm), List.getElem?_set_ne (by omega), fm_get rdC_len rs i c hi hc]
  · rw [List.getElem?_eq_none (by omega), List.getElem?_eq_none (by rw [List.length_set]; omega)]

theorem Chg.refl (B Z : Nat) (w : World) : Chg B Z w w := ⟨rfl, rfl, rfl, Nat.le_refl _, fun _ _ _ => rfl⟩
theorem Chg.trans {B Z : Nat} {w w' w'' : World} (h : Chg B Z w w') (h' : Chg B Z w' w'') : Chg B Z w w'' :=
  ⟨h'.os.trans h.os, h'.tape.trans h.tape, h'.output.trans h.output, Nat.le_trans h.size h'.size, fun k hk hb => (h'.block k (Nat.lt_of_lt_of_le hk h.size) hb).trans (h.block k hk hb)⟩
theorem Chg.set {B Z g o : Nat} (w : World) (u : Value) (h1 : B ≤ g) (h2 : g < Z) : Chg B Z w (w.setCell ⟨g, o, none⟩ u) :=
  ⟨rfl, rfl, rfl, by simp, fun k hk hb => heap_setCell_other _ _ _ _ (by simp; omega)⟩
theorem Chg.only {B Z g : Nat} {w w' : World} (h : Only g w w') (h1 : B ≤ g) (h2 : g < Z) : Chg B Z w w' :=
  ⟨h.os, h.tape, h.output, by rw [h.size]; exact Nat.le_refl _, fun k hk hb => h.block k (by omega)⟩
theorem Chg.below {B Z A : Nat} {w w' : World} (h : Chg B Z w w') (hA : A ≤ B) (hs : A ≤ w.heap.size) : Below A w w' :=
  ⟨h.os, h.tape, h.output, h.size, fun k hk => h.block k (by omega) (Or.inl (by omega))⟩
theorem Chg.of_below {B Z : Nat} {w w' : World} (h : Below w.heap.size w w') : Chg B Z w w' :=
  ⟨h.os, h.tape, h.output, h.size, fun k hk _ => h.block k hk⟩

/-- A kind is written. -/
theorem OD.setk {w : World} {B Z g n c : Nat} {s : List Dv} {rs : List Rd} {j : Nat} {K : Int} (h : OD w B Z (.slice (some ⟨g, 0, none⟩) n c) s rs) (hj : j < rs.length) (hj' : j < s.length) :
    OD (w.setCell ⟨g, j * 2, none⟩ (.int .i64 K)) B Z (.slice (some ⟨g, 0, none⟩) n c) (s.set j ⟨K, s[j].p⟩) (rs.set j ⟨K, rs[j].a, rs[j].n, rs[j].c⟩) := by
  have hn : n = rs.length := by
    obtain ⟨a, c', e⟩ := (OG.rg rdC_len h.row).form
    simp only [Value.slice.injEq] at e
    exact e.2.1
  subst hn
  have hs := (World.ownsRow.stored h.row (j * 2) (.int .i64 K)).1
  rw [← fm_set hj] at hs
  refine ⟨?_, by simp [h.len], fun i h1 h2 => ?_, fun i h1 h2 => ?_, fun q hq => ⟨(h.up q hq).1, fun i h1 q' hq' => ?_⟩, fun i h1 q hq => ?_, fun a b ha hb hab p q hp hq => ?_⟩
  · unfold OG
    rw [List.length_set]
    exact hs
  · simp only [List.length_set] at h1 h2
    by_cases hij : i = j
    · subst hij; simp
    · rw [List.getElem_set_ne (fun e => hij e.symm), List.getElem_set_ne (fun e => hij e.symm)]
      exact h.k i h1 h2
  · simp only [List.length_set] at h1 h2
    have hk : IS (w.setCell ⟨g, j * 2, none⟩ (.int .i64 K)) B (.slice rs[i].a rs[i].n rs[i].c) s[i].p := (h.p i h1 h2).kept fun q hq => heap_setCell_other _ _ _ _ (by have := (h.up g rfl).2 i h1 q hq; simpa using this)
    by_cases hij : i = j
    · subst hij; simpa using hk
    · rw [List.getElem_set_ne (fun e => hij e.symm), List.getElem_set_ne (fun e => hij e.symm)]
      exact hk
  · simp only [List.length_set] at h1
    refine (h.up q hq).2 i h1 q' ?_
    by_cases hij : i = j
    · subst hij; simpa using hq'
    · rwa [List.getElem_set_ne (fun e => hij e.symm)] at hq'
  · simp only [List.length_set] at h1
    refine h.upp i h1 q ?_
    by_cases hij : i = j
    · subst hij; simpa using hq
    · rwa [List.getElem_set_ne (fun e => hij e.symm)] at hq
  · simp only [List.length_set] at ha hb
    refine h.ris a b ha hb hab p q ?_ ?_
    · by_cases hij : a = j
      · subst hij; simpa using hp
      · rwa [List.getElem_set_ne (fun e => hij e.symm)] at hp
    · by_cases hij : b = j
      · subst hij; simpa using hq
      · rwa [List.getElem_set_ne (fun e => hij e.symm)] at hq
/-- A device's pins are written. -/
theorem OD.setp {w w' : World} {B Z : Nat} {v : Value} {s : List Dv} {rs : List Rd} {j gp : Nat} {ps : List Int} (h : OD w B Z v s rs) (hj : j < rs.length) (hj' : j < s.length)
    (hi : IS w' B (.slice rs[j].a rs[j].n rs[j].c) ps) (ho : Only gp w w') (hg : (Value.slice rs[j].a rs[j].n rs[j].c).ownBlock = some gp ∨ w' = w) : OD w' B Z v (s.set j ⟨s[j].k, ps⟩) rs := by
  have other : ∀ q, (∀ g, (Value.slice rs[j].a rs[j].n rs[j].c).ownBlock = some g → q ≠ g) → w'.heap[q]? = w.heap[q]? := fun q hq => by
    rcases hg with h1 | h1
    · exact ho.block q (hq gp h1)
    · rw [h1]
  refine ⟨h.row.keep fun q hq => other q fun g hg' e => ?_, by simp [h.len], fun i h1 h2 => ?_, fun i h1 h2 => ?_, h.up, h.upp, h.ris⟩
  · subst e; exact (h.up q hq).2 j hj q hg' rfl
  · have h2' : i < s.length := by simpa using h2
    by_cases hij : i = j
    · subst hij; simpa using h.k i h1 h2'
    · rw [List.getElem_set_ne (fun e => hij e.symm)]
      exact h.k i h1 h2'
  · have h2' : i < s.length := by simpa using h2
    by_cases hij : i = j
    · subst hij; simpa using hi
    · rw [List.getElem_set_ne (fun e => hij e.symm)]
      refine (h.p i h1 h2').kept fun q hq => other q fun g hg' e => ?_
      subst e
      rcases Nat.lt_or_ge i j with h3 | h3
      · have := h.ris i j h1 hj h3 q q hq hg'; omega
      · have := h.ris j i hj h1 (by omega) q q hg' hq; omega

set_option maxRecDepth 10000 in
set_option maxHeartbeats 3200000 in
theorem markDS {w : World} {B Z : Nat} {v : Value} {s : List Dv} {rs : List Rd} (k : Int) (hn : s.length ≤ 1048576) (hs : ∀ j (h : j < s.length), s[j].p.length ≤ 1048576) (hk0 : 0 ≤ k) (hk1 : k ≤ 4398046511104) (h : OD w B Z v s rs) :
    Calls Try.prog 52 #[v, .int .i64 k] w fun e w' => e = .returned (.int .i64 (stD s k s.length)) ∧ (∃ rs', OD w' B Z v (mkD s k) rs') ∧ Chg B Z w w' := by
  obtain ⟨a, c, hv⟩ := h.rd.form
  obtain ⟨n, hnn⟩ : ∃ n, n = s.length := ⟨_, rfl⟩
  rw [← hnn] at hv hn ⊢
  subst hv
  have H : Hid (OD w B Z (.slice a n c) s rs ∧ n = s.length ∧ (∀ j (h : j < s.length), s[j].p.length ≤ 1048576)) := ⟨h, hnn, hs⟩
  clear h hnn hs
  go_enter Try.func52, Try.ntmps52
  go_wp2
  go_loopw [1, 5] (fun q i wr => ∃ j : Nat, j ≤ n ∧ i = .int .i64 j ∧ q = .int .i64 (stD s k j) ∧ ∃ L rs', Hid (OD wr B Z (.slice a n c) L rs' ∧ L.length = s.length ∧ (∀ i (h : i < L.length) (h' : i < s.length), i < j → L[i] = ⟨stD s k i, marks (stD s k i + 1) s[i].p.length⟩) ∧ (∀ i (h : i < L.length) (h' : i < s.length), j ≤ i → L[i] = s[i]) ∧ Chg B Z w wr)) (fun _ i _ => n - (intOf i).toNat)
  case atStart => exact ⟨0, Nat.zero_le _, rfl, rfl, s, rs, H.out.1, rfl, fun i _ _ h => by omega, fun i _ _ _ => rfl, Chg.refl _ _ _⟩
  case round =>
    obtain ⟨j, hjn, rfl, rfl, L, rs', hR⟩ := hrel
    have hst := stD_le (k := k) H.out.2.2 j (by rw [← H.out.2.1]; exact hjn)
    by_cases hlt : j < n
    · have hjl : j < s.length := by rw [← H.out.2.1]; exact hlt
      have hjL : j < L.length := by rw [hR.out.2.1]; exact hjl
      have hjr : j < rs'.length := by rw [hR.out.1.len]; exact hjL
      obtain ⟨T, hT⟩ : ∃ T, T = stD s k j := ⟨_, rfl⟩
      have HT : Hid (T = stD s k j ∧ stD s k (j + 1) = T + 1 + (s[j].p.length : Int)) := ⟨hT, by rw [stD_step hjl, hT]⟩
      rw [← hT] at hst ⊢
      have hLj : L[j] = s[j] := hR.out.2.2.2.1 j hjL hjl (Nat.le_refl _)
      obtain ⟨g, o, c2, he, hg, hj⟩ := (OG.rg rdC_len hR.out.1.row).pos (by omega)
      have hO : ∃ g, a = some ⟨g, 0, none⟩ := by
        rcases hR.out.1.row.2 with ⟨h0, h1⟩ | ⟨g, cap, cur, h1, _⟩
        · simp only [Value.slice.injEq] at h0; omega
        · simp only [Value.slice.injEq] at h1; exact ⟨g, h1.1⟩
      obtain ⟨g0, rfl⟩ := hO
      simp only [Value.slice.injEq, Option.some.injEq, Addr.mk.injEq, and_true] at he
      obtain ⟨⟨rfl, rfl⟩, hx1, hx2⟩ := he
      clear hx1 hx2
      obtain ⟨c0, c1⟩ := rdC_at (hj j hjr)
      rw [Nat.zero_add] at c0 c1
      have hjn2 : rs'.length = n := by rw [hR.out.1.len, hR.out.2.1, ← H.out.2.1]
      have hrow : wr.ownsRow B 82 2 (.slice (some ⟨g0, 0, none⟩) rs'.length c) rs'.length (rs'.flatMap rdC) := by have := hR.out.1.row; rw [← hjn2] at this; exact this
      have hfz := World.ownsRow.frozenAt hrow (j * 2)
      clear hrow
      have hup := hR.out.1.up g0 rfl
      have hBg := (OG.lt hR.out.1.row g0 rfl).1
      have hk' := hR.out.1.setk (K := T) hjr hjL
      obtain ⟨W1, hW1⟩ : ∃ W1, W1 = wr.setCell ⟨g0, j * 2, none⟩ (.int .i64 T) := ⟨_, rfl⟩
      rw [← hW1] at hk'
      obtain ⟨⟨rk, ra, rn, rc⟩, hr⟩ : ∃ r, r = rs'[j] := ⟨_, rfl⟩
      rw [← hr] at c0 c1 hk'
      dsimp only at c0 c1 hk'
      have d1 : W1.cell? ⟨g0, j * 2 + 1, none⟩ = some (.slice ra rn rc) := by
        have hkr := (OG.rg rdC_len hk'.row)
        obtain ⟨gg, oo, cc, he, _, hjj⟩ := hkr.pos (by simp; omega)
        simp only [Value.slice.injEq, Option.some.injEq, Addr.mk.injEq, and_true] at he
        obtain ⟨⟨rfl, rfl⟩, _, _⟩ := he
        have := (rdC_at (hjj j (by simpa using hjr))).2
        simpa using this
      have hg1 : g0 < W1.heap.size := by rw [hW1]; simpa using hg
      have HI : Hid (IS W1 B (.slice ra rn rc) s[j].p) := by
        have := hk'.p j (by simpa using hjr) (by simpa using hjL)
        simp only [List.getElem_set_self] at this
        rw [hLj] at this
        exact this
      have HK : Hid (OD W1 B Z (.slice (some ⟨g0, 0, none⟩) n c) (L.set j ⟨T, L[j].p⟩) (rs'.set j ⟨T, ra, rn, rc⟩) ∧ Chg B Z w W1) := ⟨hk', hR.out.2.2.2.2.trans (by rw [hW1]; exact Chg.set _ _ hBg hup.1)⟩
      have HR : Hid (L.length = s.length ∧ (∀ i (h : i < L.length) (h' : i < s.length), i < j → L[i] = ⟨stD s k i, marks (stD s k i + 1) s[i].p.length⟩) ∧ (∀ i (h : i < L.length) (h' : i < s.length), j ≤ i → L[i] = s[i])) := ⟨hR.out.2.1, hR.out.2.2.1, hR.out.2.2.2.1⟩
      have HW1 : Hid _ := hW1
      have HSJ : Hid (s[j].p.length ≤ 1048576) := H.out.2.2 j hjl
      have b0 : (0 : Int) ≤ (j : Int) := by omega
      have b1 : (j : Int) < (n : Int) := by omega
      have hT0 : 0 ≤ T := by omega
      have hT1 : T ≤ 1125899906842624 - 2 := by omega
      have hw : IntKind.i64.wrap (T + 1) = T + 1 := by rw [IntKind.wrap_i64]; omega
      clear hT hR hj hk' hW1 hr hup hBg
      go_wp2_with (fail)
      rw [← HW1.out]
      try rw [hw]
      refine (markI (T + 1) (by have := HSJ.out; omega) (by omega) (by omega) HI.out).mono ?_
      rintro e w2 ⟨rfl, hi2, gp, hBp, hgp, hon⟩
      have HN : Hid (OD w2 B Z (.slice (some ⟨g0, 0, none⟩) n c) ((L.set j ⟨T, L[j].p⟩).set j ⟨T, marks (T + 1) s[j].p.length⟩) (rs'.set j ⟨T, ra, rn, rc⟩) ∧ Chg B Z w w2) := by
        have h1 := HK.out.1.setp (j := j) (gp := gp) (ps := marks (T + 1) s[j].p.length) (by simpa using hjr) (by simpa using hjL) (by simpa using hi2) hon (by simpa using hgp)
        refine ⟨by simpa using h1, HK.out.2.trans ?_⟩
        rcases hgp with h2 | h2
        · exact Chg.only hon hBp (HK.out.1.upp j (by simpa using hjr) gp (by simpa using h2))
        · rw [h2]; exact Chg.refl _ _ _
      have HE : Hid (T + 1 + (s[j].p.length : Int) = stD s k (j + 1)) := HT.out.2.symm
      clear hi2 hBp hgp hon
      go_wp2_with (fail)
      rw [HE.out]
      go_roundw
      case rel =>
        refine ⟨j + 1, by omega, by go_num, rfl, _, _, HN.out.1, by simp [HR.out.1], fun i h1 h2 h3 => ?_, fun i h1 h2 h3 => ?_, HN.out.2⟩
        · by_cases hij : i = j
          · subst hij
            simp [HT.out.1]
          · rw [List.getElem_set_ne (fun e => hij e.symm), List.getElem_set_ne (fun e => hij e.symm)]
            exact HR.out.2.1 i (by rw [HR.out.1]; exact h2) h2 (by omega)
        · rw [List.getElem_set_ne (by omega), List.getElem_set_ne (by omega)]
          exact HR.out.2.2 i (by rw [HR.out.1]; exact h2) h2 (by omega)
      case measure => simp [intOf]; omega
    · obtain rfl : j = n := by omega
      have HE : Hid ((∃ rs', OD wr B Z (.slice a j c) (mkD s k) rs') ∧ Chg B Z w wr) := by
        refine ⟨⟨rs', ?_⟩, hR.out.2.2.2.2⟩
        have e : L = mkD s k := List.ext_getElem (by rw [mkD_len, hR.out.2.1]) fun i h1 h2 => by
          have h3 : i < s.length := by rw [← hR.out.2.1]; exact h1
          rw [mkD_at h2 h3]
          exact hR.out.2.2.1 i h1 h3 (by rw [H.out.2.1]; exact h3)
        rw [← e]
        exact hR.out.1
      clear hR
      go_wp2
      go_returns
      exact ⟨rfl, HE.out.1, HE.out.2⟩

set_option maxRecDepth 10000 in
set_option maxHeartbeats 3200000 in
theorem heldDS {w : World} {B Z : Nat} {v : Value} {s : List Dv} {rs : List Rd} (k : Int) (hn : s.length ≤ 1048576) (hs : ∀ j (h : j < s.length), s[j].p.length ≤ 1048576) (hk0 : 0 ≤ k) (hk1 : k ≤ 4398046511104) (h : OD w B Z v (mkD s k) rs) :
    Calls Try.prog 75 #[v, .int .i64 k] w fun e w' => e = .returned (.int .i64 (stD s k s.length)) ∧ w' = w := by
  obtain ⟨a, c, hv⟩ := h.rd.form
  rw [mkD_len] at hv
  obtain ⟨n, hnn⟩ : ∃ n, n = s.length := ⟨_, rfl⟩
  rw [← hnn] at hv hn ⊢
  subst hv
  have H : Hid (OD w B Z (.slice a n c) (mkD s k) rs ∧ n = s.length ∧ (∀ j (h : j < s.length), s[j].p.length ≤ 1048576)) := ⟨h, hnn, hs⟩
  clear h hnn hs
  go_enter Try.func75, Try.ntmps75
  go_wp2
  go_loopw [1, 5] (fun q i wr => ∃ j : Nat, j ≤ n ∧ i = .int .i64 j ∧ q = .int .i64 (stD s k j) ∧ wr = w) (fun _ i _ => n - (intOf i).toNat)
  case atStart => exact ⟨0, Nat.zero_le _, rfl, rfl, rfl⟩
  case round =>
    obtain ⟨j, hjn, rfl, rfl, rfl⟩ := hrel
    have hst := stD_le (k := k) H.out.2.2 j (by rw [← H.out.2.1]; exact hjn)
    by_cases hlt : j < n
    · have hjl : j < s.length := by rw [← H.out.2.1]; exact hlt
      have hjm : j < (mkD s k).length := by rw [mkD_len]; exact hjl
      have hjr : j < rs.length := by rw [H.out.1.len]; exact hjm
      obtain ⟨g, o, c2, he, hg, x, hx, c0, c1⟩ := H.out.1.rd.at hjm
      simp only [Value.slice.injEq] at he
      obtain ⟨rfl, hx1, hx2⟩ := he
      clear hx1 hx2
      obtain ⟨g', o', c3, he, hg', hj⟩ := (OG.rg rdC_len H.out.1.row).pos (by omega)
      simp only [Value.slice.injEq, Option.some.injEq, Addr.mk.injEq, and_true] at he
      obtain ⟨⟨rfl, rfl⟩, hx1, hx2⟩ := he
      clear hx1 hx2 hx c0 c1
      obtain ⟨c0, c1⟩ := rdC_at (hj j hjr)
      obtain ⟨T, hT⟩ : ∃ T, T = stD s k j := ⟨_, rfl⟩
      have HT : Hid (T = stD s k j ∧ stD s k (j + 1) = T + 1 + (s[j].p.length : Int)) := ⟨hT, by rw [stD_step hjl, hT]⟩
      rw [← hT] at hst ⊢
      have hkk := H.out.1.k j hjr hjm
      have hpp := H.out.1.p j hjr hjm
      rw [mkD_at hjm hjl] at hkk hpp
      dsimp only at hkk hpp
      rw [← hT] at hkk hpp
      rw [hkk] at c0
      obtain ⟨⟨rk, ra, rn, rc⟩, hr⟩ : ∃ r, r = rs[j] := ⟨_, rfl⟩
      rw [← hr] at c1 hpp
      dsimp only at c1 hpp
      have HI : Hid (IS wr B (.slice ra rn rc) (marks (T + 1) s[j].p.length)) := hpp
      have HSJ : Hid (s[j].p.length ≤ 1048576) := H.out.2.2 j hjl
      have b0 : (0 : Int) ≤ (j : Int) := by omega
      have b1 : (j : Int) < (n : Int) := by omega
      have hT0 : 0 ≤ T := by omega
      have hT1 : T ≤ 1125899906842624 - 2 := by omega
      have hw : IntKind.i64.wrap (T + 1) = T + 1 := by rw [IntKind.wrap_i64]; omega
      clear hT hj hr hpp hkk
      go_wp2_with (fail)
      try rw [hw]
      refine (heldI (T + 1) (by have := HSJ.out; omega) (by omega) (by omega) HI.out).mono ?_
      rintro e w2 ⟨rfl, rfl⟩
      have hnn : ¬ (T + 1 + (s[j].p.length : Int)) < 0 := by omega
      have HE : Hid (T + 1 + (s[j].p.length : Int) = stD s k (j + 1)) := HT.out.2.symm
      obtain ⟨U, hU⟩ : ∃ U, U = T + 1 + (s[j].p.length : Int) := ⟨_, rfl⟩
      rw [← hU] at hnn HE ⊢
      clear hU
      go_wp2_with (fail)
      rw [HE.out]
      go_roundw
      case rel => exact ⟨j + 1, by omega, by go_num, rfl, by first | rfl | trivial⟩
      case measure => simp [intOf]; omega
    · obtain rfl : j = n := by omega
      go_wp2
      go_returns
      exact ⟨rfl, rfl⟩

end Go.Proofs.Ytbfieehlekgjeaa
