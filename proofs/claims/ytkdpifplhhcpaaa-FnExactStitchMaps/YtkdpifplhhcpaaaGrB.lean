/- Proved here: lists of lists of numbers in the laws: weighed, copied, compared; how one that came in is read. -/
import Derived.Test.YtkdpifplhhcpaaaNlI
import Derived.Test.YtkdpifplhhcpaaaGrQ
namespace Go.Proofs.Ytkdpifplhhcpaaa
open Go.ChangeShapes Go.WideShapes Go.ChangeAt Go.RowKit Go.Joins Go.Deep
set_option linter.unusedVariables false
set_option linter.unusedSimpArgs false

set_option maxHeartbeats 800000 in
theorem szInt64S_is (a : Option Addr) (n c : Nat) (l : Int) (w : World) (h0 : 0 ≤ l) (h1 : l ≤ 1048576) (h2 : n ≤ maxLen) :
    Calls Try.prog 56 #[.slice a n c, .int .i64 l] w fun e w' => ∃ r, e = .returned (.int .i64 r) ∧ (r < 0 ∨ (0 ≤ r ∧ r = l - (n : Int))) ∧ Below w.heap.size w w' := by
  unfold maxLen at h2
  have hw : IntKind.i64.wrap (l - (n : Int)) = l - (n : Int) := by rw [IntKind.wrap_i64]; omega
  by_cases hn : l - (n : Int) < 0
  · go_enter Try.func56, Try.ntmps56
    go_wp2
    go_returns
    exact ⟨-1, rfl, Or.inl (by omega), by (repeat' (first | (with_reducible exact Below.refl _ _) | (with_reducible assumption) | (with_reducible refine Below.setCell ?_ ?_ _) | (with_reducible refine Below.alloc ?_ ?_ _) | (with_reducible refine below_drewN ?_ _) | (with_reducible refine Below.drew ?_) | (with_reducible exact Nat.le_refl _) | omega | (simp; done) | (simp; omega)))⟩
  · go_enter Try.func56, Try.ntmps56
    go_wp2
    go_returns
    exact ⟨_, rfl, Or.inr ⟨by omega, rfl⟩, by (repeat' (first | (with_reducible exact Below.refl _ _) | (with_reducible assumption) | (with_reducible refine Below.setCell ?_ ?_ _) | (with_reducible refine Below.alloc ?_ ?_ _) | (with_reducible refine below_drewN ?_ _) | (with_reducible refine Below.drew ?_) | (with_reducible exact Nat.le_refl _) | omega | (simp; done) | (simp; omega)))⟩

set_option maxRecDepth 10000 in
set_option maxHeartbeats 3200000 in
theorem szInt64SS_gen (ls : List (List Int)) (a : Option Addr) (n c : Nat) (l : Int) (w : World) (h0 : 0 ≤ l) (h1 : l ≤ 1048576) (h2 : n ≤ maxLen) (h : RdR w (.slice a n c) ls) (hm : ∀ j, (ls.getD j []).length ≤ maxLen) :
    Calls Try.prog 32 #[.slice a n c, .int .i64 l] w fun e w' => ∃ r, e = .returned (.int .i64 r) ∧ (r < 0 ∨ (0 ≤ r ∧ r ≤ l ∧ SmR ls)) ∧ Below w.heap.size w w' := by
  unfold maxLen at h2
  have H : Hid (RdR w (.slice a n c) ls ∧ n = ls.length ∧ ∀ j, (ls.getD j []).length ≤ maxLen) := ⟨h, h.len, hm⟩
  clear h hm
  have hw : IntKind.i64.wrap (l - (n : Int)) = l - (n : Int) := by rw [IntKind.wrap_i64]; omega
  by_cases hn : l - (n : Int) < 0
  · go_enter Try.func32, Try.ntmps32
    go_wp2
    go_returns
    exact ⟨-1, rfl, Or.inl (by omega), by (repeat' (first | (with_reducible exact Below.refl _ _) | (with_reducible assumption) | (with_reducible refine Below.setCell ?_ ?_ _) | (with_reducible refine Below.alloc ?_ ?_ _) | (with_reducible refine below_drewN ?_ _) | (with_reducible refine Below.drew ?_) | (with_reducible exact Nat.le_refl _) | omega | (simp; done) | (simp; omega)))⟩
  · obtain ⟨l1, hl1⟩ : ∃ l1, l1 = l - (n : Int) := ⟨_, rfl⟩
    have hl0 : 0 ≤ l1 := by omega
    have hll : l1 ≤ l := by omega
    have HL : Hid (l1 = l - (n : Int)) := hl1
    rw [← hl1] at hw hn
    have hw2 : IntKind.i64.wrap (l - (n : Int)) = l1 := by rw [← hl1]; exact hw
    clear hl1 hw
    go_enter Try.func32, Try.ntmps32
    go_wp2
    go_loopw [1, 5] (fun q i wr => ∃ (j : Nat) (r : Int), j ≤ n ∧ i = .int .i64 j ∧ q = .int .i64 r ∧ 0 ≤ r ∧ r ≤ l ∧ Hid (Below w.heap.size w wr ∧ r = l1 - (totR ls j : Int))) (fun _ i _ => n - (intOf i).toNat)
    case atStart => exact ⟨0, l1, Nat.zero_le _, rfl, by simp [hw2], hl0, hll, Below.refl _ _, by simp [totR]⟩
    case round =>
      obtain ⟨j, r, hjn, rfl, rfl, hr0, hrl, hR⟩ := hrel
      by_cases hlt : j < n
      · obtain ⟨g, o, ua, un, uc, rfl, hg, c0, hun, hrd⟩ := (H.out.1.below hR.out.1).at hlt
        have HU : Hid (un = (ls.getD j []).length) := hun
        have hum : un ≤ maxLen := by rw [hun]; exact H.out.2.2 j
        clear hun hrd
        have HC : Hid (Calls Try.prog 56 #[.slice ua un uc, .int .i64 r] wr fun e w' => ∃ r', e = .returned (.int .i64 r') ∧ (r' < 0 ∨ (0 ≤ r' ∧ r' = r - (un : Int))) ∧ Below wr.heap.size wr w') := szInt64S_is ua un uc r wr hr0 (by omega) hum
        clear hum
        have b0 : (0 : Int) ≤ (j : Int) := by omega
        have b1 : (j : Int) < (n : Int) := by omega
        go_wp2_with (fail)
        refine HC.out.mono ?_
        rintro e w3 ⟨r2, rfl, hr2, hb3⟩
        have HB3 : Hid (Below w.heap.size w w3) := hR.out.1.trans (hb3.mono hR.out.1.size)
        clear hb3 c0 HC
        rcases hr2 with hneg | ⟨h3, h4⟩
        · go_wp2
          go_returns
          exact ⟨-1, rfl, Or.inl (by omega), HB3.out⟩
        · have h5 : ¬ r2 < 0 := by omega
          have h6 : r2 ≤ l := by omega
          have HR : Hid (r2 = l1 - (totR ls (j + 1) : Int)) := by
            have e1 := hR.out.2; have e2 := HU.out
            unfold Hid; rw [h4, e1, e2]; simp only [totR]; omega
          clear h4 hR HU
          go_wp2
          go_roundw
          case rel => exact ⟨j + 1, r2, by omega, by go_num, rfl, h3, h6, HB3.out, HR.out⟩
          case measure => simp [intOf]; omega
      · have HE : Hid (SmR ls) := by
          have e1 := hR.out.2; have e2 := HL.out; have e3 := H.out.2.1
          have ej : j = ls.length := by omega
          rw [ej] at e1
          exact ⟨by omega, by omega⟩
        have HB : Hid (Below w.heap.size w wr) := hR.out.1
        clear hR
        go_wp2
        go_returns
        exact ⟨r, rfl, Or.inr ⟨hr0, hrl, HE.out⟩, HB.out⟩

/-- The first j rows, and no numbers behind them. -/
def uptoR (ls : List (List Int)) (j : Nat) : List (List Int) := ls.take j ++ List.replicate (ls.length - j) []
theorem uptoR_len (ls : List (List Int)) {j : Nat} (h : j ≤ ls.length) : (uptoR ls j).length = ls.length := by
  simp [uptoR]; omega
theorem uptoR_all (ls : List (List Int)) : uptoR ls ls.length = ls := by simp [uptoR]
theorem uptoR_next (ls : List (List Int)) {j : Nat} (h : j < ls.length) : (uptoR ls j).set j (ls.getD j []) = uptoR ls (j + 1) := by
  apply List.ext_getElem?
  intro i
  by_cases hi : i = j
  · subst hi
    rw [List.getElem?_set_self (by rw [uptoR_len ls (by omega)]; exact h)]
    unfold uptoR
    rw [List.getElem?_append_left (by simp; omega), List.getElem?_take_of_lt (by omega), List.getD_eq_getElem?_getD, List.getElem?_eq_getElem h]
    rfl
  · rw [List.getElem?_set_ne (by omega)]
    unfold uptoR
    rcases Nat.lt_or_ge i j with h1 | h1
    · rw [List.getElem?_append_left (by simp; omega), List.getElem?_append_left (by simp; omega), List.getElem?_take_of_lt h1, List.getElem?_take_of_lt (by omega)]
    · rw [List.getElem?_append_right (by simp; omega), List.getElem?_append_right (by simp; omega)]
      simp only [List.length_take, List.getElem?_replicate]
      rw [Nat.min_eq_left (by omega), Nat.min_eq_left (by omega)]
      by_cases hl : i < ls.length
      · rw [if_pos (by omega), if_pos (by omega)]
      · rw [if_neg (by omega), if_neg (by omega)]
/-- A list of rows that has been made: no row has a number. -/
theorem RI.made {w : World} {B g n : Nat} {ls : List (List Int)} (hn : n = ls.length) (h : w.ownsRow B 22 1 (.slice (some ⟨g, 0, none⟩) n n) n (List.replicate n (.slice none 0 0))) : RI w B (.slice (some ⟨g, 0, none⟩) n n) (uptoR ls 0) (List.replicate n (.slice none 0 0)) := by
  subst hn
  have hr : ∀ i, rat (List.replicate ls.length (Value.slice none 0 0)) i = .slice none 0 0 := fun i => by
    unfold rat
    rw [List.getD_eq_getElem?_getD, List.getElem?_replicate]
    split <;> rfl
  refine ⟨by rw [uptoR_len ls (Nat.zero_le _)]; exact h, fun i hi => ?_, fun i j hij hi hj g' hg => ?_⟩
  · rw [hr]
    have e : (uptoR ls 0).getD i [] = [] := by
      simp [uptoR, List.getD_eq_getElem?_getD, List.getElem?_replicate]
      split <;> rfl
    rw [e]
    exact World.ownsRow_nil _ _ _ _
  · rw [hr] at hg; cases hg

set_option maxRecDepth 10000 in
set_option maxHeartbeats 3200000 in
theorem toInt64SS_any {w : World} {v : Value} {ls : List (List Int)} (hn : SmR ls) (h : RdR w v ls) :
    Calls Try.prog 34 #[v] w fun e w' => ∃ g : Nat × List Value, e = .returned (.slice (some ⟨g.1, 0, none⟩) ls.length ls.length) ∧ RI w' w.heap.size (.slice (some ⟨g.1, 0, none⟩) ls.length ls.length) ls g.2 ∧ Below w.heap.size w w' := by
  obtain ⟨a, c, rfl⟩ := h.form
  obtain ⟨i0, hi, hz0, hz1, hz2⟩ := info_parts info_row
  obtain ⟨n, hnn⟩ : ∃ n, n = ls.length := ⟨_, rfl⟩
  have HN : Hid (n = ls.length ∧ SmR ls) := ⟨hnn, hn⟩
  have hn' : n ≤ 1048576 := by rw [hnn]; exact hn.len
  rw [← hnn] at h ⊢
  have H : Hid (RdR w (.slice a n c) ls) := h
  clear hnn h hn
  go_enter Try.func34, Try.ntmps34
  go_wp2_with (at_make; refine wpList_make_full _ rfl _ _ 52 rfl w.heap.size 22 i0 (.slice none 0 0) 1 Try.underlying52 hi hz0 hz1 _ _ _ _ n rfl rfl rfl rfl (by rw [hz2]; omega) (by unfold maxLen; omega) (Nat.le_refl _) ?_; intro w2 hown2 hgrow2)
  have hb2 : Below w.heap.size w w2 := (Below.refl _ _).grown hgrow2 (Nat.le_refl _) (fun k h => by cases h)
  rw [show (Value.slice none 0 0).cells = #[Value.slice none 0 0] from rfl, toList_madeCells_one] at hown2
  have HS : Hid (∃ vs, RI w2 w.heap.size (.slice (some ⟨w.heap.size, 0, none⟩) n n) (uptoR ls 0) vs ∧ Below w.heap.size w w2) := ⟨_, RI.made HN.out.1 (by rw [Nat.mul_one] at hown2; exact hown2), hb2⟩
  clear hown2 hgrow2 hb2
  go_loopw [4] (fun i wr => ∃ j : Nat, j ≤ n ∧ i = .int .i64 j ∧ Hid (∃ vs, RI wr w.heap.size (.slice (some ⟨w.heap.size, 0, none⟩) n n) (uptoR ls j) vs ∧ Below w.heap.size w wr)) (fun i _ => n - (intOf i).toNat)
  case atStart => exact ⟨0, Nat.zero_le _, rfl, HS.out⟩
  case round =>
    clear HS
    obtain ⟨j, hjn, rfl, hR⟩ := hrel
    by_cases hlt : j < n
    · obtain ⟨vs, hri, hbl⟩ := hR.out
      have HR : Hid (RI wr w.heap.size (.slice (some ⟨w.heap.size, 0, none⟩) n n) (uptoR ls j) vs ∧ Below w.heap.size w wr) := ⟨hri, hbl⟩
      obtain ⟨g, o, ua, un, uc, rfl, hg, c0, hun, hrd⟩ := (H.out.below hbl).at hlt
      have hlr := HN.out.2.row j
      have HC : Hid (∀ W, Below wr.heap.size wr W → Calls Try.prog 11 #[.slice ua un uc] W fun e w' => ∃ g, e = .returned (.slice (some ⟨g, 0, none⟩) un un) ∧ IS w' W.heap.size (.slice (some ⟨g, 0, none⟩) un un) (ls.getD j []) ∧ Below W.heap.size W w') := fun W hW => by
        rw [hun] at hrd ⊢
        exact toInt64S_any hlr (hrd.below hW)
      clear hri hbl hrd hun hlr hR
      have b0 : (0 : Int) ≤ (j : Int) := by omega
      have b1 : (j : Int) < (n : Int) := by omega
      go_wp2_with (fail)
      refine (HC.out _ (Below.refl _ _)).mono ?_
      rintro e w3 ⟨g3, rfl, hi3, hb3⟩
      have hjl : j < (uptoR ls j).length := by rw [uptoR_len ls (by rw [← HN.out.1]; omega), ← HN.out.1]; exact hlt
      have hW3 := HR.out.1.below hb3
      obtain ⟨gq, cq, he, _, hgl, hxx⟩ := hW3.pos (by omega)
      injection he with he1 he2 he3
      injection he1 with he4
      injection he4 with he5
      subst he5
      have k0 := hxx j hjl
      have f0 := World.ownsRow.frozenAt (g := w.heap.size) (cap := n) (by have := hW3.o; rw [uptoR_len ls (by rw [← HN.out.1]; omega), ← HN.out.1] at this; exact this) j
      have HP : Hid (∃ vs, RI (w3.setCell ⟨w.heap.size, j, none⟩ (.slice (some ⟨g3, 0, none⟩) un un)) w.heap.size (.slice (some ⟨w.heap.size, 0, none⟩) n n) (uptoR ls (j + 1)) vs ∧ Below w.heap.size w (w3.setCell ⟨w.heap.size, j, none⟩ (.slice (some ⟨g3, 0, none⟩) un un))) := by
        refine ⟨vs.set j (.slice (some ⟨g3, 0, none⟩) un un), ?_, (HR.out.2.trans (hb3.mono HR.out.2.size)).setCell (Nat.le_refl _) _⟩
        rw [← uptoR_next ls (by rw [← HN.out.1]; exact hlt)]
        exact HR.out.1.put hb3 HR.out.2.size hjl hi3
      clear HR HC hi3 hb3 hxx hW3 he2 he3 hjl c0
      generalize rat vs j = vj at k0
      go_wp2
      go_roundw
      case rel => exact ⟨j + 1, by omega, by go_num, HP.out⟩
      case measure => simp [intOf]; omega
    · have HD : Hid (∃ vs, RI wr w.heap.size (.slice (some ⟨w.heap.size, 0, none⟩) n n) ls vs ∧ Below w.heap.size w wr) := by
        have h1 := hR.out
        rw [show j = ls.length by rw [← HN.out.1]; omega, uptoR_all] at h1
        exact h1
      clear hR
      go_wp2
      go_returns
      obtain ⟨vs, h1, h2⟩ := HD.out
      exact ⟨(w.heap.size, vs), rfl, h1, h2⟩

set_option maxRecDepth 100000 in
theorem row_cell {H : Type} {enc : TypeId × Value → H} {W : World} {fuel : Nat} {cs : List Value} {x : DataW H × List MemPlace} (h : DataW.trod enc Try.prog W 0 (fun _ => true) true fuel 22 cs = some x) :
    ∃ r : (Option Addr × Nat × Nat) × List Int, cs = [Value.slice r.1.1 r.1.2.1 r.1.2.2] ∧ (RdI W (.slice r.1.1 r.1.2.1 r.1.2.2) r.2 ∧ r.2.length ≤ maxLen) := by
  have : Nonempty Int := ⟨0⟩
  obtain ⟨a, n, c, s, hcs, h1, h2, _⟩ := rg_of_trod (Q := fun _ => True) Try.underlying22 (show Try.prog.cellsOf 2 = 1 by kernel_rfl) (by omega) inC_len (fun _ _ _ h => int_cell h) h
  exact ⟨((a, n, c), s), hcs, h1, h2⟩

set_option maxRecDepth 100000 in
/-- A list of lists of numbers that came in. -/
theorem rows_open {H : Type} {enc : TypeId × Value → H} {W : World} {base : Nat} {v : Value} {d : DataW H} {p : List MemPlace}
    (hv : Value.okWide Try.prog W .any base 52 v) (h : DataW.Trod enc Try.prog W 0 (fun _ => true) true 52 v d p) :
    ∃ (a : Option Addr) (n c : Nat) (s : List (List Int)), v = .slice a n c ∧ RdR W v s ∧ (n ≤ maxLen ∧ ∀ j, (s.getD j []).length ≤ maxLen) := by
  obtain ⟨a0, len0, cap0, rfl⟩ := okWide_slice Try.underlying52 hv
  obtain ⟨fuel, hf⟩ := h
  have : Nonempty ((Option Addr × Nat × Nat) × List Int) := ⟨((none, 0, 0), [])⟩
  obtain ⟨a, n, c, s, hcs, h1, h2, h3⟩ := rg_of_trod (en := fun r : (Option Addr × Nat × Nat) × List Int => [Value.slice r.1.1 r.1.2.1 r.1.2.2]) (Q := fun r => RdI W (.slice r.1.1 r.1.2.1 r.1.2.2) r.2 ∧ r.2.length ≤ maxLen) Try.underlying52 (show Try.prog.cellsOf 22 = 1 by kernel_rfl) (by omega) (fun _ => rfl) (fun _ _ _ h => row_cell h) hf
  simp [Value.cells] at hcs
  obtain ⟨rfl, rfl, rfl⟩ := hcs
  have hget : ∀ j (h : j < s.length), (s.map Prod.snd).getD j [] = s[j].2 := fun j h => by
    rw [List.getD_eq_getElem?_getD, List.getElem?_map, List.getElem?_eq_getElem h]; rfl
  have hl := h1.len
  refine ⟨a0, len0, cap0, s.map Prod.snd, rfl, ?_, ⟨by omega, fun j => ?_⟩⟩
  · refine ⟨a0, cap0, by rw [List.length_map, hl], fun hp => ?_⟩
    rw [List.length_map] at hp
    obtain ⟨g, o, c2, he, hg, hx⟩ := h1.pos hp
    injection he with he1 he2 he3
    subst he1
    refine ⟨g, o, rfl, hg, fun j hj => ?_⟩
    rw [List.length_map] at hj
    have hx0 := hx j hj 0 (by omega)
    simp only [Nat.mul_one, Nat.add_zero, List.getElem?_cons_zero] at hx0
    exact ⟨_, hx0, by rw [hget j hj]; exact (h3 j hj).1⟩
  · by_cases hj : j < s.length
    · rw [hget j hj]; exact (h3 j hj).2
    · rw [List.getD_eq_getElem?_getD, List.getElem?_eq_none (by rw [List.length_map]; omega)]; simp

end Go.Proofs.Ytkdpifplhhcpaaa
