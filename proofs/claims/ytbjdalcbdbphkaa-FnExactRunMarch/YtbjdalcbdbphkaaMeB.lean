/- Proved here: what an element of a march and a list of them are in memory, and how the laws' package weighs, copies and compares lists of numbers. No condition on the program but on its table of types. -/
import Derived.Test.YtbjdalcbdbphkaaNlI
import Derived.OpenShut
import Derived.Lib.SmallJoins
namespace Go.Proofs.Ytbjdalcbdbphkaa
open Go.ChangeShapes Go.WideShapes Go.ChangeAt Go.RowKit Go.Joins
set_option linter.unusedVariables false
set_option linter.unusedSimpArgs false

/-- An element of a march. -/
structure Elm where
  k : Bool
  p : List Int
deriving DecidableEq
/-- As it lies in memory. -/
structure Erd where
  k : Bool
  a : Option Addr
  n : Nat
  c : Nat
instance : Nonempty Erd := ⟨⟨false, none, 0, 0⟩⟩
def erC (r : Erd) : List Value := [.bool r.k, .slice r.a r.n r.c]
theorem erC_len (r : Erd) : (erC r).length = 2 := rfl
theorem erC_at {w : World} {g o : Nat} {r : Erd} (h : ∀ i, i < 2 → w.cell? ⟨g, o + i, none⟩ = (erC r)[i]?) : w.cell? ⟨g, o, none⟩ = some (.bool r.k) ∧ w.cell? ⟨g, o + 1, none⟩ = some (.slice r.a r.n r.c) :=
  ⟨h 0 (by omega), h 1 (by omega)⟩
structure Erd1 (w : World) (r : Erd) (d : Elm) : Prop where
  k : r.k = d.k
  p : RdI w (.slice r.a r.n r.c) d.p
theorem Erd1.below {w w' : World} {r : Erd} {d : Elm} (h : Erd1 w r d) (hb : Below w.heap.size w w') : Erd1 w' r d := ⟨h.k, h.p.below hb⟩
structure RelE (w : World) (rs : List Erd) (s : List Elm) : Prop where
  len : rs.length = s.length
  at_ : ∀ j (h : j < rs.length) (h' : j < s.length), Erd1 w rs[j] s[j]
theorem RelE.below {w w' : World} {rs : List Erd} {s : List Elm} (h : RelE w rs s) (hb : Below w.heap.size w w') : RelE w' rs s := ⟨h.len, fun j h1 h2 => (h.at_ j h1 h2).below hb⟩
/-- A slice that can be read as a list of devices. -/
def REl (w : World) (v : Value) (s : List Elm) : Prop := ∃ rs, RG 2 erC w v rs ∧ RelE w rs s
theorem REl.below {w w' : World} {v : Value} {s : List Elm} (h : REl w v s) (hb : Below w.heap.size w w') : REl w' v s := by
  obtain ⟨rs, h1, h2⟩ := h; exact ⟨rs, h1.below hb, h2.below hb⟩
theorem REl.len {w : World} {a : Option Addr} {n c : Nat} {s : List Elm} (h : REl w (.slice a n c) s) : n = s.length := by
  obtain ⟨rs, h1, h2⟩ := h; exact h1.len.trans h2.len
theorem REl.form {w : World} {v : Value} {s : List Elm} (h : REl w v s) : ∃ a c, v = .slice a s.length c := by
  obtain ⟨rs, h1, h2⟩ := h
  obtain ⟨a, c, e⟩ := h1.form
  exact ⟨a, c, by rw [e, h2.len]⟩
/-- One device of a list, where it lies. -/
theorem REl.at {w : World} {v : Value} {s : List Elm} (h : REl w v s) {j : Nat} (hj : j < s.length) : ∃ g o c, v = .slice (some ⟨g, o, none⟩) s.length c ∧ g < w.heap.size ∧ ∃ r : Erd, Erd1 w r s[j] ∧ w.cell? ⟨g, o + j * 2, none⟩ = some (.bool r.k) ∧ w.cell? ⟨g, o + j * 2 + 1, none⟩ = some (.slice r.a r.n r.c) := by
  obtain ⟨rs, h1, h2⟩ := h
  have hl := h2.len
  obtain ⟨g, o, c, rfl, hg, hc⟩ := h1.pos (by omega)
  obtain ⟨c0, c1⟩ := erC_at (hc j (by omega))
  exact ⟨g, o, c, by rw [hl], hg, rs[j], h2.at_ j (by omega) hj, c0, c1⟩

/-- No list is longer than m. -/
def smE (m : Int) (d : Elm) : Prop := (d.p.length : Int) ≤ m
def okE (d : Elm) : Prop := d.p.length ≤ maxLen

set_option maxHeartbeats 800000 in
theorem szElement_gen (r : Erd) (d : Elm) (l : Int) (w : World) (h0 : 0 ≤ l) (h1 : l ≤ 1048576) (hd : okE d) (h : Erd1 w r d) :
    Calls Try.prog 35 #[.agg #[.bool r.k, .slice r.a r.n r.c], .int .i64 l] w fun e w' => ∃ q, e = .returned (.int .i64 q) ∧ (q < 0 ∨ (0 ≤ q ∧ q ≤ l ∧ smE l d)) ∧ Below w.heap.size w w' := by
  have H : Hid (r.n ≤ maxLen ∧ r.n = d.p.length) := ⟨by rw [h.p.len]; exact hd, h.p.len⟩
  clear h hd
  go_enter Try.func35, Try.ntmps35
  go_wp2_with (fail)
  refine (szInt64S_gen r.a r.n r.c l _ h0 h1 H.out.1).mono ?_
  rintro e w1 ⟨q1, rfl, hq1, hb1⟩
  have HB1 : Hid (Below w.heap.size w w1) := (show Below w.heap.size w _ from by (repeat' (first | (with_reducible exact Below.refl _ _) | (with_reducible assumption) | (with_reducible refine Below.setCell ?_ ?_ _) | (with_reducible refine Below.alloc ?_ ?_ _) | (with_reducible refine below_drewN ?_ _) | (with_reducible refine Below.drew ?_) | (with_reducible exact Nat.le_refl _) | omega | (simp; done) | (simp; omega)))).trans (hb1.mono (by simp))
  clear hb1
  rcases hq1 with hneg | ⟨h3, h4, h5⟩
  · go_wp2
    go_returns
    exact ⟨-1, rfl, Or.inl (by omega), HB1.out⟩
  have h6 : ¬ q1 < 0 := by omega
  have HS : Hid (smE l d) := by unfold Hid smE; rw [← H.out.2]; exact h5
  go_wp2
  go_returns
  exact ⟨q1, rfl, Or.inr ⟨h3, h4, HS.out⟩, HB1.out⟩

set_option maxHeartbeats 1600000 in
theorem szElementS_gen (a : Option Addr) (n c : Nat) (l : Int) (s : List Elm) (w : World) (h0 : 0 ≤ l) (h1 : l ≤ 1048576) (h2 : n ≤ maxLen) (h : REl w (.slice a n c) s) (hm : ∀ j (h : j < s.length), okE s[j]) :
    Calls Try.prog 8 #[.slice a n c, .int .i64 l] w fun e w' => ∃ r, e = .returned (.int .i64 r) ∧ (r < 0 ∨ (0 ≤ r ∧ r ≤ l ∧ (n : Int) ≤ l ∧ ∀ j (h : j < s.length), smE l s[j])) ∧ Below w.heap.size w w' := by
  unfold maxLen at h2
  have H : Hid (REl w (.slice a n c) s ∧ n = s.length ∧ ∀ j (h : j < s.length), okE s[j]) := ⟨h, h.len, hm⟩
  clear h hm
  have hw : IntKind.i64.wrap (l - (n : Int)) = l - (n : Int) := by rw [IntKind.wrap_i64]; omega
  by_cases hn : l - (n : Int) < 0
  · go_enter Try.func8, Try.ntmps8
    go_wp2
    go_returns
    exact ⟨-1, rfl, Or.inl (by omega), by (repeat' (first | (with_reducible exact Below.refl _ _) | (with_reducible assumption) | (with_reducible refine Below.setCell ?_ ?_ _) | (with_reducible refine Below.alloc ?_ ?_ _) | (with_reducible refine below_drewN ?_ _) | (with_reducible refine Below.drew ?_) | (with_reducible exact Nat.le_refl _) | omega | (simp; done) | (simp; omega)))⟩
  · have HL : Hid ((n : Int) ≤ l) := by unfold Hid; omega
    obtain ⟨l1, hl1⟩ : ∃ l1, l1 = l - (n : Int) := ⟨_, rfl⟩
    have hl0 : 0 ≤ l1 := by omega
    have hll : l1 ≤ l := by omega
    rw [← hl1] at hw hn
    have hw2 : IntKind.i64.wrap (l - (n : Int)) = l1 := by rw [← hl1]; exact hw
    clear hl1 hw
    go_enter Try.func8, Try.ntmps8
    go_wp2
    go_loopw [1, 5] (fun q i wr => ∃ (j : Nat) (r : Int), j ≤ n ∧ i = .int .i64 j ∧ q = .int .i64 r ∧ 0 ≤ r ∧ r ≤ l ∧ Hid (Below w.heap.size w wr ∧ ∀ k (h : k < s.length), k < j → smE l s[k])) (fun _ i _ => n - (intOf i).toNat)
    case atStart => exact ⟨0, l1, Nat.zero_le _, rfl, by simp [hw2], hl0, hll, Below.refl _ _, fun k _ hk => by omega⟩
    case round =>
      obtain ⟨j, r, hjn, rfl, rfl, hr0, hrl, hR⟩ := hrel
      by_cases hlt : j < n
      · have hjl : j < s.length := by rw [← H.out.2.1]; exact hlt
        obtain ⟨g, o, c2, he, hg, x, hx, c0, c1⟩ := (H.out.1.below hR.out.1).at hjl
        simp only [Value.slice.injEq] at he
        obtain ⟨rfl, hx1, hx2⟩ := he
        clear hx1 hx2
        have HX : Hid (Erd1 wr x s[j] ∧ okE s[j]) := ⟨hx, H.out.2.2 j hjl⟩
        clear hx
        have b0 : (0 : Int) ≤ (j : Int) := by omega
        have b1 : (j : Int) < (n : Int) := by omega
        go_wp2_with (fail)
        refine (szElement_gen x s[j] r _ hr0 (by omega) HX.out.2 HX.out.1).mono ?_
        rintro e w3 ⟨r2, rfl, hr2, hb3⟩
        have HB3 : Hid (Below w.heap.size w w3) := hR.out.1.trans (hb3.mono hR.out.1.size)
        clear hb3 c0 c1
        rcases hr2 with hneg | ⟨h3, h4, h5⟩
        · go_wp2
          go_returns
          exact ⟨-1, rfl, Or.inl (by omega), HB3.out⟩
        · have HS : Hid (∀ k (h : k < s.length), k < j + 1 → smE l s[k]) := fun k hk hkj => by
            rcases (by omega : k < j ∨ k = j) with e | rfl
            · exact hR.out.2 k hk e
            · unfold smE at h5 ⊢; omega
          have h6 : ¬ r2 < 0 := by omega
          clear hR h5
          go_wp2
          go_roundw
          case rel => exact ⟨j + 1, r2, by omega, by go_num, rfl, h3, by omega, HB3.out, HS.out⟩
          case measure => simp [intOf]; omega
      · have HS : Hid (Below w.heap.size w wr ∧ ∀ k (h : k < s.length), smE l s[k]) := ⟨hR.out.1, fun k hk => hR.out.2 k hk (by rw [← H.out.2.1] at hk; omega)⟩
        clear hR
        go_wp2
        go_returns
        exact ⟨r, rfl, Or.inr ⟨hr0, hrl, HL.out, HS.out.2⟩, HS.out.1⟩

end Go.Proofs.Ytbjdalcbdbphkaa
