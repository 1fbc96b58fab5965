/- Proved here: small rules for statements that may be carried out in several orders: what must stay below a block; one operation carried out. No condition on the program. (And ahead of it: Proved here: slices.Index and slices.Contains at approvals; the program's IsApproved.) -/
import Derived.Test.YtkacfjbhkgdpdaaTiM
import Derived.Test.YtkacfjbhkgdpdaaFloat
namespace Go.Proofs.Ytkacfjbhkgdpdaa
open Go.ChangeShapes Go.WideShapes Go.ChangeAt Go.RowKit Go.Joins
set_option linter.unusedVariables false
set_option linter.unusedSimpArgs false


set_option maxRecDepth 10000 in
set_option maxHeartbeats 1600000 in
theorem impl_ixAp (nm : ByteArray) (su : Int) {w : World} {v : Value} {s : List Ap} (hn : s.length ≤ 1048576) (h : RG 2 apC w v s) :
    Calls Try.prog 66 #[v, .agg #[.string nm, .int .i64 su]] w fun e w' => (∃ r : Int, e = .returned (.int .i64 r) ∧ (0 ≤ r ↔ apB s nm su = true)) ∧ Below w.heap.size w w' := by
  obtain ⟨a, c, rfl⟩ := h.form
  obtain ⟨n, hnn⟩ : ∃ n, n = s.length := ⟨_, rfl⟩
  rw [← hnn] at hn h ⊢
  have H : Hid (RG 2 apC w (.slice a n c) s ∧ n = s.length) := ⟨h, hnn⟩
  clear h hnn
  have HW : Hid (Below w.heap.size w (w.alloc (.cells #[.string nm, .int .i64 su] 72)) ∧ (w.alloc (.cells #[.string nm, .int .i64 su] 72)).heap[w.heap.size]? = some (.cells #[.string nm, .int .i64 su] 72)) := ⟨by (repeat' (first | (with_reducible exact Below.refl _ _) | (with_reducible assumption) | (with_reducible refine Below.setCell ?_ ?_ _) | (with_reducible refine Below.alloc ?_ ?_ _) | (with_reducible refine below_drewN ?_ _) | (with_reducible refine Below.drew ?_) | (with_reducible exact Nat.le_refl _) | omega | (simp; done) | (simp; omega))), heap_alloc_new _ _⟩
  go_enter Try.func66, Try.ntmps66
  go_wp2
  go_loopw [8] (fun i wr => ∃ j : Nat, j ≤ n ∧ i = .int .i64 j ∧ Hid (Below w.heap.size w wr ∧ wr.heap[w.heap.size]? = some (.cells #[.string nm, .int .i64 su] 72) ∧ ∀ k (h : k < s.length), k < j → ¬ (s[k].nm = nm ∧ s[k].su = su))) (fun i _ => n - (intOf i).toNat)
  case atStart => exact ⟨0, Nat.zero_le _, rfl, HW.out.1, HW.out.2, fun k _ hk => by omega⟩
  case round =>
    clear HW
    obtain ⟨j, hjn, rfl, hR⟩ := hrel
    by_cases hlt : j < n
    · have hjl : j < s.length := by rw [← H.out.2]; exact hlt
      obtain ⟨g, o, c2, he, hg, hj⟩ := (H.out.1.below hR.out.1).pos (by rw [← H.out.2]; omega)
      simp only [Value.slice.injEq] at he
      obtain ⟨rfl, hx1, hx2⟩ := he
      clear hx1 hx2
      obtain ⟨c0, c1⟩ := apC_at (hj j hjl)
      obtain ⟨d0, d1, dl⟩ := apAgg hR.out.2.1
      obtain ⟨y, hy⟩ : ∃ y, y = s[j] := ⟨_, rfl⟩
      rw [← hy] at c0 c1
      have HX : Hid (y = s[j] ∧ ∃ _ : j < s.length, True) := ⟨hy, hjl, trivial⟩
      have HR : Hid _ := hR.out
      have HT : Hid (y.nm = nm → y.su = su → apB s nm su = true) := fun e1 e2 => apB_true hjl (by rw [← hy]; exact e1) (by rw [← hy]; exact e2)
      have HF : Hid (¬ (y.nm = nm ∧ y.su = su) → ∀ k (h : k < s.length), k < j + 1 → ¬ (s[k].nm = nm ∧ s[k].su = su)) := fun hne k hk hkj => by
        rcases (by omega : k < j ∨ k = j) with e | rfl
        · exact hR.out.2.2 k hk e
        · rw [← hy]; exact hne
      clear hy hj hjl hR HX
      have b0 : (0 : Int) ≤ (j : Int) := by omega
      have b1 : (j : Int) < (n : Int) := by omega
      by_cases h1 : y.nm = nm
      · by_cases h2 : y.su = su
        · have HM : Hid (apB s nm su = true) := HT.out h1 h2
          rw [h1] at c0
          rw [h2] at c1
          clear HT HF h1 h2
          go_wp2
          go_quiet (fail)
          go_wp2
          go_returns
          exact ⟨⟨_, rfl, ⟨fun _ => HM.out, fun _ => by omega⟩⟩, below_drewN HR.out.1 _⟩
        · have HP := HF.out (fun e => h2 e.2)
          have HP' : Hid _ := HP
          have e2 : (su == y.su) = false := beq_eq_false_iff_ne.2 (fun e => h2 e.symm)
          rw [h1] at c0
          clear HP HT HF h1 h2
          go_wp2
          go_quiet (fail)
          go_wp2
          go_roundw
          case rel => exact ⟨j + 1, by omega, by go_num, below_drewN HR.out.1 _, (by simpa using HR.out.2.1), HP'.out⟩
          case measure => simp [intOf]; omega
      · have HP := HF.out (fun e => h1 e.1)
        have HP' : Hid _ := HP
        have e1 := str_ne (fun e : nm = y.nm => h1 e.symm)
        clear HP HT HF h1
        go_wp2
        go_quiet (fail)
        go_wp2
        go_roundw
        case rel => exact ⟨j + 1, by omega, by go_num, below_drewN HR.out.1 _, (by simpa using HR.out.2.1), HP'.out⟩
        case measure => simp [intOf]; omega
    · have HM : Hid (apB s nm su = false) := apB_false (fun k hk => hR.out.2.2 k hk (by rw [← H.out.2] at hk; omega))
      have HB : Hid (Below w.heap.size w wr) := hR.out.1
      clear hR
      go_wp2
      go_returns
      exact ⟨⟨_, rfl, ⟨fun h => by omega, fun h => absurd h (by rw [HM.out]; simp)⟩⟩, HB.out⟩

set_option maxHeartbeats 1600000 in
theorem impl_coAp (nm : ByteArray) (su : Int) {w : World} {v : Value} {s : List Ap} (hn : s.length ≤ 1048576) (h : RG 2 apC w v s) :
    Calls Try.prog 65 #[v, .agg #[.string nm, .int .i64 su]] w fun e w' => e = .returned (.bool (apB s nm su)) ∧ Below w.heap.size w w' := by
  obtain ⟨a, c, rfl⟩ := h.form
  have H : Hid (RG 2 apC w (.slice a s.length c) s) := h
  obtain ⟨n, hnn⟩ : ∃ n, n = s.length := ⟨_, rfl⟩
  obtain ⟨D, hD⟩ : ∃ D, D = apB s nm su := ⟨_, rfl⟩
  have HD : Hid (D = apB s nm su ∧ s.length ≤ 1048576) := ⟨hD, hn⟩
  rw [← hnn] at H ⊢
  rw [← hD]
  clear h hnn hD hn
  go_enter Try.func65, Try.ntmps65
  go_wp2_with (fail)
  refine (impl_ixAp nm su HD.out.2 (H.out.below (by (repeat' (first | (with_reducible exact Below.refl _ _) | (with_reducible assumption) | (with_reducible refine Below.setCell ?_ ?_ _) | (with_reducible refine Below.alloc ?_ ?_ _) | (with_reducible refine below_drewN ?_ _) | (with_reducible refine Below.drew ?_) | (with_reducible exact Nat.le_refl _) | omega | (simp; done) | (simp; omega)))))).mono ?_
  rintro e w1 ⟨⟨r, rfl, hr⟩, hb1⟩
  have HB : Hid (Below w.heap.size w w1) := (show Below w.heap.size w _ from by (repeat' (first | (with_reducible exact Below.refl _ _) | (with_reducible assumption) | (with_reducible refine Below.setCell ?_ ?_ _) | (with_reducible refine Below.alloc ?_ ?_ _) | (with_reducible refine below_drewN ?_ _) | (with_reducible refine Below.drew ?_) | (with_reducible exact Nat.le_refl _) | omega | (simp; done) | (simp; omega)))).trans (hb1.mono (by simp))
  have HE : Hid (decide (r ≥ 0) = D) := by
    unfold Hid
    rw [HD.out.1]
    cases hq : apB s nm su with
    | true => exact decide_eq_true (hr.2 hq)
    | false => exact decide_eq_false (fun h => by rw [hr.1 h] at hq; cases hq)
  clear hb1 hr
  go_wp2
  go_returns
  exact ⟨by rw [← HE.out]; rfl, HB.out⟩

set_option maxHeartbeats 1600000 in
theorem impl_ia (A : Int) (R : ByteArray) (S U L : Int) (Q : Bool) (nm : ByteArray) (su : Int) {w : World} {v : Value} {s : List Ap} (hn : s.length ≤ 1048576) (h : RG 2 apC w v s) :
    Calls Try.prog 59 #[.agg #[.int .i64 A, .string R, .int .i64 S, .int .i64 U, .int .i64 L, .bool Q, v], .string nm, .int .i64 su] w fun e w' => e = .returned (.bool (apB s nm su)) ∧ Below w.heap.size w w' := by
  obtain ⟨a, c, rfl⟩ := h.form
  have H : Hid (RG 2 apC w (.slice a s.length c) s) := h
  obtain ⟨n, hnn⟩ : ∃ n, n = s.length := ⟨_, rfl⟩
  obtain ⟨D, hD⟩ : ∃ D, D = apB s nm su := ⟨_, rfl⟩
  have HD : Hid (D = apB s nm su ∧ s.length ≤ 1048576) := ⟨hD, hn⟩
  rw [← hnn] at H ⊢
  rw [← hD]
  clear h hnn hD hn
  go_enter Try.func59, Try.ntmps59
  go_wp2_with (fail)
  refine (impl_coAp nm su HD.out.2 (H.out.below (by (repeat' (first | (with_reducible exact Below.refl _ _) | (with_reducible assumption) | (with_reducible refine Below.setCell ?_ ?_ _) | (with_reducible refine Below.alloc ?_ ?_ _) | (with_reducible refine below_drewN ?_ _) | (with_reducible refine Below.drew ?_) | (with_reducible exact Nat.le_refl _) | omega | (simp; done) | (simp; omega)))))).mono ?_
  rintro e w1 ⟨rfl, hb1⟩
  have HB : Hid (Below w.heap.size w w1) := (show Below w.heap.size w _ from by (repeat' (first | (with_reducible exact Below.refl _ _) | (with_reducible assumption) | (with_reducible refine Below.setCell ?_ ?_ _) | (with_reducible refine Below.alloc ?_ ?_ _) | (with_reducible refine below_drewN ?_ _) | (with_reducible refine Below.drew ?_) | (with_reducible exact Nat.le_refl _) | omega | (simp; done) | (simp; omega)))).trans (hb1.mono (by simp))
  rw [← HD.out.1]
  clear hb1
  go_wp2
  go_returns
  exact ⟨rfl, HB.out⟩

end Go.Proofs.Ytkacfjbhkgdpdaa

namespace Go.Proofs.Ytkacfjbhkgdpdaa
open Go.RowKit
set_option linter.unusedVariables false

/-- What lay below B in W lies in w still. -/
def KA (B : Nat) (W w : World) : Prop := (∀ b o, b < B → w.cell? ⟨b, o, none⟩ = W.cell? ⟨b, o, none⟩) ∧ Below B W w
theorem KA.of {B : Nat} {W w : World} (h : Below B W w) : KA B W w := ⟨fun b o hb => h.cell (p := ⟨b, o, none⟩) hb, h⟩
theorem fl_takeA {P : Program} {ops : Array Oper} {Q : Exit → Act → World → Prop} {S : World → Prop} {i d : Nat} {oi : Oper} {v : Value} {fuel : Nat} {listed : Array Bool} {a : Act} {w : World} (hi : ops[i]? = some oi) (hd : oi.dst = some d) (hg : oi.guard = none)
    (hs : Region.noSelect ops = true) (hf : Region.free .any ops listed i = true) (hr : (Region.ready .any ops listed).contains i = true)
    (hS : S w) (hy : ∀ w', S w' → (execOp a.eval oi).run P w' = .ok (.value v) w')
    (h : wpAnyH P .any ops (NoPanic Q) S fuel (listed.setIfInBounds i true) (a.put (some d) v) w) : wpAnyH P .any ops (NoPanic Q) S (fuel + 1) listed a w :=
  wpAnyH_take hi hs hf hr (fun _ _ _ h => h) (Or.inl ⟨wanted_none hg _, fun w' hk => hy w' hk⟩) hS (by rw [hd]; exact h)
theorem wp_region_holdsA {P : Program} {ops : Array Oper} {Q : Exit → Act → World → Prop} {S : World → Prop} {id : Nat} {a : Act} {w : World} (hm : P.follows .mixedOrders = true) (h0 : S w.drew)
    (h : S w.drew → wpAnyH P .any ops (NoPanic Q) S ops.size (Array.replicate ops.size false) a w.drew) : (Code.region id ops true).wp P Q a w :=
  wp_region_noPanic (wp_region_held_drew (S := S) hm h0 h)
theorem op_skipN {P : Program} {ops : Array Oper} {Q : Exit → Act → World → Prop} {i : Nat} {o : Oper} {a : Act} {w w' : World} {K : Act → World → Prop} (ho : ops[i]? = some o) (hg : o.guard = none)
    (hrun : (execOp a.eval o).run P w = .ok .skip w') (h : K (a.put o.dst undef) w') : wpOp P ops Q i K a w := by
  unfold wpOp
  simp only [ho, wanted_none hg, if_true]
  refine Or.inl ?_
  unfold Oper.wp
  rw [hrun]
  exact h
/-- A struct stored whole. -/
theorem op_store {P : Program} {ops : Array Oper} {Q : Exit → Act → World → Prop} {i : Nat} {o : Oper} {a : Act} {w : World} {K : Act → World → Prop} (ho : ops[i]? = some o) (hg : o.guard = none) (hdst : o.dst = none) (ty : TypeId) (x y : Operand) (hop : o.op = .store ty x y) (k : Nat) (cells : Array Value)
    (hx : a.eval x = .pointer (some ⟨k, 0, none⟩)) (hy : a.eval y = .agg cells) (ht : w.there k 0 cells.size) (hi : (P.info? ty).map (·.size) = some cells.size) (h1 : cells.all (·.oneCell') = true)
    (h : K a (w.setCells k 0 cells.toList)) : wpOp P ops Q i K a w := by
  unfold wpOp
  simp only [ho, wanted_none hg, if_true]
  refine Or.inl (wp_store_mid ty x y hop k 0 cells hx hy ht hi h1 ?_)
  rw [hdst]
  exact h
theorem there_two {w : World} {k : Nat} {a b : Value} {T : TypeId} (h : w.heap[k]? = some (.cells #[a, b] T)) : w.there k 0 2 := by
  intro j hj
  have hj2 : j < 2 := hj
  simp [World.cell?, World.frozen?, h, hj2]

end Go.Proofs.Ytkacfjbhkgdpdaa
