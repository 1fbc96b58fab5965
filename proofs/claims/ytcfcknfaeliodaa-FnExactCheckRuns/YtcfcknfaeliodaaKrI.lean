/- Proved here: CheckRuns of the program: crB. -/
import Derived.Test.YtcfcknfaeliodaaKrM
import Derived.Test.YtcfcknfaeliodaaTgI
import Derived.BigQuiet
namespace Go.Proofs.Ytcfcknfaeliodaa
open Go.ChangeShapes Go.WideShapes Go.ChangeAt Go.RowKit Go.Joins
set_option linter.unusedVariables false
set_option linter.unusedSimpArgs false

set_option maxRecDepth 10000 in
set_option maxHeartbeats 6400000 in
theorem impl_kr (C : Int) (A' : Int) (R' : ByteArray) (S' U' L' : Int) (Q' : Bool) {va' vb' : Value} (h8 : ∃ a n c, va' = .slice a n c) (h9 : ∃ a n c, vb' = .slice a n c) (A : Int) (R : ByteArray) (S U L : Int) (Q : Bool) {w : World} {a : Option Addr} {n c : Nat} {s : List Ap} {f : Option Addr} {k h : Nat} {rs : List Ap} (hn : n ≤ 1048576) (hz : ∀ j (h : j < s.length), s[j].nm.size ≤ 2000000) (hc : n ≤ c) (hr : RG 2 apC w (.slice a n c) s) (hk : k ≤ 1048576) (hl : RG 2 apC w (.slice f k h) rs) :
    Calls Try.prog 21 #[.agg #[.int .i64 A, .string R, .int .i64 S, .int .i64 U, .int .i64 L, .bool Q, .slice a n c], .agg #[.int .i64 C, .int .i64 A', .string R', .int .i64 S', .int .i64 U', .int .i64 L', .bool Q', va', vb', .slice f k h]] w fun e w' => e = .returned (.bool (crB C A R S U L Q s rs)) ∧ Below w.heap.size w w' := by
  obtain ⟨a8, n8, c8, rfl⟩ := h8
  obtain ⟨a9, n9, c9, rfl⟩ := h9
  obtain ⟨D, hD⟩ : ∃ D, D = crB C A R S U L Q s rs := ⟨_, rfl⟩
  obtain ⟨x, hx⟩ : ∃ D, D = tlF A R S U L Q s := ⟨_, rfl⟩
  rw [← hD]
  have H : Hid (RG 2 apC w (.slice f k h) rs ∧ k = rs.length ∧ (¬ C = 0 → D = false) ∧ (¬ x = 0 → D = false) ∧ (C = 0 → x = 0 → D = (rs.all fun x => apB s x.nm x.su))) := by
    refine ⟨hl, hl.len, fun e => ?_, fun e => ?_, fun e e2 => ?_⟩
    · rw [hD]; unfold crB; simp [e]
    · rw [hD]; unfold crB; rw [← hx]; simp [e]
    · rw [hD]; unfold crB; rw [← hx]; simp [e, e2]
  have HTF : Hid (∀ W, Below w.heap.size w W → Calls Try.prog 10 #[.agg #[.int .i64 A, .string R, .int .i64 S, .int .i64 U, .int .i64 L, .bool Q, .slice a n c]] W fun e w' => e = .returned (.int .i64 x) ∧ Below W.heap.size W w') := fun W hb => by
    rw [hx]; exact impl_tl A R S U L Q hn hz hc (hr.below hb)
  have HIA : Hid (∀ (nm : ByteArray) (su : Int) W, Below w.heap.size w W → Calls Try.prog 46 #[.agg #[.int .i64 A, .string R, .int .i64 S, .int .i64 U, .int .i64 L, .bool Q, .slice a n c], .string nm, .int .i64 su] W fun e w' => e = .returned (.bool (apB s nm su)) ∧ Below W.heap.size W w') := fun nm su W hb => impl_ia A R S U L Q nm su (by rw [← hr.len]; exact hn) (hr.below hb)
  have HS : Hid (S2 w (.cells #[.int .i64 A, .string R, .int .i64 S, .int .i64 U, .int .i64 L, .bool Q, .slice a n c] 29) (.cells #[.int .i64 C, .int .i64 A', .string R', .int .i64 S', .int .i64 U', .int .i64 L', .bool Q', .slice a8 n8 c8, .slice a9 n9 c9, .slice f k h] 45) ((w.alloc (.cells #[.int .i64 A, .string R, .int .i64 S, .int .i64 U, .int .i64 L, .bool Q, .slice a n c] 29)).alloc (.cells #[.int .i64 C, .int .i64 A', .string R', .int .i64 S', .int .i64 U', .int .i64 L', .bool Q', .slice a8 n8 c8, .slice a9 n9 c9, .slice f k h] 45))) := S2.new _ _ _
  clear hr hl hD hx hz
  by_cases hC : C = 0
  case neg =>
    have HE : Hid (D = false) := H.out.2.2.1 hC
    have hC1 : (C != 0) = true := by simpa using hC
    clear HTF HIA
    go_enter Try.func21, Try.ntmps21
    go_wp2
    go_returns
    exact ⟨by rw [HE.out]; rfl, by (repeat' (first | (with_reducible exact Below.refl _ _) | (with_reducible assumption) | (with_reducible refine Below.setCell ?_ ?_ _) | (with_reducible refine Below.alloc ?_ ?_ _) | (with_reducible refine below_drewN ?_ _) | (with_reducible refine Below.drew ?_) | (with_reducible exact Nat.le_refl _) | omega | (simp; done) | (simp; omega)))⟩
  subst hC
  go_enter Try.func21, Try.ntmps21
  go_wp2_with (fail)
  obtain ⟨W0, hW0⟩ : ∃ X9, X9 = (w.alloc (.cells #[.int .i64 A, .string R, .int .i64 S, .int .i64 U, .int .i64 L, .bool Q, .slice a n c] 29)).alloc (.cells #[.int .i64 0, .int .i64 A', .string R', .int .i64 S', .int .i64 U', .int .i64 L', .bool Q', .slice a8 n8 c8, .slice a9 n9 c9, .slice f k h] 45) := ⟨_, rfl⟩
  rw [← hW0] at HS ⊢
  clear hW0
  refine (HTF.out _ HS.out.bl).mono ?_
  rintro e w1 ⟨rfl, hb1⟩
  have HT : Hid (S2 w (.cells #[.int .i64 A, .string R, .int .i64 S, .int .i64 U, .int .i64 L, .bool Q, .slice a n c] 29) (.cells #[.int .i64 0, .int .i64 A', .string R', .int .i64 S', .int .i64 U', .int .i64 L', .bool Q', .slice a8 n8 c8, .slice a9 n9 c9, .slice f k h] 45) w1) := HS.out.next hb1
  clear hb1 HTF HS
  obtain ⟨p0, p1, p2, p3, p4, p5, p6, pl⟩ := tf_seven HT.out.b0
  obtain ⟨q0, q9, ql⟩ := kr_ten HT.out.b1
  by_cases hx0 : x = 0
  case neg =>
    have HE : Hid (D = false) := H.out.2.2.2.1 hx0
    have hx1 : (x != 0) = true := by simpa using hx0
    clear HIA
    go_wp2
    go_returns
    exact ⟨by rw [HE.out]; rfl, HT.out.bl⟩
  subst hx0
  have HD : Hid (D = (rs.all fun x => apB s x.nm x.su)) := H.out.2.2.2.2 (by first | rfl | trivial) (by first | rfl | trivial)
  go_wp2
  go_loopw [18] (fun i wr => ∃ j : Nat, j ≤ k ∧ i = .int .i64 j ∧ Hid (S2 w (.cells #[.int .i64 A, .string R, .int .i64 S, .int .i64 U, .int .i64 L, .bool Q, .slice a n c] 29) (.cells #[.int .i64 0, .int .i64 A', .string R', .int .i64 S', .int .i64 U', .int .i64 L', .bool Q', .slice a8 n8 c8, .slice a9 n9 c9, .slice f k h] 45) wr ∧ ∀ t (h : t < rs.length), t < j → apB s rs[t].nm rs[t].su = true)) (fun i _ => k - (intOf i).toNat)
  case atStart => exact ⟨0, Nat.zero_le _, rfl, HT.out, fun t _ ht => by omega⟩
  case round =>
    clear HT p0 p1 p2 p3 p4 p5 p6 pl q0 q9 ql
    obtain ⟨j, hj, rfl, hR⟩ := hrel
    obtain ⟨p0, p1, p2, p3, p4, p5, p6, pl⟩ := tf_seven hR.out.1.b0
    obtain ⟨q0, q9, ql⟩ := kr_ten hR.out.1.b1
    by_cases hlt : j < k
    · have hjl : j < rs.length := by rw [← H.out.2.1]; exact hlt
      obtain ⟨g, o, c2, he, hg, hj2⟩ := (H.out.1.below hR.out.1.bl).pos (by omega)
      simp only [Value.slice.injEq] at he
      obtain ⟨rfl, hx1, hx2⟩ := he
      clear hx1 hx2
      obtain ⟨c0, c1⟩ := apC_at (hj2 j hjl)
      obtain ⟨y, hy⟩ : ∃ y, y = rs[j] := ⟨_, rfl⟩
      rw [← hy] at c0 c1
      obtain ⟨nm, su⟩ := y
      simp only at c0 c1
      obtain ⟨q, hq⟩ : ∃ q, q = apB s nm su := ⟨_, rfl⟩
      have HQ : Hid ((q = false → D = false) ∧ (q = true → ∀ t (h : t < rs.length), t < j + 1 → apB s rs[t].nm rs[t].su = true)) := by
        refine ⟨fun e => ?_, fun e t ht htj => ?_⟩
        · rw [HD.out]; exact all_false hjl (by rw [← hy]; rw [hq] at e; exact e)
        · rcases (by omega : t < j ∨ t = j) with h3 | rfl
          · exact hR.out.2 t ht h3
          · rw [← hy]; rw [hq] at e; exact e
      have b0 : (0 : Int) ≤ (j : Int) := by omega
      have b1 : (j : Int) < (k : Int) := by omega
      have HA : Hid (Calls Try.prog 46 #[.agg #[.int .i64 A, .string R, .int .i64 S, .int .i64 U, .int .i64 L, .bool Q, .slice a n c], .string nm, .int .i64 su] (wr.alloc (.cells #[.string nm, .int .i64 su] 72)) fun e w' => e = .returned (.bool q) ∧ Below (wr.alloc (.cells #[.string nm, .int .i64 su] 72)).heap.size (wr.alloc (.cells #[.string nm, .int .i64 su] 72)) w') := by
        rw [hq]; exact HIA.out nm su _ (hR.out.1.bl.trans (by (repeat' (first | (with_reducible exact Below.refl _ _) | (with_reducible assumption) | (with_reducible refine Below.setCell ?_ ?_ _) | (with_reducible refine Below.alloc ?_ ?_ _) | (with_reducible refine below_drewN ?_ _) | (with_reducible refine Below.drew ?_) | (with_reducible exact Nat.le_refl _) | omega | (simp; done) | (simp; omega)))))
      have HV : Hid (S2 w (.cells #[.int .i64 A, .string R, .int .i64 S, .int .i64 U, .int .i64 L, .bool Q, .slice a n c] 29) (.cells #[.int .i64 0, .int .i64 A', .string R', .int .i64 S', .int .i64 U', .int .i64 L', .bool Q', .slice a8 n8 c8, .slice a9 n9 c9, .slice (some ⟨g, o, none⟩) k h] 45) (wr.alloc (.cells #[.string nm, .int .i64 su] 72))) := hR.out.1.next (by (repeat' (first | (with_reducible exact Below.refl _ _) | (with_reducible assumption) | (with_reducible refine Below.setCell ?_ ?_ _) | (with_reducible refine Below.alloc ?_ ?_ _) | (with_reducible refine below_drewN ?_ _) | (with_reducible refine Below.drew ?_) | (with_reducible exact Nat.le_refl _) | omega | (simp; done) | (simp; omega))))
      clear hq hy hj2 hjl hR
      go_wp2_with (fail)
      refine HA.out.mono ?_
      rintro e w5 ⟨rfl, hb5⟩
      have HV2 : Hid (S2 w (.cells #[.int .i64 A, .string R, .int .i64 S, .int .i64 U, .int .i64 L, .bool Q, .slice a n c] 29) (.cells #[.int .i64 0, .int .i64 A', .string R', .int .i64 S', .int .i64 U', .int .i64 L', .bool Q', .slice a8 n8 c8, .slice a9 n9 c9, .slice (some ⟨g, o, none⟩) k h] 45) w5) := HV.out.next hb5
      clear hb5 HA HV p0 p1 p2 p3 p4 p5 p6 pl q0 q9 ql c0 c1 hg
      cases q with
      | false =>
        have HE : Hid (D = false) := HQ.out.1 rfl
        go_wp2
        go_returns
        exact ⟨by rw [HE.out]; rfl, HV2.out.bl⟩
      | true =>
        have HE : Hid (∀ t (h : t < rs.length), t < j + 1 → apB s rs[t].nm rs[t].su = true) := HQ.out.2 rfl
        go_wp2
        go_roundw
        case rel => exact ⟨j + 1, by omega, by go_num, HV2.out, HE.out⟩
        case measure => simp [intOf]; omega
    · have HE : Hid (D = true) := by unfold Hid; rw [HD.out]; exact all_true fun t ht => hR.out.2 t ht (by rw [← H.out.2.1] at ht; omega)
      have HB : Hid (Below w.heap.size w wr) := hR.out.1.bl
      clear hR
      go_wp2
      go_returns
      exact ⟨by rw [HE.out]; rfl, HB.out⟩

end Go.Proofs.Ytcfcknfaeliodaa
