/- Proved here: the model's two comparisons of lists of boxes: of their runs, and box by box. -/
import Derived.Test.YtpfnhiohbgconaaBoxBase
import Derived.Laws.StructEq
namespace Go.Proofs.Ytpfnhiohbgconaa
open Go.RowKit
set_option linter.unusedVariables false
set_option linter.unusedSimpArgs false

theorem sameRuns_len : ∀ (a b : List Bx), a.length ≠ b.length → sameRuns a b = false := by
  intro a
  induction a with
  | nil => intro b h; cases b with
    | nil => simp at h
    | cons x t => rfl
  | cons x t ih => intro b h; cases b with
    | nil => rfl
    | cons y u => simp only [sameRuns]; rw [ih u (by simpa using h)]; simp
theorem sameRuns_step {a b : List Bx} {k : Nat} {x y : Bx} (ha : k < a.length) (hb : k < b.length) (hx : bat a k = x) (hy : bat b k = y) : sameRuns (a.drop k) (b.drop k) = ((x.x0 == y.x0 && x.x1 == y.x1) && sameRuns (a.drop (k + 1)) (b.drop (k + 1))) := by
  rw [drop_bat ha, drop_bat hb, hx, hy]; rfl

set_option maxHeartbeats 800000 in
theorem spec_sameRuns_len (a b : Option Addr) (n m c d : Nat) (w : World) (h : ¬ (n : Int) = (m : Int)) :
    Calls Try.prog 92 #[.slice a n c, .slice b m d] w fun e w' => e = .returned (.bool false) ∧ ∃ k, w' = w.drewN k := by
  go_enter Try.func92, Try.ntmps92
  go_wp2
  go_returns
  exact ⟨rfl, 0, rfl⟩

set_option maxHeartbeats 800000 in
theorem spec_sameRuns_zero (a b : Option Addr) (c d : Nat) (w : World) :
    Calls Try.prog 92 #[.slice a 0 c, .slice b 0 d] w fun e w' => e = .returned (.bool true) ∧ ∃ k, w' = w.drewN k := by
  go_enter Try.func92, Try.ntmps92
  go_wp2
  refine wp_loop_rounds 1 ?_
  rw [rounds_succ]
  go_wp2
  go_returns
  exact ⟨rfl, 0, rfl⟩

set_option maxHeartbeats 1600000 in
theorem spec_sameRuns_pos (g o c g' o' c' n : Nat) (a b : List Bx) (w : World) (hla : Hid (a.length = n)) (hlb : Hid (b.length = n)) (hn : n ≤ 1099511627776) (h : ∀ j, j < n → BAt w g (o + j * 4) (bat a j)) (h' : ∀ j, j < n → BAt w g' (o' + j * 4) (bat b j)) :
    Calls Try.prog 92 #[.slice (some ⟨g, o, none⟩) n c, .slice (some ⟨g', o', none⟩) n c'] w fun e w' => e = .returned (.bool (sameRuns a b)) ∧ ∃ k, w' = w.drewN k := by
  have H : Hid _ := h
  have H' : Hid _ := h'
  clear h h'
  go_enter Try.func92, Try.ntmps92
  go_wp2
  go_loopw [5] (fun i wr => ∃ k m : Nat, k ≤ n ∧ i = .int .i64 k ∧ wr = w.drewN m ∧ Hid (sameRuns (a.drop k) (b.drop k) = sameRuns a b)) (fun i _ => n - (intOf i).toNat)
  case atStart => exact ⟨0, 0, Nat.zero_le _, rfl, rfl, rfl⟩
  case round =>
    obtain ⟨k, m, hk, rfl, rfl, hK⟩ := hrel
    by_cases hlt : k < n
    · obtain ⟨c0, c1, c2, c3⟩ := H.out k hlt
      obtain ⟨e0, e1, e2, e3⟩ := H'.out k hlt
      obtain ⟨x, hx⟩ : ∃ x, x = bat a k := ⟨_, rfl⟩
      obtain ⟨y, hy⟩ : ∃ y, y = bat b k := ⟨_, rfl⟩
      rw [← hx] at c0 c1 c2 c3
      rw [← hy] at e0 e1 e2 e3
      have HS : Hid (sameRuns a b = ((x.x0 == y.x0 && x.x1 == y.x1) && sameRuns (a.drop (k + 1)) (b.drop (k + 1)))) := by
        unfold Hid; rw [← hK.out]; exact sameRuns_step (by rw [hla.out]; exact hlt) (by rw [hlb.out]; exact hlt) hx.symm hy.symm
      clear hx hy hK
      have b0 : (0 : Int) ≤ (k : Int) := by omega
      have b1 : (k : Int) < (n : Int) := by omega
      cases d1 : x.x0 != y.x0 with
      | true =>
        have q1 : (x.x0 == y.x0) = false := by simpa using d1
        have q1' : Hid ((x.x0 == y.x0) = false) := q1
        clear q1
        go_wp2_with (fail)
        go_quiet (fail)
        go_wp2
        go_returns
        exact ⟨by rw [HS.out, q1'.out]; rfl, m + nq, World.drewN_drewN _ _ _⟩
      | false =>
        have q1' : Hid ((x.x0 == y.x0) = true) := by unfold Hid; simpa using d1
        cases d2 : x.x1 != y.x1 with
        | true =>
          have q2' : Hid ((x.x1 == y.x1) = false) := by unfold Hid; simpa using d2
          go_wp2_with (fail)
          go_quiet (fail)
          go_wp2
          go_returns
          exact ⟨by rw [HS.out, q1'.out, q2'.out]; rfl, m + nq, World.drewN_drewN _ _ _⟩
        | false =>
          have q2' : Hid ((x.x1 == y.x1) = true) := by unfold Hid; simpa using d2
          go_wp2_with (fail)
          go_quiet (fail)
          go_wp2
          go_roundw
          case rel => exact ⟨k + 1, m + nq, by omega, by go_num, rfl, by unfold Hid; rw [HS.out, q1'.out, q2'.out]; rfl⟩
          case measure => simp [intOf]; omega
    · have e : Hid (sameRuns a b = true) := by
        unfold Hid
        rw [← hK.out, List.drop_eq_nil_of_le (by rw [hla.out]; omega), List.drop_eq_nil_of_le (by rw [hlb.out]; omega)]; rfl
      go_wp2
      go_returns
      exact ⟨by rw [e.out]; rfl, m, rfl⟩

theorem spec_sameRuns {w : World} {va vb : Value} {a b : List Bx} (hn : a.length ≤ 1099511627776) (ha : RB w va a) (hb : RB w vb b) :
    Calls Try.prog 92 #[va, vb] w fun e w' => e = .returned (.bool (sameRuns a b)) ∧ ∃ k, w' = w.drewN k := by
  by_cases hl : a.length = b.length
  · rcases Nat.eq_zero_or_pos a.length with h0 | hp
    · obtain rfl : a = [] := List.length_eq_zero_iff.1 h0
      obtain rfl : b = [] := List.length_eq_zero_iff.1 (by omega)
      obtain ⟨x, c, rfl⟩ := ha.form
      obtain ⟨y, d, rfl⟩ := hb.form
      exact spec_sameRuns_zero x y c d w
    · obtain ⟨g, o, c, rfl, _, hj⟩ := ha.pos hp
      obtain ⟨g', o', c', rfl, _, hj'⟩ := hb.pos (by omega)
      rw [← hl] at hj' ⊢
      exact spec_sameRuns_pos g o c g' o' c' _ a b w rfl hl.symm hn hj hj'
  · obtain ⟨x, c, rfl⟩ := ha.form
    obtain ⟨y, d, rfl⟩ := hb.form
    rw [sameRuns_len a b hl]
    exact spec_sameRuns_len x y _ _ c d w (by omega)

def bagg (b : Bx) : Value := .agg #[.int .i64 b.x0, .int .i64 b.y0, .int .i64 b.x1, .int .i64 b.y1]
theorem box_guard : Try.prog.eqGuardType Try.prog.depth 30 = false := by kernel_rfl
theorem box_neq (a b c d e f g h : Int) (r : Bool) (hr : Bx.same ⟨a, b, c, d⟩ ⟨e, f, g, h⟩ = r) (w : World) : (binOp .neq 30 (.agg #[.int .i64 a, .int .i64 b, .int .i64 c, .int .i64 d]) (.agg #[.int .i64 e, .int .i64 f, .int .i64 g, .int .i64 h])).run Try.prog w = .ok (.bool (!r)) w := by
  have u3 := Try.underlying2
  have a3 := Try.isAgg2
  have z3 := Try.sizeOf2
  have hS : Try.prog.underlying 30 = some (.struct (Try.prog.fieldsOf 30)) := by kernel_rfl
  have hp : Try.prog.stoodInHeld 30 = false := by kernel_rfl
  subst hr
  rw [run_neq_struct, show (10000 : Nat) = 9999 + 1 from rfl, run_equalIn_agg w 9999 30 _ _ hS hp]
  simp only [Program.fieldsOf, Try.underlying30]
  unfold Bx.same
  go_simp
  by_cases h1 : a = e <;> by_cases h2 : b = f <;> by_cases h3 : c = g <;> by_cases h4 : d = h <;> simp [h1, h2, h3, h4]

/-- Two lists are alike, box by box. -/
def sameB : List Bx → List Bx → Bool
  | [], [] => true
  | a :: t, b :: u => a.same b && sameB t u
  | _, _ => false
theorem sameB_iff : ∀ (a b : List Bx), sameB a b = true ↔ a = b := by
  intro a
  induction a with
  | nil => intro b; cases b <;> simp [sameB]
  | cons x t ih => intro b; cases b with
    | nil => simp [sameB]
    | cons y u => simp [sameB, Bx.same_iff, ih]
theorem sameB_len : ∀ (a b : List Bx), a.length ≠ b.length → sameB a b = false := by
  intro a b h
  rw [Bool.eq_false_iff]
  intro e
  rw [(sameB_iff a b).1 e] at h
  exact h rfl
theorem sameB_step {a b : List Bx} {k : Nat} {x y : Bx} (ha : k < a.length) (hb : k < b.length) (hx : bat a k = x) (hy : bat b k = y) : sameB (a.drop k) (b.drop k) = (x.same y && sameB (a.drop (k + 1)) (b.drop (k + 1))) := by
  rw [drop_bat ha, drop_bat hb, hx, hy]; rfl

set_option maxHeartbeats 800000 in
theorem spec_same_len (a b : Option Addr) (n m c d : Nat) (w : World) (h : ¬ (n : Int) = (m : Int)) :
    Calls Try.prog 88 #[.slice a n c, .slice b m d] w fun e w' => e = .returned (.bool false) ∧ ∃ k, w' = w.drewN k := by
  go_enter Try.func88, Try.ntmps88
  go_wp2
  go_returns
  exact ⟨rfl, 0, rfl⟩

set_option maxHeartbeats 800000 in
theorem spec_same_zero (a b : Option Addr) (c d : Nat) (w : World) :
    Calls Try.prog 88 #[.slice a 0 c, .slice b 0 d] w fun e w' => e = .returned (.bool true) ∧ ∃ k, w' = w.drewN k := by
  go_enter Try.func88, Try.ntmps88
  go_wp2
  refine wp_loop_rounds 1 ?_
  rw [rounds_succ]
  go_wp2
  go_returns
  exact ⟨rfl, 0, rfl⟩

set_option maxHeartbeats 1600000 in
theorem spec_same_pos (g o c g' o' c' n : Nat) (a b : List Bx) (w : World) (hla : Hid (a.length = n)) (hlb : Hid (b.length = n)) (hn : n ≤ 1099511627776) (h : ∀ j, j < n → BAt w g (o + j * 4) (bat a j)) (h' : ∀ j, j < n → BAt w g' (o' + j * 4) (bat b j)) :
    Calls Try.prog 88 #[.slice (some ⟨g, o, none⟩) n c, .slice (some ⟨g', o', none⟩) n c'] w fun e w' => e = .returned (.bool (sameB a b)) ∧ ∃ k, w' = w.drewN k := by
  have H : Hid _ := h
  have H' : Hid _ := h'
  clear h h'
  have hgd := box_guard
  go_enter Try.func88, Try.ntmps88
  go_wp2
  go_loopw [5] (fun i wr => ∃ k m : Nat, k ≤ n ∧ i = .int .i64 k ∧ wr = w.drewN m ∧ Hid (sameB (a.drop k) (b.drop k) = sameB a b)) (fun i _ => n - (intOf i).toNat)
  case atStart => exact ⟨0, 0, Nat.zero_le _, rfl, rfl, rfl⟩
  case round =>
    obtain ⟨k, m, hk, rfl, rfl, hK⟩ := hrel
    by_cases hlt : k < n
    · obtain ⟨c0, c1, c2, c3⟩ := H.out k hlt
      obtain ⟨e0, e1, e2, e3⟩ := H'.out k hlt
      obtain ⟨x, hx⟩ : ∃ x, x = bat a k := ⟨_, rfl⟩
      obtain ⟨y, hy⟩ : ∃ y, y = bat b k := ⟨_, rfl⟩
      rw [← hx] at c0 c1 c2 c3
      rw [← hy] at e0 e1 e2 e3
      have HS : Hid (sameB a b = (x.same y && sameB (a.drop (k + 1)) (b.drop (k + 1)))) := by
        unfold Hid; rw [← hK.out]; exact sameB_step (by rw [hla.out]; exact hlt) (by rw [hlb.out]; exact hlt) hx.symm hy.symm
      clear hx hy hK
      have b0 : (0 : Int) ≤ (k : Int) := by omega
      have b1 : (k : Int) < (n : Int) := by omega
      cases d1 : x.same y with
      | false =>
        have hq := box_neq x.x0 x.y0 x.x1 x.y1 y.x0 y.y0 y.x1 y.y1 false d1
        have HD : Hid (x.same y = false) := d1
        clear d1
        go_wp2_with (fail)
        go_quiet (fail)
        go_wp2
        go_returns
        exact ⟨by rw [HS.out, HD.out]; rfl, m + nq, World.drewN_drewN _ _ _⟩
      | true =>
        have hq := box_neq x.x0 x.y0 x.x1 x.y1 y.x0 y.y0 y.x1 y.y1 true d1
        have HD : Hid (x.same y = true) := d1
        clear d1
        go_wp2_with (fail)
        go_quiet (fail)
        go_wp2
        go_roundw
        case rel => exact ⟨k + 1, m + nq, by omega, by go_num, rfl, by unfold Hid; rw [HS.out, HD.out]; rfl⟩
        case measure => simp [intOf]; omega
    · have e : Hid (sameB a b = true) := by
        unfold Hid
        rw [← hK.out, List.drop_eq_nil_of_le (by rw [hla.out]; omega), List.drop_eq_nil_of_le (by rw [hlb.out]; omega)]; rfl
      go_wp2
      go_returns
      exact ⟨by rw [e.out]; rfl, m, rfl⟩

theorem spec_same {w : World} {va vb : Value} {a b : List Bx} (hn : a.length ≤ 1099511627776) (ha : RB w va a) (hb : RB w vb b) :
    Calls Try.prog 88 #[va, vb] w fun e w' => e = .returned (.bool (sameB a b)) ∧ ∃ k, w' = w.drewN k := by
  by_cases hl : a.length = b.length
  · rcases Nat.eq_zero_or_pos a.length with h0 | hp
    · obtain rfl : a = [] := List.length_eq_zero_iff.1 h0
      obtain rfl : b = [] := List.length_eq_zero_iff.1 (by omega)
      obtain ⟨x, c, rfl⟩ := ha.form
      obtain ⟨y, d, rfl⟩ := hb.form
      exact spec_same_zero x y c d w
    · obtain ⟨g, o, c, rfl, _, hj⟩ := ha.pos hp
      obtain ⟨g', o', c', rfl, _, hj'⟩ := hb.pos (by omega)
      rw [← hl] at hj' ⊢
      exact spec_same_pos g o c g' o' c' _ a b w rfl hl.symm hn hj hj'
  · obtain ⟨x, c, rfl⟩ := ha.form
    obtain ⟨y, d, rfl⟩ := hb.form
    rw [sameB_len a b hl]
    exact spec_same_len x y _ _ c d w (by omega)

end Go.Proofs.Ytpfnhiohbgconaa
