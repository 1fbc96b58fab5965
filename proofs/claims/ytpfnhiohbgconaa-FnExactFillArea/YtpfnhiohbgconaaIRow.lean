/- Proved here: the program's four small functions on rows: the first row of a list, is it one, does it lie above another, does it go on with it. -/
import Derived.Test.YtpfnhiohbgconaaSSame
namespace Go.Proofs.Ytpfnhiohbgconaa
open Go.RowKit
set_option linter.unusedVariables false
set_option linter.unusedSimpArgs false

/-- How many boxes the first row has. -/
def rowN : List Bx → Nat
  | [] => 0
  | b :: t => (rowHead b t).length
theorem rowN_char {s : List Bx} {k : Nat} (h1 : 1 ≤ k) (h2 : k ≤ s.length) (h3 : ∀ j, 1 ≤ j → j < k → (bat s j).y0 = (bat s 0).y0) (h4 : k = s.length ∨ (bat s k).y0 ≠ (bat s 0).y0) : rowN s = k := by
  cases s with
  | nil => simp at h2; omega
  | cons b t =>
    have hall : ∀ q ∈ t.take (k - 1), (fun q : Bx => q.y0 == b.y0) q = true := by
      intro q hq
      obtain ⟨i, hi, rfl⟩ := List.getElem_of_mem hq
      simp only [List.length_take] at hi
      have := h3 (i + 1) (by omega) (by omega)
      simp only [bat, List.getD_cons_succ, List.getD_cons_zero] at this
      rw [List.getElem_take]
      have e : t.getD i ⟨0, 0, 0, 0⟩ = t[i] := by simp [show i < t.length by omega]
      rw [e] at this
      simpa using this
    have hrest : (t.drop (k - 1)).takeWhile (fun q => q.y0 == b.y0) = [] := by
      rcases h4 with h4 | h4
      · rw [List.drop_eq_nil_of_le (by simp at h4; omega)]; rfl
      · rcases Nat.lt_or_ge k (b :: t).length with hk | hk
        · simp only [List.length_cons] at hk
          have e : bat (b :: t) k = t[k - 1] := by
            rw [bat_get (by simp; omega)]
            cases k with
            | zero => omega
            | succ k => simp
          rw [e] at h4
          have h5 : (t[k - 1].y0 == b.y0) = false := by simpa [bat] using h4
          rw [List.drop_eq_getElem_cons (by omega), List.takeWhile_cons, if_neg (by rw [h5]; simp)]
        · rw [List.drop_eq_nil_of_le (by simp at hk; omega)]; rfl
    have ht : t.takeWhile (fun q => q.y0 == b.y0) = t.take (k - 1) := by
      conv => lhs; rw [← List.take_append_drop (k - 1) t]
      rw [List.takeWhile_append_of_pos hall, hrest, List.append_nil]
    simp only [rowN, rowHead, ht, List.length_cons, List.length_take]
    simp at h2
    omega
theorem rowN_take (b : Bx) (t : List Bx) : (b :: t).take (rowN (b :: t)) = rowHead b t ∧ (b :: t).drop (rowN (b :: t)) = t.dropWhile (fun q => q.y0 == b.y0) := by
  have e : b :: t = rowHead b t ++ t.dropWhile (fun q => q.y0 == b.y0) := by
    show b :: t = b :: (t.takeWhile (fun q => q.y0 == b.y0) ++ t.dropWhile (fun q => q.y0 == b.y0))
    rw [List.takeWhile_append_dropWhile]
  constructor
  · show (b :: t).take (rowHead b t).length = _
    conv => lhs; rw [e]
    exact List.take_left
  · show (b :: t).drop (rowHead b t).length = _
    conv => lhs; rw [e]
    exact List.drop_left
theorem rowN_le (s : List Bx) : rowN s ≤ s.length := by
  cases s with
  | nil => simp [rowN]
  | cons b t =>
    have := congrArg List.length (rowN_take b t).1
    simp only [List.length_take] at this
    show (rowHead b t).length ≤ _
    omega
theorem rowN_pos (s : List Bx) (h : 0 < s.length) : 1 ≤ rowN s := by
  cases s with
  | nil => simp at h
  | cons b t => simp [rowN, rowHead]

set_option maxHeartbeats 1600000 in
theorem impl_firstRow (g o c n : Nat) (s : List Bx) (w : World) (hl : Hid (s.length = n)) (hn : n ≤ 1099511627776) (hp : 0 < n) (hc : n ≤ c) (h : ∀ j, j < n → BAt w g (o + j * 4) (bat s j)) :
    Calls Try.prog 118 #[.slice (some ⟨g, o, none⟩) n c] w fun e w' => e = .returned (.slice (some ⟨g, o, none⟩) (rowN s) (rowN s)) ∧ ∃ m, w' = w.drewN m := by
  have H : Hid _ := h
  clear h
  obtain ⟨_, f1, _, _⟩ := H.out 0 hp
  simp only [Nat.zero_mul, Nat.add_zero] at f1
  obtain ⟨y, hy⟩ : ∃ y, y = (bat s 0).y0 := ⟨_, rfl⟩
  rw [← hy] at f1
  have HY : Hid (y = (bat s 0).y0) := hy
  clear hy
  go_enter Try.func118, Try.ntmps118
  go_wp2
  go_loopw [3] (fun i wr => ∃ k m : Nat, 1 ≤ k ∧ k ≤ n ∧ i = .int .i64 k ∧ wr = w.drewN m ∧ Hid (∀ j, 1 ≤ j → j < k → (bat s j).y0 = (bat s 0).y0)) (fun i _ => n - (intOf i).toNat)
  case atStart => exact ⟨1, 0, Nat.le_refl _, hp, rfl, rfl, fun j h1 h2 => by omega⟩
  case round =>
    obtain ⟨k, m, hk1, hk, rfl, rfl, hK⟩ := hrel
    by_cases hlt : k < n
    · obtain ⟨_, c1, _, _⟩ := H.out k hlt
      obtain ⟨z, hz⟩ : ∃ z, z = (bat s k).y0 := ⟨_, rfl⟩
      rw [← hz] at c1
      have HZ : Hid (z = (bat s k).y0) := hz
      clear hz
      have b0 : (0 : Int) ≤ (k : Int) := by omega
      have b1 : (k : Int) < (n : Int) := by omega
      have b2 : (0 : Int) < (n : Int) := by omega
      cases d1 : z == y with
      | true =>
        have HK2 : Hid (∀ j, 1 ≤ j → j < k + 1 → (bat s j).y0 = (bat s 0).y0) := by
          intro j h1 h2
          rcases Nat.lt_or_ge j k with h3 | h3
          · exact hK.out j h1 h3
          · obtain rfl : j = k := by omega
            rw [← HZ.out, ← HY.out]; simpa using d1
        go_wp2_with (fail)
        go_quiet (fail)
        go_wp2
        go_roundw
        case rel => exact ⟨k + 1, m + nq, by omega, by omega, by go_num, rfl, HK2.out⟩
        case measure => simp [intOf]; omega
      | false =>
        have HN : Hid (rowN s = k) := rowN_char hk1 (by rw [hl.out]; omega) hK.out (Or.inr (by rw [← HZ.out, ← HY.out]; simpa using d1))
        have b3 : k ≤ c := by omega
        have b4 : (k : Int) ≤ (c : Int) := by omega
        go_wp2_with (fail)
        go_quiet (fail)
        go_wp2
        go_returns
        exact ⟨by rw [HN.out]; rfl, m + nq, rfl⟩
    · have HN : Hid (rowN s = k) := rowN_char hk1 (by rw [hl.out]; omega) hK.out (Or.inl (by rw [hl.out]; omega))
      have b3 : k ≤ c := by omega
      have b4 : (k : Int) ≤ (c : Int) := by omega
      go_wp2_with (fail)
      go_quiet (fail)
      go_wp2
      go_returns
      exact ⟨by rw [HN.out]; rfl, m + nq, rfl⟩

/-- The rest of the test of a row, from place k on. -/
def rowRest (s : List Bx) (k : Nat) : Bool := isRowK (bat s 0).y1 (bat s (k - 1)) (s.drop k)
theorem rowRest_one (b : Bx) (t : List Bx) : rowRest (b :: t) 1 = isRowK b.y1 b t := rfl
theorem rowRest_step {s : List Bx} {k : Nat} (h1 : 1 ≤ k) (h : k < s.length) : rowRest s k = (((bat s k).y1 == (bat s 0).y1) && (decide ((bat s (k - 1)).x1 < (bat s k).x0) && rowRest s (k + 1))) := by
  unfold rowRest; rw [drop_bat h]; rfl
theorem rowRest_end {s : List Bx} {k : Nat} (h : s.length ≤ k) : rowRest s k = true := by
  unfold rowRest; rw [List.drop_eq_nil_of_le h]; rfl

set_option maxHeartbeats 1600000 in
theorem impl_isRow (g o c n : Nat) (s : List Bx) (w : World) (hl : Hid (s.length = n)) (hn : n ≤ 1099511627776) (hp : 0 < n) (h : ∀ j, j < n → BAt w g (o + j * 4) (bat s j)) :
    Calls Try.prog 119 #[.slice (some ⟨g, o, none⟩) n c] w fun e w' => e = .returned (.bool (rowRest s 1)) ∧ ∃ m, w' = w.drewN m := by
  have H : Hid _ := h
  clear h
  obtain ⟨_, _, _, f3⟩ := H.out 0 hp
  simp only [Nat.zero_mul, Nat.add_zero] at f3
  obtain ⟨y, hy⟩ : ∃ y, y = (bat s 0).y1 := ⟨_, rfl⟩
  rw [← hy] at f3
  have HY : Hid (y = (bat s 0).y1) := hy
  clear hy
  go_enter Try.func119, Try.ntmps119
  go_wp2
  go_loopw [3] (fun i wr => ∃ k m : Nat, 1 ≤ k ∧ k ≤ n ∧ i = .int .i64 k ∧ wr = w.drewN m ∧ Hid (rowRest s k = rowRest s 1)) (fun i _ => n - (intOf i).toNat)
  case atStart => exact ⟨1, 0, Nat.le_refl _, hp, rfl, rfl, rfl⟩
  case round =>
    obtain ⟨k, m, hk1, hk, rfl, rfl, hK⟩ := hrel
    by_cases hlt : k < n
    · obtain ⟨c0, _, _, c3⟩ := H.out k hlt
      obtain ⟨_, _, p2, _⟩ := H.out (k - 1) (by omega)
      obtain ⟨z, hz⟩ : ∃ z, z = (bat s k).y1 := ⟨_, rfl⟩
      obtain ⟨x, hx⟩ : ∃ x, x = (bat s k).x0 := ⟨_, rfl⟩
      obtain ⟨p, hpx⟩ : ∃ p, p = (bat s (k - 1)).x1 := ⟨_, rfl⟩
      rw [← hz] at c3
      rw [← hx] at c0
      rw [← hpx] at p2
      have HS : Hid (rowRest s 1 = ((z == y) && (decide (p < x) && rowRest s (k + 1)))) := by
        unfold Hid; rw [← hK.out, rowRest_step hk1 (by rw [hl.out]; exact hlt), hz, hx, hpx, HY.out]
      clear hz hx hpx hK
      have b0 : (0 : Int) ≤ (k : Int) := by omega
      have b1 : (k : Int) < (n : Int) := by omega
      have b2 : (0 : Int) < (n : Int) := by omega
      have b3 : (0 : Int) ≤ (k : Int) - 1 := by omega
      have b4 : (k : Int) - 1 < (n : Int) := by omega
      have b5 : ((k : Int) - 1).toNat = k - 1 := by omega
      cases d1 : z != y with
      | true =>
        have q1 : Hid ((z == y) = false) := by unfold Hid; simpa using d1
        go_wp2_with (fail)
        go_quiet (fail)
        go_wp2
        go_returns
        exact ⟨by rw [HS.out, q1.out]; rfl, m + nq, World.drewN_drewN _ _ _⟩
      | false =>
        have q1 : Hid ((z == y) = true) := by unfold Hid; simpa using d1
        by_cases d2 : p < x
        · have q2 : Hid (decide (p < x) = true) := by unfold Hid; simpa using d2
          have d3 : decide (x ≤ p) = false := by simp; omega
          go_wp2_with (fail)
          go_quiet (fail)
          go_wp2
          go_roundw
          case rel => exact ⟨k + 1, m + nq, by omega, by omega, by go_num, rfl, by unfold Hid; rw [HS.out, q1.out, q2.out]; rfl⟩
          case measure => simp [intOf]; omega
        · have q2 : Hid (decide (p < x) = false) := by unfold Hid; simpa using d2
          have d3 : decide (x ≤ p) = true := by simp; omega
          go_wp2_with (fail)
          go_quiet (fail)
          go_wp2
          go_returns
          exact ⟨by rw [HS.out, q1.out, q2.out]; rfl, m + nq, World.drewN_drewN _ _ _⟩
    · have e : Hid (rowRest s 1 = true) := by unfold Hid; rw [← hK.out]; exact rowRest_end (by rw [hl.out]; omega)
      go_wp2
      go_returns
      exact ⟨by rw [e.out]; rfl, m, rfl⟩

set_option maxHeartbeats 1600000 in
theorem impl_lies_zero (v : Value) (a : Option Addr) (c : Nat) (w : World) :
    Calls Try.prog 120 #[v, .slice a 0 c] w fun e w' => e = .returned (.bool true) ∧ ∃ m, w' = w.drewN m := by
  go_enter Try.func120, Try.ntmps120
  go_wp2_with (fail)
  go_quiet (fail)
  go_wp2
  go_returns
  exact ⟨rfl, nq, rfl⟩

set_option maxHeartbeats 1600000 in
theorem impl_lies_pos (g o c n g' o' c' n' : Nat) (y z : Int) (w : World) (hn : (0 : Int) < (n : Int)) (hn' : (0 : Int) < (n' : Int)) (h : w.cell? ⟨g, o + 1, none⟩ = some (.int .i64 y)) (h' : w.cell? ⟨g', o' + 3, none⟩ = some (.int .i64 z)) :
    Calls Try.prog 120 #[.slice (some ⟨g, o, none⟩) n c, .slice (some ⟨g', o', none⟩) n' c'] w fun e w' => e = .returned (.bool (decide (z ≤ y))) ∧ ∃ m, w' = w.drewN m := by
  have d1 : ((n' : Int) == 0) = false := by simp; omega
  have d2 : ¬ n' = 0 := by omega
  go_enter Try.func120, Try.ntmps120
  go_wp2_with (fail)
  go_quiet (fail)
  go_wp2
  go_returns
  exact ⟨rfl, nq, rfl⟩

theorem impl_lies {w : World} {va vb : Value} {row below : List Bx} (ha : RB w va row) (hb : RB w vb below) (hp : 0 < row.length) :
    Calls Try.prog 120 #[va, vb] w fun e w' => e = .returned (.bool (liesOverK row below)) ∧ ∃ m, w' = w.drewN m := by
  rcases Nat.eq_zero_or_pos below.length with h0 | hq
  · obtain rfl : below = [] := List.length_eq_zero_iff.1 h0
    obtain ⟨a, c, rfl⟩ := hb.form
    exact impl_lies_zero va a c w
  · obtain ⟨g, o, c, rfl, _, hj⟩ := ha.pos hp
    obtain ⟨g', o', c', rfl, _, hj'⟩ := hb.pos hq
    have h1 := (hj 0 hp).y0
    have h2 := (hj' 0 hq).y1
    simp only [Nat.zero_mul, Nat.add_zero] at h1 h2
    have e : liesOverK row below = decide ((bat below 0).y1 ≤ (bat row 0).y0) := by
      unfold liesOverK
      cases below with
      | nil => simp at hq
      | cons u l => cases row with
        | nil => simp at hp
        | cons x t => rfl
    rw [e]
    exact impl_lies_pos g o c _ g' o' c' _ _ _ w (by omega) (by omega) h1 h2

theorem goesOnK_len : ∀ (a b : List Bx), a.length ≠ b.length → goesOnK a b = false := by
  intro a
  induction a with
  | nil => intro b h; cases b with
    | nil => simp at h
    | cons x t => rfl
  | cons x t ih => intro b h; cases b with
    | nil => rfl
    | cons y u => simp only [goesOnK]; rw [ih u (by simpa using h)]; simp
theorem goesOnK_step {a b : List Bx} {k : Nat} {x y : Bx} (ha : k < a.length) (hb : k < b.length) (hx : bat a k = x) (hy : bat b k = y) : goesOnK (a.drop k) (b.drop k) = (x.same ⟨y.x0, y.y1, y.x1, x.y1⟩ && goesOnK (a.drop (k + 1)) (b.drop (k + 1))) := by
  rw [drop_bat ha, drop_bat hb, hx, hy]; rfl

set_option maxHeartbeats 800000 in
theorem impl_goesOn_len (a b : Option Addr) (n m c d : Nat) (w : World) (h : ¬ (n : Int) = (m : Int)) :
    Calls Try.prog 121 #[.slice a n c, .slice b m d] w fun e w' => e = .returned (.bool false) ∧ Below w.heap.size w w' := by
  go_enter Try.func121, Try.ntmps121
  go_wp2
  go_returns
  exact ⟨rfl, Below.refl _ _⟩

set_option maxHeartbeats 800000 in
theorem impl_goesOn_zero (a b : Option Addr) (c d : Nat) (w : World) :
    Calls Try.prog 121 #[.slice a 0 c, .slice b 0 d] w fun e w' => e = .returned (.bool true) ∧ Below w.heap.size w w' := by
  go_enter Try.func121, Try.ntmps121
  go_wp2
  refine wp_loop_rounds 1 ?_
  rw [rounds_succ]
  go_wp2
  go_returns
  exact ⟨rfl, Below.refl _ _⟩

set_option maxHeartbeats 1600000 in
theorem impl_goesOn_pos (g o c g' o' c' n : Nat) (a b : List Bx) (w : World) (hla : Hid (a.length = n)) (hlb : Hid (b.length = n)) (hn : n ≤ 1099511627776) (hg : g < w.heap.size) (hg' : g' < w.heap.size) (h : ∀ j, j < n → BAt w g (o + j * 4) (bat a j)) (h' : ∀ j, j < n → BAt w g' (o' + j * 4) (bat b j)) :
    Calls Try.prog 121 #[.slice (some ⟨g, o, none⟩) n c, .slice (some ⟨g', o', none⟩) n c'] w fun e w' => e = .returned (.bool (goesOnK a b)) ∧ Below w.heap.size w w' := by
  have H : Hid _ := h
  have H' : Hid _ := h'
  clear h h'
  have hgd := box_guard
  go_enter Try.func121, Try.ntmps121
  go_wp2
  go_loopw [15] (fun i wr => ∃ k : Nat, k ≤ n ∧ i = .int .i64 k ∧ Hid (goesOnK (a.drop k) (b.drop k) = goesOnK a b ∧ Below w.heap.size w wr)) (fun i _ => n - (intOf i).toNat)
  case atStart => exact ⟨0, Nat.zero_le _, rfl, rfl, Below.refl _ _⟩
  case round =>
    obtain ⟨k, hk, rfl, hR⟩ := hrel
    by_cases hlt : k < n
    · obtain ⟨c0, c1, c2, c3⟩ := (H.out k hlt).below hg hR.out.2
      obtain ⟨e0, e1, e2, e3⟩ := (H'.out k hlt).below hg' hR.out.2
      obtain ⟨x, hx⟩ : ∃ x, x = bat a k := ⟨_, rfl⟩
      obtain ⟨y, hy⟩ : ∃ y, y = bat b k := ⟨_, rfl⟩
      rw [← hx] at c0 c1 c2 c3
      rw [← hy] at e0 e1 e2 e3
      have HS : Hid (goesOnK a b = (x.same ⟨y.x0, y.y1, y.x1, x.y1⟩ && goesOnK (a.drop (k + 1)) (b.drop (k + 1)))) := by
        unfold Hid; rw [← hR.out.1]; exact goesOnK_step (by rw [hla.out]; exact hlt) (by rw [hlb.out]; exact hlt) hx.symm hy.symm
      have hbl := hR.out.2
      have hsz := hbl.size
      have hgr : g < wr.heap.size := by omega
      have hgr' : g' < wr.heap.size := by omega
      have HBL : Hid (Below w.heap.size w wr) := hbl
      clear hx hy hR hbl
      have b0 : (0 : Int) ≤ (k : Int) := by omega
      have b1 : (k : Int) < (n : Int) := by omega
      cases d1 : x.same ⟨y.x0, y.y1, y.x1, x.y1⟩ with
      | false =>
        have hq := box_neq x.x0 x.y0 x.x1 x.y1 y.x0 y.y1 y.x1 x.y1 false d1
        have HD : Hid (x.same ⟨y.x0, y.y1, y.x1, x.y1⟩ = false) := d1
        clear d1
        go_wp2
        go_returns
        refine ⟨by rw [HS.out, HD.out]; rfl, ?_⟩
        have hbl := HBL.out
        (repeat' (first | (with_reducible exact Below.refl _ _) | (with_reducible assumption) | (with_reducible refine Below.setCell ?_ ?_ _) | (with_reducible refine Below.alloc ?_ ?_ _) | (with_reducible refine below_drewN ?_ _) | (with_reducible refine Below.drew ?_) | (with_reducible exact Nat.le_refl _) | omega | (simp; done) | (simp; omega)))
      | true =>
        have hq := box_neq x.x0 x.y0 x.x1 x.y1 y.x0 y.y1 y.x1 x.y1 true d1
        have HD : Hid (x.same ⟨y.x0, y.y1, y.x1, x.y1⟩ = true) := d1
        clear d1
        go_wp2
        go_roundw
        case rel =>
          have hbl := HBL.out
          exact ⟨k + 1, by omega, by go_num, by rw [HS.out, HD.out]; rfl, by (repeat' (first | (with_reducible exact Below.refl _ _) | (with_reducible assumption) | (with_reducible refine Below.setCell ?_ ?_ _) | (with_reducible refine Below.alloc ?_ ?_ _) | (with_reducible refine below_drewN ?_ _) | (with_reducible refine Below.drew ?_) | (with_reducible exact Nat.le_refl _) | omega | (simp; done) | (simp; omega)))⟩
        case measure => simp [intOf]; omega
    · have e : Hid (goesOnK a b = true) := by
        unfold Hid
        rw [← hR.out.1, List.drop_eq_nil_of_le (by rw [hla.out]; omega), List.drop_eq_nil_of_le (by rw [hlb.out]; omega)]; rfl
      go_wp2
      go_returns
      exact ⟨by rw [e.out]; rfl, hR.out.2⟩

theorem impl_goesOn {w : World} {va vb : Value} {a b : List Bx} (hn : a.length ≤ 1099511627776) (ha : RB w va a) (hb : RB w vb b) :
    Calls Try.prog 121 #[va, vb] w fun e w' => e = .returned (.bool (goesOnK a b)) ∧ Below w.heap.size w w' := by
  by_cases hl : a.length = b.length
  · rcases Nat.eq_zero_or_pos a.length with h0 | hp
    · obtain rfl : a = [] := List.length_eq_zero_iff.1 h0
      obtain rfl : b = [] := List.length_eq_zero_iff.1 (by omega)
      obtain ⟨x, c, rfl⟩ := ha.form
      obtain ⟨y, d, rfl⟩ := hb.form
      exact impl_goesOn_zero x y c d w
    · obtain ⟨g, o, c, rfl, hg, hj⟩ := ha.pos hp
      obtain ⟨g', o', c', rfl, hg', hj'⟩ := hb.pos (by omega)
      rw [← hl] at hj' ⊢
      exact impl_goesOn_pos g o c g' o' c' _ a b w rfl hl.symm hn hg hg' hj hj'
  · obtain ⟨x, c, rfl⟩ := ha.form
    obtain ⟨y, d, rfl⟩ := hb.form
    rw [goesOnK_len a b hl]
    exact impl_goesOn_len x y _ _ c d w (by omega)

end Go.Proofs.Ytpfnhiohbgconaa
