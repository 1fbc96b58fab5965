/- Proved here: RulesFault of the program and of the model: one code, rulesK. A rule is four numbers: x0 its Kind, y0 its A, x1 its B, y1 its Size. -/
import Derived.Test.YtokdpgabmifdjaaBoxBase
namespace Go.Proofs.Ytokdpgabmifdjaa
open Go.RowKit
set_option linter.unusedVariables false
set_option linter.unusedSimpArgs false

def badR (r : Bx) (L : Int) : Prop := ¬ (1 ≤ r.x0 ∧ r.x0 ≤ 5) ∨ r.y0 < 0 ∨ L ≤ r.y0 ∨ ((r.x0 = 3 ∨ r.x0 = 4) ∧ (r.x1 < 0 ∨ L ≤ r.x1))
def badB (r : Bx) (L : Int) : Bool := decide (¬ (1 ≤ r.x0 ∧ r.x0 ≤ 5) ∨ r.y0 < 0 ∨ L ≤ r.y0 ∨ ((r.x0 = 3 ∨ r.x0 = 4) ∧ (r.x1 < 0 ∨ L ≤ r.x1)))
theorem bad_iff {r : Bx} {L : Int} : badB r L = true ↔ badR r L := by unfold badB badR; exact decide_eq_true_iff
def ruleK (r : Bx) (L : Int) : Int := if badB r L = true then 1 else if 1 ≤ r.y1 ∧ r.y1 ≤ 1000 then 0 else 3
def firstR (L : Int) : List Bx → Int
  | [] => 0
  | r :: t => if ruleK r L = 0 then firstR L t else ruleK r L
def rulesK (s : List Bx) (L : Int) : Int := if 30 < s.length then 2 else firstR L s

set_option maxHeartbeats 800000 in
theorem impl_withinR (n a b : Int) (r : Bool) (hr : r = (decide (a ≤ n) && decide (n ≤ b))) (w : World) : Calls Try.prog 81 #[.int .i64 n, .int .i64 a, .int .i64 b] w fun e w' => e = .returned (.bool r) ∧ w' = w := by
  have H : Hid ((¬ a ≤ n → r = false) ∧ (a ≤ n → n ≤ b → r = true) ∧ (a ≤ n → ¬ n ≤ b → r = false)) := by
    unfold Hid; rw [hr]
    exact ⟨fun h => by simp [h], fun h1 h2 => by simp [h1, h2], fun h1 h2 => by simp [h1, h2]⟩
  clear hr
  by_cases h1 : a ≤ n
  · by_cases h2 : n ≤ b
    · obtain rfl := H.out.2.1 h1 h2
      go_enter Try.func81, Try.ntmps81
      go_wp2
      go_returns
      exact ⟨rfl, rfl⟩
    · obtain rfl := H.out.2.2 h1 h2
      go_enter Try.func81, Try.ntmps81
      go_wp2
      go_returns
      exact ⟨rfl, rfl⟩
  · obtain rfl := H.out.1 h1
    go_enter Try.func81, Try.ntmps81
    go_wp2
    go_returns
    exact ⟨rfl, rfl⟩
set_option maxHeartbeats 800000 in
theorem spec_withinR (n a b : Int) (r : Bool) (hr : r = (decide (a ≤ n) && decide (n ≤ b))) (w : World) : Calls Try.prog 52 #[.int .i64 n, .int .i64 a, .int .i64 b] w fun e w' => e = .returned (.bool r) ∧ w' = w := by
  have H : Hid ((¬ a ≤ n → r = false) ∧ (a ≤ n → n ≤ b → r = true) ∧ (a ≤ n → ¬ n ≤ b → r = false)) := by
    unfold Hid; rw [hr]
    exact ⟨fun h => by simp [h], fun h1 h2 => by simp [h1, h2], fun h1 h2 => by simp [h1, h2]⟩
  clear hr
  by_cases h1 : a ≤ n
  · by_cases h2 : n ≤ b
    · obtain rfl := H.out.2.1 h1 h2
      go_enter Try.func52, Try.ntmps52
      go_wp2
      go_returns
      exact ⟨rfl, rfl⟩
    · obtain rfl := H.out.2.2 h1 h2
      go_enter Try.func52, Try.ntmps52
      go_wp2
      go_returns
      exact ⟨rfl, rfl⟩
  · obtain rfl := H.out.1 h1
    go_enter Try.func52, Try.ntmps52
    go_wp2
    go_returns
    exact ⟨rfl, rfl⟩

theorem store_fn (a : Addr) (f : FuncId) (w : World) : (store a (.func (.func f) #[] #[]) .plain).run Try.prog w = stored Try.prog w a (.func (.func f) #[] #[]) .plain := run_store Try.prog w a _ _ rfl

theorem store_nf (a : Addr) (w : World) : (store a .nilFunc .plain).run Try.prog w = stored Try.prog w a .nilFunc .plain := run_store Try.prog w a _ _ rfl

set_option maxRecDepth 10000 in
set_option maxHeartbeats 3200000 in
theorem impl_kinds (w : World) : Calls Try.prog 100 #[] w fun e w' => e = .returned (.agg #[.int .i64 1, .bool false, .func (.func 107) #[] #[], .int .i64 2, .bool false, .func (.func 109) #[] #[], .int .i64 3, .bool true, .func (.func 111) #[] #[], .int .i64 4, .bool true, .func (.func 112) #[] #[], .int .i64 5, .bool false, .func (.func 113) #[] #[]]) ∧ Below w.heap.size w w' := by
  have hst := store_fn
  go_enter Try.func100, Try.ntmps100
  go_wp2
  go_returns
  exact ⟨rfl, by (repeat' (first | (with_reducible exact Below.refl _ _) | (with_reducible assumption) | (with_reducible refine Below.setCell ?_ ?_ _) | (with_reducible refine Below.alloc ?_ ?_ _) | (with_reducible refine below_drewN ?_ _) | (with_reducible refine Below.drew ?_) | (with_reducible exact Nat.le_refl _) | omega | (simp; done) | (simp; omega)))⟩

theorem kind_at1 (w : World) : (Instr.index 106 (.agg #[.int .i64 1, .bool false, .func (.func 107) #[] #[], .int .i64 2, .bool false, .func (.func 109) #[] #[], .int .i64 3, .bool true, .func (.func 111) #[] #[], .int .i64 4, .bool true, .func (.func 112) #[] #[], .int .i64 5, .bool false, .func (.func 113) #[] #[]]) (.int .i64 0)).run Try.prog w = .ok (.agg #[.int .i64 1, .bool false, .func (.func 107) #[] #[]]) w := by kernel_rfl
theorem kind_at2 (w : World) : (Instr.index 106 (.agg #[.int .i64 1, .bool false, .func (.func 107) #[] #[], .int .i64 2, .bool false, .func (.func 109) #[] #[], .int .i64 3, .bool true, .func (.func 111) #[] #[], .int .i64 4, .bool true, .func (.func 112) #[] #[], .int .i64 5, .bool false, .func (.func 113) #[] #[]]) (.int .i64 1)).run Try.prog w = .ok (.agg #[.int .i64 2, .bool false, .func (.func 109) #[] #[]]) w := by kernel_rfl
theorem kind_at3 (w : World) : (Instr.index 106 (.agg #[.int .i64 1, .bool false, .func (.func 107) #[] #[], .int .i64 2, .bool false, .func (.func 109) #[] #[], .int .i64 3, .bool true, .func (.func 111) #[] #[], .int .i64 4, .bool true, .func (.func 112) #[] #[], .int .i64 5, .bool false, .func (.func 113) #[] #[]]) (.int .i64 2)).run Try.prog w = .ok (.agg #[.int .i64 3, .bool true, .func (.func 111) #[] #[]]) w := by kernel_rfl
theorem kind_at4 (w : World) : (Instr.index 106 (.agg #[.int .i64 1, .bool false, .func (.func 107) #[] #[], .int .i64 2, .bool false, .func (.func 109) #[] #[], .int .i64 3, .bool true, .func (.func 111) #[] #[], .int .i64 4, .bool true, .func (.func 112) #[] #[], .int .i64 5, .bool false, .func (.func 113) #[] #[]]) (.int .i64 3)).run Try.prog w = .ok (.agg #[.int .i64 4, .bool true, .func (.func 112) #[] #[]]) w := by kernel_rfl
theorem kind_at5 (w : World) : (Instr.index 106 (.agg #[.int .i64 1, .bool false, .func (.func 107) #[] #[], .int .i64 2, .bool false, .func (.func 109) #[] #[], .int .i64 3, .bool true, .func (.func 111) #[] #[], .int .i64 4, .bool true, .func (.func 112) #[] #[], .int .i64 5, .bool false, .func (.func 113) #[] #[]]) (.int .i64 4)).run Try.prog w = .ok (.agg #[.int .i64 5, .bool false, .func (.func 113) #[] #[]]) w := by kernel_rfl

theorem resR {w w1 : World} {o : Obj} (hb : Below (w.alloc o).heap.size (w.alloc o) w1) : w1.heap[w.heap.size]? = some o ∧ w.heap.size < w1.heap.size ∧ Below w.heap.size w w1 := by
  have h1 := hb.size
  simp at h1
  refine ⟨(hb.block _ (by simp)).trans (heap_alloc_new w o), by omega, ?_⟩
  exact ((Below.refl _ _).alloc (Nat.le_refl _) _).trans (hb.mono (by simp))
theorem cells3 {w : World} {k : Nat} {a b c : Value} {t : TypeId} (h : w.heap[k]? = some (.cells #[a, b, c] t)) : w.cell? ⟨k, 0, none⟩ = some a ∧ w.cell? ⟨k, 1, none⟩ = some b ∧ w.cell? ⟨k, 2, none⟩ = some c ∧ w.frozen? ⟨k, 0, none⟩ = false ∧ w.frozen? ⟨k, 1, none⟩ = false ∧ w.frozen? ⟨k, 2, none⟩ = false := by
  refine ⟨by simp [World.cell?, h], by simp [World.cell?, h], by simp [World.cell?, h], by simp [World.frozen?, h], by simp [World.frozen?, h], by simp [World.frozen?, h]⟩

set_option maxRecDepth 10000 in
set_option maxHeartbeats 6400000 in
theorem impl_kind1 (w : World) : Calls Try.prog 80 #[.int .i64 1] w fun e w' => e = .returned (.tuple #[.agg #[.int .i64 1, .bool false, .func (.func 107) #[] #[]], .bool true]) ∧ Below w.heap.size w w' := by
  have hst := store_fn
  have k1 := kind_at1
  have k2 := kind_at2
  have k3 := kind_at3
  have k4 := kind_at4
  have k5 := kind_at5
  go_enter Try.func80, Try.ntmps80
  go_wp2_with (fail)
  refine (impl_kinds _).mono ?_
  rintro e w1 ⟨rfl, hb1⟩
  obtain ⟨hk1, hlt1, hB1⟩ := resR hb1
  obtain ⟨r0, r1, r2, f0, f1, f2⟩ := cells3 hk1
  have s1 : w.heap.size < w1.heap.size + 1 := by omega
  have s2 : w.heap.size < w1.heap.size + 1 + 1 := by omega
  have s3 : w.heap.size < w1.heap.size + 1 + 1 + 1 := by omega
  have s4 : w.heap.size < w1.heap.size + 1 + 1 + 1 + 1 := by omega
  have s5 : w.heap.size < w1.heap.size + 1 + 1 + 1 + 1 + 1 := by omega
  have HB1 : Hid (Below w.heap.size w w1) := hB1
  clear hb1 hk1 hB1
  go_wp2
  refine wp_loop_rounds 1 ?_
  rw [rounds_succ]
  go_wp2
  refine bodyPost_ret (by simp [results, Try.results80, go_sem, r0, r1, r2, hlt1, s1, s2, s3, s4, s5] <;> rfl) rfl ⟨rfl, ?_⟩
  have hb := HB1.out
  (repeat' (first | (with_reducible exact Below.refl _ _) | (with_reducible assumption) | (with_reducible refine Below.setCell ?_ ?_ _) | (with_reducible refine Below.alloc ?_ ?_ _) | (with_reducible refine below_drewN ?_ _) | (with_reducible refine Below.drew ?_) | (with_reducible exact Nat.le_refl _) | omega | (simp; done) | (simp; omega)))

set_option maxRecDepth 10000 in
set_option maxHeartbeats 6400000 in
theorem impl_kind2 (w : World) : Calls Try.prog 80 #[.int .i64 2] w fun e w' => e = .returned (.tuple #[.agg #[.int .i64 2, .bool false, .func (.func 109) #[] #[]], .bool true]) ∧ Below w.heap.size w w' := by
  have hst := store_fn
  have k1 := kind_at1
  have k2 := kind_at2
  have k3 := kind_at3
  have k4 := kind_at4
  have k5 := kind_at5
  go_enter Try.func80, Try.ntmps80
  go_wp2_with (fail)
  refine (impl_kinds _).mono ?_
  rintro e w1 ⟨rfl, hb1⟩
  obtain ⟨hk1, hlt1, hB1⟩ := resR hb1
  obtain ⟨r0, r1, r2, f0, f1, f2⟩ := cells3 hk1
  have s1 : w.heap.size < w1.heap.size + 1 := by omega
  have s2 : w.heap.size < w1.heap.size + 1 + 1 := by omega
  have s3 : w.heap.size < w1.heap.size + 1 + 1 + 1 := by omega
  have s4 : w.heap.size < w1.heap.size + 1 + 1 + 1 + 1 := by omega
  have s5 : w.heap.size < w1.heap.size + 1 + 1 + 1 + 1 + 1 := by omega
  have HB1 : Hid (Below w.heap.size w w1) := hB1
  clear hb1 hk1 hB1
  go_wp2
  refine wp_loop_rounds 2 ?_
  rw [rounds_succ]
  go_wp2
  rw [rounds_succ]
  go_wp2
  refine bodyPost_ret (by simp [results, Try.results80, go_sem, r0, r1, r2, hlt1, s1, s2, s3, s4, s5] <;> rfl) rfl ⟨rfl, ?_⟩
  have hb := HB1.out
  (repeat' (first | (with_reducible exact Below.refl _ _) | (with_reducible assumption) | (with_reducible refine Below.setCell ?_ ?_ _) | (with_reducible refine Below.alloc ?_ ?_ _) | (with_reducible refine below_drewN ?_ _) | (with_reducible refine Below.drew ?_) | (with_reducible exact Nat.le_refl _) | omega | (simp; done) | (simp; omega)))

set_option maxRecDepth 10000 in
set_option maxHeartbeats 6400000 in
theorem impl_kind3 (w : World) : Calls Try.prog 80 #[.int .i64 3] w fun e w' => e = .returned (.tuple #[.agg #[.int .i64 3, .bool true, .func (.func 111) #[] #[]], .bool true]) ∧ Below w.heap.size w w' := by
  have hst := store_fn
  have k1 := kind_at1
  have k2 := kind_at2
  have k3 := kind_at3
  have k4 := kind_at4
  have k5 := kind_at5
  go_enter Try.func80, Try.ntmps80
  go_wp2_with (fail)
  refine (impl_kinds _).mono ?_
  rintro e w1 ⟨rfl, hb1⟩
  obtain ⟨hk1, hlt1, hB1⟩ := resR hb1
  obtain ⟨r0, r1, r2, f0, f1, f2⟩ := cells3 hk1
  have s1 : w.heap.size < w1.heap.size + 1 := by omega
  have s2 : w.heap.size < w1.heap.size + 1 + 1 := by omega
  have s3 : w.heap.size < w1.heap.size + 1 + 1 + 1 := by omega
  have s4 : w.heap.size < w1.heap.size + 1 + 1 + 1 + 1 := by omega
  have s5 : w.heap.size < w1.heap.size + 1 + 1 + 1 + 1 + 1 := by omega
  have HB1 : Hid (Below w.heap.size w w1) := hB1
  clear hb1 hk1 hB1
  go_wp2
  refine wp_loop_rounds 3 ?_
  rw [rounds_succ]
  go_wp2
  rw [rounds_succ]
  go_wp2
  rw [rounds_succ]
  go_wp2
  refine bodyPost_ret (by simp [results, Try.results80, go_sem, r0, r1, r2, hlt1, s1, s2, s3, s4, s5] <;> rfl) rfl ⟨rfl, ?_⟩
  have hb := HB1.out
  (repeat' (first | (with_reducible exact Below.refl _ _) | (with_reducible assumption) | (with_reducible refine Below.setCell ?_ ?_ _) | (with_reducible refine Below.alloc ?_ ?_ _) | (with_reducible refine below_drewN ?_ _) | (with_reducible refine Below.drew ?_) | (with_reducible exact Nat.le_refl _) | omega | (simp; done) | (simp; omega)))

set_option maxRecDepth 10000 in
set_option maxHeartbeats 6400000 in
theorem impl_kind4 (w : World) : Calls Try.prog 80 #[.int .i64 4] w fun e w' => e = .returned (.tuple #[.agg #[.int .i64 4, .bool true, .func (.func 112) #[] #[]], .bool true]) ∧ Below w.heap.size w w' := by
  have hst := store_fn
  have k1 := kind_at1
  have k2 := kind_at2
  have k3 := kind_at3
  have k4 := kind_at4
  have k5 := kind_at5
  go_enter Try.func80, Try.ntmps80
  go_wp2_with (fail)
  refine (impl_kinds _).mono ?_
  rintro e w1 ⟨rfl, hb1⟩
  obtain ⟨hk1, hlt1, hB1⟩ := resR hb1
  obtain ⟨r0, r1, r2, f0, f1, f2⟩ := cells3 hk1
  have s1 : w.heap.size < w1.heap.size + 1 := by omega
  have s2 : w.heap.size < w1.heap.size + 1 + 1 := by omega
  have s3 : w.heap.size < w1.heap.size + 1 + 1 + 1 := by omega
  have s4 : w.heap.size < w1.heap.size + 1 + 1 + 1 + 1 := by omega
  have s5 : w.heap.size < w1.heap.size + 1 + 1 + 1 + 1 + 1 := by omega
  have HB1 : Hid (Below w.heap.size w w1) := hB1
  clear hb1 hk1 hB1
  go_wp2
  refine wp_loop_rounds 4 ?_
  rw [rounds_succ]
  go_wp2
  rw [rounds_succ]
  go_wp2
  rw [rounds_succ]
  go_wp2
  rw [rounds_succ]
  go_wp2
  refine bodyPost_ret (by simp [results, Try.results80, go_sem, r0, r1, r2, hlt1, s1, s2, s3, s4, s5] <;> rfl) rfl ⟨rfl, ?_⟩
  have hb := HB1.out
  (repeat' (first | (with_reducible exact Below.refl _ _) | (with_reducible assumption) | (with_reducible refine Below.setCell ?_ ?_ _) | (with_reducible refine Below.alloc ?_ ?_ _) | (with_reducible refine below_drewN ?_ _) | (with_reducible refine Below.drew ?_) | (with_reducible exact Nat.le_refl _) | omega | (simp; done) | (simp; omega)))

set_option maxRecDepth 10000 in
set_option maxHeartbeats 6400000 in
theorem impl_kind5 (w : World) : Calls Try.prog 80 #[.int .i64 5] w fun e w' => e = .returned (.tuple #[.agg #[.int .i64 5, .bool false, .func (.func 113) #[] #[]], .bool true]) ∧ Below w.heap.size w w' := by
  have hst := store_fn
  have k1 := kind_at1
  have k2 := kind_at2
  have k3 := kind_at3
  have k4 := kind_at4
  have k5 := kind_at5
  go_enter Try.func80, Try.ntmps80
  go_wp2_with (fail)
  refine (impl_kinds _).mono ?_
  rintro e w1 ⟨rfl, hb1⟩
  obtain ⟨hk1, hlt1, hB1⟩ := resR hb1
  obtain ⟨r0, r1, r2, f0, f1, f2⟩ := cells3 hk1
  have s1 : w.heap.size < w1.heap.size + 1 := by omega
  have s2 : w.heap.size < w1.heap.size + 1 + 1 := by omega
  have s3 : w.heap.size < w1.heap.size + 1 + 1 + 1 := by omega
  have s4 : w.heap.size < w1.heap.size + 1 + 1 + 1 + 1 := by omega
  have s5 : w.heap.size < w1.heap.size + 1 + 1 + 1 + 1 + 1 := by omega
  have HB1 : Hid (Below w.heap.size w w1) := hB1
  clear hb1 hk1 hB1
  go_wp2
  refine wp_loop_rounds 5 ?_
  rw [rounds_succ]
  go_wp2
  rw [rounds_succ]
  go_wp2
  rw [rounds_succ]
  go_wp2
  rw [rounds_succ]
  go_wp2
  rw [rounds_succ]
  go_wp2
  refine bodyPost_ret (by simp [results, Try.results80, go_sem, r0, r1, r2, hlt1, s1, s2, s3, s4, s5] <;> rfl) rfl ⟨rfl, ?_⟩
  have hb := HB1.out
  (repeat' (first | (with_reducible exact Below.refl _ _) | (with_reducible assumption) | (with_reducible refine Below.setCell ?_ ?_ _) | (with_reducible refine Below.alloc ?_ ?_ _) | (with_reducible refine below_drewN ?_ _) | (with_reducible refine Below.drew ?_) | (with_reducible exact Nat.le_refl _) | omega | (simp; done) | (simp; omega)))

set_option maxRecDepth 10000 in
set_option maxHeartbeats 6400000 in
theorem impl_kind_not (n : Int) (w : World) (q1 : ¬ (1 : Int) = n) (q2 : ¬ (2 : Int) = n) (q3 : ¬ (3 : Int) = n) (q4 : ¬ (4 : Int) = n) (q5 : ¬ (5 : Int) = n) : Calls Try.prog 80 #[.int .i64 n] w fun e w' => e = .returned (.tuple #[.agg #[.int .i64 0, .bool false, .nilFunc], .bool false]) ∧ Below w.heap.size w w' := by
  have hst := store_fn
  have hsn := store_nf
  have k1 := kind_at1
  have k2 := kind_at2
  have k3 := kind_at3
  have k4 := kind_at4
  have k5 := kind_at5
  go_enter Try.func80, Try.ntmps80
  go_wp2_with (fail)
  refine (impl_kinds _).mono ?_
  rintro e w1 ⟨rfl, hb1⟩
  obtain ⟨hk1, hlt1, hB1⟩ := resR hb1
  obtain ⟨r0, r1, r2, f0, f1, f2⟩ := cells3 hk1
  have s1 : w.heap.size < w1.heap.size + 1 := by omega
  have s2 : w.heap.size < w1.heap.size + 1 + 1 := by omega
  have s3 : w.heap.size < w1.heap.size + 1 + 1 + 1 := by omega
  have s4 : w.heap.size < w1.heap.size + 1 + 1 + 1 + 1 := by omega
  have s5 : w.heap.size < w1.heap.size + 1 + 1 + 1 + 1 + 1 := by omega
  have HB1 : Hid (Below w.heap.size w w1) := hB1
  clear hb1 hk1 hB1
  go_wp2
  refine wp_loop_rounds 6 ?_
  rw [rounds_succ]
  go_wp2
  rw [rounds_succ]
  go_wp2
  rw [rounds_succ]
  go_wp2
  rw [rounds_succ]
  go_wp2
  rw [rounds_succ]
  go_wp2
  rw [rounds_succ]
  go_wp2
  refine bodyPost_ret (by simp [results, Try.results80, go_sem, r0, r1, r2, hlt1, s1, s2, s3, s4, s5] <;> rfl) rfl ⟨rfl, ?_⟩
  have hb := HB1.out
  (repeat' (first | (with_reducible exact Below.refl _ _) | (with_reducible assumption) | (with_reducible refine Below.setCell ?_ ?_ _) | (with_reducible refine Below.alloc ?_ ?_ _) | (with_reducible refine below_drewN ?_ _) | (with_reducible refine Below.drew ?_) | (with_reducible exact Nat.le_refl _) | omega | (simp; done) | (simp; omega)))

end Go.Proofs.Ytokdpgabmifdjaa
