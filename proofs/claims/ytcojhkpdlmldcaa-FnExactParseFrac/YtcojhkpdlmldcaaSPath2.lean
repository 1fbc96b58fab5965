/- Proved here: the model's ParseFrac where the text fits: numbers that are too long, a second number that is 0, what is told, path by path; and of no text. -/
import Derived.Test.YtcojhkpdlmldcaaSPath
namespace Go.Proofs.Ytcojhkpdlmldcaa
open Go.RowKit
set_option linter.unusedVariables false
set_option linter.unusedSimpArgs false

set_option maxHeartbeats 1600000 in
theorem sp_long0_m (s : ByteArray) (n k : Nat) (w : World) (h : s.size ≤ 4000) (h0 : 0 < s.size) (hne : s.toList.isEmpty = false) (hm : (((s[0].toNat : Nat) : Int) == 45) = true)
    (hn : 1 ≤ n) (hlong : 18 < n) (hle : 1 + n ≤ s.size) (hge : s.size ≤ 1 + n) (hd1 : ∀ (q : Int) w, q = 1 → Calls Try.prog 8 #[.string s, .int .i64 q] w fun e w' => e = .returned (.int .i64 n) ∧ w' = w) (hX : (s.extract 1 (1 + n)).size = n) :
    Calls Try.prog 4 #[.string s] w fun e w' => e = .returned (.agg #[.int .i64 3, .int .i64 0, .int .i64 0, .int .i64 0]) ∧ Below w.heap.size w w' := by
  have nl : ¬ ((1 + n : Nat) : Int) < (s.size : Int) := by omega
  have nl2 : ¬ 1 + n < s.size := by omega
  have lg : (18 : Int) < (n : Int) := by omega
  go_enter Try.func4, Try.ntmps4
  go_wp2_with (fail)
  refine (hd1 _ _ (by omega)).mono ?_
  rintro e w' ⟨rfl, rfl⟩
  go_wp2_with (fail)
  refine (spec_textFault _ _ _ (by omega)).mono ?_
  rintro e w1 ⟨rfl, hb1⟩
  obtain ⟨hc1, hf1⟩ := bcell hb1
  have hl1 : w.heap.size < w1.heap.size := by have := hb1.size; simp at this; omega
  have hB1 : Hid (Below w.heap.size w w1) := ((Below.refl _ _).alloc (Nat.le_refl _) _).trans (hb1.mono (by simp))
  go_wp2
  have hz1 : w.heap.size < w.heap.size + 1 := by omega
  refine bodyPost_ret (by simp [results, Try.results4, go_sem, hc1, hz1, hl1]) rfl ⟨rfl, ?_⟩
  have hB : Below w.heap.size w w1 := hB1.out
  clear hc1 hf1 hb1 hB1
  (repeat' (first | (with_reducible exact Below.refl _ _) | (with_reducible assumption) | (with_reducible refine Below.setCell ?_ ?_ _) | (with_reducible refine Below.alloc ?_ ?_ _) | (with_reducible refine below_drewN ?_ _) | (with_reducible refine Below.drew ?_) | (with_reducible exact Nat.le_refl _) | omega | (simp; done) | (simp; omega)))

set_option maxHeartbeats 1600000 in
theorem sp_told0_m (s : ByteArray) (n k : Nat) (w : World) (h : s.size ≤ 4000) (h0 : 0 < s.size) (hne : s.toList.isEmpty = false) (hm : (((s[0].toNat : Nat) : Int) == 45) = true)
    (hn : 1 ≤ n) (hlong : n ≤ 18) (hle : 1 + n ≤ s.size) (hge : s.size ≤ 1 + n) (hd1 : ∀ (q : Int) w, q = 1 → Calls Try.prog 8 #[.string s, .int .i64 q] w fun e w' => e = .returned (.int .i64 n) ∧ w' = w) (hX : (s.extract 1 (1 + n)).size = n) (a d c1 c2 c3 : Int) (ha : 0 ≤ a ∧ a ≤ 1000000000000000000) (hd9 : ¬ d = 0) (hx1 : ∀ w, Calls Try.prog 9 #[.string (s.extract 1 (1 + n))] w fun e w' => e = .returned (.int .i64 a) ∧ w' = w) (hx2 : ∀ w, Calls Try.prog 9 #[.string { data := #[49] }] w fun e w' => e = .returned (.int .i64 d) ∧ w' = w) (ht : ∀ w, Calls Try.prog 10 #[.int .i64 (-a), .int .i64 d] w fun e w' => e = .returned (.agg #[.int .i64 c1, .int .i64 0, .int .i64 c2, .int .i64 c3]) ∧ Below w.heap.size w w') :
    Calls Try.prog 4 #[.string s] w fun e w' => e = .returned (.agg #[.int .i64 c1, .int .i64 0, .int .i64 c2, .int .i64 c3]) ∧ Below w.heap.size w w' := by
  have nl : ¬ ((1 + n : Nat) : Int) < (s.size : Int) := by omega
  have nl2 : ¬ 1 + n < s.size := by omega
  have lg : ¬ (18 : Int) < (n : Int) := by omega
  have ew : IntKind.i64.wrap (-1 * a) = -a := by rw [IntKind.wrap_i64]; omega
  have ew2 : IntKind.i64.wrap (-a) = -a := by rw [IntKind.wrap_i64]; omega
  go_enter Try.func4, Try.ntmps4
  go_wp2_with (fail)
  refine (hd1 _ _ (by omega)).mono ?_
  rintro e w' ⟨rfl, rfl⟩
  go_wp2_with (fail)
  refine (hx2 _).mono ?_
  rintro e w' ⟨rfl, rfl⟩
  go_wp2_with (fail)
  refine (hx1 _).mono ?_
  rintro e w' ⟨rfl, rfl⟩
  go_wp2_with (fail)
  refine (ht _).mono ?_
  rintro e w1 ⟨rfl, hb1⟩
  obtain ⟨hc1, hf1⟩ := bcell hb1
  have hl1 : w.heap.size < w1.heap.size := by have := hb1.size; simp at this; omega
  have hB1 : Hid (Below w.heap.size w w1) := ((Below.refl _ _).alloc (Nat.le_refl _) _).trans (hb1.mono (by simp))
  go_wp2
  have hz1 : w.heap.size < w.heap.size + 1 := by omega
  refine bodyPost_ret (by simp [results, Try.results4, go_sem, hc1, hz1, hl1]) rfl ⟨rfl, ?_⟩
  have hB : Below w.heap.size w w1 := hB1.out
  clear hc1 hf1 hb1 hB1
  (repeat' (first | (with_reducible exact Below.refl _ _) | (with_reducible assumption) | (with_reducible refine Below.setCell ?_ ?_ _) | (with_reducible refine Below.alloc ?_ ?_ _) | (with_reducible refine below_drewN ?_ _) | (with_reducible refine Below.drew ?_) | (with_reducible exact Nat.le_refl _) | omega | (simp; done) | (simp; omega)))

set_option maxHeartbeats 1600000 in
theorem sp_long1_m (s : ByteArray) (n k : Nat) (w : World) (h : s.size ≤ 4000) (h0 : 0 < s.size) (hne : s.toList.isEmpty = false) (hm : (((s[0].toNat : Nat) : Int) == 45) = true)
    (hn : 1 ≤ n) (hk : 1 ≤ k) (hlong : 18 < n) (hlt : 1 + n < s.size) (hsl : (((s[1 + n].toNat : Nat) : Int) == 47) = true) (hle : 1 + n + 1 + k ≤ s.size) (hge : s.size ≤ 1 + n + 1 + k) (hd1 : ∀ (q : Int) w, q = 1 → Calls Try.prog 8 #[.string s, .int .i64 q] w fun e w' => e = .returned (.int .i64 n) ∧ w' = w) (hd2 : ∀ (q : Int) w, q = 1 + n + 1 → Calls Try.prog 8 #[.string s, .int .i64 q] w fun e w' => e = .returned (.int .i64 k) ∧ w' = w) (hX : (s.extract 1 (1 + n)).size = n) (hY : (s.extract (1 + n + 1) (1 + n + 1 + k)).size = k) :
    Calls Try.prog 4 #[.string s] w fun e w' => e = .returned (.agg #[.int .i64 3, .int .i64 0, .int .i64 0, .int .i64 0]) ∧ Below w.heap.size w w' := by
  have nl : ¬ ((1 + n + 1 + k : Nat) : Int) < (s.size : Int) := by omega
  have nl2 : ¬ 1 + n + 1 + k < s.size := by omega
  have lg : (18 : Int) < (n : Int) := by omega
  go_enter Try.func4, Try.ntmps4
  go_wp2_with (fail)
  refine (hd1 _ _ (by omega)).mono ?_
  rintro e w' ⟨rfl, rfl⟩
  go_wp2_with (fail)
  refine (hd2 _ _ (by omega)).mono ?_
  rintro e w' ⟨rfl, rfl⟩
  go_wp2_with (fail)
  refine (spec_textFault _ _ _ (by omega)).mono ?_
  rintro e w1 ⟨rfl, hb1⟩
  obtain ⟨hc1, hf1⟩ := bcell hb1
  have hl1 : w.heap.size < w1.heap.size := by have := hb1.size; simp at this; omega
  have hB1 : Hid (Below w.heap.size w w1) := ((Below.refl _ _).alloc (Nat.le_refl _) _).trans (hb1.mono (by simp))
  go_wp2
  have hz1 : w.heap.size < w.heap.size + 1 := by omega
  refine bodyPost_ret (by simp [results, Try.results4, go_sem, hc1, hz1, hl1]) rfl ⟨rfl, ?_⟩
  have hB : Below w.heap.size w w1 := hB1.out
  clear hc1 hf1 hb1 hB1
  (repeat' (first | (with_reducible exact Below.refl _ _) | (with_reducible assumption) | (with_reducible refine Below.setCell ?_ ?_ _) | (with_reducible refine Below.alloc ?_ ?_ _) | (with_reducible refine below_drewN ?_ _) | (with_reducible refine Below.drew ?_) | (with_reducible exact Nat.le_refl _) | omega | (simp; done) | (simp; omega)))

set_option maxHeartbeats 1600000 in
theorem sp_long2_m (s : ByteArray) (n k : Nat) (w : World) (h : s.size ≤ 4000) (h0 : 0 < s.size) (hne : s.toList.isEmpty = false) (hm : (((s[0].toNat : Nat) : Int) == 45) = true)
    (hn : 1 ≤ n) (hk : 1 ≤ k) (hlong : n ≤ 18) (hlong2 : 18 < k) (hlt : 1 + n < s.size) (hsl : (((s[1 + n].toNat : Nat) : Int) == 47) = true) (hle : 1 + n + 1 + k ≤ s.size) (hge : s.size ≤ 1 + n + 1 + k) (hd1 : ∀ (q : Int) w, q = 1 → Calls Try.prog 8 #[.string s, .int .i64 q] w fun e w' => e = .returned (.int .i64 n) ∧ w' = w) (hd2 : ∀ (q : Int) w, q = 1 + n + 1 → Calls Try.prog 8 #[.string s, .int .i64 q] w fun e w' => e = .returned (.int .i64 k) ∧ w' = w) (hX : (s.extract 1 (1 + n)).size = n) (hY : (s.extract (1 + n + 1) (1 + n + 1 + k)).size = k) :
    Calls Try.prog 4 #[.string s] w fun e w' => e = .returned (.agg #[.int .i64 3, .int .i64 0, .int .i64 0, .int .i64 0]) ∧ Below w.heap.size w w' := by
  have nl : ¬ ((1 + n + 1 + k : Nat) : Int) < (s.size : Int) := by omega
  have nl2 : ¬ 1 + n + 1 + k < s.size := by omega
  have lg : ¬ (18 : Int) < (n : Int) := by omega
  have lg2 : (18 : Int) < (k : Int) := by omega
  go_enter Try.func4, Try.ntmps4
  go_wp2_with (fail)
  refine (hd1 _ _ (by omega)).mono ?_
  rintro e w' ⟨rfl, rfl⟩
  go_wp2_with (fail)
  refine (hd2 _ _ (by omega)).mono ?_
  rintro e w' ⟨rfl, rfl⟩
  go_wp2_with (fail)
  refine (spec_textFault _ _ _ (by omega)).mono ?_
  rintro e w1 ⟨rfl, hb1⟩
  obtain ⟨hc1, hf1⟩ := bcell hb1
  have hl1 : w.heap.size < w1.heap.size := by have := hb1.size; simp at this; omega
  have hB1 : Hid (Below w.heap.size w w1) := ((Below.refl _ _).alloc (Nat.le_refl _) _).trans (hb1.mono (by simp))
  go_wp2
  have hz1 : w.heap.size < w.heap.size + 1 := by omega
  refine bodyPost_ret (by simp [results, Try.results4, go_sem, hc1, hz1, hl1]) rfl ⟨rfl, ?_⟩
  have hB : Below w.heap.size w w1 := hB1.out
  clear hc1 hf1 hb1 hB1
  (repeat' (first | (with_reducible exact Below.refl _ _) | (with_reducible assumption) | (with_reducible refine Below.setCell ?_ ?_ _) | (with_reducible refine Below.alloc ?_ ?_ _) | (with_reducible refine below_drewN ?_ _) | (with_reducible refine Below.drew ?_) | (with_reducible exact Nat.le_refl _) | omega | (simp; done) | (simp; omega)))

set_option maxHeartbeats 1600000 in
theorem sp_zero1_m (s : ByteArray) (n k : Nat) (w : World) (h : s.size ≤ 4000) (h0 : 0 < s.size) (hne : s.toList.isEmpty = false) (hm : (((s[0].toNat : Nat) : Int) == 45) = true)
    (hn : 1 ≤ n) (hk : 1 ≤ k) (hlong : n ≤ 18) (hlong2 : k ≤ 18) (hlt : 1 + n < s.size) (hsl : (((s[1 + n].toNat : Nat) : Int) == 47) = true) (hle : 1 + n + 1 + k ≤ s.size) (hge : s.size ≤ 1 + n + 1 + k) (hd1 : ∀ (q : Int) w, q = 1 → Calls Try.prog 8 #[.string s, .int .i64 q] w fun e w' => e = .returned (.int .i64 n) ∧ w' = w) (hd2 : ∀ (q : Int) w, q = 1 + n + 1 → Calls Try.prog 8 #[.string s, .int .i64 q] w fun e w' => e = .returned (.int .i64 k) ∧ w' = w) (hX : (s.extract 1 (1 + n)).size = n) (hY : (s.extract (1 + n + 1) (1 + n + 1 + k)).size = k) (hx2 : ∀ w, Calls Try.prog 9 #[.string (s.extract (1 + n + 1) (1 + n + 1 + k))] w fun e w' => e = .returned (.int .i64 0) ∧ w' = w) :
    Calls Try.prog 4 #[.string s] w fun e w' => e = .returned (.agg #[.int .i64 6, .int .i64 ((1 + n : Nat) : Int), .int .i64 0, .int .i64 0]) ∧ Below w.heap.size w w' := by
  have nl : ¬ ((1 + n + 1 + k : Nat) : Int) < (s.size : Int) := by omega
  have nl2 : ¬ 1 + n + 1 + k < s.size := by omega
  have lg : ¬ (18 : Int) < (n : Int) := by omega
  have lg2 : ¬ (18 : Int) < (k : Int) := by omega
  go_enter Try.func4, Try.ntmps4
  go_wp2_with (fail)
  refine (hd1 _ _ (by omega)).mono ?_
  rintro e w' ⟨rfl, rfl⟩
  go_wp2_with (fail)
  refine (hd2 _ _ (by omega)).mono ?_
  rintro e w' ⟨rfl, rfl⟩
  go_wp2_with (fail)
  refine (hx2 _).mono ?_
  rintro e w' ⟨rfl, rfl⟩
  go_wp2_with (fail)
  refine (spec_textFault _ _ _ (by omega)).mono ?_
  rintro e w1 ⟨rfl, hb1⟩
  obtain ⟨hc1, hf1⟩ := bcell hb1
  have hl1 : w.heap.size < w1.heap.size := by have := hb1.size; simp at this; omega
  have hB1 : Hid (Below w.heap.size w w1) := ((Below.refl _ _).alloc (Nat.le_refl _) _).trans (hb1.mono (by simp))
  go_wp2
  have hz1 : w.heap.size < w.heap.size + 1 := by omega
  refine bodyPost_ret (by simp [results, Try.results4, go_sem, hc1, hz1, hl1]) rfl ⟨rfl, ?_⟩
  have hB : Below w.heap.size w w1 := hB1.out
  clear hc1 hf1 hb1 hB1
  (repeat' (first | (with_reducible exact Below.refl _ _) | (with_reducible assumption) | (with_reducible refine Below.setCell ?_ ?_ _) | (with_reducible refine Below.alloc ?_ ?_ _) | (with_reducible refine below_drewN ?_ _) | (with_reducible refine Below.drew ?_) | (with_reducible exact Nat.le_refl _) | omega | (simp; done) | (simp; omega)))

set_option maxHeartbeats 1600000 in
theorem sp_told1_m (s : ByteArray) (n k : Nat) (w : World) (h : s.size ≤ 4000) (h0 : 0 < s.size) (hne : s.toList.isEmpty = false) (hm : (((s[0].toNat : Nat) : Int) == 45) = true)
    (hn : 1 ≤ n) (hk : 1 ≤ k) (hlong : n ≤ 18) (hlong2 : k ≤ 18) (hlt : 1 + n < s.size) (hsl : (((s[1 + n].toNat : Nat) : Int) == 47) = true) (hle : 1 + n + 1 + k ≤ s.size) (hge : s.size ≤ 1 + n + 1 + k) (hd1 : ∀ (q : Int) w, q = 1 → Calls Try.prog 8 #[.string s, .int .i64 q] w fun e w' => e = .returned (.int .i64 n) ∧ w' = w) (hd2 : ∀ (q : Int) w, q = 1 + n + 1 → Calls Try.prog 8 #[.string s, .int .i64 q] w fun e w' => e = .returned (.int .i64 k) ∧ w' = w) (hX : (s.extract 1 (1 + n)).size = n) (hY : (s.extract (1 + n + 1) (1 + n + 1 + k)).size = k) (a d c1 c2 c3 : Int) (ha : 0 ≤ a ∧ a ≤ 1000000000000000000) (hd9 : ¬ d = 0) (hx1 : ∀ w, Calls Try.prog 9 #[.string (s.extract 1 (1 + n))] w fun e w' => e = .returned (.int .i64 a) ∧ w' = w) (hx2 : ∀ w, Calls Try.prog 9 #[.string (s.extract (1 + n + 1) (1 + n + 1 + k))] w fun e w' => e = .returned (.int .i64 d) ∧ w' = w) (ht : ∀ w, Calls Try.prog 10 #[.int .i64 (-a), .int .i64 d] w fun e w' => e = .returned (.agg #[.int .i64 c1, .int .i64 0, .int .i64 c2, .int .i64 c3]) ∧ Below w.heap.size w w') :
    Calls Try.prog 4 #[.string s] w fun e w' => e = .returned (.agg #[.int .i64 c1, .int .i64 0, .int .i64 c2, .int .i64 c3]) ∧ Below w.heap.size w w' := by
  have nl : ¬ ((1 + n + 1 + k : Nat) : Int) < (s.size : Int) := by omega
  have nl2 : ¬ 1 + n + 1 + k < s.size := by omega
  have lg : ¬ (18 : Int) < (n : Int) := by omega
  have lg2 : ¬ (18 : Int) < (k : Int) := by omega
  have ew : IntKind.i64.wrap (-1 * a) = -a := by rw [IntKind.wrap_i64]; omega
  have ew2 : IntKind.i64.wrap (-a) = -a := by rw [IntKind.wrap_i64]; omega
  go_enter Try.func4, Try.ntmps4
  go_wp2_with (fail)
  refine (hd1 _ _ (by omega)).mono ?_
  rintro e w' ⟨rfl, rfl⟩
  go_wp2_with (fail)
  refine (hd2 _ _ (by omega)).mono ?_
  rintro e w' ⟨rfl, rfl⟩
  go_wp2_with (fail)
  refine (hx2 _).mono ?_
  rintro e w' ⟨rfl, rfl⟩
  go_wp2_with (fail)
  refine (hx1 _).mono ?_
  rintro e w' ⟨rfl, rfl⟩
  go_wp2_with (fail)
  refine (ht _).mono ?_
  rintro e w1 ⟨rfl, hb1⟩
  obtain ⟨hc1, hf1⟩ := bcell hb1
  have hl1 : w.heap.size < w1.heap.size := by have := hb1.size; simp at this; omega
  have hB1 : Hid (Below w.heap.size w w1) := ((Below.refl _ _).alloc (Nat.le_refl _) _).trans (hb1.mono (by simp))
  go_wp2
  have hz1 : w.heap.size < w.heap.size + 1 := by omega
  refine bodyPost_ret (by simp [results, Try.results4, go_sem, hc1, hz1, hl1]) rfl ⟨rfl, ?_⟩
  have hB : Below w.heap.size w w1 := hB1.out
  clear hc1 hf1 hb1 hB1
  (repeat' (first | (with_reducible exact Below.refl _ _) | (with_reducible assumption) | (with_reducible refine Below.setCell ?_ ?_ _) | (with_reducible refine Below.alloc ?_ ?_ _) | (with_reducible refine below_drewN ?_ _) | (with_reducible refine Below.drew ?_) | (with_reducible exact Nat.le_refl _) | omega | (simp; done) | (simp; omega)))

set_option maxHeartbeats 1600000 in
theorem sp_long0_p (s : ByteArray) (n k : Nat) (w : World) (h : s.size ≤ 4000) (h0 : 0 < s.size) (hne : s.toList.isEmpty = false) (hm : (((s[0].toNat : Nat) : Int) == 45) = false)
    (hn : 1 ≤ n) (hlong : 18 < n) (hle : n ≤ s.size) (hge : s.size ≤ n) (hd1 : ∀ (q : Int) w, q = 0 → Calls Try.prog 8 #[.string s, .int .i64 q] w fun e w' => e = .returned (.int .i64 n) ∧ w' = w) (hX : (s.extract 0 (n)).size = n) :
    Calls Try.prog 4 #[.string s] w fun e w' => e = .returned (.agg #[.int .i64 3, .int .i64 0, .int .i64 0, .int .i64 0]) ∧ Below w.heap.size w w' := by
  have nl : ¬ ((n : Nat) : Int) < (s.size : Int) := by omega
  have nl2 : ¬ n < s.size := by omega
  have lg : (18 : Int) < (n : Int) := by omega
  go_enter Try.func4, Try.ntmps4
  go_wp2_with (fail)
  refine (hd1 _ _ (by omega)).mono ?_
  rintro e w' ⟨rfl, rfl⟩
  go_wp2_with (fail)
  refine (spec_textFault _ _ _ (by omega)).mono ?_
  rintro e w1 ⟨rfl, hb1⟩
  obtain ⟨hc1, hf1⟩ := bcell hb1
  have hl1 : w.heap.size < w1.heap.size := by have := hb1.size; simp at this; omega
  have hB1 : Hid (Below w.heap.size w w1) := ((Below.refl _ _).alloc (Nat.le_refl _) _).trans (hb1.mono (by simp))
  go_wp2
  have hz1 : w.heap.size < w.heap.size + 1 := by omega
  refine bodyPost_ret (by simp [results, Try.results4, go_sem, hc1, hz1, hl1]) rfl ⟨rfl, ?_⟩
  have hB : Below w.heap.size w w1 := hB1.out
  clear hc1 hf1 hb1 hB1
  (repeat' (first | (with_reducible exact Below.refl _ _) | (with_reducible assumption) | (with_reducible refine Below.setCell ?_ ?_ _) | (with_reducible refine Below.alloc ?_ ?_ _) | (with_reducible refine below_drewN ?_ _) | (with_reducible refine Below.drew ?_) | (with_reducible exact Nat.le_refl _) | omega | (simp; done) | (simp; omega)))

set_option maxHeartbeats 1600000 in
theorem sp_told0_p (s : ByteArray) (n k : Nat) (w : World) (h : s.size ≤ 4000) (h0 : 0 < s.size) (hne : s.toList.isEmpty = false) (hm : (((s[0].toNat : Nat) : Int) == 45) = false)
    (hn : 1 ≤ n) (hlong : n ≤ 18) (hle : n ≤ s.size) (hge : s.size ≤ n) (hd1 : ∀ (q : Int) w, q = 0 → Calls Try.prog 8 #[.string s, .int .i64 q] w fun e w' => e = .returned (.int .i64 n) ∧ w' = w) (hX : (s.extract 0 (n)).size = n) (a d c1 c2 c3 : Int) (ha : 0 ≤ a ∧ a ≤ 1000000000000000000) (hd9 : ¬ d = 0) (hx1 : ∀ w, Calls Try.prog 9 #[.string (s.extract 0 (n))] w fun e w' => e = .returned (.int .i64 a) ∧ w' = w) (hx2 : ∀ w, Calls Try.prog 9 #[.string { data := #[49] }] w fun e w' => e = .returned (.int .i64 d) ∧ w' = w) (ht : ∀ w, Calls Try.prog 10 #[.int .i64 (a), .int .i64 d] w fun e w' => e = .returned (.agg #[.int .i64 c1, .int .i64 0, .int .i64 c2, .int .i64 c3]) ∧ Below w.heap.size w w') :
    Calls Try.prog 4 #[.string s] w fun e w' => e = .returned (.agg #[.int .i64 c1, .int .i64 0, .int .i64 c2, .int .i64 c3]) ∧ Below w.heap.size w w' := by
  have nl : ¬ ((n : Nat) : Int) < (s.size : Int) := by omega
  have nl2 : ¬ n < s.size := by omega
  have lg : ¬ (18 : Int) < (n : Int) := by omega
  have ew : IntKind.i64.wrap (1 * a) = a := by rw [IntKind.wrap_i64]; omega
  have ew2 : IntKind.i64.wrap (a) = a := by rw [IntKind.wrap_i64]; omega
  go_enter Try.func4, Try.ntmps4
  go_wp2_with (fail)
  refine (hd1 _ _ (by omega)).mono ?_
  rintro e w' ⟨rfl, rfl⟩
  go_wp2_with (fail)
  refine (hx2 _).mono ?_
  rintro e w' ⟨rfl, rfl⟩
  go_wp2_with (fail)
  refine (hx1 _).mono ?_
  rintro e w' ⟨rfl, rfl⟩
  go_wp2_with (fail)
  refine (ht _).mono ?_
  rintro e w1 ⟨rfl, hb1⟩
  obtain ⟨hc1, hf1⟩ := bcell hb1
  have hl1 : w.heap.size < w1.heap.size := by have := hb1.size; simp at this; omega
  have hB1 : Hid (Below w.heap.size w w1) := ((Below.refl _ _).alloc (Nat.le_refl _) _).trans (hb1.mono (by simp))
  go_wp2
  have hz1 : w.heap.size < w.heap.size + 1 := by omega
  refine bodyPost_ret (by simp [results, Try.results4, go_sem, hc1, hz1, hl1]) rfl ⟨rfl, ?_⟩
  have hB : Below w.heap.size w w1 := hB1.out
  clear hc1 hf1 hb1 hB1
  (repeat' (first | (with_reducible exact Below.refl _ _) | (with_reducible assumption) | (with_reducible refine Below.setCell ?_ ?_ _) | (with_reducible refine Below.alloc ?_ ?_ _) | (with_reducible refine below_drewN ?_ _) | (with_reducible refine Below.drew ?_) | (with_reducible exact Nat.le_refl _) | omega | (simp; done) | (simp; omega)))

set_option maxHeartbeats 1600000 in
theorem sp_long1_p (s : ByteArray) (n k : Nat) (w : World) (h : s.size ≤ 4000) (h0 : 0 < s.size) (hne : s.toList.isEmpty = false) (hm : (((s[0].toNat : Nat) : Int) == 45) = false)
    (hn : 1 ≤ n) (hk : 1 ≤ k) (hlong : 18 < n) (hlt : n < s.size) (hsl : (((s[n].toNat : Nat) : Int) == 47) = true) (hle : n + 1 + k ≤ s.size) (hge : s.size ≤ n + 1 + k) (hd1 : ∀ (q : Int) w, q = 0 → Calls Try.prog 8 #[.string s, .int .i64 q] w fun e w' => e = .returned (.int .i64 n) ∧ w' = w) (hd2 : ∀ (q : Int) w, q = n + 1 → Calls Try.prog 8 #[.string s, .int .i64 q] w fun e w' => e = .returned (.int .i64 k) ∧ w' = w) (hX : (s.extract 0 (n)).size = n) (hY : (s.extract (n + 1) (n + 1 + k)).size = k) :
    Calls Try.prog 4 #[.string s] w fun e w' => e = .returned (.agg #[.int .i64 3, .int .i64 0, .int .i64 0, .int .i64 0]) ∧ Below w.heap.size w w' := by
  have nl : ¬ ((n + 1 + k : Nat) : Int) < (s.size : Int) := by omega
  have nl2 : ¬ n + 1 + k < s.size := by omega
  have lg : (18 : Int) < (n : Int) := by omega
  go_enter Try.func4, Try.ntmps4
  go_wp2_with (fail)
  refine (hd1 _ _ (by omega)).mono ?_
  rintro e w' ⟨rfl, rfl⟩
  go_wp2_with (fail)
  refine (hd2 _ _ (by omega)).mono ?_
  rintro e w' ⟨rfl, rfl⟩
  go_wp2_with (fail)
  refine (spec_textFault _ _ _ (by omega)).mono ?_
  rintro e w1 ⟨rfl, hb1⟩
  obtain ⟨hc1, hf1⟩ := bcell hb1
  have hl1 : w.heap.size < w1.heap.size := by have := hb1.size; simp at this; omega
  have hB1 : Hid (Below w.heap.size w w1) := ((Below.refl _ _).alloc (Nat.le_refl _) _).trans (hb1.mono (by simp))
  go_wp2
  have hz1 : w.heap.size < w.heap.size + 1 := by omega
  refine bodyPost_ret (by simp [results, Try.results4, go_sem, hc1, hz1, hl1]) rfl ⟨rfl, ?_⟩
  have hB : Below w.heap.size w w1 := hB1.out
  clear hc1 hf1 hb1 hB1
  (repeat' (first | (with_reducible exact Below.refl _ _) | (with_reducible assumption) | (with_reducible refine Below.setCell ?_ ?_ _) | (with_reducible refine Below.alloc ?_ ?_ _) | (with_reducible refine below_drewN ?_ _) | (with_reducible refine Below.drew ?_) | (with_reducible exact Nat.le_refl _) | omega | (simp; done) | (simp; omega)))

set_option maxHeartbeats 1600000 in
theorem sp_long2_p (s : ByteArray) (n k : Nat) (w : World) (h : s.size ≤ 4000) (h0 : 0 < s.size) (hne : s.toList.isEmpty = false) (hm : (((s[0].toNat : Nat) : Int) == 45) = false)
    (hn : 1 ≤ n) (hk : 1 ≤ k) (hlong : n ≤ 18) (hlong2 : 18 < k) (hlt : n < s.size) (hsl : (((s[n].toNat : Nat) : Int) == 47) = true) (hle : n + 1 + k ≤ s.size) (hge : s.size ≤ n + 1 + k) (hd1 : ∀ (q : Int) w, q = 0 → Calls Try.prog 8 #[.string s, .int .i64 q] w fun e w' => e = .returned (.int .i64 n) ∧ w' = w) (hd2 : ∀ (q : Int) w, q = n + 1 → Calls Try.prog 8 #[.string s, .int .i64 q] w fun e w' => e = .returned (.int .i64 k) ∧ w' = w) (hX : (s.extract 0 (n)).size = n) (hY : (s.extract (n + 1) (n + 1 + k)).size = k) :
    Calls Try.prog 4 #[.string s] w fun e w' => e = .returned (.agg #[.int .i64 3, .int .i64 0, .int .i64 0, .int .i64 0]) ∧ Below w.heap.size w w' := by
  have nl : ¬ ((n + 1 + k : Nat) : Int) < (s.size : Int) := by omega
  have nl2 : ¬ n + 1 + k < s.size := by omega
  have lg : ¬ (18 : Int) < (n : Int) := by omega
  have lg2 : (18 : Int) < (k : Int) := by omega
  go_enter Try.func4, Try.ntmps4
  go_wp2_with (fail)
  refine (hd1 _ _ (by omega)).mono ?_
  rintro e w' ⟨rfl, rfl⟩
  go_wp2_with (fail)
  refine (hd2 _ _ (by omega)).mono ?_
  rintro e w' ⟨rfl, rfl⟩
  go_wp2_with (fail)
  refine (spec_textFault _ _ _ (by omega)).mono ?_
  rintro e w1 ⟨rfl, hb1⟩
  obtain ⟨hc1, hf1⟩ := bcell hb1
  have hl1 : w.heap.size < w1.heap.size := by have := hb1.size; simp at this; omega
  have hB1 : Hid (Below w.heap.size w w1) := ((Below.refl _ _).alloc (Nat.le_refl _) _).trans (hb1.mono (by simp))
  go_wp2
  have hz1 : w.heap.size < w.heap.size + 1 := by omega
  refine bodyPost_ret (by simp [results, Try.results4, go_sem, hc1, hz1, hl1]) rfl ⟨rfl, ?_⟩
  have hB : Below w.heap.size w w1 := hB1.out
  clear hc1 hf1 hb1 hB1
  (repeat' (first | (with_reducible exact Below.refl _ _) | (with_reducible assumption) | (with_reducible refine Below.setCell ?_ ?_ _) | (with_reducible refine Below.alloc ?_ ?_ _) | (with_reducible refine below_drewN ?_ _) | (with_reducible refine Below.drew ?_) | (with_reducible exact Nat.le_refl _) | omega | (simp; done) | (simp; omega)))

set_option maxHeartbeats 1600000 in
theorem sp_zero1_p (s : ByteArray) (n k : Nat) (w : World) (h : s.size ≤ 4000) (h0 : 0 < s.size) (hne : s.toList.isEmpty = false) (hm : (((s[0].toNat : Nat) : Int) == 45) = false)
    (hn : 1 ≤ n) (hk : 1 ≤ k) (hlong : n ≤ 18) (hlong2 : k ≤ 18) (hlt : n < s.size) (hsl : (((s[n].toNat : Nat) : Int) == 47) = true) (hle : n + 1 + k ≤ s.size) (hge : s.size ≤ n + 1 + k) (hd1 : ∀ (q : Int) w, q = 0 → Calls Try.prog 8 #[.string s, .int .i64 q] w fun e w' => e = .returned (.int .i64 n) ∧ w' = w) (hd2 : ∀ (q : Int) w, q = n + 1 → Calls Try.prog 8 #[.string s, .int .i64 q] w fun e w' => e = .returned (.int .i64 k) ∧ w' = w) (hX : (s.extract 0 (n)).size = n) (hY : (s.extract (n + 1) (n + 1 + k)).size = k) (hx2 : ∀ w, Calls Try.prog 9 #[.string (s.extract (n + 1) (n + 1 + k))] w fun e w' => e = .returned (.int .i64 0) ∧ w' = w) :
    Calls Try.prog 4 #[.string s] w fun e w' => e = .returned (.agg #[.int .i64 6, .int .i64 ((n : Nat) : Int), .int .i64 0, .int .i64 0]) ∧ Below w.heap.size w w' := by
  have nl : ¬ ((n + 1 + k : Nat) : Int) < (s.size : Int) := by omega
  have nl2 : ¬ n + 1 + k < s.size := by omega
  have lg : ¬ (18 : Int) < (n : Int) := by omega
  have lg2 : ¬ (18 : Int) < (k : Int) := by omega
  go_enter Try.func4, Try.ntmps4
  go_wp2_with (fail)
  refine (hd1 _ _ (by omega)).mono ?_
  rintro e w' ⟨rfl, rfl⟩
  go_wp2_with (fail)
  refine (hd2 _ _ (by omega)).mono ?_
  rintro e w' ⟨rfl, rfl⟩
  go_wp2_with (fail)
  refine (hx2 _).mono ?_
  rintro e w' ⟨rfl, rfl⟩
  go_wp2_with (fail)
  refine (spec_textFault _ _ _ (by omega)).mono ?_
  rintro e w1 ⟨rfl, hb1⟩
  obtain ⟨hc1, hf1⟩ := bcell hb1
  have hl1 : w.heap.size < w1.heap.size := by have := hb1.size; simp at this; omega
  have hB1 : Hid (Below w.heap.size w w1) := ((Below.refl _ _).alloc (Nat.le_refl _) _).trans (hb1.mono (by simp))
  go_wp2
  have hz1 : w.heap.size < w.heap.size + 1 := by omega
  refine bodyPost_ret (by simp [results, Try.results4, go_sem, hc1, hz1, hl1]) rfl ⟨rfl, ?_⟩
  have hB : Below w.heap.size w w1 := hB1.out
  clear hc1 hf1 hb1 hB1
  (repeat' (first | (with_reducible exact Below.refl _ _) | (with_reducible assumption) | (with_reducible refine Below.setCell ?_ ?_ _) | (with_reducible refine Below.alloc ?_ ?_ _) | (with_reducible refine below_drewN ?_ _) | (with_reducible refine Below.drew ?_) | (with_reducible exact Nat.le_refl _) | omega | (simp; done) | (simp; omega)))

set_option maxHeartbeats 1600000 in
theorem sp_told1_p (s : ByteArray) (n k : Nat) (w : World) (h : s.size ≤ 4000) (h0 : 0 < s.size) (hne : s.toList.isEmpty = false) (hm : (((s[0].toNat : Nat) : Int) == 45) = false)
    (hn : 1 ≤ n) (hk : 1 ≤ k) (hlong : n ≤ 18) (hlong2 : k ≤ 18) (hlt : n < s.size) (hsl : (((s[n].toNat : Nat) : Int) == 47) = true) (hle : n + 1 + k ≤ s.size) (hge : s.size ≤ n + 1 + k) (hd1 : ∀ (q : Int) w, q = 0 → Calls Try.prog 8 #[.string s, .int .i64 q] w fun e w' => e = .returned (.int .i64 n) ∧ w' = w) (hd2 : ∀ (q : Int) w, q = n + 1 → Calls Try.prog 8 #[.string s, .int .i64 q] w fun e w' => e = .returned (.int .i64 k) ∧ w' = w) (hX : (s.extract 0 (n)).size = n) (hY : (s.extract (n + 1) (n + 1 + k)).size = k) (a d c1 c2 c3 : Int) (ha : 0 ≤ a ∧ a ≤ 1000000000000000000) (hd9 : ¬ d = 0) (hx1 : ∀ w, Calls Try.prog 9 #[.string (s.extract 0 (n))] w fun e w' => e = .returned (.int .i64 a) ∧ w' = w) (hx2 : ∀ w, Calls Try.prog 9 #[.string (s.extract (n + 1) (n + 1 + k))] w fun e w' => e = .returned (.int .i64 d) ∧ w' = w) (ht : ∀ w, Calls Try.prog 10 #[.int .i64 (a), .int .i64 d] w fun e w' => e = .returned (.agg #[.int .i64 c1, .int .i64 0, .int .i64 c2, .int .i64 c3]) ∧ Below w.heap.size w w') :
    Calls Try.prog 4 #[.string s] w fun e w' => e = .returned (.agg #[.int .i64 c1, .int .i64 0, .int .i64 c2, .int .i64 c3]) ∧ Below w.heap.size w w' := by
  have nl : ¬ ((n + 1 + k : Nat) : Int) < (s.size : Int) := by omega
  have nl2 : ¬ n + 1 + k < s.size := by omega
  have lg : ¬ (18 : Int) < (n : Int) := by omega
  have lg2 : ¬ (18 : Int) < (k : Int) := by omega
  have ew : IntKind.i64.wrap (1 * a) = a := by rw [IntKind.wrap_i64]; omega
  have ew2 : IntKind.i64.wrap (a) = a := by rw [IntKind.wrap_i64]; omega
  go_enter Try.func4, Try.ntmps4
  go_wp2_with (fail)
  refine (hd1 _ _ (by omega)).mono ?_
  rintro e w' ⟨rfl, rfl⟩
  go_wp2_with (fail)
  refine (hd2 _ _ (by omega)).mono ?_
  rintro e w' ⟨rfl, rfl⟩
  go_wp2_with (fail)
  refine (hx2 _).mono ?_
  rintro e w' ⟨rfl, rfl⟩
  go_wp2_with (fail)
  refine (hx1 _).mono ?_
  rintro e w' ⟨rfl, rfl⟩
  go_wp2_with (fail)
  refine (ht _).mono ?_
  rintro e w1 ⟨rfl, hb1⟩
  obtain ⟨hc1, hf1⟩ := bcell hb1
  have hl1 : w.heap.size < w1.heap.size := by have := hb1.size; simp at this; omega
  have hB1 : Hid (Below w.heap.size w w1) := ((Below.refl _ _).alloc (Nat.le_refl _) _).trans (hb1.mono (by simp))
  go_wp2
  have hz1 : w.heap.size < w.heap.size + 1 := by omega
  refine bodyPost_ret (by simp [results, Try.results4, go_sem, hc1, hz1, hl1]) rfl ⟨rfl, ?_⟩
  have hB : Below w.heap.size w w1 := hB1.out
  clear hc1 hf1 hb1 hB1
  (repeat' (first | (with_reducible exact Below.refl _ _) | (with_reducible assumption) | (with_reducible refine Below.setCell ?_ ?_ _) | (with_reducible refine Below.alloc ?_ ?_ _) | (with_reducible refine below_drewN ?_ _) | (with_reducible refine Below.drew ?_) | (with_reducible exact Nat.le_refl _) | omega | (simp; done) | (simp; omega)))

end Go.Proofs.Ytcojhkpdlmldcaa
