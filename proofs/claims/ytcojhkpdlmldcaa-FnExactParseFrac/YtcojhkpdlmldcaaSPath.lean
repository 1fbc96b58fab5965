/- Proved here: the model's ParseFrac where the text does not fit: the place of the fault, path by path. -/
import Derived.Test.YtcojhkpdlmldcaaSParse
namespace Go.Proofs.Ytcojhkpdlmldcaa
open Go.RowKit
set_option linter.unusedVariables false
set_option linter.unusedSimpArgs false

set_option maxHeartbeats 800000 in
theorem sp_n0_m (s : ByteArray) (n k : Nat) (w : World) (h : s.size ≤ 4000) (h0 : 0 < s.size) (hne : s.toList.isEmpty = false) (hm : (((s[0].toNat : Nat) : Int) == 45) = true)
    (hd1 : ∀ (q : Int) w, q = 1 → Calls Try.prog 8 #[.string s, .int .i64 q] w fun e w' => e = .returned (.int .i64 0) ∧ w' = w) :
    Calls Try.prog 4 #[.string s] w fun e w' => e = .returned (.agg #[.int .i64 5, .int .i64 (1), .int .i64 0, .int .i64 0]) ∧ Below w.heap.size w w' := by
  go_enter Try.func4, Try.ntmps4
  go_wp2_with (fail)
  refine (hd1 _ _ (by omega)).mono ?_
  rintro e w' ⟨rfl, rfl⟩
  go_wp2_with (fail)
  refine (spec_textFault _ _ _ (by omega)).mono ?_
  rintro e w1 ⟨rfl, hb1⟩
  obtain ⟨hc1, hf1⟩ := bcell hb1
  have hl1 : w.heap.size < w1.heap.size := by have := hb1.size; simp at this; omega
  have hB1 : Hid (Below w.heap.size w w1) := ((Below.refl _ _).alloc (Nat.le_refl _) _).trans (hb1.mono (by simp))
  go_wp2
  have hz1 : w.heap.size < w.heap.size + 1 := by omega
  refine bodyPost_ret (by simp [results, Try.results4, go_sem, hc1, hz1, hl1]) rfl ⟨rfl, ?_⟩
  have hB : Below w.heap.size w w1 := hB1.out
  clear hc1 hf1 hb1 hB1
  (repeat' (first | (with_reducible exact Below.refl _ _) | (with_reducible assumption) | (with_reducible refine Below.setCell ?_ ?_ _) | (with_reducible refine Below.alloc ?_ ?_ _) | (with_reducible refine below_drewN ?_ _) | (with_reducible refine Below.drew ?_) | (with_reducible exact Nat.le_refl _) | omega | (simp; done) | (simp; omega)))

set_option maxHeartbeats 800000 in
theorem sp_stray_m (s : ByteArray) (n k : Nat) (w : World) (h : s.size ≤ 4000) (h0 : 0 < s.size) (hne : s.toList.isEmpty = false) (hm : (((s[0].toNat : Nat) : Int) == 45) = true)
    (hn : 1 ≤ n) (hlt : 1 + n < s.size) (hsl : (((s[1 + n].toNat : Nat) : Int) == 47) = false) (hd1 : ∀ (q : Int) w, q = 1 → Calls Try.prog 8 #[.string s, .int .i64 q] w fun e w' => e = .returned (.int .i64 n) ∧ w' = w) :
    Calls Try.prog 4 #[.string s] w fun e w' => e = .returned (.agg #[.int .i64 5, .int .i64 (1 + n), .int .i64 0, .int .i64 0]) ∧ Below w.heap.size w w' := by
  go_enter Try.func4, Try.ntmps4
  go_wp2_with (fail)
  refine (hd1 _ _ (by omega)).mono ?_
  rintro e w' ⟨rfl, rfl⟩
  go_wp2_with (fail)
  refine (spec_textFault _ _ _ (by omega)).mono ?_
  rintro e w1 ⟨rfl, hb1⟩
  obtain ⟨hc1, hf1⟩ := bcell hb1
  have hl1 : w.heap.size < w1.heap.size := by have := hb1.size; simp at this; omega
  have hB1 : Hid (Below w.heap.size w w1) := ((Below.refl _ _).alloc (Nat.le_refl _) _).trans (hb1.mono (by simp))
  go_wp2
  have hz1 : w.heap.size < w.heap.size + 1 := by omega
  refine bodyPost_ret (by simp [results, Try.results4, go_sem, hc1, hz1, hl1]) rfl ⟨rfl, ?_⟩
  have hB : Below w.heap.size w w1 := hB1.out
  clear hc1 hf1 hb1 hB1
  (repeat' (first | (with_reducible exact Below.refl _ _) | (with_reducible assumption) | (with_reducible refine Below.setCell ?_ ?_ _) | (with_reducible refine Below.alloc ?_ ?_ _) | (with_reducible refine below_drewN ?_ _) | (with_reducible refine Below.drew ?_) | (with_reducible exact Nat.le_refl _) | omega | (simp; done) | (simp; omega)))

set_option maxHeartbeats 800000 in
theorem sp_k0_m (s : ByteArray) (n k : Nat) (w : World) (h : s.size ≤ 4000) (h0 : 0 < s.size) (hne : s.toList.isEmpty = false) (hm : (((s[0].toNat : Nat) : Int) == 45) = true)
    (hn : 1 ≤ n) (hlt : 1 + n < s.size) (hsl : (((s[1 + n].toNat : Nat) : Int) == 47) = true) (hd1 : ∀ (q : Int) w, q = 1 → Calls Try.prog 8 #[.string s, .int .i64 q] w fun e w' => e = .returned (.int .i64 n) ∧ w' = w) (hd2 : ∀ (q : Int) w, q = 1 + n + 1 → Calls Try.prog 8 #[.string s, .int .i64 q] w fun e w' => e = .returned (.int .i64 0) ∧ w' = w) :
    Calls Try.prog 4 #[.string s] w fun e w' => e = .returned (.agg #[.int .i64 5, .int .i64 (1 + n + 1), .int .i64 0, .int .i64 0]) ∧ Below w.heap.size w w' := by
  go_enter Try.func4, Try.ntmps4
  go_wp2_with (fail)
  refine (hd1 _ _ (by omega)).mono ?_
  rintro e w' ⟨rfl, rfl⟩
  go_wp2_with (fail)
  refine (hd2 _ _ (by omega)).mono ?_
  rintro e w' ⟨rfl, rfl⟩
  go_wp2_with (fail)
  refine (spec_textFault _ _ _ (by omega)).mono ?_
  rintro e w1 ⟨rfl, hb1⟩
  obtain ⟨hc1, hf1⟩ := bcell hb1
  have hl1 : w.heap.size < w1.heap.size := by have := hb1.size; simp at this; omega
  have hB1 : Hid (Below w.heap.size w w1) := ((Below.refl _ _).alloc (Nat.le_refl _) _).trans (hb1.mono (by simp))
  go_wp2
  have hz1 : w.heap.size < w.heap.size + 1 := by omega
  refine bodyPost_ret (by simp [results, Try.results4, go_sem, hc1, hz1, hl1]) rfl ⟨rfl, ?_⟩
  have hB : Below w.heap.size w w1 := hB1.out
  clear hc1 hf1 hb1 hB1
  (repeat' (first | (with_reducible exact Below.refl _ _) | (with_reducible assumption) | (with_reducible refine Below.setCell ?_ ?_ _) | (with_reducible refine Below.alloc ?_ ?_ _) | (with_reducible refine below_drewN ?_ _) | (with_reducible refine Below.drew ?_) | (with_reducible exact Nat.le_refl _) | omega | (simp; done) | (simp; omega)))

set_option maxHeartbeats 800000 in
theorem sp_kstray_m (s : ByteArray) (n k : Nat) (w : World) (h : s.size ≤ 4000) (h0 : 0 < s.size) (hne : s.toList.isEmpty = false) (hm : (((s[0].toNat : Nat) : Int) == 45) = true)
    (hn : 1 ≤ n) (hk : 1 ≤ k) (hlt : 1 + n < s.size) (hsl : (((s[1 + n].toNat : Nat) : Int) == 47) = true) (hlt2 : 1 + n + 1 + k < s.size) (hd1 : ∀ (q : Int) w, q = 1 → Calls Try.prog 8 #[.string s, .int .i64 q] w fun e w' => e = .returned (.int .i64 n) ∧ w' = w) (hd2 : ∀ (q : Int) w, q = 1 + n + 1 → Calls Try.prog 8 #[.string s, .int .i64 q] w fun e w' => e = .returned (.int .i64 k) ∧ w' = w) :
    Calls Try.prog 4 #[.string s] w fun e w' => e = .returned (.agg #[.int .i64 5, .int .i64 (1 + n + 1 + k), .int .i64 0, .int .i64 0]) ∧ Below w.heap.size w w' := by
  go_enter Try.func4, Try.ntmps4
  go_wp2_with (fail)
  refine (hd1 _ _ (by omega)).mono ?_
  rintro e w' ⟨rfl, rfl⟩
  go_wp2_with (fail)
  refine (hd2 _ _ (by omega)).mono ?_
  rintro e w' ⟨rfl, rfl⟩
  go_wp2_with (fail)
  refine (spec_textFault _ _ _ (by omega)).mono ?_
  rintro e w1 ⟨rfl, hb1⟩
  obtain ⟨hc1, hf1⟩ := bcell hb1
  have hl1 : w.heap.size < w1.heap.size := by have := hb1.size; simp at this; omega
  have hB1 : Hid (Below w.heap.size w w1) := ((Below.refl _ _).alloc (Nat.le_refl _) _).trans (hb1.mono (by simp))
  go_wp2
  have hz1 : w.heap.size < w.heap.size + 1 := by omega
  refine bodyPost_ret (by simp [results, Try.results4, go_sem, hc1, hz1, hl1]) rfl ⟨rfl, ?_⟩
  have hB : Below w.heap.size w w1 := hB1.out
  clear hc1 hf1 hb1 hB1
  (repeat' (first | (with_reducible exact Below.refl _ _) | (with_reducible assumption) | (with_reducible refine Below.setCell ?_ ?_ _) | (with_reducible refine Below.alloc ?_ ?_ _) | (with_reducible refine below_drewN ?_ _) | (with_reducible refine Below.drew ?_) | (with_reducible exact Nat.le_refl _) | omega | (simp; done) | (simp; omega)))

set_option maxHeartbeats 800000 in
theorem sp_n0_p (s : ByteArray) (n k : Nat) (w : World) (h : s.size ≤ 4000) (h0 : 0 < s.size) (hne : s.toList.isEmpty = false) (hm : (((s[0].toNat : Nat) : Int) == 45) = false)
    (hd1 : ∀ (q : Int) w, q = 0 → Calls Try.prog 8 #[.string s, .int .i64 q] w fun e w' => e = .returned (.int .i64 0) ∧ w' = w) :
    Calls Try.prog 4 #[.string s] w fun e w' => e = .returned (.agg #[.int .i64 5, .int .i64 (0), .int .i64 0, .int .i64 0]) ∧ Below w.heap.size w w' := by
  go_enter Try.func4, Try.ntmps4
  go_wp2_with (fail)
  refine (hd1 _ _ (by omega)).mono ?_
  rintro e w' ⟨rfl, rfl⟩
  go_wp2_with (fail)
  refine (spec_textFault _ _ _ (by omega)).mono ?_
  rintro e w1 ⟨rfl, hb1⟩
  obtain ⟨hc1, hf1⟩ := bcell hb1
  have hl1 : w.heap.size < w1.heap.size := by have := hb1.size; simp at this; omega
  have hB1 : Hid (Below w.heap.size w w1) := ((Below.refl _ _).alloc (Nat.le_refl _) _).trans (hb1.mono (by simp))
  go_wp2
  have hz1 : w.heap.size < w.heap.size + 1 := by omega
  refine bodyPost_ret (by simp [results, Try.results4, go_sem, hc1, hz1, hl1]) rfl ⟨rfl, ?_⟩
  have hB : Below w.heap.size w w1 := hB1.out
  clear hc1 hf1 hb1 hB1
  (repeat' (first | (with_reducible exact Below.refl _ _) | (with_reducible assumption) | (with_reducible refine Below.setCell ?_ ?_ _) | (with_reducible refine Below.alloc ?_ ?_ _) | (with_reducible refine below_drewN ?_ _) | (with_reducible refine Below.drew ?_) | (with_reducible exact Nat.le_refl _) | omega | (simp; done) | (simp; omega)))

set_option maxHeartbeats 800000 in
theorem sp_stray_p (s : ByteArray) (n k : Nat) (w : World) (h : s.size ≤ 4000) (h0 : 0 < s.size) (hne : s.toList.isEmpty = false) (hm : (((s[0].toNat : Nat) : Int) == 45) = false)
    (hn : 1 ≤ n) (hlt : n < s.size) (hsl : (((s[n].toNat : Nat) : Int) == 47) = false) (hd1 : ∀ (q : Int) w, q = 0 → Calls Try.prog 8 #[.string s, .int .i64 q] w fun e w' => e = .returned (.int .i64 n) ∧ w' = w) :
    Calls Try.prog 4 #[.string s] w fun e w' => e = .returned (.agg #[.int .i64 5, .int .i64 (n), .int .i64 0, .int .i64 0]) ∧ Below w.heap.size w w' := by
  go_enter Try.func4, Try.ntmps4
  go_wp2_with (fail)
  refine (hd1 _ _ (by omega)).mono ?_
  rintro e w' ⟨rfl, rfl⟩
  go_wp2_with (fail)
  refine (spec_textFault _ _ _ (by omega)).mono ?_
  rintro e w1 ⟨rfl, hb1⟩
  obtain ⟨hc1, hf1⟩ := bcell hb1
  have hl1 : w.heap.size < w1.heap.size := by have := hb1.size; simp at this; omega
  have hB1 : Hid (Below w.heap.size w w1) := ((Below.refl _ _).alloc (Nat.le_refl _) _).trans (hb1.mono (by simp))
  go_wp2
  have hz1 : w.heap.size < w.heap.size + 1 := by omega
  refine bodyPost_ret (by simp [results, Try.results4, go_sem, hc1, hz1, hl1]) rfl ⟨rfl, ?_⟩
  have hB : Below w.heap.size w w1 := hB1.out
  clear hc1 hf1 hb1 hB1
  (repeat' (first | (with_reducible exact Below.refl _ _) | (with_reducible assumption) | (with_reducible refine Below.setCell ?_ ?_ _) | (with_reducible refine Below.alloc ?_ ?_ _) | (with_reducible refine below_drewN ?_ _) | (with_reducible refine Below.drew ?_) | (with_reducible exact Nat.le_refl _) | omega | (simp; done) | (simp; omega)))

set_option maxHeartbeats 800000 in
theorem sp_k0_p (s : ByteArray) (n k : Nat) (w : World) (h : s.size ≤ 4000) (h0 : 0 < s.size) (hne : s.toList.isEmpty = false) (hm : (((s[0].toNat : Nat) : Int) == 45) = false)
    (hn : 1 ≤ n) (hlt : n < s.size) (hsl : (((s[n].toNat : Nat) : Int) == 47) = true) (hd1 : ∀ (q : Int) w, q = 0 → Calls Try.prog 8 #[.string s, .int .i64 q] w fun e w' => e = .returned (.int .i64 n) ∧ w' = w) (hd2 : ∀ (q : Int) w, q = n + 1 → Calls Try.prog 8 #[.string s, .int .i64 q] w fun e w' => e = .returned (.int .i64 0) ∧ w' = w) :
    Calls Try.prog 4 #[.string s] w fun e w' => e = .returned (.agg #[.int .i64 5, .int .i64 (n + 1), .int .i64 0, .int .i64 0]) ∧ Below w.heap.size w w' := by
  go_enter Try.func4, Try.ntmps4
  go_wp2_with (fail)
  refine (hd1 _ _ (by omega)).mono ?_
  rintro e w' ⟨rfl, rfl⟩
  go_wp2_with (fail)
  refine (hd2 _ _ (by omega)).mono ?_
  rintro e w' ⟨rfl, rfl⟩
  go_wp2_with (fail)
  refine (spec_textFault _ _ _ (by omega)).mono ?_
  rintro e w1 ⟨rfl, hb1⟩
  obtain ⟨hc1, hf1⟩ := bcell hb1
  have hl1 : w.heap.size < w1.heap.size := by have := hb1.size; simp at this; omega
  have hB1 : Hid (Below w.heap.size w w1) := ((Below.refl _ _).alloc (Nat.le_refl _) _).trans (hb1.mono (by simp))
  go_wp2
  have hz1 : w.heap.size < w.heap.size + 1 := by omega
  refine bodyPost_ret (by simp [results, Try.results4, go_sem, hc1, hz1, hl1]) rfl ⟨rfl, ?_⟩
  have hB : Below w.heap.size w w1 := hB1.out
  clear hc1 hf1 hb1 hB1
  (repeat' (first | (with_reducible exact Below.refl _ _) | (with_reducible assumption) | (with_reducible refine Below.setCell ?_ ?_ _) | (with_reducible refine Below.alloc ?_ ?_ _) | (with_reducible refine below_drewN ?_ _) | (with_reducible refine Below.drew ?_) | (with_reducible exact Nat.le_refl _) | omega | (simp; done) | (simp; omega)))

set_option maxHeartbeats 800000 in
theorem sp_kstray_p (s : ByteArray) (n k : Nat) (w : World) (h : s.size ≤ 4000) (h0 : 0 < s.size) (hne : s.toList.isEmpty = false) (hm : (((s[0].toNat : Nat) : Int) == 45) = false)
    (hn : 1 ≤ n) (hk : 1 ≤ k) (hlt : n < s.size) (hsl : (((s[n].toNat : Nat) : Int) == 47) = true) (hlt2 : n + 1 + k < s.size) (hd1 : ∀ (q : Int) w, q = 0 → Calls Try.prog 8 #[.string s, .int .i64 q] w fun e w' => e = .returned (.int .i64 n) ∧ w' = w) (hd2 : ∀ (q : Int) w, q = n + 1 → Calls Try.prog 8 #[.string s, .int .i64 q] w fun e w' => e = .returned (.int .i64 k) ∧ w' = w) :
    Calls Try.prog 4 #[.string s] w fun e w' => e = .returned (.agg #[.int .i64 5, .int .i64 (n + 1 + k), .int .i64 0, .int .i64 0]) ∧ Below w.heap.size w w' := by
  go_enter Try.func4, Try.ntmps4
  go_wp2_with (fail)
  refine (hd1 _ _ (by omega)).mono ?_
  rintro e w' ⟨rfl, rfl⟩
  go_wp2_with (fail)
  refine (hd2 _ _ (by omega)).mono ?_
  rintro e w' ⟨rfl, rfl⟩
  go_wp2_with (fail)
  refine (spec_textFault _ _ _ (by omega)).mono ?_
  rintro e w1 ⟨rfl, hb1⟩
  obtain ⟨hc1, hf1⟩ := bcell hb1
  have hl1 : w.heap.size < w1.heap.size := by have := hb1.size; simp at this; omega
  have hB1 : Hid (Below w.heap.size w w1) := ((Below.refl _ _).alloc (Nat.le_refl _) _).trans (hb1.mono (by simp))
  go_wp2
  have hz1 : w.heap.size < w.heap.size + 1 := by omega
  refine bodyPost_ret (by simp [results, Try.results4, go_sem, hc1, hz1, hl1]) rfl ⟨rfl, ?_⟩
  have hB : Below w.heap.size w w1 := hB1.out
  clear hc1 hf1 hb1 hB1
  (repeat' (first | (with_reducible exact Below.refl _ _) | (with_reducible assumption) | (with_reducible refine Below.setCell ?_ ?_ _) | (with_reducible refine Below.alloc ?_ ?_ _) | (with_reducible refine below_drewN ?_ _) | (with_reducible refine Below.drew ?_) | (with_reducible exact Nat.le_refl _) | omega | (simp; done) | (simp; omega)))

end Go.Proofs.Ytcojhkpdlmldcaa
