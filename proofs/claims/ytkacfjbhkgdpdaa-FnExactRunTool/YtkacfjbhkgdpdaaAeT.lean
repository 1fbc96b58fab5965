/- Proved here: afterEvent of the program, by the state: taC and the rest. -/
import Derived.Test.YtkacfjbhkgdpdaaAeI
import Derived.Test.YtkacfjbhkgdpdaaEvL
import Derived.Test.YtkacfjbhkgdpdaaTaN
namespace Go.Proofs.Ytkacfjbhkgdpdaa
open Go.RowKit
set_option linter.unusedVariables false
set_option linter.unusedSimpArgs false


set_option maxRecDepth 10000 in
set_option maxHeartbeats 6400000 in
theorem ae_3 (R : ByteArray) (S U L : Int) (Q : Bool) (a : Option Addr) (n c : Nat) (k : Int) (er : ByteArray) (es : Int) (s : List Ap) (w : World) (hn : n ≤ 1048576) (hU : 0 ≤ U ∧ U ≤ 1000) (h : RG 2 apC w (.slice a n c) s) :
    Calls Try.prog 34 #[.iface 99 (.agg #[.int .i64 3, .string R, .int .i64 S, .int .i64 U, .int .i64 L, .bool Q, .slice a n c]), .agg #[.int .i64 k, .string er, .int .i64 es]] w fun e w' => e = .returned (.agg #[.int .i64 (taC 3 U L Q k (apB s er es)), .int .i64 (onI (taC 3 U L Q k (apB s er es)) (taA k)), .string (onS (taC 3 U L Q k (apB s er es)) (taR k R er)), .int .i64 (onI (taC 3 U L Q k (apB s er es)) (taS k S es)), .int .i64 (onI (taC 3 U L Q k (apB s er es)) (taU 3 U k)), .int .i64 (onI (taC 3 U L Q k (apB s er es)) L), .bool (onB (taC 3 U L Q k (apB s er es)) (taQ k Q)), onV (taC 3 U L Q k (apB s er es)) (.slice a n c)]) ∧ Below w.heap.size w w' := by
  by_cases hk : ¬ (1 ≤ k ∧ k ≤ 9)
  · refine (ae_no 99 (.agg #[.int .i64 3, .string R, .int .i64 S, .int .i64 U, .int .i64 L, .bool Q, .slice a n c]) k er es 5 (by decide) (fun w => ev_none 99 (.agg #[.int .i64 3, .string R, .int .i64 S, .int .i64 U, .int .i64 L, .bool Q, .slice a n c]) k hk w) w).mono ?_
    rintro e w' ⟨rfl, hb⟩
    refine ⟨?_, hb⟩
    have hC : taC 3 U L Q k (apB s er es) = 5 := by unfold taC; rw [if_pos hk]
    rw [hC]
    simp [onI, onS, onB, onV]
  rcases (by omega : k = 1 ∨ k = 2 ∨ k = 3 ∨ k = 4 ∨ k = 5 ∨ k = 6 ∨ k = 7 ∨ k = 8 ∨ k = 9) with rfl | rfl | rfl | rfl | rfl | rfl | rfl | rfl | rfl
  · refine (ae_no 99 (.agg #[.int .i64 3, .string R, .int .i64 S, .int .i64 U, .int .i64 L, .bool Q, .slice a n c]) 1 er es 1 (by decide) (fun w => ev_power_n 99 (.agg #[.int .i64 3, .string R, .int .i64 S, .int .i64 U, .int .i64 L, .bool Q, .slice a n c]) (fun w => as_power_3 _ w) w) w).mono ?_
    rintro e w' ⟨rfl, hb⟩
    refine ⟨?_, hb⟩
    simp [taC, mayB, taA, taR, taS, taU, taQ, onI, onS, onB, onV]
  · refine (ae_no 99 (.agg #[.int .i64 3, .string R, .int .i64 S, .int .i64 U, .int .i64 L, .bool Q, .slice a n c]) 2 er es 1 (by decide) (fun w => ev_load_n 99 (.agg #[.int .i64 3, .string R, .int .i64 S, .int .i64 U, .int .i64 L, .bool Q, .slice a n c]) (fun w => as_load_3 _ w) w) w).mono ?_
    rintro e w' ⟨rfl, hb⟩
    refine ⟨?_, hb⟩
    simp [taC, mayB, taA, taR, taS, taU, taQ, onI, onS, onB, onV]
  · refine (ae_no 99 (.agg #[.int .i64 3, .string R, .int .i64 S, .int .i64 U, .int .i64 L, .bool Q, .slice a n c]) 3 er es 1 (by decide) (fun w => ev_start_n 99 (.agg #[.int .i64 3, .string R, .int .i64 S, .int .i64 U, .int .i64 L, .bool Q, .slice a n c]) (fun w => as_start_3 _ w) w) w).mono ?_
    rintro e w' ⟨rfl, hb⟩
    refine ⟨?_, hb⟩
    simp [taC, mayB, taA, taR, taS, taU, taQ, onI, onS, onB, onV]
  · refine (ae_meas 99 (.agg #[.int .i64 3, .string R, .int .i64 S, .int .i64 U, .int .i64 L, .bool Q, .slice a n c]) 4 er es "loop.example/g00057/impl.end" 90 91 0 1 ⟨#[]⟩ 0 U L Q a n c (U + 1) (fun w => ev_end_y 99 (.agg #[.int .i64 3, .string R, .int .i64 S, .int .i64 U, .int .i64 L, .bool Q, .slice a n c]) (fun w => as_end_3 _ w) w) (fun w => by kernel_rfl) (fun args w => by kernel_rfl) w (fun w1 hw1 => mt_end 3 R S U L Q a n c 4 er es w1) (fun w => as_measured_3 _ w) (fun w => by kernel_rfl) (fun args w => by kernel_rfl) (fun w => mt_measured 3 R S U L Q a n c w hU)).mono ?_
    rintro e w' ⟨rfl, hb⟩
    refine ⟨?_, hb⟩
    simp [taC, mayB, taA, taR, taS, taU, taQ, onI, onS, onB, onV]
  · refine (ae_meas 99 (.agg #[.int .i64 3, .string R, .int .i64 S, .int .i64 U, .int .i64 L, .bool Q, .slice a n c]) 5 er es "loop.example/g00057/impl.trip" 85 91 0 4 ⟨#[]⟩ 0 U L Q a n c (U + 1) (fun w => ev_trip_y 99 (.agg #[.int .i64 3, .string R, .int .i64 S, .int .i64 U, .int .i64 L, .bool Q, .slice a n c]) (fun w => as_trip_3 _ w) w) (fun w => by kernel_rfl) (fun args w => by kernel_rfl) w (fun w1 hw1 => mt_trip 3 R S U L Q a n c 5 er es w1) (fun w => as_measured_3 _ w) (fun w => by kernel_rfl) (fun args w => by kernel_rfl) (fun w => mt_measured 3 R S U L Q a n c w hU)).mono ?_
    rintro e w' ⟨rfl, hb⟩
    refine ⟨?_, hb⟩
    simp [taC, mayB, taA, taR, taS, taU, taQ, onI, onS, onB, onV]
  · refine (ae_no 99 (.agg #[.int .i64 3, .string R, .int .i64 S, .int .i64 U, .int .i64 L, .bool Q, .slice a n c]) 6 er es 1 (by decide) (fun w => ev_clear_n 99 (.agg #[.int .i64 3, .string R, .int .i64 S, .int .i64 U, .int .i64 L, .bool Q, .slice a n c]) (fun w => as_clear_3 _ w) w) w).mono ?_
    rintro e w' ⟨rfl, hb⟩
    refine ⟨?_, hb⟩
    simp [taC, mayB, taA, taR, taS, taU, taQ, onI, onS, onB, onV]
  · refine (ae_no 99 (.agg #[.int .i64 3, .string R, .int .i64 S, .int .i64 U, .int .i64 L, .bool Q, .slice a n c]) 7 er es 1 (by decide) (fun w => ev_service_n 99 (.agg #[.int .i64 3, .string R, .int .i64 S, .int .i64 U, .int .i64 L, .bool Q, .slice a n c]) (fun w => as_service_3 _ w) w) w).mono ?_
    rintro e w' ⟨rfl, hb⟩
    refine ⟨?_, hb⟩
    simp [taC, mayB, taA, taR, taS, taU, taQ, onI, onS, onB, onV]
  · refine (ae_no 99 (.agg #[.int .i64 3, .string R, .int .i64 S, .int .i64 U, .int .i64 L, .bool Q, .slice a n c]) 8 er es 1 (by decide) (fun w => ev_qualify_n 99 (.agg #[.int .i64 3, .string R, .int .i64 S, .int .i64 U, .int .i64 L, .bool Q, .slice a n c]) (fun w => as_qualify_3 _ w) w) w).mono ?_
    rintro e w' ⟨rfl, hb⟩
    refine ⟨?_, hb⟩
    simp [taC, mayB, taA, taR, taS, taU, taQ, onI, onS, onB, onV]
  · refine (ae_meas 99 (.agg #[.int .i64 3, .string R, .int .i64 S, .int .i64 U, .int .i64 L, .bool Q, .slice a n c]) 9 er es "loop.example/g00057/impl.fail" 82 91 0 6 ⟨#[]⟩ 0 U L false a n c (U + 1) (fun w => ev_fail 99 (.agg #[.int .i64 3, .string R, .int .i64 S, .int .i64 U, .int .i64 L, .bool Q, .slice a n c]) w) (fun w => by kernel_rfl) (fun args w => by kernel_rfl) w (fun w1 hw1 => mt_fail 3 R S U L Q a n c 9 er es w1) (fun w => as_measured_3 _ w) (fun w => by kernel_rfl) (fun args w => by kernel_rfl) (fun w => mt_measured 3 R S U L Q a n c w hU)).mono ?_
    rintro e w' ⟨rfl, hb⟩
    refine ⟨?_, hb⟩
    simp [taC, mayB, taA, taR, taS, taU, taQ, onI, onS, onB, onV]

set_option maxRecDepth 10000 in
set_option maxHeartbeats 6400000 in
theorem ae_4 (R : ByteArray) (S U L : Int) (Q : Bool) (a : Option Addr) (n c : Nat) (k : Int) (er : ByteArray) (es : Int) (s : List Ap) (w : World) (hn : n ≤ 1048576) (hU : 0 ≤ U ∧ U ≤ 1000) (h : RG 2 apC w (.slice a n c) s) :
    Calls Try.prog 34 #[.iface 100 (.agg #[.int .i64 4, .string R, .int .i64 S, .int .i64 U, .int .i64 L, .bool Q, .slice a n c]), .agg #[.int .i64 k, .string er, .int .i64 es]] w fun e w' => e = .returned (.agg #[.int .i64 (taC 4 U L Q k (apB s er es)), .int .i64 (onI (taC 4 U L Q k (apB s er es)) (taA k)), .string (onS (taC 4 U L Q k (apB s er es)) (taR k R er)), .int .i64 (onI (taC 4 U L Q k (apB s er es)) (taS k S es)), .int .i64 (onI (taC 4 U L Q k (apB s er es)) (taU 4 U k)), .int .i64 (onI (taC 4 U L Q k (apB s er es)) L), .bool (onB (taC 4 U L Q k (apB s er es)) (taQ k Q)), onV (taC 4 U L Q k (apB s er es)) (.slice a n c)]) ∧ Below w.heap.size w w' := by
  by_cases hk : ¬ (1 ≤ k ∧ k ≤ 9)
  · refine (ae_no 100 (.agg #[.int .i64 4, .string R, .int .i64 S, .int .i64 U, .int .i64 L, .bool Q, .slice a n c]) k er es 5 (by decide) (fun w => ev_none 100 (.agg #[.int .i64 4, .string R, .int .i64 S, .int .i64 U, .int .i64 L, .bool Q, .slice a n c]) k hk w) w).mono ?_
    rintro e w' ⟨rfl, hb⟩
    refine ⟨?_, hb⟩
    have hC : taC 4 U L Q k (apB s er es) = 5 := by unfold taC; rw [if_pos hk]
    rw [hC]
    simp [onI, onS, onB, onV]
  rcases (by omega : k = 1 ∨ k = 2 ∨ k = 3 ∨ k = 4 ∨ k = 5 ∨ k = 6 ∨ k = 7 ∨ k = 8 ∨ k = 9) with rfl | rfl | rfl | rfl | rfl | rfl | rfl | rfl | rfl
  · refine (ae_no 100 (.agg #[.int .i64 4, .string R, .int .i64 S, .int .i64 U, .int .i64 L, .bool Q, .slice a n c]) 1 er es 1 (by decide) (fun w => ev_power_n 100 (.agg #[.int .i64 4, .string R, .int .i64 S, .int .i64 U, .int .i64 L, .bool Q, .slice a n c]) (fun w => as_power_4 _ w) w) w).mono ?_
    rintro e w' ⟨rfl, hb⟩
    refine ⟨?_, hb⟩
    simp [taC, mayB, taA, taR, taS, taU, taQ, onI, onS, onB, onV]
  · refine (ae_no 100 (.agg #[.int .i64 4, .string R, .int .i64 S, .int .i64 U, .int .i64 L, .bool Q, .slice a n c]) 2 er es 1 (by decide) (fun w => ev_load_n 100 (.agg #[.int .i64 4, .string R, .int .i64 S, .int .i64 U, .int .i64 L, .bool Q, .slice a n c]) (fun w => as_load_4 _ w) w) w).mono ?_
    rintro e w' ⟨rfl, hb⟩
    refine ⟨?_, hb⟩
    simp [taC, mayB, taA, taR, taS, taU, taQ, onI, onS, onB, onV]
  · refine (ae_no 100 (.agg #[.int .i64 4, .string R, .int .i64 S, .int .i64 U, .int .i64 L, .bool Q, .slice a n c]) 3 er es 1 (by decide) (fun w => ev_start_n 100 (.agg #[.int .i64 4, .string R, .int .i64 S, .int .i64 U, .int .i64 L, .bool Q, .slice a n c]) (fun w => as_start_4 _ w) w) w).mono ?_
    rintro e w' ⟨rfl, hb⟩
    refine ⟨?_, hb⟩
    simp [taC, mayB, taA, taR, taS, taU, taQ, onI, onS, onB, onV]
  · refine (ae_no 100 (.agg #[.int .i64 4, .string R, .int .i64 S, .int .i64 U, .int .i64 L, .bool Q, .slice a n c]) 4 er es 1 (by decide) (fun w => ev_end_n 100 (.agg #[.int .i64 4, .string R, .int .i64 S, .int .i64 U, .int .i64 L, .bool Q, .slice a n c]) (fun w => as_end_4 _ w) w) w).mono ?_
    rintro e w' ⟨rfl, hb⟩
    refine ⟨?_, hb⟩
    simp [taC, mayB, taA, taR, taS, taU, taQ, onI, onS, onB, onV]
  · refine (ae_no 100 (.agg #[.int .i64 4, .string R, .int .i64 S, .int .i64 U, .int .i64 L, .bool Q, .slice a n c]) 5 er es 1 (by decide) (fun w => ev_trip_n 100 (.agg #[.int .i64 4, .string R, .int .i64 S, .int .i64 U, .int .i64 L, .bool Q, .slice a n c]) (fun w => as_trip_4 _ w) w) w).mono ?_
    rintro e w' ⟨rfl, hb⟩
    refine ⟨?_, hb⟩
    simp [taC, mayB, taA, taR, taS, taU, taQ, onI, onS, onB, onV]
  · refine (ae_plain 100 (.agg #[.int .i64 4, .string R, .int .i64 S, .int .i64 U, .int .i64 L, .bool Q, .slice a n c]) 6 er es "loop.example/g00057/impl.clear" 92 0 0 1 ⟨#[]⟩ 0 U L Q a n c 0 (fun w => ev_clear_y 100 (.agg #[.int .i64 4, .string R, .int .i64 S, .int .i64 U, .int .i64 L, .bool Q, .slice a n c]) (fun w => as_clear_4 _ w) w) (fun w => by kernel_rfl) (fun args w => by kernel_rfl) w (fun w1 hw1 => mt_clear 4 R S U L Q a n c 6 er es w1) (fun w => as_measured_4 _ w)).mono ?_
    rintro e w' ⟨rfl, hb⟩
    refine ⟨?_, hb⟩
    simp [taC, mayB, taA, taR, taS, taU, taQ, onI, onS, onB, onV]
  · refine (ae_plain 100 (.agg #[.int .i64 4, .string R, .int .i64 S, .int .i64 U, .int .i64 L, .bool Q, .slice a n c]) 7 er es "loop.example/g00057/impl.service" 93 0 0 5 ⟨#[]⟩ 0 U L false a n c 0 (fun w => ev_service_y 100 (.agg #[.int .i64 4, .string R, .int .i64 S, .int .i64 U, .int .i64 L, .bool Q, .slice a n c]) (fun w => as_service_4 _ w) w) (fun w => by kernel_rfl) (fun args w => by kernel_rfl) w (fun w1 hw1 => mt_service_alarm 4 R S U L Q a n c 7 er es w1) (fun w => as_measured_4 _ w)).mono ?_
    rintro e w' ⟨rfl, hb⟩
    refine ⟨?_, hb⟩
    simp [taC, mayB, taA, taR, taS, taU, taQ, onI, onS, onB, onV]
  · refine (ae_no 100 (.agg #[.int .i64 4, .string R, .int .i64 S, .int .i64 U, .int .i64 L, .bool Q, .slice a n c]) 8 er es 1 (by decide) (fun w => ev_qualify_n 100 (.agg #[.int .i64 4, .string R, .int .i64 S, .int .i64 U, .int .i64 L, .bool Q, .slice a n c]) (fun w => as_qualify_4 _ w) w) w).mono ?_
    rintro e w' ⟨rfl, hb⟩
    refine ⟨?_, hb⟩
    simp [taC, mayB, taA, taR, taS, taU, taQ, onI, onS, onB, onV]
  · refine (ae_plain 100 (.agg #[.int .i64 4, .string R, .int .i64 S, .int .i64 U, .int .i64 L, .bool Q, .slice a n c]) 9 er es "loop.example/g00057/impl.fail" 82 0 0 6 ⟨#[]⟩ 0 U L false a n c 0 (fun w => ev_fail 100 (.agg #[.int .i64 4, .string R, .int .i64 S, .int .i64 U, .int .i64 L, .bool Q, .slice a n c]) w) (fun w => by kernel_rfl) (fun args w => by kernel_rfl) w (fun w1 hw1 => mt_fail 4 R S U L Q a n c 9 er es w1) (fun w => as_measured_4 _ w)).mono ?_
    rintro e w' ⟨rfl, hb⟩
    refine ⟨?_, hb⟩
    simp [taC, mayB, taA, taR, taS, taU, taQ, onI, onS, onB, onV]

set_option maxRecDepth 10000 in
set_option maxHeartbeats 6400000 in
theorem ae_5 (R : ByteArray) (S U L : Int) (Q : Bool) (a : Option Addr) (n c : Nat) (k : Int) (er : ByteArray) (es : Int) (s : List Ap) (w : World) (hn : n ≤ 1048576) (hU : 0 ≤ U ∧ U ≤ 1000) (h : RG 2 apC w (.slice a n c) s) :
    Calls Try.prog 34 #[.iface 101 (.agg #[.int .i64 5, .string R, .int .i64 S, .int .i64 U, .int .i64 L, .bool Q, .slice a n c]), .agg #[.int .i64 k, .string er, .int .i64 es]] w fun e w' => e = .returned (.agg #[.int .i64 (taC 5 U L Q k (apB s er es)), .int .i64 (onI (taC 5 U L Q k (apB s er es)) (taA k)), .string (onS (taC 5 U L Q k (apB s er es)) (taR k R er)), .int .i64 (onI (taC 5 U L Q k (apB s er es)) (taS k S es)), .int .i64 (onI (taC 5 U L Q k (apB s er es)) (taU 5 U k)), .int .i64 (onI (taC 5 U L Q k (apB s er es)) L), .bool (onB (taC 5 U L Q k (apB s er es)) (taQ k Q)), onV (taC 5 U L Q k (apB s er es)) (.slice a n c)]) ∧ Below w.heap.size w w' := by
  by_cases hk : ¬ (1 ≤ k ∧ k ≤ 9)
  · refine (ae_no 101 (.agg #[.int .i64 5, .string R, .int .i64 S, .int .i64 U, .int .i64 L, .bool Q, .slice a n c]) k er es 5 (by decide) (fun w => ev_none 101 (.agg #[.int .i64 5, .string R, .int .i64 S, .int .i64 U, .int .i64 L, .bool Q, .slice a n c]) k hk w) w).mono ?_
    rintro e w' ⟨rfl, hb⟩
    refine ⟨?_, hb⟩
    have hC : taC 5 U L Q k (apB s er es) = 5 := by unfold taC; rw [if_pos hk]
    rw [hC]
    simp [onI, onS, onB, onV]
  rcases (by omega : k = 1 ∨ k = 2 ∨ k = 3 ∨ k = 4 ∨ k = 5 ∨ k = 6 ∨ k = 7 ∨ k = 8 ∨ k = 9) with rfl | rfl | rfl | rfl | rfl | rfl | rfl | rfl | rfl
  · refine (ae_no 101 (.agg #[.int .i64 5, .string R, .int .i64 S, .int .i64 U, .int .i64 L, .bool Q, .slice a n c]) 1 er es 1 (by decide) (fun w => ev_power_n 101 (.agg #[.int .i64 5, .string R, .int .i64 S, .int .i64 U, .int .i64 L, .bool Q, .slice a n c]) (fun w => as_power_5 _ w) w) w).mono ?_
    rintro e w' ⟨rfl, hb⟩
    refine ⟨?_, hb⟩
    simp [taC, mayB, taA, taR, taS, taU, taQ, onI, onS, onB, onV]
  · refine (ae_no 101 (.agg #[.int .i64 5, .string R, .int .i64 S, .int .i64 U, .int .i64 L, .bool Q, .slice a n c]) 2 er es 1 (by decide) (fun w => ev_load_n 101 (.agg #[.int .i64 5, .string R, .int .i64 S, .int .i64 U, .int .i64 L, .bool Q, .slice a n c]) (fun w => as_load_5 _ w) w) w).mono ?_
    rintro e w' ⟨rfl, hb⟩
    refine ⟨?_, hb⟩
    simp [taC, mayB, taA, taR, taS, taU, taQ, onI, onS, onB, onV]
  · refine (ae_no 101 (.agg #[.int .i64 5, .string R, .int .i64 S, .int .i64 U, .int .i64 L, .bool Q, .slice a n c]) 3 er es 1 (by decide) (fun w => ev_start_n 101 (.agg #[.int .i64 5, .string R, .int .i64 S, .int .i64 U, .int .i64 L, .bool Q, .slice a n c]) (fun w => as_start_5 _ w) w) w).mono ?_
    rintro e w' ⟨rfl, hb⟩
    refine ⟨?_, hb⟩
    simp [taC, mayB, taA, taR, taS, taU, taQ, onI, onS, onB, onV]
  · refine (ae_no 101 (.agg #[.int .i64 5, .string R, .int .i64 S, .int .i64 U, .int .i64 L, .bool Q, .slice a n c]) 4 er es 1 (by decide) (fun w => ev_end_n 101 (.agg #[.int .i64 5, .string R, .int .i64 S, .int .i64 U, .int .i64 L, .bool Q, .slice a n c]) (fun w => as_end_5 _ w) w) w).mono ?_
    rintro e w' ⟨rfl, hb⟩
    refine ⟨?_, hb⟩
    simp [taC, mayB, taA, taR, taS, taU, taQ, onI, onS, onB, onV]
  · refine (ae_no 101 (.agg #[.int .i64 5, .string R, .int .i64 S, .int .i64 U, .int .i64 L, .bool Q, .slice a n c]) 5 er es 1 (by decide) (fun w => ev_trip_n 101 (.agg #[.int .i64 5, .string R, .int .i64 S, .int .i64 U, .int .i64 L, .bool Q, .slice a n c]) (fun w => as_trip_5 _ w) w) w).mono ?_
    rintro e w' ⟨rfl, hb⟩
    refine ⟨?_, hb⟩
    simp [taC, mayB, taA, taR, taS, taU, taQ, onI, onS, onB, onV]
  · refine (ae_no 101 (.agg #[.int .i64 5, .string R, .int .i64 S, .int .i64 U, .int .i64 L, .bool Q, .slice a n c]) 6 er es 1 (by decide) (fun w => ev_clear_n 101 (.agg #[.int .i64 5, .string R, .int .i64 S, .int .i64 U, .int .i64 L, .bool Q, .slice a n c]) (fun w => as_clear_5 _ w) w) w).mono ?_
    rintro e w' ⟨rfl, hb⟩
    refine ⟨?_, hb⟩
    simp [taC, mayB, taA, taR, taS, taU, taQ, onI, onS, onB, onV]
  · refine (ae_no 101 (.agg #[.int .i64 5, .string R, .int .i64 S, .int .i64 U, .int .i64 L, .bool Q, .slice a n c]) 7 er es 1 (by decide) (fun w => ev_service_n 101 (.agg #[.int .i64 5, .string R, .int .i64 S, .int .i64 U, .int .i64 L, .bool Q, .slice a n c]) (fun w => as_service_5 _ w) w) w).mono ?_
    rintro e w' ⟨rfl, hb⟩
    refine ⟨?_, hb⟩
    simp [taC, mayB, taA, taR, taS, taU, taQ, onI, onS, onB, onV]
  · refine (ae_plain 101 (.agg #[.int .i64 5, .string R, .int .i64 S, .int .i64 U, .int .i64 L, .bool Q, .slice a n c]) 8 er es "loop.example/g00057/impl.qualify" 94 0 0 1 ⟨#[]⟩ 0 0 L true a n c 0 (fun w => ev_qualify_y 101 (.agg #[.int .i64 5, .string R, .int .i64 S, .int .i64 U, .int .i64 L, .bool Q, .slice a n c]) (fun w => as_qualify_5 _ w) w) (fun w => by kernel_rfl) (fun args w => by kernel_rfl) w (fun w1 hw1 => mt_qualify 5 R S U L Q a n c 8 er es w1) (fun w => as_measured_5 _ w)).mono ?_
    rintro e w' ⟨rfl, hb⟩
    refine ⟨?_, hb⟩
    simp [taC, mayB, taA, taR, taS, taU, taQ, onI, onS, onB, onV]
  · refine (ae_plain 101 (.agg #[.int .i64 5, .string R, .int .i64 S, .int .i64 U, .int .i64 L, .bool Q, .slice a n c]) 9 er es "loop.example/g00057/impl.fail" 82 0 0 6 ⟨#[]⟩ 0 U L false a n c 0 (fun w => ev_fail 101 (.agg #[.int .i64 5, .string R, .int .i64 S, .int .i64 U, .int .i64 L, .bool Q, .slice a n c]) w) (fun w => by kernel_rfl) (fun args w => by kernel_rfl) w (fun w1 hw1 => mt_fail 5 R S U L Q a n c 9 er es w1) (fun w => as_measured_5 _ w)).mono ?_
    rintro e w' ⟨rfl, hb⟩
    refine ⟨?_, hb⟩
    simp [taC, mayB, taA, taR, taS, taU, taQ, onI, onS, onB, onV]

set_option maxRecDepth 10000 in
set_option maxHeartbeats 6400000 in
theorem ae_6 (R : ByteArray) (S U L : Int) (Q : Bool) (a : Option Addr) (n c : Nat) (k : Int) (er : ByteArray) (es : Int) (s : List Ap) (w : World) (hn : n ≤ 1048576) (hU : 0 ≤ U ∧ U ≤ 1000) (h : RG 2 apC w (.slice a n c) s) :
    Calls Try.prog 34 #[.iface 102 (.agg #[.int .i64 6, .string R, .int .i64 S, .int .i64 U, .int .i64 L, .bool Q, .slice a n c]), .agg #[.int .i64 k, .string er, .int .i64 es]] w fun e w' => e = .returned (.agg #[.int .i64 (taC 6 U L Q k (apB s er es)), .int .i64 (onI (taC 6 U L Q k (apB s er es)) (taA k)), .string (onS (taC 6 U L Q k (apB s er es)) (taR k R er)), .int .i64 (onI (taC 6 U L Q k (apB s er es)) (taS k S es)), .int .i64 (onI (taC 6 U L Q k (apB s er es)) (taU 6 U k)), .int .i64 (onI (taC 6 U L Q k (apB s er es)) L), .bool (onB (taC 6 U L Q k (apB s er es)) (taQ k Q)), onV (taC 6 U L Q k (apB s er es)) (.slice a n c)]) ∧ Below w.heap.size w w' := by
  by_cases hk : ¬ (1 ≤ k ∧ k ≤ 9)
  · refine (ae_no 102 (.agg #[.int .i64 6, .string R, .int .i64 S, .int .i64 U, .int .i64 L, .bool Q, .slice a n c]) k er es 5 (by decide) (fun w => ev_none 102 (.agg #[.int .i64 6, .string R, .int .i64 S, .int .i64 U, .int .i64 L, .bool Q, .slice a n c]) k hk w) w).mono ?_
    rintro e w' ⟨rfl, hb⟩
    refine ⟨?_, hb⟩
    have hC : taC 6 U L Q k (apB s er es) = 5 := by unfold taC; rw [if_pos hk]
    rw [hC]
    simp [onI, onS, onB, onV]
  rcases (by omega : k = 1 ∨ k = 2 ∨ k = 3 ∨ k = 4 ∨ k = 5 ∨ k = 6 ∨ k = 7 ∨ k = 8 ∨ k = 9) with rfl | rfl | rfl | rfl | rfl | rfl | rfl | rfl | rfl
  · refine (ae_no 102 (.agg #[.int .i64 6, .string R, .int .i64 S, .int .i64 U, .int .i64 L, .bool Q, .slice a n c]) 1 er es 1 (by decide) (fun w => ev_power_n 102 (.agg #[.int .i64 6, .string R, .int .i64 S, .int .i64 U, .int .i64 L, .bool Q, .slice a n c]) (fun w => as_power_6 _ w) w) w).mono ?_
    rintro e w' ⟨rfl, hb⟩
    refine ⟨?_, hb⟩
    simp [taC, mayB, taA, taR, taS, taU, taQ, onI, onS, onB, onV]
  · refine (ae_no 102 (.agg #[.int .i64 6, .string R, .int .i64 S, .int .i64 U, .int .i64 L, .bool Q, .slice a n c]) 2 er es 1 (by decide) (fun w => ev_load_n 102 (.agg #[.int .i64 6, .string R, .int .i64 S, .int .i64 U, .int .i64 L, .bool Q, .slice a n c]) (fun w => as_load_6 _ w) w) w).mono ?_
    rintro e w' ⟨rfl, hb⟩
    refine ⟨?_, hb⟩
    simp [taC, mayB, taA, taR, taS, taU, taQ, onI, onS, onB, onV]
  · refine (ae_no 102 (.agg #[.int .i64 6, .string R, .int .i64 S, .int .i64 U, .int .i64 L, .bool Q, .slice a n c]) 3 er es 1 (by decide) (fun w => ev_start_n 102 (.agg #[.int .i64 6, .string R, .int .i64 S, .int .i64 U, .int .i64 L, .bool Q, .slice a n c]) (fun w => as_start_6 _ w) w) w).mono ?_
    rintro e w' ⟨rfl, hb⟩
    refine ⟨?_, hb⟩
    simp [taC, mayB, taA, taR, taS, taU, taQ, onI, onS, onB, onV]
  · refine (ae_no 102 (.agg #[.int .i64 6, .string R, .int .i64 S, .int .i64 U, .int .i64 L, .bool Q, .slice a n c]) 4 er es 1 (by decide) (fun w => ev_end_n 102 (.agg #[.int .i64 6, .string R, .int .i64 S, .int .i64 U, .int .i64 L, .bool Q, .slice a n c]) (fun w => as_end_6 _ w) w) w).mono ?_
    rintro e w' ⟨rfl, hb⟩
    refine ⟨?_, hb⟩
    simp [taC, mayB, taA, taR, taS, taU, taQ, onI, onS, onB, onV]
  · refine (ae_no 102 (.agg #[.int .i64 6, .string R, .int .i64 S, .int .i64 U, .int .i64 L, .bool Q, .slice a n c]) 5 er es 1 (by decide) (fun w => ev_trip_n 102 (.agg #[.int .i64 6, .string R, .int .i64 S, .int .i64 U, .int .i64 L, .bool Q, .slice a n c]) (fun w => as_trip_6 _ w) w) w).mono ?_
    rintro e w' ⟨rfl, hb⟩
    refine ⟨?_, hb⟩
    simp [taC, mayB, taA, taR, taS, taU, taQ, onI, onS, onB, onV]
  · refine (ae_no 102 (.agg #[.int .i64 6, .string R, .int .i64 S, .int .i64 U, .int .i64 L, .bool Q, .slice a n c]) 6 er es 1 (by decide) (fun w => ev_clear_n 102 (.agg #[.int .i64 6, .string R, .int .i64 S, .int .i64 U, .int .i64 L, .bool Q, .slice a n c]) (fun w => as_clear_6 _ w) w) w).mono ?_
    rintro e w' ⟨rfl, hb⟩
    refine ⟨?_, hb⟩
    simp [taC, mayB, taA, taR, taS, taU, taQ, onI, onS, onB, onV]
  · refine (ae_plain 102 (.agg #[.int .i64 6, .string R, .int .i64 S, .int .i64 U, .int .i64 L, .bool Q, .slice a n c]) 7 er es "loop.example/g00057/impl.service" 95 0 0 5 ⟨#[]⟩ 0 U L false a n c 0 (fun w => ev_service_y 102 (.agg #[.int .i64 6, .string R, .int .i64 S, .int .i64 U, .int .i64 L, .bool Q, .slice a n c]) (fun w => as_service_6 _ w) w) (fun w => by kernel_rfl) (fun args w => by kernel_rfl) w (fun w1 hw1 => mt_service_safe 6 R S U L Q a n c 7 er es w1) (fun w => as_measured_6 _ w)).mono ?_
    rintro e w' ⟨rfl, hb⟩
    refine ⟨?_, hb⟩
    simp [taC, mayB, taA, taR, taS, taU, taQ, onI, onS, onB, onV]
  · refine (ae_no 102 (.agg #[.int .i64 6, .string R, .int .i64 S, .int .i64 U, .int .i64 L, .bool Q, .slice a n c]) 8 er es 1 (by decide) (fun w => ev_qualify_n 102 (.agg #[.int .i64 6, .string R, .int .i64 S, .int .i64 U, .int .i64 L, .bool Q, .slice a n c]) (fun w => as_qualify_6 _ w) w) w).mono ?_
    rintro e w' ⟨rfl, hb⟩
    refine ⟨?_, hb⟩
    simp [taC, mayB, taA, taR, taS, taU, taQ, onI, onS, onB, onV]
  · refine (ae_plain 102 (.agg #[.int .i64 6, .string R, .int .i64 S, .int .i64 U, .int .i64 L, .bool Q, .slice a n c]) 9 er es "loop.example/g00057/impl.fail" 82 0 0 6 ⟨#[]⟩ 0 U L false a n c 0 (fun w => ev_fail 102 (.agg #[.int .i64 6, .string R, .int .i64 S, .int .i64 U, .int .i64 L, .bool Q, .slice a n c]) w) (fun w => by kernel_rfl) (fun args w => by kernel_rfl) w (fun w1 hw1 => mt_fail 6 R S U L Q a n c 9 er es w1) (fun w => as_measured_6 _ w)).mono ?_
    rintro e w' ⟨rfl, hb⟩
    refine ⟨?_, hb⟩
    simp [taC, mayB, taA, taR, taS, taU, taQ, onI, onS, onB, onV]

end Go.Proofs.Ytkacfjbhkgdpdaa
