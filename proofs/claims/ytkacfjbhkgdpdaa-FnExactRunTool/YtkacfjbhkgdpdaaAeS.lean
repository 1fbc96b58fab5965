/- Proved here: afterEvent of the program, by the state: taC and the rest. -/
import Derived.Test.YtkacfjbhkgdpdaaAeI
import Derived.Test.YtkacfjbhkgdpdaaEvL
import Derived.Test.YtkacfjbhkgdpdaaTaN
namespace Go.Proofs.Ytkacfjbhkgdpdaa
open Go.RowKit
set_option linter.unusedVariables false
set_option linter.unusedSimpArgs false


set_option maxRecDepth 10000 in
set_option maxHeartbeats 6400000 in
theorem ae_0 (R : ByteArray) (S U L : Int) (Q : Bool) (a : Option Addr) (n c : Nat) (k : Int) (er : ByteArray) (es : Int) (s : List Ap) (w : World) (hn : n ≤ 1048576) (hU : 0 ≤ U ∧ U ≤ 1000) (h : RG 2 apC w (.slice a n c) s) :
    Calls Try.prog 34 #[.iface 93 (.agg #[.int .i64 0, .string R, .int .i64 S, .int .i64 U, .int .i64 L, .bool Q, .slice a n c]), .agg #[.int .i64 k, .string er, .int .i64 es]] w fun e w' => e = .returned (.agg #[.int .i64 (taC 0 U L Q k (apB s er es)), .int .i64 (onI (taC 0 U L Q k (apB s er es)) (taA k)), .string (onS (taC 0 U L Q k (apB s er es)) (taR k R er)), .int .i64 (onI (taC 0 U L Q k (apB s er es)) (taS k S es)), .int .i64 (onI (taC 0 U L Q k (apB s er es)) (taU 0 U k)), .int .i64 (onI (taC 0 U L Q k (apB s er es)) L), .bool (onB (taC 0 U L Q k (apB s er es)) (taQ k Q)), onV (taC 0 U L Q k (apB s er es)) (.slice a n c)]) ∧ Below w.heap.size w w' := by
  by_cases hk : ¬ (1 ≤ k ∧ k ≤ 9)
  · refine (ae_no 93 (.agg #[.int .i64 0, .string R, .int .i64 S, .int .i64 U, .int .i64 L, .bool Q, .slice a n c]) k er es 5 (by decide) (fun w => ev_none 93 (.agg #[.int .i64 0, .string R, .int .i64 S, .int .i64 U, .int .i64 L, .bool Q, .slice a n c]) k hk w) w).mono ?_
    rintro e w' ⟨rfl, hb⟩
    refine ⟨?_, hb⟩
    have hC : taC 0 U L Q k (apB s er es) = 5 := by unfold taC; rw [if_pos hk]
    rw [hC]
    simp [onI, onS, onB, onV]
  rcases (by omega : k = 1 ∨ k = 2 ∨ k = 3 ∨ k = 4 ∨ k = 5 ∨ k = 6 ∨ k = 7 ∨ k = 8 ∨ k = 9) with rfl | rfl | rfl | rfl | rfl | rfl | rfl | rfl | rfl
  · refine (ae_plain 93 (.agg #[.int .i64 0, .string R, .int .i64 S, .int .i64 U, .int .i64 L, .bool Q, .slice a n c]) 1 er es "loop.example/g00057/impl.power" 86 0 0 1 ⟨#[]⟩ 0 U L Q a n c 0 (fun w => ev_power_y 93 (.agg #[.int .i64 0, .string R, .int .i64 S, .int .i64 U, .int .i64 L, .bool Q, .slice a n c]) (fun w => as_power_0 _ w) w) (fun w => by kernel_rfl) (fun args w => by kernel_rfl) w (fun w1 hw1 => mt_power 0 R S U L Q a n c 1 er es w1) (fun w => as_measured_0 _ w)).mono ?_
    rintro e w' ⟨rfl, hb⟩
    refine ⟨?_, hb⟩
    simp [taC, mayB, taA, taR, taS, taU, taQ, onI, onS, onB, onV]
  · refine (ae_no 93 (.agg #[.int .i64 0, .string R, .int .i64 S, .int .i64 U, .int .i64 L, .bool Q, .slice a n c]) 2 er es 1 (by decide) (fun w => ev_load_n 93 (.agg #[.int .i64 0, .string R, .int .i64 S, .int .i64 U, .int .i64 L, .bool Q, .slice a n c]) (fun w => as_load_0 _ w) w) w).mono ?_
    rintro e w' ⟨rfl, hb⟩
    refine ⟨?_, hb⟩
    simp [taC, mayB, taA, taR, taS, taU, taQ, onI, onS, onB, onV]
  · refine (ae_no 93 (.agg #[.int .i64 0, .string R, .int .i64 S, .int .i64 U, .int .i64 L, .bool Q, .slice a n c]) 3 er es 1 (by decide) (fun w => ev_start_n 93 (.agg #[.int .i64 0, .string R, .int .i64 S, .int .i64 U, .int .i64 L, .bool Q, .slice a n c]) (fun w => as_start_0 _ w) w) w).mono ?_
    rintro e w' ⟨rfl, hb⟩
    refine ⟨?_, hb⟩
    simp [taC, mayB, taA, taR, taS, taU, taQ, onI, onS, onB, onV]
  · refine (ae_no 93 (.agg #[.int .i64 0, .string R, .int .i64 S, .int .i64 U, .int .i64 L, .bool Q, .slice a n c]) 4 er es 1 (by decide) (fun w => ev_end_n 93 (.agg #[.int .i64 0, .string R, .int .i64 S, .int .i64 U, .int .i64 L, .bool Q, .slice a n c]) (fun w => as_end_0 _ w) w) w).mono ?_
    rintro e w' ⟨rfl, hb⟩
    refine ⟨?_, hb⟩
    simp [taC, mayB, taA, taR, taS, taU, taQ, onI, onS, onB, onV]
  · refine (ae_no 93 (.agg #[.int .i64 0, .string R, .int .i64 S, .int .i64 U, .int .i64 L, .bool Q, .slice a n c]) 5 er es 1 (by decide) (fun w => ev_trip_n 93 (.agg #[.int .i64 0, .string R, .int .i64 S, .int .i64 U, .int .i64 L, .bool Q, .slice a n c]) (fun w => as_trip_0 _ w) w) w).mono ?_
    rintro e w' ⟨rfl, hb⟩
    refine ⟨?_, hb⟩
    simp [taC, mayB, taA, taR, taS, taU, taQ, onI, onS, onB, onV]
  · refine (ae_no 93 (.agg #[.int .i64 0, .string R, .int .i64 S, .int .i64 U, .int .i64 L, .bool Q, .slice a n c]) 6 er es 1 (by decide) (fun w => ev_clear_n 93 (.agg #[.int .i64 0, .string R, .int .i64 S, .int .i64 U, .int .i64 L, .bool Q, .slice a n c]) (fun w => as_clear_0 _ w) w) w).mono ?_
    rintro e w' ⟨rfl, hb⟩
    refine ⟨?_, hb⟩
    simp [taC, mayB, taA, taR, taS, taU, taQ, onI, onS, onB, onV]
  · refine (ae_no 93 (.agg #[.int .i64 0, .string R, .int .i64 S, .int .i64 U, .int .i64 L, .bool Q, .slice a n c]) 7 er es 1 (by decide) (fun w => ev_service_n 93 (.agg #[.int .i64 0, .string R, .int .i64 S, .int .i64 U, .int .i64 L, .bool Q, .slice a n c]) (fun w => as_service_0 _ w) w) w).mono ?_
    rintro e w' ⟨rfl, hb⟩
    refine ⟨?_, hb⟩
    simp [taC, mayB, taA, taR, taS, taU, taQ, onI, onS, onB, onV]
  · refine (ae_no 93 (.agg #[.int .i64 0, .string R, .int .i64 S, .int .i64 U, .int .i64 L, .bool Q, .slice a n c]) 8 er es 1 (by decide) (fun w => ev_qualify_n 93 (.agg #[.int .i64 0, .string R, .int .i64 S, .int .i64 U, .int .i64 L, .bool Q, .slice a n c]) (fun w => as_qualify_0 _ w) w) w).mono ?_
    rintro e w' ⟨rfl, hb⟩
    refine ⟨?_, hb⟩
    simp [taC, mayB, taA, taR, taS, taU, taQ, onI, onS, onB, onV]
  · refine (ae_plain 93 (.agg #[.int .i64 0, .string R, .int .i64 S, .int .i64 U, .int .i64 L, .bool Q, .slice a n c]) 9 er es "loop.example/g00057/impl.fail" 82 0 0 6 ⟨#[]⟩ 0 U L false a n c 0 (fun w => ev_fail 93 (.agg #[.int .i64 0, .string R, .int .i64 S, .int .i64 U, .int .i64 L, .bool Q, .slice a n c]) w) (fun w => by kernel_rfl) (fun args w => by kernel_rfl) w (fun w1 hw1 => mt_fail 0 R S U L Q a n c 9 er es w1) (fun w => as_measured_0 _ w)).mono ?_
    rintro e w' ⟨rfl, hb⟩
    refine ⟨?_, hb⟩
    simp [taC, mayB, taA, taR, taS, taU, taQ, onI, onS, onB, onV]

set_option maxRecDepth 10000 in
set_option maxHeartbeats 6400000 in
theorem ae_1 (R : ByteArray) (S U L : Int) (Q : Bool) (a : Option Addr) (n c : Nat) (k : Int) (er : ByteArray) (es : Int) (s : List Ap) (w : World) (hn : n ≤ 1048576) (hU : 0 ≤ U ∧ U ≤ 1000) (h : RG 2 apC w (.slice a n c) s) :
    Calls Try.prog 34 #[.iface 97 (.agg #[.int .i64 1, .string R, .int .i64 S, .int .i64 U, .int .i64 L, .bool Q, .slice a n c]), .agg #[.int .i64 k, .string er, .int .i64 es]] w fun e w' => e = .returned (.agg #[.int .i64 (taC 1 U L Q k (apB s er es)), .int .i64 (onI (taC 1 U L Q k (apB s er es)) (taA k)), .string (onS (taC 1 U L Q k (apB s er es)) (taR k R er)), .int .i64 (onI (taC 1 U L Q k (apB s er es)) (taS k S es)), .int .i64 (onI (taC 1 U L Q k (apB s er es)) (taU 1 U k)), .int .i64 (onI (taC 1 U L Q k (apB s er es)) L), .bool (onB (taC 1 U L Q k (apB s er es)) (taQ k Q)), onV (taC 1 U L Q k (apB s er es)) (.slice a n c)]) ∧ Below w.heap.size w w' := by
  by_cases hk : ¬ (1 ≤ k ∧ k ≤ 9)
  · refine (ae_no 97 (.agg #[.int .i64 1, .string R, .int .i64 S, .int .i64 U, .int .i64 L, .bool Q, .slice a n c]) k er es 5 (by decide) (fun w => ev_none 97 (.agg #[.int .i64 1, .string R, .int .i64 S, .int .i64 U, .int .i64 L, .bool Q, .slice a n c]) k hk w) w).mono ?_
    rintro e w' ⟨rfl, hb⟩
    refine ⟨?_, hb⟩
    have hC : taC 1 U L Q k (apB s er es) = 5 := by unfold taC; rw [if_pos hk]
    rw [hC]
    simp [onI, onS, onB, onV]
  rcases (by omega : k = 1 ∨ k = 2 ∨ k = 3 ∨ k = 4 ∨ k = 5 ∨ k = 6 ∨ k = 7 ∨ k = 8 ∨ k = 9) with rfl | rfl | rfl | rfl | rfl | rfl | rfl | rfl | rfl
  · refine (ae_no 97 (.agg #[.int .i64 1, .string R, .int .i64 S, .int .i64 U, .int .i64 L, .bool Q, .slice a n c]) 1 er es 1 (by decide) (fun w => ev_power_n 97 (.agg #[.int .i64 1, .string R, .int .i64 S, .int .i64 U, .int .i64 L, .bool Q, .slice a n c]) (fun w => as_power_1 _ w) w) w).mono ?_
    rintro e w' ⟨rfl, hb⟩
    refine ⟨?_, hb⟩
    simp [taC, mayB, taA, taR, taS, taU, taQ, onI, onS, onB, onV]
  · cases hap : apB s er es with
    | false =>
      refine (ae_plain 97 (.agg #[.int .i64 1, .string R, .int .i64 S, .int .i64 U, .int .i64 L, .bool Q, .slice a n c]) 2 er es "loop.example/g00057/impl.load" 87 0 4 0 ⟨#[]⟩ 0 0 0 false none 0 0 0 (fun w => ev_load_y 97 (.agg #[.int .i64 1, .string R, .int .i64 S, .int .i64 U, .int .i64 L, .bool Q, .slice a n c]) (fun w => as_load_1 _ w) w) (fun w => by kernel_rfl) (fun args w => by kernel_rfl) w (fun w1 hw1 => mt_load_n 1 R S U L Q a n c 2 er es w1 s hn (h.below hw1) hap) (fun w => as_measured_1 _ w)).mono ?_
      rintro e w' ⟨rfl, hb⟩
      refine ⟨?_, hb⟩
      simp [taC, mayB, taA, taR, taS, taU, taQ, onI, onS, onB, onV, hap]
    | true =>
      cases Q with
      | false =>
        refine (ae_plain 97 (.agg #[.int .i64 1, .string R, .int .i64 S, .int .i64 U, .int .i64 L, .bool false, .slice a n c]) 2 er es "loop.example/g00057/impl.load" 87 0 7 0 ⟨#[]⟩ 0 0 0 false none 0 0 0 (fun w => ev_load_y 97 (.agg #[.int .i64 1, .string R, .int .i64 S, .int .i64 U, .int .i64 L, .bool false, .slice a n c]) (fun w => as_load_1 _ w) w) (fun w => by kernel_rfl) (fun args w => by kernel_rfl) w (fun w1 hw1 => mt_load_q 1 R S U L false a n c 2 er es w1 s hn (h.below hw1) hap rfl) (fun w => as_measured_1 _ w)).mono ?_
        rintro e w' ⟨rfl, hb⟩
        refine ⟨?_, hb⟩
        simp [taC, mayB, taA, taR, taS, taU, taQ, onI, onS, onB, onV, hap]
      | true =>
        refine (ae_plain 97 (.agg #[.int .i64 1, .string R, .int .i64 S, .int .i64 U, .int .i64 L, .bool true, .slice a n c]) 2 er es "loop.example/g00057/impl.load" 87 0 0 2 er es U L true a n c 0 (fun w => ev_load_y 97 (.agg #[.int .i64 1, .string R, .int .i64 S, .int .i64 U, .int .i64 L, .bool true, .slice a n c]) (fun w => as_load_1 _ w) w) (fun w => by kernel_rfl) (fun args w => by kernel_rfl) w (fun w1 hw1 => mt_load_y 1 R S U L true a n c 2 er es w1 s hn (h.below hw1) hap rfl) (fun w => as_measured_1 _ w)).mono ?_
        rintro e w' ⟨rfl, hb⟩
        refine ⟨?_, hb⟩
        simp [taC, mayB, taA, taR, taS, taU, taQ, onI, onS, onB, onV, hap]
  · refine (ae_no 97 (.agg #[.int .i64 1, .string R, .int .i64 S, .int .i64 U, .int .i64 L, .bool Q, .slice a n c]) 3 er es 1 (by decide) (fun w => ev_start_n 97 (.agg #[.int .i64 1, .string R, .int .i64 S, .int .i64 U, .int .i64 L, .bool Q, .slice a n c]) (fun w => as_start_1 _ w) w) w).mono ?_
    rintro e w' ⟨rfl, hb⟩
    refine ⟨?_, hb⟩
    simp [taC, mayB, taA, taR, taS, taU, taQ, onI, onS, onB, onV]
  · refine (ae_no 97 (.agg #[.int .i64 1, .string R, .int .i64 S, .int .i64 U, .int .i64 L, .bool Q, .slice a n c]) 4 er es 1 (by decide) (fun w => ev_end_n 97 (.agg #[.int .i64 1, .string R, .int .i64 S, .int .i64 U, .int .i64 L, .bool Q, .slice a n c]) (fun w => as_end_1 _ w) w) w).mono ?_
    rintro e w' ⟨rfl, hb⟩
    refine ⟨?_, hb⟩
    simp [taC, mayB, taA, taR, taS, taU, taQ, onI, onS, onB, onV]
  · refine (ae_plain 97 (.agg #[.int .i64 1, .string R, .int .i64 S, .int .i64 U, .int .i64 L, .bool Q, .slice a n c]) 5 er es "loop.example/g00057/impl.trip" 85 0 0 4 ⟨#[]⟩ 0 U L Q a n c 0 (fun w => ev_trip_y 97 (.agg #[.int .i64 1, .string R, .int .i64 S, .int .i64 U, .int .i64 L, .bool Q, .slice a n c]) (fun w => as_trip_1 _ w) w) (fun w => by kernel_rfl) (fun args w => by kernel_rfl) w (fun w1 hw1 => mt_trip 1 R S U L Q a n c 5 er es w1) (fun w => as_measured_1 _ w)).mono ?_
    rintro e w' ⟨rfl, hb⟩
    refine ⟨?_, hb⟩
    simp [taC, mayB, taA, taR, taS, taU, taQ, onI, onS, onB, onV]
  · refine (ae_no 97 (.agg #[.int .i64 1, .string R, .int .i64 S, .int .i64 U, .int .i64 L, .bool Q, .slice a n c]) 6 er es 1 (by decide) (fun w => ev_clear_n 97 (.agg #[.int .i64 1, .string R, .int .i64 S, .int .i64 U, .int .i64 L, .bool Q, .slice a n c]) (fun w => as_clear_1 _ w) w) w).mono ?_
    rintro e w' ⟨rfl, hb⟩
    refine ⟨?_, hb⟩
    simp [taC, mayB, taA, taR, taS, taU, taQ, onI, onS, onB, onV]
  · refine (ae_plain 97 (.agg #[.int .i64 1, .string R, .int .i64 S, .int .i64 U, .int .i64 L, .bool Q, .slice a n c]) 7 er es "loop.example/g00057/impl.service" 88 0 0 5 ⟨#[]⟩ 0 U L false a n c 0 (fun w => ev_service_y 97 (.agg #[.int .i64 1, .string R, .int .i64 S, .int .i64 U, .int .i64 L, .bool Q, .slice a n c]) (fun w => as_service_1 _ w) w) (fun w => by kernel_rfl) (fun args w => by kernel_rfl) w (fun w1 hw1 => mt_service_idle 1 R S U L Q a n c 7 er es w1) (fun w => as_measured_1 _ w)).mono ?_
    rintro e w' ⟨rfl, hb⟩
    refine ⟨?_, hb⟩
    simp [taC, mayB, taA, taR, taS, taU, taQ, onI, onS, onB, onV]
  · refine (ae_no 97 (.agg #[.int .i64 1, .string R, .int .i64 S, .int .i64 U, .int .i64 L, .bool Q, .slice a n c]) 8 er es 1 (by decide) (fun w => ev_qualify_n 97 (.agg #[.int .i64 1, .string R, .int .i64 S, .int .i64 U, .int .i64 L, .bool Q, .slice a n c]) (fun w => as_qualify_1 _ w) w) w).mono ?_
    rintro e w' ⟨rfl, hb⟩
    refine ⟨?_, hb⟩
    simp [taC, mayB, taA, taR, taS, taU, taQ, onI, onS, onB, onV]
  · refine (ae_plain 97 (.agg #[.int .i64 1, .string R, .int .i64 S, .int .i64 U, .int .i64 L, .bool Q, .slice a n c]) 9 er es "loop.example/g00057/impl.fail" 82 0 0 6 ⟨#[]⟩ 0 U L false a n c 0 (fun w => ev_fail 97 (.agg #[.int .i64 1, .string R, .int .i64 S, .int .i64 U, .int .i64 L, .bool Q, .slice a n c]) w) (fun w => by kernel_rfl) (fun args w => by kernel_rfl) w (fun w1 hw1 => mt_fail 1 R S U L Q a n c 9 er es w1) (fun w => as_measured_1 _ w)).mono ?_
    rintro e w' ⟨rfl, hb⟩
    refine ⟨?_, hb⟩
    simp [taC, mayB, taA, taR, taS, taU, taQ, onI, onS, onB, onV]

set_option maxRecDepth 10000 in
set_option maxHeartbeats 6400000 in
theorem ae_2 (R : ByteArray) (S U L : Int) (Q : Bool) (a : Option Addr) (n c : Nat) (k : Int) (er : ByteArray) (es : Int) (s : List Ap) (w : World) (hn : n ≤ 1048576) (hU : 0 ≤ U ∧ U ≤ 1000) (h : RG 2 apC w (.slice a n c) s) :
    Calls Try.prog 34 #[.iface 98 (.agg #[.int .i64 2, .string R, .int .i64 S, .int .i64 U, .int .i64 L, .bool Q, .slice a n c]), .agg #[.int .i64 k, .string er, .int .i64 es]] w fun e w' => e = .returned (.agg #[.int .i64 (taC 2 U L Q k (apB s er es)), .int .i64 (onI (taC 2 U L Q k (apB s er es)) (taA k)), .string (onS (taC 2 U L Q k (apB s er es)) (taR k R er)), .int .i64 (onI (taC 2 U L Q k (apB s er es)) (taS k S es)), .int .i64 (onI (taC 2 U L Q k (apB s er es)) (taU 2 U k)), .int .i64 (onI (taC 2 U L Q k (apB s er es)) L), .bool (onB (taC 2 U L Q k (apB s er es)) (taQ k Q)), onV (taC 2 U L Q k (apB s er es)) (.slice a n c)]) ∧ Below w.heap.size w w' := by
  by_cases hk : ¬ (1 ≤ k ∧ k ≤ 9)
  · refine (ae_no 98 (.agg #[.int .i64 2, .string R, .int .i64 S, .int .i64 U, .int .i64 L, .bool Q, .slice a n c]) k er es 5 (by decide) (fun w => ev_none 98 (.agg #[.int .i64 2, .string R, .int .i64 S, .int .i64 U, .int .i64 L, .bool Q, .slice a n c]) k hk w) w).mono ?_
    rintro e w' ⟨rfl, hb⟩
    refine ⟨?_, hb⟩
    have hC : taC 2 U L Q k (apB s er es) = 5 := by unfold taC; rw [if_pos hk]
    rw [hC]
    simp [onI, onS, onB, onV]
  rcases (by omega : k = 1 ∨ k = 2 ∨ k = 3 ∨ k = 4 ∨ k = 5 ∨ k = 6 ∨ k = 7 ∨ k = 8 ∨ k = 9) with rfl | rfl | rfl | rfl | rfl | rfl | rfl | rfl | rfl
  · refine (ae_no 98 (.agg #[.int .i64 2, .string R, .int .i64 S, .int .i64 U, .int .i64 L, .bool Q, .slice a n c]) 1 er es 1 (by decide) (fun w => ev_power_n 98 (.agg #[.int .i64 2, .string R, .int .i64 S, .int .i64 U, .int .i64 L, .bool Q, .slice a n c]) (fun w => as_power_2 _ w) w) w).mono ?_
    rintro e w' ⟨rfl, hb⟩
    refine ⟨?_, hb⟩
    simp [taC, mayB, taA, taR, taS, taU, taQ, onI, onS, onB, onV]
  · cases hap : apB s er es with
    | false =>
      refine (ae_plain 98 (.agg #[.int .i64 2, .string R, .int .i64 S, .int .i64 U, .int .i64 L, .bool Q, .slice a n c]) 2 er es "loop.example/g00057/impl.load" 87 0 4 0 ⟨#[]⟩ 0 0 0 false none 0 0 0 (fun w => ev_load_y 98 (.agg #[.int .i64 2, .string R, .int .i64 S, .int .i64 U, .int .i64 L, .bool Q, .slice a n c]) (fun w => as_load_2 _ w) w) (fun w => by kernel_rfl) (fun args w => by kernel_rfl) w (fun w1 hw1 => mt_load_n 2 R S U L Q a n c 2 er es w1 s hn (h.below hw1) hap) (fun w => as_measured_2 _ w)).mono ?_
      rintro e w' ⟨rfl, hb⟩
      refine ⟨?_, hb⟩
      simp [taC, mayB, taA, taR, taS, taU, taQ, onI, onS, onB, onV, hap]
    | true =>
      cases Q with
      | false =>
        refine (ae_plain 98 (.agg #[.int .i64 2, .string R, .int .i64 S, .int .i64 U, .int .i64 L, .bool false, .slice a n c]) 2 er es "loop.example/g00057/impl.load" 87 0 7 0 ⟨#[]⟩ 0 0 0 false none 0 0 0 (fun w => ev_load_y 98 (.agg #[.int .i64 2, .string R, .int .i64 S, .int .i64 U, .int .i64 L, .bool false, .slice a n c]) (fun w => as_load_2 _ w) w) (fun w => by kernel_rfl) (fun args w => by kernel_rfl) w (fun w1 hw1 => mt_load_q 2 R S U L false a n c 2 er es w1 s hn (h.below hw1) hap rfl) (fun w => as_measured_2 _ w)).mono ?_
        rintro e w' ⟨rfl, hb⟩
        refine ⟨?_, hb⟩
        simp [taC, mayB, taA, taR, taS, taU, taQ, onI, onS, onB, onV, hap]
      | true =>
        refine (ae_plain 98 (.agg #[.int .i64 2, .string R, .int .i64 S, .int .i64 U, .int .i64 L, .bool true, .slice a n c]) 2 er es "loop.example/g00057/impl.load" 87 0 0 2 er es U L true a n c 0 (fun w => ev_load_y 98 (.agg #[.int .i64 2, .string R, .int .i64 S, .int .i64 U, .int .i64 L, .bool true, .slice a n c]) (fun w => as_load_2 _ w) w) (fun w => by kernel_rfl) (fun args w => by kernel_rfl) w (fun w1 hw1 => mt_load_y 2 R S U L true a n c 2 er es w1 s hn (h.below hw1) hap rfl) (fun w => as_measured_2 _ w)).mono ?_
        rintro e w' ⟨rfl, hb⟩
        refine ⟨?_, hb⟩
        simp [taC, mayB, taA, taR, taS, taU, taQ, onI, onS, onB, onV, hap]
  · by_cases hUL : U = L
    · refine (ae_plain 98 (.agg #[.int .i64 2, .string R, .int .i64 S, .int .i64 U, .int .i64 L, .bool Q, .slice a n c]) 3 er es "loop.example/g00057/impl.start" 89 0 2 0 ⟨#[]⟩ 0 0 0 false none 0 0 0 (fun w => ev_start_y 98 (.agg #[.int .i64 2, .string R, .int .i64 S, .int .i64 U, .int .i64 L, .bool Q, .slice a n c]) (fun w => as_start_2 _ w) w) (fun w => by kernel_rfl) (fun args w => by kernel_rfl) w (fun w1 hw1 => mt_start_n 2 R S U L Q a n c 3 er es w1 hUL) (fun w => as_measured_2 _ w)).mono ?_
      rintro e w' ⟨rfl, hb⟩
      refine ⟨?_, hb⟩
      simp [taC, mayB, taA, taR, taS, taU, taQ, onI, onS, onB, onV, hUL]
    · refine (ae_plain 98 (.agg #[.int .i64 2, .string R, .int .i64 S, .int .i64 U, .int .i64 L, .bool Q, .slice a n c]) 3 er es "loop.example/g00057/impl.start" 89 0 0 3 R S U L Q a n c 0 (fun w => ev_start_y 98 (.agg #[.int .i64 2, .string R, .int .i64 S, .int .i64 U, .int .i64 L, .bool Q, .slice a n c]) (fun w => as_start_2 _ w) w) (fun w => by kernel_rfl) (fun args w => by kernel_rfl) w (fun w1 hw1 => mt_start_y 2 R S U L Q a n c 3 er es w1 hUL) (fun w => as_measured_2 _ w)).mono ?_
      rintro e w' ⟨rfl, hb⟩
      refine ⟨?_, hb⟩
      simp [taC, mayB, taA, taR, taS, taU, taQ, onI, onS, onB, onV, hUL]
  · refine (ae_no 98 (.agg #[.int .i64 2, .string R, .int .i64 S, .int .i64 U, .int .i64 L, .bool Q, .slice a n c]) 4 er es 1 (by decide) (fun w => ev_end_n 98 (.agg #[.int .i64 2, .string R, .int .i64 S, .int .i64 U, .int .i64 L, .bool Q, .slice a n c]) (fun w => as_end_2 _ w) w) w).mono ?_
    rintro e w' ⟨rfl, hb⟩
    refine ⟨?_, hb⟩
    simp [taC, mayB, taA, taR, taS, taU, taQ, onI, onS, onB, onV]
  · refine (ae_plain 98 (.agg #[.int .i64 2, .string R, .int .i64 S, .int .i64 U, .int .i64 L, .bool Q, .slice a n c]) 5 er es "loop.example/g00057/impl.trip" 85 0 0 4 ⟨#[]⟩ 0 U L Q a n c 0 (fun w => ev_trip_y 98 (.agg #[.int .i64 2, .string R, .int .i64 S, .int .i64 U, .int .i64 L, .bool Q, .slice a n c]) (fun w => as_trip_2 _ w) w) (fun w => by kernel_rfl) (fun args w => by kernel_rfl) w (fun w1 hw1 => mt_trip 2 R S U L Q a n c 5 er es w1) (fun w => as_measured_2 _ w)).mono ?_
    rintro e w' ⟨rfl, hb⟩
    refine ⟨?_, hb⟩
    simp [taC, mayB, taA, taR, taS, taU, taQ, onI, onS, onB, onV]
  · refine (ae_no 98 (.agg #[.int .i64 2, .string R, .int .i64 S, .int .i64 U, .int .i64 L, .bool Q, .slice a n c]) 6 er es 1 (by decide) (fun w => ev_clear_n 98 (.agg #[.int .i64 2, .string R, .int .i64 S, .int .i64 U, .int .i64 L, .bool Q, .slice a n c]) (fun w => as_clear_2 _ w) w) w).mono ?_
    rintro e w' ⟨rfl, hb⟩
    refine ⟨?_, hb⟩
    simp [taC, mayB, taA, taR, taS, taU, taQ, onI, onS, onB, onV]
  · refine (ae_no 98 (.agg #[.int .i64 2, .string R, .int .i64 S, .int .i64 U, .int .i64 L, .bool Q, .slice a n c]) 7 er es 1 (by decide) (fun w => ev_service_n 98 (.agg #[.int .i64 2, .string R, .int .i64 S, .int .i64 U, .int .i64 L, .bool Q, .slice a n c]) (fun w => as_service_2 _ w) w) w).mono ?_
    rintro e w' ⟨rfl, hb⟩
    refine ⟨?_, hb⟩
    simp [taC, mayB, taA, taR, taS, taU, taQ, onI, onS, onB, onV]
  · refine (ae_no 98 (.agg #[.int .i64 2, .string R, .int .i64 S, .int .i64 U, .int .i64 L, .bool Q, .slice a n c]) 8 er es 1 (by decide) (fun w => ev_qualify_n 98 (.agg #[.int .i64 2, .string R, .int .i64 S, .int .i64 U, .int .i64 L, .bool Q, .slice a n c]) (fun w => as_qualify_2 _ w) w) w).mono ?_
    rintro e w' ⟨rfl, hb⟩
    refine ⟨?_, hb⟩
    simp [taC, mayB, taA, taR, taS, taU, taQ, onI, onS, onB, onV]
  · refine (ae_plain 98 (.agg #[.int .i64 2, .string R, .int .i64 S, .int .i64 U, .int .i64 L, .bool Q, .slice a n c]) 9 er es "loop.example/g00057/impl.fail" 82 0 0 6 ⟨#[]⟩ 0 U L false a n c 0 (fun w => ev_fail 98 (.agg #[.int .i64 2, .string R, .int .i64 S, .int .i64 U, .int .i64 L, .bool Q, .slice a n c]) w) (fun w => by kernel_rfl) (fun args w => by kernel_rfl) w (fun w1 hw1 => mt_fail 2 R S U L Q a n c 9 er es w1) (fun w => as_measured_2 _ w)).mono ?_
    rintro e w' ⟨rfl, hb⟩
    refine ⟨?_, hb⟩
    simp [taC, mayB, taA, taR, taS, taU, taQ, onI, onS, onB, onV]

end Go.Proofs.Ytkacfjbhkgdpdaa
