/- Proved here: whether a sum is nought, of the program. -/
import Derived.Test.YtdidmjgilnhncabCfM
import Derived.Test.YtdidmjgilnhncabFsT
import Derived.Laws.StructEq
namespace Go.Proofs.Ytdidmjgilnhncab
open Go.RowKit
set_option linter.unusedVariables false
set_option linter.unusedSimpArgs false

theorem fr_guard : Try.prog.eqGuardType Try.prog.depth 38 = false := by kernel_rfl
theorem fq_in (d : Nat) (b c b' c' : Int) (w : World) : (Op.equalIn (d + 1 + 1) 31 (.agg #[.int .i64 b, .int .i64 c]) (.agg #[.int .i64 b', .int .i64 c'])).run Try.prog w = .ok (b == b' && c == c') w := by
  have u3 := Try.underlying2
  have a3 := Try.isAgg2
  have z3 := Try.sizeOf2
  have hS2 : Try.prog.underlying 31 = some (.struct (Try.prog.fieldsOf 31)) := by kernel_rfl
  have hp2 : Try.prog.stoodInHeld 31 = false := by kernel_rfl
  rw [run_equalIn_agg w (d + 1) 31 _ _ hS2 hp2]
  simp only [Program.fieldsOf, Try.underlying31]
  go_simp
  by_cases h1 : b = b' <;> by_cases h2 : c = c' <;> simp [h1, h2]
theorem fr_eql (a b c a' b' c' : Int) (w : World) : (binOp .eql 38 (.agg #[.int .i64 a, .int .i64 b, .int .i64 c]) (.agg #[.int .i64 a', .int .i64 b', .int .i64 c'])).run Try.prog w = .ok (.bool (decide (a = a' ∧ b = b' ∧ c = c'))) w := by
  have hS : Try.prog.underlying 38 = some (.struct (Try.prog.fieldsOf 38)) := by kernel_rfl
  have hp : Try.prog.stoodInHeld 38 = false := by kernel_rfl
  have hf : (Try.prog.fieldsOf 38).toList.map (fun f => (f.type, f.offset, f.name == "_")) = [(2, 0, false), (31, 1, false)] := by kernel_rfl
  rw [run_eql_struct, show (10000 : Nat) = 9997 + 1 + 1 + 1 from rfl, run_equalIn_agg w (9997 + 1 + 1) 38 _ _ hS hp]
  generalize 9997 = D
  simp only [Program.fieldsOf, Try.underlying38, List.toList_toArray]
  simp only [Op.eqFields]
  have q1 : ∀ (x y z : Int) (w : World), (part 2 #[.int .i64 x, .int .i64 y, .int .i64 z] 0).run Try.prog w = .ok (.int .i64 x) w := by
    intro x y z w
    have u3 := Try.underlying2
    have a3 := Try.isAgg2
    have z3 := Try.sizeOf2
    go_simp
  have q2 : ∀ (x y z : Int) (w : World), (part 31 #[.int .i64 x, .int .i64 y, .int .i64 z] 1).run Try.prog w = .ok (.agg #[.int .i64 y, .int .i64 z]) w := by
    intro x y z w
    have a3 := Try.isAgg31
    have z3 := Try.sizeOf31
    go_simp
  rw [if_pos (by decide), if_pos (by decide)]
  simp only [Sem.run_bind, q1, q2, Result.andThen_ok, run_equalIn_int w (D + 1) 2 .i64 .i64 a a' Try.underlying2]
  by_cases h1 : a = a'
  · subst h1
    simp only [beq_self_eq_true, Bool.not_true, Bool.false_eq_true, if_false, Sem.run_bind, q2, Result.andThen_ok, fq_in]
    by_cases h2 : b = b' <;> by_cases h3 : c = c' <;> simp [h2, h3]
  · have e : (a == a') = false := by simpa using h1
    simp [e, h1]

set_option maxRecDepth 10000 in
set_option maxHeartbeats 3200000 in
theorem impl_isN {w : World} {v : Value} {ts : List FT} (hn : ts.length ≤ 1000000) (h : RG 3 fstC w v ts) :
    Calls Try.prog 42 #[v] w fun e w' => e = .returned (.bool (isN (s0 (ts.map fstQ)))) ∧ Below w.heap.size w w' := by
  obtain ⟨q, hq⟩ : ∃ q, q = zq (s0 (ts.map fstQ)) := ⟨_, rfl⟩
  have e : isN (s0 (ts.map fstQ)) = isN q := by rw [hq, isN_zq]
  rw [e]
  have HW : Hid (∀ W, Calls Try.prog 45 #[.int .i64 0] W fun e w' => e = .returned (.agg #[.int .i64 0, .int .i64 1]) ∧ Below W.heap.size W w') := fun W => impl_whole 0 W
  have HS : Hid (∀ W, Below w.heap.size w W → Calls Try.prog 69 #[v, .agg #[.int .i64 0, .int .i64 1]] W fun e w' => e = .returned (.agg #[.int .i64 q.c, .int .i64 q.n, .int .i64 q.d]) ∧ Below W.heap.size W w') := fun W hW => by
    rw [hq]; exact impl_fromT (whole 0) hn (h.below hW)
  obtain ⟨a, c, rfl⟩ := h.form
  obtain ⟨n, hnn⟩ : ∃ n, n = ts.length := ⟨_, rfl⟩
  rw [← hnn] at HS ⊢
  clear hq h hn hnn e
  obtain ⟨qc, qn, qd⟩ := q
  have hg := fr_guard
  have he := fr_eql qc qn qd 0 0 1
  go_enter Try.func42, Try.ntmps42
  go_wp2_with (fail)
  refine (HW.out _).mono ?_
  rintro e w1 ⟨rfl, hb1⟩
  go_wp2_with (fail)
  refine (HS.out _ hb1).mono ?_
  rintro e w2 ⟨rfl, hb2⟩
  have HB2 : Hid (Below w.heap.size w w2) := hb1.trans (hb2.mono hb1.size)
  clear hb1 hb2 HS
  go_wp2_with (fail)
  refine (HW.out _).mono ?_
  rintro e w3 ⟨rfl, hb3⟩
  have HB3 : Hid (Below w.heap.size w w3) := HB2.out.trans (hb3.mono HB2.out.size)
  clear hb3 HB2 HW
  have HE : Hid ((decide (qc = 0) && (decide (qn = 0) && decide (qd = 1))) = isN ⟨qc, qn, qd⟩) := by unfold Hid isN; rw [Bool.decide_and, Bool.decide_and]
  go_wp2
  go_returns
  exact ⟨by rw [← HE.out]; rfl, HB3.out⟩

end Go.Proofs.Ytdidmjgilnhncab
