/- Proved here: an append to a list of the call's own, inside a statement that may be carried out in several orders; how a function is entered. No condition on the program. (And ahead of it: Proved here: slices.Clone of a list of numbers and of a list of windows.) -/
import Derived.Test.YtcfjanignfbidaaQlU
import Derived.Test.YtcfjanignfbidaaQbU
import Derived.Test.YtcfjanignfbidaaRwG
import Derived.Test.YtcfjanignfbidaaProg
import Derived.Laws.AppendOwnNone
namespace Go.Proofs.Ytcfjanignfbidaa
open Go.RowKit Go.Maps
set_option linter.unusedVariables false
set_option linter.unusedSimpArgs false

set_option maxRecDepth 10000 in
set_option maxHeartbeats 1600000 in
theorem cl_int {w : World} {v : Value} {s : List Int} (hn : s.length ≤ 1048576) (hc : NC v) (h : RdI w v s) :
    Calls Try.prog 72 #[v] w fun e w' => ∃ v', e = .returned v' ∧ IS w' w.heap.size v' s ∧ Below w.heap.size w w' := by
  obtain ⟨i0, hi, hz0, hz1, hz2⟩ := info_parts info_i64
  have qT : ∀ (w : World) (a : Option Addr) (n c : Nat), (binOp .eql 24 (.slice a n c) (.slice none 0 0)).run Try.prog w = .ok (.bool a.isNone) w := fun w a n c => Lib.run_eql_slice_nil w _ _ a n c 0 0 Try.underlying24
  obtain ⟨a, c, rfl⟩ := h.form
  obtain ⟨n, hnn⟩ : ∃ n, n = s.length := ⟨_, rfl⟩
  rw [← hnn] at hn h hc ⊢
  cases a with
  | none =>
    obtain ⟨rfl, rfl⟩ := hc _ _ rfl
    obtain rfl : s = [] := List.eq_nil_of_length_eq_zero hnn.symm
    clear h hc hnn hn
    go_enter Try.func72, Try.ntmps72
    go_wp2
    go_returns
    exact ⟨_, rfl, World.ownsRow_nil _ _ _ _, Below.refl _ _⟩
  | some ad =>
    have H : Hid (RdI (w.alloc (.cells #[] 2)) (.slice (some ad) n c) s ∧ n = s.length) := ⟨h.below (by (repeat' (first | (with_reducible exact Below.refl _ _) | (with_reducible assumption) | (with_reducible refine Below.setCell ?_ ?_ _) | (with_reducible refine Below.alloc ?_ ?_ _) | (with_reducible refine below_drewN ?_ _) | (with_reducible refine Below.drew ?_) | (with_reducible exact Nat.le_refl _) | omega | (simp; done) | (simp; omega)))), hnn⟩
    clear hnn h hc
    go_enter Try.func72, Try.ntmps72
    go_wp2_with (at_builtin; (refine wpList_append_own _ rfl _ _ 24 rfl w.heap.size 2 i0 (.int .i64 0) 1 8 Try.underlying24 hi hz0 hz1 hz2 rfl (by decide) (.slice (some ⟨w.heap.size, 0, none⟩) 0 0) 0 [] rfl (is_lit0 w _ (Nat.le_refl _)) ad n c (s.map (Value.int .i64)) rfl (by rw [H.out.2]; simp) (newsI H.out.1 _ rfl) (ones_int _) (by unfold maxLen; omega) (by omega) (by simp) ?_; intro v1 w1 hown1 hgrow1 hnil1))
    have R : Hid (IS w1 w.heap.size v1 s ∧ Below w.heap.size w w1) := by
      refine ⟨?_, ((Below.refl _ _).alloc (Nat.le_refl _) _).grown hgrow1 (by simp) (fun j hj => by cases hj; exact Nat.le_refl _)⟩
      rw [H.out.2] at hown1
      unfold IS
      simpa using hown1
    clear hown1 hgrow1 hnil1
    go_returns
    exact ⟨_, rfl, R.out.1, R.out.2⟩

set_option maxRecDepth 10000 in
set_option maxHeartbeats 1600000 in
theorem cl_wd {w : World} {v : Value} {s : List Wdw} (hn : s.length ≤ 1048576) (hc : NC v) (h : RG 3 wdC w v s) :
    Calls Try.prog 71 #[v] w fun e w' => ∃ v', e = .returned v' ∧ OG 99 3 wdC w' w.heap.size v' s ∧ Below w.heap.size w w' := by
  obtain ⟨i0, hi, hz0, hz1, hz2⟩ := info_parts info_Window
  have qT : ∀ (w : World) (a : Option Addr) (n c : Nat), (binOp .eql 28 (.slice a n c) (.slice none 0 0)).run Try.prog w = .ok (.bool a.isNone) w := fun w a n c => Lib.run_eql_slice_nil w _ _ a n c 0 0 Try.underlying28
  obtain ⟨a, c, rfl⟩ := h.form
  obtain ⟨n, hnn⟩ : ∃ n, n = s.length := ⟨_, rfl⟩
  rw [← hnn] at hn h hc ⊢
  cases a with
  | none =>
    obtain ⟨rfl, rfl⟩ := hc _ _ rfl
    obtain rfl : s = [] := List.eq_nil_of_length_eq_zero hnn.symm
    clear h hc hnn hn
    go_enter Try.func71, Try.ntmps71
    go_wp2
    go_returns
    exact ⟨_, rfl, World.ownsRow_nil _ _ _ _, Below.refl _ _⟩
  | some ad =>
    have H : Hid (RG 3 wdC (w.alloc (.cells #[] 99)) (.slice (some ad) n c) s ∧ n = s.length) := ⟨h.below (by (repeat' (first | (with_reducible exact Below.refl _ _) | (with_reducible assumption) | (with_reducible refine Below.setCell ?_ ?_ _) | (with_reducible refine Below.alloc ?_ ?_ _) | (with_reducible refine below_drewN ?_ _) | (with_reducible refine Below.drew ?_) | (with_reducible exact Nat.le_refl _) | omega | (simp; done) | (simp; omega)))), hnn⟩
    clear hnn h hc
    go_enter Try.func71, Try.ntmps71
    go_wp2_with (at_builtin; (refine wpList_append_own _ rfl _ _ 28 rfl w.heap.size 99 i0 (.agg #[.int .i64 0, .int .i64 0, .int .i64 0]) 3 24 Try.underlying28 hi hz0 hz1 hz2 rfl (by decide) (.slice (some ⟨w.heap.size, 0, none⟩) 0 0) 0 [] rfl (World.ownsRow_lit w #[] 0 (Nat.le_refl _) (by decide) (by simp)) ad n c (s.flatMap wdC) rfl (by rw [H.out.2]; rw [fm_length wdC_len]) (newsK wdC_len (by decide) H.out.1 _ rfl) (ones_of wdC_one _) (by unfold maxLen; omega) (by omega) (by simp) ?_; intro v1 w1 hown1 hgrow1 hnil1))
    have R : Hid (OG 99 3 wdC w1 w.heap.size v1 s ∧ Below w.heap.size w w1) := by
      refine ⟨?_, ((Below.refl _ _).alloc (Nat.le_refl _) _).grown hgrow1 (by simp) (fun j hj => by cases hj; exact Nat.le_refl _)⟩
      rw [H.out.2] at hown1
      unfold OG
      simpa using hown1
    clear hown1 hgrow1 hnil1
    go_returns
    exact ⟨_, rfl, R.out.1, R.out.2⟩


end Go.Proofs.Ytcfjanignfbidaa

namespace Go.Proofs.Ytcfjanignfbidaa
open Go.RowKit
set_option linter.unusedVariables false
set_option linter.unusedSimpArgs false

theorem op_appA {P : Program} {ops : Array Oper} {Q : Exit → Act → World → Prop} {j dd : Nat} {w : World} {o : Oper} {a : Act} {K : Act → World → Prop} (hj : ops[j]? = some o) (hd : o.dst = some dd) (hgd : o.guard = none) (s x : Operand) (t : TypeId)
    (ho : o.op = .call { callee := .builtin .append, args := #[s, x], argTypes := #[t, t] })
    (base : Nat) (e : TypeId) (i : TypeInfo) (z : Value) (size bytes : Nat) (ht : P.underlying t = some (.slice e)) (hi : P.info? e = some i) (hz : i.zero = some z)
    (hsize : i.size = size) (hby : i.bytes = bytes) (hzs : z.cells.size = size) (hsz : 0 < size)
    (v : Value) (n : Nat) (xs : List Value) (hs : a.eval s = v) (hown : w.ownsRow base e size v n xs)
    (ao : Option Addr) (m c : Nat) (news : List Value) (hx : a.eval x = .slice ao m c) (hl : news.length = m * size) (hnone : ao = none → m = 0 ∧ c = 0) (hnews : ∀ ad, ao = some ad → ∀ j u, news[j]? = some u → w.cell? (ad.add j) = some u) (h1 : ∀ u ∈ news, u.oneCell' = true)
    (h63 : n + m ≤ maxLen) (hbytes : (n + m) * bytes ≤ 140737488355328) (hbase : base ≤ w.heap.size)
    (h : ∀ v' w', w'.ownsRow base e size v' (n + m) (xs ++ news) → w.grownBy w' v.ownBlock → K (a.put (some dd) v') w') : wpOp P ops Q j K a w := by
  unfold wpOp
  simp only [hj, wanted_none hgd, if_true]
  refine Or.inl ?_
  cases ao with
  | some ad =>
    refine wp_append_own w s x t ho base e i z size bytes ht hi hz hsize hby hzs hsz v n xs hs hown ad m c news hx hl (hnews ad rfl) h1 h63 hbytes hbase fun v' w' h2 h3 _ => ?_
    rw [hd]
    exact h v' w' h2 h3
  | none =>
    obtain ⟨rfl, rfl⟩ := hnone rfl
    obtain rfl : news = [] := List.eq_nil_of_length_eq_zero (by simpa using hl)
    have hrun := run_append_owned_none (P := P) (w := w) base t o.type e i size ht hi v n xs hown
    unfold Oper.wp
    simp [execOp, ho, resolve, invoke, builtin, hs, hx, hrun, Result.andThen]
    simp only [Oper.upon, hd]
    exact h v w (by simpa using hown) ⟨rfl, rfl, rfl, Nat.le_refl _, fun k _ _ => rfl⟩

theorem enter_fn {f : FuncId} {fn : Func} (hf : Try.prog.funcs[f]? = some fn) (hname : (fn.name == "runtime.NumGoroutine") = false) (hb : fn.body.isSome = true) (args : Array Value) (w : World) : (callFunc f args).run Try.prog w = .ok (.enter f args) w := by
  obtain ⟨c, hc⟩ := Option.isSome_iff_exists.1 hb
  have h1 : fn.name ≠ "runtime.NumGoroutine" := by simpa using hname
  simp [callFunc, hf, h1, hc]

end Go.Proofs.Ytcfjanignfbidaa
