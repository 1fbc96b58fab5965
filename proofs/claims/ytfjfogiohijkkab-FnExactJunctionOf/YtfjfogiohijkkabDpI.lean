/- Proved here: the depths of a profile, as an iterator that is ranged over: its contract. -/
import Derived.Test.YtfjfogiohijkkabPfM
import Derived.Test.YtfjfogiohijkkabNlJ
import Derived.Test.YtfjfogiohijkkabLwS
import Derived.RangeFuncNested
import Derived.RangeFuncBound
import Derived.RangeFuncCalls
import Derived.RangeFuncLeaves
import Derived.Shelf.Abstract
import Derived.WalkKit
import Derived.OwnWalkIn
import Derived.TacticsInMore
import Derived.LoopNIn
import Derived.LoopIn
namespace Go.Proofs.Ytfjfogiohijkkab
open Go.RowKit Go.Shelf
set_option linter.unusedVariables false
set_option linter.unusedSimpArgs false
attribute [local go_sem] Oper.semAt_some

set_option maxRecDepth 100000 in
set_option maxHeartbeats 4000000 in
theorem dp_in (F : Fence) (n : Nat) (h7 : F.fn 32) (hro : F.round = none) (hn : 1 ≤ n) (l Bs n₀ cap len : Nat) (o : Int) (xa : Option Addr) (c : List Int) (hlen : len = c.length) (h24 : len ≤ 1048576) (J Jx : List (Dp c) → World → Prop)
    (hY : ∀ pre x W, J pre W → pre.length < c.length → YieldAt F (n - 1) Try.prog l (dpE x) W fun e W' =>
      (e = .returned (.bool true) ∧ J (pre ++ [x]) W' ∧ Below n₀ W W') ∨ (e = .returned (.bool false) ∧ Jx (pre ++ [x]) W'))
    (W : World) (hBs : W.heap[Bs]? = some (.cells #[.slice xa len cap, .int .i64 o] 29)) (hc : ∀ W', Below n₀ W W' → RdI W' (.slice xa len cap) c) (h0 : J [] W) :
    CallsIn F n Try.prog 32 #[.func (.yield l) #[] #[], .pointer (some ⟨Bs, 0, none⟩)] W fun e W' => (∃ v, e = .returned v) ∧
      ((∃ ys, ys = dpL c c.length ∧ J ys W') ∨ (∃ pre, (∃ k, k ≤ c.length ∧ pre = dpL c k) ∧ Jx pre W')) := by
  refine callsIn_of_wp Try.func32 rfl h7 ?_ hro
  simp only [Try.ntmps32, List.size_toArray, List.length_cons, List.length_nil, Nat.reduceAdd, Nat.reduceSub, Array.replicate_succ, Array.replicate_zero, List.push_toArray, List.append_toArray, List.nil_append, List.cons_append]
  have hs0 := cellOf hBs 0 rfl
  have hsB := ltOf hBs
  clear hBs
  have HC : Hid (∀ W', Below n₀ W W' → RdI W' (.slice xa len cap) c) := hc
  have HL : Hid (len = c.length) := hlen
  clear hc hlen
  gi_wp2
  gi_loopw [3, 4, 8] (fun _ _ i wr => ∃ k : Nat, k ≤ len ∧ i = .int .i64 (k : Int) ∧ J (dpL c k) wr ∧ Hid (Below n₀ W wr))
    (fun _ _ i _ => len - (intOf i).toNat)
  case atStart => exact ⟨0, Nat.zero_le _, rfl, h0, Below.refl _ _⟩
  case round =>
    obtain ⟨k, hk, rfl, hJs, hnx⟩ := hrel
    by_cases hlt : k < len
    · have hpl : k < c.length := by rw [← HL.out]; exact hlt
      obtain ⟨fn, tmps, assign, body, hy, hR⟩ := hY _ ⟨(k, c.getD k 0), hpl, rfl⟩ wr hJs (by rw [dpL_len (by rw [← HL.out]; exact hk), ← HL.out]; exact hlt)
      unfold dpE at hy
      dsimp only at hy
      obtain ⟨g, o, rfl, hg, d0⟩ := rd_at (HC.out wr hnx.out) hlt
      have HS : Hid (dpL c (k + 1) = dpL c k ++ [⟨(k, c.getD k 0), hpl, rfl⟩]) := dpL_succ hpl
      obtain ⟨x, hx⟩ : ∃ x, x = c.getD k 0 := ⟨_, rfl⟩
      rw [← hx] at d0 hy
      clear hx
      have b0 : (0 : Int) ≤ (k : Int) := by omega
      have b1 : (k : Int) < (len : Int) := by omega
      gi_wp2
      refine hR.mono ?_
      rintro e W3 (⟨rfl, hJ3, hk3⟩ | ⟨rfl, hJx3⟩)
      · gi_wp2
        go_roundw
        case rel => exact ⟨k + 1, by omega, by go_num, by rw [HS.out]; exact hJ3, hnx.out.trans hk3⟩
        case measure => simp [intOf] <;> omega
      · gi_wp2
        refine bodyPost_ret (results_none rfl _ _ _) rfl ?_
        exact ⟨⟨_, rfl⟩, .inr ⟨_, ⟨k + 1, by rw [← HL.out]; omega, HS.out.symm⟩, hJx3⟩⟩
    · obtain rfl : k = len := by omega
      rw [HL.out] at hJs
      gi_wp2
      go_end0
      exact ⟨⟨_, rfl⟩, .inl ⟨_, rfl, hJs⟩⟩

theorem dp_stops (F : Fence) (n : Nat) (h7 : F.fn 32) (hro : F.round = none) (hn : 1 ≤ n) (Bs n₀ cap len : Nat) (o : Int) (xa : Option Addr) (c : List Int) (hlen : len = c.length) (h24 : len ≤ 1048576) (w : World) (hBs : w.heap[Bs]? = some (.cells #[.slice xa len cap, .int .i64 o] 29)) (hn0 : n₀ ≤ w.heap.size) (hc : ∀ W', Below n₀ w W' → RdI W' (.slice xa len cap) c) :
    SeqStopsK F n Try.prog 32 #[.pointer (some ⟨Bs, 0, none⟩)] (dpE (s := c)) (Below n₀) (fun ys => ys = dpL c c.length) (fun pre => ∃ k, k ≤ c.length ∧ pre = dpL c k) c.length w := fun l J Jx W hW _ _ hY h0 =>
  dp_in F n h7 hro hn l Bs n₀ cap len o xa c hlen h24 J Jx hY W ((hW.block Bs (ltOf hBs)).trans hBs) (fun W' h' => hc W' ((hW.mono hn0).trans h')) h0

theorem dp_fn (a : Option Addr) (len cap : Nat) (o : Int) (w : World) : Calls Try.prog 23 #[.agg #[.slice a len cap, .int .i64 o]] w fun e w' => e = .returned (.func (.func 32) #[] #[.pointer (some ⟨w.heap.size, 0, none⟩)]) ∧ w' = w.alloc (.cells #[.slice a len cap, .int .i64 o] 29) := by
  go_enter Try.func23, Try.ntmps23
  go_wp2
  go_returns
  exact ⟨rfl, rfl⟩

end Go.Proofs.Ytfjfogiohijkkab
