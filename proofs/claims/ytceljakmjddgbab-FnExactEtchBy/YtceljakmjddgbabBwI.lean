/- Proved here: slices.Backward over films, as an iterator that is ranged over: its contract. -/
import Derived.Test.YtceljakmjddgbabScM
import Derived.Test.YtceljakmjddgbabLwS
import Derived.RangeFuncNested
import Derived.RangeFuncBound
import Derived.RangeFuncCalls
import Derived.RangeFuncLeaves
import Derived.Shelf.Abstract
import Derived.WalkKit
import Derived.OwnWalkIn
import Derived.TacticsInMore
import Derived.LoopNIn
import Derived.LoopIn
namespace Go.Proofs.Ytceljakmjddgbab
open Go.RowKit Go.Shelf
attribute [local go_sem] Oper.semAt_some

/-- A film of the column, with its place. -/
def Bw (c : List Flm) : Type := { p : Nat × Flm // p.1 < c.length ∧ p.2 = fat c p.1 }
def bwE {c : List Flm} (x : Bw c) : Array Value := #[.int .i64 (x.1.1 : Int), .agg #[.int .i64 x.1.2.m, .int .i64 x.1.2.t]]
/-- The films from the top, the first k of them. -/
def bwL (c : List Flm) (k : Nat) : List (Bw c) := (List.range k).filterMap fun q => if h : c.length - 1 - q < c.length then some ⟨(c.length - 1 - q, fat c (c.length - 1 - q)), h, rfl⟩ else none
theorem bwL_zero (c : List Flm) : bwL c 0 = [] := rfl
theorem bwL_succ {c : List Flm} {k : Nat} (h : c.length - 1 - k < c.length) : bwL c (k + 1) = bwL c k ++ [⟨(c.length - 1 - k, fat c (c.length - 1 - k)), h, rfl⟩] := by
  unfold bwL
  rw [List.range_succ, List.filterMap_append]
  congr 1
  simp only [List.filterMap_cons, List.filterMap_nil]
  rw [dif_pos h]
theorem bwL_len {c : List Flm} {k : Nat} (h : k ≤ c.length) : (bwL c k).length = k := by
  induction k with
  | zero => rfl
  | succ k ih => rw [bwL_succ (by omega), List.length_append, ih (by omega)]; rfl

/-- What a round that goes on keeps. -/
def bwK (n₀ Bs : Nat) (A B : World) : Prop := Below n₀ A B ∧ B.heap[Bs]? = A.heap[Bs]?

set_option maxRecDepth 100000 in
set_option maxHeartbeats 4000000 in
theorem bw_in (F : Fence) (n : Nat) (h7 : F.fn 86) (hro : F.round = none) (hn : 1 ≤ n) (l Bs n₀ cap len : Nat) (xa : Option Addr) (c : List Flm) (hlen : len = c.length) (h24 : len ≤ 1000) (J Jx : List (Bw c) → World → Prop)
    (hY : ∀ pre x W, J pre W → pre.length < c.length → YieldAt F (n - 1) Try.prog l (bwE x) W fun e W' =>
      (e = .returned (.bool true) ∧ J (pre ++ [x]) W' ∧ bwK n₀ Bs W W') ∨ (e = .returned (.bool false) ∧ Jx (pre ++ [x]) W'))
    (W : World) (hBs : W.heap[Bs]? = some (.cells #[.slice xa len cap] 62)) (hc : ∀ W', Below n₀ W W' → RG 2 flC W' (.slice xa len cap) c) (h0 : J [] W) :
    CallsIn F n Try.prog 86 #[.func (.yield l) #[] #[], .pointer (some ⟨Bs, 0, none⟩)] W fun e W' => (∃ v, e = .returned v) ∧
      ((∃ ys, ys = bwL c c.length ∧ J ys W') ∨ (∃ pre, (∃ k, k ≤ c.length ∧ pre = bwL c k) ∧ Jx pre W')) := by
  refine callsIn_of_wp Try.func86 rfl h7 ?_ hro
  simp only [Try.ntmps86, List.size_toArray, List.length_cons, List.length_nil, Nat.reduceAdd, Nat.reduceSub, Array.replicate_succ, Array.replicate_zero, List.push_toArray, List.append_toArray, List.nil_append, List.cons_append]
  have k1 : IntKind.i64.wrap ((len : Int) - 1) = (len : Int) - 1 := by rw [IntKind.wrap_i64]; omega
  have hs0 := cellOf hBs 0 rfl
  have hsB := ltOf hBs
  have HBS : Hid (W.heap[Bs]? = some (.cells #[.slice xa len cap] 62)) := hBs
  clear hBs
  have HC : Hid (∀ W', Below n₀ W W' → RG 2 flC W' (.slice xa len cap) c) := hc
  have HL : Hid (len = c.length) := hlen
  clear hc hlen
  gi_wp2
  gi_loopw [3] (fun i wr => ∃ k : Nat, k ≤ len ∧ i = .int .i64 ((len : Int) - 1 - k) ∧ J (bwL c k) wr ∧ Hid (bwK n₀ Bs W wr))
    (fun i _ => (intOf i + 1).toNat)
  case atStart => exact ⟨0, Nat.zero_le _, by simp, h0, Below.refl _ _, rfl⟩
  case round =>
    obtain ⟨k, hk, rfl, hJs, hnx⟩ := hrel
    have s0 := cellOf (hnx.out.2.trans HBS.out) 0 rfl
    have s1 : Bs < wr.heap.size := Nat.lt_of_lt_of_le hsB hnx.out.1.size
    by_cases hlt : k < len
    · obtain ⟨p, hp⟩ : ∃ p : Nat, p = len - 1 - k := ⟨_, rfl⟩
      have hpl : p < c.length := by rw [← HL.out]; omega
      obtain ⟨fn, tmps, assign, body, hy, hR⟩ := hY _ ⟨(p, fat c p), hpl, rfl⟩ wr hJs (by rw [bwL_len (by rw [← HL.out]; exact hk), ← HL.out]; exact hlt)
      unfold bwE at hy
      dsimp only at hy
      obtain ⟨g, o, rfl, hg, d0, d1⟩ := fl_at (HC.out wr hnx.out.1) (show p < len by omega)
      have e1 : (len : Int) - 1 - k = (p : Int) := by omega
      have HS : Hid (bwL c (k + 1) = bwL c k ++ [⟨(p, fat c p), hpl, rfl⟩]) := by
        unfold Hid
        have e2 : c.length - 1 - k = p := by rw [← HL.out]; omega
        subst e2
        exact bwL_succ hpl
      obtain ⟨fm, hfm⟩ : ∃ x, x = (fat c p).m := ⟨_, rfl⟩
      obtain ⟨ft, hft⟩ : ∃ x, x = (fat c p).t := ⟨_, rfl⟩
      rw [← hfm] at d0 hy
      rw [← hft] at d1 hy
      have HE1 : Hid ((len : Int) - 1 - k = (p : Int)) := e1
      rw [e1]
      clear e1 hp hfm hft
      have b0 : (0 : Int) ≤ (p : Int) := by omega
      have b1 : (p : Int) < (len : Int) := by have := HE1.out; omega
      have k2 : IntKind.i64.wrap ((p : Int) - 1) = (p : Int) - 1 := by rw [IntKind.wrap_i64]; omega
      gi_wp2
      refine hR.mono ?_
      rintro e W3 (⟨rfl, hJ3, hk3⟩ | ⟨rfl, hJx3⟩)
      · gi_wp2
        go_roundw
        case rel => exact ⟨k + 1, by omega, by have := HE1.out; rw [show (p : Int) - 1 = (len : Int) - 1 - (k + 1 : Nat) by omega], by rw [HS.out]; exact hJ3, hnx.out.1.trans hk3.1, hk3.2.trans hnx.out.2⟩
        case measure => simp [intOf] <;> omega
      · gi_wp2
        refine bodyPost_ret (results_none rfl _ _ _) rfl ?_
        exact ⟨⟨_, rfl⟩, .inr ⟨_, ⟨k + 1, by rw [← HL.out]; omega, HS.out.symm⟩, hJx3⟩⟩
    · obtain rfl : k = len := by omega
      have e3 : (k : Int) - 1 - k = -1 := by omega
      rw [e3]
      clear e3
      rw [HL.out] at hJs
      gi_wp2
      go_end0
      exact ⟨⟨_, rfl⟩, .inl ⟨_, rfl, hJs⟩⟩

theorem bwK_t {n₀ Bs : Nat} {A B C : World} (h : bwK n₀ Bs A B) (k : bwK n₀ Bs B C) : bwK n₀ Bs A C := ⟨h.1.trans k.1, k.2.trans h.2⟩
theorem bw_stops (F : Fence) (n : Nat) (h7 : F.fn 86) (hro : F.round = none) (hn : 1 ≤ n) (Bs n₀ cap len : Nat) (xa : Option Addr) (c : List Flm) (hlen : len = c.length) (h24 : len ≤ 1000) (w : World) (hBs : w.heap[Bs]? = some (.cells #[.slice xa len cap] 62)) (hn0 : n₀ ≤ w.heap.size) (hc : ∀ W', Below n₀ w W' → RG 2 flC W' (.slice xa len cap) c) :
    SeqStopsK F n Try.prog 86 #[.pointer (some ⟨Bs, 0, none⟩)] (bwE (c := c)) (bwK n₀ Bs) (fun ys => ys = bwL c c.length) (fun pre => ∃ k, k ≤ c.length ∧ pre = bwL c k) c.length w := fun l J Jx W hW _ _ hY h0 =>
  bw_in F n h7 hro hn l Bs n₀ cap len xa c hlen h24 J Jx hY W ((hW.block Bs (ltOf hBs)).trans hBs) (fun W' h' => hc W' ((hW.mono hn0).trans h')) h0

theorem bw_fn (a : Option Addr) (len cap : Nat) (w : World) : Calls Try.prog 78 #[.slice a len cap] w fun e w' => e = .returned (.func (.func 86) #[] #[.pointer (some ⟨w.heap.size, 0, none⟩)]) ∧ w' = w.alloc (.cells #[.slice a len cap] 62) := by
  go_enter Try.func78, Try.ntmps78
  go_wp2
  go_returns
  exact ⟨rfl, rfl⟩

end Go.Proofs.Ytceljakmjddgbab
