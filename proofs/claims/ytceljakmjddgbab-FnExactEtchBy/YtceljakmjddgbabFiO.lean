/- Proved here: lists of lists of Film in a law's state. (And ahead of it: Proved here: an append to a list of the call's own, inside a statement that may be carried out in several orders; how a function is entered. No condition on the program.) (And ahead of it: Proved here: the first number that is not 0 (cmp.Or), of the program.) -/
import Derived.Test.YtceljakmjddgbabLwS
import Derived.Test.YtceljakmjddgbabInsC
import Derived.Test.YtceljakmjddgbabProg
import Derived.Laws.AppendOwnNone
import Derived.Test.YtceljakmjddgbabFiR
namespace Go.Proofs.Ytceljakmjddgbab
open Go.RowKit
set_option linter.unusedVariables false
set_option linter.unusedSimpArgs false

/-- The first that is not 0. -/
def orL : List Int → Int
  | [] => 0
  | x :: t => if x = 0 then orL t else x
theorem orL_drop {xs : List Int} {k : Nat} (h : k < xs.length) : orL (xs.drop k) = if xs[k] = 0 then orL (xs.drop (k + 1)) else xs[k] := by
  rw [List.drop_eq_getElem_cons h, orL]

set_option maxRecDepth 10000 in
set_option maxHeartbeats 3200000 in
theorem impl_or {w : World} {g n : Nat} {xs : List Int} (hn : n ≤ 1000) (hl : n = xs.length) (h : ∀ j (hj : j < xs.length), w.cell? ⟨g, j, none⟩ = some (.int .i64 xs[j])) :
    Calls Try.prog 42 #[.slice (some ⟨g, 0, none⟩) n n] w fun e w' => e = .returned (.int .i64 (orL xs)) ∧ w' = w := by
  obtain ⟨G, hG⟩ : ∃ G, G = orL xs := ⟨_, rfl⟩
  rw [← hG]
  have H : Hid (n = xs.length ∧ G = orL xs ∧ ∀ j (hj : j < xs.length), w.cell? ⟨g, j, none⟩ = some (.int .i64 xs[j])) := ⟨hl, hG, h⟩
  clear hl hG h
  go_enter Try.func42, Try.ntmps42
  go_wp2
  go_loopw [8] (fun i wr => ∃ k : Nat, k ≤ n ∧ i = .int .i64 k ∧ wr = w ∧ Hid (G = orL (xs.drop k))) (fun i _ => n - (intOf i).toNat)
  case atStart => exact ⟨0, Nat.zero_le _, rfl, rfl, H.out.2.1⟩
  case round =>
    obtain ⟨k, hk, rfl, rfl, hR⟩ := hrel
    by_cases hlt : k < n
    · have hjl : k < xs.length := by rw [← H.out.1]; exact hlt
      have c0 := H.out.2.2 k hjl
      obtain ⟨x, hx⟩ : ∃ x, x = xs[k] := ⟨_, rfl⟩
      rw [← hx] at c0
      have HN : Hid (G = if x = 0 then orL (xs.drop (k + 1)) else x) := by unfold Hid; rw [hR.out, orL_drop hjl, hx]
      clear hx hR
      have b0 : (0 : Int) ≤ (k : Int) := by omega
      have b1 : (k : Int) < (n : Int) := by omega
      by_cases h0 : x = 0
      · have HN2 : Hid (G = orL (xs.drop (k + 1))) := by have e := HN.out; rw [if_pos h0] at e; exact e
        have hA : (x != 0) = false := by rw [h0]; rfl
        clear HN h0
        go_wp2
        go_roundw
        case rel => exact ⟨k + 1, by omega, by go_num, by first | rfl | trivial, HN2.out⟩
        case measure => simp [intOf]; omega
      · have HN2 : Hid (G = x) := by have e := HN.out; rw [if_neg h0] at e; exact e
        have hA : (x != 0) = true := by simpa using h0
        clear HN h0
        go_wp2
        go_returns
        exact ⟨by rw [HN2.out]; rfl, rfl⟩
    · have HN2 : Hid (G = 0) := by unfold Hid; rw [hR.out, List.drop_eq_nil_of_le (by rw [← H.out.1]; omega)]; rfl
      go_wp2
      go_returns
      exact ⟨by rw [HN2.out]; rfl, rfl⟩

end Go.Proofs.Ytceljakmjddgbab

namespace Go.Proofs.Ytceljakmjddgbab
open Go.RowKit
set_option linter.unusedVariables false
set_option linter.unusedSimpArgs false

theorem op_appA {P : Program} {ops : Array Oper} {Q : Exit → Act → World → Prop} {j dd : Nat} {w : World} {o : Oper} {a : Act} {K : Act → World → Prop} (hj : ops[j]? = some o) (hd : o.dst = some dd) (hgd : o.guard = none) (s x : Operand) (t : TypeId)
    (ho : o.op = .call { callee := .builtin .append, args := #[s, x], argTypes := #[t, t] })
    (base : Nat) (e : TypeId) (i : TypeInfo) (z : Value) (size bytes : Nat) (ht : P.underlying t = some (.slice e)) (hi : P.info? e = some i) (hz : i.zero = some z)
    (hsize : i.size = size) (hby : i.bytes = bytes) (hzs : z.cells.size = size) (hsz : 0 < size)
    (v : Value) (n : Nat) (xs : List Value) (hs : a.eval s = v) (hown : w.ownsRow base e size v n xs)
    (ao : Option Addr) (m c : Nat) (news : List Value) (hx : a.eval x = .slice ao m c) (hl : news.length = m * size) (hnone : ao = none → m = 0 ∧ c = 0) (hnews : ∀ ad, ao = some ad → ∀ j u, news[j]? = some u → w.cell? (ad.add j) = some u) (h1 : ∀ u ∈ news, u.oneCell' = true)
    (h63 : n + m ≤ maxLen) (hbytes : (n + m) * bytes ≤ 140737488355328) (hbase : base ≤ w.heap.size)
    (h : ∀ v' w', w'.ownsRow base e size v' (n + m) (xs ++ news) → w.grownBy w' v.ownBlock → K (a.put (some dd) v') w') : wpOp P ops Q j K a w := by
  unfold wpOp
  simp only [hj, wanted_none hgd, if_true]
  refine Or.inl ?_
  cases ao with
  | some ad =>
    refine wp_append_own w s x t ho base e i z size bytes ht hi hz hsize hby hzs hsz v n xs hs hown ad m c news hx hl (hnews ad rfl) h1 h63 hbytes hbase fun v' w' h2 h3 _ => ?_
    rw [hd]
    exact h v' w' h2 h3
  | none =>
    obtain ⟨rfl, rfl⟩ := hnone rfl
    obtain rfl : news = [] := List.eq_nil_of_length_eq_zero (by simpa using hl)
    have hrun := run_append_owned_none (P := P) (w := w) base t o.type e i size ht hi v n xs hown
    unfold Oper.wp
    simp [execOp, ho, resolve, invoke, builtin, hs, hx, hrun, Result.andThen]
    simp only [Oper.upon, hd]
    exact h v w (by simpa using hown) ⟨rfl, rfl, rfl, Nat.le_refl _, fun k _ _ => rfl⟩

theorem enter_fn {f : FuncId} {fn : Func} (hf : Try.prog.funcs[f]? = some fn) (hname : (fn.name == "runtime.NumGoroutine") = false) (hb : fn.body.isSome = true) (args : Array Value) (w : World) : (callFunc f args).run Try.prog w = .ok (.enter f args) w := by
  obtain ⟨c, hc⟩ := Option.isSome_iff_exists.1 hb
  have h1 : fn.name ≠ "runtime.NumGoroutine" := by simpa using hname
  simp [callFunc, hf, h1, hc]

end Go.Proofs.Ytceljakmjddgbab

namespace Go.Proofs.Ytceljakmjddgbab
open Go.ChangeShapes Go.WideShapes Go.ChangeAt Go.RowKit Go.Joins Go.Deep
set_option linter.unusedVariables false
set_option linter.unusedSimpArgs false


/-- Each block of a list of rows lies below Z. -/
def LtF (v : Value) (vs : List Value) (m Z : Nat) : Prop := (∀ g, v.ownBlock = some g → g < Z) ∧ ∀ i, i < m → ∀ g, (rat vs i).ownBlock = some g → g < Z
theorem RoF.lt {w : World} {B : Nat} {v : Value} {ls : List (List Flm)} {vs : List Value} (h : RoF w B v ls vs) : LtF v vs ls.length w.heap.size :=
  ⟨fun g hg => (rowBlk h.o hg).2.1, fun i hi g hg => (rowBlk (h.bx i hi) hg).2.1⟩
theorem Ow.rF {V : World} {B hi : Nat} {v : Value} {ls : List (List Flm)} {vs : List Value} (h : RoF V B v ls vs) (h1 : B ≤ hi) (h2 : hi ≤ V.heap.size) (hh : LtF v vs ls.length hi) : Ow B hi (fun V => RoF V B v ls vs) V :=
  ⟨h, fun V' hq => h.kept (fun g hg => hq g (rowBlk h.o hg).1 (hh.1 g hg)) fun i hi g hg => hq g (rowBlk (h.bx i hi) hg).1 (hh.2 i hi g hg), ⟨h1, h2⟩⟩
theorem Ow.rAllF {V V0 : World} {v : Value} {ls : List (List Flm)} {vs : List Value} (h : RoF V V0.heap.size v ls vs) (hb : Below V0.heap.size V0 V) : Ow V0.heap.size V.heap.size (fun V => RoF V V0.heap.size v ls vs) V :=
  Ow.rF h hb.size (Nat.le_refl _) h.lt


end Go.Proofs.Ytceljakmjddgbab
