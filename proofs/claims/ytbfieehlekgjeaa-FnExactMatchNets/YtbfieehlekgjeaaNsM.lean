/- Proved here: the search for the first naming, as arithmetic; slices.Clone at numbers; the program's firstNaming. -/
import Derived.Test.YtbfieehlekgjeaaNmQ
import Derived.Test.YtbfieehlekgjeaaNmL
import Derived.Laws.AppendOwnNone
import Derived.Lib.SliceRun
namespace Go.Proofs.Ytbfieehlekgjeaa
open Go.RowKit
set_option linter.unusedVariables false
set_option linter.unusedSimpArgs false

/-- The first list that begins so and is right. -/
def srch (ok : List Int → Bool) (n : Nat) : Nat → List Int → Option (List Int)
  | 0, so => if ok so = true then some so else none
  | f + 1, so => (List.range n).findSome? fun v : Nat => if (v : Int) ∈ so then none else srch ok n f (so ++ [(v : Int)])
theorem find_hit {α : Type} {g : Nat → Option α} {n k : Nat} {r : α} (hk : k < n) (h : ∀ v, v < k → g v = none) (hr : g k = some r) : (List.range n).findSome? g = some r := by
  rw [List.findSome?_eq_some_iff]
  refine ⟨List.range k, k, (List.range' (k + 1) (n - k - 1)), ?_, hr, fun v hv => h v (List.mem_range.1 hv)⟩
  apply List.ext_getElem?
  intro i
  rcases Nat.lt_or_ge i k with h1 | h1
  · rw [List.getElem?_append_left (by simpa using h1), List.getElem?_range h1, List.getElem?_range (by omega)]
  · rw [List.getElem?_append_right (by simpa using h1), List.length_range]
    rcases Nat.eq_or_lt_of_le h1 with h2 | h2
    · subst h2; rw [List.getElem?_range hk]; simp
    · obtain ⟨d, rfl⟩ : ∃ d, i = k + 1 + d := ⟨i - k - 1, by omega⟩
      have e : k + 1 + d - k = d + 1 := by omega
      rw [e, List.getElem?_cons_succ]
      by_cases h3 : k + 1 + d < n
      · rw [List.getElem?_range h3, List.getElem?_range' (by omega)]; simp
      · rw [List.getElem?_eq_none (by simpa using Nat.le_of_not_lt h3), List.getElem?_eq_none (by simp; omega)]
theorem find_none {α : Type} {g : Nat → Option α} {n : Nat} (h : ∀ v, v < n → g v = none) : (List.range n).findSome? g = none := by
  rw [List.findSome?_eq_none_iff]
  intro v hv
  exact h v (List.mem_range.1 hv)
/-- A beginning of a naming. -/
structure Beg (n : Nat) (so : List Int) : Prop where
  len : so.length ≤ n
  rng : ∀ x ∈ so, 0 ≤ x ∧ x < (n : Int)
  nd : so.Nodup
theorem Beg.nil (n : Nat) : Beg n [] := ⟨by simp, fun x h => by simp at h, by simp⟩
theorem Beg.push {n k : Nat} {so : List Int} (h : Beg n so) (hl : so.length < n) (hk : k < n) (hm : ¬ (k : Int) ∈ so) : Beg n (so ++ [(k : Int)]) := by
  refine ⟨by simp; omega, fun x hx => ?_, ?_⟩
  · rcases List.mem_append.1 hx with h1 | h1
    · exact h.rng x h1
    · simp at h1; omega
  · rw [List.nodup_append]
    refine ⟨h.nd, by simp, fun a ha b hb => ?_⟩
    simp at hb
    intro e
    rw [e, hb] at ha
    exact hm ha
theorem Beg.nm {n : Nat} {so : List Int} (h : Beg n so) (hl : so.length = n) : nmB so (n : Int) = true := nmB_of (by omega) h.rng h.nd

theorem op_appA {P : Program} {ops : Array Oper} {Q : Exit → Act → World → Prop} {j dd : Nat} {w : World} {o : Oper} {a : Act} {K : Act → World → Prop} (hj : ops[j]? = some o) (hd : o.dst = some dd) (hgd : o.guard = none) (s x : Operand) (t : TypeId)
    (ho : o.op = .call { callee := .builtin .append, args := #[s, x], argTypes := #[t, t] })
    (base : Nat) (e : TypeId) (i : TypeInfo) (z : Value) (size bytes : Nat) (ht : P.underlying t = some (.slice e)) (hi : P.info? e = some i) (hz : i.zero = some z)
    (hsize : i.size = size) (hby : i.bytes = bytes) (hzs : z.cells.size = size) (hsz : 0 < size)
    (v : Value) (n : Nat) (xs : List Value) (hs : a.eval s = v) (hown : w.ownsRow base e size v n xs)
    (ao : Option Addr) (m c : Nat) (news : List Value) (hx : a.eval x = .slice ao m c) (hl : news.length = m * size) (hnone : ao = none → m = 0 ∧ c = 0) (hnews : ∀ ad, ao = some ad → ∀ j u, news[j]? = some u → w.cell? (ad.add j) = some u) (h1 : ∀ u ∈ news, u.oneCell' = true)
    (h63 : n + m ≤ maxLen) (hbytes : (n + m) * bytes ≤ 140737488355328) (hbase : base ≤ w.heap.size)
    (h : ∀ v' w', w'.ownsRow base e size v' (n + m) (xs ++ news) → w.grownBy w' v.ownBlock → K (a.put (some dd) v') w') : wpOp P ops Q j K a w := by
  unfold wpOp
  simp only [hj, wanted_none hgd, if_true]
  refine Or.inl ?_
  cases ao with
  | some ad =>
    refine wp_append_own w s x t ho base e i z size bytes ht hi hz hsize hby hzs hsz v n xs hs hown ad m c news hx hl (hnews ad rfl) h1 h63 hbytes hbase fun v' w' h2 h3 _ => ?_
    rw [hd]
    exact h v' w' h2 h3
  | none =>
    obtain ⟨rfl, rfl⟩ := hnone rfl
    obtain rfl : news = [] := List.eq_nil_of_length_eq_zero (by simpa using hl)
    have hrun := run_append_owned_none (P := P) (w := w) base t o.type e i size ht hi v n xs hown
    unfold Oper.wp
    simp [execOp, ho, resolve, invoke, builtin, hs, hx, hrun, Result.andThen]
    simp only [Oper.upon, hd]
    exact h v w (by simpa using hown) ⟨rfl, rfl, rfl, Nat.le_refl _, fun k _ _ => rfl⟩

/-- The cells of a list of the call's own, as an append wants them. -/
theorem IS.news {w W : World} {B : Nat} {a : Option Addr} {n c : Nat} {xs : List Int} (h : IS w B (.slice a n c) xs) (hb : Below w.heap.size w W) :
    (a = none → n = 0 ∧ c = 0) ∧ (∀ ad, a = some ad → ∀ j u, (xs.map (Value.int .i64))[j]? = some u → W.cell? (ad.add j) = some u) ∧ n = xs.length := by
  have hw := h.bel hb
  have hn : n = xs.length := hw.rg.len
  refine ⟨fun ha => ?_, fun ad ha j u hu => ?_, hn⟩
  · subst ha
    rcases h.2 with ⟨h1, _⟩ | ⟨g, cap, cur, h1, _⟩
    · simp only [Value.slice.injEq] at h1; exact ⟨h1.2.1, h1.2.2⟩
    · cases h1
  · subst ha
    have hj : j < xs.length := by
      rcases Nat.lt_or_ge j xs.length with h' | h'
      · exact h'
      · rw [List.getElem?_eq_none (by simpa using h')] at hu; cases hu
    obtain ⟨g, cap, he, _, _, hc⟩ := hw.pos (by omega)
    simp only [Value.slice.injEq, Option.some.injEq] at he
    obtain ⟨rfl, _, _⟩ := he
    have hadd : (⟨g, 0, none⟩ : Addr).add j = ⟨g, j, none⟩ := by unfold Addr.add; split <;> simp_all
    rw [hadd, hc j hj]
    rw [List.getElem?_map, List.getElem?_eq_getElem hj] at hu
    simp at hu
    rw [← hu, getD_at hj]

set_option maxRecDepth 10000 in
set_option maxHeartbeats 1600000 in
theorem sl_clone {w : World} {B : Nat} {v : Value} {s : List Int} (hn : s.length ≤ 1048576) (h : IS w B v s) :
    Calls Try.prog 78 #[v] w fun e w' => ∃ v', e = .returned v' ∧ IS w' w.heap.size v' s ∧ Below w.heap.size w w' := by
  obtain ⟨i0, hi, hz0, hz1, hz2⟩ := info_parts info_i64
  have qT : ∀ (w : World) (a : Option Addr) (n c : Nat), (binOp .eql 46 (.slice a n c) (.slice none 0 0)).run Try.prog w = .ok (.bool a.isNone) w := fun w a n c => Lib.run_eql_slice_nil w _ _ a n c 0 0 Try.underlying46
  rcases h.2 with ⟨rfl, h0⟩ | ⟨g, cap, cur, rfl, hB, hg, hr⟩
  · obtain rfl : s = [] := List.length_eq_zero_iff.1 h0
    go_enter Try.func78, Try.ntmps78
    go_wp2
    go_returns
    exact ⟨_, rfl, ⟨rfl, Or.inl ⟨rfl, rfl⟩⟩, Below.refl _ _⟩
  · have hcur := h.news (W := w.alloc (.cells #[] 2)) (by (repeat' (first | (with_reducible exact Below.refl _ _) | (with_reducible assumption) | (with_reducible refine Below.setCell ?_ ?_ _) | (with_reducible refine Below.alloc ?_ ?_ _) | (with_reducible refine below_drewN ?_ _) | (with_reducible refine Below.drew ?_) | (with_reducible exact Nat.le_refl _) | omega | (simp; done) | (simp; omega))))
    obtain ⟨n, hnn⟩ : ∃ n, n = s.length := ⟨_, rfl⟩
    rw [← hnn] at hn ⊢
    have H : Hid ((∀ j u, (s.map (Value.int .i64))[j]? = some u → (w.alloc (.cells #[] 2)).cell? ((⟨g, 0, none⟩ : Addr).add j) = some u) ∧ n = s.length) := ⟨hcur.2.1 _ rfl, hnn⟩
    clear hcur hnn h hr
    go_enter Try.func78, Try.ntmps78
    go_wp2_with (at_builtin; refine wpList_append_own _ rfl _ _ 46 rfl w.heap.size 2 i0 (.int .i64 0) 1 8 Try.underlying46 hi hz0 hz1 hz2 rfl (by decide) (.slice (some ⟨w.heap.size, 0, none⟩) 0 0) 0 [] rfl (IS.lit0 w _ (Nat.le_refl _)) ⟨g, 0, none⟩ n cap (s.map (Value.int .i64)) rfl (by rw [H.out.2]; simp) H.out.1 (one_ints _) (by unfold maxLen; omega) (by omega) (by simp) ?_; intro v1 w1 hown1 hgrow1 hnil1)
    have R : Hid (IS w1 w.heap.size v1 s ∧ Below w.heap.size w w1) := by
      refine ⟨?_, ((Below.refl _ _).alloc (Nat.le_refl _) _).grown hgrow1 (by simp) (fun j hj => by cases hj; exact Nat.le_refl _)⟩
      rw [H.out.2] at hown1
      unfold IS
      simpa using hown1
    clear hown1 hgrow1 hnil1
    go_returns
    exact ⟨_, rfl, R.out.1, R.out.2⟩

end Go.Proofs.Ytbfieehlekgjeaa
