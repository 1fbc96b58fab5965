/- Proved here: an append to a list of the call's own, inside a statement that may be carried out in several orders; how a function is entered. No condition on the program. (And ahead of it: Proved here: the parts of an open book, in whatever order they are made.) (And ahead of it: Proved here: slices.Clone of a list of numbers and of a list of windows.) -/
import Derived.Test.YtbkklnbcoegamaaQkX
import Derived.Test.YtbkklnbcoegamaaOpN
import Derived.Test.YtbkklnbcoegamaaQbU
import Derived.Test.YtbkklnbcoegamaaQoM
import Derived.Test.YtbkklnbcoegamaaRwG
import Derived.Test.YtbkklnbcoegamaaProg
import Derived.Laws.AppendOwnNone
namespace Go.Proofs.Ytbkklnbcoegamaa
open Go.RowKit Go.Maps
set_option linter.unusedVariables false
set_option linter.unusedSimpArgs false

set_option maxRecDepth 10000 in
set_option maxHeartbeats 1600000 in
theorem cl_int {w : World} {v : Value} {s : List Int} (hn : s.length ≤ 1048576) (hc : NC v) (h : RdI w v s) :
    Calls Try.prog 61 #[v] w fun e w' => ∃ v', e = .returned v' ∧ IS w' w.heap.size v' s ∧ Below w.heap.size w w' := by
  obtain ⟨i0, hi, hz0, hz1, hz2⟩ := info_parts info_i64
  have qT : ∀ (w : World) (a : Option Addr) (n c : Nat), (binOp .eql 24 (.slice a n c) (.slice none 0 0)).run Try.prog w = .ok (.bool a.isNone) w := fun w a n c => Lib.run_eql_slice_nil w _ _ a n c 0 0 Try.underlying24
  obtain ⟨a, c, rfl⟩ := h.form
  obtain ⟨n, hnn⟩ : ∃ n, n = s.length := ⟨_, rfl⟩
  rw [← hnn] at hn h hc ⊢
  cases a with
  | none =>
    obtain ⟨rfl, rfl⟩ := hc _ _ rfl
    obtain rfl : s = [] := List.eq_nil_of_length_eq_zero hnn.symm
    clear h hc hnn hn
    go_enter Try.func61, Try.ntmps61
    go_wp2
    go_returns
    exact ⟨_, rfl, World.ownsRow_nil _ _ _ _, Below.refl _ _⟩
  | some ad =>
    have H : Hid (RdI (w.alloc (.cells #[] 2)) (.slice (some ad) n c) s ∧ n = s.length) := ⟨h.below (by (repeat' (first | (with_reducible exact Below.refl _ _) | (with_reducible assumption) | (with_reducible refine Below.setCell ?_ ?_ _) | (with_reducible refine Below.alloc ?_ ?_ _) | (with_reducible refine below_drewN ?_ _) | (with_reducible refine Below.drew ?_) | (with_reducible exact Nat.le_refl _) | omega | (simp; done) | (simp; omega)))), hnn⟩
    clear hnn h hc
    go_enter Try.func61, Try.ntmps61
    go_wp2_with (at_builtin; (refine wpList_append_own _ rfl _ _ 24 rfl w.heap.size 2 i0 (.int .i64 0) 1 8 Try.underlying24 hi hz0 hz1 hz2 rfl (by decide) (.slice (some ⟨w.heap.size, 0, none⟩) 0 0) 0 [] rfl (is_lit0 w _ (Nat.le_refl _)) ad n c (s.map (Value.int .i64)) rfl (by rw [H.out.2]; simp) (newsI H.out.1 _ rfl) (ones_int _) (by unfold maxLen; omega) (by omega) (by simp) ?_; intro v1 w1 hown1 hgrow1 hnil1))
    have R : Hid (IS w1 w.heap.size v1 s ∧ Below w.heap.size w w1) := by
      refine ⟨?_, ((Below.refl _ _).alloc (Nat.le_refl _) _).grown hgrow1 (by simp) (fun j hj => by cases hj; exact Nat.le_refl _)⟩
      rw [H.out.2] at hown1
      unfold IS
      simpa using hown1
    clear hown1 hgrow1 hnil1
    go_returns
    exact ⟨_, rfl, R.out.1, R.out.2⟩

set_option maxRecDepth 10000 in
set_option maxHeartbeats 1600000 in
theorem cl_wd {w : World} {v : Value} {s : List Wdw} (hn : s.length ≤ 1048576) (hc : NC v) (h : RG 3 wdC w v s) :
    Calls Try.prog 60 #[v] w fun e w' => ∃ v', e = .returned v' ∧ OG 62 3 wdC w' w.heap.size v' s ∧ Below w.heap.size w w' := by
  obtain ⟨i0, hi, hz0, hz1, hz2⟩ := info_parts info_Window
  have qT : ∀ (w : World) (a : Option Addr) (n c : Nat), (binOp .eql 28 (.slice a n c) (.slice none 0 0)).run Try.prog w = .ok (.bool a.isNone) w := fun w a n c => Lib.run_eql_slice_nil w _ _ a n c 0 0 Try.underlying28
  obtain ⟨a, c, rfl⟩ := h.form
  obtain ⟨n, hnn⟩ : ∃ n, n = s.length := ⟨_, rfl⟩
  rw [← hnn] at hn h hc ⊢
  cases a with
  | none =>
    obtain ⟨rfl, rfl⟩ := hc _ _ rfl
    obtain rfl : s = [] := List.eq_nil_of_length_eq_zero hnn.symm
    clear h hc hnn hn
    go_enter Try.func60, Try.ntmps60
    go_wp2
    go_returns
    exact ⟨_, rfl, World.ownsRow_nil _ _ _ _, Below.refl _ _⟩
  | some ad =>
    have H : Hid (RG 3 wdC (w.alloc (.cells #[] 62)) (.slice (some ad) n c) s ∧ n = s.length) := ⟨h.below (by (repeat' (first | (with_reducible exact Below.refl _ _) | (with_reducible assumption) | (with_reducible refine Below.setCell ?_ ?_ _) | (with_reducible refine Below.alloc ?_ ?_ _) | (with_reducible refine below_drewN ?_ _) | (with_reducible refine Below.drew ?_) | (with_reducible exact Nat.le_refl _) | omega | (simp; done) | (simp; omega)))), hnn⟩
    clear hnn h hc
    go_enter Try.func60, Try.ntmps60
    go_wp2_with (at_builtin; (refine wpList_append_own _ rfl _ _ 28 rfl w.heap.size 62 i0 (.agg #[.int .i64 0, .int .i64 0, .int .i64 0]) 3 24 Try.underlying28 hi hz0 hz1 hz2 rfl (by decide) (.slice (some ⟨w.heap.size, 0, none⟩) 0 0) 0 [] rfl (World.ownsRow_lit w #[] 0 (Nat.le_refl _) (by decide) (by simp)) ad n c (s.flatMap wdC) rfl (by rw [H.out.2]; rw [fm_length wdC_len]) (newsK wdC_len (by decide) H.out.1 _ rfl) (ones_of wdC_one _) (by unfold maxLen; omega) (by omega) (by simp) ?_; intro v1 w1 hown1 hgrow1 hnil1))
    have R : Hid (OG 62 3 wdC w1 w.heap.size v1 s ∧ Below w.heap.size w w1) := by
      refine ⟨?_, ((Below.refl _ _).alloc (Nat.le_refl _) _).grown hgrow1 (by simp) (fun j hj => by cases hj; exact Nat.le_refl _)⟩
      rw [H.out.2] at hown1
      unfold OG
      simpa using hown1
    clear hown1 hgrow1 hnil1
    go_returns
    exact ⟨_, rfl, R.out.1, R.out.2⟩


end Go.Proofs.Ytbkklnbcoegamaa

namespace Go.Proofs.Ytbkklnbcoegamaa
open Go.RowKit Go.Maps
set_option linter.unusedVariables false
set_option linter.unusedSimpArgs false

structure O4 (V cw : World) (wn : List Wdw) (sc : List Int) (v1 v2 : Option Value) (po mo : Option Nat) : Prop where
  bl : Below V.heap.size V cw
  w : ∀ v, v1 = some v → OG 62 3 wdC cw V.heap.size v wn
  s : ∀ v, v2 = some v → IS cw V.heap.size v sc
  p : ∀ g, po = some g → IM 3 cw g 0 (fun _ => none) ∧ V.heap.size ≤ g
  m : ∀ g, mo = some g → TM cw 2 g 0 (fun _ => none) ∧ V.heap.size ≤ g
  pm : ∀ g k, po = some g → mo = some k → g ≠ k
section
variable {V cw cx : World} {wn : List Wdw} {sc : List Int} {v1 v2 : Option Value} {p m : Option Nat}
theorem O4.start (V : World) (wn : List Wdw) (sc : List Int) : O4 V V.drew wn sc none none none none :=
  ⟨(Below.refl _ _).drew, (fun _ h => by cases h), (fun _ h => by cases h), (fun _ h => by cases h), (fun _ h => by cases h), (fun _ _ h => by cases h)⟩
theorem O4.next (h : O4 V cw wn sc v1 v2 p m) (hb : Below cw.heap.size cw cx) : O4 V cx wn sc v1 v2 p m :=
  ⟨h.bl.trans (hb.mono h.bl.size), fun v hv => (h.w v hv).below hb, fun v hv => (h.s v hv).bel hb, fun g hg => ⟨(h.p g hg).1.below hb, (h.p g hg).2⟩, fun g hg => ⟨(h.m g hg).1.below hb, (h.m g hg).2⟩, h.pm⟩
theorem O4.win {v : Value} (h : O4 V cw wn sc v1 v2 p m) (hb : Below cw.heap.size cw cx) (ho : OG 62 3 wdC cx cw.heap.size v wn) : O4 V cx wn sc (some v) v2 p m := by
  have h' := h.next hb
  exact ⟨h'.bl, fun u hu => by cases hu; exact ho.low h.bl.size, h'.s, h'.p, h'.m, h'.pm⟩
theorem O4.scr {v : Value} (h : O4 V cw wn sc v1 v2 p m) (hb : Below cw.heap.size cw cx) (ho : IS cx cw.heap.size v sc) : O4 V cx wn sc v1 (some v) p m := by
  have h' := h.next hb
  exact ⟨h'.bl, h'.w, fun u hu => by cases hu; exact ho.low h.bl.size, h'.p, h'.m, h'.pm⟩
theorem O4.mkP (h : O4 V cw wn sc v1 v2 p m) : O4 V (cw.alloc (.map #[] 0)) wn sc v1 v2 (some cw.heap.size) m := by
  have h' := h.next (show Below cw.heap.size cw (cw.alloc (.map #[] 0)) from by (repeat' (first | (with_reducible exact Below.refl _ _) | (with_reducible assumption) | (with_reducible refine Below.setCell ?_ ?_ _) | (with_reducible refine Below.alloc ?_ ?_ _) | (with_reducible refine below_drewN ?_ _) | (with_reducible refine Below.drew ?_) | (with_reducible exact Nat.le_refl _) | omega | (simp; done) | (simp; omega))))
  exact ⟨h'.bl, h'.w, h'.s, fun g hg => by cases hg; exact ⟨IM.made _ cw, h.bl.size⟩, h'.m, fun g k hg hk => by
    cases hg
    have := (h.m k hk).1.lt
    omega⟩
theorem O4.mkM (h : O4 V cw wn sc v1 v2 p m) : O4 V (cw.alloc (.map #[] 0)) wn sc v1 v2 p (some cw.heap.size) := by
  have h' := h.next (show Below cw.heap.size cw (cw.alloc (.map #[] 0)) from by (repeat' (first | (with_reducible exact Below.refl _ _) | (with_reducible assumption) | (with_reducible refine Below.setCell ?_ ?_ _) | (with_reducible refine Below.alloc ?_ ?_ _) | (with_reducible refine below_drewN ?_ _) | (with_reducible refine Below.drew ?_) | (with_reducible exact Nat.le_refl _) | omega | (simp; done) | (simp; omega))))
  exact ⟨h'.bl, h'.w, h'.s, h'.p, fun g hg => by cases hg; exact ⟨TM.made cw _, h.bl.size⟩, fun g k hg hk => by
    cases hk
    have := (h.p g hg).1.lt
    omega⟩
/-- The book, opened, without its lots. -/
theorem O4.ob {vw vs : Value} {bp bm : Nat} {st : Int} (h : O4 V cw wn sc (some vw) (some vs) (some bp) (some bm)) :
    OB (cw.alloc (.cells #[.int .i64 st, vw, .slice none 0 0, vs, .map (some bp), .map (some bm)] 76)) V.heap.size cw.heap.size bp bm vw (.slice none 0 0) vs (fun _ => none) ⟨st, wn, [], sc⟩ [] ∧ Below V.heap.size V (cw.alloc (.cells #[.int .i64 st, vw, .slice none 0 0, vs, .map (some bp), .map (some bm)] 76)) ∧ TM (cw.alloc (.cells #[.int .i64 st, vw, .slice none 0 0, vs, .map (some bp), .map (some bm)] 76)) 2 bm 0 (fun _ => none) := by
  have h' := h.next (show Below cw.heap.size cw (cw.alloc (.cells #[.int .i64 st, vw, .slice none 0 0, vs, .map (some bp), .map (some bm)] 76)) from by (repeat' (first | (with_reducible exact Below.refl _ _) | (with_reducible assumption) | (with_reducible refine Below.setCell ?_ ?_ _) | (with_reducible refine Below.alloc ?_ ?_ _) | (with_reducible refine below_drewN ?_ _) | (with_reducible refine Below.drew ?_) | (with_reducible exact Nat.le_refl _) | omega | (simp; done) | (simp; omega))))
  have hz := h.bl.size
  refine ⟨⟨heap_alloc_new _ _, ⟨hz, (h'.p bp rfl).2, (h'.m bm rfl).2, h'.bl.size⟩, h.pm bp bm rfl rfl, ⟨h'.w vw rfl, World.ownsRow_nil _ _ _ _, rfl, fun j h1 => by simp at h1, fun j h1 => by simp at h1, fun j h1 => by simp at h1, h'.s vs rfl, fun j _ => by unfold wvM; rw [if_neg (by simp)]; rfl, ?_⟩, fun j h1 => by simp at h1, (h'.p bp rfl).1, ⟨0, by omega, (h'.m bm rfl).1⟩, fun j h1 => by simp at h1, fun i j h1 => by simp at h1, by simp⟩, h'.bl, (h'.m bm rfl).1⟩
  intro a c hac g hg hc
  have hn : ∀ e, e ≠ Sx.s → (slv vs (wvM (fun _ => none) []) (dvO []) e).ownBlock = none := fun e he => by
    cases e with
    | s => exact absurd rfl he
    | w j => show (wvM (fun _ => none) [] j).ownBlock = none; unfold wvM; rw [if_neg (by simp)]; rfl
    | d j => rfl
  by_cases ha : a = Sx.s
  · rw [hn c (fun e => hac (ha.trans e.symm))] at hc; cases hc
  · rw [hn a ha] at hg; cases hg
end

end Go.Proofs.Ytbkklnbcoegamaa

namespace Go.Proofs.Ytbkklnbcoegamaa
open Go.RowKit
set_option linter.unusedVariables false
set_option linter.unusedSimpArgs false

theorem op_appA {P : Program} {ops : Array Oper} {Q : Exit → Act → World → Prop} {j dd : Nat} {w : World} {o : Oper} {a : Act} {K : Act → World → Prop} (hj : ops[j]? = some o) (hd : o.dst = some dd) (hgd : o.guard = none) (s x : Operand) (t : TypeId)
    (ho : o.op = .call { callee := .builtin .append, args := #[s, x], argTypes := #[t, t] })
    (base : Nat) (e : TypeId) (i : TypeInfo) (z : Value) (size bytes : Nat) (ht : P.underlying t = some (.slice e)) (hi : P.info? e = some i) (hz : i.zero = some z)
    (hsize : i.size = size) (hby : i.bytes = bytes) (hzs : z.cells.size = size) (hsz : 0 < size)
    (v : Value) (n : Nat) (xs : List Value) (hs : a.eval s = v) (hown : w.ownsRow base e size v n xs)
    (ao : Option Addr) (m c : Nat) (news : List Value) (hx : a.eval x = .slice ao m c) (hl : news.length = m * size) (hnone : ao = none → m = 0 ∧ c = 0) (hnews : ∀ ad, ao = some ad → ∀ j u, news[j]? = some u → w.cell? (ad.add j) = some u) (h1 : ∀ u ∈ news, u.oneCell' = true)
    (h63 : n + m ≤ maxLen) (hbytes : (n + m) * bytes ≤ 140737488355328) (hbase : base ≤ w.heap.size)
    (h : ∀ v' w', w'.ownsRow base e size v' (n + m) (xs ++ news) → w.grownBy w' v.ownBlock → K (a.put (some dd) v') w') : wpOp P ops Q j K a w := by
  unfold wpOp
  simp only [hj, wanted_none hgd, if_true]
  refine Or.inl ?_
  cases ao with
  | some ad =>
    refine wp_append_own w s x t ho base e i z size bytes ht hi hz hsize hby hzs hsz v n xs hs hown ad m c news hx hl (hnews ad rfl) h1 h63 hbytes hbase fun v' w' h2 h3 _ => ?_
    rw [hd]
    exact h v' w' h2 h3
  | none =>
    obtain ⟨rfl, rfl⟩ := hnone rfl
    obtain rfl : news = [] := List.eq_nil_of_length_eq_zero (by simpa using hl)
    have hrun := run_append_owned_none (P := P) (w := w) base t o.type e i size ht hi v n xs hown
    unfold Oper.wp
    simp [execOp, ho, resolve, invoke, builtin, hs, hx, hrun, Result.andThen]
    simp only [Oper.upon, hd]
    exact h v w (by simpa using hown) ⟨rfl, rfl, rfl, Nat.le_refl _, fun k _ _ => rfl⟩

theorem enter_fn {f : FuncId} {fn : Func} (hf : Try.prog.funcs[f]? = some fn) (hname : (fn.name == "runtime.NumGoroutine") = false) (hb : fn.body.isSome = true) (args : Array Value) (w : World) : (callFunc f args).run Try.prog w = .ok (.enter f args) w := by
  obtain ⟨c, hc⟩ := Option.isSome_iff_exists.1 hb
  have h1 : fn.name ≠ "runtime.NumGoroutine" := by simpa using hname
  simp [callFunc, hf, h1, hc]

end Go.Proofs.Ytbkklnbcoegamaa
