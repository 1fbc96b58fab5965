/- Proved here: runs of cells: runEnds, linesBetween and linesAnswer of the program. -/
import Derived.Test.YtfjcebgknpccbaaLnR
namespace Go.Proofs.Ytfjcebgknpccbaa
open Go.RowKit
set_option linter.unusedVariables false
set_option linter.unusedSimpArgs false

/-- The runs that are ended below x, and where one stands open. -/
def rnS (f : Nat → Bool) : Nat → List Ln × Option Nat
  | 0 => ([], none)
  | x + 1 => match rnS f x with
    | (D, none) => if f x = true then (D, some x) else (D, none)
    | (D, some a) => if f x = true then (D, some a) else (D ++ [⟨(a : Int), (x : Int)⟩], none)
def opL (o : Option Nat) (x : Nat) : List Ln := match o with | none => [] | some a => [⟨(a : Int), (x : Int)⟩]
/-- The lines that have just these cells. -/
def rnL (f : Nat → Bool) (x : Nat) : List Ln := (rnS f x).1 ++ opL (rnS f x).2 x
def flL (ls : List Ln) : List Int := ls.flatMap fun l => [l.f, l.t]
def opE (o : Option Nat) : List Int := match o with | none => [] | some a => [(a : Int)]
def rnE (f : Nat → Bool) (x : Nat) : List Int := flL (rnS f x).1 ++ opE (rnS f x).2
theorem flL_app (a b : List Ln) : flL (a ++ b) = flL a ++ flL b := by simp [flL]
theorem flL_len (a : List Ln) : (flL a).length = 2 * a.length := by
  induction a with
  | nil => rfl
  | cons x t ih => simp [flL] at ih ⊢; omega
theorem rnS_low (f : Nat → Bool) : ∀ x : Nat, (∀ l ∈ (rnS f x).1, l.t < (x : Int)) ∧ (rnS f x).1.length ≤ x ∧ (∀ a, (rnS f x).2 = some a → a < x)
  | 0 => ⟨fun l hl => by simp [rnS] at hl, by simp [rnS], fun a h => by simp [rnS] at h⟩
  | x + 1 => by
    obtain ⟨h1, h2, h3⟩ := rnS_low f x
    rw [rnS]
    rcases hS : rnS f x with ⟨D, o⟩
    rw [hS] at h1 h2 h3
    simp only at h1 h2 h3
    have k1 : ∀ l ∈ D, l.t < ((x + 1 : Nat) : Int) := fun l hl => by have := h1 l hl; omega
    cases o with
    | none =>
      simp only
      split
      · exact ⟨k1, by simp only; omega, fun a h => by simp only [Option.some.injEq] at h; omega⟩
      · exact ⟨k1, by simp only; omega, fun a h => by cases h⟩
    | some a =>
      simp only
      split
      · exact ⟨k1, by simp only; omega, fun b h => by have := h3 b h; omega⟩
      · refine ⟨fun l hl => ?_, by simp; omega, fun b h => by cases h⟩
        rcases List.mem_append.1 hl with hl | hl
        · exact k1 l hl
        · rw [List.mem_singleton.1 hl]; simp only; omega
theorem rnL_len (f : Nat → Bool) (x : Nat) : (rnL f x).length ≤ x + 1 := by
  have := (rnS_low f x).2.1
  unfold rnL opL
  split <;> simp <;> omega
theorem rnE_len (f : Nat → Bool) (x : Nat) : (rnE f x).length ≤ 2 * x + 1 := by
  have := (rnS_low f x).2.1
  unfold rnE opE
  rw [List.length_append, flL_len]
  split <;> simp <;> omega
/-- One cell more, to the ends. -/
theorem rnE_same {f : Nat → Bool} {x : Nat} (h : f x = (rnS f x).2.isSome) : rnE f (x + 1) = rnE f x ∧ (rnS f (x + 1)).2.isSome = f x := by
  unfold rnE
  rw [rnS]
  rcases hS : rnS f x with ⟨D, o⟩
  rw [hS] at h
  cases o with
  | none => simp only [Option.isSome_none] at h; simp [h]
  | some a => simp only [Option.isSome_some] at h; simp [h]
theorem rnE_turn {f : Nat → Bool} {x : Nat} (h : f x = !(rnS f x).2.isSome) : rnE f (x + 1) = rnE f x ++ [(x : Int)] ∧ (rnS f (x + 1)).2.isSome = f x := by
  unfold rnE
  rw [rnS]
  rcases hS : rnS f x with ⟨D, o⟩
  rw [hS] at h
  cases o with
  | none => simp only [Option.isSome_none] at h; simp [h, opE]
  | some a => simp only [Option.isSome_some] at h; simp [h, opE, flL]
theorem rnE_done {f : Nat → Bool} {x : Nat} : flL (rnL f x) = rnE f x ++ (if (rnS f x).2.isSome = true then [(x : Int)] else []) := by
  unfold rnL rnE
  rcases hS : rnS f x with ⟨D, o⟩
  cases o with
  | none => simp [opL, opE]
  | some a => simp [opL, opE, flL]
/-- One cell more, to the lines. -/
theorem rnL_no {f : Nat → Bool} {x : Nat} (h : f x = false) : rnL f (x + 1) = rnL f x := by
  unfold rnL
  rw [rnS]
  rcases hS : rnS f x with ⟨D, o⟩
  cases o with
  | none => simp [h, opL]
  | some a => simp [h, opL]
theorem rnL_new {f : Nat → Bool} {x : Nat} (h : f x = true) (ho : (rnS f x).2 = none) : rnL f (x + 1) = rnL f x ++ [⟨(x : Int), (x : Int) + 1⟩] ∧ rnL f x = (rnS f x).1 := by
  unfold rnL
  rw [rnS]
  rcases hS : rnS f x with ⟨D, o⟩
  rw [hS] at ho
  simp only at ho
  subst ho
  simp [h, opL]
theorem rnL_on {f : Nat → Bool} {x a : Nat} (h : f x = true) (ho : (rnS f x).2 = some a) : rnL f (x + 1) = (rnS f x).1 ++ [⟨(a : Int), (x : Int) + 1⟩] ∧ rnL f x = (rnS f x).1 ++ [⟨(a : Int), (x : Int)⟩] := by
  unfold rnL
  rw [rnS]
  rcases hS : rnS f x with ⟨D, o⟩
  rw [hS] at ho
  simp only at ho
  subst ho
  simp [h, opL]

structure EnS (w wr : World) (v : Value) (cur : List Int) : Prop where
  bl : Below w.heap.size w wr
  su : IS wr w.heap.size v cur

set_option maxRecDepth 10000 in
set_option maxHeartbeats 12800000 in
theorem impl_re {w : World} {v : Value} {bs : List Bool} {B : Nat} {f : Nat → Bool} {L : Nat} (hl : L = bs.length) (hLb : L ≤ 60) (hf : ∀ x, x < L → bs.getD x false = f x) (h : BO w B v bs) :
    Calls Try.prog 50 #[v] w fun e w' => ∃ r, e = .returned r ∧ IS w' w.heap.size r (flL (rnL f L)) ∧ Below w.heap.size w w' := by
  obtain ⟨a, c, rfl⟩ := h.form
  rw [← hl] at h ⊢
  have H : Hid (BO w B (.slice a L c) bs ∧ ∀ x, x < L → bs.getD x false = f x) := ⟨h, hf⟩
  clear h hf hl
  obtain ⟨i0, hi, hz0, hz1, hz2⟩ := info_parts info_i64
  go_enter Try.func50, Try.ntmps50
  go_wp2
  go_loopw [3, 4, 9] (fun o q i wr => ∃ (x : Nat) (v : Value), x ≤ L ∧ v = o ∧ q = .bool (rnS f x).2.isSome ∧ i = .int .i64 x ∧ Hid (EnS w wr v (rnE f x))) (fun _ _ i _ => L - (intOf i).toNat)
  case atStart => exact ⟨0, _, Nat.zero_le _, rfl, rfl, rfl, Below.refl _ _, World.ownsRow_nil _ _ _ _⟩
  case round =>
    obtain ⟨x, v, hx, rfl, rfl, rfl, hR⟩ := hrel
    by_cases hltx : x < L
    · have b0 : (0 : Int) ≤ (x : Int) := by omega
      have b1 : (x : Int) < (L : Int) := by omega
      obtain ⟨g, hag, hgw, hxw⟩ := (H.out.1.bel hR.out.bl).at hltx
      subst hag
      rw [H.out.2 x hltx] at hxw
      obtain ⟨Wn, hWn⟩ : ∃ Wn, Wn = (rnS f x).2.isSome := ⟨_, rfl⟩
      obtain ⟨F, hF⟩ : ∃ F, F = f x := ⟨_, rfl⟩
      have HW : Hid (Wn = (rnS f x).2.isSome ∧ F = f x) := ⟨hWn, hF⟩
      rw [← hF] at hxw
      rw [← hWn]
      clear hWn hF
      by_cases hsame : F = Wn
      · obtain ⟨e1, e2⟩ := rnE_same (f := f) (x := x) (by rw [← HW.out.1, ← HW.out.2]; exact hsame)
        have HN : Hid (EnS w wr v (rnE f (x + 1)) ∧ Wn = (rnS f (x + 1)).2.isSome) := ⟨by rw [e1]; exact hR.out, by rw [e2, ← HW.out.2]; exact hsame.symm⟩
        have hne : (F != Wn) = false := by simp [hsame]
        clear e1 e2 hR
        subst hsame
        go_wp2
        go_roundw
        case rel => exact ⟨x + 1, v, by omega, rfl, by rw [← HN.out.2], by go_num, HN.out.1⟩
        case measure => simp [intOf]; omega
      · obtain ⟨e1, e2⟩ := rnE_turn (f := f) (x := x) (by rw [← HW.out.1, ← HW.out.2]; revert hsame; cases F <;> cases Wn <;> simp)
        have HN : Hid (rnE f (x + 1) = rnE f x ++ [(x : Int)] ∧ F = (rnS f (x + 1)).2.isSome) := ⟨e1, by rw [e2, ← HW.out.2]⟩
        have hne : (F == Wn) = false := by simpa using hsame
        have hlen : (rnE f x).length ≤ 200 := by have := rnE_len f x; omega
        clear e1 e2 HW
        obtain ⟨va, vc, hvf⟩ := hR.out.su.form
        subst hvf
        generalize rnE f x = cur at hR HN hlen ⊢
        have hszo : w.heap.size ≤ wr.heap.size := hR.out.bl.size
        go_wp2_with (at_builtin; refine wpList_append_own _ rfl _ _ 29 rfl w.heap.size 2 i0 (.int .i64 0) 1 8 Try.underlying29 hi hz0 hz1 hz2 rfl (by decide) _ _ _ rfl (World.ownsRow.alloc hR.out.su _) ⟨wr.heap.size, 0, none⟩ 1 1 [.int .i64 x] rfl rfl (World.news_of_block (cs := #[.int .i64 x]) (t := 2) (fr := (0, 0)) (heap_alloc_new wr _)) (by simp [Value.oneCell']) (by unfold maxLen; omega) (by omega) (by simp; omega) ?_; intro v6 w6 hown6 hgrow6 _)
        have R6 : Hid (EnS w w6 v6 (rnE f (x + 1))) := by
          unfold Hid
          rw [HN.out.1]
          have hne : ∀ g, (Value.slice va cur.length vc).ownBlock = some g → w.heap.size ≤ g := fun g hg => (World.ownsRow.lt hR.out.su g hg).1
          exact ⟨(hR.out.bl.alloc (by omega) _).grown hgrow6 (by simp; omega) (fun k hk => by have := hne k hk; omega), IS.snocL hown6⟩
        clear hown6 hgrow6 hR
        go_wp2
        go_roundw
        case rel => exact ⟨x + 1, v6, by omega, rfl, by rw [← HN.out.2], by go_num, R6.out⟩
        case measure => simp [intOf]; omega
    · have b1 : ¬ (x : Int) < (L : Int) := by omega
      obtain rfl : x = L := by omega
      obtain ⟨Wn, hWn⟩ : ∃ Wn, Wn = (rnS f x).2.isSome := ⟨_, rfl⟩
      have HD : Hid (flL (rnL f x) = rnE f x ++ (if Wn = true then [(x : Int)] else [])) := by unfold Hid; rw [hWn]; exact rnE_done
      rw [← hWn]
      clear hWn
      cases Wn with
      | false =>
        have HE : Hid (EnS w wr v (flL (rnL f x))) := by unfold Hid; rw [HD.out]; simpa using hR.out
        clear hR
        go_wp2
        go_returns
        exact ⟨_, rfl, HE.out.su, HE.out.bl⟩
      | true =>
        have HD2 : Hid (flL (rnL f x) = rnE f x ++ [(x : Int)]) := by unfold Hid; rw [HD.out]; rfl
        have hlen : (rnE f x).length ≤ 200 := by have := rnE_len f x; omega
        clear HD
        obtain ⟨va, vc, hvf⟩ := hR.out.su.form
        subst hvf
        generalize rnE f x = cur at hR HD2 hlen ⊢
        have hszo : w.heap.size ≤ wr.heap.size := hR.out.bl.size
        go_wp2_with (at_builtin; refine wpList_append_own _ rfl _ _ 29 rfl w.heap.size 2 i0 (.int .i64 0) 1 8 Try.underlying29 hi hz0 hz1 hz2 rfl (by decide) _ _ _ rfl (World.ownsRow.alloc hR.out.su _) ⟨wr.heap.size, 0, none⟩ 1 1 [.int .i64 x] rfl rfl (World.news_of_block (cs := #[.int .i64 x]) (t := 2) (fr := (0, 0)) (heap_alloc_new wr _)) (by simp [Value.oneCell']) (by unfold maxLen; omega) (by omega) (by simp; omega) ?_; intro v6 w6 hown6 hgrow6 _)
        have R6 : Hid (EnS w w6 v6 (flL (rnL f x))) := by
          unfold Hid
          rw [HD2.out]
          have hne : ∀ g, (Value.slice va cur.length vc).ownBlock = some g → w.heap.size ≤ g := fun g hg => (World.ownsRow.lt hR.out.su g hg).1
          exact ⟨(hR.out.bl.alloc (by omega) _).grown hgrow6 (by simp; omega) (fun k hk => by have := hne k hk; omega), IS.snocL hown6⟩
        clear hown6 hgrow6 hR
        go_wp2
        go_returns
        exact ⟨_, rfl, R6.out.su, R6.out.bl⟩

theorem flL_at (ls : List Ln) (k : Nat) (hk : k < ls.length) : (flL ls).getD (2 * k) 0 = ls[k].f ∧ (flL ls).getD (2 * k + 1) 0 = ls[k].t := by
  induction ls generalizing k with
  | nil => simp at hk
  | cons x t ih =>
    cases k with
    | zero => simp [flL]
    | succ k =>
      have := ih k (by simpa using hk)
      have e1 : 2 * (k + 1) = 2 * k + 1 + 1 := by omega
      have e2 : 2 * (k + 1) + 1 = (2 * k + 1) + 1 + 1 := by omega
      rw [e1, show 2 * k + 1 + 1 + 1 = (2 * k + 1) + 1 + 1 by omega]
      have hc : flL (x :: t) = x.f :: x.t :: flL t := by simp [flL]
      rw [hc]
      simpa using this

set_option maxRecDepth 10000 in
set_option maxHeartbeats 12800000 in
theorem impl_lb {w : World} {v : Value} {ls : List Ln} (hn : ls.length ≤ 1000) (h : RdI w v (flL ls)) :
    Calls Try.prog 61 #[v] w fun e w' => ∃ r, e = .returned r ∧ OG 60 2 lnC w' w.heap.size r ls ∧ Below w.heap.size w w' := by
  obtain ⟨a, c, rfl⟩ := h.form
  obtain ⟨n, hnn⟩ : ∃ n, n = ls.length := ⟨_, rfl⟩
  obtain ⟨m, hmm⟩ : ∃ m, m = (flL ls).length := ⟨_, rfl⟩
  rw [← hmm] at h ⊢
  have hm2 : m = 2 * n := by rw [hmm, hnn, flL_len]
  have H : Hid (RdI w (.slice a m c) (flL ls) ∧ n = ls.length) := ⟨h, hnn⟩
  clear h hmm
  have hn1 : n ≤ 1000 := by omega
  have hq : (m : Int).tdiv 2 = (n : Int) := by rw [Int.tdiv_eq_ediv_of_nonneg (by omega)]; omega
  have hq2 : (m : Int) / 2 = (n : Int) := by omega
  have HM2 : Hid (m = 2 * n) := hm2
  clear hnn hn hm2
  obtain ⟨i0, hi, hz0, hz1, hz2⟩ := info_parts info_Line
  go_enter Try.func61, Try.ntmps61
  go_wp2_with (at_make; refine wpList_make_full _ rfl _ _ 25 rfl w.heap.size 60 i0 (.agg #[.int .i64 0, .int .i64 0]) 2 Try.underlying25 hi hz0 hz1 _ _ _ _ n rfl rfl (by first | rfl | exact hq | exact hq2) (by first | rfl | exact hq | exact hq2) (by rw [hz2]; omega) (by unfold maxLen; omega) (Nat.le_refl _) ?_; intro w2 hown2 hgrow2)
  have HS : Hid (Fill 60 2 lnC w2 w.heap.size w.heap.size n ls 0 ∧ Below w.heap.size w w2) := ⟨⟨_, hown2, fun t ht => by omega⟩, (Below.refl _ _).grown hgrow2 (Nat.le_refl _) (fun k h => by cases h)⟩
  clear hown2 hgrow2
  go_loopw [11] (fun i wr => ∃ j : Nat, j ≤ n ∧ i = .int .i64 j ∧ Hid (Fill 60 2 lnC wr w.heap.size w.heap.size n ls j ∧ Below w.heap.size w wr)) (fun i _ => n - (intOf i).toNat)
  case atStart => exact ⟨0, Nat.zero_le _, rfl, HS.out⟩
  case round =>
    clear HS
    obtain ⟨j, hj, rfl, hR⟩ := hrel
    by_cases hlt : j < n
    · have b0 : (0 : Int) ≤ (j : Int) := by omega
      have b1 : (j : Int) < (n : Int) := by omega
      have hjl : j < ls.length := by rw [← H.out.2]; exact hlt
      obtain ⟨g, o, hag, hgw, hx0⟩ := rd_at (j := 2 * j) (H.out.1.below hR.out.2) (by have := HM2.out; omega)
      obtain ⟨g', o', hag', _, hx1⟩ := rd_at (j := 2 * j + 1) (H.out.1.below hR.out.2) (by have := HM2.out; omega)
      subst hag
      injection hag' with hag'
      injection hag' with e1 e2
      subst e1 e2
      rw [(flL_at ls j hjl).1] at hx0
      rw [(flL_at ls j hjl).2] at hx1
      obtain ⟨x, hx⟩ : ∃ x, x = ls[j] := ⟨_, rfl⟩
      rw [← hx] at hx0 hx1
      obtain ⟨⟨u0, g0⟩, f0⟩ := hR.out.1.there (j * 2) (by omega)
      obtain ⟨⟨u1, g1⟩, f1⟩ := hR.out.1.there (j * 2 + 1) (by omega)
      have HP : Hid (Fill 60 2 lnC ((wr.drew.setCell ⟨w.heap.size, j * 2, none⟩ (.int .i64 x.f)).setCell ⟨w.heap.size, j * 2 + 1, none⟩ (.int .i64 x.t)) w.heap.size w.heap.size n ls (j + 1) ∧ Below w.heap.size w ((wr.drew.setCell ⟨w.heap.size, j * 2, none⟩ (.int .i64 x.f)).setCell ⟨w.heap.size, j * 2 + 1, none⟩ (.int .i64 x.t))) := by
        have h1 := (hR.out.1.below ((Below.refl _ _).drew)).put lnC_len H.out.2 hjl
        rw [← hx] at h1
        exact ⟨h1, puts_below (hR.out.2.drew) (Nat.le_refl _) (lnC x) 0⟩
      have hm0 : (0 : Int) ≤ 2 * (j : Int) := by omega
      have hm1 : 2 * (j : Int) + 1 < (m : Int) := by have := HM2.out; omega
      have hm2 : 2 * (j : Int) < (m : Int) := by omega
      have hm3 : (0 : Int) ≤ 2 * (j : Int) + 1 := by omega
      have e1 : IntKind.i64.wrap (2 * (j : Int)) = 2 * (j : Int) := by rw [IntKind.wrap_i64]; omega
      have e2 : IntKind.i64.wrap (2 * (j : Int) + 1) = 2 * (j : Int) + 1 := by rw [IntKind.wrap_i64]; omega
      have e3 : (2 * (j : Int)).toNat = 2 * j := by omega
      have e4 : (2 * (j : Int) + 1).toNat = 2 * j + 1 := by omega
      clear hR hx
      go_wp2_with (fail)
      refine wp_region_still_tail 15 (by kernel_rfl) (by kernel_rfl) ?_
      have hdw : ({ wr with drawn := wr.drawn + 1 } : World) = wr.drew := rfl
      rw [hdw]
      clear hdw
      simp only [List.take_succ_cons, List.take_zero, List.drop_succ_cons, List.drop_zero]
      iterate 15 still_step
      refine wpStill_nil ?_
      go_wp2
      go_roundw
      case rel => exact ⟨j + 1, by omega, by go_num, HP.out⟩
      case measure => simp [intOf]; omega
    · have b1 : ¬ (j : Int) < (n : Int) := by omega
      have HD : Hid (OG 60 2 lnC wr w.heap.size (.slice (some ⟨w.heap.size, 0, none⟩) n n) ls ∧ Below w.heap.size w wr) := ⟨hR.out.1.done lnC_len H.out.2 (by rw [← H.out.2]; omega), hR.out.2⟩
      clear hR
      go_wp2
      go_returns
      exact ⟨_, rfl, HD.out.1, HD.out.2⟩

end Go.Proofs.Ytfjcebgknpccbaa
