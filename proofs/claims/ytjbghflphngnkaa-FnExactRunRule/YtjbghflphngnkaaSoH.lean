/- Proved here: slices.Clone at jobs, sortedBy: what the library's stable sort makes of a new list. (And ahead of it: Proved here: small rules for copies of lists of numbers. No condition on the program.) -/
import Derived.Test.YtjbghflphngnkaaNlJ
import Derived.Deep.AppendLies
import Derived.Test.YtjbghflphngnkaaJoB
import Derived.Test.YtjbghflphngnkaaNwK
import Derived.Test.YtjbghflphngnkaaSoF
import Derived.Lib.SmallJoins
namespace Go.Proofs.Ytjbghflphngnkaa
open Go.RowKit
set_option linter.unusedVariables false
set_option linter.unusedSimpArgs false

theorem row_news {W : World} {g o n c : Nat} {s : List Int} (h : RdI W (.slice (some ⟨g, o, none⟩) n c) s) : ∀ j u, (s.map (Value.int .i64))[j]? = some u → W.cell? ((⟨g, o, none⟩ : Addr).add j) = some u := by
  intro j u hu
  have hj : j < s.length := by
    rcases Nat.lt_or_ge j s.length with h' | h'
    · exact h'
    · rw [List.getElem?_eq_none (by simpa using h')] at hu; cases hu
  obtain ⟨g', o', c', he, hg, hx⟩ := h.ri (by omega)
  injection he with he1
  injection he1 with he2
  injection he2 with he3 he4
  subst he3 he4
  rw [List.getElem?_map, List.getElem?_eq_getElem hj] at hu
  simp only [Option.map_some, Option.some.injEq] at hu
  subst hu
  rw [Addr.add_lit, hx j hj, show s.getD j 0 = s[j] from by simp [List.getD, hj]]
theorem is_lit0 (w : World) (B : Nat) (hB : B ≤ w.heap.size) : IS (w.alloc (.cells #[] 2)) B (.slice (some ⟨w.heap.size, 0, none⟩) 0 0) [] :=
  World.ownsRow_lit w #[] 0 hB (by decide) (by simp)
theorem ones_int (xs : List Int) : ∀ u ∈ xs.map (Value.int .i64), u.oneCell' = true := by
  intro u hu
  obtain ⟨x, _, rfl⟩ := List.mem_map.1 hu
  rfl
theorem own_form0 {w : World} {B T k n : Nat} {v : Value} {xs : List Value} (h : w.ownsRow B T k v (0 + n) xs) : ∃ a c, v = .slice a n c := by
  rcases h.2 with ⟨rfl, h0⟩ | ⟨g, cap, cur, rfl, _⟩
  · exact ⟨none, 0, by rw [Nat.zero_add] at h0; rw [h0]⟩
  · exact ⟨_, _, by rw [Nat.zero_add]⟩

end Go.Proofs.Ytjbghflphngnkaa

namespace Go.Proofs.Ytjbghflphngnkaa
open Go.RowKit
set_option linter.unusedVariables false
set_option linter.unusedSimpArgs false


/-- Not nil with room. -/
def NCj (a : Option Addr) (n c : Nat) : Prop := a = none → n = 0 ∧ c = 0
theorem OG.ncj {w : World} {B : Nat} {a : Option Addr} {n c : Nat} {l : List Jb} (h : OG 51 7 jbC w B (.slice a n c) l) : NCj a n c := by
  intro e
  subst e
  rcases h.2 with ⟨h1, h2⟩ | ⟨g, cap, cur, h1, _⟩
  · injection h1 with _ e1 e2; exact ⟨e1, e2⟩
  · injection h1 with e1; cases e1
set_option maxRecDepth 10000 in
set_option maxHeartbeats 1600000 in
theorem cl_jb {w : World} {a : Option Addr} {c : Nat} {s : List Jb} (hn : s.length ≤ 1048576) (hc : NCj a s.length c) (h : RG 7 jbC w (.slice a s.length c) s) :
    Calls Try.prog 37 #[.slice a s.length c] w fun e w' => ∃ v', e = .returned v' ∧ OG 51 7 jbC w' w.heap.size v' s ∧ (a ≠ none → ∃ g cc, v' = .slice (some ⟨g, 0, none⟩) s.length cc) ∧ Below w.heap.size w w' := by
  obtain ⟨i0, hi, hz0, hz1, hz2⟩ := info_parts info_Job
  have qT : ∀ (w : World) (a : Option Addr) (n c : Nat), (binOp .eql 28 (.slice a n c) (.slice none 0 0)).run Try.prog w = .ok (.bool a.isNone) w := fun w a n c => Lib.run_eql_slice_nil w _ _ a n c 0 0 Try.underlying28
  obtain ⟨n, hnn⟩ : ∃ n, n = s.length := ⟨_, rfl⟩
  rw [← hnn] at hn h hc ⊢
  cases a with
  | none =>
    obtain ⟨rfl, rfl⟩ := hc rfl
    obtain rfl : s = [] := List.eq_nil_of_length_eq_zero hnn.symm
    clear h hc hnn hn
    go_enter Try.func37, Try.ntmps37
    go_wp2
    go_returns
    exact ⟨_, rfl, World.ownsRow_nil _ _ _ _, fun h => absurd rfl h, Below.refl _ _⟩
  | some ad =>
    have H : Hid (RG 7 jbC (w.alloc (.cells #[] 51)) (.slice (some ad) n c) s ∧ n = s.length) := ⟨h.below (by (repeat' (first | (with_reducible exact Below.refl _ _) | (with_reducible assumption) | (with_reducible refine Below.setCell ?_ ?_ _) | (with_reducible refine Below.alloc ?_ ?_ _) | (with_reducible refine below_drewN ?_ _) | (with_reducible refine Below.drew ?_) | (with_reducible exact Nat.le_refl _) | omega | (simp; done) | (simp; omega)))), hnn⟩
    clear hnn h hc
    go_enter Try.func37, Try.ntmps37
    go_wp2_with (at_builtin; (refine wpList_append_own _ rfl _ _ 28 rfl w.heap.size 51 i0 (.agg #[.int .i64 0, .int .i64 0, .int .i64 0, .int .i64 0, .int .i64 0, .int .i64 0, .int .i64 0]) 7 56 Try.underlying28 hi hz0 hz1 hz2 rfl (by decide) (.slice (some ⟨w.heap.size, 0, none⟩) 0 0) 0 [] rfl (World.ownsRow_lit w #[] 0 (Nat.le_refl _) (by decide) (by simp)) ad n c (s.flatMap jbC) rfl (by rw [H.out.2]; rw [fm_length jbC_len]) (newsK jbC_len (by decide) H.out.1 _ rfl) (ones_of jbC_one _) (by unfold maxLen; omega) (by omega) (by simp) ?_; intro v1 w1 hown1 hgrow1 hnil1))
    have R : Hid (OG 51 7 jbC w1 w.heap.size v1 s ∧ Below w.heap.size w w1 ∧ ∃ g cc, v1 = .slice (some ⟨g, 0, none⟩) s.length cc) := by
      have ho : OG 51 7 jbC w1 w.heap.size v1 s := by
        rw [H.out.2] at hown1
        unfold OG
        simpa using hown1
      refine ⟨ho, ((Below.refl _ _).alloc (Nat.le_refl _) _).grown hgrow1 (by simp) (fun j hj => by cases hj; exact Nat.le_refl _), ?_⟩
      rcases ho.2 with ⟨h1, _⟩ | ⟨g, cap, cur, h1, _⟩
      · exact absurd h1 (fun e => by have := (hnil1.1 e).1; cases this)
      · exact ⟨g, cap, h1⟩
    have hns := H.out.2
    clear hown1 hgrow1 hnil1
    go_returns
    refine ⟨_, rfl, R.out.1, fun _ => ?_, R.out.2.1⟩
    obtain ⟨g, cc, e⟩ := R.out.2.2
    exact ⟨g, cc, by rw [hns]; exact e⟩
set_option maxHeartbeats 3200000 in
theorem ins_nil {w : World} {p : Nat} : Calls Try.prog 93 #[.slice none 0 0, .int .i64 0, .int .i64 0, .func (Fn.func 81) #[] #[.pointer (some ⟨p, 0, none⟩)]] w fun e w' => e = .returned (.tuple #[]) ∧ w' = w := by
  go_enter Try.func93, Try.ntmps93
  go_wp2
  refine wp_loop_rounds 1 ?_
  rw [rounds_succ]
  go_wp2
  go_returns
  exact ⟨rfl, rfl⟩
set_option maxHeartbeats 3200000 in
theorem stb_nil {w : World} {p : Nat} : Calls Try.prog 90 #[.slice none 0 0, .int .i64 0, .func (Fn.func 81) #[] #[.pointer (some ⟨p, 0, none⟩)]] w fun e w' => e = .returned (.tuple #[]) ∧ w' = w := by
  go_enter Try.func90, Try.ntmps90
  go_wp2
  refine wp_loop_rounds 1 ?_
  rw [rounds_succ]
  go_wp2_with (fail)
  refine ins_nil.mono ?_
  rintro e w5 ⟨rfl, hw⟩
  subst w5
  go_wp2
  refine wp_loop_rounds 1 ?_
  rw [rounds_succ]
  go_wp2
  go_returns
  exact ⟨rfl, rfl⟩
set_option maxHeartbeats 3200000 in
theorem ssf_nil {w : World} {p : Nat} : Calls Try.prog 80 #[.slice none 0 0, .func (Fn.func 81) #[] #[.pointer (some ⟨p, 0, none⟩)]] w fun e w' => e = .returned (.tuple #[]) ∧ w' = w := by
  go_enter Try.func80, Try.ntmps80
  go_wp2_with (fail)
  refine stb_nil.mono ?_
  rintro e w5 ⟨rfl, hw⟩
  subst w5
  go_wp2
  go_returns
  exact ⟨rfl, rfl⟩
set_option maxRecDepth 10000 in
set_option maxHeartbeats 3200000 in
theorem sb_run {W : World} {a : Option Addr} {cc q k : Nat} {c : Jb → Jb → Int} {l : List Jb} (hn : l.length ≤ 39) (hnc : NCj a l.length cc) (h : RG 7 jbC W (.slice a l.length cc) l)
    (hK : ∀ (X : World) (p lo : Nat), X.cell? ⟨p, 0, none⟩ = some (.slice (some ⟨q, 0, none⟩) k k) → p < lo → Below W.heap.size W X → W.heap.size ≤ lo → lo ≤ X.heap.size → Cmp X lo p c) :
    Calls Try.prog 55 #[.slice a l.length cc, .slice (some ⟨q, 0, none⟩) k k] W fun e w' => ∃ v, e = .returned v ∧ OG 51 7 jbC w' W.heap.size v (stbF c l.length l) ∧ Below W.heap.size W w' := by
  obtain ⟨n, hnn⟩ : ∃ n, n = l.length := ⟨_, rfl⟩
  obtain ⟨X, hX⟩ : ∃ X, X = W.alloc (.cells #[.slice (some ⟨q, 0, none⟩) k k] 90) := ⟨_, rfl⟩
  have HX : Hid (Below W.heap.size W X ∧ X.cell? ⟨W.heap.size, 0, none⟩ = some (.slice (some ⟨q, 0, none⟩) k k) ∧ X.heap.size = W.heap.size + 1) := by
    rw [hX]; exact ⟨by (repeat' (first | (with_reducible exact Below.refl _ _) | (with_reducible assumption) | (with_reducible refine Below.setCell ?_ ?_ _) | (with_reducible refine Below.alloc ?_ ?_ _) | (with_reducible refine below_drewN ?_ _) | (with_reducible refine Below.drew ?_) | (with_reducible exact Nat.le_refl _) | omega | (simp; done) | (simp; omega))), cellOfQ (heap_alloc_new _ _) 0 rfl, by simp⟩
  have HCL : Hid (Calls Try.prog 37 #[.slice a n cc] X fun e w' => ∃ v', e = .returned v' ∧ OG 51 7 jbC w' X.heap.size v' l ∧ (a ≠ none → ∃ g c2, v' = .slice (some ⟨g, 0, none⟩) l.length c2) ∧ Below X.heap.size X w') := by
    rw [hnn]; exact cl_jb (by omega) hnc (h.below HX.out.1)
  have HN : Hid (n = l.length ∧ NCj a n cc) := ⟨hnn, by rw [hnn]; exact hnc⟩
  have HK : Hid (∀ (X : World) (p lo : Nat), X.cell? ⟨p, 0, none⟩ = some (.slice (some ⟨q, 0, none⟩) k k) → p < lo → Below W.heap.size W X → W.heap.size ≤ lo → lo ≤ X.heap.size → Cmp X lo p c) := hK
  rw [← hnn] at hn ⊢
  clear hnn hnc h hK
  go_enter Try.func55, Try.ntmps55
  go_wp2_with (fail)
  rw [← hX]
  clear hX
  refine HCL.out.mono ?_
  rintro e w1 ⟨v, rfl, ho, hv, hb1⟩
  have HB : Hid (Below W.heap.size W w1 ∧ w1.cell? ⟨W.heap.size, 0, none⟩ = some (.slice (some ⟨q, 0, none⟩) k k) ∧ X.heap.size ≤ w1.heap.size) := ⟨HX.out.1.trans (hb1.mono HX.out.1.size), (hb1.cell (p := ⟨W.heap.size, 0, none⟩) (by have := HX.out.2.2; show W.heap.size < X.heap.size; omega)).trans HX.out.2.1, hb1.size⟩
  cases a with
  | none =>
    have e0 := HN.out.2 rfl
    have hl0 : l = [] := List.eq_nil_of_length_eq_zero (by rw [← HN.out.1]; exact e0.1)
    subst hl0
    rcases ho.2 with ⟨h1, _⟩ | ⟨g, cap, cur, h1, _⟩
    · subst h1
      clear ho hv hb1 HCL HK
      go_wp2_with (fail)
      refine ssf_nil.mono ?_
      rintro e w5 ⟨rfl, hw⟩
      subst w5
      go_wp2
      go_returns
      refine ⟨_, rfl, ?_, HB.out.1⟩
      rw [e0.1]
      exact OG.nl _ _ _ _ _
    · subst h1
      have HO : Hid (OJ w1 X.heap.size g 0 cap []) := ho
      have HC : Hid (Cmp w1 X.heap.size W.heap.size c) := HK.out w1 _ _ HB.out.2.1 (by have := HX.out.2.2; omega) HB.out.1 HX.out.1.size HB.out.2.2
      clear ho hv hb1 HCL HK
      go_wp2_with (fail)
      refine (ssf_run (by omega) HC.out HO.out (Below.refl _ _ |>.mono HB.out.2.2)).mono ?_
      rintro e w5 ⟨rfl, h5, h6⟩
      have HF : Hid (OG 51 7 jbC w5 W.heap.size (.slice (some ⟨g, 0, none⟩) 0 cap) (stbF c 0 []) ∧ Below W.heap.size W w5) := ⟨OG.low h5 HX.out.1.size, HB.out.1.trans (h6.mono (by have := HX.out.2.2; omega))⟩
      clear h5 h6
      go_wp2
      go_returns
      refine ⟨_, rfl, ?_, HF.out.2⟩
      rw [e0.1]
      exact HF.out.1
  | some ad =>
    obtain ⟨g, c2, rfl⟩ := hv (by simp)
    rw [← HN.out.1] at ho
    have HO : Hid (OJ w1 X.heap.size g n c2 l) := ho
    have HC : Hid (Cmp w1 X.heap.size W.heap.size c) := HK.out w1 _ _ HB.out.2.1 (by have := HX.out.2.2; omega) HB.out.1 HX.out.1.size HB.out.2.2
    have hns := HN.out.1
    rw [← hns]
    clear ho hv hb1 HCL HK hns
    go_wp2_with (fail)
    refine (ssf_run hn HC.out HO.out ((Below.refl _ _).mono HB.out.2.2)).mono ?_
    rintro e w5 ⟨rfl, h5, h6⟩
    have HF : Hid (OG 51 7 jbC w5 W.heap.size (.slice (some ⟨g, 0, none⟩) n c2) (stbF c n l) ∧ Below W.heap.size W w5) := ⟨OG.low h5 HX.out.1.size, HB.out.1.trans (h6.mono (by have := HX.out.2.2; omega))⟩
    clear h5 h6
    go_wp2
    go_returns
    exact ⟨_, rfl, HF.out.1, HF.out.2⟩

end Go.Proofs.Ytjbghflphngnkaa
