/- Proved here: tools copied and laid to rest, of the program; a tool copied, of the model. -/
import Derived.Test.YtkacfjbhkgdpdaaKept
import Derived.Test.YtkacfjbhkgdpdaaTlT
import Derived.Test.YtkacfjbhkgdpdaaS2B
import Derived.Deep.AppendLies
import Derived.Maps.AppendAt
import Derived.Deep.Cut
namespace Go.Proofs.Ytkacfjbhkgdpdaa
open Go.RowKit Go.Maps
set_option linter.unusedVariables false
set_option linter.unusedSimpArgs false

theorem row_newsK {α : Type} {k : Nat} {enc : α → List Value} (hk : ∀ x, (enc x).length = k) (hk0 : 0 < k) {W : World} {a : Option Addr} {n c : Nat} {s : List α} (h : RG k enc W (.slice a n c) s) : ∀ ad, a = some ad → ∀ j u, (s.flatMap enc)[j]? = some u → W.cell? (ad.add j) = some u := by
  intro ad ha j u hu
  have hj : j < (s.flatMap enc).length := by
    rcases Nat.lt_or_ge j (s.flatMap enc).length with h' | h'
    · exact h'
    · rw [List.getElem?_eq_none h'] at hu; cases hu
  rw [fm_length hk] at hj
  have hs0 : 0 < s.length := by
    rcases Nat.eq_zero_or_pos s.length with e | e
    · rw [e] at hj; simp at hj
    · exact e
  obtain ⟨g, o, c', he, hg, hx⟩ := h.pos hs0
  injection he with he1
  rw [he1] at ha
  injection ha with ha
  subst ha
  have hm : j % k < k := Nat.mod_lt _ hk0
  have hd : j / k < s.length := Nat.div_lt_of_lt_mul (by rw [Nat.mul_comm]; exact hj)
  have hjj : j = j / k * k + j % k := by rw [Nat.mul_comm]; exact (Nat.div_add_mod j k).symm
  rw [hjj, fm_get hk s (j / k) (j % k) hd hm] at hu
  rw [Addr.add_lit, hjj, ← Nat.add_assoc, hx (j / k) hd (j % k) hm]
  exact hu
theorem apC_ones (s : List Ap) : ∀ u ∈ s.flatMap apC, u.oneCell' = true := by
  intro u hu
  obtain ⟨f, _, h⟩ := List.mem_flatMap.1 hu
  exact apC_one f u h
theorem ap_lit0 (w : World) (B : Nat) (hB : B ≤ w.heap.size) : OG 72 2 apC (w.alloc (.cells #[] 72)) B (.slice (some ⟨w.heap.size, 0, none⟩) 0 0) [] :=
  World.ownsRow_lit w #[] 0 hB (by decide) (by simp)
theorem OG.form {α : Type} {T k : Nat} {enc : α → List Value} {w : World} {B : Nat} {v : Value} {s : List α} (h : OG T k enc w B v s) : ∃ a c, v = .slice a s.length c := by
  rcases h.2 with ⟨rfl, h0⟩ | ⟨g, cap, cur, rfl, _⟩
  · exact ⟨none, 0, by rw [h0]⟩
  · exact ⟨_, _, rfl⟩
theorem og_some {α : Type} {T k : Nat} {enc : α → List Value} {w : World} {B : Nat} {v : Value} {s : List α} (h : OG T k enc w B v s) (hs : v.ownBlock ≠ none) : ∃ g c, v = .slice (some ⟨g, 0, none⟩) s.length c := by
  rcases h.2 with ⟨rfl, _⟩ | ⟨g, cap, cur, rfl, _⟩
  · exact absurd rfl hs
  · exact ⟨g, cap, rfl⟩
theorem info_ap : ∃ i, Try.prog.info? 72 = some i ∧ i.zero = some (.agg #[.string ByteArray.empty, .int .i64 0]) ∧ i.size = 2 ∧ i.bytes = 24 := by
  have h := info_Approval
  rw [Option.map_eq_some_iff] at h
  obtain ⟨i, hi, he⟩ := h
  simp only [Prod.mk.injEq] at he
  exact ⟨i, hi, he.1, he.2.1, he.2.2⟩

set_option maxRecDepth 10000 in
set_option maxHeartbeats 1600000 in
theorem cl_ap {w : World} {g o n c : Nat} {s : List Ap} (hn : n ≤ 1048576) (h : RG 2 apC w (.slice (some ⟨g, o, none⟩) n c) s) :
    Calls Try.prog 53 #[.slice (some ⟨g, o, none⟩) n c] w fun e w' => ∃ g' c' : Nat, e = .returned (.slice (some ⟨g', 0, none⟩) n c') ∧ OG 72 2 apC w' w.heap.size (.slice (some ⟨g', 0, none⟩) n c') s ∧ Below w.heap.size w w' := by
  obtain ⟨i0, hi, hz0, hz1, hz2⟩ := info_ap
  have qT : ∀ (w : World) (a : Option Addr) (n c : Nat), (binOp .eql 29 (.slice a n c) (.slice none 0 0)).run Try.prog w = .ok (.bool a.isNone) w := fun w a n c => Lib.run_eql_slice_nil w _ _ a n c 0 0 Try.underlying29
  have H : Hid (RG 2 apC (w.alloc (.cells #[] 72)) (.slice (some ⟨g, o, none⟩) n c) s ∧ n = s.length) := ⟨h.below (by (repeat' (first | (with_reducible exact Below.refl _ _) | (with_reducible assumption) | (with_reducible refine Below.setCell ?_ ?_ _) | (with_reducible refine Below.alloc ?_ ?_ _) | (with_reducible refine below_drewN ?_ _) | (with_reducible refine Below.drew ?_) | (with_reducible exact Nat.le_refl _) | omega | (simp; done) | (simp; omega)))), h.len⟩
  clear h
  go_enter Try.func53, Try.ntmps53
  go_wp2_with (at_builtin; (refine wpList_append_own_at _ rfl _ _ 29 rfl w.heap.size 72 i0 (.agg #[.string ByteArray.empty, .int .i64 0]) 2 24 Try.underlying29 hi hz0 hz1 hz2 rfl (by decide) (.slice (some ⟨w.heap.size, 0, none⟩) 0 0) 0 [] rfl (ap_lit0 w _ (Nat.le_refl _)) ⟨g, o, none⟩ n c (s.flatMap apC) rfl (by rw [H.out.2, fm_length apC_len]) (row_newsK apC_len (by decide) H.out.1 _ rfl) (apC_ones _) (by unfold maxLen; omega) (by omega) (by simp) ?_; intro v1 w1 hown1 hgrow1 hnil1 hloc1))
  have R : Hid (OG 72 2 apC w1 w.heap.size v1 s ∧ Below w.heap.size w w1) := by
    refine ⟨?_, ((Below.refl _ _).alloc (Nat.le_refl _) _).grown hgrow1 (by simp) (fun j hj => by cases hj; exact Nat.le_refl _)⟩
    rw [H.out.2] at hown1
    unfold OG
    simpa using hown1
  obtain ⟨g1, c1, hv1⟩ := og_some R.out.1 (by rcases hloc1 with e | e <;> rw [e] <;> simp [Value.ownBlock])
  rw [← H.out.2] at hv1
  subst hv1
  clear hown1 hgrow1 hnil1 hloc1
  go_returns
  exact ⟨g1, c1, rfl, R.out.1, R.out.2⟩

set_option maxRecDepth 10000 in
set_option maxHeartbeats 1600000 in
theorem impl_tcp (A : Int) (R : ByteArray) (S U L : Int) (Q : Bool) {w : World} {g o n c : Nat} {s : List Ap} (hn : n ≤ 1048576) (h : RG 2 apC w (.slice (some ⟨g, o, none⟩) n c) s) :
    Calls Try.prog 36 #[.agg #[.int .i64 A, .string R, .int .i64 S, .int .i64 U, .int .i64 L, .bool Q, .slice (some ⟨g, o, none⟩) n c]] w fun e w' => ∃ g' c' : Nat, e = .returned (.agg #[.int .i64 A, .string R, .int .i64 S, .int .i64 U, .int .i64 L, .bool Q, .slice (some ⟨g', 0, none⟩) n c']) ∧ OG 72 2 apC w' w.heap.size (.slice (some ⟨g', 0, none⟩) n c') s ∧ Below w.heap.size w w' := by
  have HC : Hid (∀ W, Below w.heap.size w W → Calls Try.prog 53 #[.slice (some ⟨g, o, none⟩) n c] W fun e w' => ∃ g' c' : Nat, e = .returned (.slice (some ⟨g', 0, none⟩) n c') ∧ OG 72 2 apC w' W.heap.size (.slice (some ⟨g', 0, none⟩) n c') s ∧ Below W.heap.size W w') := fun W hb => cl_ap hn (h.below hb)
  have HN : Hid (n = s.length) := h.len
  have HS : Hid (S2 w (.cells #[.int .i64 A, .string R, .int .i64 S, .int .i64 U, .int .i64 L, .bool Q, .slice (some ⟨g, o, none⟩) n c] 31) (.cells #[.int .i64 0, .string ⟨#[]⟩, .int .i64 0, .int .i64 0, .int .i64 0, .bool false, .slice none 0 0] 31) ((w.alloc (.cells #[.int .i64 A, .string R, .int .i64 S, .int .i64 U, .int .i64 L, .bool Q, .slice (some ⟨g, o, none⟩) n c] 31)).alloc (.cells #[.int .i64 0, .string ⟨#[]⟩, .int .i64 0, .int .i64 0, .int .i64 0, .bool false, .slice none 0 0] 31))) := S2.new _ _ _
  clear h hn
  go_enter Try.func36, Try.ntmps36
  go_wp2_with (fail)
  obtain ⟨U0, hU⟩ : ∃ X9, X9 = (w.alloc (.cells #[.int .i64 A, .string R, .int .i64 S, .int .i64 U, .int .i64 L, .bool Q, .slice (some ⟨g, o, none⟩) n c] 31)).alloc (.cells #[.int .i64 0, .string ⟨#[]⟩, .int .i64 0, .int .i64 0, .int .i64 0, .bool false, .slice none 0 0] 31) := ⟨_, rfl⟩
  rw [← hU] at HS ⊢
  clear hU
  refine (HC.out _ HS.out.bl).mono ?_
  rintro e w1 ⟨a1, c1, rfl, ho, hb1⟩
  have HT : Hid (S2 w (.cells #[.int .i64 A, .string R, .int .i64 S, .int .i64 U, .int .i64 L, .bool Q, .slice (some ⟨g, o, none⟩) n c] 31) (.cells #[.int .i64 0, .string ⟨#[]⟩, .int .i64 0, .int .i64 0, .int .i64 0, .bool false, .slice none 0 0] 31) w1 ∧ OG 72 2 apC w1 U0.heap.size (.slice (some ⟨a1, 0, none⟩) n c1) s ∧ w.heap.size + 2 ≤ U0.heap.size) := ⟨HS.out.next hb1, ho, by have h1 := ltOf HS.out.b1; omega⟩
  clear ho hb1 HS HC
  obtain ⟨p0, p1, p2, p3, p4, p5, p6, pl⟩ := tf_seven HT.out.1.b0
  obtain ⟨q0, q1, q2, q3, q4, q5, q6, ql⟩ := tf_seven HT.out.1.b1
  have pf6 := frozOf HT.out.1.b0 6
  have qf0 := frozOf HT.out.1.b1 0
  have qf1 := frozOf HT.out.1.b1 1
  have qf2 := frozOf HT.out.1.b1 2
  have qf3 := frozOf HT.out.1.b1 3
  have qf4 := frozOf HT.out.1.b1 4
  have qf5 := frozOf HT.out.1.b1 5
  have qf6 := frozOf HT.out.1.b1 6
  go_wp2
  try simp only [Exit.inBlock, Exit.then]
  refine bodyPost_ret (by simp [results, Try.results36, go_sem, q0, q1, q2, q3, q4, q5, q6]; try rfl) rfl ⟨a1, c1, rfl, ?_, ?_⟩
  · refine OG.low (B := U0.heap.size) (ownsRow_keep HT.out.2.1 fun q hq => ?_) (by have := HT.out.2.2; omega)
    have h9 := (OG.lt HT.out.2.1 q hq).1
    have h8 := HT.out.2.2
    rw [heap_setCell_other _ _ _ _ (by simp; omega), heap_setCell_other _ _ _ _ (by simp; omega), heap_setCell_other _ _ _ _ (by simp; omega), heap_setCell_other _ _ _ _ (by simp; omega), heap_setCell_other _ _ _ _ (by simp; omega), heap_setCell_other _ _ _ _ (by simp; omega), heap_setCell_other _ _ _ _ (by simp; omega), heap_setCell_other _ _ _ _ (by simp; omega)]
  · have hb := HT.out.1.bl
    (repeat' (first | (with_reducible exact Below.refl _ _) | (with_reducible assumption) | (with_reducible refine Below.setCell ?_ ?_ _) | (with_reducible refine Below.alloc ?_ ?_ _) | (with_reducible refine below_drewN ?_ _) | (with_reducible refine Below.drew ?_) | (with_reducible exact Nat.le_refl _) | omega | (simp; done) | (simp; omega)))

set_option maxRecDepth 10000 in
set_option maxHeartbeats 1600000 in
theorem impl_rest (A : Int) (R : ByteArray) (S U L : Int) (Q : Bool) (st : Int) (a : Option Addr) (n c : Nat) (w : World) :
    Calls Try.prog 84 #[.agg #[.int .i64 A, .string R, .int .i64 S, .int .i64 U, .int .i64 L, .bool Q, .slice a n c], .int .i64 st] w fun e w' => e = .returned (.agg #[.int .i64 st, .string ⟨#[]⟩, .int .i64 0, .int .i64 U, .int .i64 L, .bool Q, .slice a n c]) ∧ Below w.heap.size w w' := by
  have HS : Hid (S2 w (.cells #[.int .i64 A, .string R, .int .i64 S, .int .i64 U, .int .i64 L, .bool Q, .slice a n c] 31) (.cells #[.int .i64 0, .string ⟨#[]⟩, .int .i64 0, .int .i64 0, .int .i64 0, .bool false, .slice none 0 0] 31) ((w.alloc (.cells #[.int .i64 A, .string R, .int .i64 S, .int .i64 U, .int .i64 L, .bool Q, .slice a n c] 31)).alloc (.cells #[.int .i64 0, .string ⟨#[]⟩, .int .i64 0, .int .i64 0, .int .i64 0, .bool false, .slice none 0 0] 31))) := S2.new _ _ _
  go_enter Try.func84, Try.ntmps84
  go_upto_region 1 with fail
  obtain ⟨W, hW⟩ : ∃ X9, X9 = (w.alloc (.cells #[.int .i64 A, .string R, .int .i64 S, .int .i64 U, .int .i64 L, .bool Q, .slice a n c] 31)).alloc (.cells #[.int .i64 0, .string ⟨#[]⟩, .int .i64 0, .int .i64 0, .int .i64 0, .bool false, .slice none 0 0] 31) := ⟨_, rfl⟩
  rw [← hW] at HS ⊢
  clear hW
  obtain ⟨p0, p1, p2, p3, p4, p5, p6, pl⟩ := tf_seven HS.out.b0
  obtain ⟨q0, q1, q2, q3, q4, q5, q6, ql⟩ := tf_seven HS.out.b1
  have pf0 := frozOf HS.out.b0 0
  have pf1 := frozOf HS.out.b0 1
  have pf2 := frozOf HS.out.b0 2
  have qf0 := frozOf HS.out.b1 0
  have qf1 := frozOf HS.out.b1 1
  have qf2 := frozOf HS.out.b1 2
  have qf3 := frozOf HS.out.b1 3
  have qf4 := frozOf HS.out.b1 4
  have qf5 := frozOf HS.out.b1 5
  have qf6 := frozOf HS.out.b1 6
  go_wp2
  try simp only [Exit.inBlock, Exit.then]
  refine bodyPost_ret (by simp [results, Try.results84, go_sem, q0, q1, q2, q3, q4, q5, q6]; try rfl) rfl ⟨rfl, ?_⟩
  have hb := HS.out.bl
  (repeat' (first | (with_reducible exact Below.refl _ _) | (with_reducible assumption) | (with_reducible refine Below.setCell ?_ ?_ _) | (with_reducible refine Below.alloc ?_ ?_ _) | (with_reducible refine below_drewN ?_ _) | (with_reducible refine Below.drew ?_) | (with_reducible exact Nat.le_refl _) | omega | (simp; done) | (simp; omega)))

set_option maxRecDepth 10000 in
set_option maxHeartbeats 1600000 in
theorem impl_unq (A : Int) (R : ByteArray) (S U L : Int) (Q : Bool) (st : Int) (a : Option Addr) (n c : Nat) (w : World) :
    Calls Try.prog 83 #[.agg #[.int .i64 A, .string R, .int .i64 S, .int .i64 U, .int .i64 L, .bool Q, .slice a n c], .int .i64 st] w fun e w' => e = .returned (.agg #[.int .i64 st, .string ⟨#[]⟩, .int .i64 0, .int .i64 U, .int .i64 L, .bool false, .slice a n c]) ∧ Below w.heap.size w w' := by
  have HR : Hid (∀ W, Calls Try.prog 84 #[.agg #[.int .i64 A, .string R, .int .i64 S, .int .i64 U, .int .i64 L, .bool false, .slice a n c], .int .i64 st] W fun e w' => e = .returned (.agg #[.int .i64 st, .string ⟨#[]⟩, .int .i64 0, .int .i64 U, .int .i64 L, .bool false, .slice a n c]) ∧ Below W.heap.size W w') := fun W => impl_rest A R S U L false st a n c W
  have HS : Hid (S2 w (.cells #[.int .i64 A, .string R, .int .i64 S, .int .i64 U, .int .i64 L, .bool Q, .slice a n c] 31) (.cells #[.int .i64 0, .string ⟨#[]⟩, .int .i64 0, .int .i64 0, .int .i64 0, .bool false, .slice none 0 0] 31) ((w.alloc (.cells #[.int .i64 A, .string R, .int .i64 S, .int .i64 U, .int .i64 L, .bool Q, .slice a n c] 31)).alloc (.cells #[.int .i64 0, .string ⟨#[]⟩, .int .i64 0, .int .i64 0, .int .i64 0, .bool false, .slice none 0 0] 31))) := S2.new _ _ _
  go_enter Try.func83, Try.ntmps83
  go_upto_region 1 with fail
  obtain ⟨W, hW⟩ : ∃ X9, X9 = (w.alloc (.cells #[.int .i64 A, .string R, .int .i64 S, .int .i64 U, .int .i64 L, .bool Q, .slice a n c] 31)).alloc (.cells #[.int .i64 0, .string ⟨#[]⟩, .int .i64 0, .int .i64 0, .int .i64 0, .bool false, .slice none 0 0] 31) := ⟨_, rfl⟩
  rw [← hW] at HS ⊢
  clear hW
  obtain ⟨p0, p1, p2, p3, p4, p5, p6, pl⟩ := tf_seven HS.out.b0
  have pf5 := frozOf HS.out.b0 5
  go_wp2_with (fail)
  refine (HR.out _).mono ?_
  rintro e w1 ⟨rfl, hb1⟩
  have hl1 := ltOf HS.out.b1
  have HT : Hid (Below w.heap.size w w1 ∧ w1.heap[w.heap.size + 1]? = some (.cells #[.int .i64 0, .string ⟨#[]⟩, .int .i64 0, .int .i64 0, .int .i64 0, .bool false, .slice none 0 0] 31)) := by
    refine ⟨HS.out.bl.trans ((show Below w.heap.size W (W.setCell ⟨w.heap.size, 5, none⟩ (.bool false)) from below_setCells w.heap.size (Nat.le_refl _) [.bool false] 5 _ (Below.refl _ _)).trans (hb1.mono (by simp; omega))), ?_⟩
    rw [hb1.block _ (by simpa using hl1), heap_setCell_other _ _ _ _ (by simp)]
    exact HS.out.b1
  clear hb1 p0 p1 p2 p3 p4 p5 p6 pl pf5 HS HR hl1
  obtain ⟨q0, q1, q2, q3, q4, q5, q6, ql⟩ := tf_seven HT.out.2
  have qf0 := frozOf HT.out.2 0
  have qf1 := frozOf HT.out.2 1
  have qf2 := frozOf HT.out.2 2
  have qf3 := frozOf HT.out.2 3
  have qf4 := frozOf HT.out.2 4
  have qf5 := frozOf HT.out.2 5
  have qf6 := frozOf HT.out.2 6
  go_wp2
  try simp only [Exit.inBlock, Exit.then]
  refine bodyPost_ret (by simp [results, Try.results83, go_sem, q0, q1, q2, q3, q4, q5, q6]; try rfl) rfl ⟨rfl, ?_⟩
  have hb := HT.out.1
  (repeat' (first | (with_reducible exact Below.refl _ _) | (with_reducible assumption) | (with_reducible refine Below.setCell ?_ ?_ _) | (with_reducible refine Below.alloc ?_ ?_ _) | (with_reducible refine below_drewN ?_ _) | (with_reducible refine Below.drew ?_) | (with_reducible exact Nat.le_refl _) | omega | (simp; done) | (simp; omega)))

set_option maxRecDepth 10000 in
set_option maxHeartbeats 1600000 in
theorem spec_tcp (A : Int) (R : ByteArray) (S U L : Int) (Q : Bool) {w : World} {g o n c : Nat} {s : List Ap} (hn : n ≤ 1048576) (h : RG 2 apC w (.slice (some ⟨g, o, none⟩) n c) s) :
    Calls Try.prog 29 #[.agg #[.int .i64 A, .string R, .int .i64 S, .int .i64 U, .int .i64 L, .bool Q, .slice (some ⟨g, o, none⟩) n c]] w fun e w' => ∃ g' c' : Nat, e = .returned (.agg #[.int .i64 A, .string R, .int .i64 S, .int .i64 U, .int .i64 L, .bool Q, .slice (some ⟨g', 0, none⟩) n c']) ∧ OG 72 2 apC w' w.heap.size (.slice (some ⟨g', 0, none⟩) n c') s ∧ Below w.heap.size w w' := by
  obtain ⟨i0, hi, hz0, hz1, hz2⟩ := info_ap
  obtain ⟨U0, hU0⟩ : ∃ X9, X9 = (w.alloc (.cells #[.int .i64 A, .string R, .int .i64 S, .int .i64 U, .int .i64 L, .bool Q, .slice (some ⟨g, o, none⟩) n c] 31)).alloc (.cells #[.int .i64 0, .string ⟨#[]⟩, .int .i64 0, .int .i64 0, .int .i64 0, .bool false, .slice none 0 0] 31) := ⟨_, rfl⟩
  have HS : Hid (S2 w (.cells #[.int .i64 A, .string R, .int .i64 S, .int .i64 U, .int .i64 L, .bool Q, .slice (some ⟨g, o, none⟩) n c] 31) (.cells #[.int .i64 0, .string ⟨#[]⟩, .int .i64 0, .int .i64 0, .int .i64 0, .bool false, .slice none 0 0] 31) U0) := by rw [hU0]; exact S2.new _ _ _
  have H : Hid (RG 2 apC (U0.alloc (.cells #[] 72)) (.slice (some ⟨g, o, none⟩) n c) s ∧ n = s.length) := ⟨h.below (HS.out.bl.trans (by have := HS.out.bl.size; (repeat' (first | (with_reducible exact Below.refl _ _) | (with_reducible assumption) | (with_reducible refine Below.setCell ?_ ?_ _) | (with_reducible refine Below.alloc ?_ ?_ _) | (with_reducible refine below_drewN ?_ _) | (with_reducible refine Below.drew ?_) | (with_reducible exact Nat.le_refl _) | omega | (simp; done) | (simp; omega))))), h.len⟩
  clear h
  have hl1 := ltOf HS.out.b1
  go_enter Try.func29, Try.ntmps29
  go_upto_region 1 with fail
  rw [← hU0]
  clear hU0
  obtain ⟨p0, p1, p2, p3, p4, p5, p6, pl⟩ := tf_seven HS.out.b0
  go_wp2_with (at_builtin; go_loud (refine wpList_append_own_at _ rfl _ _ 29 rfl U0.heap.size 72 i0 (.agg #[.string ByteArray.empty, .int .i64 0]) 2 24 Try.underlying29 hi hz0 hz1 hz2 rfl (by decide) (.slice (some ⟨U0.heap.size, 0, none⟩) 0 0) 0 [] rfl (ap_lit0 U0 _ (Nat.le_refl _)) ⟨g, o, none⟩ n c (s.flatMap apC) rfl (by rw [H.out.2, fm_length apC_len]) (row_newsK apC_len (by decide) H.out.1 _ rfl) (apC_ones _) (by unfold maxLen; omega) (by omega) (by simp) ?_); intro v1 w1 hown1 hgrow1 hnil1 hloc1; go_loud (have HRR : Hid (OG 72 2 apC w1 U0.heap.size v1 s ∧ Below U0.heap.size U0 w1 ∧ w.heap.size + 2 ≤ U0.heap.size ∧ n = s.length) := ⟨(show OG 72 2 apC w1 U0.heap.size v1 s from by unfold OG; rw [← H.out.2]; simpa using hown1), ((Below.refl _ _).alloc (Nat.le_refl _) _).grown hgrow1 (by simp) (fun j hj => by cases hj; exact Nat.le_refl _), hl1, H.out.2⟩; obtain ⟨a1, c1, hv⟩ := og_some HRR.out.1 (show v1.ownBlock ≠ none from fun e9 => hloc1.elim (fun e => by rw [e] at e9; cases e9) (fun e => by rw [e] at e9; cases e9)); rw [← H.out.2] at hv; subst hv; have k0 := (HRR.out.2.1.block _ (ltOf HS.out.b0)).trans HS.out.b0; obtain ⟨p0, p1, p2, p3, p4, p5, p6, pl⟩ := tf_seven k0; have pf6 := frozOf k0 6; have k1 := (HRR.out.2.1.block _ hl1).trans HS.out.b1; obtain ⟨q0, q1, q2, q3, q4, q5, q6, ql⟩ := tf_seven k1; have qf0 := frozOf k1 0; have qf1 := frozOf k1 1; have qf2 := frozOf k1 2; have qf3 := frozOf k1 3; have qf4 := frozOf k1 4; have qf5 := frozOf k1 5; have qf6 := frozOf k1 6; clear k0 k1 hown1 hgrow1 hnil1 hloc1))
  try simp only [Exit.inBlock, Exit.then]
  refine bodyPost_ret (by simp [results, Try.results29, go_sem, q0, q1, q2, q3, q4, q5, q6]; try rfl) rfl ⟨a1, c1, rfl, ?_, ?_⟩
  · refine OG.low (B := U0.heap.size) (ownsRow_keep HRR.out.1 fun q hq => ?_) (by have := HRR.out.2.2.1; omega)
    have h9 := (OG.lt HRR.out.1 q hq).1
    have h8 := HRR.out.2.2.1
    rw [heap_setCell_other _ _ _ _ (by simp; omega), heap_setCell_other _ _ _ _ (by simp; omega), heap_setCell_other _ _ _ _ (by simp; omega), heap_setCell_other _ _ _ _ (by simp; omega), heap_setCell_other _ _ _ _ (by simp; omega), heap_setCell_other _ _ _ _ (by simp; omega), heap_setCell_other _ _ _ _ (by simp; omega), heap_setCell_other _ _ _ _ (by simp; omega)]
  · have hb : Below w.heap.size w w1 := HS.out.bl.trans (HRR.out.2.1.mono HS.out.bl.size)
    (repeat' (first | (with_reducible exact Below.refl _ _) | (with_reducible assumption) | (with_reducible refine Below.setCell ?_ ?_ _) | (with_reducible refine Below.alloc ?_ ?_ _) | (with_reducible refine below_drewN ?_ _) | (with_reducible refine Below.drew ?_) | (with_reducible exact Nat.le_refl _) | omega | (simp; done) | (simp; omega)))

end Go.Proofs.Ytkacfjbhkgdpdaa
