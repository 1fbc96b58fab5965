/- Proved here: small rules on worlds that have grown: what was there is there still. No condition on the program. (And ahead of it: Proved here: worlds that differ in some blocks alone. No condition on the program.) (And ahead of it: How RunRule of the model runs: arithmetic alone. (And ahead of it: Proved here: l22Rule and PickJob of the model: pjC, pjV.)) -/
import Derived.Test.YtjbghflphngnkaaPjS
import Derived.Test.YtjbghflphngnkaaRrN
import Derived.Test.YtjbghflphngnkaaTkR
import Derived.Test.YtjbghflphngnkaaUnd
namespace Go.Proofs.Ytjbghflphngnkaa
open Go.RowKit
set_option linter.unusedVariables false
set_option linter.unusedSimpArgs false


def lrC (s : List Jb) (rule : Int) : Int := if jbF s ≠ 0 then jbF s else if ¬ (1 ≤ rule ∧ rule ≤ 4) then 1 else 0
set_option maxRecDepth 10000 in
set_option maxHeartbeats 3200000 in
theorem spec_lr (rule : Int) {W : World} {a : Option Addr} {c : Nat} {s : List Jb} (hn : s.length ≤ 1048576) (hc : s.length ≤ c) (hs : RG 7 jbC W (.slice a s.length c) s) :
    Calls Try.prog 30 #[.slice a s.length c, .int .i64 rule] W fun e w' => e = .returned (.int .i64 (lrC s rule)) ∧ Below W.heap.size W w' := by
  obtain ⟨J, hJ⟩ : ∃ J, J = jbF s := ⟨_, rfl⟩
  obtain ⟨n, hnn⟩ : ∃ n, n = s.length := ⟨_, rfl⟩
  obtain ⟨q1, hq1⟩ : ∃ q, q = decide (1 ≤ rule ∧ rule ≤ 4) := ⟨_, rfl⟩
  obtain ⟨C, hC⟩ : ∃ C, C = lrC s rule := ⟨_, rfl⟩
  have HC : Hid (C = if J ≠ 0 then J else if q1 = false then 1 else 0) := by
    unfold Hid; rw [hC, lrC, ← hJ, hq1]; simp only [decide_eq_false_iff_not]
  have HJ : Hid (Calls Try.prog 50 #[.slice a n c] W fun e w' => e = .returned (.int .i64 J) ∧ Below W.heap.size W w') := by rw [hJ, hnn]; exact spec_jf hn hc hs
  have HI1 : Hid (∀ X, Calls Try.prog 60 #[.int .i64 rule, .int .i64 1, .int .i64 4] X fun e w' => e = .returned (.bool q1) ∧ w' = X) := fun X => spec_ins rule 1 4 q1 hq1 X
  rw [← hC, ← hnn]
  clear hJ hnn hq1 hC hs hn hc
  go_enter Try.func30, Try.ntmps30
  go_wp2_with (fail)
  refine HJ.out.mono ?_
  rintro e w1 ⟨rfl, hb⟩
  clear HJ
  by_cases hJ0 : J = 0
  case neg =>
    have HE : Hid (C = J) := by unfold Hid; rw [HC.out, if_pos hJ0]
    have h1 : (J != 0) = true := by simpa using hJ0
    clear HC
    go_wp2
    go_returns
    exact ⟨by rw [HE.out]; rfl, hb⟩
  subst hJ0
  go_wp2_with (fail)
  refine (HI1.out _).mono ?_
  rintro e w2 ⟨rfl, hw⟩
  subst w2
  cases q1
  · have HE : Hid (C = 1) := by unfold Hid; rw [HC.out]; rfl
    clear HC
    go_wp2
    go_returns
    exact ⟨by rw [HE.out]; rfl, hb⟩
  have HE : Hid (C = 0) := by unfold Hid; rw [HC.out]; rfl
  clear HC
  go_wp2
  go_returns
  exact ⟨by rw [HE.out]; rfl, hb⟩

end Go.Proofs.Ytjbghflphngnkaa

namespace Go.Proofs.Ytjbghflphngnkaa
open Go.RowKit
set_option linter.unusedVariables false
set_option linter.unusedSimpArgs false


theorem nwR_nwR (l : List Jb) (now : Int) : nwR l (nwR l now) = nwR l now := by unfold nwR; omega
theorem pkN_nwR (rule : Int) (l : List Jb) (now : Int) : pkN rule l (nwR l now) = pkN rule l now := by unfold pkN; rw [nwR_nwR]
theorem rrO_nwR (rule : Int) (l : List Jb) (now : Int) (f : Nat) (h : 0 < f) : rrO rule f l (nwR l now) = rrO rule f l now := by
  obtain ⟨k, rfl⟩ : ∃ k, f = k + 1 := ⟨f - 1, by omega⟩
  show jA l (pkN rule l (nwR l now)) :: rrO rule k (l.eraseIdx (pkN rule l (nwR l now))) (nwR l (nwR l now) + (jA l (pkN rule l (nwR l now))).ti) = _
  rw [pkN_nwR, nwR_nwR]
  rfl
/-- The model waits. -/
theorem RS.wait {rule : Int} {s : List Jb} {t : Nat} {l : List Jb} {now : Int} {od : List Jb} (h : RS rule s t l now od) (hp : 0 < l.length) : RS rule s t l (nwR l now) od :=
  ⟨h.ok, h.len, h.ol, h.osub, h.sub, h.nwb hp, by rw [rrO_nwR _ _ _ _ hp]; exact h.run⟩
theorem pick_none {rule : Int} {l : List Jb} {now : Int} (hp : 0 < l.length) (h : bst (orC rule now) now l l.length = none) : nwR l now = mnC l (l.length - 1) ∧ (bst (orC rule (mnC l (l.length - 1))) (mnC l (l.length - 1)) l l.length).isSome = true := by
  obtain ⟨i, hi, e⟩ := mnC_at l (l.length - 1)
  have h1 := bst_none _ _ _ _ h i (by omega)
  have h2 : nwR l now = mnC l (l.length - 1) := by unfold nwR; omega
  obtain ⟨b, _, hb, _⟩ := pk_some (rule := rule) (now := now) hp
  rw [h2] at hb
  exact ⟨h2, by rw [hb]; rfl⟩
theorem pick_some {rule : Int} {l : List Jb} {now : Int} {b : Nat} (hp : 0 < l.length) (h : bst (orC rule now) now l l.length = some b) : nwR l now = now ∧ pkN rule l now = b ∧ b < l.length := by
  obtain ⟨h1, h2⟩ := bst_lt _ _ _ _ _ h
  have h3 := mnC_le l (l.length - 1) b (by omega)
  have h4 : nwR l now = now := by unfold nwR; omega
  exact ⟨h4, by unfold pkN; rw [h4, h]; rfl, h1⟩
theorem rrC_lr (s : List Jb) (rule : Int) : rrC s rule = lrC s rule := by
  unfold rrC pfC lrC
  by_cases h1 : jbF s ≠ 0
  · rw [if_pos h1, if_pos h1]
  · rw [if_neg h1, if_neg h1]
    by_cases h2 : ¬ (1 ≤ rule ∧ rule ≤ 4)
    · rw [if_pos h2, if_pos h2]
    · rw [if_neg h2, if_neg h2, if_neg (by omega)]
theorem rrO_all {rule : Int} {s : List Jb} (hok : OkJ s) : ∀ (f t : Nat) (l od : List Jb) (now : Int), RS rule s t l now od → l.length = f → (rrL s rule).length = s.length ∧ ∀ x ∈ rrL s rule, x ∈ s := by
  intro f
  induction f with
  | zero =>
    intro t l od now h hf
    have hr := h.run
    rw [hf] at hr
    have e : rrL s rule = od := by rw [rrL, hr]; exact List.append_nil od
    rw [e]
    exact ⟨by have := h.ol; have := h.len; omega, h.osub⟩
  | succ f ih =>
    intro t l od now h hf
    have hp : 0 < l.length := by omega
    obtain ⟨b, hb, _, e⟩ := pk_some (rule := rule) (now := now) hp
    exact ih (t + 1) _ _ _ (h.step hp) (by rw [e, List.length_eraseIdx, if_pos hb]; omega)
theorem rrI_len {s : List Jb} {rule : Int} : (rrI s rule).length ≤ 30 := by
  unfold rrI
  split
  · rename_i h
    obtain ⟨hok, _⟩ := pfC_ok h
    rw [List.length_map, (rrO_all hok s.length 0 s [] 0 (RS.zero hok) rfl).1]
    exact hok.len
  · simp

end Go.Proofs.Ytjbghflphngnkaa

namespace Go.Proofs.Ytjbghflphngnkaa
open Go.RowKit
set_option linter.unusedVariables false
set_option linter.unusedSimpArgs false

/-- Nothing but blocks from B on and below Z has turned. -/
structure Chg (B Z : Nat) (w w' : World) : Prop where
  os : w'.os = w.os
  tape : w'.tape = w.tape
  output : w'.output = w.output
  size : w.heap.size ≤ w'.heap.size
  block : ∀ k, k < w.heap.size → (k < B ∨ Z ≤ k) → w'.heap[k]? = w.heap[k]?

theorem Chg.refl (B Z : Nat) (w : World) : Chg B Z w w := ⟨rfl, rfl, rfl, Nat.le_refl _, fun _ _ _ => rfl⟩
theorem Chg.trans {B Z : Nat} {w w' w'' : World} (h : Chg B Z w w') (h' : Chg B Z w' w'') : Chg B Z w w'' :=
  ⟨h'.os.trans h.os, h'.tape.trans h.tape, h'.output.trans h.output, Nat.le_trans h.size h'.size, fun k hk hb => (h'.block k (Nat.lt_of_lt_of_le hk h.size) hb).trans (h.block k hk hb)⟩
theorem Chg.set {B Z g o : Nat} (w : World) (u : Value) (h1 : B ≤ g) (h2 : g < Z) : Chg B Z w (w.setCell ⟨g, o, none⟩ u) :=
  ⟨rfl, rfl, rfl, by simp, fun k hk hb => heap_setCell_other _ _ _ _ (by simp; omega)⟩
theorem Chg.only {B Z g : Nat} {w w' : World} (h : Only g w w') (h1 : B ≤ g) (h2 : g < Z) : Chg B Z w w' :=
  ⟨h.os, h.tape, h.output, by rw [h.size]; exact Nat.le_refl _, fun k hk hb => h.block k (by omega)⟩
theorem Chg.below {B Z A : Nat} {w w' : World} (h : Chg B Z w w') (hA : A ≤ B) (hs : A ≤ w.heap.size) : Below A w w' :=
  ⟨h.os, h.tape, h.output, h.size, fun k hk => h.block k (by omega) (Or.inl (by omega))⟩
theorem Chg.of_below {B Z : Nat} {w w' : World} (h : Below w.heap.size w w') : Chg B Z w w' :=
  ⟨h.os, h.tape, h.output, h.size, fun k hk _ => h.block k hk⟩

end Go.Proofs.Ytjbghflphngnkaa

namespace Go.Proofs.Ytjbghflphngnkaa
open Go.RowKit
set_option linter.unusedVariables false

/-- What lay in W lies in w still. -/
def KS (W w : World) : Prop := (∀ b o, b < W.heap.size → w.cell? ⟨b, o, none⟩ = W.cell? ⟨b, o, none⟩) ∧ Below W.heap.size W w

theorem KS.of {W w : World} (h : Below W.heap.size W w) : KS W w := ⟨fun b o hb => h.cell (p := ⟨b, o, none⟩) hb, h⟩
theorem KS.start (W : World) : KS W W.drew := KS.of ((Below.refl _ _).drew)
theorem KS.call {W w w' : World} (h : KS W w) (hb : Below w.heap.size w w') : KS W w' := KS.of (h.2.trans (hb.mono h.2.size))
theorem KS.alloc {W w : World} (h : KS W w) (o : Obj) : KS W (w.alloc o) := KS.of (h.2.alloc h.2.size o)
theorem KS.set {W w : World} (h : KS W w) {p : Addr} (hp : W.heap.size ≤ p.block) (u : Value) : KS W (w.setCell p u) := KS.of (h.2.setCell hp u)

end Go.Proofs.Ytjbghflphngnkaa
