/- Proved here: the least times of a front, told without ways: what is at rest (Fin) and below whatever is at rest (Low) is one grid alone. -/
import Derived.Test.YtpbkoigdfjajkaaBsM
import Derived.Test.YtpbkoigdfjajkaaCgM
namespace Go.Proofs.Ytpbkoigdfjajkaa
set_option linter.unusedVariables false
set_option linter.unusedSimpArgs false

/-- Beside one another. -/
def Adj (i k j m : Nat) : Prop := (j = i ∧ (m + 1 = k ∨ m = k + 1)) ∨ (m = k ∧ (j + 1 = i ∨ j = i + 1))
theorem Nb.adj {n W i k : Nat} {p : Int × Int} (h : Nb n W i k p) : ∃ j m : Nat, p = ((j : Int), (m : Int)) ∧ j < n ∧ m < W ∧ Adj i k j m := by
  obtain ⟨a, b⟩ := p
  obtain ⟨h1, h2, h3, h4, h5⟩ := h
  simp only [Prod.mk.injEq] at h1 h2 h3 h4 h5
  refine ⟨a.toNat, b.toNat, by simp only [Prod.mk.injEq]; omega, by omega, by omega, ?_⟩
  unfold Adj
  omega
theorem Adj.nb {n W i k j m : Nat} (h : Adj i k j m) (hj : j < n) (hm : m < W) : Nb n W i k ((j : Int), (m : Int)) := by
  unfold Nb Adj at *
  simp only [Prod.mk.injEq]
  omega
/-- Times at rest. -/
structure Rest (n W : Nat) (R T : List (List Int)) : Prop where
  top : ∀ k, k < W → at2 T 0 k ≤ at2 R 0 k
  step : ∀ i k j m, i < n → k < W → j < n → m < W → Adj i k j m → at2 T i k ≤ at2 T j m + at2 R i k
/-- No times at rest lie above. -/
def Low (n W : Nat) (R S : List (List Int)) : Prop := ∀ T, Rest n W R T → ∀ i k, i < n → k < W → at2 T i k ≤ at2 S i k
theorem rest_one {n W : Nat} {R S T : List (List Int)} (hS : Sh n W S) (hT : Sh n W T) (h1 : Rest n W R S) (h2 : Low n W R S) (h3 : Rest n W R T) (h4 : Low n W R T) : S = T :=
  grid_ext hS hT fun i k hi hk => Int.le_antisymm (h4 S h1 i k hi hk) (h2 T h3 i k hi hk)
theorem rest_bd {n W : Nat} {R T : List (List Int)} (h : Rest n W R T) (hR : ∀ i k, i < n → k < W → at2 R i k ≤ 1000000) : ∀ i k, i < n → k < W → at2 T i k ≤ ((i : Int) + 1) * 1000000 := by
  intro i
  induction i with
  | zero => intro k hi hk; have := h.top k hk; have := hR 0 k hi hk; omega
  | succ i ih =>
    intro k hi hk
    have h1 := ih k (by omega) hk
    have h2 := h.step (i + 1) k i k hi hk (by omega) hk (Or.inr ⟨rfl, Or.inl rfl⟩)
    have h3 := hR (i + 1) k hi hk
    omega

/-- What is under way: the grid S out of S0; so: something has turned. -/
structure RL (n W : Nat) (R S0 S : List (List Int)) (so : Bool) : Prop where
  le : ∀ i k, i < n → k < W → at2 S i k ≤ at2 S0 i k
  nn : ∀ i k, i < n → k < W → 0 ≤ at2 S i k
  st : so = true → ∃ i k, i < n ∧ k < W ∧ at2 S i k < at2 S0 i k
  sf : so = false → S = S0
  lo : ∀ T, Rest n W R T → (∀ i k, i < n → k < W → at2 T i k ≤ at2 S0 i k) → ∀ i k, i < n → k < W → at2 T i k ≤ at2 S i k
theorem RL.start {n W : Nat} {R S : List (List Int)} (h : ∀ i k, i < n → k < W → 0 ≤ at2 S i k) : RL n W R S S false :=
  ⟨fun _ _ _ _ => Int.le_refl _, h, fun e => (by cases e), fun _ => rfl, fun T _ h => h⟩
theorem RL.turn {n W : Nat} {R S0 S : List (List Int)} {so : Bool} (h : RL n W R S0 S so) (hS : Sh n W S) {i k j m : Nat} (hi : i < n) (hk : k < W) (hj : j < n) (hm : m < W) (ha : Adj i k j m) (hR : 0 ≤ at2 R i k) (hlt : at2 S j m + at2 R i k < at2 S i k) : RL n W R S0 (set2 S i k (at2 S j m + at2 R i k)) true := by
  have hle := h.le i k hi hk
  refine ⟨fun a b ha hb => ?_, fun a b ha hb => ?_, fun _ => ⟨i, k, hi, hk, ?_⟩, fun e => (by cases e), fun T hT hT0 a b ha' hb => ?_⟩
  · rw [at2_set2 hS hi hk]
    by_cases e : a = i ∧ b = k
    · rw [if_pos e, e.1, e.2]; omega
    · rw [if_neg e]; exact h.le a b ha hb
  · rw [at2_set2 hS hi hk]
    by_cases e : a = i ∧ b = k
    · rw [if_pos e]; have := h.nn j m hj hm; omega
    · rw [if_neg e]; exact h.nn a b ha hb
  · rw [at2_set2 hS hi hk, if_pos ⟨rfl, rfl⟩]; omega
  · rw [at2_set2 hS hi hk]
    by_cases e : a = i ∧ b = k
    · rw [if_pos e, e.1, e.2]
      have h1 := hT.step i k j m hi hk hj hm ha
      have h2 := h.lo T hT hT0 j m hj hm
      omega
    · rw [if_neg e]; exact h.lo T hT hT0 a b ha' hb
/-- What has been looked at stands: all places ahead of (i, k), and of (i, k) the first q beside it. -/
def Seen (n W : Nat) (R S : List (List Int)) (nb : Nat → Nat → List (Int × Int)) (i k q : Nat) : Prop :=
  ∀ a b, a < n → b < W → ∀ t, t < (nb a b).length → (a < i ∨ (a = i ∧ (b < k ∨ (b = k ∧ t < q)))) → at2 S a b ≤ at2 S ((nb a b).getD t (0, 0)).1.toNat ((nb a b).getD t (0, 0)).2.toNat + at2 R a b
/-- The sum of a grid's numbers. -/
def rowS (S : List (List Int)) (i : Nat) : Nat → Int
  | 0 => 0
  | k + 1 => rowS S i k + at2 S i k
def allS (W : Nat) (S : List (List Int)) : Nat → Int
  | 0 => 0
  | i + 1 => allS W S i + rowS S i W
theorem rowS_le {S S0 : List (List Int)} {i : Nat} : ∀ W, (∀ k, k < W → at2 S i k ≤ at2 S0 i k) → rowS S i W ≤ rowS S0 i W := by
  intro W
  induction W with
  | zero => intro _; exact Int.le_refl _
  | succ W ih => intro h; have h1 := ih fun k hk => h k (by omega); have h2 := h W (by omega); rw [rowS, rowS]; omega
theorem rowS_lt {S S0 : List (List Int)} {i : Nat} : ∀ W, (∀ k, k < W → at2 S i k ≤ at2 S0 i k) → (∃ k, k < W ∧ at2 S i k < at2 S0 i k) → rowS S i W < rowS S0 i W := by
  intro W
  induction W with
  | zero => rintro _ ⟨k, h, _⟩; omega
  | succ W ih =>
    rintro h ⟨k, hk, hlt⟩
    have h2 := h W (by omega)
    rw [rowS, rowS]
    by_cases e : k = W
    · have h1 := rowS_le W fun k hk => h k (by omega)
      rw [e] at hlt; omega
    · have h1 := ih (fun k hk => h k (by omega)) ⟨k, by omega, hlt⟩; omega
theorem allS_le {W : Nat} {S S0 : List (List Int)} : ∀ n, (∀ i k, i < n → k < W → at2 S i k ≤ at2 S0 i k) → allS W S n ≤ allS W S0 n := by
  intro n
  induction n with
  | zero => intro _; exact Int.le_refl _
  | succ n ih => intro h; have h1 := ih fun i k hi hk => h i k (by omega) hk; have h2 := rowS_le W fun k hk => h n k (by omega) hk; rw [allS, allS]; omega
theorem allS_lt {W : Nat} {S S0 : List (List Int)} : ∀ n, (∀ i k, i < n → k < W → at2 S i k ≤ at2 S0 i k) → (∃ i k, i < n ∧ k < W ∧ at2 S i k < at2 S0 i k) → allS W S n < allS W S0 n := by
  intro n
  induction n with
  | zero => rintro _ ⟨i, k, h, _⟩; omega
  | succ n ih =>
    rintro h ⟨i, k, hi, hk, hlt⟩
    rw [allS, allS]
    by_cases e : i = n
    · have h1 := allS_le n fun i k hi hk => h i k (by omega) hk
      have h2 := rowS_lt W (fun k hk => h n k (by omega) hk) ⟨k, hk, by rw [← e]; exact hlt⟩
      omega
    · have h1 := ih (fun i k hi hk => h i k (by omega) hk) ⟨i, k, by omega, hk, hlt⟩
      have h2 := rowS_le W fun k hk => h n k (by omega) hk
      omega
theorem rowS_nn {S : List (List Int)} {i : Nat} : ∀ W, (∀ k, k < W → 0 ≤ at2 S i k) → 0 ≤ rowS S i W := by
  intro W
  induction W with
  | zero => intro _; exact Int.le_refl _
  | succ W ih => intro h; have h1 := ih fun k hk => h k (by omega); have h2 := h W (by omega); rw [rowS]; omega
theorem allS_nn {W : Nat} {S : List (List Int)} : ∀ n, (∀ i k, i < n → k < W → 0 ≤ at2 S i k) → 0 ≤ allS W S n := by
  intro n
  induction n with
  | zero => intro _; exact Int.le_refl _
  | succ n ih => intro h; have h1 := ih fun i k hi hk => h i k (by omega) hk; have h2 := rowS_nn W fun k hk => h n k (by omega) hk; rw [allS]; omega

/-- What a round of looking leaves. -/
structure RD (n W : Nat) (R S0 S : List (List Int)) (so : Bool) : Prop where
  rl : RL n W R S0 S so
  at_ : so = false → ∀ i k j m, i < n → k < W → j < n → m < W → Adj i k j m → at2 S i k ≤ at2 S j m + at2 R i k
/-- Where the rounds stand. -/
structure ST (n W : Nat) (R S : List (List Int)) : Prop where
  nn : ∀ i k, i < n → k < W → 0 ≤ at2 S i k
  bd : ∀ i k, i < n → k < W → at2 S i k ≤ 1152921504606846976
  top : ∀ k, k < W → at2 S 0 k ≤ at2 R 0 k
  lo : Low n W R S
theorem ST.next {n W : Nat} {R S0 S : List (List Int)} {so : Bool} (h : ST n W R S0) (hr : RL n W R S0 S so) (hn : 0 < n) : ST n W R S :=
  ⟨hr.nn, fun i k hi hk => Int.le_trans (hr.le i k hi hk) (h.bd i k hi hk), fun k hk => Int.le_trans (hr.le 0 k hn hk) (h.top k hk), fun T hT => hr.lo T hT fun i k hi hk => h.lo T hT i k hi hk⟩
theorem ST.rest {n W : Nat} {R S0 S : List (List Int)} (h : ST n W R S0) (hr : RD n W R S0 S false) (hn : 0 < n) : Rest n W R S ∧ Low n W R S :=
  ⟨⟨(h.next hr.rl hn).top, fun i k j m hi hk hj hm ha => hr.at_ rfl i k j m hi hk hj hm ha⟩, (h.next hr.rl hn).lo⟩
/-- The least times. -/
noncomputable def dtL (ls : List (List Int)) : List (List Int) := by
  classical
  exact if h : gfC ls 1000000 = 0 ∧ ∃ T, Sh ls.length (ls.getD 0 []).length T ∧ Rest ls.length (ls.getD 0 []).length ls T ∧ Low ls.length (ls.getD 0 []).length ls T then Classical.choose h.2 else []
theorem dtL_is {ls T : List (List Int)} (h0 : gfC ls 1000000 = 0) (h : Sh ls.length (ls.getD 0 []).length T) (h1 : Rest ls.length (ls.getD 0 []).length ls T) (h2 : Low ls.length (ls.getD 0 []).length ls T) : dtL ls = T := by
  have hx : gfC ls 1000000 = 0 ∧ ∃ T, Sh ls.length (ls.getD 0 []).length T ∧ Rest ls.length (ls.getD 0 []).length ls T ∧ Low ls.length (ls.getD 0 []).length ls T := ⟨h0, T, h, h1, h2⟩
  unfold dtL
  rw [dif_pos hx]
  have hc := Classical.choose_spec hx.2
  exact rest_one hc.1 h hc.2.1 hc.2.2 h1 h2
theorem dtL_nil {ls : List (List Int)} (h0 : ¬ gfC ls 1000000 = 0) : dtL ls = [] := by
  unfold dtL
  rw [dif_neg (fun h => h0 h.1)]
theorem sh_sm {n W : Nat} {L : List (List Int)} (h : Sh n W L) (hn : n ≤ 16) (hW : W ≤ 16) : SmR L := by
  refine ⟨by rw [h.len]; omega, ?_⟩
  have : ∀ i, i ≤ n → totR L i ≤ i * 16 := by
    intro i
    induction i with
    | zero => intro _; simp [totR]
    | succ i ih =>
      intro hi
      have h1 := ih (by omega)
      have h2 := h.wd i (by omega)
      rw [totR, h2]; omega
  have h1 := this n (Nat.le_refl _)
  rw [h.len]
  omega
theorem dtL_sm (ls : List (List Int)) : SmR (dtL ls) := by
  by_cases h : gfC ls 1000000 = 0 ∧ ∃ T, Sh ls.length (ls.getD 0 []).length T ∧ Rest ls.length (ls.getD 0 []).length ls T ∧ Low ls.length (ls.getD 0 []).length ls T
  · obtain ⟨h0, T, h1, h2, h3⟩ := h
    rw [dtL_is h0 h1 h2 h3]
    have hG := gfC_good h0
    exact sh_sm h1 hG.h1 hG.w1
  · unfold dtL
    rw [dif_neg h]
    exact nil_sm

end Go.Proofs.Ytpbkoigdfjajkaa
