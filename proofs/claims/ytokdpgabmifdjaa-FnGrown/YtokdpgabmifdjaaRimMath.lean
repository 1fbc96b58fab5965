/- Proved here: the rim of boxes in the one form, counted from below and from above. No condition on the program. (And ahead of it: Proved here: the laws' small functions on a code of bytes: is it long; a choice below a bound; are two lists of boxes alike.) -/
import Derived.Test.YtokdpgabmifdjaaDrawG
import Derived.Test.YtokdpgabmifdjaaShMath2
namespace Go.Proofs.Ytokdpgabmifdjaa
open Go.RowKit
set_option linter.unusedVariables false
set_option linter.unusedSimpArgs false

theorem big_any (ca : Option Addr) (n cap : Nat) (w : World) (hn : n ≤ maxLen) :
    Calls Try.prog 30 #[.slice ca n cap] w fun e w' => e = .returned (.bool (decide ((1048576 : Int) < n))) ∧ w' = w := by
  unfold maxLen at hn
  go_enter Try.func30, Try.ntmps30
  go_wp2
  go_returns
  exact ⟨rfl, rfl⟩

set_option maxHeartbeats 800000 in
theorem at_zero (ca : Option Addr) (cap : Nat) (t m : Int) (w : World) (h0 : 0 ≤ t) (h1 : t ≤ 1000) (h2 : 1 ≤ m) (h3 : m ≤ 100000) :
    Calls Try.prog 32 #[.slice ca 0 cap, .int .i64 t, .int .i64 m] w fun e w' => ∃ r k, e = .returned (.int .i64 r) ∧ 0 ≤ r ∧ r < m ∧ w' = w.drewN k := by
  by_cases hm1 : m ≤ 1
  · go_enter Try.func32, Try.ntmps32
    go_wp2
    go_returns
    first | exact ⟨_, 0, rfl, by omega, by omega, rfl⟩ | exact ⟨_, rfl, by omega, by omega, 0, rfl⟩
  · have hm : (m == 0) = false := by simp; omega
    go_enter Try.func32, Try.ntmps32
    go_wp2
    go_returns
    first | exact ⟨_, 0, rfl, Int.emod_nonneg _ (by omega), Int.emod_lt_of_pos _ (by omega), rfl⟩ | exact ⟨_, rfl, Int.emod_nonneg _ (by omega), Int.emod_lt_of_pos _ (by omega), 0, rfl⟩

set_option maxHeartbeats 800000 in
theorem at_pos (cap n g off : Nat) (bs : Nat → Int) (t m : Int) (w : World) (h0 : 0 ≤ t) (h1 : t ≤ 1000) (h2 : 1 ≤ m) (h3 : m ≤ 100000) (hn : 0 < n) (hn' : n ≤ 140737488351232) (hb : ∀ j, 0 ≤ bs j ∧ bs j ≤ 255)
    (hc : ∀ j, j < n → w.cell? ⟨g, off + j, none⟩ = some (.int .u8 (bs j))) :
    Calls Try.prog 32 #[.slice (some ⟨g, off, none⟩) n cap, .int .i64 t, .int .i64 m] w fun e w' => ∃ r k, e = .returned (.int .i64 r) ∧ 0 ≤ r ∧ r < m ∧ w' = w.drewN k := by
  by_cases hm1 : m ≤ 1
  · go_enter Try.func32, Try.ntmps32
    go_wp2
    go_returns
    first | exact ⟨_, 0, rfl, by omega, by omega, rfl⟩ | exact ⟨_, rfl, by omega, by omega, 0, rfl⟩
  have hm : (m == 0) = false := by simp; omega
  have hnz : ((n : Int) == 0) = false := by simp; omega
  have i1 : 0 ≤ t % (n : Int) := Int.emod_nonneg _ (by omega)
  have i2 : t % (n : Int) < n := Int.emod_lt_of_pos _ (by omega)
  have i3 : 0 ≤ (t + 1) % (n : Int) := Int.emod_nonneg _ (by omega)
  have i4 : (t + 1) % (n : Int) < n := Int.emod_lt_of_pos _ (by omega)
  have y1 := hc (t % (n : Int)).toNat (by omega)
  have y2 := hc ((t + 1) % (n : Int)).toNat (by omega)
  have z1 := hb (t % (n : Int)).toNat
  have z2 := hb ((t + 1) % (n : Int)).toNat
  have d1 : 0 ≤ t / (n : Int) := Int.ediv_nonneg h0 (by omega)
  have d2 : t / (n : Int) ≤ 1000 := Int.le_trans (Int.ediv_le_self _ h0) h1
  generalize bs (t % (n : Int)).toNat = u1 at *
  generalize bs ((t + 1) % (n : Int)).toNat = u2 at *
  clear hc hb
  by_cases hbig : 200 < m
  all_goals
    go_enter Try.func32, Try.ntmps32
    go_wp2
    go_quiet (fail)
    go_wp2
    go_returns
    first | exact ⟨_, _, rfl, Int.emod_nonneg _ (by omega), Int.emod_lt_of_pos _ (by omega), rfl⟩ | exact ⟨_, rfl, Int.emod_nonneg _ (by omega), Int.emod_lt_of_pos _ (by omega), _, rfl⟩

/-- A code of bytes, as it lies. -/
def CodeAt (w : World) (ca : Option Addr) (n : Nat) (bs : Nat → Int) : Prop :=
  n ≤ 140737488351232 ∧ (∀ j, 0 ≤ bs j ∧ bs j ≤ 255) ∧ (0 < n → ∃ g off, ca = some ⟨g, off, none⟩ ∧ g < w.heap.size ∧ ∀ j, j < n → w.cell? ⟨g, off + j, none⟩ = some (.int .u8 (bs j)))
theorem CodeAt.next {w w' : World} {ca : Option Addr} {n : Nat} {bs : Nat → Int} (h : CodeAt w ca n bs) (hb : Below w.heap.size w w') : CodeAt w' ca n bs := by
  refine ⟨h.1, h.2.1, fun hn => ?_⟩
  obtain ⟨g, off, e, hg, hc⟩ := h.2.2 hn
  exact ⟨g, off, e, Nat.lt_of_lt_of_le hg hb.size, fun j hj => (World.cell?_of_block (hb.block g hg)).trans (hc j hj)⟩
theorem at_any {w : World} {ca : Option Addr} {n : Nat} {bs : Nat → Int} (cap : Nat) (t m : Int) (h0 : 0 ≤ t) (h1 : t ≤ 1000) (h : CodeAt w ca n bs) (h2 : 1 ≤ m) (h3 : m ≤ 100000) :
    Calls Try.prog 32 #[.slice ca n cap, .int .i64 t, .int .i64 m] w fun e w' => ∃ r k, e = .returned (.int .i64 r) ∧ 0 ≤ r ∧ r < m ∧ w' = w.drewN k := by
  rcases Nat.eq_zero_or_pos n with hn | hn
  · subst hn; exact at_zero ca cap t m w h0 h1 h2 h3
  · obtain ⟨g, off, rfl, hg, hc⟩ := h.2.2 hn
    exact at_pos cap n g off bs t m w h0 h1 h2 h3 hn h.1 h.2.1 hc

set_option maxHeartbeats 800000 in
theorem lwBoxes_zero (a1 a2 : Option Addr) (c1 c2 : Nat) (w : World) :
    Calls Try.prog 35 #[.slice a1 0 c1, .slice a2 0 c2] w fun e w' => e = .returned (.bool true) ∧ Below w.heap.size w w' := by
  go_enter Try.func35, Try.ntmps35
  go_wp2
  refine wp_loop_rounds 1 ?_
  rw [rounds_succ]
  go_wp2
  go_returns
  exact ⟨rfl, Below.refl _ _⟩
set_option maxRecDepth 10000 in
set_option maxHeartbeats 1600000 in
theorem lwBoxes_pos (g o c g' o' c' n : Nat) (s : List Bx) (w : World) (hn : n ≤ 1099511627776) (hg : g < w.heap.size) (hg' : g' < w.heap.size) (h : ∀ j, j < n → BAt w g (o + j * 4) (bat s j)) (h' : ∀ j, j < n → BAt w g' (o' + j * 4) (bat s j)) :
    Calls Try.prog 35 #[.slice (some ⟨g, o, none⟩) n c, .slice (some ⟨g', o', none⟩) n c'] w fun e w' => e = .returned (.bool true) ∧ Below w.heap.size w w' := by
  have H : Hid _ := h
  have H' : Hid _ := h'
  clear h h'
  go_enter Try.func35, Try.ntmps35
  go_wp2
  go_loopw [5] (fun i wr => ∃ k : Nat, k ≤ n ∧ i = .int .i64 k ∧ Hid (Below w.heap.size w wr)) (fun i _ => n - (intOf i).toNat)
  case atStart => exact ⟨0, Nat.zero_le _, rfl, Below.refl _ _⟩
  case round =>
    obtain ⟨k, hk, rfl, hR⟩ := hrel
    by_cases hlt : k < n
    · obtain ⟨c0, c1, c2, c3⟩ := (H.out k hlt).below hg hR.out
      obtain ⟨e0, e1, e2, e3⟩ := (H'.out k hlt).below hg' hR.out
      obtain ⟨x, hx⟩ : ∃ x, x = bat s k := ⟨_, rfl⟩
      rw [← hx] at c0 c1 c2 c3 e0 e1 e2 e3
      have hsz := hR.out.size
      have hgr : g < wr.heap.size := by omega
      have hgr' : g' < wr.heap.size := by omega
      have HB : Hid (∀ q, Below w.heap.size w (wr.drewN q)) := fun q => below_drewN hR.out q
      clear hx
      have b0 : (0 : Int) ≤ (k : Int) := by omega
      have b1 : (k : Int) < (n : Int) := by omega
      go_wp2
      go_quiet (fail)
      go_wp2
      go_roundw
      case rel => exact ⟨k + 1, by omega, by go_num, HB.out _⟩
      case measure => simp [intOf]; omega
    · go_wp2
      go_returns
      exact ⟨rfl, hR.out⟩
theorem lwBoxes_same {w : World} {va vb : Value} {s : List Bx} (hn : s.length ≤ 1099511627776) (ha : RB w va s) (hb : RB w vb s) :
    Calls Try.prog 35 #[va, vb] w fun e w' => e = .returned (.bool true) ∧ Below w.heap.size w w' := by
  rcases Nat.eq_zero_or_pos s.length with h0 | hp
  · obtain rfl : s = [] := List.length_eq_zero_iff.1 h0
    obtain ⟨x, c, rfl⟩ := ha.form
    obtain ⟨y, d, rfl⟩ := hb.form
    exact lwBoxes_zero x y c d w
  · obtain ⟨g, o, c, rfl, hg, hj⟩ := ha.pos hp
    obtain ⟨g', o', c', rfl, hg', hj'⟩ := hb.pos hp
    exact lwBoxes_pos g o c g' o' c' _ s w hn hg hg' hj hj'

end Go.Proofs.Ytokdpgabmifdjaa

namespace Go.Proofs.Ytokdpgabmifdjaa
set_option linter.unusedVariables false
set_option linter.unusedSimpArgs false

def sumB (g : Bx → Int) : List Bx → Int
  | [] => 0
  | b :: t => g b + sumB g t
theorem sumB_append (g : Bx → Int) (s t : List Bx) : sumB g (s ++ t) = sumB g s + sumB g t := by
  induction s with
  | nil => simp [sumB]
  | cons b u ih => simp only [List.cons_append, sumB, ih]; omega
theorem sumB_zero {g : Bx → Int} {s : List Bx} (h : ∀ b ∈ s, g b = 0) : sumB g s = 0 := by
  induction s with
  | nil => rfl
  | cons b u ih => simp only [sumB]; rw [h b (by simp), ih (fun q hq => h q (by simp [hq]))]; rfl
theorem sumB_congr {g f : Bx → Int} {s : List Bx} (h : ∀ b ∈ s, g b = f b) : sumB g s = sumB f s := by
  induction s with
  | nil => rfl
  | cons b u ih => simp only [sumB]; rw [h b (by simp), ih (fun q hq => h q (by simp [hq]))]
theorem sumB_bd {g : Bx → Int} {m : Int} {s : List Bx} (h : ∀ b ∈ s, 0 ≤ g b ∧ g b ≤ m) : 0 ≤ sumB g s ∧ sumB g s ≤ m * (s.length : Int) := by
  induction s with
  | nil => simp [sumB]
  | cons b u ih =>
    have h1 := h b (by simp)
    have h2 := ih (fun q hq => h q (by simp [hq]))
    simp only [sumB, List.length_cons]
    rw [show m * ((u.length + 1 : Nat) : Int) = m * (u.length : Int) + m by rw [Int.natCast_add, Int.mul_add]; simp]
    omega

def minI (a b : Int) : Int := if a < b then a else b
def maxI (a b : Int) : Int := if b < a then a else b
theorem minI_comm (a b : Int) : minI a b = minI b a := by unfold minI; split <;> split <;> omega
theorem maxI_comm (a b : Int) : maxI a b = maxI b a := by unfold maxI; split <;> split <;> omega

/-- How far two boxes overlap across. -/
def ovB (a b : Bx) : Int := maxI 0 (minI a.x1 b.x1 - maxI a.x0 b.x0)
theorem ovB_comm (a b : Bx) : ovB a b = ovB b a := by unfold ovB; rw [minI_comm, maxI_comm a.x0]
/-- The side that the second box, which stands on the first, has in common with it. -/
def fB (a b : Bx) : Int := if a.y1 = b.y0 then ovB a b else 0
def perB (b : Bx) : Int := 2 * (b.x1 - b.x0) + 2 * (b.y1 - b.y0)

/-- All pairs, the lower one first. -/
def pairs : List Bx → Int
  | [] => 0
  | b :: t => sumB (fB b) t + pairs t
theorem pairs_snoc (l : List Bx) (b : Bx) : pairs (l ++ [b]) = pairs l + sumB (fun a => fB a b) l := by
  induction l with
  | nil => simp [pairs, sumB]
  | cons a t ih =>
    simp only [List.cons_append, pairs, sumB, ih, sumB_append]
    omega

theorem rim_exchange : ∀ (suf pre : List Bx), (∀ b ∈ suf, b.y0 < b.y1) → (pre ++ suf).Pairwise (fun a b => a.y0 ≤ b.y0) → sumB (fun b => sumB (fB b) (pre ++ suf)) suf = pairs suf := by
  intro suf
  induction suf with
  | nil => intro pre _ _; rfl
  | cons b t ih =>
    intro pre hv hp
    have h1 := ih (pre ++ [b]) (fun q hq => hv q (by simp [hq])) (by simpa using hp)
    simp only [List.append_assoc, List.singleton_append] at h1
    have hpp := List.pairwise_append.1 hp
    have hb : b.y0 < b.y1 := hv b (by simp)
    have hz : sumB (fB b) pre = 0 := sumB_zero fun c hc => by
      have h2 := hpp.2.2 c hc b (by simp)
      unfold fB; rw [if_neg (by omega)]
    have hs : fB b b = 0 := by unfold fB; rw [if_neg (by omega)]
    simp only [sumB, pairs]
    rw [h1, sumB_append, hz]
    simp only [sumB]
    rw [hs]
    omega

/-- In the one form the heights rise. -/
theorem FormB.rise : ∀ (rows : List (List Bx)) (below : List Bx), FormB below rows → rows.flatten.Pairwise (fun a b => a.y0 ≤ b.y0) ∧ ∀ b ∈ rows.flatten, below = [] ∨ hy1 below ≤ b.y0 := by
  intro rows
  induction rows with
  | nil => intro below _; simp
  | cons r rest ih =>
    intro below h
    obtain ⟨i1, i2⟩ := ih r h.2.2.2.2.2
    have hr : ∀ b ∈ r, b.y0 = hy0 r := fun b hb => (h.2.2.1.y b hb).1
    refine ⟨?_, fun b hb => ?_⟩
    · rw [List.flatten_cons, List.pairwise_append]
      refine ⟨?_, i1, fun a ha b hb => ?_⟩
      · rw [List.pairwise_iff_forall_sublist]
        intro a b hs
        have ha := hs.subset (show a ∈ [a, b] by simp)
        have hb := hs.subset (show b ∈ [a, b] by simp)
        rw [hr a ha, hr b hb]; exact Int.le_refl _
      · rcases i2 b hb with e | e
        · exact absurd e h.1
        · have := hr a ha; have := h.2.1; omega
    · rw [List.flatten_cons, List.mem_append] at hb
      rcases h.2.2.2.1 with e | e
      · exact Or.inl e
      · refine Or.inr ?_
        rcases hb with hb | hb
        · have := hr b hb; omega
        · rcases i2 b hb with e2 | e2
          · exact absurd e2 h.1
          · have := h.2.1; omega

/-- The rim of boxes. -/
def rimS (s : List Bx) : Int := sumB perB s - 2 * pairs s
def rimT (s : List Bx) (l : List Bx) : Int := sumB (fun b => perB b - 2 * sumB (fB b) s) l
theorem sumB_lin (g f : Bx → Int) (l : List Bx) : sumB (fun b => g b - 2 * f b) l = sumB g l - 2 * sumB f l := by
  induction l with
  | nil => rfl
  | cons b t ih => simp only [sumB, ih]; omega
theorem rim_same {s : List Bx} (hv : ∀ b ∈ s, b.x0 < b.x1 ∧ b.y0 < b.y1) (h : inForm s.length [] s = true) : rimT s s = rimS s := by
  obtain ⟨rows, hr, hF⟩ := inForm_rows _ [] s (Nat.le_refl _) hv ⟨0, 0, Canon.nil _ _⟩ h
  have hp := (FormB.rise rows [] hF).1
  rw [← hr] at hp
  have := rim_exchange s [] (fun b hb => (hv b hb).2) (by simpa using hp)
  unfold rimT rimS
  rw [sumB_lin]
  simp only [List.nil_append] at this
  rw [this]

end Go.Proofs.Ytokdpgabmifdjaa
