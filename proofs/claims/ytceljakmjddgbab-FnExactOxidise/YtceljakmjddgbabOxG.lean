/- Proved here: l12Grow of the model. -/
import Derived.Test.YtceljakmjddgbabKept
import Derived.Test.YtceljakmjddgbabLyQ
import Derived.Test.YtceljakmjddgbabLwS
import Derived.Maps.AppendAt
import Derived.Deep.AppendLies
namespace Go.Proofs.Ytceljakmjddgbab
open Go.RowKit
set_option linter.unusedVariables false
set_option linter.unusedSimpArgs false

theorem siI_top {c : List Flm} {p : Nat} (h : c.length = p + 1) (h2 : (fat c p).m ≠ 2) : siI c = if (fat c p).m = 1 then (p : Int) else -1 := by
  have e1 : c.length - 1 = p := by omega
  unfold siI
  rw [if_neg (by omega), e1, if_neg h2]
  split
  · omega
  · rfl
theorem siI_under {c : List Flm} {r : Nat} (h : c.length = r + 2) (h2 : (fat c (r + 1)).m = 2) : siI c = if (fat c r).m = 1 then (r : Int) else -1 := by
  have e1 : c.length - 1 = r + 1 := by omega
  have e2 : c.length - 2 = r := by omega
  unfold siI
  rw [if_neg (by omega), e1, if_pos h2, e2]
  by_cases h3 : (fat c r).m = 1
  · rw [if_pos ⟨by omega, h3⟩, if_pos h3]; omega
  · rw [if_neg (fun h => h3 h.2), if_neg h3]
theorem grF_none {c : List Flm} {a : Int} (h : siI c = -1) : grF a c = c := by unfold grF; rw [if_pos (by omega)]
/-- The tail of the model's growing: a copy of the first films, silicon that is left, oxide. -/
theorem grow_row {W w5 : World} {B g n cap p : Nat} {l c : List Flm} {v5 : Value} (hl : (l.flatMap flC).length = p * 2) (ho : w5.ownsRow W.heap.size 76 2 v5 (0 + p) ([] ++ l.flatMap flC)) (hg : (W.alloc (.cells #[] 76)).grownBy w5 (some W.heap.size)) (hc : OG 76 2 flC W B (.slice (some ⟨g, 0, none⟩) n cap) c) :
    ∃ va vc, v5 = .slice va p vc ∧ OG 76 2 flC w5 W.heap.size (.slice va p vc) l ∧ Below W.heap.size W w5 := by
  have hll : l.length = p := by rw [fm_length flC_len] at hl; omega
  have hb : Below W.heap.size W w5 := ((Below.refl _ _).alloc (Nat.le_refl _) _).grown hg (by simp) (fun j hj => by injection hj with hj; omega)
  rw [Nat.zero_add, List.nil_append] at ho
  have h1 : OG 76 2 flC w5 W.heap.size v5 l := by unfold OG; rw [hll]; exact ho
  obtain ⟨va, vc, e⟩ := h1.form
  rw [hll] at e
  subst e
  exact ⟨va, vc, rfl, h1, hb⟩

set_option maxRecDepth 10000 in
set_option maxHeartbeats 6400000 in
/-- The same, once it is known where the silicon lies. -/
theorem grow_none {W : World} {B n : Nat} {a : Int} {xa : Option Addr} {cap : Nat} {c : List Flm} (hc : GC c) (hs : siI c = -1) (h : OG 76 2 flC W B (.slice xa n cap) c) :
    Calls Try.prog 59 #[.slice xa n cap, .int .i64 a] W fun e w' => e = .returned (.slice xa n cap) ∧ w' = W := by
  have HN : Hid (n = c.length) := by obtain ⟨_, _, e⟩ := h.form; injection e
  have hn24 : n ≤ 24 := by rw [HN.out]; exact hc.len
  rcases Nat.eq_zero_or_pos n with hn0 | hn0
  · subst hn0
    have k1 : IntKind.i64.wrap (-1) = -1 := by decide
    clear h hs hc
    go_enter Try.func59, Try.ntmps59
    go_wp2
    go_returns
    exact ⟨rfl, rfl⟩
  obtain ⟨p, hp⟩ : ∃ p, n = p + 1 := ⟨n - 1, by omega⟩
  obtain ⟨g, o, rfl, hgl, d0, d1⟩ := fl_at (OG.rg flC_len h) (show p < n by omega)
  obtain ⟨pm, hpm⟩ : ∃ x, x = (fat c p).m := ⟨_, rfl⟩
  obtain ⟨pt, hpt⟩ : ∃ x, x = (fat c p).t := ⟨_, rfl⟩
  rw [← hpm] at d0
  rw [← hpt] at d1
  have k1 : IntKind.i64.wrap ((n : Int) - 1) = (p : Int) := by rw [IntKind.wrap_i64]; omega
  have k2 : (n : Int) - 1 = (p : Int) := by omega
  have k3 : ¬ (p : Int) < 0 := by omega
  have k3' : (0 : Int) ≤ (p : Int) := by omega
  have k4 : (p : Int) < (n : Int) := by omega
  have k9 : IntKind.i64.wrap (p : Int) = (p : Int) := by rw [IntKind.wrap_i64]; omega
  by_cases h2 : pm = 2
  · rcases Nat.eq_zero_or_pos p with hp0 | hp0
    · subst hp0 h2
      clear h hs hc hpm hpt
      have k5 : IntKind.i64.wrap (-1) = -1 := by decide
      have k6 : (-1 : Int) < 0 := by omega
      simp only [Nat.zero_mul, Nat.add_zero] at d0 d1
      go_enter Try.func59, Try.ntmps59
      go_wp2
      go_returns
      exact ⟨rfl, rfl⟩
    obtain ⟨r, hr⟩ : ∃ r, p = r + 1 := ⟨p - 1, by omega⟩
    obtain ⟨g', o', he, _, f0, _⟩ := fl_at (OG.rg flC_len h) (show r < n by omega)
    injection he with he1
    injection he1 with he2 he3
    subst he2 he3
    obtain ⟨rm, hrm⟩ : ∃ x, x = (fat c r).m := ⟨_, rfl⟩
    rw [← hrm] at f0
    have h3 : ¬ rm = 1 := fun e => by
      rw [siI_under (r := r) (by rw [← HN.out]; omega) (by rw [← hr, ← hpm]; exact h2), ← hrm, if_pos e] at hs
      omega
    have h3' : (rm == 1) = false := by simpa using h3
    have k5 : IntKind.i64.wrap ((p : Int) - 1) = (r : Int) := by rw [IntKind.wrap_i64]; omega
    have k6 : (p : Int) - 1 = (r : Int) := by omega
    have k7 : (0 : Int) ≤ (r : Int) := by omega
    have k7' : ¬ (r : Int) < 0 := by omega
    have k8 : (r : Int) < (n : Int) := by omega
    have k10 : IntKind.i64.wrap (r : Int) = (r : Int) := by rw [IntKind.wrap_i64]; omega
    subst h2
    clear h hs hc hpm hpt hrm hr hp
    go_enter Try.func59, Try.ntmps59
    go_wp2
    go_returns
    exact ⟨rfl, rfl⟩
  · have h3 : ¬ pm = 1 := fun e => by
      rw [siI_top (p := p) (by rw [← HN.out]; omega) (by rw [← hpm]; exact h2), ← hpm, if_pos e] at hs
      omega
    have h2' : (pm == 2) = false := by simpa using h2
    have h3' : (pm == 1) = false := by simpa using h3
    clear h hs hc hpm hpt hp
    go_enter Try.func59, Try.ntmps59
    go_wp2
    go_returns
    exact ⟨rfl, rfl⟩

end Go.Proofs.Ytceljakmjddgbab
