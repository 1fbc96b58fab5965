/- Proved here: what the program's and the document's model's small functions on whole numbers (greatest divisor, size, bounds of a fraction) give at every argument within their bounds. (And ahead of it: Proved here: plain facts on greatest divisors, lowest terms and the order of fractions, over Lean's own integers; no condition but those that each theorem bears. (And ahead of it: Proved here: the fault of defects as a number. (And ahead of it: Proved here: defects: their cells.))) -/
import Derived.Test.YtjacmneopijiaaaGen
import Derived.Test.YtjacmneopijiaaaRows
import Derived.WalkKit
import Derived.ProofKit
import Derived.OpenShut
import Derived.Handy
import Derived.WalkSpells
import Derived.WalkLawsBesides
import Derived.Deep.RegionHeld3
import Derived.LoopTactic
import Derived.RegionTactic
import Derived.BigQuiet
import Derived.BigRegion
import Derived.Deep.QuietTactic
namespace Go.Proofs.Ytjacmneopijiaaa
open Go.RowKit
set_option linter.unusedVariables false
set_option linter.unusedSimpArgs false

/-- A defect: its place, size and kind. -/
structure Dft where
  x : Int
  y : Int
  z : Int
  k : Int

def vdC (x : Dft) : List Value := [.int .i64 x.x, .int .i64 x.y, .int .i64 x.z, .int .i64 x.k]
theorem vdC_len (x : Dft) : (vdC x).length = 4 := rfl
theorem vdC_one (x : Dft) : ∀ u ∈ vdC x, u.oneCell' = true := by
  intro u hu
  simp only [vdC, List.mem_cons, List.not_mem_nil, or_false] at hu
  rcases hu with rfl | rfl | rfl | rfl <;> rfl
theorem info_Defect : (Try.prog.info? 41).map (fun i => (i.zero, i.size, i.bytes)) = some (some (.agg #[.int .i64 0, .int .i64 0, .int .i64 0, .int .i64 0]), 4, 32) := by kernel_rfl
/-- The cells of an element, one by one. -/
theorem vdC_at {w : World} {g o : Nat} {x : Dft} (h : ∀ i, i < 4 → w.cell? ⟨g, o + i, none⟩ = (vdC x)[i]?) : w.cell? ⟨g, o, none⟩ = some (.int .i64 x.x) ∧ w.cell? ⟨g, o + 1, none⟩ = some (.int .i64 x.y) ∧ w.cell? ⟨g, o + 2, none⟩ = some (.int .i64 x.z) ∧ w.cell? ⟨g, o + 3, none⟩ = some (.int .i64 x.k) :=
  ⟨h 0 (by omega), h 1 (by omega), h 2 (by omega), h 3 (by omega)⟩

end Go.Proofs.Ytjacmneopijiaaa

namespace Go.Proofs.Ytjacmneopijiaaa
open Go.RowKit
set_option linter.unusedVariables false
set_option linter.unusedSimpArgs false

def vdR (a b c d : Bool) : Int := if a && b && c then (if d then 0 else 1) else 3
/-- The fault of one defect. -/
def vdO (d : Dft) : Int := vdR (decide (0 ≤ d.x ∧ d.x ≤ 10000)) (decide (0 ≤ d.y ∧ d.y ≤ 10000)) (decide (1 ≤ d.z ∧ d.z ≤ 1000)) (decide (0 ≤ d.k ∧ d.k ≤ 9))
def vdG : List Dft → Int
  | [] => 0
  | d :: t => if vdO d = 0 then vdG t else vdO d
/-- The fault of a list of defects. -/
def vdF (s : List Dft) : Int := if 60 < s.length then 2 else vdG s
theorem vdG_step {s : List Dft} {k : Nat} (h : k < s.length) : vdG (s.drop k) = if vdO s[k] = 0 then vdG (s.drop (k + 1)) else vdO s[k] := by
  rw [List.drop_eq_getElem_cons h, vdG]
/-- A defect without a fault. -/
def Vok (d : Dft) : Prop := 0 ≤ d.x ∧ d.x ≤ 10000 ∧ 0 ≤ d.y ∧ d.y ≤ 10000 ∧ 1 ≤ d.z ∧ d.z ≤ 1000 ∧ 0 ≤ d.k ∧ d.k ≤ 9
theorem vdO_ok {d : Dft} (h : vdO d = 0) : Vok d := by
  unfold vdO vdR at h
  unfold Vok
  by_cases h1 : 0 ≤ d.x ∧ d.x ≤ 10000 <;> by_cases h2 : 0 ≤ d.y ∧ d.y ≤ 10000 <;> by_cases h3 : 1 ≤ d.z ∧ d.z ≤ 1000 <;> by_cases h4 : 0 ≤ d.k ∧ d.k ≤ 9 <;> simp [h1, h2, h3, h4] at h ⊢
theorem vdG_ok : ∀ {s : List Dft}, vdG s = 0 → ∀ d ∈ s, Vok d
  | [], _, d, hd => by simp at hd
  | a :: t, h, d, hd => by
    rw [vdG] at h
    by_cases h0 : vdO a = 0
    · rw [if_pos h0] at h
      rcases List.mem_cons.1 hd with rfl | h1
      · exact vdO_ok h0
      · exact vdG_ok h d h1
    · rw [if_neg h0] at h
      exact absurd h h0
theorem vdF_ok {s : List Dft} (h : vdF s = 0) : s.length ≤ 60 ∧ ∀ d ∈ s, Vok d := by
  unfold vdF at h
  by_cases h1 : 60 < s.length
  · rw [if_pos h1] at h; omega
  · rw [if_neg h1] at h
    exact ⟨by omega, vdG_ok h⟩

end Go.Proofs.Ytjacmneopijiaaa

namespace Go.Proofs.Ytjacmneopijiaaa.FracMath

theorem gcd_step (a b : Int) (ha : 0 ≤ a) (hb : 0 ≤ b) : Int.gcd b (a % b) = Int.gcd a b := by
  obtain ⟨x, rfl⟩ := Int.eq_ofNat_of_zero_le ha
  obtain ⟨y, rfl⟩ := Int.eq_ofNat_of_zero_le hb
  rw [← Int.natCast_emod]
  simp only [Int.gcd_natCast_natCast]
  rw [Nat.gcd_comm y, ← Nat.gcd_rec, Nat.gcd_comm]

theorem gcd_zero (a : Int) (h : 0 ≤ a) : (Int.gcd a 0 : Int) = a := by
  simp [Int.gcd]; omega

theorem gcd_pos (a b : Int) (h : 1 ≤ b) : 1 ≤ (Int.gcd a b : Int) := by
  have : 0 < Int.gcd a b := Int.gcd_pos_of_ne_zero_right a (by omega)
  omega

theorem gcd_le (a b : Int) (h : 1 ≤ b) : (Int.gcd a b : Int) ≤ b := 
  Int.le_of_dvd (by omega) (Int.gcd_dvd_right ..)

theorem gcd_abs (a b : Int) : Int.gcd (if a < 0 then -a else a) b = Int.gcd a b := by
  split <;> simp

theorem low_iff (n d : Int) (h : 1 ≤ d) : (n = n.tdiv (Int.gcd n d) ∧ d = d / (Int.gcd n d)) ↔ Int.gcd n d = 1 := by
  constructor
  · rintro ⟨_, h2⟩
    have h1 := gcd_pos n d h
    rcases Int.lt_or_le 1 (Int.gcd n d : Int) with hg | hg
    · exfalso
      have := Int.ediv_lt_self_of_pos_of_ne_one (x := d) (y := (Int.gcd n d : Int)) (by omega) (by omega)
      omega
    · omega
  · intro hg; rw [hg]; simp

theorem low_coprime (n d : Int) (h : 1 ≤ d) : Int.gcd (n.tdiv (Int.gcd n d)) (d / (Int.gcd n d)) = 1 := by
  have h1 := gcd_pos n d h
  have e : n.tdiv (Int.gcd n d) = n / (Int.gcd n d) := Int.tdiv_eq_ediv_of_dvd (Int.gcd_dvd_left ..)
  rw [e]
  exact Int.gcd_ediv_gcd_ediv_gcd (by omega)

theorem dvd_cross (b a d : Int) (h : b ∣ a * d) (hg : Int.gcd a b = 1) : b ∣ d := by
  rw [← Int.natAbs_dvd_natAbs] at *
  rw [Int.natAbs_mul] at h
  exact Nat.Coprime.dvd_of_dvd_mul_left (by rw [Nat.coprime_comm]; exact hg) h

theorem cross (a b c d : Int) (hb : 1 ≤ b) (hd : 1 ≤ d) (h1 : Int.gcd a b = 1) (h2 : Int.gcd c d = 1) (h : a * d = c * b) : a = c ∧ b = d := by
  have k1 : b ∣ d := dvd_cross b a d ⟨c, by rw [h, Int.mul_comm]⟩ h1
  have k2 : d ∣ b := dvd_cross d c b ⟨a, by rw [← h, Int.mul_comm]⟩ h2
  have e : b = d := Int.dvd_antisymm (by omega) (by omega) k1 k2
  subst e
  exact ⟨Int.eq_of_mul_eq_mul_right (by omega) h, rfl⟩

end Go.Proofs.Ytjacmneopijiaaa.FracMath

namespace Go.Proofs.Ytjacmneopijiaaa
open Go.ChangeShapes Go.WideShapes Go.ChangeAt Go.RowKit
set_option linter.unusedVariables false

/-- The greatest divisor of two numbers, as a number that the walk does not look into. -/
def gz (a b : Int) : Int := (Int.gcd a b : Int)

theorem ret_int {k : IntKind} {a b : Int} (h : a = b) : Ending.returned (.int k a) = .returned (.int k b) := by rw [h]

set_option maxHeartbeats 400000 in
theorem spec_gcd (a b : Int) (w : World) (ha : 0 ≤ a) (hb : 0 ≤ b) (ha' : a ≤ 4000000000000000000) (hb' : b ≤ 4000000000000000000) :
    Calls Try.prog 64 #[.int .i64 a, .int .i64 b] w fun e w' => e = .returned (.int .i64 (gz a b)) ∧ w' = w := by
  go_enter Try.func64, Try.ntmps64
  go_wp2
  go_loop [0, 1] (fun s t => ∃ x y : Int, s = .int .i64 x ∧ t = .int .i64 y ∧ 0 ≤ x ∧ 0 ≤ y ∧ x ≤ 4000000000000000000 ∧ y ≤ 4000000000000000000 ∧ Hid (Int.gcd x y = Int.gcd a b)) (fun _ t => (intOf t).toNat)
  case atStart => exact ⟨a, b, rfl, rfl, ha, hb, ha', hb', rfl⟩
  case round =>
    obtain ⟨x, y, rfl, rfl, hx, hy, hx', hy', hg⟩ := hrel
    clear ha hb ha' hb'
    by_cases h0 : y = 0
    · subst h0
      go_wp2
      go_ret
      exact ⟨ret_int (by unfold gz; rw [← hg.out]; exact (FracMath.gcd_zero x hx).symm), rfl⟩
    · have hm := Int.emod_nonneg x h0
      have hl := Int.emod_lt_of_pos x (show 0 < y by omega)
      have hne : (y != 0) = true := by simpa using h0
      clear h0
      go_wp2
      go_round
      case rel => exact ⟨y, x % y, rfl, rfl, hy, hm, hy', by omega, by unfold Hid; rw [← hg.out]; exact FracMath.gcd_step x y hx hy⟩
      case measure => simp [intOf]; omega

set_option maxHeartbeats 400000 in
theorem impl_gcd (a b : Int) (w : World) (ha : 0 ≤ a) (hb : 0 ≤ b) (ha' : a ≤ 4000000000000000000) (hb' : b ≤ 4000000000000000000) :
    Calls Try.prog 83 #[.int .i64 a, .int .i64 b] w fun e w' => e = .returned (.int .i64 (gz a b)) ∧ ∃ n, w' = w.drewN n := by
  go_enter Try.func83, Try.ntmps83
  go_wp2
  go_loopw [0, 1] (fun s t wr => ∃ x y : Int, s = .int .i64 x ∧ t = .int .i64 y ∧ 0 ≤ x ∧ 0 ≤ y ∧ x ≤ 4000000000000000000 ∧ y ≤ 4000000000000000000 ∧ Hid (Int.gcd x y = Int.gcd a b) ∧ ∃ n, wr = w.drewN n) (fun _ t _ => (intOf t).toNat)
  case atStart => exact ⟨a, b, rfl, rfl, ha, hb, ha', hb', rfl, 0, rfl⟩
  case round =>
    obtain ⟨x, y, rfl, rfl, hx, hy, hx', hy', hg, n, rfl⟩ := hrel
    clear ha hb ha' hb'
    by_cases h0 : y = 0
    · subst h0
      go_wp2
      go_ret
      exact ⟨ret_int (by unfold gz; rw [← hg.out]; exact (FracMath.gcd_zero x hx).symm), n, rfl⟩
    · have hm := Int.emod_nonneg x h0
      have hl := Int.emod_lt_of_pos x (show 0 < y by omega)
      have hne : (y != 0) = true := by simpa using h0
      have hne2 : (y == 0) = false := by simpa using h0
      clear h0
      go_wp2
      go_region
      all_goals
        go_wp2
        go_roundw
        case rel => exact ⟨y, x % y, rfl, rfl, hy, hm, hy', by omega, by unfold Hid; rw [← hg.out]; exact FracMath.gcd_step x y hx hy, n + 1, rfl⟩
        case measure => simp [intOf]; omega

/-- The size of a number, as a function that the walk does not look into. -/
def absz (n : Int) : Int := if n < 0 then -n else n

theorem spec_abs (n : Int) (w : World) (h : -4000000000000000000 ≤ n) (h' : n ≤ 4000000000000000000) :
    Calls Try.prog 65 #[.int .i64 n] w fun e w' => e = .returned (.int .i64 (absz n)) ∧ w' = w := by
  by_cases hn : n < 0
  · go_enter Try.func65, Try.ntmps65
    go_wp2
    go_ret
    exact ⟨ret_int (by unfold absz; rw [if_pos (by omega)]), rfl⟩
  · go_enter Try.func65, Try.ntmps65
    go_wp2
    go_ret
    exact ⟨ret_int (by unfold absz; rw [if_neg (by omega)]), rfl⟩

theorem impl_abs (n : Int) (w : World) (h : -4000000000000000000 ≤ n) (h' : n ≤ 4000000000000000000) :
    Calls Try.prog 84 #[.int .i64 n] w fun e w' => e = .returned (.int .i64 (absz n)) ∧ w' = w := by
  by_cases hn : n < 0
  · go_enter Try.func84, Try.ntmps84
    go_wp2
    go_ret
    exact ⟨ret_int (by unfold absz; rw [if_pos (by omega)]), rfl⟩
  · go_enter Try.func84, Try.ntmps84
    go_wp2
    go_ret
    exact ⟨ret_int (by unfold absz; rw [if_neg (by omega)]), rfl⟩

end Go.Proofs.Ytjacmneopijiaaa
