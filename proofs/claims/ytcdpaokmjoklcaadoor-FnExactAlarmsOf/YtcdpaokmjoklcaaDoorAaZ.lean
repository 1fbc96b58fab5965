/- Proved here: the zone of a number among borders, of the program. -/
import Derived.Test.YtcdpaokmjoklcaaDoorAaM
import Derived.Test.YtcdpaokmjoklcaaDoorNlJ
namespace Go.Proofs.YtcdpaokmjoklcaaDoor
open Go.RowKit
set_option linter.unusedVariables false
set_option linter.unusedSimpArgs false

/-- How many borders a number is above, less how many of their opposites it is below. -/
def znK (bs : List Int) (x : Int) : Nat → Int
  | 0 => 0
  | k + 1 => znK bs x k + (if bs.getD k 0 < x then 1 else if x < -(bs.getD k 0) then -1 else 0)
theorem znK_bd (bs : List Int) (x : Int) (k : Nat) : -(k : Int) ≤ znK bs x k ∧ znK bs x k ≤ k := by
  induction k with
  | zero => simp [znK]
  | succ k ih =>
    rw [znK]
    split
    · omega
    · split <;> omega
def bsL (sg : Int) : List Int := [0, sg, 2 * sg, 3 * sg]
theorem zn_iff {sg x : Int} (hs : 1 ≤ sg) {K : Nat} (hK : K ≤ 3) : ((K : Int) < znK (bsL sg) x 4 ↔ (K : Int) * sg < x) ∧ (znK (bsL sg) x 4 < -(K : Int) ↔ (K : Int) * sg < -x) := by
  have e : znK (bsL sg) x 4 = (((0 + (if 0 < x then 1 else if x < -0 then -1 else 0)) + (if sg < x then 1 else if x < -sg then -1 else 0)) + (if 2 * sg < x then 1 else if x < -(2 * sg) then -1 else 0)) + (if 3 * sg < x then 1 else if x < -(3 * sg) then -1 else 0) := rfl
  rw [e]
  rcases (by omega : K = 0 ∨ K = 1 ∨ K = 2 ∨ K = 3) with rfl | rfl | rfl | rfl
  all_goals
    rcases (by omega : 3 * sg < x ∨ (2 * sg < x ∧ ¬ 3 * sg < x) ∨ (sg < x ∧ ¬ 2 * sg < x) ∨ (0 < x ∧ ¬ sg < x) ∨ x = 0 ∨ (x < 0 ∧ ¬ x < -sg) ∨ (x < -sg ∧ ¬ x < -(2 * sg)) ∨ (x < -(2 * sg) ∧ ¬ x < -(3 * sg)) ∨ x < -(3 * sg)) with h | h | h | h | h | h | h | h | h
    · rw [if_pos (by omega), if_pos (by omega), if_pos (by omega), if_pos (by omega)]; omega
    · rw [if_pos (by omega), if_pos (by omega), if_pos (by omega), if_neg (by omega), if_neg (by omega)]; omega
    · rw [if_pos (by omega), if_pos (by omega), if_neg (by omega), if_neg (by omega), if_neg (by omega), if_neg (by omega)]; omega
    · rw [if_pos (by omega), if_neg (by omega), if_neg (by omega), if_neg (by omega), if_neg (by omega), if_neg (by omega), if_neg (by omega)]; omega
    · rw [if_neg (by omega), if_neg (by omega), if_neg (by omega), if_neg (by omega), if_neg (by omega), if_neg (by omega), if_neg (by omega), if_neg (by omega)]; omega
    · rw [if_neg (by omega), if_pos (by omega), if_neg (by omega), if_neg (by omega), if_neg (by omega), if_neg (by omega), if_neg (by omega), if_neg (by omega)]; omega
    · rw [if_neg (by omega), if_pos (by omega), if_neg (by omega), if_pos (by omega), if_neg (by omega), if_neg (by omega), if_neg (by omega), if_neg (by omega)]; omega
    · rw [if_neg (by omega), if_pos (by omega), if_neg (by omega), if_pos (by omega), if_neg (by omega), if_pos (by omega), if_neg (by omega), if_neg (by omega)]; omega
    · rw [if_neg (by omega), if_pos (by omega), if_neg (by omega), if_pos (by omega), if_neg (by omega), if_pos (by omega), if_neg (by omega), if_pos (by omega)]; omega

set_option maxRecDepth 10000 in
set_option maxHeartbeats 3200000 in
theorem impl_zn (x : Int) {w : World} {v : Value} {bs : List Int} (hn : bs.length ≤ 100) (hb : ∀ k, k < bs.length → -10000000 ≤ bs.getD k 0 ∧ bs.getD k 0 ≤ 10000000) (h : RdI w v bs) :
    Calls Tryd.prog 26 #[.int .i64 x, v] w fun e w' => e = .returned (.int .i64 (znK bs x bs.length)) ∧ w' = w := by
  obtain ⟨a, c, rfl⟩ := h.form
  obtain ⟨n, hnn⟩ : ∃ n, n = bs.length := ⟨_, rfl⟩
  rw [← hnn] at hn h ⊢
  have H : Hid (RdI w (.slice a n c) bs ∧ n = bs.length ∧ ∀ k, k < bs.length → -10000000 ≤ bs.getD k 0 ∧ bs.getD k 0 ≤ 10000000) := ⟨h, hnn, hb⟩
  clear h hnn hb
  go_enter Tryd.func26, Tryd.ntmps26
  go_wp2
  go_loopw [5, 10] (fun m i wr => ∃ k : Nat, k ≤ n ∧ m = .int .i64 (znK bs x k) ∧ i = .int .i64 k ∧ w = wr) (fun _ i _ => n - (intOf i).toNat)
  case atStart => exact ⟨0, Nat.zero_le _, rfl, rfl, rfl⟩
  case round =>
    obtain ⟨k, hk, rfl, rfl, rfl⟩ := hrel
    obtain ⟨M, hM⟩ : ∃ M, M = znK bs x k := ⟨_, rfl⟩
    have hMb := znK_bd bs x k
    rw [← hM] at hMb ⊢
    have HM : Hid (M = znK bs x k) := hM
    clear hM
    by_cases hlt : k < n
    · have hkl : k < bs.length := by rw [← H.out.2.1]; exact hlt
      obtain ⟨g, o, c2, he, hg, hj⟩ := H.out.1.ri (by omega)
      simp only [Value.slice.injEq] at he
      obtain ⟨rfl, hx1, hx2⟩ := he
      clear hx1 hx2
      have c0 := hj k hkl
      obtain ⟨y, hy⟩ : ∃ y, y = bs.getD k 0 := ⟨_, rfl⟩
      rw [← hy] at c0
      have hyb := H.out.2.2 k hkl
      rw [← hy] at hyb
      have HN : Hid (znK bs x (k + 1) = M + (if y < x then 1 else if x < -y then -1 else 0)) := by unfold Hid; rw [znK, HM.out, hy]
      have b0 : (0 : Int) ≤ (k : Int) := by omega
      have b1 : (k : Int) < (n : Int) := by omega
      have e1 : IntKind.i64.wrap (M + 1) = M + 1 := by rw [IntKind.wrap_i64]; omega
      have e2 : IntKind.i64.wrap (M - 1) = M - 1 := by rw [IntKind.wrap_i64]; omega
      have e3 : IntKind.i64.wrap (-y) = -y := by rw [IntKind.wrap_i64]; omega
      clear hj hy HM
      by_cases h1 : y < x
      · have HE : Hid (M + 1 = znK bs x (k + 1)) := by unfold Hid; rw [HN.out, if_pos h1]
        clear HN
        go_wp2
        go_roundw
        case rel => exact ⟨k + 1, by omega, by rw [← HE.out], by go_num, by first | rfl | trivial⟩
        case measure => simp [intOf]; omega
      · by_cases h2 : x < -y
        · have HE : Hid (M - 1 = znK bs x (k + 1)) := by unfold Hid; rw [HN.out, if_neg h1, if_pos h2]; omega
          clear HN
          go_wp2
          go_roundw
          case rel => exact ⟨k + 1, by omega, by rw [← HE.out], by go_num, by first | rfl | trivial⟩
          case measure => simp [intOf]; omega
        · have HE : Hid (M = znK bs x (k + 1)) := by unfold Hid; rw [HN.out, if_neg h1, if_neg h2]; omega
          clear HN
          go_wp2
          go_roundw
          case rel => exact ⟨k + 1, by omega, by rw [← HE.out], by go_num, by first | rfl | trivial⟩
          case measure => simp [intOf]; omega
    · have HE : Hid (znK bs x n = M) := by unfold Hid; rw [HM.out, show k = n by omega]
      go_wp2
      go_returns
      exact ⟨by rw [HE.out]; try rfl, rfl⟩

end Go.Proofs.YtcdpaokmjoklcaaDoor
