/- Proved here: NameFault of model and program: one code at every text of at most 2000000 bytes. -/
import Derived.Test.YtkacfjbhkgdpdaaAtL
import Derived.Test.YtkacfjbhkgdpdaaProg
import Derived.LoopTactic
namespace Go.Proofs.Ytkacfjbhkgdpdaa
open Go.RowKit
set_option linter.unusedVariables false
set_option linter.unusedSimpArgs false

/-- A digit; a letter. -/
def nmD (c : Int) : Bool := decide (48 ≤ c) && decide (c ≤ 57)
def nmL (c : Int) : Bool := (decide (97 ≤ c) && decide (c ≤ 122)) || (decide (65 ≤ c) && decide (c ≤ 90))
/-- The byte at a place. -/
def nmB (s : ByteArray) (i : Nat) : Int := if h : i < s.size then (s[i].toNat : Int) else 0
theorem nmB_at {s : ByteArray} {i : Nat} (h : i < s.size) : nmB s i = (s[i].toNat : Int) := by simp [nmB, h]
/-- A byte that may stand at that place of a name. -/
def nmOk (s : ByteArray) (i : Nat) : Bool := nmL (nmB s i) || nmB s i == 95 || (nmD (nmB s i) && !(i == 0))
/-- The code of a name. -/
def nameK (s : ByteArray) : Int := if 1 ≤ s.size ∧ s.size ≤ 16 ∧ ∀ i, i < s.size → nmOk s i = true then 0 else 1

theorem nm_cases (c : Int) : (97 ≤ c ∧ c ≤ 122) ∨ (97 ≤ c ∧ 122 < c ∧ 65 ≤ c ∧ 90 < c ∧ ¬ c = 95) ∨ (c < 97 ∧ 65 ≤ c ∧ c ≤ 90) ∨ (c < 97 ∧ 65 ≤ c ∧ 90 < c ∧ c = 95) ∨ (c < 97 ∧ 65 ≤ c ∧ 90 < c ∧ ¬ c = 95) ∨ (c < 97 ∧ c < 65 ∧ ¬ c = 95) := by omega

set_option maxHeartbeats 400000 in
theorem spec_nmD (c : Int) (w : World) : Calls Try.prog 60 #[.int .u8 c] w fun e w' => e = .returned (.bool (nmD c)) ∧ w' = w := by
  go_enter Try.func60, Try.ntmps60
  by_cases h : 48 ≤ c
  · go_wp2
    go_returns
    exact ⟨by simp [nmD, h], rfl⟩
  · go_wp2
    go_returns
    exact ⟨by simp [nmD]; omega, rfl⟩
set_option maxHeartbeats 400000 in
theorem impl_nmD (c : Int) (w : World) : Calls Try.prog 61 #[.int .u8 c] w fun e w' => e = .returned (.bool (nmD c)) ∧ w' = w := by
  go_enter Try.func61, Try.ntmps61
  by_cases h : 48 ≤ c
  · go_wp2
    go_returns
    exact ⟨by simp [nmD, h], rfl⟩
  · go_wp2
    go_returns
    exact ⟨by simp [nmD]; omega, rfl⟩
set_option maxHeartbeats 400000 in
theorem impl_nmL (c : Int) (w : World) : Calls Try.prog 62 #[.int .u8 c] w fun e w' => e = .returned (.bool (nmL c)) ∧ w' = w := by
  go_enter Try.func62, Try.ntmps62
  rcases nm_cases c with ⟨a1, a2⟩ | ⟨a1, a2, a3, a4, a5⟩ | ⟨a1, a2, a3⟩ | ⟨a1, a2, a3, a4⟩ | ⟨a1, a2, a3, a4⟩ | ⟨a1, a2, a3⟩ <;>
  · go_wp2
    go_returns
    exact ⟨by simp [nmL, *] <;> omega, rfl⟩

theorem nameK_bad {s : ByteArray} {k : Nat} (hk : k < s.size) (h : nmOk s k = false) : nameK s = 1 := by
  unfold nameK
  rw [if_neg]
  rintro ⟨_, _, h3⟩
  rw [h3 k hk] at h
  cases h
theorem nameK_good {s : ByteArray} (h1 : ¬ s.size < 1) (h2 : ¬ 16 < s.size) (h : ∀ i, i < s.size → nmOk s i = true) : nameK s = 0 := by
  unfold nameK
  rw [if_pos ⟨by omega, by omega, h⟩]
theorem nameK_size {s : ByteArray} (h : s.size < 1 ∨ 16 < s.size) : nameK s = 1 := by
  unfold nameK
  rw [if_neg]
  rintro ⟨h1, h2, _⟩
  omega

set_option maxHeartbeats 1600000 in
theorem spec_name (s : ByteArray) (w : World) (hs : s.size ≤ 2000000) :
    Calls Try.prog 55 #[.string s] w fun e w' => e = .returned (.int .i64 (nameK s)) ∧ w' = w := by
  by_cases h1 : s.size < 1
  · have hK : Hid (nameK s = 1) := nameK_size (Or.inl h1)
    go_enter Try.func55, Try.ntmps55
    go_wp2
    go_returns
    exact ⟨by rw [hK.out]; rfl, rfl⟩
  by_cases h2 : 16 < s.size
  · have hK : Hid (nameK s = 1) := nameK_size (Or.inr h2)
    go_enter Try.func55, Try.ntmps55
    go_wp2
    go_returns
    exact ⟨by rw [hK.out]; rfl, rfl⟩
  have H12 : Hid (¬ s.size < 1 ∧ ¬ 16 < s.size) := ⟨h1, h2⟩
  go_enter Try.func55, Try.ntmps55
  go_wp2
  go_loop [3] (fun t => ∃ k : Nat, t = .int .i64 k ∧ k ≤ s.size ∧ Hid (∀ i, i < k → nmOk s i = true)) (fun t => (2000000 - (intOf t).toNat))
  case atStart => exact ⟨0, rfl, by omega, fun i hi => by omega⟩
  case round =>
    obtain ⟨k, rfl, hk, hg⟩ := hrel
    by_cases h : k < s.size
    · have hB : Hid (nmB s k = (s[k].toNat : Int)) := nmB_at h
      have hnext : Hid (nmOk s k = true → ∀ i, i < k + 1 → nmOk s i = true) := fun e i hi => by
        rcases (by omega : i < k ∨ i = k) with hi | rfl
        · exact hg.out i hi
        · exact e
      have hbad : Hid (nmOk s k = false → nameK s = 1) := nameK_bad h
      rcases nm_cases (s[k].toNat : Int) with ⟨a1, a2⟩ | ⟨a1, a2, a3, a4, a5⟩ | ⟨a1, a2, a3⟩ | ⟨a1, a2, a3, a4⟩ | ⟨a1, a2, a3, a4⟩ | ⟨a1, a2, a3⟩
      · have ok : Hid (nmOk s k = true) := by unfold Hid nmOk; rw [hB.out]; simp [nmL, *]
        go_wp2
        go_round
        case rel => exact ⟨k + 1, by go_num, by omega, hnext.out ok.out⟩
        case measure => simp [intOf]; omega
      · have nl : Hid (nmL (s[k].toNat : Int) = false ∧ ((s[k].toNat : Int) == 95) = false) := ⟨by simp [nmL, *] <;> omega, by simp [*]⟩
        have q1 : decide (97 ≤ (s[k].toNat : Int)) = true := by simp; omega
        have q2 : decide ((s[k].toNat : Int) ≤ 122) = false := by simp; omega
        have q3 : decide (65 ≤ (s[k].toNat : Int)) = true := by simp; omega
        have q4 : decide ((s[k].toNat : Int) ≤ 90) = false := by simp; omega
        have q5 : ((s[k].toNat : Int) == 95) = false := by simp; omega
        by_cases k0 : k = 0
        · have HK : Hid (nameK s = 1) := hbad.out (by unfold nmOk; rw [hB.out, nl.out.1, nl.out.2]; simp [k0])
          clear nl hB hnext hbad
          subst k0
          go_wp2
          go_returns
          exact ⟨by rw [HK.out]; rfl, rfl⟩
        · have k1 : ¬ (k : Int) = 0 := by omega
          have qk : ((k : Int) == 0) = false := by simp; omega
          cases hd : nmD (s[k].toNat : Int) with
          | true =>
            have ok : Hid (nmOk s k = true) := by unfold Hid nmOk; rw [hB.out, hd]; simp [k0]
            have hcall : ∀ w, Calls Try.prog 60 #[.int .u8 (s[k].toNat : Int)] w fun e w' => e = .returned (.bool true) ∧ w' = w := fun w => by
              have := spec_nmD (s[k].toNat : Int) w
              rw [hd] at this
              exact this
            go_wp2_with (fail)
            refine (hcall _).mono ?_
            rintro e w1 ⟨rfl, rfl⟩
            go_wp2
            go_round
            case rel => exact ⟨k + 1, by go_num, by omega, hnext.out ok.out⟩
            case measure => simp [intOf]; omega
          | false =>
            have HK : Hid (nameK s = 1) := hbad.out (by unfold nmOk; rw [hB.out, nl.out.1, nl.out.2, hd]; simp)
            have hcall : ∀ w, Calls Try.prog 60 #[.int .u8 (s[k].toNat : Int)] w fun e w' => e = .returned (.bool false) ∧ w' = w := fun w => by
              have := spec_nmD (s[k].toNat : Int) w
              rw [hd] at this
              exact this
            go_wp2_with (fail)
            refine (hcall _).mono ?_
            rintro e w1 ⟨rfl, rfl⟩
            go_wp2
            go_returns
            exact ⟨by rw [HK.out]; rfl, rfl⟩
      · have ok : Hid (nmOk s k = true) := by unfold Hid nmOk; rw [hB.out]; simp [nmL, *]
        go_wp2
        go_round
        case rel => exact ⟨k + 1, by go_num, by omega, hnext.out ok.out⟩
        case measure => simp [intOf]; omega
      · have ok : Hid (nmOk s k = true) := by unfold Hid nmOk; rw [hB.out]; simp [nmL, *]
        go_wp2
        go_round
        case rel => exact ⟨k + 1, by go_num, by omega, hnext.out ok.out⟩
        case measure => simp [intOf]; omega
      · have nl : Hid (nmL (s[k].toNat : Int) = false ∧ ((s[k].toNat : Int) == 95) = false) := ⟨by simp [nmL, *] <;> omega, by simp [*]⟩
        have q1 : decide (97 ≤ (s[k].toNat : Int)) = false := by simp; omega
        have q2 : decide ((s[k].toNat : Int) ≤ 122) = true := by simp; omega
        have q3 : decide (65 ≤ (s[k].toNat : Int)) = true := by simp; omega
        have q4 : decide ((s[k].toNat : Int) ≤ 90) = false := by simp; omega
        have q5 : ((s[k].toNat : Int) == 95) = false := by simp; omega
        by_cases k0 : k = 0
        · have HK : Hid (nameK s = 1) := hbad.out (by unfold nmOk; rw [hB.out, nl.out.1, nl.out.2]; simp [k0])
          clear nl hB hnext hbad
          subst k0
          go_wp2
          go_returns
          exact ⟨by rw [HK.out]; rfl, rfl⟩
        · have k1 : ¬ (k : Int) = 0 := by omega
          have qk : ((k : Int) == 0) = false := by simp; omega
          cases hd : nmD (s[k].toNat : Int) with
          | true =>
            have ok : Hid (nmOk s k = true) := by unfold Hid nmOk; rw [hB.out, hd]; simp [k0]
            have hcall : ∀ w, Calls Try.prog 60 #[.int .u8 (s[k].toNat : Int)] w fun e w' => e = .returned (.bool true) ∧ w' = w := fun w => by
              have := spec_nmD (s[k].toNat : Int) w
              rw [hd] at this
              exact this
            go_wp2_with (fail)
            refine (hcall _).mono ?_
            rintro e w1 ⟨rfl, rfl⟩
            go_wp2
            go_round
            case rel => exact ⟨k + 1, by go_num, by omega, hnext.out ok.out⟩
            case measure => simp [intOf]; omega
          | false =>
            have HK : Hid (nameK s = 1) := hbad.out (by unfold nmOk; rw [hB.out, nl.out.1, nl.out.2, hd]; simp)
            have hcall : ∀ w, Calls Try.prog 60 #[.int .u8 (s[k].toNat : Int)] w fun e w' => e = .returned (.bool false) ∧ w' = w := fun w => by
              have := spec_nmD (s[k].toNat : Int) w
              rw [hd] at this
              exact this
            go_wp2_with (fail)
            refine (hcall _).mono ?_
            rintro e w1 ⟨rfl, rfl⟩
            go_wp2
            go_returns
            exact ⟨by rw [HK.out]; rfl, rfl⟩
      · have nl : Hid (nmL (s[k].toNat : Int) = false ∧ ((s[k].toNat : Int) == 95) = false) := ⟨by simp [nmL, *] <;> omega, by simp [*]⟩
        have q1 : decide (97 ≤ (s[k].toNat : Int)) = false := by simp; omega
        have q2 : decide ((s[k].toNat : Int) ≤ 122) = true := by simp; omega
        have q3 : decide (65 ≤ (s[k].toNat : Int)) = false := by simp; omega
        have q4 : decide ((s[k].toNat : Int) ≤ 90) = true := by simp; omega
        have q5 : ((s[k].toNat : Int) == 95) = false := by simp; omega
        by_cases k0 : k = 0
        · have HK : Hid (nameK s = 1) := hbad.out (by unfold nmOk; rw [hB.out, nl.out.1, nl.out.2]; simp [k0])
          clear nl hB hnext hbad
          subst k0
          go_wp2
          go_returns
          exact ⟨by rw [HK.out]; rfl, rfl⟩
        · have k1 : ¬ (k : Int) = 0 := by omega
          have qk : ((k : Int) == 0) = false := by simp; omega
          cases hd : nmD (s[k].toNat : Int) with
          | true =>
            have ok : Hid (nmOk s k = true) := by unfold Hid nmOk; rw [hB.out, hd]; simp [k0]
            have hcall : ∀ w, Calls Try.prog 60 #[.int .u8 (s[k].toNat : Int)] w fun e w' => e = .returned (.bool true) ∧ w' = w := fun w => by
              have := spec_nmD (s[k].toNat : Int) w
              rw [hd] at this
              exact this
            go_wp2_with (fail)
            refine (hcall _).mono ?_
            rintro e w1 ⟨rfl, rfl⟩
            go_wp2
            go_round
            case rel => exact ⟨k + 1, by go_num, by omega, hnext.out ok.out⟩
            case measure => simp [intOf]; omega
          | false =>
            have HK : Hid (nameK s = 1) := hbad.out (by unfold nmOk; rw [hB.out, nl.out.1, nl.out.2, hd]; simp)
            have hcall : ∀ w, Calls Try.prog 60 #[.int .u8 (s[k].toNat : Int)] w fun e w' => e = .returned (.bool false) ∧ w' = w := fun w => by
              have := spec_nmD (s[k].toNat : Int) w
              rw [hd] at this
              exact this
            go_wp2_with (fail)
            refine (hcall _).mono ?_
            rintro e w1 ⟨rfl, rfl⟩
            go_wp2
            go_returns
            exact ⟨by rw [HK.out]; rfl, rfl⟩
    · go_wp2
      go_returns
      exact ⟨by rw [nameK_good H12.out.1 H12.out.2 (fun i hi => hg.out i (by omega))]; rfl, rfl⟩

set_option maxRecDepth 10000 in
set_option maxHeartbeats 1600000 in
theorem impl_name (s : ByteArray) (w : World) (hs : s.size ≤ 2000000) :
    Calls Try.prog 57 #[.string s] w fun e w' => e = .returned (.int .i64 (nameK s)) ∧ w' = w := by
  by_cases h1 : s.size < 1
  · have hK : Hid (nameK s = 1) := nameK_size (Or.inl h1)
    go_enter Try.func57, Try.ntmps57
    go_wp2
    go_returns
    exact ⟨by rw [hK.out]; rfl, rfl⟩
  by_cases h2 : 16 < s.size
  · have hK : Hid (nameK s = 1) := nameK_size (Or.inr h2)
    go_enter Try.func57, Try.ntmps57
    go_wp2
    go_returns
    exact ⟨by rw [hK.out]; rfl, rfl⟩
  have h0 : 0 < s.size := by omega
  have hcall0 := fun w => impl_nmD (s[0].toNat : Int) w
  have H12 : Hid (¬ s.size < 1 ∧ ¬ 16 < s.size) := ⟨h1, h2⟩
  have hB0 : Hid (nmB s 0 = (s[0].toNat : Int)) := nmB_at h0
  cases hd0 : nmD (s[0].toNat : Int) with
  | true =>
    have HK : Hid (nameK s = 1) := nameK_bad h0 (by unfold nmOk; rw [hB0.out, hd0]; simp [nmD] at hd0; simp [nmL]; omega)
    rw [hd0] at hcall0
    go_enter Try.func57, Try.ntmps57
    go_wp2_with (fail)
    refine (hcall0 _).mono ?_
    rintro e w1 ⟨rfl, rfl⟩
    go_wp2
    go_returns
    exact ⟨by rw [HK.out]; rfl, rfl⟩
  | false =>
    have HD0 : Hid (nmD (nmB s 0) = false) := by unfold Hid; rw [hB0.out]; exact hd0
    rw [hd0] at hcall0
    go_enter Try.func57, Try.ntmps57
    go_wp2_with (fail)
    refine (hcall0 _).mono ?_
    rintro e w1 ⟨rfl, rfl⟩
    clear hcall0
    go_wp2
    go_loop [19] (fun t => ∃ k : Nat, t = .int .i64 k ∧ k ≤ s.size ∧ Hid (∀ i, i < k → nmOk s i = true)) (fun t => (2000000 - (intOf t).toNat))
    case atStart => exact ⟨0, rfl, by omega, fun i hi => by omega⟩
    case round =>
      obtain ⟨k, rfl, hk, hg⟩ := hrel
      by_cases h : k < s.size
      · have hB : Hid (nmB s k = (s[k].toNat : Int)) := nmB_at h
        have hnext : Hid (nmOk s k = true → ∀ i, i < k + 1 → nmOk s i = true) := fun e i hi => by
          rcases (by omega : i < k ∨ i = k) with hi | rfl
          · exact hg.out i hi
          · exact e
        have hbad : Hid (nmOk s k = false → nameK s = 1) := nameK_bad h
        have hk0 : Hid (nmD (s[k].toNat : Int) = true → k ≠ 0) := by
          intro e e0
          subst e0
          rw [← hB.out, HD0.out] at e
          cases e
        have hcL := fun w => impl_nmL (s[k].toNat : Int) w
        have hcD := fun w => impl_nmD (s[k].toNat : Int) w
        cases hl : nmL (s[k].toNat : Int) with
        | true =>
          have ok : Hid (nmOk s k = true) := by unfold Hid nmOk; rw [hB.out, hl]; simp
          rw [hl] at hcL
          go_wp2_with (fail)
          refine (hcL _).mono ?_
          rintro e w1 ⟨rfl, rfl⟩
          go_wp2
          go_round
          case rel => exact ⟨k + 1, by go_num, by omega, hnext.out ok.out⟩
          case measure => simp [intOf]; omega
        | false =>
          rw [hl] at hcL
          cases hd : nmD (s[k].toNat : Int) with
          | true =>
            have ok : Hid (nmOk s k = true) := by
              have := hk0.out hd
              unfold Hid nmOk; rw [hB.out, hd]; simp [this]
            rw [hd] at hcD
            go_wp2_with (fail)
            refine (hcL _).mono ?_
            rintro e w1 ⟨rfl, rfl⟩
            go_wp2_with (fail)
            refine (hcD _).mono ?_
            rintro e w1 ⟨rfl, rfl⟩
            go_wp2
            go_round
            case rel => exact ⟨k + 1, by go_num, by omega, hnext.out ok.out⟩
            case measure => simp [intOf]; omega
          | false =>
            rw [hd] at hcD
            by_cases h95 : (s[k].toNat : Int) = 95
            · have ok : Hid (nmOk s k = true) := by unfold Hid nmOk; rw [hB.out, h95]; simp
              have q5 : ((s[k].toNat : Int) == 95) = true := by simp; omega
              clear h95
              go_wp2_with (fail)
              refine (hcL _).mono ?_
              rintro e w1 ⟨rfl, rfl⟩
              go_wp2_with (fail)
              refine (hcD _).mono ?_
              rintro e w1 ⟨rfl, rfl⟩
              go_wp2
              go_round
              case rel => exact ⟨k + 1, by go_num, by omega, hnext.out ok.out⟩
              case measure => simp [intOf]; omega
            · have HK : Hid (nameK s = 1) := hbad.out (by unfold nmOk; rw [hB.out, hl, hd]; simp [h95])
              have q5 : ((s[k].toNat : Int) == 95) = false := by simp; omega
              go_wp2_with (fail)
              refine (hcL _).mono ?_
              rintro e w1 ⟨rfl, rfl⟩
              go_wp2_with (fail)
              refine (hcD _).mono ?_
              rintro e w1 ⟨rfl, rfl⟩
              go_wp2
              go_returns
              exact ⟨by rw [HK.out]; rfl, rfl⟩
      · go_wp2
        go_returns
        exact ⟨by rw [nameK_good H12.out.1 H12.out.2 (fun i hi => hg.out i (by omega))]; rfl, rfl⟩

end Go.Proofs.Ytkacfjbhkgdpdaa
