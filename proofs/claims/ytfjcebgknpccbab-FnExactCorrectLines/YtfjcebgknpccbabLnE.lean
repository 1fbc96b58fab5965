/- Proved here: PrintError of both. -/
import Derived.Test.YtfjcebgknpccbabLnQ
namespace Go.Proofs.Ytfjcebgknpccbab
open Go.RowKit
set_option linter.unusedVariables false
set_option linter.unusedSimpArgs false

/-- How many below x. -/
def erC (f : Nat → Bool) : Nat → Nat
  | 0 => 0
  | x + 1 => erC f x + (if f x = true then 1 else 0)
theorem erC_le (f : Nat → Bool) : ∀ x, erC f x ≤ x
  | 0 => Nat.le_refl _
  | x + 1 => by rw [erC]; have := erC_le f x; split <;> omega
def erf (t s : List Ln) (ws : List Int) (K : Int) (L x : Nat) : Bool := decide (K ≤ psum s ws x L) != hasB t (x : Int)
def erN (t s : List Ln) (ws : List Int) (K : Int) (L : Nat) : Nat := erC (erf t s ws K L) L
/-- The code and the number of PrintError. -/
def peC (t s : List Ln) (len : Int) (ws : List Int) (K : Int) : Int := if lnF t len = 0 then lpF s len ws K else lnF t len
def peV (t s : List Ln) (len : Int) (ws : List Int) (K : Int) : Int := if peC t s len ws K = 0 then (erN t s ws K len.toNat : Int) else 0
theorem peC_good {t s : List Ln} {len : Int} {ws : List Int} {K : Int} (h : peC t s len ws K = 0) : lnF t len = 0 ∧ lpF s len ws K = 0 := by
  unfold peC at h
  split at h
  · exact ⟨by assumption, h⟩
  · rename_i h1; exact absurd h h1
theorem prK_at {s : List Ln} {ws : List Int} {K : Int} {L x : Nat} (h : x < L) : (prK s ws K L).getD x false = decide (K ≤ psum s ws x L) := by simp [prK, sumsK, psL, h]
theorem unK_at {s : List Ln} {L x : Nat} (h : x < L) : (unK s L).getD x false = hasB s (x : Int) := by simp [unK, h]

set_option maxRecDepth 10000 in
set_option maxHeartbeats 6400000 in
theorem spec_er {w : World} {vt v u : Value} {t s : List Ln} {ws : List Int} {len : Int} (K : Int) {L : Nat} (hL : len = (L : Int)) (hLb : L ≤ 60) (hnt : t.length ≤ 12) (hn : s.length ≤ 12) (hw : OkW ws) (ht : RG 2 lnC w vt t) (h : RG 2 lnC w v s) (hu : RdI w u ws) :
    Calls Try.prog 27 #[vt, v, .int .i64 len, .agg #[u, .int .i64 K]] w fun e w' => e = .returned (.int .i64 (erN t s ws K L : Int)) ∧ Below w.heap.size w w' := by
  obtain ⟨a, c, rfl⟩ := h.form
  obtain ⟨n, hnn⟩ : ∃ n, n = s.length := ⟨_, rfl⟩
  obtain ⟨b, d, rfl⟩ := hu.form
  obtain ⟨m, hmm⟩ : ∃ m, m = ws.length := ⟨_, rfl⟩
  obtain ⟨ta, tc, rfl⟩ := ht.form
  obtain ⟨tn, htn⟩ : ∃ n, n = t.length := ⟨_, rfl⟩
  rw [← hnn] at h ⊢
  rw [← hmm] at hu ⊢
  rw [← htn] at ht ⊢
  have HI : Hid (∀ W, Below w.heap.size w W → Calls Try.prog 43 #[.slice a n c, .int .i64 L, .agg #[.slice b m d, .int .i64 K]] W fun e w' => ∃ r, e = .returned r ∧ IS w' W.heap.size r (sumsK s ws L) ∧ Below W.heap.size W w') := fun W hW => by rw [← hL]; exact spec_sums K hL hLb hn hw (h.below hW) (hu.below hW)
  have HH : Hid (∀ W (y : Int), Below w.heap.size w W → Calls Try.prog 44 #[.slice ta tn tc, .int .i64 y] W fun e w' => e = .returned (.bool (hasB t y)) ∧ w' = W) := fun W y hW => spec_has y (by omega) (ht.below hW)
  subst hL
  clear h hnn hn hu hmm hw ht hnt htn
  go_enter Try.func27, Try.ntmps27
  go_wp2_with (fail)
  refine (HI.out _ (by (repeat' (first | (with_reducible exact Below.refl _ _) | (with_reducible assumption) | (with_reducible refine Below.setCell ?_ ?_ _) | (with_reducible refine Below.alloc ?_ ?_ _) | (with_reducible refine below_drewN ?_ _) | (with_reducible refine Below.drew ?_) | (with_reducible exact Nat.le_refl _) | omega | (simp; done) | (simp; omega))))).mono ?_
  rintro e w3 ⟨r, rfl, hr3, hb3⟩
  have k3 := (hb3.block w.heap.size (by simp)).trans (heap_alloc_new w _)
  have HS : Hid (Below w.heap.size w w3 ∧ IS w3 w.heap.size r (sumsK s ws L)) := ⟨(show Below w.heap.size w _ from by (repeat' (first | (with_reducible exact Below.refl _ _) | (with_reducible assumption) | (with_reducible refine Below.setCell ?_ ?_ _) | (with_reducible refine Below.alloc ?_ ?_ _) | (with_reducible refine below_drewN ?_ _) | (with_reducible refine Below.drew ?_) | (with_reducible exact Nat.le_refl _) | omega | (simp; done) | (simp; omega)))).trans (hb3.mono (by simp)), hr3.low (by simp)⟩
  obtain ⟨ra, rc, hrf⟩ := hr3.form
  rw [sumsK_len] at hrf
  subst hrf
  have HK3 : Hid (w3.heap[w.heap.size]? = some (.cells #[.slice b m d, .int .i64 K] 33)) := k3
  clear hr3 hb3 k3
  go_wp2
  go_loopw [10, 11] (fun q i wr => ∃ k : Nat, k ≤ L ∧ i = .int .i64 k ∧ q = .int .i64 (erC (erf t s ws K L) k : Nat) ∧ Hid (Below w3.heap.size w3 wr)) (fun _ i _ => L - (intOf i).toNat)
  case atStart => exact ⟨0, Nat.zero_le _, rfl, rfl, Below.refl _ _⟩
  case round =>
    obtain ⟨k, hk, rfl, rfl, hR⟩ := hrel
    by_cases hltk : k < L
    · have bk0 : (0 : Int) ≤ (k : Int) := by omega
      have bk1 : (k : Int) < (L : Int) := by omega
      obtain ⟨g, o, haw, hgw, hxw⟩ := rd_at (HS.out.2.bel hR.out).rg hltk
      subst haw
      obtain ⟨X, hX⟩ : ∃ X, X = (sumsK s ws L).getD k 0 := ⟨_, rfl⟩
      have hX2 : X = psum s ws k L := by rw [hX]; simp [sumsK, psL, hltk]
      rw [← hX] at hxw
      obtain ⟨p0, p1, pf, pl⟩ := kn_two ((hR.out.block w.heap.size (kn_two HK3.out).2.2.2).trans HK3.out)
      obtain ⟨B, hB⟩ : ∃ B, B = hasB t (k : Int) := ⟨_, rfl⟩
      have HB : Hid (∀ W : World, Below w3.heap.size w3 W → Calls Try.prog 44 #[.slice ta tn tc, .int .i64 (k : Int)] W fun e w' => e = .returned (.bool B) ∧ w' = W) := fun W hW => by rw [hB]; exact HH.out W _ (HS.out.1.trans (hW.mono HS.out.1.size))
      obtain ⟨N, hN⟩ : ∃ N, N = erC (erf t s ws K L) k := ⟨_, rfl⟩
      have hNb : N ≤ 60 := by rw [hN]; have := erC_le (erf t s ws K L) k; omega
      have HNx : Hid (erC (erf t s ws K L) (k + 1) = N + (if (decide (K ≤ X) != B) = true then 1 else 0)) := by unfold Hid; rw [erC, hN, hX2, hB]; rfl
      rw [← hN]
      have hwr : Hid (Below w3.heap.size w3 wr) := hR.out
      clear hX hX2 hB hN hR pf
      by_cases hK : K ≤ X
      · cases B with
        | true =>
          have HE : Hid (N = erC (erf t s ws K L) (k + 1)) := by unfold Hid; rw [HNx.out]; simp [hK]
          go_wp2
          go_quiet (first | (go_at_call 44; refine Calls.quiet_of_same (HB.out _ (below_drewN hwr.out _))))
          go_wp2
          go_roundw
          case rel => exact ⟨k + 1, by omega, by go_num, by rw [← HE.out], below_drewN hwr.out _⟩
          case measure => simp [intOf]; omega
        | false =>
          have HE : Hid (N + 1 = erC (erf t s ws K L) (k + 1)) := by unfold Hid; rw [HNx.out]; simp [hK]
          go_wp2
          go_quiet (first | (go_at_call 44; refine Calls.quiet_of_same (HB.out _ (below_drewN hwr.out _))))
          go_wp2
          go_roundw
          case rel => exact ⟨k + 1, by omega, by go_num, by rw [← HE.out]; go_num, below_drewN hwr.out _⟩
          case measure => simp [intOf]; omega
      · have dK : decide (K ≤ X) = false := by simpa using hK
        cases B with
        | true =>
          have HE : Hid (N + 1 = erC (erf t s ws K L) (k + 1)) := by unfold Hid; rw [HNx.out]; simp [hK]
          go_wp2
          go_quiet (first | (go_at_call 44; refine Calls.quiet_of_same (HB.out _ (below_drewN hwr.out _))))
          go_wp2
          go_roundw
          case rel => exact ⟨k + 1, by omega, by go_num, by rw [← HE.out]; go_num, below_drewN hwr.out _⟩
          case measure => simp [intOf]; omega
        | false =>
          have HE : Hid (N = erC (erf t s ws K L) (k + 1)) := by unfold Hid; rw [HNx.out]; simp [hK]
          go_wp2
          go_quiet (first | (go_at_call 44; refine Calls.quiet_of_same (HB.out _ (below_drewN hwr.out _))))
          go_wp2
          go_roundw
          case rel => exact ⟨k + 1, by omega, by go_num, by rw [← HE.out], below_drewN hwr.out _⟩
          case measure => simp [intOf]; omega
    · have bk1 : ¬ (k : Int) < (L : Int) := by omega
      obtain rfl : k = L := by omega
      have HB : Hid (Below w.heap.size w wr) := HS.out.1.trans (hR.out.mono HS.out.1.size)
      clear hR
      go_wp2
      go_returns
      exact ⟨rfl, HB.out⟩

end Go.Proofs.Ytfjcebgknpccbab
