/- Proved here: a line of the model. -/
import Derived.Test.YtafghanpfnhkpaaDoorXlN
namespace Go.Proofs.YtafghanpfnhkpaaDoor
open Go.ChangeShapes Go.WideShapes Go.ChangeAt Go.RowKit Go.Joins
set_option linter.unusedVariables false
set_option linter.unusedSimpArgs false

set_option maxHeartbeats 6400000 in
set_option maxRecDepth 100000 in
theorem spec_line (s : ByteArray) (v : Value) (ns : List Int) (w : World) (hN : NSl w v ns) (hns : ∀ n ∈ ns, -1000000000 ≤ n ∧ n ≤ 1000000000) (hn3 : ns.length ≤ 10) (hsz : s.size ≤ 10000000000000) :
    Calls Tryd.prog 11 #[.string s, v] w fun e w' => e = .returned (.string (linN s ns)) ∧ Below w.heap.size w w' := by
  obtain ⟨ao, rfl, _⟩ := id hN
  have HN : Hid (NSl w (.slice ao ns.length ns.length) ns ∧ (∀ n ∈ ns, -1000000000 ≤ n ∧ n ≤ 1000000000)) := ⟨hN, hns⟩
  obtain ⟨m, hm⟩ : ∃ m, m = ns.length := ⟨_, rfl⟩
  have HM : Hid (m = ns.length) := hm
  have hm10 : m ≤ 10 := by omega
  rw [← hm] at HN ⊢
  clear hN hns hm hn3
  go_enter Tryd.func11, Tryd.ntmps11
  go_wp2
  go_loopw [0, 5] (fun q i wr => ∃ (t : Nat) (Y : ByteArray), i = .int .i64 t ∧ t ≤ m ∧ q = .string Y ∧ Y.size ≤ 11000000000000 ∧ Hid (Y = numL s (ns.take t) ∧ Below w.heap.size w wr)) (fun _ i _ => m - (intOf i).toNat)
  case atStart => exact ⟨0, s, rfl, Nat.zero_le _, rfl, by omega, rfl, Below.refl _ _⟩
  case round =>
    obtain ⟨t, Y, rfl, htm, rfl, hYs, hR⟩ := hrel
    by_cases hlt : t < m
    · have htl : t < ns.length := by rw [← HM.out]; exact hlt
      obtain ⟨g, hg1, hg2, hg3⟩ := (HN.out.1.below hR.out.2).at htl
      subst hg1
      obtain ⟨n, hn⟩ : ∃ n, n = ns[t] := ⟨_, rfl⟩
      have hnb := HN.out.2 ns[t] (List.getElem_mem _)
      rw [← hn] at hg3 hnb
      have HI := itoaS_size n hnb.1 hnb.2
      obtain ⟨I, hI⟩ : ∃ I, I = itoaS n := ⟨_, rfl⟩
      have HCI : Hid (∀ X, Calls Tryd.prog 22 #[.int .i64 n] X fun e w' => e = .returned (.string I) ∧ Below X.heap.size X w') := fun X => by rw [hI]; exact int_any n X hnb.1 hnb.2
      have HY : Hid ((Y ++ ⟨#[32]⟩) ++ I = numL s (ns.take (t + 1)) ∧ ((Y ++ ⟨#[32]⟩) ++ I).size ≤ 11000000000000) := by
        have e : (Y ++ ⟨#[32]⟩) ++ I = numL s (ns.take (t + 1)) := by
          rw [List.take_add_one, List.getElem?_eq_getElem htl]
          show _ = numL s (ns.take t ++ [ns[t]])
          rw [numL_snoc, ← hn, hR.out.1, hI]
        refine ⟨e, ?_⟩
        rw [e]
        have h1 := numL_size s (ns.take (t + 1)) (fun n hn => HN.out.2 n (List.mem_of_mem_take hn))
        have h2 : (ns.take (t + 1)).length ≤ 10 := by rw [List.length_take]; omega
        omega
      rw [← hI] at HI
      have HR : Hid (Below w.heap.size w wr) := hR.out.2
      clear hR hn hI
      have b0 : (0 : Int) ≤ (t : Int) := by omega
      have b1 : (t : Int) < (m : Int) := by omega
      go_wp2_with (go_at_call 22; refine (HCI.out _).mono ?_; rintro e w2 ⟨rfl, hb2⟩)
      have HB2 : Hid (Below w.heap.size w w2) := HR.out.trans (hb2.mono HR.out.size)
      clear hb2 HR
      go_roundw
      case rel => exact ⟨t + 1, _, by go_num, by omega, rfl, HY.out.2, HY.out.1, HB2.out⟩
      case measure => simp [intOf]; omega
    · have HE : Hid (Y ++ ⟨#[10]⟩ = linN s ns) := by unfold Hid linN; rw [hR.out.1, List.take_of_length_le (by rw [← HM.out]; omega)]
      have HB2 : Hid (Below w.heap.size w wr) := hR.out.2
      clear hR
      go_wp2
      go_returns
      exact ⟨by rw [← HE.out]; rfl, HB2.out⟩
end Go.Proofs.YtafghanpfnhkpaaDoor
