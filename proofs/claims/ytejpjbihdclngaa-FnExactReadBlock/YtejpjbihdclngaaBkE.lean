/- Proved here: bytes.Equal: are two lists of bytes the same. -/
import Derived.Test.YtejpjbihdclngaaByC
import Derived.Test.YtejpjbihdclngaaStrL
import Derived.Laws.IdiomStrings
import Derived.Laws.BytesArg
namespace Go.Proofs.Ytejpjbihdclngaa
open Go.RowKit
set_option linter.unusedVariables false
set_option linter.unusedSimpArgs false

theorem by_str (s t : List UInt8) : ((⟨s.toArray⟩ : ByteArray).toList == (⟨t.toArray⟩ : ByteArray).toList) = decide (s = t) := by
  rw [toList_eq, toList_eq, Bool.eq_iff_iff]
  simp
theorem by_conv {w : World} {a : Option Addr} {n c : Nat} {s : List UInt8} (h : RBy w (.slice a n c) s) : (convert 22 9 (.slice a n c)).run Try.prog w = .ok (.string ⟨s.toArray⟩) w := by
  have hn : n = s.length := h.len
  subst hn
  cases a with
  | none =>
    have h0 : s = [] := by
      rcases Nat.eq_zero_or_pos s.length with h0 | hp
      · exact List.length_eq_zero_iff.1 h0
      · obtain ⟨g, o, c2, he, _⟩ := h.pos hp
        simp at he
    subst h0
    exact run_convert_bytes_nil w 22 5 Try.underlying22 Try.underlying5 _ _ _ Try.underlying9
  | some x =>
    refine run_convert_bytes_back w 22 9 5 x c s Try.underlying22 Try.underlying5 Try.underlying9 fun j hj => ?_
    have := by_news h x rfl j (.int .u8 (s[j].toNat : Int)) (by rw [by_flat, List.getElem?_map, List.getElem?_eq_getElem hj]; rfl)
    exact this
set_option maxHeartbeats 800000 in
theorem beq_any {w : World} {va vb : Value} {s t : List UInt8} (ha : RBy w va s) (hb : RBy w vb t) :
    Calls Try.prog 55 #[va, vb] w fun e w' => e = .returned (.bool (decide (s = t))) ∧ w' = w := by
  obtain ⟨a1, c1, rfl⟩ := ha.form
  obtain ⟨a2, c2, rfl⟩ := hb.form
  have h1 := by_conv ha
  have h2 := by_conv hb
  rw [← by_str]
  obtain ⟨x, hx⟩ : ∃ x : ByteArray, x = ⟨s.toArray⟩ := ⟨_, rfl⟩
  obtain ⟨y, hy⟩ : ∃ x : ByteArray, x = ⟨t.toArray⟩ := ⟨_, rfl⟩
  obtain ⟨n, hn⟩ : ∃ n, n = s.length := ⟨_, rfl⟩
  obtain ⟨m, hm⟩ : ∃ n, n = t.length := ⟨_, rfl⟩
  rw [← hx] at h1 ⊢
  rw [← hy] at h2 ⊢
  rw [← hn] at h1 ⊢
  rw [← hm] at h2 ⊢
  clear hx hy hn hm ha hb
  go_enter Try.func55, Try.ntmps55
  go_wp2
  go_returns
  exact ⟨rfl, rfl⟩

end Go.Proofs.Ytejpjbihdclngaa
