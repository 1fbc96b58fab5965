/- Proved here: what the law of SpreadMap wants beside the two contracts. -/
import Derived.Test.YtedlokjbpfgbgaaSpW
import Derived.Test.YtedlokjbpfgbgaaWtO
import Derived.Test.YtedlokjbpfgbgaaShO
import Derived.Test.YtedlokjbpfgbgaaGrC
namespace Go.Proofs.Ytedlokjbpfgbgaa
open Go.RowKit
set_option linter.unusedVariables false
set_option linter.unusedSimpArgs false

theorem toWriter_is (a b c d o s r : Int) (w : World) : Calls Try.prog 9 #[.agg #[.int .i64 a, .int .i64 b, .int .i64 c, .int .i64 d, .int .i64 o, .int .i64 s, .int .i64 r]] w fun e w' => e = .returned (.agg #[.int .i64 a, .int .i64 b, .int .i64 c, .int .i64 d, .int .i64 o, .int .i64 s, .int .i64 r]) ∧ Below w.heap.size w w' := toWriter_any ⟨⟨a, b, c, d⟩, o, s, r⟩ w
theorem totR_24 {ls : List (List Int)} (h : ∀ i, (ls.getD i []).length ≤ 24) : ∀ i, totR ls i ≤ 24 * i
  | 0 => by simp [totR]
  | i + 1 => by have := totR_24 h i; have := h i; rw [totR]; omega
theorem spR_sm (l : List Sh) (x : Wt) : SmR (spR l x) := by
  unfold spR
  split
  · rename_i hz
    have hb := frF_box (spR_good hz).2.1
    have h1 := totG (spV (mapG l x.f) (htN x.f) (wdN x.f) x.r.toNat x.o x.s) (htN x.f) (wdN x.f) (by unfold htN; omega) (by unfold wdN; omega)
    have h2 := totR_24 h1.2
    unfold spL
    exact ⟨by have := h1.1; omega, by have := h2 (gridL (spV (mapG l x.f) (htN x.f) (wdN x.f) x.r.toNat x.o x.s) (htN x.f) (wdN x.f)).length; have := h1.1; omega⟩
  · exact ⟨by simp, by simp [totR]⟩

end Go.Proofs.Ytedlokjbpfgbgaa
