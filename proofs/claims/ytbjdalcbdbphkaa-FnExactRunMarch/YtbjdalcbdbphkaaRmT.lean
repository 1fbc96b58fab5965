/- Proved here: a march over a memory, of the model. -/
import Derived.Test.YtbjdalcbdbphkaaRmTb
import Derived.Test.YtbjdalcbdbphkaaRmTc
namespace Go.Proofs.Ytbjdalcbdbphkaa
open Go.RowKit
set_option linter.unusedVariables false
set_option linter.unusedSimpArgs false

theorem spec_mar {W : World} {va : Value} {s : List Elm} {n : Nat} {f : Mf} (hs : mfF s = 0) (h : REl W va s) (hn : 1 ≤ n ∧ n ≤ 12) (hc : f.c < n) (hv : f.v = 0 ∨ f.v = 1) (R : Option (Int × Nat)) (hR : R = rnM f (m0M f) (sM n s) 0) :
    Calls Try.prog 39 #[va, .int .i64 n, .agg #[.int .i64 f.k, .int .i64 (f.c : Int), .int .i64 f.b, .int .i64 f.v]] W fun e w' => e = .returned (.agg #[.int .i64 0, .bool (mrF R), .int .i64 (mrS R), .int .i64 (mrC R)]) ∧ Below W.heap.size W w' := by
  by_cases hk : f.k = 1
  · exact spec_mar1 hk hs h hn hc hv R hR
  · exact spec_mar2 hk hs h hn hc hv R hR

end Go.Proofs.Ytbjdalcbdbphkaa
