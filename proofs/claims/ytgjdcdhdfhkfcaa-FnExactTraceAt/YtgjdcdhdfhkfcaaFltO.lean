/- Proved here: a float that came in has 64 bits. -/
import Derived.Laws.Cover2
namespace Go.Proofs.Ytgjdcdhdfhkfcaa

theorem flt_bnd {n : Nat} (h : (Lit.float .f64 n).wf = true) : n < 18446744073709551616 := by
  simp [Lit.wf] at h; omega

end Go.Proofs.Ytgjdcdhdfhkfcaa
