/- What a comparison of jobs that is handed to the sort does. -/
import Derived.Test.YtecobfhlpjlpkaaJoW
import Derived.Test.YtecobfhlpjlpkaaUnd
namespace Go.Proofs.Ytecobfhlpjlpkaa
open Go.RowKit
set_option linter.unusedVariables false
set_option linter.unusedSimpArgs false


/-- In every world that is as W was below lo, the function value with its box at p compares as c says. -/
def Cmp (W : World) (lo p : Nat) (c : Jb → Jb → Int) : Prop := ∀ (x y : Jb) (X : World), Below lo W X → Calls Try.prog 73 #[.agg #[.int .i64 x.id, .int .i64 x.co, .int .i64 x.ti, .int .i64 x.se, .int .i64 x.du, .int .i64 x.we, .int .i64 x.ki], .agg #[.int .i64 y.id, .int .i64 y.co, .int .i64 y.ti, .int .i64 y.se, .int .i64 y.du, .int .i64 y.we, .int .i64 y.ki], .pointer (some ⟨p, 0, none⟩)] X fun e w' => e = .returned (.int .i64 (c x y)) ∧ Below X.heap.size X w'
theorem OJ.drew {w : World} {lo g n cap : Nat} {l : List Jb} (h : OJ w lo g n cap l) : OJ w.drew lo g n cap l := h
theorem grown_lo {W w w' : World} {lo : Nat} {g : Nat} (h : Below lo W w) (hg : w.grownBy w' (some g)) (hl : lo ≤ g) (hs : lo ≤ w.heap.size) : Below lo W w' := h.grown hg hs (fun q hq => by injection hq with hq; omega)

end Go.Proofs.Ytecobfhlpjlpkaa
