/- Lines of a recipe's text as they are made, and how long they can be. Arithmetic alone. -/
import Derived.Test.YtnljomeacnjmmaaDoorXlM
namespace Go.Proofs.YtnljomeacnjmmaaDoor
open Go.ChangeShapes Go.WideShapes Go.ChangeAt Go.RowKit Go.Joins
set_option linter.unusedVariables false
set_option linter.unusedSimpArgs false

/-- Lines as they are made, one text behind the other. -/
theorem rec_line (nm : ByteArray) : ((⟨#[114, 101, 99, 105, 112, 101, 32]⟩ : ByteArray) ++ nm) ++ ⟨#[10]⟩ = linN (wRec ++ nm) [] := rfl
theorem stp_line (Y nm U : ByteArray) : ((((Y ++ ⟨#[115, 116, 101, 112, 32]⟩) ++ nm) ++ ⟨#[32]⟩) ++ U) ++ ⟨#[10]⟩ = Y ++ linN (((wStp ++ nm) ++ ⟨#[32]⟩) ++ U) [] := by
  show ((((Y ++ wStp) ++ nm) ++ ⟨#[32]⟩) ++ U) ++ ⟨#[10]⟩ = Y ++ ((((wStp ++ nm) ++ ⟨#[32]⟩) ++ U) ++ ⟨#[10]⟩)
  simp only [ba_assoc]
theorem set_line (Y nm U : ByteArray) : ((((Y ++ ⟨#[115, 101, 116, 32]⟩) ++ nm) ++ ⟨#[32]⟩) ++ U) ++ ⟨#[10]⟩ = Y ++ linN (((wSet ++ nm) ++ ⟨#[32]⟩) ++ U) [] := by
  show ((((Y ++ wSet) ++ nm) ++ ⟨#[32]⟩) ++ U) ++ ⟨#[10]⟩ = Y ++ ((((wSet ++ nm) ++ ⟨#[32]⟩) ++ U) ++ ⟨#[10]⟩)
  simp only [ba_assoc]
theorem linN_size (w : ByteArray) (ns : List Int) (h : ∀ n ∈ ns, -1000000000 ≤ n ∧ n ≤ 1000000000) : (linN w ns).size ≤ w.size + ns.length * 2000000001 + 1 := by
  unfold linN
  rw [ba_size, one_size]
  have := numL_size w ns h
  omega
set_option maxRecDepth 10000 in
theorem prT_size (p : Pm) (h1 : p.nm.size ≤ 16) (h : ∀ n ∈ [p.lo, p.hi, p.ba], -1000000000 ≤ n ∧ n ≤ 1000000000) : (prT p).size ≤ 10000000000 := by
  have := linN_size (wPar ++ p.nm) [p.lo, p.hi, p.ba] h
  have e : wPar.size = 6 := rfl
  have e2 : [p.lo, p.hi, p.ba].length = 3 := rfl
  rw [ba_size, e, e2] at this
  show (linN (wPar ++ p.nm) [p.lo, p.hi, p.ba]).size ≤ 10000000000
  refine Nat.le_trans this ?_
  clear this e e2 h
  omega
set_option maxRecDepth 10000 in
theorem val_line_size (w nm U : ByteArray) (h0 : w.size ≤ 10) (h1 : nm.size ≤ 16) (h2 : U.size ≤ 2002000001) : (linN (((w ++ nm) ++ ⟨#[32]⟩) ++ U) []).size ≤ 10000000000 := by
  have := linN_size (((w ++ nm) ++ ⟨#[32]⟩) ++ U) [] (fun n hn => by cases hn)
  rw [ba_size, ba_size, ba_size, one_size] at this
  have e2 : ([] : List Int).length = 0 := rfl
  omega
theorem catN_snoc (f : Nat → ByteArray) (n : Nat) : catN f (n + 1) = catN f n ++ f n := rfl
end Go.Proofs.YtnljomeacnjmmaaDoor
