/- The text of a recipe, line by line. Arithmetic alone. -/
import Derived.Test.YtnljomeacnjmmaaDoorXtM
namespace Go.Proofs.YtnljomeacnjmmaaDoor
open Go.ChangeShapes Go.WideShapes Go.ChangeAt Go.RowKit Go.Joins
set_option linter.unusedVariables false
set_option linter.unusedSimpArgs false

theorem ba_assoc (a b c : ByteArray) : (a ++ b) ++ c = a ++ (b ++ c) := by
  apply ByteArray.ext
  simp [ByteArray.data_append, Array.append_assoc]
theorem ba_size (a b : ByteArray) : (a ++ b).size = a.size + b.size := ByteArray.size_append
theorem ba_list (a b : ByteArray) : (a ++ b).data.toList = a.data.toList ++ b.data.toList := by simp [ByteArray.data_append]
theorem ba_nil (a : ByteArray) : a ++ ⟨#[]⟩ = a := by
  apply ByteArray.ext
  simp [ByteArray.data_append]
/-- A line: words, numbers with a blank ahead of each. -/
def numL (w : ByteArray) (ns : List Int) : ByteArray := ns.foldl (fun a n => (a ++ ⟨#[32]⟩) ++ itoaS n) w
def linN (w : ByteArray) (ns : List Int) : ByteArray := numL w ns ++ ⟨#[10]⟩
theorem numL_snoc (w : ByteArray) (ns : List Int) (n : Int) : numL w (ns ++ [n]) = (numL w ns ++ ⟨#[32]⟩) ++ itoaS n := by simp [numL]
theorem numL_app (x w : ByteArray) : ∀ (ns : List Int), numL (x ++ w) ns = x ++ numL w ns := by
  intro ns
  induction ns generalizing w with
  | nil => rfl
  | cons n ns ih =>
    have e : ((x ++ w) ++ (⟨#[32]⟩ : ByteArray)) ++ itoaS n = x ++ ((w ++ ⟨#[32]⟩) ++ itoaS n) := by rw [ba_assoc, ba_assoc, ba_assoc, ← ba_assoc w]
    show numL (((x ++ w) ++ ⟨#[32]⟩) ++ itoaS n) ns = x ++ numL ((w ++ ⟨#[32]⟩) ++ itoaS n) ns
    rw [e]
    exact ih _
theorem one_size (x : UInt8) : (⟨#[x]⟩ : ByteArray).size = 1 := rfl
theorem numL_size (w : ByteArray) : ∀ (ns : List Int), (∀ n ∈ ns, -1000000000 ≤ n ∧ n ≤ 1000000000) → (numL w ns).size ≤ w.size + ns.length * 2000000001 := by
  intro ns
  induction ns generalizing w with
  | nil => intro _; simp [numL]
  | cons n ns ih =>
    intro h
    have h1 := ih ((w ++ ⟨#[32]⟩) ++ itoaS n) (fun m hm => h m (List.mem_cons_of_mem _ hm))
    have h2 := h n List.mem_cons_self
    have h3 := itoaS_size n h2.1 h2.2
    have e : ((w ++ (⟨#[32]⟩ : ByteArray)) ++ itoaS n).size = w.size + 1 + (itoaS n).size := by rw [ba_size, ba_size, one_size]
    have e2 : numL w (n :: ns) = numL ((w ++ ⟨#[32]⟩) ++ itoaS n) ns := rfl
    rw [e2, List.length_cons]
    omega
def wRec : ByteArray := ⟨#[114, 101, 99, 105, 112, 101, 32]⟩
def wPar : ByteArray := ⟨#[112, 97, 114, 97, 109, 32]⟩
def wStp : ByteArray := ⟨#[115, 116, 101, 112, 32]⟩
def wSet : ByteArray := ⟨#[115, 101, 116, 32]⟩
def prT (p : Pm) : ByteArray := linN (wPar ++ p.nm) [p.lo, p.hi, p.ba]
def seT (s : Se) : ByteArray := linN (((wSet ++ s.nm) ++ ⟨#[32]⟩) ++ vtS s.v) []
def stT (s : Sp) : ByteArray := linN (((wStp ++ s.nm) ++ ⟨#[32]⟩) ++ vtS s.t) []
/-- Texts one behind the other. -/
def catN (f : Nat → ByteArray) : Nat → ByteArray
  | 0 => ⟨#[]⟩
  | n + 1 => catN f n ++ f n
def spT (s : Sp) : ByteArray := stT s ++ catN (fun j => seT (s.ss.getD j seD)) s.ss.length
def foT (c : Rp) : ByteArray := (linN (wRec ++ c.nm) [] ++ catN (fun i => prT (c.ps.getD i pmD)) c.ps.length) ++ catN (fun i => spT (c.ss.getD i spD)) c.ss.length
def foS (c : Rp) : ByteArray := if rfK c = 0 then (if 4000 < (foT c).size then ⟨#[]⟩ else foT c) else ⟨#[]⟩
theorem vtS_size (v : Vl) (h : v.s.size ≤ 2000000) : (vtS v).size ≤ 2002000001 := by
  unfold vtS
  split
  · split
    · rename_i h1; have := itoaS_size v.n (by omega) (by omega); omega
    · simp [ByteArray.size]
  · split
    · split
      · rw [ba_size, one_size]; omega
      · simp [ByteArray.size]
    · simp [ByteArray.size]
end Go.Proofs.YtnljomeacnjmmaaDoor
