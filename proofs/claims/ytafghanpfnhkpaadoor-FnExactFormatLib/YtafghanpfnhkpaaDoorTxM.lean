/- Texts one behind the other; a line of words and numbers. Arithmetic alone. -/
import Derived.Test.YtafghanpfnhkpaaDoorItoS
import Derived.OpenShut
import Derived.Lib.SmallJoins
namespace Go.Proofs.YtafghanpfnhkpaaDoor
open Go.ChangeShapes Go.WideShapes Go.ChangeAt Go.RowKit Go.Joins
set_option linter.unusedVariables false
set_option linter.unusedSimpArgs false

theorem ba_assoc (a b c : ByteArray) : (a ++ b) ++ c = a ++ (b ++ c) := by
  apply ByteArray.ext
  simp [ByteArray.data_append, Array.append_assoc]
theorem ba_size (a b : ByteArray) : (a ++ b).size = a.size + b.size := ByteArray.size_append
theorem ba_list (a b : ByteArray) : (a ++ b).data.toList = a.data.toList ++ b.data.toList := by simp [ByteArray.data_append]
theorem ba_nil (a : ByteArray) : a ++ ⟨#[]⟩ = a := by
  apply ByteArray.ext
  simp [ByteArray.data_append]
/-- A line: words, numbers with a blank ahead of each. -/
def numL (w : ByteArray) (ns : List Int) : ByteArray := ns.foldl (fun a n => (a ++ ⟨#[32]⟩) ++ itoaS n) w
def linN (w : ByteArray) (ns : List Int) : ByteArray := numL w ns ++ ⟨#[10]⟩
theorem numL_snoc (w : ByteArray) (ns : List Int) (n : Int) : numL w (ns ++ [n]) = (numL w ns ++ ⟨#[32]⟩) ++ itoaS n := by simp [numL]
theorem numL_app (x w : ByteArray) : ∀ (ns : List Int), numL (x ++ w) ns = x ++ numL w ns := by
  intro ns
  induction ns generalizing w with
  | nil => rfl
  | cons n ns ih =>
    have e : ((x ++ w) ++ (⟨#[32]⟩ : ByteArray)) ++ itoaS n = x ++ ((w ++ ⟨#[32]⟩) ++ itoaS n) := by rw [ba_assoc, ba_assoc, ba_assoc, ← ba_assoc w]
    show numL (((x ++ w) ++ ⟨#[32]⟩) ++ itoaS n) ns = x ++ numL ((w ++ ⟨#[32]⟩) ++ itoaS n) ns
    rw [e]
    exact ih _
theorem one_size (x : UInt8) : (⟨#[x]⟩ : ByteArray).size = 1 := rfl
theorem numL_size (w : ByteArray) : ∀ (ns : List Int), (∀ n ∈ ns, -1000000000 ≤ n ∧ n ≤ 1000000000) → (numL w ns).size ≤ w.size + ns.length * 2000000001 := by
  intro ns
  induction ns generalizing w with
  | nil => intro _; simp [numL]
  | cons n ns ih =>
    intro h
    have h1 := ih ((w ++ ⟨#[32]⟩) ++ itoaS n) (fun m hm => h m (List.mem_cons_of_mem _ hm))
    have h2 := h n List.mem_cons_self
    have h3 := itoaS_size n h2.1 h2.2
    have e : ((w ++ (⟨#[32]⟩ : ByteArray)) ++ itoaS n).size = w.size + 1 + (itoaS n).size := by rw [ba_size, ba_size, one_size]
    have e2 : numL w (n :: ns) = numL ((w ++ ⟨#[32]⟩) ++ itoaS n) ns := rfl
    rw [e2, List.length_cons]
    omega
/-- Texts one behind the other. -/
def catN (f : Nat → ByteArray) : Nat → ByteArray
  | 0 => ⟨#[]⟩
  | n + 1 => catN f n ++ f n
theorem linN_size (w : ByteArray) (ns : List Int) (h : ∀ n ∈ ns, -1000000000 ≤ n ∧ n ≤ 1000000000) : (linN w ns).size ≤ w.size + ns.length * 2000000001 + 1 := by
  unfold linN
  rw [ba_size, one_size]
  have := numL_size w ns h
  omega
theorem catN_snoc (f : Nat → ByteArray) (n : Nat) : catN f (n + 1) = catN f n ++ f n := rfl
end Go.Proofs.YtafghanpfnhkpaaDoor
