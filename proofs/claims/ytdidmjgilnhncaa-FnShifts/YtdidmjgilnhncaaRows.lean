/-
  No cell of these rows narrows 'for every input' (looked for: loops, veiled, ifaces, maps, wideKeys, modest, calm, conditions, laid).
  DERIVED. THE GIVEN ROWS OF THIS SEAT. 6 by the template 'for every input the law returns true; each argument reads behind the call as it read before'; 0 by the template 'total and deterministic' (their statements: YtdidmjgilnhncaaTotals.lean).
  GIVEN WITH THE SEED: the statements are not yours to turn. If you find one false, say at which input.
  Laid BY PROGRAM, IN A SANDBOX (cutbox-rows.mjs): the forced cells as the released guide's own fill.sh prints them over the translation 874d6c9b03602a7d… (all of the seat's roots in one cut). By AI agents, Wed Nov 11 2026. No macro, syntax, notation, axiom, sorry.
-/
import Derived.Test.YtdidmjgilnhncaaChecked
import GoSem.Claim
import GoSem.ClaimJoined
import GoSem.ClaimMapViews
import Derived.JoinedTies
import Derived.KernelRfl
namespace Go.Proofs.Ytdidmjgilnhncaa
/- THE CELL 'sum', in the pinned program and in every row, IS THE sha256 OF THE DUMP (.gsa) THAT YtdidmjgilnhncaaProg.lean LOADS. Nothing in Lean hashes anything: it is a label: what it is worth is what the hold of that sum in a sandbox is worth. -/
noncomputable def Try.pinned : Pinned := { name := "ytdidmjgilnhncaa", sum := "874d6c9b03602a7d8cfc23794899238e96272d7c18bee9027fbdb3a3fd805972", checked := Try.checked }
namespace Rows
def none {H : Type} : Left H := { results := [], args := [] }

/-- 'laws.FnShifts': WHATEVER THE INPUT: true; the input reads as it did. -/
def fnShiftsSpec : ChangeSpec := { name := "fnShifts", fn := fun _ => fun
  | [d] => { results := [.lit (.bool true)], args := [d] }
  | _ => none }
def fnShiftsRow : OpenClaim := { program := "ytdidmjgilnhncaa", sum := "874d6c9b03602a7d8cfc23794899238e96272d7c18bee9027fbdb3a3fd805972", func := "loop.example/g00057/laws.FnShifts", spec := "fnShifts", unfollowed := true, recurses := true, apart := false }
def FnShiftsSaid : Prop := fnShiftsRow.holds Try.pinned (OpenSpec.ofChange fnShiftsSpec)

/-- ITS FALSE NEIGHBOUR: 'it returns false'. Refute it at one input. -/
def fnShiftsWrong : ChangeSpec := { name := "fnShifts", fn := fun _ => fun
  | [d] => { results := [.lit (.bool false)], args := [d] }
  | _ => none }
def FnShiftsWrongFalsely : Prop := fnShiftsRow.holds Try.pinned (OpenSpec.ofChange fnShiftsWrong)

/-- 'laws.FnExactMarksFault': WHATEVER THE INPUT: true; the input reads as it did. -/
def fnExactMarksFaultSpec : ChangeSpec := { name := "fnExactMarksFault", fn := fun _ => fun
  | [d] => { results := [.lit (.bool true)], args := [d] }
  | _ => none }
def fnExactMarksFaultRow : OpenClaim := { program := "ytdidmjgilnhncaa", sum := "874d6c9b03602a7d8cfc23794899238e96272d7c18bee9027fbdb3a3fd805972", func := "loop.example/g00057/laws.FnExactMarksFault", spec := "fnExactMarksFault", unfollowed := true, recurses := true, apart := false }
def FnExactMarksFaultSaid : Prop := fnExactMarksFaultRow.holds Try.pinned (OpenSpec.ofChange fnExactMarksFaultSpec)

/-- ITS FALSE NEIGHBOUR: 'it returns false'. Refute it at one input. -/
def fnExactMarksFaultWrong : ChangeSpec := { name := "fnExactMarksFault", fn := fun _ => fun
  | [d] => { results := [.lit (.bool false)], args := [d] }
  | _ => none }
def FnExactMarksFaultWrongFalsely : Prop := fnExactMarksFaultRow.holds Try.pinned (OpenSpec.ofChange fnExactMarksFaultWrong)

/-- 'laws.FnExactModelFault': WHATEVER THE INPUT: true; the input reads as it did. -/
def fnExactModelFaultSpec : ChangeSpec := { name := "fnExactModelFault", fn := fun _ => fun
  | [d] => { results := [.lit (.bool true)], args := [d] }
  | _ => none }
def fnExactModelFaultRow : OpenClaim := { program := "ytdidmjgilnhncaa", sum := "874d6c9b03602a7d8cfc23794899238e96272d7c18bee9027fbdb3a3fd805972", func := "loop.example/g00057/laws.FnExactModelFault", spec := "fnExactModelFault", apart := false }
def FnExactModelFaultSaid : Prop := fnExactModelFaultRow.holds Try.pinned (OpenSpec.ofChange fnExactModelFaultSpec)

/-- ITS FALSE NEIGHBOUR: 'it returns false'. Refute it at one input. -/
def fnExactModelFaultWrong : ChangeSpec := { name := "fnExactModelFault", fn := fun _ => fun
  | [d] => { results := [.lit (.bool false)], args := [d] }
  | _ => none }
def FnExactModelFaultWrongFalsely : Prop := fnExactModelFaultRow.holds Try.pinned (OpenSpec.ofChange fnExactModelFaultWrong)

/-- 'laws.FnExactPredictAt': WHATEVER THE INPUT: true; the input reads as it did. -/
def fnExactPredictAtSpec : ChangeSpec := { name := "fnExactPredictAt", fn := fun _ => fun
  | [d1, d2, d3] => { results := [.lit (.bool true)], args := [d1, d2, d3] }
  | _ => none }
def fnExactPredictAtRow : OpenClaim := { program := "ytdidmjgilnhncaa", sum := "874d6c9b03602a7d8cfc23794899238e96272d7c18bee9027fbdb3a3fd805972", func := "loop.example/g00057/laws.FnExactPredictAt", spec := "fnExactPredictAt", unfollowed := true, recurses := true, apart := false }
def FnExactPredictAtSaid : Prop := fnExactPredictAtRow.holds Try.pinned (OpenSpec.ofChange fnExactPredictAtSpec)

/-- ITS FALSE NEIGHBOUR: 'it returns false'. Refute it at one input. -/
def fnExactPredictAtWrong : ChangeSpec := { name := "fnExactPredictAt", fn := fun _ => fun
  | [d1, d2, d3] => { results := [.lit (.bool false)], args := [d1, d2, d3] }
  | _ => none }
def FnExactPredictAtWrongFalsely : Prop := fnExactPredictAtRow.holds Try.pinned (OpenSpec.ofChange fnExactPredictAtWrong)

/-- 'laws.FnExactFitModel': WHATEVER THE INPUT: true; the input reads as it did. -/
def fnExactFitModelSpec : ChangeSpec := { name := "fnExactFitModel", fn := fun _ => fun
  | [d] => { results := [.lit (.bool true)], args := [d] }
  | _ => none }
def fnExactFitModelRow : OpenClaim := { program := "ytdidmjgilnhncaa", sum := "874d6c9b03602a7d8cfc23794899238e96272d7c18bee9027fbdb3a3fd805972", func := "loop.example/g00057/laws.FnExactFitModel", spec := "fnExactFitModel", unfollowed := true, recurses := true, apart := false }
def FnExactFitModelSaid : Prop := fnExactFitModelRow.holds Try.pinned (OpenSpec.ofChange fnExactFitModelSpec)

/-- ITS FALSE NEIGHBOUR: 'it returns false'. Refute it at one input. -/
def fnExactFitModelWrong : ChangeSpec := { name := "fnExactFitModel", fn := fun _ => fun
  | [d] => { results := [.lit (.bool false)], args := [d] }
  | _ => none }
def FnExactFitModelWrongFalsely : Prop := fnExactFitModelRow.holds Try.pinned (OpenSpec.ofChange fnExactFitModelWrong)

/-- 'laws.FnExactResidualsOf': WHATEVER THE INPUT: true; the input reads as it did. -/
def fnExactResidualsOfSpec : ChangeSpec := { name := "fnExactResidualsOf", fn := fun _ => fun
  | [d1, d2] => { results := [.lit (.bool true)], args := [d1, d2] }
  | _ => none }
def fnExactResidualsOfRow : OpenClaim := { program := "ytdidmjgilnhncaa", sum := "874d6c9b03602a7d8cfc23794899238e96272d7c18bee9027fbdb3a3fd805972", func := "loop.example/g00057/laws.FnExactResidualsOf", spec := "fnExactResidualsOf", unfollowed := true, recurses := true, apart := false }
def FnExactResidualsOfSaid : Prop := fnExactResidualsOfRow.holds Try.pinned (OpenSpec.ofChange fnExactResidualsOfSpec)

/-- ITS FALSE NEIGHBOUR: 'it returns false'. Refute it at one input. -/
def fnExactResidualsOfWrong : ChangeSpec := { name := "fnExactResidualsOf", fn := fun _ => fun
  | [d1, d2] => { results := [.lit (.bool false)], args := [d1, d2] }
  | _ => none }
def FnExactResidualsOfWrongFalsely : Prop := fnExactResidualsOfRow.holds Try.pinned (OpenSpec.ofChange fnExactResidualsOfWrong)

/- THE SECOND FORM. 'bulk': how many values and letters a reading holds, each counted each time it is reached (what is shared counts as often as it is met; a slice's spare places count too). A statement '..UptoSaid' is the law's where the arguments, and the package variables that the reading takes, are together of bulk at most 1048576: NARROWER than '..Said'. Prove '..Said' where nothing that the law and all that it calls make is longer than what came in: it says more and counts as full. Else prove '..UptoSaid'. A law counts once. -/
mutual
def uptoBulk {H : Type} : DataW H → Nat
  | .lit (.string bytes) => bytes.length + 1
  | .lit _ => 1
  | .nil => 1
  | .ptr d => uptoBulk d + 1
  | .slice elems spare => uptoBulkAll elems + uptoBulkAll spare + 1
  | .agg parts => uptoBulkAll parts + 1
  | .iface _ d => uptoBulk d + 1
  | .map entries => uptoBulkEntries entries + 1
  | .held _ => 1
def uptoBulkAll {H : Type} : List (DataW H) → Nat
  | [] => 0
  | d :: r => uptoBulk d + uptoBulkAll r
def uptoBulkEntries {H : Type} : List (Lit × DataW H) → Nat
  | [] => 0
  | x :: r => uptoBulkEntry x + uptoBulkEntries r
def uptoBulkEntry {H : Type} : Lit × DataW H → Nat
  | (.string bytes, d) => bytes.length + uptoBulk d + 1
  | (_, d) => uptoBulk d + 1
 end
def uptoSmall : (H : Type) → List (DataW H) → Bool := fun _ ds => decide (uptoBulkAll ds ≤ 1048576)
def OpenSpec.upto (s : _root_.Go.ChangeSpec) : _root_.Go.OpenSpec := { _root_.Go.OpenSpec.ofChange s with cond := some uptoSmall }

/-- 'laws.FnShifts', WHERE WHAT IT READS IS OF BULK AT MOST 1048576: true; the input reads as it did. -/
def fnShiftsUptoRow : OpenClaim := { program := "ytdidmjgilnhncaa", sum := "874d6c9b03602a7d8cfc23794899238e96272d7c18bee9027fbdb3a3fd805972", func := "loop.example/g00057/laws.FnShifts", spec := "fnShifts", unfollowed := true, recurses := true, apart := false, narrowed := true }
def FnShiftsUptoSaid : Prop := fnShiftsUptoRow.holds Try.pinned (OpenSpec.upto fnShiftsSpec)

/-- 'laws.FnExactMarksFault', WHERE WHAT IT READS IS OF BULK AT MOST 1048576: true; the input reads as it did. -/
def fnExactMarksFaultUptoRow : OpenClaim := { program := "ytdidmjgilnhncaa", sum := "874d6c9b03602a7d8cfc23794899238e96272d7c18bee9027fbdb3a3fd805972", func := "loop.example/g00057/laws.FnExactMarksFault", spec := "fnExactMarksFault", unfollowed := true, recurses := true, apart := false, narrowed := true }
def FnExactMarksFaultUptoSaid : Prop := fnExactMarksFaultUptoRow.holds Try.pinned (OpenSpec.upto fnExactMarksFaultSpec)

/-- 'laws.FnExactModelFault', WHERE WHAT IT READS IS OF BULK AT MOST 1048576: true; the input reads as it did. -/
def fnExactModelFaultUptoRow : OpenClaim := { program := "ytdidmjgilnhncaa", sum := "874d6c9b03602a7d8cfc23794899238e96272d7c18bee9027fbdb3a3fd805972", func := "loop.example/g00057/laws.FnExactModelFault", spec := "fnExactModelFault", apart := false, narrowed := true }
def FnExactModelFaultUptoSaid : Prop := fnExactModelFaultUptoRow.holds Try.pinned (OpenSpec.upto fnExactModelFaultSpec)

/-- 'laws.FnExactPredictAt', WHERE WHAT IT READS IS OF BULK AT MOST 1048576: true; the input reads as it did. -/
def fnExactPredictAtUptoRow : OpenClaim := { program := "ytdidmjgilnhncaa", sum := "874d6c9b03602a7d8cfc23794899238e96272d7c18bee9027fbdb3a3fd805972", func := "loop.example/g00057/laws.FnExactPredictAt", spec := "fnExactPredictAt", unfollowed := true, recurses := true, apart := false, narrowed := true }
def FnExactPredictAtUptoSaid : Prop := fnExactPredictAtUptoRow.holds Try.pinned (OpenSpec.upto fnExactPredictAtSpec)

/-- 'laws.FnExactFitModel', WHERE WHAT IT READS IS OF BULK AT MOST 1048576: true; the input reads as it did. -/
def fnExactFitModelUptoRow : OpenClaim := { program := "ytdidmjgilnhncaa", sum := "874d6c9b03602a7d8cfc23794899238e96272d7c18bee9027fbdb3a3fd805972", func := "loop.example/g00057/laws.FnExactFitModel", spec := "fnExactFitModel", unfollowed := true, recurses := true, apart := false, narrowed := true }
def FnExactFitModelUptoSaid : Prop := fnExactFitModelUptoRow.holds Try.pinned (OpenSpec.upto fnExactFitModelSpec)

/-- 'laws.FnExactResidualsOf', WHERE WHAT IT READS IS OF BULK AT MOST 1048576: true; the input reads as it did. -/
def fnExactResidualsOfUptoRow : OpenClaim := { program := "ytdidmjgilnhncaa", sum := "874d6c9b03602a7d8cfc23794899238e96272d7c18bee9027fbdb3a3fd805972", func := "loop.example/g00057/laws.FnExactResidualsOf", spec := "fnExactResidualsOf", unfollowed := true, recurses := true, apart := false, narrowed := true }
def FnExactResidualsOfUptoSaid : Prop := fnExactResidualsOfUptoRow.holds Try.pinned (OpenSpec.upto fnExactResidualsOfSpec)

end Rows
end Go.Proofs.Ytdidmjgilnhncaa
