/- Proved here: 'the program's ValueText answers as the model's', for every value; the one condition, that the library's table of powers of ten is as the program's text lays it, is tied to the text by the card. -/
import Derived.Test.YtnedghhngnmalaaDoorXvI
import Derived.Test.YtnedghhngnmalaaDoorXvS
import Derived.Test.YtnedghhngnmalaaDoorReO
import Derived.Test.YtnedghhngnmalaaDoorRows
import Derived.Test.YtnedghhngnmalaaDoorCards
import Derived.Test.YtnedghhngnmalaaDoorTie
import Derived.WalkKit
import Derived.ProofKit
import Derived.OpenShut
import Derived.Deep.DeepHandedRow
import Derived.Lib.LaidTab
namespace Go.Proofs.YtnedghhngnmalaaDoor
open Go.ChangeShapes Go.WideShapes Go.ChangeAt Go.RowKit Go.Joins
set_option linter.unusedVariables false
set_option linter.unusedSimpArgs false

theorem own : ownKnob Tryd.prog.godebug = none := by kernel_rfl
theorem laidOut : laidOutB Tryd.prog = true := by kernel_rfl
theorem resN {w w1 : World} {k : Nat} {o : Obj} (h : w.heap[k]? = some o) (hb : Below w.heap.size w w1) : w1.heap[k]? = some o := by
  refine (hb.block k ?_).trans h
  rcases Nat.lt_or_ge k w.heap.size with h' | h'
  · exact h'
  · rw [Array.getElem?_eq_none h'] at h; cases h

set_option maxHeartbeats 1600000 in
theorem law_vt17 (x : Vl) (hx : x.s.size ≤ maxLen) {w : World} (ht : Hid (Tab w)) :
    Calls Tryd.prog 3 #[.agg #[.int .i64 x.k, .int .i64 x.n, .string x.s]] w fun e w' => e = .returned (.bool true) ∧ Below w.heap.size w w' := by
  have HX : Hid (x.s.size ≤ maxLen) := hx
  clear hx
  have Z0 : Hid (Below w.heap.size w (w.alloc (.cells #[.int .i64 x.k, .int .i64 x.n, .string x.s] 23)) ∧ (w.alloc (.cells #[.int .i64 x.k, .int .i64 x.n, .string x.s] 23)).heap[w.heap.size]? = some (.cells #[.int .i64 x.k, .int .i64 x.n, .string x.s] 23)) := ⟨by (repeat' (first | (with_reducible exact Below.refl _ _) | (with_reducible assumption) | (with_reducible refine Below.setCell ?_ ?_ _) | (with_reducible refine Below.alloc ?_ ?_ _) | (with_reducible refine below_drewN ?_ _) | (with_reducible refine Below.drew ?_) | (with_reducible exact Nat.le_refl _) | omega | (simp; done) | (simp; omega))), heap_alloc_new _ _⟩
  go_enter Tryd.func3, Tryd.ntmps3
  go_wp2_with (fail)
  obtain ⟨W0, hW0⟩ : ∃ V, V = w.alloc (.cells #[.int .i64 x.k, .int .i64 x.n, .string x.s] 23) := ⟨_, rfl⟩
  rw [← hW0] at Z0 ⊢
  clear hW0
  refine (szValue_gen x 1048576 W0 (by omega) (by omega) HX.out).mono ?_
  rintro e w1 ⟨q, rfl, hq, hb⟩
  have Z1 : Hid (Below w.heap.size w w1 ∧ w1.heap[w.heap.size]? = some (.cells #[.int .i64 x.k, .int .i64 x.n, .string x.s] 23)) := ⟨Z0.out.1.trans (hb.mono Z0.out.1.size), resN Z0.out.2 hb⟩
  clear Z0 hb
  rcases hq with hneg | ⟨u1, u2, u3⟩
  · go_wp2
    go_returns
    exact ⟨rfl, Z1.out.1⟩
  have hl : ¬ q < 0 := by omega
  have HS : Hid (x.s.size ≤ 2000000) := by unfold Hid; unfold smV at u3; omega
  clear u1 u2 u3
  obtain ⟨C, hC⟩ : ∃ C, C = vtS x := ⟨_, rfl⟩
  have HSP : Hid (∀ W, Calls Tryd.prog 10 #[.agg #[.int .i64 x.k, .int .i64 x.n, .string x.s]] W fun e w' => e = .returned (.string C) ∧ Below W.heap.size W w') := fun W => by rw [hC]; exact spec_vt x W HS.out
  have HIM : Hid (∀ W, Tab W → Calls Tryd.prog 12 #[.agg #[.int .i64 x.k, .int .i64 x.n, .string x.s]] W fun e w' => e = .returned (.string C) ∧ Below W.heap.size W w') := fun W hT => by rw [hC]; exact impl_vt x W hT HS.out
  clear hC
  obtain ⟨p0, p1, p2, pf, pl⟩ := three_at Z1.out.2
  clear pf
  go_wp2_with (fail)
  clear p0 p1 p2 pl
  refine (toValue_any x _).mono ?_
  rintro e w2 ⟨rfl, hb⟩
  have Z2 : Hid (Below w.heap.size w w2 ∧ w2.heap[w.heap.size]? = some (.cells #[.int .i64 x.k, .int .i64 x.n, .string x.s] 23)) := ⟨Z1.out.1.trans (hb.mono Z1.out.1.size), resN Z1.out.2 hb⟩
  clear Z1 hb
  go_wp2_with (fail)
  refine (HSP.out w2).mono ?_
  rintro e w3 ⟨rfl, hb⟩
  have Z3 : Hid (Below w.heap.size w w3 ∧ w3.heap[w.heap.size]? = some (.cells #[.int .i64 x.k, .int .i64 x.n, .string x.s] 23)) := ⟨Z2.out.1.trans (hb.mono Z2.out.1.size), resN Z2.out.2 hb⟩
  clear Z2 hb
  obtain ⟨p0, p1, p2, pf, pl⟩ := three_at Z3.out.2
  clear pf
  go_wp2_with (fail)
  clear p0 p1 p2 pl
  refine (toValue_any x _).mono ?_
  rintro e w4 ⟨rfl, hb⟩
  have Z4 : Hid (Below w.heap.size w w4) := Z3.out.1.trans (hb.mono Z3.out.1.size)
  clear Z3 hb
  go_wp2_with (fail)
  refine (HIM.out w4 (ht.out.step Z4.out)).mono ?_
  rintro e w5 ⟨rfl, hb⟩
  have Z5 : Hid (Below w.heap.size w w5) := Z4.out.trans (hb.mono Z4.out.size)
  clear Z4 hb
  go_wp2
  go_returns
  exact ⟨rfl, Z5.out⟩

theorem gTab : Tryd.prog.globalNamed "internal/strconv.uint64pow10" = some 0 := by kernel_rfl
theorem gTabType : (Tryd.prog.globals[0]?).map (·.type) = some 163 := by kernel_rfl
theorem cellsTab : Tryd.prog.cellsOf 163 = 20 := by kernel_rfl
theorem cellsU64 : Tryd.prog.cellsOf 151 = 1 := by kernel_rfl

/-- What the row's list gives: the table's cells hold the powers of ten. -/
theorem table {W : World} (h : laidMetH Tryd.prog Rows.fnExactValueTextRow.laid W) : Lib.TabIs Tryd.prog W "internal/strconv.uint64pow10" .u64 Lib.pow10Tab := by
  have h' : laidMet Tryd.prog Rows.fnExactValueTextRow.laid W := h
  obtain ⟨ps, hv, _⟩ := h'
  obtain ⟨g1, t1, cs1, f1, p1, q1, _, _, _, _, hv1, _⟩ := hv
  obtain ⟨g2, t2, cs2, f2, p2, q2, _, _, _, _, hv2, _⟩ := hv1
  obtain ⟨g', t', cs, fuel, p, q, hg', ht', hvar, hd, _, _⟩ := hv2
  obtain rfl := Option.some.inj (gTab.symm.trans hg')
  obtain rfl := Option.some.inj (gTabType.symm.trans ht')
  unfold Lib.TabIs
  have hd' : DataW.trod (fun _ => ()) Tryd.prog W 0 (fun _ => true) false fuel 163 cs.toList = some (Lib.tabData .u64 Lib.pow10Tab, p) := hd
  rw [hvar, ← Lib.cells_of_tab (by kernel_rfl : Tryd.prog.underlying 163 = some (.array 20 151)) Tryd.underlying151 cellsU64 cellsTab hd']

set_option maxRecDepth 100000 in
theorem contract (H : Type) (enc : TypeId × Value → H) (W : World) (base : Nat) (args : Array Value) (ds gs : List (DataW H)) (before : List MemPlace)
    (hval0 : ∀ (j : Nat) t v, Tryd.f3.params[j]? = some t → args[j]? = some v → Value.okWide Tryd.prog W .any base t v)
    (hW : DataW.Whole enc Tryd.prog Tryd.f3.params.toList Rows.fnExactValueTextSpec.vars false W args.toList ds gs before) (hL : laidMetH Tryd.prog Rows.fnExactValueTextRow.laid W) :
    Calls Tryd.prog 3 args W fun e W' => ∃ v, e = .returned v ∧ Rows.fnExactValueTextSpec.post enc Tryd.prog Tryd.f3 false true false false W args v W' := by
  have hval : ∀ (j : Nat) t v, Tryd.f3.params[j]? = some t → args[j]? = some v → Value.okWide Tryd.prog W .any base t v := hval0
  have hW' := hW
  obtain ⟨p, q, hA0, hV, rfl, hfz, hnd⟩ := hW
  have hA : DataW.TrodAll enc Tryd.prog W 0 (fun _ => true) true Tryd.f3.params.toList args.toList ds p := hA0
  rw [Tryd.params3] at hA hval
  obtain ⟨v0, vs0, d0, ds0, p0, q0, hargs0, rfl, rfl, h0, r0⟩ := trodAll_cons hA
  obtain ⟨rfl, rfl, rfl⟩ := trodAll_nil r0
  obtain rfl : args = #[v0] := by cases args; simp_all
  obtain ⟨rfl, rfl⟩ := trodVars_none hV
  have k0 := h0
  have lt0 : ∀ x ∈ p0, x.block < W.heap.size := by obtain ⟨m, hm⟩ := k0; exact DataW.trod_lt m _ _ _ hm
  obtain ⟨x0, rfl, hx0⟩ := value_open (hval 0 23 v0 rfl rfl) h0
  clear hA0 hval0
  refine (law_vt17 x0 hx0 (w := W) (Tab.of (table hL))).mono fun e W' ⟨he, hg⟩ => ?_
  subst he
  exact ⟨_, rfl, _, _, _, [], _, [], hW', trodAll_mk1 (shut_bool Tryd.underlying4 _), (trodAll_cons_mk (Below.trod laidOut (by kernel_rfl) (of_decide_eq_true (by kernel_rfl)) k0 hg lt0) trodAll_mk0), rfl, hg.frame _, fun h => by cases h⟩

/-- The number of a datum, and a list's numbers. -/
def cellD (x : DataW Unit) : Value := match x with
  | DataW.lit (Lit.int k z) => Value.int k z
  | _ => Value.bool false
def cellsD (x : DataW Unit) : Array Value := match x with
  | DataW.agg l => (l.map cellD).toArray
  | _ => #[]
/-- A variable's block, with a list of numbers in it. -/
def layT (d : DataW Unit) : Obj → Obj
  | .cells _ t frozen => .cells (cellsD d) t frozen
  | o => o
/-- A world with the three tables laid. -/
def layW (w : World) : World :=
  { w with heap := ((w.heap.modify 0 (layT Rows.laid_internal_strconv_uint64pow10)).modify 1 (layT Rows.laid_math_bits_deBruijn32tab)).modify 2 (layT Rows.laid_math_bits_deBruijn64tab) }

theorem laid_met (os : Os) : laidMet Tryd.prog Rows.fnExactValueTextRow.laid ((layW (World.holding Tryd.prog os ⟨#[], #[], []⟩)).forCall (fun _ _ => 0) ⟨#[], #[.agg #[.int .i64 0, .int .i64 0, .string ByteArray.empty]], []⟩).memory :=
  laidMet_of_run' 8 (by kernel_rfl) (by kernel_rfl)
theorem reads (os : Os) {H : Type} (enc : TypeId × Value → H) : ∃ places, DataW.whole enc Tryd.prog ((layW (World.holding Tryd.prog os ⟨#[], #[], []⟩)).forCall (fun _ _ => 0) ⟨#[], #[.agg #[.int .i64 0, .int .i64 0, .string ByteArray.empty]], []⟩).memory Tryd.f3.params.toList Rows.fnExactValueTextSpec.vars false (#[.agg #[.int .i64 0, .int .i64 0, .string ByteArray.empty]] : Array Value).toList 8 = some ([.agg [.lit (.int .i64 0), .lit (.int .i64 0), .lit (.string [])]], [], places) :=
  ⟨[], by kernel_rfl⟩

set_option maxRecDepth 100000 in
theorem vt17_lifted (os : Os) (started : os.Started) (H : Type) (enc : TypeId × Value → H) (F : Stop.Interp) :
    ReturnsInHanded {} Tryd.checked os 3 .any ((OpenSpec.ofChange Rows.fnExactValueTextSpec).preRow enc Tryd.prog Tryd.f3 Rows.fnExactValueTextRow.domain false Rows.fnExactValueTextRow.laid) (((OpenSpec.ofChange Rows.fnExactValueTextSpec).at F).post enc Tryd.prog Tryd.f3 false true false false) := by
  obtain ⟨places, hx⟩ := reads os enc
  refine returnsInHanded_of_row (C := Tryd.checked) (s := OpenSpec.ofChange Rows.fnExactValueTextSpec) own started (by kernel_rfl) Tryd.func3
    (witness_row_at (enc := enc) (C := Tryd.checked) false (layW (World.holding Tryd.prog os ⟨#[], #[], []⟩)) #[.agg #[.int .i64 0, .int .i64 0, .string ByteArray.empty]] rfl (by kernel_rfl) (by kernel_rfl) (by kernel_rfl)
      (OpenSpec.preRow_of_cond 8 hx (by kernel_rfl) (fun k hk => by cases hk) (by kernel_rfl) (laid_met os))) ?_
  intro W base args ds gs before hval hW _ _ _ hL _ _
  exact contract H enc W base args ds gs before hval hW hL

theorem vt17_said : Rows.FnExactValueTextSaid :=
  OpenClaim.holds_of_cond 3 Tryd.f3 rfl rfl rfl rfl rfl rfl rfl ⟨rfl, rfl, rfl, rfl, rfl⟩ rfl rfl rfl rfl rfl (by kernel_rfl) Tryd.func3 (by kernel_rfl)
    (of_decide_eq_true (by kernel_rfl)) (by unfold Func.isWrapper; first | (rw [if_pos (by decide +kernel)]; kernel_rfl) | (rw [if_neg (by decide +kernel)]; exact ⟨rfl, rfl⟩))
    (fun os started H enc _ F => by rw [OpenClaim.pre_eq_preRow]; exact vt17_lifted os started H enc F)

theorem plain (f : FuncId) (fn : Func) (hf : Tryd.pinned.checked.prog.funcNamed "loop.example/g00057/laws.FnExactValueText" = some f) (hfn : Tryd.pinned.checked.prog.funcs[f]? = some fn) :
    false = Tryd.pinned.checked.prog.looks [] ∧ ∀ (j : Nat) t, fn.params[j]? = some t → Tryd.pinned.checked.prog.wantsStandIn t = false := by
  obtain rfl : f = 3 := Option.some.inj ((show Tryd.prog.funcNamed "loop.example/g00057/laws.FnExactValueText" = some 3 by kernel_rfl).symm.trans hf) |>.symm
  obtain rfl : fn = Tryd.f3 := (Option.some.inj (Tryd.func3.symm.trans hfn)).symm
  refine ⟨by kernel_rfl, fun j t ht => ?_⟩
  rw [Tryd.params3] at ht
  obtain rfl : t = 23 := by simpa using Array.mem_of_getElem? ht
  exact (show Tryd.prog.wantsStandIn 23 = false by kernel_rfl)

theorem vt17_proved : Rows.FnExactValueTextCardSaid :=
  Claim7.holds_tied_plain_at .later [] _ _ _ _ vt17_said (fun _ h => by cases h) (by kernel_rfl) (fun _ h => by cases h) fnExactValueText_row_tie rfl ⟨rfl, rfl⟩ (by kernel_rfl) rfl plain (by kernel_rfl)
#print axioms vt17_proved

end Go.Proofs.YtnedghhngnmalaaDoor
