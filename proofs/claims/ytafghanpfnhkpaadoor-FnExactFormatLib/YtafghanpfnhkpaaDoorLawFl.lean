/- Proved here: 'the program's FormatLib answers as the model's; it writes into no argument', for every list of cells; the one condition, that the library's table of powers of ten is as the program's text lays it, is tied to the text by the card. -/
import Derived.Test.YtafghanpfnhkpaaDoorXcI
import Derived.Test.YtafghanpfnhkpaaDoorXcS
import Derived.Test.YtafghanpfnhkpaaDoorTyOpen
import Derived.Test.YtafghanpfnhkpaaDoorRows
import Derived.Test.YtafghanpfnhkpaaDoorCards
import Derived.Test.YtafghanpfnhkpaaDoorTie
import Derived.WalkKit
import Derived.ProofKit
import Derived.OpenShut
import Derived.Deep.DeepHandedRow
import Derived.Lib.LaidTab
namespace Go.Proofs.YtafghanpfnhkpaaDoor
open Go.ChangeShapes Go.WideShapes Go.ChangeAt Go.RowKit Go.Joins
set_option linter.unusedVariables false
set_option linter.unusedSimpArgs false

theorem own : ownKnob Tryd.prog.godebug = none := by kernel_rfl
theorem laidOut : laidOutB Tryd.prog = true := by kernel_rfl
theorem resN {w w1 : World} {k : Nat} {o : Obj} (h : w.heap[k]? = some o) (hb : Below w.heap.size w w1) : w1.heap[k]? = some o := by
  refine (hb.block k ?_).trans h
  rcases Nat.lt_or_ge k w.heap.size with h' | h'
  · exact h'
  · rw [Array.getElem?_eq_none h'] at h; cases h
set_option maxHeartbeats 1600000 in
theorem law_fl17 {a : Option Addr} {n c : Nat} (s : List Cl) (hm : n ≤ maxLen) {w : World} (ht : Hid (Tab w)) (h : RK w (.slice a n c) s) (hok : ∀ j (h : j < s.length), okC s[j]) :
    Calls Tryd.prog 3 #[.slice a n c] w fun e w' => e = .returned (.bool true) ∧ Below w.heap.size w w' := by
  have hns : n = s.length := by obtain ⟨rs, hrs, hrel⟩ := h; exact hrs.len.trans hrel.len
  have H : Hid (RK w (.slice a n c) s ∧ n = s.length) := ⟨h, hns⟩
  have HSZ : Hid (Calls Tryd.prog 4 #[.slice a n c, .int .i64 1048576] w fun e w' => ∃ r, e = .returned (.int .i64 r) ∧ (r < 0 ∨ (0 ≤ r ∧ r ≤ 1048576 ∧ (n : Int) ≤ 1048576 ∧ ∀ j (h : j < s.length), smC 1048576 s[j])) ∧ Below w.heap.size w w') := szCellS_gen a n c 1048576 s w (by omega) (by omega) hm h hok
  clear h hns hok hm
  go_enter Tryd.func3, Tryd.ntmps3
  go_wp2_with (fail)
  refine HSZ.out.mono ?_
  rintro e w0 ⟨r, rfl, hr, hb0⟩
  have HB0 : Hid (Below w.heap.size w w0) := hb0
  clear hb0 HSZ
  rcases hr with hneg | ⟨h1, h2, h3, h4⟩
  · go_wp2
    go_returns
    exact ⟨rfl, HB0.out⟩
  have hr0 : ¬ r < 0 := by omega
  have hn20 : s.length ≤ 1048576 := by rw [← H.out.2]; omega
  have HS : Hid (s.length ≤ 1048576 ∧ ∀ j (h : j < s.length), smC 1048576 s[j]) := ⟨hn20, h4⟩
  clear h4 hn20
  go_wp2_with (fail)
  refine (toCellS_any HS.out.1 HS.out.2 (H.out.1.below HB0.out)).mono ?_
  rintro e w1 ⟨g1, rfl, hk1, hb1⟩
  have R1 : Hid (RK w1 (.slice (some ⟨g1, 0, none⟩) s.length s.length) s ∧ Below w.heap.size w w1) := ⟨hk1, HB0.out.trans (hb1.mono HB0.out.size)⟩
  clear hk1 hb1
  go_wp2_with (fail)
  obtain ⟨C, hC⟩ : ∃ C, C = flS s := ⟨_, rfl⟩
  have HSP : Hid (∀ X g, RK X (.slice (some ⟨g, 0, none⟩) s.length s.length) s → Calls Tryd.prog 5 #[.slice (some ⟨g, 0, none⟩) s.length s.length] X fun e w' => e = .returned (.string C) ∧ Below X.heap.size X w') := fun X g hX => by rw [hC]; exact spec_fl _ _ _ s X (by have := HS.out.1; omega) hX HS.out.2
  have HIM : Hid (∀ X g, Tab X → RK X (.slice (some ⟨g, 0, none⟩) s.length s.length) s → Calls Tryd.prog 7 #[.slice (some ⟨g, 0, none⟩) s.length s.length] X fun e w' => e = .returned (.string C) ∧ Below X.heap.size X w') := fun X g hT hX => by rw [hC]; exact impl_fl _ _ _ s X hT (by have := HS.out.1; omega) hX HS.out.2
  clear hC
  refine (HSP.out _ _ R1.out.1).mono ?_
  rintro e w2 ⟨rfl, hb2⟩
  have B2 : Hid (Below w.heap.size w w2) := R1.out.2.trans (hb2.mono R1.out.2.size)
  clear hb2
  go_wp2_with (fail)
  refine (toCellS_any HS.out.1 HS.out.2 (H.out.1.below B2.out)).mono ?_
  rintro e w3 ⟨g3, rfl, hk3, hb3⟩
  have R3 : Hid (RK w3 (.slice (some ⟨g3, 0, none⟩) s.length s.length) s ∧ Below w.heap.size w w3) := ⟨hk3, B2.out.trans (hb3.mono B2.out.size)⟩
  clear hk3 hb3
  go_wp2_with (fail)
  refine (HIM.out _ _ (ht.out.step R3.out.2) R3.out.1).mono ?_
  rintro e w4 ⟨rfl, hb4⟩
  have R4 : Hid (RK w4 (.slice (some ⟨g3, 0, none⟩) s.length s.length) s ∧ Below w.heap.size w w4) := ⟨R3.out.1.below hb4, R3.out.2.trans (hb4.mono R3.out.2.size)⟩
  clear hb4
  go_wp2_with (fail)
  refine (toCellS_any HS.out.1 HS.out.2 (H.out.1.below R4.out.2)).mono ?_
  rintro e w5 ⟨g5, rfl, hk5, hb5⟩
  have R5 : Hid (RK w5 (.slice (some ⟨g3, 0, none⟩) s.length s.length) s ∧ RK w5 (.slice (some ⟨g5, 0, none⟩) s.length s.length) s ∧ Below w.heap.size w w5) := ⟨R4.out.1.below hb5, hk5, R4.out.2.trans (hb5.mono R4.out.2.size)⟩
  clear hk5 hb5
  go_wp2_with (fail)
  refine (eqCellS_same (by have := HS.out.1; omega) HS.out.2 R5.out.1 R5.out.2.1).mono ?_
  rintro e w6 ⟨rfl, hb6⟩
  have B6 : Hid (Below w.heap.size w w6) := R5.out.2.2.trans (hb6.mono R5.out.2.2.size)
  clear hb6
  go_wp2
  go_returns
  exact ⟨rfl, B6.out⟩


theorem gTab : Tryd.prog.globalNamed "internal/strconv.uint64pow10" = some 0 := by kernel_rfl
theorem gTabType : (Tryd.prog.globals[0]?).map (·.type) = some 108 := by kernel_rfl
theorem cellsTab : Tryd.prog.cellsOf 108 = 20 := by kernel_rfl
theorem cellsU64 : Tryd.prog.cellsOf 101 = 1 := by kernel_rfl

/-- What the row's list gives: the table's cells hold the powers of ten. -/
theorem table {W : World} (h : laidMetH Tryd.prog Rows.fnExactFormatLibRow.laid W) : Lib.TabIs Tryd.prog W "internal/strconv.uint64pow10" .u64 Lib.pow10Tab := by
  have h' : laidMet Tryd.prog Rows.fnExactFormatLibRow.laid W := h
  obtain ⟨ps, hv, _⟩ := h'
  obtain ⟨g1, t1, cs1, f1, p1, q1, _, _, _, _, hv1, _⟩ := hv
  obtain ⟨g2, t2, cs2, f2, p2, q2, _, _, _, _, hv2, _⟩ := hv1
  obtain ⟨g', t', cs, fuel, p, q, hg', ht', hvar, hd, _, _⟩ := hv2
  obtain rfl := Option.some.inj (gTab.symm.trans hg')
  obtain rfl := Option.some.inj (gTabType.symm.trans ht')
  unfold Lib.TabIs
  have hd' : DataW.trod (fun _ => ()) Tryd.prog W 0 (fun _ => true) false fuel 108 cs.toList = some (Lib.tabData .u64 Lib.pow10Tab, p) := hd
  rw [hvar, ← Lib.cells_of_tab (by kernel_rfl : Tryd.prog.underlying 108 = some (.array 20 101)) Tryd.underlying101 cellsU64 cellsTab hd']

set_option maxRecDepth 100000 in
theorem contract (H : Type) (enc : TypeId × Value → H) (W : World) (base : Nat) (args : Array Value) (ds gs : List (DataW H)) (before : List MemPlace)
    (hval0 : ∀ (j : Nat) t v, Tryd.f3.params[j]? = some t → args[j]? = some v → Value.okWide Tryd.prog W .any base t v)
    (hW : DataW.Whole enc Tryd.prog Tryd.f3.params.toList Rows.fnExactFormatLibSpec.vars false W args.toList ds gs before) (hL : laidMetH Tryd.prog Rows.fnExactFormatLibRow.laid W) :
    Calls Tryd.prog 3 args W fun e W' => ∃ v, e = .returned v ∧ Rows.fnExactFormatLibSpec.post enc Tryd.prog Tryd.f3 false true false false W args v W' := by
  have hval : ∀ (j : Nat) t v, Tryd.f3.params[j]? = some t → args[j]? = some v → Value.okWide Tryd.prog W .any base t v := hval0
  have hW' := hW
  obtain ⟨p, q, hA0, hV, rfl, hfz, hnd⟩ := hW
  have hA : DataW.TrodAll enc Tryd.prog W 0 (fun _ => true) true Tryd.f3.params.toList args.toList ds p := hA0
  rw [Tryd.params3] at hA hval
  obtain ⟨v0, vs0, d0, ds0, p0, q0, hargs0, rfl, rfl, h0, r0⟩ := trodAll_cons hA
  obtain ⟨rfl, rfl, rfl⟩ := trodAll_nil r0
  obtain rfl : args = #[v0] := by cases args; simp_all
  obtain ⟨rfl, rfl⟩ := trodVars_none hV
  have k0 := h0
  have lt0 : ∀ x ∈ p0, x.block < W.heap.size := by obtain ⟨m, hm⟩ := k0; exact DataW.trod_lt m _ _ _ hm
  obtain ⟨sa0, sn0, sc0, s0, rfl, rk0, sl0, ok0⟩ := cells_open (hval 0 22 v0 rfl rfl) h0
  clear hA0 hval0
  refine (law_fl17 s0 sl0 (w := W) (Tab.of (table hL)) rk0 ok0).mono fun e W' ⟨he, hg⟩ => ?_
  subst he
  exact ⟨_, rfl, _, _, _, [], _, [], hW', trodAll_mk1 (shut_bool Tryd.underlying4 _), (trodAll_cons_mk (Below.trod laidOut (by kernel_rfl) (of_decide_eq_true (by kernel_rfl)) k0 hg lt0) trodAll_mk0), rfl, hg.frame _, fun h => by cases h⟩

/-- The number of a datum, and a list's numbers. -/
def cellD (x : DataW Unit) : Value := match x with
  | DataW.lit (Lit.int k z) => Value.int k z
  | _ => Value.bool false
def cellsD (x : DataW Unit) : Array Value := match x with
  | DataW.agg l => (l.map cellD).toArray
  | _ => #[]
/-- A variable's block, with a list of numbers in it. -/
def layT (d : DataW Unit) : Obj → Obj
  | .cells _ t frozen => .cells (cellsD d) t frozen
  | o => o
/-- A world with the three tables laid. -/
def layW (w : World) : World :=
  { w with heap := ((w.heap.modify 0 (layT Rows.laid_internal_strconv_uint64pow10)).modify 1 (layT Rows.laid_math_bits_deBruijn32tab)).modify 2 (layT Rows.laid_math_bits_deBruijn64tab) }

theorem laid_met (os : Os) : laidMet Tryd.prog Rows.fnExactFormatLibRow.laid ((layW (World.holding Tryd.prog os ⟨#[], #[], []⟩)).forCall (fun _ _ => 0) ⟨#[], #[.slice none 0 0], []⟩).memory :=
  laidMet_of_run' 8 (by kernel_rfl) (by kernel_rfl)
theorem reads (os : Os) {H : Type} (enc : TypeId × Value → H) : ∃ places, DataW.whole enc Tryd.prog ((layW (World.holding Tryd.prog os ⟨#[], #[], []⟩)).forCall (fun _ _ => 0) ⟨#[], #[.slice none 0 0], []⟩).memory Tryd.f3.params.toList Rows.fnExactFormatLibSpec.vars false (#[.slice none 0 0] : Array Value).toList 8 = some ([.nil], [], places) :=
  ⟨[], by kernel_rfl⟩

set_option maxRecDepth 100000 in
theorem fl17_lifted (os : Os) (started : os.Started) (H : Type) (enc : TypeId × Value → H) (F : Stop.Interp) :
    ReturnsInHanded {} Tryd.checked os 3 .any ((OpenSpec.ofChange Rows.fnExactFormatLibSpec).preRow enc Tryd.prog Tryd.f3 Rows.fnExactFormatLibRow.domain false Rows.fnExactFormatLibRow.laid) (((OpenSpec.ofChange Rows.fnExactFormatLibSpec).at F).post enc Tryd.prog Tryd.f3 false true false false) := by
  obtain ⟨places, hx⟩ := reads os enc
  refine returnsInHanded_of_row (C := Tryd.checked) (s := OpenSpec.ofChange Rows.fnExactFormatLibSpec) own started (by kernel_rfl) Tryd.func3
    (witness_row_at (enc := enc) (C := Tryd.checked) false (layW (World.holding Tryd.prog os ⟨#[], #[], []⟩)) #[.slice none 0 0] rfl (by kernel_rfl) (by kernel_rfl) (by kernel_rfl)
      (OpenSpec.preRow_of_cond 8 hx (by kernel_rfl) (fun k hk => by cases hk) (by kernel_rfl) (laid_met os))) ?_
  intro W base args ds gs before hval hW _ _ _ hL _ _
  exact contract H enc W base args ds gs before hval hW hL

theorem fl17_said : Rows.FnExactFormatLibSaid :=
  OpenClaim.holds_of_cond 3 Tryd.f3 rfl rfl rfl rfl rfl rfl rfl ⟨rfl, rfl, rfl, rfl, rfl⟩ rfl rfl rfl rfl rfl (by kernel_rfl) Tryd.func3 (by kernel_rfl)
    (of_decide_eq_true (by kernel_rfl)) (by unfold Func.isWrapper; first | (rw [if_pos (by decide +kernel)]; kernel_rfl) | (rw [if_neg (by decide +kernel)]; exact ⟨rfl, rfl⟩))
    (fun os started H enc _ F => by rw [OpenClaim.pre_eq_preRow]; exact fl17_lifted os started H enc F)

theorem plain (f : FuncId) (fn : Func) (hf : Tryd.pinned.checked.prog.funcNamed "loop.example/g00057/laws.FnExactFormatLib" = some f) (hfn : Tryd.pinned.checked.prog.funcs[f]? = some fn) :
    false = Tryd.pinned.checked.prog.looks [] ∧ ∀ (j : Nat) t, fn.params[j]? = some t → Tryd.pinned.checked.prog.wantsStandIn t = false := by
  obtain rfl : f = 3 := Option.some.inj ((show Tryd.prog.funcNamed "loop.example/g00057/laws.FnExactFormatLib" = some 3 by kernel_rfl).symm.trans hf) |>.symm
  obtain rfl : fn = Tryd.f3 := (Option.some.inj (Tryd.func3.symm.trans hfn)).symm
  refine ⟨by kernel_rfl, fun j t ht => ?_⟩
  rw [Tryd.params3] at ht
  obtain rfl : t = 22 := by simpa using Array.mem_of_getElem? ht
  exact (show Tryd.prog.wantsStandIn 22 = false by kernel_rfl)

theorem fl17_proved : Rows.FnExactFormatLibCardSaid :=
  Claim7.holds_tied_plain_at .later [] _ _ _ _ fl17_said (fun _ h => by cases h) (by kernel_rfl) (fun _ h => by cases h) fnExactFormatLib_row_tie rfl ⟨rfl, rfl⟩ (by kernel_rfl) rfl plain (by kernel_rfl)
#print axioms fl17_proved

end Go.Proofs.YtafghanpfnhkpaaDoor
