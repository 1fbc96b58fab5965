/- Proved here: the program's unitRoots. -/
import Derived.Test.YtgaabcgdfbgchaaRtK
import Derived.Test.YtgaabcgdfbgchaaIntsBase
import Derived.Test.YtgaabcgdfbgchaaReg
import Derived.Laws.Externs
import Derived.Deep.MidRow
namespace Go.Proofs.Ytgaabcgdfbgchaa
open Go.RowKit
set_option linter.unusedVariables false
set_option linter.unusedSimpArgs false

theorem sqrt_run (x r : Nat) (h : Ieee.double.sqrt x = some r) (w : World) : (callFunc 83 #[.float .f64 x]).run Try.prog w = .ok (.value (.float .f64 r)) w := by
  have h0 : ∃ fn, Try.prog.funcs[83]? = some fn ∧ (fn.name == "runtime.NumGoroutine") = false ∧ fn.body.isNone = true ∧ Extern.findNext fn = none ∧ Extern.find fn = some Extern.MathSqrt.sqrt := ⟨_, Try.func83, by kernel_rfl, by kernel_rfl, by kernel_rfl, by kernel_rfl⟩
  obtain ⟨fn, h1, h2, h3, h4, h5⟩ := h0
  rw [run_callFunc_extern h1 h2 h3 h4 h5]
  have e : FloatKind.f64.format.sqrt x = some r := h
  have e2 : Extern.MathSqrt.sqrt #[.float .f64 x] = (match FloatKind.f64.format.sqrt x with
    | some r => (pure (Value.float .f64 r) : Sem Value)
    | none => do pure (Value.float .f64 (← choose (.nanBits .f64 x x)))) := rfl
  rw [e2, e]
  rfl

set_option maxHeartbeats 400000 in
theorem sqrt_any (x r : Nat) (h : Ieee.double.sqrt x = some r) (w : World) : Calls Try.prog 76 #[.float .f64 x] w fun e w' => e = .returned (.float .f64 r) ∧ w' = w := by
  have hs := sqrt_run x r h
  go_enter Try.func76, Try.ntmps76
  go_wp2
  go_returns
  exact ⟨rfl, rfl⟩

/-- The array under way: the first i roots. -/
def rcK (i c : Nat) : Value := if c < 2 * i then .float .f64 (if c % 2 = 0 then rtR (c / 2) else rtI (c / 2)) else .float .f64 0
def arK (i : Nat) : Array Value := ((List.range 40).map (rcK i)).toArray
theorem arK_size (i : Nat) : (arK i).size = 40 := by simp [arK]
theorem arK_at {i c : Nat} (h : c < 40) : (arK i)[c]? = some (rcK i c) := by simp [arK, h]

theorem there_blk {w : World} {k n : Nat} {C : Array Value} {T : TypeId} (h : w.heap[k]? = some (.cells C T)) (hn : C.size = n) : w.there k 0 n := by
  intro j hj
  have hj' : j < C.size := by omega
  simp [World.cell?, World.frozen?, h, hj']
theorem there_off {w : World} {k o n : Nat} {C : Array Value} {T : TypeId} (h : w.heap[k]? = some (.cells C T)) (hn : o + n ≤ C.size) : w.there k o n := by
  intro j hj
  have hj' : o + j < C.size := by omega
  simp [World.cell?, World.frozen?, h, hj']
theorem cell_blk {w : World} {k : Nat} {C : Array Value} {T : TypeId} (h : w.heap[k]? = some (.cells C T)) (c : Nat) : w.cell? ⟨k, c, none⟩ = C[c]? := by simp [World.cell?, h]
theorem arK_one (i : Nat) : (arK i).all (·.oneCell') = true := by
  rw [Array.all_eq_true_iff_forall_mem]
  intro v hv
  simp only [arK, List.mem_toArray, List.mem_map] at hv
  obtain ⟨c, _, rfl⟩ := hv
  unfold rcK
  split <;> rfl
theorem zz_at1 (w : World) (a b : Obj) : ((w.alloc a).alloc b).heap[w.heap.size + 1]? = some b := by have := heap_alloc_new (w.alloc a) b; simpa using this
theorem setCells_get {k : Nat} {T : TypeId} : ∀ (vs : List Value) (o : Nat) (w : World) (C : Array Value), w.heap[k]? = some (.cells C T) →
    ∃ C' : Array Value, (w.setCells k o vs).heap[k]? = some (.cells C' T) ∧ C'.size = C.size ∧ ∀ j, j < C.size → C'[j]? = if o ≤ j ∧ j < o + vs.length then vs[j - o]? else C[j]?
  | [], o, w, C, h => ⟨C, h, rfl, fun j _ => by rw [if_neg (by simp)]⟩
  | v :: r, o, w, C, h => by
    obtain ⟨C', h1, h2, h3⟩ := setCells_get r (o + 1) (w.setCell ⟨k, o, none⟩ v) (C.setIfInBounds o v) (heap_setCell_same w k o C T v h)
    refine ⟨C', h1, by simpa using h2, fun j hj => ?_⟩
    rw [h3 j (by simpa using hj)]
    by_cases hjo : o = j
    · subst hjo
      rw [if_neg (by omega), if_pos (by simp)]
      simp [hj]
    · by_cases hin : o + 1 ≤ j ∧ j < o + 1 + r.length
      · rw [if_pos hin, if_pos (by simp; omega)]
        obtain ⟨q, rfl⟩ : ∃ q, j = o + 1 + q := ⟨j - (o + 1), by omega⟩
        rw [show o + 1 + q - (o + 1) = q by omega, show o + 1 + q - o = q + 1 by omega]
        rfl
      · rw [if_neg hin, if_neg (by simp; omega)]
        simp [hjo]
theorem setCells_blk {w : World} {k : Nat} {C C' : Array Value} {T : TypeId} (h : w.heap[k]? = some (.cells C T)) (hs : C.size = C'.size) : (w.setCells k 0 C'.toList).heap[k]? = some (.cells C' T) := by
  obtain ⟨D, h1, h2, h3⟩ := setCells_get C'.toList 0 w C h
  rw [h1]
  congr 2
  apply Array.ext
  · omega
  · intro j hj1 hj2
    have := h3 j (by omega)
    rw [if_pos (by simp; omega)] at this
    have e1 : D[j]? = some D[j] := Array.getElem?_eq_getElem hj1
    rw [e1] at this
    simp [hj2] at this
    exact this
theorem arK_next {w : World} {k b : Nat} {T : TypeId} (h : w.heap[b]? = some (.cells (arK (k + 1)) T)) (hk : k + 1 < 20) :
    (w.setCells b ((k + 1) * 2) [.float .f64 (rtR (k + 1)), .float .f64 (rtI (k + 1))]).heap[b]? = some (.cells (arK (k + 1 + 1)) T) := by
  obtain ⟨D, h1, h2, h3⟩ := setCells_get [.float .f64 (rtR (k + 1)), .float .f64 (rtI (k + 1))] ((k + 1) * 2) w _ h
  rw [h1]
  congr 2
  apply Array.ext
  · rw [h2, arK_size, arK_size]
  · intro j hj1 hj2
    have hj : j < 40 := by rw [arK_size] at hj2; exact hj2
    have e := h3 j (by rw [arK_size]; exact hj)
    have e1 : D[j]? = some D[j] := Array.getElem?_eq_getElem hj1
    have e2 : (arK (k + 1 + 1))[j]? = some (arK (k + 1 + 1))[j] := Array.getElem?_eq_getElem hj2
    have e3 : D[j]? = (arK (k + 1 + 1))[j]? := by
      rw [e, arK_at hj, arK_at hj]
      by_cases hin : (k + 1) * 2 ≤ j ∧ j < (k + 1) * 2 + 2
      · rw [if_pos (by simpa using hin), rcK, if_pos (by omega)]
        rcases (show j = (k + 1) * 2 ∨ j = (k + 1) * 2 + 1 by omega) with rfl | rfl
        · rw [if_pos (by omega), show (k + 1) * 2 / 2 = k + 1 by omega]; simp
        · rw [if_neg (by omega), show ((k + 1) * 2 + 1) / 2 = k + 1 by omega]; simp
      · rw [if_neg (by simpa using hin)]
        unfold rcK
        by_cases hb : j < 2 * (k + 1)
        · rw [if_pos hb, if_pos (show j < 2 * (k + 1 + 1) by omega)]
        · rw [if_neg hb, if_neg (show ¬ j < 2 * (k + 1 + 1) by omega)]
    rw [e1, e2] at e3
    exact Option.some.inj e3
theorem results_cell {P : Program} {fn : Func} {a : Nat} {t : TypeId} {tmps : Array Value} {p : Addr} {v : Value} {w : World} (hf : fn.results = #[.cell a t]) (ha : tmps.getD a undef = .pointer (some p)) (hl : (loadVar t p).run P w = .ok v w) :
    (results fn tmps).run P w = .ok v w := by
  have ha' : tmps[a]?.getD undef = .pointer (some p) := by rw [← ha]; simp [Array.getD_eq_getD_getElem?]
  unfold results
  rw [hf]
  simp [ha', asAddr, hl]
theorem zeros40 : (Obj.cells (Array.replicate 40 (Value.float .f64 0)) 72) = Obj.cells (arK 0) 72 := by rfl

set_option maxRecDepth 10000 in
set_option maxHeartbeats 3200000 in
theorem impl_roots (w : World) : Calls Try.prog 41 #[] w fun e w' => e = .returned (.agg (arK 20)) ∧ Below w.heap.size w w' := by
  go_enter Try.func41, Try.ntmps41
  go_wp2_with (refine wpList_store_mid rfl 72 _ _ rfl (w.heap.size + 1) 0 (arK 2) rfl rfl (there_blk (zz_at1 w _ _) rfl) (by kernel_rfl) (arK_one 2) ?_)
  obtain ⟨W, hW⟩ : ∃ W, W = World.setCells ((w.alloc (Obj.cells (arK 0) 72)).alloc (Obj.cells (arK 0) 72)) (w.heap.size + 1) 0 (arK 2).toList := ⟨_, rfl⟩
  have HS : Hid (W.heap[w.heap.size + 1]? = some (.cells (arK 2) 72) ∧ W.heap[w.heap.size]? = some (.cells (arK 0) 72) ∧ Below w.heap.size w W) := by
    unfold Hid
    rw [hW]
    refine ⟨setCells_blk (zz_at1 w _ _) (by rw [arK_size, arK_size]), ?_, below_setCells _ (by omega) _ _ _ (by (repeat' (first | (with_reducible exact Below.refl _ _) | (with_reducible assumption) | (with_reducible refine Below.setCell ?_ ?_ _) | (with_reducible refine Below.alloc ?_ ?_ _) | (with_reducible refine below_drewN ?_ _) | (with_reducible refine Below.drew ?_) | (with_reducible exact Nat.le_refl _) | omega | (simp; done) | (simp; omega))))⟩
    rw [setCells_other _ _ _ _ _ (by omega)]
    exact (Below.heap_alloc _ _ _ (by simp)).trans (heap_alloc_new w _)
  have e0 : (World.setCells ((w.alloc (Obj.cells (arK 0) 72)).alloc (Obj.cells (arK 0) 72)) (w.heap.size + 1) 0 (arK 2).toList) = W := hW.symm
  change Code.wp _ _ _ _ (World.setCells ((w.alloc (Obj.cells (arK 0) 72)).alloc (Obj.cells (arK 0) 72)) (w.heap.size + 1) 0 (arK 2).toList)
  rw [e0]
  clear hW e0
  go_loopw [2] (fun x wr => ∃ i : Nat, 2 ≤ i ∧ i ≤ 20 ∧ x = .int .i64 i ∧ Hid (wr.heap[w.heap.size + 1]? = some (.cells (arK i) 72) ∧ wr.heap[w.heap.size]? = some (.cells (arK 0) 72) ∧ Below w.heap.size w wr)) (fun x _ => 20 - (intOf x).toNat)
  case atStart => exact ⟨2, by omega, by omega, rfl, HS.out⟩
  case round =>
    clear HS
    obtain ⟨i, hi1, hi2, rfl, hR⟩ := hrel
    by_cases hlt : i < 20
    · obtain ⟨s1, s2, s3, s4, s5⟩ := step_at hi1 hlt
      obtain ⟨k, rfl⟩ : ∃ k, i = k + 1 := ⟨i - 1, by omega⟩
      rw [show k + 1 - 1 = k by omega] at s1 s5
      have c0 : wr.cell? ⟨w.heap.size + 1, k * 2, none⟩ = some (.float .f64 (rtR k)) := by
        rw [cell_blk hR.out.1, arK_at (i := k + 1) (c := k * 2) (by omega), rcK, if_pos (by omega), if_pos (by omega), show k * 2 / 2 = k by omega]
      have c1 : wr.cell? ⟨w.heap.size + 1, k * 2 + 1, none⟩ = some (.float .f64 (rtI k)) := by
        rw [cell_blk hR.out.1, arK_at (i := k + 1) (c := k * 2 + 1) (by omega), rcK, if_pos (by omega), if_neg (by omega), show (k * 2 + 1) / 2 = k by omega]
      have a1 : ∀ W, fres .add 4607182418800017408 (rtR k) W = on1 (k + 1) := fun W => fres_of s1 W
      have a2 : ∀ W, fres .mul (on1 (k + 1)) 4602678819172646912 W = on2 (k + 1) := fun W => fres_of s2 W
      have a3 : ∀ W, fres .add (rtR (k + 1)) (rtR (k + 1)) W = on3 (k + 1) := fun W => fres_of s4 W
      have a4 : ∀ W, fres .quo (rtI k) (on3 (k + 1)) W = rtI (k + 1) := fun W => fres_of s5 W
      have n1 := fnn_of s1
      have n2 := fnn_of s2
      have n3 := fnn_of s4
      have n4 := fnn_of s5
      have HQ : Hid (∀ W, Calls Try.prog 76 #[.float .f64 (on2 (k + 1))] W fun e w' => e = .returned (.float .f64 (rtR (k + 1))) ∧ w' = W) := sqrt_any _ _ s3
      clear s1 s2 s3 s4 s5
      have b0 : (0 : Int) ≤ (k : Int) := by omega
      have b1 : (k : Int) < 20 := by omega
      have b2 : (k : Int) + 1 < 20 := by omega
      go_wp2_with (fail)
      go_quiet (fail)
      go_wp2_with (fail)
      refine (HQ.out _).mono ?_
      rintro e w3 ⟨rfl, hw3⟩
      subst w3
      go_wp2_with (refine wpList_store_mid rfl 71 _ _ rfl (w.heap.size + 1) ((k + 1) * 2) #[.float .f64 (rtR (k + 1)), .float .f64 (rtI (k + 1))] rfl rfl (there_off hR.out.1 (by rw [arK_size]; simp; omega)) (by kernel_rfl) (by simp [Value.oneCell']) ?_)
      refine ⟨⟨k + 1 + 1, by omega, by omega, by go_num, arK_next hR.out.1 (by omega), ?_, below_setCells _ (by omega) _ _ _ (below_drewN hR.out.2.2 _)⟩, by simp [intOf]; omega⟩
      rw [setCells_other _ _ _ _ _ (by omega)]
      exact hR.out.2.1
    · have hi20 : i = 20 := by omega
      subst hi20
      have hrg : wr.rangeAt (w.heap.size + 1) 0 (arK 20).toList := by
        intro j v hv
        rw [Nat.zero_add, cell_blk hR.out.1]
        simpa using hv
      obtain ⟨L, hL⟩ : ∃ L, L = (arK 20).toList := ⟨_, rfl⟩
      have hL40 : L.length = 40 := by rw [hL]; simp [arK]
      have hL1 : L.toArray.all (·.oneCell') = true := by rw [hL]; simpa using arK_one 20
      have HL : Hid (L.toArray = arK 20) := by unfold Hid; rw [hL]
      rw [← hL] at hrg
      have HT : Hid (wr.there w.heap.size 0 L.toArray.size ∧ Below w.heap.size w wr ∧ wr.heap[w.heap.size]? = some (.cells (arK 0) 72)) := ⟨there_blk hR.out.2.1 (by rw [arK_size]; simp [hL40]), hR.out.2.2, hR.out.2.1⟩
      have hinf : (Try.prog.info? 72).map (·.size) = some L.length := by rw [hL40]; kernel_rfl
      have hinf2 : (Try.prog.info? 72).map (·.size) = some L.toArray.size := by rw [List.size_toArray]; exact hinf
      clear hR hL
      go_wp2_with (first | (refine wpList_load_mid rfl 72 _ rfl (w.heap.size + 1) 0 rfl L _ hrg Try.underlying72 rfl hinf ?_) | (refine wpList_store_mid rfl 72 _ _ rfl w.heap.size 0 L.toArray rfl rfl HT.out.1 hinf2 hL1 ?_))
      have hfin : (wr.setCells w.heap.size 0 L.toArray.toList).heap[w.heap.size]? = some (.cells L.toArray 72) := setCells_blk HT.out.2.2 (by rw [arK_size]; simp [hL40])
      have hB : Below w.heap.size w (wr.setCells w.heap.size 0 L.toArray.toList) := below_setCells _ (Nat.le_refl _) _ _ _ HT.out.2.1
      have hrg2 : (wr.setCells w.heap.size 0 L.toArray.toList).rangeAt w.heap.size 0 L := by
        intro j v hv
        rw [Nat.zero_add, cell_blk hfin]
        simpa using hv
      have hlv := run_loadVar_mid (P := Try.prog) (wr.setCells w.heap.size 0 L.toArray.toList) w.heap.size 0 72 L _ hrg2 Try.underlying72 rfl hinf
      rw [← HL.out]
      exact bodyPost_ret (results_cell Try.results41 rfl hlv) rfl ⟨rfl, hB⟩

end Go.Proofs.Ytgaabcgdfbgchaa
