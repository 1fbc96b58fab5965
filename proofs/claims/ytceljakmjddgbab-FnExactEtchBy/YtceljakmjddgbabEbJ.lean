/- Proved here: etchFault and EtchBy's closure, of the program. (And ahead of it: Proved here: how lists of numbers are read. No condition on the program but on its table of types.) -/
import Derived.Test.YtceljakmjddgbabGen
import Derived.Test.YtceljakmjddgbabScB
import Derived.Test.YtceljakmjddgbabEbI
import Derived.Test.YtceljakmjddgbabInsC
namespace Go.Proofs.Ytceljakmjddgbab
open Go.RowKit
set_option linter.unusedVariables false
set_option linter.unusedSimpArgs false

def inC (x : Int) : List Value := [.int .i64 x]
theorem inC_len (x : Int) : (inC x).length = 1 := rfl
theorem inC_fm (s : List Int) : s.flatMap inC = s.map (Value.int .i64) := by
  induction s with
  | nil => rfl
  | cons a t ih => rw [List.flatMap_cons, ih]; rfl
theorem og_is {w : World} {B : Nat} {v : Value} {s : List Int} : OG 2 1 inC w B v s ↔ IS w B v s := by
  unfold OG IS; rw [inC_fm]
/-- A slice that can be read as a list of numbers. -/
abbrev RdI (w : World) (v : Value) (s : List Int) : Prop := RG 1 inC w v s
theorem IS.rg {w : World} {B : Nat} {v : Value} {s : List Int} (h : IS w B v s) : RdI w v s := OG.rg inC_len (og_is.2 h)
theorem IS.lt {w : World} {B : Nat} {v : Value} {s : List Int} (h : IS w B v s) : ∀ g, v.ownBlock = some g → B ≤ g ∧ g < w.heap.size := World.ownsRow.lt h
theorem IS.bel {w w' : World} {B : Nat} {v : Value} {s : List Int} (h : IS w B v s) (hb : Below w.heap.size w w') : IS w' B v s := og_is.1 ((og_is.2 h).below hb)
theorem IS.low {w : World} {A B : Nat} {v : Value} {s : List Int} (h : IS w B v s) (hab : A ≤ B) : IS w A v s := og_is.1 (OG.low (og_is.2 h) hab)
/-- From that block on. -/
theorem IS.from {w : World} {B g n c : Nat} {s : List Int} (h : IS w B (.slice (some ⟨g, 0, none⟩) n c) s) : IS w g (.slice (some ⟨g, 0, none⟩) n c) s := by
  refine ⟨h.1, ?_⟩
  rcases h.2 with ⟨h1, _⟩ | ⟨g', cap, cur, h1, h2, h3⟩
  · cases h1
  · refine Or.inr ⟨g', cap, cur, h1, ?_, h3⟩
    simp only [Value.slice.injEq, Option.some.injEq, Addr.mk.injEq, and_true] at h1
    omega
theorem RG.ri {w : World} {v : Value} {s : List Int} (h : RdI w v s) (hn : 0 < s.length) :
    ∃ g o c, v = .slice (some ⟨g, o, none⟩) s.length c ∧ g < w.heap.size ∧ ∀ j, j < s.length → w.cell? ⟨g, o + j, none⟩ = some (.int .i64 (s.getD j 0)) := by
  obtain ⟨g, o, c, rfl, hg, hj⟩ := h.pos hn
  refine ⟨g, o, c, rfl, hg, fun j hl => ?_⟩
  have := hj j hl 0 (by omega)
  simp only [Nat.mul_one, Nat.add_zero] at this
  rw [this]
  simp [inC, List.getElem?_eq_getElem hl]

/-- A world behind one whose first block of its own is o. -/
structure SB (w : World) (o : Obj) (W : World) : Prop where
  bl : Below w.heap.size w W
  bx : W.heap[w.heap.size]? = some o
theorem SB.next {w : World} {o : Obj} {V V' : World} (h : SB w o V) (hb : Below V.heap.size V V') : SB w o V' := by
  have hlt : w.heap.size < V.heap.size := by
    rcases Nat.lt_or_ge w.heap.size V.heap.size with h' | h'
    · exact h'
    · have := h.bx; rw [Array.getElem?_eq_none h'] at this; cases this
  exact ⟨h.bl.trans (hb.mono h.bl.size), (hb.block _ hlt).trans h.bx⟩
theorem SB.new (w : World) (o : Obj) : SB w o (w.alloc o) := ⟨by (repeat' (first | (with_reducible exact Below.refl _ _) | (with_reducible assumption) | (with_reducible refine Below.setCell ?_ ?_ _) | (with_reducible refine Below.alloc ?_ ?_ _) | (with_reducible refine below_drewN ?_ _) | (with_reducible refine Below.drew ?_) | (with_reducible exact Nat.le_refl _) | omega | (simp; done) | (simp; omega))), heap_alloc_new w o⟩

theorem rd_at {w : World} {a : Option Addr} {n c : Nat} {s : List Int} (h : RdI w (.slice a n c) s) {j : Nat} (hj : j < n) : ∃ g o, a = some ⟨g, o, none⟩ ∧ g < w.heap.size ∧ w.cell? ⟨g, o + j, none⟩ = some (.int .i64 (s.getD j 0)) := by
  have hn : n = s.length := h.len
  obtain ⟨g, o, c2, he, hg, hx⟩ := h.ri (by omega)
  injection he with he1 he2 he3
  subst he1
  exact ⟨g, o, rfl, hg, hx j (by omega)⟩

end Go.Proofs.Ytceljakmjddgbab

namespace Go.Proofs.Ytceljakmjddgbab
open Go.RowKit
set_option linter.unusedVariables false
set_option linter.unusedSimpArgs false

def boC (b : Bool) : List Value := [.bool b]
theorem boC_len (b : Bool) : (boC b).length = 1 := rfl
/-- A list of numbers, read. -/
theorem rdI_at {w : World} {a : Option Addr} {n c : Nat} {xs : List Int} (h : RdI w (.slice a n c) xs) {j : Nat} (hj : j < n) : ∃ g o, a = some ⟨g, o, none⟩ ∧ g < w.heap.size ∧ w.cell? ⟨g, o + j, none⟩ = some (.int .i64 (xs.getD j 0)) := by
  obtain ⟨a', c', e, hx⟩ := h
  injection e with e1 e2 e3
  subst e1 e2
  obtain ⟨g, o, rfl, hg, hc⟩ := hx (fun e => by rw [e] at hj; simp at hj)
  refine ⟨g, o, rfl, hg, ?_⟩
  have := hc j hj 0 (by decide)
  rw [Nat.mul_one, Nat.add_zero] at this
  rw [this]
  simp [inC, hj]
theorem rdI_all {w : World} {a : Option Addr} {n c : Nat} {xs : List Int} (h : RdI w (.slice a n c) xs) (hn : 0 < n) : ∃ g o, a = some ⟨g, o, none⟩ ∧ g < w.heap.size ∧ ∀ j, j < n → w.cell? ⟨g, o + j, none⟩ = some (.int .i64 (xs.getD j 0)) := by
  obtain ⟨g, o, rfl, hg, _⟩ := rdI_at h hn
  refine ⟨g, o, rfl, hg, fun j hj => ?_⟩
  obtain ⟨g', o', e, _, hc⟩ := rdI_at h hj
  injection e with e1
  injection e1 with e2 e3
  subst e2 e3
  exact hc
theorem rdB_at {w : World} {a : Option Addr} {n c : Nat} {xs : List Bool} (h : RG 1 boC w (.slice a n c) xs) {j : Nat} (hj : j < n) : ∃ g o, a = some ⟨g, o, none⟩ ∧ g < w.heap.size ∧ w.cell? ⟨g, o + j, none⟩ = some (.bool (xs.getD j false)) := by
  obtain ⟨a', c', e, hx⟩ := h
  injection e with e1 e2 e3
  subst e1 e2
  obtain ⟨g, o, rfl, hg, hc⟩ := hx (fun e => by rw [e] at hj; simp at hj)
  refine ⟨g, o, rfl, hg, ?_⟩
  have := hc j hj 0 (by decide)
  rw [Nat.mul_one, Nat.add_zero] at this
  rw [this]
  simp [boC, hj]
def etX (n mn : Nat) (ra : List Int) (t : Int) : Int := if ra.length = 12 ∧ mn = n then (if erF ra = 0 then (if 0 ≤ t ∧ t ≤ 100000 then 0 else 3) else 3) else 1

set_option maxRecDepth 10000 in
set_option maxHeartbeats 6400000 in
theorem impl_etchF {W : World} {a xa ma : Option Addr} {n c xn xc mn mc : Nat} {ra : List Int} (t : Int) (hn : n ≤ 1048576) (hxn : xn ≤ 1048576) (hmn : mn ≤ 1048576) (hra : RdI W (.slice xa xn xc) ra) :
    Calls Try.prog 44 #[.agg #[.slice a n c], .slice xa xn xc, .int .i64 t, .slice ma mn mc] W fun e w' => e = .returned (.int .i64 (etX n mn ra t)) ∧ Below W.heap.size W w' := by
  have hl : xn = ra.length := by obtain ⟨_, _, e, _⟩ := hra; injection e
  have HR : Hid (RdI W (.slice xa xn xc) ra ∧ xn = ra.length) := ⟨hra, hl⟩
  obtain ⟨C, hC⟩ : ∃ C, C = etX n mn ra t := ⟨_, rfl⟩
  rw [← hC]
  have HC : Hid (C = etX n mn ra t) := hC
  have HBT : Hid (∀ W, Calls Try.prog 56 #[.int .i64 t, .int .i64 0] W fun e w' => e = .returned (.int .i64 (if 0 ≤ t ∧ t ≤ 100000 then 0 else 3)) ∧ w' = W) := fun W => impl_byT t 0 W
  clear hra hC hl
  have hB1 : Below W.heap.size W (W.alloc (.cells #[.slice a n c] 30)) := by (repeat' (first | (with_reducible exact Below.refl _ _) | (with_reducible assumption) | (with_reducible refine Below.setCell ?_ ?_ _) | (with_reducible refine Below.alloc ?_ ?_ _) | (with_reducible refine below_drewN ?_ _) | (with_reducible refine Below.drew ?_) | (with_reducible exact Nat.le_refl _) | omega | (simp; done) | (simp; omega)))
  by_cases h12 : xn = 12
  · by_cases hm : mn = n
    · subst h12 hm
      have HL : Hid (ra.length = 12 ∧ C = if erF ra = 0 then (if 0 ≤ t ∧ t ≤ 100000 then 0 else 3) else 3) := by
        refine ⟨HR.out.2.symm, ?_⟩
        rw [HC.out, etX, if_pos ⟨HR.out.2.symm, rfl⟩]
      clear HC
      go_enter Try.func44, Try.ntmps44
      go_wp2
      go_loopw [24] (fun i wr => ∃ j : Nat, j ≤ 12 ∧ i = .int .i64 j ∧ Hid (Below W.heap.size W wr ∧ ∀ k, k < j → 0 ≤ ra.getD k 0 ∧ ra.getD k 0 ≤ 1000)) (fun i _ => 12 - (intOf i).toNat)
      case atStart => exact ⟨0, Nat.zero_le _, rfl, hB1, fun k hk => by omega⟩
      case round =>
        obtain ⟨j, hj, rfl, hx⟩ := hrel
        by_cases hlt : j < 12
        · obtain ⟨g, o, rfl, hg, hc⟩ := rdI_at HR.out.1 hlt
          have c0 := (hx.out.1.cell (p := ⟨g, o + j, none⟩) hg).trans hc
          have c1 : g < wr.heap.size := Nat.lt_of_lt_of_le hg hx.out.1.size
          obtain ⟨r, hr⟩ : ∃ r, r = ra.getD j 0 := ⟨_, rfl⟩
          rw [← hr] at c0
          clear hc hg
          have b0 : (0 : Int) ≤ (j : Int) := by omega
          have b1 : (j : Int) < 12 := by omega
          by_cases hin : 0 ≤ r ∧ r ≤ 1000
          · have HX : Hid (Below W.heap.size W wr ∧ ∀ k, k < j + 1 → 0 ≤ ra.getD k 0 ∧ ra.getD k 0 ≤ 1000) := ⟨hx.out.1, fun k hk => by
              rcases Nat.lt_or_ge k j with h1 | h1
              · exact hx.out.2 k h1
              · rw [show k = j by omega, ← hr]; exact hin⟩
            clear hx hr
            go_wp2_with (fail)
            refine (impl_insC r 0 1000 _ rfl _).mono ?_
            rintro e w2 ⟨rfl, rfl⟩
            rw [decide_eq_true hin]
            go_wp2
            go_roundw
            case rel => exact ⟨j + 1, by omega, by go_num, HX.out⟩
            case measure => simp [intOf]; omega
          · have HE : Hid (C = 3 ∧ Below W.heap.size W wr) := by
              refine ⟨?_, hx.out.1⟩
              rw [HL.out.2, if_neg]
              intro e
              unfold erF at e
              split at e
              · rename_i h9; exact hin (by rw [hr]; exact h9 j (by rw [HL.out.1]; exact hlt))
              · cases e
            clear hx hr
            go_wp2_with (fail)
            refine (impl_insC r 0 1000 _ rfl _).mono ?_
            rintro e w2 ⟨rfl, rfl⟩
            rw [decide_eq_false hin]
            go_wp2
            go_returns
            exact ⟨by rw [HE.out.1]; rfl, HE.out.2⟩
        · obtain rfl : j = 12 := by omega
          have HE : Hid (C = (if 0 ≤ t ∧ t ≤ 100000 then 0 else 3) ∧ Below W.heap.size W wr) := by
            refine ⟨?_, hx.out.1⟩
            rw [HL.out.2, if_pos]
            unfold erF
            rw [if_pos fun k hk => hx.out.2 k (by rw [HL.out.1] at hk; exact hk)]
          clear hx
          go_wp2_with (fail)
          refine (HBT.out _).mono ?_
          rintro e w2 ⟨rfl, rfl⟩
          rw [← HE.out.1]
          go_wp2
          go_returns
          exact ⟨rfl, HE.out.2⟩
    · subst h12
      have HE : Hid (C = 1) := by unfold Hid; rw [HC.out, etX, if_neg (fun h => hm h.2)]
      have hm' : ((mn : Int) == (n : Int)) = false := by simp; omega
      have hm2 : ¬ (mn : Int) = (n : Int) := by omega
      clear HC
      go_enter Try.func44, Try.ntmps44
      go_wp2
      go_returns
      exact ⟨by rw [HE.out]; rfl, hB1⟩
  · have HE : Hid (C = 1) := by unfold Hid; rw [HC.out, etX, if_neg (fun h => h12 (by rw [HR.out.2]; exact h.1))]
    have hm' : ((xn : Int) == 12) = false := by simp; omega
    have hm2 : ¬ (xn : Int) = 12 := by omega
    clear HC
    go_enter Try.func44, Try.ntmps44
    go_wp2
    go_returns
    exact ⟨by rw [HE.out]; rfl, hB1⟩

set_option maxRecDepth 10000 in
set_option maxHeartbeats 3200000 in
theorem impl_etch1 {W : World} {i : Nat} {ua : Option Addr} {un uc k2 k3 k4 mg mo mn mc rg ro rc : Nat} {c : List Flm} {ra : List Int} {t : Int} {b : Bool} (hc : GC c) (hra : ∀ f, 0 ≤ raO ra f ∧ raO ra f ≤ 1000) (ht : 0 ≤ t ∧ t ≤ 100000)
    (h2 : W.heap[k2]? = some (.cells #[.slice (some ⟨mg, mo, none⟩) mn mc] 26)) (h3 : W.heap[k3]? = some (.cells #[.slice (some ⟨rg, ro, none⟩) 12 rc] 25)) (h4 : W.heap[k4]? = some (.cells #[.int .i64 t] 2))
    (him : i < mn) (hmn : mn ≤ 16) (hmg : mg < W.heap.size) (hb : W.cell? ⟨mg, mo + i, none⟩ = some (.bool b)) (hrg : rg < W.heap.size) (hrc : ∀ k, k < 12 → W.cell? ⟨rg, ro + k, none⟩ = some (.int .i64 (ra.getD k 0))) (h : RG 2 flC W (.slice ua un uc) c) :
    Calls Try.prog 46 #[.int .i64 i, .slice ua un uc, .pointer (some ⟨k2, 0, none⟩), .pointer (some ⟨k3, 0, none⟩), .pointer (some ⟨k4, 0, none⟩)] W fun e w' => ∃ u, e = .returned u ∧ OG 88 1 layC w' W.heap.size u (if b = true then whoL c else ebL c ra t) ∧ Below W.heap.size W w' := by
  have HET : Hid (Calls Try.prog 48 #[.slice ua un uc, .slice (some ⟨rg, ro, none⟩) 12 rc, .int .i64 t] W fun e w' => ∃ u, e = .returned u ∧ OG 88 1 layC w' W.heap.size u (ebL c ra t) ∧ Below W.heap.size W w') := impl_etched hc hra ht hrg hrc h
  have hun : un = c.length := h.len
  have HWH : Hid (Calls Try.prog 47 #[.slice ua un uc] W fun e w' => e = .returned (.slice (some ⟨W.heap.size, 0, none⟩) un un) ∧ OG 88 1 layC w' W.heap.size (.slice (some ⟨W.heap.size, 0, none⟩) un un) (whoL c) ∧ Below W.heap.size W w') := by
    rw [hun] at h ⊢; exact impl_whole (Nat.le_trans hc.len (by omega)) h
  have a0 := cellOf h2 0 rfl
  have a1 := ltOf h2
  have a2 := cellOf h3 0 rfl
  have a3 := ltOf h3
  have a4 := cellOf h4 0 rfl
  have a5 := ltOf h4
  have b0 : (0 : Int) ≤ (i : Int) := by omega
  have b1 : (i : Int) < (mn : Int) := by omega
  clear h h2 h3 h4 hc hra ht hrg hrc hun
  cases b with
  | true =>
    go_enter Try.func46, Try.ntmps46
    go_wp2_with (fail)
    refine HWH.out.mono ?_
    rintro e w1 ⟨rfl, ho, hb1⟩
    have HF : Hid _ := And.intro ho hb1
    clear ho hb1 HET HWH
    go_wp2
    go_returns
    exact ⟨_, rfl, HF.out.1, HF.out.2⟩
  | false =>
    go_enter Try.func46, Try.ntmps46
    go_wp2_with (fail)
    refine HET.out.mono ?_
    rintro e w1 ⟨u, rfl, ho, hb1⟩
    obtain ⟨xa, xc, hue⟩ := ho.form
    obtain ⟨xn, hxn⟩ : ∃ x, x = (ebL c ra t).length := ⟨_, rfl⟩
    rw [← hxn] at hue
    subst hue
    have HF : Hid _ := And.intro ho hb1
    clear ho hb1 HET HWH hxn
    go_wp2
    go_returns
    exact ⟨_, rfl, HF.out.1, HF.out.2⟩

end Go.Proofs.Ytceljakmjddgbab
