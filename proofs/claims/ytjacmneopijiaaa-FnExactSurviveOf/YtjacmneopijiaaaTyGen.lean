/- Proved here: how lists and structs that came in are opened, whatever they are made of. No condition. (And ahead of it: Proved here: ClassBook of the model.) -/
import Derived.Test.YtjacmneopijiaaaVkM
import Derived.Test.YtjacmneopijiaaaRowPut
import Derived.Test.YtjacmneopijiaaaVdS
import Derived.Test.YtjacmneopijiaaaVxS
import Derived.Test.YtjacmneopijiaaaTmC
import Derived.Deep.AppendLies
import Derived.Test.YtjacmneopijiaaaGen
import Derived.OpenShut
import Derived.Lib.SmallJoins
import Derived.Deep.Slices
import Derived.Carry
namespace Go.Proofs.Ytjacmneopijiaaa
open Go.RowKit
set_option linter.unusedVariables false
set_option linter.unusedSimpArgs false

set_option maxRecDepth 10000 in
set_option maxHeartbeats 25600000 in
theorem spec_vk {W : World} {v u : Value} {s : List Dft} {cs : List Cls} (hn : s.length ≤ 1048576) (hm : cs.length ≤ 1048576) (h : RG 4 vdC W v s) (k : RG 6 vcC W u cs) :
    Calls Try.prog 23 #[v, u] W fun e w' => ∃ v, e = .returned (.agg #[.int .i64 (vkC s cs), v]) ∧ IS w' W.heap.size v (vkL s cs) ∧ Below W.heap.size W w' := by
  obtain ⟨da, dc, rfl⟩ := h.form
  obtain ⟨ca, cc, rfl⟩ := k.form
  obtain ⟨C, hC⟩ : ∃ C, C = vkC s cs := ⟨_, rfl⟩
  obtain ⟨L, hL⟩ : ∃ L, L = vkL s cs := ⟨_, rfl⟩
  obtain ⟨dn, hdn⟩ : ∃ n, n = s.length := ⟨_, rfl⟩
  obtain ⟨cn, hcn⟩ : ∃ n, n = cs.length := ⟨_, rfl⟩
  have HF : Hid (∀ X, Below W.heap.size W X → Calls Try.prog 46 #[.slice da dn dc, .slice ca cn cc] X fun e w' => e = .returned (.int .i64 C) ∧ Below X.heap.size X w') := fun X hX => by
    rw [hC, hdn, hcn]; exact spec_vx hn hm (h.below hX) (k.below hX)
  rw [← hdn] at h ⊢
  rw [← hcn] at k ⊢
  rw [← hC, ← hL]
  have H : Hid (RG 4 vdC W (.slice da dn dc) s ∧ RG 6 vcC W (.slice ca cn cc) cs ∧ C = vxF s cs ∧ dn = s.length ∧ cn = cs.length) := ⟨h, k, hC, hdn, hcn⟩
  have HL : Hid (L = vkL s cs) := hL
  clear h k hC hdn hcn hL hn hm
  obtain ⟨k0, hk0⟩ : ∃ k, k = W.heap.size := ⟨_, rfl⟩
  obtain ⟨V0, hV0⟩ : ∃ V, V = W.alloc (.cells #[.int .i64 0, .slice none 0 0] 47) := ⟨_, rfl⟩
  have HB0 : Hid (Below k0 W V0 ∧ V0.heap.size = k0 + 1 ∧ k0 = W.heap.size) := ⟨by rw [hV0, hk0]; (repeat' (first | (with_reducible exact Below.refl _ _) | (with_reducible assumption) | (with_reducible refine Below.setCell ?_ ?_ _) | (with_reducible refine Below.alloc ?_ ?_ _) | (with_reducible refine below_drewN ?_ _) | (with_reducible refine Below.drew ?_) | (with_reducible exact Nat.le_refl _) | omega | (simp; done) | (simp; omega))), by rw [hV0, hk0]; simp, hk0⟩
  have HQ1 : Hid (V0.heap[k0]? = some (.cells #[.int .i64 0, .slice none 0 0] 47)) := by rw [hV0, hk0]; exact heap_alloc_new W _
  have HV0 : Hid (V0 = W.alloc (.cells #[.int .i64 0, .slice none 0 0] 47) ∧ k0 = W.heap.size) := ⟨hV0, hk0⟩
  clear hV0 hk0
  go_enter Try.func23, Try.ntmps23
  go_wp2_with (fail)
  rw [← HV0.out.1, ← HV0.out.2]
  clear HV0
  refine (HF.out _ (by rw [← HB0.out.2.2]; exact HB0.out.1)).mono ?_
  rintro e w1 ⟨rfl, hb1⟩
  have HB1 : Hid (Below k0 W w1) := HB0.out.1.trans (hb1.mono (by have := HB0.out.2; omega))
  have q1 := (hb1.block k0 (by have := HB0.out.2; omega)).trans HQ1.out
  have HKW : Hid (k0 = W.heap.size ∧ k0 + 1 ≤ w1.heap.size) := ⟨HB0.out.2.2, by have := hb1.size; have := HB0.out.2; omega⟩
  clear hb1 HQ1 HB0 HF
  by_cases hc : C = 0
  case neg =>
    have hc2 : (C != 0) = true := by simp [hc]
    have HE : Hid (L = []) := by unfold Hid; rw [HL.out]; exact vkL_bad (by rw [← H.out.2.2.1]; exact hc)
    have z0 : w1.cell? ⟨k0, 0, none⟩ = some (.int .i64 0) := cellOf q1 0 rfl
    have z1 : w1.cell? ⟨k0, 1, none⟩ = some (.slice none 0 0) := cellOf q1 1 rfl
    have zf0 := frozOf q1 0
    have zf1 := frozOf q1 1
    have zl := ltOf q1
    have e1 : (w1.setCell ⟨k0, 0, none⟩ (.int .i64 C)).cell? ⟨k0, 0, none⟩ = some (.int .i64 C) := cellOf (tset2 (b' := .int .i64 0) q1).1 0 rfl
    have e2 : ((w1.setCell ⟨k0, 0, none⟩ (.int .i64 C)).setCell ⟨k0, 1, none⟩ (.slice none 0 0)).cell? ⟨k0, 1, none⟩ = some (.slice none 0 0) := cellOf (tset2 q1).2 1 rfl
    have e3 : ((w1.setCell ⟨k0, 0, none⟩ (.int .i64 C)).setCell ⟨k0, 1, none⟩ (.slice none 0 0)).cell? ⟨k0, 0, none⟩ = some (.int .i64 C) := cellOf (tset2 q1).2 0 rfl
    clear q1 hc
    go_wp2
    refine bodyPost_ret (by simp [results, Try.results23, go_sem, e1, e2, e3, zl]; try rfl) rfl ?_
    refine ⟨.slice none 0 0, rfl, ?_, ?_⟩
    · rw [HE.out]; exact World.ownsRow_nil _ _ _ _
    · rw [← HKW.out.1]
      exact (HB1.out.setCell (Nat.le_refl _) _).setCell (Nat.le_refl _) _
  obtain ⟨hf1, hf2⟩ := vxF_ok (s := s) (cs := cs) (by rw [← H.out.2.2.1]; exact hc)
  have hdok := vdF_ok hf1
  have hcok := vcF_ok hf2
  have HL2 : Hid (L = vkT cs s dn (cn + 1)) := by unfold Hid; rw [HL.out, vkL_ok (by rw [← H.out.2.2.1]; exact hc), H.out.2.2.2.1, H.out.2.2.2.2]
  have hdb : dn ≤ 60 := by rw [H.out.2.2.2.1]; exact hdok.1
  have hcb : cn ≤ 20 := by rw [H.out.2.2.2.2]; exact hcok.1
  clear HL hf1 hf2
  subst hc
  obtain ⟨i0, hi, hz0, hz1, hz2⟩ := info_parts info_i64
  have hA1 : (0 : Int) ≤ (cn : Int) := by omega
  obtain ⟨g, hg⟩ : ∃ g, g = w1.heap.size := ⟨_, rfl⟩
  have HGG : Hid (g = w1.heap.size) := hg
  clear hg
  go_wp2_with (at_make; refine wpList_make_full _ rfl _ _ 45 rfl w1.heap.size 2 i0 (.int .i64 0) 1 Try.underlying45 hi hz0 hz1 _ _ _ _ (cn + 1) rfl rfl (by simp) (by simp) (by rw [hz2]; omega) (by unfold maxLen; omega) (Nat.le_refl _) ?_; intro w2 hown2 hgrow2; have HB2 : Hid (Below w1.heap.size w1 w2) := (Below.refl _ _).grown hgrow2 (Nat.le_refl _) (fun k h => by cases h))
  rw [← HGG.out] at hown2 ⊢
  have HS0 : Hid (IS w2 g (.slice (some ⟨g, 0, none⟩) (cn + 1) (cn + 1)) (vkT cs s 0 (cn + 1)) ∧ Below w1.heap.size w1 w2) := ⟨by rw [vkT_zero]; exact IS.made hown2, HB2.out⟩
  obtain ⟨m, hm⟩ : ∃ m, m = cn + 1 := ⟨_, rfl⟩
  have HM : Hid (m = cn + 1) := hm
  rw [← hm] at HS0 HL2 ⊢
  have HQ1 : Hid (w1.heap[k0]? = some (.cells #[.int .i64 0, .slice none 0 0] 47)) := q1
  clear hown2 hgrow2 HB2 hm q1
  go_loopw [7] (fun i wr => ∃ j : Nat, j ≤ dn ∧ i = .int .i64 j ∧ Hid (IS wr g (.slice (some ⟨g, 0, none⟩) m m) (vkT cs s j m) ∧ Below w1.heap.size w1 wr)) (fun i _ => dn - (intOf i).toNat)
  case atStart => exact ⟨0, Nat.zero_le _, rfl, HS0.out⟩
  case round =>
    clear HS0
    obtain ⟨j, hj, rfl, hR⟩ := hrel
    have hBW : Below W.heap.size W wr := by rw [← HKW.out.1]; exact HB1.out.trans (hR.out.2.mono (by have := HKW.out.2; omega))
    by_cases hlt : j < dn
    · have hjl : j < s.length := by rw [← H.out.2.2.2.1]; exact hlt
      obtain ⟨gd, od, c2, he, hgd, hjc⟩ := (H.out.1.below hBW).pos (by omega)
      simp only [Value.slice.injEq] at he
      obtain ⟨rfl, hx1, hx2⟩ := he
      clear hx1 hx2
      obtain ⟨c0, c1, c2', c3⟩ := vdC_at (hjc j hjl)
      obtain ⟨d, hd⟩ : ∃ d, d = s[j] := ⟨_, rfl⟩
      rw [← hd] at c0 c1 c2' c3
      obtain ⟨R, hRR⟩ : ∃ R, R = vff d cs := ⟨_, rfl⟩
      obtain ⟨Y, hY⟩ : ∃ Y, Y = vcl d cs := ⟨_, rfl⟩
      have HYY : Hid (Y = if R < cn then (R : Int) else -1) := by unfold Hid; rw [hY, hRR, H.out.2.2.2.2]; rfl
      have HCL : Hid (Calls Try.prog 43 #[.agg #[.int .i64 d.x, .int .i64 d.y, .int .i64 d.z, .int .i64 d.k], .slice ca cn cc] wr fun e w' => e = .returned (.int .i64 Y) ∧ Below wr.heap.size wr w') := by
        rw [hY]; exact spec_cl d hcok.1 (H.out.2.1.below hBW)
      have hRm : R < m := by have h9 := vff_le d cs; rw [← hRR, ← H.out.2.2.2.2] at h9; have := HM.out; omega
      obtain ⟨X, hX⟩ : ∃ X, X = vkN cs (s.take j) R := ⟨_, rfl⟩
      have hXb : 0 ≤ X ∧ X ≤ 60 := by
        rw [hX]
        have h9 := vkN_bd cs (s.take j) R
        have h8 : (s.take j).length ≤ j := by simp; omega
        omega
      have HV : Hid ((vkT cs s j m)[R]? = some X ∧ vkT cs s (j + 1) m = (vkT cs s j m).set R (X + 1)) := by
        refine ⟨by rw [vkT_at hRm, hX], ?_⟩
        rw [hX, hRR, hd]
        exact vkT_succ hjl (by rw [← hd, ← hRR]; exact hRm)
      have HRS : Hid (IS wr g (.slice (some ⟨g, 0, none⟩) m m) (vkT cs s j m) ∧ Below w1.heap.size w1 wr) := hR.out
      clear hjc hd hRR hY hX hR hBW
      have b0 : (0 : Int) ≤ (j : Int) := by omega
      have b1 : (j : Int) < (dn : Int) := by omega
      go_wp2_with (fail)
      refine HCL.out.mono ?_
      rintro e w3 ⟨rfl, hb3⟩
      have HS3 : Hid (IS w3 g (.slice (some ⟨g, 0, none⟩) m m) (vkT cs s j m) ∧ Below w1.heap.size w1 w3) := ⟨HRS.out.1.bel hb3, HRS.out.2.trans (hb3.mono HRS.out.2.size)⟩
      obtain ⟨t1, tf⟩ := HS3.out.1.cellAt HV.out.1
      have tl := (HS3.out.1.lt g rfl).2
      have HSN : Hid (IS (w3.setCell ⟨g, R, none⟩ (.int .i64 (X + 1))) g (.slice (some ⟨g, 0, none⟩) m m) (vkT cs s (j + 1) m) ∧ Below w1.heap.size w1 (w3.setCell ⟨g, R, none⟩ (.int .i64 (X + 1)))) :=
        ⟨by rw [HV.out.2]; exact HS3.out.1.put R (X + 1), HS3.out.2.setCell (by rw [← HGG.out]; exact Nat.le_refl _) _⟩
      clear hb3 HCL HRS HS3 HV c0 c1 c2' c3 hgd
      have b2 : (0 : Int) ≤ (R : Int) := by omega
      have b3 : (R : Int) < (m : Int) := by omega
      by_cases hr : R < cn
      · have hY1 : Y = (R : Int) := by rw [HYY.out, if_pos hr]
        have b4 : ¬ (R : Int) < 0 := by omega
        subst hY1
        clear HYY hr
        go_wp2
        go_roundw
        case rel => exact ⟨j + 1, by omega, by go_num, HSN.out⟩
        case measure => simp [intOf]; omega
      · have hY1 : Y = -1 := by rw [HYY.out, if_neg hr]
        obtain rfl : R = cn := by have := HM.out; omega
        subst hY1
        clear HYY hr
        go_wp2
        go_roundw
        case rel => exact ⟨j + 1, by omega, by go_num, HSN.out⟩
        case measure => simp [intOf]; omega
    · obtain rfl : j = dn := by omega
      have HD : Hid (IS wr g (.slice (some ⟨g, 0, none⟩) m m) L ∧ Below k0 W wr) := ⟨by rw [HL2.out]; exact hR.out.1, HB1.out.trans (hR.out.2.mono (by have := HKW.out.2; omega))⟩
      have q2 := (hR.out.2.block _ (ltOf HQ1.out)).trans HQ1.out
      have HGK : Hid (g ≠ k0 ∧ k0 ≤ g) := by have := HKW.out.2; have := HGG.out; exact ⟨by omega, by omega⟩
      have z0 : wr.cell? ⟨k0, 0, none⟩ = some (.int .i64 0) := cellOf q2 0 rfl
      have z1 : wr.cell? ⟨k0, 1, none⟩ = some (.slice none 0 0) := cellOf q2 1 rfl
      have zf0 := frozOf q2 0
      have zf1 := frozOf q2 1
      have zl := ltOf q2
      have e1 : (wr.setCell ⟨k0, 0, none⟩ (.int .i64 0)).cell? ⟨k0, 0, none⟩ = some (.int .i64 0) := cellOf (tset2 (b' := .int .i64 0) q2).1 0 rfl
      have e2 : ((wr.setCell ⟨k0, 0, none⟩ (.int .i64 0)).setCell ⟨k0, 1, none⟩ (.slice (some ⟨g, 0, none⟩) m m)).cell? ⟨k0, 1, none⟩ = some (.slice (some ⟨g, 0, none⟩) m m) := cellOf (tset2 q2).2 1 rfl
      have e3 : ((wr.setCell ⟨k0, 0, none⟩ (.int .i64 0)).setCell ⟨k0, 1, none⟩ (.slice (some ⟨g, 0, none⟩) m m)).cell? ⟨k0, 0, none⟩ = some (.int .i64 0) := cellOf (tset2 q2).2 0 rfl
      clear q2 hR hBW hlt
      go_wp2
      refine bodyPost_ret (by simp [results, Try.results23, go_sem, e1, e2, e3, zl]; try rfl) rfl ?_
      refine ⟨_, rfl, ?_, ?_⟩
      · refine IS.low (A := W.heap.size) ?_ (by rw [← HKW.out.1]; exact HGK.out.2)
        refine HD.out.1.kept (fun q hq => ?_)
        have h9 : q = g := by injection hq with hq; exact hq.symm
        subst h9
        rw [heap_setCell_other _ _ _ _ (by simpa using HGK.out.1), heap_setCell_other _ _ _ _ (by simpa using HGK.out.1)]
      · rw [← HKW.out.1]
        exact (HD.out.2.setCell (Nat.le_refl _) _).setCell (Nat.le_refl _) _

end Go.Proofs.Ytjacmneopijiaaa

namespace Go.Proofs.Ytjacmneopijiaaa
open Go.ChangeShapes Go.WideShapes Go.ChangeAt Go.RowKit Go.Joins Go.Deep
set_option linter.unusedVariables false
set_option linter.unusedSimpArgs false

/-- A struct of one-cell fields among the cells of an element. -/
theorem trod_fields {H : Type} {enc : TypeId × Value → H} {P : Program} {w : World} {base : Nat} {spare : Nat → Bool} {held : Bool} {t : TypeId} {fs : Array Field} {fuel : Nat} {cs : List Value} {x : DataW H × List MemPlace}
    (hs : P.underlying t = some (.struct fs)) (hone : oneCellFields P fs = true) (hC : P.cellsOf t = fs.size) (h : DataW.trod enc P w base spare held fuel t cs = some x) :
    ∃ n, cs.length = fs.size ∧ ∀ (i : Nat) (f : Field), fs[i]? = some f → ∃ c y, cs[i]? = some c ∧ DataW.trod enc P w base spare held n f.type [c] = some y := by
  obtain ⟨xs, n, _, hx, hl, hlen, hg⟩ := DataW.trod_struct hs h
  refine ⟨n, hl.trans hC, fun i f hi => ?_⟩
  obtain ⟨ho, hk⟩ := hone_of hone i f hi
  have hlt : i < fs.size := (Array.getElem?_eq_some_iff.1 hi).1
  have hil : i < cs.length := by rw [hl, hC]; exact hlt
  have := hg i f hi
  rw [ho, hk] at this
  have e : (cs.drop i).take 1 = [cs[i]] := by
    rw [List.drop_eq_getElem_cons hil]
    rfl
  rw [e, List.getElem?_eq_getElem (by omega)] at this
  exact ⟨cs[i], _, List.getElem?_eq_getElem hil, this⟩

/-- A list, element by element. -/
theorem rg_of_trod {α : Type} {H : Type} {enc : TypeId × Value → H} {W : World} {T E k : Nat} {en : α → List Value} {Q : α → Prop} (hT : Try.prog.underlying T = some (.slice E)) (hk : Try.prog.cellsOf E = k) (hpos : 0 < k) (hen : ∀ a, (en a).length = k) [Nonempty α]
    (hE : ∀ (fuel : Nat) (cs : List Value) (x : DataW H × List MemPlace), DataW.trod enc Try.prog W 0 (fun _ => true) true fuel E cs = some x → ∃ a, cs = en a ∧ Q a)
    {fuel : Nat} {cs : List Value} {x : DataW H × List MemPlace} (h : DataW.trod enc Try.prog W 0 (fun _ => true) true fuel T cs = some x) :
    ∃ (a : Option Addr) (n c : Nat) (s : List α), cs = [.slice a n c] ∧ RG k en W (.slice a n c) s ∧ s.length ≤ maxLen ∧ ∀ j (h : j < s.length), Q s[j] := by
  rcases open_slice hT h with ⟨hcs, _⟩ | ⟨x, len, cap, m, n, D, Pl, hcs, _, hl, hm, hmm, _, hx⟩
  · exact ⟨none, 0, 0, [], hcs, RG.nil _ _ _ _ _, by simp, fun j h => by simp at h⟩
  · simp only [if_true] at hmm
    subst hmm
    rw [hk] at hx
    have each : ∀ i, i < len → ∃ b : α, Q b ∧ ∀ j, j < k → W.cell? (x.add (i * k + j)) = (en b)[j]? := by
      intro i hi
      obtain ⟨cs', h1, h2⟩ := hx i (by omega)
      obtain ⟨_, _, hcell⟩ := World.cells?_some h1
      obtain ⟨b, rfl, hQ⟩ := hE _ _ _ h2
      refine ⟨b, hQ, fun j hj => ?_⟩
      rw [← add_add]; exact hcell j hj
    rcases Nat.eq_zero_or_pos len with h0 | hp
    · subst h0
      exact ⟨_, 0, _, [], hcs, RG.nil _ _ _ _ _, by simp, fun j h => by simp at h⟩
    · obtain ⟨b0, _, hb0⟩ := each 0 hp
      obtain ⟨g, off, spt⟩ := x
      have h00 := hb0 0 hpos
      rw [List.getElem?_eq_getElem (by rw [hen]; exact hpos)] at h00
      have hspt : spt = none := by simpa [Addr.add] using World.cell?_spot h00
      subst hspt
      have hadd : ∀ j, (⟨g, off, none⟩ : Addr).add j = ⟨g, off + j, none⟩ := fun j => by unfold Addr.add; split <;> simp_all
      have each' : ∀ i, ∃ b : α, i < len → Q b ∧ ∀ j, j < k → W.cell? ⟨g, off + (i * k + j), none⟩ = (en b)[j]? := by
        intro i
        by_cases hi : i < len
        · obtain ⟨b, hQ, hb⟩ := each i hi
          exact ⟨b, fun _ => ⟨hQ, fun j hj => by rw [← hadd]; exact hb j hj⟩⟩
        · obtain ⟨b⟩ := ‹Nonempty α›
          exact ⟨b, fun h => absurd h hi⟩
      let f : Nat → α := fun i => Classical.choose (each' i)
      have hf' : ∀ i, i < len → Q (f i) ∧ ∀ j, j < k → W.cell? ⟨g, off + (i * k + j), none⟩ = (en (f i))[j]? := fun i => Classical.choose_spec (each' i)
      refine ⟨_, len, _, (List.range len).map f, hcs, ⟨_, _, by simp; rfl, fun _ => ⟨g, off, rfl, ?_, fun j hj i hi => ?_⟩⟩, by simpa using Nat.le_trans hl hm, fun j hj => ?_⟩
      · have := (hf' 0 hp).2 0 hpos
        rw [List.getElem?_eq_getElem (by rw [hen]; exact hpos)] at this
        exact World.block_lt_of_cell? W ⟨g, off + (0 * k + 0), none⟩ this
      · simp at hj
        have := (hf' j hj).2 i hi
        rw [Nat.add_assoc, this]
        simp
      · simp at hj
        have := (hf' j hj).1
        simpa using this


end Go.Proofs.Ytjacmneopijiaaa
