/- Proved here: the program's firstNaming: the first naming that fits. -/
import Derived.Test.YtbfieehlekgjeaaNsM
namespace Go.Proofs.Ytbfieehlekgjeaa
open Go.RowKit
set_option linter.unusedVariables false
set_option linter.unusedSimpArgs false

/-- What a search answers. -/
def FR (r : Option (List Int)) (w : World) (B : Nat) (v : Value) (b : Bool) : Prop :=
  match r with
  | some xs => b = true ∧ IS w B v xs
  | none => b = false
theorem FR.below {r : Option (List Int)} {w w' : World} {B : Nat} {v : Value} {b : Bool} (h : FR r w B v b) (hb : Below w.heap.size w w') : FR r w' B v b := by
  cases r with
  | none => exact h
  | some xs => exact ⟨h.1, h.2.bel hb⟩
theorem FR.low {r : Option (List Int)} {w : World} {A B : Nat} {v : Value} {b : Bool} (h : FR r w B v b) (hab : A ≤ B) : FR r w A v b := by
  cases r with
  | none => exact h
  | some xs => exact ⟨h.1, h.2.low hab⟩

set_option maxRecDepth 10000 in
set_option maxHeartbeats 6400000 in
theorem impl_first (n : Nat) (M : Int) (a b : List Dv) (ga : NlGood (n : Int) a) (gb : NlGood M b) : ∀ (f : Nat) (so : List Int) (w : World) (B : Nat) (va vb vn : Value), f + so.length = n → Beg n so → RD w va a → RD w vb b → IS w B vn so → B ≤ w.heap.size →
    Calls Try.prog 58 #[.agg #[.int .i64 (n : Int), va], .agg #[.int .i64 M, vb], vn] w fun e w' => ∃ v q, e = .returned (.tuple #[v, .bool q]) ∧ FR (srch (fun so => sdB so a b) n f so) w' B v q ∧ Below w.heap.size w w' := by
  intro f
  induction f with
  | zero =>
    intro so w B va vb vn hf hso ha hb hn hB
    obtain ⟨aa, ca, rfl⟩ := ha.form
    obtain ⟨ab, cb, rfl⟩ := hb.form
    obtain ⟨an, cn, rfl⟩ := hn.form
    have hl : so.length = n := by omega
    rw [hl] at hn ⊢
    have hs := fun W (hW : Below w.heap.size w W) => impl_same (n : Int) M ga gb (by rw [hl]) (ha.below hW) (hb.below hW) (hn.rg.below hW)
    obtain ⟨D, hD⟩ : ∃ D, D = sdB so a b := ⟨_, rfl⟩
    rw [← hD] at hs
    have H : Hid ((∀ W, Below w.heap.size w W → Calls Try.prog 56 #[.agg #[.int .i64 (n : Int), .slice aa a.length ca], .agg #[.int .i64 M, .slice ab b.length cb], .slice an n cn] W fun e w' => e = .returned (.bool D) ∧ Below W.heap.size W w') ∧ IS w B (.slice an n cn) so ∧ D = sdB so a b) := ⟨hs, hn, hD⟩
    obtain ⟨la, hla⟩ : ∃ la, la = a.length := ⟨_, rfl⟩
    obtain ⟨lb, hlb⟩ : ∃ lb, lb = b.length := ⟨_, rfl⟩
    rw [← hla, ← hlb] at H ⊢
    clear hs hn hD ha hb hso ga gb hla hlb hf hl
    go_enter Try.func58, Try.ntmps58
    go_wp2_with (fail)
    refine (H.out.1 _ (by (repeat' (first | (with_reducible exact Below.refl _ _) | (with_reducible assumption) | (with_reducible refine Below.setCell ?_ ?_ _) | (with_reducible refine Below.alloc ?_ ?_ _) | (with_reducible refine below_drewN ?_ _) | (with_reducible refine Below.drew ?_) | (with_reducible exact Nat.le_refl _) | omega | (simp; done) | (simp; omega))))).mono ?_
    rintro e w1 ⟨rfl, hb1⟩
    have HB : Hid (Below w.heap.size w w1) := (show Below w.heap.size w _ from by (repeat' (first | (with_reducible exact Below.refl _ _) | (with_reducible assumption) | (with_reducible refine Below.setCell ?_ ?_ _) | (with_reducible refine Below.alloc ?_ ?_ _) | (with_reducible refine below_drewN ?_ _) | (with_reducible refine Below.drew ?_) | (with_reducible exact Nat.le_refl _) | omega | (simp; done) | (simp; omega)))).trans (hb1.mono (by simp; omega))
    clear hb1
    go_wp2
    go_returns
    refine ⟨_, _, rfl, ?_, HB.out⟩
    show FR (if sdB so a b = true then some so else none) w1 B (.slice an n cn) D
    rw [← H.out.2.2]
    cases D with
    | true => rw [if_pos rfl]; exact ⟨rfl, H.out.2.1.bel HB.out⟩
    | false => rw [if_neg (by simp)]; exact rfl
  | succ f ih =>
    intro so w B va vb vn hf hso ha hb hn hB
    obtain ⟨aa, ca, rfl⟩ := ha.form
    obtain ⟨ab, cb, rfl⟩ := hb.form
    obtain ⟨an, cn, rfl⟩ := hn.form
    obtain ⟨la, hla⟩ : ∃ la, la = a.length := ⟨_, rfl⟩
    obtain ⟨lb, hlb⟩ : ∃ lb, lb = b.length := ⟨_, rfl⟩
    obtain ⟨ls, hls⟩ : ∃ ls, ls = so.length := ⟨_, rfl⟩
    obtain ⟨R, hR⟩ : ∃ R, R = srch (fun so => sdB so a b) n (f + 1) so := ⟨_, rfl⟩
    obtain ⟨G, hG⟩ : ∃ G : Nat → Option (List Int), G = fun v : Nat => if (v : Int) ∈ so then none else srch (fun so => sdB so a b) n f (so ++ [(v : Int)]) := ⟨_, rfl⟩
    have hRG : R = (List.range n).findSome? G := by rw [hR, hG]; rfl
    have hn7 : n ≤ 7 := by have := ga.n7; omega
    have hlsn : ls < n := by omega
    have hne : ¬ (ls : Int) = (n : Int) := by omega
    have hneb : ((ls : Int) == (n : Int)) = false := by simpa using hne
    rw [← hla] at ha ⊢
    rw [← hlb] at hb ⊢
    rw [← hls] at hn hf ⊢
    rw [← hR]
    have IH : Hid (∀ (so : List Int) (w : World) (B : Nat) (va vb vn : Value), f + so.length = n → Beg n so → RD w va a → RD w vb b → IS w B vn so → B ≤ w.heap.size →
    Calls Try.prog 58 #[.agg #[.int .i64 (n : Int), va], .agg #[.int .i64 M, vb], vn] w fun e w' => ∃ v q, e = .returned (.tuple #[v, .bool q]) ∧ FR (srch (fun so => sdB so a b) n f so) w' B v q ∧ Below w.heap.size w w') := ih
    have H : Hid ((RD w (.slice aa la ca) a ∧ RD w (.slice ab lb cb) b ∧ IS w B (.slice an ls cn) so) ∧ (ls = so.length ∧ f + 1 + ls = n ∧ Beg n so ∧ B ≤ w.heap.size) ∧ R = (List.range n).findSome? G ∧ (∀ v : Nat, (v : Int) ∈ so → G v = none) ∧ (∀ v : Nat, ¬ (v : Int) ∈ so → G v = srch (fun so => sdB so a b) n f (so ++ [(v : Int)]))) := ⟨⟨ha, hb, hn⟩, ⟨hls, hf, hso, hB⟩, hRG, fun v hv => by rw [hG]; exact if_pos hv, fun v hv => by rw [hG]; exact if_neg hv⟩
    clear ih ha hb hn hB hso hf hls hR hG hRG hla hlb ga gb
    obtain ⟨i0, hi, hz0, hz1, hz2⟩ := info_parts info_i64
    go_enter Try.func58, Try.ntmps58
    go_wp2
    go_loopw [23] (fun i wr => ∃ k : Nat, k ≤ n ∧ i = .int .i64 k ∧ Hid (B2 w (n : Int) M (.slice aa la ca) (.slice ab lb cb) wr ∧ ∀ v, v < k → G v = none)) (fun i _ => n - (intOf i).toNat)
    case atStart => exact ⟨0, Nat.zero_le _, rfl, B2.new w _ _ _ _, fun v hv => by omega⟩
    case round =>
      obtain ⟨k, hk, rfl, hQ⟩ := hrel
      by_cases hlt : k < n
      · have HR : Hid (B2 w (n : Int) M (.slice aa la ca) (.slice ab lb cb) wr ∧ ∀ v, v < k → G v = none) := hQ.out
        clear hQ
        have b1 : (k : Int) < (n : Int) := by omega
        go_wp2_with (fail)
        refine (sl_contains (k : Int) (by rw [← H.out.2.1.1]; omega) (H.out.1.2.2.rg.below HR.out.1.bl)).mono ?_
        rintro e w1 ⟨rfl, hb1⟩
        have HB1 : Hid (B2 w (n : Int) M (.slice aa la ca) (.slice ab lb cb) w1) := HR.out.1.next hb1
        clear hb1
        by_cases hm : (k : Int) ∈ so
        · have HP : Hid (∀ v, v < k + 1 → G v = none) := fun v hv => by
            rcases (by omega : v < k ∨ v = k) with e | rfl
            · exact HR.out.2 v e
            · exact H.out.2.2.2.1 v hm
          have hdec : decide ((k : Int) ∈ so) = true := decide_eq_true hm
          rw [hdec]
          clear hm hdec
          go_wp2
          go_roundw
          case rel => exact ⟨k + 1, by omega, by go_num, HB1.out, HP.out⟩
          case measure => simp [intOf]; omega
        · have hdec : decide ((k : Int) ∈ so) = false := decide_eq_false hm
          rw [hdec]
          have HM : Hid (Beg n (so ++ [(k : Int)]) ∧ G k = srch (fun so => sdB so a b) n f (so ++ [(k : Int)]) ∧ f + (so ++ [(k : Int)]).length = n) := ⟨H.out.2.1.2.2.1.push (by rw [← H.out.2.1.1]; exact hlsn) hlt hm, H.out.2.2.2.2 k hm, by have := H.out.2.1.2.1; have := H.out.2.1.1; simp; omega⟩
          clear hm hdec
          obtain ⟨a0, a1, b0, b1', l1, l2⟩ := SB2_two HB1.out.bx
          have HCL : Hid (∀ W, Below w1.heap.size w1 W → Calls Try.prog 78 #[.slice an ls cn] W fun e w' => ∃ v', e = .returned v' ∧ IS w' W.heap.size v' so ∧ Below W.heap.size W w') := fun W hW => sl_clone (by rw [← H.out.2.1.1]; omega) ((H.out.1.2.2.bel HB1.out.bl).bel hW)
          have hsol : so.length ≤ 7 := by rw [← H.out.2.1.1]; omega
          have HRC : Hid (∀ (W : World) (v2 : Value) (C : Nat), Below w1.heap.size w1 W → IS W C v2 (so ++ [(k : Int)]) → C ≤ W.heap.size → Calls Try.prog 58 #[.agg #[.int .i64 (n : Int), .slice aa la ca], .agg #[.int .i64 M, .slice ab lb cb], v2] W fun e w' => ∃ v q, e = .returned (.tuple #[v, .bool q]) ∧ FR (G k) w' C v q ∧ Below W.heap.size W w') := fun W v2 C hW hI hC => by
            rw [HM.out.2.1]
            have hbw := HB1.out.bl.trans (hW.mono HB1.out.bl.size)
            exact IH.out (so ++ [(k : Int)]) W C _ _ v2 HM.out.2.2 HM.out.1 (H.out.1.1.below hbw) (H.out.1.2.1.below hbw) hI hC
          go_upto_region 7 with (fail)
          go_cut [9, 10] from 24 to 42 (fun s9 s10 wx => ∃ v q, v = s9 ∧ s10 = .bool q ∧ Hid (FR (G k) wx w1.heap.size v q ∧ Below w1.heap.size w1 wx))
          case first =>
            refine wp_region_float (by kernel_rfl) (fun hS => ?_)
            refine fl_take (i := 0) (d := 30) (v := .agg #[.int .i64 (n : Int), .slice aa la ca]) rfl rfl rfl (by kernel_rfl) (by kernel_rfl) (by kernel_rfl) hS ?_ ?_
            · intro w' hk; go_simp
            simp only [Act.put, List.setIfInBounds_toArray, List.set_cons_zero, List.set_cons_succ]
            refine fl_take (i := 1) (d := 31) (v := .agg #[.int .i64 M, .slice ab lb cb]) rfl rfl rfl (by kernel_rfl) (by kernel_rfl) (by kernel_rfl) hS ?_ ?_
            · intro w' hk; go_simp
            simp only [Act.put, List.setIfInBounds_toArray, List.set_cons_zero, List.set_cons_succ]
            refine fl_take (i := 2) (d := 32) (v := .slice an ls cn) rfl rfl rfl (by kernel_rfl) (by kernel_rfl) (by kernel_rfl) hS ?_ ?_
            · intro w' hk; go_simp
            simp only [Act.put, List.setIfInBounds_toArray, List.set_cons_zero, List.set_cons_succ]
            refine fl_take (i := 4) (d := 34) (v := .int .i64 (k : Int)) rfl rfl rfl (by kernel_rfl) (by kernel_rfl) (by kernel_rfl) hS ?_ ?_
            · intro w' hk; go_simp
            simp only [Act.put, List.setIfInBounds_toArray, List.set_cons_zero, List.set_cons_succ]
            refine wpAnyH_all (rs := [3, 5]) (by kernel_rfl) (by simp) ?_
            intro i hi'
            rcases (by simpa using hi' : i = 3 ∨ i = 5) with rfl | rfl
            · refine op_call (d := 33) rfl rfl rfl (by go_simp) ((HCL.out _ (Below.refl _ _).drew).mono ?_)
              rintro e w2 ⟨v2, rfl, hi2, hb2⟩
              have hK2 := hS.call hb2
              refine ⟨_, rfl, hK2, ?_⟩
              simp only [Act.put, List.setIfInBounds_toArray, List.set_cons_zero, List.set_cons_succ]
              refine wpAnyH_all (rs := [5]) (by kernel_rfl) (by simp) ?_
              intro i hi'
              obtain rfl : i = 5 := by simpa using hi'
              have hVB : Below w1.heap.size w1 (w2.alloc (.cells #[.int .i64 (k : Int)] 2)) := hK2.2.alloc hK2.2.size _
              have hnew : (w2.alloc (.cells #[.int .i64 (k : Int)] 2)).heap[w2.heap.size]? = some (.cells #[.int .i64 (k : Int)] 2) := heap_alloc_new w2 _
              have hown0 : (w2.alloc (.cells #[.int .i64 (k : Int)] 2)).ownsRow w1.heap.size 2 1 v2 so.length (so.map (Value.int .i64)) := hi2.bel (by (repeat' (first | (with_reducible exact Below.refl _ _) | (with_reducible assumption) | (with_reducible refine Below.setCell ?_ ?_ _) | (with_reducible refine Below.alloc ?_ ?_ _) | (with_reducible refine below_drewN ?_ _) | (with_reducible refine Below.drew ?_) | (with_reducible exact Nat.le_refl _) | omega | (simp; done) | (simp; omega))))
              have hsz : w1.heap.size ≤ (w2.alloc (.cells #[.int .i64 (k : Int)] 2)).heap.size := hVB.size
              refine op_val (d := 35) (v := .slice (some ⟨w2.heap.size, 0, none⟩) 1 1) (w' := w2.alloc (.cells #[.int .i64 (k : Int)] 2)) rfl rfl rfl (by go_simp; try rfl) ?_
              simp only [Act.put, List.setIfInBounds_toArray, List.set_cons_zero, List.set_cons_succ]
              refine ⟨KS.of hVB, wpAnyH_all (rs := [6]) (by kernel_rfl) (by simp) ?_⟩
              intro i hi'
              obtain rfl : i = 6 := by simpa using hi'
              refine op_appL rfl rfl rfl _ _ 46 rfl w1.heap.size 2 i0 (.int .i64 0) 1 8 Try.underlying46 hi hz0 hz1 hz2 rfl (by decide) v2 _ _ rfl hown0 ⟨w2.heap.size, 0, none⟩ 1 1 [.int .i64 (k : Int)] rfl rfl (World.news_of_block hnew) (by simp [Value.oneCell']) (by omega) (by unfold maxLen; omega) (by omega) hsz ?_
              intro gg cap w4 hown1 hgrow1 hlie hlt2
              simp only [Act.put, List.setIfInBounds_toArray, List.set_cons_zero, List.set_cons_succ]
              have hi4 : IS w4 w1.heap.size (.slice (some ⟨gg, 0, none⟩) (so.length + 1) cap) (so ++ [(k : Int)]) := by
                unfold IS
                rw [List.map_append, List.length_append]
                exact hown1
              have hb4 : Below w1.heap.size w1 w4 := hVB.grown hgrow1 hVB.size (fun q hq => (World.ownsRow.lt hown0 q hq).1)
              have hK4 : KS w1 w4 := KS.of hb4
              refine ⟨hK4, wpAnyH_all (rs := [7]) (by kernel_rfl) (by simp) ?_⟩
              intro i hi'
              obtain rfl : i = 7 := by simpa using hi'
              refine op_call (d := 37) rfl rfl rfl (by go_simp) ((HRC.out w4 _ w1.heap.size hb4 hi4 hb4.size).mono ?_)
              rintro e w5 ⟨v5, q5, rfl, hf5, hb5⟩
              have hK5 := hK4.call hb5
              refine ⟨_, rfl, hK5, ?_⟩
              simp only [Act.put, List.setIfInBounds_toArray, List.set_cons_zero, List.set_cons_succ]
              refine wpAnyH_all (rs := [8]) (by kernel_rfl) (by simp) ?_
              intro i hi'
              obtain rfl : i = 8 := by simpa using hi'
              refine op_val (d := 29) (v := .tuple #[v5, .bool q5]) (w' := w5) rfl rfl rfl (by go_simp) ?_
              simp only [Act.put, List.setIfInBounds_toArray, List.set_cons_zero, List.set_cons_succ]
              refine ⟨hK5, ?_⟩
              have hS := hK5
              refine fl_take (i := 9) (d := 38) (v := v5) rfl rfl rfl (by kernel_rfl) (by kernel_rfl) (by kernel_rfl) hS ?_ ?_
              · intro w' hk; go_simp
              simp only [Act.put, List.setIfInBounds_toArray, List.set_cons_zero, List.set_cons_succ]
              refine fl_take (i := 10) (d := 39) (v := .bool q5) rfl rfl rfl (by kernel_rfl) (by kernel_rfl) (by kernel_rfl) hS ?_ ?_
              · intro w' hk; go_simp
              simp only [Act.put, List.setIfInBounds_toArray, List.set_cons_zero, List.set_cons_succ]
              refine fl_take (i := 11) (d := 9) (v := v5) rfl rfl rfl (by kernel_rfl) (by kernel_rfl) (by kernel_rfl) hS ?_ ?_
              · intro w' hk; go_simp
              simp only [Act.put, List.setIfInBounds_toArray, List.set_cons_zero, List.set_cons_succ]
              refine fl_take (i := 12) (d := 10) (v := .bool q5) rfl rfl rfl (by kernel_rfl) (by kernel_rfl) (by kernel_rfl) hS ?_ ?_
              · intro w' hk; go_simp
              simp only [Act.put, List.setIfInBounds_toArray, List.set_cons_zero, List.set_cons_succ]
              refine wpAnyH_done (by kernel_rfl) (NoPanic.normal ?_) _
              go_wp2_with (fail)
              go_meet
              exact ⟨_, _, rfl, rfl, hf5, hK5.2⟩
            · have hA0 : Below w1.heap.size w1 (w1.alloc (.cells #[.int .i64 (k : Int)] 2)).drew := by (repeat' (first | (with_reducible exact Below.refl _ _) | (with_reducible assumption) | (with_reducible refine Below.setCell ?_ ?_ _) | (with_reducible refine Below.alloc ?_ ?_ _) | (with_reducible refine below_drewN ?_ _) | (with_reducible refine Below.drew ?_) | (with_reducible exact Nat.le_refl _) | omega | (simp; done) | (simp; omega)))
              refine op_val (d := 35) (v := .slice (some ⟨w1.heap.size, 0, none⟩) 1 1) (w' := (w1.alloc (.cells #[.int .i64 (k : Int)] 2)).drew) rfl rfl rfl (by go_simp; try rfl) ?_
              simp only [Act.put, List.setIfInBounds_toArray, List.set_cons_zero, List.set_cons_succ]
              refine ⟨KS.of hA0, wpAnyH_all (rs := [3]) (by kernel_rfl) (by simp) ?_⟩
              intro i hi'
              obtain rfl : i = 3 := by simpa using hi'
              refine op_call (d := 33) rfl rfl rfl (by go_simp) ((HCL.out _ hA0).mono ?_)
              rintro e w2 ⟨v2, rfl, hi2, hb2⟩
              have hK2 := (KS.of hA0).call hb2
              have hVB : Below w1.heap.size w1 w2 := hK2.2
              have hnew : w2.heap[w1.heap.size]? = some (.cells #[.int .i64 (k : Int)] 2) := (hb2.block _ (by simp)).trans (heap_alloc_new w1 _)
              have hown0 : w2.ownsRow w1.heap.size 2 1 v2 so.length (so.map (Value.int .i64)) := hi2.low (by simp)
              have hsz : w1.heap.size ≤ w2.heap.size := hVB.size
              refine ⟨_, rfl, hK2, ?_⟩
              simp only [Act.put, List.setIfInBounds_toArray, List.set_cons_zero, List.set_cons_succ]
              refine wpAnyH_all (rs := [6]) (by kernel_rfl) (by simp) ?_
              intro i hi'
              obtain rfl : i = 6 := by simpa using hi'
              refine op_appL rfl rfl rfl _ _ 46 rfl w1.heap.size 2 i0 (.int .i64 0) 1 8 Try.underlying46 hi hz0 hz1 hz2 rfl (by decide) v2 _ _ rfl hown0 ⟨w1.heap.size, 0, none⟩ 1 1 [.int .i64 (k : Int)] rfl rfl (World.news_of_block hnew) (by simp [Value.oneCell']) (by omega) (by unfold maxLen; omega) (by omega) hsz ?_
              intro gg cap w4 hown1 hgrow1 hlie hlt2
              simp only [Act.put, List.setIfInBounds_toArray, List.set_cons_zero, List.set_cons_succ]
              have hi4 : IS w4 w1.heap.size (.slice (some ⟨gg, 0, none⟩) (so.length + 1) cap) (so ++ [(k : Int)]) := by
                unfold IS
                rw [List.map_append, List.length_append]
                exact hown1
              have hb4 : Below w1.heap.size w1 w4 := hVB.grown hgrow1 hVB.size (fun q hq => (World.ownsRow.lt hown0 q hq).1)
              have hK4 : KS w1 w4 := KS.of hb4
              refine ⟨hK4, wpAnyH_all (rs := [7]) (by kernel_rfl) (by simp) ?_⟩
              intro i hi'
              obtain rfl : i = 7 := by simpa using hi'
              refine op_call (d := 37) rfl rfl rfl (by go_simp) ((HRC.out w4 _ w1.heap.size hb4 hi4 hb4.size).mono ?_)
              rintro e w5 ⟨v5, q5, rfl, hf5, hb5⟩
              have hK5 := hK4.call hb5
              refine ⟨_, rfl, hK5, ?_⟩
              simp only [Act.put, List.setIfInBounds_toArray, List.set_cons_zero, List.set_cons_succ]
              refine wpAnyH_all (rs := [8]) (by kernel_rfl) (by simp) ?_
              intro i hi'
              obtain rfl : i = 8 := by simpa using hi'
              refine op_val (d := 29) (v := .tuple #[v5, .bool q5]) (w' := w5) rfl rfl rfl (by go_simp) ?_
              simp only [Act.put, List.setIfInBounds_toArray, List.set_cons_zero, List.set_cons_succ]
              refine ⟨hK5, ?_⟩
              have hS := hK5
              refine fl_take (i := 9) (d := 38) (v := v5) rfl rfl rfl (by kernel_rfl) (by kernel_rfl) (by kernel_rfl) hS ?_ ?_
              · intro w' hk; go_simp
              simp only [Act.put, List.setIfInBounds_toArray, List.set_cons_zero, List.set_cons_succ]
              refine fl_take (i := 10) (d := 39) (v := .bool q5) rfl rfl rfl (by kernel_rfl) (by kernel_rfl) (by kernel_rfl) hS ?_ ?_
              · intro w' hk; go_simp
              simp only [Act.put, List.setIfInBounds_toArray, List.set_cons_zero, List.set_cons_succ]
              refine fl_take (i := 11) (d := 9) (v := v5) rfl rfl rfl (by kernel_rfl) (by kernel_rfl) (by kernel_rfl) hS ?_ ?_
              · intro w' hk; go_simp
              simp only [Act.put, List.setIfInBounds_toArray, List.set_cons_zero, List.set_cons_succ]
              refine fl_take (i := 12) (d := 10) (v := .bool q5) rfl rfl rfl (by kernel_rfl) (by kernel_rfl) (by kernel_rfl) hS ?_ ?_
              · intro w' hk; go_simp
              simp only [Act.put, List.setIfInBounds_toArray, List.set_cons_zero, List.set_cons_succ]
              refine wpAnyH_done (by kernel_rfl) (NoPanic.normal ?_) _
              go_wp2_with (fail)
              go_meet
              exact ⟨_, _, rfl, rfl, hf5, hK5.2⟩
          case rest =>
            obtain ⟨v, q, rfl, rfl, hC⟩ := hcut
            have HB2 : Hid (B2 w (n : Int) M (.slice aa la ca) (.slice ab lb cb) wc) := HB1.out.next hC.out.2
            obtain ⟨gk, hgk⟩ : ∃ gk, gk = G k := ⟨_, rfl⟩
            have HC : Hid (FR gk wc w1.heap.size v q ∧ gk = G k) := ⟨by rw [hgk]; exact hC.out.1, hgk⟩
            clear hC hgk a0 a1 b0 b1' l1 l2
            cases gk with
            | none =>
              have HP : Hid (∀ v, v < k + 1 → G v = none) := fun v hv => by
                rcases (by omega : v < k ∨ v = k) with e | rfl
                · exact HR.out.2 v e
                · exact HC.out.2.symm
              obtain rfl : q = false := HC.out.1
              go_wp2
              go_roundw
              case rel => exact ⟨k + 1, by omega, by go_num, HB2.out, HP.out⟩
              case measure => simp [intOf]; omega
            | some xs =>
              obtain rfl : q = true := HC.out.1.1
              have HF : Hid (FR R wc B v true) := by
                unfold Hid
                rw [H.out.2.2.1, find_hit hlt HR.out.2 HC.out.2.symm]
                exact ⟨rfl, HC.out.1.2.low (Nat.le_trans H.out.2.1.2.2.2 HB1.out.bl.size)⟩
              go_wp2
              go_returns
              exact ⟨_, _, rfl, HF.out, HB2.out.bl⟩
      · have HF : Hid (FR R wr B (.slice none 0 0) false ∧ Below w.heap.size w wr) := by
          refine ⟨?_, hQ.out.1.bl⟩
          rw [H.out.2.2.1, find_none (fun v hv => hQ.out.2 v (by omega))]
          exact rfl
        clear hQ
        go_wp2
        go_returns
        exact ⟨_, _, rfl, HF.out.1, HF.out.2⟩

end Go.Proofs.Ytbfieehlekgjeaa
