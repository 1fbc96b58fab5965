/- Proved here: the model's l5Search: the first naming that fits. -/
import Derived.Test.YtbfieehlekgjeaaNsI
import Derived.Test.YtbfieehlekgjeaaNmT
namespace Go.Proofs.Ytbfieehlekgjeaa
open Go.RowKit
set_option linter.unusedVariables false
set_option linter.unusedSimpArgs false

theorem mem_take_step {so : List Int} {x : Int} {j : Nat} (h : j < so.length) : x ∈ so.take (j + 1) ↔ x ∈ so.take j ∨ so.getD j 0 = x := by
  rw [List.take_add_one, List.getElem?_eq_getElem h, List.mem_append, getD_at h]
  simp [eq_comm]
/-- What is gathered behind the append of a list of the call's own to an empty one. -/
theorem IS.join {V wb : World} {B : Nat} {v50 : Value} {so : List Int} {m : Nat} (hm : m = so.length) (h : wb.ownsRow B 2 1 v50 (0 + m) ([] ++ so.map (Value.int .i64))) : IS wb B v50 so := by
  rw [Nat.zero_add, hm] at h
  exact h

set_option maxRecDepth 10000 in
set_option maxHeartbeats 12800000 in
theorem spec_search (n : Nat) (a b : List Dv) (hal : nlF (n : Int) a = 0) (hbl : nlF (n : Int) b = 0) (hab : a.length = b.length) (hsa : ∀ j (h : j < a.length), smD 1048576 a[j]) (hsb : ∀ j (h : j < b.length), smD 1048576 b[j]) : ∀ (f : Nat) (so : List Int) (w : World) (B : Nat) (va vb vn : Value), f + so.length = n → Beg n so → RD w va a → RD w vb b → IS w B vn so → B ≤ w.heap.size →
    Calls Try.prog 57 #[.agg #[.int .i64 (n : Int), va], .agg #[.int .i64 (n : Int), vb], vn] w fun e w' => ∃ v q, e = .returned (.tuple #[v, .bool q]) ∧ FR (srch (fun so => sdB so a b) n f so) w' B v q ∧ Below w.heap.size w w' := by
  have ga := nlF_good hal
  have gb := nlF_good hbl
  intro f
  induction f with
  | zero =>
    intro so w B va vb vn hf hso ha hb hn hB
    obtain ⟨aa, ca, rfl⟩ := ha.form
    obtain ⟨ab, cb, rfl⟩ := hb.form
    obtain ⟨an, cn, rfl⟩ := hn.form
    have hl : so.length = n := by omega
    have hn7 : n ≤ 7 := by have := ga.n7; omega
    have hcm : cmB (n : Int) (n : Int) a b so = sdB so a b := by
      unfold cmB
      rw [hal, hbl, hso.nm hl, hab]
      simp
    have hs := fun W (hW : Below w.heap.size w W) => spec_match (n : Int) (n : Int) (nets := so) (by have := ga.len; omega) (by have := gb.len; omega) (by omega) hsa hsb (ha.below hW) (hb.below hW) (hn.rg.below hW)
    rw [hcm] at hs
    rw [hl] at hn hs ⊢
    obtain ⟨D, hD⟩ : ∃ D, D = sdB so a b := ⟨_, rfl⟩
    rw [← hD] at hs
    have H : Hid ((∀ W, Below w.heap.size w W → Calls Try.prog 27 #[.agg #[.int .i64 (n : Int), .slice aa a.length ca], .agg #[.int .i64 (n : Int), .slice ab b.length cb], .slice an n cn] W fun e w' => e = .returned (.bool D) ∧ Below W.heap.size W w') ∧ IS w B (.slice an n cn) so ∧ D = sdB so a b) := ⟨hs, hn, hD⟩
    obtain ⟨la, hla⟩ : ∃ la, la = a.length := ⟨_, rfl⟩
    obtain ⟨lb, hlb⟩ : ∃ lb, lb = b.length := ⟨_, rfl⟩
    rw [← hla, ← hlb] at H ⊢
    clear hs hn hD ha hb hso ga gb hla hlb hf hl hal hbl hab hsa hsb hcm
    go_enter Try.func57, Try.ntmps57
    go_wp2_with (fail)
    refine (H.out.1 _ (by (repeat' (first | (with_reducible exact Below.refl _ _) | (with_reducible assumption) | (with_reducible refine Below.setCell ?_ ?_ _) | (with_reducible refine Below.alloc ?_ ?_ _) | (with_reducible refine below_drewN ?_ _) | (with_reducible refine Below.drew ?_) | (with_reducible exact Nat.le_refl _) | omega | (simp; done) | (simp; omega))))).mono ?_
    rintro e w1 ⟨rfl, hb1⟩
    have HB : Hid (Below w.heap.size w w1) := (show Below w.heap.size w _ from by (repeat' (first | (with_reducible exact Below.refl _ _) | (with_reducible assumption) | (with_reducible refine Below.setCell ?_ ?_ _) | (with_reducible refine Below.alloc ?_ ?_ _) | (with_reducible refine below_drewN ?_ _) | (with_reducible refine Below.drew ?_) | (with_reducible exact Nat.le_refl _) | omega | (simp; done) | (simp; omega)))).trans (hb1.mono (by simp; omega))
    clear hb1
    go_wp2
    go_returns
    refine ⟨_, _, rfl, ?_, HB.out⟩
    show FR (if sdB so a b = true then some so else none) w1 B (.slice an n cn) D
    rw [← H.out.2.2]
    cases D with
    | true => rw [if_pos rfl]; exact ⟨rfl, H.out.2.1.bel HB.out⟩
    | false => rw [if_neg (by simp)]; exact rfl
  | succ f ih =>
    intro so w B va vb vn hf hso ha hb hn hB
    obtain ⟨aa, ca, rfl⟩ := ha.form
    obtain ⟨ab, cb, rfl⟩ := hb.form
    obtain ⟨an, cn, rfl⟩ := hn.form
    obtain ⟨la, hla⟩ : ∃ la, la = a.length := ⟨_, rfl⟩
    obtain ⟨lb, hlb⟩ : ∃ lb, lb = b.length := ⟨_, rfl⟩
    obtain ⟨ls, hls⟩ : ∃ ls, ls = so.length := ⟨_, rfl⟩
    obtain ⟨R, hR⟩ : ∃ R, R = srch (fun so => sdB so a b) n (f + 1) so := ⟨_, rfl⟩
    obtain ⟨G, hG⟩ : ∃ G : Nat → Option (List Int), G = fun v : Nat => if (v : Int) ∈ so then none else srch (fun so => sdB so a b) n f (so ++ [(v : Int)]) := ⟨_, rfl⟩
    have hRG : R = (List.range n).findSome? G := by rw [hR, hG]; rfl
    have hn7 : n ≤ 7 := by have := ga.n7; omega
    have hlsn : ls < n := by omega
    have hne : ¬ (ls : Int) = (n : Int) := by omega
    have hneb : ((ls : Int) == (n : Int)) = false := by simpa using hne
    rw [← hla] at ha ⊢
    rw [← hlb] at hb ⊢
    rw [← hls] at hn hf ⊢
    rw [← hR]
    have IH : Hid (∀ (so : List Int) (w : World) (B : Nat) (va vb vn : Value), f + so.length = n → Beg n so → RD w va a → RD w vb b → IS w B vn so → B ≤ w.heap.size →
    Calls Try.prog 57 #[.agg #[.int .i64 (n : Int), va], .agg #[.int .i64 (n : Int), vb], vn] w fun e w' => ∃ v q, e = .returned (.tuple #[v, .bool q]) ∧ FR (srch (fun so => sdB so a b) n f so) w' B v q ∧ Below w.heap.size w w') := ih
    have H : Hid ((RD w (.slice aa la ca) a ∧ RD w (.slice ab lb cb) b ∧ IS w B (.slice an ls cn) so) ∧ (ls = so.length ∧ f + 1 + ls = n ∧ Beg n so ∧ B ≤ w.heap.size) ∧ R = (List.range n).findSome? G ∧ (∀ v : Nat, (v : Int) ∈ so → G v = none) ∧ (∀ v : Nat, ¬ (v : Int) ∈ so → G v = srch (fun so => sdB so a b) n f (so ++ [(v : Int)]))) := ⟨⟨ha, hb, hn⟩, ⟨hls, hf, hso, hB⟩, hRG, fun v hv => by rw [hG]; exact if_pos hv, fun v hv => by rw [hG]; exact if_neg hv⟩
    clear ih ha hb hn hB hso hf hls hR hG hRG hla hlb ga gb hal hbl hab hsa hsb
    obtain ⟨i0, hi, hz0, hz1, hz2⟩ := info_parts info_i64
    go_enter Try.func57, Try.ntmps57
    go_wp2
    go_loopw [8] (fun i wr => ∃ k : Nat, k ≤ n ∧ i = .int .i64 k ∧ Hid (B2 w (n : Int) (n : Int) (.slice aa la ca) (.slice ab lb cb) wr ∧ ∀ v, v < k → G v = none)) (fun i _ => n - (intOf i).toNat)
    case atStart => exact ⟨0, Nat.zero_le _, rfl, B2.new w _ _ _ _, fun v hv => by omega⟩
    case round =>
      obtain ⟨k, hk, rfl, hQ⟩ := hrel
      obtain ⟨a0, a1, b0, b1', l1, l2⟩ := SB2_two hQ.out.1.bx
      by_cases hlt : k < n
      · have HR : Hid (B2 w (n : Int) (n : Int) (.slice aa la ca) (.slice ab lb cb) wr ∧ ∀ v, v < k → G v = none) := hQ.out
        clear hQ
        have b1 : (k : Int) < (n : Int) := by omega
        obtain ⟨w1, hw1⟩ : ∃ w1, w1 = wr := ⟨_, rfl⟩
        rw [← hw1] at HR a0 a1 b0 b1' l1 l2 ⊢
        clear hw1
        go_wp2
        go_loopw [9, 10] (fun u i wq => ∃ j : Nat, j ≤ ls ∧ i = .int .i64 j ∧ ∃ q, u = .bool q ∧ wq = w1 ∧ Hid (q = decide ((k : Int) ∈ so.take j))) (fun _ i _ => ls - (intOf i).toNat)
        case atStart => exact ⟨0, Nat.zero_le _, rfl, false, rfl, rfl, by simp [Hid]⟩
        case round =>
          obtain ⟨j, hj, rfl, q, rfl, rfl, hq⟩ := hrel
          by_cases hjl : j < ls
          · have hjs : j < so.length := by rw [← H.out.2.1.1]; exact hjl
            obtain ⟨g, o, c2, he, hg, hcc⟩ := (H.out.1.2.2.rg.below HR.out.1.bl).ri (by omega)
            simp only [Value.slice.injEq] at he
            obtain ⟨rfl, hx1, hx2⟩ := he
            clear hx1 hx2
            have c0 := hcc j hjs
            obtain ⟨x, hx⟩ : ∃ x, x = so.getD j 0 := ⟨_, rfl⟩
            rw [← hx] at c0
            have HX : Hid (x = so.getD j 0 ∧ j < so.length) := ⟨hx, hjs⟩
            clear hx hcc
            have b2 : (0 : Int) ≤ (j : Int) := by omega
            have b3 : (j : Int) < (ls : Int) := by omega
            cases q with
            | true =>
              have HN : Hid (true = decide ((k : Int) ∈ so.take (j + 1))) := by
                unfold Hid
                rw [eq_comm, decide_eq_true_iff, mem_take_step HX.out.2]
                exact Or.inl (of_decide_eq_true hq.out.symm)
              go_wp2
              go_roundw
              case rel => exact ⟨j + 1, by omega, by go_num, true, rfl, by first | rfl | trivial, HN.out⟩
              case measure => simp [intOf]; omega
            | false =>
              have hnot : ¬ (k : Int) ∈ so.take j := of_decide_eq_false hq.out.symm
              by_cases hxk : x = (k : Int)
              · have HN : Hid (true = decide ((k : Int) ∈ so.take (j + 1))) := by
                  unfold Hid
                  rw [eq_comm, decide_eq_true_iff, mem_take_step HX.out.2]
                  exact Or.inr (by rw [← HX.out.1]; exact hxk)
                clear hnot
                subst hxk
                go_wp2
                go_roundw
                case rel => exact ⟨j + 1, by omega, by go_num, true, by first | rfl | simp, by first | rfl | trivial, HN.out⟩
                case measure => simp [intOf]; omega
              · have HN : Hid (false = decide ((k : Int) ∈ so.take (j + 1))) := by
                  unfold Hid
                  rw [eq_comm, decide_eq_false_iff_not, mem_take_step HX.out.2]
                  rintro (h1 | h1)
                  · exact hnot h1
                  · exact hxk (by rw [HX.out.1]; exact h1)
                have hxb : (x == (k : Int)) = false := by simpa using hxk
                clear hnot
                go_wp2
                go_roundw
                case rel => exact ⟨j + 1, by omega, by go_num, false, by first | rfl | simp [hxb], by first | rfl | trivial, HN.out⟩
                case measure => simp [intOf]; omega
          · have HQ : Hid (q = decide ((k : Int) ∈ so)) := by
              have := hq.out
              rwa [List.take_of_length_le (by rw [← H.out.2.1.1]; omega)] at this
            clear hq
            by_cases hm : (k : Int) ∈ so
            · have HP : Hid (∀ v, v < k + 1 → G v = none) := fun v hv => by
                rcases (by omega : v < k ∨ v = k) with e | rfl
                · exact HR.out.2 v e
                · exact H.out.2.2.2.1 v hm
              obtain rfl : q = true := by rw [HQ.out]; exact decide_eq_true hm
              clear hm
              go_wp2
              go_roundw
              case rel => exact ⟨k + 1, by omega, by go_num, HR.out.1, HP.out⟩
              case measure => simp [intOf]; omega
            · obtain rfl : q = false := by rw [HQ.out]; exact decide_eq_false hm
              have HM : Hid (Beg n (so ++ [(k : Int)]) ∧ G k = srch (fun so => sdB so a b) n f (so ++ [(k : Int)]) ∧ f + (so ++ [(k : Int)]).length = n) := ⟨H.out.2.1.2.2.1.push (by rw [← H.out.2.1.1]; exact hlsn) hlt hm, H.out.2.2.2.2 k hm, by have := H.out.2.1.2.1; have := H.out.2.1.1; simp; omega⟩
              clear hm
              have hsol : so.length ≤ 7 := by rw [← H.out.2.1.1]; omega
              have HRC : Hid (∀ (W : World) (v2 : Value) (C : Nat), Below wr.heap.size wr W → IS W C v2 (so ++ [(k : Int)]) → C ≤ W.heap.size → Calls Try.prog 57 #[.agg #[.int .i64 (n : Int), .slice aa la ca], .agg #[.int .i64 (n : Int), .slice ab lb cb], v2] W fun e w' => ∃ v q, e = .returned (.tuple #[v, .bool q]) ∧ FR (G k) w' C v q ∧ Below W.heap.size W w') := fun W v2 C hW hI hC => by
                rw [HM.out.2.1]
                have hbw := HR.out.1.bl.trans (hW.mono HR.out.1.bl.size)
                exact IH.out (so ++ [(k : Int)]) W C _ _ v2 HM.out.2.2 HM.out.1 (H.out.1.1.below hbw) (H.out.1.2.1.below hbw) hI hC
              have HNW : Hid (∀ W, Below wr.heap.size wr W → (an = none → ls = 0 ∧ cn = 0) ∧ (∀ ad, an = some ad → ∀ j u, (so.map (Value.int .i64))[j]? = some u → W.cell? (ad.add j) = some u)) := fun W hW => by
                have h5 := (H.out.1.2.2.bel HR.out.1.bl).news hW
                exact ⟨h5.1, h5.2.1⟩
              have HLS : Hid ((so.map (Value.int .i64)).length = ls * 1 ∧ ls = so.length) := ⟨by simp [H.out.2.1.1], H.out.2.1.1⟩
              go_upto_region 12 with (fail)
              go_cut [11, 12] from 23 to 58 (fun s11 s12 wx => ∃ v q, v = s11 ∧ s12 = .bool q ∧ Hid (FR (G k) wx wr.heap.size v q ∧ Below wr.heap.size wr wx))
              case first =>
                refine wp_region_float (by kernel_rfl) (fun hS => ?_)
                refine fl_take (i := 0) (d := 46) (v := .agg #[.int .i64 (n : Int), .slice aa la ca]) rfl rfl rfl (by kernel_rfl) (by kernel_rfl) (by kernel_rfl) hS ?_ ?_
                · intro w' hk; go_simp
                simp only [Act.put, List.setIfInBounds_toArray, List.set_cons_zero, List.set_cons_succ]
                refine fl_take (i := 1) (d := 47) (v := .agg #[.int .i64 (n : Int), .slice ab lb cb]) rfl rfl rfl (by kernel_rfl) (by kernel_rfl) (by kernel_rfl) hS ?_ ?_
                · intro w' hk; go_simp
                simp only [Act.put, List.setIfInBounds_toArray, List.set_cons_zero, List.set_cons_succ]
                refine fl_take (i := 3) (d := 49) (v := .slice an ls cn) rfl rfl rfl (by kernel_rfl) (by kernel_rfl) (by kernel_rfl) hS ?_ ?_
                · intro w' hk; go_simp
                simp only [Act.put, List.setIfInBounds_toArray, List.set_cons_zero, List.set_cons_succ]
                refine fl_take (i := 5) (d := 51) (v := .int .i64 (k : Int)) rfl rfl rfl (by kernel_rfl) (by kernel_rfl) (by kernel_rfl) hS ?_ ?_
                · intro w' hk; go_simp
                simp only [Act.put, List.setIfInBounds_toArray, List.set_cons_zero, List.set_cons_succ]
                refine wpAnyH_all (rs := [2, 6]) (by kernel_rfl) (by simp) ?_
                intro i hi'
                rcases (by simpa using hi' : i = 2 ∨ i = 6) with rfl | rfl
                · refine op_val (d := 48) (v := .slice (some ⟨wr.heap.size, 0, none⟩) 0 0) (w' := (wr.alloc (.cells #[] 2)).drew) rfl rfl rfl (by go_simp; try rfl) ?_
                  simp only [Act.put, List.setIfInBounds_toArray, List.set_cons_zero, List.set_cons_succ]
                  have hV0 : Below wr.heap.size wr (wr.alloc (.cells #[] 2)).drew := by (repeat' (first | (with_reducible exact Below.refl _ _) | (with_reducible assumption) | (with_reducible refine Below.setCell ?_ ?_ _) | (with_reducible refine Below.alloc ?_ ?_ _) | (with_reducible refine below_drewN ?_ _) | (with_reducible refine Below.drew ?_) | (with_reducible exact Nat.le_refl _) | omega | (simp; done) | (simp; omega)))
                  refine ⟨KS.of hV0, wpAnyH_all (rs := [4, 6]) (by kernel_rfl) (by simp) ?_⟩
                  intro i hi'
                  rcases (by simpa using hi' : i = 4 ∨ i = 6) with rfl | rfl
                  · have hV : Below wr.heap.size wr (wr.alloc (.cells #[] 2)).drew := hV0
                    have hE : ((wr.alloc (.cells #[] 2)).drew).ownsRow wr.heap.size 2 1 (.slice (some ⟨wr.heap.size, 0, none⟩) 0 0) 0 [] := IS.lit0 wr _ (Nat.le_refl _)
                    refine op_appA rfl rfl rfl _ _ 46 rfl wr.heap.size 2 i0 (.int .i64 0) 1 8 Try.underlying46 hi hz0 hz1 hz2 rfl (by decide) (.slice (some ⟨wr.heap.size, 0, none⟩) 0 0) 0 [] rfl hE an ls cn (so.map (Value.int .i64)) rfl HLS.out.1 (HNW.out _ hV).1 (HNW.out _ hV).2 (one_ints _) (by unfold maxLen; omega) (by omega) hV.size ?_
                    intro v2 wb hownb hgrowb
                    simp only [Act.put, List.setIfInBounds_toArray, List.set_cons_zero, List.set_cons_succ]
                    have hib : IS wb wr.heap.size v2 so := IS.join (V := wb) HLS.out.2 hownb
                    have hbb : Below wr.heap.size wr wb := hV.grown hgrowb hV.size (fun q hq => by injection hq with hq; have hq' : wr.heap.size = q := hq; omega)
                    refine ⟨KS.of hbb, wpAnyH_all (rs := [6]) (by kernel_rfl) (by simp) ?_⟩
                    intro i hi'
                    obtain rfl : i = 6 := by simpa using hi'
                    have hVB : Below wr.heap.size wr (wb.alloc (.cells #[.int .i64 (k : Int)] 2)) := hbb.alloc hbb.size _
                    have hnew : (wb.alloc (.cells #[.int .i64 (k : Int)] 2)).heap[wb.heap.size]? = some (.cells #[.int .i64 (k : Int)] 2) := heap_alloc_new wb _
                    have hown0 : (wb.alloc (.cells #[.int .i64 (k : Int)] 2)).ownsRow wr.heap.size 2 1 v2 so.length (so.map (Value.int .i64)) := hib.bel (by (repeat' (first | (with_reducible exact Below.refl _ _) | (with_reducible assumption) | (with_reducible refine Below.setCell ?_ ?_ _) | (with_reducible refine Below.alloc ?_ ?_ _) | (with_reducible refine below_drewN ?_ _) | (with_reducible refine Below.drew ?_) | (with_reducible exact Nat.le_refl _) | omega | (simp; done) | (simp; omega))))
                    refine op_val (d := 52) (v := .slice (some ⟨wb.heap.size, 0, none⟩) 1 1) (w' := wb.alloc (.cells #[.int .i64 (k : Int)] 2)) rfl rfl rfl (by go_simp; try rfl) ?_
                    simp only [Act.put, List.setIfInBounds_toArray, List.set_cons_zero, List.set_cons_succ]
                    refine ⟨KS.of hVB, wpAnyH_all (rs := [7]) (by kernel_rfl) (by simp) ?_⟩
                    intro i hi'
                    obtain rfl : i = 7 := by simpa using hi'
                    refine op_appL rfl rfl rfl _ _ 46 rfl wr.heap.size 2 i0 (.int .i64 0) 1 8 Try.underlying46 hi hz0 hz1 hz2 rfl (by decide) v2 _ _ rfl hown0 ⟨wb.heap.size, 0, none⟩ 1 1 [.int .i64 (k : Int)] rfl rfl (World.news_of_block hnew) (by simp [Value.oneCell']) (by omega) (by unfold maxLen; omega) (by omega) hVB.size ?_
                    intro gg cap w4 hown1 hgrow1 hlie hlt2
                    simp only [Act.put, List.setIfInBounds_toArray, List.set_cons_zero, List.set_cons_succ]
                    have hi4 : IS w4 wr.heap.size (.slice (some ⟨gg, 0, none⟩) (so.length + 1) cap) (so ++ [(k : Int)]) := by
                      unfold IS
                      rw [List.map_append, List.length_append]
                      exact hown1
                    have hb4 : Below wr.heap.size wr w4 := hVB.grown hgrow1 hVB.size (fun q hq => (World.ownsRow.lt hown0 q hq).1)
                    have hK4 : KS wr w4 := KS.of hb4
                    refine ⟨hK4, wpAnyH_all (rs := [8]) (by kernel_rfl) (by simp) ?_⟩
                    intro i hi'
                    obtain rfl : i = 8 := by simpa using hi'
                    refine op_call (d := 54) rfl rfl rfl (by go_simp) ((HRC.out w4 _ wr.heap.size hb4 hi4 hb4.size).mono ?_)
                    rintro e w5 ⟨v5, q5, rfl, hf5, hb5⟩
                    have hK5 := hK4.call hb5
                    refine ⟨_, rfl, hK5, ?_⟩
                    simp only [Act.put, List.setIfInBounds_toArray, List.set_cons_zero, List.set_cons_succ]
                    refine wpAnyH_all (rs := [9]) (by kernel_rfl) (by simp) ?_
                    intro i hi'
                    obtain rfl : i = 9 := by simpa using hi'
                    refine op_val (d := 45) (v := .tuple #[v5, .bool q5]) (w' := w5) rfl rfl rfl (by go_simp) ?_
                    simp only [Act.put, List.setIfInBounds_toArray, List.set_cons_zero, List.set_cons_succ]
                    refine ⟨hK5, ?_⟩
                    have hS := hK5
                    refine fl_take (i := 10) (d := 55) (v := v5) rfl rfl rfl (by kernel_rfl) (by kernel_rfl) (by kernel_rfl) hS ?_ ?_
                    · intro w' hk; go_simp
                    simp only [Act.put, List.setIfInBounds_toArray, List.set_cons_zero, List.set_cons_succ]
                    refine fl_take (i := 11) (d := 56) (v := .bool q5) rfl rfl rfl (by kernel_rfl) (by kernel_rfl) (by kernel_rfl) hS ?_ ?_
                    · intro w' hk; go_simp
                    simp only [Act.put, List.setIfInBounds_toArray, List.set_cons_zero, List.set_cons_succ]
                    refine fl_take (i := 12) (d := 11) (v := v5) rfl rfl rfl (by kernel_rfl) (by kernel_rfl) (by kernel_rfl) hS ?_ ?_
                    · intro w' hk; go_simp
                    simp only [Act.put, List.setIfInBounds_toArray, List.set_cons_zero, List.set_cons_succ]
                    refine fl_take (i := 13) (d := 12) (v := .bool q5) rfl rfl rfl (by kernel_rfl) (by kernel_rfl) (by kernel_rfl) hS ?_ ?_
                    · intro w' hk; go_simp
                    simp only [Act.put, List.setIfInBounds_toArray, List.set_cons_zero, List.set_cons_succ]
                    refine wpAnyH_done (by kernel_rfl) (NoPanic.normal ?_) _
                    go_wp2_with (fail)
                    go_meet
                    exact ⟨_, _, rfl, rfl, hf5, hK5.2⟩
                  · have hV : Below wr.heap.size wr ((wr.alloc (.cells #[] 2)).alloc (.cells #[.int .i64 (k : Int)] 2)).drew := by (repeat' (first | (with_reducible exact Below.refl _ _) | (with_reducible assumption) | (with_reducible refine Below.setCell ?_ ?_ _) | (with_reducible refine Below.alloc ?_ ?_ _) | (with_reducible refine below_drewN ?_ _) | (with_reducible refine Below.drew ?_) | (with_reducible exact Nat.le_refl _) | omega | (simp; done) | (simp; omega)))
                    have hE : (((wr.alloc (.cells #[] 2)).alloc (.cells #[.int .i64 (k : Int)] 2)).drew).ownsRow wr.heap.size 2 1 (.slice (some ⟨wr.heap.size, 0, none⟩) 0 0) 0 [] := (IS.lit0 wr _ (Nat.le_refl _)).bel (w' := ((wr.alloc (.cells #[] 2)).alloc (.cells #[.int .i64 (k : Int)] 2)).drew) (by (repeat' (first | (with_reducible exact Below.refl _ _) | (with_reducible assumption) | (with_reducible refine Below.setCell ?_ ?_ _) | (with_reducible refine Below.alloc ?_ ?_ _) | (with_reducible refine below_drewN ?_ _) | (with_reducible refine Below.drew ?_) | (with_reducible exact Nat.le_refl _) | omega | (simp; done) | (simp; omega))))
                    have hN0 : (((wr.alloc (.cells #[] 2)).alloc (.cells #[.int .i64 (k : Int)] 2)).drew).heap[wr.heap.size + 1]? = some (.cells #[.int .i64 (k : Int)] 2) := hp_at1 wr _ _
                    refine op_val (d := 52) (v := .slice (some ⟨wr.heap.size + 1, 0, none⟩) 1 1) (w' := ((wr.alloc (.cells #[] 2)).alloc (.cells #[.int .i64 (k : Int)] 2)).drew) rfl rfl rfl (by go_simp; try rfl) ?_
                    simp only [Act.put, List.setIfInBounds_toArray, List.set_cons_zero, List.set_cons_succ]
                    refine ⟨KS.of hV, wpAnyH_all (rs := [4]) (by kernel_rfl) (by simp) ?_⟩
                    intro i hi'
                    obtain rfl : i = 4 := by simpa using hi'
                    refine op_appA rfl rfl rfl _ _ 46 rfl wr.heap.size 2 i0 (.int .i64 0) 1 8 Try.underlying46 hi hz0 hz1 hz2 rfl (by decide) (.slice (some ⟨wr.heap.size, 0, none⟩) 0 0) 0 [] rfl hE an ls cn (so.map (Value.int .i64)) rfl HLS.out.1 (HNW.out _ hV).1 (HNW.out _ hV).2 (one_ints _) (by unfold maxLen; omega) (by omega) hV.size ?_
                    intro v2 wb hownb hgrowb
                    simp only [Act.put, List.setIfInBounds_toArray, List.set_cons_zero, List.set_cons_succ]
                    have hib : IS wb wr.heap.size v2 so := IS.join (V := wb) HLS.out.2 hownb
                    have hbb : Below wr.heap.size wr wb := hV.grown hgrowb hV.size (fun q hq => by injection hq with hq; have hq' : wr.heap.size = q := hq; omega)
                    have hVB := hbb
                    have hnew : wb.heap[wr.heap.size + 1]? = some (.cells #[.int .i64 (k : Int)] 2) := (hgrowb.block _ (by simp) (fun e => by injection e with e; have e2 : wr.heap.size + 1 = wr.heap.size := e; omega)).trans hN0
                    have hown0 : wb.ownsRow wr.heap.size 2 1 v2 so.length (so.map (Value.int .i64)) := hib
                    refine ⟨KS.of hVB, wpAnyH_all (rs := [7]) (by kernel_rfl) (by simp) ?_⟩
                    intro i hi'
                    obtain rfl : i = 7 := by simpa using hi'
                    refine op_appL rfl rfl rfl _ _ 46 rfl wr.heap.size 2 i0 (.int .i64 0) 1 8 Try.underlying46 hi hz0 hz1 hz2 rfl (by decide) v2 _ _ rfl hown0 ⟨wr.heap.size + 1, 0, none⟩ 1 1 [.int .i64 (k : Int)] rfl rfl (World.news_of_block hnew) (by simp [Value.oneCell']) (by omega) (by unfold maxLen; omega) (by omega) hVB.size ?_
                    intro gg cap w4 hown1 hgrow1 hlie hlt2
                    simp only [Act.put, List.setIfInBounds_toArray, List.set_cons_zero, List.set_cons_succ]
                    have hi4 : IS w4 wr.heap.size (.slice (some ⟨gg, 0, none⟩) (so.length + 1) cap) (so ++ [(k : Int)]) := by
                      unfold IS
                      rw [List.map_append, List.length_append]
                      exact hown1
                    have hb4 : Below wr.heap.size wr w4 := hVB.grown hgrow1 hVB.size (fun q hq => (World.ownsRow.lt hown0 q hq).1)
                    have hK4 : KS wr w4 := KS.of hb4
                    refine ⟨hK4, wpAnyH_all (rs := [8]) (by kernel_rfl) (by simp) ?_⟩
                    intro i hi'
                    obtain rfl : i = 8 := by simpa using hi'
                    refine op_call (d := 54) rfl rfl rfl (by go_simp) ((HRC.out w4 _ wr.heap.size hb4 hi4 hb4.size).mono ?_)
                    rintro e w5 ⟨v5, q5, rfl, hf5, hb5⟩
                    have hK5 := hK4.call hb5
                    refine ⟨_, rfl, hK5, ?_⟩
                    simp only [Act.put, List.setIfInBounds_toArray, List.set_cons_zero, List.set_cons_succ]
                    refine wpAnyH_all (rs := [9]) (by kernel_rfl) (by simp) ?_
                    intro i hi'
                    obtain rfl : i = 9 := by simpa using hi'
                    refine op_val (d := 45) (v := .tuple #[v5, .bool q5]) (w' := w5) rfl rfl rfl (by go_simp) ?_
                    simp only [Act.put, List.setIfInBounds_toArray, List.set_cons_zero, List.set_cons_succ]
                    refine ⟨hK5, ?_⟩
                    have hS := hK5
                    refine fl_take (i := 10) (d := 55) (v := v5) rfl rfl rfl (by kernel_rfl) (by kernel_rfl) (by kernel_rfl) hS ?_ ?_
                    · intro w' hk; go_simp
                    simp only [Act.put, List.setIfInBounds_toArray, List.set_cons_zero, List.set_cons_succ]
                    refine fl_take (i := 11) (d := 56) (v := .bool q5) rfl rfl rfl (by kernel_rfl) (by kernel_rfl) (by kernel_rfl) hS ?_ ?_
                    · intro w' hk; go_simp
                    simp only [Act.put, List.setIfInBounds_toArray, List.set_cons_zero, List.set_cons_succ]
                    refine fl_take (i := 12) (d := 11) (v := v5) rfl rfl rfl (by kernel_rfl) (by kernel_rfl) (by kernel_rfl) hS ?_ ?_
                    · intro w' hk; go_simp
                    simp only [Act.put, List.setIfInBounds_toArray, List.set_cons_zero, List.set_cons_succ]
                    refine fl_take (i := 13) (d := 12) (v := .bool q5) rfl rfl rfl (by kernel_rfl) (by kernel_rfl) (by kernel_rfl) hS ?_ ?_
                    · intro w' hk; go_simp
                    simp only [Act.put, List.setIfInBounds_toArray, List.set_cons_zero, List.set_cons_succ]
                    refine wpAnyH_done (by kernel_rfl) (NoPanic.normal ?_) _
                    go_wp2_with (fail)
                    go_meet
                    exact ⟨_, _, rfl, rfl, hf5, hK5.2⟩
                · refine op_val (d := 52) (v := .slice (some ⟨wr.heap.size, 0, none⟩) 1 1) (w' := (wr.alloc (.cells #[.int .i64 (k : Int)] 2)).drew) rfl rfl rfl (by go_simp; try rfl) ?_
                  simp only [Act.put, List.setIfInBounds_toArray, List.set_cons_zero, List.set_cons_succ]
                  have hV1 : Below wr.heap.size wr (wr.alloc (.cells #[.int .i64 (k : Int)] 2)).drew := by (repeat' (first | (with_reducible exact Below.refl _ _) | (with_reducible assumption) | (with_reducible refine Below.setCell ?_ ?_ _) | (with_reducible refine Below.alloc ?_ ?_ _) | (with_reducible refine below_drewN ?_ _) | (with_reducible refine Below.drew ?_) | (with_reducible exact Nat.le_refl _) | omega | (simp; done) | (simp; omega)))
                  refine ⟨KS.of hV1, wpAnyH_all (rs := [2]) (by kernel_rfl) (by simp) ?_⟩
                  intro i hi'
                  obtain rfl : i = 2 := by simpa using hi'
                  refine op_val (d := 48) (v := .slice (some ⟨wr.heap.size + 1, 0, none⟩) 0 0) (w' := ((wr.alloc (.cells #[.int .i64 (k : Int)] 2)).alloc (.cells #[] 2)).drew) rfl rfl rfl (by go_simp; try rfl) ?_
                  simp only [Act.put, List.setIfInBounds_toArray, List.set_cons_zero, List.set_cons_succ]
                  have hV : Below wr.heap.size wr ((wr.alloc (.cells #[.int .i64 (k : Int)] 2)).alloc (.cells #[] 2)).drew := by (repeat' (first | (with_reducible exact Below.refl _ _) | (with_reducible assumption) | (with_reducible refine Below.setCell ?_ ?_ _) | (with_reducible refine Below.alloc ?_ ?_ _) | (with_reducible refine below_drewN ?_ _) | (with_reducible refine Below.drew ?_) | (with_reducible exact Nat.le_refl _) | omega | (simp; done) | (simp; omega)))
                  have hE : (((wr.alloc (.cells #[.int .i64 (k : Int)] 2)).alloc (.cells #[] 2)).drew).ownsRow wr.heap.size 2 1 (.slice (some ⟨wr.heap.size + 1, 0, none⟩) 0 0) 0 [] := by have h6 := IS.lit0 (wr.alloc (.cells #[.int .i64 (k : Int)] 2)) wr.heap.size (by simp); simp [IS] at h6; exact h6
                  have hN0 : (((wr.alloc (.cells #[.int .i64 (k : Int)] 2)).alloc (.cells #[] 2)).drew).heap[wr.heap.size]? = some (.cells #[.int .i64 (k : Int)] 2) := (Below.heap_alloc _ _ _ (by simp)).trans (heap_alloc_new wr _)
                  refine ⟨KS.of hV, wpAnyH_all (rs := [4]) (by kernel_rfl) (by simp) ?_⟩
                  intro i hi'
                  obtain rfl : i = 4 := by simpa using hi'
                  refine op_appA rfl rfl rfl _ _ 46 rfl wr.heap.size 2 i0 (.int .i64 0) 1 8 Try.underlying46 hi hz0 hz1 hz2 rfl (by decide) (.slice (some ⟨wr.heap.size + 1, 0, none⟩) 0 0) 0 [] rfl hE an ls cn (so.map (Value.int .i64)) rfl HLS.out.1 (HNW.out _ hV).1 (HNW.out _ hV).2 (one_ints _) (by unfold maxLen; omega) (by omega) hV.size ?_
                  intro v2 wb hownb hgrowb
                  simp only [Act.put, List.setIfInBounds_toArray, List.set_cons_zero, List.set_cons_succ]
                  have hib : IS wb wr.heap.size v2 so := IS.join (V := wb) HLS.out.2 hownb
                  have hbb : Below wr.heap.size wr wb := hV.grown hgrowb hV.size (fun q hq => by injection hq with hq; have hq' : wr.heap.size + 1 = q := hq; omega)
                  have hVB := hbb
                  have hnew : wb.heap[wr.heap.size]? = some (.cells #[.int .i64 (k : Int)] 2) := (hgrowb.block _ (by simp; omega) (fun e => by injection e with e; have e2 : wr.heap.size = wr.heap.size + 1 := e; omega)).trans hN0
                  have hown0 : wb.ownsRow wr.heap.size 2 1 v2 so.length (so.map (Value.int .i64)) := hib
                  refine ⟨KS.of hVB, wpAnyH_all (rs := [7]) (by kernel_rfl) (by simp) ?_⟩
                  intro i hi'
                  obtain rfl : i = 7 := by simpa using hi'
                  refine op_appL rfl rfl rfl _ _ 46 rfl wr.heap.size 2 i0 (.int .i64 0) 1 8 Try.underlying46 hi hz0 hz1 hz2 rfl (by decide) v2 _ _ rfl hown0 ⟨wr.heap.size, 0, none⟩ 1 1 [.int .i64 (k : Int)] rfl rfl (World.news_of_block hnew) (by simp [Value.oneCell']) (by omega) (by unfold maxLen; omega) (by omega) hVB.size ?_
                  intro gg cap w4 hown1 hgrow1 hlie hlt2
                  simp only [Act.put, List.setIfInBounds_toArray, List.set_cons_zero, List.set_cons_succ]
                  have hi4 : IS w4 wr.heap.size (.slice (some ⟨gg, 0, none⟩) (so.length + 1) cap) (so ++ [(k : Int)]) := by
                    unfold IS
                    rw [List.map_append, List.length_append]
                    exact hown1
                  have hb4 : Below wr.heap.size wr w4 := hVB.grown hgrow1 hVB.size (fun q hq => (World.ownsRow.lt hown0 q hq).1)
                  have hK4 : KS wr w4 := KS.of hb4
                  refine ⟨hK4, wpAnyH_all (rs := [8]) (by kernel_rfl) (by simp) ?_⟩
                  intro i hi'
                  obtain rfl : i = 8 := by simpa using hi'
                  refine op_call (d := 54) rfl rfl rfl (by go_simp) ((HRC.out w4 _ wr.heap.size hb4 hi4 hb4.size).mono ?_)
                  rintro e w5 ⟨v5, q5, rfl, hf5, hb5⟩
                  have hK5 := hK4.call hb5
                  refine ⟨_, rfl, hK5, ?_⟩
                  simp only [Act.put, List.setIfInBounds_toArray, List.set_cons_zero, List.set_cons_succ]
                  refine wpAnyH_all (rs := [9]) (by kernel_rfl) (by simp) ?_
                  intro i hi'
                  obtain rfl : i = 9 := by simpa using hi'
                  refine op_val (d := 45) (v := .tuple #[v5, .bool q5]) (w' := w5) rfl rfl rfl (by go_simp) ?_
                  simp only [Act.put, List.setIfInBounds_toArray, List.set_cons_zero, List.set_cons_succ]
                  refine ⟨hK5, ?_⟩
                  have hS := hK5
                  refine fl_take (i := 10) (d := 55) (v := v5) rfl rfl rfl (by kernel_rfl) (by kernel_rfl) (by kernel_rfl) hS ?_ ?_
                  · intro w' hk; go_simp
                  simp only [Act.put, List.setIfInBounds_toArray, List.set_cons_zero, List.set_cons_succ]
                  refine fl_take (i := 11) (d := 56) (v := .bool q5) rfl rfl rfl (by kernel_rfl) (by kernel_rfl) (by kernel_rfl) hS ?_ ?_
                  · intro w' hk; go_simp
                  simp only [Act.put, List.setIfInBounds_toArray, List.set_cons_zero, List.set_cons_succ]
                  refine fl_take (i := 12) (d := 11) (v := v5) rfl rfl rfl (by kernel_rfl) (by kernel_rfl) (by kernel_rfl) hS ?_ ?_
                  · intro w' hk; go_simp
                  simp only [Act.put, List.setIfInBounds_toArray, List.set_cons_zero, List.set_cons_succ]
                  refine fl_take (i := 13) (d := 12) (v := .bool q5) rfl rfl rfl (by kernel_rfl) (by kernel_rfl) (by kernel_rfl) hS ?_ ?_
                  · intro w' hk; go_simp
                  simp only [Act.put, List.setIfInBounds_toArray, List.set_cons_zero, List.set_cons_succ]
                  refine wpAnyH_done (by kernel_rfl) (NoPanic.normal ?_) _
                  go_wp2_with (fail)
                  go_meet
                  exact ⟨_, _, rfl, rfl, hf5, hK5.2⟩
              case rest =>
                obtain ⟨v, q, rfl, rfl, hC⟩ := hcut
                have HB2 : Hid (B2 w (n : Int) (n : Int) (.slice aa la ca) (.slice ab lb cb) wc) := HR.out.1.next hC.out.2
                obtain ⟨gk, hgk⟩ : ∃ gk, gk = G k := ⟨_, rfl⟩
                have HC : Hid (FR gk wc wr.heap.size v q ∧ gk = G k) := ⟨by rw [hgk]; exact hC.out.1, hgk⟩
                clear hC hgk a0 a1 b0 b1' l1 l2
                cases gk with
                | none =>
                  have HP : Hid (∀ v, v < k + 1 → G v = none) := fun v hv => by
                    rcases (by omega : v < k ∨ v = k) with e | rfl
                    · exact HR.out.2 v e
                    · exact HC.out.2.symm
                  obtain rfl : q = false := HC.out.1
                  go_wp2
                  go_roundw
                  case rel => exact ⟨k + 1, by omega, by go_num, HB2.out, HP.out⟩
                  case measure => simp [intOf]; omega
                | some xs =>
                  obtain rfl : q = true := HC.out.1.1
                  have HF : Hid (FR R wc B v true) := by
                    unfold Hid
                    rw [H.out.2.2.1, find_hit hlt HR.out.2 HC.out.2.symm]
                    exact ⟨rfl, HC.out.1.2.low (Nat.le_trans H.out.2.1.2.2.2 HR.out.1.bl.size)⟩
                  go_wp2
                  go_returns
                  exact ⟨_, _, rfl, HF.out, HB2.out.bl⟩
      · have HF : Hid (FR R wr B (.slice none 0 0) false ∧ Below w.heap.size w wr) := by
          refine ⟨?_, hQ.out.1.bl⟩
          rw [H.out.2.2.1, find_none (fun v hv => hQ.out.2 v (by omega))]
          exact rfl
        clear hQ
        go_wp2
        go_returns
        exact ⟨_, _, rfl, HF.out.1, HF.out.2⟩

end Go.Proofs.Ytbfieehlekgjeaa
