/- Proved here: the model's l8Has and l8Sums. -/
import Derived.Test.YtfjcebgknpccbabLnM
import Derived.Deep.AppendLies
namespace Go.Proofs.Ytfjcebgknpccbab
open Go.RowKit
set_option linter.unusedVariables false
set_option linter.unusedSimpArgs false

theorem hasB_drop {ls : List Ln} {y : Int} {k : Nat} (hk : k < ls.length) : hasB (ls.drop k) y = (hasL ls[k] y || hasB (ls.drop (k + 1)) y) := by
  unfold hasB
  rw [List.drop_eq_getElem_cons hk, List.any_cons]

set_option maxRecDepth 10000 in
set_option maxHeartbeats 3200000 in
theorem spec_has {w : World} {v : Value} {s : List Ln} (y : Int) (hn : s.length ≤ 1048576) (h : RG 2 lnC w v s) :
    Calls Try.prog 44 #[v, .int .i64 y] w fun e w' => e = .returned (.bool (hasB s y)) ∧ w' = w := by
  obtain ⟨a, c, rfl⟩ := h.form
  obtain ⟨n, hnn⟩ : ∃ n, n = s.length := ⟨_, rfl⟩
  obtain ⟨C, hC⟩ : ∃ C, C = hasB s y := ⟨_, rfl⟩
  rw [← hnn] at hn h ⊢
  rw [← hC]
  have H : Hid (RG 2 lnC w (.slice a n c) s ∧ n = s.length ∧ C = hasB s y) := ⟨h, hnn, hC⟩
  clear h hnn hC
  go_enter Try.func44, Try.ntmps44
  go_wp2
  go_loopw [5] (fun i wr => ∃ k : Nat, k ≤ n ∧ i = .int .i64 k ∧ w = wr ∧ Hid (hasB (s.drop k) y = C)) (fun i _ => n - (intOf i).toNat)
  case atStart => exact ⟨0, Nat.zero_le _, rfl, rfl, H.out.2.2.symm⟩
  case round =>
    obtain ⟨k, hk, rfl, rfl, hR⟩ := hrel
    by_cases hlt : k < n
    · have hkl : k < s.length := by rw [← H.out.2.1]; exact hlt
      obtain ⟨g, o, c2, he, hg, hj⟩ := H.out.1.pos (by omega)
      simp only [Value.slice.injEq] at he
      obtain ⟨rfl, hx1, hx2⟩ := he
      clear hx1 hx2
      obtain ⟨c0, c1⟩ := lnC_at (hj k hkl)
      obtain ⟨x, hx⟩ : ∃ x, x = s[k] := ⟨_, rfl⟩
      rw [← hx] at c0 c1
      have HS : Hid (C = (hasL x y || hasB (s.drop (k + 1)) y)) := by unfold Hid; rw [← hR.out, hasB_drop hkl, hx]
      clear hx hR hj
      have b0 : (0 : Int) ≤ (k : Int) := by omega
      have b1 : (k : Int) < (n : Int) := by omega
      by_cases q1 : x.f ≤ y
      · by_cases q2 : y < x.t
        · have HE : Hid (C = true) := by unfold Hid; rw [HS.out]; simp [hasL, q1, q2]
          go_wp2
          go_returns
          exact ⟨by rw [HE.out]; rfl, rfl⟩
        · have HM : Hid (hasB (s.drop (k + 1)) y = C) := by unfold Hid; rw [HS.out]; simp [hasL, q1, q2]
          go_wp2
          go_roundw
          case rel => exact ⟨k + 1, by omega, by go_num, by trivial, HM.out⟩
          case measure => simp [intOf]; omega
      · have HM : Hid (hasB (s.drop (k + 1)) y = C) := by unfold Hid; rw [HS.out]; simp [hasL, q1]
        go_wp2
        go_roundw
        case rel => exact ⟨k + 1, by omega, by go_num, by trivial, HM.out⟩
        case measure => simp [intOf]; omega
    · have e : Hid (C = false) := by
        unfold Hid
        rw [← hR.out, List.drop_eq_nil_of_le (by rw [← H.out.2.1]; omega)]
        rfl
      clear hR
      go_wp2
      go_returns
      exact ⟨by rw [e.out]; rfl, rfl⟩

set_option maxHeartbeats 800000 in
theorem spec_abs (n : Int) (h1 : -1000 ≤ n) (h2 : n ≤ 1000) (w : World) : Calls Try.prog 51 #[.int .i64 n] w fun e w' => e = .returned (.int .i64 (n.natAbs : Nat)) ∧ w' = w := by
  have hw : IntKind.i64.wrap (-n) = -n := by rw [IntKind.wrap_i64]; omega
  by_cases h : n < 0
  · go_enter Try.func51, Try.ntmps51
    go_wp2
    go_returns
    exact ⟨by rw [show ((n.natAbs : Nat) : Int) = -n by omega]; rfl, rfl⟩
  · go_enter Try.func51, Try.ntmps51
    go_wp2
    go_returns
    exact ⟨by rw [show ((n.natAbs : Nat) : Int) = n by omega]; rfl, rfl⟩

/-- The list under way. -/
def stK (ls : List Ln) (ws : List Int) (L x : Nat) : List Int := (List.range x).map fun j => psum ls ws j L
theorem stK_succ (ls : List Ln) (ws : List Int) (L x : Nat) : stK ls ws L (x + 1) = stK ls ws L x ++ [psum ls ws x L] := by simp [stK, List.range_succ]
theorem stK_len (ls : List Ln) (ws : List Int) (L x : Nat) : (stK ls ws L x).length = x := by simp [stK]
theorem IS.snocL {w : World} {B : Nat} {v : Value} {xs : List Int} {y : Int} (h : w.ownsRow B 2 1 v (xs.length + 1) (xs.map (Value.int .i64) ++ [.int .i64 y])) : IS w B v (xs ++ [y]) := by
  unfold IS
  rw [List.length_append, List.map_append]
  exact h
/-- Where the model stands. -/
structure StS (w wr : World) (o : Obj) (v : Value) (cur : List Int) : Prop where
  bl : Below w.heap.size w wr
  bx : wr.heap[w.heap.size]? = some o
  su : IS wr (w.heap.size + 1) v cur

set_option maxRecDepth 10000 in
set_option maxHeartbeats 12800000 in
theorem spec_sums {w : World} {v : Value} {s : List Ln} {len : Int} {u : Value} {ws : List Int} (K : Int) {L : Nat} (hL : len = (L : Int)) (hLb : L ≤ 60) (hn : s.length ≤ 12) (hw : OkW ws) (h : RG 2 lnC w v s) (hu : RdI w u ws) :
    Calls Try.prog 43 #[v, .int .i64 len, .agg #[u, .int .i64 K]] w fun e w' => ∃ r, e = .returned r ∧ IS w' w.heap.size r (sumsK s ws L) ∧ Below w.heap.size w w' := by
  subst hL
  obtain ⟨a, c, rfl⟩ := h.form
  obtain ⟨n, hnn⟩ : ∃ n, n = s.length := ⟨_, rfl⟩
  obtain ⟨b, d, rfl⟩ := hu.form
  obtain ⟨m, hmm⟩ : ∃ m, m = ws.length := ⟨_, rfl⟩
  rw [← hnn] at h ⊢
  rw [← hmm] at hu ⊢
  obtain ⟨BX, hBX⟩ : ∃ BX, BX = Obj.cells #[.slice b m d, .int .i64 K] 33 := ⟨_, rfl⟩
  have H : Hid (RG 2 lnC w (.slice a n c) s ∧ RdI w (.slice b m d) ws ∧ n = s.length ∧ m = ws.length ∧ OkW ws ∧ s.length ≤ 12 ∧ BX = Obj.cells #[.slice b m d, .int .i64 K] 33) := ⟨h, hu, hnn, hmm, hw, hn, hBX⟩
  have hm8 : m ≤ 8 := by rw [hmm]; exact hw.2.1
  clear h hu hnn hmm hw hn
  obtain ⟨i0, hi, hz0, hz1, hz2⟩ := info_parts info_i64
  go_enter Try.func43, Try.ntmps43
  go_wp2
  rw [← hBX]
  clear hBX
  go_loopw [7, 8] (fun o i wr => ∃ (x : Nat) (v : Value), x ≤ L ∧ v = o ∧ i = .int .i64 x ∧ Hid (StS w wr BX v (stK s ws L x))) (fun _ i _ => L - (intOf i).toNat)
  case atStart =>
    refine ⟨0, _, Nat.zero_le _, rfl, rfl, by (repeat' (first | (with_reducible exact Below.refl _ _) | (with_reducible assumption) | (with_reducible refine Below.setCell ?_ ?_ _) | (with_reducible refine Below.alloc ?_ ?_ _) | (with_reducible refine below_drewN ?_ _) | (with_reducible refine Below.drew ?_) | (with_reducible exact Nat.le_refl _) | omega | (simp; done) | (simp; omega))), (Below.heap_alloc _ _ _ (by simp)).trans (heap_alloc_new w _), ?_⟩
    have := World.ownsRow_lit (e := 2) (size := 1) (base := w.heap.size + 1) (w.alloc BX) #[] 0 (by simp) (by decide) (by simp)
    simpa [IS, stK] using this
  case round =>
    obtain ⟨x, v, hx, rfl, rfl, hR⟩ := hrel
    by_cases hltx : x < L
    · have bx : (x : Int) < (L : Int) := by omega
      go_wp2
      obtain ⟨wo, hwo⟩ : ∃ wo, wo = wr := ⟨_, rfl⟩
      have HRo : Hid (StS w wo BX v (stK s ws L x)) := by unfold Hid; rw [hwo]; exact hR.out
      clear hR
      go_loopw [9, 10] (fun z i wv => ∃ y : Nat, y ≤ L ∧ i = .int .i64 y ∧ z = .int .i64 (psum s ws x y) ∧ wo = wv) (fun _ i _ => L - (intOf i).toNat)
      case atStart => exact ⟨0, Nat.zero_le _, rfl, rfl, hwo⟩
      case round =>
        clear hwo
        obtain ⟨y, hy, rfl, rfl, rfl⟩ := hrel
        by_cases hlty : y < L
        · have by1 : (y : Int) < (L : Int) := by omega
          obtain ⟨q, hq⟩ : ∃ q, q = ((x : Int) - (y : Int)).natAbs := ⟨_, rfl⟩
          have hqb : q ≤ 60 := by omega
          have HA : Hid (∀ W, Calls Try.prog 51 #[.int .i64 ((x : Int) - (y : Int))] W fun e w' => e = .returned (.int .i64 (q : Nat)) ∧ w' = W) := fun W => by rw [hq]; exact spec_abs _ (by omega) (by omega) W
          obtain ⟨hb', hhb⟩ : ∃ B, B = hasB s (y : Int) := ⟨_, rfl⟩
          have HH : Hid (Calls Try.prog 44 #[.slice a n c, .int .i64 y] wo fun e w' => e = .returned (.bool hb') ∧ w' = wo) := by rw [hhb]; exact spec_has _ (by have := H.out.2.2.2.2.2.1; omega) (H.out.1.below HRo.out.bl)
          obtain ⟨P, hP⟩ : ∃ P, P = psum s ws x y := ⟨_, rfl⟩
          have hPb : 0 ≤ P ∧ P ≤ 60000 := by rw [hP]; have := psum_bd (ls := s) H.out.2.2.2.2.1 x y; omega
          have HN : Hid (psum s ws x (y + 1) = P + (if hb' = true then ws.getD q 0 else 0)) := by unfold Hid; rw [psum, hP, hhb, hq]; rfl
          rw [← hP]
          have r0 : wo.cell? ⟨w.heap.size, 0, none⟩ = some (.slice b m d) := by simp [World.cell?, HRo.out.bx, H.out.2.2.2.2.2.2]
          have e1 : IntKind.i64.wrap ((x : Int) - (y : Int)) = (x : Int) - (y : Int) := by rw [IntKind.wrap_i64]; omega
          clear hP hhb hq
          go_wp2_with (fail)
          refine (HA.out _).mono ?_
          rintro e w3 ⟨rfl, hw3⟩
          subst w3
          by_cases hqm : q < m
          · have bq : (q : Int) < (m : Int) := by omega
            go_wp2_with (fail)
            refine HH.out.mono ?_
            rintro e w3 ⟨rfl, hw3⟩
            subst w3
            cases hb' with
            | true =>
              obtain ⟨gw, ow, haw, hgw, hxw⟩ := rd_at (H.out.2.1.below HRo.out.bl) hqm
              subst haw
              obtain ⟨X, hX⟩ : ∃ X, X = ws.getD q 0 := ⟨_, rfl⟩
              have hXb : 0 ≤ X ∧ X ≤ 1000 := by rw [hX]; exact H.out.2.2.2.2.1.at q
              rw [← hX] at hxw
              have HN2 : Hid (P + X = psum s ws x (y + 1)) := by unfold Hid; rw [HN.out, if_pos rfl, hX]
              have e2 : IntKind.i64.wrap (P + X) = P + X := by rw [IntKind.wrap_i64]; omega
              clear hX
              have bq0 : (0 : Int) ≤ (q : Int) := by omega
              go_wp2
              go_roundw
              case rel => exact ⟨y + 1, by omega, by go_num, by rw [← HN2.out], by trivial⟩
              case measure => simp [intOf]; omega
            | false =>
              have HN2 : Hid (P = psum s ws x (y + 1)) := by unfold Hid; rw [HN.out]; simp
              go_wp2
              go_roundw
              case rel => exact ⟨y + 1, by omega, by go_num, by rw [← HN2.out], by trivial⟩
              case measure => simp [intOf]; omega
          · have bq : ¬ (q : Int) < (m : Int) := by omega
            have HN2 : Hid (P = psum s ws x (y + 1)) := by
              unfold Hid; rw [HN.out, List.getD_eq_getElem?_getD, List.getElem?_eq_none (by rw [← H.out.2.2.2.1]; omega)]; simp
            go_wp2
            go_roundw
            case rel => exact ⟨y + 1, by omega, by go_num, by rw [← HN2.out], by trivial⟩
            case measure => simp [intOf]; omega
        · have by1 : ¬ (y : Int) < (L : Int) := by omega
          obtain ⟨Y, hY⟩ : ∃ Y, Y = psum s ws x y := ⟨_, rfl⟩
          have HST : Hid (stK s ws L (x + 1) = stK s ws L x ++ [Y]) := by
            unfold Hid; rw [stK_succ, hY, show y = L by omega]
          rw [← hY]
          clear hY
          have hlen : (stK s ws L x).length ≤ 60 := by rw [stK_len]; omega
          obtain ⟨va, vc, hvf⟩ := HRo.out.su.form
          subst hvf
          generalize stK s ws L x = cur at HRo HST hlen ⊢
          have hszo : w.heap.size + 1 ≤ wo.heap.size := by
            rcases Nat.lt_or_ge w.heap.size wo.heap.size with h' | h'
            · exact h'
            · have := HRo.out.bx; rw [Array.getElem?_eq_none h'] at this; cases this
          go_wp2_with (at_builtin; refine wpList_append_own _ rfl _ _ 23 rfl (w.heap.size + 1) 2 i0 (.int .i64 0) 1 8 Try.underlying23 hi hz0 hz1 hz2 rfl (by decide) _ _ _ rfl (World.ownsRow.alloc HRo.out.su _) ⟨wo.heap.size, 0, none⟩ 1 1 [.int .i64 Y] rfl rfl (World.news_of_block (cs := #[.int .i64 Y]) (t := 2) (fr := (0, 0)) (heap_alloc_new wo _)) (by simp [Value.oneCell']) (by unfold maxLen; omega) (by omega) (by simp; omega) ?_; intro v6 w6 hown6 hgrow6 _)
          have R6 : Hid (StS w w6 BX v6 (stK s ws L (x + 1))) := by
            unfold Hid
            rw [HST.out]
            have hne : ∀ g, (Value.slice va cur.length vc).ownBlock = some g → w.heap.size + 1 ≤ g := fun g hg => (World.ownsRow.lt HRo.out.su g hg).1
            refine ⟨(HRo.out.bl.alloc (by omega) _).grown hgrow6 (by simp; omega) (fun k hk => by have := hne k hk; omega), ?_, IS.snocL hown6⟩
            rw [hgrow6.block _ (by simp; omega) (fun e => by have := hne _ e.symm; omega), Below.heap_alloc _ _ _ (by omega)]
            exact HRo.out.bx
          clear hown6 hgrow6 HRo HST
          go_wp2
          go_roundw
          case rel => exact ⟨x + 1, v6, by omega, rfl, by go_num, R6.out⟩
          case measure => simp [intOf]; omega
    · have bx : ¬ (x : Int) < (L : Int) := by omega
      have HN : Hid (StS w wr BX v (sumsK s ws L)) := by
        unfold Hid
        have h := hR.out
        rw [show x = L by omega] at h
        exact h
      clear hR
      go_wp2
      go_returns
      exact ⟨_, rfl, HN.out.su.low (by omega), HN.out.bl⟩

end Go.Proofs.Ytfjcebgknpccbab
