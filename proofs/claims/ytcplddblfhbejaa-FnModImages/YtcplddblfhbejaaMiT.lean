/- Proved here: the model's ModImage. -/
import Derived.Test.YtcplddblfhbejaaMiJ
import Derived.Deep.AppendLies
namespace Go.Proofs.Ytcplddblfhbejaa
open Go.RowKit
set_option linter.unusedVariables false
set_option linter.unusedSimpArgs false

set_option maxHeartbeats 6400000 in
theorem spec_mi_form {al ab aS : Option Addr} {n cl m cb l cs : Nat} (w : World) (hn : n ≤ 1048576) (h : badN n m) :
    Calls Try.prog 11 #[.slice al n cl, .slice ab m cb, .slice aS l cs] w fun e w' => e = .returned (.agg #[.int .i64 1, .slice none 0 0]) ∧ Below w.heap.size w w' := by
  by_cases h0 : n = 0
  · subst h0
    go_enter Try.func11, Try.ntmps11
    go_wp2
    go_returns
    exact ⟨rfl, by (repeat' (first | (with_reducible exact Below.refl _ _) | (with_reducible assumption) | (with_reducible refine Below.setCell ?_ ?_ _) | (with_reducible refine Below.alloc ?_ ?_ _) | (with_reducible refine below_drewN ?_ _) | (with_reducible refine Below.drew ?_) | (with_reducible exact Nat.le_refl _) | omega | (simp; done) | (simp; omega)))⟩
  have hn0 : ((n : Int) == 0) = false := by simp; omega
  have hn1 : ¬ (n : Int) = 0 := by omega
  by_cases h1 : bits BinOp.and .i64 (n : Int) ((n : Int) - 1) = 0
  case neg =>
    go_enter Try.func11, Try.ntmps11
    go_wp2
    go_returns
    exact ⟨rfl, by (repeat' (first | (with_reducible exact Below.refl _ _) | (with_reducible assumption) | (with_reducible refine Below.setCell ?_ ?_ _) | (with_reducible refine Below.alloc ?_ ?_ _) | (with_reducible refine below_drewN ?_ _) | (with_reducible refine Below.drew ?_) | (with_reducible exact Nat.le_refl _) | omega | (simp; done) | (simp; omega)))⟩
  have h2 : ((m : Int) != (n : Int)) = true := by
    rcases h with h | h | h
    · exact absurd h h0
    · exact absurd h1 h
    · simp; omega
  have h3 : ¬ (m : Int) = (n : Int) := by simpa using h2
  go_enter Try.func11, Try.ntmps11
  go_wp2
  go_returns
  exact ⟨rfl, by (repeat' (first | (with_reducible exact Below.refl _ _) | (with_reducible assumption) | (with_reducible refine Below.setCell ?_ ?_ _) | (with_reducible refine Below.alloc ?_ ?_ _) | (with_reducible refine below_drewN ?_ _) | (with_reducible refine Below.drew ?_) | (with_reducible exact Nat.le_refl _) | omega | (simp; done) | (simp; omega)))⟩

set_option maxHeartbeats 6400000 in
theorem spec_mi_many {al ab aS : Option Addr} {n cl m cb l cs : Nat} (w : World) (hn : n ≤ 1048576) (h : ¬ badN n m) (h2 : 32 < n ∨ 12 < l) :
    Calls Try.prog 11 #[.slice al n cl, .slice ab m cb, .slice aS l cs] w fun e w' => e = .returned (.agg #[.int .i64 2, .slice none 0 0]) ∧ Below w.heap.size w w' := by
  unfold badN at h
  have h0 : ¬ n = 0 := fun e => h (Or.inl e)
  have h1 : bits BinOp.and .i64 (n : Int) ((n : Int) - 1) = 0 := Classical.not_not.1 fun e => h (Or.inr (Or.inl e))
  obtain rfl : m = n := Classical.not_not.1 fun e => h (Or.inr (Or.inr e))
  clear h
  have hn0 : ((m : Int) == 0) = false := by simp; omega
  have hn1 : ¬ (m : Int) = 0 := by omega
  by_cases h3 : 32 < m
  · have h3' : (32 : Int) < (m : Int) := by omega
    go_enter Try.func11, Try.ntmps11
    go_wp2
    go_returns
    exact ⟨rfl, by (repeat' (first | (with_reducible exact Below.refl _ _) | (with_reducible assumption) | (with_reducible refine Below.setCell ?_ ?_ _) | (with_reducible refine Below.alloc ?_ ?_ _) | (with_reducible refine below_drewN ?_ _) | (with_reducible refine Below.drew ?_) | (with_reducible exact Nat.le_refl _) | omega | (simp; done) | (simp; omega)))⟩
  · have h3' : ¬ (32 : Int) < (m : Int) := by omega
    have h4 : (12 : Int) < (l : Int) := by omega
    go_enter Try.func11, Try.ntmps11
    go_wp2
    go_returns
    exact ⟨rfl, by (repeat' (first | (with_reducible exact Below.refl _ _) | (with_reducible assumption) | (with_reducible refine Below.setCell ?_ ?_ _) | (with_reducible refine Below.alloc ?_ ?_ _) | (with_reducible refine below_drewN ?_ _) | (with_reducible refine Below.drew ?_) | (with_reducible exact Nat.le_refl _) | omega | (simp; done) | (simp; omega)))⟩

/-- The list under way. -/
def mtK (mk bk ss : List Int) (n x : Nat) : List Int := (List.range x).map fun j => imK mk bk ss (rtK n) n (j : Nat) ss.length
theorem mtK_succ (mk bk ss : List Int) (n x : Nat) : mtK mk bk ss n (x + 1) = mtK mk bk ss n x ++ [imK mk bk ss (rtK n) n x ss.length] := by simp [mtK, List.range_succ]
theorem mtK_len (mk bk ss : List Int) (n x : Nat) : (mtK mk bk ss n x).length = x := by simp [mtK]
theorem mtK_done (mk bk ss : List Int) : mtK mk bk ss mk.length mk.length = miK mk bk ss := rfl
theorem IS.snocM {w : World} {B : Nat} {v : Value} {xs : List Int} {y : Int} (h : w.ownsRow B 2 1 v (xs.length + 1) (xs.map (Value.int .i64) ++ [.int .i64 y])) : IS w B v (xs ++ [y]) := by
  unfold IS
  rw [List.length_append, List.map_append]
  exact h
theorem exK_neg {n sh x : Int} {k : Nat} (h : 0 < n) : (-((exK n sh x k : Nat) : Int)) % n = ((exK n sh (-x) k : Nat) : Int) := by
  rw [exK_int h, exK_int h, neg_mod, Int.mul_neg]

structure MtS (w wr : World) (v : Value) (cur : List Int) : Prop where
  bl : Below w.heap.size w wr
  rs : wr.heap[w.heap.size]? = some (.cells #[.int .i64 0, .slice none 0 0] 28)
  su : IS wr (w.heap.size + 1) v cur

set_option maxRecDepth 10000 in
set_option maxHeartbeats 12800000 in
theorem spec_mi_ok {al ab aS : Option Addr} {n cl cb l cs : Nat} {w : World} {mk bk ss : List Int} (h : ¬ badN n n) (h32 : n ≤ 32) (h12 : l ≤ 12) (hm : RdI w (.slice al n cl) mk) (hb : RdI w (.slice ab n cb) bk) (hs : RdI w (.slice aS l cs) ss) :
    Calls Try.prog 11 #[.slice al n cl, .slice ab n cb, .slice aS l cs] w fun e w' => ∃ v, e = .returned (.agg #[.int .i64 0, v]) ∧ IS w' w.heap.size v (miK mk bk ss) ∧ Below w.heap.size w w' := by
  unfold badN at h
  have h0 : ¬ n = 0 := fun e => h (Or.inl e)
  have h1 : bits BinOp.and .i64 (n : Int) ((n : Int) - 1) = 0 := Classical.not_not.1 fun e => h (Or.inr (Or.inl e))
  clear h
  have hn0 : ((n : Int) == 0) = false := by simp; omega
  have hn1 : ¬ (n : Int) = 0 := by omega
  have h3' : ¬ (32 : Int) < (n : Int) := by omega
  have h4' : ¬ (12 : Int) < (l : Int) := by omega
  have hnp : (0 : Int) < (n : Int) := by omega
  obtain ⟨R, hR⟩ : ∃ R, R = rtK n := ⟨_, rfl⟩
  have hRb : 0 ≤ R ∧ R < 998244353 := by rw [hR]; exact pwP_bd 3 (998244352 / n)
  have H : Hid (RdI w (.slice al n cl) mk ∧ RdI w (.slice ab n cb) bk ∧ RdI w (.slice aS l cs) ss ∧ n = mk.length ∧ l = ss.length ∧ R = rtK n) := ⟨hm, hb, hs, hm.len, hs.len, hR⟩
  have hq : (998244352 : Int).tdiv n = ((998244352 / n : Nat) : Int) := by rw [Int.tdiv_eq_ediv_of_nonneg (by omega)]; rfl
  have hqb : 998244352 / n ≤ 998244352 := Nat.div_le_self _ _
  have HP0 : Hid (∀ W, Calls Try.prog 45 #[.int .i64 3, .int .i64 ((998244352 / n : Nat) : Int)] W fun e w' => e = .returned (.int .i64 R) ∧ w' = W) := fun W => by rw [hR]; exact spec_pow 3 _ (by omega) (by omega) (by omega) W
  clear hm hb hs hR
  generalize hQ : 998244352 / n = q at *
  have hq2 : (998244352 : Int) / (n : Int) = (q : Int) := by rw [← Int.tdiv_eq_ediv_of_nonneg (by omega)]; exact hq
  have wq : IntKind.i64.wrap (q : Int) = (q : Int) := by rw [IntKind.wrap_i64]; omega
  obtain ⟨i0, hi, hz0, hz1, hz2⟩ := info_parts info_i64
  go_enter Try.func11, Try.ntmps11
  go_wp2_with (fail)
  refine (HP0.out _).mono ?_
  rintro e w1 ⟨rfl, hw1⟩
  subst w1
  go_wp2
  clear HP0 hq hq2 wq hQ hqb
  go_loopw [9, 10] (fun o i wr => ∃ (x : Nat) (v : Value), x ≤ n ∧ v = o ∧ i = .int .i64 x ∧ Hid (MtS w wr v (mtK mk bk ss n x))) (fun _ i _ => n - (intOf i).toNat)
  case atStart =>
    refine ⟨0, _, Nat.zero_le _, rfl, rfl, by (repeat' (first | (with_reducible exact Below.refl _ _) | (with_reducible assumption) | (with_reducible refine Below.setCell ?_ ?_ _) | (with_reducible refine Below.alloc ?_ ?_ _) | (with_reducible refine below_drewN ?_ _) | (with_reducible refine Below.drew ?_) | (with_reducible exact Nat.le_refl _) | omega | (simp; done) | (simp; omega))), (Below.heap_alloc _ _ _ (by simp)).trans (heap_alloc_new w _), ?_⟩
    have := World.ownsRow_lit (e := 2) (size := 1) (base := w.heap.size + 1) (w.alloc (.cells #[.int .i64 0, .slice none 0 0] 28)) #[] 0 (by simp) (by decide) (by simp)
    simpa [IS, mtK] using this
  case round =>
    obtain ⟨x, v, hx, rfl, rfl, hR⟩ := hrel
    by_cases hltx : x < n
    · have bx : (x : Int) < (n : Int) := by omega
      go_wp2
      obtain ⟨wo, hwo⟩ : ∃ wo, wo = wr := ⟨_, rfl⟩
      have HRo : Hid (MtS w wo v (mtK mk bk ss n x)) := by unfold Hid; rw [hwo]; exact hR.out
      clear hR
      go_loopw [11, 12] (fun z i wv => ∃ j : Nat, j ≤ l ∧ i = .int .i64 j ∧ z = .int .i64 (imK mk bk ss R n x j) ∧ wo = wv) (fun _ i _ => l - (intOf i).toNat)
      case atStart => exact ⟨0, Nat.zero_le _, rfl, rfl, hwo⟩
      case round =>
        clear hwo
        obtain ⟨j, hj, rfl, rfl, rfl⟩ := hrel
        by_cases hltj : j < l
        · have bj : (j : Int) < (l : Int) := by omega
          have b0 : (0 : Int) ≤ (j : Int) := by omega
          obtain ⟨gS, oS, haS, hgS, hxS⟩ := rd_at (H.out.2.2.1.below HRo.out.bl) hltj
          subst haS
          obtain ⟨X, hX⟩ : ∃ X, X = ss.getD j 0 := ⟨_, rfl⟩
          rw [← hX] at hxS
          obtain ⟨F, hF⟩ : ∃ F, F = X % (n : Int) := ⟨_, rfl⟩
          have hFb : 0 ≤ F ∧ F < (n : Int) := by rw [hF]; exact ⟨Int.emod_nonneg _ (by omega), Int.emod_lt_of_pos _ (by omega)⟩
          have HM0 : Hid (∀ W, Calls Try.prog 46 #[.int .i64 X, .int .i64 n] W fun e w' => e = .returned (.int .i64 F) ∧ w' = W) := fun W => by rw [hF]; exact spec_mod X n hnp (by omega) W
          have HX : Hid (X = ss.getD j 0 ∧ F = X % (n : Int)) := ⟨hX, hF⟩
          clear hX hF
          go_wp2
          go_loopw [13, 14, 15] (fun za zb i wv => ∃ k : Nat, k ≤ n ∧ i = .int .i64 k ∧ za = .int .i64 (rsK mk R n X x k) ∧ zb = .int .i64 (rsK bk R n X (-x) k) ∧ wo = wv) (fun _ _ i _ => n - (intOf i).toNat)
          case atStart => exact ⟨0, Nat.zero_le _, rfl, rfl, rfl, rfl⟩
          case round =>
            obtain ⟨k, hk, rfl, rfl, rfl, rfl⟩ := hrel
            by_cases hltk : k < n
            · have bk0 : (0 : Int) ≤ (k : Int) := by omega
              have bk1 : (k : Int) < (n : Int) := by omega
              obtain ⟨gm, om, ham, hgm, hxm⟩ := rd_at (H.out.1.below HRo.out.bl) hltk
              obtain ⟨gb, ob, hab, hgb, hxb⟩ := rd_at (H.out.2.1.below HRo.out.bl) hltk
              subst ham hab
              obtain ⟨Xm, hXm⟩ : ∃ Y, Y = mk.getD k 0 := ⟨_, rfl⟩
              obtain ⟨Xb, hXb⟩ : ∃ Y, Y = bk.getD k 0 := ⟨_, rfl⟩
              rw [← hXm] at hxm
              rw [← hXb] at hxb
              obtain ⟨E, hE⟩ : ∃ E, E = exK n X x k := ⟨_, rfl⟩
              obtain ⟨G, hG⟩ : ∃ G, G = exK n X (-x) k := ⟨_, rfl⟩
              have hEb : E < n := by rw [hE]; have := exK_lt (n := n) (sh := X) (t := x) (k := k) hnp; omega
              have hGb : G < n := by rw [hG]; have := exK_lt (n := n) (sh := X) (t := -x) (k := k) hnp; omega
              have hEi : (((k : Int) + F) * x) % (n : Int) = (E : Int) := by rw [hE, exK_int hnp, HX.out.2]
              have hGi : (-(E : Int)) % (n : Int) = (G : Int) := by rw [hE, hG]; exact exK_neg hnp
              obtain ⟨Pm, hPm⟩ : ∃ P, P = pwP R E := ⟨_, rfl⟩
              obtain ⟨Pb, hPb⟩ : ∃ P, P = pwP R G := ⟨_, rfl⟩
              obtain ⟨Zm, hZm⟩ : ∃ Z, Z = Xm % 998244353 := ⟨_, rfl⟩
              obtain ⟨Zb, hZb⟩ : ∃ Z, Z = Xb % 998244353 := ⟨_, rfl⟩
              obtain ⟨Sa, hSa⟩ : ∃ S, S = rsK mk R n X x k := ⟨_, rfl⟩
              obtain ⟨Sb, hSb⟩ : ∃ S, S = rsK bk R n X (-x) k := ⟨_, rfl⟩
              rw [← hSa, ← hSb]
              have c1 : 0 ≤ Pm ∧ Pm < 998244353 := by rw [hPm]; exact pwP_bd _ _
              have c2 : 0 ≤ Pb ∧ Pb < 998244353 := by rw [hPb]; exact pwP_bd _ _
              have c3 : 0 ≤ Zm ∧ Zm < 998244353 := by rw [hZm]; exact ⟨Int.emod_nonneg _ (by decide), Int.emod_lt_of_pos _ (by decide)⟩
              have c4 : 0 ≤ Zb ∧ Zb < 998244353 := by rw [hZb]; exact ⟨Int.emod_nonneg _ (by decide), Int.emod_lt_of_pos _ (by decide)⟩
              have c5 : 0 ≤ Sa ∧ Sa < 998244353 := by rw [hSa]; exact rsK_bd _ _ _ _ _ _
              have c6 : 0 ≤ Sb ∧ Sb < 998244353 := by rw [hSb]; exact rsK_bd _ _ _ _ _ _
              have HNa : Hid ((Sa + Zm * Pm) % 998244353 = rsK mk R n X x (k + 1)) := by unfold Hid; rw [hSa, hZm, hPm, hXm, hE]; rfl
              have HNb : Hid ((Sb + Zb * Pb) % 998244353 = rsK bk R n X (-x) (k + 1)) := by unfold Hid; rw [hSb, hZb, hPb, hXb, hG]; rfl
              have m1 := mul_bdP c3.1 c3.2 c1.1 c1.2
              have m2 := mul_bdP c4.1 c4.2 c2.1 c2.2
              have hkt : 0 ≤ ((k : Int) + F) * x ∧ ((k : Int) + F) * x ≤ 2048 := by
                have p1 : 0 ≤ (k : Int) + F := by omega
                have p2 : (k : Int) + F ≤ 64 := by omega
                have q1 := Int.mul_le_mul p2 (show (x : Int) ≤ 32 by omega) (by omega) (by omega)
                have q2 := Int.mul_nonneg p1 (show 0 ≤ (x : Int) by omega)
                omega
              have e1 : IntKind.i64.wrap ((k : Int) + F) = (k : Int) + F := by rw [IntKind.wrap_i64]; omega
              have e2 : IntKind.i64.wrap (((k : Int) + F) * x) = ((k : Int) + F) * x := by rw [IntKind.wrap_i64]; omega
              have e3 : IntKind.i64.wrap (Zm * Pm) = Zm * Pm := by rw [IntKind.wrap_i64]; omega
              have e4 : IntKind.i64.wrap (Sa + Zm * Pm) = Sa + Zm * Pm := by rw [IntKind.wrap_i64]; omega
              have e5 : IntKind.i64.wrap (Zb * Pb) = Zb * Pb := by rw [IntKind.wrap_i64]; omega
              have e6 : IntKind.i64.wrap (Sb + Zb * Pb) = Sb + Zb * Pb := by rw [IntKind.wrap_i64]; omega
              have e7 : (Sa + Zm * Pm).tmod 998244353 = (Sa + Zm * Pm) % 998244353 := Int.tmod_eq_emod_of_nonneg (by omega)
              have e8 : (Sb + Zb * Pb).tmod 998244353 = (Sb + Zb * Pb) % 998244353 := Int.tmod_eq_emod_of_nonneg (by omega)
              have e9 : IntKind.i64.wrap (-(E : Int)) = -(E : Int) := by rw [IntKind.wrap_i64]; omega
              have HM1 : Hid (∀ W, Calls Try.prog 46 #[.int .i64 (((k : Int) + F) * x), .int .i64 n] W fun e w' => e = .returned (.int .i64 E) ∧ w' = W) := fun W => by rw [← hEi]; exact spec_mod _ n hnp (by omega) W
              have HM2 : Hid (∀ W, Calls Try.prog 46 #[.int .i64 Xm, .int .i64 998244353] W fun e w' => e = .returned (.int .i64 Zm) ∧ w' = W) := fun W => by rw [hZm]; exact spec_mod _ _ (by omega) (by omega) W
              have HM3 : Hid (∀ W, Calls Try.prog 45 #[.int .i64 R, .int .i64 E] W fun e w' => e = .returned (.int .i64 Pm) ∧ w' = W) := fun W => by rw [hPm]; exact spec_pow R E hRb.1 hRb.2 (by omega) W
              have HM4 : Hid (∀ W, Calls Try.prog 46 #[.int .i64 Xb, .int .i64 998244353] W fun e w' => e = .returned (.int .i64 Zb) ∧ w' = W) := fun W => by rw [hZb]; exact spec_mod _ _ (by omega) (by omega) W
              have HM5 : Hid (∀ W, Calls Try.prog 46 #[.int .i64 (-(E : Int)), .int .i64 n] W fun e w' => e = .returned (.int .i64 G) ∧ w' = W) := fun W => by rw [← hGi]; exact spec_mod _ n hnp (by omega) W
              have HM6 : Hid (∀ W, Calls Try.prog 45 #[.int .i64 R, .int .i64 G] W fun e w' => e = .returned (.int .i64 Pb) ∧ w' = W) := fun W => by rw [hPb]; exact spec_pow R G hRb.1 hRb.2 (by omega) W
              clear hXm hXb hE hG hPm hPb hZm hZb hSa hSb hEi hGi hEb hGb m1 m2 hkt c1 c2 c3 c4 c5 c6
              go_wp2_with (fail)
              refine (HM0.out _).mono ?_
              rintro e w3 ⟨rfl, hw3⟩
              subst w3
              go_wp2_with (fail)
              refine (HM1.out _).mono ?_
              rintro e w3 ⟨rfl, hw3⟩
              subst w3
              go_wp2_with (fail)
              refine (HM2.out _).mono ?_
              rintro e w3 ⟨rfl, hw3⟩
              subst w3
              go_wp2_with (fail)
              refine (HM3.out _).mono ?_
              rintro e w3 ⟨rfl, hw3⟩
              subst w3
              go_wp2_with (fail)
              refine (HM4.out _).mono ?_
              rintro e w3 ⟨rfl, hw3⟩
              subst w3
              go_wp2_with (fail)
              refine (HM5.out _).mono ?_
              rintro e w3 ⟨rfl, hw3⟩
              subst w3
              go_wp2_with (fail)
              refine (HM6.out _).mono ?_
              rintro e w3 ⟨rfl, hw3⟩
              subst w3
              go_wp2
              go_roundw
              case rel => exact ⟨k + 1, by omega, by go_num, by rw [← HNa.out], by rw [← HNb.out], by trivial⟩
              case measure => simp [intOf]; omega
            · have bk1 : ¬ (k : Int) < (n : Int) := by omega
              have hkn : k = n := by omega
              subst hkn
              obtain ⟨A, hA⟩ : ∃ A, A = rsK mk R k X x k := ⟨_, rfl⟩
              obtain ⟨D, hD⟩ : ∃ D, D = rsK bk R k X (-x) k := ⟨_, rfl⟩
              obtain ⟨O, hO⟩ : ∃ O, O = imK mk bk ss R k x j := ⟨_, rfl⟩
              have hAb : 0 ≤ A ∧ A < 998244353 := by rw [hA]; exact rsK_bd _ _ _ _ _ _
              have hDb : 0 ≤ D ∧ D < 998244353 := by rw [hD]; exact rsK_bd _ _ _ _ _ _
              have hOb : 0 ≤ O ∧ O < 998244353 := by rw [hO]; exact imK_bd _ _ _ _ _ _ _
              have hmb := mul_bdP hAb.1 hAb.2 hDb.1 hDb.2
              have HV : Hid ((O + A * D) % 998244353 = imK mk bk ss R k x (j + 1)) := by
                unfold Hid; rw [hO, hA, hD, HX.out.1]; rfl
              have e1 : IntKind.i64.wrap (A * D) = A * D := by rw [IntKind.wrap_i64]; omega
              have e2 : IntKind.i64.wrap (O + A * D) = O + A * D := by rw [IntKind.wrap_i64]; omega
              have e3 : (O + A * D).tmod 998244353 = (O + A * D) % 998244353 := Int.tmod_eq_emod_of_nonneg (by omega)
              rw [← hA, ← hD, ← hO]
              clear hA hD hO hAb hDb hOb
              go_wp2
              go_roundw
              case rel => exact ⟨j + 1, by omega, by go_num, by rw [← HV.out], by trivial⟩
              case measure => simp [intOf]; omega
        · have bj : ¬ (j : Int) < (l : Int) := by omega
          obtain ⟨Y, hY⟩ : ∃ Y, Y = imK mk bk ss R n x j := ⟨_, rfl⟩
          have HST : Hid (mtK mk bk ss n (x + 1) = mtK mk bk ss n x ++ [Y]) := by
            unfold Hid; rw [mtK_succ, hY, show j = ss.length by have := H.out.2.2.2.2.1; omega, H.out.2.2.2.2.2]
          rw [← hY]
          clear hY
          have hlen : (mtK mk bk ss n x).length ≤ 32 := by rw [mtK_len]; omega
          obtain ⟨va, vc, hvf⟩ := HRo.out.su.form
          subst hvf
          generalize mtK mk bk ss n x = cur at HRo HST hlen ⊢
          have hszo : w.heap.size + 1 ≤ wo.heap.size := by
            rcases Nat.lt_or_ge w.heap.size wo.heap.size with h' | h'
            · exact h'
            · have := HRo.out.rs; rw [Array.getElem?_eq_none h'] at this; cases this
          go_wp2_with (at_builtin; refine wpList_append_own _ rfl _ _ 24 rfl (w.heap.size + 1) 2 i0 (.int .i64 0) 1 8 Try.underlying24 hi hz0 hz1 hz2 rfl (by decide) _ _ _ rfl (World.ownsRow.alloc HRo.out.su _) ⟨wo.heap.size, 0, none⟩ 1 1 [.int .i64 Y] rfl rfl (World.news_of_block (cs := #[.int .i64 Y]) (t := 2) (fr := (0, 0)) (heap_alloc_new wo _)) (by simp [Value.oneCell']) (by unfold maxLen; omega) (by omega) (by simp; omega) ?_; intro v6 w6 hown6 hgrow6 _)
          have R6 : Hid (MtS w w6 v6 (mtK mk bk ss n (x + 1))) := by
            unfold Hid
            rw [HST.out]
            have hne : ∀ g, (Value.slice va cur.length vc).ownBlock = some g → w.heap.size + 1 ≤ g := fun g hg => (World.ownsRow.lt HRo.out.su g hg).1
            refine ⟨(HRo.out.bl.alloc (by omega) _).grown hgrow6 (by simp; omega) (fun k hk => by have := hne k hk; omega), ?_, IS.snocM hown6⟩
            rw [hgrow6.block _ (by simp; omega) (fun e => by have := hne _ e.symm; omega), Below.heap_alloc _ _ _ (by omega)]
            exact HRo.out.rs
          clear hown6 hgrow6 HRo HST
          go_wp2
          go_roundw
          case rel => exact ⟨x + 1, v6, by omega, rfl, by go_num, R6.out⟩
          case measure => simp [intOf]; omega
    · have bx : ¬ (x : Int) < (n : Int) := by omega
      have HN : Hid (MtS w wr v (miK mk bk ss)) := by
        unfold Hid
        have h := hR.out
        have hm := H.out.2.2.2.1
        rw [show x = n by omega, hm, mtK_done] at h
        exact h
      obtain ⟨va, vc, hvf⟩ := HN.out.su.form
      subst hvf
      have r0 : wr.cell? ⟨w.heap.size, 0, none⟩ = some (.int .i64 0) := by simp [World.cell?, HN.out.rs]
      have r1 : wr.cell? ⟨w.heap.size, 1, none⟩ = some (.slice none 0 0) := by simp [World.cell?, HN.out.rs]
      have rf0 : wr.frozen? ⟨w.heap.size, 0, none⟩ = false := by simp [World.frozen?, HN.out.rs]
      have rf1 : wr.frozen? ⟨w.heap.size, 1, none⟩ = false := by simp [World.frozen?, HN.out.rs]
      clear hR
      go_wp2
      try simp only [Exit.inBlock, Exit.then]
      refine bodyPost_ret (by simp [results, Try.results11, go_sem, r0, r1]; try rfl) rfl ⟨_, rfl, ?_, ?_⟩
      · refine (HN.out.su.low (show w.heap.size ≤ w.heap.size + 1 by omega)).kept fun g hg => ?_
        have := (World.ownsRow.lt HN.out.su g hg).1
        rw [heap_setCell_other _ _ _ _ (by simp; omega), heap_setCell_other _ _ _ _ (by simp; omega)]
      · have hB := HN.out.bl
        (repeat' (first | (with_reducible exact Below.refl _ _) | (with_reducible assumption) | (with_reducible refine Below.setCell ?_ ?_ _) | (with_reducible refine Below.alloc ?_ ?_ _) | (with_reducible refine below_drewN ?_ _) | (with_reducible refine Below.drew ?_) | (with_reducible exact Nat.le_refl _) | omega | (simp; done) | (simp; omega)))

/-- The model's ModImage: likewise. -/
theorem spec_mi {al ab aS : Option Addr} {n cl m cb l cs : Nat} {w : World} {mk bk ss : List Int} (hn : n ≤ 1048576) (hm : RdI w (.slice al n cl) mk) (hb : RdI w (.slice ab m cb) bk) (hs : RdI w (.slice aS l cs) ss) :
    Calls Try.prog 11 #[.slice al n cl, .slice ab m cb, .slice aS l cs] w fun e w' => ∃ v, e = .returned (.agg #[.int .i64 (miC mk.length bk.length ss.length), v]) ∧ IS w' w.heap.size v (miL mk bk ss) ∧ Below w.heap.size w w' := by
  have e1 := hm.len
  have e2 := hb.len
  have e3 := hs.len
  unfold miL
  rw [← e1, ← e2, ← e3]
  by_cases h : badN n m
  · have hc : miC n m l = 1 := by unfold miC; rw [if_pos h]
    rw [hc]
    refine (spec_mi_form w hn h).mono ?_
    rintro e w' ⟨rfl, hb⟩
    exact ⟨_, rfl, World.ownsRow_nil _ _ _ _, hb⟩
  by_cases h2 : 32 < n ∨ 12 < l
  · have hc : miC n m l = 2 := by unfold miC; rw [if_neg h, if_pos h2]
    rw [hc]
    refine (spec_mi_many w hn h h2).mono ?_
    rintro e w' ⟨rfl, hb⟩
    exact ⟨_, rfl, World.ownsRow_nil _ _ _ _, hb⟩
  · have hc : miC n m l = 0 := by unfold miC; rw [if_neg h, if_neg h2]
    rw [hc]
    obtain rfl : m = n := by unfold badN at h; exact Classical.not_not.1 fun e => h (Or.inr (Or.inr e))
    refine (spec_mi_ok h (by omega) (by omega) hm hb hs).mono ?_
    rintro e w' ⟨v, rfl, h3, h4⟩
    exact ⟨_, rfl, by simpa using h3, h4⟩

end Go.Proofs.Ytcplddblfhbejaa
