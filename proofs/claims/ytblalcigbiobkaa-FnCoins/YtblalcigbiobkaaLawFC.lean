/- Proved here: 'coins that are taken in two goes are those that are taken in one; each is below most', for every code of bytes, without a condition. -/
import Derived.Test.YtblalcigbiobkaaICoins
import Derived.Test.YtblalcigbiobkaaLw
import Derived.Test.YtblalcigbiobkaaKept
import Derived.Deep.RegionHeld3
import Derived.OpenShut
import Derived.ChangeOld
import Derived.Below
namespace Go.Proofs.Ytblalcigbiobkaa
open Go.ChangeShapes Go.WideShapes Go.ChangeAt Go.RowKit
set_option linter.unusedVariables false
set_option linter.unusedSimpArgs false

theorem seedK_add (s : Int) (i : Nat) : ∀ j, seedK s (i + j) = seedK (seedK s i) j
  | 0 => rfl
  | j + 1 => by show cstep (seedK s (i + j)) = _; rw [seedK_add s i j]; rfl
theorem coinsK_add (s m : Int) (i : Nat) : ∀ j, coinsK s m (i + j) = coinsK s m i ++ coinsK (seedK s i) m j
  | 0 => by simp [coinsK]
  | j + 1 => by
    rw [show i + (j + 1) = (i + j) + 1 by omega, coinsK_succ, coinsK_add s m i j, coinsK_succ, seedK_add, List.append_assoc]
theorem cstep_pos (s : Int) (h0 : 1 ≤ s) (h1 : s ≤ 2147483646) : 1 ≤ cstep s := by
  have hb := cstep_bd s
  rcases Int.lt_or_le 0 (cstep s) with h | h
  · omega
  · exfalso
    have hz : s * 48271 % 2147483647 = 0 := by unfold cstep at hb h; omega
    obtain ⟨q, hq⟩ := Int.dvd_of_emod_eq_zero hz
    have e : s = 2147483647 * (q * 1899818559 - 42704 * s) := by omega
    omega
theorem seedK_pos (s : Int) (h0 : 1 ≤ s) (h1 : s ≤ 2147483646) : ∀ k, 1 ≤ seedK s k
  | 0 => h0
  | k + 1 => cstep_pos _ (seedK_pos s h0 h1 k) (seedK_bd s (by omega) h1 k).2
theorem coin_bd (s m : Int) (h : 1 ≤ m) : 0 ≤ coin s m ∧ coin s m < m := by
  unfold coin
  exact ⟨Int.emod_nonneg _ (by omega), Int.emod_lt_of_pos _ (by omega)⟩
theorem coinsK_bd (s m : Int) (h : 1 ≤ m) (n j : Nat) (hj : j < n) : 0 ≤ (coinsK s m n).getD j 0 ∧ (coinsK s m n).getD j 0 < m := by
  have : (coinsK s m n).getD j 0 = coin (seedK s (j + 1)) m := by simp [coinsK, hj]
  rw [this]; exact coin_bd _ _ h

theorem IS.below {w w' : World} {B : Nat} {v : Value} {xs : List Int} (h : IS w B v xs) (hb : Below w.heap.size w w') : IS w' B v xs :=
  h.kept fun g hg => hb.block g (World.ownsRow.lt h g hg).2

/-- A variable that holds an answer, and its list. -/
structure Var (V : World) (K : Nat) (C X : Int) (v : Value) (B : Nat) (xs : List Int) : Prop where
  blk : V.heap[K]? = some (.cells #[.int .i64 C, .int .i64 X, v] 28)
  lst : IS V B v xs
theorem Var.next {V V' : World} {K : Nat} {C X : Int} {v : Value} {B : Nat} {xs : List Int} (h : Var V K C X v B xs) (hb : Below V.heap.size V V') : Var V' K C X v B xs :=
  ⟨(hb.block _ (lt_of_blk h.blk)).trans h.blk, h.lst.below hb⟩
theorem Var.cells {V : World} {K : Nat} {C X : Int} {v : Value} {B : Nat} {xs : List Int} (h : Var V K C X v B xs) :
    V.cell? ⟨K, 0, none⟩ = some (.int .i64 C) ∧ V.cell? ⟨K, 1, none⟩ = some (.int .i64 X) ∧ V.cell? ⟨K, 2, none⟩ = some v := by
  simp [World.cell?, h.blk]
theorem Var.new {w : World} {C X : Int} {v : Value} {B : Nat} {xs : List Int} (h : IS w B v xs) : Var (w.alloc (.cells #[.int .i64 C, .int .i64 X, v] 28)) w.heap.size C X v B xs :=
  ⟨heap_alloc_new _ _, h.below ((Below.refl _ _).alloc (Nat.le_refl _) _)⟩
theorem below_alloc (w : World) (o : Obj) : Below w.heap.size w (w.alloc o) := (Below.refl _ _).alloc (Nat.le_refl _) _

/-- A code of bytes, as it lies. -/
def CodeAt (w : World) (ca : Option Addr) (n : Nat) (bs : Nat → Int) : Prop :=
  n ≤ 140737488351232 ∧ (∀ j, 0 ≤ bs j ∧ bs j ≤ 255) ∧ (0 < n → ∃ g off, ca = some ⟨g, off, none⟩ ∧ g < w.heap.size ∧ ∀ j, j < n → w.cell? ⟨g, off + j, none⟩ = some (.int .u8 (bs j)))
theorem CodeAt.next {w w' : World} {ca : Option Addr} {n : Nat} {bs : Nat → Int} (h : CodeAt w ca n bs) (hb : Below w.heap.size w w') : CodeAt w' ca n bs := by
  refine ⟨h.1, h.2.1, fun hn => ?_⟩
  obtain ⟨g, off, e, hg, hc⟩ := h.2.2 hn
  exact ⟨g, off, e, Nat.lt_of_lt_of_le hg hb.size, fun j hj => (World.cell?_of_block (hb.block g hg)).trans (hc j hj)⟩
theorem at_any {w : World} {ca : Option Addr} {n : Nat} {bs : Nat → Int} (cap : Nat) (m : Int) (h : CodeAt w ca n bs) (h2 : 1 ≤ m) (h3 : m ≤ 100000) :
    Calls Try.prog 8 #[.slice ca n cap, .int .i64 5, .int .i64 m] w fun e w' => ∃ r k, e = .returned (.int .i64 r) ∧ 0 ≤ r ∧ r < m ∧ w' = w.drewN k := by
  rcases Nat.eq_zero_or_pos n with hn | hn
  · subst hn; exact at_zero ca cap m w h2 h3
  · obtain ⟨g, off, rfl, hg, hc⟩ := h.2.2 hn
    exact at_pos cap n g off bs 5 m w (by omega) (by omega) h2 h3 hn h.1 h.2.1 hc

theorem code_ne {s y m : Int} (h : (coinC s y m != 0) = true) : coinL s y m = [] := by
  unfold coinC at h
  unfold coinL
  cases hk : askOk s y m with
  | false => rfl
  | true => rw [hk] at h; simp at h
theorem code_eq {s y m : Int} (h : (coinC s y m != 0) = false) : askOk s y m = true := by
  unfold coinC at h
  cases hk : askOk s y m with
  | false => rw [hk] at h; simp at h
  | true => rfl
theorem wrap_small {y : Int} (h0 : -1000000 ≤ y) (h1 : y ≤ 1000000) : wrap64 y = y := by unfold wrap64; omega

theorem IS.at {w : World} {B g N c : Nat} {xs : List Int} (h : IS w B (.slice (some ⟨g, 0, none⟩) N c) xs) (hl : xs.length = N) (j : Nat) (hj : j < N) : w.cell? ⟨g, j, none⟩ = some (.int .i64 (xs.getD j 0)) := by
  unfold IS at h
  rw [hl] at h
  rw [h.cellAt j (by omega)]
  have : j < xs.length := by omega
  simp [List.getElem?_map, List.getElem?_eq_getElem this]
theorem IS.news {V w' : World} {B g N c : Nat} {xs : List Int} (h : IS V B (.slice (some ⟨g, 0, none⟩) N c) xs) (hl : xs.length = N) (hb : w'.heap[g]? = V.heap[g]?) :
    ∀ (j : Nat) (u : Value), (xs.map (Value.int .i64))[j]? = some u → w'.cell? ((⟨g, 0, none⟩ : Addr).add j) = some u := by
  intro j u hu
  have hadd : (⟨g, 0, none⟩ : Addr).add j = ⟨g, j, none⟩ := by unfold Addr.add; split <;> simp_all
  rw [hadd, World.cell?_of_block (w := V) hb]
  have hj : j < xs.length := by
    rcases Nat.lt_or_ge j xs.length with h' | h'
    · exact h'
    · rw [List.getElem?_eq_none (by simpa using h')] at hu; cases hu
  rw [h.at hl j (by omega)]
  rw [List.getElem?_map, List.getElem?_eq_getElem hj] at hu
  simpa [List.getElem?_eq_getElem hj] using hu
theorem ints_one (xs : List Int) : ∀ u ∈ xs.map (Value.int .i64), u.oneCell' = true := by
  intro u hu
  simp at hu
  obtain ⟨x, _, rfl⟩ := hu
  rfl
theorem KS.grow {W w w' : World} {row : Option Nat} (h : KS W w) (hg : w.grownBy w' row) (hr : ∀ k, row = some k → W.heap.size ≤ k) : KS W w' := KS.of (h.2.grown hg h.2.size hr)

set_option maxHeartbeats 3200000 in
theorem law_fc (ca : Option Addr) (n cap : Nat) (bs : Nat → Int) (w : World) (hnn : n ≤ maxLen) (hB : ∀ j, 0 ≤ bs j ∧ bs j ≤ 255)
    (hC : 0 < n → ∃ g off, ca = some ⟨g, off, none⟩ ∧ g < w.heap.size ∧ ∀ j, j < n → w.cell? ⟨g, off + j, none⟩ = some (.int .u8 (bs j))) :
    Calls Try.prog 3 #[.slice ca n cap] w fun e w' => e = .returned (.bool true) ∧ Below w.heap.size w w' := by
  by_cases hbig : (1048576 : Int) < n
  · go_enter Try.func3, Try.ntmps3
    go_wp2_with (fail)
    clear hB hC
    refine (big_any _ _ _ _ hnn).mono ?_
    rintro e w' ⟨rfl, hww⟩
    obtain rfl : w = w' := hww.symm
    go_wp2
    go_returns
    exact ⟨rfl, Below.refl _ _⟩
  have hbig' : decide ((1048576 : Int) < n) = false := by simpa using hbig
  have H : Hid (CodeAt w ca n bs) := ⟨by omega, hB, hC⟩
  clear hB hC
  go_enter Try.func3, Try.ntmps3
  go_wp2_with (fail)
  refine (big_any _ _ _ _ hnn).mono ?_
  rintro e w' ⟨rfl, hww⟩
  obtain rfl : w = w' := hww.symm
  go_wp2_with (fail)
  refine (draw_any ca n cap bs _ H.out.1 H.out.2.1 H.out.2.2).mono ?_
  rintro e w1 ⟨s, y, m, rfl, hb1⟩
  cases hask : askOk s y m with
  | false =>
    go_wp2_with (fail)
    refine (impl_coins_bad s y m _ hask).mono ?_
    rintro e w2 ⟨rfl, hb2⟩
    go_wp2_with (fail)
    refine (spec_coins_bad s y m _ (askOk_f hask)).mono ?_
    rintro e w3 ⟨rfl, hb3⟩
    have HB : Hid (Below w.heap.size w w3) := ((hb1.trans (hb2.mono hb1.size)).trans ((below_alloc w2 _).mono (by have := hb1.size; have := hb2.size; omega))).trans (hb3.mono (by have := hb1.size; have := hb2.size; simp; omega))
    obtain ⟨hc3, hf3⟩ := bcell hb3
    have l23 : w2.heap.size < w3.heap.size := by have := hb3.size; simp at this; omega
    clear hb1 hb2 hb3
    go_wp2
    go_returns
    exact ⟨rfl, HB.out.trans ((below_alloc w3 _).mono HB.out.size)⟩
  | true =>
    have ha := askOk_t hask
    obtain ⟨N, rfl⟩ := Int.eq_ofNat_of_zero_le ha.2.2.1
    have hN : N ≤ 5000 := by omega
    go_wp2_with (fail)
    refine (impl_coins_ok s m N _ ha.1 ha.2.1 hN ha.2.2.2.2.1 ha.2.2.2.2.2).mono ?_
    rintro e w2 ⟨g6, c6, rfl, h6, hb2⟩
    go_wp2_with (fail)
    refine (spec_coins_ok s m N _ ha.1 ha.2.1 hN ha.2.2.2.2.1 ha.2.2.2.2.2).mono ?_
    rintro e w3 ⟨v7, rfl, h7, hb3⟩
    obtain ⟨a7, c7, hv7⟩ := h7.form
    subst hv7
    have A3 := (Var.new (C := 0) (X := seedK s N) h6).next hb3
    have hB3 : Below w.heap.size w w3 := ((hb1.trans (hb2.mono hb1.size)).trans ((below_alloc w2 _).mono (by have := hb1.size; have := hb2.size; omega))).trans (hb3.mono (by have := hb1.size; have := hb2.size; simp; omega))
    have A := A3.next (below_alloc w3 (.cells #[.int .i64 0, .int .i64 (seedK s N), .slice a7 (coinsK s m N).length c7] 28))
    have hB := hB3.trans ((below_alloc w3 (.cells #[.int .i64 0, .int .i64 (seedK s N), .slice a7 (coinsK s m N).length c7] 28)).mono hB3.size)
    obtain ⟨p0, p1, p2⟩ := A3.cells
    have l23 := lt_of_blk A3.blk
    have HA : Hid _ := A
    have HB : Hid _ := hB
    clear A A3 hB hB3 h6 h7 hb1 hb2 hb3
    go_wp2_with (fail)
    generalize hV : (w3.alloc (.cells #[.int .i64 0, .int .i64 (seedK s N), .slice a7 (coinsK s m N).length c7] 28)) = V at *
    generalize hK6 : w2.heap.size = K6 at *
    clear p0 p1 p2 l23 hV hK6
    have HC : Hid (CodeAt V ca n bs) := H.out.next HB.out
    refine (at_any _ _ HC.out (by omega) (by omega)).mono ?_
    rintro e w4 ⟨r, kd, rfl, r0, r1, hw4⟩
    have hb4 : Below V.heap.size V w4 := by rw [hw4]; exact below_drewN (Below.refl _ _) _
    have A4 := HA.out.next hb4
    have hB4 := HB.out.trans (hb4.mono HB.out.size)
    clear hw4 HA HB hb4 HC
    obtain ⟨q, rfl⟩ := Int.eq_ofNat_of_zero_le r0
    have hqN : q ≤ N := by omega
    go_wp2_with (fail)
    refine (impl_coins_ok s m q _ ha.1 ha.2.1 (by omega) ha.2.2.2.2.1 ha.2.2.2.2.2).mono ?_
    rintro e w5 ⟨g9, c9, rfl, h9, hb5⟩
    have A5 := (A4.next hb5).next (below_alloc w5 (.cells #[.int .i64 0, .int .i64 (seedK s q), .slice (some ⟨g9, 0, none⟩) q c9] 28))
    have D5 := Var.new (C := 0) (X := seedK s q) h9
    have hB5 := (hB4.trans (hb5.mono hB4.size)).trans ((below_alloc w5 (.cells #[.int .i64 0, .int .i64 (seedK s q), .slice (some ⟨g9, 0, none⟩) q c9] 28)).mono (by have := hB4.size; have := hb5.size; omega))
    clear A4 hB4 hb5 h9
    have HA5 : Hid _ := A5
    have HD5 : Hid _ := D5
    have HB5 : Hid _ := hB5
    clear A5 D5 hB5
    go_wp2_with (fail)
    rw [show (N : Int) - (q : Int) = ((N - q : Nat) : Int) by omega]
    have hsb := seedK_bd s (by omega) ha.2.1 q
    refine (impl_coins_ok (seedK s q) m (N - q) _ (seedK_pos s ha.1 ha.2.1 q) hsb.2 (by omega) ha.2.2.2.2.1 ha.2.2.2.2.2).mono ?_
    rintro e w6 ⟨g10, c10, rfl, h10, hb6⟩
    have A6 := (HA5.out.next hb6).next (below_alloc w6 (.cells #[.int .i64 0, .int .i64 (seedK (seedK s q) (N - q)), .slice (some ⟨g10, 0, none⟩) (N - q) c10] 28))
    have D6 := (HD5.out.next hb6).next (below_alloc w6 (.cells #[.int .i64 0, .int .i64 (seedK (seedK s q) (N - q)), .slice (some ⟨g10, 0, none⟩) (N - q) c10] 28))
    have E6 := Var.new (C := 0) (X := seedK (seedK s q) (N - q)) h10
    have hB6 := (HB5.out.trans (hb6.mono HB5.out.size)).trans ((below_alloc w6 (.cells #[.int .i64 0, .int .i64 (seedK (seedK s q) (N - q)), .slice (some ⟨g10, 0, none⟩) (N - q) c10] 28)).mono (by have := HB5.out.size; have := hb6.size; omega))
    clear HA5 HD5 HB5 hb6 h10
    have HA6 : Hid _ := A6
    have HD6 : Hid _ := D6
    have HE6 : Hid _ := E6
    have HB6 : Hid _ := hB6
    clear A6 D6 E6 hB6
    go_wp2_with (fail)
    generalize hV6 : (w6.alloc (.cells #[.int .i64 0, .int .i64 (seedK (seedK s q) (N - q)), .slice (some ⟨g10, 0, none⟩) (N - q) c10] 28)) = V6 at *
    generalize hK9 : w5.heap.size = K9 at *
    generalize hK10 : w6.heap.size = K10 at *
    clear hV6 hK9 hK10
    obtain ⟨a0, a1, a2⟩ := HA6.out.cells
    go_loop [11] (fun i => ∃ j : Nat, j ≤ N ∧ i = .int .i64 j) (fun i => N - (intOf i).toNat)
    case atStart => exact ⟨0, Nat.zero_le _, rfl⟩
    case round =>
      obtain ⟨j, hj, rfl⟩ := hrel
      by_cases hlt : j < N
      · have hx := IS.at HA6.out.lst (coinsK_length s m N) j hlt
        have hxb := coinsK_bd s m ha.2.2.2.2.1 N j hlt
        generalize (coinsK s m N).getD j 0 = x at *
        have b0 : (0 : Int) ≤ (j : Int) := by omega
        have b1 : (j : Int) < (N : Int) := by omega
        go_wp2
        go_round
        case rel => exact ⟨j + 1, by omega, by go_num⟩
        case measure => simp [intOf]; omega
      · obtain ⟨d0, d1, d2⟩ := HD6.out.cells
        obtain ⟨e0, e1, e2⟩ := HE6.out.cells
        have hX : seedK (seedK s q) (N - q) = seedK s N := by rw [← seedK_add]; congr 1; omega
        have k6 := lt_of_blk HA6.out.blk
        have k9 := lt_of_blk HD6.out.blk
        have k10 := lt_of_blk HE6.out.blk
        go_wp2_with (fail)
        obtain ⟨i0, hi, hz0, hz1, hz2⟩ := info_parts info_i64
        have hlA := coinsK_length s m q
        have hlB := coinsK_length (seedK s q) m (N - q)
        have hlN := coinsK_length s m N
        have kA : g9 < V6.heap.size := (World.ownsRow.lt HD6.out.lst g9 rfl).2
        have kB : g10 < V6.heap.size := (World.ownsRow.lt HE6.out.lst g10 rfl).2
        have hfin : Hid (∀ W v, W.ownsRow V6.heap.size 2 1 v (0 + q + (N - q)) ([] ++ (coinsK s m q).map (Value.int .i64) ++ (coinsK (seedK s q) m (N - q)).map (Value.int .i64)) → IS W V6.heap.size v (coinsK s m N)) := by
          intro W v hW
          have e1 : coinsK s m N = coinsK s m q ++ coinsK (seedK s q) m (N - q) := by rw [← coinsK_add]; congr 1; omega
          unfold IS
          rw [hlN, e1, List.map_append]
          rw [show 0 + q + (N - q) = N by omega] at hW
          simpa using hW
        go_region_held3 (fun w' => (∀ bb oo, bb < V6.heap.size → w'.cell? ⟨bb, oo, none⟩ = V6.cell? ⟨bb, oo, none⟩) ∧ Below V6.heap.size V6 w')
          (first | exact KS.start _ | exact KS.of (((Below.refl _ _).alloc (Nat.le_refl _) _).drew) | exact hk3 | exact hk2 | exact hk1)
          (first
            | (rw [if_pos (by rfl)]; refine wp_append_own _ (.tmp 90) (.tmp 92) 26 (by rfl) V6.heap.size 2 i0 (.int .i64 0) 1 8 Try.underlying26 hi hz0 hz1 hz2 rfl (by omega) (.slice (some ⟨V6.heap.size, 0, none⟩) 0 0) 0 [] (by rfl) (World.ownsRow_made V6 #[] 0 (Nat.le_refl _) (Nat.zero_le _) rfl).drew ⟨g9, 0, none⟩ q c9 ((coinsK s m q).map (Value.int .i64)) (by rfl) (by simp [hlA]) (IS.news HD6.out.lst hlA (Below.heap_alloc _ _ _ kA)) (ints_one _) (by unfold maxLen; omega) (by omega) (by simp) ?_; intro v1 W1 hown1 hgrow1 _; have hk1 : KS V6 W1 := KS.grow (KS.of (((Below.refl _ _).alloc (Nat.le_refl _) _).drew)) hgrow1 (fun k hk => by cases hk; exact Nat.le_refl _))
            | (rw [if_pos (by rfl)]; refine wp_append_own _ (.tmp 93) (.tmp 95) 26 (by rfl) V6.heap.size 2 i0 (.int .i64 0) 1 8 Try.underlying26 hi hz0 hz1 hz2 rfl (by omega) v1 (0 + q) _ (by rfl) hown1 ⟨g10, 0, none⟩ (N - q) c10 ((coinsK (seedK s q) m (N - q)).map (Value.int .i64)) (by rfl) (by simp [hlB]) (IS.news HE6.out.lst hlB (hk1.2.block _ kB)) (ints_one _) (by unfold maxLen; omega) (by omega) hk1.2.size ?_; intro v2 W2 hown2 hgrow2 _; have hk2 : KS V6 W2 := KS.grow hk1 hgrow2 (fun k hk => (World.ownsRow.lt hown1 k hk).1))
            | (go_at_call 9; refine (numsI (by omega) (hfin.out _ _ hown2) (IS.below HA6.out.lst hk2.2)).mono ?_; rintro e W3 ⟨rfl, kd3, rfl⟩; have hk3 : KS V6 (W2.drewN kd3) := KS.of (below_drewN hk2.2 _)))
        go_wp2
        go_returns
        exact ⟨rfl, HB6.out.trans (hk3.2.mono HB6.out.size)⟩

theorem own : ownKnob Try.prog.godebug = none := by kernel_rfl
theorem laidOut : laidOutB Try.prog = true := by kernel_rfl

/-- A slice of bytes that came in: nil, or a row of cells. -/
def IsRow (k : IntKind) (w : World) (a : Option Addr) (len cap : Nat) (zs : List Int) : Prop :=
  (a = none ∧ len = 0 ∧ cap = 0 ∧ zs = []) ∨
  ∃ x, a = some x ∧ len ≤ cap ∧ cap ≤ maxLen ∧ zs.length = cap ∧ (∀ i, i < zs.length → w.cell? (x.add i) = some (.int k (zs.getD i 0))) ∧ ∀ n ∈ zs, (Lit.int k n).wf = true

theorem byte_bd (zs : List Int) (h : ∀ n ∈ zs, (Lit.int .u8 n).wf = true) (j : Nat) : 0 ≤ zs.getD j 0 ∧ zs.getD j 0 ≤ 255 := by
  rcases Nat.lt_or_ge j zs.length with hj | hj
  · have hm : zs.getD j 0 ∈ zs := by simp [List.getElem?_eq_getElem hj]
    have := h _ hm
    simpa [Lit.wf, IntKind.min, IntKind.max, IntKind.signed, IntKind.bits] using this
  · simp [List.getElem?_eq_none hj]

theorem walk (a0 : Option Addr) (len0 cap0 : Nat) (z0 : List Int) (w : World) (w0 : IsRow .u8 w a0 len0 cap0 z0) :
    Calls Try.prog 3 #[.slice a0 len0 cap0] w fun e w' => e = .returned (.bool true) ∧ Below w.heap.size w w' := by
  rcases w0 with ⟨rfl, rfl, rfl, rfl⟩ | ⟨x, rfl, hl, hm, hz, hc, hw⟩
  · exact law_fc none 0 0 (fun _ => 0) w (Nat.zero_le _) (fun _ => by omega) (fun h => by omega)
  · refine law_fc (some x) len0 cap0 (fun j => z0.getD j 0) w (Nat.le_trans hl hm) (byte_bd z0 hw) (fun hp => ?_)
    have hx0 := hc 0 (by omega)
    obtain ⟨g, off, sp⟩ := x
    have hsp : sp = none := by
      cases sp with
      | none => rfl
      | some t =>
        exfalso
        simp [World.cell?, Addr.add] at hx0
        split at hx0 <;> cases hx0
    subst hsp
    have hadd : ∀ j, (⟨g, off, none⟩ : Addr).add j = ⟨g, off + j, none⟩ := fun j => by unfold Addr.add; split <;> simp_all
    refine ⟨g, off, rfl, ?_, fun j hj => ?_⟩
    · rw [hadd] at hx0; exact lt_of_cell hx0
    · have := hc j (by omega)
      rw [hadd] at this
      exact this

set_option maxRecDepth 100000 in
theorem fc_lifted (os : Os) (started : os.Started) (H : Type) (enc : TypeId × Value → H) :
    ReturnsInHanded {} Try.checked os 3 .any (Rows.fnCoinsSpec.pre6 enc Try.prog Try.f3 Rows.fnCoinsRow.domain false) (Rows.fnCoinsSpec.post enc Try.prog Try.f3 false true false false) := by
  refine returnsInHanded_of_change (C := Try.checked) own started (by kernel_rfl) Try.func3
    (ChangeSpec.witness6 (enc := enc) (C := Try.checked) false ⟨#[], #[.slice none 0 0], []⟩ 8 (by kernel_rfl) (by kernel_rfl) (by kernel_rfl) (by kernel_rfl)) ?_
  intro W base args ds gs before hval0 hW hcnd _
  have hval : ∀ (j : Nat) t v, Try.f3.params[j]? = some t → args[j]? = some v → Value.okWide Try.prog W .any base t v := hval0
  have hW' := hW
  obtain ⟨p, q, hA0, hV, rfl, hfz, hnd⟩ := hW
  have hA : DataW.TrodAll enc Try.prog W 0 (fun _ => true) true Try.f3.params.toList args.toList ds p := hA0
  rw [Try.params3] at hA hval
  obtain ⟨v0, vs0, d0, ds0, p0, q0, hargs, rfl, rfl, h0, r0⟩ := trodAll_cons hA
  obtain ⟨rfl, rfl, rfl⟩ := trodAll_nil r0
  obtain rfl : args = #[v0] := by cases args; simp_all
  obtain ⟨rfl, rfl⟩ := trodVars_none hV
  obtain ⟨a0, len0, cap0, rfl⟩ := okWide_slice Try.underlying22 (hval 0 22 v0 rfl rfl)
  have k0 := h0
  have lt0 : ∀ x ∈ p0, x.block < W.heap.size := by obtain ⟨m, hm⟩ := k0; exact DataW.trod_lt m _ _ _ hm
  obtain ⟨z0, w0⟩ : ∃ zs, IsRow .u8 W a0 len0 cap0 zs := by
    obtain ⟨fuel, hf⟩ := h0
    rcases open_ints Try.underlying22 Try.underlying5 (by kernel_rfl) hf with ⟨hcs, _⟩ | ⟨x, l, c, zs, hcs, _, hl, hm, hz, _, hcell, hwz⟩
    · simp [Value.cells] at hcs
      obtain ⟨rfl, rfl, rfl⟩ := hcs
      exact ⟨[], .inl ⟨rfl, rfl, rfl, rfl⟩⟩
    · simp [Value.cells] at hcs
      obtain ⟨rfl, rfl, rfl⟩ := hcs
      exact ⟨zs, .inr ⟨_, rfl, hl, hm, by simpa using hz, hcell, hwz⟩⟩
  clear hA0 hval0
  refine (walk a0 len0 cap0 z0 W w0).mono fun e W' ⟨he, bel⟩ => ?_
  subst he
  exact ⟨_, rfl, _, _, _, [], _, [], hW', trodAll_mk1 (shut_bool Try.underlying4 _), (trodAll_cons_mk (Below.trod laidOut (by kernel_rfl) (of_decide_eq_true (by kernel_rfl)) k0 bel lt0) trodAll_mk0), rfl, bel.frame _, fun h => by cases h⟩

theorem fc_over : Rows.fnCoinsRow.holds Try.pinned (OpenSpec.ofChange Rows.fnCoinsSpec) :=
  OpenClaim.holds_of_wide 3 Try.f3 rfl rfl rfl rfl rfl rfl rfl ⟨rfl, rfl, rfl, rfl, rfl⟩ rfl rfl rfl rfl rfl (by kernel_rfl) Try.func3 (by kernel_rfl)
    (of_decide_eq_true (by kernel_rfl)) (by unfold Func.isWrapper; first | (rw [if_pos (by decide +kernel)]; kernel_rfl) | (rw [if_neg (by decide +kernel)]; exact ⟨rfl, rfl⟩))
    (fun os started H enc _ => fc_lifted os started H enc)

theorem fc_proved : Rows.FnCoinsSaid := fc_over
#print axioms fc_proved

end Go.Proofs.Ytblalcigbiobkaa
