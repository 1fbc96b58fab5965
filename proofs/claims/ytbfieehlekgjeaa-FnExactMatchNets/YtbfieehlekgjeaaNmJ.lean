/- Proved here: the program's renamedPins, asMany, countOf. -/
import Derived.Test.YtbfieehlekgjeaaNmI
namespace Go.Proofs.Ytbfieehlekgjeaa
open Go.RowKit
set_option linter.unusedVariables false
set_option linter.unusedSimpArgs false

/-- Behind the append of a number. -/
theorem pushI1 {w wr w1 : World} {A B : Nat} {v v' : Value} {s : List Int} {b : Int} {ob : Obj} (hbs : IS wr A v s) (hab : B ≤ A) (hbl : Below B w wr) (hs : B ≤ wr.heap.size)
    (h : w1.ownsRow A 2 1 v' (s.length + 1) (s.map (Value.int .i64) ++ [.int .i64 b])) (hg : (wr.alloc ob).grownBy w1 v.ownBlock) : IS w1 A v' (s ++ [b]) ∧ Below B w w1 := by
  refine ⟨?_, (hbl.alloc hs ob).grown hg (by simp; omega) (fun k hk => Nat.le_trans hab (World.ownsRow.lt hbs k hk).1)⟩
  unfold IS
  rw [List.map_append, List.length_append]
  exact h
theorem rnP_step {nets p : List Int} {k : Nat} (h : k < p.length) : rnP nets (p.take (k + 1)) = rnP nets (p.take k) ++ [nets.getD (p.getD k 0).toNat 0] := by
  unfold rnP
  rw [List.take_add_one, List.getElem?_eq_getElem h, List.map_append, getD_at h]
  rfl
theorem rnP_len (nets p : List Int) : (rnP nets p).length = p.length := by simp [rnP]

set_option maxRecDepth 10000 in
set_option maxHeartbeats 3200000 in
theorem impl_pins {w : World} {vp vn : Value} {p nets : List Int} (hp : p.length ≤ 4) (hnl : nets.length ≤ 1048576) (hr : ∀ x ∈ p, 0 ≤ x ∧ x < (nets.length : Int)) (h : RdI w vp p) (hn : RdI w vn nets) :
    Calls Try.prog 51 #[vp, vn] w fun e w' => ∃ v', e = .returned v' ∧ IS w' w.heap.size v' (rnP nets p) ∧ Below w.heap.size w w' := by
  obtain ⟨a, c, rfl⟩ := h.form
  obtain ⟨an, cn, rfl⟩ := hn.form
  obtain ⟨n, hnn⟩ : ∃ n, n = p.length := ⟨_, rfl⟩
  obtain ⟨m, hmm⟩ : ∃ m, m = nets.length := ⟨_, rfl⟩
  rw [← hnn] at hp h ⊢
  rw [← hmm] at hn ⊢
  have H : Hid (RdI w (.slice a n c) p ∧ RdI w (.slice an m cn) nets ∧ n = p.length ∧ m = nets.length ∧ (∀ x ∈ p, 0 ≤ x ∧ x < (nets.length : Int)) ∧ nets.length ≤ 1048576) := ⟨h, hn, hnn, hmm, hr, hnl⟩
  clear h hn hnn hmm hr hnl
  obtain ⟨i0, hi, hz0, hz1, hz2⟩ := info_parts info_i64
  go_enter Try.func51, Try.ntmps51
  go_wp2_with (at_make; refine wpList_make_own _ rfl _ _ 46 rfl w.heap.size 2 i0 (.int .i64 0) 1 Try.underlying46 hi hz0 hz1 _ _ _ n rfl rfl rfl (by rw [hz2]; omega) (by unfold maxLen; omega) (by omega) ?_; intro w2 hown2 hgrow2)
  have hb2 : Below w.heap.size w w2 := (Below.refl _ _).grown hgrow2 (Nat.le_refl _) (fun k h => by cases h)
  have H2 : Hid (IS w2 w.heap.size (.slice (some ⟨w.heap.size, 0, none⟩) 0 n) [] ∧ Below w.heap.size w w2) := ⟨hown2, hb2⟩
  clear hown2 hgrow2 hb2
  go_loopw [5, 13] (fun v i wr => ∃ k : Nat, k ≤ n ∧ i = .int .i64 k ∧ Hid (IS wr w.heap.size v (rnP nets (p.take k)) ∧ Below w.heap.size w wr)) (fun _ i _ => n - (intOf i).toNat)
  case atStart => exact ⟨0, Nat.zero_le _, rfl, H2.out.1, H2.out.2⟩
  case round =>
    clear H2
    obtain ⟨k, hk, rfl, hR⟩ := hrel
    by_cases hlt : k < n
    · have hkl : k < p.length := by rw [← H.out.2.2.1]; exact hlt
      obtain ⟨g, o, c2, he, hg, hj⟩ := (H.out.1.below hR.out.2).ri (by omega)
      simp only [Value.slice.injEq] at he
      obtain ⟨rfl, hx1, hx2⟩ := he
      clear hx1 hx2
      have c0 := hj k hkl
      obtain ⟨x, hx⟩ : ∃ x, x = p.getD k 0 := ⟨_, rfl⟩
      rw [← hx] at c0
      have hxr : 0 ≤ x ∧ x < (m : Int) := by
        rw [hx, getD_at hkl, H.out.2.2.2.1]; exact H.out.2.2.2.2.1 _ (List.getElem_mem hkl)
      obtain ⟨xn, hxn⟩ : ∃ xn : Nat, x = (xn : Int) := ⟨x.toNat, by omega⟩
      subst hxn
      obtain ⟨gn, on, c3, he, hgn, hjn⟩ := (H.out.2.1.below hR.out.2).ri (by rw [← H.out.2.2.2.1]; omega)
      simp only [Value.slice.injEq] at he
      obtain ⟨rfl, hx1, hx2⟩ := he
      clear hx1 hx2
      have d0 := hjn xn (by rw [← H.out.2.2.2.1]; omega)
      obtain ⟨y, hy⟩ : ∃ y, y = nets.getD xn 0 := ⟨_, rfl⟩
      rw [← hy] at d0
      have HX : Hid ((xn : Int) = p.getD k 0 ∧ y = nets.getD xn 0 ∧ k < p.length) := ⟨hx, hy, hkl⟩
      have hlen : (rnP nets (p.take k)).length ≤ 4 := by rw [rnP_len, List.length_take]; omega
      have hwsz := hR.out.2.size
      have HR : Hid (IS wr w.heap.size _ (rnP nets (p.take k)) ∧ Below w.heap.size w wr) := hR.out
      clear hx hy hj hjn hR hkl
      have b0 : (0 : Int) ≤ (k : Int) := by omega
      have b1 : (k : Int) < (n : Int) := by omega
      have b2 : (0 : Int) ≤ (xn : Int) := by omega
      have b3 : (xn : Int) < (m : Int) := by omega
      go_wp2_with (at_builtin; refine wpList_append_own _ rfl _ _ 46 rfl w.heap.size 2 i0 (.int .i64 0) 1 8 Try.underlying46 hi hz0 hz1 hz2 rfl (by decide) _ _ _ rfl (World.ownsRow.alloc HR.out.1 _) ⟨wr.heap.size, 0, none⟩ 1 1 [.int .i64 y] rfl rfl (World.news_of_block (cs := #[.int .i64 y]) (t := 2) (fr := (0, 0)) (heap_alloc_new wr _)) (by simp [Value.oneCell']) (by unfold maxLen; omega) (by omega) (by simp; omega) ?_; intro v' w1 hown1 hgrow1 hnil1)
      have R : Hid (IS w1 w.heap.size v' (rnP nets (p.take (k + 1))) ∧ Below w.heap.size w w1) := by
        unfold Hid
        have := pushI1 HR.out.1 (Nat.le_refl _) HR.out.2 hwsz hown1 hgrow1
        rw [rnP_step HX.out.2.2, ← HX.out.1, Int.toNat_natCast, ← HX.out.2.1]
        exact this
      clear hown1 hgrow1 hnil1
      go_roundw
      case rel => exact ⟨k + 1, by omega, by go_num, R.out⟩
      case measure => simp [intOf]; omega
    · have HR : Hid (IS wr w.heap.size u5 (rnP nets p) ∧ Below w.heap.size w wr) := by
        have := hR.out
        rwa [List.take_of_length_le (by rw [← H.out.2.2.1]; omega)] at this
      clear hR
      go_wp2
      go_returns
      exact ⟨_, rfl, HR.out.1, HR.out.2⟩

set_option maxHeartbeats 1600000 in
theorem impl_asMany (N M : Int) (a b : Option Addr) (n m c d : Nat) (w : World) :
    Calls Try.prog 55 #[.agg #[.int .i64 N, .slice a n c], .agg #[.int .i64 M, .slice b m d]] w fun e w' => e = .returned (.bool (decide (N = M ∧ n = m))) ∧ Below w.heap.size w w' := by
  have H : Hid ((¬ N = M → decide (N = M ∧ n = m) = false) ∧ (N = M → n = m → decide (N = M ∧ n = m) = true) ∧ (N = M → ¬ n = m → decide (N = M ∧ n = m) = false)) := by
    unfold Hid
    exact ⟨fun h => by simp [h], fun h1 h2 => by simp [h1, h2], fun h1 h2 => by simp [h1, h2]⟩
  generalize decide (N = M ∧ n = m) = r at H ⊢
  by_cases h1 : N = M
  · by_cases h2 : n = m
    · obtain rfl := H.out.2.1 h1 h2
      subst h1 h2
      go_enter Try.func55, Try.ntmps55
      go_wp2
      go_returns
      exact ⟨rfl, by (repeat' (first | (with_reducible exact Below.refl _ _) | (with_reducible assumption) | (with_reducible refine Below.setCell ?_ ?_ _) | (with_reducible refine Below.alloc ?_ ?_ _) | (with_reducible refine below_drewN ?_ _) | (with_reducible refine Below.drew ?_) | (with_reducible exact Nat.le_refl _) | omega | (simp; done) | (simp; omega)))⟩
    · obtain rfl := H.out.2.2 h1 h2
      subst h1
      have h3 : ¬ (n : Int) = (m : Int) := by omega
      have h4 : ((n : Int) == (m : Int)) = false := by simpa using h3
      go_enter Try.func55, Try.ntmps55
      go_wp2
      go_returns
      exact ⟨rfl, by (repeat' (first | (with_reducible exact Below.refl _ _) | (with_reducible assumption) | (with_reducible refine Below.setCell ?_ ?_ _) | (with_reducible refine Below.alloc ?_ ?_ _) | (with_reducible refine below_drewN ?_ _) | (with_reducible refine Below.drew ?_) | (with_reducible exact Nat.le_refl _) | omega | (simp; done) | (simp; omega)))⟩
  · obtain rfl := H.out.1 h1
    go_enter Try.func55, Try.ntmps55
    go_wp2
    go_returns
    exact ⟨rfl, by (repeat' (first | (with_reducible exact Below.refl _ _) | (with_reducible assumption) | (with_reducible refine Below.setCell ?_ ?_ _) | (with_reducible refine Below.alloc ?_ ?_ _) | (with_reducible refine below_drewN ?_ _) | (with_reducible refine Below.drew ?_) | (with_reducible exact Nat.le_refl _) | omega | (simp; done) | (simp; omega)))⟩

theorem count_step {s : List Dv} {d : Dv} {k : Nat} (h : k < s.length) : (s.take (k + 1)).count d = (s.take k).count d + (if s[k] = d then 1 else 0) := by
  rw [List.take_add_one, List.getElem?_eq_getElem h, List.count_append]
  simp [List.count_cons]

set_option maxRecDepth 10000 in
set_option maxHeartbeats 3200000 in
theorem impl_count (r : Rd) (d : Dv) {w : World} {v : Value} {s : List Dv} (hs : s.length ≤ 12) (hpl : ∀ e ∈ s, e.p.length ≤ 4) (hd : d.p.length ≤ 1048576) (hr : Rd1 w r d) (h : RD w v s) :
    Calls Try.prog 77 #[v, .agg #[.int .i64 r.k, .slice r.a r.n r.c]] w fun e w' => e = .returned (.int .i64 (s.count d : Int)) ∧ Below w.heap.size w w' := by
  obtain ⟨a, c, rfl⟩ := h.form
  obtain ⟨n, hnn⟩ : ∃ n, n = s.length := ⟨_, rfl⟩
  rw [← hnn] at hs h ⊢
  obtain ⟨K, pa, pn, pc⟩ := r
  dsimp only
  have H : Hid (RD w (.slice a n c) s ∧ n = s.length ∧ (∀ e ∈ s, e.p.length ≤ 4) ∧ d.p.length ≤ 1048576 ∧ K = d.k ∧ RdI w (.slice pa pn pc) d.p) := ⟨h, hnn, hpl, hd, hr.k, hr.p⟩
  clear h hnn hpl hd hr
  go_enter Try.func77, Try.ntmps77
  go_wp2
  go_loopw [5, 10] (fun q i wr => ∃ k : Nat, k ≤ n ∧ i = .int .i64 k ∧ ∃ t : Nat, q = .int .i64 t ∧ t ≤ k ∧ Hid (t = (s.take k).count d ∧ Below w.heap.size w wr ∧ wr.heap[w.heap.size]? = some (.cells #[.int .i64 K, .slice pa pn pc] 82))) (fun _ i _ => n - (intOf i).toNat)
  case atStart => exact ⟨0, Nat.zero_le _, rfl, 0, rfl, Nat.le_refl _, by simp, by (repeat' (first | (with_reducible exact Below.refl _ _) | (with_reducible assumption) | (with_reducible refine Below.setCell ?_ ?_ _) | (with_reducible refine Below.alloc ?_ ?_ _) | (with_reducible refine below_drewN ?_ _) | (with_reducible refine Below.drew ?_) | (with_reducible exact Nat.le_refl _) | omega | (simp; done) | (simp; omega))), heap_alloc_new w _⟩
  case round =>
    obtain ⟨k, hk, rfl, t, rfl, htk, hR⟩ := hrel
    by_cases hlt : k < n
    · have hkl : k < s.length := by rw [← H.out.2.1]; exact hlt
      obtain ⟨g, o, c2, he, hg, x, hx, c0, c1⟩ := (H.out.1.below hR.out.2.1).at hkl
      simp only [Value.slice.injEq] at he
      obtain ⟨rfl, hx1, hx2⟩ := he
      clear hx1 hx2
      obtain ⟨XK, xa, xn, xc⟩ := x
      dsimp only at c0 c1
      obtain ⟨p0, p1, pf, plt⟩ := two_at hR.out.2.2
      have HX : Hid (XK = s[k].k ∧ RdI wr (.slice xa xn xc) s[k].p ∧ k < s.length ∧ s[k].p.length ≤ 4) := ⟨hx.k, hx.p, hkl, H.out.2.2.1 _ (List.getElem_mem hkl)⟩
      have HR : Hid (t = (s.take k).count d ∧ Below w.heap.size w wr ∧ wr.heap[w.heap.size]? = some (.cells #[.int .i64 K, .slice pa pn pc] 82)) := hR.out
      clear hx hR
      have b0 : (0 : Int) ≤ (k : Int) := by omega
      have b1 : (k : Int) < (n : Int) := by omega
      have hB := HR.out.2.1
      by_cases hK : XK = K
      · subst hK
        have HQ : Hid (∀ W, Below wr.heap.size wr W → Calls Try.prog 88 #[.slice xa xn xc, .slice pa pn pc] W fun e w' => e = .returned (.bool (decide (s[k].p = d.p))) ∧ Below W.heap.size W w') := fun W hW =>
          sl_equal (by have := HX.out.2.2.2; omega) H.out.2.2.2.1 (HX.out.2.1.below hW) (H.out.2.2.2.2.2.below (HR.out.2.1.trans (hW.mono HR.out.2.1.size)))
        go_wp2_with (fail)
        refine (HQ.out _ (by (repeat' (first | (with_reducible exact Below.refl _ _) | (with_reducible assumption) | (with_reducible refine Below.setCell ?_ ?_ _) | (with_reducible refine Below.alloc ?_ ?_ _) | (with_reducible refine below_drewN ?_ _) | (with_reducible refine Below.drew ?_) | (with_reducible exact Nat.le_refl _) | omega | (simp; done) | (simp; omega))))).mono ?_
        rintro e w4 ⟨rfl, hb4⟩
        have hb4' : Below wr.heap.size wr w4 := Below.trans (by (repeat' (first | (with_reducible exact Below.refl _ _) | (with_reducible assumption) | (with_reducible refine Below.setCell ?_ ?_ _) | (with_reducible refine Below.alloc ?_ ?_ _) | (with_reducible refine below_drewN ?_ _) | (with_reducible refine Below.drew ?_) | (with_reducible exact Nat.le_refl _) | omega | (simp; done) | (simp; omega)))) (hb4.mono (by simp))
        have HB4 : Hid (Below w.heap.size w w4 ∧ w4.heap[w.heap.size]? = some (.cells #[.int .i64 XK, .slice pa pn pc] 82)) := ⟨HR.out.2.1.trans (hb4'.mono HR.out.2.1.size), (hb4'.block _ plt).trans HR.out.2.2⟩
        clear hb4 hb4' c0 c1 p0 p1 pf plt HQ hB
        by_cases hp : s[k].p = d.p
        · have HE : Hid ((t + 1 : Nat) = (s.take (k + 1)).count d) := by
            unfold Hid
            have e : s[k] = d := by
              have h1 : s[k].k = d.k := by rw [← HX.out.1, H.out.2.2.2.2.1]
              cases hsk : s[k]; cases hdd : d
              rw [hsk] at h1 hp; rw [hdd] at h1 hp
              simp at h1 hp; rw [h1, hp]
            rw [count_step HX.out.2.2.1, if_pos e, HR.out.1]
          have hdec : decide (s[k].p = d.p) = true := decide_eq_true hp
          rw [hdec]
          clear hp hdec
          go_wp2
          go_roundw
          case rel => exact ⟨k + 1, by omega, by go_num, t + 1, by go_num, by omega, HE.out, HB4.out⟩
          case measure => simp [intOf]; omega
        · have HE : Hid (t = (s.take (k + 1)).count d) := by
            unfold Hid
            have e : ¬ s[k] = d := fun e => hp (by rw [e])
            rw [count_step HX.out.2.2.1, if_neg e, HR.out.1]
            rfl
          have hdec : decide (s[k].p = d.p) = false := decide_eq_false hp
          rw [hdec]
          clear hp hdec
          go_wp2
          go_roundw
          case rel => exact ⟨k + 1, by omega, by go_num, t, rfl, by omega, HE.out, HB4.out⟩
          case measure => simp [intOf]; omega
      · have HE : Hid (t = (s.take (k + 1)).count d) := by
          unfold Hid
          have e : ¬ s[k] = d := fun e => hK (by rw [HX.out.1, e, H.out.2.2.2.2.1])
          rw [count_step HX.out.2.2.1, if_neg e, HR.out.1]
          rfl
        have HB4 : Hid (∀ ob, Below w.heap.size w (wr.alloc ob) ∧ (wr.alloc ob).heap[w.heap.size]? = some (.cells #[.int .i64 K, .slice pa pn pc] 82)) := fun ob => ⟨by (repeat' (first | (with_reducible exact Below.refl _ _) | (with_reducible assumption) | (with_reducible refine Below.setCell ?_ ?_ _) | (with_reducible refine Below.alloc ?_ ?_ _) | (with_reducible refine below_drewN ?_ _) | (with_reducible refine Below.drew ?_) | (with_reducible exact Nat.le_refl _) | omega | (simp; done) | (simp; omega))), (Below.heap_alloc _ _ _ plt).trans HR.out.2.2⟩
        go_wp2
        go_roundw
        case rel => exact ⟨k + 1, by omega, by go_num, t, rfl, by omega, HE.out, HB4.out _⟩
        case measure => simp [intOf]; omega
    · have HE : Hid (t = s.count d ∧ Below w.heap.size w wr) := by
        refine ⟨?_, hR.out.2.1⟩
        rw [hR.out.1, List.take_of_length_le (by rw [← H.out.2.1]; omega)]
      clear hR
      go_wp2
      go_returns
      exact ⟨by rw [← HE.out.1]; rfl, HE.out.2⟩

end Go.Proofs.Ytbfieehlekgjeaa
