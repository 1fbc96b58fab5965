/- Proved here: doseRows of the program: mapV. -/
import Derived.Test.YtmpbcdolikafpaaDmI
namespace Go.Proofs.Ytmpbcdolikafpaa
open Go.RowKit
set_option linter.unusedVariables false
set_option linter.unusedSimpArgs false

/-- What a map is while a shot is put upon it, up to a place of a row. -/
def stF (G : Nat → Nat → Int) (c : Bx) (d : Int) (f : Bx) (y x : Int) : Nat → Nat → Int := fun i j =>
  G i j + (if (c.x0 ≤ f.x0 + (j : Int) ∧ f.x0 + (j : Int) < c.x1 ∧ c.y0 ≤ f.y0 + (i : Int) ∧ f.y0 + (i : Int) < c.y1) ∧ (f.y0 + (i : Int) < y ∨ (f.y0 + (i : Int) = y ∧ f.x0 + (j : Int) < x)) then d else 0)
theorem stF_here (G : Nat → Nat → Int) (c : Bx) (d : Int) (f : Bx) {y x : Int} {i j : Nat} (hi : f.y0 + (i : Int) = y) (hj : f.x0 + (j : Int) = x) : stF G c d f y x i j = G i j := by
  unfold stF
  rw [if_neg (fun e => by omega)]
  omega
theorem stF_step (G : Nat → Nat → Int) (c : Bx) (d : Int) (f : Bx) {y x : Int} {h n i j : Nat} (hi : f.y0 + (i : Int) = y) (hj : f.x0 + (j : Int) = x) (hx : c.x0 ≤ x ∧ x < c.x1) (hy : c.y0 ≤ y ∧ y < c.y1) :
    gridL (upG (stF G c d f y x) i j (G i j + d)) h n = gridL (stF G c d f y (x + 1)) h n := by
  apply gridL_congr
  intro a b _ _
  unfold upG
  by_cases e : a = i ∧ b = j
  · rw [if_pos e]
    obtain ⟨rfl, rfl⟩ := e
    unfold stF
    rw [if_pos (by omega)]
  · rw [if_neg e]
    unfold stF
    by_cases hc : (c.x0 ≤ f.x0 + (b : Int) ∧ f.x0 + (b : Int) < c.x1 ∧ c.y0 ≤ f.y0 + (a : Int) ∧ f.y0 + (a : Int) < c.y1) ∧ (f.y0 + (a : Int) < y ∨ (f.y0 + (a : Int) = y ∧ f.x0 + (b : Int) < x))
    · rw [if_pos hc, if_pos (by omega)]
    · rw [if_neg hc, if_neg (fun h' => by
        apply e
        constructor <;> omega)]
theorem stF_row (G : Nat → Nat → Int) (c : Bx) (d : Int) (f : Bx) {y x : Int} {h n : Nat} (hx : c.x1 ≤ x) : gridL (stF G c d f y x) h n = gridL (stF G c d f (y + 1) c.x0) h n := by
  apply gridL_congr
  intro a b _ _
  unfold stF
  by_cases hc : (c.x0 ≤ f.x0 + (b : Int) ∧ f.x0 + (b : Int) < c.x1 ∧ c.y0 ≤ f.y0 + (a : Int) ∧ f.y0 + (a : Int) < c.y1) ∧ (f.y0 + (a : Int) < y ∨ (f.y0 + (a : Int) = y ∧ f.x0 + (b : Int) < x))
  · rw [if_pos hc, if_pos (by omega)]
  · rw [if_neg hc, if_neg (fun h' => hc (by omega))]
theorem stF_first (G : Nat → Nat → Int) (c : Bx) (d : Int) (f : Bx) {h n : Nat} : gridL (stF G c d f c.y0 c.x0) h n = gridL G h n := by
  apply gridL_congr
  intro a b _ _
  unfold stF
  rw [if_neg (fun h' => by omega)]
  omega
theorem stF_last {l : List Sh} {k : Nat} {q : Sh} {f : Bx} {y : Int} (hk : k < l.length) (hq : q = l[k]) (hy : (wiB q.b f).y1 ≤ y) : gridL (stF (mapG (l.take k) f) (wiB q.b f) q.d f y (wiB q.b f).x0) (htN f) (wdN f) = gridL (mapG (l.take (k + 1)) f) (htN f) (wdN f) := by
  apply gridL_congr
  intro a b ha hb
  unfold htN at ha
  unfold wdN at hb
  unfold stF mapG
  rw [sumD_take hk, ← hq]
  congr 1
  unfold wiB mxD mnD at hy ⊢
  simp only at hy ⊢
  by_cases hi : inB q.b (f.x0 + (b : Int)) (f.y0 + (a : Int))
  · rw [if_pos hi]
    unfold inB at hi
    rw [if_pos ?_]
    (repeat' split at hy) <;> (repeat' split) <;> omega
  · rw [if_neg hi]
    unfold inB at hi
    rw [if_neg (fun h' => hi ?_)]
    have := h'.1
    (repeat' split at this) <;> omega

theorem GV.cellk {w wr w3 : World} {f : Bx} {ht k : Nat} {ls : List (List Int)} {vs : List Value} (h : GV w wr f ht ls vs) (hl : ls.length = ht) (hk : k < ht) (hg : wr.grownBy w3 none) :
    w3.cell? ⟨w.heap.size + 1, k, none⟩ = some (rat vs k) ∧ w3.frozen? ⟨w.heap.size + 1, k, none⟩ = false ∧ w.heap.size + 1 < w3.heap.size := by
  have hb3 : Below wr.heap.size wr w3 := (Below.refl _ _).grown hg (Nat.le_refl _) (fun k h => by cases h)
  have hG3 := h.next hb3
  have hl5 := hG3.r.len
  have hO5 := hG3.r.o
  rw [hl] at hO5 hl5
  refine ⟨?_, World.ownsRow.frozenAt hO5 k, by have := hG3.sz; omega⟩
  have := World.ownsRow.cellAt (w := w3) (g := w.heap.size + 1) (cap := ht) hO5 k (by omega)
  rw [this]
  simp [rat, List.getElem?_eq_getElem (show k < vs.length by omega)]

set_option maxRecDepth 10000 in
set_option maxHeartbeats 16000000 in
theorem impl_rows (l : List Sh) (f : Bx) {w : World} {v : Value} (hl : l.length ≤ 40) (hd : ∀ x ∈ l, 0 ≤ x.d ∧ x.d ≤ 1000) (hf : frF f = 0) (h : RG 5 shC w v l) :
    Calls Try.prog 48 #[v, .agg #[.int .i64 f.x0, .int .i64 f.y0, .int .i64 f.x1, .int .i64 f.y1]] w fun e w' => ∃ v' vs, e = .returned v' ∧ RI w' w.heap.size v' (mapV l f) vs ∧ Below w.heap.size w w' := by
  obtain ⟨a, c, rfl⟩ := h.form
  obtain ⟨n, hnn⟩ : ∃ n, n = l.length := ⟨_, rfl⟩
  rw [← hnn] at h hl ⊢
  have H : Hid (RG 5 shC w (.slice a n c) l ∧ n = l.length ∧ (∀ x ∈ l, 0 ≤ x.d ∧ x.d ≤ 1000)) := ⟨h, hnn, hd⟩
  have HSM : Hid (∀ (k : Nat) (x y : Int), 0 ≤ sumD (l.take k) x y ∧ sumD (l.take k) x y ≤ 40000) := fun k x y => sumD_small (by rw [← hnn]; exact hl) hd k x y
  have hfb := frF_box hf
  obtain ⟨wd, hwd⟩ : ∃ wd, wd = wdN f := ⟨_, rfl⟩
  obtain ⟨ht, hht⟩ : ∃ ht, ht = htN f := ⟨_, rfl⟩
  have hw1 : f.x1 = f.x0 + (wd : Int) := by rw [hwd]; unfold wdN; omega
  have hh1 : f.y1 = f.y0 + (ht : Int) := by rw [hht]; unfold htN; omega
  have HF : Hid (wd = wdN f ∧ ht = htN f ∧ f.x1 = f.x0 + (wd : Int) ∧ f.y1 = f.y0 + (ht : Int) ∧ wd ≤ 24 ∧ ht ≤ 24 ∧ -10000 ≤ f.x0 ∧ f.x0 ≤ 10000 ∧ -10000 ≤ f.y0 ∧ f.y0 ≤ 10000 ∧ 0 < wd ∧ 0 < ht) := ⟨hwd, hht, hw1, hh1, by omega, by omega, by omega, by omega, by omega, by omega, by omega, by omega⟩
  have hsy : IntKind.i64.wrap (f.y1 - f.y0) = (ht : Int) := by rw [IntKind.wrap_i64]; omega
  have hsx : IntKind.i64.wrap (f.x1 - f.x0) = (wd : Int) := by rw [IntKind.wrap_i64]; omega
  have h24 : wd ≤ 24 ∧ ht ≤ 24 := by omega
  clear h hnn hd hf hfb hwd hht hw1 hh1
  obtain ⟨i0, hi0, hz0, hz1, hz2⟩ := info_parts info_row
  obtain ⟨i1, hi1, hy0, hy1, hy2⟩ := info_parts info_i64
  go_enter Try.func48, Try.ntmps48
  go_wp2_with (at_make; refine wpList_make_full _ rfl _ _ 64 rfl (w.heap.size + 1) 29 i0 (.slice none 0 0) 1 Try.underlying64 hi0 hz0 hz1 _ _ _ _ ht rfl rfl rfl rfl (by rw [hz2]; omega) (by unfold maxLen; omega) (by simp) ?_; intro w2 hown2 hgrow2)
  have HS0 : Hid (∃ vs, GV w w2 f ht (zeroK ht wd 0) vs) := by
    rw [show (Value.slice none 0 0).cells = #[Value.slice none 0 0] from rfl, toList_madeCells_one] at hown2
    refine ⟨List.replicate ht (.slice none 0 0), ⟨?_, fun i hi => ?_, fun i j _ hi _ g hg => ?_⟩, ?_, ?_, ?_⟩
    · rw [zeroK_len]
      simpa using hown2
    · rw [zeroK_len] at hi
      have e1 : rat (List.replicate ht (Value.slice none 0 0)) i = .slice none 0 0 := by simp [rat, hi]
      rw [e1, zeroK_zero]
      have e2 : (List.replicate ht ([] : List Int)).getD i [] = [] := by simp [hi]
      rw [e2]
      exact World.ownsRow_nil _ _ _ _
    · rw [zeroK_len] at hi
      have e1 : rat (List.replicate ht (Value.slice none 0 0)) i = .slice none 0 0 := by simp [rat, hi]
      rw [e1] at hg
      cases hg
    · exact (hgrow2.block _ (by simp) (by simp)).trans (heap_alloc_new w _)
    · exact ((Below.refl _ _).alloc (Nat.le_refl _) _).grown hgrow2 (by simp) (fun k hk => by cases hk)
    · have := World.ownsRow.lt hown2 (w.alloc (.cells #[.int .i64 f.x0, .int .i64 f.y0, .int .i64 f.x1, .int .i64 f.y1] 34)).heap.size rfl
      simp at this
      omega
  clear hown2 hgrow2
  go_wp2_with (fail)
  go_loopw [20] (fun i wr => ∃ (k : Nat) (vs : List Value), k ≤ ht ∧ i = .int .i64 k ∧ Hid (GV w wr f ht (zeroK ht wd k) vs)) (fun i _ => ht - (intOf i).toNat)
  case atStart => obtain ⟨vs, hvs⟩ := HS0.out; exact ⟨0, vs, Nat.zero_le _, rfl, hvs⟩
  case round =>
    clear HS0
    obtain ⟨k, vs, hk, rfl, hR⟩ := hrel
    by_cases hlt : k < ht
    · obtain ⟨p0, p1, p2, p3, pf, pl⟩ := wt_four hR.out.b
      have hkl : k < (zeroK ht wd k).length := by rw [zeroK_len]; exact hlt
      have HG : Hid (GV w wr f ht (zeroK ht wd k) vs) := hR.out
      have hszr := hR.out.sz
      clear hR pf
      have b0 : (0 : Int) ≤ (k : Int) := by omega
      have b1 : (k : Int) < (ht : Int) := by omega
      go_wp2_with (at_make; refine wpList_make_full _ rfl _ _ 29 rfl wr.heap.size 2 i1 (.int .i64 0) 1 Try.underlying29 hi1 hy0 hy1 _ _ _ _ wd rfl rfl rfl rfl (by rw [hy2]; omega) (by unfold maxLen; omega) (Nat.le_refl _) ?_; intro w3 hown3 hgrow3; obtain ⟨c5, f5, g5⟩ := HG.out.cellk (zeroK_len _ _ _) hlt hgrow3)
      have hb3 : Below wr.heap.size wr w3 := (Below.refl _ _).grown hgrow3 (Nat.le_refl _) (fun k h => by cases h)
      have hI3 : IS w3 wr.heap.size (.slice (some ⟨wr.heap.size, 0, none⟩) wd wd) (rowG (fun _ => 0) wd) := by
        rw [show (Value.int IntKind.i64 0).cells = #[Value.int IntKind.i64 0] from rfl, toList_madeCells_one] at hown3
        unfold IS
        have e : (rowG (fun _ => 0) wd).map (Value.int .i64) = List.replicate (wd * 1) (Value.int .i64 0) := by
          apply List.ext_getElem
          · simp [rowG]
          · intro i h1 h2; simp [rowG]
        rw [rowG_len, e]
        exact hown3
      have R : Hid (GV w (w3.setCell ⟨w.heap.size + 1, k, none⟩ (.slice (some ⟨wr.heap.size, 0, none⟩) wd wd)) f ht (zeroK ht wd (k + 1)) (vs.set k (.slice (some ⟨wr.heap.size, 0, none⟩) wd wd))) := by
        unfold Hid
        rw [zeroK_succ ht wd k hlt]
        exact HG.out.put hb3 hkl hI3
      clear hown3 hgrow3 hb3 hI3 HG
      go_roundw
      case rel => exact ⟨k + 1, _, by omega, by go_num, R.out⟩
      case measure => simp [intOf]; omega
    · have HG : Hid (GV w wr f ht (gridL (mapG (l.take 0) f) ht wd) vs) := by
        have h1 := hR.out
        have e : k = ht := by omega
        rw [e, zeroK_all] at h1
        have e2 : gridL (mapG (l.take 0) f) ht wd = gridL (fun _ _ => 0) ht wd := gridL_congr fun a b _ _ => rfl
        unfold Hid
        rw [e2]; exact h1
      clear hR
      go_wp2
      clear hlt hk
      go_loopw [35] (fun i wr => ∃ (k : Nat) (vs : List Value), k ≤ n ∧ i = .int .i64 k ∧ Hid (GV w wr f ht (gridL (mapG (l.take k) f) ht wd) vs)) (fun i _ => n - (intOf i).toNat)
      case atStart => exact ⟨0, vs, Nat.zero_le _, rfl, HG.out⟩
      case round =>
        clear HG
        obtain ⟨k, vs, hk, rfl, hR⟩ := hrel
        by_cases hlt : k < n
        · have hkl : k < l.length := by rw [← H.out.2.1]; exact hlt
          obtain ⟨g, o, c2, he, hg, hj⟩ := (H.out.1.below hR.out.bl).pos (by omega)
          simp only [Value.slice.injEq] at he
          obtain ⟨rfl, hx1, hx2⟩ := he
          clear hx1 hx2
          obtain ⟨c0, c1, c2, c3, c4⟩ := shC_at (hj k hkl)
          obtain ⟨q, hq⟩ : ∃ q, q = l[k] := ⟨_, rfl⟩
          rw [← hq] at c0 c1 c2 c3 c4
          obtain ⟨c, hc⟩ : ∃ c, c = wiB q.b f := ⟨_, rfl⟩
          have HQ : Hid (q = l[k] ∧ c = wiB q.b f ∧ 0 ≤ q.d ∧ q.d ≤ 1000) := ⟨hq, hc, H.out.2.2 q (by rw [hq]; exact List.getElem_mem hkl)⟩
          have HCI : Hid (f.x0 ≤ c.x0 ∧ f.y0 ≤ c.y0 ∧ c.x1 ≤ f.x1 ∧ c.y1 ≤ f.y1) := by
            unfold Hid
            rw [hc]; unfold wiB mxD mnD; simp only
            refine ⟨?_, ?_, ?_, ?_⟩ <;> split <;> omega
          have HW : Hid (∀ W, Calls Try.prog 60 #[.agg #[.int .i64 q.b.x0, .int .i64 q.b.y0, .int .i64 q.b.x1, .int .i64 q.b.y1], .agg #[.int .i64 f.x0, .int .i64 f.y0, .int .i64 f.x1, .int .i64 f.y1]] W fun e w' => e = .returned (.agg #[.int .i64 c.x0, .int .i64 c.y0, .int .i64 c.x1, .int .i64 c.y1]) ∧ Below W.heap.size W w') := fun W => by rw [hc]; exact impl_within q.b f W
          obtain ⟨p0, p1, p2, p3, pf, pl⟩ := wt_four hR.out.b
          have HG : Hid (GV w wr f ht (gridL (mapG (l.take k) f) ht wd) vs) := hR.out
          clear hq hc hj hR pf
          have b0 : (0 : Int) ≤ (k : Int) := by omega
          have b1 : (k : Int) < (n : Int) := by omega
          go_wp2_with (fail)
          refine (HW.out _).mono ?_
          rintro e w4 ⟨rfl, hb4⟩
          have k8 := (hb4.block wr.heap.size (by simp)).trans (heap_alloc_new wr _)
          have hb4' : Below wr.heap.size wr w4 := Below.trans (by (repeat' (first | (with_reducible exact Below.refl _ _) | (with_reducible assumption) | (with_reducible refine Below.setCell ?_ ?_ _) | (with_reducible refine Below.alloc ?_ ?_ _) | (with_reducible refine below_drewN ?_ _) | (with_reducible refine Below.drew ?_) | (with_reducible exact Nat.le_refl _) | omega | (simp; done) | (simp; omega)))) (hb4.mono (by simp))
          have hz4 : wr.heap.size < w4.heap.size := by have := hb4.size; simp at this; omega
          obtain ⟨B8, hB8⟩ : ∃ B8, B8 = wr.heap.size := ⟨_, rfl⟩
          obtain ⟨B9, hB9⟩ : ∃ B9, B9 = w4.heap.size := ⟨_, rfl⟩
          have HS : Hid (GV w (w4.alloc (.cells #[.int .i64 c.x0, .int .i64 c.y0, .int .i64 c.x1, .int .i64 c.y1] 34)) f ht (gridL (stF (mapG (l.take k) f) c q.d f c.y0 c.x0) ht wd) vs ∧ (w4.alloc (.cells #[.int .i64 c.x0, .int .i64 c.y0, .int .i64 c.x1, .int .i64 c.y1] 34)).heap[B8]? = some (.cells #[.int .i64 q.b.x0, .int .i64 q.b.y0, .int .i64 q.b.x1, .int .i64 q.b.y1, .int .i64 q.d] 48) ∧ (w4.alloc (.cells #[.int .i64 c.x0, .int .i64 c.y0, .int .i64 c.x1, .int .i64 c.y1] 34)).heap[B9]? = some (.cells #[.int .i64 c.x0, .int .i64 c.y0, .int .i64 c.x1, .int .i64 c.y1] 34)) := by
            refine ⟨?_, ?_, ?_⟩
            · rw [stF_first]
              exact (HG.out.next hb4').next ((Below.refl _ _).alloc (Nat.le_refl _) _)
            · rw [hB8]; exact (Below.heap_alloc _ _ _ hz4).trans k8
            · rw [hB9]; exact heap_alloc_new w4 _
          rw [← hB8]
          clear hb4 hb4' k8 hz4 hB8 HG HW c0 c1 c2 c3 c4 p0 p1 p2 p3 pl
          go_wp2_with (fail)
          rw [← hB9]
          clear hB9
          go_loopw [10] (fun v wr => ∃ y : Int, v = .int .i64 y ∧ c.y0 ≤ y ∧ Hid (GV w wr f ht (gridL (stF (mapG (l.take k) f) c q.d f y c.x0) ht wd) vs ∧ wr.heap[B8]? = some (.cells #[.int .i64 q.b.x0, .int .i64 q.b.y0, .int .i64 q.b.x1, .int .i64 q.b.y1, .int .i64 q.d] 48) ∧ wr.heap[B9]? = some (.cells #[.int .i64 c.x0, .int .i64 c.y0, .int .i64 c.x1, .int .i64 c.y1] 34))) (fun v _ => (c.y1 - intOf v).toNat)
          case atStart => exact ⟨c.y0, rfl, Int.le_refl _, HS.out⟩
          case round =>
            clear HS
            obtain ⟨y, rfl, hyc, hY⟩ := hrel
            obtain ⟨s0, s1, s2, s3, sf, sl⟩ := wt_four hY.out.2.2
            by_cases hly : y < c.y1
            · have HYB : Hid (c.y0 ≤ y ∧ y < c.y1 ∧ f.y0 ≤ y ∧ y < f.y1) := by have h1 := HCI.out; unfold Hid; omega
              have hF := HF.out
              have hyb := HYB.out
              have hwy : IntKind.i64.wrap (y + 1) = y + 1 := by rw [IntKind.wrap_i64]; omega
              obtain ⟨ii, hii⟩ : ∃ ii : Nat, y - f.y0 = (ii : Int) := ⟨(y - f.y0).toNat, by omega⟩
              have hwi : IntKind.i64.wrap (y - f.y0) = (ii : Int) := by rw [IntKind.wrap_i64]; omega
              have HII : Hid (f.y0 + (ii : Int) = y ∧ ii < ht) := ⟨by omega, by omega⟩
              have HV : Hid _ := hY.out
              clear hF hyb hY hii sf
              go_wp2
              clear s0 s1 s2 s3 sl
              go_loopw [11] (fun v wr => ∃ x : Int, v = .int .i64 x ∧ c.x0 ≤ x ∧ Hid (GV w wr f ht (gridL (stF (mapG (l.take k) f) c q.d f y x) ht wd) vs ∧ wr.heap[B8]? = some (.cells #[.int .i64 q.b.x0, .int .i64 q.b.y0, .int .i64 q.b.x1, .int .i64 q.b.y1, .int .i64 q.d] 48) ∧ wr.heap[B9]? = some (.cells #[.int .i64 c.x0, .int .i64 c.y0, .int .i64 c.x1, .int .i64 c.y1] 34))) (fun v _ => (c.x1 - intOf v).toNat)
              case atStart => exact ⟨c.x0, rfl, Int.le_refl _, HV.out⟩
              case round =>
                clear HV
                obtain ⟨x, rfl, hxc, hX⟩ := hrel
                obtain ⟨s0, s1, s2, s3, sf, sl⟩ := wt_four hX.out.2.2
                by_cases hlx : x < c.x1
                · have HXB : Hid (c.x0 ≤ x ∧ x < c.x1 ∧ f.x0 ≤ x ∧ x < f.x1) := by have h1 := HCI.out; unfold Hid; omega
                  have hF := HF.out
                  have hxb := HXB.out
                  have hwx : IntKind.i64.wrap (x + 1) = x + 1 := by rw [IntKind.wrap_i64]; omega
                  obtain ⟨jj, hjj⟩ : ∃ jj : Nat, x - f.x0 = (jj : Int) := ⟨(x - f.x0).toNat, by omega⟩
                  have hwj : IntKind.i64.wrap (x - f.x0) = (jj : Int) := by rw [IntKind.wrap_i64]; omega
                  have HJJ : Hid (f.x0 + (jj : Int) = x ∧ jj < wd) := ⟨by omega, by omega⟩
                  obtain ⟨p0, p1, p2, p3, pf, pl⟩ := wt_four hX.out.1.b
                  obtain ⟨t0, t1, t2, t3, t4, tf, tl⟩ := sh_five hX.out.2.1
                  have hgl : (gridL (stF (mapG (l.take k) f) c q.d f y x) ht wd).length = ht := gridL_len _ _ _
                  have hil : ii < (gridL (stF (mapG (l.take k) f) c q.d f y x) ht wd).length := by rw [hgl]; exact HII.out.2
                  have r0 : wr.cell? ⟨w.heap.size + 1, ii, none⟩ = some (rat vs ii) := by
                    have hl5 := hX.out.1.r.len
                    have hO5 := hX.out.1.r.o
                    rw [hgl] at hO5 hl5
                    have := World.ownsRow.cellAt (w := wr) (g := w.heap.size + 1) (cap := ht) hO5 ii (by have := HII.out.2; omega)
                    rw [this]
                    simp [rat, List.getElem?_eq_getElem (show ii < vs.length by have := HII.out.2; omega)]
                  have hIS := hX.out.1.r.bx ii hil
                  rw [gridL_at _ HII.out.2] at hIS
                  obtain ⟨g, cap, hrv, hgB, hgl2, hcj⟩ := hIS.pos (by rw [rowG_len]; omega)
                  rw [rowG_len] at hrv
                  have cj := hcj jj (by rw [rowG_len]; exact HJJ.out.2)
                  rw [rowG_at _ HJJ.out.2, stF_here _ _ _ _ HII.out.1 HJJ.out.1] at cj
                  have fj : wr.frozen? ⟨g, jj, none⟩ = false := by
                    rw [hrv] at hIS
                    have h6 : IS wr (w.heap.size + 1) (.slice (some ⟨g, 0, none⟩) (rowG (stF (mapG (l.take k) f) c q.d f y x ii) wd).length cap) (rowG (stF (mapG (l.take k) f) c q.d f y x ii) wd) := by rw [rowG_len]; exact hIS
                    exact World.ownsRow.frozenAt h6 jj
                  have hsm := HSM.out k (f.x0 + (jj : Int)) (f.y0 + (ii : Int))
                  have hms : mapG (l.take k) f ii jj = sumD (l.take k) (f.x0 + (jj : Int)) (f.y0 + (ii : Int)) := rfl
                  rw [← hms] at hsm
                  have hqd := HQ.out.2.2
                  obtain ⟨S, hS⟩ : ∃ S, S = mapG (l.take k) f ii jj := ⟨_, rfl⟩
                  rw [← hS] at cj hsm
                  have hws : IntKind.i64.wrap (S + q.d) = S + q.d := by rw [IntKind.wrap_i64]; omega
                  have R : Hid (GV w (wr.setCell ⟨g, jj, none⟩ (.int .i64 (S + q.d))) f ht (gridL (stF (mapG (l.take k) f) c q.d f y (x + 1)) ht wd) vs ∧ (wr.setCell ⟨g, jj, none⟩ (.int .i64 (S + q.d))).heap[B8]? = some (.cells #[.int .i64 q.b.x0, .int .i64 q.b.y0, .int .i64 q.b.x1, .int .i64 q.b.y1, .int .i64 q.d] 48) ∧ (wr.setCell ⟨g, jj, none⟩ (.int .i64 (S + q.d))).heap[B9]? = some (.cells #[.int .i64 c.x0, .int .i64 c.y0, .int .i64 c.x1, .int .i64 c.y1] 34)) := by
                    obtain ⟨_, _, cs, hcs⟩ := rowBlk hIS (show (rat vs ii).ownBlock = some g by rw [hrv]; rfl)
                    refine ⟨?_, ?_, ?_⟩
                    · have h7 := hX.out.1.turn hil hrv jj (S + q.d)
                      rw [gridL_at _ HII.out.2, gridL_set, hS, stF_step _ _ _ _ HII.out.1 HJJ.out.1 ⟨HXB.out.1, HXB.out.2.1⟩ ⟨HYB.out.1, HYB.out.2.1⟩] at h7
                      rw [hS]; exact h7
                    · rw [heap_setCell_other _ _ _ _ (fun e => by
                        have e' : B8 = g := by simpa using e
                        have h8 := hX.out.2.1
                        rw [e'] at h8
                        exact kindsR hcs h8 (by decide))]
                      exact hX.out.2.1
                    · rw [heap_setCell_other _ _ _ _ (fun e => by
                        have e' : B9 = g := by simpa using e
                        have h8 := hX.out.2.2
                        rw [e'] at h8
                        exact kindsR hcs h8 (by decide))]
                      exact hX.out.2.2
                  rw [hrv] at r0
                  have b2 : (0 : Int) ≤ (ii : Int) := by omega
                  have b3 : (ii : Int) < (ht : Int) := by have := HII.out.2; omega
                  have b4 : (0 : Int) ≤ (jj : Int) := by omega
                  have b5 : (jj : Int) < (wd : Int) := by have := HJJ.out.2; omega
                  clear hX hF hxb hjj hgl hil hIS hcj hrv hsm hms hS hqd sf pf tf
                  go_wp2_with (fail)
                  refine wp_region_still_tail 17 (by kernel_rfl) (by kernel_rfl) ?_
                  have hdw : ({ wr with drawn := wr.drawn + 1 } : World) = wr.drew := rfl
                  rw [hdw]
                  clear hdw
                  simp only [List.take_succ_cons, List.take_zero, List.drop_succ_cons, List.drop_zero]
                  iterate 17 still_step
                  refine wpStill_nil ?_
                  go_wp2
                  go_roundw
                  case rel => exact ⟨x + 1, rfl, by omega, ⟨R.out.1.next (Below.refl _ _).drew, R.out.2.1, R.out.2.2⟩⟩
                  case measure => simp [intOf]; omega
                · have R : Hid (GV w wr f ht (gridL (stF (mapG (l.take k) f) c q.d f (y + 1) c.x0) ht wd) vs ∧ wr.heap[B8]? = some (.cells #[.int .i64 q.b.x0, .int .i64 q.b.y0, .int .i64 q.b.x1, .int .i64 q.b.y1, .int .i64 q.d] 48) ∧ wr.heap[B9]? = some (.cells #[.int .i64 c.x0, .int .i64 c.y0, .int .i64 c.x1, .int .i64 c.y1] 34)) := by
                    unfold Hid
                    rw [← stF_row (x := x) _ _ _ _ (by omega)]
                    exact hX.out
                  clear hX sf
                  go_wp2
                  go_roundw
                  case rel => exact ⟨y + 1, rfl, by omega, R.out⟩
                  case measure => simp [intOf]; omega
            · have R : Hid (GV w wr f ht (gridL (mapG (l.take (k + 1)) f) ht wd) vs) := by
                unfold Hid
                have h1 := hY.out.1
                rw [HF.out.1, HF.out.2.1] at h1 ⊢
                rw [HQ.out.2.1] at h1 hly
                rw [stF_last hkl HQ.out.1 (by omega)] at h1
                exact h1
              clear hY sf
              go_wp2
              go_roundw
              case rel => exact ⟨k + 1, vs, by omega, by go_num, R.out⟩
              case measure => simp [intOf]; omega
        · have HE : Hid (RI wr w.heap.size (.slice (some ⟨w.heap.size + 1, 0, none⟩) ht ht) (mapV l f) vs ∧ Below w.heap.size w wr) := by
            have h1 := hR.out.r
            refine ⟨?_, hR.out.bl⟩
            unfold mapV
            rw [List.take_of_length_le (by rw [← H.out.2.1]; omega)] at h1
            rw [← HF.out.1, ← HF.out.2.1]
            exact h1.low (by omega)
          clear hR
          go_wp2
          go_returns
          exact ⟨_, vs, rfl, HE.out.1, HE.out.2⟩

end Go.Proofs.Ytmpbcdolikafpaa
