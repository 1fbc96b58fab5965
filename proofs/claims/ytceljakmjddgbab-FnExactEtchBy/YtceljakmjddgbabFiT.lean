/- Proved here: films in the laws: weighed, copied; how one that came in is read. -/
import Derived.Test.YtceljakmjddgbabFsE
import Derived.Test.YtceljakmjddgbabMkI
import Derived.OpenShut
import Derived.Lib.SmallJoins
namespace Go.Proofs.Ytceljakmjddgbab
open Go.ChangeShapes Go.WideShapes Go.ChangeAt Go.RowKit Go.Joins Go.Deep
set_option linter.unusedVariables false
set_option linter.unusedSimpArgs false

set_option maxHeartbeats 1600000 in
theorem toFilm_any (x : Flm) (w : World) :
    Calls Try.prog 84 #[.agg #[.int .i64 x.m, .int .i64 x.t]] w fun e w' => e = .returned (.agg #[.int .i64 x.m, .int .i64 x.t]) ∧ Below w.heap.size w w' := by
  go_enter Try.func84, Try.ntmps84
  go_wp2
  go_returns
  exact ⟨rfl, by (repeat' (first | (with_reducible exact Below.refl _ _) | (with_reducible assumption) | (with_reducible refine Below.setCell ?_ ?_ _) | (with_reducible refine Below.alloc ?_ ?_ _) | (with_reducible refine below_drewN ?_ _) | (with_reducible refine Below.drew ?_) | (with_reducible exact Nat.le_refl _) | omega | (simp; done) | (simp; omega)))⟩

set_option maxRecDepth 10000 in
set_option maxHeartbeats 3200000 in
theorem toFilmS_any {w : World} {v : Value} {s : List Flm} (hn : s.length ≤ 1048576) (h : RG 2 flC w v s) :
    Calls Try.prog 73 #[v] w fun e w' => ∃ g, e = .returned (.slice (some ⟨g, 0, none⟩) s.length s.length) ∧ OG 76 2 flC w' w.heap.size (.slice (some ⟨g, 0, none⟩) s.length s.length) s ∧ Below w.heap.size w w' := by
  obtain ⟨a, c, rfl⟩ := h.form
  have H : Hid (RG 2 flC w (.slice a s.length c) s) := h
  clear h
  obtain ⟨i0, hi, hz0, hz1, hz2⟩ := info_parts info_Film
  obtain ⟨n, hnn⟩ : ∃ n, n = s.length := ⟨_, rfl⟩
  have HN : Hid (n = s.length) := hnn
  rw [← hnn] at hn H ⊢
  clear hnn
  go_enter Try.func73, Try.ntmps73
  go_wp2_with (at_make; refine wpList_make_full _ rfl _ _ 62 rfl w.heap.size 76 i0 (.agg #[.int .i64 0, .int .i64 0]) 2 Try.underlying62 hi hz0 hz1 _ _ _ _ n rfl rfl rfl rfl (by rw [hz2]; omega) (by unfold maxLen; omega) (Nat.le_refl _) ?_; intro w2 hown2 hgrow2)
  have hb2 : Below w.heap.size w w2 := (Below.refl _ _).grown hgrow2 (Nat.le_refl _) (fun k h => by cases h)
  have HS : Hid (Fill 76 2 flC w2 w.heap.size w.heap.size n s 0 ∧ Below w.heap.size w w2) := ⟨⟨_, hown2, fun t ht => by omega⟩, hb2⟩
  clear hown2 hgrow2 hb2
  go_loopw [4] (fun i wr => ∃ j : Nat, j ≤ n ∧ i = .int .i64 j ∧ Hid (Fill 76 2 flC wr w.heap.size w.heap.size n s j ∧ Below w.heap.size w wr)) (fun i _ => n - (intOf i).toNat)
  case atStart => exact ⟨0, Nat.zero_le _, rfl, HS.out⟩
  case round =>
    clear HS
    obtain ⟨j, hjn, rfl, hR⟩ := hrel
    by_cases hlt : j < n
    · have hjl : j < s.length := by rw [← HN.out]; exact hlt
      obtain ⟨g, o, c2, he, hg, hj⟩ := (H.out.below hR.out.2).pos (by rw [← HN.out]; omega)
      simp only [Value.slice.injEq] at he
      obtain ⟨rfl, hx1, hx2⟩ := he
      clear hx1 hx2
      obtain ⟨c0, c1⟩ := flC_at (hj j hjl)
      obtain ⟨x, hx⟩ : ∃ x, x = s[j] := ⟨_, rfl⟩
      rw [← hx] at c0 c1
      have HX : Hid (x = s[j]) := hx
      clear hx hj
      have b0 : (0 : Int) ≤ (j : Int) := by omega
      have b1 : (j : Int) < (n : Int) := by omega
      go_wp2_with (fail)
      refine (toFilm_any x _).mono ?_
      rintro e w3 ⟨rfl, hb3⟩
      have hF3 := hR.out.1.below hb3
      have hbl3 : Below w.heap.size w w3 := hR.out.2.trans (hb3.mono hR.out.2.size)
      obtain ⟨⟨u0, g0⟩, f0⟩ := hF3.there (j * 2) (by omega)
      obtain ⟨⟨u1, g1⟩, f1⟩ := hF3.there (j * 2 + 1) (by omega)
      have HP : Hid (Fill 76 2 flC (((w3.setCell ⟨w.heap.size, j * 2, none⟩ (.int .i64 x.m)).setCell ⟨w.heap.size, j * 2 + 1, none⟩ (.int .i64 x.t))) w.heap.size w.heap.size n s (j + 1) ∧ Below w.heap.size w (((w3.setCell ⟨w.heap.size, j * 2, none⟩ (.int .i64 x.m)).setCell ⟨w.heap.size, j * 2 + 1, none⟩ (.int .i64 x.t)))) := by
        have h1 := hF3.put flC_len HN.out hjl
        rw [← HX.out] at h1
        exact ⟨h1, puts_below hbl3 (Nat.le_refl _) (flC x) 0⟩
      clear hF3 hbl3 hb3 hR c0 c1
      go_wp2
      go_roundw
      case rel => exact ⟨j + 1, by omega, by go_num, HP.out⟩
      case measure => simp [intOf]; omega
    · have HD : Hid (OG 76 2 flC wr w.heap.size (.slice (some ⟨w.heap.size, 0, none⟩) n n) s ∧ Below w.heap.size w wr) := ⟨hR.out.1.done flC_len HN.out (by rw [← HN.out]; omega), hR.out.2⟩
      clear hR
      go_wp2
      go_returns
      exact ⟨w.heap.size, rfl, HD.out.1, HD.out.2⟩
set_option maxHeartbeats 800000 in
theorem szFilmS_gen (a : Option Addr) (n c : Nat) (l : Int) (w : World) (h0 : 0 ≤ l) (h1 : l ≤ 1048576) (h2 : n ≤ maxLen) :
    Calls Try.prog 69 #[.slice a n c, .int .i64 l] w fun e w' => ∃ r, e = .returned (.int .i64 r) ∧ (r < 0 ∨ (0 ≤ r ∧ r ≤ l ∧ (n : Int) ≤ l)) ∧ Below w.heap.size w w' := by
  unfold maxLen at h2
  have hw : IntKind.i64.wrap (l - (n : Int)) = l - (n : Int) := by rw [IntKind.wrap_i64]; omega
  by_cases hn : l - (n : Int) < 0
  · go_enter Try.func69, Try.ntmps69
    go_wp2
    go_returns
    exact ⟨-1, rfl, Or.inl (by omega), by (repeat' (first | (with_reducible exact Below.refl _ _) | (with_reducible assumption) | (with_reducible refine Below.setCell ?_ ?_ _) | (with_reducible refine Below.alloc ?_ ?_ _) | (with_reducible refine below_drewN ?_ _) | (with_reducible refine Below.drew ?_) | (with_reducible exact Nat.le_refl _) | omega | (simp; done) | (simp; omega)))⟩
  · go_enter Try.func69, Try.ntmps69
    go_wp2
    go_returns
    exact ⟨_, rfl, Or.inr ⟨by omega, by omega, by omega⟩, by (repeat' (first | (with_reducible exact Below.refl _ _) | (with_reducible assumption) | (with_reducible refine Below.setCell ?_ ?_ _) | (with_reducible refine Below.alloc ?_ ?_ _) | (with_reducible refine below_drewN ?_ _) | (with_reducible refine Below.drew ?_) | (with_reducible exact Nat.le_refl _) | omega | (simp; done) | (simp; omega)))⟩

set_option maxRecDepth 100000 in
theorem film_cells {H : Type} {enc : TypeId × Value → H} {W : World} {fuel : Nat} {cs : List Value} {x : DataW H × List MemPlace} (h : DataW.trod enc Try.prog W 0 (fun _ => true) true fuel 109 cs = some x) : ∃ a : Flm, cs = flC a ∧ True := by
  obtain ⟨y0, y1, n, hx, hl, h0, h1⟩ := trod_struct2 Try.underlying109 h
  have k6 : Try.prog.cellsOf 109 = 2 := by kernel_rfl
  have k1 : Try.prog.cellsOf 2 = 1 := by kernel_rfl
  rw [k6] at hl
  obtain ⟨c0, c1, rfl⟩ : ∃ c0 c1, cs = [c0, c1] := by
    match cs, hl with
    | [c0, c1], _ => exact ⟨c0, c1, rfl⟩
  obtain ⟨n4, e4, _, _⟩ := DataW.trod_int Try.underlying2 h1
  obtain ⟨m0, f0, _, _⟩ := DataW.trod_int Try.underlying2 h0
  simp [k1] at e4 f0
  subst e4 f0
  exact ⟨⟨m0, n4⟩, rfl, trivial⟩


end Go.Proofs.Ytceljakmjddgbab
