/- Proved here: the greatest box of the model (l10Best), and with it LargestWindow of the model. -/
import Derived.Test.YthmddnachancfaaWnP
import Derived.Test.YthmddnachancfaaWnE
import Derived.Deep.DeepCutAuto
namespace Go.Proofs.Ythmddnachancfaa
open Go.RowKit
set_option linter.unusedVariables false
set_option linter.unusedSimpArgs false

/-- Where the looking of the model stands. -/
structure BT (w wr : World) (KB : Nat) (b : Wnd) : Prop where
  r : wr.heap[w.heap.size]? = some (.cells #[.int .i64 0, .int .i64 0, .int .i64 0, .int .i64 0] 34)
  b : wr.heap[KB]? = some (.cells #[.int .i64 b.x0, .int .i64 b.y0, .int .i64 b.x1, .int .i64 b.y1] 34)
  bl : Below w.heap.size w wr
  o : w.heap.size < KB
theorem BT.put {w wr : World} {KB : Nat} {b : Wnd} (h : BT w wr KB b) (c : Wnd) : BT w ((((wr.setCell ⟨KB, 0, none⟩ (.int .i64 c.x0)).setCell ⟨KB, 1, none⟩ (.int .i64 c.y0)).setCell ⟨KB, 2, none⟩ (.int .i64 c.x1)).setCell ⟨KB, 3, none⟩ (.int .i64 c.y1)) KB c := by
  have ho := h.o
  have o : ∀ k, k ≠ KB → ((((wr.setCell ⟨KB, 0, none⟩ (.int .i64 c.x0)).setCell ⟨KB, 1, none⟩ (.int .i64 c.y0)).setCell ⟨KB, 2, none⟩ (.int .i64 c.x1)).setCell ⟨KB, 3, none⟩ (.int .i64 c.y1)).heap[k]? = wr.heap[k]? := fun k hk => by
    repeat rw [heap_setCell_other _ _ _ _ (show k ≠ _ from hk)]
  refine ⟨(o _ (by omega)).trans h.r, ?_, ?_, h.o⟩
  · have h1 := heap_setCell_same wr KB 0 _ _ (.int .i64 c.x0) h.b
    have h2 := heap_setCell_same _ KB 1 _ _ (.int .i64 c.y0) h1
    have h3 := heap_setCell_same _ KB 2 _ _ (.int .i64 c.x1) h2
    have h4 := heap_setCell_same _ KB 3 _ _ (.int .i64 c.y1) h3
    simpa using h4
  · have hb := h.bl
    have hk : w.heap.size ≤ KB := by omega
    (repeat' (first | (with_reducible exact Below.refl _ _) | (with_reducible assumption) | (with_reducible refine Below.setCell ?_ ?_ _) | (with_reducible refine Below.alloc ?_ ?_ _) | (with_reducible refine below_drewN ?_ _) | (with_reducible refine Below.drew ?_) | (with_reducible exact Nat.le_refl _) | omega | (simp; done) | (simp; omega)))
theorem box4 {w : World} {k : Nat} {a b c d : Value} {T : TypeId} (h : w.heap[k]? = some (.cells #[a, b, c, d] T)) :
    w.cell? ⟨k, 0, none⟩ = some a ∧ w.cell? ⟨k, 1, none⟩ = some b ∧ w.cell? ⟨k, 2, none⟩ = some c ∧ w.cell? ⟨k, 3, none⟩ = some d ∧ w.frozen? ⟨k, 0, none⟩ = false ∧ w.frozen? ⟨k, 1, none⟩ = false ∧ w.frozen? ⟨k, 2, none⟩ = false ∧ w.frozen? ⟨k, 3, none⟩ = false ∧ k < w.heap.size :=
  ⟨cellOf h 0 rfl, cellOf h 1 rfl, cellOf h 2 rfl, cellOf h 3 rfl, frozOf h 0, frozOf h 1, frozOf h 2, frozOf h 3, ltOf h⟩

set_option maxRecDepth 10000 in
set_option maxHeartbeats 25600000 in
theorem spec_best {w : World} {v : Value} {ls : List (List Int)} (hG : GG 1 ls) (h : RdR w v ls) :
    Calls Try.prog 48 #[v] w fun e w' => e = .returned (.tuple #[.agg #[.int .i64 (lwB ls).x0, .int .i64 (lwB ls).y0, .int .i64 (lwB ls).x1, .int .i64 (lwB ls).y1], .int .i64 (lwB ls).a]) ∧ Below w.heap.size w w' := by
  obtain ⟨a, c, rfl⟩ := h.form
  obtain ⟨n, hnn⟩ : ∃ n, n = ls.length := ⟨_, rfl⟩
  obtain ⟨wd, hwd⟩ : ∃ n, n = (ls.getD 0 []).length := ⟨_, rfl⟩
  obtain ⟨P, hP⟩ : ∃ P, P = oneP ls := ⟨_, rfl⟩
  obtain ⟨L, hL⟩ : ∃ L, L = lwB ls := ⟨_, rfl⟩
  rw [← hL]
  have HL : Hid (L = alN P n wd n) := by unfold Hid; rw [hL]; unfold lwB; rw [hP, hnn, hwd]
  have hn16 : n ≤ 16 := by rw [hnn]; exact hG.h1
  have hn0 : 0 < n := by rw [hnn]; exact hG.h0
  have hw16 : wd ≤ 16 := by rw [hwd]; exact hG.w1
  have hw0 : 0 < wd := by rw [hwd]; exact hG.w0
  rw [← hnn] at h ⊢
  have HG : Hid (RdR w (.slice a n c) ls ∧ Sh n wd ls ∧ ∀ y x, P y x = (at2 ls y x == 1)) := ⟨h, by have := hG.sh; rw [← hnn, ← hwd] at this; exact this, fun y x => by rw [hP]; rfl⟩
  clear hG hL hP hwd hnn h
  obtain ⟨g, o, ua, un, uc, rfl, hg, c0, hun, hrd⟩ := HG.out.1.at hn0
  rw [HG.out.2.1.wd 0 hn0] at hun
  subst hun
  clear hrd
  simp only [Nat.add_zero] at c0
  have z1 : (0 : Int) < (n : Int) := by omega
  obtain ⟨V, hV⟩ : ∃ V, V = (w.alloc (.cells #[.int .i64 0, .int .i64 0, .int .i64 0, .int .i64 0] 34)).alloc (.cells #[.int .i64 0, .int .i64 0, .int .i64 0, .int .i64 0] 34) := ⟨_, rfl⟩
  obtain ⟨k0, k1, hb, hs⟩ := al2 hV
  have c1 := (hb.cell (p := ⟨g, o, none⟩) hg).trans c0
  have hg1 := Nat.lt_of_lt_of_le hg hb.size
  clear c0 hg
  go_enter Try.func48, Try.ntmps48
  go_upto_region 2 with fail
  rw [← hV]
  obtain ⟨KB, hKB⟩ : ∃ K, K = w.heap.size + 1 := ⟨_, rfl⟩
  rw [← hKB] at k1 ⊢
  have HS : Hid (BT w V KB (alN P n un 0)) := ⟨k0, k1, hb, by omega⟩
  clear hV hKB k0 k1 hb hs
  go_wp2
  clear c1 hg1
  go_loopw [5, 8] (fun s i wr => ∃ (k : Nat), k ≤ n ∧ i = .int .i64 k ∧ s = .int .i64 (alN P n un k).a ∧ Hid (BT w wr KB (alN P n un k))) (fun _ i _ => n - (intOf i).toNat)
  case atStart => exact ⟨0, Nat.zero_le _, rfl, rfl, HS.out⟩
  case round =>
    clear HS
    obtain ⟨k, hk, rfl, rfl, hR⟩ := hrel
    by_cases hlt : k < n
    · have HR : Hid (BT w wr KB (rwN P n un k 0 (alN P n un k))) := hR.out
      have b1 : (k : Int) < (n : Int) := by omega
      clear hR
      obtain ⟨b0, hb0⟩ : ∃ b, b = alN P n un k := ⟨_, rfl⟩
      have HB0 : Hid (b0 = alN P n un k ∧ 0 ≤ b0.a) := ⟨hb0, by rw [hb0]; exact alN_nn P n un k⟩
      rw [← hb0] at HR ⊢
      clear hb0
      go_wp2
      go_loopw [5, 9] (fun s i wr => ∃ (q : Nat), q ≤ un ∧ i = .int .i64 q ∧ s = .int .i64 (rwN P n un k q b0).a ∧ Hid (BT w wr KB (rwN P n un k q b0))) (fun _ i _ => un - (intOf i).toNat)
      case atStart => exact ⟨0, Nat.zero_le _, rfl, rfl, HR.out⟩
      case round =>
        clear HR
        obtain ⟨q, hq, rfl, rfl, hR⟩ := hrel
        by_cases hlt2 : q < un
        · obtain ⟨b2, hb2⟩ : ∃ b, b = rwN P n un k q b0 := ⟨_, rfl⟩
          have HB2 : Hid (rwN P n un k (q + 1) b0 = lfN P un k q (n - k) b2 ∧ 0 ≤ b2.a) := ⟨by rw [hb2]; exact rwN_next P n un k q HB0.out.2, by rw [hb2]; exact rwN_nn P n un k HB0.out.2 q⟩
          have HR : Hid (BT w wr KB (lfN P un k q 0 b2)) := by rw [hb2]; exact hR.out
          rw [← hb2]
          clear hR hb2
          have e1 : (q : Int) < (un : Int) := by omega
          have hw1 : IntKind.i64.wrap ((un : Int) - (q : Int)) = ((un - q : Nat) : Int) := by rw [IntKind.wrap_i64]; omega
          have hw2 : IntKind.i64.wrap ((k : Int) + 1) = (k : Int) + 1 := by rw [IntKind.wrap_i64]; omega
          go_wp2
          go_loopw [5, 10, 11] (fun s t i wr => ∃ (m U : Nat), k ≤ m ∧ m ≤ n ∧ i = .int .i64 ((m : Int) + 1) ∧ t = .int .i64 U ∧ q + U ≤ un ∧ s = .int .i64 (lfN P un k q (m - k) b2).a ∧ Hid (q + U = rgt P un k q (m - k) ∧ BT w wr KB (lfN P un k q (m - k) b2))) (fun _ _ i _ => n + 2 - (intOf i).toNat)
          case atStart => exact ⟨k, un - q, Nat.le_refl _, by omega, rfl, rfl, by omega, by rw [Nat.sub_self]; rfl, by rw [Nat.sub_self]; exact ⟨by rw [rgt]; omega, HR.out⟩⟩
          case round =>
            clear HR
            obtain ⟨m, U, hm0, hm, rfl, rfl, hU, rfl, hR⟩ := hrel
            by_cases hlt3 : m < n
            case neg =>
              have hno : ¬ (m : Int) + 1 ≤ (n : Int) := by omega
              have HP : Hid (BT w wr KB (rwN P n un k (q + 1) b0) ∧ (lfN P un k q (m - k) b2).a = (rwN P n un k (q + 1) b0).a) := by
                have e : m - k = n - k := by omega
                have h := hR.out.2
                rw [e] at h ⊢
                rw [HB2.out.1]
                exact ⟨h, rfl⟩
              clear hR
              go_wp2
              go_roundw
              case rel => exact ⟨q + 1, by omega, by go_num, by rw [HP.out.2], HP.out.1⟩
              case measure => simp [intOf]; omega
            have hyes : (m : Int) + 1 ≤ (n : Int) := by omega
            by_cases hU0 : U = 0
            · have HP : Hid (BT w wr KB (rwN P n un k (q + 1) b0) ∧ (lfN P un k q (m - k) b2).a = (rwN P n un k (q + 1) b0).a) := by
                have e : n - k = (m - k) + (n - m) := by omega
                rw [HB2.out.1, e, lfN_stop P (by omega) HB2.out.2 (by rw [← hR.out.1, hU0]; rfl)]
                exact ⟨hR.out.2, rfl⟩
              subst hU0
              clear hR
              go_wp2
              go_roundw
              case rel => exact ⟨q + 1, by omega, by go_num, by rw [HP.out.2], HP.out.1⟩
              case measure => simp [intOf]; omega
            have hUp : (0 : Int) < (U : Int) := by omega
            obtain ⟨b3, hb3⟩ : ∃ b, b = lfN P un k q (m - k) b2 := ⟨_, rfl⟩
            obtain ⟨G, hGG⟩ : ∃ G, G = goU (P m) q U := ⟨_, rfl⟩
            have hGb := goU_bd (P m) U q
            rw [← hGG] at hGb
            have HR : Hid (BT w wr KB b3 ∧ G = rgt P un k q (m + 1 - k) ∧ lfN P un k q (m + 1 - k) b2 = btr b3 ⟨((G - q : Nat) : Int) * ((m + 1 - k : Nat) : Int), q, k, G, (m : Int) + 1⟩ ∧ G = goU (P m) (q + 0) (U - 0)) := by
              have e1 : m + 1 - k = (m - k) + 1 := by omega
              have e2 : G = rgt P un k q ((m - k) + 1) := by rw [rgt, ← hR.out.1, show k + (m - k) = m by omega, show q + U - q = U by omega]; exact hGG
              refine ⟨by rw [hb3]; exact hR.out.2, by rw [e1]; exact e2, ?_, hGG⟩
              rw [e1, lfN, ← hb3]
              congr 1
              unfold cnd
              rw [← e2]
              have e3 : ((m - k : Nat) : Int) = (m : Int) - k := by omega
              have e4 : ((m - k + 1 : Nat) : Int) = (m : Int) - k + 1 := by omega
              have e5 : ((G - q : Nat) : Int) = (G : Int) - q := by omega
              rw [e4, e5, e3]
              simp only [Wnd.mk.injEq, true_and]
              omega
            rw [← hb3]
            clear hR hb3 hGG
            go_wp2
            go_loopw [12] (fun i wr' => ∃ (s : Nat), s ≤ U ∧ i = .int .i64 s ∧ wr' = wr ∧ Hid (G = goU (P m) (q + s) (U - s))) (fun i _ => U - (intOf i).toNat)
            case atStart => exact ⟨0, Nat.zero_le _, rfl, rfl, HR.out.2.2.2⟩
            case round =>
              obtain ⟨s, hs, rfl, rfl, hR4⟩ := hrel
              by_cases hlt4 : s < U
              case neg =>
                have hGs : G = q + s := by
                  have h := hR4.out; rw [show U - s = 0 by omega] at h; exact h
                have hno4 : ¬ (s : Int) < (U : Int) := by omega
                obtain ⟨A, hA⟩ : ∃ A, A = (s : Int) * ((m + 1 - k : Nat) : Int) := ⟨_, rfl⟩
                have hA0 : 0 ≤ A ∧ A ≤ 256 := by
                  rw [hA]
                  have h1 : s * (m + 1 - k) ≤ 16 * 16 := Nat.mul_le_mul (by omega) (by omega)
                  have h2 : ((s * (m + 1 - k) : Nat) : Int) = (s : Int) * ((m + 1 - k : Nat) : Int) := by rw [Int.natCast_mul]
                  omega
                have hw5 : IntKind.i64.wrap ((m : Int) + 1 - (k : Int)) = ((m + 1 - k : Nat) : Int) := by rw [IntKind.wrap_i64]; omega
                have hw6 : IntKind.i64.wrap ((s : Int) * ((m + 1 - k : Nat) : Int)) = A := by rw [← hA, IntKind.wrap_i64]; omega
                have hw7 : IntKind.i64.wrap ((q : Int) + (s : Int)) = ((q + s : Nat) : Int) := by rw [IntKind.wrap_i64]; omega
                have hw8 : IntKind.i64.wrap ((m : Int) + 1 + 1) = (m : Int) + 1 + 1 := by rw [IntKind.wrap_i64]; omega
                have HN : Hid (BT w wr KB b3 ∧ q + s = rgt P un k q (m + 1 - k) ∧ lfN P un k q (m + 1 - k) b2 = btr b3 ⟨A, q, k, ((q + s : Nat) : Int), (m : Int) + 1⟩) := by
                  have h := HR.out
                  rw [hGs, show q + s - q = s by omega, ← hA] at h
                  exact ⟨h.1, h.2.1, h.2.2.1⟩
                clear HR hR4 hA hGs hGb
                obtain ⟨d0, d1, d2, d3, df0, df1, df2, df3, dl⟩ := box4 HN.out.1.b
                by_cases hgt : b3.a < A
                · have HP : Hid (BT w ((((wr.setCell ⟨KB, 0, none⟩ (.int .i64 q)).setCell ⟨KB, 1, none⟩ (.int .i64 k)).setCell ⟨KB, 2, none⟩ (.int .i64 ((q + s : Nat) : Int))).setCell ⟨KB, 3, none⟩ (.int .i64 ((m : Int) + 1))) KB (lfN P un k q (m + 1 - k) b2) ∧ A = (lfN P un k q (m + 1 - k) b2).a ∧ q + s = rgt P un k q (m + 1 - k)) := by
                    rw [HN.out.2.2, btr, if_pos hgt]
                    exact ⟨HN.out.1.put ⟨A, q, k, ((q + s : Nat) : Int), (m : Int) + 1⟩, rfl, HN.out.2.1⟩
                  clear HN
                  go_wp2
                  go_roundw
                  case rel => exact ⟨m + 1, s, by omega, by omega, by go_num, rfl, by omega, by rw [← HP.out.2.1], HP.out.2.2, HP.out.1⟩
                  case measure => simp [intOf]; omega
                · have HP : Hid (BT w wr KB (lfN P un k q (m + 1 - k) b2) ∧ b3.a = (lfN P un k q (m + 1 - k) b2).a ∧ q + s = rgt P un k q (m + 1 - k)) := by
                    rw [HN.out.2.2, btr, if_neg hgt]
                    exact ⟨HN.out.1, rfl, HN.out.2.1⟩
                  clear HN
                  go_wp2
                  go_roundw
                  case rel => exact ⟨m + 1, s, by omega, by omega, by go_num, rfl, by omega, by rw [← HP.out.2.1], HP.out.2.2, HP.out.1⟩
                  case measure => simp [intOf]; omega
              have hyes4 : (s : Int) < (U : Int) := by omega
              obtain ⟨g', o', ra, rn, rc, he, hg4, a0, hrn, hrd⟩ := (HG.out.1.below HR.out.1.bl).at hlt3
              injection he with he
              injection he with he1 he2
              subst he1 he2
              rw [HG.out.2.1.wd m hlt3] at hrn
              obtain ⟨rg, ro, rfl, hrg, r0⟩ := rd_at hrd (show q + s < rn by omega)
              obtain ⟨x, hx⟩ : ∃ x, x = (ls.getD m []).getD (q + s) 0 := ⟨_, rfl⟩
              rw [← hx] at r0
              have HPX : Hid (P m (q + s) = (x == 1)) := by unfold Hid; rw [HG.out.2.2, hx]; rfl
              have i0 : (0 : Int) ≤ (m : Int) := by omega
              have i1 : (m : Int) < (n : Int) := by omega
              have i2 : (0 : Int) ≤ ((q + s : Nat) : Int) := by omega
              have i3 : ((q + s : Nat) : Int) < (rn : Int) := by omega
              have hw3 : IntKind.i64.wrap ((m : Int) + 1 - 1) = (m : Int) := by rw [IntKind.wrap_i64]; omega
              have hw4 : IntKind.i64.wrap ((q : Int) + (s : Int)) = ((q + s : Nat) : Int) := by rw [IntKind.wrap_i64]; omega
              have HRN : Hid (rn = un) := hrn
              clear hrd hx hrn
              by_cases hx1 : x = 1
              · have HN4 : Hid (G = goU (P m) (q + (s + 1)) (U - (s + 1))) := by
                  have h := hR4.out
                  rw [show U - s = (U - (s + 1)) + 1 by omega, goU, if_pos (by rw [HPX.out, hx1]; rfl)] at h
                  exact h
                have hxe : (x == 1) = true := by simpa using hx1
                subst hx1
                clear hR4 hxe
                go_wp2
                go_roundw
                case rel => exact ⟨s + 1, by omega, by go_num, by first | rfl | trivial, HN4.out⟩
                case measure => simp [intOf]; omega
              · have hGs : G = q + s := by
                  have h := hR4.out
                  rw [show U - s = (U - (s + 1)) + 1 by omega, goU, if_neg (by rw [HPX.out]; simpa using hx1)] at h
                  exact h
                have hxe : (x == 1) = false := by simpa using hx1
                clear hx1 HPX
                obtain ⟨A, hA⟩ : ∃ A, A = (s : Int) * ((m + 1 - k : Nat) : Int) := ⟨_, rfl⟩
                have hA0 : 0 ≤ A ∧ A ≤ 256 := by
                  rw [hA]
                  have h1 : s * (m + 1 - k) ≤ 16 * 16 := Nat.mul_le_mul (by omega) (by omega)
                  have h2 : ((s * (m + 1 - k) : Nat) : Int) = (s : Int) * ((m + 1 - k : Nat) : Int) := by rw [Int.natCast_mul]
                  omega
                have hw5 : IntKind.i64.wrap ((m : Int) + 1 - (k : Int)) = ((m + 1 - k : Nat) : Int) := by rw [IntKind.wrap_i64]; omega
                have hw6 : IntKind.i64.wrap ((s : Int) * ((m + 1 - k : Nat) : Int)) = A := by rw [← hA, IntKind.wrap_i64]; omega
                have hw7 : IntKind.i64.wrap ((q : Int) + (s : Int)) = ((q + s : Nat) : Int) := by rw [IntKind.wrap_i64]; omega
                have hw8 : IntKind.i64.wrap ((m : Int) + 1 + 1) = (m : Int) + 1 + 1 := by rw [IntKind.wrap_i64]; omega
                have HN : Hid (BT w wr KB b3 ∧ q + s = rgt P un k q (m + 1 - k) ∧ lfN P un k q (m + 1 - k) b2 = btr b3 ⟨A, q, k, ((q + s : Nat) : Int), (m : Int) + 1⟩) := by
                  have h := HR.out
                  rw [hGs, show q + s - q = s by omega, ← hA] at h
                  exact ⟨h.1, h.2.1, h.2.2.1⟩
                clear HR hR4 hA hGs hGb
                obtain ⟨d0, d1, d2, d3, df0, df1, df2, df3, dl⟩ := box4 HN.out.1.b
                by_cases hgt : b3.a < A
                · have HP : Hid (BT w ((((wr.setCell ⟨KB, 0, none⟩ (.int .i64 q)).setCell ⟨KB, 1, none⟩ (.int .i64 k)).setCell ⟨KB, 2, none⟩ (.int .i64 ((q + s : Nat) : Int))).setCell ⟨KB, 3, none⟩ (.int .i64 ((m : Int) + 1))) KB (lfN P un k q (m + 1 - k) b2) ∧ A = (lfN P un k q (m + 1 - k) b2).a ∧ q + s = rgt P un k q (m + 1 - k)) := by
                    rw [HN.out.2.2, btr, if_pos hgt]
                    exact ⟨HN.out.1.put ⟨A, q, k, ((q + s : Nat) : Int), (m : Int) + 1⟩, rfl, HN.out.2.1⟩
                  clear HN
                  go_wp2
                  go_roundw
                  case rel => exact ⟨m + 1, s, by omega, by omega, by go_num, rfl, by omega, by rw [← HP.out.2.1], HP.out.2.2, HP.out.1⟩
                  case measure => simp [intOf]; omega
                · have HP : Hid (BT w wr KB (lfN P un k q (m + 1 - k) b2) ∧ b3.a = (lfN P un k q (m + 1 - k) b2).a ∧ q + s = rgt P un k q (m + 1 - k)) := by
                    rw [HN.out.2.2, btr, if_neg hgt]
                    exact ⟨HN.out.1, rfl, HN.out.2.1⟩
                  clear HN
                  go_wp2
                  go_roundw
                  case rel => exact ⟨m + 1, s, by omega, by omega, by go_num, rfl, by omega, by rw [← HP.out.2.1], HP.out.2.2, HP.out.1⟩
                  case measure => simp [intOf]; omega
        · have HP : Hid (BT w wr KB (alN P n un (k + 1)) ∧ (rwN P n un k q b0).a = (alN P n un (k + 1)).a) := by
            have h := hR.out
            rw [show q = un by omega] at h ⊢
            rw [alN, ← HB0.out.1]
            exact ⟨h, rfl⟩
          clear hR
          go_wp2
          go_roundw
          case rel => exact ⟨k + 1, by omega, by go_num, by rw [HP.out.2], HP.out.1⟩
          case measure => simp [intOf]; omega
    · have HF : Hid (BT w wr KB L ∧ (alN P n un k).a = L.a) := by
        have e : k = n := by omega
        rw [e] at hR ⊢
        rw [HL.out]
        exact ⟨hR.out, rfl⟩
      rw [HF.out.2]
      clear hR
      obtain ⟨d0, d1, d2, d3, df0, df1, df2, df3, dl⟩ := box4 HF.out.1.b
      obtain ⟨r0, r1, r2, r3, rf0, rf1, rf2, rf3, rl⟩ := box4 HF.out.1.r
      go_wp2
      try simp only [Exit.inBlock, Exit.then]
      refine bodyPost_ret (by simp [results, Try.results48, go_sem, r0, r1, r2, r3, rl]; try rfl) rfl ⟨rfl, ?_⟩
      have hb := HF.out.1.bl
      (repeat' (first | (with_reducible exact Below.refl _ _) | (with_reducible assumption) | (with_reducible refine Below.setCell ?_ ?_ _) | (with_reducible refine Below.alloc ?_ ?_ _) | (with_reducible refine below_drewN ?_ _) | (with_reducible refine Below.drew ?_) | (with_reducible exact Nat.le_refl _) | omega | (simp; done) | (simp; omega)))

end Go.Proofs.Ythmddnachancfaa
