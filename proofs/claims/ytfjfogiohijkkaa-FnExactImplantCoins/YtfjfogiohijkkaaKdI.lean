/- Proved here: the depths to which atoms are kicked, as an iterator that is ranged over: its contract. -/
import Derived.Test.YtfjfogiohijkkaaIcM
import Derived.Test.YtfjfogiohijkkaaPfX
import Derived.Test.YtfjfogiohijkkaaICoins
namespace Go.Proofs.Ytfjfogiohijkkaa
open Go.RowKit Go.Shelf
set_option linter.unusedVariables false
set_option linter.unusedSimpArgs false
attribute [local go_sem] Oper.semAt_some

/-- What a round that goes on keeps: cells that were laid since N, and the three boxes. -/
def kpC (N b1 b2 b3 : Nat) (A B : World) : Prop := A.heap.size ≤ B.heap.size ∧ (∀ q o, N ≤ q → A.heap[q]? = some o → o.isCells = true → B.heap[q]? = some o) ∧ B.heap[b1]? = A.heap[b1]? ∧ B.heap[b2]? = A.heap[b2]? ∧ B.heap[b3]? = A.heap[b3]?
theorem kpC_t {N b1 b2 b3 : Nat} {A B C : World} (h : kpC N b1 b2 b3 A B) (k : kpC N b1 b2 b3 B C) : kpC N b1 b2 b3 A C :=
  ⟨Nat.le_trans h.1 k.1, fun q o hq ho hc => k.2.1 q o hq (h.2.1 q o hq ho hc) hc, k.2.2.1.trans h.2.2.1, k.2.2.2.1.trans h.2.2.2.1, k.2.2.2.2.trans h.2.2.2.2⟩
theorem kpC_is {N b1 b2 b3 : Nat} {A B : World} {D : Nat} {v : Value} {xs : List Int} (h : kpC N b1 b2 b3 A B) (hN : N ≤ D) (hi : IS A D v xs) : IS B D v xs := by
  refine ⟨hi.1, ?_⟩
  rcases hi.2 with h' | ⟨g, cap, cur, rfl, hB, hg, hr⟩
  · exact Or.inl h'
  · exact Or.inr ⟨g, cap, cur, rfl, hB, h.2.1 g _ (by omega) hg rfl, hr⟩
theorem below_grown {w w' : World} (h : Below w.heap.size w w') : w.grownBy w' none := ⟨h.os, h.tape, h.output, h.size, fun k hk _ => h.block k hk⟩
theorem kpC_below {N b1 b2 b3 : Nat} {A B : World} (hb : b1 < A.heap.size ∧ b2 < A.heap.size ∧ b3 < A.heap.size) (h : Below A.heap.size A B) : kpC N b1 b2 b3 A B :=
  ⟨h.size, fun q o _ ho _ => (h.block q (ltOf ho)).trans ho, h.block _ hb.1, h.block _ hb.2.1, h.block _ hb.2.2⟩

theorem fldC (C S : Int) (a : Option Addr) (m c : Nat) (w : World) : (Instr.field 61 (.agg #[.int .i64 C, .int .i64 S, .slice a m c]) 2).run Try.prog w = .ok (.slice a m c) w := by kernel_rfl

set_option maxRecDepth 100000 in
set_option maxHeartbeats 8000000 in
theorem kd_in (F : Fence) (n : Nat) (hw : F = Fence.wide) (hn : 1 ≤ n) (l N b1 b2 b3 m kc : Nat) (sd : Int) (co : List Int) (hco : co = coinsK sd 3 (m * kc)) (hm : m ≤ 200) (hk : 1 ≤ kc ∧ kc ≤ 20) (hsd : 1 ≤ sd ∧ sd ≤ 2147483646) (J Jx : List Kd → World → Prop)
    (hY : ∀ pre x W, J pre W → pre.length < m → YieldAt F (n - 1) Try.prog l (kdE x) W fun e W' =>
      (e = .returned (.bool true) ∧ J (pre ++ [x]) W' ∧ kpC N b1 b2 b3 W W') ∨ (e = .returned (.bool false) ∧ Jx (pre ++ [x]) W'))
    (W : World) (hN : N ≤ W.heap.size) (hJ : AbidesFrom W.heap.size J) (h1 : W.heap[b1]? = some (.cells #[.int .i64 sd] 2)) (h2 : W.heap[b2]? = some (.cells #[.int .i64 (m : Int)] 2)) (h3 : W.heap[b3]? = some (.cells #[.int .i64 (kc : Int)] 2)) (h0 : J [] W) :
    CallsIn F n Try.prog 49 #[.func (.yield l) #[] #[], .pointer (some ⟨b1, 0, none⟩), .pointer (some ⟨b2, 0, none⟩), .pointer (some ⟨b3, 0, none⟩)] W fun e W' => (∃ v, e = .returned v) ∧
      ((∃ ys, ys = kdL co kc m ∧ J ys W') ∨ (∃ pre, (∃ k, k ≤ m ∧ pre = kdL co kc k) ∧ Jx pre W')) := by
  subst hw
  refine callsIn_of_wp Try.func49 rfl trivial ?_ rfl
  simp only [Try.ntmps49, List.size_toArray, List.length_cons, List.length_nil, Nat.reduceAdd, Nat.reduceSub, Array.replicate_succ, Array.replicate_zero, List.push_toArray, List.append_toArray, List.nil_append, List.cons_append]
  obtain ⟨mk, hmk⟩ : ∃ x, x = m * kc := ⟨_, rfl⟩
  have hmk2 : mk ≤ 4000 := by rw [hmk]; exact Nat.mul_le_mul hm hk.2
  have kw : IntKind.i64.wrap ((m : Int) * (kc : Int)) = (mk : Int) := by rw [hmk, IntKind.wrap_i64, ← Int.natCast_mul, ← hmk]; omega
  have kw2 : (m : Int) * (kc : Int) = (mk : Int) := by rw [hmk, Int.natCast_mul]
  have s1 := cellOf h1 0 rfl
  have s1l := ltOf h1
  have s2 := cellOf h2 0 rfl
  have s2l := ltOf h2
  have s3 := cellOf h3 0 rfl
  have s3l := ltOf h3
  have HB : Hid (W.heap[b1]? = some (.cells #[.int .i64 sd] 2) ∧ W.heap[b2]? = some (.cells #[.int .i64 (m : Int)] 2) ∧ W.heap[b3]? = some (.cells #[.int .i64 (kc : Int)] 2)) := ⟨h1, h2, h3⟩
  have HC : Hid (co = coinsK sd 3 mk ∧ mk = m * kc ∧ co.length = mk ∧ C2 co) := ⟨by rw [hco, hmk], hmk, by rw [hco, coinsK_length, hmk], by rw [hco]; exact C2_coins _ _⟩
  clear h1 h2 h3 hco hmk
  gi_wp2_with (fail)
  refine ⟨trivial, (callsIn_wide.2 (impl_coins_ok sd 3 mk _ hsd.1 hsd.2 (by omega) (by omega) (by omega))).mono ?_⟩
  rintro e w1 ⟨g, cap, rfl, hi1, hb1⟩
  rw [← HC.out.1] at hi1
  have hcp : mk ≤ cap := by
    rcases hi1.2 with ⟨e, _⟩ | ⟨g', cap', cur, e, _, _, hx, _⟩
    · cases e
    · injection e with _ e1 e2; rw [e2]; rw [HC.out.2.2.1] at hx; exact hx
  have HJ1 : Hid (J [] w1) := hJ [] W w1 none h0 (below_grown hb1) (fun r e => by cases e)
  have HI1 : Hid (IS w1 W.heap.size (.slice (some ⟨g, 0, none⟩) mk cap) co ∧ kpC N b1 b2 b3 W w1) := ⟨hi1, kpC_below ⟨ltOf HB.out.1, ltOf HB.out.2.1, ltOf HB.out.2.2⟩ hb1⟩
  have q2 := (hb1.cell (p := ⟨b2, 0, none⟩) s2l).trans s2
  have q2l : b2 < w1.heap.size := Nat.lt_of_lt_of_le s2l hb1.size
  have hfl := fldC 0 (seedK sd mk) (some ⟨g, 0, none⟩) mk cap
  clear hi1 hb1 h0 s1 s1l s2 s2l s3 s3l kw kw2
  gi_wp2_with (fail)
  gi_loopw [5, 6, 8, 16] (fun cs _ _ i wr => ∃ (a off ln cp : Nat), a ≤ m ∧ i = .int .i64 (a : Int) ∧ cs = .slice (some ⟨g, off, none⟩) ln cp ∧ ln ≤ cp ∧ Hid (ln + a * kc = mk ∧ (a < m → off = a * kc) ∧ J (kdL co kc a) wr ∧ IS wr W.heap.size (.slice (some ⟨g, 0, none⟩) mk cap) co ∧ kpC N b1 b2 b3 W wr))
    (fun _ _ _ i _ => m - (intOf i).toNat)
  case atStart => exact ⟨0, 0, mk, cap, Nat.zero_le _, rfl, rfl, hcp, by simp, fun _ => by simp, HJ1.out, HI1.out.1, HI1.out.2⟩
  case round =>
    clear HJ1 HI1 q2 q2l
    obtain ⟨a, off, ln, cp, ha, rfl, rfl, hlc, hR⟩ := hrel
    obtain ⟨w0, rfl⟩ : ∃ w0, w0 = wr := ⟨_, rfl⟩
    by_cases hlt : a < m
    · obtain ⟨r1, r2, r3, r4, r5⟩ := hR.out
      have hoff : off = a * kc := r2 hlt
      have hle : (a + 1) * kc ≤ m * kc := Nat.mul_le_mul_right _ hlt
      rw [Nat.succ_mul, ← HC.out.2.1] at hle
      have hkl : kc ≤ ln := by omega
      have z3 : w0.heap[b3]? = some (.cells #[.int .i64 (kc : Int)] 2) := r5.2.2.2.2.trans HB.out.2.2
      have c3 := cellOf z3 0 rfl
      have c3l := ltOf z3
      have HR : Hid (ln + a * kc = mk ∧ off = a * kc ∧ J (kdL co kc a) w0 ∧ IS w0 W.heap.size (.slice (some ⟨g, 0, none⟩) mk cap) co ∧ kpC N b1 b2 b3 W w0) := ⟨r1, hoff, r3, r4, r5⟩
      clear r1 r2 r3 r4 r5 hR hoff hle z3
      have b0 : (0 : Int) ≤ (kc : Int) := by omega
      have b1' : (kc : Int) ≤ (cp : Int) := by omega
      have b2' : (kc : Int) ≤ (ln : Int) := by omega
      have b3' : (a : Int) < (m : Int) := by omega
      gi_wp2_with (fail)
      gi_loopw [6, 8, 22] (fun d _ i wx => ∃ (k : Nat) (S : Int), k ≤ kc ∧ i = .int .i64 (k : Int) ∧ d = .int .i64 S ∧ 0 ≤ S ∧ S ≤ 1000 ∧ Hid (S = suL ((co.drop (a * kc)).take k) ∧ wx = w0))
        (fun _ _ i _ => kc - (intOf i).toNat)
      case atStart => exact ⟨0, 0, Nat.zero_le _, rfl, rfl, by omega, by omega, by simp [suL], rfl⟩
      case round =>
        obtain ⟨k, S, hkk, rfl, rfl, hS0, hS1, hQ⟩ := hrel
        obtain rfl : w0 = wr := hQ.out.2.symm
        by_cases hlk : k < kc
        · have hal : a * kc + kc ≤ co.length := by have := HR.out.1; have := HC.out.2.2.1; omega
          obtain ⟨x, hx⟩ : ∃ x, x = co.getD (a * kc + k) 0 := ⟨_, rfl⟩
          have hxb := HC.out.2.2.2 (a * kc + k)
          rw [← hx] at hxb
          have hS2 : S + x = suL ((co.drop (a * kc)).take (k + 1)) := by rw [suL_take (by rw [List.length_drop]; omega), drop_at, ← hQ.out.1, hx]
          have hsb := su2_bd HC.out.2.2.2 (a * kc) (k + 1) (by rw [List.length_drop]; omega)
          have d0 : w0.cell? ⟨g, off + k, none⟩ = some (.int .i64 x) := by
            obtain ⟨g', cap', e, _, _, hc⟩ := HR.out.2.2.2.1.pos (by omega)
            injection e with e1
            injection e1 with e2
            injection e2 with e3
            rw [e3, HR.out.2.1, hx]
            exact hc _ (by omega)
          have d1 : g < w0.heap.size := (IS.lt HR.out.2.2.2.1 g rfl).2
          have HS : Hid (S + x = suL ((co.drop (a * kc)).take (k + 1)) ∧ 0 ≤ S + x ∧ S + x ≤ 1000) := ⟨hS2, by omega, by omega⟩
          have k1 : IntKind.i64.wrap (S + x) = S + x := by rw [IntKind.wrap_i64]; omega
          have b5 : (0 : Int) ≤ (k : Int) := by omega
          have b6 : (k : Int) < (kc : Int) := by omega
          clear hal hx hxb hS2 hsb hQ
          gi_wp2
          go_roundw
          case rel => exact ⟨k + 1, S + x, by omega, by go_num, rfl, HS.out.2.1, HS.out.2.2, HS.out.1, trivial⟩
          case measure => simp [intOf] <;> omega
        · have hal : a * kc + kc ≤ co.length := by have := HR.out.1; have := HC.out.2.2.1; omega
          have hSd : S = dpt co kc a := by rw [hQ.out.1, show k = kc by omega]; rfl
          have hka := kdA_is HC.out.2.2.2 hal hk.2
          obtain ⟨fn, tmps, assign, body, hy, hRY⟩ := hY _ (kdA co kc a) w0 HR.out.2.2.1 (by rw [kdL_len]; exact hlt)
          unfold kdE at hy
          rw [hka.2, ← hSd] at hy
          clear hka hSd hal hQ
          gi_wp2
          refine hRY.mono ?_
          rintro e W3 (⟨rfl, hJ3, hk3⟩ | ⟨rfl, hJx3⟩)
          · have y3 : W3.heap[b3]? = some (.cells #[.int .i64 (kc : Int)] 2) := (kpC_t HR.out.2.2.2.2 hk3).2.2.2.2.trans HB.out.2.2
            have c3' := cellOf y3 0 rfl
            have c3l' := ltOf y3
            have HF : Hid (J (kdL co kc (a + 1)) W3 ∧ IS W3 W.heap.size (.slice (some ⟨g, 0, none⟩) mk cap) co ∧ kpC N b1 b2 b3 W W3) := ⟨by rw [kdL_succ]; exact hJ3, kpC_is hk3 hN HR.out.2.2.2.1, kpC_t HR.out.2.2.2.2 hk3⟩
            clear hJ3 hk3 y3 c3 c3l
            have HLQ : Hid (ln - kc + (a + 1) * kc = mk ∧ off + kc = (a + 1) * kc ∧ (a + 1 < m → 2 * kc ≤ ln)) := by
              have e1 := HR.out.1
              have e2 := HR.out.2.1
              refine ⟨by rw [Nat.succ_mul]; omega, by rw [Nat.succ_mul]; omega, fun h => ?_⟩
              have h9 : (a + 2) * kc ≤ m * kc := Nat.mul_le_mul_right _ h
              rw [Nat.add_mul, ← HC.out.2.1] at h9
              omega
            by_cases hcpk : cp = kc
            · gi_wp2
              go_roundw
              case rel => exact ⟨a + 1, off, ln - kc, 0, hlt, by go_num, rfl, by omega, HLQ.out.1, fun h => by have := HLQ.out.2.2 h; omega, HF.out⟩
              case measure => simp [intOf] <;> omega
            · gi_wp2
              go_roundw
              case rel => exact ⟨a + 1, off + kc, ln - kc, cp - kc, hlt, by go_num, rfl, by omega, HLQ.out.1, fun _ => HLQ.out.2.1, HF.out⟩
              case measure => simp [intOf] <;> omega
          · gi_wp2
            refine bodyPost_ret (results_none rfl _ _ _) rfl ?_
            exact ⟨⟨_, rfl⟩, .inr ⟨_, ⟨a + 1, hlt, (kdL_succ _ _ _).symm⟩, hJx3⟩⟩
    · obtain rfl : a = m := by omega
      have HJm : Hid (J (kdL co kc a) w0) := hR.out.2.2.1
      clear hR
      gi_wp2
      go_end0
      exact ⟨⟨_, rfl⟩, .inl ⟨_, rfl, HJm.out⟩⟩

theorem kd_stops (n : Nat) (hn : 1 ≤ n) (N b1 b2 b3 m kc : Nat) (sd : Int) (co : List Int) (hco : co = coinsK sd 3 (m * kc)) (hm : m ≤ 200) (hk : 1 ≤ kc ∧ kc ≤ 20) (hsd : 1 ≤ sd ∧ sd ≤ 2147483646) (w : World) (hN : N ≤ w.heap.size)
    (h1 : w.heap[b1]? = some (.cells #[.int .i64 sd] 2)) (h2 : w.heap[b2]? = some (.cells #[.int .i64 (m : Int)] 2)) (h3 : w.heap[b3]? = some (.cells #[.int .i64 (kc : Int)] 2)) :
    SeqStopsK Fence.wide n Try.prog 49 #[.pointer (some ⟨b1, 0, none⟩), .pointer (some ⟨b2, 0, none⟩), .pointer (some ⟨b3, 0, none⟩)] kdE (kpC N b1 b2 b3) (fun ys => ys = kdL co kc m) (fun pre => ∃ k, k ≤ m ∧ pre = kdL co kc k) m w := fun l J Jx W hW hJ _ hY h0 =>
  kd_in Fence.wide n rfl hn l N b1 b2 b3 m kc sd co hco hm hk hsd J Jx hY W (Nat.le_trans hN hW.size) hJ ((hW.block _ (ltOf h1)).trans h1) ((hW.block _ (ltOf h2)).trans h2) ((hW.block _ (ltOf h3)).trans h3) h0

theorem kd_fn (m kc sd : Int) (w : World) : Calls Try.prog 44 #[.int .i64 m, .int .i64 kc, .int .i64 sd] w fun e w' => e = .returned (.func (.func 49) #[] #[.pointer (some ⟨w.heap.size + 1 + 1, 0, none⟩), .pointer (some ⟨w.heap.size, 0, none⟩), .pointer (some ⟨w.heap.size + 1, 0, none⟩)]) ∧ w' = ((w.alloc (.cells #[.int .i64 m] 2)).alloc (.cells #[.int .i64 kc] 2)).alloc (.cells #[.int .i64 sd] 2) := by
  go_enter Try.func44, Try.ntmps44
  go_wp2
  go_returns
  exact ⟨rfl, rfl⟩

end Go.Proofs.Ytfjfogiohijkkaa
