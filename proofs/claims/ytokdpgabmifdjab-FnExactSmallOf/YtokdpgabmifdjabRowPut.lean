/- Proved here: a row of the call's own whose cells the library has laid anew (putRow, grow): it is the call's own still, with the new cells. No condition on the program. (And ahead of it: Proved here: boxesFrom of the program: the boxes of one label, in their order.) -/
import Derived.Test.YtokdpgabmifdjabPrF
import Derived.Test.YtokdpgabmifdjabBoxBase
import Derived.Sort.Row
import Derived.Sort.Grow
namespace Go.Proofs.Ytokdpgabmifdjab
open Go.RowKit
set_option linter.unusedVariables false
set_option linter.unusedSimpArgs false

/-- Of the first k boxes those that have a label. -/
def selB (s : List Bx) (F : Nat → Nat) (p : Nat) : Nat → List Bx
  | 0 => []
  | k + 1 => if F k = p then selB s F p k ++ [bat s k] else selB s F p k
theorem selB_len (s : List Bx) (F : Nat → Nat) (p k : Nat) : (selB s F p k).length ≤ k := by
  induction k with
  | zero => exact Nat.le_refl _
  | succ k ih =>
    simp only [selB]; split
    · simp; omega
    · omega
theorem selB_mem {s : List Bx} {F : Nat → Nat} {p k : Nat} {b : Bx} (h : b ∈ selB s F p k) : ∃ a, a < k ∧ F a = p ∧ b = bat s a := by
  induction k with
  | zero => cases h
  | succ k ih =>
    simp only [selB] at h
    split at h
    · rcases List.mem_append.1 h with h | h
      · obtain ⟨a, h1, h2⟩ := ih h; exact ⟨a, by omega, h2⟩
      · exact ⟨k, by omega, by assumption, by simpa using h⟩
    · obtain ⟨a, h1, h2⟩ := ih h; exact ⟨a, by omega, h2⟩
theorem selB_congr {s : List Bx} {F G : Nat → Nat} {p q k : Nat} (h : ∀ a, a < k → (F a = p ↔ G a = q)) : selB s F p k = selB s G q k := by
  induction k with
  | zero => rfl
  | succ k ih =>
    simp only [selB]
    rw [ih fun a ha => h a (by omega)]
    have := h k (by omega)
    by_cases e : F k = p
    · rw [if_pos e, if_pos (this.1 e)]
    · rw [if_neg e, if_neg fun e' => e (this.2 e')]
/-- A list of boxes of the call's own. -/
structure SW (w wr : World) (v : Value) (l : List Bx) : Prop where
  o : BS wr w.heap.size v l
  bl : Below w.heap.size w wr
theorem SW.push {w wr w1 : World} {v v' : Value} {l : List Bx} {b : Bx} {o1 o2 : Obj} (h : SW w wr v l) (ho : w1.ownsRow w.heap.size 49 4 v' (l.length + 1) (bflat l ++ bcells b)) (hg : ((wr.alloc o1).alloc o2).grownBy w1 v.ownBlock) : SW w w1 v' (l ++ [b]) := by
  have hsz := h.bl.size
  refine ⟨?_, ((h.bl.alloc hsz o1).alloc (by simp; omega) o2).grown hg (by simp; omega) (fun k hk => (World.ownsRow.lt h.o k hk).1)⟩
  unfold BS
  rw [bflat_append, List.length_append]
  have e : bflat [b] = bcells b := by simp [bflat]
  rw [e]; exact ho

set_option maxRecDepth 10000 in
set_option maxHeartbeats 4000000 in
theorem impl_from {w : World} {a f : Option Addr} {n c m d B : Nat} {s : List Bx} {xs : List Nat} (p : Nat) (hn : n ≤ 150) (hm : m = n) (hp : p ≤ 100000) (hx : Hid (∀ j, j < n → xs.getD j 0 ≤ 100000)) (h : RB w (.slice a n c) s) (hi : IN w B (.slice f m d) xs) :
    Calls Try.prog 74 #[.slice a n c, .slice f m d, .int .i64 (p : Int)] w fun e w' => ∃ v, e = .returned v ∧ SW w w' v (selB s (fun j => xs.getD j 0) p n) := by
  have hlen : s.length = n := by obtain ⟨_, _, e⟩ := h.form; injection e with _ e2 _; exact e2.symm
  have hlex : xs.length = m := by obtain ⟨_, _, e⟩ := hi.form; injection e with _ e2 _; exact e2.symm
  have H : Hid (RB w (.slice a n c) s ∧ IN w B (.slice f m d) xs ∧ xs.length = n) := ⟨h, hi, by omega⟩
  have HN : Hid (n = s.length) := hlen.symm
  clear h hi hlen hlex
  subst hm
  obtain ⟨i0, hi0, hz0, hz1, hz2⟩ := info_parts info_box
  go_enter Try.func74, Try.ntmps74
  go_wp2_with (fail)
  go_loopw [7, 12] (fun v i wr => ∃ k : Nat, k ≤ m ∧ i = .int .i64 k ∧ Hid (SW w wr v (selB s (fun j => xs.getD j 0) p k))) (fun _ i _ => m - (intOf i).toNat)
  case atStart => exact ⟨0, Nat.zero_le _, rfl, BS.nil _ _, Below.refl _ _⟩
  case round =>
    obtain ⟨k, hk, rfl, hR⟩ := hrel
    by_cases hlt : k < m
    · have hkl : k < s.length := by rw [← HN.out]; exact hlt
      obtain ⟨g, o, c2, he, hg, hj⟩ := (H.out.1.below hR.out.bl).pos (by rw [← HN.out]; omega)
      simp only [Value.slice.injEq] at he
      obtain ⟨rfl, hx1, hx2⟩ := he
      clear hx1 hx2
      obtain ⟨c0, c1, c2, c3⟩ := hj k hkl
      obtain ⟨g2, o2, he, _, hg2, hj2⟩ := (H.out.2.1.below hR.out.bl).pos (by rw [H.out.2.2]; omega)
      simp only [Value.slice.injEq] at he
      obtain ⟨rfl, hx1, hx2⟩ := he
      clear hx1 hx2
      have x0 := hj2 k (by rw [H.out.2.2]; exact hlt)
      have hxb := hx.out k hlt
      obtain ⟨b, hb⟩ : ∃ b, b = bat s k := ⟨_, rfl⟩
      rw [← hb] at c0 c1 c2 c3
      obtain ⟨x, hxe⟩ : ∃ x, x = xs.getD k 0 := ⟨_, rfl⟩
      rw [← hxe] at x0 hxb
      have HS : Hid (selB s (fun j => xs.getD j 0) p (k + 1) = if x = p then selB s (fun j => xs.getD j 0) p k ++ [b] else selB s (fun j => xs.getD j 0) p k) := by
        unfold Hid; rw [hb, hxe]; rfl
      have hsl := selB_len s (fun j => xs.getD j 0) p k
      have HR : Hid _ := hR.out
      have hwsz := hR.out.bl.size
      clear hb hxe hj hj2 hR
      generalize selB s (fun j => xs.getD j 0) p k = out at HS HR hsl
      have b0 : (0 : Int) ≤ (k : Int) := by omega
      have b1 : (k : Int) < (m : Int) := by omega
      by_cases hxp : x = p
      · subst hxp
        have hof := HR.out.o.form
        obtain ⟨oa, oc, rfl⟩ := hof
        go_wp2_with (at_builtin; refine wpList_append_own _ rfl _ _ 24 rfl w.heap.size 49 i0 (.agg #[.int .i64 0, .int .i64 0, .int .i64 0, .int .i64 0]) 4 32 Try.underlying24 hi0 hz0 hz1 hz2 rfl (by decide) _ _ _ rfl (World.ownsRow.alloc (World.ownsRow.alloc HR.out.o _) _) ⟨wr.heap.size + 1, 0, none⟩ 1 1 (bcells b) rfl rfl (World.news_of_block (cs := #[.int .i64 b.x0, .int .i64 b.y0, .int .i64 b.x1, .int .i64 b.y1]) (t := 49) (fr := (0, 0)) (two_newP wr _ _).2) (by simp [bcells, Value.oneCell']) (by unfold maxLen; omega) (by omega) (by simp; omega) ?_; intro v5 w5 hown5 hgrow5 _)
        have R : Hid (SW w w5 v5 (selB s (fun j => xs.getD j 0) x (k + 1))) := by
          unfold Hid
          rw [HS.out, if_pos rfl]
          exact HR.out.push hown5 hgrow5
        clear hown5 hgrow5 HS HR
        go_wp2
        go_roundw
        case rel => exact ⟨k + 1, by omega, by go_num, R.out⟩
        case measure => simp [intOf]; omega
      · have R : Hid (∀ W, Below wr.heap.size wr W → SW w W u7 (selB s (fun j => xs.getD j 0) p (k + 1))) := by
          intro W hW
          rw [HS.out, if_neg hxp]
          exact ⟨HR.out.o.below hW, HR.out.bl.trans (hW.mono hwsz)⟩
        have n1 : ((x : Int) == (p : Int)) = false := by simp; omega
        clear HS HR
        go_wp2
        go_roundw
        case rel => exact ⟨k + 1, by omega, by go_num, R.out _ (by (repeat' (first | (with_reducible exact Below.refl _ _) | (with_reducible assumption) | (with_reducible refine Below.setCell ?_ ?_ _) | (with_reducible refine Below.alloc ?_ ?_ _) | (with_reducible refine below_drewN ?_ _) | (with_reducible refine Below.drew ?_) | (with_reducible exact Nat.le_refl _) | omega | (simp; done) | (simp; omega))))⟩
        case measure => simp [intOf]; omega
    · have ek : k = m := by omega
      subst ek
      have hof := hR.out.o.form
      obtain ⟨oa, oc, rfl⟩ := hof
      have HR : Hid _ := hR.out
      clear hR
      go_wp2
      go_returns
      exact ⟨_, rfl, HR.out⟩

end Go.Proofs.Ytokdpgabmifdjab

namespace Go.Proofs.Ytokdpgabmifdjab
open Go.RowKit Go.Sort
set_option linter.unusedVariables false
set_option linter.unusedSimpArgs false

theorem put_block (w : World) (m g : Nat) (F : Array Value) (os : Array Obj) (k : Nat) (hk : k < w.heap.size) : (grow (putRow id (Sort.ahead w m) g 0 F) os).heap[k]? = if g = k then (w.heap[k]?).map (onCells (putCells id 0 F)) else w.heap[k]? := by
  show (((w.heap.modify g (onCells (putCells id 0 F)))) ++ os)[k]? = _
  rw [Array.getElem?_append_left (by simpa using hk), Array.getElem?_modify]

theorem put_below (w : World) (m g B : Nat) (F : Array Value) (os : Array Obj) (hB : B ≤ g) (hg : g < w.heap.size) : Below B w (grow (putRow id (Sort.ahead w m) g 0 F) os) := by
  refine ⟨rfl, rfl, rfl, ?_, fun k hk => ?_⟩
  · show w.heap.size ≤ ((w.heap.modify g (onCells (putCells id 0 F))) ++ os).size
    simp
  · rw [put_block w m g F os k (by omega), if_neg (by omega)]

theorem put_owns {w : World} {B T k g n cap : Nat} {cs : List Value} (h : w.ownsRow B T k (.slice (some ⟨g, 0, none⟩) n cap) n cs) (cs' : List Value) (hl : cs'.length = n * k) (m : Nat) (os : Array Obj) :
    (grow (putRow id (Sort.ahead w m) g 0 cs'.toArray) os).ownsRow B T k (.slice (some ⟨g, 0, none⟩) n cap) n cs' := by
  have hlt := (World.ownsRow.lt h g rfl).2
  refine ⟨hl, Or.inr ?_⟩
  rcases h.2 with ⟨e, _⟩ | ⟨g', cap', cur, e, hB, hg, hn, hm, hs, ht⟩
  · cases e
  · simp only [Value.slice.injEq, Option.some.injEq, Addr.mk.injEq, and_true, true_and] at e
    obtain ⟨rfl, rfl⟩ := e
    refine ⟨g, cap, putCells id 0 cs'.toArray cur, rfl, hB, ?_, hn, hm, by simpa [putCells] using hs, ?_⟩
    · rw [put_block w m g _ os g hlt, if_pos rfl, hg]
      rfl
    · apply List.ext_getElem?
      intro t
      rw [List.getElem?_take]
      have hnk : n * k ≤ cap * k := Nat.mul_le_mul_right _ hn
      rcases Nat.lt_or_ge t (n * k) with h1 | h1
      · rw [if_pos h1, Array.getElem?_toList]
        unfold putCells
        rw [Array.getElem?_mapIdx]
        have hc : t < cur.size := by omega
        rw [Array.getElem?_eq_getElem hc]
        have h2 : t < cs'.length := by omega
        simp [h1, h2, hl, List.getElem?_eq_getElem h2]
      · rw [if_neg (by omega), List.getElem?_eq_none (by omega)]

theorem owns_holds {w : World} {B T k g n cap : Nat} {cs : List Value} (h : w.ownsRow B T k (.slice (some ⟨g, 0, none⟩) n cap) n cs) : Holds id w g 0 cs.toArray := by
  intro j hj
  have hj' : j < cs.length := by simpa using hj
  rw [Nat.zero_add]
  refine ⟨?_, World.ownsRow.frozenAt h j⟩
  rw [World.ownsRow.cellAt h j (by have := h.1; omega)]
  simp [hj']

end Go.Proofs.Ytokdpgabmifdjab
