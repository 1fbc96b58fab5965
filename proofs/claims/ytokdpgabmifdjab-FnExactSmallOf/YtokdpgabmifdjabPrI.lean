/- Proved here: lists of places (int) of the call's own; joinParts of the program: each of two labels becomes the lesser. -/
import Derived.Test.YtokdpgabmifdjabPrM
import Derived.Test.YtokdpgabmifdjabBoxBase
namespace Go.Proofs.Ytokdpgabmifdjab
open Go.RowKit
set_option linter.unusedVariables false
set_option linter.unusedSimpArgs false

theorem info_int : (Try.prog.info? 3).map (fun i => (i.zero, i.size, i.bytes)) = some (some (.int .i64 0), 1, 8) := by kernel_rfl
def nv (n : Nat) : Value := .int .i64 (n : Int)
/-- A list of places that a slice of the call's own holds. -/
def IN (w : World) (B : Nat) (v : Value) (xs : List Nat) : Prop := w.ownsRow B 3 1 v xs.length (xs.map nv)
theorem IN.form {w : World} {B : Nat} {v : Value} {xs : List Nat} (h : IN w B v xs) : ∃ a c, v = .slice a xs.length c := by
  rcases h.2 with ⟨rfl, h0⟩ | ⟨g, cap, cur, rfl, _⟩
  · exact ⟨none, 0, by rw [h0]⟩
  · exact ⟨_, _, rfl⟩
theorem IN.pos {w : World} {B : Nat} {v : Value} {xs : List Nat} (h : IN w B v xs) (hp : 0 < xs.length) :
    ∃ g cap, v = .slice (some ⟨g, 0, none⟩) xs.length cap ∧ B ≤ g ∧ g < w.heap.size ∧ ∀ j, j < xs.length → w.cell? ⟨g, j, none⟩ = some (.int .i64 (xs.getD j 0 : Nat)) := by
  rcases h.2 with ⟨_, h0⟩ | ⟨g, cap, cur, rfl, hB, hg, hn, hm, hs, ht⟩
  · omega
  · refine ⟨g, cap, rfl, hB, ?_, fun j hj => ?_⟩
    · rcases Nat.lt_or_ge g w.heap.size with h' | h'
      · exact h'
      · rw [Array.getElem?_eq_none h'] at hg; cases hg
    · have := World.ownsRow.cellAt (w := w) (g := g) (cap := cap) h j (by omega)
      rw [this]
      simp [List.getElem?_map, List.getElem?_eq_getElem hj, nv]
theorem IN.kept {w w' : World} {B : Nat} {v : Value} {xs : List Nat} (h : IN w B v xs) (hb : ∀ g, v.ownBlock = some g → w'.heap[g]? = w.heap[g]?) : IN w' B v xs := by
  refine ⟨h.1, ?_⟩
  rcases h.2 with h' | ⟨g, cap, cur, rfl, hB, hg, hr⟩
  · exact Or.inl h'
  · exact Or.inr ⟨g, cap, cur, rfl, hB, by rw [hb g rfl]; exact hg, hr⟩
theorem IN.below {w w' : World} {B : Nat} {v : Value} {xs : List Nat} (h : IN w B v xs) (hb : Below w.heap.size w w') : IN w' B v xs :=
  h.kept fun g hg => hb.block g (World.ownsRow.lt h g hg).2
theorem IN.set {w : World} {B g n c : Nat} {xs : List Nat} (h : IN w B (.slice (some ⟨g, 0, none⟩) n c) xs) {j : Nat} (hj : j < xs.length) (y : Nat) : IN (w.setCell ⟨g, j, none⟩ (.int .i64 (y : Int))) B (.slice (some ⟨g, 0, none⟩) n c) (xs.set j y) := by
  have hn : n = xs.length := by obtain ⟨_, _, e⟩ := h.form; injection e
  subst hn
  have := (World.ownsRow.stored h j (.int .i64 (y : Int))).1
  unfold IN
  rw [List.length_set, List.map_set]
  exact this

def jn (p q x : Nat) : Nat := if x = p ∨ x = q then (if p ≤ q then p else q) else x
/-- The first k have been looked at. -/
def mixJ (p q : Nat) (xs : List Nat) (k : Nat) : List Nat := (xs.take k).map (jn p q) ++ xs.drop k
theorem mixJ_len (p q : Nat) (xs : List Nat) (k : Nat) : (mixJ p q xs k).length = xs.length := by simp [mixJ]; omega
theorem mixJ_at (p q : Nat) (xs : List Nat) (k : Nat) (h : k < xs.length) : (mixJ p q xs k).getD k 0 = xs.getD k 0 := by
  unfold mixJ
  rw [List.getD_eq_getElem?_getD, List.getElem?_append_right (by simp; omega)]
  simp [show min k xs.length = k by omega, h]
theorem mixJ_step (p q : Nat) (xs : List Nat) (k : Nat) (h : k < xs.length) : (mixJ p q xs k).set k (jn p q (xs.getD k 0)) = mixJ p q xs (k + 1) := by
  unfold mixJ
  have e : xs.drop k = xs.getD k 0 :: xs.drop (k + 1) := by rw [List.drop_eq_getElem_cons h]; simp [h]
  rw [List.set_append_right _ _ (by simp; omega), e]
  have e2 : k - ((xs.take k).map (jn p q)).length = 0 := by simp; omega
  rw [e2, List.set_cons_zero, List.take_succ_eq_append_getElem h, List.map_append]
  simp [h]
theorem mixJ_end (p q : Nat) (xs : List Nat) (k : Nat) (h : xs.length ≤ k) : mixJ p q xs k = xs.map (jn p q) := by simp [mixJ, List.take_of_length_le h, List.drop_eq_nil_of_le h]
theorem mixJ_same (p q : Nat) (xs : List Nat) (k : Nat) (h : k < xs.length) (hx : ¬ (xs.getD k 0 = p ∨ xs.getD k 0 = q)) : mixJ p q xs (k + 1) = mixJ p q xs k := by
  rw [← mixJ_step p q xs k h]
  have : jn p q (xs.getD k 0) = xs.getD k 0 := by unfold jn; rw [if_neg hx]
  rw [this]
  apply List.ext_getElem?
  intro i
  by_cases hi : i = k
  · subst hi
    have := mixJ_at p q xs i h
    rw [List.getElem?_set_self (by rw [mixJ_len]; exact h), ← this]
    rw [List.getD_eq_getElem?_getD]
    rw [List.getElem?_eq_getElem (by rw [mixJ_len]; exact h)]
    rfl
  · rw [List.getElem?_set_ne (by omega)]

set_option maxHeartbeats 1600000 in
set_option maxRecDepth 10000 in
theorem impl_joinP (p q g n c B : Nat) (xs : List Nat) (w : World) (hn : n = xs.length) (hn1 : n ≤ 100000) (hp : p ≤ 100000) (hq : q ≤ 100000) (hx : Hid (∀ j, j < n → xs.getD j 0 ≤ 100000)) (h : Hid (IN w B (.slice (some ⟨g, 0, none⟩) n c) xs)) :
    Calls Try.prog 96 #[.slice (some ⟨g, 0, none⟩) n c, .int .i64 (p : Int), .int .i64 (q : Int)] w fun e w' => (∃ v, e = .returned v) ∧ IN w' B (.slice (some ⟨g, 0, none⟩) n c) (xs.map (jn p q)) ∧ Only g w w' := by
  have HN : Hid (n = xs.length) := hn
  clear hn
  by_cases hqp : (q : Int) < (p : Int)
  · have HM : Hid (∀ x, jn p q x = if x = p ∨ x = q then q else x) := fun x => by unfold jn; rw [if_neg (by omega : ¬ p ≤ q)]
    go_enter Try.func96, Try.ntmps96
    go_wp2
    go_loopw [14] (fun vi wr => ∃ k : Nat, k ≤ n ∧ vi = .int .i64 (k : Int) ∧ Hid (IN wr B (.slice (some ⟨g, 0, none⟩) n c) (mixJ p q xs k) ∧ Only g w wr)) (fun vi _ => n - (intOf vi).toNat)
    case atStart => exact ⟨0, Nat.zero_le _, rfl, by simpa [mixJ] using h.out, Only.refl _ _⟩
    case round =>
      obtain ⟨k, hk, rfl, hR⟩ := hrel
      by_cases hlt : k < n
      · have hkl : k < xs.length := by rw [← HN.out]; exact hlt
        obtain ⟨g', c', he, hB, hgl, hj⟩ := hR.out.1.pos (by rw [mixJ_len]; omega)
        simp only [Value.slice.injEq, Option.some.injEq, Addr.mk.injEq, and_true] at he
        obtain ⟨rfl, _, _⟩ := he
        have c0 := hj k (by rw [mixJ_len]; exact hkl)
        rw [mixJ_at p q xs k hkl] at c0
        have hxk := hx.out k hlt
        obtain ⟨y, hy⟩ : ∃ y, y = xs.getD k 0 := ⟨_, rfl⟩
        rw [← hy] at c0 hxk
        have f0 : wr.frozen? ⟨g, k, none⟩ = false := by
          have h2 : wr.ownsRow B 3 1 (.slice (some ⟨g, 0, none⟩) (mixJ p q xs k).length c) (mixJ p q xs k).length ((mixJ p q xs k).map nv) := by
            have := hR.out.1
            unfold IN at this
            rwa [show n = (mixJ p q xs k).length by rw [mixJ_len]; exact HN.out] at this
          exact World.ownsRow.frozenAt h2 k
        have b0 : (0 : Int) ≤ (k : Int) := by omega
        have b1 : (k : Int) < (n : Int) := by omega
        by_cases hyp : y = p ∨ y = q
        · have HS : Hid (IN (wr.setCell ⟨g, k, none⟩ (.int .i64 (q : Int))) B (.slice (some ⟨g, 0, none⟩) n c) (mixJ p q xs (k + 1)) ∧ Only g w (wr.setCell ⟨g, k, none⟩ (.int .i64 (q : Int)))) := by
            refine ⟨?_, hR.out.2.set _ _⟩
            rw [← mixJ_step p q xs k hkl, ← hy, HM.out, if_pos hyp]
            exact hR.out.1.set (by rw [mixJ_len]; exact hkl) q
          clear hj hR hy
          by_cases hyp1 : y = p
          · subst hyp1
            go_wp2
            go_roundw
            case rel => exact ⟨k + 1, by omega, by go_num, HS.out⟩
            case measure => simp [intOf]; omega
          · have hyq : y = q := by omega
            subst hyq
            have n1 : ((y : Int) == (p : Int)) = false := by simp; omega
            go_wp2
            go_roundw
            case rel => exact ⟨k + 1, by omega, by go_num, HS.out⟩
            case measure => simp [intOf]; omega
        · have HS : Hid (IN wr B (.slice (some ⟨g, 0, none⟩) n c) (mixJ p q xs (k + 1)) ∧ Only g w wr) := by
            unfold Hid
            rw [mixJ_same p q xs k hkl (by rw [← hy]; exact hyp)]
            exact hR.out
          have n1 : ((y : Int) == (p : Int)) = false := by simp; omega
          have n2 : ((y : Int) == (q : Int)) = false := by simp; omega
          clear hj hR hy hyp
          go_wp2
          go_roundw
          case rel => exact ⟨k + 1, by omega, by go_num, HS.out⟩
          case measure => simp [intOf]; omega
      · have HS : Hid (IN wr B (.slice (some ⟨g, 0, none⟩) n c) (xs.map (jn p q)) ∧ Only g w wr) := by
          have := hR.out
          rwa [mixJ_end p q xs k (by rw [← HN.out]; omega)] at this
        clear hR
        go_wp2
        go_returns
        exact ⟨⟨_, rfl⟩, HS.out.1, HS.out.2⟩
  · have HM : Hid (∀ x, jn p q x = if x = p ∨ x = q then p else x) := fun x => by unfold jn; rw [if_pos (by omega : p ≤ q)]
    go_enter Try.func96, Try.ntmps96
    go_wp2
    go_loopw [14] (fun vi wr => ∃ k : Nat, k ≤ n ∧ vi = .int .i64 (k : Int) ∧ Hid (IN wr B (.slice (some ⟨g, 0, none⟩) n c) (mixJ p q xs k) ∧ Only g w wr)) (fun vi _ => n - (intOf vi).toNat)
    case atStart => exact ⟨0, Nat.zero_le _, rfl, by simpa [mixJ] using h.out, Only.refl _ _⟩
    case round =>
      obtain ⟨k, hk, rfl, hR⟩ := hrel
      by_cases hlt : k < n
      · have hkl : k < xs.length := by rw [← HN.out]; exact hlt
        obtain ⟨g', c', he, hB, hgl, hj⟩ := hR.out.1.pos (by rw [mixJ_len]; omega)
        simp only [Value.slice.injEq, Option.some.injEq, Addr.mk.injEq, and_true] at he
        obtain ⟨rfl, _, _⟩ := he
        have c0 := hj k (by rw [mixJ_len]; exact hkl)
        rw [mixJ_at p q xs k hkl] at c0
        have hxk := hx.out k hlt
        obtain ⟨y, hy⟩ : ∃ y, y = xs.getD k 0 := ⟨_, rfl⟩
        rw [← hy] at c0 hxk
        have f0 : wr.frozen? ⟨g, k, none⟩ = false := by
          have h2 : wr.ownsRow B 3 1 (.slice (some ⟨g, 0, none⟩) (mixJ p q xs k).length c) (mixJ p q xs k).length ((mixJ p q xs k).map nv) := by
            have := hR.out.1
            unfold IN at this
            rwa [show n = (mixJ p q xs k).length by rw [mixJ_len]; exact HN.out] at this
          exact World.ownsRow.frozenAt h2 k
        have b0 : (0 : Int) ≤ (k : Int) := by omega
        have b1 : (k : Int) < (n : Int) := by omega
        by_cases hyp : y = p ∨ y = q
        · have HS : Hid (IN (wr.setCell ⟨g, k, none⟩ (.int .i64 (p : Int))) B (.slice (some ⟨g, 0, none⟩) n c) (mixJ p q xs (k + 1)) ∧ Only g w (wr.setCell ⟨g, k, none⟩ (.int .i64 (p : Int)))) := by
            refine ⟨?_, hR.out.2.set _ _⟩
            rw [← mixJ_step p q xs k hkl, ← hy, HM.out, if_pos hyp]
            exact hR.out.1.set (by rw [mixJ_len]; exact hkl) p
          clear hj hR hy
          by_cases hyp1 : y = p
          · subst hyp1
            go_wp2
            go_roundw
            case rel => exact ⟨k + 1, by omega, by go_num, HS.out⟩
            case measure => simp [intOf]; omega
          · have hyq : y = q := by omega
            subst hyq
            have n1 : ((y : Int) == (p : Int)) = false := by simp; omega
            go_wp2
            go_roundw
            case rel => exact ⟨k + 1, by omega, by go_num, HS.out⟩
            case measure => simp [intOf]; omega
        · have HS : Hid (IN wr B (.slice (some ⟨g, 0, none⟩) n c) (mixJ p q xs (k + 1)) ∧ Only g w wr) := by
            unfold Hid
            rw [mixJ_same p q xs k hkl (by rw [← hy]; exact hyp)]
            exact hR.out
          have n1 : ((y : Int) == (p : Int)) = false := by simp; omega
          have n2 : ((y : Int) == (q : Int)) = false := by simp; omega
          clear hj hR hy hyp
          go_wp2
          go_roundw
          case rel => exact ⟨k + 1, by omega, by go_num, HS.out⟩
          case measure => simp [intOf]; omega
      · have HS : Hid (IN wr B (.slice (some ⟨g, 0, none⟩) n c) (xs.map (jn p q)) ∧ Only g w wr) := by
          have := hR.out
          rwa [mixJ_end p q xs k (by rw [← HN.out]; omega)] at this
        clear hR
        go_wp2
        go_returns
        exact ⟨⟨_, rfl⟩, HS.out.1, HS.out.2⟩

end Go.Proofs.Ytokdpgabmifdjab
