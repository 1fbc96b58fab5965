/- Proved here: images over residues add up over the shifts; a shift by the whole period is none (arithmetic); parts of a list that can be read; a variable that holds a code and a list. -/
import Derived.Test.YtcplddblfhbejaaMiT
import Derived.Test.YtcplddblfhbejaaDrJ
import Derived.Test.YtcplddblfhbejaaLwN
namespace Go.Proofs.Ytcplddblfhbejaa
open Go.RowKit
set_option linter.unusedVariables false
set_option linter.unusedSimpArgs false

theorem imK_take (m b ss : List Int) (r n x : Int) (k : Nat) : ∀ i, i ≤ k → imK m b (ss.take k) r n x i = imK m b ss r n x i
  | 0, _ => rfl
  | i + 1, h => by
    have e : (ss.take k).getD i 0 = ss.getD i 0 := by
      simp [List.getElem?_take, show i < k by omega]
    unfold imK
    rw [imK_take m b ss r n x k i (by omega), e]
theorem imK_drop (m b ss : List Int) (r n x : Int) (k : Nat) : ∀ j, (imK m b ss r n x k + imK m b (ss.drop k) r n x j) % 998244353 = imK m b ss r n x (k + j)
  | 0 => by
    have h := imK_bd m b ss r n x k
    show (imK m b ss r n x k + 0) % 998244353 = imK m b ss r n x k
    omega
  | j + 1 => by
    have e : (ss.drop k).getD j 0 = ss.getD (k + j) 0 := by simp [List.getElem?_drop]
    have ih := imK_drop m b ss r n x k j
    rw [show k + (j + 1) = (k + j) + 1 by omega]
    show (imK m b ss r n x k + (imK m b (ss.drop k) r n x j + rsK m r n ((ss.drop k).getD j 0) x n.toNat * rsK b r n ((ss.drop k).getD j 0) (-x) n.toNat) % 998244353) % 998244353 = (imK m b ss r n x (k + j) + rsK m r n (ss.getD (k + j) 0) x n.toNat * rsK b r n (ss.getD (k + j) 0) (-x) n.toNat) % 998244353
    rw [e, ← ih]
    generalize rsK m r n (ss.getD (k + j) 0) x n.toNat * rsK b r n (ss.getD (k + j) 0) (-x) n.toNat = T
    generalize imK m b ss r n x k = A
    generalize imK m b (ss.drop k) r n x j = D
    omega
/-- At x the two parts give the whole. -/
theorem miK_add (m b ss : List Int) (k x : Nat) (hk : k ≤ ss.length) (hx : x < m.length) :
    ((miK m b (ss.take k)).getD x 0 + (miK m b (ss.drop k)).getD x 0) % 998244353 = (miK m b ss).getD x 0 := by
  have e1 : (ss.take k).length = k := by simp; omega
  have e2 : (ss.drop k).length = ss.length - k := by simp
  have g : ∀ t : List Int, (miK m b t).getD x 0 = imK m b t (rtK m.length) m.length (x : Int) t.length := fun t => by
    simp [miK, List.getElem?_map, List.getElem?_range hx]
  rw [g, g, g, e1, e2, imK_take _ _ _ _ _ _ _ _ (Nat.le_refl _), imK_drop, show k + (ss.length - k) = ss.length by omega]
theorem miK_bd (m b ss : List Int) (x : Nat) (hx : x < m.length) : 0 ≤ (miK m b ss).getD x 0 ∧ (miK m b ss).getD x 0 < 998244353 := by
  have g : (miK m b ss).getD x 0 = imK m b ss (rtK m.length) m.length (x : Int) ss.length := by
    simp [miK, List.getElem?_map, List.getElem?_range hx]
  rw [g]; exact imK_bd _ _ _ _ _ _ _
theorem miK_len (m b ss : List Int) : (miK m b ss).length = m.length := by simp [miK]
theorem rsK_round (l : List Int) (r n sh t : Int) : ∀ k, rsK l r n (sh + n) t k = rsK l r n sh t k
  | 0 => rfl
  | k + 1 => by
    have e : exK n (sh + n) t k = exK n sh t k := by unfold exK; rw [Int.add_emod_right]
    unfold rsK
    rw [rsK_round l r n sh t k, e]
/-- A shift by the whole period is none. -/
theorem miK_round (m b : List Int) (k : Int) : miK m b [k + (m.length : Int)] = miK m b [k] := by
  unfold miK
  apply List.map_congr_left
  intro x _
  show imK m b [k + (m.length : Int)] _ _ _ 1 = imK m b [k] _ _ _ 1
  show (0 + rsK m _ _ (k + (m.length : Int)) _ _ * rsK b _ _ (k + (m.length : Int)) _ _) % 998244353 = (0 + rsK m _ _ k _ _ * rsK b _ _ k _ _) % 998244353
  rw [rsK_round, rsK_round]

theorem IS.pre {w : World} {B g n c : Nat} {s : List Int} (h : IS w B (.slice (some ⟨g, 0, none⟩) n c) s) (k c' : Nat) (hk : k ≤ s.length) : RdI w (.slice (some ⟨g, 0, none⟩) k c') (s.take k) := by
  have e : (s.take k).length = k := by simp; omega
  refine ⟨_, c', by rw [e], fun hn => ?_⟩
  have hk0 : 0 < k := by
    rcases Nat.eq_zero_or_pos k with h0 | h0
    · subst h0; simp at hn
    · exact h0
  obtain ⟨g', o, c2, he, hg, hx⟩ := h.rg.ri (by omega)
  injection he with he1 he2 he3
  injection he1 with he1
  injection he1 with q1 q2 q3
  subst q1; subst q2
  refine ⟨g, 0, rfl, hg, fun j hj i hi => ?_⟩
  obtain rfl : i = 0 := by omega
  have := hx j (by omega)
  simp only [Nat.mul_one, Nat.add_zero]
  rw [this]
  have hjs : j < s.length := by omega
  simp [inC, List.getElem?_eq_getElem hjs]
theorem IS.post {w : World} {B g n c : Nat} {s : List Int} (h : IS w B (.slice (some ⟨g, 0, none⟩) n c) s) (k c' : Nat) (hk : k ≤ s.length) : RdI w (.slice (some ⟨g, k, none⟩) (s.length - k) c') (s.drop k) := by
  have e : (s.drop k).length = s.length - k := by simp
  refine ⟨_, c', by rw [e], fun hn => ?_⟩
  have hk0 : k < s.length := by
    rcases Nat.lt_or_ge k s.length with h0 | h0
    · exact h0
    · exact absurd (List.drop_eq_nil_of_le h0) hn
  obtain ⟨g', o, c2, he, hg, hx⟩ := h.rg.ri (by omega)
  injection he with he1 he2 he3
  injection he1 with he1
  injection he1 with q1 q2 q3
  subst q1; subst q2
  refine ⟨g, k, rfl, hg, fun j hj i hi => ?_⟩
  obtain rfl : i = 0 := by omega
  have := hx (k + j) (by omega)
  simp only [Nat.mul_one, Nat.add_zero, Nat.zero_add] at this ⊢
  rw [this]
  have hjs : k + j < s.length := by omega
  simp [inC, List.getElem?_eq_getElem hjs]
theorem rd_one {w : World} {g c : Nat} {x : Int} {T : TypeId} (h : w.heap[g]? = some (.cells #[.int .i64 x] T)) : RdI w (.slice (some ⟨g, 0, none⟩) 1 c) [x] := by
  refine ⟨_, c, rfl, fun _ => ⟨g, 0, rfl, lt_of_blk h, fun j hj i hi => ?_⟩⟩
  obtain rfl : i = 0 := by omega
  have hj' : j < 1 := hj
  obtain rfl : j = 0 := by omega
  simp [World.cell?, h, inC]
theorem IS.caps {w : World} {B g n c : Nat} {s : List Int} (h : IS w B (.slice (some ⟨g, 0, none⟩) n c) s) : s.length ≤ c := by
  rcases h.2 with ⟨h1, _⟩ | ⟨g', cap, cur, h1, h2, h3, h4, h5⟩
  · cases h1
  · injection h1 with _ _ h1
    subst h1
    omega

theorem IS.cat {w : World} {B g n c : Nat} {s : List Int} (h : IS w B (.slice (some ⟨g, 0, none⟩) n c) s) {j : Nat} (hj : j < s.length) : w.cell? ⟨g, j, none⟩ = some (.int .i64 (s.getD j 0)) := by
  obtain ⟨g', o, c2, he, hg, hx⟩ := h.rg.ri (by omega)
  injection he with he1 he2 he3
  injection he1 with he1
  injection he1 with q1 q2 q3
  subst q1; subst q2
  have := hx j hj
  rw [Nat.zero_add] at this
  exact this

/-- A variable that holds an answer, and its list. -/
structure VarI (V : World) (K : Nat) (C : Int) (v : Value) (B : Nat) (xs : List Int) : Prop where
  blk : V.heap[K]? = some (.cells #[.int .i64 C, v] 28)
  lst : IS V B v xs
theorem VarI.next {V V' : World} {K : Nat} {C : Int} {v : Value} {B : Nat} {xs : List Int} (h : VarI V K C v B xs) (hb : Below V.heap.size V V') : VarI V' K C v B xs :=
  ⟨(hb.block _ (lt_of_blk h.blk)).trans h.blk, h.lst.bel hb⟩
theorem VarI.cells {V : World} {K : Nat} {C : Int} {v : Value} {B : Nat} {xs : List Int} (h : VarI V K C v B xs) :
    V.cell? ⟨K, 0, none⟩ = some (.int .i64 C) ∧ V.cell? ⟨K, 1, none⟩ = some v := by
  simp [World.cell?, h.blk]
theorem below_allocI (w : World) (o : Obj) : Below w.heap.size w (w.alloc o) := (Below.refl _ _).alloc (Nat.le_refl _) _
theorem VarI.new {w : World} {C : Int} {v : Value} {B : Nat} {xs : List Int} (h : IS w B v xs) : VarI (w.alloc (.cells #[.int .i64 C, v] 28)) w.heap.size C v B xs :=
  ⟨heap_alloc_new _ _, h.bel (below_allocI _ _)⟩

end Go.Proofs.Ytcplddblfhbejaa
